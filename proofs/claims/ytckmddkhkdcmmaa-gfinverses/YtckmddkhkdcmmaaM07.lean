/-
  A rule for a region that draws its order, whose operations turn nothing that was there: each operation is shown ONCE, whatever came ahead of it: what it leaves is told by a property of its value that lasts while memory grows.
  The kinds of operations, over a frame of which only some slots are known.
  A rule for a region that draws its order, some of whose operations (the calls of 'calls') wait for each other and lead from one state to the next, while all others leave the state alone: each operation is shown ONCE, whatever came ahead of it.
-/
import Derived.Test.YtckmddkhkdcmmaaM01
import Derived.Orders
import Derived.KernelRfl
import Derived.Test.YtckmddkhkdcmmaaM04
namespace Go.Proofs.Ytckmddkhkdcmmaa
set_option linter.unusedVariables false
set_option linter.unusedSimpArgs false
open Go.RowKit
set_option linter.unusedVariables false

section
variable {P : Program} {ops : Array Oper} {Q : Exit → Act → World → Prop}

/-- How many are not listed yet. -/
def lefts (listed : Array Bool) : Nat := listed.toList.count false

theorem lefts_set (listed : Array Bool) (i : Nat) (h : listed.getD i true = false) : lefts (listed.setIfInBounds i true) + 1 = lefts listed := by
  rcases listed with ⟨l⟩
  have hi : i < l.length := by
    rcases Nat.lt_or_ge i l.length with h' | h'
    · exact h'
    · simp [List.getElem?_eq_none h'] at h
  have hv : l[i] = false := by simpa [List.getElem?_eq_getElem hi] using h
  unfold lefts
  rw [List.setIfInBounds_toArray]
  simp only
  have h1 := List.count_set (l := l) (i := i) (a := true) (b := false) hi
  rw [h1, hv]
  simp
  have : 0 < l.count false := List.count_pos_iff.2 (by rw [← hv]; exact List.getElem_mem hi)
  omega

theorem ready_none {md : Region.Mode} {listed : Array Bool} (h : lefts listed = 0) : Region.ready md ops listed = [] := by
  rw [List.eq_nil_iff_forall_not_mem]
  intro i hi
  have h1 := (mem_ready.1 hi).1
  have := lefts_set listed i h1
  omega

theorem wpAny_inv {md : Region.Mode} (I : Array Bool → Act → World → Prop)
    (hstep : ∀ listed a w i, I listed a w → i ∈ Region.ready md ops listed → wpOp P ops Q i (I (listed.setIfInBounds i true)) a w)
    (hdone : ∀ listed a w, I listed a w → Region.ready md ops listed = [] → Q .normal a w) :
    ∀ fuel listed a w, lefts listed ≤ fuel → I listed a w → wpAny P md ops Q fuel listed a w := by
  intro fuel
  induction fuel with
  | zero =>
    intro listed a w hf hI
    have hr := ready_none (ops := ops) (md := md) (show lefts listed = 0 by omega)
    exact ⟨hr, hdone _ _ _ hI hr⟩
  | succ fuel ih =>
    intro listed a w hf hI
    refine ⟨fun hr => hdone _ _ _ hI hr, fun i hi => ?_⟩
    refine wpOp_mono (fun a' w' h' => ?_) (hstep listed a w i hI hi)
    have := lefts_set listed i (mem_ready.1 hi).1
    exact ih _ _ _ (by omega) h'

/-- Edges lead back. -/
def backB (l : List Oper) : Nat → Bool
  | k => match l with
    | [] => true
    | o :: l => (o.after.all fun e => !Region.binds .any e || decide (e.on < k)) && backB l (k + 1)

theorem backB_get {l : List Oper} {k : Nat} (h : backB l k = true) {i : Nat} {o : Oper} (ho : l[i]? = some o) : ∀ e ∈ o.after, Region.binds .any e = true → e.on < k + i := by
  induction l generalizing k i with
  | nil => simp at ho
  | cons x l ih =>
    simp only [backB, Bool.and_eq_true] at h
    cases i with
    | zero =>
      simp at ho
      subst ho
      intro e he hb
      have := (Array.all_eq_true_iff_forall_mem.1 h.1) e he
      simp [hb] at this
      omega
    | succ i =>
      simp at ho
      intro e he hb
      have := ih h.2 ho e he hb
      omega

/-- Where nothing is ready all are listed. -/
theorem all_listed {l : List Oper} (hB : backB l 0 = true) {listed : Array Bool} (hs : listed.size = l.length) (hr : Region.ready .any l.toArray listed = []) : ∀ i, i < l.length → listed.getD i false = true := by
  intro i
  induction i using Nat.strongRecOn with
  | ind i ih =>
    intro hi
    cases hv : listed.getD i false with
    | true => rfl
    | false =>
      exfalso
      have hmem : i ∈ Region.ready .any l.toArray listed := by
        rw [mem_ready]
        refine ⟨?_, l[i], by simp [hi], fun e he hb => ?_⟩
        · have hlt : i < listed.size := by omega
          simp [hlt] at hv ⊢
          exact hv
        · have := backB_get hB (show l[i]? = some l[i] by simp [hi]) e he hb
          exact ih e.on (by omega) (by omega)
      rw [hr] at hmem
      simp at hmem

/-- No two write one slot. -/
def dsts (l : List Oper) : List Nat := l.filterMap (·.dst)

/-- The frame ahead of the region, where it is not written. -/
structure Base (l : List Oper) (a a' : Act) : Prop where
  size : a'.tmps.size = a.tmps.size
  defers : a'.defers = a.defers
  old : ∀ s, s ∉ dsts l → a'.tmps.getD s undef = a.tmps.getD s undef

/-- What is known of the operations that an operation waits for. -/
def Held (l : List Oper) (T : Nat → Value → World → Prop) (a : Act) (w : World) (j : Nat) : Prop := ∀ d, (l[j]?).bind (·.dst) = some d → T j (a.tmps.getD d undef) w

def depB (o : Oper) (j : Nat) : Bool := o.after.any fun e => Region.binds .any e && e.on == j

/-- An operation, shown once. -/
def Step (P : Program) (Q : Exit → Act → World → Prop) (l : List Oper) (T : Nat → Value → World → Prop) (a : Act) (w : World) (i : Nat) (o : Oper) : Prop :=
  ∀ a' w', Base l a a' → Fr (fun _ => False) w w' → (∀ j, depB o j = true → Held l T a' w' j) →
    Region.wanted o (yielded l.toArray a'.tmps) = true ∧ o.wp P a' w' (fun a'' w'' => ∃ v, a'' = a'.put o.dst v ∧ T i v w'' ∧ Fr (fun _ => False) w' w'') Q

def Steps (P : Program) (Q : Exit → Act → World → Prop) (l : List Oper) (T : Nat → Value → World → Prop) (a : Act) (w : World) : Nat → List Oper → Prop
  | _, [] => True
  | i, o :: r => Step P Q l T a w i o ∧ Steps P Q l T a w (i + 1) r

theorem Steps.get {l : List Oper} {T : Nat → Value → World → Prop} {a : Act} {w : World} {k : Nat} {r : List Oper} (h : Steps P Q l T a w k r) {i : Nat} {o : Oper} (ho : r[i]? = some o) : Step P Q l T a w (k + i) o := by
  induction r generalizing k i with
  | nil => simp at ho
  | cons x r ih =>
    cases i with
    | zero => simp at ho; subst ho; exact h.1
    | succ i =>
      simp at ho
      have := ih h.2 ho
      rwa [show k + 1 + i = k + (i + 1) by omega] at this

theorem mem_dsts {l : List Oper} {i : Nat} {o : Oper} {d : Nat} (ho : l[i]? = some o) (hd : o.dst = some d) : d ∈ dsts l :=
  List.mem_filterMap.2 ⟨o, List.mem_of_getElem? ho, hd⟩

theorem dsts_inj {l : List Oper} (nd : (dsts l).Nodup) {i j : Nat} {oi oj : Oper} {d : Nat} (hi : l[i]? = some oi) (hj : l[j]? = some oj) (di : oi.dst = some d) (dj : oj.dst = some d) : i = j := by
  induction l generalizing i j with
  | nil => simp at hi
  | cons x l ih =>
    have key : ∀ {y : Oper} {m : Nat}, x.dst = some d → l[m]? = some y → y.dst = some d → False := by
      intro y m hx hy hyd
      have : dsts (x :: l) = d :: dsts l := by simp [dsts, hx]
      rw [this, List.nodup_cons] at nd
      exact nd.1 (mem_dsts hy hyd)
    have nd' : (dsts l).Nodup := by
      unfold dsts at nd ⊢
      rw [List.filterMap_cons] at nd
      split at nd
      · exact nd
      · exact (List.nodup_cons.1 nd).2
    cases i with
    | zero =>
      simp at hi; subst hi
      cases j with
      | zero => rfl
      | succ j => simp at hj; exact (key di hj dj).elim
    | succ i =>
      simp at hi
      cases j with
      | zero => simp at hj; subst hj; exact (key dj hi di).elim
      | succ j => simp at hj; rw [ih nd' hi hj]

theorem put_getD {a : Act} {d s : Nat} {v : Value} (h : d ≠ s) : (a.put (some d) v).tmps.getD s undef = a.tmps.getD s undef := by
  simp [Act.put, Array.getElem?_setIfInBounds_ne h]
theorem put_self {a : Act} {d : Nat} {v : Value} (h : d < a.tmps.size) : (a.put (some d) v).tmps.getD d undef = v := by
  simp [Act.put, h]

/-- THE RULE. -/
theorem wp_region_free {id : Nat} {l : List Oper} {a : Act} {w : World} (hm : P.follows .mixedOrders = true) (hB : backB l 0 = true) (nd : (dsts l).Nodup) (hd : ∀ d ∈ dsts l, d < a.tmps.size)
    (T : Nat → Value → World → Prop) (mono : ∀ i v w1 w2, T i v w1 → Fr (fun _ => False) w1 w2 → T i v w2)
    (steps : Steps P Q l T a w 0 l)
    (done : ∀ a' w', Base l a a' → Fr (fun _ => False) w w' → (∀ j, j < l.length → Held l T a' w' j) → Q .normal a' w') : (Code.region id l.toArray true).wp P Q a w := by
  refine wp_region_any hm ?_
  have hsz : l.toArray.size = l.length := by simp
  rw [hsz]
  let I : Array Bool → Act → World → Prop := fun listed a' w' => listed.size = l.length ∧ Base l a a' ∧ Fr (fun _ => False) w w' ∧ ∀ j, listed.getD j false = true → Held l T a' w' j
  refine wpAny_inv I ?_ ?_ _ _ _ _ ?_ ?_
  · intro listed a' w' i ⟨h1, h2, h3, h4⟩ hi
    obtain ⟨h5, o, ho, h6⟩ := mem_ready.1 hi
    have ho' : l[i]? = some o := by simpa using ho
    have hil : i < l.length := (List.getElem?_eq_some_iff.1 ho').1
    have hst := steps.get ho'
    rw [Nat.zero_add] at hst
    obtain ⟨hw, hwp⟩ := hst a' w' h2 h3 (fun j hj => by
      unfold depB at hj
      rw [← Array.any_toList, List.any_eq_true] at hj
      obtain ⟨e, he', hb⟩ := hj
      have he : e ∈ o.after := by simpa using he'
      simp only [Bool.and_eq_true, beq_iff_eq] at hb
      rw [← hb.2]
      exact h4 _ (h6 e he hb.1))
    unfold wpOp
    simp only [ho, hw, if_true]
    refine .inl (Oper.wp_mono ?_ hwp)
    rintro a'' w'' ⟨v, rfl, hT, hf⟩
    refine ⟨by simp [h1], ⟨?_, ?_, fun s hs => ?_⟩, h3.trans hf (fun _ _ h => h), fun j hj d hdj => ?_⟩
    · cases hdst : o.dst with
      | none => exact h2.size
      | some d => simp [Act.put, h2.size]
    · cases hdst : o.dst with
      | none => exact h2.defers
      | some d => exact h2.defers
    · cases hdst : o.dst with
      | none => exact h2.old s hs
      | some d =>
        rw [put_getD (fun e => hs (by rw [← e]; exact mem_dsts ho' hdst))]
        exact h2.old s hs
    · obtain ⟨oj, hoj, hdj'⟩ : ∃ oj, l[j]? = some oj ∧ oj.dst = some d := by
        cases hc : l[j]? with
        | none => rw [hc] at hdj; simp at hdj
        | some oj => rw [hc] at hdj; exact ⟨oj, rfl, by simpa using hdj⟩
      by_cases e : i = j
      · subst e
        rw [ho'] at hoj
        simp at hoj
        subst hoj
        rw [hdj', put_self (by rw [h2.size]; exact hd d (mem_dsts ho' hdj'))]
        exact hT
      · rw [getD_set_ne false e] at hj
        have hold := mono _ _ _ _ (h4 j hj d hdj) hf
        cases hdst : o.dst with
        | none => exact hold
        | some d' =>
          rw [put_getD (fun e2 => e (dsts_inj nd ho' hoj (by rw [hdst, e2]) hdj'))]
          exact hold
  · intro listed a' w' ⟨h1, h2, h3, h4⟩ hr
    exact done a' w' h2 h3 (fun j hj => h4 j (all_listed hB h1 hr j hj))
  · simp [lefts]
  · refine ⟨by simp, ⟨rfl, rfl, fun _ _ => rfl⟩, (Fr.refl _ w).drew, fun j hj => ?_⟩
    simp only [Array.getD_eq_getD_getElem?, Array.getElem?_replicate] at hj
    split at hj <;> simp at hj
end

end Go.Proofs.Ytckmddkhkdcmmaa

namespace Go.Proofs.Ytckmddkhkdcmmaa
set_option linter.unusedVariables false
set_option linter.unusedSimpArgs false
open Go.RowKit
set_option linter.unusedVariables false

/-- What an operation leaves: this value, or a slice that reads so. -/
inductive Kd where
  | eq (u : Value)
  | sl (n : Nat) (l : List UInt8)

def Kd.holds : Kd → Value → World → Prop
  | .eq u, v, _ => v = u
  | .sl n l, v, w => ∃ ao cap, v = .slice ao n cap ∧ Rd w (.slice ao n cap) l

theorem Kd.mono (k : Kd) {v : Value} {w1 w2 : World} (h : k.holds v w1) (f : Fr (fun _ => False) w1 w2) : k.holds v w2 := by
  cases k with
  | eq u => exact h
  | sl n l =>
    obtain ⟨ao, cap, rfl, R⟩ := h
    exact ⟨ao, cap, rfl, R.kept f (fun _ _ h => h)⟩

def Tk (ks : List Kd) (i : Nat) (v : Value) (w : World) : Prop := match ks[i]? with
  | some k => k.holds v w
  | none => True

theorem Tk.mono (ks : List Kd) (i : Nat) (v : Value) (w1 w2 : World) (h : Tk ks i v w1) (f : Fr (fun _ => False) w1 w2) : Tk ks i v w2 := by
  unfold Tk at *
  split
  · rename_i k hk; rw [hk] at h; exact k.mono h f
  · trivial

section
variable {P : Program} {o : Oper} {a : Act} {w : World} {Q : Exit → Act → World → Prop}

theorem ex_val {i : Nat} {T : Nat → Value → World → Prop} (v : Value) (h : (execOp a.eval o).run P w = .ok (.value v) w) (hT : T i v w) : o.wp P a w (fun a'' w'' => ∃ v, a'' = a.put o.dst v ∧ T i v w'' ∧ Fr (fun _ => False) w w'') Q := by
  unfold Oper.wp
  rw [h, Oper.upon_value]
  exact ⟨v, rfl, hT, Fr.refl _ _⟩

theorem ex_move {ρ : Operand → Value} {x : Operand} {v : Value} (ho : o.op = .move x) (hx : ρ x = v) : (execOp ρ o).run P w = .ok (.value v) w := by
  subst hx; simp [execOp, ho]
theorem ex_assign {ρ : Operand → Value} {x : Operand} {v : Value} (ho : o.op = .assign x) (hx : ρ x = v) : (execOp ρ o).run P w = .ok (.value v) w := by
  subst hx; simp [execOp, ho]
theorem ex_pick {ρ : Operand → Value} {c x y : Operand} {v : Value} (ho : o.op = .pick c x y) (hc : ρ c = .bool true) (hx : ρ x = v) : (execOp ρ o).run P w = .ok (.value v) w := by
  subst hx; simp [execOp, ho, hc, go_sem]
theorem ex_conv {ρ : Operand → Value} {s t : TypeId} {x : Operand} {v u : Value} (ho : o.op = .convert s t x) (hx : ρ x = v) (hc : (convert s t v).run P w = .ok u w) : (execOp ρ o).run P w = .ok (.value u) w := by
  subst hx; simp [execOp, ho, hc]
theorem wanted_of {l : List Oper} {j d : Nat} (hg : o.guard = some (j, true)) (hd : (l[j]?).bind (·.dst) = some d) (hlt : d < a.tmps.size) (hv : a.tmps.getD d undef = .bool true) : Region.wanted o (yielded l.toArray a.tmps) = true := by
  have h1 : a.tmps[d]? = some (.bool true) := by
    rw [Array.getD_eq_getD_getElem?, Array.getElem?_eq_getElem hlt] at hv
    rw [Array.getElem?_eq_getElem hlt]
    simpa using hv
  simp [Region.wanted, hg, yielded, hd, h1]
theorem wanted_none {l : List Oper} (hg : o.guard = none) : Region.wanted o (yielded l.toArray a.tmps) = true := by simp [Region.wanted, hg]
end

theorem ex_eqI {ρ : Operand → Value} {o : Oper} {w : World} {t : TypeId} {x y : Operand} {k : IntKind} {n : Int} (ht : Try.prog.underlying t = some (.int k)) (ho : o.op = .binOp .eql t x y t) (hx : ρ x = .int k n) (hy : ρ y = .int k n) : (execOp ρ o).run Try.prog w = .ok (.value (.bool true)) w := by
  simp [execOp, ho, hx, hy, go_sem]
theorem ex_eqS {ρ : Operand → Value} {o : Oper} {w : World} {x y : Operand} {s : ByteArray} (ho : o.op = .binOp .eql 9 x y 9) (hx : ρ x = .string s) (hy : ρ y = .string s) : (execOp ρ o).run Try.prog w = .ok (.value (.bool true)) w := by
  simp [execOp, ho, hx, hy, go_sem]

theorem ex_call {o : Oper} {a : Act} {w : World} {Q : Exit → Act → World → Prop} {i : Nat} {T : Nat → Value → World → Prop} (k : Nat) (args : Array Value) (h : (execOp a.eval o).run Try.prog w = .ok (.enter k args) w)
    (hc : Calls Try.prog k args w fun e w' => (∃ v, e = .returned v ∧ T i v w') ∧ Fr (fun _ => False) w w') : o.wp Try.prog a w (fun a'' w'' => ∃ v, a'' = a.put o.dst v ∧ T i v w'' ∧ Fr (fun _ => False) w w'') Q := by
  unfold Oper.wp
  rw [h, Oper.upon_enter]
  refine hc.mono ?_
  rintro e w' ⟨⟨v, rfl, hT⟩, f⟩
  exact ⟨v, rfl, hT, f⟩

theorem en_call2 {ρ : Operand → Value} {o : Oper} {w : World} {k : Nat} {x y : Operand} {t : Array TypeId} {u v : Value} (ho : o.op = .call { callee := .value (.func k), args := #[x, y], argTypes := t }) (hf : ρ (.func k) = .func (.func k) #[] #[]) (hx : ρ x = u) (hy : ρ y = v) (hk : ∀ args W, Sem.run Try.prog (callFunc k args) W = .ok (.enter k args) W) : (execOp ρ o).run Try.prog w = .ok (.enter k #[u, v]) w := by
  have hk' := hk #[u, v] w
  simp [execOp, ho, hf, hx, hy, go_sem, hk']
theorem en_call1 {ρ : Operand → Value} {o : Oper} {w : World} {k : Nat} {x : Operand} {t : Array TypeId} {u : Value} (ho : o.op = .call { callee := .value (.func k), args := #[x], argTypes := t }) (hf : ρ (.func k) = .func (.func k) #[] #[]) (hx : ρ x = u) (hk : ∀ args W, Sem.run Try.prog (callFunc k args) W = .ok (.enter k args) W) : (execOp ρ o).run Try.prog w = .ok (.enter k #[u]) w := by
  have hk' := hk #[u] w
  simp [execOp, ho, hf, hx, go_sem, hk']
theorem en_call0 {ρ : Operand → Value} {o : Oper} {w : World} {k : Nat} {t : Array TypeId} (ho : o.op = .call { callee := .value (.func k), args := #[], argTypes := t }) (hf : ρ (.func k) = .func (.func k) #[] #[]) (hk : ∀ args W, Sem.run Try.prog (callFunc k args) W = .ok (.enter k args) W) : (execOp ρ o).run Try.prog w = .ok (.enter k #[]) w := by
  have hk' := hk #[] w
  simp [execOp, ho, hf, go_sem, hk']

end Go.Proofs.Ytckmddkhkdcmmaa

namespace Go.Proofs.Ytckmddkhkdcmmaa
set_option linter.unusedVariables false
set_option linter.unusedSimpArgs false
open Go.RowKit
set_option linter.unusedVariables false
set_option linter.unusedSimpArgs false

section
variable {P : Program} {ops : Array Oper} {Q : Exit → Act → World → Prop}

/-- j comes ahead of i. -/
inductive Path (l : List Oper) : Nat → Nat → Prop where
  | one {i j : Nat} {o : Oper} (h : l[i]? = some o) (d : depB o j = true) : Path l i j
  | step {i m j : Nat} {o : Oper} (h : l[i]? = some o) (d : depB o m = true) (r : Path l m j) : Path l i j

/-- A way back, as a list. -/
def pathB (l : List Oper) : Nat → List Nat → Bool
  | _, [] => false
  | i, [j] => match l[i]? with | some o => depB o j | none => false
  | i, m :: r => match l[i]? with | some o => depB o m && pathB l m r | none => false

theorem path_of {l : List Oper} : ∀ (r : List Nat) (i : Nat), pathB l i r = true → ∃ j, r.getLast? = some j ∧ Path l i j
  | [], i, h => by simp [pathB] at h
  | [j], i, h => by
    simp only [pathB] at h
    split at h
    · rename_i o ho; exact ⟨j, rfl, .one ho h⟩
    · simp at h
  | m :: n :: r, i, h => by
    simp only [pathB] at h
    split at h
    · rename_i o ho
      simp only [Bool.and_eq_true] at h
      obtain ⟨j, hj, p⟩ := path_of (n :: r) m h.2
      exact ⟨j, by rw [List.getLast?_cons_cons]; exact hj, .step ho h.1 p⟩
    · simp at h

/-- Each call's way back to the one ahead of it. -/
def chainB (l : List Oper) : List Nat → List (List Nat) → Bool
  | i :: j :: r, p :: ps => pathB l j p && (p.getLast? == some i) && chainB l (j :: r) ps
  | [_], _ => true
  | [], _ => true
  | _, _ => false

theorem chain_paths {l : List Oper} : ∀ (calls : List Nat) (ps : List (List Nat)), chainB l calls ps = true → ∀ k i j, calls[k]? = some i → calls[k + 1]? = some j → Path l j i
  | [], _, _, k, i, j, hi, _ => by simp at hi
  | [_], _, _, k, i, j, _, hj => by simp at hj
  | x :: y :: r, [], h, _, _, _, _, _ => by simp [chainB] at h
  | x :: y :: r, p :: ps, h, k, i, j, hi, hj => by
    simp only [chainB, Bool.and_eq_true, beq_iff_eq] at h
    cases k with
    | zero =>
      simp at hi hj
      subst hi hj
      obtain ⟨z, hz, hp⟩ := path_of p y h.1.1
      rw [h.1.2] at hz
      simp at hz
      subst hz
      exact hp
    | succ k => exact chain_paths (y :: r) ps h.2 k i j (by simpa using hi) (by simpa using hj)

/-- What is listed has all listed that it waits for. -/
def Shut (l : List Oper) (listed : Array Bool) : Prop := ∀ i o, l[i]? = some o → listed.getD i false = true → ∀ j, depB o j = true → listed.getD j false = true

theorem Path.listed {l : List Oper} {listed : Array Bool} (hs : Shut l listed) {i j : Nat} (p : Path l i j) (hd : ∀ o, l[i]? = some o → ∀ m, depB o m = true → listed.getD m false = true) : listed.getD j false = true := by
  induction p with
  | one h d => exact hd _ h _ d
  | step h d r ih => exact ih (fun o ho m hm => hs _ _ ho (hd _ h _ d) m hm)

/-- Behind an operation. -/
def Left (R : World → World → Prop) (St : Nat → World → Prop) (T : Nat → Value → World → Prop) (calls : List Nat) (i : Nat) (o : Oper) (k : Nat) (a' : Act) (w' : World) (a'' : Act) (w'' : World) : Prop :=
  ∃ v, a'' = a'.put o.dst v ∧ T i v w'' ∧ R w' w'' ∧ St (if i ∈ calls then k + 1 else k) w''

/-- An operation, shown once. -/
def StepC (P : Program) (Q : Exit → Act → World → Prop) (l : List Oper) (R : World → World → Prop) (St : Nat → World → Prop) (T : Nat → Value → World → Prop) (calls : List Nat) (a : Act) (w : World) (i : Nat) (o : Oper) : Prop :=
  ∀ a' w' k, Base l a a' → R w w' → St k w' → (∀ m, calls[m]? = some i → m = k) → (∀ m c oc, calls[m]? = some c → l[c]? = some oc → depB oc i = true → k ≤ m) → (∀ j, depB o j = true → Held l T a' w' j) →
    Region.wanted o (yielded l.toArray a'.tmps) = true ∧ o.wp P a' w' (Left R St T calls i o k a' w') Q

def StepsC (P : Program) (Q : Exit → Act → World → Prop) (l : List Oper) (R : World → World → Prop) (St : Nat → World → Prop) (T : Nat → Value → World → Prop) (calls : List Nat) (a : Act) (w : World) : Nat → List Oper → Prop
  | _, [] => True
  | i, o :: r => StepC P Q l R St T calls a w i o ∧ StepsC P Q l R St T calls a w (i + 1) r

theorem StepsC.get {l : List Oper} {R : World → World → Prop} {St : Nat → World → Prop} {T : Nat → Value → World → Prop} {calls : List Nat} {a : Act} {w : World} {k : Nat} {r : List Oper} (h : StepsC P Q l R St T calls a w k r) {i : Nat} {o : Oper} (ho : r[i]? = some o) : StepC P Q l R St T calls a w (k + i) o := by
  induction r generalizing k i with
  | nil => simp at ho
  | cons x r ih =>
    cases i with
    | zero => simp at ho; subst ho; exact h.1
    | succ i =>
      simp at ho
      have := ih h.2 ho
      rwa [show k + 1 + i = k + (i + 1) by omega] at this

/-- THE RULE. -/
theorem wp_region_chain {id : Nat} {l : List Oper} {a : Act} {w : World} (hm : P.follows .mixedOrders = true) (hB : backB l 0 = true) (nd : (dsts l).Nodup) (hd : ∀ d ∈ dsts l, d < a.tmps.size)
    (R : World → World → Prop) (Rdrew : R w w.drew) (Rtrans : ∀ a b c, R a b → R b c → R a c)
    (T : Nat → Value → World → Prop) (mono : ∀ i v w1 w2, T i v w1 → R w1 w2 → T i v w2)
    (calls : List Nat) (cn : calls.Nodup) (cl : ∀ i ∈ calls, i < l.length) (cp : ∀ k i j, calls[k]? = some i → calls[k + 1]? = some j → Path l j i) (St : Nat → World → Prop) (st0 : St 0 w.drew)
    (steps : StepsC P Q l R St T calls a w 0 l)
    (done : ∀ a' w', Base l a a' → R w w' → St calls.length w' → (∀ j, j < l.length → Held l T a' w' j) → Q .normal a' w') : (Code.region id l.toArray true).wp P Q a w := by
  refine wp_region_any hm ?_
  have hsz : l.toArray.size = l.length := by simp
  rw [hsz]
  let I : Array Bool → Act → World → Prop := fun listed a' w' => listed.size = l.length ∧ Base l a a' ∧ R w w' ∧ (∀ j, listed.getD j false = true → Held l T a' w' j) ∧ Shut l listed ∧
    ∃ k, k ≤ calls.length ∧ St k w' ∧ ∀ m i, calls[m]? = some i → (listed.getD i false = true ↔ m < k)
  refine wpAny_inv I ?_ ?_ _ _ _ _ ?_ ?_
  · intro listed a' w' i ⟨h1, h2, h3, h4, hS, k, hk, hst, hck⟩ hi
    obtain ⟨h5, o, ho, h6⟩ := mem_ready.1 hi
    have ho' : l[i]? = some o := by simpa using ho
    have hil : i < l.length := (List.getElem?_eq_some_iff.1 ho').1
    have hdep : ∀ j, depB o j = true → listed.getD j false = true := fun j hj => by
      unfold depB at hj
      rw [← Array.any_toList, List.any_eq_true] at hj
      obtain ⟨e, he', hb⟩ := hj
      have he : e ∈ o.after := by simpa using he'
      simp only [Bool.and_eq_true, beq_iff_eq] at hb
      rw [← hb.2]
      exact h6 e he hb.1
    have hni : listed.getD i false = false := by
      have hlt : i < listed.size := by omega
      simp [hlt] at h5 ⊢
      exact h5
    have hmk : ∀ m, calls[m]? = some i → m = k := fun m hm' => by
      have h7 : ¬ m < k := fun h => by rw [(hck m i hm').2 h] at hni; simp at hni
      rcases Nat.eq_zero_or_pos m with e | e
      · omega
      · obtain ⟨m', rfl⟩ : ∃ m', m = m' + 1 := ⟨m - 1, by omega⟩
        have hlt : m' < calls.length := by have := (List.getElem?_eq_some_iff.1 hm').1; omega
        have hp := cp m' _ i (List.getElem?_eq_getElem hlt) hm'
        have := hp.listed hS (fun o2 ho2 j hj => by rw [ho'] at ho2; simp at ho2; subst ho2; exact hdep j hj)
        have := (hck m' _ (List.getElem?_eq_getElem hlt)).1 this
        omega
    have hst' := steps.get ho'
    rw [Nat.zero_add] at hst'
    obtain ⟨hw, hwp⟩ := hst' a' w' k h2 h3 hst hmk (fun m c oc hm' hoc hdc => by
      rcases Nat.lt_or_ge m k with h | h
      · have h8 := hS c oc hoc ((hck m c hm').2 h) i hdc
        rw [h8] at hni; simp at hni
      · exact h) (fun j hj => h4 _ (hdep j hj))
    unfold wpOp
    simp only [ho, hw, if_true]
    refine .inl (Oper.wp_mono ?_ hwp)
    rintro a'' w'' ⟨v, rfl, hT, hf, hsk⟩
    refine ⟨by simp [h1], ⟨?_, ?_, fun s hs => ?_⟩, Rtrans _ _ _ h3 hf, fun j hj d hdj => ?_, ?_, ?_⟩
    · cases hdst : o.dst with
      | none => exact h2.size
      | some d => simp [Act.put, h2.size]
    · cases hdst : o.dst with
      | none => exact h2.defers
      | some d => exact h2.defers
    · cases hdst : o.dst with
      | none => exact h2.old s hs
      | some d =>
        rw [put_getD (fun e => hs (by rw [← e]; exact mem_dsts ho' hdst))]
        exact h2.old s hs
    · obtain ⟨oj, hoj, hdj'⟩ : ∃ oj, l[j]? = some oj ∧ oj.dst = some d := by
        cases hc : l[j]? with
        | none => rw [hc] at hdj; simp at hdj
        | some oj => rw [hc] at hdj; exact ⟨oj, rfl, by simpa using hdj⟩
      by_cases e : i = j
      · subst e
        rw [ho'] at hoj
        simp at hoj
        subst hoj
        rw [hdj', put_self (by rw [h2.size]; exact hd d (mem_dsts ho' hdj'))]
        exact hT
      · rw [getD_set_ne false e] at hj
        have hold := mono _ _ _ _ (h4 j hj d hdj) hf
        cases hdst : o.dst with
        | none => exact hold
        | some d' =>
          rw [put_getD (fun e2 => e (dsts_inj nd ho' hoj (by rw [hdst, e2]) hdj'))]
          exact hold
    · intro i2 o2 ho2 hl2 j hj
      have grow : ∀ x, listed.getD x false = true → (listed.setIfInBounds i true).getD x false = true := fun x hx => by
        by_cases e : i = x
        · subst e
          have hlt : i < listed.size := by omega
          simp [hlt]
        · rw [getD_set_ne false e]; exact hx
      by_cases e : i = i2
      · subst e
        rw [ho'] at ho2
        simp at ho2
        subst ho2
        exact grow j (hdep j hj)
      · rw [getD_set_ne false e] at hl2
        exact grow j (hS i2 o2 ho2 hl2 j hj)
    · by_cases hic : i ∈ calls
      · obtain ⟨m, hm'⟩ := List.getElem?_of_mem hic
        have hmk' := hmk m hm'
        subst hmk'
        rw [if_pos hic] at hsk
        have hml : m < calls.length := (List.getElem?_eq_some_iff.1 hm').1
        refine ⟨m + 1, by omega, hsk, fun m2 i2 hm2 => ?_⟩
        by_cases e : i = i2
        · subst e
          have hlt : i < listed.size := by omega
          have : m2 = m := (List.getElem?_inj (List.getElem?_eq_some_iff.1 hm2).1 cn).1 (hm2.trans hm'.symm)
          subst this
          simp [hlt]
        · rw [getD_set_ne false e, hck m2 i2 hm2]
          constructor
          · intro h; omega
          · intro h
            rcases Nat.lt_or_ge m2 m with h' | h'
            · exact h'
            · have : m2 = m := by omega
              subst this
              rw [hm2] at hm'
              simp at hm'
              exact absurd hm'.symm e
      · rw [if_neg hic] at hsk
        refine ⟨k, hk, hsk, fun m2 i2 hm2 => ?_⟩
        rw [getD_set_ne false (fun e => hic (by subst e; exact List.mem_of_getElem? hm2)), hck m2 i2 hm2]
  · intro listed a' w' ⟨h1, h2, h3, h4, hS, k, hk, hst, hck⟩ hr
    have hall := all_listed hB h1 hr
    have hke : k = calls.length := by
      rcases Nat.lt_or_ge k calls.length with h | h
      · have := (hck k _ (List.getElem?_eq_getElem h)).1 (hall _ (cl _ (List.getElem_mem h)))
        omega
      · omega
    subst hke
    exact done a' w' h2 h3 hst (fun j hj => h4 j (hall j hj))
  · simp [lefts]
  · have none : ∀ j, ¬ (Array.replicate l.length false).getD j false = true := fun j hj => by
      simp only [Array.getD_eq_getD_getElem?, Array.getElem?_replicate] at hj
      split at hj <;> simp at hj
    exact ⟨by simp, ⟨rfl, rfl, fun _ _ => rfl⟩, Rdrew, fun j hj => (none j hj).elim, fun i o _ hl => (none i hl).elim, 0, Nat.zero_le _, st0, fun m i _ => ⟨fun h => (none i h).elim, fun h => by omega⟩⟩
end


/-- The values that the operations leave. -/
def Tv (vs : List Value) (i : Nat) (v : Value) (_ : World) : Prop := ∀ u, vs[i]? = some u → v = u
theorem Tv.mono (R : World → World → Prop) (vs : List Value) (i : Nat) (v : Value) (w1 w2 : World) (h : Tv vs i v w1) (_ : R w1 w2) : Tv vs i v w2 := h

theorem left_val {P : Program} {o : Oper} {a : Act} {w : World} {Q : Exit → Act → World → Prop} {S : Nat → Prop} {St : Nat → World → Prop} {T : Nat → Value → World → Prop} {calls : List Nat} {i k : Nat} (v : Value) (hi : i ∉ calls) (hs : St k w) (h : (execOp a.eval o).run P w = .ok (.value v) w) (hT : T i v w) : o.wp P a w (Left (fun w w' => Fr S w w') St T calls i o k a w) Q := by
  unfold Oper.wp
  rw [h, Oper.upon_value]
  exact ⟨v, rfl, hT, Fr.refl _ _, by rw [if_neg hi]; exact hs⟩
end Go.Proofs.Ytckmddkhkdcmmaa
