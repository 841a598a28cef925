/-
  A rule for a region that draws its order, whose operations turn nothing that was there: each operation is shown ONCE, whatever came ahead of it: what it leaves is told by a property of its value that lasts while memory grows.
-/
import Derived.Test.YtbenailemoefhaaMem
import Derived.Test.YtbenailemoefhaaQl
import Derived.Orders
import Derived.KernelRfl
namespace Go.Proofs.Ytbenailemoefhaa
open Go.RowKit
set_option linter.unusedVariables false
set_option linter.unusedSimpArgs false

section
variable {P : Program} {ops : Array Oper} {Q : Exit → Act → World → Prop} {R : World → World → Prop}

/-- How many are not listed yet. -/
def lefts (listed : Array Bool) : Nat := listed.toList.count false

theorem lefts_set (listed : Array Bool) (i : Nat) (h : listed.getD i true = false) : lefts (listed.setIfInBounds i true) + 1 = lefts listed := by
  rcases listed with ⟨l⟩
  have hi : i < l.length := by
    rcases Nat.lt_or_ge i l.length with h' | h'
    · exact h'
    · simp [List.getElem?_eq_none h'] at h
  have hv : l[i] = false := by simpa [List.getElem?_eq_getElem hi] using h
  unfold lefts
  rw [List.setIfInBounds_toArray]
  simp only
  have h1 := List.count_set (l := l) (i := i) (a := true) (b := false) hi
  rw [h1, hv]
  simp
  have : 0 < l.count false := List.count_pos_iff.2 (by rw [← hv]; exact List.getElem_mem hi)
  omega

theorem ready_none {md : Region.Mode} {listed : Array Bool} (h : lefts listed = 0) : Region.ready md ops listed = [] := by
  rw [List.eq_nil_iff_forall_not_mem]
  intro i hi
  have h1 := (mem_ready.1 hi).1
  have := lefts_set listed i h1
  omega

theorem wpAny_inv {md : Region.Mode} (I : Array Bool → Act → World → Prop)
    (hstep : ∀ listed a w i, I listed a w → i ∈ Region.ready md ops listed → wpOp P ops Q i (I (listed.setIfInBounds i true)) a w)
    (hdone : ∀ listed a w, I listed a w → Region.ready md ops listed = [] → Q .normal a w) :
    ∀ fuel listed a w, lefts listed ≤ fuel → I listed a w → wpAny P md ops Q fuel listed a w := by
  intro fuel
  induction fuel with
  | zero =>
    intro listed a w hf hI
    have hr := ready_none (ops := ops) (md := md) (show lefts listed = 0 by omega)
    exact ⟨hr, hdone _ _ _ hI hr⟩
  | succ fuel ih =>
    intro listed a w hf hI
    refine ⟨fun hr => hdone _ _ _ hI hr, fun i hi => ?_⟩
    refine wpOp_mono (fun a' w' h' => ?_) (hstep listed a w i hI hi)
    have := lefts_set listed i (mem_ready.1 hi).1
    exact ih _ _ _ (by omega) h'

/-- No two write one slot. -/
def dsts (l : List Oper) : List Nat := l.filterMap (·.dst)

/-- The frame ahead of the region, where it is not written. -/
structure Base (l : List Oper) (a a' : Act) : Prop where
  size : a'.tmps.size = a.tmps.size
  defers : a'.defers = a.defers
  old : ∀ s, s ∉ dsts l → a'.tmps.getD s undef = a.tmps.getD s undef

/-- What is known of the operations that an operation waits for. -/
def Held (l : List Oper) (T : Nat → Value → World → Prop) (a : Act) (w : World) (j : Nat) : Prop := ∀ d, (l[j]?).bind (·.dst) = some d → T j (a.tmps.getD d undef) w

def depB (o : Oper) (j : Nat) : Bool := o.after.any fun e => Region.binds .any e && e.on == j

/-- An operation, shown once. -/
def Step (R : World → World → Prop) (P : Program) (Q : Exit → Act → World → Prop) (l : List Oper) (T : Nat → Value → World → Prop) (a : Act) (w : World) (i : Nat) (o : Oper) : Prop :=
  ∀ a' w', Base l a a' → R w w' → (∀ j, depB o j = true → Held l T a' w' j) →
    Region.wanted o (yielded l.toArray a'.tmps) = true ∧ o.wp P a' w' (fun a'' w'' => ∃ v, a'' = a'.put o.dst v ∧ T i v w'' ∧ R w' w'') Q

def Steps (R : World → World → Prop) (P : Program) (Q : Exit → Act → World → Prop) (l : List Oper) (T : Nat → Value → World → Prop) (a : Act) (w : World) : Nat → List Oper → Prop
  | _, [] => True
  | i, o :: r => Step R P Q l T a w i o ∧ Steps R P Q l T a w (i + 1) r

theorem Steps.get {l : List Oper} {T : Nat → Value → World → Prop} {a : Act} {w : World} {k : Nat} {r : List Oper} (h : Steps R P Q l T a w k r) {i : Nat} {o : Oper} (ho : r[i]? = some o) : Step R P Q l T a w (k + i) o := by
  induction r generalizing k i with
  | nil => simp at ho
  | cons x r ih =>
    cases i with
    | zero => simp at ho; subst ho; exact h.1
    | succ i =>
      simp at ho
      have := ih h.2 ho
      rwa [show k + 1 + i = k + (i + 1) by omega] at this

theorem mem_dsts {l : List Oper} {i : Nat} {o : Oper} {d : Nat} (ho : l[i]? = some o) (hd : o.dst = some d) : d ∈ dsts l :=
  List.mem_filterMap.2 ⟨o, List.mem_of_getElem? ho, hd⟩

theorem dsts_inj {l : List Oper} (nd : (dsts l).Nodup) {i j : Nat} {oi oj : Oper} {d : Nat} (hi : l[i]? = some oi) (hj : l[j]? = some oj) (di : oi.dst = some d) (dj : oj.dst = some d) : i = j := by
  induction l generalizing i j with
  | nil => simp at hi
  | cons x l ih =>
    have key : ∀ {y : Oper} {m : Nat}, x.dst = some d → l[m]? = some y → y.dst = some d → False := by
      intro y m hx hy hyd
      have : dsts (x :: l) = d :: dsts l := by simp [dsts, hx]
      rw [this, List.nodup_cons] at nd
      exact nd.1 (mem_dsts hy hyd)
    have nd' : (dsts l).Nodup := by
      unfold dsts at nd ⊢
      rw [List.filterMap_cons] at nd
      split at nd
      · exact nd
      · exact (List.nodup_cons.1 nd).2
    cases i with
    | zero =>
      simp at hi; subst hi
      cases j with
      | zero => rfl
      | succ j => simp at hj; exact (key di hj dj).elim
    | succ i =>
      simp at hi
      cases j with
      | zero => simp at hj; subst hj; exact (key dj hi di).elim
      | succ j => simp at hj; rw [ih nd' hi hj]

theorem put_getD {a : Act} {d s : Nat} {v : Value} (h : d ≠ s) : (a.put (some d) v).tmps.getD s undef = a.tmps.getD s undef := by
  simp [Act.put, Array.getElem?_setIfInBounds_ne h]
theorem put_self {a : Act} {d : Nat} {v : Value} (h : d < a.tmps.size) : (a.put (some d) v).tmps.getD d undef = v := by
  simp [Act.put, h]

/-- THE RULE. -/
theorem wp_region_freeR (hRd : ∀ w, R w w.drew) (hRt : ∀ a b c, R a b → R b c → R a c) {id : Nat} {l : List Oper} {a : Act} {w : World} (hm : P.follows .mixedOrders = true) (hB : backB l 0 = true) (nd : (dsts l).Nodup) (hd : ∀ d ∈ dsts l, d < a.tmps.size)
    (T : Nat → Value → World → Prop) (mono : ∀ i v w1 w2, T i v w1 → R w1 w2 → T i v w2)
    (steps : Steps R P Q l T a w 0 l)
    (done : ∀ a' w', Base l a a' → R w w' → (∀ j, j < l.length → Held l T a' w' j) → Q .normal a' w') : (Code.region id l.toArray true).wp P Q a w := by
  refine wp_region_any hm ?_
  have hsz : l.toArray.size = l.length := by simp
  rw [hsz]
  let I : Array Bool → Act → World → Prop := fun listed a' w' => listed.size = l.length ∧ Base l a a' ∧ R w w' ∧ ∀ j, listed.getD j false = true → Held l T a' w' j
  refine wpAny_inv I ?_ ?_ _ _ _ _ ?_ ?_
  · intro listed a' w' i ⟨h1, h2, h3, h4⟩ hi
    obtain ⟨h5, o, ho, h6⟩ := mem_ready.1 hi
    have ho' : l[i]? = some o := by simpa using ho
    have hil : i < l.length := (List.getElem?_eq_some_iff.1 ho').1
    have hst := steps.get ho'
    rw [Nat.zero_add] at hst
    obtain ⟨hw, hwp⟩ := hst a' w' h2 h3 (fun j hj => by
      unfold depB at hj
      rw [← Array.any_toList, List.any_eq_true] at hj
      obtain ⟨e, he', hb⟩ := hj
      have he : e ∈ o.after := by simpa using he'
      simp only [Bool.and_eq_true, beq_iff_eq] at hb
      rw [← hb.2]
      exact h4 _ (h6 e he hb.1))
    unfold wpOp
    simp only [ho, hw, if_true]
    refine .inl (Oper.wp_mono ?_ hwp)
    rintro a'' w'' ⟨v, rfl, hT, hf⟩
    refine ⟨by simp [h1], ⟨?_, ?_, fun s hs => ?_⟩, hRt _ _ _ h3 hf, fun j hj d hdj => ?_⟩
    · cases hdst : o.dst with
      | none => exact h2.size
      | some d => simp [Act.put, h2.size]
    · cases hdst : o.dst with
      | none => exact h2.defers
      | some d => exact h2.defers
    · cases hdst : o.dst with
      | none => exact h2.old s hs
      | some d =>
        rw [put_getD (fun e => hs (by rw [← e]; exact mem_dsts ho' hdst))]
        exact h2.old s hs
    · obtain ⟨oj, hoj, hdj'⟩ : ∃ oj, l[j]? = some oj ∧ oj.dst = some d := by
        cases hc : l[j]? with
        | none => rw [hc] at hdj; simp at hdj
        | some oj => rw [hc] at hdj; exact ⟨oj, rfl, by simpa using hdj⟩
      by_cases e : i = j
      · subst e
        rw [ho'] at hoj
        simp at hoj
        subst hoj
        rw [hdj', put_self (by rw [h2.size]; exact hd d (mem_dsts ho' hdj'))]
        exact hT
      · rw [getD_set_ne false e] at hj
        have hold := mono _ _ _ _ (h4 j hj d hdj) hf
        cases hdst : o.dst with
        | none => exact hold
        | some d' =>
          rw [put_getD (fun e2 => e (dsts_inj nd ho' hoj (by rw [hdst, e2]) hdj'))]
          exact hold
  · intro listed a' w' ⟨h1, h2, h3, h4⟩ hr
    exact done a' w' h2 h3 (fun j hj => h4 j (all_listed hB h1 hr j hj))
  · simp [lefts]
  · refine ⟨by simp, ⟨rfl, rfl, fun _ _ => rfl⟩, hRd w, fun j hj => ?_⟩
    simp only [Array.getD_eq_getD_getElem?, Array.getElem?_replicate] at hj
    split at hj <;> simp at hj
end

end Go.Proofs.Ytbenailemoefhaa
