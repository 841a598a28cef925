/-
  A rule for a region that draws its order, whose operations turn nothing that was there: each operation is shown ONCE, whatever came ahead of it: what it leaves is told by a property of its value that lasts while memory grows.
  A rule for a region that draws its order, some of whose operations (the calls of 'calls') wait for each other and lead from one state to the next, while all others leave the state alone: each operation is shown ONCE, whatever came ahead of it.
  The rule once more, where what is known of a value may end with a call of the chain (an append in place): some of whose operations (the calls of 'calls') wait for each other and lead from one state to the next, while all others leave the state alone: each operation is shown ONCE, whatever came ahead of it.
  Plain facts on memory for the proofs over package cache: blocks of bytes, copies, rows of one's own.
-/
import Derived.Test.YtdgmlopaeonacaaM01
import Derived.Orders
import Derived.KernelRfl
import Derived.Test.YtdgmlopaeonacaaChecked
import Derived.BigQuiet
import Derived.Deep.RegionHeld3
import Derived.Deep.RegionLaw
import Derived.Deep.DrawnRows
import Derived.WalkMore
import Derived.Deep.LoopGhost
import Derived.Laws.CopyOwn
import Derived.Deep.WholeRow
import Derived.Laws.OwnMore
namespace Go.Proofs.Ytdgmlopaeonacaa
set_option linter.unusedVariables false
set_option linter.unusedSimpArgs false
open Go.RowKit
set_option linter.unusedVariables false
set_option linter.unusedSimpArgs false

section
variable {P : Program} {ops : Array Oper} {Q : Exit → Act → World → Prop} {R : World → World → Prop}

/-- How many are not listed yet. -/
def lefts (listed : Array Bool) : Nat := listed.toList.count false

theorem lefts_set (listed : Array Bool) (i : Nat) (h : listed.getD i true = false) : lefts (listed.setIfInBounds i true) + 1 = lefts listed := by
  rcases listed with ⟨l⟩
  have hi : i < l.length := by
    rcases Nat.lt_or_ge i l.length with h' | h'
    · exact h'
    · simp [List.getElem?_eq_none h'] at h
  have hv : l[i] = false := by simpa [List.getElem?_eq_getElem hi] using h
  unfold lefts
  rw [List.setIfInBounds_toArray]
  simp only
  have h1 := List.count_set (l := l) (i := i) (a := true) (b := false) hi
  rw [h1, hv]
  simp
  have : 0 < l.count false := List.count_pos_iff.2 (by rw [← hv]; exact List.getElem_mem hi)
  omega

theorem ready_none {md : Region.Mode} {listed : Array Bool} (h : lefts listed = 0) : Region.ready md ops listed = [] := by
  rw [List.eq_nil_iff_forall_not_mem]
  intro i hi
  have h1 := (mem_ready.1 hi).1
  have := lefts_set listed i h1
  omega

theorem wpAny_inv {md : Region.Mode} (I : Array Bool → Act → World → Prop)
    (hstep : ∀ listed a w i, I listed a w → i ∈ Region.ready md ops listed → wpOp P ops Q i (I (listed.setIfInBounds i true)) a w)
    (hdone : ∀ listed a w, I listed a w → Region.ready md ops listed = [] → Q .normal a w) :
    ∀ fuel listed a w, lefts listed ≤ fuel → I listed a w → wpAny P md ops Q fuel listed a w := by
  intro fuel
  induction fuel with
  | zero =>
    intro listed a w hf hI
    have hr := ready_none (ops := ops) (md := md) (show lefts listed = 0 by omega)
    exact ⟨hr, hdone _ _ _ hI hr⟩
  | succ fuel ih =>
    intro listed a w hf hI
    refine ⟨fun hr => hdone _ _ _ hI hr, fun i hi => ?_⟩
    refine wpOp_mono (fun a' w' h' => ?_) (hstep listed a w i hI hi)
    have := lefts_set listed i (mem_ready.1 hi).1
    exact ih _ _ _ (by omega) h'

/-- No two write one slot. -/
def dsts (l : List Oper) : List Nat := l.filterMap (·.dst)

/-- The frame ahead of the region, where it is not written. -/
structure Base (l : List Oper) (a a' : Act) : Prop where
  size : a'.tmps.size = a.tmps.size
  defers : a'.defers = a.defers
  old : ∀ s, s ∉ dsts l → a'.tmps.getD s undef = a.tmps.getD s undef

/-- What is known of the operations that an operation waits for. -/
def Held (l : List Oper) (T : Nat → Value → World → Prop) (a : Act) (w : World) (j : Nat) : Prop := ∀ d, (l[j]?).bind (·.dst) = some d → T j (a.tmps.getD d undef) w

def depB (o : Oper) (j : Nat) : Bool := o.after.any fun e => Region.binds .any e && e.on == j

/-- An operation, shown once. -/
def Step (R : World → World → Prop) (P : Program) (Q : Exit → Act → World → Prop) (l : List Oper) (T : Nat → Value → World → Prop) (a : Act) (w : World) (i : Nat) (o : Oper) : Prop :=
  ∀ a' w', Base l a a' → R w w' → (∀ j, depB o j = true → Held l T a' w' j) →
    Region.wanted o (yielded l.toArray a'.tmps) = true ∧ o.wp P a' w' (fun a'' w'' => ∃ v, a'' = a'.put o.dst v ∧ T i v w'' ∧ R w' w'') Q

def Steps (R : World → World → Prop) (P : Program) (Q : Exit → Act → World → Prop) (l : List Oper) (T : Nat → Value → World → Prop) (a : Act) (w : World) : Nat → List Oper → Prop
  | _, [] => True
  | i, o :: r => Step R P Q l T a w i o ∧ Steps R P Q l T a w (i + 1) r

theorem Steps.get {l : List Oper} {T : Nat → Value → World → Prop} {a : Act} {w : World} {k : Nat} {r : List Oper} (h : Steps R P Q l T a w k r) {i : Nat} {o : Oper} (ho : r[i]? = some o) : Step R P Q l T a w (k + i) o := by
  induction r generalizing k i with
  | nil => simp at ho
  | cons x r ih =>
    cases i with
    | zero => simp at ho; subst ho; exact h.1
    | succ i =>
      simp at ho
      have := ih h.2 ho
      rwa [show k + 1 + i = k + (i + 1) by omega] at this

theorem mem_dsts {l : List Oper} {i : Nat} {o : Oper} {d : Nat} (ho : l[i]? = some o) (hd : o.dst = some d) : d ∈ dsts l :=
  List.mem_filterMap.2 ⟨o, List.mem_of_getElem? ho, hd⟩

theorem dsts_inj {l : List Oper} (nd : (dsts l).Nodup) {i j : Nat} {oi oj : Oper} {d : Nat} (hi : l[i]? = some oi) (hj : l[j]? = some oj) (di : oi.dst = some d) (dj : oj.dst = some d) : i = j := by
  induction l generalizing i j with
  | nil => simp at hi
  | cons x l ih =>
    have key : ∀ {y : Oper} {m : Nat}, x.dst = some d → l[m]? = some y → y.dst = some d → False := by
      intro y m hx hy hyd
      have : dsts (x :: l) = d :: dsts l := by simp [dsts, hx]
      rw [this, List.nodup_cons] at nd
      exact nd.1 (mem_dsts hy hyd)
    have nd' : (dsts l).Nodup := by
      unfold dsts at nd ⊢
      rw [List.filterMap_cons] at nd
      split at nd
      · exact nd
      · exact (List.nodup_cons.1 nd).2
    cases i with
    | zero =>
      simp at hi; subst hi
      cases j with
      | zero => rfl
      | succ j => simp at hj; exact (key di hj dj).elim
    | succ i =>
      simp at hi
      cases j with
      | zero => simp at hj; subst hj; exact (key dj hi di).elim
      | succ j => simp at hj; rw [ih nd' hi hj]

theorem put_getD {a : Act} {d s : Nat} {v : Value} (h : d ≠ s) : (a.put (some d) v).tmps.getD s undef = a.tmps.getD s undef := by
  simp [Act.put, Array.getElem?_setIfInBounds_ne h]
theorem put_self {a : Act} {d : Nat} {v : Value} (h : d < a.tmps.size) : (a.put (some d) v).tmps.getD d undef = v := by
  simp [Act.put, h]

/-- THE RULE. -/
theorem wp_region_freeR (hRd : ∀ w, R w w.drew) (hRt : ∀ a b c, R a b → R b c → R a c) {id : Nat} {l : List Oper} {a : Act} {w : World} (hm : P.follows .mixedOrders = true) (hB : backB l 0 = true) (nd : (dsts l).Nodup) (hd : ∀ d ∈ dsts l, d < a.tmps.size)
    (T : Nat → Value → World → Prop) (mono : ∀ i v w1 w2, T i v w1 → R w1 w2 → T i v w2)
    (steps : Steps R P Q l T a w 0 l)
    (done : ∀ a' w', Base l a a' → R w w' → (∀ j, j < l.length → Held l T a' w' j) → Q .normal a' w') : (Code.region id l.toArray true).wp P Q a w := by
  refine wp_region_any hm ?_
  have hsz : l.toArray.size = l.length := by simp
  rw [hsz]
  let I : Array Bool → Act → World → Prop := fun listed a' w' => listed.size = l.length ∧ Base l a a' ∧ R w w' ∧ ∀ j, listed.getD j false = true → Held l T a' w' j
  refine wpAny_inv I ?_ ?_ _ _ _ _ ?_ ?_
  · intro listed a' w' i ⟨h1, h2, h3, h4⟩ hi
    obtain ⟨h5, o, ho, h6⟩ := mem_ready.1 hi
    have ho' : l[i]? = some o := by simpa using ho
    have hil : i < l.length := (List.getElem?_eq_some_iff.1 ho').1
    have hst := steps.get ho'
    rw [Nat.zero_add] at hst
    obtain ⟨hw, hwp⟩ := hst a' w' h2 h3 (fun j hj => by
      unfold depB at hj
      rw [← Array.any_toList, List.any_eq_true] at hj
      obtain ⟨e, he', hb⟩ := hj
      have he : e ∈ o.after := by simpa using he'
      simp only [Bool.and_eq_true, beq_iff_eq] at hb
      rw [← hb.2]
      exact h4 _ (h6 e he hb.1))
    unfold wpOp
    simp only [ho, hw, if_true]
    refine .inl (Oper.wp_mono ?_ hwp)
    rintro a'' w'' ⟨v, rfl, hT, hf⟩
    refine ⟨by simp [h1], ⟨?_, ?_, fun s hs => ?_⟩, hRt _ _ _ h3 hf, fun j hj d hdj => ?_⟩
    · cases hdst : o.dst with
      | none => exact h2.size
      | some d => simp [Act.put, h2.size]
    · cases hdst : o.dst with
      | none => exact h2.defers
      | some d => exact h2.defers
    · cases hdst : o.dst with
      | none => exact h2.old s hs
      | some d =>
        rw [put_getD (fun e => hs (by rw [← e]; exact mem_dsts ho' hdst))]
        exact h2.old s hs
    · obtain ⟨oj, hoj, hdj'⟩ : ∃ oj, l[j]? = some oj ∧ oj.dst = some d := by
        cases hc : l[j]? with
        | none => rw [hc] at hdj; simp at hdj
        | some oj => rw [hc] at hdj; exact ⟨oj, rfl, by simpa using hdj⟩
      by_cases e : i = j
      · subst e
        rw [ho'] at hoj
        simp at hoj
        subst hoj
        rw [hdj', put_self (by rw [h2.size]; exact hd d (mem_dsts ho' hdj'))]
        exact hT
      · rw [getD_set_ne false e] at hj
        have hold := mono _ _ _ _ (h4 j hj d hdj) hf
        cases hdst : o.dst with
        | none => exact hold
        | some d' =>
          rw [put_getD (fun e2 => e (dsts_inj nd ho' hoj (by rw [hdst, e2]) hdj'))]
          exact hold
  · intro listed a' w' ⟨h1, h2, h3, h4⟩ hr
    exact done a' w' h2 h3 (fun j hj => h4 j (all_listed hB h1 hr j hj))
  · simp [lefts]
  · refine ⟨by simp, ⟨rfl, rfl, fun _ _ => rfl⟩, hRd w, fun j hj => ?_⟩
    simp only [Array.getD_eq_getD_getElem?, Array.getElem?_replicate] at hj
    split at hj <;> simp at hj
end

end Go.Proofs.Ytdgmlopaeonacaa

namespace Go.Proofs.Ytdgmlopaeonacaa
set_option linter.unusedVariables false
set_option linter.unusedSimpArgs false
open Go.RowKit
set_option linter.unusedVariables false
set_option linter.unusedSimpArgs false

section
variable {P : Program} {ops : Array Oper} {Q : Exit → Act → World → Prop}

/-- j comes ahead of i. -/
inductive Path (l : List Oper) : Nat → Nat → Prop where
  | one {i j : Nat} {o : Oper} (h : l[i]? = some o) (d : depB o j = true) : Path l i j
  | step {i m j : Nat} {o : Oper} (h : l[i]? = some o) (d : depB o m = true) (r : Path l m j) : Path l i j

/-- A way back, as a list. -/
def pathB (l : List Oper) : Nat → List Nat → Bool
  | _, [] => false
  | i, [j] => match l[i]? with | some o => depB o j | none => false
  | i, m :: r => match l[i]? with | some o => depB o m && pathB l m r | none => false

theorem path_of {l : List Oper} : ∀ (r : List Nat) (i : Nat), pathB l i r = true → ∃ j, r.getLast? = some j ∧ Path l i j
  | [], i, h => by simp [pathB] at h
  | [j], i, h => by
    simp only [pathB] at h
    split at h
    · rename_i o ho; exact ⟨j, rfl, .one ho h⟩
    · simp at h
  | m :: n :: r, i, h => by
    simp only [pathB] at h
    split at h
    · rename_i o ho
      simp only [Bool.and_eq_true] at h
      obtain ⟨j, hj, p⟩ := path_of (n :: r) m h.2
      exact ⟨j, by rw [List.getLast?_cons_cons]; exact hj, .step ho h.1 p⟩
    · simp at h

/-- Each call's way back to the one ahead of it. -/
def chainB (l : List Oper) : List Nat → List (List Nat) → Bool
  | i :: j :: r, p :: ps => pathB l j p && (p.getLast? == some i) && chainB l (j :: r) ps
  | [_], _ => true
  | [], _ => true
  | _, _ => false

theorem chain_paths {l : List Oper} : ∀ (calls : List Nat) (ps : List (List Nat)), chainB l calls ps = true → ∀ k i j, calls[k]? = some i → calls[k + 1]? = some j → Path l j i
  | [], _, _, k, i, j, hi, _ => by simp at hi
  | [_], _, _, k, i, j, _, hj => by simp at hj
  | x :: y :: r, [], h, _, _, _, _, _ => by simp [chainB] at h
  | x :: y :: r, p :: ps, h, k, i, j, hi, hj => by
    simp only [chainB, Bool.and_eq_true, beq_iff_eq] at h
    cases k with
    | zero =>
      simp at hi hj
      subst hi hj
      obtain ⟨z, hz, hp⟩ := path_of p y h.1.1
      rw [h.1.2] at hz
      simp at hz
      subst hz
      exact hp
    | succ k => exact chain_paths (y :: r) ps h.2 k i j (by simpa using hi) (by simpa using hj)

/-- What is listed has all listed that it waits for. -/
def Shut (l : List Oper) (listed : Array Bool) : Prop := ∀ i o, l[i]? = some o → listed.getD i false = true → ∀ j, depB o j = true → listed.getD j false = true

theorem Path.listed {l : List Oper} {listed : Array Bool} (hs : Shut l listed) {i j : Nat} (p : Path l i j) (hd : ∀ o, l[i]? = some o → ∀ m, depB o m = true → listed.getD m false = true) : listed.getD j false = true := by
  induction p with
  | one h d => exact hd _ h _ d
  | step h d r ih => exact ih (fun o ho m hm => hs _ _ ho (hd _ h _ d) m hm)

/-- Behind an operation. -/
def Left (R : World → World → Prop) (St : Nat → World → Prop) (T : Nat → Value → World → Prop) (calls : List Nat) (i : Nat) (o : Oper) (k : Nat) (a' : Act) (w' : World) (a'' : Act) (w'' : World) : Prop :=
  ∃ v, a'' = a'.put o.dst v ∧ T i v w'' ∧ R w' w'' ∧ St (if i ∈ calls then k + 1 else k) w''

/-- An operation, shown once. -/
def StepC (P : Program) (Q : Exit → Act → World → Prop) (l : List Oper) (R : World → World → Prop) (St : Nat → World → Prop) (T : Nat → Value → World → Prop) (calls : List Nat) (a : Act) (w : World) (i : Nat) (o : Oper) : Prop :=
  ∀ a' w' k, Base l a a' → R w w' → St k w' → (∀ m, calls[m]? = some i → m = k) → (∀ j, depB o j = true → Held l T a' w' j) →
    Region.wanted o (yielded l.toArray a'.tmps) = true ∧ o.wp P a' w' (Left R St T calls i o k a' w') Q

def StepsC (P : Program) (Q : Exit → Act → World → Prop) (l : List Oper) (R : World → World → Prop) (St : Nat → World → Prop) (T : Nat → Value → World → Prop) (calls : List Nat) (a : Act) (w : World) : Nat → List Oper → Prop
  | _, [] => True
  | i, o :: r => StepC P Q l R St T calls a w i o ∧ StepsC P Q l R St T calls a w (i + 1) r

theorem StepsC.get {l : List Oper} {R : World → World → Prop} {St : Nat → World → Prop} {T : Nat → Value → World → Prop} {calls : List Nat} {a : Act} {w : World} {k : Nat} {r : List Oper} (h : StepsC P Q l R St T calls a w k r) {i : Nat} {o : Oper} (ho : r[i]? = some o) : StepC P Q l R St T calls a w (k + i) o := by
  induction r generalizing k i with
  | nil => simp at ho
  | cons x r ih =>
    cases i with
    | zero => simp at ho; subst ho; exact h.1
    | succ i =>
      simp at ho
      have := ih h.2 ho
      rwa [show k + 1 + i = k + (i + 1) by omega] at this

/-- THE RULE. -/
theorem wp_region_chain {id : Nat} {l : List Oper} {a : Act} {w : World} (hm : P.follows .mixedOrders = true) (hB : backB l 0 = true) (nd : (dsts l).Nodup) (hd : ∀ d ∈ dsts l, d < a.tmps.size)
    (R : World → World → Prop) (Rdrew : R w w.drew) (Rtrans : ∀ a b c, R a b → R b c → R a c)
    (T : Nat → Value → World → Prop) (mono : ∀ i v w1 w2, T i v w1 → R w1 w2 → T i v w2)
    (calls : List Nat) (cn : calls.Nodup) (cl : ∀ i ∈ calls, i < l.length) (cp : ∀ k i j, calls[k]? = some i → calls[k + 1]? = some j → Path l j i) (St : Nat → World → Prop) (st0 : St 0 w.drew)
    (steps : StepsC P Q l R St T calls a w 0 l)
    (done : ∀ a' w', Base l a a' → R w w' → St calls.length w' → (∀ j, j < l.length → Held l T a' w' j) → Q .normal a' w') : (Code.region id l.toArray true).wp P Q a w := by
  refine wp_region_any hm ?_
  have hsz : l.toArray.size = l.length := by simp
  rw [hsz]
  let I : Array Bool → Act → World → Prop := fun listed a' w' => listed.size = l.length ∧ Base l a a' ∧ R w w' ∧ (∀ j, listed.getD j false = true → Held l T a' w' j) ∧ Shut l listed ∧
    ∃ k, k ≤ calls.length ∧ St k w' ∧ ∀ m i, calls[m]? = some i → (listed.getD i false = true ↔ m < k)
  refine wpAny_inv I ?_ ?_ _ _ _ _ ?_ ?_
  · intro listed a' w' i ⟨h1, h2, h3, h4, hS, k, hk, hst, hck⟩ hi
    obtain ⟨h5, o, ho, h6⟩ := mem_ready.1 hi
    have ho' : l[i]? = some o := by simpa using ho
    have hil : i < l.length := (List.getElem?_eq_some_iff.1 ho').1
    have hdep : ∀ j, depB o j = true → listed.getD j false = true := fun j hj => by
      unfold depB at hj
      rw [← Array.any_toList, List.any_eq_true] at hj
      obtain ⟨e, he', hb⟩ := hj
      have he : e ∈ o.after := by simpa using he'
      simp only [Bool.and_eq_true, beq_iff_eq] at hb
      rw [← hb.2]
      exact h6 e he hb.1
    have hni : listed.getD i false = false := by
      have hlt : i < listed.size := by omega
      simp [hlt] at h5 ⊢
      exact h5
    have hmk : ∀ m, calls[m]? = some i → m = k := fun m hm' => by
      have h7 : ¬ m < k := fun h => by rw [(hck m i hm').2 h] at hni; simp at hni
      rcases Nat.eq_zero_or_pos m with e | e
      · omega
      · obtain ⟨m', rfl⟩ : ∃ m', m = m' + 1 := ⟨m - 1, by omega⟩
        have hlt : m' < calls.length := by have := (List.getElem?_eq_some_iff.1 hm').1; omega
        have hp := cp m' _ i (List.getElem?_eq_getElem hlt) hm'
        have := hp.listed hS (fun o2 ho2 j hj => by rw [ho'] at ho2; simp at ho2; subst ho2; exact hdep j hj)
        have := (hck m' _ (List.getElem?_eq_getElem hlt)).1 this
        omega
    have hst' := steps.get ho'
    rw [Nat.zero_add] at hst'
    obtain ⟨hw, hwp⟩ := hst' a' w' k h2 h3 hst hmk (fun j hj => h4 _ (hdep j hj))
    unfold wpOp
    simp only [ho, hw, if_true]
    refine .inl (Oper.wp_mono ?_ hwp)
    rintro a'' w'' ⟨v, rfl, hT, hf, hsk⟩
    refine ⟨by simp [h1], ⟨?_, ?_, fun s hs => ?_⟩, Rtrans _ _ _ h3 hf, fun j hj d hdj => ?_, ?_, ?_⟩
    · cases hdst : o.dst with
      | none => exact h2.size
      | some d => simp [Act.put, h2.size]
    · cases hdst : o.dst with
      | none => exact h2.defers
      | some d => exact h2.defers
    · cases hdst : o.dst with
      | none => exact h2.old s hs
      | some d =>
        rw [put_getD (fun e => hs (by rw [← e]; exact mem_dsts ho' hdst))]
        exact h2.old s hs
    · obtain ⟨oj, hoj, hdj'⟩ : ∃ oj, l[j]? = some oj ∧ oj.dst = some d := by
        cases hc : l[j]? with
        | none => rw [hc] at hdj; simp at hdj
        | some oj => rw [hc] at hdj; exact ⟨oj, rfl, by simpa using hdj⟩
      by_cases e : i = j
      · subst e
        rw [ho'] at hoj
        simp at hoj
        subst hoj
        rw [hdj', put_self (by rw [h2.size]; exact hd d (mem_dsts ho' hdj'))]
        exact hT
      · rw [getD_set_ne false e] at hj
        have hold := mono _ _ _ _ (h4 j hj d hdj) hf
        cases hdst : o.dst with
        | none => exact hold
        | some d' =>
          rw [put_getD (fun e2 => e (dsts_inj nd ho' hoj (by rw [hdst, e2]) hdj'))]
          exact hold
    · intro i2 o2 ho2 hl2 j hj
      have grow : ∀ x, listed.getD x false = true → (listed.setIfInBounds i true).getD x false = true := fun x hx => by
        by_cases e : i = x
        · subst e
          have hlt : i < listed.size := by omega
          simp [hlt]
        · rw [getD_set_ne false e]; exact hx
      by_cases e : i = i2
      · subst e
        rw [ho'] at ho2
        simp at ho2
        subst ho2
        exact grow j (hdep j hj)
      · rw [getD_set_ne false e] at hl2
        exact grow j (hS i2 o2 ho2 hl2 j hj)
    · by_cases hic : i ∈ calls
      · obtain ⟨m, hm'⟩ := List.getElem?_of_mem hic
        have hmk' := hmk m hm'
        subst hmk'
        rw [if_pos hic] at hsk
        have hml : m < calls.length := (List.getElem?_eq_some_iff.1 hm').1
        refine ⟨m + 1, by omega, hsk, fun m2 i2 hm2 => ?_⟩
        by_cases e : i = i2
        · subst e
          have hlt : i < listed.size := by omega
          have : m2 = m := (List.getElem?_inj (List.getElem?_eq_some_iff.1 hm2).1 cn).1 (hm2.trans hm'.symm)
          subst this
          simp [hlt]
        · rw [getD_set_ne false e, hck m2 i2 hm2]
          constructor
          · intro h; omega
          · intro h
            rcases Nat.lt_or_ge m2 m with h' | h'
            · exact h'
            · have : m2 = m := by omega
              subst this
              rw [hm2] at hm'
              simp at hm'
              exact absurd hm'.symm e
      · rw [if_neg hic] at hsk
        refine ⟨k, hk, hsk, fun m2 i2 hm2 => ?_⟩
        rw [getD_set_ne false (fun e => hic (by subst e; exact List.mem_of_getElem? hm2)), hck m2 i2 hm2]
  · intro listed a' w' ⟨h1, h2, h3, h4, hS, k, hk, hst, hck⟩ hr
    have hall := all_listed hB h1 hr
    have hke : k = calls.length := by
      rcases Nat.lt_or_ge k calls.length with h | h
      · have := (hck k _ (List.getElem?_eq_getElem h)).1 (hall _ (cl _ (List.getElem_mem h)))
        omega
      · omega
    subst hke
    exact done a' w' h2 h3 hst (fun j hj => h4 j (hall j hj))
  · simp [lefts]
  · have none : ∀ j, ¬ (Array.replicate l.length false).getD j false = true := fun j hj => by
      simp only [Array.getD_eq_getD_getElem?, Array.getElem?_replicate] at hj
      split at hj <;> simp at hj
    exact ⟨by simp, ⟨rfl, rfl, fun _ _ => rfl⟩, Rdrew, fun j hj => (none j hj).elim, fun i o _ hl => (none i hl).elim, 0, Nat.zero_le _, st0, fun m i _ => ⟨fun h => (none i h).elim, fun h => by omega⟩⟩
end

#print axioms wp_region_chain
end Go.Proofs.Ytdgmlopaeonacaa

namespace Go.Proofs.Ytdgmlopaeonacaa
set_option linter.unusedVariables false
set_option linter.unusedSimpArgs false
open Go.RowKit
set_option linter.unusedVariables false
set_option linter.unusedSimpArgs false

section
variable {P : Program} {ops : Array Oper} {Q : Exit → Act → World → Prop}

/-- Behind an operation. -/
def Left2 (R Rc : World → World → Prop) (St : Nat → World → Prop) (T : Nat → Nat → Value → World → Prop) (calls : List Nat) (i : Nat) (o : Oper) (k : Nat) (a' : Act) (w' : World) (a'' : Act) (w'' : World) : Prop :=
  ∃ v, a'' = a'.put o.dst v ∧ T (if i ∈ calls then k + 1 else k) i v w'' ∧ (i ∉ calls → R w' w'') ∧ (i ∈ calls → Rc w' w'') ∧ St (if i ∈ calls then k + 1 else k) w''

/-- An operation, shown once. -/
def Step2 (P : Program) (Q : Exit → Act → World → Prop) (l : List Oper) (RO R Rc : World → World → Prop) (St : Nat → World → Prop) (T : Nat → Nat → Value → World → Prop) (calls : List Nat) (a : Act) (w : World) (i : Nat) (o : Oper) : Prop :=
  ∀ a' w' k, Base l a a' → RO w w' → St k w' → (∀ m, calls[m]? = some i → m = k) → (∀ m j, calls[m]? = some j → Path l j i → k ≤ m) → (∀ m j, calls[m]? = some j → Path l i j → m < k) → (∀ j, depB o j = true → Held l (T k) a' w' j) →
    Region.wanted o (yielded l.toArray a'.tmps) = true ∧ o.wp P a' w' (Left2 R Rc St T calls i o k a' w') Q

def Steps2 (P : Program) (Q : Exit → Act → World → Prop) (l : List Oper) (RO R Rc : World → World → Prop) (St : Nat → World → Prop) (T : Nat → Nat → Value → World → Prop) (calls : List Nat) (a : Act) (w : World) : Nat → List Oper → Prop
  | _, [] => True
  | i, o :: r => Step2 P Q l RO R Rc St T calls a w i o ∧ Steps2 P Q l RO R Rc St T calls a w (i + 1) r

theorem Steps2.get {l : List Oper} {RO R Rc : World → World → Prop} {St : Nat → World → Prop} {T : Nat → Nat → Value → World → Prop} {calls : List Nat} {a : Act} {w : World} {k : Nat} {r : List Oper} (h : Steps2 P Q l RO R Rc St T calls a w k r) {i : Nat} {o : Oper} (ho : r[i]? = some o) : Step2 P Q l RO R Rc St T calls a w (k + i) o := by
  induction r generalizing k i with
  | nil => simp at ho
  | cons x r ih =>
    cases i with
    | zero => simp at ho; subst ho; exact h.1
    | succ i =>
      simp at ho
      have := ih h.2 ho
      rwa [show k + 1 + i = k + (i + 1) by omega] at this

/-- THE RULE. -/
theorem wp_region_chain2 {id : Nat} {l : List Oper} {a : Act} {w : World} (hm : P.follows .mixedOrders = true) (hB : backB l 0 = true) (nd : (dsts l).Nodup) (hd : ∀ d ∈ dsts l, d < a.tmps.size)
    (RO R Rc : World → World → Prop) (Rdrew : RO w w.drew) (Rtrans : ∀ a b c, RO a b → RO b c → RO a c) (r1 : ∀ a b, R a b → RO a b) (r2 : ∀ a b, Rc a b → RO a b)
    (T : Nat → Nat → Value → World → Prop) (mono : ∀ k i v w1 w2, T k i v w1 → R w1 w2 → T k i v w2) (monoC : ∀ k i v w1 w2, T k i v w1 → Rc w1 w2 → T (k + 1) i v w2)
    (calls : List Nat) (cn : calls.Nodup) (cl : ∀ i ∈ calls, i < l.length) (cp : ∀ k i j, calls[k]? = some i → calls[k + 1]? = some j → Path l j i) (St : Nat → World → Prop) (st0 : St 0 w.drew)
    (steps : Steps2 P Q l RO R Rc St T calls a w 0 l)
    (done : ∀ a' w', Base l a a' → RO w w' → St calls.length w' → (∀ j, j < l.length → Held l (T calls.length) a' w' j) → Q .normal a' w') : (Code.region id l.toArray true).wp P Q a w := by
  refine wp_region_any hm ?_
  have hsz : l.toArray.size = l.length := by simp
  rw [hsz]
  let I : Array Bool → Act → World → Prop := fun listed a' w' => listed.size = l.length ∧ Base l a a' ∧ RO w w' ∧ Shut l listed ∧
    ∃ k, (∀ j, listed.getD j false = true → Held l (T k) a' w' j) ∧ k ≤ calls.length ∧ St k w' ∧ ∀ m i, calls[m]? = some i → (listed.getD i false = true ↔ m < k)
  refine wpAny_inv I ?_ ?_ _ _ _ _ ?_ ?_
  · intro listed a' w' i ⟨h1, h2, h3, hS, k, h4, hk, hst, hck⟩ hi
    obtain ⟨h5, o, ho, h6⟩ := mem_ready.1 hi
    have ho' : l[i]? = some o := by simpa using ho
    have hil : i < l.length := (List.getElem?_eq_some_iff.1 ho').1
    have hdep : ∀ j, depB o j = true → listed.getD j false = true := fun j hj => by
      unfold depB at hj
      rw [← Array.any_toList, List.any_eq_true] at hj
      obtain ⟨e, he', hb⟩ := hj
      have he : e ∈ o.after := by simpa using he'
      simp only [Bool.and_eq_true, beq_iff_eq] at hb
      rw [← hb.2]
      exact h6 e he hb.1
    have hni : listed.getD i false = false := by
      have hlt : i < listed.size := by omega
      simp [hlt] at h5 ⊢
      exact h5
    have hmk : ∀ m, calls[m]? = some i → m = k := fun m hm' => by
      have h7 : ¬ m < k := fun h => by rw [(hck m i hm').2 h] at hni; simp at hni
      rcases Nat.eq_zero_or_pos m with e | e
      · omega
      · obtain ⟨m', rfl⟩ : ∃ m', m = m' + 1 := ⟨m - 1, by omega⟩
        have hlt : m' < calls.length := by have := (List.getElem?_eq_some_iff.1 hm').1; omega
        have hp := cp m' _ i (List.getElem?_eq_getElem hlt) hm'
        have := hp.listed hS (fun o2 ho2 j hj => by rw [ho'] at ho2; simp at ho2; subst ho2; exact hdep j hj)
        have := (hck m' _ (List.getElem?_eq_getElem hlt)).1 this
        omega
    have hle : ∀ m j, calls[m]? = some j → Path l j i → k ≤ m := fun m j hmj hp => by
      rcases Nat.lt_or_ge m k with h | h
      · have hj := (hck m j hmj).2 h
        have := hp.listed hS (fun o2 ho2 x hx => hS j o2 ho2 hj x hx)
        rw [this] at hni
        simp at hni
      · exact h
    have hge : ∀ m j, calls[m]? = some j → Path l i j → m < k := fun m j hmj hp =>
      (hck m j hmj).1 (hp.listed hS (fun o2 ho2 x hx => by rw [ho'] at ho2; simp at ho2; subst ho2; exact hdep x hx))
    have hst' := steps.get ho'
    rw [Nat.zero_add] at hst'
    obtain ⟨hw, hwp⟩ := hst' a' w' k h2 h3 hst hmk hle hge (fun j hj => h4 _ (hdep j hj))
    unfold wpOp
    simp only [ho, hw, if_true]
    refine .inl (Oper.wp_mono ?_ hwp)
    rintro a'' w'' ⟨v, rfl, hT, hf, hfc, hsk⟩
    have hRO : RO w' w'' := by
      by_cases hic : i ∈ calls
      · exact r2 _ _ (hfc hic)
      · exact r1 _ _ (hf hic)
    have hold : ∀ j v, T k j v w' → T (if i ∈ calls then k + 1 else k) j v w'' := fun j v h => by
      by_cases hic : i ∈ calls
      · rw [if_pos hic]; exact monoC _ _ _ _ _ h (hfc hic)
      · rw [if_neg hic]; exact mono _ _ _ _ _ h (hf hic)
    refine ⟨by simp [h1], ⟨?_, ?_, fun s hs => ?_⟩, Rtrans _ _ _ h3 hRO, ?_, (if i ∈ calls then k + 1 else k), fun j hj d hdj => ?_, ?_⟩
    · cases hdst : o.dst with
      | none => exact h2.size
      | some d => simp [Act.put, h2.size]
    · cases hdst : o.dst with
      | none => exact h2.defers
      | some d => exact h2.defers
    · cases hdst : o.dst with
      | none => exact h2.old s hs
      | some d =>
        rw [put_getD (fun e => hs (by rw [← e]; exact mem_dsts ho' hdst))]
        exact h2.old s hs
    · intro i2 o2 ho2 hl2 j hj
      have grow : ∀ x, listed.getD x false = true → (listed.setIfInBounds i true).getD x false = true := fun x hx => by
        by_cases e : i = x
        · subst e
          have hlt : i < listed.size := by omega
          simp [hlt]
        · rw [getD_set_ne false e]; exact hx
      by_cases e : i = i2
      · subst e
        rw [ho'] at ho2
        simp at ho2
        subst ho2
        exact grow j (hdep j hj)
      · rw [getD_set_ne false e] at hl2
        exact grow j (hS i2 o2 ho2 hl2 j hj)
    · obtain ⟨oj, hoj, hdj'⟩ : ∃ oj, l[j]? = some oj ∧ oj.dst = some d := by
        cases hc : l[j]? with
        | none => rw [hc] at hdj; simp at hdj
        | some oj => rw [hc] at hdj; exact ⟨oj, rfl, by simpa using hdj⟩
      by_cases e : i = j
      · subst e
        rw [ho'] at hoj
        simp at hoj
        subst hoj
        rw [hdj', put_self (by rw [h2.size]; exact hd d (mem_dsts ho' hdj'))]
        exact hT
      · rw [getD_set_ne false e] at hj
        have hold' := hold _ _ (h4 j hj d hdj)
        cases hdst : o.dst with
        | none => exact hold'
        | some d' =>
          rw [put_getD (fun e2 => e (dsts_inj nd ho' hoj (by rw [hdst, e2]) hdj'))]
          exact hold'
    · by_cases hic : i ∈ calls
      · obtain ⟨m, hm'⟩ := List.getElem?_of_mem hic
        have hmk' := hmk m hm'
        subst hmk'
        rw [if_pos hic] at hsk ⊢
        have hml : m < calls.length := (List.getElem?_eq_some_iff.1 hm').1
        refine ⟨by omega, hsk, fun m2 i2 hm2 => ?_⟩
        by_cases e : i = i2
        · subst e
          have hlt : i < listed.size := by omega
          have : m2 = m := (List.getElem?_inj (List.getElem?_eq_some_iff.1 hm2).1 cn).1 (hm2.trans hm'.symm)
          subst this
          simp [hlt]
        · rw [getD_set_ne false e, hck m2 i2 hm2]
          constructor
          · intro h; omega
          · intro h
            rcases Nat.lt_or_ge m2 m with h' | h'
            · exact h'
            · have : m2 = m := by omega
              subst this
              rw [hm2] at hm'
              simp at hm'
              exact absurd hm'.symm e
      · rw [if_neg hic] at hsk ⊢
        refine ⟨hk, hsk, fun m2 i2 hm2 => ?_⟩
        rw [getD_set_ne false (fun e => hic (by subst e; exact List.mem_of_getElem? hm2)), hck m2 i2 hm2]
  · intro listed a' w' ⟨h1, h2, h3, hS, k, h4, hk, hst, hck⟩ hr
    have hall := all_listed hB h1 hr
    have hke : k = calls.length := by
      rcases Nat.lt_or_ge k calls.length with h | h
      · have := (hck k _ (List.getElem?_eq_getElem h)).1 (hall _ (cl _ (List.getElem_mem h)))
        omega
      · omega
    subst hke
    exact done a' w' h2 h3 hst (fun j hj => h4 j (hall j hj))
  · simp [lefts]
  · have none : ∀ j, ¬ (Array.replicate l.length false).getD j false = true := fun j hj => by
      simp only [Array.getD_eq_getD_getElem?, Array.getElem?_replicate] at hj
      split at hj <;> simp at hj
    exact ⟨by simp, ⟨rfl, rfl, fun _ _ => rfl⟩, Rdrew, fun i o _ hl => (none i hl).elim, 0, fun j hj => (none j hj).elim, Nat.zero_le _, st0, fun m i _ => ⟨fun h => (none i h).elim, fun h => by omega⟩⟩
end

end Go.Proofs.Ytdgmlopaeonacaa

namespace Go.Proofs.Ytdgmlopaeonacaa
set_option linter.unusedVariables false
set_option linter.unusedSimpArgs false
open Go.RowKit
set_option linter.unusedVariables false

attribute [local go_sem ↓] Go.wp_at_zero Go.wp_at_succ

/-- Bytes lie at block p, from its first cell on. -/
def BAt (w : World) (p : Nat) (l : List UInt8) : Prop := w.heap[p]? = some (.cells (bvs l).toArray 5 (0, 0))

theorem BAt.kept {S : Nat → Prop} {w w' : World} {p : Nat} {l : List UInt8} (h : BAt w p l) (f : Fr S w w') (hs : ¬ S p) : BAt w' p l := by
  unfold BAt at *
  rw [f.block p (lt_of_heap h) hs]; exact h

theorem BAt.cell {w : World} {p : Nat} {l : List UInt8} (h : BAt w p l) (j : Nat) (hj : j < l.length) : w.cell? ⟨p, j, none⟩ = some (.int .u8 (((l[j]).toNat : Nat) : Int)) := by
  rw [cell_of_heap h]
  simpa using bvs_get l j hj

theorem BAt.frozen {w : World} {p : Nat} {l : List UInt8} (h : BAt w p l) (j : Nat) : w.frozen? ⟨p, j, none⟩ = false := frozen_of_heap h j

theorem bvs_set (l : List UInt8) (i : Nat) (b : UInt8) : (bvs l).toArray.setIfInBounds i (.int .u8 ((b.toNat : Nat) : Int)) = (bvs (l.set i b)).toArray := by
  rw [List.setIfInBounds_toArray]
  simp [bvs, List.map_set]

theorem BAt.set {w : World} {p : Nat} {l : List UInt8} (h : BAt w p l) (i : Nat) (b : UInt8) : BAt (w.setCell ⟨p, i, none⟩ (.int .u8 ((b.toNat : Nat) : Int))) p (l.set i b) := by
  unfold BAt at *
  rw [← bvs_set]
  exact heap_setCell_same w p i _ 5 _ h

theorem BAt.rd {w : World} {p : Nat} {l : List UInt8} (h : BAt w p l) (hl : l.length ≤ maxLen) : Rd w (.slice (some ⟨p, 0, none⟩) l.length l.length) l :=
  Rd.lit rfl (Nat.le_refl _) hl fun j hj => by rw [Nat.zero_add]; exact h.cell j hj

theorem made_bytes (n : Nat) : madeCells (Value.int .u8 0).cells (n * 1) = (bvs (List.replicate n 0)).toArray := by
  apply Array.ext
  · simp [bvs, size_madeCells]
  · intro i h1 h2
    simp [bvs, madeCells, Value.cells, Nat.mod_one]

theorem Try.info5 : (Try.prog.info? 5).map (fun i => (i.zero, i.size, i.bytes)) = some (some (.int .u8 0), 1, 1) := by kernel_rfl

theorem run_make5 (n : Nat) (hn : n ≤ 140737488355328) (w : World) : (Instr.makeSlice 37 (.int .i64 (n : Int)) (.int .i64 (n : Int))).run Try.prog w = .ok (.slice (some ⟨w.heap.size, 0, none⟩) n n) (w.alloc (.cells (bvs (List.replicate n 0)).toArray 5)) := by
  obtain ⟨i, hi, hz0, hz1, hz2⟩ := info_parts Try.info5
  have := run_make (P := Try.prog) w 37 5 i _ Try.underlying37 hi hz0 .i64 .i64 (n : Int) (n : Int) (by omega) (Int.le_refl _) (by rw [hz2]; omega) (by omega)
  rw [this, hz1, Int.toNat_natCast, made_bytes]

/-- A block of elements of this type. -/
def TyAt (w : World) (b t : Nat) : Prop := ∃ cs, w.heap[b]? = some (.cells cs t (0, 0))

theorem TyAt.kept {w w' : World} {b t : Nat} (h : TyAt w b t) (f : Fr (fun _ => False) w w') : TyAt w' b t := by
  obtain ⟨cs, h⟩ := h
  exact ⟨cs, by rw [f.block b (lt_of_heap h) id]; exact h⟩

theorem TyAt.ne {w : World} {b c s t : Nat} (h : TyAt w b s) (k : TyAt w c t) (hst : s ≠ t) : b ≠ c := by
  obtain ⟨cs, h⟩ := h
  obtain ⟨ds, k⟩ := k
  rintro rfl
  rw [h] at k
  simp at k
  exact hst k.2

theorem TyAt.setCell {w : World} {b t : Nat} (h : TyAt w b t) (g i : Nat) (u : Value) : TyAt (w.setCell ⟨g, i, none⟩ u) b t := by
  obtain ⟨cs, h⟩ := h
  by_cases e : b = g
  · subst e
    exact ⟨_, heap_setCell_same w b i cs t u h⟩
  · exact ⟨cs, by rw [Below.heap_setCell _ _ _ _ e]; exact h⟩

theorem owns_new {w : World} {b : Nat} (hb : w.heap[b]? = some (.cells #[] 5 (0, 0))) : w.ownsRow 0 5 1 (.slice (some ⟨b, 0, none⟩) 0 0) 0 [] :=
  ⟨rfl, .inr ⟨b, 0, #[], rfl, Nat.zero_le _, hb, Nat.le_refl _, by simp [maxLen], rfl, rfl⟩⟩

theorem owns_kept {S : Nat → Prop} {w w' : World} {e : TypeId} {size : Nat} {v : Value} {n : Nat} {xs : List Value} (h : w.ownsRow 0 e size v n xs) (f : Fr S w w') (hS : ∀ k, v.ownBlock = some k → ¬ S k) : w'.ownsRow 0 e size v n xs := by
  refine ⟨h.1, ?_⟩
  rcases h.2 with h4 | ⟨g, cap, cur, rfl, hb, hg, r⟩
  · exact .inl h4
  · exact .inr ⟨g, cap, cur, rfl, hb, by rw [f.block g (lt_of_heap hg) (hS g rfl)]; exact hg, r⟩

theorem owns_nil (w : World) : w.ownsRow 0 5 1 (.slice none 0 0) 0 [] := ⟨rfl, .inl ⟨rfl, rfl⟩⟩

theorem one_cellV (w : World) (x : Value) (e : TypeId) : Sr (w.alloc (Obj.cells #[x] e)) 1 (.slice (some ⟨w.heap.size, 0, none⟩) 1 1) 1 [x] := by
  refine .inr ⟨_, _, rfl, rfl, fun j u hu => ?_⟩
  rw [Addr.add_lit, Nat.zero_add, cell_of_heap (heap_alloc_new w _)]
  simpa using hu

theorem owns_nilE (w : World) (e : TypeId) : w.ownsRow 0 e 1 (.slice none 0 0) 0 [] := ⟨rfl, .inl ⟨rfl, rfl⟩⟩

theorem own_len (ao : Option Addr) (n c n' c' : Nat) : (Value.slice ao n c).ownBlock = (Value.slice ao n' c').ownBlock := by cases ao <;> rfl

theorem owns_cap {w : World} {e : TypeId} {ao : Option Addr} {n m cap : Nat} {xs : List Value} (h : w.ownsRow 0 e 1 (.slice ao n cap) m xs) : n ≤ cap := by
  rcases h.2 with ⟨hv, -⟩ | ⟨g, cap', cur, hv, -, -, hnc, -⟩
  · simp only [Value.slice.injEq] at hv
    omega
  · simp only [Value.slice.injEq] at hv
    omega

theorem grown_fr {wr W w1 : World} {row : Option Nat} (hW : Fr (fun _ => False) wr W) (hg : W.grownBy w1 row) (hrow : ∀ k, row = some k → wr.heap.size ≤ k) : Fr (fun _ => False) wr w1 :=
  hW.grown hg (fun k hk e => absurd (hrow k e) (by omega))

theorem bat_new (w : World) (l : List UInt8) : BAt (w.alloc (Obj.cells (bvs l).toArray 5)) w.heap.size l := heap_alloc_new w _

/-- make([]byte, n): the new world by a name of its own. -/
theorem mk_any (w : World) (n : Nat) (hn : n ≤ 100000) : ∃ w1, (Instr.makeSlice 37 (.int .i64 (n : Int)) (.int .i64 (n : Int))).run Try.prog w = .ok (.slice (some ⟨w.heap.size, 0, none⟩) n n) w1 ∧ BAt w1 w.heap.size (List.replicate n 0) ∧ Fr (fun _ => False) w w1 :=
  ⟨_, run_make5 n (by omega) w, bat_new w _, (Fr.refl _ _).alloc _⟩

/-- copy, as far as there is room. -/
theorem copy_min (w : World) (g o dLen dCap : Nat) (dao : Option Addr) (A : List UInt8) (x : Value) (cs : List UInt8) (hd : 0 < dLen → dao = some ⟨g, o, none⟩) (hA : BAt w g A) (hx : Rd w x cs) (hfit : o + dLen ≤ A.length) :
    ∃ w', (Builtin.copy_ #[37, 37] 3 #[.slice dao dLen dCap, x]).run Try.prog w = .ok (.int .i64 ((min cs.length dLen : Nat) : Int)) w' ∧ BAt w' g (A.take o ++ cs.take dLen ++ A.drop (o + min cs.length dLen)) ∧ Fr (fun b => b = g) w w' := by
  obtain ⟨ao, cap, rfl⟩ := hx.shape
  by_cases h0 : 0 < min cs.length dLen
  · obtain ⟨b, so, rfl, -, h1, h2, h3⟩ := hx.lits (by omega)
    have hdl : 0 < dLen := by omega
    rw [hd hdl]
    have hlt : (cs.take dLen).length = min cs.length dLen := by rw [List.length_take]; omega
    have := run_copy_row (P := Try.prog) w 37 37 3 5 g o dLen dCap ⟨b, so, none⟩ cs.length cap (bvs A).toArray 5 (bvs (cs.take dLen)) Try.underlying37 (by kernel_rfl) hA (by rw [bvs_length, hlt])
      (fun j v hv => by
        have hj : j < (cs.take dLen).length := by
          have := (List.getElem?_eq_some_iff.1 hv).1
          rwa [bvs_length] at this
        rw [Addr.add_lit, h3 j (by omega)]
        rw [bvs_get _ j hj] at hv
        rw [← hv, List.getElem_take]) (by rw [bvs_length, List.size_toArray, bvs_length]; omega) (bvs_one _)
    refine ⟨_, by rw [this, bvs_length, hlt]; rfl, ?_, ?_⟩
    · unfold BAt
      rw [setRow_heap w g _ _ _ _ hA]
      rw [← hlt]
      unfold bvs
      simp [List.map_take, List.map_drop]
    · exact ⟨rfl, rfl, rfl, by simp, fun k hk hs => setRow_other w g k _ hs⟩
  · have he : min cs.length dLen = 0 := by omega
    refine ⟨w, ?_, ?_, Fr.refl _ _⟩
    · have := run_copy_none (P := Try.prog) w 37 37 3 5 dao ao dLen dCap cs.length cap Try.underlying37 (by kernel_rfl) he
      rw [this, he]
      rfl
    · have e2 : cs.take dLen = [] := List.eq_nil_of_length_eq_zero (by rw [List.length_take]; omega)
      rw [he, e2]
      simpa using hA

theorem wp_copy {w : World} {o : Oper} {a : Act} {K : Act → World → Prop} {Q : Exit → Act → World → Prop} (s x : Operand)
    (ho : o.op = .call { callee := .builtin .copy, args := #[s, x], argTypes := #[37, 37] }) (hty : o.type = 3)
    (g of dLen dCap : Nat) (dao : Option Addr) (A : List UInt8) (xv : Value) (cs : List UInt8) (hs : a.eval s = .slice dao dLen dCap) (hxv : a.eval x = xv) (hd : 0 < dLen → dao = some ⟨g, of, none⟩) (hA : BAt w g A) (hx : Rd w xv cs) (hfit : of + dLen ≤ A.length)
    (h : ∀ w', BAt w' g (A.take of ++ cs.take dLen ++ A.drop (of + min cs.length dLen)) → Fr (fun b => b = g) w w' → K (a.put o.dst (.int .i64 ((min cs.length dLen : Nat) : Int))) w') : o.wp Try.prog a w K Q := by
  obtain ⟨w', hr, h2, h3⟩ := copy_min w g of dLen dCap dao A xv cs hd hA hx hfit
  unfold Oper.wp execOp
  simp only [ho, hty, resolve, invoke, builtin, Sem.run_bind, Sem.run_pure, Result.andThen_ok, List.map_toArray, List.map_cons, List.map_nil, hs, hxv, hr]
  exact h w' h2 h3

theorem step_copy {w : World} {ops : Array Oper} {o : Oper} {a : Act} {K : Act → World → Prop} {Q : Exit → Act → World → Prop} {E : Prop} (hgd : o.guard = none) (s x : Operand)
    (ho : o.op = .call { callee := .builtin .copy, args := #[s, x], argTypes := #[37, 37] }) (hty : o.type = 3)
    (g of dLen dCap : Nat) (dao : Option Addr) (A : List UInt8) (xv : Value) (cs : List UInt8) (hs : a.eval s = .slice dao dLen dCap) (hxv : a.eval x = xv) (hd : 0 < dLen → dao = some ⟨g, of, none⟩) (hA : BAt w g A) (hx : Rd w xv cs) (hfit : of + dLen ≤ A.length)
    (h : ∀ w', BAt w' g (A.take of ++ cs.take dLen ++ A.drop (of + min cs.length dLen)) → Fr (fun b => b = g) w w' → K (a.put o.dst (.int .i64 ((min cs.length dLen : Nat) : Int))) w') :
    if Region.wanted o (yielded ops a.tmps) = true then Oper.wp Try.prog o a w K Q else E := by
  have hw : Region.wanted o (yielded ops a.tmps) = true := by simp [Region.wanted, hgd]
  rw [if_pos hw]
  exact wp_copy s x ho hty g of dLen dCap dao A xv cs hs hxv hd hA hx hfit h

end Go.Proofs.Ytdgmlopaeonacaa
