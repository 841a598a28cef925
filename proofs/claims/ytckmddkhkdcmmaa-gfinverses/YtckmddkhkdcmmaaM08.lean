/-
  A rule for regions that draw their order, with matrices made and stored within; what may turn there: matrices that are newer than the region.
  A rule for a region that draws its order, whose last operation waits for all others: these turn nothing that was there, and are shown once each; the last one may store.
  More kinds of operations, over a frame of which only some slots are known: loads, addresses, sums.
-/
import Derived.Test.YtckmddkhkdcmmaaM06
import Derived.Test.YtckmddkhkdcmmaaM07
import Derived.Test.YtckmddkhkdcmmaaM01
namespace Go.Proofs.Ytckmddkhkdcmmaa
set_option linter.unusedVariables false
set_option linter.unusedSimpArgs false
open Go.RowKit
set_option linter.unusedVariables false
set_option linter.unusedSimpArgs false

attribute [local go_sem ↓] Go.wp_at_zero Go.wp_at_succ

/-- A piece of code by way of what it leaves. -/
theorem wp_via {P : Program} {x : Code} {Q : Exit → Act → World → Prop} {a : Act} {w : World} (K : Act → World → Prop) (h1 : x.wp P (Exit.then K (fun _ _ _ => False)) a w) (h2 : ∀ a w, K a w → Q .normal a w) : x.wp P Q a w :=
  Code.wp_mono (fun e a w h => by cases e <;> first | exact h.elim | exact h2 _ _ h) h1

section
variable {P : Program} {ops : Array Oper} {Q : Exit → Act → World → Prop}

/-- Behind an operation. -/
def LeftA (R : World → World → Prop) (St : Nat → Act → World → Prop) (T : Nat → Value → World → Prop) (calls : List Nat) (i : Nat) (o : Oper) (k : Nat) (a' : Act) (w' : World) (a'' : Act) (w'' : World) : Prop :=
  ∃ v, a'' = a'.put o.dst v ∧ T i v w'' ∧ R w' w'' ∧ St (if i ∈ calls then k + 1 else k) a'' w''

/-- An operation, shown once. -/
def StepA (P : Program) (Q : Exit → Act → World → Prop) (l : List Oper) (R : World → World → Prop) (St : Nat → Act → World → Prop) (T : Nat → Value → World → Prop) (calls : List Nat) (a : Act) (w : World) (i : Nat) (o : Oper) : Prop :=
  ∀ a' w' k, Base l a a' → R w w' → St k a' w' → (∀ m, calls[m]? = some i → m = k) → (∀ m c oc, calls[m]? = some c → l[c]? = some oc → depB oc i = true → k ≤ m) → (∀ j, depB o j = true → Held l T a' w' j) →
    (Region.wanted o (yielded l.toArray a'.tmps) = true ∧ o.wp P a' w' (LeftA R St T calls i o k a' w') Q) ∨ (Region.wanted o (yielded l.toArray a'.tmps) = false ∧ i ∉ calls ∧ T i undef w' ∧ R w' w' ∧ St k (a'.put o.dst undef) w')

def StepsA (P : Program) (Q : Exit → Act → World → Prop) (l : List Oper) (R : World → World → Prop) (St : Nat → Act → World → Prop) (T : Nat → Value → World → Prop) (calls : List Nat) (a : Act) (w : World) : Nat → List Oper → Prop
  | _, [] => True
  | i, o :: r => StepA P Q l R St T calls a w i o ∧ StepsA P Q l R St T calls a w (i + 1) r

theorem StepsA.get {l : List Oper} {R : World → World → Prop} {St : Nat → Act → World → Prop} {T : Nat → Value → World → Prop} {calls : List Nat} {a : Act} {w : World} {k : Nat} {r : List Oper} (h : StepsA P Q l R St T calls a w k r) {i : Nat} {o : Oper} (ho : r[i]? = some o) : StepA P Q l R St T calls a w (k + i) o := by
  induction r generalizing k i with
  | nil => simp at ho
  | cons x r ih =>
    cases i with
    | zero => simp at ho; subst ho; exact h.1
    | succ i =>
      simp at ho
      have := ih h.2 ho
      rwa [show k + 1 + i = k + (i + 1) by omega] at this

/-- THE RULE. -/
theorem wp_region_chainA {id : Nat} {l : List Oper} {a : Act} {w : World} (hm : P.follows .mixedOrders = true) (hB : backB l 0 = true) (nd : (dsts l).Nodup) (hd : ∀ d ∈ dsts l, d < a.tmps.size)
    (R : World → World → Prop) (Rdrew : R w w.drew) (Rtrans : ∀ a b c, R a b → R b c → R a c)
    (T : Nat → Value → World → Prop) (mono : ∀ i v w1 w2, T i v w1 → R w1 w2 → T i v w2)
    (calls : List Nat) (cn : calls.Nodup) (cl : ∀ i ∈ calls, i < l.length) (cp : ∀ k i j, calls[k]? = some i → calls[k + 1]? = some j → Path l j i) (St : Nat → Act → World → Prop) (st0 : St 0 a w.drew)
    (steps : StepsA P Q l R St T calls a w 0 l)
    (done : ∀ a' w', Base l a a' → R w w' → St calls.length a' w' → (∀ j, j < l.length → Held l T a' w' j) → Q .normal a' w') : (Code.region id l.toArray true).wp P Q a w := by
  refine wp_region_any hm ?_
  have hsz : l.toArray.size = l.length := by simp
  rw [hsz]
  let I : Array Bool → Act → World → Prop := fun listed a' w' => listed.size = l.length ∧ Base l a a' ∧ R w w' ∧ (∀ j, listed.getD j false = true → Held l T a' w' j) ∧ Shut l listed ∧
    ∃ k, k ≤ calls.length ∧ St k a' w' ∧ ∀ m i, calls[m]? = some i → (listed.getD i false = true ↔ m < k)
  refine wpAny_inv I ?_ ?_ _ _ _ _ ?_ ?_
  · intro listed a' w' i ⟨h1, h2, h3, h4, hS, k, hk, hst, hck⟩ hi
    obtain ⟨h5, o, ho, h6⟩ := mem_ready.1 hi
    have ho' : l[i]? = some o := by simpa using ho
    have hil : i < l.length := (List.getElem?_eq_some_iff.1 ho').1
    have hdep : ∀ j, depB o j = true → listed.getD j false = true := fun j hj => by
      unfold depB at hj
      rw [← Array.any_toList, List.any_eq_true] at hj
      obtain ⟨e, he', hb⟩ := hj
      have he : e ∈ o.after := by simpa using he'
      simp only [Bool.and_eq_true, beq_iff_eq] at hb
      rw [← hb.2]
      exact h6 e he hb.1
    have hni : listed.getD i false = false := by
      have hlt : i < listed.size := by omega
      simp [hlt] at h5 ⊢
      exact h5
    have hmk : ∀ m, calls[m]? = some i → m = k := fun m hm' => by
      have h7 : ¬ m < k := fun h => by rw [(hck m i hm').2 h] at hni; simp at hni
      rcases Nat.eq_zero_or_pos m with e | e
      · omega
      · obtain ⟨m', rfl⟩ : ∃ m', m = m' + 1 := ⟨m - 1, by omega⟩
        have hlt : m' < calls.length := by have := (List.getElem?_eq_some_iff.1 hm').1; omega
        have hp := cp m' _ i (List.getElem?_eq_getElem hlt) hm'
        have := hp.listed hS (fun o2 ho2 j hj => by rw [ho'] at ho2; simp at ho2; subst ho2; exact hdep j hj)
        have := (hck m' _ (List.getElem?_eq_getElem hlt)).1 this
        omega
    have hst' := steps.get ho'
    rw [Nat.zero_add] at hst'
    have hstep := hst' a' w' k h2 h3 hst hmk (fun m c oc hm' hoc hdc => by
      rcases Nat.lt_or_ge m k with h | h
      · have h8 := hS c oc hoc ((hck m c hm').2 h) i hdc
        rw [h8] at hni; simp at hni
      · exact h) (fun j hj => h4 _ (hdep j hj))
    suffices fin : ∀ a'' w'', LeftA R St T calls i o k a' w' a'' w'' → I (listed.setIfInBounds i true) a'' w'' by
      unfold wpOp
      rcases hstep with ⟨hw, hwp⟩ | ⟨hw, hic, hT, hR, hs⟩
      · simp only [ho, hw, if_true]
        exact .inl (Oper.wp_mono fin hwp)
      · simp only [ho, hw]
        exact fin _ _ ⟨undef, rfl, hT, hR, by rw [if_neg hic]; exact hs⟩
    rintro a'' w'' ⟨v, rfl, hT, hf, hsk⟩
    refine ⟨by simp [h1], ⟨?_, ?_, fun s hs => ?_⟩, Rtrans _ _ _ h3 hf, fun j hj d hdj => ?_, ?_, ?_⟩
    · cases hdst : o.dst with
      | none => exact h2.size
      | some d => simp [Act.put, h2.size]
    · cases hdst : o.dst with
      | none => exact h2.defers
      | some d => exact h2.defers
    · cases hdst : o.dst with
      | none => exact h2.old s hs
      | some d =>
        rw [put_getD (fun e => hs (by rw [← e]; exact mem_dsts ho' hdst))]
        exact h2.old s hs
    · obtain ⟨oj, hoj, hdj'⟩ : ∃ oj, l[j]? = some oj ∧ oj.dst = some d := by
        cases hc : l[j]? with
        | none => rw [hc] at hdj; simp at hdj
        | some oj => rw [hc] at hdj; exact ⟨oj, rfl, by simpa using hdj⟩
      by_cases e : i = j
      · subst e
        rw [ho'] at hoj
        simp at hoj
        subst hoj
        rw [hdj', put_self (by rw [h2.size]; exact hd d (mem_dsts ho' hdj'))]
        exact hT
      · rw [getD_set_ne false e] at hj
        have hold := mono _ _ _ _ (h4 j hj d hdj) hf
        cases hdst : o.dst with
        | none => exact hold
        | some d' =>
          rw [put_getD (fun e2 => e (dsts_inj nd ho' hoj (by rw [hdst, e2]) hdj'))]
          exact hold
    · intro i2 o2 ho2 hl2 j hj
      have grow : ∀ x, listed.getD x false = true → (listed.setIfInBounds i true).getD x false = true := fun x hx => by
        by_cases e : i = x
        · subst e
          have hlt : i < listed.size := by omega
          simp [hlt]
        · rw [getD_set_ne false e]; exact hx
      by_cases e : i = i2
      · subst e
        rw [ho'] at ho2
        simp at ho2
        subst ho2
        exact grow j (hdep j hj)
      · rw [getD_set_ne false e] at hl2
        exact grow j (hS i2 o2 ho2 hl2 j hj)
    · by_cases hic : i ∈ calls
      · obtain ⟨m, hm'⟩ := List.getElem?_of_mem hic
        have hmk' := hmk m hm'
        subst hmk'
        rw [if_pos hic] at hsk
        have hml : m < calls.length := (List.getElem?_eq_some_iff.1 hm').1
        refine ⟨m + 1, by omega, hsk, fun m2 i2 hm2 => ?_⟩
        by_cases e : i = i2
        · subst e
          have hlt : i < listed.size := by omega
          have : m2 = m := (List.getElem?_inj (List.getElem?_eq_some_iff.1 hm2).1 cn).1 (hm2.trans hm'.symm)
          subst this
          simp [hlt]
        · rw [getD_set_ne false e, hck m2 i2 hm2]
          constructor
          · intro h; omega
          · intro h
            rcases Nat.lt_or_ge m2 m with h' | h'
            · exact h'
            · have : m2 = m := by omega
              subst this
              rw [hm2] at hm'
              simp at hm'
              exact absurd hm'.symm e
      · rw [if_neg hic] at hsk
        refine ⟨k, hk, hsk, fun m2 i2 hm2 => ?_⟩
        rw [getD_set_ne false (fun e => hic (by subst e; exact List.mem_of_getElem? hm2)), hck m2 i2 hm2]
  · intro listed a' w' ⟨h1, h2, h3, h4, hS, k, hk, hst, hck⟩ hr
    have hall := all_listed hB h1 hr
    have hke : k = calls.length := by
      rcases Nat.lt_or_ge k calls.length with h | h
      · have := (hck k _ (List.getElem?_eq_getElem h)).1 (hall _ (cl _ (List.getElem_mem h)))
        omega
      · omega
    subst hke
    exact done a' w' h2 h3 hst (fun j hj => h4 j (hall j hj))
  · simp [lefts]
  · have none : ∀ j, ¬ (Array.replicate l.length false).getD j false = true := fun j hj => by
      simp only [Array.getD_eq_getD_getElem?, Array.getElem?_replicate] at hj
      split at hj <;> simp at hj
    exact ⟨by simp, ⟨rfl, rfl, fun _ _ => rfl⟩, Rdrew, fun j hj => (none j hj).elim, fun i o _ hl => (none i hl).elim, 0, Nat.zero_le _, st0, fun m i _ => ⟨fun h => (none i h).elim, fun h => by omega⟩⟩
end



/-- A block that bears a matrix. -/
def Mx (w : World) (b : Nat) : Prop := ∃ (r c : Int) (o : Option Addr) (n k : Nat), w.heap[b]? = some (.cells #[.int .i64 r, .int .i64 c, .slice o n k] 24 (0, 0))
/-- A block that may turn: it bears a matrix, or nothing. -/
def Mv (w : World) (b : Nat) : Prop := Mx w b ∨ ∃ e fr, w.heap[b]? = some (.cells #[] e fr)
theorem Mx.of {w : World} {b : Nat} {r c : Int} {o : Option Addr} {n k : Nat} (h : w.heap[b]? = some (.cells #[.int .i64 r, .int .i64 c, .slice o n k] 24 (0, 0))) : Mx w b := ⟨r, c, o, n, k, h⟩
theorem Mx.lt {w : World} {b : Nat} (h : Mx w b) : b < w.heap.size := by obtain ⟨_, _, _, _, _, h⟩ := h; exact lt_of_heap h
/-- Matrices, and rows of nothing, that are no older than N may turn, nothing else. -/
structure RM (N : Nat) (w w' : World) : Prop where
  os : w'.os = w.os
  tape : w'.tape = w.tape
  output : w'.output = w.output
  size : w.heap.size ≤ w'.heap.size
  block : ∀ k, k < w.heap.size → (k < N ∨ ¬ Mv w k) → w'.heap[k]? = w.heap[k]?
  mx : ∀ k, Mx w k → Mx w' k
theorem Mx.kept {w w' : World} {b : Nat} (h : Mx w b) (f : Fr (fun _ => False) w w') : Mx w' b := by
  obtain ⟨r, c, o, n, k, e⟩ := h
  exact ⟨r, c, o, n, k, (f.block _ (lt_of_heap e) id).trans e⟩
theorem Mv.back {w w' : World} {b : Nat} (h : Mv w' b) (e : w'.heap[b]? = w.heap[b]?) : Mv w b := by
  rcases h with ⟨r, c, o, n, k, e2⟩ | ⟨t, fr, e2⟩
  · exact .inl ⟨r, c, o, n, k, e.symm.trans e2⟩
  · exact .inr ⟨t, fr, e.symm.trans e2⟩
theorem RM.of_fr {N : Nat} {w w' : World} (f : Fr (fun _ => False) w w') : RM N w w' := ⟨f.os, f.tape, f.output, f.size, fun k hk _ => f.block k hk id, fun k hk => hk.kept f⟩
theorem RM.trans {N : Nat} {a b c : World} (h : RM N a b) (k : RM N b c) : RM N a c :=
  ⟨k.os.trans h.os, k.tape.trans h.tape, k.output.trans h.output, Nat.le_trans h.size k.size, fun i hi hs => by
    have e := h.block i hi hs
    refine (k.block i (Nat.lt_of_lt_of_le hi h.size) ?_).trans e
    rcases hs with hs | hs
    · exact .inl hs
    · exact .inr (fun hm => hs (hm.back e)), fun i hi => k.mx i (h.mx i hi)⟩
theorem RM.fr {N : Nat} {w w' : World} (h : RM N w w') (hN : w.heap.size ≤ N) : Fr (fun _ => False) w w' :=
  ⟨h.os, h.tape, h.output, h.size, fun k hk _ => h.block k hk (.inl (Nat.lt_of_lt_of_le hk hN))⟩
theorem notMv {w : World} {b i : Nat} {v : Value} (hc : w.cell? ⟨b, i, none⟩ = some v) (hv : ∀ e fr cs, w.heap[b]? = some (.cells cs e fr) → e ≠ 24 ∨ ∀ r c o n k, v ≠ .int .i64 r ∧ v ≠ .slice o n k ∧ v ≠ .int .i64 c) : ¬ Mv w b := by
  rintro (⟨r, c, o, n, k, e⟩ | ⟨t, fr, e⟩)
  · have h1 := cell_of_heap e i
    rw [hc] at h1
    rcases hv _ _ _ e with h2 | h2
    · exact h2 rfl
    · obtain ⟨q1, q2, q3⟩ := h2 r c o n k
      match i, h1 with
      | 0, h1 => simp at h1; exact q1 h1
      | 1, h1 => simp at h1; exact q3 h1
      | 2, h1 => simp at h1; exact q2 h1
      | i + 3, h1 => simp at h1
  · unfold World.cell? at hc
    rw [e] at hc
    simp at hc
theorem RM.rd {N : Nat} {w w' : World} {v : Value} {l : List UInt8} (h : Rd w v l) (f : RM N w w') : Rd w' v l := by
  rcases h with ⟨rfl, rfl⟩ | ⟨ad, cap, rfl, h1, h2, h3⟩
  · exact .inl ⟨rfl, rfl⟩
  · refine .inr ⟨ad, cap, rfl, h1, h2, fun j hj => ?_⟩
    have hc := h3 j hj
    rw [← hc]
    refine World.cell?_of_block (w := w) (f.block _ (World.block_lt_of_cell? w _ hc) (.inr ?_))
    have hs := World.cell?_spot hc
    generalize ad.add j = aj at hc hs
    obtain ⟨b, i, sp⟩ := aj
    simp only at hs
    subst hs
    exact notMv hc (fun _ _ _ _ => .inr (fun _ _ _ _ _ => ⟨by simp, by simp, by simp⟩))
/-- A row of values of type 3 that lasts. -/
def R3 (w : World) (v : Value) (xs : List Value) : Prop := RdV w v xs ∧ (xs = [] ∨ ∀ b, v.ownBlock = some b → ∃ cs fr, w.heap[b]? = some (.cells cs 3 fr))
theorem RM.r3 {N : Nat} {w w' : World} {v : Value} {l : List Value} (h : R3 w v l) (f : RM N w w') : R3 w' v l := by
  obtain ⟨h, hb⟩ := h
  rcases hb with rfl | hb
  · refine ⟨?_, .inl rfl⟩
    rcases h with ⟨rfl, -⟩ | ⟨ad, cap, rfl, h1, h2, h3⟩
    · exact .inl ⟨rfl, rfl⟩
    · exact .inr ⟨ad, cap, rfl, h1, h2, fun j hj => absurd hj (by simp)⟩
  · by_cases hl : l = []
    · subst hl
      refine ⟨?_, .inl rfl⟩
      rcases h with ⟨rfl, -⟩ | ⟨ad, cap, rfl, h1, h2, h3⟩
      · exact .inl ⟨rfl, rfl⟩
      · exact .inr ⟨ad, cap, rfl, h1, h2, fun j hj => absurd hj (by simp)⟩
    · rcases h with ⟨rfl, e⟩ | ⟨ad, cap, rfl, h1, h2, h3⟩
      · exact absurd e hl
      · have hl0 : 0 < l.length := List.length_pos_iff.2 hl
        have key : ∀ j (hj : j < l.length), w'.heap[(ad.add j).block]? = w.heap[(ad.add j).block]? := fun j hj => by
          have hc := h3 j hj
          have hs := World.cell?_spot hc
          refine f.block _ (World.block_lt_of_cell? w _ hc) (.inr ?_)
          obtain ⟨cs, fr, e⟩ := hb ad.block rfl
          rw [add_block]
          rintro (⟨r, c, o, n, k, e2⟩ | ⟨t, fr2, e2⟩)
          · rw [e] at e2; simp at e2
          · have hbk := add_block ad j
            generalize ad.add j = aj at hc hs hbk
            obtain ⟨b, i, sp⟩ := aj
            simp only at hs hbk
            subst hs
            subst hbk
            unfold World.cell? at hc
            rw [e2] at hc
            simp at hc
        refine ⟨.inr ⟨ad, cap, rfl, h1, h2, fun j hj => ?_⟩, .inr fun b hb' => ?_⟩
        · rw [← h3 j hj]
          exact World.cell?_of_block (w := w) (key j hj)
        · obtain ⟨cs, fr, e⟩ := hb b hb'
          have : (ad.add 0).block = b := by rw [add_block]; simpa [Value.ownBlock] using hb'
          have k0 := key 0 hl0
          rw [this] at k0
          exact ⟨cs, fr, k0.trans e⟩
theorem RM.of_grown {N q : Nat} {w w' : World} {e : TypeId} {fr : Nat × Nat} (hg : w.grownBy w' (some q)) (hq : w.heap[q]? = some (.cells #[] e fr)) (hN : N ≤ q) : RM N w w' :=
  ⟨hg.os, hg.tape, hg.output, hg.size, fun k hk hs => hg.block k hk (fun e2 => by
    simp at e2
    subst e2
    rcases hs with hs | hs
    · omega
    · exact hs (.inr ⟨e, fr, hq⟩)), fun k hk => by
      obtain ⟨r, c, o, n, m, e2⟩ := hk
      refine ⟨r, c, o, n, m, (hg.block k (lt_of_heap e2) (fun e3 => ?_)).trans e2⟩
      simp at e3
      subst e3
      rw [hq] at e2
      simp at e2⟩
theorem set3M {w : World} {A : Nat} {x y z : Value} (h : w.heap[A]? = some (.cells #[x, y, z] 24 (0, 0))) (u v t : Value) : (((w.setCell ⟨A, 0, none⟩ u).setCell ⟨A, 1, none⟩ v).setCell ⟨A, 2, none⟩ t).heap[A]? = some (.cells #[u, v, t] 24 (0, 0)) := by
  have h1 := heap_setCell_same w A 0 _ 24 u h
  have h2 := heap_setCell_same _ A 1 _ 24 v h1
  have h3 := heap_setCell_same _ A 2 _ 24 t h2
  simpa using h3
theorem RM.set {N : Nat} {w : World} {b : Nat} {r c : Int} {o : Option Addr} {n k : Nat} (hN : N ≤ b) (hm : Mx w b) : RM N w (((w.setCell ⟨b, 0, none⟩ (.int .i64 r)).setCell ⟨b, 1, none⟩ (.int .i64 c)).setCell ⟨b, 2, none⟩ (.slice o n k)) ∧ (((w.setCell ⟨b, 0, none⟩ (.int .i64 r)).setCell ⟨b, 1, none⟩ (.int .i64 c)).setCell ⟨b, 2, none⟩ (.slice o n k)).heap[b]? = some (.cells #[.int .i64 r, .int .i64 c, .slice o n k] 24 (0, 0)) := by
  have f := fr_three w b (.int .i64 r) (.int .i64 c) (.slice o n k)
  have hh : (((w.setCell ⟨b, 0, none⟩ (.int .i64 r)).setCell ⟨b, 1, none⟩ (.int .i64 c)).setCell ⟨b, 2, none⟩ (.slice o n k)).heap[b]? = some (.cells #[.int .i64 r, .int .i64 c, .slice o n k] 24 (0, 0)) := by
    obtain ⟨r1, c1, o1, n1, k1, e⟩ := hm
    exact set3M e _ _ _
  refine ⟨⟨f.os, f.tape, f.output, f.size, fun i hi hs => f.block i hi (fun e => ?_), fun i hi => ?_⟩, hh⟩
  · subst e
    rcases hs with hs | hs
    · omega
    · exact hs (.inl hm)
  · by_cases e : i = b
    · subst e; exact .of hh
    · obtain ⟨r1, c1, o1, n1, k1, e1⟩ := hi
      exact ⟨r1, c1, o1, n1, k1, (f.block i (lt_of_heap e1) (fun e2 => e e2)).trans e1⟩
section
variable {P : Program} {o : Oper} {a : Act} {w : World} {Q : Exit → Act → World → Prop} {R : World → World → Prop} {St : Nat → Act → World → Prop} {T : Nat → Value → World → Prop} {calls : List Nat} {i k : Nat}
theorem la_val (v : Value) (w2 : World) (hi : i ∉ calls) (h : (execOp a.eval o).run P w = .ok (.value v) w2) (hT : T i v w2) (hR : R w w2) (hs : St k (a.put o.dst v) w2) : o.wp P a w (LeftA R St T calls i o k a w) Q := by
  unfold Oper.wp
  rw [h, Oper.upon_value]
  exact ⟨v, rfl, hT, hR, by rw [if_neg hi]; exact hs⟩
theorem la_call (f : Nat) (args : Array Value) (hi : i ∉ calls) (h : (execOp a.eval o).run P w = .ok (.enter f args) w)
    (hc : Calls P f args w fun e w' => ∃ v, e = .returned v ∧ T i v w' ∧ R w w' ∧ St k (a.put o.dst v) w') : o.wp P a w (LeftA R St T calls i o k a w) Q := by
  unfold Oper.wp
  rw [h, Oper.upon_enter]
  refine hc.mono ?_
  rintro e w' ⟨v, rfl, hT, f, hs⟩
  exact ⟨v, rfl, hT, f, by rw [if_neg hi]; exact hs⟩
theorem la_store (w2 : World) (hi : i ∈ calls) (h : (execOp a.eval o).run P w = .ok .skip w2) (hT : T i undef w2) (hR : R w w2) (hs : St (k + 1) (a.put o.dst undef) w2) : o.wp P a w (LeftA R St T calls i o k a w) Q := by
  unfold Oper.wp
  rw [h, Oper.upon_skip]
  exact ⟨undef, rfl, hT, hR, by rw [if_pos hi]; exact hs⟩
end
/-- What an operation leaves, and that it lasts. -/
structure KV (R : World → World → Prop) where
  f : Value → World → Prop
  h : ∀ v a b, f v a → R a b → f v b
def KV.eq {R : World → World → Prop} (u : Value) : KV R := ⟨fun v _ => v = u, fun _ _ _ h _ => h⟩
def KV.any {R : World → World → Prop} : KV R := ⟨fun _ _ => True, fun _ _ _ h _ => h⟩
def Tw {R : World → World → Prop} (ks : List (KV R)) (i : Nat) (v : Value) (w : World) : Prop := match ks[i]? with
  | some k => k.f v w
  | none => True
theorem Tw.mono {R : World → World → Prop} (ks : List (KV R)) (i : Nat) (v : Value) (w1 w2 : World) (h : Tw ks i v w1) (r : R w1 w2) : Tw ks i v w2 := by
  unfold Tw at *
  split
  · rename_i k hk
    rw [hk] at h
    exact k.h _ _ _ h r
  · trivial
/-- A matrix, the cells of which can be read. -/
def KV.mat {N : Nat} (r c : Int) (l : List UInt8) : KV (RM N) := ⟨fun v w => ∃ o k, v = .agg #[.int .i64 r, .int .i64 c, .slice o l.length k] ∧ Rd w (.slice o l.length k) l, fun v a b h f => by obtain ⟨o, k, e, h⟩ := h; exact ⟨o, k, e, f.rd h⟩⟩
/-- A matrix, and an error. -/
def KV.mat2 {N : Nat} (r c : Int) (l : List UInt8) (E : Int) : KV (RM N) := ⟨fun v w => ∃ o k, v = .tuple #[.agg #[.int .i64 r, .int .i64 c, .slice o l.length k], .int .i64 E] ∧ Rd w (.slice o l.length k) l, fun v a b h f => by obtain ⟨o, k, e, h⟩ := h; exact ⟨o, k, e, f.rd h⟩⟩
def KV.by5 {N : Nat} (l : List UInt8) : KV (RM N) := ⟨fun v w => Rd w v l, fun v a b h f => f.rd h⟩
def KV.by2 {N : Nat} (l : List UInt8) (E : Int) : KV (RM N) := ⟨fun v w => ∃ u, v = .tuple #[u, .int .i64 E] ∧ Rd w u l, fun v a b h f => by obtain ⟨u, e, h⟩ := h; exact ⟨u, e, f.rd h⟩⟩
def KV.int3 {N : Nat} (l : List Value) : KV (RM N) := ⟨fun v w => R3 w v l, fun v a b h f => f.r3 h⟩
/-- A new block for a matrix. -/
def KV.box {N : Nat} : KV (RM N) := ⟨fun v w => ∃ b, v = .pointer (some ⟨b, 0, none⟩) ∧ N ≤ b ∧ Mx w b, fun v a b h f => by obtain ⟨x, e, hN, h⟩ := h; exact ⟨x, e, hN, f.mx x h⟩⟩
def KV.empty {N : Nat} (t e : TypeId) : KV (RM N) := ⟨fun v w => ∃ q, v = .slice (some ⟨q, 0, none⟩) 0 0 ∧ N ≤ q ∧ q < w.heap.size, fun v a b h f => by obtain ⟨x, e, hN, h⟩ := h; exact ⟨x, e, hN, Nat.lt_of_lt_of_le h f.size⟩⟩

theorem x_load24 {ρ : Operand → Value} {o : Oper} {w : World} {x : Operand} {b : Nat} {r c : Int} {so : Option Addr} {n k : Nat} (ho : o.op = .load 24 x) (hx : ρ x = .pointer (some ⟨b, 0, none⟩)) (h : w.heap[b]? = some (.cells #[.int .i64 r, .int .i64 c, .slice so n k] 24 (0, 0))) : (execOp ρ o).run Try.prog w = .ok (.value (.agg #[.int .i64 r, .int .i64 c, .slice so n k])) w := by
  have h0 := cell_of_heap h 0
  have h1 := cell_of_heap h 1
  have h2 := cell_of_heap h 2
  simp at h0 h1 h2
  simp [execOp, ho, hx, go_sem, h0, h1, h2]
theorem x_alloc24 {ρ : Operand → Value} {o : Oper} {w : World} (ho : o.op = .alloc 24) : (execOp ρ o).run Try.prog w = .ok (.value (.pointer (some ⟨w.heap.size, 0, none⟩))) (w.alloc (Obj.cells #[.int .i64 0, .int .i64 0, .slice none 0 0] 24)) := by
  simp [execOp, ho, go_sem]
theorem x_store24 {ρ : Operand → Value} {o : Oper} {w : World} {x y : Operand} {b : Nat} {r c : Int} {so : Option Addr} {n k : Nat} (ho : o.op = .store 24 x y) (hx : ρ x = .pointer (some ⟨b, 0, none⟩)) (hy : ρ y = .agg #[.int .i64 r, .int .i64 c, .slice so n k]) (hm : Mx w b) : (execOp ρ o).run Try.prog w = .ok .skip (((w.setCell ⟨b, 0, none⟩ (.int .i64 r)).setCell ⟨b, 1, none⟩ (.int .i64 c)).setCell ⟨b, 2, none⟩ (.slice so n k)) := by
  obtain ⟨r1, c1, o1, n1, k1, e⟩ := hm
  have h0 := cell_of_heap e 0
  have h1 := cell_of_heap e 1
  have h2 := cell_of_heap e 2
  have hf := frozen_of_heap e
  simp at h0 h1 h2
  simp [execOp, ho, hx, hy, go_sem, h0, h1, h2, hf]
theorem x_build25 {ρ : Operand → Value} {o : Oper} {w : World} (ho : o.op = .buildSlice 25 0 #[]) : (execOp ρ o).run Try.prog w = .ok (.value (.slice (some ⟨w.heap.size, 0, none⟩) 0 0)) (w.alloc (Obj.cells #[] 3)) := by
  simp [execOp, ho, go_sem]
theorem x_build22 {ρ : Operand → Value} {o : Oper} {w : World} (ho : o.op = .buildSlice 22 0 #[]) : (execOp ρ o).run Try.prog w = .ok (.value (.slice (some ⟨w.heap.size, 0, none⟩) 0 0)) (w.alloc (Obj.cells #[] 5)) := by
  simp [execOp, ho, go_sem]
theorem x_extract {ρ : Operand → Value} {o : Oper} {w : World} {x : Operand} {n : Nat} {vs : Array Value} {v : Value} (ho : o.op = .extract x n) (hx : ρ x = .tuple vs) (hv : vs[n]? = some v) : (execOp ρ o).run Try.prog w = .ok (.value v) w := by
  simp [execOp, ho, hx, go_sem, hv]
theorem x_not4 {ρ : Operand → Value} {o : Oper} {w : World} {x : Operand} {b : Bool} (ho : o.op = .unOp .not 4 x) (hx : ρ x = .bool b) : (execOp ρ o).run Try.prog w = .ok (.value (.bool (!b))) w := by
  simp [execOp, ho, hx, go_sem]
theorem x_cmp3 {ρ : Operand → Value} {o : Oper} {w : World} {x y : Operand} {n m : Int} {b : Bool} (ho : o.op = .binOp .neq 3 x y 3) (hx : ρ x = .int .i64 n) (hy : ρ y = .int .i64 m) (hb : (n != m) = b) : (execOp ρ o).run Try.prog w = .ok (.value (.bool b)) w := by
  subst hb; simp [execOp, ho, hx, hy, go_sem]
theorem x_eql3 {ρ : Operand → Value} {o : Oper} {w : World} {x y : Operand} {n m : Int} {b : Bool} (ho : o.op = .binOp .eql 3 x y 3) (hx : ρ x = .int .i64 n) (hy : ρ y = .int .i64 m) (hb : (n == m) = b) : (execOp ρ o).run Try.prog w = .ok (.value (.bool b)) w := by
  subst hb; simp [execOp, ho, hx, hy, go_sem]
theorem x_build24 {ρ : Operand → Value} {o : Oper} {w : World} (ho : o.op = .build 24 #[]) : (execOp ρ o).run Try.prog w = .ok (.value zV) w := by
  simp [execOp, ho, go_sem, zV]
theorem x_pickF {P : Program} {ρ : Operand → Value} {o : Oper} {w : World} {c x y : Operand} {v : Value} (ho : o.op = .pick c x y) (hc : ρ c = .bool false) (hx : ρ y = v) : (execOp ρ o).run P w = .ok (.value v) w := by
  subst hx; simp [execOp, ho, hc, go_sem]
theorem wanted_off {a : Act} {o : Oper} {l : List Oper} {j d : Nat} {b : Bool} {v : Value} (hg : o.guard = some (j, b)) (hd : (l[j]?).bind (·.dst) = some d) (hv : a.tmps.getD d undef = v) (hb : v = undef ∨ v = .bool (!b)) : Region.wanted o (yielded l.toArray a.tmps) = false := by
  have h1 : a.tmps[d]? = none ∨ a.tmps[d]? = some v := by
    rw [Array.getD_eq_getD_getElem?] at hv
    cases h : a.tmps[d]? with
    | none => exact .inl rfl
    | some v => rw [h] at hv; right; simpa using hv
  rcases hb with rfl | rfl <;> rcases h1 with h1 | h1 <;> cases b <;> simp [Region.wanted, hg, yielded, hd, h1, undef]
theorem wanted_on {a : Act} {o : Oper} {l : List Oper} {j d : Nat} {b : Bool} (hg : o.guard = some (j, b)) (hd : (l[j]?).bind (·.dst) = some d) (hlt : d < a.tmps.size) (hv : a.tmps.getD d undef = .bool b) : Region.wanted o (yielded l.toArray a.tmps) = true := by
  have h1 : a.tmps[d]? = some (.bool b) := by
    rw [Array.getD_eq_getD_getElem?, Array.getElem?_eq_getElem hlt] at hv
    rw [Array.getElem?_eq_getElem hlt]
    simpa using hv
  simp [Region.wanted, hg, yielded, hd, h1]
end Go.Proofs.Ytckmddkhkdcmmaa

namespace Go.Proofs.Ytckmddkhkdcmmaa
set_option linter.unusedVariables false
set_option linter.unusedSimpArgs false
open Go.RowKit
set_option linter.unusedVariables false

section
variable {P : Program} {Q : Exit → Act → World → Prop}

/-- Somebody behind waits for i. -/
def waitB (l : List Oper) (i : Nat) : Bool := (List.range l.length).any fun j => decide (i < j) && (match l[j]? with | some o => depB o i | none => false)
/-- For each but the last somebody behind waits. -/
def lastB (l : List Oper) : Bool := (List.range (l.length - 1)).all (waitB l)

theorem lastB_get {l : List Oper} (h : lastB l = true) {i : Nat} (hi : i < l.length - 1) : ∃ j o, i < j ∧ l[j]? = some o ∧ depB o i = true := by
  have := (List.all_eq_true.1 h) i (List.mem_range.2 hi)
  unfold waitB at this
  rw [List.any_eq_true] at this
  obtain ⟨j, hj, hb⟩ := this
  rw [Bool.and_eq_true] at hb
  cases e : l[j]? with
  | none => rw [e] at hb; simp at hb
  | some o => rw [e] at hb; exact ⟨j, o, by simpa using hb.1, e, hb.2⟩

/-- What is listed has what it waits for listed. -/
def Down (l : List Oper) (listed : Array Bool) : Prop := ∀ j o i, l[j]? = some o → listed.getD j false = true → depB o i = true → listed.getD i false = true

theorem depB_ready {l : List Oper} {listed : Array Bool} {i : Nat} {o : Oper} (ho : l[i]? = some o) (h6 : ∀ e ∈ o.after, Region.binds .any e = true → listed.getD e.on false = true) (j : Nat) (hj : depB o j = true) : listed.getD j false = true := by
  unfold depB at hj
  rw [← Array.any_toList, List.any_eq_true] at hj
  obtain ⟨e, he', hb⟩ := hj
  have he : e ∈ o.after := by simpa using he'
  simp only [Bool.and_eq_true, beq_iff_eq] at hb
  rw [← hb.2]
  exact h6 e he hb.1

/-- When the last one is ready all others are listed. -/
theorem all_before {l : List Oper} (hL : lastB l = true) {listed : Array Bool} (hd : Down l listed) {z : Oper} (hz : l[l.length - 1]? = some z) (hr : ∀ j, depB z j = true → listed.getD j false = true) : ∀ k i, l.length - 1 - i ≤ k → i < l.length - 1 → listed.getD i false = true := by
  intro k
  induction k with
  | zero => intro i h1 h2; omega
  | succ k ih =>
    intro i h1 h2
    obtain ⟨j, o, hij, ho, hdep⟩ := lastB_get hL h2
    have hjl := (List.getElem?_eq_some_iff.1 ho).1
    by_cases e : j = l.length - 1
    · rw [e, hz] at ho
      simp only [Option.some.injEq] at ho
      subst ho
      exact hr i hdep
    · exact hd j o i ho (ih j (by omega) (by omega)) hdep

/-- THE RULE. -/
theorem wp_region_last {id : Nat} {l : List Oper} {a : Act} {w : World} (hm : P.follows .mixedOrders = true) (hB : backB l 0 = true) (hL : lastB l = true) (nd : (dsts l).Nodup) (hd : ∀ d ∈ dsts l, d < a.tmps.size)
    (z : Oper) (hz : l[l.length - 1]? = some z)
    (T : Nat → Value → World → Prop) (mono : ∀ i v w1 w2, T i v w1 → Fr (fun _ => False) w1 w2 → T i v w2)
    (steps : Steps P Q l T a w 0 (l.take (l.length - 1)))
    (last : ∀ a' w', Base l a a' → Fr (fun _ => False) w w' → (∀ j, j < l.length - 1 → Held l T a' w' j) → Region.wanted z (yielded l.toArray a'.tmps) = true ∧ z.wp P a' w' (fun a'' w'' => Q .normal a'' w'') Q) : (Code.region id l.toArray true).wp P Q a w := by
  have hpos : 0 < l.length := by have := (List.getElem?_eq_some_iff.1 hz).1; omega
  refine wp_region_any hm ?_
  have hsz : l.toArray.size = l.length := by simp
  rw [hsz]
  let I : Array Bool → Act → World → Prop := fun listed a' w' => listed.size = l.length ∧ Down l listed ∧
    ((listed.getD (l.length - 1) false = false ∧ Base l a a' ∧ Fr (fun _ => False) w w' ∧ ∀ j, listed.getD j false = true → Held l T a' w' j) ∨ ((∀ j, j < l.length → listed.getD j false = true) ∧ Q .normal a' w'))
  refine wpAny_inv I ?_ ?_ _ _ _ _ ?_ ?_
  · intro listed a' w' i ⟨h1, hdn, hc⟩ hi
    obtain ⟨h5, o, ho, h6⟩ := mem_ready.1 hi
    have ho' : l[i]? = some o := by simpa using ho
    have hil : i < l.length := (List.getElem?_eq_some_iff.1 ho').1
    have hdep := depB_ready (l := l) (listed := listed) ho' h6
    rcases hc with ⟨hzn, h2, h3, h4⟩ | ⟨hall, -⟩
    · have hdn' : Down l (listed.setIfInBounds i true) := by
        intro j oj k hoj hj hk
        by_cases e : i = j
        · subst e
          rw [ho'] at hoj
          simp only [Option.some.injEq] at hoj
          subst hoj
          by_cases e2 : i = k
          · subst e2
            simp [show i < listed.size by omega]
          · rw [getD_set_ne false e2]; exact hdep k hk
        · rw [getD_set_ne false e] at hj
          by_cases e2 : i = k
          · subst e2
            simp [show i < listed.size by omega]
          · rw [getD_set_ne false e2]; exact hdn j oj k hoj hj hk
      by_cases hlast : i = l.length - 1
      · subst hlast
        rw [hz] at ho'
        simp only [Option.some.injEq] at ho'
        subst ho'
        have hb := all_before hL hdn hz hdep l.length
        obtain ⟨hw, hwp⟩ := last a' w' h2 h3 (fun j hj => h4 j (hb j (by omega) hj))
        unfold wpOp
        simp only [ho, hw, if_true]
        refine .inl (Oper.wp_mono ?_ hwp)
        intro a'' w'' hq
        refine ⟨by simp [h1], hdn', .inr ⟨fun j hj => ?_, hq⟩⟩
        by_cases e : l.length - 1 = j
        · subst e
          simp [show l.length - 1 < listed.size by omega]
        · rw [getD_set_ne false e]; exact hb j (by omega) (by omega)
      · have hst := steps.get (i := i) (o := o) (by rw [List.getElem?_take_of_lt (by omega)]; exact ho')
        rw [Nat.zero_add] at hst
        obtain ⟨hw, hwp⟩ := hst a' w' h2 h3 (fun j hj => h4 j (hdep j hj))
        unfold wpOp
        simp only [ho, hw, if_true]
        refine .inl (Oper.wp_mono ?_ hwp)
        rintro a'' w'' ⟨v, rfl, hT, hf⟩
        refine ⟨by simp [h1], hdn', .inl ⟨by rw [getD_set_ne false hlast]; exact hzn, ⟨?_, ?_, fun s hs => ?_⟩, h3.trans hf (fun _ _ h => h), fun j hj d hdj => ?_⟩⟩
        · cases hdst : o.dst with
          | none => exact h2.size
          | some d => simp [Act.put, h2.size]
        · cases hdst : o.dst with
          | none => exact h2.defers
          | some d => exact h2.defers
        · cases hdst : o.dst with
          | none => exact h2.old s hs
          | some d =>
            rw [put_getD (fun e => hs (by rw [← e]; exact mem_dsts ho' hdst))]
            exact h2.old s hs
        · obtain ⟨oj, hoj, hdj'⟩ : ∃ oj, l[j]? = some oj ∧ oj.dst = some d := by
            cases hc : l[j]? with
            | none => rw [hc] at hdj; simp at hdj
            | some oj => rw [hc] at hdj; exact ⟨oj, rfl, by simpa using hdj⟩
          by_cases e : i = j
          · subst e
            rw [ho'] at hoj
            simp at hoj
            subst hoj
            rw [hdj', put_self (by rw [h2.size]; exact hd d (mem_dsts ho' hdj'))]
            exact hT
          · rw [getD_set_ne false e] at hj
            have hold := mono _ _ _ _ (h4 j hj d hdj) hf
            cases hdst : o.dst with
            | none => exact hold
            | some d' =>
              rw [put_getD (fun e2 => e (dsts_inj nd ho' hoj (by rw [hdst, e2]) hdj'))]
              exact hold
    · have hl := hall i hil
      have hlt : i < listed.size := by omega
      simp [hlt] at h5 hl
      rw [h5] at hl
      exact absurd hl (by decide)
  · intro listed a' w' ⟨h1, hdn, hc⟩ hr
    rcases hc with ⟨hzn, -⟩ | ⟨-, hq⟩
    · have := all_listed hB h1 hr (l.length - 1) (by omega)
      rw [hzn] at this
      exact absurd this (by decide)
    · exact hq
  · simp [lefts]
  · have hfalse : ∀ j, (Array.replicate l.length false).getD j false = false := by
      intro j
      simp only [Array.getD_eq_getD_getElem?, Array.getElem?_replicate]
      split <;> simp
    refine ⟨by simp, fun j o i _ hj => ?_, .inl ⟨hfalse _, ⟨rfl, rfl, fun _ _ => rfl⟩, (Fr.refl _ w).drew, fun j hj => ?_⟩⟩
    · rw [hfalse] at hj; exact absurd hj (by decide)
    · rw [hfalse] at hj; exact absurd hj (by decide)
end

end Go.Proofs.Ytckmddkhkdcmmaa

namespace Go.Proofs.Ytckmddkhkdcmmaa
set_option linter.unusedVariables false
set_option linter.unusedSimpArgs false
open Go.RowKit
set_option linter.unusedVariables false

theorem wp_name' {P : Program} {C : Code} {Q : Exit → Act → World → Prop} {a : Act} {w : World} (h : ∀ a0, a0 = a → C.wp P Q a0 w) : C.wp P Q a w := h a rfl

section
variable {o : Oper} {w : World} {ρ : Operand → Value}

theorem ex_load5 {x : Operand} {ad : Addr} {v : Value} (ho : o.op = .load 5 x) (hx : ρ x = .pointer (some ad)) (hc : w.cell? ad = some v) : (execOp ρ o).run Try.prog w = .ok (.value v) w := by
  simp [execOp, ho, hx, hc, go_sem]
theorem ex_load22 {x : Operand} {ad : Addr} {v : Value} (ho : o.op = .load 22 x) (hx : ρ x = .pointer (some ad)) (hc : w.cell? ad = some v) : (execOp ρ o).run Try.prog w = .ok (.value v) w := by
  simp [execOp, ho, hx, hc, go_sem]
theorem ex_load3 {x : Operand} {ad : Addr} {v : Value} (ho : o.op = .load 3 x) (hx : ρ x = .pointer (some ad)) (hc : w.cell? ad = some v) : (execOp ρ o).run Try.prog w = .ok (.value v) w := by
  simp [execOp, ho, hx, hc, go_sem]
theorem ex_index22 {x y : Operand} {b of n c k : Nat} (ho : o.op = .indexAddr 22 x y) (hx : ρ x = .slice (some ⟨b, of, none⟩) n c) (hy : ρ y = .int .i64 (k : Int)) (hk : k < n) : (execOp ρ o).run Try.prog w = .ok (.value (.pointer (some ⟨b, of + k, none⟩))) w := by
  simp [execOp, ho, hx, hy, go_sem, hk]
theorem ex_index65 {x y : Operand} {b of n c k : Nat} (ho : o.op = .indexAddr 65 x y) (hx : ρ x = .slice (some ⟨b, of, none⟩) n c) (hy : ρ y = .int .i64 (k : Int)) (hk : k < n) : (execOp ρ o).run Try.prog w = .ok (.value (.pointer (some ⟨b, of + k, none⟩))) w := by
  simp [execOp, ho, hx, hy, go_sem, hk]
theorem ex_xor5 {x y : Operand} {a b : UInt8} (ho : o.op = .binOp .xor 5 x y 5) (hx : ρ x = .int .u8 ((a.toNat : Nat) : Int)) (hy : ρ y = .int .u8 ((b.toNat : Nat) : Int)) : (execOp ρ o).run Try.prog w = .ok (.value (.int .u8 (((a ^^^ b).toNat : Nat) : Int))) w := by
  have h := xorV a b
  simp only [execOp, ho]
  simp [hx, hy, go_sem, h]
theorem ex_nil {x : Operand} {ad : Addr} (ho : o.op = .nilCheck x) (hx : ρ x = .pointer (some ad)) : (execOp ρ o).run Try.prog w = .ok (.value (.pointer (some ad))) w := by
  simp [execOp, ho, hx, go_sem]
theorem ex_store5 {x y : Operand} {b i : Nat} {n : Int} {old : Value} (ho : o.op = .store 5 x y) (hx : ρ x = .pointer (some ⟨b, i, none⟩)) (hy : ρ y = .int .u8 n) (hc : w.cell? ⟨b, i, none⟩ = some old) (hf : w.frozen? ⟨b, i, none⟩ = false) : (execOp ρ o).run Try.prog w = .ok .skip (w.setCell ⟨b, i, none⟩ (.int .u8 n)) := by
  simp [execOp, ho, hx, hy, go_sem, hc, hf]
theorem wp_store5 {a : Act} {K : Act → World → Prop} {Q : Exit → Act → World → Prop} {x y : Operand} {b i : Nat} {n : Int} {old : Value} (ho : o.op = .store 5 x y) (hx : a.eval x = .pointer (some ⟨b, i, none⟩)) (hy : a.eval y = .int .u8 n) (hc : w.cell? ⟨b, i, none⟩ = some old) (hf : w.frozen? ⟨b, i, none⟩ = false) (h : K (a.put o.dst undef) (w.setCell ⟨b, i, none⟩ (.int .u8 n))) : o.wp Try.prog a w K Q := by
  unfold Oper.wp
  rw [ex_store5 ho hx hy hc hf, Oper.upon_skip]
  exact h
end

/-- The frame's slots, one by one. -/
def Slots (a : Act) : Nat → List Value → Prop
  | _, [] => True
  | i, v :: vs => a.tmps.getD i undef = v ∧ Slots a (i + 1) vs

theorem Slots.get {a : Act} {vs : List Value} {k : Nat} (h : Slots a k vs) (i : Nat) (hi : i < vs.length) : a.tmps.getD (k + i) undef = vs[i] := by
  induction vs generalizing k i with
  | nil => simp at hi
  | cons v vs ih =>
    cases i with
    | zero => exact h.1
    | succ i =>
      have := ih h.2 i (by simpa using hi)
      rw [show k + 1 + i = k + (i + 1) by omega] at this
      simpa using this

/-- A frame of which every slot is known is that frame. -/
theorem frame_eq {a : Act} {vs : List Value} (hs : a.tmps.size = vs.length) (hd : a.defers = []) (h : Slots a 0 vs) : a = { tmps := vs.toArray, defers := [] } := by
  obtain ⟨tm, df⟩ := a
  simp only at hs hd
  subst hd
  congr 1
  apply Array.ext
  · simpa using hs
  · intro i h1 h2
    have := h.get i (by simpa using h2)
    rw [Nat.zero_add] at this
    simp [h1] at this
    simpa using this

end Go.Proofs.Ytckmddkhkdcmmaa
