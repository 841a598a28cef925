/-
  Several disks that lie apart; plainly: what a crash may leave.
-/
import Derived.Test.YtdhendcogjhgfaaTurnsWalk
import Derived.Test.YtdhendcogjhgfaaOwnWalk
namespace Go.Proofs.Ytdhendcogjhgfaa
open Go.RowKit
set_option linter.unusedVariables false

abbrev Dx := Nat × Nat × Value × Dk
def KX (x : Dx) (b : Nat) : Prop := KB x.1 x.2.1 x.2.2.1 b

/-- Disks made since w, no two of which share a block; X: blocks that none of them has. -/
structure Ds (w W : World) (X : Nat → Prop) (L : List Dx) : Prop where
  nd : ∀ x ∈ L, Nd w W x.1 x.2.1 x.2.2.1 x.2.2.2
  ap : L.Pairwise fun x y => ∀ b, KX x b → ¬ KX y b
  xs : ∀ b, X b → b < W.heap.size ∧ ∀ x ∈ L, ¬ KX x b

theorem Ds.fr {w W W' : World} {X : Nat → Prop} {L : List Dx} (h : Ds w W X L) (f : Fr (fun _ => False) W W') : Ds w W' X L :=
  ⟨fun x hx => (h.nd x hx).fr f, h.ap, fun b hb => ⟨Nat.lt_of_lt_of_le (h.xs b hb).1 f.size, (h.xs b hb).2⟩⟩

theorem Ds.more {w W : World} {X Y : Nat → Prop} {L : List Dx} (h : Ds w W X L) (hy : ∀ b, Y b → b < W.heap.size ∧ ∀ x ∈ L, ¬ KX x b) : Ds w W (fun b => X b ∨ Y b) L :=
  ⟨h.nd, h.ap, fun b hb => hb.elim (h.xs b) (hy b)⟩

theorem Ds.lt {w W : World} {X : Nat → Prop} {L : List Dx} (h : Ds w W X L) {x : Dx} (hx : x ∈ L) {b : Nat} (hb : KX x b) : b < W.heap.size := (h.nd x hx).k.ltB hb

/-- What is new is no disk's. -/
theorem Ds.far {w W : World} {X : Nat → Prop} {L : List Dx} (h : Ds w W X L) {b : Nat} (hb : W.heap.size ≤ b) : ∀ x ∈ L, ¬ KX x b := fun x hx hk => by
  have := h.lt hx hk; omega

theorem Ds.add {w W W' : World} {X : Nat → Prop} {L : List Dx} {p g : Nat} {q : Value} {d : Dk} (h : Ds w W X L) (f0 : w.heap.size ≤ W.heap.size) (f : Fr (fun _ => False) W W') (fw : Fr (fun _ => False) w W) (k : KAt W' p g q d) (h1 : W.heap.size ≤ p) (h2 : W.heap.size ≤ g) (h3 : ∀ b, q.ownBlock = some b → W.heap.size ≤ b) : Ds w W' X (L ++ [(p, g, q, d)]) := by
  have hK : ∀ b, KX (p, g, q, d) b → W.heap.size ≤ b := fun b hb => by
    rcases hb with hb | hb | hb
    · rw [hb]; exact h1
    · rw [hb]; exact h2
    · exact h3 b hb
  have h' := h.fr f
  refine ⟨fun x hx => ?_, ?_, fun b hb => ⟨(h'.xs b hb).1, fun x hx => ?_⟩⟩
  · rcases List.mem_append.1 hx with hx | hx
    · exact h'.nd x hx
    · simp at hx
      subst hx
      exact ⟨k, fw.trans f (fun _ _ h => h), fun b hb => Nat.le_trans f0 (h3 b hb), Nat.le_trans f0 h1, Nat.le_trans f0 h2⟩
  · rw [List.pairwise_append]
    refine ⟨h.ap, List.pairwise_singleton _ _, fun x hx y hy b hb hy' => ?_⟩
    simp at hy
    subst hy
    have := h.lt hx hb
    have := hK b hy'
    omega
  · rcases List.mem_append.1 hx with hx | hx
    · exact (h'.xs b hb).2 x hx
    · simp at hx
      subst hx
      intro hk
      have := hK b hk
      have := (h.xs b hb).1
      omega

theorem Ds.go {w W W' : World} {X : Nat → Prop} {A B : List Dx} {p g : Nat} {q q' : Value} {d d' : Dk} (h : Ds w W X (A ++ (p, g, q, d) :: B)) (n : Nd w W' p g q' d') (m : Mv W W' p g q q') : Ds w W' X (A ++ (p, g, q', d') :: B) := by
  obtain ⟨hA, hxB, hAB⟩ := List.pairwise_append.1 h.ap
  obtain ⟨hx, hB⟩ := List.pairwise_cons.1 hxB
  have hxm : (p, g, q, d) ∈ A ++ (p, g, q, d) :: B := by simp
  have hnx := h.nd _ hxm
  have hK : ∀ b, KX (p, g, q', d') b → KX (p, g, q, d) b ∨ W.heap.size ≤ b := fun b hb => by
    rcases hb with hb | hb | hb
    · exact .inl (.inl hb)
    · exact .inl (.inr (.inl hb))
    · rcases m.q b hb with h1 | h1
      · exact .inl (.inr (.inr h1))
      · exact .inr h1
  have hsep : ∀ y, y ∈ A ∨ y ∈ B → ∀ b, KX (p, g, q, d) b → ¬ KX y b := fun y hy b hb hk => by
    rcases hy with hy | hy
    · exact hAB y hy _ (by simp) b hk hb
    · exact hx y hy b hb hk
  have hold : ∀ y, y ∈ A ∨ y ∈ B → y ∈ A ++ (p, g, q, d) :: B := fun y hy => by
    rcases hy with hy | hy <;> simp [hy]
  have hkeep : ∀ y, y ∈ A ∨ y ∈ B → Nd w W' y.1 y.2.1 y.2.2.1 y.2.2.2 := fun y hy => by
    have hn := h.nd y (hold y hy)
    have hs := hsep y hy
    exact ⟨hn.k.kept m.f (fun t => hs _ t (.inl rfl)) (fun t => hs _ t (.inr (.inl rfl))) (fun b hb t => hs _ t (.inr (.inr hb))), hn.f.trans (hnx.mvS m) (fun i hi e => by omega), hn.hq, hn.hp, hn.hg⟩
  refine ⟨fun y hy => ?_, ?_, fun b hb => ⟨Nat.lt_of_lt_of_le (h.xs b hb).1 m.f.size, fun y hy => ?_⟩⟩
  · rcases List.mem_append.1 hy with hy | hy
    · exact hkeep y (.inl hy)
    · rcases List.mem_cons.1 hy with hy | hy
      · subst hy; exact n
      · exact hkeep y (.inr hy)
  · rw [List.pairwise_append, List.pairwise_cons]
    refine ⟨hA, ⟨fun y hy b hb hk => ?_, hB⟩, fun y hy z hz b hb hk => ?_⟩
    · rcases hK b hb with h1 | h1
      · exact hx y hy b h1 hk
      · have := h.lt (hold y (.inr hy)) hk; omega
    · rcases List.mem_cons.1 hz with hz | hz
      · subst hz
        rcases hK b hk with h1 | h1
        · exact hAB y hy _ (by simp) b hb h1
        · have := h.lt (hold y (.inl hy)) hb; omega
      · exact hAB y hy z (by simp [hz]) b hb hk
  · obtain ⟨x1, x2⟩ := h.xs b hb
    rcases List.mem_append.1 hy with hy | hy
    · exact x2 y (hold y (.inl hy))
    · rcases List.mem_cons.1 hy with hy | hy
      · subst hy
        intro hk
        rcases hK b hk with h1 | h1
        · exact x2 _ hxm h1
        · omega
      · exact x2 y (hold y (.inr hy))

/-- A disk with another room. -/
def setC (d : Dk) (c : Nat) (r : List Value) : Dk := { d with cap := c, rest := r }
theorem core_set {d e : Dk} (h : core e = core d) : e = setC d e.cap e.rest := by
  obtain ⟨h1, h2, h3, h4, h5⟩ := core_facts h
  obtain ⟨z, S, Q, o, n, c, r⟩ := d
  obtain ⟨z', S', Q', o', n', c', r'⟩ := e
  simp only at h1 h2 h3 h4 h5
  subst h1 h2 h3 h4 h5
  rfl
theorem crI_set (d : Dk) (c : Nat) (r : List Value) (K : List Bool) (i : Nat) : crI (setC d c r) K i = setC (crI d K i) c r := by
  induction i with
  | zero => rfl
  | succ i ih =>
    unfold crI
    rw [ih]
    split <;> rfl
theorem crD_set (d : Dk) (c : Nat) (r : List Value) (K : List Int) : crD (setC d c r) K = setC (crD d K) c r := by
  unfold crD
  have : (setC d c r).Q = d.Q := rfl
  rw [this, crI_set]
  rfl
theorem foldC (Q : List (Nat × List UInt8)) (d : Dk) (c : Nat) (r : List Value) : Q.foldl seW (setC d c r) = setC (Q.foldl seW d) c r := by
  induction Q generalizing d with
  | nil => rfl
  | cons q t ih => rw [List.foldl_cons, List.foldl_cons]; exact ih (seW d q)
theorem flD_set (d : Dk) (c : Nat) (r : List Value) : flD (setC d c r) = setC (flD d) c r := by
  unfold flD
  have h1 : (setC d c r).off = d.off := rfl
  have h2 : (setC d c r).Q = d.Q := rfl
  rw [h1, h2]
  split
  · rfl
  · unfold flI
    rw [h2, foldC]
    rfl

/-- All numbers kept: as if flushed. -/
theorem crI_all' (d : Dk) (K : List Bool) (i : Nat) (hi : i ≤ d.Q.length) (h : ∀ j, j < i → K.getD j false = true) : crI d K i = flI d i := by
  induction i with
  | zero => rfl
  | succ i ih =>
    unfold crI
    rw [if_pos (h i (by omega)), ih (by omega) (fun j hj => h j (by omega)), flI_succ d i (by omega)]
    simp [List.getD, show i < d.Q.length by omega]
theorem cr_all {d : Dk} (ho : d.off = false) : crD d (iz (List.range d.Q.length)) = flD d := by
  unfold crD flD
  rw [ho, if_neg (by decide), crI_all' d _ _ (Nat.le_refl _)]
  intro j hj
  have hl : (iz (List.range d.Q.length)).length = d.Q.length := by simp [iz]
  have : j < (kpI (iz (List.range d.Q.length)) d.Q.length (iz (List.range d.Q.length)).length).length := by simp [kpI]; exact hj
  simp only [List.getD, List.getElem?_eq_getElem this, Option.getD_some]
  simp only [kpI, List.getElem_map, List.getElem_range, List.take_length, List.any_eq_true]
  exact ⟨(j : Int), by simp only [iz, List.mem_map, List.mem_range]; exact ⟨j, hj, rfl⟩, by simp⟩
theorem crI_none (d : Dk) (K : List Bool) (h : ∀ j, K.getD j false = false) (i : Nat) : crI d K i = d := by
  induction i with
  | zero => rfl
  | succ i ih => unfold crI; rw [h i, if_neg (by decide), ih]
theorem cr_none (d : Dk) : crD d [] = emD d := by
  unfold crD
  rw [crI_none]
  intro j
  rw [show ([] : List Int).length = 0 from rfl, kpI_zero]
  simp only [List.getD]
  by_cases h : j < d.Q.length
  · simp [h]
  · simp [h]
theorem cr_empty {d : Dk} (h : d.Q = []) (K : List Int) : crD d K = d := by
  unfold crD
  rw [h]
  obtain ⟨z, S, Q, o, n, c, r⟩ := d
  simp only at h
  subst h
  rfl

/-- All or nothing: what was stable, or one of the writes. -/
theorem crI_some (d : Dk) (K : List Bool) (a : Nat) (j : Nat) (hj : j ≤ d.Q.length) : ((crI d K j).S.getD a ([], 0)).1 = (d.S.getD a ([], 0)).1 ∨ ∃ i, ∃ hi : i < d.Q.length, (d.Q[i]).1 = a ∧ (d.Q[i]).2 = ((crI d K j).S.getD a ([], 0)).1 := by
  induction j with
  | zero => exact .inl rfl
  | succ j ih =>
    have ih' := ih (by omega)
    unfold crI
    split
    · have hjl : j < d.Q.length := by omega
      have e : d.Q.getD j (0, []) = d.Q[j] := by simp [List.getD, hjl]
      rw [e]
      by_cases ha : (d.Q[j]).1 = a ∧ a < (crI d K j).S.length
      · right
        refine ⟨j, hjl, ha.1, ?_⟩
        simp [seW, List.getD, ha.1, ha.2]
      · have e2 : (seW (crI d K j) (d.Q[j])).S.getD a ([], 0) = (crI d K j).S.getD a ([], 0) := by
          unfold seW
          simp only [List.getD]
          by_cases h1 : (d.Q[j]).1 = a
          · have h2 : ¬ a < (crI d K j).S.length := fun h => ha ⟨h1, h⟩
            rw [h1, List.getElem?_eq_none (by simp; omega), List.getElem?_eq_none (by omega)]
          · rw [List.getElem?_set_ne h1]
        rw [e2]
        exact ih'
    · exact ih'

/-- What the law's loop says of a sector. -/
def mayB (Q : List (Nat × List UInt8)) (a : Nat) (b : List UInt8) : Bool := Q.any fun q => (q.1 == a) && decide (q.2 = b)
theorem cr_may (d : Dk) (K : List Int) (a : Nat) (ha : a < d.S.length) : (decide (stD (crD d K) (a : Int) = stD d (a : Int)) || mayB d.Q a (stD (crD d K) (a : Int))) = true := by
  have hl : (crD d K).S.length = d.S.length := (crI_shape d _ _).1
  have h1 : stD (crD d K) (a : Int) = ((crI d (kpI K d.Q.length K.length) d.Q.length).S.getD a ([], 0)).1 := by
    unfold stD
    rw [if_pos (by unfold hasB; rw [hl]; simp; omega)]
    rfl
  have h2 : stD d (a : Int) = (d.S.getD a ([], 0)).1 := by
    unfold stD
    rw [if_pos (by unfold hasB; simp; omega)]
    rfl
  rw [h1, h2]
  rcases crI_some d (kpI K d.Q.length K.length) a d.Q.length (Nat.le_refl _) with h | ⟨i, hi, h3, h4⟩
  · rw [decide_eq_true h]; rfl
  · rw [Bool.or_eq_true]
    right
    unfold mayB
    rw [List.any_eq_true]
    exact ⟨d.Q[i], List.getElem_mem hi, by rw [h3, h4]; simp⟩
theorem may_succ (Q : List (Nat × List UInt8)) (k a : Nat) (b : List UInt8) (hk : k < Q.length) : mayB (Q.take (k + 1)) a b = (mayB (Q.take k) a b || (((Q[k]).1 == a) && decide ((Q[k]).2 = b))) := by
  unfold mayB
  rw [List.take_succ_eq_append_getElem hk, List.any_append]
  simp
end Go.Proofs.Ytdhendcogjhgfaa
