/-
  AllocOld, plainly: what was used stays so within a transaction.
-/
import Derived.Test.YtbpajilglfabbaaResWalk
namespace Go.Proofs.Ytbpajilglfabbaa
open Go.RowKit
set_option linter.unusedVariables false

/-- Used and held blocks are the same ones. -/
def Sm (S s : List UInt8) : Prop := s.length = S.length ∧ ∀ b : Nat, isU s b = isU S b ∧ (s[b]? = some 4 ↔ S[b]? = some 4)

theorem Sm.refl (S : List UInt8) : Sm S S := ⟨rfl, fun b => ⟨rfl, Iff.rfl⟩⟩
theorem Sm.set {S s : List UInt8} (h : Sm S s) {b : Nat} {u v : UInt8} (hu : s[b]? = some u) (h1 : isU [u] 0 = isU [v] 0) (h4 : u ≠ 4) (h5 : v ≠ 4) : Sm S (s.set b v) := by
  have hb := (List.getElem?_eq_some_iff.1 hu).1
  refine ⟨by simpa using h.1, fun j => ?_⟩
  by_cases e : j = b
  · subst e
    have k1 : isU (s.set j v) j = isU [v] 0 := by unfold isU; rw [set_get _ _ _ _ hb, if_pos rfl]; rfl
    have k2 : isU s j = isU [u] 0 := by unfold isU; rw [hu]; rfl
    refine ⟨by rw [k1, ← h1, ← k2]; exact (h.2 j).1, ?_⟩
    rw [set_get _ _ _ _ hb, if_pos rfl, ← (h.2 j).2, hu]
    simp [h4, h5]
  · have k1 : isU (s.set b v) j = isU s j := by unfold isU; rw [set_get _ _ _ _ hb, if_neg e]
    refine ⟨by rw [k1]; exact (h.2 j).1, ?_⟩
    rw [set_get _ _ _ _ hb, if_neg e]
    exact (h.2 j).2

theorem Sm.take {S : List UInt8} {K : Kc} (h : Sm S K.s) (a : Int) : Sm S (K.take a).1.s := by
  unfold Kc.take
  split
  · split
    · rename_i hr
      exact h.set (pk_free (by omega) _) (by decide) (by decide) (by decide)
    · exact h
  · exact h
theorem Sm.takeR {S : List UInt8} {K : Kc} (h : Sm S K.s) (hf : K.r ≤ fr K.s) (a : Int) : Sm S (K.takeR a).1.s := by
  unfold Kc.takeR
  split
  · split
    · exact h
    · rename_i hr
      exact h.set (pk_free (s := K.s) (by omega) _) (by decide) (by decide) (by decide)
  · exact h
theorem Sm.give {S : List UInt8} {K : Kc} (h : Sm S K.s) (a : Int) : Sm S (K.give a).1.s := by
  unfold Kc.give
  split
  · split
    · rename_i hr
      exact h.set hr (by decide) (by decide) (by decide)
    · split
      · rename_i hr
        exact h.set hr (by decide) (by decide) (by decide)
      · exact h
  · exact h
theorem Sm.reserve {S : List UInt8} {K : Kc} (h : Sm S K.s) (a : Int) : Sm S (K.reserve a).1.s := by
  unfold Kc.reserve
  split
  · exact h
  · split <;> exact h

/-- What Take answers is free, or it is an error. -/
def Ans (S : List UInt8) (x e : Int) : Prop := (e ≠ 0) ∨ (e = 0 ∧ ∃ b : Nat, x = (b : Int) ∧ b < S.length ∧ isU S b = false ∧ S[b]? ≠ some 4)
theorem Ans.free {S s : List UInt8} (h : Sm S s) {b : Nat} (hb : s[b]? = some 0) : Ans S (b : Int) 0 := by
  have hbl := (List.getElem?_eq_some_iff.1 hb).1
  refine .inr ⟨rfl, b, rfl, by rw [← h.1]; exact hbl, ?_, ?_⟩
  · rw [← (h.2 b).1]; unfold isU; rw [hb]; decide
  · intro h4
    have := (h.2 b).2.2 h4
    rw [hb] at this
    exact absurd this (by decide)
theorem ans_take {S : List UInt8} {K : Kc} (h : Sm S K.s) (a : Int) : Ans S (K.take a).2.1 (K.take a).2.2 := by
  unfold Kc.take
  split
  · split
    · rename_i hr
      exact Ans.free h (pk_free (by omega) _)
    · exact .inl (by simp)
  · exact .inl (by simp)
theorem ans_takeR {S : List UInt8} {K : Kc} (h : Sm S K.s) (hf : K.r ≤ fr K.s) (a : Int) : Ans S (K.takeR a).2.1 (K.takeR a).2.2 := by
  unfold Kc.takeR
  split
  · split
    · exact .inl (by simp)
    · rename_i hr
      exact Ans.free h (pk_free (s := K.s) (by omega) _)
  · exact .inl (by simp)

theorem bmK_congr {S s : List UInt8} (h : Sm S s) (k : Nat) : bmK s k = bmK S k := by
  induction k with
  | zero => unfold bmK; rw [h.1]
  | succ k ih => unfold bmK; rw [ih, (h.2 k).1]
theorem bm_congr {S s : List UInt8} (h : Sm S s) : bm s = bm S := by
  unfold bm
  rw [h.1, bmK_congr h]

/-- The bitmap with the held blocks among the first k. -/
def olK (s : List UInt8) : Nat → List UInt8
  | 0 => bm s
  | k + 1 => if s[k]? = some 4 then sb (olK s k) k else olK s k
theorem olK_length (s : List UInt8) (k : Nat) : (olK s k).length = (s.length + 7) / 8 := by
  induction k with
  | zero => exact bm_length s
  | succ k ih => unfold olK; split <;> simp [sb_length, ih]
theorem gb_olK (s : List UInt8) (k : Nat) (hk : k ≤ s.length) (j : Nat) : gb (olK s k) j = (isU s j || (decide (j < k) && (s[j]? == some 4))) := by
  induction k with
  | zero => unfold olK; rw [gb_bm]; simp
  | succ k ih =>
    have ih := ih (by omega)
    unfold olK
    by_cases h4 : s[k]? = some 4
    · rw [if_pos h4, gb_sb _ _ _ (by rw [olK_length]; omega), ih]
      by_cases e : j = k
      · subst e; simp [h4]
      · have : (decide (j < k + 1)) = decide (j < k) := decide_eq_decide.2 (by omega)
        rw [this]; simp [e]
    · rw [if_neg h4, ih]
      by_cases e : j = k
      · subst e; simp [h4]
      · have : (decide (j < k + 1)) = decide (j < k) := decide_eq_decide.2 (by omega)
        rw [this]
theorem gb_old {S : List UInt8} {b : Nat} (hb : b < S.length) (h1 : isU S b = false) (h4 : S[b]? ≠ some 4) : gb (olK S S.length) b = false := by
  rw [gb_olK _ _ (Nat.le_refl _), h1]
  have : (S[b]? == some 4) = false := by simpa using h4
  rw [this]
  simp
end Go.Proofs.Ytbpajilglfabbaa
