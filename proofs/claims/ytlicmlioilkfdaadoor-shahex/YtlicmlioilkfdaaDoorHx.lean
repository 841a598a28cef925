/-
  A digest's text, read back.
-/
import Derived.Test.YtlicmlioilkfdaaDoorX2
namespace Go.Proofs.YtlicmlioilkfdaaDoor
open Go.RowKit
set_option linter.unusedVariables false
set_option linter.unusedSimpArgs false

theorem dvl_dg : ∀ n : Fin 16, dvl (dg n.val) = ((n.val : Nat) : Int) := by decide +kernel
theorem two_digits : ∀ b : Fin 256, (0 * 16 + dby (dg (b.val / 16))) * 16 + dby (dg (b.val % 16)) = UInt8.ofNat b.val := by decide +kernel

theorem hexL_length (d : List UInt8) : (hexL d).length = 2 * d.length := by
  induction d with
  | nil => rfl
  | cons b d ih => show (hexB b ++ hexL d).length = _; simp only [List.length_append, ih, List.length_cons]; simp [hexB]; omega

theorem hexL_even (d : List UInt8) (k : Nat) (h : k < d.length) : (hexL d).getD (2 * k) 0 = dg (d[k].toNat / 16) ∧ (hexL d).getD (2 * k + 1) 0 = dg (d[k].toNat % 16) := by
  induction d generalizing k with
  | nil => simp at h
  | cons b d ih =>
    have e : hexL (b :: d) = dg (b.toNat / 16) :: dg (b.toNat % 16) :: hexL d := rfl
    cases k with
    | zero => rw [e]; simp
    | succ k =>
      rw [e, show 2 * (k + 1) = 2 * k + 1 + 1 by omega]
      simp only [List.getD_cons_succ, List.getElem_cons_succ]
      exact ih k (by simpa using h)

theorem hexL_ok (d : List UInt8) (j : Nat) (h : j < (hexL d).length) : ¬ dvl ((hexL d).getD j 0) < 0 := by
  rw [hexL_length] at h
  have hk : j / 2 < d.length := by omega
  have h2 := hexL_even d (j / 2) hk
  have hb := d[j / 2].toNat_lt
  rcases (by omega : j = 2 * (j / 2) ∨ j = 2 * (j / 2) + 1) with e | e
  · rw [e, h2.1, dvl_dg ⟨d[j / 2].toNat / 16, by omega⟩]; simp; omega
  · rw [e, h2.2, dvl_dg ⟨d[j / 2].toNat % 16, by omega⟩]; simp; omega

theorem pst_hex (d : List UInt8) (hd : d.length = 32) (k : Nat) (hk : k ≤ 32) : pst (hexL d) (2 * k) = d.take k ++ List.replicate (32 - k) 0 := by
  induction k with
  | zero => rfl
  | succ k ih =>
    have ih := ih (by omega)
    have h2 := hexL_even d k (by omega)
    have hb := two_digits ⟨d[k].toNat, d[k].toNat_lt⟩
    simp only [UInt8.ofNat_toNat] at hb
    show (pst (hexL d) (2 * k + 1)).set ((2 * k + 1) / 2) ((pst (hexL d) (2 * k + 1)).getD ((2 * k + 1) / 2) 0 * 16 + dby ((hexL d).getD (2 * k + 1) 0)) = _
    have e0 : pst (hexL d) (2 * k + 1) = (pst (hexL d) (2 * k)).set k ((pst (hexL d) (2 * k)).getD k 0 * 16 + dby ((hexL d).getD (2 * k) 0)) := by
      show (pst (hexL d) (2 * k)).set ((2 * k) / 2) _ = _
      rw [show 2 * k / 2 = k by omega]
    have hl : (d.take k).length = k := by simp; omega
    have hg : (d.take k ++ List.replicate (32 - k) (0 : UInt8)).getD k 0 = 0 := by
      rw [List.getD_eq_getElem?_getD, List.getElem?_append_right (by omega), hl, Nat.sub_self]
      simp [List.getElem?_replicate, show 0 < 32 - k by omega]
    have hr : List.replicate (32 - k) (0 : UInt8) = 0 :: List.replicate (32 - (k + 1)) 0 := by
      rw [show 32 - k = (32 - (k + 1)) + 1 by omega, List.replicate_succ]
    have hset : ∀ x : UInt8, (d.take k ++ List.replicate (32 - k) (0 : UInt8)).set k x = d.take k ++ x :: List.replicate (32 - (k + 1)) 0 := fun x => by
      rw [List.set_append_right _ _ (by omega), hl, Nat.sub_self, hr, List.set_cons_zero]
    have hget : ∀ x : UInt8, (d.take k ++ x :: List.replicate (32 - (k + 1)) (0 : UInt8)).getD k 0 = x := fun x => by
      rw [List.getD_eq_getElem?_getD, List.getElem?_append_right (by omega), hl, Nat.sub_self]
      simp
    have hset2 : ∀ x y : UInt8, (d.take k ++ x :: List.replicate (32 - (k + 1)) (0 : UInt8)).set k y = d.take k ++ y :: List.replicate (32 - (k + 1)) 0 := fun x y => by
      rw [List.set_append_right _ _ (by omega), hl, Nat.sub_self, List.set_cons_zero]
    rw [show (2 * k + 1) / 2 = k by omega, e0, ih, hg, hset, hget, hset2, h2.1, h2.2, hb]
    rw [List.take_succ_eq_append_getElem (by omega), List.append_assoc]
    rfl

/-- Read back. -/
theorem prs_hex (d : List UInt8) (hd : d.length = 32) : prs (hexL d) = (d, 0, 0) := by
  have hl := hexL_length d
  rw [hd] at hl
  rw [prs_good (fun j hj => hexL_ok d j (by omega)), if_neg (by omega), if_neg (by omega)]
  have := pst_hex d hd 32 (by omega)
  rw [show 2 * 32 = 64 from rfl] at this
  rw [this, List.take_of_length_le (by omega)]
  simp
end Go.Proofs.YtlicmlioilkfdaaDoor
