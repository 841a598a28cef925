/-
  Bursts: what a flipped bit does to the check sum.
-/
import Derived.Test.YtlicmlioilkfdaaDoorCr
namespace Go.Proofs.YtlicmlioilkfdaaDoor
open Go.RowKit
set_option linter.unusedVariables false
set_option linter.unusedSimpArgs false

theorem bit1_zero : bit1 0#32 = 0#32 := by decide +kernel

/-- Nothing but nothing comes to nothing. -/
theorem bit1_eq_zero (x : Wd) (h : bit1 x = 0#32) : x = 0#32 := by
  unfold bit1 at h
  have hx31 : (x >>> 1).getLsbD 31 = false := by simp [BitVec.getLsbD_ushiftRight]
  split at h
  · rename_i h0
    have := congrArg (fun y : Wd => y.getLsbD 31) h
    simp only [BitVec.getLsbD_xor, hx31] at this
    have hc : (2197175160#32).getLsbD 31 = true := by decide +kernel
    rw [hc] at this
    simp at this
  · rename_i h0
    have e : x.toNat / 2 = 0 := by
      have := congrArg BitVec.toNat h
      rwa [BitVec.toNat_ushiftRight, Nat.shiftRight_eq_div_pow] at this
    have e0 : x.toNat % 2 = 0 := by
      rw [BitVec.getLsbD, Nat.testBit_zero, decide_eq_true_eq] at h0
      omega
    exact BitVec.eq_of_toNat_eq (by show x.toNat = 0; omega)

theorem bitn_eq_zero (k : Nat) (x : Wd) (h : bitn k x = 0#32) : x = 0#32 := by
  induction k generalizing x with
  | zero => exact h
  | succ k ih => exact bit1_eq_zero x (ih _ h)

theorem bitn_zero (k : Nat) : bitn k 0#32 = 0#32 := by
  induction k with
  | zero => rfl
  | succ k ih => show bitn k (bit1 0#32) = _; rw [bit1_zero, ih]

theorem fold_xor (q : List UInt8) (r d : Wd) : q.foldl crcB (r ^^^ d) = q.foldl crcB r ^^^ bitn (8 * q.length) d := by
  induction q generalizing r d with
  | nil => rfl
  | cons b q ih =>
    simp only [List.foldl_cons, List.length_cons]
    have e : crcB (r ^^^ d) b = crcB r b ^^^ bitn 8 d := by
      rw [crcB_bits, crcB_bits, ← bitn_xor]
      congr 1
      rw [BitVec.xor_assoc, BitVec.xor_comm d, ← BitVec.xor_assoc]
    rw [e, ih, ← bitn_add, Nat.add_comm]
    rfl

theorem B8_xor (a b : UInt8) : B8 (a ^^^ b) = B8 a ^^^ B8 b := by
  unfold B8
  apply BitVec.eq_of_toNat_eq
  simp [Nat.xor_mod_two_pow]

/-- A byte's bit. -/
def b1 (j : Nat) : UInt8 := UInt8.ofNat (2 ^ j)

theorem B8_b1 (j : Nat) (hj : j < 8) : B8 (b1 j) = 1#32 <<< j := by
  have h : ∀ j : Fin 8, B8 (b1 j.val) = 1#32 <<< j.val := by decide +kernel
  exact h ⟨j, hj⟩

theorem crcB_flip (r : Wd) (b : UInt8) (j : Nat) (hj : j < 8) : crcB r (b ^^^ b1 j) = crcB r b ^^^ bitn (8 - j) 1#32 := by
  have h1 : bitn j (1#32 <<< j) = 1#32 := bitn_shl j 1#32 (by
    have : 2 ^ j ≤ 2 ^ 7 := Nat.pow_le_pow_right (by decide) (by omega)
    show 1 * 2 ^ j < _
    omega)
  rw [crcB_bits, crcB_bits, B8_xor, ← BitVec.xor_assoc, bitn_xor, B8_b1 j hj]
  congr 1
  have : 8 = j + (8 - j) := by omega
  conv => lhs; rw [this]
  rw [bitn_add, h1]

/-- A flipped bit. -/
theorem fold_flip (q : List UInt8) (r : Wd) (t : Nat) (ht : t < 8 * q.length) :
    (q.set (t / 8) (q.getD (t / 8) 0 ^^^ b1 (t % 8))).foldl crcB r = q.foldl crcB r ^^^ bitn (8 * q.length - t) 1#32 := by
  induction q generalizing r t with
  | nil => simp at ht
  | cons b q ih =>
    by_cases h : t < 8
    · have e0 : t / 8 = 0 := by omega
      have e1 : t % 8 = t := by omega
      rw [e0, e1]
      simp only [List.set_cons_zero, List.getD_cons_zero, List.foldl_cons, List.length_cons]
      rw [crcB_flip r b t h, fold_xor, ← bitn_add]
      congr 2
      omega
    · have e0 : t / 8 = (t - 8) / 8 + 1 := by omega
      have e1 : t % 8 = (t - 8) % 8 := by omega
      rw [e0, e1]
      simp only [List.set_cons_succ, List.getD_cons_succ, List.foldl_cons, List.length_cons]
      simp only [List.length_cons] at ht
      rw [ih _ (t - 8) (by omega)]
      congr 2
      omega

/-- The bits that have been flipped, from the place A on. -/
theorem burst_step (p q : List UInt8) (r M : Wd) (A i : Nat) (hl : q.length = p.length) (hi : i < 32) (ht : A + i < 8 * p.length) (hM : ∀ j, i ≤ j → M.getLsbD j = false)
    (h : q.foldl crcB r = p.foldl crcB r ^^^ bitn (8 * p.length - A) M) :
    (q.set ((A + i) / 8) (q.getD ((A + i) / 8) 0 ^^^ b1 ((A + i) % 8))).foldl crcB r = p.foldl crcB r ^^^ bitn (8 * p.length - A) (M ^^^ 1#32 <<< i) ∧ (∀ j, i + 1 ≤ j → (M ^^^ 1#32 <<< i).getLsbD j = false) ∧ M ^^^ 1#32 <<< i ≠ 0#32 := by
  refine ⟨?_, ?_, ?_⟩
  · rw [fold_flip q r (A + i) (by omega), h, bitn_xor, BitVec.xor_assoc]
    congr 2
    have h1 : bitn i (1#32 <<< i) = 1#32 := bitn_shl i 1#32 (by
      have : 2 ^ i ≤ 2 ^ 31 := Nat.pow_le_pow_right (by decide) (by omega)
      show 1 * 2 ^ i < _
      omega)
    rw [hl, show 8 * p.length - A = i + (8 * p.length - (A + i)) by omega, bitn_add, h1]
  · intro j hj
    rw [BitVec.getLsbD_xor, hM j (by omega), BitVec.getLsbD_shiftLeft]
    by_cases hj2 : j < 32
    · have e : (1#32).getLsbD (j - i) = false := by
        rw [BitVec.getLsbD_one]; simp; omega
      simp [e]
    · simp [hj2]
  · intro h0
    have := congrArg (fun y : Wd => y.getLsbD i) h0
    simp only [BitVec.getLsbD_xor, hM i (Nat.le_refl _), BitVec.getLsbD_shiftLeft, Nat.sub_self, Nat.lt_irrefl, hi] at this
    simp at this

theorem burst_end (p q : List UInt8) (M : Wd) (n : Nat) (h : q.foldl crcB (~~~(0 : Wd)) = p.foldl crcB (~~~(0 : Wd)) ^^^ bitn n M) : decide (crc q ≠ crc p) = decide (M ≠ 0#32) := by
  rw [decide_eq_decide]
  unfold crc more
  rw [h]
  constructor
  · intro h1 h2
    apply h1
    rw [h2, bitn_zero, BitVec.xor_zero]
  · intro h1 h2
    apply h1
    have h3 := congrArg (fun y => ~~~y) h2
    simp only [BitVec.not_not] at h3
    apply bitn_eq_zero n
    have h4 := congrArg (fun y => p.foldl crcB (~~~(0 : Wd)) ^^^ y) h3
    simp only [← BitVec.xor_assoc, BitVec.xor_self, BitVec.zero_xor] at h4
    exact h4
end Go.Proofs.YtlicmlioilkfdaaDoor
