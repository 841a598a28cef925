/-
  The check sum, bit by bit: linear, and what shifts do to it; four bits at once.
-/
import Derived.Test.YtlicmlioilkfdaaDoorC1
namespace Go.Proofs.YtlicmlioilkfdaaDoor
open Go.RowKit
set_option linter.unusedVariables false
set_option linter.unusedSimpArgs false

/-- One bit moved out. -/
def bit1 (r : Wd) : Wd := if r.getLsbD 0 then r >>> 1 ^^^ 2197175160#32 else r >>> 1
/-- k bits moved out. -/
def bitn : Nat → Wd → Wd
  | 0, r => r
  | k + 1, r => bitn k (bit1 r)

theorem bitn_succ' (k : Nat) (r : Wd) : bitn (k + 1) r = bit1 (bitn k r) := by
  induction k generalizing r with
  | zero => rfl
  | succ k ih => show bitn (k + 1) (bit1 r) = bit1 (bitn k (bit1 r)); exact ih _

theorem bitn_add (j k : Nat) (r : Wd) : bitn (j + k) r = bitn k (bitn j r) := by
  induction k with
  | zero => rfl
  | succ k ih => rw [← Nat.add_assoc, bitn_succ', ih, ← bitn_succ']

theorem bit1_xor (a b : Wd) : bit1 (a ^^^ b) = bit1 a ^^^ bit1 b := by
  have h : (a ^^^ b) >>> 1 = a >>> 1 ^^^ b >>> 1 := BitVec.ushiftRight_xor_distrib a b 1
  unfold bit1
  rw [BitVec.getLsbD_xor, h]
  generalize a >>> 1 = x
  generalize b >>> 1 = y
  generalize 2197175160#32 = c
  have hc : c ^^^ c = 0#32 := BitVec.xor_self
  cases a.getLsbD 0 <;> cases b.getLsbD 0 <;> simp only [Bool.xor_false, Bool.xor_true, Bool.not_false, Bool.not_true, if_true, Bool.false_eq_true, if_false]
  · rw [BitVec.xor_assoc]
  · rw [BitVec.xor_assoc, BitVec.xor_assoc, BitVec.xor_comm y c]
  · rw [BitVec.xor_assoc, BitVec.xor_comm c, BitVec.xor_assoc, hc, BitVec.xor_zero]

theorem bitn_xor (k : Nat) (a b : Wd) : bitn k (a ^^^ b) = bitn k a ^^^ bitn k b := by
  induction k generalizing a b with
  | zero => rfl
  | succ k ih => show bitn k (bit1 (a ^^^ b)) = _; rw [bit1_xor, ih]; rfl

theorem bit1_shl (x : Wd) (h : x.toNat < 2147483648) : bit1 (x <<< 1) = x := by
  have h0 : (x <<< 1).getLsbD 0 = false := by simp [BitVec.getLsbD_shiftLeft]
  unfold bit1
  rw [h0]
  simp only [Bool.false_eq_true, if_false]
  apply BitVec.eq_of_toNat_eq
  rw [BitVec.toNat_ushiftRight, BitVec.toNat_shiftLeft, Nat.shiftRight_eq_div_pow, Nat.shiftLeft_eq]
  omega

theorem bitn_shl (k : Nat) (x : Wd) (h : x.toNat * 2 ^ k < 4294967296) : bitn k (x <<< k) = x := by
  induction k with
  | zero => simp [bitn]
  | succ k ih =>
    show bitn k (bit1 (x <<< (k + 1))) = x
    rw [BitVec.shiftLeft_add]
    rw [Nat.pow_succ] at h
    have hlt : x.toNat * 2 ^ k < 2147483648 := by rw [← Nat.mul_assoc] at h; omega
    have ht : (x <<< k).toNat < 2147483648 := by
      rw [BitVec.toNat_shiftLeft, Nat.shiftLeft_eq, Nat.mod_eq_of_lt (by omega)]
      exact hlt
    rw [bit1_shl _ ht]
    exact ih (by rw [← Nat.mul_assoc] at h; omega)

theorem low4 (n : Fin 16) : bitn 4 (BitVec.ofNat 32 n.val) = QL.getD n.val 0 := by
  revert n
  decide +kernel

theorem split4 (r : Wd) : r = (r >>> 4) <<< 4 ^^^ (r &&& 15) := by
  apply BitVec.eq_of_getLsbD_eq
  intro i hi
  have e15 : (15 : Wd).getLsbD i = decide (i < 4) := by
    have h : ∀ j : Fin 32, (15 : Wd).getLsbD j.val = decide (j.val < 4) := by decide +kernel
    exact h ⟨i, hi⟩
  rw [BitVec.getLsbD_xor, BitVec.getLsbD_and, BitVec.getLsbD_shiftLeft, BitVec.getLsbD_ushiftRight, e15]
  by_cases h : i < 4
  · simp [h]
  · have e2 : 4 + (i - 4) = i := by omega
    simp [h, e2, hi]

/-- The table of four bits. -/
theorem q4_bits (r : Wd) : q4 r = bitn 4 r := by
  have h1 : bitn 4 ((r >>> 4) <<< 4) = r >>> 4 := bitn_shl 4 _ (by
    rw [BitVec.toNat_ushiftRight, Nat.shiftRight_eq_div_pow]
    have := r.isLt
    omega)
  have h2 : bitn 4 (r &&& 15) = QL.getD (r &&& 15).toNat 0 := by
    have := low4 ⟨(r &&& 15).toNat, and15_lt r⟩
    rwa [BitVec.ofNat_toNat, BitVec.setWidth_eq] at this
  have h3 := congrArg (bitn 4) (split4 r)
  rw [bitn_xor, h1, h2] at h3
  rw [h3]
  rfl

theorem crcB_bits (r : Wd) (b : UInt8) : crcB r b = bitn 8 (r ^^^ B8 b) := by
  unfold crcB
  rw [q4_bits, q4_bits, ← bitn_add]

theorem lsb_and (r : Wd) : (N (r &&& 1#32) == 1) = r.getLsbD 0 := by
  have h1 : N (1#32) = 1 := by decide +kernel
  rw [← h1, N_beq]
  have : (r &&& 1#32).toNat = r.toNat % 2 := by
    rw [BitVec.toNat_and]
    exact Nat.and_one_is_mod _
  rw [Bool.eq_iff_iff, decide_eq_true_eq]
  rw [BitVec.getLsbD, Nat.testBit_zero, decide_eq_true_eq]
  constructor
  · intro h; rw [← this, h]; rfl
  · intro h; exact BitVec.eq_of_toNat_eq (by rw [this, h]; rfl)

theorem and1 (x : Wd) : bits BinOp.and IntKind.u32 (N x) 1 = N (x &&& 1#32) := by
  have : (1 : Int) = N 1#32 := by decide +kernel
  rw [this, and32]
theorem shrN1 (x : Wd) : N x / (2 : Int) = N (x >>> 1) := shr32 x 1
theorem xorP (x : Wd) : bits BinOp.xor IntKind.u32 (N x) 2197175160 = N (x ^^^ 2197175160#32) := by
  have : (2197175160 : Int) = N 2197175160#32 := by decide +kernel
  rw [this, xor32]
end Go.Proofs.YtlicmlioilkfdaaDoor
