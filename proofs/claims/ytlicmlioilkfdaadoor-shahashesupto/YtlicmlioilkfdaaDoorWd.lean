/-
  Words of 32 bits as the program's numbers, and as bit vectors; words turned right.
-/
import Derived.Test.YtlicmlioilkfdaaDoorDm
namespace Go.Proofs.YtlicmlioilkfdaaDoor
open Go.RowKit
set_option linter.unusedVariables false
set_option linter.unusedSimpArgs false

abbrev Wd := BitVec 32

/-- A word as a number. -/
def N (x : Wd) : Int := ((x.toNat : Nat) : Int)

theorem N_lt (x : Wd) : 0 ≤ N x ∧ N x < 4294967296 := by
  have := x.isLt
  unfold N; omega

theorem N_inj {x y : Wd} (h : N x = N y) : x = y := by
  unfold N at h
  exact BitVec.eq_of_toNat_eq (by omega)

theorem N_beq (x y : Wd) : (N x == N y) = decide (x = y) := by
  rw [Bool.eq_iff_iff]; simp only [beq_iff_eq, decide_eq_true_eq]; exact ⟨N_inj, fun h => by rw [h]⟩

theorem wrap_u32n (n : Nat) (h : n < 4294967296) : IntKind.u32.wrap (n : Int) = (n : Int) := by
  simp only [IntKind.wrap, IntKind.bits, IntKind.signed]
  simp
  omega

theorem wrap_N (x : Wd) : IntKind.u32.wrap (N x) = N x := wrap_u32n _ x.isLt

theorem ofInt32 (a : Wd) : BitVec.ofInt 32 (N a) = a := by
  unfold N
  rw [BitVec.ofInt_natCast, BitVec.ofNat_toNat, BitVec.setWidth_eq]

theorem xor32 (a b : Wd) : bits BinOp.xor IntKind.u32 (N a) (N b) = N (a ^^^ b) := by
  show IntKind.u32.wrap ((BitVec.ofInt 32 (N a) ^^^ BitVec.ofInt 32 (N b)).toNat : Int) = _
  rw [ofInt32, ofInt32]
  exact wrap_u32n _ (BitVec.isLt _)

theorem and32 (a b : Wd) : bits BinOp.and IntKind.u32 (N a) (N b) = N (a &&& b) := by
  show IntKind.u32.wrap ((BitVec.ofInt 32 (N a) &&& BitVec.ofInt 32 (N b)).toNat : Int) = _
  rw [ofInt32, ofInt32]
  exact wrap_u32n _ (BitVec.isLt _)

theorem or32 (a b : Wd) : bits BinOp.or IntKind.u32 (N a) (N b) = N (a ||| b) := by
  show IntKind.u32.wrap ((BitVec.ofInt 32 (N a) ||| BitVec.ofInt 32 (N b)).toNat : Int) = _
  rw [ofInt32, ofInt32]
  exact wrap_u32n _ (BitVec.isLt _)

theorem not32 (a : Wd) : bits BinOp.xor IntKind.u32 4294967295 (N a) = N (~~~a) := by
  have : (4294967295 : Int) = N (BitVec.allOnes 32) := by decide +kernel
  rw [this, xor32, BitVec.allOnes_xor]

theorem add32 (a b : Wd) : (N a + N b) % 4294967296 = N (a + b) := by
  unfold N
  rw [BitVec.toNat_add]; omega

theorem addw32 (a b : Wd) : IntKind.u32.wrap (N a + N b) = N (a + b) := by
  rw [← add32]
  simp only [IntKind.wrap, IntKind.bits, IntKind.signed]
  simp

theorem add3 (a b c : Wd) : (N a + N b + N c) % 4294967296 = N (a + b + c) := by
  rw [← add32, ← add32]; omega
theorem add4 (a b c d : Wd) : (N a + N b + N c + N d) % 4294967296 = N (a + b + c + d) := by
  rw [← add32, ← add3]; omega
theorem add5 (a b c d e : Wd) : (N a + N b + N c + N d + N e) % 4294967296 = N (a + b + c + d + e) := by
  rw [← add32, ← add4]; omega

theorem shl32 (a : Wd) (m : Nat) : N a * 2 ^ m % 4294967296 = N (a <<< m) := by
  unfold N
  rw [BitVec.toNat_shiftLeft, Nat.shiftLeft_eq]
  simp

theorem shr32 (a : Wd) (m : Nat) : N a / 2 ^ m = N (a >>> m) := by
  unfold N
  rw [BitVec.toNat_ushiftRight, Nat.shiftRight_eq_div_pow]
  simp

/-- x turned right by n bits. -/
def rot (x : Wd) (n : Nat) : Wd := x >>> n ||| x <<< (32 - n)

theorem mask31 (n : Nat) (h0 : 0 < n) (h1 : n < 32) : bits BinOp.and IntKind.u64 (IntKind.u64.wrap (-(n : Int))) 31 = ((32 - n : Nat) : Int) := by
  have : ∀ n : Fin 32, 0 < n.1 → bits BinOp.and IntKind.u64 (IntKind.u64.wrap (-(n.1 : Int))) 31 = ((32 - n.1 : Nat) : Int) := by decide +kernel
  exact this ⟨n, h1⟩ h0

attribute [local go_sem ↓] Go.wp_at_zero Go.wp_at_succ

theorem rotl_any (w : World) (x : Wd) (n : Nat) (h0 : 0 < n) (h1 : n < 32) : Calls Tryd.prog 70 #[.int .u32 (N x), .int .i64 (-(n : Int))] w fun e w' => e = .returned (.int .u32 (N (rot x n))) ∧ w = w' := by
  have hk := mask31 n h0 h1
  have hs := shl32 x (32 - n)
  have hr := shr32 x n
  have hmin : min (32 - n) 32 = 32 - n := by omega
  have e1 : IntKind.u64.wrap (32 - ((32 - n : Nat) : Int)) = (n : Int) := by
    simp only [IntKind.wrap, IntKind.bits, IntKind.signed]; simp; omega
  have ho := or32 (x <<< (32 - n)) (x >>> n)
  have e2 : x <<< (32 - n) ||| x >>> n = rot x n := BitVec.or_comm _ _
  rw [e2] at ho
  generalize hm : 32 - n = m at *
  have HM := hide hm
  clear hm e2
  go_enter Tryd.func70, Tryd.ntmps70
  go_wp2
  go_ret
  exact ⟨rfl, rfl⟩

theorem right_any (w : World) (x : Wd) (n : Nat) (h0 : 0 < n) (h1 : n < 32) : Calls Tryd.prog 64 #[.int .u32 (N x), .int .i64 (n : Int)] w fun e w' => e = .returned (.int .u32 (N (rot x n))) ∧ w = w' := by
  have e1 : IntKind.i64.wrap (-(n : Int)) = -(n : Int) := by
    simp only [IntKind.wrap, IntKind.bits, IntKind.signed]; simp; omega
  go_enter Tryd.func64, Tryd.ntmps64
  go_wp2_with (go_at_call 70; refine (rotl_any w x n h0 h1).mono ?_; rintro e w' ⟨rfl, rfl⟩)
  go_ret
  exact ⟨rfl, rfl⟩
end Go.Proofs.YtlicmlioilkfdaaDoor
