/-
  The walks of the document's own elements.
-/
import Derived.Test.YtckmddkhkdcmmaaPw
namespace Go.Proofs.Ytckmddkhkdcmmaa
open Go.RowKit
set_option linter.unusedVariables false

attribute [local go_sem ↓] Go.wp_at_zero Go.wp_at_succ

def shn : Nat → UInt8 → UInt8
  | 0, b => b
  | k + 1, b => shn k b >>> 1

theorem xorN (a b : Nat) (ha : a < 512) (hb : b < 512) : bits BinOp.xor IntKind.i64 (a : Int) (b : Int) = ((a ^^^ b : Nat) : Int) := by
  show IntKind.i64.wrap ((BitVec.ofInt 64 (a : Int) ^^^ BitVec.ofInt 64 (b : Int)).toNat : Int) = _
  rw [BitVec.ofInt_natCast, BitVec.ofInt_natCast, BitVec.toNat_xor, BitVec.toNat_ofNat, BitVec.toNat_ofNat, Nat.mod_eq_of_lt (by omega), Nat.mod_eq_of_lt (by omega)]
  have := Nat.xor_lt_two_pow (n := 9) (x := a) (y := b) (by omega) (by omega)
  generalize a ^^^ b = c at *
  simp only [IntKind.wrap, IntKind.bits, IntKind.signed]
  simp
  omega

theorem bitK (b : UInt8) (k : Nat) (hk : k < 8) : (bits BinOp.and IntKind.u8 ((b.toNat : Nat) : Int) ((2 : Int) ^ k % 256) != 0) = decide (shn k b &&& 1 = 1) :=
  all256 (P := fun b => ∀ k, k < 8 → (bits BinOp.and IntKind.u8 ((b.toNat : Nat) : Int) ((2 : Int) ^ k % 256) != 0) = decide (shn k b &&& 1 = 1)) (by decide +kernel) b k hk

theorem xt_up (X : UInt8) : (255 : Int) < 2 * ((X.toNat : Nat) : Int) → bits BinOp.xor IntKind.i64 (2 * ((X.toNat : Nat) : Int)) 285 = (((xt X).toNat : Nat) : Int) :=
  all256 (P := fun X => (255 : Int) < 2 * ((X.toNat : Nat) : Int) → bits BinOp.xor IntKind.i64 (2 * ((X.toNat : Nat) : Int)) 285 = (((xt X).toNat : Nat) : Int)) (by decide +kernel) X
theorem xt_lo (X : UInt8) : 2 * ((X.toNat : Nat) : Int) ≤ 255 → 2 * ((X.toNat : Nat) : Int) = (((xt X).toNat : Nat) : Int) :=
  all256 (P := fun X => 2 * ((X.toNat : Nat) : Int) ≤ 255 → 2 * ((X.toNat : Nat) : Int) = (((xt X).toNat : Nat) : Int)) (by decide +kernel) X

theorem xorB (S X : UInt8) : bits BinOp.xor IntKind.i64 ((S.toNat : Nat) : Int) ((X.toNat : Nat) : Int) = (((S ^^^ X).toNat : Nat) : Int) := by
  have h1 := S.toNat_lt
  have h2 := X.toNat_lt
  rw [xorN _ _ (by omega) (by omega), UInt8.toNat_xor]

theorem rmul_fin {m : UInt8} {k : Nat} (hk : k < 8) {b S X : UInt8} (hm : m = S ^^^ gm (8 - k) X (shn k b)) : m = (if shn k b &&& 1 = 1 then S ^^^ X else S) ^^^ gm (8 - (k + 1)) (xt X) (shn (k + 1) b) := by
  rw [hm, show 8 - k = (8 - (k + 1)) + 1 by omega, gm_step]
  rfl

theorem wrap_b (a : UInt8) : wrap64 ((a.toNat : Nat) : Int) = ((a.toNat : Nat) : Int) := all256 (P := fun a => wrap64 ((a.toNat : Nat) : Int) = ((a.toNat : Nat) : Int)) (by decide +kernel) a

theorem rmul_any (w : World) (a b : UInt8) : Calls Try.prog 72 #[.int .u8 (a.toNat : Int), .int .u8 (b.toNat : Int)] w fun e w' => e = .returned (.int .u8 ((mul a b).toNat : Int)) ∧ w = w' := by
  go_enter Try.func72, Try.ntmps72
  go_wp2_with fail
  go_loopw [5, 6, 7] (fun s x i w' => ∃ (S X : UInt8) (k : Nat), k ≤ 8 ∧ i = .int .i64 (k : Int) ∧ s = .int .i64 ((S.toNat : Nat) : Int) ∧ x = .int .i64 ((X.toNat : Nat) : Int) ∧ mul a b = S ^^^ gm (8 - k) X (shn k b) ∧ w = w') (fun _ _ i _ => 8 - (intOf i).toNat)
  case atStart => exact ⟨0, a, 0, by omega, rfl, rfl, by rw [wrap_b], by rw [UInt8.zero_xor]; rfl, rfl⟩
  case round =>
    obtain ⟨S, X, k, hk, rfl, rfl, rfl, hm, rfl⟩ := hrel
    by_cases hlt : k < 8
    · have hX := X.toNat_lt
      have H := hide hm
      clear hm
      go_wp2_with fail
      all_goals
        rename_i h2 h1 h0
        rw [bitK b k hlt] at h1
        have hfin := rmul_fin hlt (unhide H)
        refine ⟨?_, by simp [intOf]; omega⟩
      · rw [if_pos (by simpa using h1)] at hfin
        exact ⟨_, xt X, k + 1, by omega, by go_num, by rw [xorB], by rw [xt_up X h0], hfin, trivial⟩
      · rw [if_pos (by simpa using h1)] at hfin
        exact ⟨_, xt X, k + 1, by omega, by go_num, by rw [xorB], by rw [xt_lo X h0], hfin, trivial⟩
      · rw [if_neg (by simpa using h1)] at hfin
        exact ⟨_, xt X, k + 1, by omega, by go_num, rfl, by rw [xt_up X h0], hfin, trivial⟩
      · rw [if_neg (by simpa using h1)] at hfin
        exact ⟨_, xt X, k + 1, by omega, by go_num, rfl, by rw [xt_lo X h0], hfin, trivial⟩
    · have hk8 : k = 8 := by omega
      subst hk8
      have hS := S.toNat_lt
      go_wp2_with fail
      go_ret
      have e : mul a b = S := by rw [hm]; show S ^^^ gm 0 X _ = S; simp [gm]
      exact ⟨by rw [e]; rfl, rfl⟩

theorem rpower_any (w : World) (a : UInt8) (n : Nat) (hn : n ≤ 255) : Calls Try.prog 112 #[.int .u8 (a.toNat : Int), .int .i64 (n : Int)] w fun e w' => e = .returned (.int .u8 ((gpow a n).toNat : Int)) ∧ w = w' := by
  go_enter Try.func112, Try.ntmps112
  go_wp2_with fail
  go_loopw [5, 6] (fun s i w' => ∃ (k : Nat), k ≤ n ∧ i = .int .i64 (k : Int) ∧ s = .int .u8 (((gpow a k).toNat : Nat) : Int) ∧ w = w') (fun _ i _ => n - (intOf i).toNat)
  case atStart => exact ⟨0, by omega, rfl, rfl, rfl⟩
  case round =>
    obtain ⟨k, hk, rfl, rfl, rfl⟩ := hrel
    by_cases hlt : k < n
    · go_wp2_with (go_at_call 72; refine (rmul_any _ _ _).mono ?_; rintro e w' ⟨rfl, rfl⟩)
      go_roundw
      case rel => exact ⟨k + 1, by omega, by go_num, rfl, trivial⟩
      case measure => simp [intOf]; omega
    · have : k = n := by omega
      subst this
      go_wp2_with fail
      go_ret
      exact ⟨rfl, rfl⟩

theorem dv_one {a : UInt8} (ha : a ≠ 0) : dv 1 a = (gpow a 254, 0) := by unfold dv; rw [if_neg ha, gpow_254 ha]

theorem rinv_any (w : World) (a : UInt8) : Calls Try.prog 92 #[.int .u8 (a.toNat : Int)] w fun e w' => e = .returned (.tuple #[.int .u8 ((dv 1 a).1.toNat : Int), .int .i64 (dv 1 a).2]) ∧ w = w' := by
  by_cases ha : a = 0
  · subst ha
    go_enter Try.func92, Try.ntmps92
    go_wp2
    go_ret2
    exact ⟨rfl, rfl⟩
  · have na : (((a.toNat : Nat) : Int) == 0) = false := by simpa using fun e => ha (natB.1 e)
    rw [dv_one ha]
    go_enter Try.func92, Try.ntmps92
    go_wp2_with (go_at_call 112; refine (rpower_any w a 254 (by omega)).mono ?_; rintro e w' ⟨rfl, rfl⟩)
    go_ret2
    exact ⟨rfl, rfl⟩

theorem dv_mul (a b : UInt8) : dv a b = (mul a (dv 1 b).1, (dv 1 b).2) := by
  unfold dv
  by_cases hb : b = 0
  · rw [if_pos hb, if_pos hb, mul_zero]
  · rw [if_neg hb, if_neg hb, div_as_mul hb]

theorem xt_mul (a : UInt8) : mul a 2 = xt a := by
  have : (2 : UInt8) = E 1 := rfl
  rw [this, mul_E]; rfl

end Go.Proofs.Ytckmddkhkdcmmaa
