/-
  The walks of package gf's elements: sums, products.
-/
import Derived.Test.YtckmddkhkdcmmaaChecked
import Derived.Test.YtckmddkhkdcmmaaMem
import Derived.Test.YtckmddkhkdcmmaaFld
import Derived.KernelRfl
import Derived.BigQuiet
import Derived.Deep.RegionHeld3
import Derived.Deep.RegionLaw
import Derived.Deep.DrawnRows
namespace Go.Proofs.Ytckmddkhkdcmmaa
open Go.RowKit
set_option linter.unusedVariables false

attribute [local go_sem ↓] Go.wp_at_zero Go.wp_at_succ

theorem wrap_u8 (c : UInt8) : IntKind.u8.wrap ((c.toNat : Nat) : Int) = ((c.toNat : Nat) : Int) := by
  have := c.toNat_lt
  generalize c.toNat = n at *
  simp only [IntKind.wrap, IntKind.bits, IntKind.signed]
  simp
  omega

theorem xorV (a b : UInt8) : bits BinOp.xor IntKind.u8 ((a.toNat : Nat) : Int) ((b.toNat : Nat) : Int) = (((a ^^^ b).toNat : Nat) : Int) := by
  show IntKind.u8.wrap ((BitVec.ofInt 8 ((a.toNat : Nat) : Int) ^^^ BitVec.ofInt 8 ((b.toNat : Nat) : Int)).toNat : Int) = _
  rw [BitVec.ofInt_natCast, BitVec.ofInt_natCast, ← UInt8.toBitVec_ofNat', ← UInt8.toBitVec_ofNat', UInt8.ofNat_toNat, UInt8.ofNat_toNat, ← UInt8.toBitVec_xor, UInt8.toNat_toBitVec]
  exact wrap_u8 _

theorem andV (a b : UInt8) : bits BinOp.and IntKind.u8 ((a.toNat : Nat) : Int) ((b.toNat : Nat) : Int) = (((a &&& b).toNat : Nat) : Int) := by
  show IntKind.u8.wrap ((BitVec.ofInt 8 ((a.toNat : Nat) : Int) &&& BitVec.ofInt 8 ((b.toNat : Nat) : Int)).toNat : Int) = _
  rw [BitVec.ofInt_natCast, BitVec.ofInt_natCast, ← UInt8.toBitVec_ofNat', ← UInt8.toBitVec_ofNat', UInt8.ofNat_toNat, UInt8.ofNat_toNat, ← UInt8.toBitVec_and, UInt8.toNat_toBitVec]
  exact wrap_u8 _

theorem natB {a : UInt8} : (((a.toNat : Nat) : Int) = 0) ↔ a = 0 := by
  constructor
  · intro h; rw [← UInt8.toNat_inj]; show a.toNat = 0; omega
  · rintro rfl; rfl

theorem natI {a b : UInt8} : (((a.toNat : Nat) : Int) = ((b.toNat : Nat) : Int)) ↔ a = b := by
  constructor
  · intro h; rw [← UInt8.toNat_inj]; omega
  · rintro rfl; rfl

theorem eqV (a b : UInt8) : (((a.toNat : Nat) : Int) == ((b.toNat : Nat) : Int)) = decide (a = b) := by
  rw [Bool.eq_iff_iff]; simp only [beq_iff_eq, decide_eq_true_eq]; exact natI
theorem neV (a b : UInt8) : (((a.toNat : Nat) : Int) != ((b.toNat : Nat) : Int)) = decide (a ≠ b) := by
  rw [Bool.eq_iff_iff]; simp only [bne_iff_ne, ne_eq, decide_eq_true_eq]; exact not_congr natI

theorem shlV (a : UInt8) : ((a.toNat : Nat) : Int) * (2 : Int) % (256 : Int) = (((a <<< 1).toNat : Nat) : Int) :=
  all256 (P := fun a => ((a.toNat : Nat) : Int) * (2 : Int) % (256 : Int) = (((a <<< 1).toNat : Nat) : Int)) (by decide +kernel) a
theorem shrV (a : UInt8) : ((a.toNat : Nat) : Int) / (2 : Int) = (((a >>> 1).toNat : Nat) : Int) :=
  all256 (P := fun a => ((a.toNat : Nat) : Int) / (2 : Int) = (((a >>> 1).toNat : Nat) : Int)) (by decide +kernel) a

theorem add_any (w : World) (a b : UInt8) : Calls Try.prog 115 #[.int .u8 (a.toNat : Int), .int .u8 (b.toNat : Int)] w fun e w' => e = .returned (.int .u8 ((a ^^^ b).toNat : Int)) ∧ w = w' := by
  have h := xorV a b
  go_enter Try.func115, Try.ntmps115
  go_wp2
  go_ret
  exact ⟨rfl, rfl⟩

theorem num_any (w : World) (n : Int) : Calls Try.prog 22 #[.int .i64 n] w fun e w' => e = .returned (.int .i64 n) ∧ w = w' := by
  go_enter Try.func22, Try.ntmps22
  go_wp2
  go_ret
  exact ⟨rfl, rfl⟩

theorem double_any (w : World) (a : UInt8) : Calls Try.prog 104 #[.int .u8 (a.toNat : Int)] w fun e w' => e = .returned (.int .u8 ((xt a).toNat : Int)) ∧ w = w' := by
  have h1 : bits BinOp.and IntKind.u8 ((a.toNat : Nat) : Int) 128 = (((a &&& 128).toNat : Nat) : Int) := andV a 128
  have h2 : bits BinOp.xor IntKind.u8 (((a.toNat : Nat) : Int) * (2 : Int) % (256 : Int)) 29 = ((((a <<< 1) ^^^ 29).toNat : Nat) : Int) := by rw [shlV]; exact xorV (a <<< 1) 29
  have h3 := shlV a
  by_cases h : a &&& 128 = 0
  · have hx : xt a = a <<< 1 := by unfold xt; rw [if_pos h]
    have hb : (bits BinOp.and IntKind.u8 ((a.toNat : Nat) : Int) 128 != 0) = false := by rw [h1, h]; rfl
    have H3 := hide h3
    clear h1 h2 h3
    rw [hx]
    go_enter Try.func104, Try.ntmps104
    go_wp2
    go_ret
    exact ⟨by rw [← unhide H3]; rfl, rfl⟩
  · have hx : xt a = (a <<< 1) ^^^ 29 := by unfold xt; rw [if_neg h]
    have hb : (bits BinOp.and IntKind.u8 ((a.toNat : Nat) : Int) 128 != 0) = true := by
      rw [h1]
      simp only [bne_iff_ne, ne_eq]
      intro e
      exact h (natB.1 e)
    have H2 := hide h2
    clear h1 h2 h3
    rw [hx]
    go_enter Try.func104, Try.ntmps104
    go_wp2
    go_ret
    exact ⟨by rw [← unhide H2]; rfl, rfl⟩

theorem shr_lt {Y : UInt8} (h : Y ≠ 0) : (Y >>> 1).toNat < Y.toNat := by
  have h1 := shrV Y
  have h2 : Y.toNat ≠ 0 := fun e => h (natB.1 (by omega))
  omega

theorem gm_round (n : Nat) (S X Y : UInt8) (hn : Y.toNat < 2 ^ n) (h0 : Y ≠ 0) : ∃ m, (Y >>> 1).toNat < 2 ^ m ∧ S ^^^ gm n X Y = (if Y &&& 1 = 1 then S ^^^ X else S) ^^^ gm m (xt X) (Y >>> 1) := by
  have h1 := shrV Y
  have h2 : Y.toNat ≠ 0 := fun e => h0 (natB.1 (by omega))
  cases n with
  | zero => simp at hn; omega
  | succ n =>
    refine ⟨n, ?_, gm_step n S X Y⟩
    rw [Nat.pow_succ] at hn
    omega

set_option maxHeartbeats 400000 in
theorem mul_any (w : World) (a b : UInt8) : Calls Try.prog 63 #[.int .u8 (a.toNat : Int), .int .u8 (b.toNat : Int)] w fun e w' => e = .returned (.int .u8 ((mul a b).toNat : Int)) ∧ w = w' := by
  go_enter Try.func63, Try.ntmps63
  go_wp2_with fail
  go_loopw [0, 1, 5] (fun x y s w' => ∃ X Y S : UInt8, ∃ n : Nat, x = .int .u8 ((X.toNat : Nat) : Int) ∧ y = .int .u8 ((Y.toNat : Nat) : Int) ∧ s = .int .u8 ((S.toNat : Nat) : Int) ∧ Y.toNat < 2 ^ n ∧ mul a b = S ^^^ gm n X Y ∧ w = w') (fun _ y _ _ => (intOf y).toNat)
  case atStart => exact ⟨a, b, 0, 8, rfl, rfl, rfl, b.toNat_lt, by rw [UInt8.zero_xor]; rfl, rfl⟩
  case round =>
    obtain ⟨X, Y, S, n, rfl, rfl, rfl, hn, hm, rfl⟩ := hrel
    by_cases h0 : Y = 0
    · subst h0
      rw [gm_zero, UInt8.xor_zero] at hm
      go_wp2_with fail
      go_ret
      exact ⟨by rw [hm]; rfl, rfl⟩
    · have hY : (((Y.toNat : Nat) : Int) != 0) = true := by simp only [bne_iff_ne, ne_eq]; exact fun e => h0 (natB.1 e)
      obtain ⟨m, hm1, hm2⟩ := gm_round n S X Y hn h0
      have hlt := shr_lt h0
      have hsh := shrV Y
      have ha : bits BinOp.and IntKind.u8 ((Y.toNat : Nat) : Int) 1 = (((Y &&& 1).toNat : Nat) : Int) := andV Y 1
      have hx := xorV S X
      by_cases h1 : Y &&& 1 = 1
      · have hb : (bits BinOp.and IntKind.u8 ((Y.toNat : Nat) : Int) 1 == 1) = true := by rw [ha, h1]; rfl
        rw [if_pos h1] at hm2
        rw [hm2] at hm
        have H := hide hm
        have H1 := hide hm1
        have H2 := hide hlt
        have H3 := hide hsh
        have H4 := hide hx
        clear ha hm hn hm1 hm2 hlt hsh hx
        go_wp2_with (go_at_call 104; refine (double_any _ X).mono ?_; rintro e w' ⟨rfl, rfl⟩)
        go_roundw
        case rel => exact ⟨xt X, Y >>> 1, S ^^^ X, m, rfl, by rw [← unhide H3], by rw [← unhide H4], unhide H1, unhide H, trivial⟩
        case measure => have := unhide H2; have := unhide H3; simp [intOf]; omega
      · have hb : (bits BinOp.and IntKind.u8 ((Y.toNat : Nat) : Int) 1 == 1) = false := by
          rw [ha]
          have : ((((Y &&& 1).toNat : Nat) : Int) == ((((1 : UInt8)).toNat : Nat) : Int)) = false := by rw [eqV]; simpa using h1
          exact this
        rw [if_neg h1] at hm2
        rw [hm2] at hm
        have H := hide hm
        have H1 := hide hm1
        have H2 := hide hlt
        have H3 := hide hsh
        clear ha hm hn hm1 hm2 hlt hsh hx
        go_wp2_with (go_at_call 104; refine (double_any _ X).mono ?_; rintro e w' ⟨rfl, rfl⟩)
        go_roundw
        case rel => exact ⟨xt X, Y >>> 1, S, m, rfl, by rw [← unhide H3], rfl, unhide H1, unhide H, trivial⟩
        case measure => have := unhide H2; have := unhide H3; simp [intOf]; omega

end Go.Proofs.Ytckmddkhkdcmmaa
