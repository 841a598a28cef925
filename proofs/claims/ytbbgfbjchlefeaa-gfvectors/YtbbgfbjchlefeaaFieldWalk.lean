/-
  The walk of the law GfField.
-/
import Derived.Test.YtbbgfbjchlefeaaLive
import Derived.OpenShut
namespace Go.Proofs.Ytbbgfbjchlefeaa
open Go.RowKit
set_option linter.unusedVariables false

attribute [local go_sem ↓] Go.wp_at_zero Go.wp_at_succ

/-- A product and a sum, by the names of the answers. -/
theorem mul_at {a b x : UInt8} (h : mul a b = x) (w : World) : Calls Try.prog 19 #[.int .u8 (a.toNat : Int), .int .u8 (b.toNat : Int)] w fun e w' => e = .returned (.int .u8 (x.toNat : Int)) ∧ w = w' := by
  subst h; exact mul_any w a b
theorem add_at {a b x : UInt8} (h : a ^^^ b = x) (w : World) : Calls Try.prog 18 #[.int .u8 (a.toNat : Int), .int .u8 (b.toNat : Int)] w fun e w' => e = .returned (.int .u8 (x.toNat : Int)) ∧ w = w' := by
  subst h; exact add_any w a b

theorem inv_at {a x : UInt8} {E : Int} (h : dv 1 a = (x, E)) (w : World) : Calls Try.prog 14 #[.int .u8 (a.toNat : Int)] w fun e w' => e = .returned (.tuple #[.int .u8 (x.toNat : Int), .int .i64 E]) ∧ Fr (fun _ => False) w w' := by
  have := inv_any w a
  rw [h] at this
  exact this

theorem mul_at1 {a x : UInt8} (h : mul a 1 = x) (w : World) : Calls Try.prog 19 #[.int .u8 (a.toNat : Int), .int .u8 1] w fun e w' => e = .returned (.int .u8 (x.toNat : Int)) ∧ w = w' := mul_at h w
theorem add_at0 {a x : UInt8} (h : a ^^^ 0 = x) (w : World) : Calls Try.prog 18 #[.int .u8 (a.toNat : Int), .int .u8 0] w fun e w' => e = .returned (.int .u8 (x.toNat : Int)) ∧ w = w' := add_at h w

set_option maxHeartbeats 2000000 in
set_option maxRecDepth 100000 in
theorem field_any (w : World) (a b c : UInt8) : Calls Try.prog 4 #[.int .u8 (a.toNat : Int), .int .u8 (b.toNat : Int), .int .u8 (c.toNat : Int)] w fun e w' => e = .returned (.bool true) ∧ Fr (fun _ => False) w w' := by
  obtain ⟨ab, hab⟩ : ∃ x, mul a b = x := ⟨_, rfl⟩
  obtain ⟨abc, habc⟩ : ∃ x, mul ab c = x := ⟨_, rfl⟩
  obtain ⟨bc, hbc⟩ : ∃ x, mul b c = x := ⟨_, rfl⟩
  obtain ⟨ac, hac⟩ : ∃ x, mul a c = x := ⟨_, rfl⟩
  obtain ⟨s, hs⟩ : ∃ x, b ^^^ c = x := ⟨_, rfl⟩
  obtain ⟨t, ht⟩ : ∃ x, mul a s = x := ⟨_, rfl⟩
  have M1 := hide (fun W => mul_at hab W)
  have M2 := hide (fun W => mul_at (show mul b a = ab by rw [mul_comm]; exact hab) W)
  have M3 := hide (fun W => mul_at habc W)
  have M4 := hide (fun W => mul_at hbc W)
  have M5 := hide (fun W => mul_at (show mul a bc = abc by rw [← hbc, ← mul_assoc, hab, habc]) W)
  have M6 := hide (fun W => mul_at ht W)
  have M7 := hide (fun W => mul_at hac W)
  have A1 := hide (fun W => add_at hs W)
  have A2 := hide (fun W => add_at (show ab ^^^ ac = t by rw [← ht, ← hs, mul_xor2, hab, hac]) W)
  have M8 := hide (fun W => mul_at1 (mul_one a) W)
  have A3 := hide (fun W => add_at0 (UInt8.xor_zero (a := a)) W)
  have A4 := hide (fun W => add_at (UInt8.xor_self (a := a)) W)
  have hz : ab = 0 ↔ a = 0 ∨ b = 0 := by rw [← hab]; exact mul_eq_zero
  have hi : a ≠ 0 → mul a (div 1 a) = 1 := fun h => by rw [mul_comm, div_mul h]
  clear hab habc hbc hac hs ht
  go_enter Try.func4, Try.ntmps4
  go_wp2_with fail
  refine (unhide M1 _).mono ?_
  rintro e w' ⟨rfl, rfl⟩
  go_wp2_with fail
  refine (unhide M2 _).mono ?_
  rintro e w' ⟨rfl, rfl⟩
  go_wp2_with fail
  refine (unhide M1 _).mono ?_
  rintro e w' ⟨rfl, rfl⟩
  go_wp2_with fail
  refine (unhide M3 _).mono ?_
  rintro e w' ⟨rfl, rfl⟩
  go_wp2_with fail
  refine (unhide M4 _).mono ?_
  rintro e w' ⟨rfl, rfl⟩
  go_wp2_with fail
  refine (unhide M5 _).mono ?_
  rintro e w' ⟨rfl, rfl⟩
  go_wp2_with fail
  refine (unhide A1 _).mono ?_
  rintro e w' ⟨rfl, rfl⟩
  go_wp2_with fail
  refine (unhide M6 _).mono ?_
  rintro e w' ⟨rfl, rfl⟩
  go_wp2_with fail
  refine (unhide M1 _).mono ?_
  rintro e w' ⟨rfl, rfl⟩
  go_wp2_with fail
  refine (unhide M7 _).mono ?_
  rintro e w' ⟨rfl, rfl⟩
  go_wp2_with fail
  refine (unhide A2 _).mono ?_
  rintro e w' ⟨rfl, rfl⟩
  go_wp2_with fail
  refine (unhide M8 _).mono ?_
  rintro e w' ⟨rfl, rfl⟩
  go_wp2_with fail
  refine (unhide A3 _).mono ?_
  rintro e w' ⟨rfl, rfl⟩
  go_wp2_with fail
  refine (unhide A4 _).mono ?_
  rintro e w' ⟨rfl, rfl⟩
  clear M2 M3 M4 M5 M6 M7 M8 A1 A2 A3 A4
  by_cases ha : a = 0
  · have hab0 : ab = 0 := hz.2 (.inl ha)
    subst ha hab0
    have HI := hide (fun W => inv_at (show dv 1 0 = (0, 20) from rfl) W)
    clear hz hi
    go_wp2_with fail
    refine (unhide HI _).mono ?_
    rintro e w1 ⟨rfl, f1⟩
    by_cases hb : b = 0
    · subst hb
      go_wp2_with (first | (go_at_call 21; refine (num_any _ _).mono ?_; rintro e w' ⟨rfl, rfl⟩) | (go_at_call 19; refine (unhide M1 _).mono ?_; rintro e w' ⟨rfl, rfl⟩) | (go_at_call 25; refine (live_any _).mono ?_; rintro e w2 ⟨rfl, f2⟩))
      go_ret
      exact ⟨rfl, f1.trans f2 (fun _ _ h => h)⟩
    · have nb : (((b.toNat : Nat) : Int) == 0) = false := by simpa using fun e => hb (natB.1 e)
      go_wp2_with (first | (go_at_call 21; refine (num_any _ _).mono ?_; rintro e w' ⟨rfl, rfl⟩) | (go_at_call 19; refine (unhide M1 _).mono ?_; rintro e w' ⟨rfl, rfl⟩) | (go_at_call 25; refine (live_any _).mono ?_; rintro e w2 ⟨rfl, f2⟩))
      go_ret
      exact ⟨rfl, f1.trans f2 (fun _ _ h => h)⟩
  · have na : (((a.toNat : Nat) : Int) == 0) = false := by simpa using fun e => ha (natB.1 e)
    have na2 : (((a.toNat : Nat) : Int) != 0) = true := by simpa using fun e => ha (natB.1 e)
    have HI := hide (fun W => inv_at (show dv 1 a = (div 1 a, 0) by unfold dv; rw [if_neg ha]) W)
    have M9 := hide (fun W => mul_at (hi ha) W)
    by_cases hb : b = 0
    · have hab0 : ab = 0 := hz.2 (.inr hb)
      subst hb hab0
      clear hz hi
      go_wp2_with fail
      refine (unhide HI _).mono ?_
      rintro e w1 ⟨rfl, f1⟩
      go_wp2_with fail
      refine (num_any _ _).mono ?_
      rintro e w' ⟨rfl, rfl⟩
      go_wp2_with fail
      refine (unhide M9 _).mono ?_
      rintro e w' ⟨rfl, rfl⟩
      go_wp2_with fail
      refine (unhide M1 _).mono ?_
      rintro e w' ⟨rfl, rfl⟩
      go_wp2_with (go_at_call 25; refine (live_any _).mono ?_; rintro e w2 ⟨rfl, f2⟩)
      go_ret
      exact ⟨rfl, f1.trans f2 (fun _ _ h => h)⟩
    · have nb : (((b.toNat : Nat) : Int) == 0) = false := by simpa using fun e => hb (natB.1 e)
      have nab : (((ab.toNat : Nat) : Int) == 0) = false := by
        simp only [beq_eq_false_iff_ne, ne_eq]
        exact fun e => (hz.1 (natB.1 e)).elim ha hb
      clear hz hi
      go_wp2_with fail
      refine (unhide HI _).mono ?_
      rintro e w1 ⟨rfl, f1⟩
      go_wp2_with fail
      refine (num_any _ _).mono ?_
      rintro e w' ⟨rfl, rfl⟩
      go_wp2_with fail
      refine (unhide M9 _).mono ?_
      rintro e w' ⟨rfl, rfl⟩
      go_wp2_with fail
      refine (unhide M1 _).mono ?_
      rintro e w' ⟨rfl, rfl⟩
      go_wp2_with (go_at_call 25; refine (live_any _).mono ?_; rintro e w2 ⟨rfl, f2⟩)
      go_ret
      exact ⟨rfl, f1.trans f2 (fun _ _ h => h)⟩

theorem byte_of {n : Int} (h : (Lit.int .u8 n).wf = true) : ∃ b : UInt8, n = ((b.toNat : Nat) : Int) := by
  have hb := bounds_u8 h
  exact ⟨UInt8.ofNat n.toNat, by rw [UInt8.toNat_ofNat']; omega⟩

#print axioms field_any
end Go.Proofs.Ytbbgfbjchlefeaa
