/-
  The walk of the law GfElements.
-/
import Derived.Test.YtbbgfbjchlefeaaFieldWalk
namespace Go.Proofs.Ytbbgfbjchlefeaa
open Go.RowKit
set_option linter.unusedVariables false

attribute [local go_sem ↓] Go.wp_at_zero Go.wp_at_succ

theorem div_at {a b x : UInt8} {E : Int} (h : dv a b = (x, E)) (w : World) : Calls Try.prog 12 #[.int .u8 (a.toNat : Int), .int .u8 (b.toNat : Int)] w fun e w' => e = .returned (.tuple #[.int .u8 (x.toNat : Int), .int .i64 E]) ∧ Fr (fun _ => False) w w' := by
  have := div_any w a b
  rw [h] at this
  exact this
theorem rdiv_at {a b x : UInt8} {E : Int} (h : dv a b = (x, E)) (w : World) : Calls Try.prog 13 #[.int .u8 (a.toNat : Int), .int .u8 (b.toNat : Int)] w fun e w' => e = .returned (.tuple #[.int .u8 (x.toNat : Int), .int .i64 E]) ∧ w = w' := by
  have := rdiv_any w a b
  rw [h] at this
  exact this
theorem rinv_at {a x : UInt8} {E : Int} (h : dv 1 a = (x, E)) (w : World) : Calls Try.prog 15 #[.int .u8 (a.toNat : Int)] w fun e w' => e = .returned (.tuple #[.int .u8 (x.toNat : Int), .int .i64 E]) ∧ w = w' := by
  have := rinv_any w a
  rw [h] at this
  exact this
theorem log_at {a : UInt8} {x E : Int} (h : lg a = (x, E)) (w : World) : Calls Try.prog 16 #[.int .u8 (a.toNat : Int)] w fun e w' => e = .returned (.tuple #[.int .i64 x, .int .i64 E]) ∧ Fr (fun _ => False) w w' := by
  have := log_any w a
  rw [h] at this
  exact this
theorem rlog_at {a : UInt8} {x E : Int} (h : lg a = (x, E)) (w : World) : Calls Try.prog 17 #[.int .u8 (a.toNat : Int)] w fun e w' => e = .returned (.tuple #[.int .i64 x, .int .i64 E]) ∧ w = w' := by
  have := rlog_any w a
  rw [h] at this
  exact this
theorem rmul_at {a b x : UInt8} (h : mul a b = x) (w : World) : Calls Try.prog 20 #[.int .u8 (a.toNat : Int), .int .u8 (b.toNat : Int)] w fun e w' => e = .returned (.int .u8 (x.toNat : Int)) ∧ w = w' := by
  subst h; exact rmul_any w a b
theorem pow_at {a x : UInt8} {n : Int} (h : pw a n = x) (hn : -9223372036854775808 ≤ n ∧ n ≤ 9223372036854775807) (w : World) : Calls Try.prog 22 #[.int .u8 (a.toNat : Int), .int .i64 n] w fun e w' => e = .returned (.int .u8 (x.toNat : Int)) ∧ Fr (fun _ => False) w w' := by
  subst h; exact pow_any w a n hn
theorem rpow_at {a x : UInt8} {n : Int} (h : pw a n = x) (hn : -9223372036854775808 ≤ n ∧ n ≤ 9223372036854775807) (w : World) : Calls Try.prog 23 #[.int .u8 (a.toNat : Int), .int .i64 n] w fun e w' => e = .returned (.int .u8 (x.toNat : Int)) ∧ w = w' := by
  subst h; exact rpow_any w a n hn
theorem rpow_at2 {x : UInt8} {n : Int} (h : pw 2 n = x) (hn : -9223372036854775808 ≤ n ∧ n ≤ 9223372036854775807) (w : World) : Calls Try.prog 23 #[.int .u8 2, .int .i64 n] w fun e w' => e = .returned (.int .u8 (x.toNat : Int)) ∧ w = w' := rpow_at h hn w
theorem exp_at {x : UInt8} {n : Int} (h : pw 2 n = x) (hn : -9223372036854775808 ≤ n ∧ n ≤ 9223372036854775807) (w : World) : Calls Try.prog 24 #[.int .i64 n] w fun e w' => e = .returned (.int .u8 (x.toNat : Int)) ∧ Fr (fun _ => False) w w' := by
  subst h; exact exp_any w n hn

set_option maxHeartbeats 2000000 in
set_option maxRecDepth 100000 in
theorem elements_any (w : World) (a b : UInt8) (n : Int) (hn : -9223372036854775808 ≤ n ∧ n ≤ 9223372036854775807) : Calls Try.prog 3 #[.int .u8 (a.toNat : Int), .int .u8 (b.toNat : Int), .int .i64 n] w fun e w' => e = .returned (.bool true) ∧ Fr (fun _ => False) w w' := by
  obtain ⟨q, E1, h1⟩ : ∃ x y, dv a b = (x, y) := ⟨_, _, rfl⟩
  obtain ⟨i, E2, h2⟩ : ∃ x y, dv 1 a = (x, y) := ⟨_, _, rfl⟩
  obtain ⟨l, E3, h3⟩ : ∃ x y, lg a = (x, y) := ⟨_, _, rfl⟩
  obtain ⟨s, hs⟩ : ∃ x, a ^^^ b = x := ⟨_, rfl⟩
  obtain ⟨m, hm⟩ : ∃ x, mul a b = x := ⟨_, rfl⟩
  obtain ⟨p, hp⟩ : ∃ x, pw a n = x := ⟨_, rfl⟩
  obtain ⟨x2, hx2⟩ : ∃ x, pw 2 n = x := ⟨_, rfl⟩
  have gs : (((s.toNat : Nat) : Int) == bits BinOp.xor IntKind.u8 ((a.toNat : Nat) : Int) ((b.toNat : Nat) : Int)) = true := by rw [xorV, hs]; simp
  have C1 := hide (fun W => div_at h1 W)
  have C2 := hide (fun W => rdiv_at h1 W)
  have C3 := hide (fun W => inv_at h2 W)
  have C4 := hide (fun W => rinv_at h2 W)
  have C5 := hide (fun W => log_at h3 W)
  have C6 := hide (fun W => rlog_at h3 W)
  have C7 := hide (fun W => add_at hs W)
  have C8 := hide (fun W => mul_at hm W)
  have C9 := hide (fun W => rmul_at hm W)
  have D1 := hide (fun W => pow_at hp hn W)
  have D2 := hide (fun W => rpow_at hp hn W)
  have D3 := hide (fun W => exp_at hx2 hn W)
  have D4 := hide (fun W => rpow_at2 hx2 hn W)
  clear h1 h2 h3 hs hm hp hx2
  go_enter Try.func3, Try.ntmps3
  go_wp2_with fail
  refine (unhide C1 _).mono ?_
  rintro e w1 ⟨rfl, f1⟩
  have F1 := hide f1
  clear f1
  go_wp2_with fail
  refine (unhide C2 _).mono ?_
  rintro e w' ⟨rfl, rfl⟩
  go_wp2_with fail
  refine (unhide C3 _).mono ?_
  rintro e w2 ⟨rfl, f2⟩
  have F2 := hide ((unhide F1).trans f2 (fun _ _ h => h))
  clear f2 F1
  go_wp2_with fail
  refine (unhide C4 _).mono ?_
  rintro e w' ⟨rfl, rfl⟩
  go_wp2_with fail
  refine (unhide C5 _).mono ?_
  rintro e w3 ⟨rfl, f3⟩
  have F3 := hide ((unhide F2).trans f3 (fun _ _ h => h))
  clear f3 F2
  go_wp2_with fail
  refine (unhide C6 _).mono ?_
  rintro e w' ⟨rfl, rfl⟩
  go_wp2_with fail
  refine (unhide C7 _).mono ?_
  rintro e w' ⟨rfl, rfl⟩
  go_wp2_with fail
  refine (unhide C8 _).mono ?_
  rintro e w' ⟨rfl, rfl⟩
  go_wp2_with fail
  refine (unhide C9 _).mono ?_
  rintro e w' ⟨rfl, rfl⟩
  go_wp2_with fail
  refine (num_any _ _).mono ?_
  rintro e w' ⟨rfl, rfl⟩
  go_wp2_with fail
  refine (num_any _ _).mono ?_
  rintro e w' ⟨rfl, rfl⟩
  go_wp2_with fail
  refine (num_any _ _).mono ?_
  rintro e w' ⟨rfl, rfl⟩
  go_wp2_with fail
  refine (unhide D1 _).mono ?_
  rintro e w4 ⟨rfl, f4⟩
  have F4 := hide ((unhide F3).trans f4 (fun _ _ h => h))
  clear f4 F3
  go_wp2_with fail
  refine (unhide D2 _).mono ?_
  rintro e w' ⟨rfl, rfl⟩
  go_wp2_with fail
  refine (unhide D3 _).mono ?_
  rintro e w5 ⟨rfl, f5⟩
  have F5 := hide ((unhide F4).trans f5 (fun _ _ h => h))
  clear f5 F4
  go_wp2_with fail
  refine (unhide D4 _).mono ?_
  rintro e w' ⟨rfl, rfl⟩
  go_wp2_with fail
  refine (live_any _).mono ?_
  rintro e w6 ⟨rfl, f6⟩
  go_wp2_with fail
  go_ret
  exact ⟨rfl, (unhide F5).trans f6 (fun _ _ h => h)⟩

#print axioms elements_any
end Go.Proofs.Ytbbgfbjchlefeaa
