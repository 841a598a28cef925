/-
  cmp.Compare and cmp.Or, plainly.
-/
import Derived.Test.YtdgmlopaeonacaaD1
import Derived.Sort.Grow
namespace Go.Proofs.Ytdgmlopaeonacaa
open Go.RowKit
set_option linter.unusedVariables false

attribute [local go_sem ↓] Go.wp_at_zero Go.wp_at_succ

/-- What cmp.Compare answers. -/
def cm (x y : Int) : Int := if x < y then -1 else if y < x then 1 else 0

section
variable (w : World) (x y : Int)

theorem nanU : Calls Try.prog 72 #[.int .u64 x] w fun e w' => e = .returned (.bool false) ∧ w = w' := by
  go_enter Try.func72, Try.ntmps72
  go_wp2_with fail
  go_ret
  exact ⟨by simp, rfl⟩

theorem nanI : Calls Try.prog 73 #[.int .i64 x] w fun e w' => e = .returned (.bool false) ∧ w = w' := by
  go_enter Try.func73, Try.ntmps73
  go_wp2_with fail
  go_ret
  exact ⟨by simp, rfl⟩

theorem compareU : Calls Try.prog 62 #[.int .u64 x, .int .u64 y] w fun e w' => e = .returned (.int .i64 (cm x y)) ∧ w = w' := by
  unfold cm
  rcases Int.lt_trichotomy x y with h | h | h
  · have b1 : decide (x < y) = true := by simp; omega
    rw [if_pos h]
    clear h
    go_enter Try.func62, Try.ntmps62
    go_wp2_with (refine (nanU _ _).mono ?_; rintro e w' ⟨rfl, rfl⟩)
    go_ret
    exact ⟨rfl, rfl⟩
  · subst h
    rw [if_neg (by omega), if_neg (by omega)]
    go_enter Try.func62, Try.ntmps62
    go_wp2_with (refine (nanU w x).mono ?_; rintro e w' ⟨rfl, rfl⟩)
    go_ret
    exact ⟨rfl, rfl⟩
  · have b1 : decide (x < y) = false := by simp; omega
    have b2 : decide (y < x) = true := by simp; omega
    rw [if_neg (by omega), if_pos h]
    clear h
    go_enter Try.func62, Try.ntmps62
    go_wp2_with (refine (nanU _ _).mono ?_; rintro e w' ⟨rfl, rfl⟩)
    go_ret
    exact ⟨rfl, rfl⟩

theorem compareI : Calls Try.prog 63 #[.int .i64 x, .int .i64 y] w fun e w' => e = .returned (.int .i64 (cm x y)) ∧ w = w' := by
  unfold cm
  rcases Int.lt_trichotomy x y with h | h | h
  · have b1 : decide (x < y) = true := by simp; omega
    rw [if_pos h]
    clear h
    go_enter Try.func63, Try.ntmps63
    go_wp2_with (refine (nanI _ _).mono ?_; rintro e w' ⟨rfl, rfl⟩)
    go_ret
    exact ⟨rfl, rfl⟩
  · subst h
    rw [if_neg (by omega), if_neg (by omega)]
    go_enter Try.func63, Try.ntmps63
    go_wp2_with (refine (nanI w x).mono ?_; rintro e w' ⟨rfl, rfl⟩)
    go_ret
    exact ⟨rfl, rfl⟩
  · have b1 : decide (x < y) = false := by simp; omega
    have b2 : decide (y < x) = true := by simp; omega
    rw [if_neg (by omega), if_pos h]
    clear h
    go_enter Try.func63, Try.ntmps63
    go_wp2_with (refine (nanI _ _).mono ?_; rintro e w' ⟨rfl, rfl⟩)
    go_ret
    exact ⟨rfl, rfl⟩

/-- What cmp.Or answers of two. -/
def orI (x y : Int) : Int := if x = 0 then y else x

theorem or_any (k cc : Nat) (hk0 : w.cell? ⟨k, 0, none⟩ = some (.int .i64 x)) (hk1 : w.cell? ⟨k, 1, none⟩ = some (.int .i64 y)) : Calls Try.prog 61 #[.slice (some ⟨k, 0, none⟩) 2 cc] w fun e w' => e = .returned (.int .i64 (orI x y)) ∧ w = w' := by
  unfold orI
  by_cases hx : x = 0
  · subst hx
    rw [if_pos rfl]
    by_cases hy : y = 0
    · subst hy
      go_enter Try.func61, Try.ntmps61
      go_wp2_with fail
      refine wp_loop_rounds 3 ?_
      rw [rounds_succ]
      go_wp2_with fail
      rw [rounds_succ]
      go_wp2_with fail
      rw [rounds_succ]
      go_wp2_with fail
      go_ret
      exact ⟨rfl, rfl⟩
    · have b1 : (y == 0) = false := by simp [hy]
      clear hy
      go_enter Try.func61, Try.ntmps61
      go_wp2_with fail
      refine wp_loop_rounds 2 ?_
      rw [rounds_succ]
      go_wp2_with fail
      rw [rounds_succ]
      go_wp2_with fail
      go_ret
      exact ⟨rfl, rfl⟩
  · have b1 : (x == 0) = false := by simp [hx]
    rw [if_neg hx]
    clear hx
    go_enter Try.func61, Try.ntmps61
    go_wp2_with fail
    refine wp_loop_rounds 1 ?_
    rw [rounds_succ]
    go_wp2_with fail
    go_ret
    exact ⟨rfl, rfl⟩
end
end Go.Proofs.Ytdgmlopaeonacaa
