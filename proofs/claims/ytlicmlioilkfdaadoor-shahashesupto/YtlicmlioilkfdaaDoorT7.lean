/-
  Trees: how many steps there are up to the root, on both sides.
-/
import Derived.Test.YtlicmlioilkfdaaDoorT6
namespace Go.Proofs.YtlicmlioilkfdaaDoor
open Go.RowKit
set_option linter.unusedVariables false
set_option linter.unusedSimpArgs false

attribute [local go_sem ↓] Go.wp_at_zero Go.wp_at_succ

/-- Steps from the place i among n up to the root. -/
def stp (i n : Nat) : Nat :=
  if h : n ≤ 1 then 0
  else if i < hf n then 1 + stp i (hf n) else 1 + stp (i - hf n) (n - hf n)
termination_by n
decreasing_by
  all_goals have hb := hf_bounds n (by omega)
  all_goals omega

theorem stp_one (i n : Nat) (h : n ≤ 1) : stp i n = 0 := by rw [stp, dif_pos h]
theorem stp_left (i n : Nat) (h : 2 ≤ n) (hi : i < hf n) : stp i n = 1 + stp i (hf n) := by rw [stp, dif_neg (by omega), if_pos hi]
theorem stp_right (i n : Nat) (h : 2 ≤ n) (hi : ¬ i < hf n) : stp i n = 1 + stp (i - hf n) (n - hf n) := by rw [stp, dif_neg (by omega), if_neg hi]
theorem stp_le (n : Nat) : ∀ i, stp i n ≤ n := by
  induction n using Nat.strongRecOn with
  | ind n ih =>
    intro i
    by_cases h : n ≤ 1
    · rw [stp_one i n h]; omega
    · have hb := hf_bounds n (by omega)
      by_cases hi : i < hf n
      · rw [stp_left i n (by omega) hi]
        have := ih (hf n) (by omega) i
        omega
      · rw [stp_right i n (by omega) hi]
        have := ih (n - hf n) (by omega) (i - hf n)
        omega

set_option maxHeartbeats 1000000 in
theorem steps_any (w : World) (i n : Nat) (hi : i < n) (hn : n ≤ 1048576) : Calls Tryd.prog 56 #[.int .i64 ((i : Nat) : Int), .int .i64 ((n : Nat) : Int)] w fun e w' => e = .returned (.int .i64 ((stp i n : Nat) : Int)) ∧ w = w' := by
  go_enter Tryd.func56, Tryd.ntmps56
  go_wp2_with fail
  go_loopw [0, 1, 5] (fun x y z w' => ∃ i' n' c : Nat, x = .int .i64 ((i' : Nat) : Int) ∧ y = .int .i64 ((n' : Nat) : Int) ∧ z = .int .i64 ((c : Nat) : Int) ∧ i' < n' ∧ n' ≤ 1048576 ∧ c + n' ≤ 1048576 ∧ c + stp i' n' = stp i n ∧ w' = w) (fun _ y _ _ => (intOf y).toNat)
  case atStart => exact ⟨i, n, 0, rfl, rfl, rfl, hi, hn, by omega, by omega, rfl⟩
  case round =>
    obtain ⟨i', n', c, rfl, rfl, rfl, h1, h2, h3, h4, rfl⟩ := hrel
    by_cases hc : 1 < n'
    · have hci : (1 : Int) < ((n' : Nat) : Int) := by omega
      have hb := hf_bounds n' (by omega)
      have HH := hide (half_any wr n' (by omega) h2)
      have hw1 : IntKind.i64.wrap (((c : Nat) : Int) + 1) = ((c : Nat) : Int) + 1 := by
        simp only [IntKind.wrap, IntKind.bits, IntKind.signed]; simp; omega
      by_cases hl : i' < hf n'
      · rw [stp_left i' n' (by omega) hl] at h4
        have H4 := hide h4
        clear h4
        have hli : ((i' : Nat) : Int) < ((hf n' : Nat) : Int) := by omega
        generalize hf n' = k at *
        go_wp2_with fail
        refine (unhide HH).mono ?_
        rintro e w1 ⟨rfl, rfl⟩
        go_wp2_with fail
        refine ⟨⟨i', k, c + 1, rfl, rfl, by go_num, hl, by omega, by omega, by have := unhide H4; omega, by first | rfl | trivial⟩, by simp [intOf]; omega⟩
      · rw [stp_right i' n' (by omega) hl] at h4
        have H4 := hide h4
        clear h4
        have hli : ¬ ((i' : Nat) : Int) < ((hf n' : Nat) : Int) := by omega
        generalize hf n' = k at *
        have e1 : ((i' : Nat) : Int) - ((k : Nat) : Int) = ((i' - k : Nat) : Int) := by omega
        have e2 : ((n' : Nat) : Int) - ((k : Nat) : Int) = ((n' - k : Nat) : Int) := by omega
        go_wp2_with fail
        refine (unhide HH).mono ?_
        rintro e w1 ⟨rfl, rfl⟩
        go_wp2_with fail
        refine ⟨⟨i' - k, n' - k, c + 1, by first | rfl | (rw [← e1]), by first | rfl | (rw [← e2]), by go_num, by omega, by omega, by omega, by have := unhide H4; omega, by first | rfl | trivial⟩, by simp [intOf]; omega⟩
    · have hci : ¬ (1 : Int) < ((n' : Nat) : Int) := by omega
      rw [stp_one i' n' (by omega)] at h4
      have H4 := hide h4
      clear h4
      go_wp2_with fail
      go_ret
      rw [← unhide H4]
      exact ⟨rfl, rfl⟩

set_option maxHeartbeats 1000000 in
theorem rsteps_any (n : Nat) : ∀ (w : World) (i : Nat), i < n → n ≤ 1048576 → Calls Tryd.prog 58 #[.int .i64 ((i : Nat) : Int), .int .i64 ((n : Nat) : Int)] w fun e w' => e = .returned (.int .i64 ((stp i n : Nat) : Int)) ∧ w = w' := by
  induction n using Nat.strongRecOn with
  | ind n ih =>
  intro w i hi hn
  by_cases h1 : n = 1
  · subst h1
    have HS := hide (stp_one i 1 (by omega))
    clear ih
    go_enter Tryd.func58, Tryd.ntmps58
    go_wp2_with fail
    go_ret
    rw [unhide HS]
    exact ⟨rfl, rfl⟩
  · have hb := hf_bounds n (by omega)
    have c1 : (((n : Nat) : Int) == 1) = false := beq_eq_false_iff_ne.2 (by omega)
    have HH := hide (rhalf_any w n (by omega) hn)
    have hle := stp_le n i
    by_cases hl : i < hf n
    · have hs := stp_left i n (by omega) hl
      have HR := hide (ih (hf n) (by omega) w i hl (by omega))
      have hw1 : IntKind.i64.wrap (1 + ((stp i (hf n) : Nat) : Int)) = 1 + ((stp i (hf n) : Nat) : Int) := by
        simp only [IntKind.wrap, IntKind.bits, IntKind.signed]; simp; omega
      have hli : ((i : Nat) : Int) < ((hf n : Nat) : Int) := by omega
      have HS := hide hs
      clear hs ih
      generalize stp i (hf n) = s1 at *
      generalize hf n = k at *
      go_enter Tryd.func58, Tryd.ntmps58
      go_wp2_with fail
      refine (unhide HH).mono ?_
      rintro e w1 ⟨rfl, rfl⟩
      go_wp2_with fail
      refine (unhide HR).mono ?_
      rintro e w1 ⟨rfl, rfl⟩
      go_wp2_with fail
      go_ret
      rw [unhide HS]
      refine ⟨by simp, rfl⟩
    · have hs := stp_right i n (by omega) hl
      have HR := hide (ih (n - hf n) (by omega) w (i - hf n) (by omega) (by omega))
      have hw1 : IntKind.i64.wrap (1 + ((stp (i - hf n) (n - hf n) : Nat) : Int)) = 1 + ((stp (i - hf n) (n - hf n) : Nat) : Int) := by
        simp only [IntKind.wrap, IntKind.bits, IntKind.signed]; simp; omega
      have hli : ¬ ((i : Nat) : Int) < ((hf n : Nat) : Int) := by omega
      have e1 : ((i : Nat) : Int) - ((hf n : Nat) : Int) = ((i - hf n : Nat) : Int) := by omega
      have e2 : ((n : Nat) : Int) - ((hf n : Nat) : Int) = ((n - hf n : Nat) : Int) := by omega
      have HS := hide hs
      clear hs ih
      generalize stp (i - hf n) (n - hf n) = s1 at *
      generalize i - hf n = i2 at *
      generalize n - hf n = n2 at *
      generalize hf n = k at *
      go_enter Tryd.func58, Tryd.ntmps58
      go_wp2_with fail
      refine (unhide HH).mono ?_
      rintro e w1 ⟨rfl, rfl⟩
      go_wp2_with fail
      refine (unhide HR).mono ?_
      rintro e w1 ⟨rfl, rfl⟩
      go_wp2_with fail
      go_ret
      rw [unhide HS]
      refine ⟨by simp, rfl⟩
end Go.Proofs.YtlicmlioilkfdaaDoor
