/-
  Linked and Sized, of both.
-/
import Derived.Test.YtbenailemoefhaaA3
import Derived.Test.YtbenailemoefhaaA4
namespace Go.Proofs.Ytbenailemoefhaa
open Go.RowKit
set_option linter.unusedVariables false
set_option linter.unusedSimpArgs false

attribute [local go_sem ↓] Go.wp_at_zero Go.wp_at_succ

/-- Linked: the error; the inode. -/
def lkE (x : In) (by_ : Int) : Int := if ck x ≠ 0 then ck x else if x.l + by_ < 0 ∨ x.l + by_ > 32000 then 123 else 0
def lkX (x : In) (by_ now : Int) : In := { x with l := x.l + by_, tc := now }
theorem ck_lk (x : In) (h : ck x = 0) : x.l ≤ 32000 := by
  unfold ck at h
  split at h
  · omega
  · split at h
    · omega
    · omega
theorem tch4 (x : In) (now : Int) : tch x (tb 4 1) (tb 4 2) (tb 4 4) now = { x with tc := now } := by
  have e1 : tb 4 1 = false := rfl
  have e2 : tb 4 2 = false := rfl
  have e4 : tb 4 4 = true := rfl
  rw [e1, e2, e4]; rfl
theorem tch6 (x : In) (now : Int) : tch x (tb 6 1) (tb 6 2) (tb 6 4) now = { x with tm := now, tc := now } := by
  have e1 : tb 6 1 = false := rfl
  have e2 : tb 6 2 = true := rfl
  have e4 : tb 6 4 = true := rfl
  rw [e1, e2, e4]; rfl
theorem wr64L {n : Int} (h0 : -9223372036854775808 ≤ n) (h1 : n ≤ 9223372036854775807) : wrap64 n = n := by
  unfold wrap64; omega
theorem lk_sum {l b : Int} (h0 : 0 ≤ l) (h1 : l ≤ 32000) (h2 : -l ≤ b) (h3 : b ≤ 32000 - l) : wrap64 (l + b) % 4294967296 = l + b := by
  rw [wr64L (by omega) (by omega)]; omega
set_option maxRecDepth 100000 in
set_option maxHeartbeats 8000000 in
theorem linked_any (x : In) (by_ now : Int) (w : World) (h0 : 0 ≤ x.l) (h1 : x.l < 4294967296) (hb0 : -9223372036854775808 ≤ by_) (hb1 : by_ ≤ 9223372036854775807) : Calls Try.prog 26 #[x.v, .int .i64 by_, .int .u64 now] w fun e w' => e = .returned (Res (lkX x by_ now) (lkE x by_)) ∧ Fr (fun _ => False) w w' := by
  have HC := check_any x
  have HL := ck_lk x
  have HT := fun y w => touch_any y 4 now w
  have HE : Hid (lkE x by_ = if ck x ≠ 0 then ck x else if x.l + by_ < 0 ∨ x.l + by_ > 32000 then 123 else 0) := hide rfl
  have HX : Hid (lkX x by_ now = { x with l := x.l + by_, tc := now }) := hide rfl
  generalize lkE x by_ = rr at *
  generalize lkX x by_ now = X at *
  generalize ck x = c at *
  simp only [tch4] at HT
  have hw1 : wrap64 x.l = x.l := wr64L (by omega) (by omega)
  have hw2 : wrap64 (-x.l) = -x.l := wr64L (by omega) (by omega)
  have hw3 : wrap64 (32000 - x.l) = 32000 - x.l := wr64L (by omega) (by omega)
  go_enter Try.func26, Try.ntmps26
  go_wp2_with (first | (go_at_call 18; refine mono_ext (HC _) ?_; rintro e E rfl hE) | (go_at_call 30; refine mono_ext (HT _ _) ?_; rintro e E rfl hE) | (refine wl_zero25 rfl rfl ?_) | (apply wl_load25 _ rfl rfl _ rfl; (case hr => simp [go_sem]); (case hc => (simp [go_sem]; try exact rfl))) | (apply wl_store25 _ _ rfl rfl _ rfl _ rfl; (case hr => simp [go_sem]); (case hw => (simp [go_sem]; try exact rfl))))
  all_goals (apply re25 rfl rfl rfl; (case hr => simp [go_sem]); (case hc => (simp [go_sem]; try exact rfl)))
  all_goals refine ⟨congrArg Ending.returned ?_, by repeat' (first | exact Fr.refl _ _ | apply Fr.alloc | rw [← ext_ext] | (refine Fr.ext ?_ (by assumption)))⟩
  all_goals rw [unhide HE, unhide HX]
  all_goals clear HE HX HC HT
  · have hc : c ≠ 0 := by simp_all
    simp [hc]
  · have hc : c = 0 := by simp_all
    have h5 := HL hc
    have : x.l + by_ < 0 ∨ x.l + by_ > 32000 := by omega
    simp [hc, this]
  · have hc : c = 0 := by simp_all
    have h5 := HL hc
    have h6 : ¬ (x.l + by_ < 0 ∨ x.l + by_ > 32000) := by omega
    simp [hc, h6]
  · have hc : c = 0 := by simp_all
    have h5 := HL hc
    have : x.l + by_ < 0 ∨ x.l + by_ > 32000 := by omega
    simp [hc, this]
set_option maxRecDepth 100000 in
set_option maxHeartbeats 8000000 in
theorem rlinked_any (x : In) (by_ now : Int) (w : World) (h0 : 0 ≤ x.l) (h1 : x.l < 4294967296) : Calls Try.prog 27 #[x.v, .int .i64 by_, .int .u64 now] w fun e w' => e = .returned (Res (lkX x by_ now) (lkE x by_)) ∧ Fr (fun _ => False) w w' := by
  have HC := rcheck_any x
  have HL := ck_lk x
  have HE : Hid (lkE x by_ = if ck x ≠ 0 then ck x else if x.l + by_ < 0 ∨ x.l + by_ > 32000 then 123 else 0) := hide rfl
  have HX : Hid (lkX x by_ now = { x with l := x.l + by_, tc := now }) := hide rfl
  have HW : Hid (-32000 ≤ by_ → by_ ≤ 32000 → wrap64 (x.l + by_) = x.l + by_) := hide (fun h2 h3 => wr64L (by omega) (by omega))
  generalize lkE x by_ = rr at *
  generalize lkX x by_ now = X at *
  generalize ck x = c at *
  have hw1 : wrap64 x.l = x.l := wr64L (by omega) (by omega)
  generalize wrap64 (x.l + by_) = ws at *
  go_enter Try.func27, Try.ntmps27
  go_wp2_with (first | (go_at_call 19; refine mono_ext (HC _) ?_; rintro e E rfl hE) | (refine wl_zero25 rfl rfl ?_) | (apply wl_load25 _ rfl rfl _ rfl; (case hr => simp [go_sem]); (case hc => (simp [go_sem]; try exact rfl))) | (apply wl_store25 _ _ rfl rfl _ rfl _ rfl; (case hr => simp [go_sem]); (case hw => (simp [go_sem]; try exact rfl))))
  all_goals (apply re25 rfl rfl rfl; (case hr => simp [go_sem]); (case hc => (simp [go_sem]; try exact rfl)))
  all_goals refine ⟨congrArg Ending.returned ?_, by repeat' (first | exact Fr.refl _ _ | apply Fr.alloc | rw [← ext_ext] | (refine Fr.ext ?_ (by assumption)))⟩
  all_goals rw [unhide HE, unhide HX]
  all_goals clear HE HX HC
  all_goals by_cases hc : c = 0
  all_goals first | (exfalso; simp_all; done) | (simp [hc]; done) | skip
  all_goals (have h5 := HL hc; by_cases h6 : x.l + by_ < 0 ∨ x.l + by_ > 32000)
  all_goals first | (simp [hc, h6]; done) | (have hw := unhide HW (by omega) (by omega); exfalso; omega) | (have hw := unhide HW (by omega) (by omega); rw [hw, show (x.l + by_) % 4294967296 = x.l + by_ by omega]; simp [hc, h6]; done) | trace_state
/-- Sized. -/
def szE (x : In) (s : Int) : Int := if ck x ≠ 0 then ck x else if x.k = 1 ∧ s ≤ 1048576 then 0 else 122
set_option maxRecDepth 100000 in
set_option maxHeartbeats 8000000 in
theorem sized_any (x : In) (s now : Int) (w : World) : Calls Try.prog 28 #[x.v, .int .u64 s, .int .u64 now] w fun e w' => e = .returned (Res { x with s := s, tm := now, tc := now } (szE x s)) ∧ Fr (fun _ => False) w w' := by
  have HC := check_any x
  have HS := canSize_any x.k s
  have HT := fun y w => touch_any y 6 now w
  have HE : Hid (szE x s = if ck x ≠ 0 then ck x else if x.k = 1 ∧ s ≤ 1048576 then 0 else 122) := hide rfl
  obtain ⟨X, HX⟩ : ∃ y : In, Hid (y = { x with s := s, tm := now, tc := now }) := ⟨_, hide rfl⟩
  rw [← unhide HX]
  generalize szE x s = rr at *
  generalize ck x = c at *
  generalize hbb : decide (x.k = 1 ∧ s ≤ 1048576) = bb at *
  replace hbb := hide hbb
  simp only [tch6] at HT
  go_enter Try.func28, Try.ntmps28
  go_wp2_with (first | (go_at_call 18; refine mono_ext (HC _) ?_; rintro e E rfl hE) | (go_at_call 54; refine (HS _).mono ?_; rintro e w' ⟨rfl, rfl⟩) | (go_at_call 30; refine mono_ext (HT _ _) ?_; rintro e E rfl hE) | (refine wl_zero25 rfl rfl ?_) | (apply wl_load25 _ rfl rfl _ rfl; (case hr => simp [go_sem]); (case hc => (simp [go_sem]; try exact rfl))) | (apply wl_store25 _ _ rfl rfl _ rfl _ rfl; (case hr => simp [go_sem]); (case hw => (simp [go_sem]; try exact rfl))))
  all_goals (apply re25 rfl rfl rfl; (case hr => simp [go_sem]); (case hc => (simp [go_sem]; try exact rfl)))
  all_goals refine ⟨congrArg Ending.returned ?_, by repeat' (first | exact Fr.refl _ _ | apply Fr.alloc | rw [← ext_ext] | (refine Fr.ext ?_ (by assumption)))⟩
  all_goals rw [unhide HE, unhide HX]
  all_goals clear HE HX HC HT HS
  all_goals by_cases hc : c = 0
  all_goals first | (exfalso; simp_all; done) | (simp [hc]; done) | skip
  all_goals by_cases hk : x.k = 1 ∧ s ≤ 1048576
  all_goals first | (exfalso; have h7 := unhide hbb; rw [decide_eq_false hk] at h7; subst h7; clear hbb; simp_all; done) | (exfalso; have h7 := unhide hbb; rw [decide_eq_true hk] at h7; subst h7; clear hbb; simp_all; done) | (simp [hc, hk]; done) | trace_state
set_option maxRecDepth 100000 in
set_option maxHeartbeats 8000000 in
theorem rsized_any (x : In) (s now : Int) (w : World) : Calls Try.prog 29 #[x.v, .int .u64 s, .int .u64 now] w fun e w' => e = .returned (Res { x with s := s, tm := now, tc := now } (szE x s)) ∧ Fr (fun _ => False) w w' := by
  have HC := rcheck_any x
  have HE : Hid (szE x s = if ck x ≠ 0 then ck x else if x.k = 1 ∧ s ≤ 1048576 then 0 else 122) := hide rfl
  obtain ⟨X, HX⟩ : ∃ y : In, Hid (y = { x with s := s, tm := now, tc := now }) := ⟨_, hide rfl⟩
  rw [← unhide HX]
  generalize szE x s = rr at *
  generalize ck x = c at *
  go_enter Try.func29, Try.ntmps29
  go_wp2_with (first | (go_at_call 19; refine mono_ext (HC _) ?_; rintro e E rfl hE) | (refine wl_zero25 rfl rfl ?_) | (apply wl_load25 _ rfl rfl _ rfl; (case hr => simp [go_sem]); (case hc => (simp [go_sem]; try exact rfl))) | (apply wl_store25 _ _ rfl rfl _ rfl _ rfl; (case hr => simp [go_sem]); (case hw => (simp [go_sem]; try exact rfl))))
  all_goals (apply re25 rfl rfl rfl; (case hr => simp [go_sem]); (case hc => (simp [go_sem]; try exact rfl)))
  all_goals refine ⟨congrArg Ending.returned ?_, by repeat' (first | exact Fr.refl _ _ | apply Fr.alloc | rw [← ext_ext] | (refine Fr.ext ?_ (by assumption)))⟩
  all_goals rw [unhide HE, unhide HX]
  all_goals clear HE HX HC
  all_goals by_cases hc : c = 0
  all_goals first | (exfalso; simp_all; done) | (simp [hc]; done) | skip
  all_goals by_cases hk : x.k = 1 ∧ s ≤ 1048576
  all_goals first | (simp [hc, hk]; done) | (exfalso; simp_all; done) | (exfalso; simp_all; omega) | trace_state
end Go.Proofs.Ytbenailemoefhaa
