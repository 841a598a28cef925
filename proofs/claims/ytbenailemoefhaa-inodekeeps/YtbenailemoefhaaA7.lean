/-
  What may be set.
-/
import Derived.Test.YtbenailemoefhaaA5
namespace Go.Proofs.Ytbenailemoefhaa
open Go.RowKit
set_option linter.unusedVariables false
set_option linter.unusedSimpArgs false

attribute [local go_sem ↓] Go.wp_at_zero Go.wp_at_succ

/-- May that be set so? -/
def csB (k : Int) (s : Sa) : Bool := (bits .andNot .i64 s.h 255 == 0) && !(hb s.h 80 || hb s.h 160) && !(hb s.h 1 && decide (s.m > 4095)) && !(hb s.h 8 && !decide (k = 1 ∧ s.s ≤ 1048576))
set_option maxRecDepth 100000 in
set_option maxHeartbeats 8000000 in
theorem canSet_any (k : Int) (s : Sa) (w : World) : Calls Try.prog 49 #[.int .i64 k, s.v] w fun e w' => e = .returned (.bool (csB k s)) ∧ Fr (fun _ => False) w w' := by
  have HC := canSize_any k s.s
  have hq : Hid (csB k s = ((bits .andNot .i64 s.h 255 == 0) && !(hb s.h 80 || hb s.h 160) && !(hb s.h 1 && decide (s.m > 4095)) && !(hb s.h 8 && !decide (k = 1 ∧ s.s ≤ 1048576)))) := hide rfl
  generalize csB k s = R at *
  generalize decide (k = 1 ∧ s.s ≤ 1048576) = bc at *
  have HB : ∀ b w, Calls Try.prog 50 #[s.v, .int .i64 b] w fun e w' => e = .returned (.bool (hb s.h b)) ∧ Fr (fun _ => False) w w' := fun b w => has_any s b w
  generalize hb s.h = HH at *
  go_enter Try.func49, Try.ntmps49
  go_wp2_with (first | (go_at_call 50; refine mono_ext (HB _ _) ?_; rintro e E rfl hE) | (go_at_call 54; refine (HC _).mono ?_; rintro e w' ⟨rfl, rfl⟩) | (apply wl_load52 _ rfl rfl _ rfl; (case hr => simp [go_sem]); (case hc => (simp [go_sem]; try exact rfl))))
  all_goals go_ret
  all_goals refine ⟨congrArg (fun i => Ending.returned (.bool i)) ?_, by repeat' (first | exact Fr.refl _ _ | apply Fr.alloc | rw [← ext_ext] | (refine Fr.ext ?_ (by assumption)))⟩
  all_goals rw [unhide hq]
  all_goals clear hq HB HC
  all_goals first | (simp_all; done) | (simp_all; omega)
end Go.Proofs.Ytbenailemoefhaa
