/-
  Touch, of both.
-/
import Derived.Test.YtbenailemoefhaaA2
namespace Go.Proofs.Ytbenailemoefhaa
open Go.RowKit
set_option linter.unusedVariables false
set_option linter.unusedSimpArgs false

attribute [local go_sem ↓] Go.wp_at_zero Go.wp_at_succ

/-- Those of three times are set whose bit is set. -/
def tch (x : In) (a b c : Bool) (now : Int) : In := { x with ta := if a then now else x.ta, tm := if b then now else x.tm, tc := if c then now else x.tc }
def tb (which k : Int) : Bool := bits .and .i64 which k != 0
set_option maxRecDepth 100000 in
set_option maxHeartbeats 4000000 in
theorem touch_any (x : In) (which now : Int) (w : World) : Calls Try.prog 30 #[x.v, .int .i64 which, .int .u64 now] w fun e w' => e = .returned (tch x (tb which 1) (tb which 2) (tb which 4) now).v ∧ Fr (fun _ => False) w w' := by
  unfold tb
  go_enter Try.func30, Try.ntmps30
  go_wp2_with (first | (apply wl_load25 _ rfl rfl _ rfl; (case hr => simp [go_sem]); (case hc => (simp [go_sem]; try exact rfl))) | (apply wl_store25 _ _ rfl rfl _ rfl _ rfl; (case hr => simp [go_sem]); (case hw => (simp [go_sem]; try exact rfl))))
  all_goals (apply r25 rfl rfl rfl; (case hr => simp [go_sem]); (case hc => (simp [go_sem]; try exact rfl)))
  all_goals refine ⟨congrArg Ending.returned ?_, by repeat' (first | exact Fr.refl _ _ | apply Fr.alloc | (refine Fr.ext ?_ (by assumption)))⟩
  all_goals simp_all [tch]
set_option maxRecDepth 100000 in
set_option maxHeartbeats 4000000 in
theorem rtouch_any (x : In) (which now : Int) (w : World) : Calls Try.prog 31 #[x.v, .int .i64 which, .int .u64 now] w fun e w' => e = .returned (tch x (tb which 1) (tb which 2) (tb which 4) now).v ∧ Fr (fun _ => False) w w' := by
  unfold tb
  go_enter Try.func31, Try.ntmps31
  go_wp2_with (first | (apply wl_load25 _ rfl rfl _ rfl; (case hr => simp [go_sem]); (case hc => (simp [go_sem]; try exact rfl))) | (apply wl_store25 _ _ rfl rfl _ rfl _ rfl; (case hr => simp [go_sem]); (case hw => (simp [go_sem]; try exact rfl))))
  all_goals (apply r25 rfl rfl rfl; (case hr => simp [go_sem]); (case hc => (simp [go_sem]; try exact rfl)))
  all_goals refine ⟨congrArg Ending.returned ?_, by repeat' (first | exact Fr.refl _ _ | apply Fr.alloc | (refine Fr.ext ?_ (by assumption)))⟩
  all_goals simp_all [tch]
end Go.Proofs.Ytbenailemoefhaa
