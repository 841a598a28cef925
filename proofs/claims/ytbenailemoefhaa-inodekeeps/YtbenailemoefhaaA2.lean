/-
  The document's Check; the small ones: num, long, has, canSize, New and Attributes of both.
-/
import Derived.Test.YtbenailemoefhaaA1
namespace Go.Proofs.Ytbenailemoefhaa
open Go.RowKit
set_option linter.unusedVariables false
set_option linter.unusedSimpArgs false

attribute [local go_sem ↓] Go.wp_at_zero Go.wp_at_succ

set_option maxHeartbeats 4000000 in
theorem rcheck_any (x : In) (w : World) : Calls Try.prog 19 #[x.v] w fun e w' => e = .returned (.int .i64 (ck x)) ∧ Fr (fun _ => False) w w' := by
  have HE : Hid (ck x = if x.n = 0 ∨ x.g = 0 ∨ kdB x.k = false ∨ x.m > 4095 then 120 else if x.l > 32000 then 123 else if (x.t.size : Int) > 255 then 1 else if x.s > 1048576 then 122 else if fitB x = false then 120 else 0) := hide rfl
  unfold kdB fitB at HE
  generalize ck x = rr at *
  go_enter Try.func19, Try.ntmps19
  go_wp2_with fail
  all_goals go_ret
  all_goals refine ⟨congrArg (fun i => Ending.returned (.int .i64 i)) ?_, (Fr.refl _ _).alloc _⟩
  all_goals rw [unhide HE]
  all_goals clear HE
  all_goals first | (simp_all; done) | (simp_all; omega) | skip
  all_goals trace_state
theorem num_any (k : Int) (w : World) : Calls Try.prog 17 #[.int .i64 k] w fun e w' => e = .returned (.int .i64 k) ∧ w' = w := by
  go_enter Try.func17, Try.ntmps17
  go_wp2_with fail
  go_ret
  exact ⟨rfl, rfl⟩
theorem long_any (x : In) (w : World) : Calls Try.prog 11 #[x.v] w fun e w' => e = .returned (.bool (decide (2000 < (x.t.size : Int)))) ∧ Fr (fun _ => False) w w' := by
  go_enter Try.func11, Try.ntmps11
  go_wp2_with fail
  go_ret
  exact ⟨rfl, (Fr.refl _ _).alloc _⟩
theorem canSize_any (k s : Int) (w : World) : Calls Try.prog 54 #[.int .i64 k, .int .u64 s] w fun e w' => e = .returned (.bool (decide (k = 1 ∧ s ≤ 1048576))) ∧ w' = w := by
  go_enter Try.func54, Try.ntmps54
  go_wp2_with fail
  all_goals go_ret
  all_goals refine ⟨congrArg (fun i => Ending.returned (.bool i)) ?_, rfl⟩
  all_goals simp_all [BEq.beq]
def hb (h b : Int) : Bool := decide (bits .and .i64 h b = b)
theorem has_any (x : Sa) (b : Int) (w : World) : Calls Try.prog 50 #[x.v, .int .i64 b] w fun e w' => e = .returned (.bool (hb x.h b)) ∧ Fr (fun _ => False) w w' := by
  unfold hb
  go_enter Try.func50, Try.ntmps50
  go_wp2_with fail
  all_goals go_ret
  all_goals refine ⟨congrArg (fun i => Ending.returned (.bool i)) ?_, (Fr.refl _ _).alloc _⟩
  all_goals first | rfl | (simp_all [BEq.beq]; done) | skip
  all_goals trace_state
end Go.Proofs.Ytbenailemoefhaa
