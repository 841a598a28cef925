/-
  An inode, plainly; what Check says of it.
-/
import Derived.Test.YtbenailemoefhaaSt
namespace Go.Proofs.Ytbenailemoefhaa
open Go.RowKit
set_option linter.unusedVariables false

attribute [local go_sem ↓] Go.wp_at_zero Go.wp_at_succ

def kdB (k : Int) : Bool := decide (k = 1) || decide (k = 2) || decide (k = 5)
def fitB (x : In) : Bool := if x.k = 5 then !x.t.toList.isEmpty && decide (x.s = (x.t.size : Int)) && decide (x.r = 0) && decide (x.b = 0) else x.t.toList.isEmpty
/-- Check. -/
def ck (x : In) : Int :=
  if x.n = 0 ∨ x.g = 0 ∨ kdB x.k = false ∨ x.m > 4095 then 120
  else if x.l > 32000 then 123
  else if (x.t.size : Int) > 255 then 1
  else if x.s > 1048576 then 122
  else if fitB x = false then 120
  else 0

theorem isKind_any (k : Int) (w : World) : Calls Try.prog 47 #[.int .i64 k] w fun e w' => e = .returned (.bool (kdB k)) ∧ w' = w := by
  go_enter Try.func47, Try.ntmps47
  go_wp2_with fail
  all_goals go_ret
  all_goals refine ⟨congrArg (fun i => Ending.returned (.bool i)) ?_, rfl⟩
  all_goals unfold kdB
  · simp [*]
  · simp [*]
  · simp [*, BEq.beq]
theorem fits_any (x : In) (w : World) (ht : x.t.size ≤ 255) : Calls Try.prog 48 #[x.v] w fun e w' => e = .returned (.bool (fitB x)) ∧ Fr (fun _ => False) w w' := by
  go_enter Try.func48, Try.ntmps48
  go_wp2_with fail
  all_goals go_ret
  all_goals refine ⟨congrArg (fun i => Ending.returned (.bool i)) ?_, (Fr.refl _ _).alloc _⟩
  all_goals unfold fitB
  all_goals simp_all [BEq.beq]
theorem check_any (x : In) (w : World) : Calls Try.prog 18 #[x.v] w fun e w' => e = .returned (.int .i64 (ck x)) ∧ Fr (fun _ => False) w w' := by
  have HK := isKind_any x.k
  have HF := fun h w => fits_any x w h
  have HE : Hid (ck x = if x.n = 0 ∨ x.g = 0 ∨ kdB x.k = false ∨ x.m > 4095 then 120 else if x.l > 32000 then 123 else if (x.t.size : Int) > 255 then 1 else if x.s > 1048576 then 122 else if fitB x = false then 120 else 0) := hide rfl
  generalize ck x = rr at *
  generalize kdB x.k = kk at *
  generalize fitB x = ff at *
  go_enter Try.func18, Try.ntmps18
  go_wp2_with (first | (go_at_call 47; refine (HK _).mono ?_; rintro e w' ⟨rfl, rfl⟩) | (go_at_call 48; refine mono_ext (HF (by omega) _) ?_; rintro e E rfl hE) | (refine wl_load25 _ rfl rfl _ rfl (by simp [go_sem]) (by simp only [go_sem]; exact rfl) ?_))
  all_goals go_ret
  all_goals refine ⟨congrArg (fun i => Ending.returned (.int .i64 i)) ?_, by repeat' (first | exact Fr.refl _ _ | apply Fr.alloc | (refine Fr.ext ?_ (by assumption)))⟩
  all_goals rw [unhide HE]
  all_goals clear HE HK HF
  all_goals first | (simp_all; done) | (simp_all; omega)
end Go.Proofs.Ytbenailemoefhaa
