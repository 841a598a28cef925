/-
  Attributes, of both.
-/
import Derived.Test.YtbenailemoefhaaA2
namespace Go.Proofs.Ytbenailemoefhaa
open Go.RowKit
set_option linter.unusedVariables false
set_option linter.unusedSimpArgs false

attribute [local go_sem ↓] Go.wp_at_zero Go.wp_at_succ

def atE (x : In) : Int := if ck x ≠ 0 then ck x else if x.b > 18014398509481984 then 122 else 0
def atX (x : In) (f : Int) : At := ⟨x.k, x.m, x.l, x.u, x.d, x.s, IntKind.u64.wrap (x.b * 384), IntKind.u64.wrap f, x.n, x.ta, x.tm, x.tc⟩
@[reducible] def ResA (x : At) (e : Int) : Value := .tuple #[(if e = 0 then x else At.zero).v, .int .i64 e]
set_option maxRecDepth 100000 in
set_option maxHeartbeats 8000000 in
theorem att_any (x : In) (fs : Int) (w : World) : Calls Try.prog 22 #[x.v, .int .u32 fs] w fun e w' => e = .returned (ResA (atX x fs) (atE x)) ∧ Fr (fun _ => False) w w' := by
  have HC := check_any x
  have HE : Hid (atE x = if ck x ≠ 0 then ck x else if x.b > 18014398509481984 then 122 else 0) := hide rfl
  have HX : Hid (atX x fs = ⟨x.k, x.m, x.l, x.u, x.d, x.s, IntKind.u64.wrap (x.b * 384), IntKind.u64.wrap fs, x.n, x.ta, x.tm, x.tc⟩) := hide rfl
  have HM : IntKind.u64.wrap (384 * x.b) = IntKind.u64.wrap (x.b * 384) := by rw [Int.mul_comm]
  generalize atE x = rr at *
  generalize atX x fs = X at *
  generalize ck x = c at *
  go_enter Try.func22, Try.ntmps22
  go_wp2_with (first | (go_at_call 18; refine mono_ext (HC _) ?_; rintro e E rfl hE) | (refine wl_zero45 rfl rfl ?_) | (refine wl_at45 rfl rfl rfl rfl rfl rfl rfl rfl rfl rfl rfl rfl rfl rfl ?_) | (apply wl_load25 _ rfl rfl _ rfl; (case hr => simp [go_sem]); (case hc => (simp [go_sem]; try exact rfl))) | (apply wl_store45 _ _ rfl rfl _ rfl _ rfl; (case hr => simp [go_sem]); (case hw => (simp [go_sem]; try exact rfl))))
  all_goals (apply re45 rfl rfl rfl; (case hr => simp [go_sem]); (case hc => (simp [go_sem]; try exact rfl)))
  all_goals refine ⟨congrArg Ending.returned ?_, by repeat' (first | exact Fr.refl _ _ | apply Fr.alloc | rw [← ext_ext] | (refine Fr.ext ?_ (by assumption)))⟩
  all_goals rw [unhide HE, unhide HX]
  all_goals clear HE HX HC
  all_goals first | (simp_all; done) | (simp_all; omega) | trace_state
set_option maxRecDepth 100000 in
set_option maxHeartbeats 8000000 in
theorem ratt_any (x : In) (fs : Int) (w : World) : Calls Try.prog 23 #[x.v, .int .u32 fs] w fun e w' => e = .returned (ResA (atX x fs) (atE x)) ∧ Fr (fun _ => False) w w' := by
  have HC := rcheck_any x
  have HE : Hid (atE x = if ck x ≠ 0 then ck x else if x.b > 18014398509481984 then 122 else 0) := hide rfl
  have HX : Hid (atX x fs = ⟨x.k, x.m, x.l, x.u, x.d, x.s, IntKind.u64.wrap (x.b * 384), IntKind.u64.wrap fs, x.n, x.ta, x.tm, x.tc⟩) := hide rfl
  have HM : IntKind.u64.wrap (384 * x.b) = IntKind.u64.wrap (x.b * 384) := by rw [Int.mul_comm]
  generalize atE x = rr at *
  generalize atX x fs = X at *
  generalize ck x = c at *
  go_enter Try.func23, Try.ntmps23
  go_wp2_with (first | (go_at_call 19; refine mono_ext (HC _) ?_; rintro e E rfl hE) | (refine wl_zero45 rfl rfl ?_) | (refine wl_at45 rfl rfl rfl rfl rfl rfl rfl rfl rfl rfl rfl rfl rfl rfl ?_) | (apply wl_load25 _ rfl rfl _ rfl; (case hr => simp [go_sem]); (case hc => (simp [go_sem]; try exact rfl))) | (apply wl_store45 _ _ rfl rfl _ rfl _ rfl; (case hr => simp [go_sem]); (case hw => (simp [go_sem]; try exact rfl))))
  all_goals (apply re45 rfl rfl rfl; (case hr => simp [go_sem]); (case hc => (simp [go_sem]; try exact rfl)))
  all_goals refine ⟨congrArg Ending.returned ?_, by repeat' (first | exact Fr.refl _ _ | apply Fr.alloc | rw [← ext_ext] | (refine Fr.ext ?_ (by assumption)))⟩
  all_goals rw [unhide HE, unhide HX]
  all_goals clear HE HX HC
  all_goals first | (simp_all; done) | (simp_all; omega) | trace_state
end Go.Proofs.Ytbenailemoefhaa
