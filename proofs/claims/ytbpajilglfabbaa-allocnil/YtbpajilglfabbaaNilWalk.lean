/-
  The walk of AllocNil: a nil Alloc.
-/
import Derived.Test.YtbpajilglfabbaaN1
namespace Go.Proofs.Ytbpajilglfabbaa
open Go.RowKit
set_option linter.unusedVariables false

attribute [local go_sem ↓] Go.wp_at_zero Go.wp_at_succ

set_option maxRecDepth 100000 in
set_option maxHeartbeats 4000000 in
theorem allocNil_any (w : World) : Calls Try.prog 9 #[] w fun e w' => e = .returned (.bool true) ∧ Fr (fun _ => False) w w' := by
  have HL := hide (live_any w)
  go_enter Try.func9, Try.ntmps9
  go_wp2_with (first
    | (go_at_call 17; refine (nil_take _ _).mono ?_; rintro e w' ⟨rfl, rfl⟩)
    | (go_at_call 29; refine (nil_takeR _ _).mono ?_; rintro e w' ⟨rfl, rfl⟩)
    | (go_at_call 28; refine (nil_commit _).mono ?_; rintro e w' ⟨rfl, rfl⟩)
    | (go_at_call 32; refine (nil_abort _).mono ?_; rintro e w' ⟨rfl, rfl⟩)
    | (go_at_call 33; refine (nil_hold _).mono ?_; rintro e w' ⟨rfl, rfl⟩)
    | (go_at_call 34; refine (nil_letGo _).mono ?_; rintro e w' ⟨rfl, rfl⟩)
    | (go_at_call 26; refine (nil_holds _).mono ?_; rintro e w' ⟨rfl, rfl⟩))
  refine (unhide HL).mono ?_
  rintro e w1 ⟨rfl, f1⟩
  have HF1 := hide f1
  clear f1 HL
  go_wp2_with (first
    | (go_at_call 13; refine (num_any _ _).mono ?_; rintro e w' ⟨rfl, rfl⟩)
    | (go_at_call 30; refine (nil_give _ _).mono ?_; rintro e w' ⟨rfl, rfl⟩)
    | (go_at_call 35; refine (nil_mark _ _).mono ?_; rintro e w' ⟨rfl, rfl⟩)
    | (go_at_call 31; refine (nil_reserve _ _).mono ?_; rintro e w' ⟨rfl, rfl⟩)
    | (go_at_call 36; refine (nil_release _ _).mono ?_; rintro e w' ⟨rfl, rfl⟩))
  refine (nil_taken _).mono ?_
  rintro e w2 ⟨rfl, f2⟩
  have HF2 := hide ((unhide HF1).trans f2 (fun _ _ h => h))
  clear f2 HF1
  go_wp2_with fail
  refine (nil_given _).mono ?_
  rintro e w3 ⟨rfl, f3⟩
  have HF3 := hide ((unhide HF2).trans f3 (fun _ _ h => h))
  clear f3 HF2
  go_wp2_with fail
  refine (nil_bitmap _).mono ?_
  rintro e w4 ⟨⟨ao, c, rfl⟩, f4⟩
  have HF4 := hide ((unhide HF3).trans f4 (fun _ _ h => h))
  clear f4 HF3
  go_wp2_with (first
    | (go_at_call 23; refine (nil_runs _).mono ?_; rintro e w' ⟨rfl, rfl⟩)
    | (go_at_call 22; refine (nil_state _).mono ?_; rintro e w' ⟨rfl, rfl⟩)
    | (go_at_call 18; refine (nil_blocks _).mono ?_; rintro e w' ⟨rfl, rfl⟩)
    | (go_at_call 19; refine (nil_free _).mono ?_; rintro e w' ⟨rfl, rfl⟩)
    | (go_at_call 27; refine (nil_reserved _).mono ?_; rintro e w' ⟨rfl, rfl⟩)
    | (go_at_call 37; refine (nil_copy _).mono ?_; rintro e w' ⟨rfl, rfl⟩))
  go_ret
  exact ⟨rfl, unhide HF4⟩
end Go.Proofs.Ytbpajilglfabbaa
