/-
  The law DiskNil, walked.
-/
import Derived.Test.YtdhendcogjhgfaaD19
namespace Go.Proofs.Ytdhendcogjhgfaa
open Go.RowKit
set_option linter.unusedVariables false

attribute [local go_sem ↓] Go.wp_at_zero Go.wp_at_succ

theorem new_p (w : World) : Calls Try.prog 12 #[.int .i64 1, .int .i64 8] w fun e w' => (∃ p, e = .returned (.tuple #[.pointer (some ⟨p, 0, none⟩), .int .i64 0])) ∧ Fr (fun _ => False) w w' :=
  (new_ok w 1 8 (by omega) (by omega)).mono (by rintro e w' ⟨⟨p, gs, rfl, -⟩, f⟩; exact ⟨⟨p, rfl⟩, f⟩)

set_option maxHeartbeats 2000000 in
set_option maxRecDepth 100000 in
theorem diskNil_any (w : World) : Calls Try.prog 9 #[] w fun e w' => e = .returned (.bool true) ∧ Fr (fun _ => False) w w' := by
  go_enter Try.func9, Try.ntmps9
  go_wp2_with (first
    | (go_at_call 29; refine (read_nil _ _).mono ?_; rintro e w' ⟨rfl, rfl⟩)
    | (go_at_call 25; refine (stable_nil _ _).mono ?_; rintro e w' ⟨rfl, rfl⟩)
    | (go_at_call 23; refine (crash_nil _ _ _ _).mono ?_; rintro e w' ⟨rfl, rfl⟩)
    | (go_at_call 36; refine (fail_nil _).mono ?_; rintro e w' ⟨rfl, rfl⟩)
    | (go_at_call 37; refine (replace_nil _).mono ?_; rintro e w' ⟨rfl, rfl⟩))
  refine (new_p _).mono ?_
  rintro e w1 ⟨⟨p, rfl⟩, f1⟩
  have HF : Hid (Fr (fun _ => False) w w1) := hide (((Fr.refl _ w).alloc _).trans f1 (fun _ _ h => h))
  clear f1
  go_wp2_with (first
    | (go_at_call 11; refine (live_any _).mono ?_; rintro e w2 ⟨rfl, f2⟩; have HF2 := hide ((unhide HF).trans f2 (fun _ _ h => h)); clear f2)
    | (go_at_call 14; refine (num_any _ _).mono ?_; rintro e w' ⟨rfl, rfl⟩)
    | (go_at_call 28; refine (full_any _ 8 1 (by omega)).mono ?_; rintro e w3 ⟨rfl, -, f3⟩; have HF3 := hide ((unhide HF2).trans f3 (fun _ _ h => h)); clear f3)
    | (go_at_call 27; refine (write_nil _ _ _ _ _).mono ?_; rintro e w' ⟨rfl, rfl⟩)
    | (go_at_call 38; refine (size_nil _).mono ?_; rintro e w' ⟨rfl, rfl⟩)
    | (go_at_call 24; refine (flush_nil _).mono ?_; rintro e w' ⟨rfl, rfl⟩)
    | (go_at_call 33; refine (lose_nil _ _).mono ?_; rintro e w' ⟨rfl, rfl⟩)
    | (go_at_call 31; refine (turn_nil _ _ _ _).mono ?_; rintro e w' ⟨rfl, rfl⟩)
    | (go_at_call 39; refine (sectors_nil _).mono ?_; rintro e w' ⟨rfl, rfl⟩)
    | (go_at_call 21; refine (queue_nil _).mono ?_; rintro e w' ⟨rfl, rfl⟩)
    | (go_at_call 20; refine (failed_nil _).mono ?_; rintro e w' ⟨rfl, rfl⟩)
    | (go_at_call 26; refine (injured_nil _).mono ?_; rintro e w' ⟨rfl, rfl⟩)
    | (go_at_call 35; refine (writes_nil _).mono ?_; rintro e w' ⟨rfl, rfl⟩)
    | (go_at_call 22; refine (copy_nil _).mono ?_; rintro e w' ⟨rfl, rfl⟩)
    | (go_at_call 18; (first | (with_reducible refine (same_nils _).mono ?_) | (with_reducible refine (same_nil1 _ _).mono ?_) | (with_reducible refine (same_nil2 _ _).mono ?_)); rintro e w' ⟨rfl, rfl⟩))
  go_ret
  exact ⟨rfl, unhide HF3⟩

end Go.Proofs.Ytdhendcogjhgfaa
