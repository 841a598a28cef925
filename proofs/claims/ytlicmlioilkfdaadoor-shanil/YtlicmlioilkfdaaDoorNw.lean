/-
  The walk of the law of a nil hash.
-/
import Derived.Test.YtlicmlioilkfdaaDoorR6
import Derived.Test.YtlicmlioilkfdaaDoorLv
namespace Go.Proofs.YtlicmlioilkfdaaDoor
open Go.RowKit
set_option linter.unusedVariables false
set_option linter.unusedSimpArgs false

attribute [local go_sem ↓] Go.wp_at_zero Go.wp_at_succ

set_option maxHeartbeats 1000000 in
set_option maxRecDepth 100000 in
theorem shaNil_any (w : World) (T : Tb w) (a0 : Option Addr) (len0 cap0 : Nat) : Calls Tryd.prog 9 #[.slice a0 len0 cap0] w fun e w' => e = .returned (.bool true) ∧ Fr (fun _ => False) w w' := by
  have HT := hide T
  clear T
  by_cases hbig : 9000 < len0
  · have hbi : (9000 : Int) < (len0 : Int) := by omega
    go_enter Tryd.func9, Tryd.ntmps9
    go_wp2_with fail
    refine (live_any w (unhide HT)).mono ?_
    rintro e w1 ⟨rfl, f1⟩
    have F1 := hide f1
    clear f1
    go_wp2_with fail
    go_ret
    exact ⟨rfl, unhide F1⟩
  · have hbi : ¬ (9000 : Int) < (len0 : Int) := by omega
    obtain ⟨D, hD⟩ : ∃ D, D = sha [] := ⟨_, rfl⟩
    have hDl : D.length = 32 := by rw [hD]; rfl
    have heq := fun W => run_eqD W D hDl
    have HD := hide hD
    clear hD
    go_enter Tryd.func9, Tryd.ntmps9
    go_wp2_with fail
    refine (write_nil w _).mono ?_
    rintro e w1 ⟨rfl, rfl⟩
    go_wp2_with fail
    refine (len_nil w).mono ?_
    rintro e w1 ⟨rfl, rfl⟩
    go_wp2_with fail
    refine (sum_nil w (unhide HT)).mono ?_
    rintro e w1 ⟨rfl, f1⟩
    have F1 := hide f1
    clear f1
    rw [← unhide HD]
    go_wp2_with fail
    refine (RSum_any w1 (.slice none 0 0) [] (Rd.nil w1) (by simp)).mono ?_
    rintro e w2 ⟨rfl, f2⟩
    have F2 := hide ((unhide F1).trans f2 (fun _ _ h => h))
    clear f2
    rw [← unhide HD]
    go_wp2_with fail
    refine (save_nil w2).mono ?_
    rintro e w3 ⟨rfl, rfl⟩
    go_wp2_with fail
    refine (live_any w2 ((unhide HT).kept (unhide F2) id id)).mono ?_
    rintro e w3 ⟨rfl, f3⟩
    have F3 := hide ((unhide F2).trans f3 (fun _ _ h => h))
    clear f3
    go_wp2_with fail
    go_ret
    exact ⟨rfl, unhide F3⟩
end Go.Proofs.YtlicmlioilkfdaaDoor
