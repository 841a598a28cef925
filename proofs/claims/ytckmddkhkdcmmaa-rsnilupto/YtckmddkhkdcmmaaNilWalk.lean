/-
  The walk of the law RsNil.
-/
import Derived.Test.YtckmddkhkdcmmaaRs12
namespace Go.Proofs.Ytckmddkhkdcmmaa
open Go.RowKit
set_option linter.unusedVariables false

attribute [local go_sem ↓] Go.wp_at_zero Go.wp_at_succ

set_option maxHeartbeats 8000000 in
set_option maxRecDepth 100000 in
theorem nilWalk (w : World) (v : Value) (ls : List (List UInt8)) (i : Int) (h : RdL w v ls) (hl : ls.length ≤ 1048576) (hb : ∀ l ∈ ls, l.length ≤ 1048576) :
    Calls Try.prog 13 #[v, .int .i64 i] w fun e w' => e = .returned (.bool true) ∧ Fr (fun _ => False) w w' := by
  have HU := hide (huge_any w v ls h hl hb)
  obtain ⟨ao, ac, rfl⟩ := h.shape
  clear h hl hb
  generalize ls.length = n at *
  rcases hh : hugeB ls with _ | _
  · rw [hh] at HU
    clear hh
    go_enter Try.func13, Try.ntmps13
    go_wp2_with fail
    refine (unhide HU).mono ?_
    rintro e w' ⟨rfl, rfl⟩
    clear HU
    go_wp2_with fail
    refine (encode_nil _ _ _ _ _ rfl).mono ?_
    rintro e w' ⟨rfl, rfl⟩
    go_wp2_with fail
    refine (check_nil _ _ _ _).mono ?_
    rintro e w' ⟨rfl, rfl⟩
    go_wp2_with fail
    refine (rebuild_nil _ _ _ _ _ _ _).mono ?_
    rintro e w' ⟨rfl, rfl⟩
    go_wp2_with fail
    refine (update_nil _ _ _ _ _ _ _ _ _ _ _).mono ?_
    rintro e w' ⟨rfl, rfl⟩
    go_wp2_with fail
    refine (split_nil _ _ _ _).mono ?_
    rintro e w' ⟨rfl, rfl⟩
    go_wp2_with fail
    refine (join_nil _ _ _ _ _).mono ?_
    rintro e w' ⟨rfl, rfl⟩
    go_wp2_with (go_at_call 48; refine (num3_any _ _).mono ?_; rintro e w' ⟨rfl, rfl⟩)
    refine (data_nil _).mono ?_
    rintro e w' ⟨rfl, rfl⟩
    go_wp2_with fail
    refine (parity_nil _).mono ?_
    rintro e w' ⟨rfl, rfl⟩
    go_wp2_with fail
    refine (Row_nil _ _).mono ?_
    rintro e w' ⟨rfl, j, rfl⟩
    go_wp2_with fail
    refine (live3_any _).mono ?_
    rintro e w2 ⟨rfl, f2⟩
    have F2 := hide ((Fr.ofDrewN (S := fun _ => False) w j).trans f2 (fun _ _ h => h))
    clear f2
    go_wp2_with fail
    go_ret
    exact ⟨rfl, unhide F2⟩
  · rw [hh] at HU
    clear hh
    go_enter Try.func13, Try.ntmps13
    go_wp2_with fail
    refine (unhide HU).mono ?_
    rintro e w' ⟨rfl, rfl⟩
    clear HU
    go_wp2_with fail
    refine (live3_any _).mono ?_
    rintro e w2 ⟨rfl, f2⟩
    go_wp2_with fail
    go_ret
    exact ⟨rfl, f2⟩

end Go.Proofs.Ytckmddkhkdcmmaa
