/-
  InodeApplies, walked.
-/
import Derived.Test.YtbenailemoefhaaG4
namespace Go.Proofs.Ytbenailemoefhaa
open Go.RowKit Go.Lib
set_option linter.unusedVariables false
set_option linter.unusedSimpArgs false

attribute [local go_sem ↓] Go.wp_at_zero Go.wp_at_succ

theorem rowN_s {w : World} {n : Nat} {x : Sa} (h : w.heap[n]? = some (.cells x.cs 52 (0, 0))) : rowN w n 7 = true := by
  have hr : row? w n = some x.cs := by unfold row?; rw [h]; rfl
  unfold rowN; rw [hr]; simp
theorem rowD_s {w : World} {n : Nat} {x : Sa} (h : w.heap[n]? = some (.cells x.cs 52 (0, 0))) : rowD w n = x.cs := by
  have hr : row? w n = some x.cs := by unfold row?; rw [h]; rfl
  unfold rowD; rw [hr]; rfl
set_option maxRecDepth 100000 in
set_option maxHeartbeats 8000000 in
theorem applies_any (x : In) (s : Sa) (now : Int) (w : World) (h0 : -9223372036854775808 ≤ s.h) (h1 : s.h ≤ 9223372036854775807) : Calls Try.prog 5 #[x.v, s.v, .int .u64 now] w fun e w' => e = .returned (.bool true) ∧ Fr (fun _ => False) w w' := by
  have HB := hide (And.intro h0 h1)
  clear h0 h1
  go_enter Try.func5, Try.ntmps5
  go_upto_region 1 with fail
  refine wp_world ?_
  intro W hW
  have HX : W.heap[w.heap.size]? = some (.cells x.cs 25 (0, 0)) := by rw [hW]; exact (Below.heap_alloc (w.alloc (.cells x.cs 25)) (.cells s.cs 52) _ (lt_of_heap (heap_alloc_new w (.cells x.cs 25)))).trans (heap_alloc_new w (.cells x.cs 25))
  have HS : W.heap[w.heap.size + 1]? = some (.cells s.cs 52 (0, 0)) := by rw [hW]; have h := heap_alloc_new (w.alloc (.cells x.cs 25)) (.cells s.cs 52); simpa [go_sem] using h
  have F0 : Fr (fun _ => False) w W := by rw [hW]; exact (((Fr.refl (fun _ => False) w).alloc (.cells x.cs 25)).alloc (.cells s.cs 52))
  clear hW
  have HX := hide HX
  have HS := hide HS
  have F0 := hide F0
  go_wp2_with (first | (apply wl_load25 _ rfl rfl _ rfl; (case hr => exact rowN_h (unhide HX)); (case hc => exact rowD_h (unhide HX))))
  refine (long_any x _).mono ?_
  rintro e w1 ⟨rfl, f1⟩
  have HX := hide ((f1.block _ (lt_of_heap (unhide HX)) id).trans (unhide HX))
  have HS := hide ((f1.block _ (lt_of_heap (unhide HS)) id).trans (unhide HS))
  have F1 := hide ((unhide F0).trans f1 (fun _ _ e => e))
  clear f1 F0
  generalize decide (2000 < (x.t.size : Int)) = b
  cases b
  case true =>
    go_wp2_with fail
    refine (live_any _).mono ?_
    rintro e w2 ⟨rfl, f2⟩
    go_wp2_with fail
    go_ret
    exact ⟨rfl, (unhide F1).trans f2 (fun _ _ e => e)⟩
  go_wp2_with (first | (apply wl_load25 _ rfl rfl _ rfl; (case hr => exact rowN_h (unhide HX)); (case hc => exact rowD_h (unhide HX))) | (apply wl_load52 _ rfl rfl _ rfl; (case hr => exact rowN_s (unhide HS)); (case hc => exact rowD_s (unhide HS))))
  refine (apply_any x s now _).mono ?_
  rintro e w2 ⟨rfl, f2⟩
  have HX := hide ((f2.block _ (lt_of_heap (unhide HX)) id).trans (unhide HX))
  have HS := hide ((f2.block _ (lt_of_heap (unhide HS)) id).trans (unhide HS))
  have F2 := hide ((unhide F1).trans f2 (fun _ _ e => e))
  clear f2 F1
  obtain ⟨y, c, E, HR⟩ : ∃ (y : In) (c : Bool) (E : Int), ResP (apX x s now) (apS x s) (apE x s) = .tuple #[y.v, .bool c, .int .i64 E] := ⟨_, _, _, rfl⟩
  rw [HR]
  have HR := hide HR
  go_upto_region 4 with (first | (apply wl_store25 _ _ rfl rfl _ rfl _ rfl; (case hr => simp [go_sem]); (case hw => (simp [go_sem]; try exact rfl))))
  have HX := hide ((Below.heap_alloc w2 (.cells y.cs 25) _ (lt_of_heap (unhide HX))).trans (unhide HX))
  have HS := hide ((Below.heap_alloc w2 (.cells y.cs 25) _ (lt_of_heap (unhide HS))).trans (unhide HS))
  have HY := hide (heap_alloc_new w2 (.cells y.cs 25))
  have F2 := hide ((unhide F2).alloc (.cells y.cs 25))
  go_wp2_with (first | (apply wl_load25 _ rfl rfl _ rfl; (case hr => exact rowN_h (unhide HX)); (case hc => exact rowD_h (unhide HX))) | (apply wl_load52 _ rfl rfl _ rfl; (case hr => exact rowN_s (unhide HS)); (case hc => exact rowD_s (unhide HS))))
  refine (rapply_any x s now _ (unhide HB).1 (unhide HB).2).mono ?_
  rintro e w3 ⟨rfl, f3⟩
  rw [unhide HR]
  have HY := hide ((f3.block _ (lt_of_heap (unhide HY)) id).trans (unhide HY))
  have F3 := hide ((unhide F2).trans f3 (fun _ _ e => e))
  clear f3 F2 HX HS HR
  go_upto_region 5 with (first | (apply wl_store25 _ _ rfl rfl _ rfl _ rfl; (case hr => simp [go_sem]); (case hw => (simp [go_sem]; try exact rfl))))
  have HY := hide ((Below.heap_alloc w3 (.cells y.cs 25) _ (lt_of_heap (unhide HY))).trans (unhide HY))
  have HZ := hide (heap_alloc_new w3 (.cells y.cs 25))
  have F3 := hide ((unhide F3).alloc (.cells y.cs 25))
  refine wp_world ?_
  intro W3 hW3
  rw [← hW3] at HY HZ F3
  clear hW3
  have HEQ : eqB y y = true := eqB_same y
  go_wp2_with (first | (go_at_call 17; refine (num_any _ _).mono ?_; rintro e w' ⟨rfl, hw'⟩; have hw2 := hw'.symm; subst hw2; clear hw') | (apply wl_load25 _ rfl rfl _ rfl; (case hr => exact rowN_h (unhide HY)); (case hc => exact rowD_h (unhide HY))) | (apply wl_load25 _ rfl rfl _ rfl; (case hr => exact rowN_h (unhide HZ)); (case hc => exact rowD_h (unhide HZ))))
  refine (live_any _).mono ?_
  rintro e w4 ⟨rfl, f4⟩
  go_wp2_with fail
  go_ret
  exact ⟨rfl, (unhide F3).trans f4 (fun _ _ e => e)⟩
end Go.Proofs.Ytbenailemoefhaa
