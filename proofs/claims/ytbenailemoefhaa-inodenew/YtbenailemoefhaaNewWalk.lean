/-
  InodeNew, walked.
-/
import Derived.Test.YtbenailemoefhaaA9
import Derived.Test.YtbenailemoefhaaG4
namespace Go.Proofs.Ytbenailemoefhaa
open Go.RowKit Go.Lib
set_option linter.unusedVariables false
set_option linter.unusedSimpArgs false

attribute [local go_sem ↓] Go.wp_at_zero Go.wp_at_succ

theorem rowN_a {w : World} {n : Nat} {x : At} (h : w.heap[n]? = some (.cells x.cs 45 (0, 0))) : rowN w n 12 = true := by
  have hr : row? w n = some x.cs := by unfold row?; rw [h]; rfl
  unfold rowN; rw [hr]; simp
theorem rowD_a {w : World} {n : Nat} {x : At} (h : w.heap[n]? = some (.cells x.cs 45 (0, 0))) : rowD w n = x.cs := by
  have hr : row? w n = some x.cs := by unfold row?; rw [h]; rfl
  unfold rowD; rw [hr]; rfl
set_option maxRecDepth 100000 in
set_option maxHeartbeats 8000000 in
theorem new4_any (x : In) (now fs : Int) (w : World) (h0 : 0 ≤ x.m) (h1 : x.m < 4294967296) : Calls Try.prog 4 #[x.v, .int .u64 now, .int .u32 fs] w fun e w' => e = .returned (.bool true) ∧ Fr (fun _ => False) w w' := by
  have HB := hide (And.intro h0 h1)
  clear h0 h1
  go_enter Try.func4, Try.ntmps4
  go_upto_region 1 with fail
  refine wp_world ?_
  intro W hW
  have HX : W.heap[w.heap.size]? = some (.cells x.cs 25 (0, 0)) := by rw [hW]; exact heap_alloc_new w (.cells x.cs 25)
  have F0 : Fr (fun _ => False) w W := by rw [hW]; exact (Fr.refl (fun _ => False) w).alloc (.cells x.cs 25)
  clear hW
  have HX := hide HX
  have F0 := hide F0
  go_wp2_with (first | (apply wl_load25 _ rfl rfl _ rfl; (case hr => exact rowN_h (unhide HX)); (case hc => exact rowD_h (unhide HX))))
  refine (long_any x _).mono ?_
  rintro e w1 ⟨rfl, f1⟩
  have HX := hide ((f1.block _ (lt_of_heap (unhide HX)) id).trans (unhide HX))
  have F1 := hide ((unhide F0).trans f1 (fun _ _ e => e))
  clear f1 F0
  generalize decide (2000 < (x.t.size : Int)) = b
  cases b
  case true =>
    go_wp2_with fail
    refine (live_any _).mono ?_
    rintro e w2 ⟨rfl, f2⟩
    go_wp2_with fail
    go_ret
    exact ⟨rfl, (unhide F1).trans f2 (fun _ _ e => e)⟩
  have c0 : w1.cell? ⟨w.heap.size, 0, none⟩ = some (.int .u64 x.n) := by rw [cell_of_heap (unhide HX)]; rfl
  have c1 : w1.cell? ⟨w.heap.size, 1, none⟩ = some (.int .u32 x.g) := by rw [cell_of_heap (unhide HX)]; rfl
  have c2 : w1.cell? ⟨w.heap.size, 2, none⟩ = some (.int .i64 x.k) := by rw [cell_of_heap (unhide HX)]; rfl
  have c3 : w1.cell? ⟨w.heap.size, 3, none⟩ = some (.int .u32 x.m) := by rw [cell_of_heap (unhide HX)]; rfl
  have c5 : w1.cell? ⟨w.heap.size, 5, none⟩ = some (.int .u32 x.u) := by rw [cell_of_heap (unhide HX)]; rfl
  have c6 : w1.cell? ⟨w.heap.size, 6, none⟩ = some (.int .u32 x.d) := by rw [cell_of_heap (unhide HX)]; rfl
  go_wp2_with fail
  refine (new_any x.n x.g x.k x.m x.u x.d now _ (unhide HB).1 (unhide HB).2).mono ?_
  rintro e w2 ⟨rfl, f2⟩
  clear c0 c1 c2 c3 c5 c6
  have HX := hide ((f2.block _ (lt_of_heap (unhide HX)) id).trans (unhide HX))
  have F2 := hide ((unhide F1).trans f2 (fun _ _ e => e))
  clear f2 F1
  obtain ⟨y, E, HR⟩ : ∃ (y : In) (E : Int), Res (newX x.n x.g x.k x.m x.u x.d now) (newE x.n x.g x.k) = .tuple #[y.v, .int .i64 E] := ⟨_, _, rfl⟩
  rw [HR]
  have HR := hide HR
  go_upto_region 4 with (first | (apply wl_store25 _ _ rfl rfl _ rfl _ rfl; (case hr => simp [go_sem]); (case hw => (simp [go_sem]; try exact rfl))))
  have HX := hide ((Below.heap_alloc w2 (.cells y.cs 25) _ (lt_of_heap (unhide HX))).trans (unhide HX))
  have HY := hide (heap_alloc_new w2 (.cells y.cs 25))
  have F2 := hide ((unhide F2).alloc (.cells y.cs 25))
  refine wp_world ?_
  intro W2 hW2
  rw [← hW2] at HX HY F2
  clear hW2
  have c0 : W2.cell? ⟨w.heap.size, 0, none⟩ = some (.int .u64 x.n) := by rw [cell_of_heap (unhide HX)]; rfl
  have c1 : W2.cell? ⟨w.heap.size, 1, none⟩ = some (.int .u32 x.g) := by rw [cell_of_heap (unhide HX)]; rfl
  have c2 : W2.cell? ⟨w.heap.size, 2, none⟩ = some (.int .i64 x.k) := by rw [cell_of_heap (unhide HX)]; rfl
  have c3 : W2.cell? ⟨w.heap.size, 3, none⟩ = some (.int .u32 x.m) := by rw [cell_of_heap (unhide HX)]; rfl
  have c5 : W2.cell? ⟨w.heap.size, 5, none⟩ = some (.int .u32 x.u) := by rw [cell_of_heap (unhide HX)]; rfl
  have c6 : W2.cell? ⟨w.heap.size, 6, none⟩ = some (.int .u32 x.d) := by rw [cell_of_heap (unhide HX)]; rfl
  go_wp2_with fail
  refine (rnew_any x.n x.g x.k x.m x.u x.d now _ (unhide HB).1 (unhide HB).2).mono ?_
  rintro e w3 ⟨rfl, f3⟩
  rw [unhide HR]
  clear c0 c1 c2 c3 c5 c6
  have HX := hide ((f3.block _ (lt_of_heap (unhide HX)) id).trans (unhide HX))
  have HY := hide ((f3.block _ (lt_of_heap (unhide HY)) id).trans (unhide HY))
  have F3 := hide ((unhide F2).trans f3 (fun _ _ e => e))
  clear f3 F2 HR
  go_upto_region 5 with (first | (apply wl_store25 _ _ rfl rfl _ rfl _ rfl; (case hr => simp [go_sem]); (case hw => (simp [go_sem]; try exact rfl))))
  have HX := hide ((Below.heap_alloc w3 (.cells y.cs 25) _ (lt_of_heap (unhide HX))).trans (unhide HX))
  have HY := hide ((Below.heap_alloc w3 (.cells y.cs 25) _ (lt_of_heap (unhide HY))).trans (unhide HY))
  have HZ := hide (heap_alloc_new w3 (.cells y.cs 25))
  have F3 := hide ((unhide F3).alloc (.cells y.cs 25))
  refine wp_world ?_
  intro W3 hW3
  rw [← hW3] at HX HY HZ F3
  clear hW3
  go_wp2_with (first | (apply wl_load25 _ rfl rfl _ rfl; (case hr => exact rowN_h (unhide HX)); (case hc => exact rowD_h (unhide HX))))
  refine (att_any x fs _).mono ?_
  rintro e w4 ⟨rfl, f4⟩
  have HX := hide ((f4.block _ (lt_of_heap (unhide HX)) id).trans (unhide HX))
  have HY := hide ((f4.block _ (lt_of_heap (unhide HY)) id).trans (unhide HY))
  have HZ := hide ((f4.block _ (lt_of_heap (unhide HZ)) id).trans (unhide HZ))
  have F4 := hide ((unhide F3).trans f4 (fun _ _ e => e))
  clear f4 F3
  obtain ⟨q, D, HR⟩ : ∃ (q : At) (D : Int), ResA (atX x fs) (atE x) = .tuple #[q.v, .int .i64 D] := ⟨_, _, rfl⟩
  rw [HR]
  have HR := hide HR
  go_upto_region 6 with (first | (apply wl_store45 _ _ rfl rfl _ rfl _ rfl; (case hr => simp [go_sem]); (case hw => (simp [go_sem]; try exact rfl))))
  have HX := hide ((Below.heap_alloc w4 (.cells q.cs 45) _ (lt_of_heap (unhide HX))).trans (unhide HX))
  have HY := hide ((Below.heap_alloc w4 (.cells q.cs 45) _ (lt_of_heap (unhide HY))).trans (unhide HY))
  have HZ := hide ((Below.heap_alloc w4 (.cells q.cs 45) _ (lt_of_heap (unhide HZ))).trans (unhide HZ))
  have HQ := hide (heap_alloc_new w4 (.cells q.cs 45))
  have F4 := hide ((unhide F4).alloc (.cells q.cs 45))
  refine wp_world ?_
  intro W4 hW4
  rw [← hW4] at HX HY HZ HQ F4
  clear hW4
  go_wp2_with (first | (apply wl_load25 _ rfl rfl _ rfl; (case hr => exact rowN_h (unhide HX)); (case hc => exact rowD_h (unhide HX))))
  refine (ratt_any x fs _).mono ?_
  rintro e w5 ⟨rfl, f5⟩
  rw [unhide HR]
  have HX := hide ((f5.block _ (lt_of_heap (unhide HX)) id).trans (unhide HX))
  have HY := hide ((f5.block _ (lt_of_heap (unhide HY)) id).trans (unhide HY))
  have HZ := hide ((f5.block _ (lt_of_heap (unhide HZ)) id).trans (unhide HZ))
  have HQ := hide ((f5.block _ (lt_of_heap (unhide HQ)) id).trans (unhide HQ))
  have F5 := hide ((unhide F4).trans f5 (fun _ _ e => e))
  clear f5 F4 HR
  go_upto_region 7 with (first | (apply wl_store45 _ _ rfl rfl _ rfl _ rfl; (case hr => simp [go_sem]); (case hw => (simp [go_sem]; try exact rfl))))
  have HX := hide ((Below.heap_alloc w5 (.cells q.cs 45) _ (lt_of_heap (unhide HX))).trans (unhide HX))
  have HY := hide ((Below.heap_alloc w5 (.cells q.cs 45) _ (lt_of_heap (unhide HY))).trans (unhide HY))
  have HZ := hide ((Below.heap_alloc w5 (.cells q.cs 45) _ (lt_of_heap (unhide HZ))).trans (unhide HZ))
  have HQ := hide ((Below.heap_alloc w5 (.cells q.cs 45) _ (lt_of_heap (unhide HQ))).trans (unhide HQ))
  have HP := hide (heap_alloc_new w5 (.cells q.cs 45))
  have F5 := hide ((unhide F5).alloc (.cells q.cs 45))
  refine wp_world ?_
  intro W5 hW5
  rw [← hW5] at HX HY HZ HQ HP F5
  clear hW5
  clear HX
  have HEQ : eqB y y = true := eqB_same y
  have HEA : eqA q q = true := eqA_same q
  go_wp2_with (first | (go_at_call 17; refine (num_any _ _).mono ?_; rintro e w' ⟨rfl, hw'⟩; have hw2 := hw'.symm; subst hw2; clear hw') | (apply wl_load25 _ rfl rfl _ rfl; (case hr => exact rowN_h (unhide HY)); (case hc => exact rowD_h (unhide HY))) | (apply wl_load25 _ rfl rfl _ rfl; (case hr => exact rowN_h (unhide HZ)); (case hc => exact rowD_h (unhide HZ))) | (apply wl_load45 _ rfl rfl _ rfl; (case hr => exact rowN_a (unhide HQ)); (case hc => exact rowD_a (unhide HQ))) | (apply wl_load45 _ rfl rfl _ rfl; (case hr => exact rowN_a (unhide HP)); (case hc => exact rowD_a (unhide HP))))
  refine (live_any _).mono ?_
  rintro e w6 ⟨rfl, f6⟩
  go_wp2_with fail
  go_ret
  exact ⟨rfl, (unhide F5).trans f6 (fun _ _ e => e)⟩
end Go.Proofs.Ytbenailemoefhaa
