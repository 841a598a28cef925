/-
  InodeChanges, walked.
-/
import Derived.Test.YtbenailemoefhaaCf
namespace Go.Proofs.Ytbenailemoefhaa
open Go.RowKit Go.Lib
set_option linter.unusedVariables false
set_option linter.unusedSimpArgs false

attribute [local go_sem ↓] Go.wp_at_zero Go.wp_at_succ

set_option maxRecDepth 100000 in
set_option maxHeartbeats 8000000 in
theorem changes_any (z : Cn) (h0 : 0 ≤ z.x.l ∧ z.x.l < 4294967296) (h1 : -9223372036854775808 ≤ z.b ∧ z.b < 9223372036854775808) (w : World) : Calls Try.prog 6 #[z.v] w fun e w' => e = .returned (.bool true) ∧ Fr (fun _ => False) w w' := by
  have HB := hide (And.intro h0 h1)
  clear h0 h1
  go_enter Try.func6, Try.ntmps6
  go_upto_region 1 with fail
  have HX := hide (heap_alloc_new w (.cells z.cs 59))
  have F0 := hide ((Fr.refl (fun _ => False) w).alloc (.cells z.cs 59))
  refine wp_world ?_
  intro W hW
  rw [← hW] at HX F0
  clear hW
  go_wp2_with (first | (refine wl_loadC _ rfl rfl _ rfl (unhide HX) ?_))
  refine (long_any z.x _).mono ?_
  rintro e w1 ⟨rfl, f1⟩
  have HX := hide (((f1).block _ (lt_of_heap (unhide HX)) id).trans (unhide HX))
  have F1 := hide ((unhide F0).trans f1 (fun _ _ e => e))
  clear f1 F0
  generalize decide (2000 < (z.x.t.size : Int)) = lo
  cases lo
  case true =>
    go_wp2_with fail
    refine (live_any _).mono ?_
    rintro e wl ⟨rfl, fl⟩
    go_wp2_with fail
    go_ret
    exact ⟨rfl, (unhide F1).trans fl (fun _ _ e => e)⟩
  have c14 : w1.cell? ⟨w.heap.size, 14, none⟩ = some (.int .i64 z.a) := by rw [cell_of_heap (unhide HX)]; rfl
  have c15 : w1.cell? ⟨w.heap.size, 15, none⟩ = some (.int .i64 z.b) := by rw [cell_of_heap (unhide HX)]; rfl
  have c16 : w1.cell? ⟨w.heap.size, 16, none⟩ = some (.int .u64 z.c) := by rw [cell_of_heap (unhide HX)]; rfl
  have c17 : w1.cell? ⟨w.heap.size, 17, none⟩ = some (.int .u64 z.d) := by rw [cell_of_heap (unhide HX)]; rfl
  go_wp2_with (first | (refine wl_loadC _ rfl rfl _ rfl (unhide HX) ?_))
  refine (linked_any z.x z.b z.d _ (unhide HB).1.1 (unhide HB).1.2 (unhide HB).2.1 (by have := (unhide HB).2.2; omega)).mono ?_
  rintro e w2 ⟨rfl, f2⟩
  clear c14 c15 c16 c17
  have HX := hide (((f2).block _ (lt_of_heap (unhide HX)) id).trans (unhide HX))
  have F2 := hide ((unhide F1).trans f2 (fun _ _ e => e))
  clear f2 F1
  obtain ⟨y, E, HR⟩ : ∃ (y : In) (E : Int), Res (lkX z.x z.b z.d) (lkE z.x z.b) = .tuple #[y.v, .int .i64 E] := ⟨_, _, rfl⟩
  rw [HR]
  have HR := hide HR
  go_upto_region 4 with (first | (apply wl_store25 _ _ rfl rfl _ rfl _ rfl; (case hr => simp [go_sem]); (case hw => (simp [go_sem]; try exact rfl))))
  have HX := hide ((Below.heap_alloc w2 (.cells y.cs 25) _ (lt_of_heap (unhide HX))).trans (unhide HX))
  have HY := hide (heap_alloc_new w2 (.cells y.cs 25))
  have F2 := hide ((unhide F2).alloc (.cells y.cs 25))
  refine wp_world ?_
  intro W2 hW2
  rw [← hW2] at HX HY F2
  clear hW2
  have c14 : W2.cell? ⟨w.heap.size, 14, none⟩ = some (.int .i64 z.a) := by rw [cell_of_heap (unhide HX)]; rfl
  have c15 : W2.cell? ⟨w.heap.size, 15, none⟩ = some (.int .i64 z.b) := by rw [cell_of_heap (unhide HX)]; rfl
  have c16 : W2.cell? ⟨w.heap.size, 16, none⟩ = some (.int .u64 z.c) := by rw [cell_of_heap (unhide HX)]; rfl
  have c17 : W2.cell? ⟨w.heap.size, 17, none⟩ = some (.int .u64 z.d) := by rw [cell_of_heap (unhide HX)]; rfl
  go_wp2_with (first | (refine wl_loadC _ rfl rfl _ rfl (unhide HX) ?_))
  refine (rlinked_any z.x z.b z.d _ (unhide HB).1.1 (unhide HB).1.2).mono ?_
  rintro e w3 ⟨rfl, f3⟩
  rw [unhide HR]
  clear c14 c15 c16 c17
  have HX := hide (((f3).block _ (lt_of_heap (unhide HX)) id).trans (unhide HX))
  have HY := hide (((f3).block _ (lt_of_heap (unhide HY)) id).trans (unhide HY))
  have F3 := hide ((unhide F2).trans f3 (fun _ _ e => e))
  clear f3 F2 HR
  go_upto_region 5 with (first | (apply wl_store25 _ _ rfl rfl _ rfl _ rfl; (case hr => simp [go_sem]); (case hw => (simp [go_sem]; try exact rfl))))
  have HX := hide ((Below.heap_alloc w3 (.cells y.cs 25) _ (lt_of_heap (unhide HX))).trans (unhide HX))
  have HY := hide ((Below.heap_alloc w3 (.cells y.cs 25) _ (lt_of_heap (unhide HY))).trans (unhide HY))
  have HZ := hide (heap_alloc_new w3 (.cells y.cs 25))
  have F3 := hide ((unhide F3).alloc (.cells y.cs 25))
  refine wp_world ?_
  intro W3 hW3
  rw [← hW3] at HX HY HZ F3
  clear hW3
  have c14 : W3.cell? ⟨w.heap.size, 14, none⟩ = some (.int .i64 z.a) := by rw [cell_of_heap (unhide HX)]; rfl
  have c15 : W3.cell? ⟨w.heap.size, 15, none⟩ = some (.int .i64 z.b) := by rw [cell_of_heap (unhide HX)]; rfl
  have c16 : W3.cell? ⟨w.heap.size, 16, none⟩ = some (.int .u64 z.c) := by rw [cell_of_heap (unhide HX)]; rfl
  have c17 : W3.cell? ⟨w.heap.size, 17, none⟩ = some (.int .u64 z.d) := by rw [cell_of_heap (unhide HX)]; rfl
  go_wp2_with (first | (refine wl_loadC _ rfl rfl _ rfl (unhide HX) ?_))
  refine (sized_any z.x z.c z.d _).mono ?_
  rintro e w4 ⟨rfl, f4⟩
  clear c14 c15 c16 c17
  have HX := hide (((f4).block _ (lt_of_heap (unhide HX)) id).trans (unhide HX))
  have HY := hide (((f4).block _ (lt_of_heap (unhide HY)) id).trans (unhide HY))
  have HZ := hide (((f4).block _ (lt_of_heap (unhide HZ)) id).trans (unhide HZ))
  have F4 := hide ((unhide F3).trans f4 (fun _ _ e => e))
  clear f4 F3
  obtain ⟨q, D, HR⟩ : ∃ (q : In) (D : Int), Res { z.x with s := z.c, tm := z.d, tc := z.d } (szE z.x z.c) = .tuple #[q.v, .int .i64 D] := ⟨_, _, rfl⟩
  rw [HR]
  have HR := hide HR
  go_upto_region 6 with (first | (apply wl_store25 _ _ rfl rfl _ rfl _ rfl; (case hr => simp [go_sem]); (case hw => (simp [go_sem]; try exact rfl))))
  have HX := hide ((Below.heap_alloc w4 (.cells q.cs 25) _ (lt_of_heap (unhide HX))).trans (unhide HX))
  have HY := hide ((Below.heap_alloc w4 (.cells q.cs 25) _ (lt_of_heap (unhide HY))).trans (unhide HY))
  have HZ := hide ((Below.heap_alloc w4 (.cells q.cs 25) _ (lt_of_heap (unhide HZ))).trans (unhide HZ))
  have HQ := hide (heap_alloc_new w4 (.cells q.cs 25))
  have F4 := hide ((unhide F4).alloc (.cells q.cs 25))
  refine wp_world ?_
  intro W4 hW4
  rw [← hW4] at HX HY HZ HQ F4
  clear hW4
  have c14 : W4.cell? ⟨w.heap.size, 14, none⟩ = some (.int .i64 z.a) := by rw [cell_of_heap (unhide HX)]; rfl
  have c15 : W4.cell? ⟨w.heap.size, 15, none⟩ = some (.int .i64 z.b) := by rw [cell_of_heap (unhide HX)]; rfl
  have c16 : W4.cell? ⟨w.heap.size, 16, none⟩ = some (.int .u64 z.c) := by rw [cell_of_heap (unhide HX)]; rfl
  have c17 : W4.cell? ⟨w.heap.size, 17, none⟩ = some (.int .u64 z.d) := by rw [cell_of_heap (unhide HX)]; rfl
  go_wp2_with (first | (refine wl_loadC _ rfl rfl _ rfl (unhide HX) ?_))
  refine (rsized_any z.x z.c z.d _).mono ?_
  rintro e w5 ⟨rfl, f5⟩
  rw [unhide HR]
  clear c14 c15 c16 c17
  have HX := hide (((f5).block _ (lt_of_heap (unhide HX)) id).trans (unhide HX))
  have HY := hide (((f5).block _ (lt_of_heap (unhide HY)) id).trans (unhide HY))
  have HZ := hide (((f5).block _ (lt_of_heap (unhide HZ)) id).trans (unhide HZ))
  have HQ := hide (((f5).block _ (lt_of_heap (unhide HQ)) id).trans (unhide HQ))
  have F5 := hide ((unhide F4).trans f5 (fun _ _ e => e))
  clear f5 F4 HR
  go_upto_region 7 with (first | (apply wl_store25 _ _ rfl rfl _ rfl _ rfl; (case hr => simp [go_sem]); (case hw => (simp [go_sem]; try exact rfl))))
  have HX := hide ((Below.heap_alloc w5 (.cells q.cs 25) _ (lt_of_heap (unhide HX))).trans (unhide HX))
  have HY := hide ((Below.heap_alloc w5 (.cells q.cs 25) _ (lt_of_heap (unhide HY))).trans (unhide HY))
  have HZ := hide ((Below.heap_alloc w5 (.cells q.cs 25) _ (lt_of_heap (unhide HZ))).trans (unhide HZ))
  have HQ := hide ((Below.heap_alloc w5 (.cells q.cs 25) _ (lt_of_heap (unhide HQ))).trans (unhide HQ))
  have HP := hide (heap_alloc_new w5 (.cells q.cs 25))
  have F5 := hide ((unhide F5).alloc (.cells q.cs 25))
  refine wp_world ?_
  intro W5 hW5
  rw [← hW5] at HX HY HZ HQ HP F5
  clear hW5
  have HT1 := fun W => touch_any z.x z.a z.d W
  have HT2 := fun W => rtouch_any z.x z.a z.d W
  generalize tch z.x (tb z.a 1) (tb z.a 2) (tb z.a 4) z.d = u at *
  have HT1 := hide HT1
  have HT2 := hide HT2
  refine wp_nameK ?_
  intro a0 hA
  have h1 : a0.tmps.getD 1 undef = .pointer (some ⟨w.heap.size, 0, none⟩) := by rw [hA]; rfl
  have h3 : a0.tmps.getD 3 undef = .pointer (some ⟨w2.heap.size, 0, none⟩) := by rw [hA]; rfl
  have h4 : a0.tmps.getD 4 undef = .int .i64 E := by rw [hA]; rfl
  have h5 : a0.tmps.getD 5 undef = .pointer (some ⟨w3.heap.size, 0, none⟩) := by rw [hA]; rfl
  have h6 : a0.tmps.getD 6 undef = .int .i64 E := by rw [hA]; rfl
  have h7 : a0.tmps.getD 7 undef = .pointer (some ⟨w4.heap.size, 0, none⟩) := by rw [hA]; rfl
  have h8 : a0.tmps.getD 8 undef = .int .i64 D := by rw [hA]; rfl
  have h9 : a0.tmps.getD 9 undef = .pointer (some ⟨w5.heap.size, 0, none⟩) := by rw [hA]; rfl
  have h10 : a0.tmps.getD 10 undef = .int .i64 D := by rw [hA]; rfl
  have hsz : a0.tmps.size = 95 := by rw [hA]; rfl
  have hdf : a0.defers = [] := by rw [hA]
  clear hA
  refine wp_region_kinds (fun _ => False) (by kernel_rfl) (by kernel_rfl) (by decide +kernel) (by rw [hsz]; decide +kernel) [.eq (.pointer (some ⟨w.heap.size, 0 + 0, none⟩)), .eq (z.x.v), .eq (.pointer (some ⟨w.heap.size, 0 + 14, none⟩)), .eq (.int .i64 z.a), .eq (.pointer (some ⟨w.heap.size, 0 + 17, none⟩)), .eq (.int .u64 z.d), .eq (u.v), .eq (.pointer (some ⟨w.heap.size, 0 + 0, none⟩)), .eq (z.x.v), .eq (.pointer (some ⟨w.heap.size, 0 + 14, none⟩)), .eq (.int .i64 z.a), .eq (.pointer (some ⟨w.heap.size, 0 + 17, none⟩)), .eq (.int .u64 z.d), .eq (u.v), .eq (.bool true), .eq (.bool true), .eq (y.v), .eq (y.v), .eq (.bool true), .eq (.bool true), .eq (.bool true), .eq (.int .i64 E), .eq (.int .i64 E), .eq (.int .i64 E), .eq (.bool true), .eq (.bool true), .eq (.bool true), .eq (q.v), .eq (q.v), .eq (.bool true), .eq (.bool true), .eq (.bool true), .eq (.int .i64 D), .eq (.int .i64 D), .eq (.int .i64 D), .eq (.bool true), .eq (.bool true), .eq (.bool true), .eq (.bool true), .eq (.bool true), .eq (.bool true)] [] (by decide) (by decide) (chain_paths _ [] (by kernel_rfl)) (fun _ _ => True) trivial ?steps ?done
  case steps =>
    refine ⟨?_, ?_⟩
    · intro a' w' k' hb hf hs hc hq hg hd
      exact ⟨wantedN rfl, k_val (.pointer (some ⟨w.heap.size, 0 + 0, none⟩)) (by decide) trivial (x_field (fa59_0 _ _) rfl ((hb.old 1 (by decide +kernel)).trans h1)) rfl⟩
    refine ⟨?_, ?_⟩
    · intro a' w' k' hb hf hs hc hq hg hd
      exact ⟨wantedN rfl, k_val (z.x.v) (by decide) trivial (x_loadC rfl (hd 0 (by kernel_rfl) 55 rfl) (by rw [hf.block _ (lt_of_heap (unhide HX)) id]; exact unhide HX)) rfl⟩
    refine ⟨?_, ?_⟩
    · intro a' w' k' hb hf hs hc hq hg hd
      exact ⟨wantedN rfl, k_val (.pointer (some ⟨w.heap.size, 0 + 14, none⟩)) (by decide) trivial (x_field (fa59_1 _ _) rfl ((hb.old 1 (by decide +kernel)).trans h1)) rfl⟩
    refine ⟨?_, ?_⟩
    · intro a' w' k' hb hf hs hc hq hg hd
      exact ⟨wantedN rfl, k_val (.int .i64 z.a) (by decide) trivial (x_load1 ld3 rfl (hd 2 (by kernel_rfl) 57 rfl) (by rw [cell_of_heap ((hf.block _ (lt_of_heap (unhide HX)) id).trans (unhide HX))]; rfl)) rfl⟩
    refine ⟨?_, ?_⟩
    · intro a' w' k' hb hf hs hc hq hg hd
      exact ⟨wantedN rfl, k_val (.pointer (some ⟨w.heap.size, 0 + 17, none⟩)) (by decide) trivial (x_field (fa59_4 _ _) rfl ((hb.old 1 (by decide +kernel)).trans h1)) rfl⟩
    refine ⟨?_, ?_⟩
    · intro a' w' k' hb hf hs hc hq hg hd
      exact ⟨wantedN rfl, k_val (.int .u64 z.d) (by decide) trivial (x_load1 ld22 rfl (hd 4 (by kernel_rfl) 59 rfl) (by rw [cell_of_heap ((hf.block _ (lt_of_heap (unhide HX)) id).trans (unhide HX))]; rfl)) rfl⟩
    refine ⟨?_, ?_⟩
    · intro a' w' k' hb hf hs hc hq hg hd
      exact ⟨wantedN rfl, k_call 30 _ (by decide) (e_call3 rfl rfl (hd 1 (by kernel_rfl) 56 rfl) (hd 3 (by kernel_rfl) 58 rfl) (hd 5 (by kernel_rfl) 60 rfl) (fun _ _ => by simp [go_sem])) ((unhide HT1 _).mono (by rintro e w9 ⟨rfl, f9⟩; exact ⟨_, rfl, rfl, f9, trivial⟩))⟩
    refine ⟨?_, ?_⟩
    · intro a' w' k' hb hf hs hc hq hg hd
      exact ⟨wantedN rfl, k_val (.pointer (some ⟨w.heap.size, 0 + 0, none⟩)) (by decide) trivial (x_field (fa59_0 _ _) rfl ((hb.old 1 (by decide +kernel)).trans h1)) rfl⟩
    refine ⟨?_, ?_⟩
    · intro a' w' k' hb hf hs hc hq hg hd
      exact ⟨wantedN rfl, k_val (z.x.v) (by decide) trivial (x_loadC rfl (hd 7 (by kernel_rfl) 62 rfl) (by rw [hf.block _ (lt_of_heap (unhide HX)) id]; exact unhide HX)) rfl⟩
    refine ⟨?_, ?_⟩
    · intro a' w' k' hb hf hs hc hq hg hd
      exact ⟨wantedN rfl, k_val (.pointer (some ⟨w.heap.size, 0 + 14, none⟩)) (by decide) trivial (x_field (fa59_1 _ _) rfl ((hb.old 1 (by decide +kernel)).trans h1)) rfl⟩
    refine ⟨?_, ?_⟩
    · intro a' w' k' hb hf hs hc hq hg hd
      exact ⟨wantedN rfl, k_val (.int .i64 z.a) (by decide) trivial (x_load1 ld3 rfl (hd 9 (by kernel_rfl) 64 rfl) (by rw [cell_of_heap ((hf.block _ (lt_of_heap (unhide HX)) id).trans (unhide HX))]; rfl)) rfl⟩
    refine ⟨?_, ?_⟩
    · intro a' w' k' hb hf hs hc hq hg hd
      exact ⟨wantedN rfl, k_val (.pointer (some ⟨w.heap.size, 0 + 17, none⟩)) (by decide) trivial (x_field (fa59_4 _ _) rfl ((hb.old 1 (by decide +kernel)).trans h1)) rfl⟩
    refine ⟨?_, ?_⟩
    · intro a' w' k' hb hf hs hc hq hg hd
      exact ⟨wantedN rfl, k_val (.int .u64 z.d) (by decide) trivial (x_load1 ld22 rfl (hd 11 (by kernel_rfl) 66 rfl) (by rw [cell_of_heap ((hf.block _ (lt_of_heap (unhide HX)) id).trans (unhide HX))]; rfl)) rfl⟩
    refine ⟨?_, ?_⟩
    · intro a' w' k' hb hf hs hc hq hg hd
      exact ⟨wantedN rfl, k_call 31 _ (by decide) (e_call3 rfl rfl (hd 8 (by kernel_rfl) 63 rfl) (hd 10 (by kernel_rfl) 65 rfl) (hd 12 (by kernel_rfl) 67 rfl) (fun _ _ => by simp [go_sem])) ((unhide HT2 _).mono (by rintro e w9 ⟨rfl, f9⟩; exact ⟨_, rfl, rfl, f9, trivial⟩))⟩
    refine ⟨?_, ?_⟩
    · intro a' w' k' hb hf hs hc hq hg hd
      exact ⟨wantedN rfl, k_val (.bool true) (by decide) trivial (x_eq25 (z := u) rfl (hd 6 (by kernel_rfl) 61 rfl) (hd 13 (by kernel_rfl) 68 rfl)) rfl⟩
    refine ⟨?_, ?_⟩
    · intro a' w' k' hb hf hs hc hq hg hd
      exact ⟨wantedN rfl, k_val (.bool true) (by decide) trivial (x_move rfl (hd 14 (by kernel_rfl) 69 rfl)) rfl⟩
    refine ⟨?_, ?_⟩
    · intro a' w' k' hb hf hs hc hq hg hd
      exact ⟨wantedT (d := 70) rfl rfl (by rw [hb.size, hsz]; omega) (hd 15 (by kernel_rfl) 70 rfl), k_val (y.v) (by decide) trivial (x_load25 rfl ((hb.old 3 (by decide +kernel)).trans h3) (by rw [hf.block _ (lt_of_heap (unhide HY)) id]; exact unhide HY)) rfl⟩
    refine ⟨?_, ?_⟩
    · intro a' w' k' hb hf hs hc hq hg hd
      exact ⟨wantedT (d := 70) rfl rfl (by rw [hb.size, hsz]; omega) (hd 15 (by kernel_rfl) 70 rfl), k_val (y.v) (by decide) trivial (x_load25 rfl ((hb.old 5 (by decide +kernel)).trans h5) (by rw [hf.block _ (lt_of_heap (unhide HZ)) id]; exact unhide HZ)) rfl⟩
    refine ⟨?_, ?_⟩
    · intro a' w' k' hb hf hs hc hq hg hd
      exact ⟨wantedT (d := 70) rfl rfl (by rw [hb.size, hsz]; omega) (hd 15 (by kernel_rfl) 70 rfl), k_val (.bool true) (by decide) trivial (x_eq25 (z := y) rfl (hd 16 (by kernel_rfl) 71 rfl) (hd 17 (by kernel_rfl) 72 rfl)) rfl⟩
    refine ⟨?_, ?_⟩
    · intro a' w' k' hb hf hs hc hq hg hd
      exact ⟨wantedN rfl, k_val (.bool true) (by decide) trivial (x_pickT rfl (hd 15 (by kernel_rfl) 70 rfl) (hd 18 (by kernel_rfl) 73 rfl)) rfl⟩
    refine ⟨?_, ?_⟩
    · intro a' w' k' hb hf hs hc hq hg hd
      exact ⟨wantedN rfl, k_val (.bool true) (by decide) trivial (x_move rfl (hd 19 (by kernel_rfl) 74 rfl)) rfl⟩
    refine ⟨?_, ?_⟩
    · intro a' w' k' hb hf hs hc hq hg hd
      exact ⟨wantedT (d := 75) rfl rfl (by rw [hb.size, hsz]; omega) (hd 20 (by kernel_rfl) 75 rfl), k_val (.int .i64 E) (by decide) trivial (x_move rfl ((hb.old 4 (by decide +kernel)).trans h4)) rfl⟩
    refine ⟨?_, ?_⟩
    · intro a' w' k' hb hf hs hc hq hg hd
      exact ⟨wantedT (d := 75) rfl rfl (by rw [hb.size, hsz]; omega) (hd 20 (by kernel_rfl) 75 rfl), k_call 17 _ (by decide) (e_call1 rfl rfl (hd 21 (by kernel_rfl) 76 rfl) (fun _ _ => by simp [go_sem])) ((num_any _ _).mono (by rintro e w9 ⟨rfl, rfl⟩; exact ⟨_, rfl, rfl, Fr.refl _ _, trivial⟩))⟩
    refine ⟨?_, ?_⟩
    · intro a' w' k' hb hf hs hc hq hg hd
      exact ⟨wantedT (d := 75) rfl rfl (by rw [hb.size, hsz]; omega) (hd 20 (by kernel_rfl) 75 rfl), k_val (.int .i64 E) (by decide) trivial (x_move rfl ((hb.old 6 (by decide +kernel)).trans h6)) rfl⟩
    refine ⟨?_, ?_⟩
    · intro a' w' k' hb hf hs hc hq hg hd
      exact ⟨wantedT (d := 75) rfl rfl (by rw [hb.size, hsz]; omega) (hd 20 (by kernel_rfl) 75 rfl), k_val (.bool true) (by decide) trivial (x_eqI Try.underlying3 rfl (hd 22 (by kernel_rfl) 77 rfl) (hd 23 (by kernel_rfl) 78 rfl) (by first | rfl | decide | simp)) rfl⟩
    refine ⟨?_, ?_⟩
    · intro a' w' k' hb hf hs hc hq hg hd
      exact ⟨wantedN rfl, k_val (.bool true) (by decide) trivial (x_pickT rfl (hd 20 (by kernel_rfl) 75 rfl) (hd 24 (by kernel_rfl) 79 rfl)) rfl⟩
    refine ⟨?_, ?_⟩
    · intro a' w' k' hb hf hs hc hq hg hd
      exact ⟨wantedN rfl, k_val (.bool true) (by decide) trivial (x_move rfl (hd 25 (by kernel_rfl) 80 rfl)) rfl⟩
    refine ⟨?_, ?_⟩
    · intro a' w' k' hb hf hs hc hq hg hd
      exact ⟨wantedT (d := 81) rfl rfl (by rw [hb.size, hsz]; omega) (hd 26 (by kernel_rfl) 81 rfl), k_val (q.v) (by decide) trivial (x_load25 rfl ((hb.old 7 (by decide +kernel)).trans h7) (by rw [hf.block _ (lt_of_heap (unhide HQ)) id]; exact unhide HQ)) rfl⟩
    refine ⟨?_, ?_⟩
    · intro a' w' k' hb hf hs hc hq hg hd
      exact ⟨wantedT (d := 81) rfl rfl (by rw [hb.size, hsz]; omega) (hd 26 (by kernel_rfl) 81 rfl), k_val (q.v) (by decide) trivial (x_load25 rfl ((hb.old 9 (by decide +kernel)).trans h9) (by rw [hf.block _ (lt_of_heap (unhide HP)) id]; exact unhide HP)) rfl⟩
    refine ⟨?_, ?_⟩
    · intro a' w' k' hb hf hs hc hq hg hd
      exact ⟨wantedT (d := 81) rfl rfl (by rw [hb.size, hsz]; omega) (hd 26 (by kernel_rfl) 81 rfl), k_val (.bool true) (by decide) trivial (x_eq25 (z := q) rfl (hd 27 (by kernel_rfl) 82 rfl) (hd 28 (by kernel_rfl) 83 rfl)) rfl⟩
    refine ⟨?_, ?_⟩
    · intro a' w' k' hb hf hs hc hq hg hd
      exact ⟨wantedN rfl, k_val (.bool true) (by decide) trivial (x_pickT rfl (hd 26 (by kernel_rfl) 81 rfl) (hd 29 (by kernel_rfl) 84 rfl)) rfl⟩
    refine ⟨?_, ?_⟩
    · intro a' w' k' hb hf hs hc hq hg hd
      exact ⟨wantedN rfl, k_val (.bool true) (by decide) trivial (x_move rfl (hd 30 (by kernel_rfl) 85 rfl)) rfl⟩
    refine ⟨?_, ?_⟩
    · intro a' w' k' hb hf hs hc hq hg hd
      exact ⟨wantedT (d := 86) rfl rfl (by rw [hb.size, hsz]; omega) (hd 31 (by kernel_rfl) 86 rfl), k_val (.int .i64 D) (by decide) trivial (x_move rfl ((hb.old 8 (by decide +kernel)).trans h8)) rfl⟩
    refine ⟨?_, ?_⟩
    · intro a' w' k' hb hf hs hc hq hg hd
      exact ⟨wantedT (d := 86) rfl rfl (by rw [hb.size, hsz]; omega) (hd 31 (by kernel_rfl) 86 rfl), k_call 17 _ (by decide) (e_call1 rfl rfl (hd 32 (by kernel_rfl) 87 rfl) (fun _ _ => by simp [go_sem])) ((num_any _ _).mono (by rintro e w9 ⟨rfl, rfl⟩; exact ⟨_, rfl, rfl, Fr.refl _ _, trivial⟩))⟩
    refine ⟨?_, ?_⟩
    · intro a' w' k' hb hf hs hc hq hg hd
      exact ⟨wantedT (d := 86) rfl rfl (by rw [hb.size, hsz]; omega) (hd 31 (by kernel_rfl) 86 rfl), k_val (.int .i64 D) (by decide) trivial (x_move rfl ((hb.old 10 (by decide +kernel)).trans h10)) rfl⟩
    refine ⟨?_, ?_⟩
    · intro a' w' k' hb hf hs hc hq hg hd
      exact ⟨wantedT (d := 86) rfl rfl (by rw [hb.size, hsz]; omega) (hd 31 (by kernel_rfl) 86 rfl), k_val (.bool true) (by decide) trivial (x_eqI Try.underlying3 rfl (hd 33 (by kernel_rfl) 88 rfl) (hd 34 (by kernel_rfl) 89 rfl) (by first | rfl | decide | simp)) rfl⟩
    refine ⟨?_, ?_⟩
    · intro a' w' k' hb hf hs hc hq hg hd
      exact ⟨wantedN rfl, k_val (.bool true) (by decide) trivial (x_pickT rfl (hd 31 (by kernel_rfl) 86 rfl) (hd 35 (by kernel_rfl) 90 rfl)) rfl⟩
    refine ⟨?_, ?_⟩
    · intro a' w' k' hb hf hs hc hq hg hd
      exact ⟨wantedN rfl, k_val (.bool true) (by decide) trivial (x_move rfl (hd 36 (by kernel_rfl) 91 rfl)) rfl⟩
    refine ⟨?_, ?_⟩
    · intro a' w' k' hb hf hs hc hq hg hd
      exact ⟨wantedT (d := 92) rfl rfl (by rw [hb.size, hsz]; omega) (hd 37 (by kernel_rfl) 92 rfl), k_call 12 _ (by decide) (e_call0 rfl rfl (fun _ _ => by simp [go_sem])) ((live_any _).mono (by rintro e w9 ⟨rfl, f9⟩; exact ⟨_, rfl, rfl, f9, trivial⟩))⟩
    refine ⟨?_, ?_⟩
    · intro a' w' k' hb hf hs hc hq hg hd
      exact ⟨wantedN rfl, k_val (.bool true) (by decide) trivial (x_pickT rfl (hd 37 (by kernel_rfl) 92 rfl) (hd 38 (by kernel_rfl) 93 rfl)) rfl⟩
    refine ⟨?_, ?_⟩
    · intro a' w' k' hb hf hs hc hq hg hd
      exact ⟨wantedN rfl, k_val (.bool true) (by decide) trivial (x_assign rfl (hd 39 (by kernel_rfl) 94 rfl)) rfl⟩
    exact trivial
  case done =>
    intro a' w' hb hf hs hall
    have hres : a'.tmps.getD 2 undef = .bool true := hall 40 (by decide) 2 rfl
    have hdf' : a'.defers = [] := by rw [hb.defers]; exact hdf
    have hF : Fr (fun _ => False) w w' := (unhide F5).trans hf (fun _ _ h => h)
    have hr : bodyPost Try.prog Try.f6 (fun e w' => e = Ending.returned (Value.bool true) ∧ Fr (fun x => False) w w') .ret a' w' :=
      bodyPost_ret (v := .bool true) (by
        have h6' : a'.tmps[2]?.getD undef = .bool true := by simpa using hres
        simp [results, Try.results6, go_sem, h6']) hdf' ⟨rfl, hF⟩
    clear hall hb
    apply_assumption
    exact wp_ret hr
end Go.Proofs.Ytbenailemoefhaa
