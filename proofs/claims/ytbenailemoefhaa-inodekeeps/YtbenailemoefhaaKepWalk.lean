/-
  InodeKeeps, walked.
-/
import Derived.Test.YtbenailemoefhaaKp
namespace Go.Proofs.Ytbenailemoefhaa
open Go.RowKit Go.Lib
set_option linter.unusedVariables false
set_option linter.unusedSimpArgs false

attribute [local go_sem ↓] Go.wp_at_zero Go.wp_at_succ

set_option maxRecDepth 100000 in
set_option maxHeartbeats 8000000 in
theorem keeps_any (z : Cn) (s : Sa) (h0 : 0 ≤ z.x.l ∧ z.x.l < 4294967296) (h1 : -9223372036854775808 ≤ z.b ∧ z.b < 9223372036854775808) (h2 : 0 ≤ s.m ∧ s.m < 4294967296) (w : World) : Calls Try.prog 10 #[z.v, s.v] w fun e w' => e = .returned (.bool true) ∧ Fr (fun _ => False) w w' := by
  have HB := hide (And.intro h0 (And.intro h1 h2))
  clear h0 h1 h2
  go_enter Try.func10, Try.ntmps10
  go_upto_region 1 with fail
  refine wp_world ?_
  intro W hW
  have HX : Hid (W.heap[w.heap.size]? = some (.cells z.cs 59 (0, 0))) := hide (by rw [hW]; exact (Below.heap_alloc (w.alloc (.cells z.cs 59)) (.cells s.cs 52) _ (lt_of_heap (heap_alloc_new w (.cells z.cs 59)))).trans (heap_alloc_new w (.cells z.cs 59)))
  have HS : Hid (W.heap[w.heap.size + 1]? = some (.cells s.cs 52 (0, 0))) := hide (by rw [hW]; have h := heap_alloc_new (w.alloc (.cells z.cs 59)) (.cells s.cs 52); simpa [go_sem] using h)
  have F0 : Hid (Fr (fun _ => False) w W) := hide (by rw [hW]; exact (((Fr.refl (fun _ => False) w).alloc (.cells z.cs 59)).alloc (.cells s.cs 52)))
  clear hW
  go_wp2_with (first | (refine wl_loadC _ rfl rfl _ rfl (unhide HX) ?_))
  refine (long_any z.x _).mono ?_
  rintro e w1 ⟨rfl, f1⟩
  have HX := hide (((f1).block _ (lt_of_heap (unhide HX)) id).trans (unhide HX))
  have HS := hide (((f1).block _ (lt_of_heap (unhide HS)) id).trans (unhide HS))
  have F1 := hide ((unhide F0).trans f1 (fun _ _ e => e))
  clear f1 F0
  generalize decide (2000 < (z.x.t.size : Int)) = lo
  cases lo
  case true =>
    go_wp2_with fail
    refine (live_any _).mono ?_
    rintro e wl ⟨rfl, fl⟩
    go_wp2_with fail
    go_ret
    exact ⟨rfl, (unhide F1).trans fl (fun _ _ e => e)⟩
  go_wp2_with (first | (refine wl_loadC _ rfl rfl _ rfl (unhide HX) ?_))
  refine (check_any z.x _).mono ?_
  rintro e w2 ⟨rfl, f2⟩
  have HX := hide (((f2).block _ (lt_of_heap (unhide HX)) id).trans (unhide HX))
  have HS := hide (((f2).block _ (lt_of_heap (unhide HS)) id).trans (unhide HS))
  have F2 := hide ((unhide F1).trans f2 (fun _ _ e => e))
  clear f2 F1
  by_cases hck : ck z.x = 0
  rotate_left
  · have bck : (ck z.x != 0) = true := by simpa using hck
    generalize ck z.x = c at *
    go_wp2_with fail
    refine (num_any _ _).mono ?_
    rintro e w' ⟨rfl, rfl⟩
    go_wp2_with fail
    refine (live_any _).mono ?_
    rintro e wl ⟨rfl, fl⟩
    go_wp2_with fail
    go_ret
    exact ⟨rfl, (unhide F2).trans fl (fun _ _ e => e)⟩
  rw [hck]
  have HK := hide hck
  clear hck
  go_wp2_with fail
  refine (num_any _ _).mono ?_
  rintro e wn ⟨rfl, hwn⟩
  obtain rfl : w2 = wn := (by first | exact hwn | exact hwn.symm)
  have c14 : w2.cell? ⟨w.heap.size, 14, none⟩ = some (.int .i64 z.a) := by rw [cell_of_heap (unhide HX)]; rfl
  have c15 : w2.cell? ⟨w.heap.size, 15, none⟩ = some (.int .i64 z.b) := by rw [cell_of_heap (unhide HX)]; rfl
  have c16 : w2.cell? ⟨w.heap.size, 16, none⟩ = some (.int .u64 z.c) := by rw [cell_of_heap (unhide HX)]; rfl
  have c17 : w2.cell? ⟨w.heap.size, 17, none⟩ = some (.int .u64 z.d) := by rw [cell_of_heap (unhide HX)]; rfl
  have c0 : w2.cell? ⟨w.heap.size, 0, none⟩ = some (.int .u64 z.x.n) := by rw [cell_of_heap (unhide HX)]; rfl
  have c1 : w2.cell? ⟨w.heap.size, 1, none⟩ = some (.int .u32 z.x.g) := by rw [cell_of_heap (unhide HX)]; rfl
  have c2 : w2.cell? ⟨w.heap.size, 2, none⟩ = some (.int .i64 z.x.k) := by rw [cell_of_heap (unhide HX)]; rfl
  have d1 : w2.cell? ⟨w.heap.size + 1, 1, none⟩ = some (.int .u32 s.m) := by rw [cell_of_heap (unhide HS)]; rfl
  have d2 : w2.cell? ⟨w.heap.size + 1, 2, none⟩ = some (.int .u32 s.u) := by rw [cell_of_heap (unhide HS)]; rfl
  have d3 : w2.cell? ⟨w.heap.size + 1, 3, none⟩ = some (.int .u32 s.d) := by rw [cell_of_heap (unhide HS)]; rfl
  go_wp2_with (first | (refine wl_loadC _ rfl rfl _ rfl (unhide HX) ?_))
  refine (touch_any z.x z.a z.d _).mono ?_
  rintro e w3 ⟨rfl, f3⟩
  obtain ⟨u, hu, HU⟩ : ∃ u, tch z.x (tb z.a 1) (tb z.a 2) (tb z.a 4) z.d = u ∧ Hid (ck u = 0 ∧ eqB z.x (apX2 z.x u) = true) := ⟨_, rfl, hide (k_tch z.x _ _ _ _ (unhide HK))⟩
  rw [hu]
  clear hu
  clear c14 c15 c16 c17 c0 c1 c2 d1 d2 d3
  have HX := hide (((f3).block _ (lt_of_heap (unhide HX)) id).trans (unhide HX))
  have HS := hide (((f3).block _ (lt_of_heap (unhide HS)) id).trans (unhide HS))
  have F3 := hide ((unhide F2).trans f3 (fun _ _ e => e))
  clear f3 F2
  go_upto_region 4 with (first | (apply wl_store25 _ _ rfl rfl _ rfl _ rfl; (case hr => simp [go_sem]); (case hw => (simp [go_sem]; try exact rfl))))
  have HX := hide ((Below.heap_alloc w3 (.cells u.cs 25) _ (lt_of_heap (unhide HX))).trans (unhide HX))
  have HS := hide ((Below.heap_alloc w3 (.cells u.cs 25) _ (lt_of_heap (unhide HS))).trans (unhide HS))
  have HT := hide (heap_alloc_new w3 (.cells u.cs 25))
  have F3 := hide ((unhide F3).alloc (.cells u.cs 25))
  refine wp_world ?_
  intro W3 hW3
  rw [← hW3] at HX HS HT F3
  clear hW3
  have c14 : W3.cell? ⟨w.heap.size, 14, none⟩ = some (.int .i64 z.a) := by rw [cell_of_heap (unhide HX)]; rfl
  have c15 : W3.cell? ⟨w.heap.size, 15, none⟩ = some (.int .i64 z.b) := by rw [cell_of_heap (unhide HX)]; rfl
  have c16 : W3.cell? ⟨w.heap.size, 16, none⟩ = some (.int .u64 z.c) := by rw [cell_of_heap (unhide HX)]; rfl
  have c17 : W3.cell? ⟨w.heap.size, 17, none⟩ = some (.int .u64 z.d) := by rw [cell_of_heap (unhide HX)]; rfl
  have c0 : W3.cell? ⟨w.heap.size, 0, none⟩ = some (.int .u64 z.x.n) := by rw [cell_of_heap (unhide HX)]; rfl
  have c1 : W3.cell? ⟨w.heap.size, 1, none⟩ = some (.int .u32 z.x.g) := by rw [cell_of_heap (unhide HX)]; rfl
  have c2 : W3.cell? ⟨w.heap.size, 2, none⟩ = some (.int .i64 z.x.k) := by rw [cell_of_heap (unhide HX)]; rfl
  have d1 : W3.cell? ⟨w.heap.size + 1, 1, none⟩ = some (.int .u32 s.m) := by rw [cell_of_heap (unhide HS)]; rfl
  have d2 : W3.cell? ⟨w.heap.size + 1, 2, none⟩ = some (.int .u32 s.u) := by rw [cell_of_heap (unhide HS)]; rfl
  have d3 : W3.cell? ⟨w.heap.size + 1, 3, none⟩ = some (.int .u32 s.d) := by rw [cell_of_heap (unhide HS)]; rfl
  go_wp2_with (first | (refine wl_loadC _ rfl rfl _ rfl (unhide HX) ?_) | (apply wl_load52 _ rfl rfl _ rfl; (case hr => exact rowN_s2 (unhide HS)); (case hc => exact rowD_s2 (unhide HS))))
  refine (apply_any z.x s z.d _).mono ?_
  rintro e w4 ⟨rfl, f4⟩
  clear c14 c15 c16 c17 c0 c1 c2 d1 d2 d3
  have HX := hide (((f4).block _ (lt_of_heap (unhide HX)) id).trans (unhide HX))
  have HS := hide (((f4).block _ (lt_of_heap (unhide HS)) id).trans (unhide HS))
  have HT := hide (((f4).block _ (lt_of_heap (unhide HT)) id).trans (unhide HT))
  have F4 := hide ((unhide F3).trans f4 (fun _ _ e => e))
  clear f4 F3
  obtain ⟨y, cb, E, HR, HE⟩ : ∃ (y : In) (cb : Bool) (E : Int), ResP (apX z.x s z.d) (apS z.x s) (apE z.x s) = .tuple #[y.v, .bool cb, .int .i64 E] ∧ Hid (E = 0 → ck y = 0 ∧ eqB z.x (apX2 z.x (wiX y z.x)) = true ∧ (s.h = 0 → y = z.x)) := ⟨_, _, _, rfl, hide (fun h => by rw [if_pos h]; exact k_ap z.x s z.d (unhide HK) h)⟩
  rw [HR]
  clear HR
  go_upto_region 5 with (first | (apply wl_store25 _ _ rfl rfl _ rfl _ rfl; (case hr => simp [go_sem]); (case hw => (simp [go_sem]; try exact rfl))))
  have HX := hide ((Below.heap_alloc w4 (.cells y.cs 25) _ (lt_of_heap (unhide HX))).trans (unhide HX))
  have HS := hide ((Below.heap_alloc w4 (.cells y.cs 25) _ (lt_of_heap (unhide HS))).trans (unhide HS))
  have HT := hide ((Below.heap_alloc w4 (.cells y.cs 25) _ (lt_of_heap (unhide HT))).trans (unhide HT))
  have HY := hide (heap_alloc_new w4 (.cells y.cs 25))
  have F4 := hide ((unhide F4).alloc (.cells y.cs 25))
  refine wp_world ?_
  intro W4 hW4
  rw [← hW4] at HX HS HT HY F4
  clear hW4
  have c14 : W4.cell? ⟨w.heap.size, 14, none⟩ = some (.int .i64 z.a) := by rw [cell_of_heap (unhide HX)]; rfl
  have c15 : W4.cell? ⟨w.heap.size, 15, none⟩ = some (.int .i64 z.b) := by rw [cell_of_heap (unhide HX)]; rfl
  have c16 : W4.cell? ⟨w.heap.size, 16, none⟩ = some (.int .u64 z.c) := by rw [cell_of_heap (unhide HX)]; rfl
  have c17 : W4.cell? ⟨w.heap.size, 17, none⟩ = some (.int .u64 z.d) := by rw [cell_of_heap (unhide HX)]; rfl
  have c0 : W4.cell? ⟨w.heap.size, 0, none⟩ = some (.int .u64 z.x.n) := by rw [cell_of_heap (unhide HX)]; rfl
  have c1 : W4.cell? ⟨w.heap.size, 1, none⟩ = some (.int .u32 z.x.g) := by rw [cell_of_heap (unhide HX)]; rfl
  have c2 : W4.cell? ⟨w.heap.size, 2, none⟩ = some (.int .i64 z.x.k) := by rw [cell_of_heap (unhide HX)]; rfl
  have d1 : W4.cell? ⟨w.heap.size + 1, 1, none⟩ = some (.int .u32 s.m) := by rw [cell_of_heap (unhide HS)]; rfl
  have d2 : W4.cell? ⟨w.heap.size + 1, 2, none⟩ = some (.int .u32 s.u) := by rw [cell_of_heap (unhide HS)]; rfl
  have d3 : W4.cell? ⟨w.heap.size + 1, 3, none⟩ = some (.int .u32 s.d) := by rw [cell_of_heap (unhide HS)]; rfl
  go_wp2_with (first | (refine wl_loadC _ rfl rfl _ rfl (unhide HX) ?_) | (apply wl_load52 _ rfl rfl _ rfl; (case hr => exact rowN_s2 (unhide HS)); (case hc => exact rowD_s2 (unhide HS))))
  refine (linked_any z.x z.b z.d _ (unhide HB).1.1 (unhide HB).1.2 (unhide HB).2.1.1 (by have := (unhide HB).2.1.2; omega)).mono ?_
  rintro e w5 ⟨rfl, f5⟩
  clear c14 c15 c16 c17 c0 c1 c2 d1 d2 d3
  have HX := hide (((f5).block _ (lt_of_heap (unhide HX)) id).trans (unhide HX))
  have HS := hide (((f5).block _ (lt_of_heap (unhide HS)) id).trans (unhide HS))
  have HT := hide (((f5).block _ (lt_of_heap (unhide HT)) id).trans (unhide HT))
  have HY := hide (((f5).block _ (lt_of_heap (unhide HY)) id).trans (unhide HY))
  have F5 := hide ((unhide F4).trans f5 (fun _ _ e => e))
  clear f5 F4
  obtain ⟨l, EL, HR, HL⟩ : ∃ (l : In) (EL : Int), Res (lkX z.x z.b z.d) (lkE z.x z.b) = .tuple #[l.v, .int .i64 EL] ∧ Hid (EL = 0 → ck l = 0 ∧ l.s = z.x.s ∧ l.m = z.x.m ∧ eqB z.x (apX2 z.x (wiX l z.x)) = true) := ⟨_, _, rfl, hide (fun h => by rw [if_pos h]; exact k_lk z.x z.b z.d (unhide HK) h)⟩
  rw [HR]
  clear HR
  go_upto_region 6 with (first | (apply wl_store25 _ _ rfl rfl _ rfl _ rfl; (case hr => simp [go_sem]); (case hw => (simp [go_sem]; try exact rfl))))
  have HX := hide ((Below.heap_alloc w5 (.cells l.cs 25) _ (lt_of_heap (unhide HX))).trans (unhide HX))
  have HS := hide ((Below.heap_alloc w5 (.cells l.cs 25) _ (lt_of_heap (unhide HS))).trans (unhide HS))
  have HT := hide ((Below.heap_alloc w5 (.cells l.cs 25) _ (lt_of_heap (unhide HT))).trans (unhide HT))
  have HY := hide ((Below.heap_alloc w5 (.cells l.cs 25) _ (lt_of_heap (unhide HY))).trans (unhide HY))
  have HLB := hide (heap_alloc_new w5 (.cells l.cs 25))
  have F5 := hide ((unhide F5).alloc (.cells l.cs 25))
  refine wp_world ?_
  intro W5 hW5
  rw [← hW5] at HX HS HT HY HLB F5
  clear hW5
  have c14 : W5.cell? ⟨w.heap.size, 14, none⟩ = some (.int .i64 z.a) := by rw [cell_of_heap (unhide HX)]; rfl
  have c15 : W5.cell? ⟨w.heap.size, 15, none⟩ = some (.int .i64 z.b) := by rw [cell_of_heap (unhide HX)]; rfl
  have c16 : W5.cell? ⟨w.heap.size, 16, none⟩ = some (.int .u64 z.c) := by rw [cell_of_heap (unhide HX)]; rfl
  have c17 : W5.cell? ⟨w.heap.size, 17, none⟩ = some (.int .u64 z.d) := by rw [cell_of_heap (unhide HX)]; rfl
  have c0 : W5.cell? ⟨w.heap.size, 0, none⟩ = some (.int .u64 z.x.n) := by rw [cell_of_heap (unhide HX)]; rfl
  have c1 : W5.cell? ⟨w.heap.size, 1, none⟩ = some (.int .u32 z.x.g) := by rw [cell_of_heap (unhide HX)]; rfl
  have c2 : W5.cell? ⟨w.heap.size, 2, none⟩ = some (.int .i64 z.x.k) := by rw [cell_of_heap (unhide HX)]; rfl
  have d1 : W5.cell? ⟨w.heap.size + 1, 1, none⟩ = some (.int .u32 s.m) := by rw [cell_of_heap (unhide HS)]; rfl
  have d2 : W5.cell? ⟨w.heap.size + 1, 2, none⟩ = some (.int .u32 s.u) := by rw [cell_of_heap (unhide HS)]; rfl
  have d3 : W5.cell? ⟨w.heap.size + 1, 3, none⟩ = some (.int .u32 s.d) := by rw [cell_of_heap (unhide HS)]; rfl
  go_wp2_with (first | (refine wl_loadC _ rfl rfl _ rfl (unhide HX) ?_) | (apply wl_load52 _ rfl rfl _ rfl; (case hr => exact rowN_s2 (unhide HS)); (case hc => exact rowD_s2 (unhide HS))))
  refine (sized_any z.x z.c z.d _).mono ?_
  rintro e w6 ⟨rfl, f6⟩
  clear c14 c15 c16 c17 c0 c1 c2 d1 d2 d3
  have HX := hide (((f6).block _ (lt_of_heap (unhide HX)) id).trans (unhide HX))
  have HS := hide (((f6).block _ (lt_of_heap (unhide HS)) id).trans (unhide HS))
  have HT := hide (((f6).block _ (lt_of_heap (unhide HT)) id).trans (unhide HT))
  have HY := hide (((f6).block _ (lt_of_heap (unhide HY)) id).trans (unhide HY))
  have HLB := hide (((f6).block _ (lt_of_heap (unhide HLB)) id).trans (unhide HLB))
  have F6 := hide ((unhide F5).trans f6 (fun _ _ e => e))
  clear f6 F5
  obtain ⟨q, EQ, HR, HQ⟩ : ∃ (q : In) (EQ : Int), Res { z.x with s := z.c, tm := z.d, tc := z.d } (szE z.x z.c) = .tuple #[q.v, .int .i64 EQ] ∧ Hid (EQ = 0 → ck q = 0 ∧ q.l = z.x.l ∧ q.ta = z.x.ta ∧ eqB z.x (apX2 z.x (wiX q z.x)) = true) := ⟨_, _, rfl, hide (fun h => by rw [if_pos h]; have h9 := k_sz z.x z.c z.d (unhide HK) h; exact ⟨h9.1, rfl, rfl, h9.2⟩)⟩
  rw [HR]
  clear HR
  go_upto_region 7 with (first | (apply wl_store25 _ _ rfl rfl _ rfl _ rfl; (case hr => simp [go_sem]); (case hw => (simp [go_sem]; try exact rfl))))
  have HX := hide ((Below.heap_alloc w6 (.cells q.cs 25) _ (lt_of_heap (unhide HX))).trans (unhide HX))
  have HS := hide ((Below.heap_alloc w6 (.cells q.cs 25) _ (lt_of_heap (unhide HS))).trans (unhide HS))
  have HT := hide ((Below.heap_alloc w6 (.cells q.cs 25) _ (lt_of_heap (unhide HT))).trans (unhide HT))
  have HY := hide ((Below.heap_alloc w6 (.cells q.cs 25) _ (lt_of_heap (unhide HY))).trans (unhide HY))
  have HLB := hide ((Below.heap_alloc w6 (.cells q.cs 25) _ (lt_of_heap (unhide HLB))).trans (unhide HLB))
  have HQB := hide (heap_alloc_new w6 (.cells q.cs 25))
  have F6 := hide ((unhide F6).alloc (.cells q.cs 25))
  refine wp_world ?_
  intro W6 hW6
  rw [← hW6] at HX HS HT HY HLB HQB F6
  clear hW6
  have c14 : W6.cell? ⟨w.heap.size, 14, none⟩ = some (.int .i64 z.a) := by rw [cell_of_heap (unhide HX)]; rfl
  have c15 : W6.cell? ⟨w.heap.size, 15, none⟩ = some (.int .i64 z.b) := by rw [cell_of_heap (unhide HX)]; rfl
  have c16 : W6.cell? ⟨w.heap.size, 16, none⟩ = some (.int .u64 z.c) := by rw [cell_of_heap (unhide HX)]; rfl
  have c17 : W6.cell? ⟨w.heap.size, 17, none⟩ = some (.int .u64 z.d) := by rw [cell_of_heap (unhide HX)]; rfl
  have c0 : W6.cell? ⟨w.heap.size, 0, none⟩ = some (.int .u64 z.x.n) := by rw [cell_of_heap (unhide HX)]; rfl
  have c1 : W6.cell? ⟨w.heap.size, 1, none⟩ = some (.int .u32 z.x.g) := by rw [cell_of_heap (unhide HX)]; rfl
  have c2 : W6.cell? ⟨w.heap.size, 2, none⟩ = some (.int .i64 z.x.k) := by rw [cell_of_heap (unhide HX)]; rfl
  have d1 : W6.cell? ⟨w.heap.size + 1, 1, none⟩ = some (.int .u32 s.m) := by rw [cell_of_heap (unhide HS)]; rfl
  have d2 : W6.cell? ⟨w.heap.size + 1, 2, none⟩ = some (.int .u32 s.u) := by rw [cell_of_heap (unhide HS)]; rfl
  have d3 : W6.cell? ⟨w.heap.size + 1, 3, none⟩ = some (.int .u32 s.d) := by rw [cell_of_heap (unhide HS)]; rfl
  go_wp2_with (first | (refine wl_loadC _ rfl rfl _ rfl (unhide HX) ?_) | (apply wl_load52 _ rfl rfl _ rfl; (case hr => exact rowN_s2 (unhide HS)); (case hc => exact rowD_s2 (unhide HS))))
  refine (new_any z.x.n z.x.g z.x.k s.m s.u s.d z.d _ (unhide HB).2.2.1 (unhide HB).2.2.2).mono ?_
  rintro e w7 ⟨rfl, f7⟩
  clear c14 c15 c16 c17 c0 c1 c2 d1 d2 d3
  have HX := hide (((f7).block _ (lt_of_heap (unhide HX)) id).trans (unhide HX))
  have HS := hide (((f7).block _ (lt_of_heap (unhide HS)) id).trans (unhide HS))
  have HT := hide (((f7).block _ (lt_of_heap (unhide HT)) id).trans (unhide HT))
  have HY := hide (((f7).block _ (lt_of_heap (unhide HY)) id).trans (unhide HY))
  have HLB := hide (((f7).block _ (lt_of_heap (unhide HLB)) id).trans (unhide HLB))
  have HQB := hide (((f7).block _ (lt_of_heap (unhide HQB)) id).trans (unhide HQB))
  have F7 := hide ((unhide F6).trans f7 (fun _ _ e => e))
  clear f7 F6
  obtain ⟨nn, EN, HR, HN⟩ : ∃ (nn : In) (EN : Int), Res (newX z.x.n z.x.g z.x.k s.m s.u s.d z.d) (newE z.x.n z.x.g z.x.k) = .tuple #[nn.v, .int .i64 EN] ∧ Hid (EN = 0 → ck nn = 0) := ⟨_, _, rfl, hide (fun h => by rw [if_pos h]; exact kn_new _ _ _ _ _ _ _ h)⟩
  rw [HR]
  clear HR
  go_upto_region 8 with (first | (apply wl_store25 _ _ rfl rfl _ rfl _ rfl; (case hr => simp [go_sem]); (case hw => (simp [go_sem]; try exact rfl))))
  have HX := hide ((Below.heap_alloc w7 (.cells nn.cs 25) _ (lt_of_heap (unhide HX))).trans (unhide HX))
  have HS := hide ((Below.heap_alloc w7 (.cells nn.cs 25) _ (lt_of_heap (unhide HS))).trans (unhide HS))
  have HT := hide ((Below.heap_alloc w7 (.cells nn.cs 25) _ (lt_of_heap (unhide HT))).trans (unhide HT))
  have HY := hide ((Below.heap_alloc w7 (.cells nn.cs 25) _ (lt_of_heap (unhide HY))).trans (unhide HY))
  have HLB := hide ((Below.heap_alloc w7 (.cells nn.cs 25) _ (lt_of_heap (unhide HLB))).trans (unhide HLB))
  have HQB := hide ((Below.heap_alloc w7 (.cells nn.cs 25) _ (lt_of_heap (unhide HQB))).trans (unhide HQB))
  have HNB := hide (heap_alloc_new w7 (.cells nn.cs 25))
  have F7 := hide ((unhide F7).alloc (.cells nn.cs 25))
  refine wp_world ?_
  intro W7 hW7
  rw [← hW7] at HX HS HT HY HLB HQB HNB F7
  clear hW7
  go_wp2_with (first | (refine wl_loadC _ rfl rfl _ rfl (unhide HX) ?_) | (apply wl_load25 _ rfl rfl _ rfl; (case hr => exact rowN_h (unhide HT)); (case hc => exact rowD_h (unhide HT))))
  refine (check_any u _).mono ?_
  rintro e w8 ⟨rfl, f8⟩
  rw [(unhide HU).1]
  have HX := hide (((f8).block _ (lt_of_heap (unhide HX)) id).trans (unhide HX))
  have HS := hide (((f8).block _ (lt_of_heap (unhide HS)) id).trans (unhide HS))
  have HT := hide (((f8).block _ (lt_of_heap (unhide HT)) id).trans (unhide HT))
  have HY := hide (((f8).block _ (lt_of_heap (unhide HY)) id).trans (unhide HY))
  have HLB := hide (((f8).block _ (lt_of_heap (unhide HLB)) id).trans (unhide HLB))
  have HQB := hide (((f8).block _ (lt_of_heap (unhide HQB)) id).trans (unhide HQB))
  have HNB := hide (((f8).block _ (lt_of_heap (unhide HNB)) id).trans (unhide HNB))
  have F8 := hide ((unhide F7).trans f8 (fun _ _ e => e))
  clear f8 F7
  go_wp2_with fail
  refine (num_any _ _).mono ?_
  rintro e w' ⟨rfl, rfl⟩
  go_wp2_with (first | (refine wl_loadC _ rfl rfl _ rfl (unhide HX) ?_) | (apply wl_load25 _ rfl rfl _ rfl; (case hr => exact rowN_h (unhide HT)); (case hc => exact rowD_h (unhide HT))))
  refine (apart_any z.x u _).mono ?_
  rintro e w9 ⟨rfl, f9⟩
  rw [(unhide HU).2]
  have HX := hide (((f9).block _ (lt_of_heap (unhide HX)) id).trans (unhide HX))
  have HS := hide (((f9).block _ (lt_of_heap (unhide HS)) id).trans (unhide HS))
  have HT := hide (((f9).block _ (lt_of_heap (unhide HT)) id).trans (unhide HT))
  have HY := hide (((f9).block _ (lt_of_heap (unhide HY)) id).trans (unhide HY))
  have HLB := hide (((f9).block _ (lt_of_heap (unhide HLB)) id).trans (unhide HLB))
  have HQB := hide (((f9).block _ (lt_of_heap (unhide HQB)) id).trans (unhide HQB))
  have HNB := hide (((f9).block _ (lt_of_heap (unhide HNB)) id).trans (unhide HNB))
  have F9 := hide ((unhide F8).trans f9 (fun _ _ e => e))
  clear f9 F8 HU HT
  go_wp2_with fail
  refine wp_via (fun a9 w99 => a9.tmps.size = 207 ∧ a9.defers = [] ∧ a9.tmps.getD 2 undef = .pointer (some ⟨w.heap.size, 0, none⟩) ∧ a9.tmps.getD 9 undef = .pointer (some ⟨w5.heap.size, 0, none⟩) ∧ a9.tmps.getD 10 undef = .int .i64 EL ∧ a9.tmps.getD 11 undef = .pointer (some ⟨w6.heap.size, 0, none⟩) ∧ a9.tmps.getD 12 undef = .int .i64 EQ ∧ a9.tmps.getD 13 undef = .pointer (some ⟨w7.heap.size, 0, none⟩) ∧ a9.tmps.getD 14 undef = .int .i64 EN ∧ a9.tmps.getD 124 undef = .bool false ∧ Fr (fun _ => False) w9 w99) ?_ ?_
  · refine wp_nameK ?_
    intro a0 hA
    have h2 : a0.tmps.getD 2 undef = .pointer (some ⟨w.heap.size, 0, none⟩) := by rw [hA]; rfl
    have h3 : a0.tmps.getD 3 undef = .pointer (some ⟨(w.heap.size + 1), 0, none⟩) := by rw [hA]; rfl
    have h6 : a0.tmps.getD 6 undef = .pointer (some ⟨w4.heap.size, 0, none⟩) := by rw [hA]; rfl
    have h8 : a0.tmps.getD 8 undef = .int .i64 E := by rw [hA]; rfl
    have h9 : a0.tmps.getD 9 undef = .pointer (some ⟨w5.heap.size, 0, none⟩) := by rw [hA]; rfl
    have h10 : a0.tmps.getD 10 undef = .int .i64 EL := by rw [hA]; rfl
    have h11 : a0.tmps.getD 11 undef = .pointer (some ⟨w6.heap.size, 0, none⟩) := by rw [hA]; rfl
    have h12 : a0.tmps.getD 12 undef = .int .i64 EQ := by rw [hA]; rfl
    have h13 : a0.tmps.getD 13 undef = .pointer (some ⟨w7.heap.size, 0, none⟩) := by rw [hA]; rfl
    have h14 : a0.tmps.getD 14 undef = .int .i64 EN := by rw [hA]; rfl
    have hsz : a0.tmps.size = 207 := by rw [hA]; rfl
    have hdf : a0.defers = [] := by rw [hA]
    clear hA
    have hc3 : (E = 0 ∧ s.h = 0) ∨ (E = 0 ∧ s.h ≠ 0) ∨ E ≠ 0 := by omega
    rcases hc3 with ⟨hE, hs0⟩ | ⟨hE, hs0⟩ | hE
    · have bE : (E == 0) = true := by simpa using hE
      obtain ⟨hck9, hap9, hy9⟩ := unhide HE hE
      have bsh : (s.h == 0) = true := by simpa using hs0
      obtain rfl := hy9 hs0
      refine wp_region_kinds3 (fun _ => False) (by kernel_rfl) (by kernel_rfl) (by decide +kernel) (by rw [hsz]; decide +kernel) [.eq (.int .i64 E), .eq (.int .i64 E), .eq (.bool true), .eq (.bool true), .eq (z.x.v), .eq (.int .i64 0), .eq (.int .i64 0), .eq (.bool false), .eq (.bool false), .eq (.pointer (some ⟨w.heap.size, 0 + 0, none⟩)), .eq (z.x.v), .eq (z.x.v), .eq (.pointer (some ⟨w.heap.size, 0 + 0, none⟩)), .eq (z.x.v), .eq ((wiX z.x z.x).v), .eq (.bool true), .eq (.bool false), .eq (.bool false), .eq (.bool false), .eq (.pointer (some ⟨(w.heap.size + 1), 0 + 0, none⟩)), .eq (.int .i64 s.h), .eq (.bool true), .eq (.bool true), .eq (z.x.v), .eq (.pointer (some ⟨w.heap.size, 0 + 0, none⟩)), .eq (z.x.v), .eq (.bool false), .eq (.bool false), .eq (.bool false), .eq (.bool false)] [] (by decide) (by decide) (chain_paths _ [] (by kernel_rfl)) (fun _ _ => True) trivial ?steps ?done
      case steps =>
        refine ⟨?_, ?_⟩
        · intro a' w' k' hb hf hs hc hq hg hd
          exact .inl ⟨wantedN rfl, k_val (.int .i64 E) (by decide) trivial (x_move rfl ((hb.old 8 (by decide +kernel)).trans h8)) rfl⟩
        refine ⟨?_, ?_⟩
        · intro a' w' k' hb hf hs hc hq hg hd
          exact .inl ⟨wantedN rfl, k_call 17 _ (by decide) (e_call1 rfl rfl (hd 0 (by kernel_rfl) 95 rfl) (fun _ _ => by simp [go_sem])) ((num_any _ _).mono (by rintro e w9 ⟨rfl, rfl⟩; exact ⟨_, rfl, rfl, Fr.refl _ _, trivial⟩))⟩
        refine ⟨?_, ?_⟩
        · intro a' w' k' hb hf hs hc hq hg hd
          exact .inl ⟨wantedN rfl, k_val (.bool true) (by decide) trivial (x_eqI Try.underlying3 rfl (hd 1 (by kernel_rfl) 96 rfl) rfl bE) rfl⟩
        refine ⟨?_, ?_⟩
        · intro a' w' k' hb hf hs hc hq hg hd
          exact .inl ⟨wantedN rfl, k_val (.bool true) (by decide) trivial (x_move rfl (hd 2 (by kernel_rfl) 97 rfl)) rfl⟩
        refine ⟨?_, ?_⟩
        · intro a' w' k' hb hf hs hc hq hg hd
          exact .inl ⟨wantedT (d := 98) rfl rfl (by rw [hb.size, hsz]; omega) (hd 3 (by kernel_rfl) 98 rfl), k_val (z.x.v) (by decide) trivial (x_load25 rfl ((hb.old 6 (by decide +kernel)).trans h6) (by rw [hf.block _ (lt_of_heap (unhide HY)) id]; exact unhide HY)) rfl⟩
        refine ⟨?_, ?_⟩
        · intro a' w' k' hb hf hs hc hq hg hd
          exact .inl ⟨wantedT (d := 98) rfl rfl (by rw [hb.size, hsz]; omega) (hd 3 (by kernel_rfl) 98 rfl), k_call 18 _ (by decide) (e_call1 rfl rfl (hd 4 (by kernel_rfl) 99 rfl) (fun _ _ => by simp [go_sem])) ((check_any z.x _).mono (by rintro e w9 ⟨rfl, f9⟩; exact ⟨_, rfl, by rw [hck9]; rfl, f9, trivial⟩))⟩
        refine ⟨?_, ?_⟩
        · intro a' w' k' hb hf hs hc hq hg hd
          exact .inl ⟨wantedT (d := 98) rfl rfl (by rw [hb.size, hsz]; omega) (hd 3 (by kernel_rfl) 98 rfl), k_call 17 _ (by decide) (e_call1 rfl rfl (hd 5 (by kernel_rfl) 100 rfl) (fun _ _ => by simp [go_sem])) ((num_any _ _).mono (by rintro e w9 ⟨rfl, rfl⟩; exact ⟨_, rfl, rfl, Fr.refl _ _, trivial⟩))⟩
        refine ⟨?_, ?_⟩
        · intro a' w' k' hb hf hs hc hq hg hd
          exact .inl ⟨wantedT (d := 98) rfl rfl (by rw [hb.size, hsz]; omega) (hd 3 (by kernel_rfl) 98 rfl), k_val (.bool false) (by decide) trivial (x_neI Try.underlying3 rfl (hd 6 (by kernel_rfl) 101 rfl) rfl rfl) rfl⟩
        refine ⟨?_, ?_⟩
        · intro a' w' k' hb hf hs hc hq hg hd
          exact .inl ⟨wantedT (d := 98) rfl rfl (by rw [hb.size, hsz]; omega) (hd 3 (by kernel_rfl) 98 rfl), k_val (.bool false) (by decide) trivial (x_move rfl (hd 7 (by kernel_rfl) 102 rfl)) rfl⟩
        refine ⟨?_, ?_⟩
        · intro a' w' k' hb hf hs hc hq hg hd
          exact .inl ⟨wantedF (d := 103) rfl rfl (by rw [hb.size, hsz]; omega) (hd 8 (by kernel_rfl) 103 rfl), k_val (.pointer (some ⟨w.heap.size, 0 + 0, none⟩)) (by decide) trivial (x_field (fa59_0 _ _) rfl ((hb.old 2 (by decide +kernel)).trans h2)) rfl⟩
        refine ⟨?_, ?_⟩
        · intro a' w' k' hb hf hs hc hq hg hd
          exact .inl ⟨wantedF (d := 103) rfl rfl (by rw [hb.size, hsz]; omega) (hd 8 (by kernel_rfl) 103 rfl), k_val (z.x.v) (by decide) trivial (x_loadC rfl (hd 9 (by kernel_rfl) 104 rfl) (by rw [hf.block _ (lt_of_heap (unhide HX)) id]; exact unhide HX)) rfl⟩
        refine ⟨?_, ?_⟩
        · intro a' w' k' hb hf hs hc hq hg hd
          exact .inl ⟨wantedF (d := 103) rfl rfl (by rw [hb.size, hsz]; omega) (hd 8 (by kernel_rfl) 103 rfl), k_val (z.x.v) (by decide) trivial (x_load25 rfl ((hb.old 6 (by decide +kernel)).trans h6) (by rw [hf.block _ (lt_of_heap (unhide HY)) id]; exact unhide HY)) rfl⟩
        refine ⟨?_, ?_⟩
        · intro a' w' k' hb hf hs hc hq hg hd
          exact .inl ⟨wantedF (d := 103) rfl rfl (by rw [hb.size, hsz]; omega) (hd 8 (by kernel_rfl) 103 rfl), k_val (.pointer (some ⟨w.heap.size, 0 + 0, none⟩)) (by decide) trivial (x_field (fa59_0 _ _) rfl ((hb.old 2 (by decide +kernel)).trans h2)) rfl⟩
        refine ⟨?_, ?_⟩
        · intro a' w' k' hb hf hs hc hq hg hd
          exact .inl ⟨wantedF (d := 103) rfl rfl (by rw [hb.size, hsz]; omega) (hd 8 (by kernel_rfl) 103 rfl), k_val (z.x.v) (by decide) trivial (x_loadC rfl (hd 12 (by kernel_rfl) 107 rfl) (by rw [hf.block _ (lt_of_heap (unhide HX)) id]; exact unhide HX)) rfl⟩
        refine ⟨?_, ?_⟩
        · intro a' w' k' hb hf hs hc hq hg hd
          exact .inl ⟨wantedF (d := 103) rfl rfl (by rw [hb.size, hsz]; omega) (hd 8 (by kernel_rfl) 103 rfl), k_call 39 _ (by decide) (e_call2 rfl rfl (hd 11 (by kernel_rfl) 106 rfl) (hd 13 (by kernel_rfl) 108 rfl) (fun _ _ => by simp [go_sem])) ((with_any _ _ _).mono (by rintro e w9 ⟨rfl, f9⟩; exact ⟨_, rfl, rfl, f9, trivial⟩))⟩
        refine ⟨?_, ?_⟩
        · intro a' w' k' hb hf hs hc hq hg hd
          exact .inl ⟨wantedF (d := 103) rfl rfl (by rw [hb.size, hsz]; omega) (hd 8 (by kernel_rfl) 103 rfl), k_call 38 _ (by decide) (e_call2 rfl rfl (hd 10 (by kernel_rfl) 105 rfl) (hd 14 (by kernel_rfl) 109 rfl) (fun _ _ => by simp [go_sem])) ((apart_any _ _ _).mono (by rintro e w9 ⟨rfl, f9⟩; exact ⟨_, rfl, by rw [hap9]; rfl, f9, trivial⟩))⟩
        refine ⟨?_, ?_⟩
        · intro a' w' k' hb hf hs hc hq hg hd
          exact .inl ⟨wantedF (d := 103) rfl rfl (by rw [hb.size, hsz]; omega) (hd 8 (by kernel_rfl) 103 rfl), k_val (.bool false) (by decide) trivial (x_not (b := true) rfl (hd 15 (by kernel_rfl) 110 rfl)) rfl⟩
        refine ⟨?_, ?_⟩
        · intro a' w' k' hb hf hs hc hq hg hd
          exact .inl ⟨wantedT (d := 98) rfl rfl (by rw [hb.size, hsz]; omega) (hd 3 (by kernel_rfl) 98 rfl), k_val (.bool false) (by decide) trivial (x_pickF rfl (hd 8 (by kernel_rfl) 103 rfl) (hd 16 (by kernel_rfl) 111 rfl)) rfl⟩
        refine ⟨?_, ?_⟩
        · intro a' w' k' hb hf hs hc hq hg hd
          exact .inl ⟨wantedT (d := 98) rfl rfl (by rw [hb.size, hsz]; omega) (hd 3 (by kernel_rfl) 98 rfl), k_val (.bool false) (by decide) trivial (x_move rfl (hd 17 (by kernel_rfl) 112 rfl)) rfl⟩
        refine ⟨?_, ?_⟩
        · intro a' w' k' hb hf hs hc hq hg hd
          exact .inl ⟨wantedF (d := 113) rfl rfl (by rw [hb.size, hsz]; omega) (hd 18 (by kernel_rfl) 113 rfl), k_val (.pointer (some ⟨(w.heap.size + 1), 0 + 0, none⟩)) (by decide) trivial (x_field (fa52_0 _ _) rfl ((hb.old 3 (by decide +kernel)).trans h3)) rfl⟩
        refine ⟨?_, ?_⟩
        · intro a' w' k' hb hf hs hc hq hg hd
          exact .inl ⟨wantedF (d := 113) rfl rfl (by rw [hb.size, hsz]; omega) (hd 18 (by kernel_rfl) 113 rfl), k_val (.int .i64 s.h) (by decide) trivial (x_load1 ld3 rfl (hd 19 (by kernel_rfl) 114 rfl) (by rw [cell_of_heap ((hf.block _ (lt_of_heap (unhide HS)) id).trans (unhide HS))]; rfl)) rfl⟩
        refine ⟨?_, ?_⟩
        · intro a' w' k' hb hf hs hc hq hg hd
          exact .inl ⟨wantedF (d := 113) rfl rfl (by rw [hb.size, hsz]; omega) (hd 18 (by kernel_rfl) 113 rfl), k_val (.bool true) (by decide) trivial (x_eqI Try.underlying3 rfl (hd 20 (by kernel_rfl) 115 rfl) rfl bsh) rfl⟩
        refine ⟨?_, ?_⟩
        · intro a' w' k' hb hf hs hc hq hg hd
          exact .inl ⟨wantedF (d := 113) rfl rfl (by rw [hb.size, hsz]; omega) (hd 18 (by kernel_rfl) 113 rfl), k_val (.bool true) (by decide) trivial (x_move rfl (hd 21 (by kernel_rfl) 116 rfl)) rfl⟩
        refine ⟨?_, ?_⟩
        · intro a' w' k' hb hf hs hc hq hg hd
          exact .inl ⟨wantedT (d := 117) rfl rfl (by rw [hb.size, hsz]; omega) (hd 22 (by kernel_rfl) 117 rfl), k_val (z.x.v) (by decide) trivial (x_load25 rfl ((hb.old 6 (by decide +kernel)).trans h6) (by rw [hf.block _ (lt_of_heap (unhide HY)) id]; exact unhide HY)) rfl⟩
        refine ⟨?_, ?_⟩
        · intro a' w' k' hb hf hs hc hq hg hd
          exact .inl ⟨wantedT (d := 117) rfl rfl (by rw [hb.size, hsz]; omega) (hd 22 (by kernel_rfl) 117 rfl), k_val (.pointer (some ⟨w.heap.size, 0 + 0, none⟩)) (by decide) trivial (x_field (fa59_0 _ _) rfl ((hb.old 2 (by decide +kernel)).trans h2)) rfl⟩
        refine ⟨?_, ?_⟩
        · intro a' w' k' hb hf hs hc hq hg hd
          exact .inl ⟨wantedT (d := 117) rfl rfl (by rw [hb.size, hsz]; omega) (hd 22 (by kernel_rfl) 117 rfl), k_val (z.x.v) (by decide) trivial (x_loadC rfl (hd 24 (by kernel_rfl) 119 rfl) (by rw [hf.block _ (lt_of_heap (unhide HX)) id]; exact unhide HX)) rfl⟩
        refine ⟨?_, ?_⟩
        · intro a' w' k' hb hf hs hc hq hg hd
          exact .inl ⟨wantedT (d := 117) rfl rfl (by rw [hb.size, hsz]; omega) (hd 22 (by kernel_rfl) 117 rfl), k_val (.bool false) (by decide) trivial (x_ne25 (z := z.x) rfl (hd 23 (by kernel_rfl) 118 rfl) (hd 25 (by kernel_rfl) 120 rfl)) rfl⟩
        refine ⟨?_, ?_⟩
        · intro a' w' k' hb hf hs hc hq hg hd
          exact .inl ⟨wantedF (d := 113) rfl rfl (by rw [hb.size, hsz]; omega) (hd 18 (by kernel_rfl) 113 rfl), k_val (.bool false) (by decide) trivial (x_pickT rfl (hd 22 (by kernel_rfl) 117 rfl) (hd 26 (by kernel_rfl) 121 rfl)) rfl⟩
        refine ⟨?_, ?_⟩
        · intro a' w' k' hb hf hs hc hq hg hd
          exact .inl ⟨wantedT (d := 98) rfl rfl (by rw [hb.size, hsz]; omega) (hd 3 (by kernel_rfl) 98 rfl), k_val (.bool false) (by decide) trivial (x_pickF rfl (hd 18 (by kernel_rfl) 113 rfl) (hd 27 (by kernel_rfl) 122 rfl)) rfl⟩
        refine ⟨?_, ?_⟩
        · intro a' w' k' hb hf hs hc hq hg hd
          exact .inl ⟨wantedN rfl, k_val (.bool false) (by decide) trivial (x_pickT rfl (hd 3 (by kernel_rfl) 98 rfl) (hd 28 (by kernel_rfl) 123 rfl)) rfl⟩
        exact trivial
      case done =>
        intro a' w' hb hf hs hall
        exact ⟨by rw [hb.size]; exact hsz, by rw [hb.defers]; exact hdf, (hb.old 2 (by decide +kernel)).trans h2, (hb.old 9 (by decide +kernel)).trans h9, (hb.old 10 (by decide +kernel)).trans h10, (hb.old 11 (by decide +kernel)).trans h11, (hb.old 12 (by decide +kernel)).trans h12, (hb.old 13 (by decide +kernel)).trans h13, (hb.old 14 (by decide +kernel)).trans h14, hall 29 (by decide) 124 rfl, hf⟩
    · have bE : (E == 0) = true := by simpa using hE
      obtain ⟨hck9, hap9, hy9⟩ := unhide HE hE
      have bsh : (s.h == 0) = false := by simpa using hs0
      refine wp_region_kinds3 (fun _ => False) (by kernel_rfl) (by kernel_rfl) (by decide +kernel) (by rw [hsz]; decide +kernel) [.eq (.int .i64 E), .eq (.int .i64 E), .eq (.bool true), .eq (.bool true), .eq (y.v), .eq (.int .i64 0), .eq (.int .i64 0), .eq (.bool false), .eq (.bool false), .eq (.pointer (some ⟨w.heap.size, 0 + 0, none⟩)), .eq (z.x.v), .eq (y.v), .eq (.pointer (some ⟨w.heap.size, 0 + 0, none⟩)), .eq (z.x.v), .eq ((wiX y z.x).v), .eq (.bool true), .eq (.bool false), .eq (.bool false), .eq (.bool false), .eq (.pointer (some ⟨(w.heap.size + 1), 0 + 0, none⟩)), .eq (.int .i64 s.h), .eq (.bool false), .eq (.bool false), .eq undef, .eq undef, .eq undef, .eq undef, .eq (.bool false), .eq (.bool false), .eq (.bool false)] [] (by decide) (by decide) (chain_paths _ [] (by kernel_rfl)) (fun _ _ => True) trivial ?steps ?done
      case steps =>
        refine ⟨?_, ?_⟩
        · intro a' w' k' hb hf hs hc hq hg hd
          exact .inl ⟨wantedN rfl, k_val (.int .i64 E) (by decide) trivial (x_move rfl ((hb.old 8 (by decide +kernel)).trans h8)) rfl⟩
        refine ⟨?_, ?_⟩
        · intro a' w' k' hb hf hs hc hq hg hd
          exact .inl ⟨wantedN rfl, k_call 17 _ (by decide) (e_call1 rfl rfl (hd 0 (by kernel_rfl) 95 rfl) (fun _ _ => by simp [go_sem])) ((num_any _ _).mono (by rintro e w9 ⟨rfl, rfl⟩; exact ⟨_, rfl, rfl, Fr.refl _ _, trivial⟩))⟩
        refine ⟨?_, ?_⟩
        · intro a' w' k' hb hf hs hc hq hg hd
          exact .inl ⟨wantedN rfl, k_val (.bool true) (by decide) trivial (x_eqI Try.underlying3 rfl (hd 1 (by kernel_rfl) 96 rfl) rfl bE) rfl⟩
        refine ⟨?_, ?_⟩
        · intro a' w' k' hb hf hs hc hq hg hd
          exact .inl ⟨wantedN rfl, k_val (.bool true) (by decide) trivial (x_move rfl (hd 2 (by kernel_rfl) 97 rfl)) rfl⟩
        refine ⟨?_, ?_⟩
        · intro a' w' k' hb hf hs hc hq hg hd
          exact .inl ⟨wantedT (d := 98) rfl rfl (by rw [hb.size, hsz]; omega) (hd 3 (by kernel_rfl) 98 rfl), k_val (y.v) (by decide) trivial (x_load25 rfl ((hb.old 6 (by decide +kernel)).trans h6) (by rw [hf.block _ (lt_of_heap (unhide HY)) id]; exact unhide HY)) rfl⟩
        refine ⟨?_, ?_⟩
        · intro a' w' k' hb hf hs hc hq hg hd
          exact .inl ⟨wantedT (d := 98) rfl rfl (by rw [hb.size, hsz]; omega) (hd 3 (by kernel_rfl) 98 rfl), k_call 18 _ (by decide) (e_call1 rfl rfl (hd 4 (by kernel_rfl) 99 rfl) (fun _ _ => by simp [go_sem])) ((check_any y _).mono (by rintro e w9 ⟨rfl, f9⟩; exact ⟨_, rfl, by rw [hck9]; rfl, f9, trivial⟩))⟩
        refine ⟨?_, ?_⟩
        · intro a' w' k' hb hf hs hc hq hg hd
          exact .inl ⟨wantedT (d := 98) rfl rfl (by rw [hb.size, hsz]; omega) (hd 3 (by kernel_rfl) 98 rfl), k_call 17 _ (by decide) (e_call1 rfl rfl (hd 5 (by kernel_rfl) 100 rfl) (fun _ _ => by simp [go_sem])) ((num_any _ _).mono (by rintro e w9 ⟨rfl, rfl⟩; exact ⟨_, rfl, rfl, Fr.refl _ _, trivial⟩))⟩
        refine ⟨?_, ?_⟩
        · intro a' w' k' hb hf hs hc hq hg hd
          exact .inl ⟨wantedT (d := 98) rfl rfl (by rw [hb.size, hsz]; omega) (hd 3 (by kernel_rfl) 98 rfl), k_val (.bool false) (by decide) trivial (x_neI Try.underlying3 rfl (hd 6 (by kernel_rfl) 101 rfl) rfl rfl) rfl⟩
        refine ⟨?_, ?_⟩
        · intro a' w' k' hb hf hs hc hq hg hd
          exact .inl ⟨wantedT (d := 98) rfl rfl (by rw [hb.size, hsz]; omega) (hd 3 (by kernel_rfl) 98 rfl), k_val (.bool false) (by decide) trivial (x_move rfl (hd 7 (by kernel_rfl) 102 rfl)) rfl⟩
        refine ⟨?_, ?_⟩
        · intro a' w' k' hb hf hs hc hq hg hd
          exact .inl ⟨wantedF (d := 103) rfl rfl (by rw [hb.size, hsz]; omega) (hd 8 (by kernel_rfl) 103 rfl), k_val (.pointer (some ⟨w.heap.size, 0 + 0, none⟩)) (by decide) trivial (x_field (fa59_0 _ _) rfl ((hb.old 2 (by decide +kernel)).trans h2)) rfl⟩
        refine ⟨?_, ?_⟩
        · intro a' w' k' hb hf hs hc hq hg hd
          exact .inl ⟨wantedF (d := 103) rfl rfl (by rw [hb.size, hsz]; omega) (hd 8 (by kernel_rfl) 103 rfl), k_val (z.x.v) (by decide) trivial (x_loadC rfl (hd 9 (by kernel_rfl) 104 rfl) (by rw [hf.block _ (lt_of_heap (unhide HX)) id]; exact unhide HX)) rfl⟩
        refine ⟨?_, ?_⟩
        · intro a' w' k' hb hf hs hc hq hg hd
          exact .inl ⟨wantedF (d := 103) rfl rfl (by rw [hb.size, hsz]; omega) (hd 8 (by kernel_rfl) 103 rfl), k_val (y.v) (by decide) trivial (x_load25 rfl ((hb.old 6 (by decide +kernel)).trans h6) (by rw [hf.block _ (lt_of_heap (unhide HY)) id]; exact unhide HY)) rfl⟩
        refine ⟨?_, ?_⟩
        · intro a' w' k' hb hf hs hc hq hg hd
          exact .inl ⟨wantedF (d := 103) rfl rfl (by rw [hb.size, hsz]; omega) (hd 8 (by kernel_rfl) 103 rfl), k_val (.pointer (some ⟨w.heap.size, 0 + 0, none⟩)) (by decide) trivial (x_field (fa59_0 _ _) rfl ((hb.old 2 (by decide +kernel)).trans h2)) rfl⟩
        refine ⟨?_, ?_⟩
        · intro a' w' k' hb hf hs hc hq hg hd
          exact .inl ⟨wantedF (d := 103) rfl rfl (by rw [hb.size, hsz]; omega) (hd 8 (by kernel_rfl) 103 rfl), k_val (z.x.v) (by decide) trivial (x_loadC rfl (hd 12 (by kernel_rfl) 107 rfl) (by rw [hf.block _ (lt_of_heap (unhide HX)) id]; exact unhide HX)) rfl⟩
        refine ⟨?_, ?_⟩
        · intro a' w' k' hb hf hs hc hq hg hd
          exact .inl ⟨wantedF (d := 103) rfl rfl (by rw [hb.size, hsz]; omega) (hd 8 (by kernel_rfl) 103 rfl), k_call 39 _ (by decide) (e_call2 rfl rfl (hd 11 (by kernel_rfl) 106 rfl) (hd 13 (by kernel_rfl) 108 rfl) (fun _ _ => by simp [go_sem])) ((with_any _ _ _).mono (by rintro e w9 ⟨rfl, f9⟩; exact ⟨_, rfl, rfl, f9, trivial⟩))⟩
        refine ⟨?_, ?_⟩
        · intro a' w' k' hb hf hs hc hq hg hd
          exact .inl ⟨wantedF (d := 103) rfl rfl (by rw [hb.size, hsz]; omega) (hd 8 (by kernel_rfl) 103 rfl), k_call 38 _ (by decide) (e_call2 rfl rfl (hd 10 (by kernel_rfl) 105 rfl) (hd 14 (by kernel_rfl) 109 rfl) (fun _ _ => by simp [go_sem])) ((apart_any _ _ _).mono (by rintro e w9 ⟨rfl, f9⟩; exact ⟨_, rfl, by rw [hap9]; rfl, f9, trivial⟩))⟩
        refine ⟨?_, ?_⟩
        · intro a' w' k' hb hf hs hc hq hg hd
          exact .inl ⟨wantedF (d := 103) rfl rfl (by rw [hb.size, hsz]; omega) (hd 8 (by kernel_rfl) 103 rfl), k_val (.bool false) (by decide) trivial (x_not (b := true) rfl (hd 15 (by kernel_rfl) 110 rfl)) rfl⟩
        refine ⟨?_, ?_⟩
        · intro a' w' k' hb hf hs hc hq hg hd
          exact .inl ⟨wantedT (d := 98) rfl rfl (by rw [hb.size, hsz]; omega) (hd 3 (by kernel_rfl) 98 rfl), k_val (.bool false) (by decide) trivial (x_pickF rfl (hd 8 (by kernel_rfl) 103 rfl) (hd 16 (by kernel_rfl) 111 rfl)) rfl⟩
        refine ⟨?_, ?_⟩
        · intro a' w' k' hb hf hs hc hq hg hd
          exact .inl ⟨wantedT (d := 98) rfl rfl (by rw [hb.size, hsz]; omega) (hd 3 (by kernel_rfl) 98 rfl), k_val (.bool false) (by decide) trivial (x_move rfl (hd 17 (by kernel_rfl) 112 rfl)) rfl⟩
        refine ⟨?_, ?_⟩
        · intro a' w' k' hb hf hs hc hq hg hd
          exact .inl ⟨wantedF (d := 113) rfl rfl (by rw [hb.size, hsz]; omega) (hd 18 (by kernel_rfl) 113 rfl), k_val (.pointer (some ⟨(w.heap.size + 1), 0 + 0, none⟩)) (by decide) trivial (x_field (fa52_0 _ _) rfl ((hb.old 3 (by decide +kernel)).trans h3)) rfl⟩
        refine ⟨?_, ?_⟩
        · intro a' w' k' hb hf hs hc hq hg hd
          exact .inl ⟨wantedF (d := 113) rfl rfl (by rw [hb.size, hsz]; omega) (hd 18 (by kernel_rfl) 113 rfl), k_val (.int .i64 s.h) (by decide) trivial (x_load1 ld3 rfl (hd 19 (by kernel_rfl) 114 rfl) (by rw [cell_of_heap ((hf.block _ (lt_of_heap (unhide HS)) id).trans (unhide HS))]; rfl)) rfl⟩
        refine ⟨?_, ?_⟩
        · intro a' w' k' hb hf hs hc hq hg hd
          exact .inl ⟨wantedF (d := 113) rfl rfl (by rw [hb.size, hsz]; omega) (hd 18 (by kernel_rfl) 113 rfl), k_val (.bool false) (by decide) trivial (x_eqI Try.underlying3 rfl (hd 20 (by kernel_rfl) 115 rfl) rfl bsh) rfl⟩
        refine ⟨?_, ?_⟩
        · intro a' w' k' hb hf hs hc hq hg hd
          exact .inl ⟨wantedF (d := 113) rfl rfl (by rw [hb.size, hsz]; omega) (hd 18 (by kernel_rfl) 113 rfl), k_val (.bool false) (by decide) trivial (x_move rfl (hd 21 (by kernel_rfl) 116 rfl)) rfl⟩
        refine ⟨?_, ?_⟩
        · intro a' w' k' hb hf hs hc hq hg hd
          exact .inr ⟨offT (d := 117) rfl rfl (by rw [hb.size, hsz]; omega) (hd 22 (by kernel_rfl) 117 rfl), by decide, rfl, Fr.refl _ _⟩
        refine ⟨?_, ?_⟩
        · intro a' w' k' hb hf hs hc hq hg hd
          exact .inr ⟨offT (d := 117) rfl rfl (by rw [hb.size, hsz]; omega) (hd 22 (by kernel_rfl) 117 rfl), by decide, rfl, Fr.refl _ _⟩
        refine ⟨?_, ?_⟩
        · intro a' w' k' hb hf hs hc hq hg hd
          exact .inr ⟨offT (d := 117) rfl rfl (by rw [hb.size, hsz]; omega) (hd 22 (by kernel_rfl) 117 rfl), by decide, rfl, Fr.refl _ _⟩
        refine ⟨?_, ?_⟩
        · intro a' w' k' hb hf hs hc hq hg hd
          exact .inr ⟨offT (d := 117) rfl rfl (by rw [hb.size, hsz]; omega) (hd 22 (by kernel_rfl) 117 rfl), by decide, rfl, Fr.refl _ _⟩
        refine ⟨?_, ?_⟩
        · intro a' w' k' hb hf hs hc hq hg hd
          exact .inl ⟨wantedF (d := 113) rfl rfl (by rw [hb.size, hsz]; omega) (hd 18 (by kernel_rfl) 113 rfl), k_val (.bool false) (by decide) trivial (x_pickF rfl (hd 22 (by kernel_rfl) 117 rfl) rfl) rfl⟩
        refine ⟨?_, ?_⟩
        · intro a' w' k' hb hf hs hc hq hg hd
          exact .inl ⟨wantedT (d := 98) rfl rfl (by rw [hb.size, hsz]; omega) (hd 3 (by kernel_rfl) 98 rfl), k_val (.bool false) (by decide) trivial (x_pickF rfl (hd 18 (by kernel_rfl) 113 rfl) (hd 27 (by kernel_rfl) 122 rfl)) rfl⟩
        refine ⟨?_, ?_⟩
        · intro a' w' k' hb hf hs hc hq hg hd
          exact .inl ⟨wantedN rfl, k_val (.bool false) (by decide) trivial (x_pickT rfl (hd 3 (by kernel_rfl) 98 rfl) (hd 28 (by kernel_rfl) 123 rfl)) rfl⟩
        exact trivial
      case done =>
        intro a' w' hb hf hs hall
        exact ⟨by rw [hb.size]; exact hsz, by rw [hb.defers]; exact hdf, (hb.old 2 (by decide +kernel)).trans h2, (hb.old 9 (by decide +kernel)).trans h9, (hb.old 10 (by decide +kernel)).trans h10, (hb.old 11 (by decide +kernel)).trans h11, (hb.old 12 (by decide +kernel)).trans h12, (hb.old 13 (by decide +kernel)).trans h13, (hb.old 14 (by decide +kernel)).trans h14, hall 29 (by decide) 124 rfl, hf⟩
    · have bE : (E == 0) = false := by simpa using hE
      refine wp_region_kinds3 (fun _ => False) (by kernel_rfl) (by kernel_rfl) (by decide +kernel) (by rw [hsz]; decide +kernel) [.eq (.int .i64 E), .eq (.int .i64 E), .eq (.bool false), .eq (.bool false), .eq undef, .eq undef, .eq undef, .eq undef, .eq undef, .eq undef, .eq undef, .eq undef, .eq undef, .eq undef, .eq undef, .eq undef, .eq undef, .eq undef, .eq undef, .eq undef, .eq undef, .eq undef, .eq undef, .eq undef, .eq undef, .eq undef, .eq undef, .eq undef, .eq undef, .eq (.bool false)] [] (by decide) (by decide) (chain_paths _ [] (by kernel_rfl)) (fun _ _ => True) trivial ?steps ?done
      case steps =>
        refine ⟨?_, ?_⟩
        · intro a' w' k' hb hf hs hc hq hg hd
          exact .inl ⟨wantedN rfl, k_val (.int .i64 E) (by decide) trivial (x_move rfl ((hb.old 8 (by decide +kernel)).trans h8)) rfl⟩
        refine ⟨?_, ?_⟩
        · intro a' w' k' hb hf hs hc hq hg hd
          exact .inl ⟨wantedN rfl, k_call 17 _ (by decide) (e_call1 rfl rfl (hd 0 (by kernel_rfl) 95 rfl) (fun _ _ => by simp [go_sem])) ((num_any _ _).mono (by rintro e w9 ⟨rfl, rfl⟩; exact ⟨_, rfl, rfl, Fr.refl _ _, trivial⟩))⟩
        refine ⟨?_, ?_⟩
        · intro a' w' k' hb hf hs hc hq hg hd
          exact .inl ⟨wantedN rfl, k_val (.bool false) (by decide) trivial (x_eqI Try.underlying3 rfl (hd 1 (by kernel_rfl) 96 rfl) rfl bE) rfl⟩
        refine ⟨?_, ?_⟩
        · intro a' w' k' hb hf hs hc hq hg hd
          exact .inl ⟨wantedN rfl, k_val (.bool false) (by decide) trivial (x_move rfl (hd 2 (by kernel_rfl) 97 rfl)) rfl⟩
        refine ⟨?_, ?_⟩
        · intro a' w' k' hb hf hs hc hq hg hd
          exact .inr ⟨offT (d := 98) rfl rfl (by rw [hb.size, hsz]; omega) (hd 3 (by kernel_rfl) 98 rfl), by decide, rfl, Fr.refl _ _⟩
        refine ⟨?_, ?_⟩
        · intro a' w' k' hb hf hs hc hq hg hd
          exact .inr ⟨offT (d := 98) rfl rfl (by rw [hb.size, hsz]; omega) (hd 3 (by kernel_rfl) 98 rfl), by decide, rfl, Fr.refl _ _⟩
        refine ⟨?_, ?_⟩
        · intro a' w' k' hb hf hs hc hq hg hd
          exact .inr ⟨offT (d := 98) rfl rfl (by rw [hb.size, hsz]; omega) (hd 3 (by kernel_rfl) 98 rfl), by decide, rfl, Fr.refl _ _⟩
        refine ⟨?_, ?_⟩
        · intro a' w' k' hb hf hs hc hq hg hd
          exact .inr ⟨offT (d := 98) rfl rfl (by rw [hb.size, hsz]; omega) (hd 3 (by kernel_rfl) 98 rfl), by decide, rfl, Fr.refl _ _⟩
        refine ⟨?_, ?_⟩
        · intro a' w' k' hb hf hs hc hq hg hd
          exact .inr ⟨offT (d := 98) rfl rfl (by rw [hb.size, hsz]; omega) (hd 3 (by kernel_rfl) 98 rfl), by decide, rfl, Fr.refl _ _⟩
        refine ⟨?_, ?_⟩
        · intro a' w' k' hb hf hs hc hq hg hd
          exact .inr ⟨offU (d := 103) rfl rfl (hd 8 (by kernel_rfl) 103 rfl), by decide, rfl, Fr.refl _ _⟩
        refine ⟨?_, ?_⟩
        · intro a' w' k' hb hf hs hc hq hg hd
          exact .inr ⟨offU (d := 103) rfl rfl (hd 8 (by kernel_rfl) 103 rfl), by decide, rfl, Fr.refl _ _⟩
        refine ⟨?_, ?_⟩
        · intro a' w' k' hb hf hs hc hq hg hd
          exact .inr ⟨offU (d := 103) rfl rfl (hd 8 (by kernel_rfl) 103 rfl), by decide, rfl, Fr.refl _ _⟩
        refine ⟨?_, ?_⟩
        · intro a' w' k' hb hf hs hc hq hg hd
          exact .inr ⟨offU (d := 103) rfl rfl (hd 8 (by kernel_rfl) 103 rfl), by decide, rfl, Fr.refl _ _⟩
        refine ⟨?_, ?_⟩
        · intro a' w' k' hb hf hs hc hq hg hd
          exact .inr ⟨offU (d := 103) rfl rfl (hd 8 (by kernel_rfl) 103 rfl), by decide, rfl, Fr.refl _ _⟩
        refine ⟨?_, ?_⟩
        · intro a' w' k' hb hf hs hc hq hg hd
          exact .inr ⟨offU (d := 103) rfl rfl (hd 8 (by kernel_rfl) 103 rfl), by decide, rfl, Fr.refl _ _⟩
        refine ⟨?_, ?_⟩
        · intro a' w' k' hb hf hs hc hq hg hd
          exact .inr ⟨offU (d := 103) rfl rfl (hd 8 (by kernel_rfl) 103 rfl), by decide, rfl, Fr.refl _ _⟩
        refine ⟨?_, ?_⟩
        · intro a' w' k' hb hf hs hc hq hg hd
          exact .inr ⟨offU (d := 103) rfl rfl (hd 8 (by kernel_rfl) 103 rfl), by decide, rfl, Fr.refl _ _⟩
        refine ⟨?_, ?_⟩
        · intro a' w' k' hb hf hs hc hq hg hd
          exact .inr ⟨offT (d := 98) rfl rfl (by rw [hb.size, hsz]; omega) (hd 3 (by kernel_rfl) 98 rfl), by decide, rfl, Fr.refl _ _⟩
        refine ⟨?_, ?_⟩
        · intro a' w' k' hb hf hs hc hq hg hd
          exact .inr ⟨offT (d := 98) rfl rfl (by rw [hb.size, hsz]; omega) (hd 3 (by kernel_rfl) 98 rfl), by decide, rfl, Fr.refl _ _⟩
        refine ⟨?_, ?_⟩
        · intro a' w' k' hb hf hs hc hq hg hd
          exact .inr ⟨offU (d := 113) rfl rfl (hd 18 (by kernel_rfl) 113 rfl), by decide, rfl, Fr.refl _ _⟩
        refine ⟨?_, ?_⟩
        · intro a' w' k' hb hf hs hc hq hg hd
          exact .inr ⟨offU (d := 113) rfl rfl (hd 18 (by kernel_rfl) 113 rfl), by decide, rfl, Fr.refl _ _⟩
        refine ⟨?_, ?_⟩
        · intro a' w' k' hb hf hs hc hq hg hd
          exact .inr ⟨offU (d := 113) rfl rfl (hd 18 (by kernel_rfl) 113 rfl), by decide, rfl, Fr.refl _ _⟩
        refine ⟨?_, ?_⟩
        · intro a' w' k' hb hf hs hc hq hg hd
          exact .inr ⟨offU (d := 113) rfl rfl (hd 18 (by kernel_rfl) 113 rfl), by decide, rfl, Fr.refl _ _⟩
        refine ⟨?_, ?_⟩
        · intro a' w' k' hb hf hs hc hq hg hd
          exact .inr ⟨offU (d := 117) rfl rfl (hd 22 (by kernel_rfl) 117 rfl), by decide, rfl, Fr.refl _ _⟩
        refine ⟨?_, ?_⟩
        · intro a' w' k' hb hf hs hc hq hg hd
          exact .inr ⟨offU (d := 117) rfl rfl (hd 22 (by kernel_rfl) 117 rfl), by decide, rfl, Fr.refl _ _⟩
        refine ⟨?_, ?_⟩
        · intro a' w' k' hb hf hs hc hq hg hd
          exact .inr ⟨offU (d := 117) rfl rfl (hd 22 (by kernel_rfl) 117 rfl), by decide, rfl, Fr.refl _ _⟩
        refine ⟨?_, ?_⟩
        · intro a' w' k' hb hf hs hc hq hg hd
          exact .inr ⟨offU (d := 117) rfl rfl (hd 22 (by kernel_rfl) 117 rfl), by decide, rfl, Fr.refl _ _⟩
        refine ⟨?_, ?_⟩
        · intro a' w' k' hb hf hs hc hq hg hd
          exact .inr ⟨offU (d := 113) rfl rfl (hd 18 (by kernel_rfl) 113 rfl), by decide, rfl, Fr.refl _ _⟩
        refine ⟨?_, ?_⟩
        · intro a' w' k' hb hf hs hc hq hg hd
          exact .inr ⟨offT (d := 98) rfl rfl (by rw [hb.size, hsz]; omega) (hd 3 (by kernel_rfl) 98 rfl), by decide, rfl, Fr.refl _ _⟩
        refine ⟨?_, ?_⟩
        · intro a' w' k' hb hf hs hc hq hg hd
          exact .inl ⟨wantedN rfl, k_val (.bool false) (by decide) trivial (x_pickF rfl (hd 3 (by kernel_rfl) 98 rfl) rfl) rfl⟩
        exact trivial
      case done =>
        intro a' w' hb hf hs hall
        exact ⟨by rw [hb.size]; exact hsz, by rw [hb.defers]; exact hdf, (hb.old 2 (by decide +kernel)).trans h2, (hb.old 9 (by decide +kernel)).trans h9, (hb.old 10 (by decide +kernel)).trans h10, (hb.old 11 (by decide +kernel)).trans h11, (hb.old 12 (by decide +kernel)).trans h12, (hb.old 13 (by decide +kernel)).trans h13, (hb.old 14 (by decide +kernel)).trans h14, hall 29 (by decide) 124 rfl, hf⟩
  rintro a1 w10 ⟨hsz, hdf, h2, h9, h10, h11, h12, h13, h14, hcond, fx⟩
  have HX := hide (((fx).block _ (lt_of_heap (unhide HX)) id).trans (unhide HX))
  have HS := hide (((fx).block _ (lt_of_heap (unhide HS)) id).trans (unhide HS))
  have HLB := hide (((fx).block _ (lt_of_heap (unhide HLB)) id).trans (unhide HLB))
  have HQB := hide (((fx).block _ (lt_of_heap (unhide HQB)) id).trans (unhide HQB))
  have HNB := hide (((fx).block _ (lt_of_heap (unhide HNB)) id).trans (unhide HNB))
  have F10 := hide ((unhide F9).trans fx (fun _ _ e => e))
  clear fx F9
  apply_assumption
  refine wp_cond_false hcond (wp_skip ?_)
  apply_assumption
  refine wp_seq (wp_seq ?_)
  refine wp_via (fun a9 w99 => a9.tmps.size = 207 ∧ a9.defers = [] ∧ a9.tmps.getD 2 undef = .pointer (some ⟨w.heap.size, 0, none⟩) ∧ a9.tmps.getD 11 undef = .pointer (some ⟨w6.heap.size, 0, none⟩) ∧ a9.tmps.getD 12 undef = .int .i64 EQ ∧ a9.tmps.getD 13 undef = .pointer (some ⟨w7.heap.size, 0, none⟩) ∧ a9.tmps.getD 14 undef = .int .i64 EN ∧ a9.tmps.getD 159 undef = .bool false ∧ Fr (fun _ => False) w10 w99) ?_ ?_
  · skip
    by_cases hE : EL = 0
    · have bE : (EL == 0) = true := by simpa using hE
      obtain ⟨hck9, hs9, hm9, hap9⟩ := unhide HL hE
      have hsm9 := And.intro hs9 hm9
      refine wp_region_kinds3 (fun _ => False) (by kernel_rfl) (by kernel_rfl) (by decide +kernel) (by rw [hsz]; decide +kernel) [.eq (.int .i64 EL), .eq (.int .i64 EL), .eq (.bool true), .eq (.bool true), .eq (l.v), .eq (.int .i64 0), .eq (.int .i64 0), .eq (.bool false), .eq (.bool false), .eq (.pointer (some ⟨w5.heap.size, 0 + 7, none⟩)), .eq (.int .u64 l.s), .eq (.pointer (some ⟨w.heap.size, 0 + 0, none⟩)), .eq (.pointer (some ⟨w.heap.size, 0 + 0 + 7, none⟩)), .eq (.int .u64 z.x.s), .eq (.bool false), .eq (.bool false), .eq (.bool false), .eq (.pointer (some ⟨w5.heap.size, 0 + 3, none⟩)), .eq (.int .u32 l.m), .eq (.pointer (some ⟨w.heap.size, 0 + 0, none⟩)), .eq (.pointer (some ⟨w.heap.size, 0 + 0 + 3, none⟩)), .eq (.int .u32 z.x.m), .eq (.bool false), .eq (.bool false), .eq (.bool false), .eq (.pointer (some ⟨w.heap.size, 0 + 0, none⟩)), .eq (z.x.v), .eq (l.v), .eq (.pointer (some ⟨w.heap.size, 0 + 0, none⟩)), .eq (z.x.v), .eq ((wiX l z.x).v), .eq (.bool true), .eq (.bool false), .eq (.bool false), .eq (.bool false)] [] (by decide) (by decide) (chain_paths _ [] (by kernel_rfl)) (fun _ _ => True) trivial ?steps ?done
      case steps =>
        refine ⟨?_, ?_⟩
        · intro a' w' k' hb hf hs hc hq hg hd
          exact .inl ⟨wantedN rfl, k_val (.int .i64 EL) (by decide) trivial (x_move rfl ((hb.old 10 (by decide +kernel)).trans h10)) rfl⟩
        refine ⟨?_, ?_⟩
        · intro a' w' k' hb hf hs hc hq hg hd
          exact .inl ⟨wantedN rfl, k_call 17 _ (by decide) (e_call1 rfl rfl (hd 0 (by kernel_rfl) 125 rfl) (fun _ _ => by simp [go_sem])) ((num_any _ _).mono (by rintro e w9 ⟨rfl, rfl⟩; exact ⟨_, rfl, rfl, Fr.refl _ _, trivial⟩))⟩
        refine ⟨?_, ?_⟩
        · intro a' w' k' hb hf hs hc hq hg hd
          exact .inl ⟨wantedN rfl, k_val (.bool true) (by decide) trivial (x_eqI Try.underlying3 rfl (hd 1 (by kernel_rfl) 126 rfl) rfl bE) rfl⟩
        refine ⟨?_, ?_⟩
        · intro a' w' k' hb hf hs hc hq hg hd
          exact .inl ⟨wantedN rfl, k_val (.bool true) (by decide) trivial (x_move rfl (hd 2 (by kernel_rfl) 127 rfl)) rfl⟩
        refine ⟨?_, ?_⟩
        · intro a' w' k' hb hf hs hc hq hg hd
          exact .inl ⟨wantedT (d := 128) rfl rfl (by rw [hb.size, hsz]; omega) (hd 3 (by kernel_rfl) 128 rfl), k_val (l.v) (by decide) trivial (x_load25 rfl ((hb.old 9 (by decide +kernel)).trans h9) (by rw [hf.block _ (lt_of_heap (unhide HLB)) id]; exact unhide HLB)) rfl⟩
        refine ⟨?_, ?_⟩
        · intro a' w' k' hb hf hs hc hq hg hd
          exact .inl ⟨wantedT (d := 128) rfl rfl (by rw [hb.size, hsz]; omega) (hd 3 (by kernel_rfl) 128 rfl), k_call 18 _ (by decide) (e_call1 rfl rfl (hd 4 (by kernel_rfl) 129 rfl) (fun _ _ => by simp [go_sem])) ((check_any l _).mono (by rintro e w9 ⟨rfl, f9⟩; exact ⟨_, rfl, by rw [hck9]; rfl, f9, trivial⟩))⟩
        refine ⟨?_, ?_⟩
        · intro a' w' k' hb hf hs hc hq hg hd
          exact .inl ⟨wantedT (d := 128) rfl rfl (by rw [hb.size, hsz]; omega) (hd 3 (by kernel_rfl) 128 rfl), k_call 17 _ (by decide) (e_call1 rfl rfl (hd 5 (by kernel_rfl) 130 rfl) (fun _ _ => by simp [go_sem])) ((num_any _ _).mono (by rintro e w9 ⟨rfl, rfl⟩; exact ⟨_, rfl, rfl, Fr.refl _ _, trivial⟩))⟩
        refine ⟨?_, ?_⟩
        · intro a' w' k' hb hf hs hc hq hg hd
          exact .inl ⟨wantedT (d := 128) rfl rfl (by rw [hb.size, hsz]; omega) (hd 3 (by kernel_rfl) 128 rfl), k_val (.bool false) (by decide) trivial (x_neI Try.underlying3 rfl (hd 6 (by kernel_rfl) 131 rfl) rfl rfl) rfl⟩
        refine ⟨?_, ?_⟩
        · intro a' w' k' hb hf hs hc hq hg hd
          exact .inl ⟨wantedT (d := 128) rfl rfl (by rw [hb.size, hsz]; omega) (hd 3 (by kernel_rfl) 128 rfl), k_val (.bool false) (by decide) trivial (x_move rfl (hd 7 (by kernel_rfl) 132 rfl)) rfl⟩
        refine ⟨?_, ?_⟩
        · intro a' w' k' hb hf hs hc hq hg hd
          exact .inl ⟨wantedF (d := 133) rfl rfl (by rw [hb.size, hsz]; omega) (hd 8 (by kernel_rfl) 133 rfl), k_val (.pointer (some ⟨w5.heap.size, 0 + 7, none⟩)) (by decide) trivial (x_field (fa25_7 _ _) rfl ((hb.old 9 (by decide +kernel)).trans h9)) rfl⟩
        refine ⟨?_, ?_⟩
        · intro a' w' k' hb hf hs hc hq hg hd
          exact .inl ⟨wantedF (d := 133) rfl rfl (by rw [hb.size, hsz]; omega) (hd 8 (by kernel_rfl) 133 rfl), k_val (.int .u64 l.s) (by decide) trivial (x_load1 ld22 rfl (hd 9 (by kernel_rfl) 134 rfl) (by rw [cell_of_heap ((hf.block _ (lt_of_heap (unhide HLB)) id).trans (unhide HLB))]; rfl)) rfl⟩
        refine ⟨?_, ?_⟩
        · intro a' w' k' hb hf hs hc hq hg hd
          exact .inl ⟨wantedF (d := 133) rfl rfl (by rw [hb.size, hsz]; omega) (hd 8 (by kernel_rfl) 133 rfl), k_val (.pointer (some ⟨w.heap.size, 0 + 0, none⟩)) (by decide) trivial (x_field (fa59_0 _ _) rfl ((hb.old 2 (by decide +kernel)).trans h2)) rfl⟩
        refine ⟨?_, ?_⟩
        · intro a' w' k' hb hf hs hc hq hg hd
          exact .inl ⟨wantedF (d := 133) rfl rfl (by rw [hb.size, hsz]; omega) (hd 8 (by kernel_rfl) 133 rfl), k_val (.pointer (some ⟨w.heap.size, 0 + 0 + 7, none⟩)) (by decide) trivial (x_field (fa25_7 _ _) rfl (hd 11 (by kernel_rfl) 136 rfl)) rfl⟩
        refine ⟨?_, ?_⟩
        · intro a' w' k' hb hf hs hc hq hg hd
          exact .inl ⟨wantedF (d := 133) rfl rfl (by rw [hb.size, hsz]; omega) (hd 8 (by kernel_rfl) 133 rfl), k_val (.int .u64 z.x.s) (by decide) trivial (x_load1 ld22 rfl (hd 12 (by kernel_rfl) 137 rfl) (by rw [cell_of_heap ((hf.block _ (lt_of_heap (unhide HX)) id).trans (unhide HX))]; rfl)) rfl⟩
        refine ⟨?_, ?_⟩
        · intro a' w' k' hb hf hs hc hq hg hd
          exact .inl ⟨wantedF (d := 133) rfl rfl (by rw [hb.size, hsz]; omega) (hd 8 (by kernel_rfl) 133 rfl), k_val (.bool false) (by decide) trivial (x_neI Try.underlying22 rfl (hd 10 (by kernel_rfl) 135 rfl) (hd 13 (by kernel_rfl) 138 rfl) (by simp [hsm9])) rfl⟩
        refine ⟨?_, ?_⟩
        · intro a' w' k' hb hf hs hc hq hg hd
          exact .inl ⟨wantedT (d := 128) rfl rfl (by rw [hb.size, hsz]; omega) (hd 3 (by kernel_rfl) 128 rfl), k_val (.bool false) (by decide) trivial (x_pickF rfl (hd 8 (by kernel_rfl) 133 rfl) (hd 14 (by kernel_rfl) 139 rfl)) rfl⟩
        refine ⟨?_, ?_⟩
        · intro a' w' k' hb hf hs hc hq hg hd
          exact .inl ⟨wantedT (d := 128) rfl rfl (by rw [hb.size, hsz]; omega) (hd 3 (by kernel_rfl) 128 rfl), k_val (.bool false) (by decide) trivial (x_move rfl (hd 15 (by kernel_rfl) 140 rfl)) rfl⟩
        refine ⟨?_, ?_⟩
        · intro a' w' k' hb hf hs hc hq hg hd
          exact .inl ⟨wantedF (d := 141) rfl rfl (by rw [hb.size, hsz]; omega) (hd 16 (by kernel_rfl) 141 rfl), k_val (.pointer (some ⟨w5.heap.size, 0 + 3, none⟩)) (by decide) trivial (x_field (fa25_3 _ _) rfl ((hb.old 9 (by decide +kernel)).trans h9)) rfl⟩
        refine ⟨?_, ?_⟩
        · intro a' w' k' hb hf hs hc hq hg hd
          exact .inl ⟨wantedF (d := 141) rfl rfl (by rw [hb.size, hsz]; omega) (hd 16 (by kernel_rfl) 141 rfl), k_val (.int .u32 l.m) (by decide) trivial (x_load1 ld23 rfl (hd 17 (by kernel_rfl) 142 rfl) (by rw [cell_of_heap ((hf.block _ (lt_of_heap (unhide HLB)) id).trans (unhide HLB))]; rfl)) rfl⟩
        refine ⟨?_, ?_⟩
        · intro a' w' k' hb hf hs hc hq hg hd
          exact .inl ⟨wantedF (d := 141) rfl rfl (by rw [hb.size, hsz]; omega) (hd 16 (by kernel_rfl) 141 rfl), k_val (.pointer (some ⟨w.heap.size, 0 + 0, none⟩)) (by decide) trivial (x_field (fa59_0 _ _) rfl ((hb.old 2 (by decide +kernel)).trans h2)) rfl⟩
        refine ⟨?_, ?_⟩
        · intro a' w' k' hb hf hs hc hq hg hd
          exact .inl ⟨wantedF (d := 141) rfl rfl (by rw [hb.size, hsz]; omega) (hd 16 (by kernel_rfl) 141 rfl), k_val (.pointer (some ⟨w.heap.size, 0 + 0 + 3, none⟩)) (by decide) trivial (x_field (fa25_3 _ _) rfl (hd 19 (by kernel_rfl) 144 rfl)) rfl⟩
        refine ⟨?_, ?_⟩
        · intro a' w' k' hb hf hs hc hq hg hd
          exact .inl ⟨wantedF (d := 141) rfl rfl (by rw [hb.size, hsz]; omega) (hd 16 (by kernel_rfl) 141 rfl), k_val (.int .u32 z.x.m) (by decide) trivial (x_load1 ld23 rfl (hd 20 (by kernel_rfl) 145 rfl) (by rw [cell_of_heap ((hf.block _ (lt_of_heap (unhide HX)) id).trans (unhide HX))]; rfl)) rfl⟩
        refine ⟨?_, ?_⟩
        · intro a' w' k' hb hf hs hc hq hg hd
          exact .inl ⟨wantedF (d := 141) rfl rfl (by rw [hb.size, hsz]; omega) (hd 16 (by kernel_rfl) 141 rfl), k_val (.bool false) (by decide) trivial (x_neI Try.underlying23 rfl (hd 18 (by kernel_rfl) 143 rfl) (hd 21 (by kernel_rfl) 146 rfl) (by simp [hsm9])) rfl⟩
        refine ⟨?_, ?_⟩
        · intro a' w' k' hb hf hs hc hq hg hd
          exact .inl ⟨wantedT (d := 128) rfl rfl (by rw [hb.size, hsz]; omega) (hd 3 (by kernel_rfl) 128 rfl), k_val (.bool false) (by decide) trivial (x_pickF rfl (hd 16 (by kernel_rfl) 141 rfl) (hd 22 (by kernel_rfl) 147 rfl)) rfl⟩
        refine ⟨?_, ?_⟩
        · intro a' w' k' hb hf hs hc hq hg hd
          exact .inl ⟨wantedT (d := 128) rfl rfl (by rw [hb.size, hsz]; omega) (hd 3 (by kernel_rfl) 128 rfl), k_val (.bool false) (by decide) trivial (x_move rfl (hd 23 (by kernel_rfl) 148 rfl)) rfl⟩
        refine ⟨?_, ?_⟩
        · intro a' w' k' hb hf hs hc hq hg hd
          exact .inl ⟨wantedF (d := 149) rfl rfl (by rw [hb.size, hsz]; omega) (hd 24 (by kernel_rfl) 149 rfl), k_val (.pointer (some ⟨w.heap.size, 0 + 0, none⟩)) (by decide) trivial (x_field (fa59_0 _ _) rfl ((hb.old 2 (by decide +kernel)).trans h2)) rfl⟩
        refine ⟨?_, ?_⟩
        · intro a' w' k' hb hf hs hc hq hg hd
          exact .inl ⟨wantedF (d := 149) rfl rfl (by rw [hb.size, hsz]; omega) (hd 24 (by kernel_rfl) 149 rfl), k_val (z.x.v) (by decide) trivial (x_loadC rfl (hd 25 (by kernel_rfl) 150 rfl) (by rw [hf.block _ (lt_of_heap (unhide HX)) id]; exact unhide HX)) rfl⟩
        refine ⟨?_, ?_⟩
        · intro a' w' k' hb hf hs hc hq hg hd
          exact .inl ⟨wantedF (d := 149) rfl rfl (by rw [hb.size, hsz]; omega) (hd 24 (by kernel_rfl) 149 rfl), k_val (l.v) (by decide) trivial (x_load25 rfl ((hb.old 9 (by decide +kernel)).trans h9) (by rw [hf.block _ (lt_of_heap (unhide HLB)) id]; exact unhide HLB)) rfl⟩
        refine ⟨?_, ?_⟩
        · intro a' w' k' hb hf hs hc hq hg hd
          exact .inl ⟨wantedF (d := 149) rfl rfl (by rw [hb.size, hsz]; omega) (hd 24 (by kernel_rfl) 149 rfl), k_val (.pointer (some ⟨w.heap.size, 0 + 0, none⟩)) (by decide) trivial (x_field (fa59_0 _ _) rfl ((hb.old 2 (by decide +kernel)).trans h2)) rfl⟩
        refine ⟨?_, ?_⟩
        · intro a' w' k' hb hf hs hc hq hg hd
          exact .inl ⟨wantedF (d := 149) rfl rfl (by rw [hb.size, hsz]; omega) (hd 24 (by kernel_rfl) 149 rfl), k_val (z.x.v) (by decide) trivial (x_loadC rfl (hd 28 (by kernel_rfl) 153 rfl) (by rw [hf.block _ (lt_of_heap (unhide HX)) id]; exact unhide HX)) rfl⟩
        refine ⟨?_, ?_⟩
        · intro a' w' k' hb hf hs hc hq hg hd
          exact .inl ⟨wantedF (d := 149) rfl rfl (by rw [hb.size, hsz]; omega) (hd 24 (by kernel_rfl) 149 rfl), k_call 39 _ (by decide) (e_call2 rfl rfl (hd 27 (by kernel_rfl) 152 rfl) (hd 29 (by kernel_rfl) 154 rfl) (fun _ _ => by simp [go_sem])) ((with_any _ _ _).mono (by rintro e w9 ⟨rfl, f9⟩; exact ⟨_, rfl, rfl, f9, trivial⟩))⟩
        refine ⟨?_, ?_⟩
        · intro a' w' k' hb hf hs hc hq hg hd
          exact .inl ⟨wantedF (d := 149) rfl rfl (by rw [hb.size, hsz]; omega) (hd 24 (by kernel_rfl) 149 rfl), k_call 38 _ (by decide) (e_call2 rfl rfl (hd 26 (by kernel_rfl) 151 rfl) (hd 30 (by kernel_rfl) 155 rfl) (fun _ _ => by simp [go_sem])) ((apart_any _ _ _).mono (by rintro e w9 ⟨rfl, f9⟩; exact ⟨_, rfl, by rw [hap9]; rfl, f9, trivial⟩))⟩
        refine ⟨?_, ?_⟩
        · intro a' w' k' hb hf hs hc hq hg hd
          exact .inl ⟨wantedF (d := 149) rfl rfl (by rw [hb.size, hsz]; omega) (hd 24 (by kernel_rfl) 149 rfl), k_val (.bool false) (by decide) trivial (x_not (b := true) rfl (hd 31 (by kernel_rfl) 156 rfl)) rfl⟩
        refine ⟨?_, ?_⟩
        · intro a' w' k' hb hf hs hc hq hg hd
          exact .inl ⟨wantedT (d := 128) rfl rfl (by rw [hb.size, hsz]; omega) (hd 3 (by kernel_rfl) 128 rfl), k_val (.bool false) (by decide) trivial (x_pickF rfl (hd 24 (by kernel_rfl) 149 rfl) (hd 32 (by kernel_rfl) 157 rfl)) rfl⟩
        refine ⟨?_, ?_⟩
        · intro a' w' k' hb hf hs hc hq hg hd
          exact .inl ⟨wantedN rfl, k_val (.bool false) (by decide) trivial (x_pickT rfl (hd 3 (by kernel_rfl) 128 rfl) (hd 33 (by kernel_rfl) 158 rfl)) rfl⟩
        exact trivial
      case done =>
        intro a' w' hb hf hs hall
        exact ⟨by rw [hb.size]; exact hsz, by rw [hb.defers]; exact hdf, (hb.old 2 (by decide +kernel)).trans h2, (hb.old 11 (by decide +kernel)).trans h11, (hb.old 12 (by decide +kernel)).trans h12, (hb.old 13 (by decide +kernel)).trans h13, (hb.old 14 (by decide +kernel)).trans h14, hall 34 (by decide) 159 rfl, hf⟩
    · have bE : (EL == 0) = false := by simpa using hE
      refine wp_region_kinds3 (fun _ => False) (by kernel_rfl) (by kernel_rfl) (by decide +kernel) (by rw [hsz]; decide +kernel) [.eq (.int .i64 EL), .eq (.int .i64 EL), .eq (.bool false), .eq (.bool false), .eq undef, .eq undef, .eq undef, .eq undef, .eq undef, .eq undef, .eq undef, .eq undef, .eq undef, .eq undef, .eq undef, .eq undef, .eq undef, .eq undef, .eq undef, .eq undef, .eq undef, .eq undef, .eq undef, .eq undef, .eq undef, .eq undef, .eq undef, .eq undef, .eq undef, .eq undef, .eq undef, .eq undef, .eq undef, .eq undef, .eq (.bool false)] [] (by decide) (by decide) (chain_paths _ [] (by kernel_rfl)) (fun _ _ => True) trivial ?steps ?done
      case steps =>
        refine ⟨?_, ?_⟩
        · intro a' w' k' hb hf hs hc hq hg hd
          exact .inl ⟨wantedN rfl, k_val (.int .i64 EL) (by decide) trivial (x_move rfl ((hb.old 10 (by decide +kernel)).trans h10)) rfl⟩
        refine ⟨?_, ?_⟩
        · intro a' w' k' hb hf hs hc hq hg hd
          exact .inl ⟨wantedN rfl, k_call 17 _ (by decide) (e_call1 rfl rfl (hd 0 (by kernel_rfl) 125 rfl) (fun _ _ => by simp [go_sem])) ((num_any _ _).mono (by rintro e w9 ⟨rfl, rfl⟩; exact ⟨_, rfl, rfl, Fr.refl _ _, trivial⟩))⟩
        refine ⟨?_, ?_⟩
        · intro a' w' k' hb hf hs hc hq hg hd
          exact .inl ⟨wantedN rfl, k_val (.bool false) (by decide) trivial (x_eqI Try.underlying3 rfl (hd 1 (by kernel_rfl) 126 rfl) rfl bE) rfl⟩
        refine ⟨?_, ?_⟩
        · intro a' w' k' hb hf hs hc hq hg hd
          exact .inl ⟨wantedN rfl, k_val (.bool false) (by decide) trivial (x_move rfl (hd 2 (by kernel_rfl) 127 rfl)) rfl⟩
        refine ⟨?_, ?_⟩
        · intro a' w' k' hb hf hs hc hq hg hd
          exact .inr ⟨offT (d := 128) rfl rfl (by rw [hb.size, hsz]; omega) (hd 3 (by kernel_rfl) 128 rfl), by decide, rfl, Fr.refl _ _⟩
        refine ⟨?_, ?_⟩
        · intro a' w' k' hb hf hs hc hq hg hd
          exact .inr ⟨offT (d := 128) rfl rfl (by rw [hb.size, hsz]; omega) (hd 3 (by kernel_rfl) 128 rfl), by decide, rfl, Fr.refl _ _⟩
        refine ⟨?_, ?_⟩
        · intro a' w' k' hb hf hs hc hq hg hd
          exact .inr ⟨offT (d := 128) rfl rfl (by rw [hb.size, hsz]; omega) (hd 3 (by kernel_rfl) 128 rfl), by decide, rfl, Fr.refl _ _⟩
        refine ⟨?_, ?_⟩
        · intro a' w' k' hb hf hs hc hq hg hd
          exact .inr ⟨offT (d := 128) rfl rfl (by rw [hb.size, hsz]; omega) (hd 3 (by kernel_rfl) 128 rfl), by decide, rfl, Fr.refl _ _⟩
        refine ⟨?_, ?_⟩
        · intro a' w' k' hb hf hs hc hq hg hd
          exact .inr ⟨offT (d := 128) rfl rfl (by rw [hb.size, hsz]; omega) (hd 3 (by kernel_rfl) 128 rfl), by decide, rfl, Fr.refl _ _⟩
        refine ⟨?_, ?_⟩
        · intro a' w' k' hb hf hs hc hq hg hd
          exact .inr ⟨offU (d := 133) rfl rfl (hd 8 (by kernel_rfl) 133 rfl), by decide, rfl, Fr.refl _ _⟩
        refine ⟨?_, ?_⟩
        · intro a' w' k' hb hf hs hc hq hg hd
          exact .inr ⟨offU (d := 133) rfl rfl (hd 8 (by kernel_rfl) 133 rfl), by decide, rfl, Fr.refl _ _⟩
        refine ⟨?_, ?_⟩
        · intro a' w' k' hb hf hs hc hq hg hd
          exact .inr ⟨offU (d := 133) rfl rfl (hd 8 (by kernel_rfl) 133 rfl), by decide, rfl, Fr.refl _ _⟩
        refine ⟨?_, ?_⟩
        · intro a' w' k' hb hf hs hc hq hg hd
          exact .inr ⟨offU (d := 133) rfl rfl (hd 8 (by kernel_rfl) 133 rfl), by decide, rfl, Fr.refl _ _⟩
        refine ⟨?_, ?_⟩
        · intro a' w' k' hb hf hs hc hq hg hd
          exact .inr ⟨offU (d := 133) rfl rfl (hd 8 (by kernel_rfl) 133 rfl), by decide, rfl, Fr.refl _ _⟩
        refine ⟨?_, ?_⟩
        · intro a' w' k' hb hf hs hc hq hg hd
          exact .inr ⟨offU (d := 133) rfl rfl (hd 8 (by kernel_rfl) 133 rfl), by decide, rfl, Fr.refl _ _⟩
        refine ⟨?_, ?_⟩
        · intro a' w' k' hb hf hs hc hq hg hd
          exact .inr ⟨offT (d := 128) rfl rfl (by rw [hb.size, hsz]; omega) (hd 3 (by kernel_rfl) 128 rfl), by decide, rfl, Fr.refl _ _⟩
        refine ⟨?_, ?_⟩
        · intro a' w' k' hb hf hs hc hq hg hd
          exact .inr ⟨offT (d := 128) rfl rfl (by rw [hb.size, hsz]; omega) (hd 3 (by kernel_rfl) 128 rfl), by decide, rfl, Fr.refl _ _⟩
        refine ⟨?_, ?_⟩
        · intro a' w' k' hb hf hs hc hq hg hd
          exact .inr ⟨offU (d := 141) rfl rfl (hd 16 (by kernel_rfl) 141 rfl), by decide, rfl, Fr.refl _ _⟩
        refine ⟨?_, ?_⟩
        · intro a' w' k' hb hf hs hc hq hg hd
          exact .inr ⟨offU (d := 141) rfl rfl (hd 16 (by kernel_rfl) 141 rfl), by decide, rfl, Fr.refl _ _⟩
        refine ⟨?_, ?_⟩
        · intro a' w' k' hb hf hs hc hq hg hd
          exact .inr ⟨offU (d := 141) rfl rfl (hd 16 (by kernel_rfl) 141 rfl), by decide, rfl, Fr.refl _ _⟩
        refine ⟨?_, ?_⟩
        · intro a' w' k' hb hf hs hc hq hg hd
          exact .inr ⟨offU (d := 141) rfl rfl (hd 16 (by kernel_rfl) 141 rfl), by decide, rfl, Fr.refl _ _⟩
        refine ⟨?_, ?_⟩
        · intro a' w' k' hb hf hs hc hq hg hd
          exact .inr ⟨offU (d := 141) rfl rfl (hd 16 (by kernel_rfl) 141 rfl), by decide, rfl, Fr.refl _ _⟩
        refine ⟨?_, ?_⟩
        · intro a' w' k' hb hf hs hc hq hg hd
          exact .inr ⟨offU (d := 141) rfl rfl (hd 16 (by kernel_rfl) 141 rfl), by decide, rfl, Fr.refl _ _⟩
        refine ⟨?_, ?_⟩
        · intro a' w' k' hb hf hs hc hq hg hd
          exact .inr ⟨offT (d := 128) rfl rfl (by rw [hb.size, hsz]; omega) (hd 3 (by kernel_rfl) 128 rfl), by decide, rfl, Fr.refl _ _⟩
        refine ⟨?_, ?_⟩
        · intro a' w' k' hb hf hs hc hq hg hd
          exact .inr ⟨offT (d := 128) rfl rfl (by rw [hb.size, hsz]; omega) (hd 3 (by kernel_rfl) 128 rfl), by decide, rfl, Fr.refl _ _⟩
        refine ⟨?_, ?_⟩
        · intro a' w' k' hb hf hs hc hq hg hd
          exact .inr ⟨offU (d := 149) rfl rfl (hd 24 (by kernel_rfl) 149 rfl), by decide, rfl, Fr.refl _ _⟩
        refine ⟨?_, ?_⟩
        · intro a' w' k' hb hf hs hc hq hg hd
          exact .inr ⟨offU (d := 149) rfl rfl (hd 24 (by kernel_rfl) 149 rfl), by decide, rfl, Fr.refl _ _⟩
        refine ⟨?_, ?_⟩
        · intro a' w' k' hb hf hs hc hq hg hd
          exact .inr ⟨offU (d := 149) rfl rfl (hd 24 (by kernel_rfl) 149 rfl), by decide, rfl, Fr.refl _ _⟩
        refine ⟨?_, ?_⟩
        · intro a' w' k' hb hf hs hc hq hg hd
          exact .inr ⟨offU (d := 149) rfl rfl (hd 24 (by kernel_rfl) 149 rfl), by decide, rfl, Fr.refl _ _⟩
        refine ⟨?_, ?_⟩
        · intro a' w' k' hb hf hs hc hq hg hd
          exact .inr ⟨offU (d := 149) rfl rfl (hd 24 (by kernel_rfl) 149 rfl), by decide, rfl, Fr.refl _ _⟩
        refine ⟨?_, ?_⟩
        · intro a' w' k' hb hf hs hc hq hg hd
          exact .inr ⟨offU (d := 149) rfl rfl (hd 24 (by kernel_rfl) 149 rfl), by decide, rfl, Fr.refl _ _⟩
        refine ⟨?_, ?_⟩
        · intro a' w' k' hb hf hs hc hq hg hd
          exact .inr ⟨offU (d := 149) rfl rfl (hd 24 (by kernel_rfl) 149 rfl), by decide, rfl, Fr.refl _ _⟩
        refine ⟨?_, ?_⟩
        · intro a' w' k' hb hf hs hc hq hg hd
          exact .inr ⟨offU (d := 149) rfl rfl (hd 24 (by kernel_rfl) 149 rfl), by decide, rfl, Fr.refl _ _⟩
        refine ⟨?_, ?_⟩
        · intro a' w' k' hb hf hs hc hq hg hd
          exact .inr ⟨offT (d := 128) rfl rfl (by rw [hb.size, hsz]; omega) (hd 3 (by kernel_rfl) 128 rfl), by decide, rfl, Fr.refl _ _⟩
        refine ⟨?_, ?_⟩
        · intro a' w' k' hb hf hs hc hq hg hd
          exact .inl ⟨wantedN rfl, k_val (.bool false) (by decide) trivial (x_pickF rfl (hd 3 (by kernel_rfl) 128 rfl) rfl) rfl⟩
        exact trivial
      case done =>
        intro a' w' hb hf hs hall
        exact ⟨by rw [hb.size]; exact hsz, by rw [hb.defers]; exact hdf, (hb.old 2 (by decide +kernel)).trans h2, (hb.old 11 (by decide +kernel)).trans h11, (hb.old 12 (by decide +kernel)).trans h12, (hb.old 13 (by decide +kernel)).trans h13, (hb.old 14 (by decide +kernel)).trans h14, hall 34 (by decide) 159 rfl, hf⟩
  clear hsz hdf h2 h9 h10 h11 h12 h13 h14 hcond
  rintro a1 w11 ⟨hsz, hdf, h2, h11, h12, h13, h14, hcond, fx⟩
  have HX := hide (((fx).block _ (lt_of_heap (unhide HX)) id).trans (unhide HX))
  have HS := hide (((fx).block _ (lt_of_heap (unhide HS)) id).trans (unhide HS))
  have HQB := hide (((fx).block _ (lt_of_heap (unhide HQB)) id).trans (unhide HQB))
  have HNB := hide (((fx).block _ (lt_of_heap (unhide HNB)) id).trans (unhide HNB))
  have F11 := hide ((unhide F10).trans fx (fun _ _ e => e))
  clear fx F10
  refine wp_cond_false hcond (wp_skip ?_)
  refine wp_seq (wp_seq ?_)
  refine wp_via (fun a9 w99 => a9.tmps.size = 207 ∧ a9.defers = [] ∧ a9.tmps.getD 2 undef = .pointer (some ⟨w.heap.size, 0, none⟩) ∧ a9.tmps.getD 13 undef = .pointer (some ⟨w7.heap.size, 0, none⟩) ∧ a9.tmps.getD 14 undef = .int .i64 EN ∧ a9.tmps.getD 194 undef = .bool false ∧ Fr (fun _ => False) w11 w99) ?_ ?_
  · skip
    by_cases hE : EQ = 0
    · have bE : (EQ == 0) = true := by simpa using hE
      obtain ⟨hck9, hs9, hm9, hap9⟩ := unhide HQ hE
      have hsm9 := And.intro hs9 hm9
      refine wp_region_kinds3 (fun _ => False) (by kernel_rfl) (by kernel_rfl) (by decide +kernel) (by rw [hsz]; decide +kernel) [.eq (.int .i64 EQ), .eq (.int .i64 EQ), .eq (.bool true), .eq (.bool true), .eq (q.v), .eq (.int .i64 0), .eq (.int .i64 0), .eq (.bool false), .eq (.bool false), .eq (.pointer (some ⟨w6.heap.size, 0 + 4, none⟩)), .eq (.int .u32 q.l), .eq (.pointer (some ⟨w.heap.size, 0 + 0, none⟩)), .eq (.pointer (some ⟨w.heap.size, 0 + 0 + 4, none⟩)), .eq (.int .u32 z.x.l), .eq (.bool false), .eq (.bool false), .eq (.bool false), .eq (.pointer (some ⟨w6.heap.size, 0 + 9, none⟩)), .eq (.int .u64 q.ta), .eq (.pointer (some ⟨w.heap.size, 0 + 0, none⟩)), .eq (.pointer (some ⟨w.heap.size, 0 + 0 + 9, none⟩)), .eq (.int .u64 z.x.ta), .eq (.bool false), .eq (.bool false), .eq (.bool false), .eq (.pointer (some ⟨w.heap.size, 0 + 0, none⟩)), .eq (z.x.v), .eq (q.v), .eq (.pointer (some ⟨w.heap.size, 0 + 0, none⟩)), .eq (z.x.v), .eq ((wiX q z.x).v), .eq (.bool true), .eq (.bool false), .eq (.bool false), .eq (.bool false)] [] (by decide) (by decide) (chain_paths _ [] (by kernel_rfl)) (fun _ _ => True) trivial ?steps ?done
      case steps =>
        refine ⟨?_, ?_⟩
        · intro a' w' k' hb hf hs hc hq hg hd
          exact .inl ⟨wantedN rfl, k_val (.int .i64 EQ) (by decide) trivial (x_move rfl ((hb.old 12 (by decide +kernel)).trans h12)) rfl⟩
        refine ⟨?_, ?_⟩
        · intro a' w' k' hb hf hs hc hq hg hd
          exact .inl ⟨wantedN rfl, k_call 17 _ (by decide) (e_call1 rfl rfl (hd 0 (by kernel_rfl) 160 rfl) (fun _ _ => by simp [go_sem])) ((num_any _ _).mono (by rintro e w9 ⟨rfl, rfl⟩; exact ⟨_, rfl, rfl, Fr.refl _ _, trivial⟩))⟩
        refine ⟨?_, ?_⟩
        · intro a' w' k' hb hf hs hc hq hg hd
          exact .inl ⟨wantedN rfl, k_val (.bool true) (by decide) trivial (x_eqI Try.underlying3 rfl (hd 1 (by kernel_rfl) 161 rfl) rfl bE) rfl⟩
        refine ⟨?_, ?_⟩
        · intro a' w' k' hb hf hs hc hq hg hd
          exact .inl ⟨wantedN rfl, k_val (.bool true) (by decide) trivial (x_move rfl (hd 2 (by kernel_rfl) 162 rfl)) rfl⟩
        refine ⟨?_, ?_⟩
        · intro a' w' k' hb hf hs hc hq hg hd
          exact .inl ⟨wantedT (d := 163) rfl rfl (by rw [hb.size, hsz]; omega) (hd 3 (by kernel_rfl) 163 rfl), k_val (q.v) (by decide) trivial (x_load25 rfl ((hb.old 11 (by decide +kernel)).trans h11) (by rw [hf.block _ (lt_of_heap (unhide HQB)) id]; exact unhide HQB)) rfl⟩
        refine ⟨?_, ?_⟩
        · intro a' w' k' hb hf hs hc hq hg hd
          exact .inl ⟨wantedT (d := 163) rfl rfl (by rw [hb.size, hsz]; omega) (hd 3 (by kernel_rfl) 163 rfl), k_call 18 _ (by decide) (e_call1 rfl rfl (hd 4 (by kernel_rfl) 164 rfl) (fun _ _ => by simp [go_sem])) ((check_any q _).mono (by rintro e w9 ⟨rfl, f9⟩; exact ⟨_, rfl, by rw [hck9]; rfl, f9, trivial⟩))⟩
        refine ⟨?_, ?_⟩
        · intro a' w' k' hb hf hs hc hq hg hd
          exact .inl ⟨wantedT (d := 163) rfl rfl (by rw [hb.size, hsz]; omega) (hd 3 (by kernel_rfl) 163 rfl), k_call 17 _ (by decide) (e_call1 rfl rfl (hd 5 (by kernel_rfl) 165 rfl) (fun _ _ => by simp [go_sem])) ((num_any _ _).mono (by rintro e w9 ⟨rfl, rfl⟩; exact ⟨_, rfl, rfl, Fr.refl _ _, trivial⟩))⟩
        refine ⟨?_, ?_⟩
        · intro a' w' k' hb hf hs hc hq hg hd
          exact .inl ⟨wantedT (d := 163) rfl rfl (by rw [hb.size, hsz]; omega) (hd 3 (by kernel_rfl) 163 rfl), k_val (.bool false) (by decide) trivial (x_neI Try.underlying3 rfl (hd 6 (by kernel_rfl) 166 rfl) rfl rfl) rfl⟩
        refine ⟨?_, ?_⟩
        · intro a' w' k' hb hf hs hc hq hg hd
          exact .inl ⟨wantedT (d := 163) rfl rfl (by rw [hb.size, hsz]; omega) (hd 3 (by kernel_rfl) 163 rfl), k_val (.bool false) (by decide) trivial (x_move rfl (hd 7 (by kernel_rfl) 167 rfl)) rfl⟩
        refine ⟨?_, ?_⟩
        · intro a' w' k' hb hf hs hc hq hg hd
          exact .inl ⟨wantedF (d := 168) rfl rfl (by rw [hb.size, hsz]; omega) (hd 8 (by kernel_rfl) 168 rfl), k_val (.pointer (some ⟨w6.heap.size, 0 + 4, none⟩)) (by decide) trivial (x_field (fa25_4 _ _) rfl ((hb.old 11 (by decide +kernel)).trans h11)) rfl⟩
        refine ⟨?_, ?_⟩
        · intro a' w' k' hb hf hs hc hq hg hd
          exact .inl ⟨wantedF (d := 168) rfl rfl (by rw [hb.size, hsz]; omega) (hd 8 (by kernel_rfl) 168 rfl), k_val (.int .u32 q.l) (by decide) trivial (x_load1 ld23 rfl (hd 9 (by kernel_rfl) 169 rfl) (by rw [cell_of_heap ((hf.block _ (lt_of_heap (unhide HQB)) id).trans (unhide HQB))]; rfl)) rfl⟩
        refine ⟨?_, ?_⟩
        · intro a' w' k' hb hf hs hc hq hg hd
          exact .inl ⟨wantedF (d := 168) rfl rfl (by rw [hb.size, hsz]; omega) (hd 8 (by kernel_rfl) 168 rfl), k_val (.pointer (some ⟨w.heap.size, 0 + 0, none⟩)) (by decide) trivial (x_field (fa59_0 _ _) rfl ((hb.old 2 (by decide +kernel)).trans h2)) rfl⟩
        refine ⟨?_, ?_⟩
        · intro a' w' k' hb hf hs hc hq hg hd
          exact .inl ⟨wantedF (d := 168) rfl rfl (by rw [hb.size, hsz]; omega) (hd 8 (by kernel_rfl) 168 rfl), k_val (.pointer (some ⟨w.heap.size, 0 + 0 + 4, none⟩)) (by decide) trivial (x_field (fa25_4 _ _) rfl (hd 11 (by kernel_rfl) 171 rfl)) rfl⟩
        refine ⟨?_, ?_⟩
        · intro a' w' k' hb hf hs hc hq hg hd
          exact .inl ⟨wantedF (d := 168) rfl rfl (by rw [hb.size, hsz]; omega) (hd 8 (by kernel_rfl) 168 rfl), k_val (.int .u32 z.x.l) (by decide) trivial (x_load1 ld23 rfl (hd 12 (by kernel_rfl) 172 rfl) (by rw [cell_of_heap ((hf.block _ (lt_of_heap (unhide HX)) id).trans (unhide HX))]; rfl)) rfl⟩
        refine ⟨?_, ?_⟩
        · intro a' w' k' hb hf hs hc hq hg hd
          exact .inl ⟨wantedF (d := 168) rfl rfl (by rw [hb.size, hsz]; omega) (hd 8 (by kernel_rfl) 168 rfl), k_val (.bool false) (by decide) trivial (x_neI Try.underlying23 rfl (hd 10 (by kernel_rfl) 170 rfl) (hd 13 (by kernel_rfl) 173 rfl) (by simp [hsm9])) rfl⟩
        refine ⟨?_, ?_⟩
        · intro a' w' k' hb hf hs hc hq hg hd
          exact .inl ⟨wantedT (d := 163) rfl rfl (by rw [hb.size, hsz]; omega) (hd 3 (by kernel_rfl) 163 rfl), k_val (.bool false) (by decide) trivial (x_pickF rfl (hd 8 (by kernel_rfl) 168 rfl) (hd 14 (by kernel_rfl) 174 rfl)) rfl⟩
        refine ⟨?_, ?_⟩
        · intro a' w' k' hb hf hs hc hq hg hd
          exact .inl ⟨wantedT (d := 163) rfl rfl (by rw [hb.size, hsz]; omega) (hd 3 (by kernel_rfl) 163 rfl), k_val (.bool false) (by decide) trivial (x_move rfl (hd 15 (by kernel_rfl) 175 rfl)) rfl⟩
        refine ⟨?_, ?_⟩
        · intro a' w' k' hb hf hs hc hq hg hd
          exact .inl ⟨wantedF (d := 176) rfl rfl (by rw [hb.size, hsz]; omega) (hd 16 (by kernel_rfl) 176 rfl), k_val (.pointer (some ⟨w6.heap.size, 0 + 9, none⟩)) (by decide) trivial (x_field (fa25_9 _ _) rfl ((hb.old 11 (by decide +kernel)).trans h11)) rfl⟩
        refine ⟨?_, ?_⟩
        · intro a' w' k' hb hf hs hc hq hg hd
          exact .inl ⟨wantedF (d := 176) rfl rfl (by rw [hb.size, hsz]; omega) (hd 16 (by kernel_rfl) 176 rfl), k_val (.int .u64 q.ta) (by decide) trivial (x_load1 ld22 rfl (hd 17 (by kernel_rfl) 177 rfl) (by rw [cell_of_heap ((hf.block _ (lt_of_heap (unhide HQB)) id).trans (unhide HQB))]; rfl)) rfl⟩
        refine ⟨?_, ?_⟩
        · intro a' w' k' hb hf hs hc hq hg hd
          exact .inl ⟨wantedF (d := 176) rfl rfl (by rw [hb.size, hsz]; omega) (hd 16 (by kernel_rfl) 176 rfl), k_val (.pointer (some ⟨w.heap.size, 0 + 0, none⟩)) (by decide) trivial (x_field (fa59_0 _ _) rfl ((hb.old 2 (by decide +kernel)).trans h2)) rfl⟩
        refine ⟨?_, ?_⟩
        · intro a' w' k' hb hf hs hc hq hg hd
          exact .inl ⟨wantedF (d := 176) rfl rfl (by rw [hb.size, hsz]; omega) (hd 16 (by kernel_rfl) 176 rfl), k_val (.pointer (some ⟨w.heap.size, 0 + 0 + 9, none⟩)) (by decide) trivial (x_field (fa25_9 _ _) rfl (hd 19 (by kernel_rfl) 179 rfl)) rfl⟩
        refine ⟨?_, ?_⟩
        · intro a' w' k' hb hf hs hc hq hg hd
          exact .inl ⟨wantedF (d := 176) rfl rfl (by rw [hb.size, hsz]; omega) (hd 16 (by kernel_rfl) 176 rfl), k_val (.int .u64 z.x.ta) (by decide) trivial (x_load1 ld22 rfl (hd 20 (by kernel_rfl) 180 rfl) (by rw [cell_of_heap ((hf.block _ (lt_of_heap (unhide HX)) id).trans (unhide HX))]; rfl)) rfl⟩
        refine ⟨?_, ?_⟩
        · intro a' w' k' hb hf hs hc hq hg hd
          exact .inl ⟨wantedF (d := 176) rfl rfl (by rw [hb.size, hsz]; omega) (hd 16 (by kernel_rfl) 176 rfl), k_val (.bool false) (by decide) trivial (x_neI Try.underlying22 rfl (hd 18 (by kernel_rfl) 178 rfl) (hd 21 (by kernel_rfl) 181 rfl) (by simp [hsm9])) rfl⟩
        refine ⟨?_, ?_⟩
        · intro a' w' k' hb hf hs hc hq hg hd
          exact .inl ⟨wantedT (d := 163) rfl rfl (by rw [hb.size, hsz]; omega) (hd 3 (by kernel_rfl) 163 rfl), k_val (.bool false) (by decide) trivial (x_pickF rfl (hd 16 (by kernel_rfl) 176 rfl) (hd 22 (by kernel_rfl) 182 rfl)) rfl⟩
        refine ⟨?_, ?_⟩
        · intro a' w' k' hb hf hs hc hq hg hd
          exact .inl ⟨wantedT (d := 163) rfl rfl (by rw [hb.size, hsz]; omega) (hd 3 (by kernel_rfl) 163 rfl), k_val (.bool false) (by decide) trivial (x_move rfl (hd 23 (by kernel_rfl) 183 rfl)) rfl⟩
        refine ⟨?_, ?_⟩
        · intro a' w' k' hb hf hs hc hq hg hd
          exact .inl ⟨wantedF (d := 184) rfl rfl (by rw [hb.size, hsz]; omega) (hd 24 (by kernel_rfl) 184 rfl), k_val (.pointer (some ⟨w.heap.size, 0 + 0, none⟩)) (by decide) trivial (x_field (fa59_0 _ _) rfl ((hb.old 2 (by decide +kernel)).trans h2)) rfl⟩
        refine ⟨?_, ?_⟩
        · intro a' w' k' hb hf hs hc hq hg hd
          exact .inl ⟨wantedF (d := 184) rfl rfl (by rw [hb.size, hsz]; omega) (hd 24 (by kernel_rfl) 184 rfl), k_val (z.x.v) (by decide) trivial (x_loadC rfl (hd 25 (by kernel_rfl) 185 rfl) (by rw [hf.block _ (lt_of_heap (unhide HX)) id]; exact unhide HX)) rfl⟩
        refine ⟨?_, ?_⟩
        · intro a' w' k' hb hf hs hc hq hg hd
          exact .inl ⟨wantedF (d := 184) rfl rfl (by rw [hb.size, hsz]; omega) (hd 24 (by kernel_rfl) 184 rfl), k_val (q.v) (by decide) trivial (x_load25 rfl ((hb.old 11 (by decide +kernel)).trans h11) (by rw [hf.block _ (lt_of_heap (unhide HQB)) id]; exact unhide HQB)) rfl⟩
        refine ⟨?_, ?_⟩
        · intro a' w' k' hb hf hs hc hq hg hd
          exact .inl ⟨wantedF (d := 184) rfl rfl (by rw [hb.size, hsz]; omega) (hd 24 (by kernel_rfl) 184 rfl), k_val (.pointer (some ⟨w.heap.size, 0 + 0, none⟩)) (by decide) trivial (x_field (fa59_0 _ _) rfl ((hb.old 2 (by decide +kernel)).trans h2)) rfl⟩
        refine ⟨?_, ?_⟩
        · intro a' w' k' hb hf hs hc hq hg hd
          exact .inl ⟨wantedF (d := 184) rfl rfl (by rw [hb.size, hsz]; omega) (hd 24 (by kernel_rfl) 184 rfl), k_val (z.x.v) (by decide) trivial (x_loadC rfl (hd 28 (by kernel_rfl) 188 rfl) (by rw [hf.block _ (lt_of_heap (unhide HX)) id]; exact unhide HX)) rfl⟩
        refine ⟨?_, ?_⟩
        · intro a' w' k' hb hf hs hc hq hg hd
          exact .inl ⟨wantedF (d := 184) rfl rfl (by rw [hb.size, hsz]; omega) (hd 24 (by kernel_rfl) 184 rfl), k_call 39 _ (by decide) (e_call2 rfl rfl (hd 27 (by kernel_rfl) 187 rfl) (hd 29 (by kernel_rfl) 189 rfl) (fun _ _ => by simp [go_sem])) ((with_any _ _ _).mono (by rintro e w9 ⟨rfl, f9⟩; exact ⟨_, rfl, rfl, f9, trivial⟩))⟩
        refine ⟨?_, ?_⟩
        · intro a' w' k' hb hf hs hc hq hg hd
          exact .inl ⟨wantedF (d := 184) rfl rfl (by rw [hb.size, hsz]; omega) (hd 24 (by kernel_rfl) 184 rfl), k_call 38 _ (by decide) (e_call2 rfl rfl (hd 26 (by kernel_rfl) 186 rfl) (hd 30 (by kernel_rfl) 190 rfl) (fun _ _ => by simp [go_sem])) ((apart_any _ _ _).mono (by rintro e w9 ⟨rfl, f9⟩; exact ⟨_, rfl, by rw [hap9]; rfl, f9, trivial⟩))⟩
        refine ⟨?_, ?_⟩
        · intro a' w' k' hb hf hs hc hq hg hd
          exact .inl ⟨wantedF (d := 184) rfl rfl (by rw [hb.size, hsz]; omega) (hd 24 (by kernel_rfl) 184 rfl), k_val (.bool false) (by decide) trivial (x_not (b := true) rfl (hd 31 (by kernel_rfl) 191 rfl)) rfl⟩
        refine ⟨?_, ?_⟩
        · intro a' w' k' hb hf hs hc hq hg hd
          exact .inl ⟨wantedT (d := 163) rfl rfl (by rw [hb.size, hsz]; omega) (hd 3 (by kernel_rfl) 163 rfl), k_val (.bool false) (by decide) trivial (x_pickF rfl (hd 24 (by kernel_rfl) 184 rfl) (hd 32 (by kernel_rfl) 192 rfl)) rfl⟩
        refine ⟨?_, ?_⟩
        · intro a' w' k' hb hf hs hc hq hg hd
          exact .inl ⟨wantedN rfl, k_val (.bool false) (by decide) trivial (x_pickT rfl (hd 3 (by kernel_rfl) 163 rfl) (hd 33 (by kernel_rfl) 193 rfl)) rfl⟩
        exact trivial
      case done =>
        intro a' w' hb hf hs hall
        exact ⟨by rw [hb.size]; exact hsz, by rw [hb.defers]; exact hdf, (hb.old 2 (by decide +kernel)).trans h2, (hb.old 13 (by decide +kernel)).trans h13, (hb.old 14 (by decide +kernel)).trans h14, hall 34 (by decide) 194 rfl, hf⟩
    · have bE : (EQ == 0) = false := by simpa using hE
      refine wp_region_kinds3 (fun _ => False) (by kernel_rfl) (by kernel_rfl) (by decide +kernel) (by rw [hsz]; decide +kernel) [.eq (.int .i64 EQ), .eq (.int .i64 EQ), .eq (.bool false), .eq (.bool false), .eq undef, .eq undef, .eq undef, .eq undef, .eq undef, .eq undef, .eq undef, .eq undef, .eq undef, .eq undef, .eq undef, .eq undef, .eq undef, .eq undef, .eq undef, .eq undef, .eq undef, .eq undef, .eq undef, .eq undef, .eq undef, .eq undef, .eq undef, .eq undef, .eq undef, .eq undef, .eq undef, .eq undef, .eq undef, .eq undef, .eq (.bool false)] [] (by decide) (by decide) (chain_paths _ [] (by kernel_rfl)) (fun _ _ => True) trivial ?steps ?done
      case steps =>
        refine ⟨?_, ?_⟩
        · intro a' w' k' hb hf hs hc hq hg hd
          exact .inl ⟨wantedN rfl, k_val (.int .i64 EQ) (by decide) trivial (x_move rfl ((hb.old 12 (by decide +kernel)).trans h12)) rfl⟩
        refine ⟨?_, ?_⟩
        · intro a' w' k' hb hf hs hc hq hg hd
          exact .inl ⟨wantedN rfl, k_call 17 _ (by decide) (e_call1 rfl rfl (hd 0 (by kernel_rfl) 160 rfl) (fun _ _ => by simp [go_sem])) ((num_any _ _).mono (by rintro e w9 ⟨rfl, rfl⟩; exact ⟨_, rfl, rfl, Fr.refl _ _, trivial⟩))⟩
        refine ⟨?_, ?_⟩
        · intro a' w' k' hb hf hs hc hq hg hd
          exact .inl ⟨wantedN rfl, k_val (.bool false) (by decide) trivial (x_eqI Try.underlying3 rfl (hd 1 (by kernel_rfl) 161 rfl) rfl bE) rfl⟩
        refine ⟨?_, ?_⟩
        · intro a' w' k' hb hf hs hc hq hg hd
          exact .inl ⟨wantedN rfl, k_val (.bool false) (by decide) trivial (x_move rfl (hd 2 (by kernel_rfl) 162 rfl)) rfl⟩
        refine ⟨?_, ?_⟩
        · intro a' w' k' hb hf hs hc hq hg hd
          exact .inr ⟨offT (d := 163) rfl rfl (by rw [hb.size, hsz]; omega) (hd 3 (by kernel_rfl) 163 rfl), by decide, rfl, Fr.refl _ _⟩
        refine ⟨?_, ?_⟩
        · intro a' w' k' hb hf hs hc hq hg hd
          exact .inr ⟨offT (d := 163) rfl rfl (by rw [hb.size, hsz]; omega) (hd 3 (by kernel_rfl) 163 rfl), by decide, rfl, Fr.refl _ _⟩
        refine ⟨?_, ?_⟩
        · intro a' w' k' hb hf hs hc hq hg hd
          exact .inr ⟨offT (d := 163) rfl rfl (by rw [hb.size, hsz]; omega) (hd 3 (by kernel_rfl) 163 rfl), by decide, rfl, Fr.refl _ _⟩
        refine ⟨?_, ?_⟩
        · intro a' w' k' hb hf hs hc hq hg hd
          exact .inr ⟨offT (d := 163) rfl rfl (by rw [hb.size, hsz]; omega) (hd 3 (by kernel_rfl) 163 rfl), by decide, rfl, Fr.refl _ _⟩
        refine ⟨?_, ?_⟩
        · intro a' w' k' hb hf hs hc hq hg hd
          exact .inr ⟨offT (d := 163) rfl rfl (by rw [hb.size, hsz]; omega) (hd 3 (by kernel_rfl) 163 rfl), by decide, rfl, Fr.refl _ _⟩
        refine ⟨?_, ?_⟩
        · intro a' w' k' hb hf hs hc hq hg hd
          exact .inr ⟨offU (d := 168) rfl rfl (hd 8 (by kernel_rfl) 168 rfl), by decide, rfl, Fr.refl _ _⟩
        refine ⟨?_, ?_⟩
        · intro a' w' k' hb hf hs hc hq hg hd
          exact .inr ⟨offU (d := 168) rfl rfl (hd 8 (by kernel_rfl) 168 rfl), by decide, rfl, Fr.refl _ _⟩
        refine ⟨?_, ?_⟩
        · intro a' w' k' hb hf hs hc hq hg hd
          exact .inr ⟨offU (d := 168) rfl rfl (hd 8 (by kernel_rfl) 168 rfl), by decide, rfl, Fr.refl _ _⟩
        refine ⟨?_, ?_⟩
        · intro a' w' k' hb hf hs hc hq hg hd
          exact .inr ⟨offU (d := 168) rfl rfl (hd 8 (by kernel_rfl) 168 rfl), by decide, rfl, Fr.refl _ _⟩
        refine ⟨?_, ?_⟩
        · intro a' w' k' hb hf hs hc hq hg hd
          exact .inr ⟨offU (d := 168) rfl rfl (hd 8 (by kernel_rfl) 168 rfl), by decide, rfl, Fr.refl _ _⟩
        refine ⟨?_, ?_⟩
        · intro a' w' k' hb hf hs hc hq hg hd
          exact .inr ⟨offU (d := 168) rfl rfl (hd 8 (by kernel_rfl) 168 rfl), by decide, rfl, Fr.refl _ _⟩
        refine ⟨?_, ?_⟩
        · intro a' w' k' hb hf hs hc hq hg hd
          exact .inr ⟨offT (d := 163) rfl rfl (by rw [hb.size, hsz]; omega) (hd 3 (by kernel_rfl) 163 rfl), by decide, rfl, Fr.refl _ _⟩
        refine ⟨?_, ?_⟩
        · intro a' w' k' hb hf hs hc hq hg hd
          exact .inr ⟨offT (d := 163) rfl rfl (by rw [hb.size, hsz]; omega) (hd 3 (by kernel_rfl) 163 rfl), by decide, rfl, Fr.refl _ _⟩
        refine ⟨?_, ?_⟩
        · intro a' w' k' hb hf hs hc hq hg hd
          exact .inr ⟨offU (d := 176) rfl rfl (hd 16 (by kernel_rfl) 176 rfl), by decide, rfl, Fr.refl _ _⟩
        refine ⟨?_, ?_⟩
        · intro a' w' k' hb hf hs hc hq hg hd
          exact .inr ⟨offU (d := 176) rfl rfl (hd 16 (by kernel_rfl) 176 rfl), by decide, rfl, Fr.refl _ _⟩
        refine ⟨?_, ?_⟩
        · intro a' w' k' hb hf hs hc hq hg hd
          exact .inr ⟨offU (d := 176) rfl rfl (hd 16 (by kernel_rfl) 176 rfl), by decide, rfl, Fr.refl _ _⟩
        refine ⟨?_, ?_⟩
        · intro a' w' k' hb hf hs hc hq hg hd
          exact .inr ⟨offU (d := 176) rfl rfl (hd 16 (by kernel_rfl) 176 rfl), by decide, rfl, Fr.refl _ _⟩
        refine ⟨?_, ?_⟩
        · intro a' w' k' hb hf hs hc hq hg hd
          exact .inr ⟨offU (d := 176) rfl rfl (hd 16 (by kernel_rfl) 176 rfl), by decide, rfl, Fr.refl _ _⟩
        refine ⟨?_, ?_⟩
        · intro a' w' k' hb hf hs hc hq hg hd
          exact .inr ⟨offU (d := 176) rfl rfl (hd 16 (by kernel_rfl) 176 rfl), by decide, rfl, Fr.refl _ _⟩
        refine ⟨?_, ?_⟩
        · intro a' w' k' hb hf hs hc hq hg hd
          exact .inr ⟨offT (d := 163) rfl rfl (by rw [hb.size, hsz]; omega) (hd 3 (by kernel_rfl) 163 rfl), by decide, rfl, Fr.refl _ _⟩
        refine ⟨?_, ?_⟩
        · intro a' w' k' hb hf hs hc hq hg hd
          exact .inr ⟨offT (d := 163) rfl rfl (by rw [hb.size, hsz]; omega) (hd 3 (by kernel_rfl) 163 rfl), by decide, rfl, Fr.refl _ _⟩
        refine ⟨?_, ?_⟩
        · intro a' w' k' hb hf hs hc hq hg hd
          exact .inr ⟨offU (d := 184) rfl rfl (hd 24 (by kernel_rfl) 184 rfl), by decide, rfl, Fr.refl _ _⟩
        refine ⟨?_, ?_⟩
        · intro a' w' k' hb hf hs hc hq hg hd
          exact .inr ⟨offU (d := 184) rfl rfl (hd 24 (by kernel_rfl) 184 rfl), by decide, rfl, Fr.refl _ _⟩
        refine ⟨?_, ?_⟩
        · intro a' w' k' hb hf hs hc hq hg hd
          exact .inr ⟨offU (d := 184) rfl rfl (hd 24 (by kernel_rfl) 184 rfl), by decide, rfl, Fr.refl _ _⟩
        refine ⟨?_, ?_⟩
        · intro a' w' k' hb hf hs hc hq hg hd
          exact .inr ⟨offU (d := 184) rfl rfl (hd 24 (by kernel_rfl) 184 rfl), by decide, rfl, Fr.refl _ _⟩
        refine ⟨?_, ?_⟩
        · intro a' w' k' hb hf hs hc hq hg hd
          exact .inr ⟨offU (d := 184) rfl rfl (hd 24 (by kernel_rfl) 184 rfl), by decide, rfl, Fr.refl _ _⟩
        refine ⟨?_, ?_⟩
        · intro a' w' k' hb hf hs hc hq hg hd
          exact .inr ⟨offU (d := 184) rfl rfl (hd 24 (by kernel_rfl) 184 rfl), by decide, rfl, Fr.refl _ _⟩
        refine ⟨?_, ?_⟩
        · intro a' w' k' hb hf hs hc hq hg hd
          exact .inr ⟨offU (d := 184) rfl rfl (hd 24 (by kernel_rfl) 184 rfl), by decide, rfl, Fr.refl _ _⟩
        refine ⟨?_, ?_⟩
        · intro a' w' k' hb hf hs hc hq hg hd
          exact .inr ⟨offU (d := 184) rfl rfl (hd 24 (by kernel_rfl) 184 rfl), by decide, rfl, Fr.refl _ _⟩
        refine ⟨?_, ?_⟩
        · intro a' w' k' hb hf hs hc hq hg hd
          exact .inr ⟨offT (d := 163) rfl rfl (by rw [hb.size, hsz]; omega) (hd 3 (by kernel_rfl) 163 rfl), by decide, rfl, Fr.refl _ _⟩
        refine ⟨?_, ?_⟩
        · intro a' w' k' hb hf hs hc hq hg hd
          exact .inl ⟨wantedN rfl, k_val (.bool false) (by decide) trivial (x_pickF rfl (hd 3 (by kernel_rfl) 163 rfl) rfl) rfl⟩
        exact trivial
      case done =>
        intro a' w' hb hf hs hall
        exact ⟨by rw [hb.size]; exact hsz, by rw [hb.defers]; exact hdf, (hb.old 2 (by decide +kernel)).trans h2, (hb.old 13 (by decide +kernel)).trans h13, (hb.old 14 (by decide +kernel)).trans h14, hall 34 (by decide) 194 rfl, hf⟩
  clear hsz hdf h2 h11 h12 h13 h14 hcond
  rintro a1 w12 ⟨hsz, hdf, h2, h13, h14, hcond, fx⟩
  have HX := hide (((fx).block _ (lt_of_heap (unhide HX)) id).trans (unhide HX))
  have HS := hide (((fx).block _ (lt_of_heap (unhide HS)) id).trans (unhide HS))
  have HNB := hide (((fx).block _ (lt_of_heap (unhide HNB)) id).trans (unhide HNB))
  have F12 := hide ((unhide F11).trans fx (fun _ _ e => e))
  clear fx F11
  refine wp_cond_false hcond (wp_skip ?_)
  obtain ⟨f, hA⟩ := mkF (a := a1) (F := fun f => { tmps := #[f 0, f 1, f 2, f 3, f 4, f 5, f 6, f 7, f 8, f 9, f 10, f 11, f 12, .pointer (some ⟨w7.heap.size, 0, none⟩), .int .i64 EN, f 15, f 16, f 17, f 18, f 19, f 20, f 21, f 22, f 23, f 24, f 25, f 26, f 27, f 28, f 29, f 30, f 31, f 32, f 33, f 34, f 35, f 36, f 37, f 38, f 39, f 40, f 41, f 42, f 43, f 44, f 45, f 46, f 47, f 48, f 49, f 50, f 51, f 52, f 53, f 54, f 55, f 56, f 57, f 58, f 59, f 60, f 61, f 62, f 63, f 64, f 65, f 66, f 67, f 68, f 69, f 70, f 71, f 72, f 73, f 74, f 75, f 76, f 77, f 78, f 79, f 80, f 81, f 82, f 83, f 84, f 85, f 86, f 87, f 88, f 89, f 90, f 91, f 92, f 93, f 94, f 95, f 96, f 97, f 98, f 99, f 100, f 101, f 102, f 103, f 104, f 105, f 106, f 107, f 108, f 109, f 110, f 111, f 112, f 113, f 114, f 115, f 116, f 117, f 118, f 119, f 120, f 121, f 122, f 123, f 124, f 125, f 126, f 127, f 128, f 129, f 130, f 131, f 132, f 133, f 134, f 135, f 136, f 137, f 138, f 139, f 140, f 141, f 142, f 143, f 144, f 145, f 146, f 147, f 148, f 149, f 150, f 151, f 152, f 153, f 154, f 155, f 156, f 157, f 158, f 159, f 160, f 161, f 162, f 163, f 164, f 165, f 166, f 167, f 168, f 169, f 170, f 171, f 172, f 173, f 174, f 175, f 176, f 177, f 178, f 179, f 180, f 181, f 182, f 183, f 184, f 185, f 186, f 187, f 188, f 189, f 190, f 191, f 192, f 193, f 194, f 195, f 196, f 197, f 198, f 199, f 200, f 201, f 202, f 203, f 204, f 205, f 206], defers := [] }) (frame_eq (vs := [a1.tmps.getD 0 undef, a1.tmps.getD 1 undef, a1.tmps.getD 2 undef, a1.tmps.getD 3 undef, a1.tmps.getD 4 undef, a1.tmps.getD 5 undef, a1.tmps.getD 6 undef, a1.tmps.getD 7 undef, a1.tmps.getD 8 undef, a1.tmps.getD 9 undef, a1.tmps.getD 10 undef, a1.tmps.getD 11 undef, a1.tmps.getD 12 undef, .pointer (some ⟨w7.heap.size, 0, none⟩), .int .i64 EN, a1.tmps.getD 15 undef, a1.tmps.getD 16 undef, a1.tmps.getD 17 undef, a1.tmps.getD 18 undef, a1.tmps.getD 19 undef, a1.tmps.getD 20 undef, a1.tmps.getD 21 undef, a1.tmps.getD 22 undef, a1.tmps.getD 23 undef, a1.tmps.getD 24 undef, a1.tmps.getD 25 undef, a1.tmps.getD 26 undef, a1.tmps.getD 27 undef, a1.tmps.getD 28 undef, a1.tmps.getD 29 undef, a1.tmps.getD 30 undef, a1.tmps.getD 31 undef, a1.tmps.getD 32 undef, a1.tmps.getD 33 undef, a1.tmps.getD 34 undef, a1.tmps.getD 35 undef, a1.tmps.getD 36 undef, a1.tmps.getD 37 undef, a1.tmps.getD 38 undef, a1.tmps.getD 39 undef, a1.tmps.getD 40 undef, a1.tmps.getD 41 undef, a1.tmps.getD 42 undef, a1.tmps.getD 43 undef, a1.tmps.getD 44 undef, a1.tmps.getD 45 undef, a1.tmps.getD 46 undef, a1.tmps.getD 47 undef, a1.tmps.getD 48 undef, a1.tmps.getD 49 undef, a1.tmps.getD 50 undef, a1.tmps.getD 51 undef, a1.tmps.getD 52 undef, a1.tmps.getD 53 undef, a1.tmps.getD 54 undef, a1.tmps.getD 55 undef, a1.tmps.getD 56 undef, a1.tmps.getD 57 undef, a1.tmps.getD 58 undef, a1.tmps.getD 59 undef, a1.tmps.getD 60 undef, a1.tmps.getD 61 undef, a1.tmps.getD 62 undef, a1.tmps.getD 63 undef, a1.tmps.getD 64 undef, a1.tmps.getD 65 undef, a1.tmps.getD 66 undef, a1.tmps.getD 67 undef, a1.tmps.getD 68 undef, a1.tmps.getD 69 undef, a1.tmps.getD 70 undef, a1.tmps.getD 71 undef, a1.tmps.getD 72 undef, a1.tmps.getD 73 undef, a1.tmps.getD 74 undef, a1.tmps.getD 75 undef, a1.tmps.getD 76 undef, a1.tmps.getD 77 undef, a1.tmps.getD 78 undef, a1.tmps.getD 79 undef, a1.tmps.getD 80 undef, a1.tmps.getD 81 undef, a1.tmps.getD 82 undef, a1.tmps.getD 83 undef, a1.tmps.getD 84 undef, a1.tmps.getD 85 undef, a1.tmps.getD 86 undef, a1.tmps.getD 87 undef, a1.tmps.getD 88 undef, a1.tmps.getD 89 undef, a1.tmps.getD 90 undef, a1.tmps.getD 91 undef, a1.tmps.getD 92 undef, a1.tmps.getD 93 undef, a1.tmps.getD 94 undef, a1.tmps.getD 95 undef, a1.tmps.getD 96 undef, a1.tmps.getD 97 undef, a1.tmps.getD 98 undef, a1.tmps.getD 99 undef, a1.tmps.getD 100 undef, a1.tmps.getD 101 undef, a1.tmps.getD 102 undef, a1.tmps.getD 103 undef, a1.tmps.getD 104 undef, a1.tmps.getD 105 undef, a1.tmps.getD 106 undef, a1.tmps.getD 107 undef, a1.tmps.getD 108 undef, a1.tmps.getD 109 undef, a1.tmps.getD 110 undef, a1.tmps.getD 111 undef, a1.tmps.getD 112 undef, a1.tmps.getD 113 undef, a1.tmps.getD 114 undef, a1.tmps.getD 115 undef, a1.tmps.getD 116 undef, a1.tmps.getD 117 undef, a1.tmps.getD 118 undef, a1.tmps.getD 119 undef, a1.tmps.getD 120 undef, a1.tmps.getD 121 undef, a1.tmps.getD 122 undef, a1.tmps.getD 123 undef, a1.tmps.getD 124 undef, a1.tmps.getD 125 undef, a1.tmps.getD 126 undef, a1.tmps.getD 127 undef, a1.tmps.getD 128 undef, a1.tmps.getD 129 undef, a1.tmps.getD 130 undef, a1.tmps.getD 131 undef, a1.tmps.getD 132 undef, a1.tmps.getD 133 undef, a1.tmps.getD 134 undef, a1.tmps.getD 135 undef, a1.tmps.getD 136 undef, a1.tmps.getD 137 undef, a1.tmps.getD 138 undef, a1.tmps.getD 139 undef, a1.tmps.getD 140 undef, a1.tmps.getD 141 undef, a1.tmps.getD 142 undef, a1.tmps.getD 143 undef, a1.tmps.getD 144 undef, a1.tmps.getD 145 undef, a1.tmps.getD 146 undef, a1.tmps.getD 147 undef, a1.tmps.getD 148 undef, a1.tmps.getD 149 undef, a1.tmps.getD 150 undef, a1.tmps.getD 151 undef, a1.tmps.getD 152 undef, a1.tmps.getD 153 undef, a1.tmps.getD 154 undef, a1.tmps.getD 155 undef, a1.tmps.getD 156 undef, a1.tmps.getD 157 undef, a1.tmps.getD 158 undef, a1.tmps.getD 159 undef, a1.tmps.getD 160 undef, a1.tmps.getD 161 undef, a1.tmps.getD 162 undef, a1.tmps.getD 163 undef, a1.tmps.getD 164 undef, a1.tmps.getD 165 undef, a1.tmps.getD 166 undef, a1.tmps.getD 167 undef, a1.tmps.getD 168 undef, a1.tmps.getD 169 undef, a1.tmps.getD 170 undef, a1.tmps.getD 171 undef, a1.tmps.getD 172 undef, a1.tmps.getD 173 undef, a1.tmps.getD 174 undef, a1.tmps.getD 175 undef, a1.tmps.getD 176 undef, a1.tmps.getD 177 undef, a1.tmps.getD 178 undef, a1.tmps.getD 179 undef, a1.tmps.getD 180 undef, a1.tmps.getD 181 undef, a1.tmps.getD 182 undef, a1.tmps.getD 183 undef, a1.tmps.getD 184 undef, a1.tmps.getD 185 undef, a1.tmps.getD 186 undef, a1.tmps.getD 187 undef, a1.tmps.getD 188 undef, a1.tmps.getD 189 undef, a1.tmps.getD 190 undef, a1.tmps.getD 191 undef, a1.tmps.getD 192 undef, a1.tmps.getD 193 undef, a1.tmps.getD 194 undef, a1.tmps.getD 195 undef, a1.tmps.getD 196 undef, a1.tmps.getD 197 undef, a1.tmps.getD 198 undef, a1.tmps.getD 199 undef, a1.tmps.getD 200 undef, a1.tmps.getD 201 undef, a1.tmps.getD 202 undef, a1.tmps.getD 203 undef, a1.tmps.getD 204 undef, a1.tmps.getD 205 undef, a1.tmps.getD 206 undef]) hsz hdf ⟨rfl, rfl, rfl, rfl, rfl, rfl, rfl, rfl, rfl, rfl, rfl, rfl, rfl, h13, h14, rfl, rfl, rfl, rfl, rfl, rfl, rfl, rfl, rfl, rfl, rfl, rfl, rfl, rfl, rfl, rfl, rfl, rfl, rfl, rfl, rfl, rfl, rfl, rfl, rfl, rfl, rfl, rfl, rfl, rfl, rfl, rfl, rfl, rfl, rfl, rfl, rfl, rfl, rfl, rfl, rfl, rfl, rfl, rfl, rfl, rfl, rfl, rfl, rfl, rfl, rfl, rfl, rfl, rfl, rfl, rfl, rfl, rfl, rfl, rfl, rfl, rfl, rfl, rfl, rfl, rfl, rfl, rfl, rfl, rfl, rfl, rfl, rfl, rfl, rfl, rfl, rfl, rfl, rfl, rfl, rfl, rfl, rfl, rfl, rfl, rfl, rfl, rfl, rfl, rfl, rfl, rfl, rfl, rfl, rfl, rfl, rfl, rfl, rfl, rfl, rfl, rfl, rfl, rfl, rfl, rfl, rfl, rfl, rfl, rfl, rfl, rfl, rfl, rfl, rfl, rfl, rfl, rfl, rfl, rfl, rfl, rfl, rfl, rfl, rfl, rfl, rfl, rfl, rfl, rfl, rfl, rfl, rfl, rfl, rfl, rfl, rfl, rfl, rfl, rfl, rfl, rfl, rfl, rfl, rfl, rfl, rfl, rfl, rfl, rfl, rfl, rfl, rfl, rfl, rfl, rfl, rfl, rfl, rfl, rfl, rfl, rfl, rfl, rfl, rfl, rfl, rfl, rfl, rfl, rfl, rfl, rfl, rfl, rfl, rfl, rfl, rfl, rfl, rfl, rfl, rfl, rfl, rfl, rfl, rfl, rfl, rfl, rfl, rfl, rfl, rfl, rfl, trivial⟩)
  subst hA
  show Code.wp _ _ _ _ _
  clear h2 h13 h14 hsz hdf hcond
  by_cases hE : EN = 0
  · have hck9 := unhide HN hE
    have bE : (EN != 0) = false := by simpa using hE
    clear hE
    go_wp2_with fail
    refine (num_any _ _).mono ?_
    rintro e w' ⟨rfl, rfl⟩
    go_wp2_with (first | (apply wl_load25 _ rfl rfl _ rfl; (case hr => exact rowN_h (unhide HNB)); (case hc => exact rowD_h (unhide HNB))))
    refine (check_any nn _).mono ?_
    rintro e w13 ⟨rfl, f13⟩
    rw [hck9]
    go_wp2_with fail
    refine (num_any _ _).mono ?_
    rintro e w' ⟨rfl, rfl⟩
    go_wp2_with fail
    refine (live_any _).mono ?_
    rintro e wl ⟨rfl, fl⟩
    go_wp2_with fail
    go_ret
    exact ⟨rfl, ((unhide F12).trans f13 (fun _ _ e => e)).trans fl (fun _ _ e => e)⟩
  · have bE : (EN != 0) = true := by simpa using hE
    go_wp2_with fail
    refine (num_any _ _).mono ?_
    rintro e w' ⟨rfl, rfl⟩
    go_wp2_with fail
    refine (live_any _).mono ?_
    rintro e wl ⟨rfl, fl⟩
    go_wp2_with fail
    go_ret
    exact ⟨rfl, (unhide F12).trans fl (fun _ _ e => e)⟩
end Go.Proofs.Ytbenailemoefhaa
