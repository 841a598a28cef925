/-
  InodeBytes, walked.
-/
import Derived.Test.YtbenailemoefhaaC4
import Derived.Test.YtbenailemoefhaaD6
import Derived.Test.YtbenailemoefhaaLk
namespace Go.Proofs.Ytbenailemoefhaa
open Go.RowKit Go.Lib
set_option linter.unusedVariables false
set_option linter.unusedSimpArgs false

attribute [local go_sem ↓] Go.wp_at_zero Go.wp_at_succ

set_option maxRecDepth 100000 in
set_option maxHeartbeats 8000000 in
theorem bytes_any (x : In) (hx : x.Ok) (v : Value) (b : List UInt8) (w : World) (h : Rd w v b) : Calls Try.prog 3 #[x.v, v] w fun e w' => e = .returned (.bool true) ∧ Fr (fun _ => False) w w' := by
  obtain ⟨ao, cap, rfl⟩ := h.shape
  have HK := hide hx
  have HR := hide h
  clear hx h
  obtain ⟨n, hn⟩ : ∃ n, n = b.length := ⟨_, rfl⟩
  rw [← hn] at HR ⊢
  have HN := hide hn
  clear hn
  go_enter Try.func3, Try.ntmps3
  go_upto_region 1 with fail
  have HR := hide ((unhide HR).kept ((Fr.refl (fun _ => False) w).alloc (.cells x.cs 25)) (fun _ _ e => e))
  have HX := hide (heap_alloc_new w (.cells x.cs 25))
  have F0 := hide ((Fr.refl (fun _ => False) w).alloc (.cells x.cs 25))
  refine wp_world ?_
  intro W hW
  rw [← hW] at HX HR F0
  clear hW
  go_wp2_with (first | (apply wl_load25 _ rfl rfl _ rfl; (case hr => exact rowN_h (unhide HX)); (case hc => exact rowD_h (unhide HX))))
  refine (long_any x _).mono ?_
  rintro e w0 ⟨rfl, f0⟩
  have HX := hide (((f0).block _ (lt_of_heap (unhide HX)) id).trans (unhide HX))
  have HR := hide ((unhide HR).kept (f0) (fun _ _ e => e))
  have F0 := hide ((unhide F0).trans f0 (fun _ _ e => e))
  clear f0
  generalize decide (2000 < (x.t.size : Int)) = lo
  cases lo
  case true =>
    go_wp2_with fail
    refine (live_any _).mono ?_
    rintro e wl ⟨rfl, fl⟩
    go_wp2_with fail
    go_ret
    exact ⟨rfl, (unhide F0).trans fl (fun _ _ e => e)⟩
  by_cases hl : (2000 : Int) < (n : Int)
  · have hd : decide ((2000 : Int) < (n : Int)) = true := decide_eq_true hl
    go_wp2_with fail
    refine (live_any _).mono ?_
    rintro e wl ⟨rfl, fl⟩
    go_wp2_with fail
    go_ret
    exact ⟨rfl, (unhide F0).trans fl (fun _ _ e => e)⟩
  have hd : decide ((2000 : Int) < (n : Int)) = false := decide_eq_false hl
  have HL := hide hl
  clear hl
  go_wp2_with (first | (apply wl_load25 _ rfl rfl _ rfl; (case hr => exact rowN_h (unhide HX)); (case hc => exact rowD_h (unhide HX))))
  refine (put_any x (unhide HK) _).mono ?_
  rintro e w1 ⟨v5, rfl, h1⟩
  have HX := hide (((h1.fr).block _ (lt_of_heap (unhide HX)) id).trans (unhide HX))
  have HR := hide ((unhide HR).kept (h1.fr) (fun _ _ e => e))
  have HV5 := hide h1.rd
  have F1 := hide ((unhide F0).trans h1.fr (fun _ _ e => e))
  clear h1 F0 hd
  go_upto_region 4 with fail
  go_wp2_with (first | (apply wl_load25 _ rfl rfl _ rfl; (case hr => exact rowN_h (unhide HX)); (case hc => exact rowD_h (unhide HX))))
  refine (rput_any x (unhide HK) _).mono ?_
  rintro e w2 ⟨v7, rfl, h2⟩
  have HX := hide (((h2.fr).block _ (lt_of_heap (unhide HX)) id).trans (unhide HX))
  have HR := hide ((unhide HR).kept (h2.fr) (fun _ _ e => e))
  have HV5 := hide ((unhide HV5).kept (h2.fr) (fun _ _ e => e))
  have HV7 := hide h2.rd
  have F2 := hide ((unhide F1).trans h2.fr (fun _ _ e => e))
  clear h2 F1
  have HC1 := fun W => check_any x W
  have HC2 := fun W => rcheck_any x W
  generalize ck x = E at *
  generalize pR x = B at *
  have HC1 := hide HC1
  have HC2 := hide HC2
  go_upto_region 5 with fail
  go_wp2_with (first | (refine wl_cln rfl rfl _ _ rfl rfl rfl (unhide HR) (by have := unhide HL; have := unhide HN; omega) ?_; intro a9 c9 w3 h3))
  have HX := hide (((h3.fr).block _ (lt_of_heap (unhide HX)) id).trans (unhide HX))
  have HR := hide ((unhide HR).kept (h3.fr) (fun _ _ e => e))
  have HV5 := hide ((unhide HV5).kept (h3.fr) (fun _ _ e => e))
  have HV7 := hide ((unhide HV7).kept (h3.fr) (fun _ _ e => e))
  have HV9 := hide h3.rd
  have F3 := hide ((unhide F2).trans h3.fr (fun _ _ e => e))
  clear h3 F2
  refine (get_any _ _ b (unhide HV9)).mono ?_
  rintro e w4 ⟨rfl, f4⟩
  have HX := hide (((f4).block _ (lt_of_heap (unhide HX)) id).trans (unhide HX))
  have HR := hide ((unhide HR).kept (f4) (fun _ _ e => e))
  have HV5 := hide ((unhide HV5).kept (f4) (fun _ _ e => e))
  have HV7 := hide ((unhide HV7).kept (f4) (fun _ _ e => e))
  have HV9 := hide ((unhide HV9).kept (f4) (fun _ _ e => e))
  have F4 := hide ((unhide F3).trans f4 (fun _ _ e => e))
  clear f4 F3
  obtain ⟨y, D, HE⟩ : ∃ (y : In) (D : Int), Res (gX b) (gE b) = .tuple #[y.v, .int .i64 D] := ⟨_, _, rfl⟩
  rw [HE]
  have HE := hide HE
  go_upto_region 7 with (first | (apply wl_store25 _ _ rfl rfl _ rfl _ rfl; (case hr => simp [go_sem]); (case hw => (simp [go_sem]; try exact rfl))))
  have HX := hide ((Below.heap_alloc w4 (.cells y.cs 25) _ (lt_of_heap (unhide HX))).trans (unhide HX))
  have HR := hide ((unhide HR).kept ((Fr.refl (fun _ => False) w4).alloc (.cells y.cs 25)) (fun _ _ e => e))
  have HV5 := hide ((unhide HV5).kept ((Fr.refl (fun _ => False) w4).alloc (.cells y.cs 25)) (fun _ _ e => e))
  have HV7 := hide ((unhide HV7).kept ((Fr.refl (fun _ => False) w4).alloc (.cells y.cs 25)) (fun _ _ e => e))
  have HV9 := hide ((unhide HV9).kept ((Fr.refl (fun _ => False) w4).alloc (.cells y.cs 25)) (fun _ _ e => e))
  have HY := hide (heap_alloc_new w4 (.cells y.cs 25))
  have F4 := hide ((unhide F4).alloc (.cells y.cs 25))
  refine wp_world ?_
  intro W4 hW4
  rw [← hW4] at HX HY HR HV5 HV7 HV9 F4
  clear hW4
  go_wp2_with fail
  refine (rget_any _ _ b (unhide HR)).mono ?_
  rintro e w5 ⟨rfl, f5⟩
  rw [unhide HE]
  have HX := hide (((f5).block _ (lt_of_heap (unhide HX)) id).trans (unhide HX))
  have HY := hide (((f5).block _ (lt_of_heap (unhide HY)) id).trans (unhide HY))
  have HR := hide ((unhide HR).kept (f5) (fun _ _ e => e))
  have HV5 := hide ((unhide HV5).kept (f5) (fun _ _ e => e))
  have HV7 := hide ((unhide HV7).kept (f5) (fun _ _ e => e))
  have HV9 := hide ((unhide HV9).kept (f5) (fun _ _ e => e))
  have F5 := hide ((unhide F4).trans f5 (fun _ _ e => e))
  clear f5 F4 HE
  go_upto_region 8 with (first | (apply wl_store25 _ _ rfl rfl _ rfl _ rfl; (case hr => simp [go_sem]); (case hw => (simp [go_sem]; try exact rfl))))
  have HX := hide ((Below.heap_alloc w5 (.cells y.cs 25) _ (lt_of_heap (unhide HX))).trans (unhide HX))
  have HY := hide ((Below.heap_alloc w5 (.cells y.cs 25) _ (lt_of_heap (unhide HY))).trans (unhide HY))
  have HR := hide ((unhide HR).kept ((Fr.refl (fun _ => False) w5).alloc (.cells y.cs 25)) (fun _ _ e => e))
  have HV5 := hide ((unhide HV5).kept ((Fr.refl (fun _ => False) w5).alloc (.cells y.cs 25)) (fun _ _ e => e))
  have HV7 := hide ((unhide HV7).kept ((Fr.refl (fun _ => False) w5).alloc (.cells y.cs 25)) (fun _ _ e => e))
  have HV9 := hide ((unhide HV9).kept ((Fr.refl (fun _ => False) w5).alloc (.cells y.cs 25)) (fun _ _ e => e))
  have HZ := hide (heap_alloc_new w5 (.cells y.cs 25))
  have F5 := hide ((unhide F5).alloc (.cells y.cs 25))
  refine wp_world ?_
  intro W5 hW5
  rw [← hW5] at HX HY HZ HR HV5 HV7 HV9 F5
  clear hW5
  refine wp_nameK ?_
  intro a0 hA
  have h1 : a0.tmps.getD 1 undef = .slice ao n cap := by rw [hA]; rfl
  have h2 : a0.tmps.getD 2 undef = .pointer (some ⟨w.heap.size, 0, none⟩) := by rw [hA]; rfl
  have h5 : a0.tmps.getD 5 undef = v5 := by rw [hA]; rfl
  have h6 : a0.tmps.getD 6 undef = .int .i64 E := by rw [hA]; rfl
  have h7 : a0.tmps.getD 7 undef = v7 := by rw [hA]; rfl
  have h8 : a0.tmps.getD 8 undef = .int .i64 E := by rw [hA]; rfl
  have h9 : a0.tmps.getD 9 undef = .slice a9 b.length c9 := by rw [hA]; rfl
  have h10 : a0.tmps.getD 10 undef = .pointer (some ⟨w4.heap.size, 0, none⟩) := by rw [hA]; rfl
  have h11 : a0.tmps.getD 11 undef = .int .i64 D := by rw [hA]; rfl
  have h12 : a0.tmps.getD 12 undef = .pointer (some ⟨w5.heap.size, 0, none⟩) := by rw [hA]; rfl
  have h13 : a0.tmps.getD 13 undef = .int .i64 D := by rw [hA]; rfl
  have hsz : a0.tmps.size = 85 := by rw [hA]; rfl
  have hdf : a0.defers = [] := by rw [hA]
  clear hA
  refine wp_region_kinds (fun _ => False) (by kernel_rfl) (by kernel_rfl) (by decide +kernel) (by rw [hsz]; decide +kernel) [.eq (v5), .eq (.string (str B)), .eq (v7), .eq (.string (str B)), .eq (.bool true), .eq (.bool true), .eq (.int .i64 E), .eq (.int .i64 E), .eq (.int .i64 E), .eq (.bool true), .eq (.bool true), .eq (.bool true), .eq (y.v), .eq (y.v), .eq (.bool true), .eq (.bool true), .eq (.bool true), .eq (.int .i64 D), .eq (.int .i64 D), .eq (.int .i64 D), .eq (.bool true), .eq (.bool true), .eq (.bool true), .eq (x.v), .eq (.int .i64 E), .eq (.int .i64 E), .eq (x.v), .eq (.int .i64 E), .eq (.bool true), .eq (.bool true), .eq (.bool true), .eq (.slice a9 b.length c9), .eq (.string (str b)), .eq (.slice ao n cap), .eq (.string (str b)), .eq (.bool true), .eq (.bool true), .eq (.bool true), .eq (.bool true), .eq (.bool true), .eq (.bool true)] [] (by decide) (by decide) (chain_paths _ [] (by kernel_rfl)) (fun _ _ => True) trivial ?steps ?done
  case steps =>
    refine ⟨?_, ?_⟩
    · intro a' w' k' hb hf hs hc hq hg hd
      exact ⟨wantedN rfl, k_val (v5) (by decide) trivial (x_move rfl ((hb.old 5 (by decide +kernel)).trans h5)) rfl⟩
    refine ⟨?_, ?_⟩
    · intro a' w' k' hb hf hs hc hq hg hd
      exact ⟨wantedN rfl, k_val (.string (str B)) (by decide) trivial (x_conv rfl (hd 0 (by kernel_rfl) 45 rfl) (cv26 ((unhide HV5).kept hf (fun _ _ e => e)))) rfl⟩
    refine ⟨?_, ?_⟩
    · intro a' w' k' hb hf hs hc hq hg hd
      exact ⟨wantedN rfl, k_val (v7) (by decide) trivial (x_move rfl ((hb.old 7 (by decide +kernel)).trans h7)) rfl⟩
    refine ⟨?_, ?_⟩
    · intro a' w' k' hb hf hs hc hq hg hd
      exact ⟨wantedN rfl, k_val (.string (str B)) (by decide) trivial (x_conv rfl (hd 2 (by kernel_rfl) 47 rfl) (cv26 ((unhide HV7).kept hf (fun _ _ e => e)))) rfl⟩
    refine ⟨?_, ?_⟩
    · intro a' w' k' hb hf hs hc hq hg hd
      exact ⟨wantedN rfl, k_val (.bool true) (by decide) trivial (x_eqS rfl (hd 1 (by kernel_rfl) 46 rfl) (hd 3 (by kernel_rfl) 48 rfl)) rfl⟩
    refine ⟨?_, ?_⟩
    · intro a' w' k' hb hf hs hc hq hg hd
      exact ⟨wantedN rfl, k_val (.bool true) (by decide) trivial (x_move rfl (hd 4 (by kernel_rfl) 49 rfl)) rfl⟩
    refine ⟨?_, ?_⟩
    · intro a' w' k' hb hf hs hc hq hg hd
      exact ⟨wantedT (d := 50) rfl rfl (by rw [hb.size, hsz]; omega) (hd 5 (by kernel_rfl) 50 rfl), k_val (.int .i64 E) (by decide) trivial (x_move rfl ((hb.old 6 (by decide +kernel)).trans h6)) rfl⟩
    refine ⟨?_, ?_⟩
    · intro a' w' k' hb hf hs hc hq hg hd
      exact ⟨wantedT (d := 50) rfl rfl (by rw [hb.size, hsz]; omega) (hd 5 (by kernel_rfl) 50 rfl), k_call 17 _ (by decide) (e_call1 rfl rfl (hd 6 (by kernel_rfl) 51 rfl) (fun _ _ => by simp [go_sem])) ((num_any _ _).mono (by rintro e w9 ⟨rfl, rfl⟩; exact ⟨_, rfl, rfl, Fr.refl _ _, trivial⟩))⟩
    refine ⟨?_, ?_⟩
    · intro a' w' k' hb hf hs hc hq hg hd
      exact ⟨wantedT (d := 50) rfl rfl (by rw [hb.size, hsz]; omega) (hd 5 (by kernel_rfl) 50 rfl), k_val (.int .i64 E) (by decide) trivial (x_move rfl ((hb.old 8 (by decide +kernel)).trans h8)) rfl⟩
    refine ⟨?_, ?_⟩
    · intro a' w' k' hb hf hs hc hq hg hd
      exact ⟨wantedT (d := 50) rfl rfl (by rw [hb.size, hsz]; omega) (hd 5 (by kernel_rfl) 50 rfl), k_val (.bool true) (by decide) trivial (x_eqI Try.underlying3 rfl (hd 7 (by kernel_rfl) 52 rfl) (hd 8 (by kernel_rfl) 53 rfl) (by first | rfl | decide | simp)) rfl⟩
    refine ⟨?_, ?_⟩
    · intro a' w' k' hb hf hs hc hq hg hd
      exact ⟨wantedN rfl, k_val (.bool true) (by decide) trivial (x_pickT rfl (hd 5 (by kernel_rfl) 50 rfl) (hd 9 (by kernel_rfl) 54 rfl)) rfl⟩
    refine ⟨?_, ?_⟩
    · intro a' w' k' hb hf hs hc hq hg hd
      exact ⟨wantedN rfl, k_val (.bool true) (by decide) trivial (x_move rfl (hd 10 (by kernel_rfl) 55 rfl)) rfl⟩
    refine ⟨?_, ?_⟩
    · intro a' w' k' hb hf hs hc hq hg hd
      exact ⟨wantedT (d := 56) rfl rfl (by rw [hb.size, hsz]; omega) (hd 11 (by kernel_rfl) 56 rfl), k_val (y.v) (by decide) trivial (x_load25 rfl ((hb.old 10 (by decide +kernel)).trans h10) (by rw [hf.block _ (lt_of_heap (unhide HY)) id]; exact unhide HY)) rfl⟩
    refine ⟨?_, ?_⟩
    · intro a' w' k' hb hf hs hc hq hg hd
      exact ⟨wantedT (d := 56) rfl rfl (by rw [hb.size, hsz]; omega) (hd 11 (by kernel_rfl) 56 rfl), k_val (y.v) (by decide) trivial (x_load25 rfl ((hb.old 12 (by decide +kernel)).trans h12) (by rw [hf.block _ (lt_of_heap (unhide HZ)) id]; exact unhide HZ)) rfl⟩
    refine ⟨?_, ?_⟩
    · intro a' w' k' hb hf hs hc hq hg hd
      exact ⟨wantedT (d := 56) rfl rfl (by rw [hb.size, hsz]; omega) (hd 11 (by kernel_rfl) 56 rfl), k_val (.bool true) (by decide) trivial (x_eq25 (z := y) rfl (hd 12 (by kernel_rfl) 57 rfl) (hd 13 (by kernel_rfl) 58 rfl)) rfl⟩
    refine ⟨?_, ?_⟩
    · intro a' w' k' hb hf hs hc hq hg hd
      exact ⟨wantedN rfl, k_val (.bool true) (by decide) trivial (x_pickT rfl (hd 11 (by kernel_rfl) 56 rfl) (hd 14 (by kernel_rfl) 59 rfl)) rfl⟩
    refine ⟨?_, ?_⟩
    · intro a' w' k' hb hf hs hc hq hg hd
      exact ⟨wantedN rfl, k_val (.bool true) (by decide) trivial (x_move rfl (hd 15 (by kernel_rfl) 60 rfl)) rfl⟩
    refine ⟨?_, ?_⟩
    · intro a' w' k' hb hf hs hc hq hg hd
      exact ⟨wantedT (d := 61) rfl rfl (by rw [hb.size, hsz]; omega) (hd 16 (by kernel_rfl) 61 rfl), k_val (.int .i64 D) (by decide) trivial (x_move rfl ((hb.old 11 (by decide +kernel)).trans h11)) rfl⟩
    refine ⟨?_, ?_⟩
    · intro a' w' k' hb hf hs hc hq hg hd
      exact ⟨wantedT (d := 61) rfl rfl (by rw [hb.size, hsz]; omega) (hd 16 (by kernel_rfl) 61 rfl), k_call 17 _ (by decide) (e_call1 rfl rfl (hd 17 (by kernel_rfl) 62 rfl) (fun _ _ => by simp [go_sem])) ((num_any _ _).mono (by rintro e w9 ⟨rfl, rfl⟩; exact ⟨_, rfl, rfl, Fr.refl _ _, trivial⟩))⟩
    refine ⟨?_, ?_⟩
    · intro a' w' k' hb hf hs hc hq hg hd
      exact ⟨wantedT (d := 61) rfl rfl (by rw [hb.size, hsz]; omega) (hd 16 (by kernel_rfl) 61 rfl), k_val (.int .i64 D) (by decide) trivial (x_move rfl ((hb.old 13 (by decide +kernel)).trans h13)) rfl⟩
    refine ⟨?_, ?_⟩
    · intro a' w' k' hb hf hs hc hq hg hd
      exact ⟨wantedT (d := 61) rfl rfl (by rw [hb.size, hsz]; omega) (hd 16 (by kernel_rfl) 61 rfl), k_val (.bool true) (by decide) trivial (x_eqI Try.underlying3 rfl (hd 18 (by kernel_rfl) 63 rfl) (hd 19 (by kernel_rfl) 64 rfl) (by first | rfl | decide | simp)) rfl⟩
    refine ⟨?_, ?_⟩
    · intro a' w' k' hb hf hs hc hq hg hd
      exact ⟨wantedN rfl, k_val (.bool true) (by decide) trivial (x_pickT rfl (hd 16 (by kernel_rfl) 61 rfl) (hd 20 (by kernel_rfl) 65 rfl)) rfl⟩
    refine ⟨?_, ?_⟩
    · intro a' w' k' hb hf hs hc hq hg hd
      exact ⟨wantedN rfl, k_val (.bool true) (by decide) trivial (x_move rfl (hd 21 (by kernel_rfl) 66 rfl)) rfl⟩
    refine ⟨?_, ?_⟩
    · intro a' w' k' hb hf hs hc hq hg hd
      exact ⟨wantedT (d := 67) rfl rfl (by rw [hb.size, hsz]; omega) (hd 22 (by kernel_rfl) 67 rfl), k_val (x.v) (by decide) trivial (x_load25 rfl ((hb.old 2 (by decide +kernel)).trans h2) (by rw [hf.block _ (lt_of_heap (unhide HX)) id]; exact unhide HX)) rfl⟩
    refine ⟨?_, ?_⟩
    · intro a' w' k' hb hf hs hc hq hg hd
      exact ⟨wantedT (d := 67) rfl rfl (by rw [hb.size, hsz]; omega) (hd 22 (by kernel_rfl) 67 rfl), k_call 18 _ (by decide) (e_call1 rfl rfl (hd 23 (by kernel_rfl) 68 rfl) (fun _ _ => by simp [go_sem])) ((unhide HC1 _).mono (by rintro e w9 ⟨rfl, f9⟩; exact ⟨_, rfl, rfl, f9, trivial⟩))⟩
    refine ⟨?_, ?_⟩
    · intro a' w' k' hb hf hs hc hq hg hd
      exact ⟨wantedT (d := 67) rfl rfl (by rw [hb.size, hsz]; omega) (hd 22 (by kernel_rfl) 67 rfl), k_call 17 _ (by decide) (e_call1 rfl rfl (hd 24 (by kernel_rfl) 69 rfl) (fun _ _ => by simp [go_sem])) ((num_any _ _).mono (by rintro e w9 ⟨rfl, rfl⟩; exact ⟨_, rfl, rfl, Fr.refl _ _, trivial⟩))⟩
    refine ⟨?_, ?_⟩
    · intro a' w' k' hb hf hs hc hq hg hd
      exact ⟨wantedT (d := 67) rfl rfl (by rw [hb.size, hsz]; omega) (hd 22 (by kernel_rfl) 67 rfl), k_val (x.v) (by decide) trivial (x_load25 rfl ((hb.old 2 (by decide +kernel)).trans h2) (by rw [hf.block _ (lt_of_heap (unhide HX)) id]; exact unhide HX)) rfl⟩
    refine ⟨?_, ?_⟩
    · intro a' w' k' hb hf hs hc hq hg hd
      exact ⟨wantedT (d := 67) rfl rfl (by rw [hb.size, hsz]; omega) (hd 22 (by kernel_rfl) 67 rfl), k_call 19 _ (by decide) (e_call1 rfl rfl (hd 26 (by kernel_rfl) 71 rfl) (fun _ _ => by simp [go_sem])) ((unhide HC2 _).mono (by rintro e w9 ⟨rfl, f9⟩; exact ⟨_, rfl, rfl, f9, trivial⟩))⟩
    refine ⟨?_, ?_⟩
    · intro a' w' k' hb hf hs hc hq hg hd
      exact ⟨wantedT (d := 67) rfl rfl (by rw [hb.size, hsz]; omega) (hd 22 (by kernel_rfl) 67 rfl), k_val (.bool true) (by decide) trivial (x_eqI Try.underlying3 rfl (hd 25 (by kernel_rfl) 70 rfl) (hd 27 (by kernel_rfl) 72 rfl) (by first | rfl | decide | simp)) rfl⟩
    refine ⟨?_, ?_⟩
    · intro a' w' k' hb hf hs hc hq hg hd
      exact ⟨wantedN rfl, k_val (.bool true) (by decide) trivial (x_pickT rfl (hd 22 (by kernel_rfl) 67 rfl) (hd 28 (by kernel_rfl) 73 rfl)) rfl⟩
    refine ⟨?_, ?_⟩
    · intro a' w' k' hb hf hs hc hq hg hd
      exact ⟨wantedN rfl, k_val (.bool true) (by decide) trivial (x_move rfl (hd 29 (by kernel_rfl) 74 rfl)) rfl⟩
    refine ⟨?_, ?_⟩
    · intro a' w' k' hb hf hs hc hq hg hd
      exact ⟨wantedT (d := 75) rfl rfl (by rw [hb.size, hsz]; omega) (hd 30 (by kernel_rfl) 75 rfl), k_val (.slice a9 b.length c9) (by decide) trivial (x_move rfl ((hb.old 9 (by decide +kernel)).trans h9)) rfl⟩
    refine ⟨?_, ?_⟩
    · intro a' w' k' hb hf hs hc hq hg hd
      exact ⟨wantedT (d := 75) rfl rfl (by rw [hb.size, hsz]; omega) (hd 30 (by kernel_rfl) 75 rfl), k_val (.string (str b)) (by decide) trivial (x_conv rfl (hd 31 (by kernel_rfl) 76 rfl) (cv26 ((unhide HV9).kept hf (fun _ _ e => e)))) rfl⟩
    refine ⟨?_, ?_⟩
    · intro a' w' k' hb hf hs hc hq hg hd
      exact ⟨wantedT (d := 75) rfl rfl (by rw [hb.size, hsz]; omega) (hd 30 (by kernel_rfl) 75 rfl), k_val (.slice ao n cap) (by decide) trivial (x_move rfl ((hb.old 1 (by decide +kernel)).trans h1)) rfl⟩
    refine ⟨?_, ?_⟩
    · intro a' w' k' hb hf hs hc hq hg hd
      exact ⟨wantedT (d := 75) rfl rfl (by rw [hb.size, hsz]; omega) (hd 30 (by kernel_rfl) 75 rfl), k_val (.string (str b)) (by decide) trivial (x_conv rfl (hd 33 (by kernel_rfl) 78 rfl) (cv26 ((unhide HR).kept hf (fun _ _ e => e)))) rfl⟩
    refine ⟨?_, ?_⟩
    · intro a' w' k' hb hf hs hc hq hg hd
      exact ⟨wantedT (d := 75) rfl rfl (by rw [hb.size, hsz]; omega) (hd 30 (by kernel_rfl) 75 rfl), k_val (.bool true) (by decide) trivial (x_eqS rfl (hd 32 (by kernel_rfl) 77 rfl) (hd 34 (by kernel_rfl) 79 rfl)) rfl⟩
    refine ⟨?_, ?_⟩
    · intro a' w' k' hb hf hs hc hq hg hd
      exact ⟨wantedN rfl, k_val (.bool true) (by decide) trivial (x_pickT rfl (hd 30 (by kernel_rfl) 75 rfl) (hd 35 (by kernel_rfl) 80 rfl)) rfl⟩
    refine ⟨?_, ?_⟩
    · intro a' w' k' hb hf hs hc hq hg hd
      exact ⟨wantedN rfl, k_val (.bool true) (by decide) trivial (x_move rfl (hd 36 (by kernel_rfl) 81 rfl)) rfl⟩
    refine ⟨?_, ?_⟩
    · intro a' w' k' hb hf hs hc hq hg hd
      exact ⟨wantedT (d := 82) rfl rfl (by rw [hb.size, hsz]; omega) (hd 37 (by kernel_rfl) 82 rfl), k_call 12 _ (by decide) (e_call0 rfl rfl (fun _ _ => by simp [go_sem])) ((live_any _).mono (by rintro e w9 ⟨rfl, f9⟩; exact ⟨_, rfl, rfl, f9, trivial⟩))⟩
    refine ⟨?_, ?_⟩
    · intro a' w' k' hb hf hs hc hq hg hd
      exact ⟨wantedN rfl, k_val (.bool true) (by decide) trivial (x_pickT rfl (hd 37 (by kernel_rfl) 82 rfl) (hd 38 (by kernel_rfl) 83 rfl)) rfl⟩
    refine ⟨?_, ?_⟩
    · intro a' w' k' hb hf hs hc hq hg hd
      exact ⟨wantedN rfl, k_val (.bool true) (by decide) trivial (x_assign rfl (hd 39 (by kernel_rfl) 84 rfl)) rfl⟩
    exact trivial
  case done =>
    intro a' w' hb hf hs hall
    have hres : a'.tmps.getD 4 undef = .bool true := hall 40 (by decide) 4 rfl
    have hdf' : a'.defers = [] := by rw [hb.defers]; exact hdf
    have hF : Fr (fun _ => False) w w' := (unhide F5).trans hf (fun _ _ h => h)
    have hr : bodyPost Try.prog Try.f3 (fun e w' => e = Ending.returned (Value.bool true) ∧ Fr (fun x => False) w w') .ret a' w' :=
      bodyPost_ret (v := .bool true) (by
        have h6' : a'.tmps[4]?.getD undef = .bool true := by simpa using hres
        simp [results, Try.results3, go_sem, h6']) hdf' ⟨rfl, hF⟩
    clear hall hb
    apply_assumption
    exact wp_ret hr
end Go.Proofs.Ytbenailemoefhaa
