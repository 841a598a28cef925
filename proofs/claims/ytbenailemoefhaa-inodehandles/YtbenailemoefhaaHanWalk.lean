/-
  InodeHandles, walked.
-/
import Derived.Test.YtbenailemoefhaaCln
namespace Go.Proofs.Ytbenailemoefhaa
open Go.RowKit Go.Lib
set_option linter.unusedVariables false
set_option linter.unusedSimpArgs false

attribute [local go_sem ↓] Go.wp_at_zero Go.wp_at_succ

set_option maxRecDepth 100000 in
set_option maxHeartbeats 8000000 in
theorem handles_any (x : Ha) (hx : x.Ok) (v : Value) (b : List UInt8) (w : World) (h : Rd w v b) : Calls Try.prog 8 #[x.v, v] w fun e w' => e = .returned (.bool true) ∧ Fr (fun _ => False) w w' := by
  obtain ⟨ao, cap, rfl⟩ := h.shape
  have HK := hide hx
  have HR := hide h
  clear hx h
  obtain ⟨n, hn⟩ : ∃ n, n = b.length := ⟨_, rfl⟩
  rw [← hn] at HR ⊢
  have HN := hide hn
  clear hn
  go_enter Try.func8, Try.ntmps8
  go_upto_region 1 with fail
  have HR := hide ((unhide HR).kept ((Fr.refl (fun _ => False) w).alloc (.cells x.cs 72)) (fun _ _ e => e))
  have HX := hide (heap_alloc_new w (.cells x.cs 72))
  have F0 := hide ((Fr.refl (fun _ => False) w).alloc (.cells x.cs 72))
  refine wp_world ?_
  intro W hW
  rw [← hW] at HX HR F0
  clear hW
  by_cases hl : (2000 : Int) < (n : Int)
  · have hd : decide ((2000 : Int) < (n : Int)) = true := decide_eq_true hl
    go_wp2_with fail
    refine (live_any _).mono ?_
    rintro e w2 ⟨rfl, f2⟩
    go_wp2_with fail
    go_ret
    exact ⟨rfl, (unhide F0).trans f2 (fun _ _ e => e)⟩
  have hd : decide ((2000 : Int) < (n : Int)) = false := decide_eq_false hl
  have HL := hide hl
  clear hl
  go_wp2_with (first | (apply wl_load72 _ rfl rfl _ rfl; (case hr => exact rowN_q (unhide HX)); (case hc => exact rowD_q (unhide HX))))
  refine (putH_any x (unhide HK) _).mono ?_
  rintro e w1 ⟨v5, rfl, h1⟩
  have HX := hide (((h1.fr).block _ (lt_of_heap (unhide HX)) id).trans (unhide HX))
  have HR := hide ((unhide HR).kept (h1.fr) (fun _ _ e => e))
  have HV5 := hide h1.rd
  have F1 := hide ((unhide F0).trans h1.fr (fun _ _ e => e))
  clear h1 F0 hd
  go_upto_region 4 with fail
  go_wp2_with (first | (apply wl_load72 _ rfl rfl _ rfl; (case hr => exact rowN_q (unhide HX)); (case hc => exact rowD_q (unhide HX))))
  refine (rputH_any x (unhide HK) _).mono ?_
  rintro e w2 ⟨v7, rfl, h2⟩
  have HX := hide (((h2.fr).block _ (lt_of_heap (unhide HX)) id).trans (unhide HX))
  have HR := hide ((unhide HR).kept (h2.fr) (fun _ _ e => e))
  have HV5 := hide ((unhide HV5).kept (h2.fr) (fun _ _ e => e))
  have HV7 := hide h2.rd
  have F2 := hide ((unhide F1).trans h2.fr (fun _ _ e => e))
  clear h2 F1
  generalize hE x = E
  generalize hR x = B at *
  go_upto_region 5 with fail
  go_wp2_with (first | (refine wl_cln rfl rfl _ _ rfl rfl rfl (unhide HR) (by have := unhide HL; have := unhide HN; omega) ?_; intro a9 c9 w3 h3))
  have HR := hide ((unhide HR).kept (h3.fr) (fun _ _ e => e))
  have HV5 := hide ((unhide HV5).kept (h3.fr) (fun _ _ e => e))
  have HV7 := hide ((unhide HV7).kept (h3.fr) (fun _ _ e => e))
  have HV9 := hide h3.rd
  have F3 := hide ((unhide F2).trans h3.fr (fun _ _ e => e))
  clear h3 F2
  refine (getH_any _ _ b (unhide HV9)).mono ?_
  rintro e w4 ⟨rfl, f4⟩
  have HR := hide ((unhide HR).kept (f4) (fun _ _ e => e))
  have HV5 := hide ((unhide HV5).kept (f4) (fun _ _ e => e))
  have HV7 := hide ((unhide HV7).kept (f4) (fun _ _ e => e))
  have HV9 := hide ((unhide HV9).kept (f4) (fun _ _ e => e))
  have F4 := hide ((unhide F3).trans f4 (fun _ _ e => e))
  clear f4 F3
  obtain ⟨y, D, HE⟩ : ∃ (y : Ha) (D : Int), ResH (ghX b) (ghE b) = .tuple #[y.v, .int .i64 D] := ⟨_, _, rfl⟩
  rw [HE]
  have HE := hide HE
  go_upto_region 7 with (first | (apply wl_store72 _ _ rfl rfl _ rfl _ rfl; (case hr => simp [go_sem]); (case hw => (simp [go_sem]; try exact rfl))))
  have HR := hide ((unhide HR).kept ((Fr.refl (fun _ => False) w4).alloc (.cells y.cs 72)) (fun _ _ e => e))
  have HV5 := hide ((unhide HV5).kept ((Fr.refl (fun _ => False) w4).alloc (.cells y.cs 72)) (fun _ _ e => e))
  have HV7 := hide ((unhide HV7).kept ((Fr.refl (fun _ => False) w4).alloc (.cells y.cs 72)) (fun _ _ e => e))
  have HV9 := hide ((unhide HV9).kept ((Fr.refl (fun _ => False) w4).alloc (.cells y.cs 72)) (fun _ _ e => e))
  have HY := hide (heap_alloc_new w4 (.cells y.cs 72))
  have F4 := hide ((unhide F4).alloc (.cells y.cs 72))
  refine wp_world ?_
  intro W4 hW4
  rw [← hW4] at HY HR HV5 HV7 HV9 F4
  clear hW4
  go_wp2_with fail
  refine (rgetH_any _ _ b (unhide HR)).mono ?_
  rintro e w5 ⟨rfl, f5⟩
  rw [unhide HE]
  have HY := hide (((f5).block _ (lt_of_heap (unhide HY)) id).trans (unhide HY))
  have HR := hide ((unhide HR).kept (f5) (fun _ _ e => e))
  have HV5 := hide ((unhide HV5).kept (f5) (fun _ _ e => e))
  have HV7 := hide ((unhide HV7).kept (f5) (fun _ _ e => e))
  have HV9 := hide ((unhide HV9).kept (f5) (fun _ _ e => e))
  have F5 := hide ((unhide F4).trans f5 (fun _ _ e => e))
  clear f5 F4 HE
  go_upto_region 8 with (first | (apply wl_store72 _ _ rfl rfl _ rfl _ rfl; (case hr => simp [go_sem]); (case hw => (simp [go_sem]; try exact rfl))))
  have HY := hide ((Below.heap_alloc w5 (.cells y.cs 72) _ (lt_of_heap (unhide HY))).trans (unhide HY))
  have HR := hide ((unhide HR).kept ((Fr.refl (fun _ => False) w5).alloc (.cells y.cs 72)) (fun _ _ e => e))
  have HV5 := hide ((unhide HV5).kept ((Fr.refl (fun _ => False) w5).alloc (.cells y.cs 72)) (fun _ _ e => e))
  have HV7 := hide ((unhide HV7).kept ((Fr.refl (fun _ => False) w5).alloc (.cells y.cs 72)) (fun _ _ e => e))
  have HV9 := hide ((unhide HV9).kept ((Fr.refl (fun _ => False) w5).alloc (.cells y.cs 72)) (fun _ _ e => e))
  have HZ := hide (heap_alloc_new w5 (.cells y.cs 72))
  have F5 := hide ((unhide F5).alloc (.cells y.cs 72))
  refine wp_world ?_
  intro W5 hW5
  rw [← hW5] at HY HZ HR HV5 HV7 HV9 F5
  clear hW5
  have k1 := cv26 (unhide HR)
  have k5 := cv26 (unhide HV5)
  have k7 := cv26 (unhide HV7)
  have k9 := cv26 (unhide HV9)
  have HEQ : eqH y y = true := eqH_same y
  go_wp2_with (first | (go_at_call 17; refine (num_any _ _).mono ?_; rintro e w' ⟨rfl, hw'⟩; have hw2 := hw'.symm; subst hw2; clear hw') | (apply wl_load72 _ rfl rfl _ rfl; (case hr => exact rowN_q (unhide HY)); (case hc => exact rowD_q (unhide HY))) | (apply wl_load72 _ rfl rfl _ rfl; (case hr => exact rowN_q (unhide HZ)); (case hc => exact rowD_q (unhide HZ))))
  refine (live_any _).mono ?_
  rintro e w6 ⟨rfl, f6⟩
  go_wp2_with fail
  go_ret
  exact ⟨rfl, (unhide F5).trans f6 (fun _ _ e => e)⟩
end Go.Proofs.Ytbenailemoefhaa
