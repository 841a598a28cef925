/-
  InodeBack, walked.
-/
import Derived.Test.YtbenailemoefhaaBo
import Derived.Test.YtbenailemoefhaaLk
import Derived.Test.YtbenailemoefhaaC4
namespace Go.Proofs.Ytbenailemoefhaa
open Go.RowKit Go.Lib
set_option linter.unusedVariables false
set_option linter.unusedSimpArgs false

attribute [local go_sem ↓] Go.wp_at_zero Go.wp_at_succ

theorem ghX_ok (b : List UInt8) : (ghX b).Ok := by
  have h8 := nb_bound b 8 8
  have h4 := fun p => nb_bound b p 4
  refine ⟨?_, ?_, ?_⟩ <;> simp only [ghX]
  · have := h4 4; omega
  · omega
  · have := h4 16; omega
set_option maxRecDepth 100000 in
set_option maxHeartbeats 8000000 in
theorem back_any (x : In) (hx : x.Ok) (s : Ha) (hs : s.Ok) (v : Value) (b : List UInt8) (w : World) (h : Rd w v b) : Calls Try.prog 9 #[x.v, s.v, v] w fun e w' => e = .returned (.bool true) ∧ Fr (fun _ => False) w w' := by
  obtain ⟨ao, cap, rfl⟩ := h.shape
  have HK := hide hx
  have HG := hide hs
  have HR := hide h
  clear hx h hs
  obtain ⟨n, hn⟩ : ∃ n, n = b.length := ⟨_, rfl⟩
  rw [← hn] at HR ⊢
  have HN := hide hn
  clear hn
  go_enter Try.func9, Try.ntmps9
  go_upto_region 1 with fail
  have HX := hide ((Below.heap_alloc (w.alloc (.cells x.cs 25)) (.cells s.cs 72) _ (lt_of_heap (heap_alloc_new w (.cells x.cs 25)))).trans (heap_alloc_new w (.cells x.cs 25)))
  have HH := hide (heap_alloc_new (w.alloc (.cells x.cs 25)) (.cells s.cs 72))
  have FF := hide (((Fr.refl (fun _ => False) w).alloc (.cells x.cs 25)).alloc (.cells s.cs 72))
  have HR := hide ((unhide HR).kept (unhide FF) (fun _ _ e => e))
  rw [show (w.alloc (.cells x.cs 25)).heap.size = w.heap.size + 1 by simp] at HH
  refine wp_world ?_
  intro W hW
  rw [← hW] at HX HH HR FF
  clear hW
  go_wp2_with (first | (apply wl_load25 _ rfl rfl _ rfl; (case hr => exact rowN_h (unhide HX)); (case hc => exact rowD_h (unhide HX))))
  refine (long_any x _).mono ?_
  rintro e w0 ⟨rfl, f0⟩
  have HX := hide (((f0).block _ (lt_of_heap (unhide HX)) id).trans (unhide HX))
  have HH := hide (((f0).block _ (lt_of_heap (unhide HH)) id).trans (unhide HH))
  have HR := hide ((unhide HR).kept (f0) (fun _ _ e => e))
  have FF := hide ((unhide FF).trans f0 (fun _ _ e => e))
  clear f0
  generalize decide (2000 < (x.t.size : Int)) = lo
  cases lo
  case true =>
    go_wp2_with fail
    refine (live_any _).mono ?_
    rintro e wl ⟨rfl, fl⟩
    go_wp2_with fail
    go_ret
    exact ⟨rfl, (unhide FF).trans fl (fun _ _ e => e)⟩
  by_cases hl : (2000 : Int) < (n : Int)
  · have hd : decide ((2000 : Int) < (n : Int)) = true := decide_eq_true hl
    go_wp2_with fail
    refine (live_any _).mono ?_
    rintro e wl ⟨rfl, fl⟩
    go_wp2_with fail
    go_ret
    exact ⟨rfl, (unhide FF).trans fl (fun _ _ e => e)⟩
  have hd : decide ((2000 : Int) < (n : Int)) = false := decide_eq_false hl
  have HL := hide hl
  clear hl
  go_wp2_with (first | (apply wl_load25 _ rfl rfl _ rfl; (case hr => exact rowN_h (unhide HX)); (case hc => exact rowD_h (unhide HX))))
  refine (put_any x (unhide HK) _).mono ?_
  rintro e wp0 ⟨vp0, rfl, hp⟩
  have HX := hide (((hp.fr).block _ (lt_of_heap (unhide HX)) id).trans (unhide HX))
  have HH := hide (((hp.fr).block _ (lt_of_heap (unhide HH)) id).trans (unhide HH))
  have HR := hide ((unhide HR).kept (hp.fr) (fun _ _ e => e))
  have FF := hide ((unhide FF).trans hp.fr (fun _ _ e => e))
  have HP := hide hp
  clear hp
  by_cases hE : ck x = 0
  · rw [hE]
    have HPR := hide (unhide HP).rd
    have HQ := hide (g_pb x (unhide HK) hE)
    have HLN := hide (unhide HP).shape
    clear HP
    obtain ⟨pa, pc, rfl⟩ := unhide HLN
    have h4 : (((pR x).length : Int)).tmod 4 = 0 := by have := (unhide HQ).2.2; rw [Int.tmod_eq_emod_of_nonneg (by omega)]; omega
    clear HLN
    go_wp2_with (first | (go_at_call 17; refine (num_any _ _).mono ?_; rintro e w' ⟨rfl, hw'⟩; have hw2 := hw'.symm; subst hw2; clear hw'))
    refine (get_any _ _ _ (unhide HPR)).mono ?_
    rintro e wg0 ⟨rfl, fg⟩
    have HX := hide (((fg).block _ (lt_of_heap (unhide HX)) id).trans (unhide HX))
    have HH := hide (((fg).block _ (lt_of_heap (unhide HH)) id).trans (unhide HH))
    have HR := hide ((unhide HR).kept (fg) (fun _ _ e => e))
    have FF := hide ((unhide FF).trans fg (fun _ _ e => e))
    clear fg HPR
    rw [(unhide HQ).2.1, (unhide HQ).1, show Res x 0 = .tuple #[x.v, .int .i64 0] by simp [Res]]
    clear HQ
    go_upto_region 6 with (first | (apply wl_store25 _ _ rfl rfl _ rfl _ rfl; (case hr => simp [go_sem]); (case hw => (simp [go_sem]; try exact rfl))))
    have HX := hide ((Below.heap_alloc wg0 (.cells x.cs 25) _ (lt_of_heap (unhide HX))).trans (unhide HX))
    have HH := hide ((Below.heap_alloc wg0 (.cells x.cs 25) _ (lt_of_heap (unhide HH))).trans (unhide HH))
    have HR := hide ((unhide HR).kept ((Fr.refl (fun _ => False) wg0).alloc (.cells x.cs 25)) (fun _ _ e => e))
    have HO := hide (heap_alloc_new wg0 (.cells x.cs 25))
    have FF := hide ((unhide FF).alloc (.cells x.cs 25))
    refine wp_world ?_
    intro Wg0 hWg0
    rw [← hWg0] at HX HH HO HR FF
    clear hWg0
    have HEQ : eqB x x = true := eqB_same x
    go_upto_region 8 with (first | (go_at_call 17; refine (num_any _ _).mono ?_; rintro e w' ⟨rfl, hw'⟩; have hw2 := hw'.symm; subst hw2; clear hw') | (apply wl_load25 _ rfl rfl _ rfl; (case hr => exact rowN_h (unhide HO)); (case hc => exact rowD_h (unhide HO))) | (apply wl_load25 _ rfl rfl _ rfl; (case hr => exact rowN_h (unhide HX)); (case hc => exact rowD_h (unhide HX))))
    clear HEQ HO h4 hE
    go_wp2_with (first | (refine wl_cln rfl rfl _ _ rfl rfl rfl (unhide HR) (by have := unhide HL; have := unhide HN; omega) ?_; intro a9 c9 wc1 h3))
    have HX := hide (((h3.fr).block _ (lt_of_heap (unhide HX)) id).trans (unhide HX))
    have HH := hide (((h3.fr).block _ (lt_of_heap (unhide HH)) id).trans (unhide HH))
    have HR := hide ((unhide HR).kept (h3.fr) (fun _ _ e => e))
    have HV9 := hide h3.rd
    have FF := hide ((unhide FF).trans h3.fr (fun _ _ e => e))
    clear h3
    refine (get_any _ _ b (unhide HV9)).mono ?_
    rintro e we1 ⟨rfl, fg⟩
    have HX := hide (((fg).block _ (lt_of_heap (unhide HX)) id).trans (unhide HX))
    have HH := hide (((fg).block _ (lt_of_heap (unhide HH)) id).trans (unhide HH))
    have HR := hide ((unhide HR).kept (fg) (fun _ _ e => e))
    have FF := hide ((unhide FF).trans fg (fun _ _ e => e))
    clear fg HV9
    obtain ⟨y1, D1, HD0, HD1⟩ : ∃ (y : In) (D : Int), Res (gX b) (gE b) = .tuple #[y.v, .int .i64 D] ∧ (y = (if gE b = 0 then gX b else In.zero) ∧ D = gE b) := ⟨_, _, rfl, rfl, rfl⟩
    rw [HD0]
    have HD := hide HD1
    clear HD0 HD1
    go_upto_region 9 with (first | (apply wl_store25 _ _ rfl rfl _ rfl _ rfl; (case hr => simp [go_sem]); (case hw => (simp [go_sem]; try exact rfl))))
    have HX := hide ((Below.heap_alloc we1 (.cells y1.cs 25) _ (lt_of_heap (unhide HX))).trans (unhide HX))
    have HH := hide ((Below.heap_alloc we1 (.cells y1.cs 25) _ (lt_of_heap (unhide HH))).trans (unhide HH))
    have HR := hide ((unhide HR).kept ((Fr.refl (fun _ => False) we1).alloc (.cells y1.cs 25)) (fun _ _ e => e))
    have HO := hide (heap_alloc_new we1 (.cells y1.cs 25))
    have FF := hide ((unhide FF).alloc (.cells y1.cs 25))
    refine wp_world ?_
    intro We1 hWe1
    rw [← hWe1] at HX HH HO HR FF
    clear hWe1
    by_cases hE : gE b = 0
    · have hD : D1 = 0 := by rw [(unhide HD).2, hE]
      have hy : y1 = gX b := by rw [(unhide HD).1, if_pos hE]
      subst hD hy
      clear HD
      have HQ := hide (pb_g b hE)
      clear hE
      go_wp2_with (first | (go_at_call 17; refine (num_any _ _).mono ?_; rintro e w' ⟨rfl, hw'⟩; have hw2 := hw'.symm; subst hw2; clear hw') | (apply wl_load25 _ rfl rfl _ rfl; (case hr => exact rowN_h (unhide HO)); (case hc => exact rowD_h (unhide HO))))
      refine (put_any (gX b) (gX_ok b) _).mono ?_
      rintro e wq1 ⟨vq1, rfl, hp⟩
      rw [(unhide HQ).2]
      rw [(unhide HQ).1] at hp
      have HX := hide (((hp.fr).block _ (lt_of_heap (unhide HX)) id).trans (unhide HX))
      have HH := hide (((hp.fr).block _ (lt_of_heap (unhide HH)) id).trans (unhide HH))
      have HR := hide ((unhide HR).kept (hp.fr) (fun _ _ e => e))
      have FF := hide ((unhide FF).trans hp.fr (fun _ _ e => e))
      have HPR := hide hp.rd
      clear hp HQ HO
      have k1 := cv26 (unhide HR)
      have k2 := cv26 (unhide HPR)
      go_upto_region 13 with (first | (go_at_call 17; refine (num_any _ _).mono ?_; rintro e w' ⟨rfl, hw'⟩; have hw2 := hw'.symm; subst hw2; clear hw'))
      clear k1 k2 HPR
      go_wp2_with (first | (apply wl_load72 _ rfl rfl _ rfl; (case hr => exact rowN_q (unhide HH)); (case hc => exact rowD_q (unhide HH))))
      refine (putH_any s (unhide HG) _).mono ?_
      rintro e wp1 ⟨vp1, rfl, hp⟩
      have HX := hide (((hp.fr).block _ (lt_of_heap (unhide HX)) id).trans (unhide HX))
      have HH := hide (((hp.fr).block _ (lt_of_heap (unhide HH)) id).trans (unhide HH))
      have HR := hide ((unhide HR).kept (hp.fr) (fun _ _ e => e))
      have FF := hide ((unhide FF).trans hp.fr (fun _ _ e => e))
      have HP := hide hp
      clear hp
      by_cases hE : hE s = 0
      · rw [hE]
        have HPR := hide (unhide HP).rd
        have HQ := hide (gh_hb s (unhide HG) (by unfold Ytbenailemoefhaa.hE at hE; split at hE; assumption; cases hE))
        have HLN := hide (unhide HP).shape
        clear HP
        clear HLN
        go_wp2_with (first | (go_at_call 17; refine (num_any _ _).mono ?_; rintro e w' ⟨rfl, hw'⟩; have hw2 := hw'.symm; subst hw2; clear hw'))
        refine (getH_any _ _ _ (unhide HPR)).mono ?_
        rintro e wg1 ⟨rfl, fg⟩
        have HX := hide (((fg).block _ (lt_of_heap (unhide HX)) id).trans (unhide HX))
        have HH := hide (((fg).block _ (lt_of_heap (unhide HH)) id).trans (unhide HH))
        have HR := hide ((unhide HR).kept (fg) (fun _ _ e => e))
        have FF := hide ((unhide FF).trans fg (fun _ _ e => e))
        clear fg HPR
        rw [(unhide HQ).2, (unhide HQ).1, show ResH s 0 = .tuple #[s.v, .int .i64 0] by simp [ResH]]
        clear HQ
        go_upto_region 16 with (first | (apply wl_store72 _ _ rfl rfl _ rfl _ rfl; (case hr => simp [go_sem]); (case hw => (simp [go_sem]; try exact rfl))))
        have HX := hide ((Below.heap_alloc wg1 (.cells s.cs 72) _ (lt_of_heap (unhide HX))).trans (unhide HX))
        have HH := hide ((Below.heap_alloc wg1 (.cells s.cs 72) _ (lt_of_heap (unhide HH))).trans (unhide HH))
        have HR := hide ((unhide HR).kept ((Fr.refl (fun _ => False) wg1).alloc (.cells s.cs 72)) (fun _ _ e => e))
        have HO := hide (heap_alloc_new wg1 (.cells s.cs 72))
        have FF := hide ((unhide FF).alloc (.cells s.cs 72))
        refine wp_world ?_
        intro Wg1 hWg1
        rw [← hWg1] at HX HH HO HR FF
        clear hWg1
        have HEQ : eqH s s = true := eqH_same s
        go_upto_region 18 with (first | (go_at_call 17; refine (num_any _ _).mono ?_; rintro e w' ⟨rfl, hw'⟩; have hw2 := hw'.symm; subst hw2; clear hw') | (apply wl_load72 _ rfl rfl _ rfl; (case hr => exact rowN_q (unhide HO)); (case hc => exact rowD_q (unhide HO))) | (apply wl_load72 _ rfl rfl _ rfl; (case hr => exact rowN_q (unhide HH)); (case hc => exact rowD_q (unhide HH))))
        clear HEQ HO hE
        go_wp2_with (first | (refine wl_cln rfl rfl _ _ rfl rfl rfl (unhide HR) (by have := unhide HL; have := unhide HN; omega) ?_; intro a9 c9 wc2 h3))
        have HX := hide (((h3.fr).block _ (lt_of_heap (unhide HX)) id).trans (unhide HX))
        have HH := hide (((h3.fr).block _ (lt_of_heap (unhide HH)) id).trans (unhide HH))
        have HR := hide ((unhide HR).kept (h3.fr) (fun _ _ e => e))
        have HV9 := hide h3.rd
        have FF := hide ((unhide FF).trans h3.fr (fun _ _ e => e))
        clear h3
        refine (getH_any _ _ b (unhide HV9)).mono ?_
        rintro e we2 ⟨rfl, fg⟩
        have HX := hide (((fg).block _ (lt_of_heap (unhide HX)) id).trans (unhide HX))
        have HH := hide (((fg).block _ (lt_of_heap (unhide HH)) id).trans (unhide HH))
        have HR := hide ((unhide HR).kept (fg) (fun _ _ e => e))
        have FF := hide ((unhide FF).trans fg (fun _ _ e => e))
        clear fg HV9
        obtain ⟨y2, D2, HD0, HD1⟩ : ∃ (y : Ha) (D : Int), ResH (ghX b) (ghE b) = .tuple #[y.v, .int .i64 D] ∧ (y = (if ghE b = 0 then ghX b else Ha.zero) ∧ D = ghE b) := ⟨_, _, rfl, rfl, rfl⟩
        rw [HD0]
        have HD := hide HD1
        clear HD0 HD1
        go_upto_region 19 with (first | (apply wl_store72 _ _ rfl rfl _ rfl _ rfl; (case hr => simp [go_sem]); (case hw => (simp [go_sem]; try exact rfl))))
        have HX := hide ((Below.heap_alloc we2 (.cells y2.cs 72) _ (lt_of_heap (unhide HX))).trans (unhide HX))
        have HH := hide ((Below.heap_alloc we2 (.cells y2.cs 72) _ (lt_of_heap (unhide HH))).trans (unhide HH))
        have HR := hide ((unhide HR).kept ((Fr.refl (fun _ => False) we2).alloc (.cells y2.cs 72)) (fun _ _ e => e))
        have HO := hide (heap_alloc_new we2 (.cells y2.cs 72))
        have FF := hide ((unhide FF).alloc (.cells y2.cs 72))
        refine wp_world ?_
        intro We2 hWe2
        rw [← hWe2] at HX HH HO HR FF
        clear hWe2
        by_cases hE : ghE b = 0
        · have hD : D2 = 0 := by rw [(unhide HD).2, hE]
          have hy : y2 = ghX b := by rw [(unhide HD).1, if_pos hE]
          subst hD hy
          clear HD
          have HQ := hide (hb_gh b hE)
          clear hE
          go_wp2_with (first | (go_at_call 17; refine (num_any _ _).mono ?_; rintro e w' ⟨rfl, hw'⟩; have hw2 := hw'.symm; subst hw2; clear hw') | (apply wl_load72 _ rfl rfl _ rfl; (case hr => exact rowN_q (unhide HO)); (case hc => exact rowD_q (unhide HO))))
          refine (putH_any (ghX b) (ghX_ok b) _).mono ?_
          rintro e wq2 ⟨vq2, rfl, hp⟩
          rw [(unhide HQ).2]
          rw [(unhide HQ).1] at hp
          have HX := hide (((hp.fr).block _ (lt_of_heap (unhide HX)) id).trans (unhide HX))
          have HH := hide (((hp.fr).block _ (lt_of_heap (unhide HH)) id).trans (unhide HH))
          have HR := hide ((unhide HR).kept (hp.fr) (fun _ _ e => e))
          have FF := hide ((unhide FF).trans hp.fr (fun _ _ e => e))
          have HPR := hide hp.rd
          clear hp HQ HO
          have k1 := cv26 (unhide HR)
          have k2 := cv26 (unhide HPR)
          go_upto_region 23 with (first | (go_at_call 17; refine (num_any _ _).mono ?_; rintro e w' ⟨rfl, hw'⟩; have hw2 := hw'.symm; subst hw2; clear hw'))
          clear k1 k2 HPR
          go_wp2_with fail
          refine (live_any _).mono ?_
          rintro e wl ⟨rfl, fl⟩
          go_wp2_with fail
          go_ret
          exact ⟨rfl, (unhide FF).trans fl (fun _ _ e => e)⟩
        · have hD : D2 ≠ 0 := by rw [(unhide HD).2]; exact hE
          have hb0 : (D2 == 0) = false := by simpa using hD
          clear HD hE
          go_upto_region 23 with (first | (go_at_call 17; refine (num_any _ _).mono ?_; rintro e w' ⟨rfl, hw'⟩; have hw2 := hw'.symm; subst hw2; clear hw'))
          clear hD hb0 HO
          go_wp2_with fail
          refine (live_any _).mono ?_
          rintro e wl ⟨rfl, fl⟩
          go_wp2_with fail
          go_ret
          exact ⟨rfl, (unhide FF).trans fl (fun _ _ e => e)⟩
      · obtain ⟨Ep, hEp⟩ : ∃ E, E = Ytbenailemoefhaa.hE s := ⟨_, rfl⟩
        rw [← hEp] at hE ⊢
        have hb0 : (Ep == 0) = false := by simpa using hE
        clear HP hEp
        go_upto_region 18 with (first | (go_at_call 17; refine (num_any _ _).mono ?_; rintro e w' ⟨rfl, hw'⟩; have hw2 := hw'.symm; subst hw2; clear hw'))
        clear hE hb0
        go_wp2_with (first | (refine wl_cln rfl rfl _ _ rfl rfl rfl (unhide HR) (by have := unhide HL; have := unhide HN; omega) ?_; intro a9 c9 wc3 h3))
        have HX := hide (((h3.fr).block _ (lt_of_heap (unhide HX)) id).trans (unhide HX))
        have HH := hide (((h3.fr).block _ (lt_of_heap (unhide HH)) id).trans (unhide HH))
        have HR := hide ((unhide HR).kept (h3.fr) (fun _ _ e => e))
        have HV9 := hide h3.rd
        have FF := hide ((unhide FF).trans h3.fr (fun _ _ e => e))
        clear h3
        refine (getH_any _ _ b (unhide HV9)).mono ?_
        rintro e we3 ⟨rfl, fg⟩
        have HX := hide (((fg).block _ (lt_of_heap (unhide HX)) id).trans (unhide HX))
        have HH := hide (((fg).block _ (lt_of_heap (unhide HH)) id).trans (unhide HH))
        have HR := hide ((unhide HR).kept (fg) (fun _ _ e => e))
        have FF := hide ((unhide FF).trans fg (fun _ _ e => e))
        clear fg HV9
        obtain ⟨y3, D3, HD0, HD1⟩ : ∃ (y : Ha) (D : Int), ResH (ghX b) (ghE b) = .tuple #[y.v, .int .i64 D] ∧ (y = (if ghE b = 0 then ghX b else Ha.zero) ∧ D = ghE b) := ⟨_, _, rfl, rfl, rfl⟩
        rw [HD0]
        have HD := hide HD1
        clear HD0 HD1
        go_upto_region 19 with (first | (apply wl_store72 _ _ rfl rfl _ rfl _ rfl; (case hr => simp [go_sem]); (case hw => (simp [go_sem]; try exact rfl))))
        have HX := hide ((Below.heap_alloc we3 (.cells y3.cs 72) _ (lt_of_heap (unhide HX))).trans (unhide HX))
        have HH := hide ((Below.heap_alloc we3 (.cells y3.cs 72) _ (lt_of_heap (unhide HH))).trans (unhide HH))
        have HR := hide ((unhide HR).kept ((Fr.refl (fun _ => False) we3).alloc (.cells y3.cs 72)) (fun _ _ e => e))
        have HO := hide (heap_alloc_new we3 (.cells y3.cs 72))
        have FF := hide ((unhide FF).alloc (.cells y3.cs 72))
        refine wp_world ?_
        intro We3 hWe3
        rw [← hWe3] at HX HH HO HR FF
        clear hWe3
        by_cases hE : ghE b = 0
        · have hD : D3 = 0 := by rw [(unhide HD).2, hE]
          have hy : y3 = ghX b := by rw [(unhide HD).1, if_pos hE]
          subst hD hy
          clear HD
          have HQ := hide (hb_gh b hE)
          clear hE
          go_wp2_with (first | (go_at_call 17; refine (num_any _ _).mono ?_; rintro e w' ⟨rfl, hw'⟩; have hw2 := hw'.symm; subst hw2; clear hw') | (apply wl_load72 _ rfl rfl _ rfl; (case hr => exact rowN_q (unhide HO)); (case hc => exact rowD_q (unhide HO))))
          refine (putH_any (ghX b) (ghX_ok b) _).mono ?_
          rintro e wq3 ⟨vq3, rfl, hp⟩
          rw [(unhide HQ).2]
          rw [(unhide HQ).1] at hp
          have HX := hide (((hp.fr).block _ (lt_of_heap (unhide HX)) id).trans (unhide HX))
          have HH := hide (((hp.fr).block _ (lt_of_heap (unhide HH)) id).trans (unhide HH))
          have HR := hide ((unhide HR).kept (hp.fr) (fun _ _ e => e))
          have FF := hide ((unhide FF).trans hp.fr (fun _ _ e => e))
          have HPR := hide hp.rd
          clear hp HQ HO
          have k1 := cv26 (unhide HR)
          have k2 := cv26 (unhide HPR)
          go_upto_region 23 with (first | (go_at_call 17; refine (num_any _ _).mono ?_; rintro e w' ⟨rfl, hw'⟩; have hw2 := hw'.symm; subst hw2; clear hw'))
          clear k1 k2 HPR
          go_wp2_with fail
          refine (live_any _).mono ?_
          rintro e wl ⟨rfl, fl⟩
          go_wp2_with fail
          go_ret
          exact ⟨rfl, (unhide FF).trans fl (fun _ _ e => e)⟩
        · have hD : D3 ≠ 0 := by rw [(unhide HD).2]; exact hE
          have hb0 : (D3 == 0) = false := by simpa using hD
          clear HD hE
          go_upto_region 23 with (first | (go_at_call 17; refine (num_any _ _).mono ?_; rintro e w' ⟨rfl, hw'⟩; have hw2 := hw'.symm; subst hw2; clear hw'))
          clear hD hb0 HO
          go_wp2_with fail
          refine (live_any _).mono ?_
          rintro e wl ⟨rfl, fl⟩
          go_wp2_with fail
          go_ret
          exact ⟨rfl, (unhide FF).trans fl (fun _ _ e => e)⟩
    · have hD : D1 ≠ 0 := by rw [(unhide HD).2]; exact hE
      have hb0 : (D1 == 0) = false := by simpa using hD
      clear HD hE
      go_upto_region 13 with (first | (go_at_call 17; refine (num_any _ _).mono ?_; rintro e w' ⟨rfl, hw'⟩; have hw2 := hw'.symm; subst hw2; clear hw'))
      clear hD hb0 HO
      go_wp2_with (first | (apply wl_load72 _ rfl rfl _ rfl; (case hr => exact rowN_q (unhide HH)); (case hc => exact rowD_q (unhide HH))))
      refine (putH_any s (unhide HG) _).mono ?_
      rintro e wp1 ⟨vp1, rfl, hp⟩
      have HX := hide (((hp.fr).block _ (lt_of_heap (unhide HX)) id).trans (unhide HX))
      have HH := hide (((hp.fr).block _ (lt_of_heap (unhide HH)) id).trans (unhide HH))
      have HR := hide ((unhide HR).kept (hp.fr) (fun _ _ e => e))
      have FF := hide ((unhide FF).trans hp.fr (fun _ _ e => e))
      have HP := hide hp
      clear hp
      by_cases hE : hE s = 0
      · rw [hE]
        have HPR := hide (unhide HP).rd
        have HQ := hide (gh_hb s (unhide HG) (by unfold Ytbenailemoefhaa.hE at hE; split at hE; assumption; cases hE))
        have HLN := hide (unhide HP).shape
        clear HP
        clear HLN
        go_wp2_with (first | (go_at_call 17; refine (num_any _ _).mono ?_; rintro e w' ⟨rfl, hw'⟩; have hw2 := hw'.symm; subst hw2; clear hw'))
        refine (getH_any _ _ _ (unhide HPR)).mono ?_
        rintro e wg1 ⟨rfl, fg⟩
        have HX := hide (((fg).block _ (lt_of_heap (unhide HX)) id).trans (unhide HX))
        have HH := hide (((fg).block _ (lt_of_heap (unhide HH)) id).trans (unhide HH))
        have HR := hide ((unhide HR).kept (fg) (fun _ _ e => e))
        have FF := hide ((unhide FF).trans fg (fun _ _ e => e))
        clear fg HPR
        rw [(unhide HQ).2, (unhide HQ).1, show ResH s 0 = .tuple #[s.v, .int .i64 0] by simp [ResH]]
        clear HQ
        go_upto_region 16 with (first | (apply wl_store72 _ _ rfl rfl _ rfl _ rfl; (case hr => simp [go_sem]); (case hw => (simp [go_sem]; try exact rfl))))
        have HX := hide ((Below.heap_alloc wg1 (.cells s.cs 72) _ (lt_of_heap (unhide HX))).trans (unhide HX))
        have HH := hide ((Below.heap_alloc wg1 (.cells s.cs 72) _ (lt_of_heap (unhide HH))).trans (unhide HH))
        have HR := hide ((unhide HR).kept ((Fr.refl (fun _ => False) wg1).alloc (.cells s.cs 72)) (fun _ _ e => e))
        have HO := hide (heap_alloc_new wg1 (.cells s.cs 72))
        have FF := hide ((unhide FF).alloc (.cells s.cs 72))
        refine wp_world ?_
        intro Wg1 hWg1
        rw [← hWg1] at HX HH HO HR FF
        clear hWg1
        have HEQ : eqH s s = true := eqH_same s
        go_upto_region 18 with (first | (go_at_call 17; refine (num_any _ _).mono ?_; rintro e w' ⟨rfl, hw'⟩; have hw2 := hw'.symm; subst hw2; clear hw') | (apply wl_load72 _ rfl rfl _ rfl; (case hr => exact rowN_q (unhide HO)); (case hc => exact rowD_q (unhide HO))) | (apply wl_load72 _ rfl rfl _ rfl; (case hr => exact rowN_q (unhide HH)); (case hc => exact rowD_q (unhide HH))))
        clear HEQ HO hE
        go_wp2_with (first | (refine wl_cln rfl rfl _ _ rfl rfl rfl (unhide HR) (by have := unhide HL; have := unhide HN; omega) ?_; intro a9 c9 wc4 h3))
        have HX := hide (((h3.fr).block _ (lt_of_heap (unhide HX)) id).trans (unhide HX))
        have HH := hide (((h3.fr).block _ (lt_of_heap (unhide HH)) id).trans (unhide HH))
        have HR := hide ((unhide HR).kept (h3.fr) (fun _ _ e => e))
        have HV9 := hide h3.rd
        have FF := hide ((unhide FF).trans h3.fr (fun _ _ e => e))
        clear h3
        refine (getH_any _ _ b (unhide HV9)).mono ?_
        rintro e we4 ⟨rfl, fg⟩
        have HX := hide (((fg).block _ (lt_of_heap (unhide HX)) id).trans (unhide HX))
        have HH := hide (((fg).block _ (lt_of_heap (unhide HH)) id).trans (unhide HH))
        have HR := hide ((unhide HR).kept (fg) (fun _ _ e => e))
        have FF := hide ((unhide FF).trans fg (fun _ _ e => e))
        clear fg HV9
        obtain ⟨y4, D4, HD0, HD1⟩ : ∃ (y : Ha) (D : Int), ResH (ghX b) (ghE b) = .tuple #[y.v, .int .i64 D] ∧ (y = (if ghE b = 0 then ghX b else Ha.zero) ∧ D = ghE b) := ⟨_, _, rfl, rfl, rfl⟩
        rw [HD0]
        have HD := hide HD1
        clear HD0 HD1
        go_upto_region 19 with (first | (apply wl_store72 _ _ rfl rfl _ rfl _ rfl; (case hr => simp [go_sem]); (case hw => (simp [go_sem]; try exact rfl))))
        have HX := hide ((Below.heap_alloc we4 (.cells y4.cs 72) _ (lt_of_heap (unhide HX))).trans (unhide HX))
        have HH := hide ((Below.heap_alloc we4 (.cells y4.cs 72) _ (lt_of_heap (unhide HH))).trans (unhide HH))
        have HR := hide ((unhide HR).kept ((Fr.refl (fun _ => False) we4).alloc (.cells y4.cs 72)) (fun _ _ e => e))
        have HO := hide (heap_alloc_new we4 (.cells y4.cs 72))
        have FF := hide ((unhide FF).alloc (.cells y4.cs 72))
        refine wp_world ?_
        intro We4 hWe4
        rw [← hWe4] at HX HH HO HR FF
        clear hWe4
        by_cases hE : ghE b = 0
        · have hD : D4 = 0 := by rw [(unhide HD).2, hE]
          have hy : y4 = ghX b := by rw [(unhide HD).1, if_pos hE]
          subst hD hy
          clear HD
          have HQ := hide (hb_gh b hE)
          clear hE
          go_wp2_with (first | (go_at_call 17; refine (num_any _ _).mono ?_; rintro e w' ⟨rfl, hw'⟩; have hw2 := hw'.symm; subst hw2; clear hw') | (apply wl_load72 _ rfl rfl _ rfl; (case hr => exact rowN_q (unhide HO)); (case hc => exact rowD_q (unhide HO))))
          refine (putH_any (ghX b) (ghX_ok b) _).mono ?_
          rintro e wq4 ⟨vq4, rfl, hp⟩
          rw [(unhide HQ).2]
          rw [(unhide HQ).1] at hp
          have HX := hide (((hp.fr).block _ (lt_of_heap (unhide HX)) id).trans (unhide HX))
          have HH := hide (((hp.fr).block _ (lt_of_heap (unhide HH)) id).trans (unhide HH))
          have HR := hide ((unhide HR).kept (hp.fr) (fun _ _ e => e))
          have FF := hide ((unhide FF).trans hp.fr (fun _ _ e => e))
          have HPR := hide hp.rd
          clear hp HQ HO
          have k1 := cv26 (unhide HR)
          have k2 := cv26 (unhide HPR)
          go_upto_region 23 with (first | (go_at_call 17; refine (num_any _ _).mono ?_; rintro e w' ⟨rfl, hw'⟩; have hw2 := hw'.symm; subst hw2; clear hw'))
          clear k1 k2 HPR
          go_wp2_with fail
          refine (live_any _).mono ?_
          rintro e wl ⟨rfl, fl⟩
          go_wp2_with fail
          go_ret
          exact ⟨rfl, (unhide FF).trans fl (fun _ _ e => e)⟩
        · have hD : D4 ≠ 0 := by rw [(unhide HD).2]; exact hE
          have hb0 : (D4 == 0) = false := by simpa using hD
          clear HD hE
          go_upto_region 23 with (first | (go_at_call 17; refine (num_any _ _).mono ?_; rintro e w' ⟨rfl, hw'⟩; have hw2 := hw'.symm; subst hw2; clear hw'))
          clear hD hb0 HO
          go_wp2_with fail
          refine (live_any _).mono ?_
          rintro e wl ⟨rfl, fl⟩
          go_wp2_with fail
          go_ret
          exact ⟨rfl, (unhide FF).trans fl (fun _ _ e => e)⟩
      · obtain ⟨Ep, hEp⟩ : ∃ E, E = Ytbenailemoefhaa.hE s := ⟨_, rfl⟩
        rw [← hEp] at hE ⊢
        have hb0 : (Ep == 0) = false := by simpa using hE
        clear HP hEp
        go_upto_region 18 with (first | (go_at_call 17; refine (num_any _ _).mono ?_; rintro e w' ⟨rfl, hw'⟩; have hw2 := hw'.symm; subst hw2; clear hw'))
        clear hE hb0
        go_wp2_with (first | (refine wl_cln rfl rfl _ _ rfl rfl rfl (unhide HR) (by have := unhide HL; have := unhide HN; omega) ?_; intro a9 c9 wc5 h3))
        have HX := hide (((h3.fr).block _ (lt_of_heap (unhide HX)) id).trans (unhide HX))
        have HH := hide (((h3.fr).block _ (lt_of_heap (unhide HH)) id).trans (unhide HH))
        have HR := hide ((unhide HR).kept (h3.fr) (fun _ _ e => e))
        have HV9 := hide h3.rd
        have FF := hide ((unhide FF).trans h3.fr (fun _ _ e => e))
        clear h3
        refine (getH_any _ _ b (unhide HV9)).mono ?_
        rintro e we5 ⟨rfl, fg⟩
        have HX := hide (((fg).block _ (lt_of_heap (unhide HX)) id).trans (unhide HX))
        have HH := hide (((fg).block _ (lt_of_heap (unhide HH)) id).trans (unhide HH))
        have HR := hide ((unhide HR).kept (fg) (fun _ _ e => e))
        have FF := hide ((unhide FF).trans fg (fun _ _ e => e))
        clear fg HV9
        obtain ⟨y5, D5, HD0, HD1⟩ : ∃ (y : Ha) (D : Int), ResH (ghX b) (ghE b) = .tuple #[y.v, .int .i64 D] ∧ (y = (if ghE b = 0 then ghX b else Ha.zero) ∧ D = ghE b) := ⟨_, _, rfl, rfl, rfl⟩
        rw [HD0]
        have HD := hide HD1
        clear HD0 HD1
        go_upto_region 19 with (first | (apply wl_store72 _ _ rfl rfl _ rfl _ rfl; (case hr => simp [go_sem]); (case hw => (simp [go_sem]; try exact rfl))))
        have HX := hide ((Below.heap_alloc we5 (.cells y5.cs 72) _ (lt_of_heap (unhide HX))).trans (unhide HX))
        have HH := hide ((Below.heap_alloc we5 (.cells y5.cs 72) _ (lt_of_heap (unhide HH))).trans (unhide HH))
        have HR := hide ((unhide HR).kept ((Fr.refl (fun _ => False) we5).alloc (.cells y5.cs 72)) (fun _ _ e => e))
        have HO := hide (heap_alloc_new we5 (.cells y5.cs 72))
        have FF := hide ((unhide FF).alloc (.cells y5.cs 72))
        refine wp_world ?_
        intro We5 hWe5
        rw [← hWe5] at HX HH HO HR FF
        clear hWe5
        by_cases hE : ghE b = 0
        · have hD : D5 = 0 := by rw [(unhide HD).2, hE]
          have hy : y5 = ghX b := by rw [(unhide HD).1, if_pos hE]
          subst hD hy
          clear HD
          have HQ := hide (hb_gh b hE)
          clear hE
          go_wp2_with (first | (go_at_call 17; refine (num_any _ _).mono ?_; rintro e w' ⟨rfl, hw'⟩; have hw2 := hw'.symm; subst hw2; clear hw') | (apply wl_load72 _ rfl rfl _ rfl; (case hr => exact rowN_q (unhide HO)); (case hc => exact rowD_q (unhide HO))))
          refine (putH_any (ghX b) (ghX_ok b) _).mono ?_
          rintro e wq5 ⟨vq5, rfl, hp⟩
          rw [(unhide HQ).2]
          rw [(unhide HQ).1] at hp
          have HX := hide (((hp.fr).block _ (lt_of_heap (unhide HX)) id).trans (unhide HX))
          have HH := hide (((hp.fr).block _ (lt_of_heap (unhide HH)) id).trans (unhide HH))
          have HR := hide ((unhide HR).kept (hp.fr) (fun _ _ e => e))
          have FF := hide ((unhide FF).trans hp.fr (fun _ _ e => e))
          have HPR := hide hp.rd
          clear hp HQ HO
          have k1 := cv26 (unhide HR)
          have k2 := cv26 (unhide HPR)
          go_upto_region 23 with (first | (go_at_call 17; refine (num_any _ _).mono ?_; rintro e w' ⟨rfl, hw'⟩; have hw2 := hw'.symm; subst hw2; clear hw'))
          clear k1 k2 HPR
          go_wp2_with fail
          refine (live_any _).mono ?_
          rintro e wl ⟨rfl, fl⟩
          go_wp2_with fail
          go_ret
          exact ⟨rfl, (unhide FF).trans fl (fun _ _ e => e)⟩
        · have hD : D5 ≠ 0 := by rw [(unhide HD).2]; exact hE
          have hb0 : (D5 == 0) = false := by simpa using hD
          clear HD hE
          go_upto_region 23 with (first | (go_at_call 17; refine (num_any _ _).mono ?_; rintro e w' ⟨rfl, hw'⟩; have hw2 := hw'.symm; subst hw2; clear hw'))
          clear hD hb0 HO
          go_wp2_with fail
          refine (live_any _).mono ?_
          rintro e wl ⟨rfl, fl⟩
          go_wp2_with fail
          go_ret
          exact ⟨rfl, (unhide FF).trans fl (fun _ _ e => e)⟩
  · obtain ⟨Ep, hEp⟩ : ∃ E, E = ck x := ⟨_, rfl⟩
    rw [← hEp] at hE ⊢
    have hb0 : (Ep == 0) = false := by simpa using hE
    clear HP hEp
    go_upto_region 8 with (first | (go_at_call 17; refine (num_any _ _).mono ?_; rintro e w' ⟨rfl, hw'⟩; have hw2 := hw'.symm; subst hw2; clear hw'))
    clear hE hb0
    go_wp2_with (first | (refine wl_cln rfl rfl _ _ rfl rfl rfl (unhide HR) (by have := unhide HL; have := unhide HN; omega) ?_; intro a9 c9 wc6 h3))
    have HX := hide (((h3.fr).block _ (lt_of_heap (unhide HX)) id).trans (unhide HX))
    have HH := hide (((h3.fr).block _ (lt_of_heap (unhide HH)) id).trans (unhide HH))
    have HR := hide ((unhide HR).kept (h3.fr) (fun _ _ e => e))
    have HV9 := hide h3.rd
    have FF := hide ((unhide FF).trans h3.fr (fun _ _ e => e))
    clear h3
    refine (get_any _ _ b (unhide HV9)).mono ?_
    rintro e we6 ⟨rfl, fg⟩
    have HX := hide (((fg).block _ (lt_of_heap (unhide HX)) id).trans (unhide HX))
    have HH := hide (((fg).block _ (lt_of_heap (unhide HH)) id).trans (unhide HH))
    have HR := hide ((unhide HR).kept (fg) (fun _ _ e => e))
    have FF := hide ((unhide FF).trans fg (fun _ _ e => e))
    clear fg HV9
    obtain ⟨y6, D6, HD0, HD1⟩ : ∃ (y : In) (D : Int), Res (gX b) (gE b) = .tuple #[y.v, .int .i64 D] ∧ (y = (if gE b = 0 then gX b else In.zero) ∧ D = gE b) := ⟨_, _, rfl, rfl, rfl⟩
    rw [HD0]
    have HD := hide HD1
    clear HD0 HD1
    go_upto_region 9 with (first | (apply wl_store25 _ _ rfl rfl _ rfl _ rfl; (case hr => simp [go_sem]); (case hw => (simp [go_sem]; try exact rfl))))
    have HX := hide ((Below.heap_alloc we6 (.cells y6.cs 25) _ (lt_of_heap (unhide HX))).trans (unhide HX))
    have HH := hide ((Below.heap_alloc we6 (.cells y6.cs 25) _ (lt_of_heap (unhide HH))).trans (unhide HH))
    have HR := hide ((unhide HR).kept ((Fr.refl (fun _ => False) we6).alloc (.cells y6.cs 25)) (fun _ _ e => e))
    have HO := hide (heap_alloc_new we6 (.cells y6.cs 25))
    have FF := hide ((unhide FF).alloc (.cells y6.cs 25))
    refine wp_world ?_
    intro We6 hWe6
    rw [← hWe6] at HX HH HO HR FF
    clear hWe6
    by_cases hE : gE b = 0
    · have hD : D6 = 0 := by rw [(unhide HD).2, hE]
      have hy : y6 = gX b := by rw [(unhide HD).1, if_pos hE]
      subst hD hy
      clear HD
      have HQ := hide (pb_g b hE)
      clear hE
      go_wp2_with (first | (go_at_call 17; refine (num_any _ _).mono ?_; rintro e w' ⟨rfl, hw'⟩; have hw2 := hw'.symm; subst hw2; clear hw') | (apply wl_load25 _ rfl rfl _ rfl; (case hr => exact rowN_h (unhide HO)); (case hc => exact rowD_h (unhide HO))))
      refine (put_any (gX b) (gX_ok b) _).mono ?_
      rintro e wq6 ⟨vq6, rfl, hp⟩
      rw [(unhide HQ).2]
      rw [(unhide HQ).1] at hp
      have HX := hide (((hp.fr).block _ (lt_of_heap (unhide HX)) id).trans (unhide HX))
      have HH := hide (((hp.fr).block _ (lt_of_heap (unhide HH)) id).trans (unhide HH))
      have HR := hide ((unhide HR).kept (hp.fr) (fun _ _ e => e))
      have FF := hide ((unhide FF).trans hp.fr (fun _ _ e => e))
      have HPR := hide hp.rd
      clear hp HQ HO
      have k1 := cv26 (unhide HR)
      have k2 := cv26 (unhide HPR)
      go_upto_region 13 with (first | (go_at_call 17; refine (num_any _ _).mono ?_; rintro e w' ⟨rfl, hw'⟩; have hw2 := hw'.symm; subst hw2; clear hw'))
      clear k1 k2 HPR
      go_wp2_with (first | (apply wl_load72 _ rfl rfl _ rfl; (case hr => exact rowN_q (unhide HH)); (case hc => exact rowD_q (unhide HH))))
      refine (putH_any s (unhide HG) _).mono ?_
      rintro e wp1 ⟨vp1, rfl, hp⟩
      have HX := hide (((hp.fr).block _ (lt_of_heap (unhide HX)) id).trans (unhide HX))
      have HH := hide (((hp.fr).block _ (lt_of_heap (unhide HH)) id).trans (unhide HH))
      have HR := hide ((unhide HR).kept (hp.fr) (fun _ _ e => e))
      have FF := hide ((unhide FF).trans hp.fr (fun _ _ e => e))
      have HP := hide hp
      clear hp
      by_cases hE : hE s = 0
      · rw [hE]
        have HPR := hide (unhide HP).rd
        have HQ := hide (gh_hb s (unhide HG) (by unfold Ytbenailemoefhaa.hE at hE; split at hE; assumption; cases hE))
        have HLN := hide (unhide HP).shape
        clear HP
        clear HLN
        go_wp2_with (first | (go_at_call 17; refine (num_any _ _).mono ?_; rintro e w' ⟨rfl, hw'⟩; have hw2 := hw'.symm; subst hw2; clear hw'))
        refine (getH_any _ _ _ (unhide HPR)).mono ?_
        rintro e wg1 ⟨rfl, fg⟩
        have HX := hide (((fg).block _ (lt_of_heap (unhide HX)) id).trans (unhide HX))
        have HH := hide (((fg).block _ (lt_of_heap (unhide HH)) id).trans (unhide HH))
        have HR := hide ((unhide HR).kept (fg) (fun _ _ e => e))
        have FF := hide ((unhide FF).trans fg (fun _ _ e => e))
        clear fg HPR
        rw [(unhide HQ).2, (unhide HQ).1, show ResH s 0 = .tuple #[s.v, .int .i64 0] by simp [ResH]]
        clear HQ
        go_upto_region 16 with (first | (apply wl_store72 _ _ rfl rfl _ rfl _ rfl; (case hr => simp [go_sem]); (case hw => (simp [go_sem]; try exact rfl))))
        have HX := hide ((Below.heap_alloc wg1 (.cells s.cs 72) _ (lt_of_heap (unhide HX))).trans (unhide HX))
        have HH := hide ((Below.heap_alloc wg1 (.cells s.cs 72) _ (lt_of_heap (unhide HH))).trans (unhide HH))
        have HR := hide ((unhide HR).kept ((Fr.refl (fun _ => False) wg1).alloc (.cells s.cs 72)) (fun _ _ e => e))
        have HO := hide (heap_alloc_new wg1 (.cells s.cs 72))
        have FF := hide ((unhide FF).alloc (.cells s.cs 72))
        refine wp_world ?_
        intro Wg1 hWg1
        rw [← hWg1] at HX HH HO HR FF
        clear hWg1
        have HEQ : eqH s s = true := eqH_same s
        go_upto_region 18 with (first | (go_at_call 17; refine (num_any _ _).mono ?_; rintro e w' ⟨rfl, hw'⟩; have hw2 := hw'.symm; subst hw2; clear hw') | (apply wl_load72 _ rfl rfl _ rfl; (case hr => exact rowN_q (unhide HO)); (case hc => exact rowD_q (unhide HO))) | (apply wl_load72 _ rfl rfl _ rfl; (case hr => exact rowN_q (unhide HH)); (case hc => exact rowD_q (unhide HH))))
        clear HEQ HO hE
        go_wp2_with (first | (refine wl_cln rfl rfl _ _ rfl rfl rfl (unhide HR) (by have := unhide HL; have := unhide HN; omega) ?_; intro a9 c9 wc7 h3))
        have HX := hide (((h3.fr).block _ (lt_of_heap (unhide HX)) id).trans (unhide HX))
        have HH := hide (((h3.fr).block _ (lt_of_heap (unhide HH)) id).trans (unhide HH))
        have HR := hide ((unhide HR).kept (h3.fr) (fun _ _ e => e))
        have HV9 := hide h3.rd
        have FF := hide ((unhide FF).trans h3.fr (fun _ _ e => e))
        clear h3
        refine (getH_any _ _ b (unhide HV9)).mono ?_
        rintro e we7 ⟨rfl, fg⟩
        have HX := hide (((fg).block _ (lt_of_heap (unhide HX)) id).trans (unhide HX))
        have HH := hide (((fg).block _ (lt_of_heap (unhide HH)) id).trans (unhide HH))
        have HR := hide ((unhide HR).kept (fg) (fun _ _ e => e))
        have FF := hide ((unhide FF).trans fg (fun _ _ e => e))
        clear fg HV9
        obtain ⟨y7, D7, HD0, HD1⟩ : ∃ (y : Ha) (D : Int), ResH (ghX b) (ghE b) = .tuple #[y.v, .int .i64 D] ∧ (y = (if ghE b = 0 then ghX b else Ha.zero) ∧ D = ghE b) := ⟨_, _, rfl, rfl, rfl⟩
        rw [HD0]
        have HD := hide HD1
        clear HD0 HD1
        go_upto_region 19 with (first | (apply wl_store72 _ _ rfl rfl _ rfl _ rfl; (case hr => simp [go_sem]); (case hw => (simp [go_sem]; try exact rfl))))
        have HX := hide ((Below.heap_alloc we7 (.cells y7.cs 72) _ (lt_of_heap (unhide HX))).trans (unhide HX))
        have HH := hide ((Below.heap_alloc we7 (.cells y7.cs 72) _ (lt_of_heap (unhide HH))).trans (unhide HH))
        have HR := hide ((unhide HR).kept ((Fr.refl (fun _ => False) we7).alloc (.cells y7.cs 72)) (fun _ _ e => e))
        have HO := hide (heap_alloc_new we7 (.cells y7.cs 72))
        have FF := hide ((unhide FF).alloc (.cells y7.cs 72))
        refine wp_world ?_
        intro We7 hWe7
        rw [← hWe7] at HX HH HO HR FF
        clear hWe7
        by_cases hE : ghE b = 0
        · have hD : D7 = 0 := by rw [(unhide HD).2, hE]
          have hy : y7 = ghX b := by rw [(unhide HD).1, if_pos hE]
          subst hD hy
          clear HD
          have HQ := hide (hb_gh b hE)
          clear hE
          go_wp2_with (first | (go_at_call 17; refine (num_any _ _).mono ?_; rintro e w' ⟨rfl, hw'⟩; have hw2 := hw'.symm; subst hw2; clear hw') | (apply wl_load72 _ rfl rfl _ rfl; (case hr => exact rowN_q (unhide HO)); (case hc => exact rowD_q (unhide HO))))
          refine (putH_any (ghX b) (ghX_ok b) _).mono ?_
          rintro e wq7 ⟨vq7, rfl, hp⟩
          rw [(unhide HQ).2]
          rw [(unhide HQ).1] at hp
          have HX := hide (((hp.fr).block _ (lt_of_heap (unhide HX)) id).trans (unhide HX))
          have HH := hide (((hp.fr).block _ (lt_of_heap (unhide HH)) id).trans (unhide HH))
          have HR := hide ((unhide HR).kept (hp.fr) (fun _ _ e => e))
          have FF := hide ((unhide FF).trans hp.fr (fun _ _ e => e))
          have HPR := hide hp.rd
          clear hp HQ HO
          have k1 := cv26 (unhide HR)
          have k2 := cv26 (unhide HPR)
          go_upto_region 23 with (first | (go_at_call 17; refine (num_any _ _).mono ?_; rintro e w' ⟨rfl, hw'⟩; have hw2 := hw'.symm; subst hw2; clear hw'))
          clear k1 k2 HPR
          go_wp2_with fail
          refine (live_any _).mono ?_
          rintro e wl ⟨rfl, fl⟩
          go_wp2_with fail
          go_ret
          exact ⟨rfl, (unhide FF).trans fl (fun _ _ e => e)⟩
        · have hD : D7 ≠ 0 := by rw [(unhide HD).2]; exact hE
          have hb0 : (D7 == 0) = false := by simpa using hD
          clear HD hE
          go_upto_region 23 with (first | (go_at_call 17; refine (num_any _ _).mono ?_; rintro e w' ⟨rfl, hw'⟩; have hw2 := hw'.symm; subst hw2; clear hw'))
          clear hD hb0 HO
          go_wp2_with fail
          refine (live_any _).mono ?_
          rintro e wl ⟨rfl, fl⟩
          go_wp2_with fail
          go_ret
          exact ⟨rfl, (unhide FF).trans fl (fun _ _ e => e)⟩
      · obtain ⟨Ep, hEp⟩ : ∃ E, E = Ytbenailemoefhaa.hE s := ⟨_, rfl⟩
        rw [← hEp] at hE ⊢
        have hb0 : (Ep == 0) = false := by simpa using hE
        clear HP hEp
        go_upto_region 18 with (first | (go_at_call 17; refine (num_any _ _).mono ?_; rintro e w' ⟨rfl, hw'⟩; have hw2 := hw'.symm; subst hw2; clear hw'))
        clear hE hb0
        go_wp2_with (first | (refine wl_cln rfl rfl _ _ rfl rfl rfl (unhide HR) (by have := unhide HL; have := unhide HN; omega) ?_; intro a9 c9 wc8 h3))
        have HX := hide (((h3.fr).block _ (lt_of_heap (unhide HX)) id).trans (unhide HX))
        have HH := hide (((h3.fr).block _ (lt_of_heap (unhide HH)) id).trans (unhide HH))
        have HR := hide ((unhide HR).kept (h3.fr) (fun _ _ e => e))
        have HV9 := hide h3.rd
        have FF := hide ((unhide FF).trans h3.fr (fun _ _ e => e))
        clear h3
        refine (getH_any _ _ b (unhide HV9)).mono ?_
        rintro e we8 ⟨rfl, fg⟩
        have HX := hide (((fg).block _ (lt_of_heap (unhide HX)) id).trans (unhide HX))
        have HH := hide (((fg).block _ (lt_of_heap (unhide HH)) id).trans (unhide HH))
        have HR := hide ((unhide HR).kept (fg) (fun _ _ e => e))
        have FF := hide ((unhide FF).trans fg (fun _ _ e => e))
        clear fg HV9
        obtain ⟨y8, D8, HD0, HD1⟩ : ∃ (y : Ha) (D : Int), ResH (ghX b) (ghE b) = .tuple #[y.v, .int .i64 D] ∧ (y = (if ghE b = 0 then ghX b else Ha.zero) ∧ D = ghE b) := ⟨_, _, rfl, rfl, rfl⟩
        rw [HD0]
        have HD := hide HD1
        clear HD0 HD1
        go_upto_region 19 with (first | (apply wl_store72 _ _ rfl rfl _ rfl _ rfl; (case hr => simp [go_sem]); (case hw => (simp [go_sem]; try exact rfl))))
        have HX := hide ((Below.heap_alloc we8 (.cells y8.cs 72) _ (lt_of_heap (unhide HX))).trans (unhide HX))
        have HH := hide ((Below.heap_alloc we8 (.cells y8.cs 72) _ (lt_of_heap (unhide HH))).trans (unhide HH))
        have HR := hide ((unhide HR).kept ((Fr.refl (fun _ => False) we8).alloc (.cells y8.cs 72)) (fun _ _ e => e))
        have HO := hide (heap_alloc_new we8 (.cells y8.cs 72))
        have FF := hide ((unhide FF).alloc (.cells y8.cs 72))
        refine wp_world ?_
        intro We8 hWe8
        rw [← hWe8] at HX HH HO HR FF
        clear hWe8
        by_cases hE : ghE b = 0
        · have hD : D8 = 0 := by rw [(unhide HD).2, hE]
          have hy : y8 = ghX b := by rw [(unhide HD).1, if_pos hE]
          subst hD hy
          clear HD
          have HQ := hide (hb_gh b hE)
          clear hE
          go_wp2_with (first | (go_at_call 17; refine (num_any _ _).mono ?_; rintro e w' ⟨rfl, hw'⟩; have hw2 := hw'.symm; subst hw2; clear hw') | (apply wl_load72 _ rfl rfl _ rfl; (case hr => exact rowN_q (unhide HO)); (case hc => exact rowD_q (unhide HO))))
          refine (putH_any (ghX b) (ghX_ok b) _).mono ?_
          rintro e wq8 ⟨vq8, rfl, hp⟩
          rw [(unhide HQ).2]
          rw [(unhide HQ).1] at hp
          have HX := hide (((hp.fr).block _ (lt_of_heap (unhide HX)) id).trans (unhide HX))
          have HH := hide (((hp.fr).block _ (lt_of_heap (unhide HH)) id).trans (unhide HH))
          have HR := hide ((unhide HR).kept (hp.fr) (fun _ _ e => e))
          have FF := hide ((unhide FF).trans hp.fr (fun _ _ e => e))
          have HPR := hide hp.rd
          clear hp HQ HO
          have k1 := cv26 (unhide HR)
          have k2 := cv26 (unhide HPR)
          go_upto_region 23 with (first | (go_at_call 17; refine (num_any _ _).mono ?_; rintro e w' ⟨rfl, hw'⟩; have hw2 := hw'.symm; subst hw2; clear hw'))
          clear k1 k2 HPR
          go_wp2_with fail
          refine (live_any _).mono ?_
          rintro e wl ⟨rfl, fl⟩
          go_wp2_with fail
          go_ret
          exact ⟨rfl, (unhide FF).trans fl (fun _ _ e => e)⟩
        · have hD : D8 ≠ 0 := by rw [(unhide HD).2]; exact hE
          have hb0 : (D8 == 0) = false := by simpa using hD
          clear HD hE
          go_upto_region 23 with (first | (go_at_call 17; refine (num_any _ _).mono ?_; rintro e w' ⟨rfl, hw'⟩; have hw2 := hw'.symm; subst hw2; clear hw'))
          clear hD hb0 HO
          go_wp2_with fail
          refine (live_any _).mono ?_
          rintro e wl ⟨rfl, fl⟩
          go_wp2_with fail
          go_ret
          exact ⟨rfl, (unhide FF).trans fl (fun _ _ e => e)⟩
    · have hD : D6 ≠ 0 := by rw [(unhide HD).2]; exact hE
      have hb0 : (D6 == 0) = false := by simpa using hD
      clear HD hE
      go_upto_region 13 with (first | (go_at_call 17; refine (num_any _ _).mono ?_; rintro e w' ⟨rfl, hw'⟩; have hw2 := hw'.symm; subst hw2; clear hw'))
      clear hD hb0 HO
      go_wp2_with (first | (apply wl_load72 _ rfl rfl _ rfl; (case hr => exact rowN_q (unhide HH)); (case hc => exact rowD_q (unhide HH))))
      refine (putH_any s (unhide HG) _).mono ?_
      rintro e wp1 ⟨vp1, rfl, hp⟩
      have HX := hide (((hp.fr).block _ (lt_of_heap (unhide HX)) id).trans (unhide HX))
      have HH := hide (((hp.fr).block _ (lt_of_heap (unhide HH)) id).trans (unhide HH))
      have HR := hide ((unhide HR).kept (hp.fr) (fun _ _ e => e))
      have FF := hide ((unhide FF).trans hp.fr (fun _ _ e => e))
      have HP := hide hp
      clear hp
      by_cases hE : hE s = 0
      · rw [hE]
        have HPR := hide (unhide HP).rd
        have HQ := hide (gh_hb s (unhide HG) (by unfold Ytbenailemoefhaa.hE at hE; split at hE; assumption; cases hE))
        have HLN := hide (unhide HP).shape
        clear HP
        clear HLN
        go_wp2_with (first | (go_at_call 17; refine (num_any _ _).mono ?_; rintro e w' ⟨rfl, hw'⟩; have hw2 := hw'.symm; subst hw2; clear hw'))
        refine (getH_any _ _ _ (unhide HPR)).mono ?_
        rintro e wg1 ⟨rfl, fg⟩
        have HX := hide (((fg).block _ (lt_of_heap (unhide HX)) id).trans (unhide HX))
        have HH := hide (((fg).block _ (lt_of_heap (unhide HH)) id).trans (unhide HH))
        have HR := hide ((unhide HR).kept (fg) (fun _ _ e => e))
        have FF := hide ((unhide FF).trans fg (fun _ _ e => e))
        clear fg HPR
        rw [(unhide HQ).2, (unhide HQ).1, show ResH s 0 = .tuple #[s.v, .int .i64 0] by simp [ResH]]
        clear HQ
        go_upto_region 16 with (first | (apply wl_store72 _ _ rfl rfl _ rfl _ rfl; (case hr => simp [go_sem]); (case hw => (simp [go_sem]; try exact rfl))))
        have HX := hide ((Below.heap_alloc wg1 (.cells s.cs 72) _ (lt_of_heap (unhide HX))).trans (unhide HX))
        have HH := hide ((Below.heap_alloc wg1 (.cells s.cs 72) _ (lt_of_heap (unhide HH))).trans (unhide HH))
        have HR := hide ((unhide HR).kept ((Fr.refl (fun _ => False) wg1).alloc (.cells s.cs 72)) (fun _ _ e => e))
        have HO := hide (heap_alloc_new wg1 (.cells s.cs 72))
        have FF := hide ((unhide FF).alloc (.cells s.cs 72))
        refine wp_world ?_
        intro Wg1 hWg1
        rw [← hWg1] at HX HH HO HR FF
        clear hWg1
        have HEQ : eqH s s = true := eqH_same s
        go_upto_region 18 with (first | (go_at_call 17; refine (num_any _ _).mono ?_; rintro e w' ⟨rfl, hw'⟩; have hw2 := hw'.symm; subst hw2; clear hw') | (apply wl_load72 _ rfl rfl _ rfl; (case hr => exact rowN_q (unhide HO)); (case hc => exact rowD_q (unhide HO))) | (apply wl_load72 _ rfl rfl _ rfl; (case hr => exact rowN_q (unhide HH)); (case hc => exact rowD_q (unhide HH))))
        clear HEQ HO hE
        go_wp2_with (first | (refine wl_cln rfl rfl _ _ rfl rfl rfl (unhide HR) (by have := unhide HL; have := unhide HN; omega) ?_; intro a9 c9 wc9 h3))
        have HX := hide (((h3.fr).block _ (lt_of_heap (unhide HX)) id).trans (unhide HX))
        have HH := hide (((h3.fr).block _ (lt_of_heap (unhide HH)) id).trans (unhide HH))
        have HR := hide ((unhide HR).kept (h3.fr) (fun _ _ e => e))
        have HV9 := hide h3.rd
        have FF := hide ((unhide FF).trans h3.fr (fun _ _ e => e))
        clear h3
        refine (getH_any _ _ b (unhide HV9)).mono ?_
        rintro e we9 ⟨rfl, fg⟩
        have HX := hide (((fg).block _ (lt_of_heap (unhide HX)) id).trans (unhide HX))
        have HH := hide (((fg).block _ (lt_of_heap (unhide HH)) id).trans (unhide HH))
        have HR := hide ((unhide HR).kept (fg) (fun _ _ e => e))
        have FF := hide ((unhide FF).trans fg (fun _ _ e => e))
        clear fg HV9
        obtain ⟨y9, D9, HD0, HD1⟩ : ∃ (y : Ha) (D : Int), ResH (ghX b) (ghE b) = .tuple #[y.v, .int .i64 D] ∧ (y = (if ghE b = 0 then ghX b else Ha.zero) ∧ D = ghE b) := ⟨_, _, rfl, rfl, rfl⟩
        rw [HD0]
        have HD := hide HD1
        clear HD0 HD1
        go_upto_region 19 with (first | (apply wl_store72 _ _ rfl rfl _ rfl _ rfl; (case hr => simp [go_sem]); (case hw => (simp [go_sem]; try exact rfl))))
        have HX := hide ((Below.heap_alloc we9 (.cells y9.cs 72) _ (lt_of_heap (unhide HX))).trans (unhide HX))
        have HH := hide ((Below.heap_alloc we9 (.cells y9.cs 72) _ (lt_of_heap (unhide HH))).trans (unhide HH))
        have HR := hide ((unhide HR).kept ((Fr.refl (fun _ => False) we9).alloc (.cells y9.cs 72)) (fun _ _ e => e))
        have HO := hide (heap_alloc_new we9 (.cells y9.cs 72))
        have FF := hide ((unhide FF).alloc (.cells y9.cs 72))
        refine wp_world ?_
        intro We9 hWe9
        rw [← hWe9] at HX HH HO HR FF
        clear hWe9
        by_cases hE : ghE b = 0
        · have hD : D9 = 0 := by rw [(unhide HD).2, hE]
          have hy : y9 = ghX b := by rw [(unhide HD).1, if_pos hE]
          subst hD hy
          clear HD
          have HQ := hide (hb_gh b hE)
          clear hE
          go_wp2_with (first | (go_at_call 17; refine (num_any _ _).mono ?_; rintro e w' ⟨rfl, hw'⟩; have hw2 := hw'.symm; subst hw2; clear hw') | (apply wl_load72 _ rfl rfl _ rfl; (case hr => exact rowN_q (unhide HO)); (case hc => exact rowD_q (unhide HO))))
          refine (putH_any (ghX b) (ghX_ok b) _).mono ?_
          rintro e wq9 ⟨vq9, rfl, hp⟩
          rw [(unhide HQ).2]
          rw [(unhide HQ).1] at hp
          have HX := hide (((hp.fr).block _ (lt_of_heap (unhide HX)) id).trans (unhide HX))
          have HH := hide (((hp.fr).block _ (lt_of_heap (unhide HH)) id).trans (unhide HH))
          have HR := hide ((unhide HR).kept (hp.fr) (fun _ _ e => e))
          have FF := hide ((unhide FF).trans hp.fr (fun _ _ e => e))
          have HPR := hide hp.rd
          clear hp HQ HO
          have k1 := cv26 (unhide HR)
          have k2 := cv26 (unhide HPR)
          go_upto_region 23 with (first | (go_at_call 17; refine (num_any _ _).mono ?_; rintro e w' ⟨rfl, hw'⟩; have hw2 := hw'.symm; subst hw2; clear hw'))
          clear k1 k2 HPR
          go_wp2_with fail
          refine (live_any _).mono ?_
          rintro e wl ⟨rfl, fl⟩
          go_wp2_with fail
          go_ret
          exact ⟨rfl, (unhide FF).trans fl (fun _ _ e => e)⟩
        · have hD : D9 ≠ 0 := by rw [(unhide HD).2]; exact hE
          have hb0 : (D9 == 0) = false := by simpa using hD
          clear HD hE
          go_upto_region 23 with (first | (go_at_call 17; refine (num_any _ _).mono ?_; rintro e w' ⟨rfl, hw'⟩; have hw2 := hw'.symm; subst hw2; clear hw'))
          clear hD hb0 HO
          go_wp2_with fail
          refine (live_any _).mono ?_
          rintro e wl ⟨rfl, fl⟩
          go_wp2_with fail
          go_ret
          exact ⟨rfl, (unhide FF).trans fl (fun _ _ e => e)⟩
      · obtain ⟨Ep, hEp⟩ : ∃ E, E = Ytbenailemoefhaa.hE s := ⟨_, rfl⟩
        rw [← hEp] at hE ⊢
        have hb0 : (Ep == 0) = false := by simpa using hE
        clear HP hEp
        go_upto_region 18 with (first | (go_at_call 17; refine (num_any _ _).mono ?_; rintro e w' ⟨rfl, hw'⟩; have hw2 := hw'.symm; subst hw2; clear hw'))
        clear hE hb0
        go_wp2_with (first | (refine wl_cln rfl rfl _ _ rfl rfl rfl (unhide HR) (by have := unhide HL; have := unhide HN; omega) ?_; intro a9 c9 wc10 h3))
        have HX := hide (((h3.fr).block _ (lt_of_heap (unhide HX)) id).trans (unhide HX))
        have HH := hide (((h3.fr).block _ (lt_of_heap (unhide HH)) id).trans (unhide HH))
        have HR := hide ((unhide HR).kept (h3.fr) (fun _ _ e => e))
        have HV9 := hide h3.rd
        have FF := hide ((unhide FF).trans h3.fr (fun _ _ e => e))
        clear h3
        refine (getH_any _ _ b (unhide HV9)).mono ?_
        rintro e we10 ⟨rfl, fg⟩
        have HX := hide (((fg).block _ (lt_of_heap (unhide HX)) id).trans (unhide HX))
        have HH := hide (((fg).block _ (lt_of_heap (unhide HH)) id).trans (unhide HH))
        have HR := hide ((unhide HR).kept (fg) (fun _ _ e => e))
        have FF := hide ((unhide FF).trans fg (fun _ _ e => e))
        clear fg HV9
        obtain ⟨y10, D10, HD0, HD1⟩ : ∃ (y : Ha) (D : Int), ResH (ghX b) (ghE b) = .tuple #[y.v, .int .i64 D] ∧ (y = (if ghE b = 0 then ghX b else Ha.zero) ∧ D = ghE b) := ⟨_, _, rfl, rfl, rfl⟩
        rw [HD0]
        have HD := hide HD1
        clear HD0 HD1
        go_upto_region 19 with (first | (apply wl_store72 _ _ rfl rfl _ rfl _ rfl; (case hr => simp [go_sem]); (case hw => (simp [go_sem]; try exact rfl))))
        have HX := hide ((Below.heap_alloc we10 (.cells y10.cs 72) _ (lt_of_heap (unhide HX))).trans (unhide HX))
        have HH := hide ((Below.heap_alloc we10 (.cells y10.cs 72) _ (lt_of_heap (unhide HH))).trans (unhide HH))
        have HR := hide ((unhide HR).kept ((Fr.refl (fun _ => False) we10).alloc (.cells y10.cs 72)) (fun _ _ e => e))
        have HO := hide (heap_alloc_new we10 (.cells y10.cs 72))
        have FF := hide ((unhide FF).alloc (.cells y10.cs 72))
        refine wp_world ?_
        intro We10 hWe10
        rw [← hWe10] at HX HH HO HR FF
        clear hWe10
        by_cases hE : ghE b = 0
        · have hD : D10 = 0 := by rw [(unhide HD).2, hE]
          have hy : y10 = ghX b := by rw [(unhide HD).1, if_pos hE]
          subst hD hy
          clear HD
          have HQ := hide (hb_gh b hE)
          clear hE
          go_wp2_with (first | (go_at_call 17; refine (num_any _ _).mono ?_; rintro e w' ⟨rfl, hw'⟩; have hw2 := hw'.symm; subst hw2; clear hw') | (apply wl_load72 _ rfl rfl _ rfl; (case hr => exact rowN_q (unhide HO)); (case hc => exact rowD_q (unhide HO))))
          refine (putH_any (ghX b) (ghX_ok b) _).mono ?_
          rintro e wq10 ⟨vq10, rfl, hp⟩
          rw [(unhide HQ).2]
          rw [(unhide HQ).1] at hp
          have HX := hide (((hp.fr).block _ (lt_of_heap (unhide HX)) id).trans (unhide HX))
          have HH := hide (((hp.fr).block _ (lt_of_heap (unhide HH)) id).trans (unhide HH))
          have HR := hide ((unhide HR).kept (hp.fr) (fun _ _ e => e))
          have FF := hide ((unhide FF).trans hp.fr (fun _ _ e => e))
          have HPR := hide hp.rd
          clear hp HQ HO
          have k1 := cv26 (unhide HR)
          have k2 := cv26 (unhide HPR)
          go_upto_region 23 with (first | (go_at_call 17; refine (num_any _ _).mono ?_; rintro e w' ⟨rfl, hw'⟩; have hw2 := hw'.symm; subst hw2; clear hw'))
          clear k1 k2 HPR
          go_wp2_with fail
          refine (live_any _).mono ?_
          rintro e wl ⟨rfl, fl⟩
          go_wp2_with fail
          go_ret
          exact ⟨rfl, (unhide FF).trans fl (fun _ _ e => e)⟩
        · have hD : D10 ≠ 0 := by rw [(unhide HD).2]; exact hE
          have hb0 : (D10 == 0) = false := by simpa using hD
          clear HD hE
          go_upto_region 23 with (first | (go_at_call 17; refine (num_any _ _).mono ?_; rintro e w' ⟨rfl, hw'⟩; have hw2 := hw'.symm; subst hw2; clear hw'))
          clear hD hb0 HO
          go_wp2_with fail
          refine (live_any _).mono ?_
          rintro e wl ⟨rfl, fl⟩
          go_wp2_with fail
          go_ret
          exact ⟨rfl, (unhide FF).trans fl (fun _ _ e => e)⟩
end Go.Proofs.Ytbenailemoefhaa
