/-
  An inode out of bytes: Get.
-/
import Derived.Test.YtbenailemoefhaaD3
import Derived.Deep.DeepCutAuto
import Derived.Deep.CutBlock
namespace Go.Proofs.Ytbenailemoefhaa
open Go.RowKit
set_option linter.unusedVariables false
set_option linter.unusedSimpArgs false

attribute [local go_sem ↓] Go.wp_at_zero Go.wp_at_succ

theorem crE_ok {r : List UInt8} {n : Nat} (h : crE r n = 0) : r.length = n + zb n := by
  unfold crE at h
  by_cases h1 : r.length < n + zb n
  · rw [if_pos h1] at h; simp at h
  · rw [if_neg h1] at h
    by_cases h2 : n + zb n < r.length
    · rw [if_pos h2] at h; simp at h
    · omega
set_option maxRecDepth 100000 in
set_option maxHeartbeats 8000000 in
theorem get_any (w : World) (v : Value) (b : List UInt8) (h : Rd w v b) : Calls Try.prog 15 #[v] w fun e w' => e = .returned (Res (gX b) (gE b)) ∧ Fr (fun _ => False) w w' := by
  have HG : Hid (gE b = if b.length < 84 then 3 else if 255 < nb b 80 4 then 1 else if crE (b.drop 84) (nb b 80 4) ≠ 0 then crE (b.drop 84) (nb b 80 4) else ck (gX b)) := hide rfl
  have HX : Hid (gX b = { hdX b with t := str ((b.drop 84).take (nb b 80 4)) }) := hide rfl
  obtain ⟨ao, cap, rfl⟩ := h.shape
  have HR := hide h
  have HCK := check_any (gX b)
  by_cases h84 : b.length < 84
  · have d1 : decide ((b.length : Int) < 84) = true := by simp; omega
    rw [if_pos h84] at HG
    obtain ⟨n, hn⟩ : ∃ n, n = b.length := ⟨_, rfl⟩
    rw [← hn] at d1 ⊢
    generalize gE b = ge at *
    generalize gX b = gx at *
    have hge : ge = 3 := unhide HG
    subst hge
    clear HX HR h HCK h84 hn HG
    go_enter Try.func15, Try.ntmps15
    go_wp2_with (first | (refine wl_zero25 rfl rfl ?_; simp only [Act.put, List.setIfInBounds_toArray, List.set_cons_succ, List.set_cons_zero]) | (apply wl_store25 _ _ rfl rfl _ rfl _ rfl; (case hr => (first | (simp [go_sem]; done) | (simp (disch := first | rfl | (simp; done) | (simp; omega)) only [rowN_ext, rowN_alloc_past, In.rowN]; done))); (case hw => (first | (simp (disch := first | rfl | (simp; done) | (simp; omega)) only [setRow_ext, setRow_alloc_past, setRow_alloc_at]; exact rfl) | (simp [go_sem]; try exact rfl)))))
    apply re25 rfl rfl rfl; (case hr => (first | (simp [go_sem]; done) | (simp (disch := first | rfl | (simp; done) | (simp; omega)) only [rowN_ext, rowN_alloc_past, In.rowN]; done))); (case hc => (first | (simp [go_sem]; done) | (simp (disch := first | rfl | (simp; done) | (simp; omega)) only [rowD_ext, rowD_alloc_past, rowD_alloc_at]; try exact rfl)))
    refine ⟨congrArg Ending.returned ?_, by repeat' (first | exact Fr.refl _ _ | apply Fr.alloc | rw [← ext_ext] | (refine Fr.ext ?_ (by assumption)))⟩
    rfl
  have HH : Hid (∀ W, Fr (fun _ => False) w W → Calls Try.prog 44 #[.slice ao b.length cap] W fun e w' => e = .returned (.tuple #[(hdX b).v, .int .u32 ((nb b 80 4 : Nat) : Int)]) ∧ Fr (fun _ => False) W w') := hide (fun W f => head_any W _ b ((unhide HR).kept f (fun _ _ e => e)) (by omega))
  obtain ⟨B, o, rfl, -, hnc, hcm, hc⟩ := h.lits (by omega)
  have hBw : B < w.heap.size := World.block_lt_of_cell? w _ (hc 0 (by omega))
  have HC : Hid (∀ W, Fr (fun _ => False) w W → ∀ j (h : j < b.length), W.cell? ⟨B, o + j, none⟩ = some (.int .u8 ((b[j].toNat : Nat) : Int))) := hide (fun W f j hj => by rw [f.cell hBw id]; exact hc j hj)
  rw [if_neg h84] at HG
  obtain ⟨n, hn⟩ : ∃ n, n = b.length := ⟨_, rfl⟩
  have hn84 : 84 ≤ n := by omega
  rw [← hn] at hnc HH ⊢
  have HN := hide hn
  have d1 : decide ((n : Int) < 84) = false := by simp; omega
  have hLb : nb b 80 4 < 4294967296 := nb_lt b 80 4
  obtain ⟨L, hL⟩ : ∃ L, L = nb b 80 4 := ⟨_, rfl⟩
  obtain ⟨x0, hx0⟩ : ∃ x0, x0 = hdX b := ⟨_, rfl⟩
  rw [← hL] at HH HG HX hLb
  rw [← hx0] at HH HX
  have HL := hide hL
  generalize gE b = ge at *
  generalize gX b = gx at *
  clear h hc hBw hn h84 hL hx0 HR
  by_cases h255 : 255 < L
  · have d2 : decide ((255 : Int) < (L : Int)) = true := by simp; omega
    rw [if_pos h255] at HG
    have hge : ge = 1 := unhide HG
    subst hge
    clear HG HX HCK HC h255
    go_enter Try.func15, Try.ntmps15
    go_wp2_with (first | (go_at_call 44; refine mono_ext (unhide HH _ (by repeat' (first | exact Fr.refl _ _ | apply Fr.alloc | rw [← ext_ext] | (refine Fr.ext ?_ (by assumption))))) ?_; rintro e E rfl hE) | (refine wl_zero25 rfl rfl ?_; simp only [Act.put, List.setIfInBounds_toArray, List.set_cons_succ, List.set_cons_zero]) | (apply wl_store25 _ _ rfl rfl _ rfl _ rfl; (case hr => (first | (simp [go_sem]; done) | (simp (disch := first | rfl | (simp; done) | (simp; omega)) only [rowN_ext, rowN_alloc_past, In.rowN]; done))); (case hw => (first | (simp (disch := first | rfl | (simp; done) | (simp; omega)) only [setRow_ext, setRow_alloc_past, setRow_alloc_at]; exact rfl) | (simp [go_sem]; try exact rfl)))))
    apply re25 rfl rfl rfl; (case hr => (first | (simp [go_sem]; done) | (simp (disch := first | rfl | (simp; done) | (simp; omega)) only [rowN_ext, rowN_alloc_past, In.rowN]; done))); (case hc => (first | (simp [go_sem]; done) | (simp (disch := first | rfl | (simp; done) | (simp; omega)) only [rowD_ext, rowD_alloc_past, rowD_alloc_at]; try exact rfl)))
    refine ⟨congrArg Ending.returned ?_, by repeat' (first | exact Fr.refl _ _ | apply Fr.alloc | rw [← ext_ext] | (refine Fr.ext ?_ (by assumption)))⟩
    rfl
  have d2 : decide ((255 : Int) < (L : Int)) = false := by simp; omega
  rw [if_neg h255] at HG
  have HCR : Hid (crE (b.drop 84) L = 0 → (b.drop 84).length = L + zb L) := hide crE_ok
  obtain ⟨C, hC⟩ : ∃ C, C = crE (b.drop 84) L := ⟨_, rfl⟩
  rw [← hC] at HG HCR
  obtain ⟨st, hst⟩ : ∃ st, st = str ((b.drop 84).take L) := ⟨_, rfl⟩
  rw [← hst] at HX
  have HST := hide hst
  have HCC := hide hC
  rw [unhide HX] at HCK
  obtain ⟨c2, hc2⟩ : ∃ c2, c2 = ck gx := ⟨_, rfl⟩
  rw [← hc2] at HG
  rw [← unhide HX, ← hc2, unhide HX] at HCK
  have hdl : (b.drop 84).length = n - 84 := by rw [List.length_drop, unhide HN]
  have HDL := hide hdl
  have hL255 : L ≤ 255 := by omega
  clear hC hst hc2 hdl h255
  by_cases hcap : 84 = cap
  · subst hcap
    obtain rfl : n = 84 := by omega
    go_enter Try.func15, Try.ntmps15
    go_upto_region 6 with (first | (go_at_call 44; refine mono_ext (unhide HH _ (by repeat' (first | exact Fr.refl _ _ | apply Fr.alloc | rw [← ext_ext] | (refine Fr.ext ?_ (by assumption))))) ?_; rintro e E rfl hE) | (apply wl_store25 _ _ rfl rfl _ rfl _ rfl; (case hr => (first | (simp [go_sem]; done) | (simp (disch := first | rfl | (simp; done) | (simp; omega)) only [rowN_ext, rowN_alloc_past, In.rowN]; done))); (case hw => (first | (simp (disch := first | rfl | (simp; done) | (simp; omega)) only [setRow_ext, setRow_alloc_past, setRow_alloc_at]; exact rfl) | (simp [go_sem]; try exact rfl)))))
    go_quiet (fail)
    obtain ⟨E2, hE2, hL2⟩ := ext_of (Fr.ofDrewN (S := fun _ => False) ((Ytbenailemoefhaa.ext (w.alloc (.cells (In.cs ⟨0, 0, 0, 0, 0, 0, 0, 0, 0, 0, 0, 0, 0, ⟨#[]⟩⟩) 25)) E).alloc (.cells x0.cs 25)) nq)
    rw [hE2]
    have FW : Hid (Fr (fun _ => False) w (Ytbenailemoefhaa.ext ((Ytbenailemoefhaa.ext (w.alloc (.cells (In.cs ⟨0, 0, 0, 0, 0, 0, 0, 0, 0, 0, 0, 0, 0, ⟨#[]⟩⟩) 25)) E).alloc (.cells x0.cs 25)) E2)) := hide (by repeat' (first | exact Fr.refl _ _ | apply Fr.alloc | rw [← ext_ext] | (refine Fr.ext ?_ (by assumption))))
    have HRS := hide (rest_any (Ytbenailemoefhaa.ext ((Ytbenailemoefhaa.ext (w.alloc (.cells (In.cs ⟨0, 0, 0, 0, 0, 0, 0, 0, 0, 0, 0, 0, 0, ⟨#[]⟩⟩) 25)) E).alloc (.cells x0.cs 25)) E2) B o 0 0 (b.drop 84) L (by omega) (by rw [unhide HDL]) (by omega) (by omega) (fun j hj => by
      have h1 := unhide HDL
      have h2 := unhide HC _ (unhide FW) (84 + j) (by have := unhide HN; omega)
      rw [List.getElem_drop]
      first | (exfalso; omega) | (rw [show o + j = o + (84 + j) by omega]; exact h2)))
    rw [← unhide HCC] at HRS
    clear hE2
    go_wp2_with fail
    refine (unhide HRS).mono ?_
    rintro e w9 ⟨rfl, rfl⟩
    by_cases hC0 : C = 0
    · subst hC0
      have hge : ge = c2 := by rw [unhide HG, if_neg (by decide)]
      have hLn : L ≤ 0 := by have h1 := unhide HCR rfl; have h2 := unhide HDL; omega
      obtain rfl : L = 0 := by omega
      have kc := conv_rd (P := Try.prog) (Rd.lit (w := Ytbenailemoefhaa.ext ((Ytbenailemoefhaa.ext (w.alloc (.cells (In.cs ⟨0, 0, 0, 0, 0, 0, 0, 0, 0, 0, 0, 0, 0, ⟨#[]⟩⟩) 25)) E).alloc (.cells x0.cs 25)) E2) (b := B) (o := o) (n := 0) (cap := 0) (l := (b.drop 84).take 0) (by rw [List.length_take, unhide HDL]; omega) (by omega) (by omega) (fun j hj => by
        have h0 : j < 0 := by rw [List.length_take] at hj; omega
        have h1 := unhide HDL
        have h2 := unhide HC _ (unhide FW) (84 + j) (by have := unhide HN; omega)
        rw [List.getElem_take, List.getElem_drop]
        first | (exfalso; omega) | (rw [show o + j = o + (84 + j) by omega]; exact h2))) 26 9 5 Try.underlying26 Try.underlying5 Try.underlying9
      rw [← unhide HST] at kc
      subst hge
      clear HG HRS HCR HC HST HCC FW HH
      by_cases hk0 : ge = 0
      · subst hk0
        go_wp2_with (first | (go_at_call 18; refine mono_ext (HCK _) ?_; rintro e E3 rfl hE3) | (refine wl_zero25 rfl rfl ?_; simp only [Act.put, List.setIfInBounds_toArray, List.set_cons_succ, List.set_cons_zero]) | (apply wl_load25 _ rfl rfl _ rfl; (case hr => (first | (simp [go_sem]; done) | (simp (disch := first | rfl | (simp; done) | (simp; omega)) only [rowN_ext, rowN_alloc_past, In.rowN]; done))); (case hc => (first | (simp [go_sem]; done) | (simp (disch := first | rfl | (simp; done) | (simp; omega)) only [rowD_ext, rowD_alloc_past, rowD_alloc_at]; try exact rfl)))) | (apply wl_store25 _ _ rfl rfl _ rfl _ rfl; (case hr => (first | (simp [go_sem]; done) | (simp (disch := first | rfl | (simp; done) | (simp; omega)) only [rowN_ext, rowN_alloc_past, In.rowN]; done))); (case hw => (first | (simp (disch := first | rfl | (simp; done) | (simp; omega)) only [setRow_ext, setRow_alloc_past, setRow_alloc_at]; exact rfl) | (simp [go_sem]; try exact rfl)))))
        apply re25 rfl rfl rfl; (case hr => (first | (simp [go_sem]; done) | (simp (disch := first | rfl | (simp; done) | (simp; omega)) only [rowN_ext, rowN_alloc_past, In.rowN]; done))); (case hc => (first | (simp [go_sem]; done) | (simp (disch := first | rfl | (simp; done) | (simp; omega)) only [rowD_ext, rowD_alloc_past, rowD_alloc_at]; try exact rfl)))
        refine ⟨congrArg Ending.returned ?_, by repeat' (first | exact Fr.refl _ _ | apply Fr.alloc | rw [← ext_ext] | (refine Fr.ext ?_ (by assumption)))⟩
        rw [unhide HX]; rfl
      · have bne : (ge != 0) = true := by simpa using hk0
        go_wp2_with (first | (go_at_call 18; refine mono_ext (HCK _) ?_; rintro e E3 rfl hE3) | (refine wl_zero25 rfl rfl ?_; simp only [Act.put, List.setIfInBounds_toArray, List.set_cons_succ, List.set_cons_zero]) | (apply wl_load25 _ rfl rfl _ rfl; (case hr => (first | (simp [go_sem]; done) | (simp (disch := first | rfl | (simp; done) | (simp; omega)) only [rowN_ext, rowN_alloc_past, In.rowN]; done))); (case hc => (first | (simp [go_sem]; done) | (simp (disch := first | rfl | (simp; done) | (simp; omega)) only [rowD_ext, rowD_alloc_past, rowD_alloc_at]; try exact rfl)))) | (apply wl_store25 _ _ rfl rfl _ rfl _ rfl; (case hr => (first | (simp [go_sem]; done) | (simp (disch := first | rfl | (simp; done) | (simp; omega)) only [rowN_ext, rowN_alloc_past, In.rowN]; done))); (case hw => (first | (simp (disch := first | rfl | (simp; done) | (simp; omega)) only [setRow_ext, setRow_alloc_past, setRow_alloc_at]; exact rfl) | (simp [go_sem]; try exact rfl)))))
        apply re25 rfl rfl rfl; (case hr => (first | (simp [go_sem]; done) | (simp (disch := first | rfl | (simp; done) | (simp; omega)) only [rowN_ext, rowN_alloc_past, In.rowN]; done))); (case hc => (first | (simp [go_sem]; done) | (simp (disch := first | rfl | (simp; done) | (simp; omega)) only [rowD_ext, rowD_alloc_past, rowD_alloc_at]; try exact rfl)))
        refine ⟨congrArg Ending.returned ?_, by repeat' (first | exact Fr.refl _ _ | apply Fr.alloc | rw [← ext_ext] | (refine Fr.ext ?_ (by assumption)))⟩
        rw [show Res gx ge = Value.tuple #[In.zero.v, .int .i64 ge] by simp [Res, hk0]]; rfl
    · have bne : (C != 0) = true := by simpa using hC0
      have hge : ge = C := by rw [unhide HG, if_pos hC0]
      subst hge
      clear HG HRS HCR HC HST FW HH HCK
      go_wp2_with (first | (refine wl_zero25 rfl rfl ?_; simp only [Act.put, List.setIfInBounds_toArray, List.set_cons_succ, List.set_cons_zero]) | (apply wl_store25 _ _ rfl rfl _ rfl _ rfl; (case hr => (first | (simp [go_sem]; done) | (simp (disch := first | rfl | (simp; done) | (simp; omega)) only [rowN_ext, rowN_alloc_past, In.rowN]; done))); (case hw => (first | (simp (disch := first | rfl | (simp; done) | (simp; omega)) only [setRow_ext, setRow_alloc_past, setRow_alloc_at]; exact rfl) | (simp [go_sem]; try exact rfl)))))
      apply re25 rfl rfl rfl; (case hr => (first | (simp [go_sem]; done) | (simp (disch := first | rfl | (simp; done) | (simp; omega)) only [rowN_ext, rowN_alloc_past, In.rowN]; done))); (case hc => (first | (simp [go_sem]; done) | (simp (disch := first | rfl | (simp; done) | (simp; omega)) only [rowD_ext, rowD_alloc_past, rowD_alloc_at]; try exact rfl)))
      refine ⟨congrArg Ending.returned ?_, by repeat' (first | exact Fr.refl _ _ | apply Fr.alloc | rw [← ext_ext] | (refine Fr.ext ?_ (by assumption)))⟩
      rw [show Res gx ge = Value.tuple #[In.zero.v, .int .i64 ge] by simp [Res, hC0]]; rfl
  · have hc84 : 84 < cap := by omega
    go_enter Try.func15, Try.ntmps15
    go_upto_region 6 with (first | (go_at_call 44; refine mono_ext (unhide HH _ (by repeat' (first | exact Fr.refl _ _ | apply Fr.alloc | rw [← ext_ext] | (refine Fr.ext ?_ (by assumption))))) ?_; rintro e E rfl hE) | (apply wl_store25 _ _ rfl rfl _ rfl _ rfl; (case hr => (first | (simp [go_sem]; done) | (simp (disch := first | rfl | (simp; done) | (simp; omega)) only [rowN_ext, rowN_alloc_past, In.rowN]; done))); (case hw => (first | (simp (disch := first | rfl | (simp; done) | (simp; omega)) only [setRow_ext, setRow_alloc_past, setRow_alloc_at]; exact rfl) | (simp [go_sem]; try exact rfl)))))
    go_quiet (fail)
    obtain ⟨E2, hE2, hL2⟩ := ext_of (Fr.ofDrewN (S := fun _ => False) ((Ytbenailemoefhaa.ext (w.alloc (.cells (In.cs ⟨0, 0, 0, 0, 0, 0, 0, 0, 0, 0, 0, 0, 0, ⟨#[]⟩⟩) 25)) E).alloc (.cells x0.cs 25)) nq)
    rw [hE2]
    have FW : Hid (Fr (fun _ => False) w (Ytbenailemoefhaa.ext ((Ytbenailemoefhaa.ext (w.alloc (.cells (In.cs ⟨0, 0, 0, 0, 0, 0, 0, 0, 0, 0, 0, 0, 0, ⟨#[]⟩⟩) 25)) E).alloc (.cells x0.cs 25)) E2)) := hide (by repeat' (first | exact Fr.refl _ _ | apply Fr.alloc | rw [← ext_ext] | (refine Fr.ext ?_ (by assumption))))
    have HRS := hide (rest_any (Ytbenailemoefhaa.ext ((Ytbenailemoefhaa.ext (w.alloc (.cells (In.cs ⟨0, 0, 0, 0, 0, 0, 0, 0, 0, 0, 0, 0, 0, ⟨#[]⟩⟩) 25)) E).alloc (.cells x0.cs 25)) E2) B (o + 84) (n - 84) (cap - 84) (b.drop 84) L (by omega) (by rw [unhide HDL]) (by omega) (by omega) (fun j hj => by
      have h1 := unhide HDL
      have h2 := unhide HC _ (unhide FW) (84 + j) (by have := unhide HN; omega)
      rw [List.getElem_drop]
      first | (exfalso; omega) | (rw [show (o + 84) + j = o + (84 + j) by omega]; exact h2)))
    rw [← unhide HCC] at HRS
    clear hE2
    go_wp2_with fail
    refine (unhide HRS).mono ?_
    rintro e w9 ⟨rfl, rfl⟩
    by_cases hC0 : C = 0
    · subst hC0
      have hge : ge = c2 := by rw [unhide HG, if_neg (by decide)]
      have hLn : L ≤ (n - 84) := by have h1 := unhide HCR rfl; have h2 := unhide HDL; omega
      have kc := conv_rd (P := Try.prog) (Rd.lit (w := Ytbenailemoefhaa.ext ((Ytbenailemoefhaa.ext (w.alloc (.cells (In.cs ⟨0, 0, 0, 0, 0, 0, 0, 0, 0, 0, 0, 0, 0, ⟨#[]⟩⟩) 25)) E).alloc (.cells x0.cs 25)) E2) (b := B) (o := (o + 84)) (n := L) (cap := (cap - 84)) (l := (b.drop 84).take L) (by rw [List.length_take, unhide HDL]; omega) (by omega) (by omega) (fun j hj => by
        have h0 : j < L := by rw [List.length_take] at hj; omega
        have h1 := unhide HDL
        have h2 := unhide HC _ (unhide FW) (84 + j) (by have := unhide HN; omega)
        rw [List.getElem_take, List.getElem_drop]
        first | (exfalso; omega) | (rw [show (o + 84) + j = o + (84 + j) by omega]; exact h2))) 26 9 5 Try.underlying26 Try.underlying5 Try.underlying9
      rw [← unhide HST] at kc
      subst hge
      clear HG HRS HCR HC HST HCC FW HH
      by_cases hk0 : ge = 0
      · subst hk0
        go_wp2_with (first | (go_at_call 18; refine mono_ext (HCK _) ?_; rintro e E3 rfl hE3) | (refine wl_zero25 rfl rfl ?_; simp only [Act.put, List.setIfInBounds_toArray, List.set_cons_succ, List.set_cons_zero]) | (apply wl_load25 _ rfl rfl _ rfl; (case hr => (first | (simp [go_sem]; done) | (simp (disch := first | rfl | (simp; done) | (simp; omega)) only [rowN_ext, rowN_alloc_past, In.rowN]; done))); (case hc => (first | (simp [go_sem]; done) | (simp (disch := first | rfl | (simp; done) | (simp; omega)) only [rowD_ext, rowD_alloc_past, rowD_alloc_at]; try exact rfl)))) | (apply wl_store25 _ _ rfl rfl _ rfl _ rfl; (case hr => (first | (simp [go_sem]; done) | (simp (disch := first | rfl | (simp; done) | (simp; omega)) only [rowN_ext, rowN_alloc_past, In.rowN]; done))); (case hw => (first | (simp (disch := first | rfl | (simp; done) | (simp; omega)) only [setRow_ext, setRow_alloc_past, setRow_alloc_at]; exact rfl) | (simp [go_sem]; try exact rfl)))))
        apply re25 rfl rfl rfl; (case hr => (first | (simp [go_sem]; done) | (simp (disch := first | rfl | (simp; done) | (simp; omega)) only [rowN_ext, rowN_alloc_past, In.rowN]; done))); (case hc => (first | (simp [go_sem]; done) | (simp (disch := first | rfl | (simp; done) | (simp; omega)) only [rowD_ext, rowD_alloc_past, rowD_alloc_at]; try exact rfl)))
        refine ⟨congrArg Ending.returned ?_, by repeat' (first | exact Fr.refl _ _ | apply Fr.alloc | rw [← ext_ext] | (refine Fr.ext ?_ (by assumption)))⟩
        rw [unhide HX]; rfl
      · have bne : (ge != 0) = true := by simpa using hk0
        go_wp2_with (first | (go_at_call 18; refine mono_ext (HCK _) ?_; rintro e E3 rfl hE3) | (refine wl_zero25 rfl rfl ?_; simp only [Act.put, List.setIfInBounds_toArray, List.set_cons_succ, List.set_cons_zero]) | (apply wl_load25 _ rfl rfl _ rfl; (case hr => (first | (simp [go_sem]; done) | (simp (disch := first | rfl | (simp; done) | (simp; omega)) only [rowN_ext, rowN_alloc_past, In.rowN]; done))); (case hc => (first | (simp [go_sem]; done) | (simp (disch := first | rfl | (simp; done) | (simp; omega)) only [rowD_ext, rowD_alloc_past, rowD_alloc_at]; try exact rfl)))) | (apply wl_store25 _ _ rfl rfl _ rfl _ rfl; (case hr => (first | (simp [go_sem]; done) | (simp (disch := first | rfl | (simp; done) | (simp; omega)) only [rowN_ext, rowN_alloc_past, In.rowN]; done))); (case hw => (first | (simp (disch := first | rfl | (simp; done) | (simp; omega)) only [setRow_ext, setRow_alloc_past, setRow_alloc_at]; exact rfl) | (simp [go_sem]; try exact rfl)))))
        apply re25 rfl rfl rfl; (case hr => (first | (simp [go_sem]; done) | (simp (disch := first | rfl | (simp; done) | (simp; omega)) only [rowN_ext, rowN_alloc_past, In.rowN]; done))); (case hc => (first | (simp [go_sem]; done) | (simp (disch := first | rfl | (simp; done) | (simp; omega)) only [rowD_ext, rowD_alloc_past, rowD_alloc_at]; try exact rfl)))
        refine ⟨congrArg Ending.returned ?_, by repeat' (first | exact Fr.refl _ _ | apply Fr.alloc | rw [← ext_ext] | (refine Fr.ext ?_ (by assumption)))⟩
        rw [show Res gx ge = Value.tuple #[In.zero.v, .int .i64 ge] by simp [Res, hk0]]; rfl
    · have bne : (C != 0) = true := by simpa using hC0
      have hge : ge = C := by rw [unhide HG, if_pos hC0]
      subst hge
      clear HG HRS HCR HC HST FW HH HCK
      go_wp2_with (first | (refine wl_zero25 rfl rfl ?_; simp only [Act.put, List.setIfInBounds_toArray, List.set_cons_succ, List.set_cons_zero]) | (apply wl_store25 _ _ rfl rfl _ rfl _ rfl; (case hr => (first | (simp [go_sem]; done) | (simp (disch := first | rfl | (simp; done) | (simp; omega)) only [rowN_ext, rowN_alloc_past, In.rowN]; done))); (case hw => (first | (simp (disch := first | rfl | (simp; done) | (simp; omega)) only [setRow_ext, setRow_alloc_past, setRow_alloc_at]; exact rfl) | (simp [go_sem]; try exact rfl)))))
      apply re25 rfl rfl rfl; (case hr => (first | (simp [go_sem]; done) | (simp (disch := first | rfl | (simp; done) | (simp; omega)) only [rowN_ext, rowN_alloc_past, In.rowN]; done))); (case hc => (first | (simp [go_sem]; done) | (simp (disch := first | rfl | (simp; done) | (simp; omega)) only [rowD_ext, rowD_alloc_past, rowD_alloc_at]; try exact rfl)))
      refine ⟨congrArg Ending.returned ?_, by repeat' (first | exact Fr.refl _ _ | apply Fr.alloc | rw [← ext_ext] | (refine Fr.ext ?_ (by assumption)))⟩
      rw [show Res gx ge = Value.tuple #[In.zero.v, .int .i64 ge] by simp [Res, hC0]]; rfl
end Go.Proofs.Ytbenailemoefhaa
