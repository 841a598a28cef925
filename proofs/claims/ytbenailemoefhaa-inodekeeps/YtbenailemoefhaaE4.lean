/-
  The document's GetHandle.
-/
import Derived.Test.YtbenailemoefhaaE3
import Derived.Test.YtbenailemoefhaaD5
import Derived.Deep.DeepCutAuto
import Derived.Deep.CutBlock
namespace Go.Proofs.Ytbenailemoefhaa
open Go.RowKit Go.Lib
set_option linter.unusedVariables false
set_option linter.unusedSimpArgs false

attribute [local go_sem ↓] Go.wp_at_zero Go.wp_at_succ

set_option maxRecDepth 100000 in
set_option maxHeartbeats 4000000 in
theorem rgetH_any (w : World) (v : Value) (b : List UInt8) (h : Rd w v b) : Calls Try.prog 37 #[v] w fun e w' => e = .returned (ResH (ghX b) (ghE b)) ∧ Fr (fun _ => False) w w' := by
  have HG : Hid (ghE b = if b.length = 20 ∧ b.take 4 = mk4 ∧ cnB (ghX b) = true then 0 else 121) := hide rfl
  obtain ⟨ao, cap, rfl⟩ := h.shape
  by_cases h20 : b.length = 20
  rotate_left
  · have d1 : ((b.length : Int) != 20) = true := by simp; omega
    rw [if_neg (fun e => h20 e.1)] at HG
    obtain ⟨n, hn⟩ : ∃ n, n = b.length := ⟨_, rfl⟩
    rw [← hn] at d1 ⊢
    generalize ghE b = ge at *
    generalize ghX b = gx at *
    have hge : ge = 121 := unhide HG
    subst hge
    clear h h20 hn HG
    go_enter Try.func37, Try.ntmps37
    go_wp2_with (first | (refine wl_zero72 rfl rfl ?_; simp only [Act.put, List.setIfInBounds_toArray, List.set_cons_succ, List.set_cons_zero]) | (apply wl_store72 _ _ rfl rfl _ rfl _ rfl; (case hr => (first | (simp [go_sem]; done) | (simp (disch := first | rfl | (simp; done) | (simp; omega)) only [rowN_ext, rowN_alloc_past, Ha.rowN]; done))); (case hw => (first | (simp (disch := first | rfl | (simp; done) | (simp; omega)) only [setRow_ext, setRow_alloc_past, setRow_alloc_at]; exact rfl) | (simp [go_sem]; try exact rfl)))))
    apply re72 rfl rfl rfl; (case hr => (first | (simp [go_sem]; done) | (simp (disch := first | rfl | (simp; done) | (simp; omega)) only [rowN_ext, rowN_alloc_past, Ha.rowN]; done))); (case hc => (first | (simp [go_sem]; done) | (simp (disch := first | rfl | (simp; done) | (simp; omega)) only [rowD_ext, rowD_alloc_past, rowD_alloc_at]; try exact rfl)))
    refine ⟨congrArg Ending.returned ?_, by repeat' (first | exact Fr.refl _ _ | apply Fr.alloc | rw [← ext_ext] | (refine Fr.ext ?_ (by assumption)))⟩
    rfl
  rw [h20]
  obtain ⟨B, o, rfl, -, hnc, hcm, hc⟩ := h.lits (by omega)
  rw [h20] at hnc
  have hBw : B < w.heap.size := World.block_lt_of_cell? w _ (hc 0 (by omega))
  have HC : Hid (∀ W, Fr (fun _ => False) w W → ∀ j (h : j < b.length), W.cell? ⟨B, o + j, none⟩ = some (.int .u8 ((b[j].toNat : Nat) : Int))) := hide (fun W f j hj => by rw [f.cell hBw id]; exact hc j hj)
  have HN : Hid (20 = b.length) := hide h20.symm
  have HBW := hide hBw
  have kc := conv_rd (P := Try.prog) (Rd.lit (w := (w.alloc (.cells (Ha.cs ⟨0, 0, 0⟩) 72))) (b := B) (o := o) (n := 4) (cap := cap) (l := b.take 4) (by rw [List.length_take]; omega) (by omega) (by omega) (fun j hj => by
    have h0 : j < 4 := by rw [List.length_take] at hj; omega
    rw [List.getElem_take]
    exact unhide HC (w.alloc (.cells (Ha.cs ⟨0, 0, 0⟩) 72)) (by repeat' (first | exact Fr.refl _ _ | apply Fr.alloc | rw [← ext_ext] | (refine Fr.ext ?_ (by assumption)))) j (by omega))) 26 9 5 Try.underlying26 Try.underlying5 Try.underlying9
  obtain ⟨gx, hgx⟩ : ∃ gx, gx = ghX b := ⟨_, rfl⟩
  have HGX := hide hgx
  rw [← hgx] at HG ⊢
  generalize ghE b = ge at *
  clear h hc hBw hgx
  by_cases hm : b.take 4 = mk4
  rotate_left
  · have hne : ((str (b.take 4)).toList == [71, 82, 78, 49]) = false := by
      rw [str_toList]; simpa [mk4] using hm
    rw [if_neg (fun e => hm e.2.1)] at HG
    have hge : ge = 121 := unhide HG
    subst hge
    generalize str (b.take 4) = sx at *
    clear HG HC hm HGX HN h20
    go_enter Try.func37, Try.ntmps37
    go_wp2_with (first | (refine wl_zero72 rfl rfl ?_; simp only [Act.put, List.setIfInBounds_toArray, List.set_cons_succ, List.set_cons_zero]) | (apply wl_store72 _ _ rfl rfl _ rfl _ rfl; (case hr => (first | (simp [go_sem]; done) | (simp (disch := first | rfl | (simp; done) | (simp; omega)) only [rowN_ext, rowN_alloc_past, Ha.rowN]; done))); (case hw => (first | (simp (disch := first | rfl | (simp; done) | (simp; omega)) only [setRow_ext, setRow_alloc_past, setRow_alloc_at]; exact rfl) | (simp [go_sem]; try exact rfl)))))
    apply re72 rfl rfl rfl; (case hr => (first | (simp [go_sem]; done) | (simp (disch := first | rfl | (simp; done) | (simp; omega)) only [rowN_ext, rowN_alloc_past, Ha.rowN]; done))); (case hc => (first | (simp [go_sem]; done) | (simp (disch := first | rfl | (simp; done) | (simp; omega)) only [rowD_ext, rowD_alloc_past, rowD_alloc_at]; try exact rfl)))
    refine ⟨congrArg Ending.returned ?_, by repeat' (first | exact Fr.refl _ _ | apply Fr.alloc | rw [← ext_ext] | (refine Fr.ext ?_ (by assumption)))⟩
    rfl
  have hne : ((str (b.take 4)).toList == [71, 82, 78, 49]) = true := by
    rw [str_toList, hm]; rfl
  have HG2 : Hid (ge = if cnB gx = true then 0 else 121) := hide (by
    rw [unhide HG]
    by_cases hq : cnB gx = true
    · rw [if_pos ⟨h20, hm, hq⟩, if_pos hq]
    · rw [if_neg (fun e => hq e.2.2), if_neg hq])
  generalize str (b.take 4) = sx at *
  clear HG hm h20
  go_enter Try.func37, Try.ntmps37
  go_wp2_with fail
  refine (number_any _ B o 20 cap b 4 4 _ _ rfl rfl (unhide HN) hnc hcm (by omega) (by omega) (.inl rfl) (unhide HC _ (by repeat' (first | exact Fr.refl _ _ | apply Fr.alloc | rw [← ext_ext] | (refine Fr.ext ?_ (by assumption)))))).mono ?_
  rintro e w' ⟨rfl, rfl⟩
  have hyb0 := nb_lt b 4 4
  obtain ⟨y0, hy0⟩ : ∃ y, y = nb b 4 4 := ⟨_, rfl⟩
  rw [← hy0] at hyb0 ⊢
  have HY0 := hide hy0
  clear hy0
  go_wp2_with fail
  refine (number_any _ B o 20 cap b 8 8 _ _ rfl rfl (unhide HN) hnc hcm (by omega) (by omega) (.inr rfl) (unhide HC _ (by repeat' (first | exact Fr.refl _ _ | apply Fr.alloc | rw [← ext_ext] | (refine Fr.ext ?_ (by assumption)))))).mono ?_
  rintro e w' ⟨rfl, rfl⟩
  have hyb1 := nb_lt b 8 8
  obtain ⟨y1, hy1⟩ : ∃ y, y = nb b 8 8 := ⟨_, rfl⟩
  rw [← hy1] at hyb1 ⊢
  have HY1 := hide hy1
  clear hy1
  go_wp2_with fail
  refine (number_any _ B o 20 cap b 16 4 _ _ rfl rfl (unhide HN) hnc hcm (by omega) (by omega) (.inl rfl) (unhide HC _ (by repeat' (first | exact Fr.refl _ _ | apply Fr.alloc | rw [← ext_ext] | (refine Fr.ext ?_ (by assumption)))))).mono ?_
  rintro e w' ⟨rfl, rfl⟩
  have hyb2 := nb_lt b 16 4
  obtain ⟨y2, hy2⟩ : ∃ y, y = nb b 16 4 := ⟨_, rfl⟩
  rw [← hy2] at hyb2 ⊢
  have HY2 := hide hy2
  clear hy2
  have hXX : gx = ⟨y0, y1, y2⟩ := by rw [unhide HGX, unhide HY0, unhide HY1, unhide HY2]; rfl
  have HXX := hide hXX
  rw [hXX] at HG2
  have HCB : Hid (cnB (⟨y0, y1, y2⟩ : Ha) = (((y1 : Int) != 0) && ((y2 : Int) != 0))) := hide rfl
  rw [unhide HCB] at HG2
  clear HC HCB hXX kc hne
  rcases h1 : ((y1 : Int) == 0) with _ | _
  · have h1' : ((y1 : Int) != 0) = true := by simp_all
    rcases h2 : ((y2 : Int) == 0) with _ | _
    · have h2' : ((y2 : Int) != 0) = true := by simp_all
      rw [h1', h2'] at HG2
      have hge : ge = 0 := unhide HG2
      subst hge
      clear h1' h2'
      go_wp2_with (first | (refine wl_ha72 rfl rfl rfl rfl rfl ?_) | (refine wl_zero72 rfl rfl ?_; simp only [Act.put, List.setIfInBounds_toArray, List.set_cons_succ, List.set_cons_zero]) | (apply wl_load72 _ rfl rfl _ rfl; (case hr => (first | (simp [go_sem]; done) | (simp (disch := first | rfl | (simp; done) | (simp; omega)) only [rowN_ext, rowN_alloc_past, Ha.rowN]; done))); (case hc => (first | (simp [go_sem]; done) | (simp (disch := first | rfl | (simp; done) | (simp; omega)) only [rowD_ext, rowD_alloc_past, rowD_alloc_at]; try exact rfl)))) | (apply wl_store72 _ _ rfl rfl _ rfl _ rfl; (case hr => (first | (simp [go_sem]; done) | (simp (disch := first | rfl | (simp; done) | (simp; omega)) only [rowN_ext, rowN_alloc_past, Ha.rowN]; done))); (case hw => (first | (simp (disch := first | rfl | (simp; done) | (simp; omega)) only [setRow_ext, setRow_alloc_past, setRow_alloc_at]; exact rfl) | (simp [go_sem]; try exact rfl)))))
      apply re72 rfl rfl rfl; (case hr => (first | (simp [go_sem]; done) | (simp (disch := first | rfl | (simp; done) | (simp; omega)) only [rowN_ext, rowN_alloc_past, Ha.rowN]; done))); (case hc => (first | (simp [go_sem]; done) | (simp (disch := first | rfl | (simp; done) | (simp; omega)) only [rowD_ext, rowD_alloc_past, rowD_alloc_at]; try exact rfl)))
      refine ⟨congrArg Ending.returned ?_, by repeat' (first | exact Fr.refl _ _ | apply Fr.alloc | rw [← ext_ext] | (refine Fr.ext ?_ (by assumption)))⟩
      rw [unhide HXX]; rfl
    · have h2' : ((y2 : Int) != 0) = false := by simp_all
      rw [h1', h2'] at HG2
      have hge : ge = 121 := unhide HG2
      subst hge
      clear h1' h2'
      go_wp2_with (first | (refine wl_ha72 rfl rfl rfl rfl rfl ?_) | (refine wl_zero72 rfl rfl ?_; simp only [Act.put, List.setIfInBounds_toArray, List.set_cons_succ, List.set_cons_zero]) | (apply wl_load72 _ rfl rfl _ rfl; (case hr => (first | (simp [go_sem]; done) | (simp (disch := first | rfl | (simp; done) | (simp; omega)) only [rowN_ext, rowN_alloc_past, Ha.rowN]; done))); (case hc => (first | (simp [go_sem]; done) | (simp (disch := first | rfl | (simp; done) | (simp; omega)) only [rowD_ext, rowD_alloc_past, rowD_alloc_at]; try exact rfl)))) | (apply wl_store72 _ _ rfl rfl _ rfl _ rfl; (case hr => (first | (simp [go_sem]; done) | (simp (disch := first | rfl | (simp; done) | (simp; omega)) only [rowN_ext, rowN_alloc_past, Ha.rowN]; done))); (case hw => (first | (simp (disch := first | rfl | (simp; done) | (simp; omega)) only [setRow_ext, setRow_alloc_past, setRow_alloc_at]; exact rfl) | (simp [go_sem]; try exact rfl)))))
      apply re72 rfl rfl rfl; (case hr => (first | (simp [go_sem]; done) | (simp (disch := first | rfl | (simp; done) | (simp; omega)) only [rowN_ext, rowN_alloc_past, Ha.rowN]; done))); (case hc => (first | (simp [go_sem]; done) | (simp (disch := first | rfl | (simp; done) | (simp; omega)) only [rowD_ext, rowD_alloc_past, rowD_alloc_at]; try exact rfl)))
      refine ⟨congrArg Ending.returned ?_, by repeat' (first | exact Fr.refl _ _ | apply Fr.alloc | rw [← ext_ext] | (refine Fr.ext ?_ (by assumption)))⟩
      rfl
  · have h1' : ((y1 : Int) != 0) = false := by simp_all
    rw [h1'] at HG2
    have hge : ge = 121 := unhide HG2
    subst hge
    clear h1'
    go_wp2_with (first | (refine wl_ha72 rfl rfl rfl rfl rfl ?_) | (refine wl_zero72 rfl rfl ?_; simp only [Act.put, List.setIfInBounds_toArray, List.set_cons_succ, List.set_cons_zero]) | (apply wl_load72 _ rfl rfl _ rfl; (case hr => (first | (simp [go_sem]; done) | (simp (disch := first | rfl | (simp; done) | (simp; omega)) only [rowN_ext, rowN_alloc_past, Ha.rowN]; done))); (case hc => (first | (simp [go_sem]; done) | (simp (disch := first | rfl | (simp; done) | (simp; omega)) only [rowD_ext, rowD_alloc_past, rowD_alloc_at]; try exact rfl)))) | (apply wl_store72 _ _ rfl rfl _ rfl _ rfl; (case hr => (first | (simp [go_sem]; done) | (simp (disch := first | rfl | (simp; done) | (simp; omega)) only [rowN_ext, rowN_alloc_past, Ha.rowN]; done))); (case hw => (first | (simp (disch := first | rfl | (simp; done) | (simp; omega)) only [setRow_ext, setRow_alloc_past, setRow_alloc_at]; exact rfl) | (simp [go_sem]; try exact rfl)))))
    apply re72 rfl rfl rfl; (case hr => (first | (simp [go_sem]; done) | (simp (disch := first | rfl | (simp; done) | (simp; omega)) only [rowN_ext, rowN_alloc_past, Ha.rowN]; done))); (case hc => (first | (simp [go_sem]; done) | (simp (disch := first | rfl | (simp; done) | (simp; omega)) only [rowD_ext, rowD_alloc_past, rowD_alloc_at]; try exact rfl)))
    refine ⟨congrArg Ending.returned ?_, by repeat' (first | exact Fr.refl _ _ | apply Fr.alloc | rw [← ext_ext] | (refine Fr.ext ?_ (by assumption)))⟩
    rfl
end Go.Proofs.Ytbenailemoefhaa
