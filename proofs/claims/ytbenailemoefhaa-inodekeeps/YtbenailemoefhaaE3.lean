/-
  A handle out of bytes: GetHandle.
-/
import Derived.Test.YtbenailemoefhaaE2
import Derived.Test.YtbenailemoefhaaD2
import Derived.Deep.DeepCutAuto
import Derived.Deep.CutBlock
namespace Go.Proofs.Ytbenailemoefhaa
open Go.RowKit Go.Lib
set_option linter.unusedVariables false
set_option linter.unusedSimpArgs false

attribute [local go_sem ↓] Go.wp_at_zero Go.wp_at_succ

@[reducible] def ResH (x : Ha) (e : Int) : Value := .tuple #[(if e = 0 then x else Ha.zero).v, .int .i64 e]
def ghX (b : List UInt8) : Ha := ⟨((nb b 4 4 : Nat) : Int), ((nb b 8 8 : Nat) : Int), ((nb b 16 4 : Nat) : Int)⟩
def ghE (b : List UInt8) : Int := if b.length = 20 ∧ b.take 4 = mk4 ∧ cnB (ghX b) = true then 0 else 121
theorem toList_loop (l : List UInt8) : ∀ k i r, i + k = l.length → ByteArray.toList.loop (str l) i r = r.reverse ++ l.drop i := by
  intro k
  induction k with
  | zero =>
    intro i r h
    unfold ByteArray.toList.loop
    rw [if_neg (by rw [str_size]; omega), List.drop_eq_nil_of_le (by omega), List.append_nil]
  | succ k ih =>
    intro i r h
    unfold ByteArray.toList.loop
    have hi : i < l.length := by omega
    rw [if_pos (by rw [str_size]; omega), ih (i + 1) _ (by omega)]
    have e : (str l).get! i = l[i] := by simp [str, ByteArray.get!, hi]
    rw [e, List.drop_eq_getElem_cons hi]
    simp
theorem str_toList (l : List UInt8) : (str l).toList = l := by
  unfold ByteArray.toList
  rw [toList_loop l l.length 0 [] (by omega)]
  simp
set_option maxRecDepth 100000 in
set_option maxHeartbeats 4000000 in
theorem getH_any (w : World) (v : Value) (b : List UInt8) (h : Rd w v b) : Calls Try.prog 36 #[v] w fun e w' => e = .returned (ResH (ghX b) (ghE b)) ∧ Fr (fun _ => False) w w' := by
  have HG : Hid (ghE b = if b.length = 20 ∧ b.take 4 = mk4 ∧ cnB (ghX b) = true then 0 else 121) := hide rfl
  obtain ⟨ao, cap, rfl⟩ := h.shape
  by_cases h20 : b.length = 20
  rotate_left
  · have d1 : ((b.length : Int) != 20) = true := by simp; omega
    rw [if_neg (fun e => h20 e.1)] at HG
    obtain ⟨n, hn⟩ : ∃ n, n = b.length := ⟨_, rfl⟩
    rw [← hn] at d1 ⊢
    generalize ghE b = ge at *
    generalize ghX b = gx at *
    have hge : ge = 121 := unhide HG
    subst hge
    clear h h20 hn HG
    go_enter Try.func36, Try.ntmps36
    go_wp2_with (first | (refine wl_zero72 rfl rfl ?_; simp only [Act.put, List.setIfInBounds_toArray, List.set_cons_succ, List.set_cons_zero]) | (apply wl_store72 _ _ rfl rfl _ rfl _ rfl; (case hr => (first | (simp [go_sem]; done) | (simp (disch := first | rfl | (simp; done) | (simp; omega)) only [rowN_ext, rowN_alloc_past, Ha.rowN]; done))); (case hw => (first | (simp (disch := first | rfl | (simp; done) | (simp; omega)) only [setRow_ext, setRow_alloc_past, setRow_alloc_at]; exact rfl) | (simp [go_sem]; try exact rfl)))))
    apply re72 rfl rfl rfl; (case hr => (first | (simp [go_sem]; done) | (simp (disch := first | rfl | (simp; done) | (simp; omega)) only [rowN_ext, rowN_alloc_past, Ha.rowN]; done))); (case hc => (first | (simp [go_sem]; done) | (simp (disch := first | rfl | (simp; done) | (simp; omega)) only [rowD_ext, rowD_alloc_past, rowD_alloc_at]; try exact rfl)))
    refine ⟨congrArg Ending.returned ?_, by repeat' (first | exact Fr.refl _ _ | apply Fr.alloc | rw [← ext_ext] | (refine Fr.ext ?_ (by assumption)))⟩
    rfl
  rw [h20]
  obtain ⟨B, o, rfl, -, hnc, hcm, hc⟩ := h.lits (by omega)
  rw [h20] at hnc
  have hBw : B < w.heap.size := World.block_lt_of_cell? w _ (hc 0 (by omega))
  have HC : Hid (∀ W, Fr (fun _ => False) w W → ∀ j (h : j < b.length), W.cell? ⟨B, o + j, none⟩ = some (.int .u8 ((b[j].toNat : Nat) : Int))) := hide (fun W f j hj => by rw [f.cell hBw id]; exact hc j hj)
  have HN : Hid (20 = b.length) := hide h20.symm
  have HBW := hide hBw
  have kc := conv_rd (P := Try.prog) (Rd.lit (w := (w.alloc (.cells (Ha.cs ⟨0, 0, 0⟩) 72))) (b := B) (o := o) (n := 4) (cap := cap) (l := b.take 4) (by rw [List.length_take]; omega) (by omega) (by omega) (fun j hj => by
    have h0 : j < 4 := by rw [List.length_take] at hj; omega
    rw [List.getElem_take]
    exact unhide HC (w.alloc (.cells (Ha.cs ⟨0, 0, 0⟩) 72)) (by repeat' (first | exact Fr.refl _ _ | apply Fr.alloc | rw [← ext_ext] | (refine Fr.ext ?_ (by assumption)))) j (by omega))) 26 9 5 Try.underlying26 Try.underlying5 Try.underlying9
  obtain ⟨gx, hgx⟩ : ∃ gx, gx = ghX b := ⟨_, rfl⟩
  have HGX := hide hgx
  rw [← hgx] at HG ⊢
  generalize ghE b = ge at *
  clear h hc hBw hgx
  by_cases hm : b.take 4 = mk4
  rotate_left
  · have hne : ((str (b.take 4)).toList == [71, 82, 78, 49]) = false := by
      rw [str_toList]; simpa [mk4] using hm
    rw [if_neg (fun e => hm e.2.1)] at HG
    have hge : ge = 121 := unhide HG
    subst hge
    generalize str (b.take 4) = sx at *
    clear HG HC hm HGX HN h20
    go_enter Try.func36, Try.ntmps36
    go_wp2_with (first | (refine wl_zero72 rfl rfl ?_; simp only [Act.put, List.setIfInBounds_toArray, List.set_cons_succ, List.set_cons_zero]) | (apply wl_store72 _ _ rfl rfl _ rfl _ rfl; (case hr => (first | (simp [go_sem]; done) | (simp (disch := first | rfl | (simp; done) | (simp; omega)) only [rowN_ext, rowN_alloc_past, Ha.rowN]; done))); (case hw => (first | (simp (disch := first | rfl | (simp; done) | (simp; omega)) only [setRow_ext, setRow_alloc_past, setRow_alloc_at]; exact rfl) | (simp [go_sem]; try exact rfl)))))
    apply re72 rfl rfl rfl; (case hr => (first | (simp [go_sem]; done) | (simp (disch := first | rfl | (simp; done) | (simp; omega)) only [rowN_ext, rowN_alloc_past, Ha.rowN]; done))); (case hc => (first | (simp [go_sem]; done) | (simp (disch := first | rfl | (simp; done) | (simp; omega)) only [rowD_ext, rowD_alloc_past, rowD_alloc_at]; try exact rfl)))
    refine ⟨congrArg Ending.returned ?_, by repeat' (first | exact Fr.refl _ _ | apply Fr.alloc | rw [← ext_ext] | (refine Fr.ext ?_ (by assumption)))⟩
    rfl
  have hne : ((str (b.take 4)).toList == [71, 82, 78, 49]) = true := by
    rw [str_toList, hm]; rfl
  have HG2 : Hid (ge = if cnB gx = true then 0 else 121) := hide (by
    rw [unhide HG]
    by_cases hq : cnB gx = true
    · rw [if_pos ⟨h20, hm, hq⟩, if_pos hq]
    · rw [if_neg (fun e => hq e.2.2), if_neg hq])
  generalize str (b.take 4) = sx at *
  clear HG hm h20
  have HCN := canName_any gx
  go_enter Try.func36, Try.ntmps36
  go_upto_region 4 with fail
  obtain ⟨W1, hW1⟩ : ∃ W1, W1 = ((w.alloc (.cells (Ha.cs ⟨0, 0, 0⟩) 72))).alloc (.cells #[.slice (some ⟨B, o + 4, none⟩) 16 (cap - 4)] 104) := ⟨_, rfl⟩
  have F1 : Hid (Fr (fun _ => False) w W1) := hide (by rw [hW1]; exact ((Fr.refl _ _).alloc _).alloc _)
  have HS : Hid (Src W1 W1 (w.heap.size + 1) B o 20 cap b 4) := hide ⟨by rw [hW1]; unfold SAt; simpa using heap_alloc_new ((w.alloc (.cells (Ha.cs ⟨0, 0, 0⟩) 72))) (.cells #[.slice (some ⟨B, o + 4, none⟩) 16 (cap - 4)] 104), Fr.refl _ _⟩
  have HBp : Hid (B ≠ w.heap.size + 1) := hide (by have := unhide HBW; omega)
  have HZ : Hid (W1.heap[w.heap.size]? = some (.cells (Ha.cs Ha.zero) 72 (0, 0))) := hide (by
    rw [hW1, Below.heap_alloc _ _ _ (by simp)]; exact heap_alloc_new w _)
  try rw [← hW1]
  clear hW1 kc hne
  go_wp2_with fail
  refine (src_word (unhide HS) (unhide HN) hnc hcm (unhide HBp) (unhide HC _ (unhide F1)) (by omega)).mono ?_
  rintro e w2 ⟨rfl, s1⟩
  obtain ⟨y0, hy0⟩ : ∃ y, y = nb b 4 4 := ⟨_, rfl⟩
  rw [← hy0]
  have HY0 := hide hy0
  clear hy0
  have S1 := hide s1
  clear s1 HS
  go_wp2_with fail
  refine (src_long (unhide S1) (unhide HN) hnc hcm (unhide HBp) (unhide HC _ (unhide F1)) (by omega)).mono ?_
  rintro e w3 ⟨rfl, s2⟩
  obtain ⟨y1, hy1⟩ : ∃ y, y = nb b 8 8 := ⟨_, rfl⟩
  rw [← hy1]
  have HY1 := hide hy1
  clear hy1
  have S2 := hide s2
  clear s2 S1
  go_wp2_with fail
  refine (src_last (unhide S2) (unhide HN) hnc hcm (unhide HBp) (unhide HC _ (unhide F1)) (by omega)).mono ?_
  rintro e w4 ⟨rfl, f4⟩
  obtain ⟨y2, hy2⟩ : ∃ y, y = nb b 16 4 := ⟨_, rfl⟩
  rw [← hy2]
  have HY2 := hide hy2
  clear hy2
  have F4 : Hid (Fr (fun j => j = w.heap.size + 1) W1 w4) := hide ((unhide S2).f.trans f4 (fun _ _ e => e))
  have FW : Hid (Fr (fun _ => False) w w4) := hide ((unhide F1).trans (unhide F4) (fun k hk e => by omega))
  have HZ4 : Hid (w4.heap[w.heap.size]? = some (.cells (Ha.cs Ha.zero) 72 (0, 0))) := hide (by
    rw [(unhide F4).block _ (lt_of_heap (unhide HZ)) (by omega)]; exact unhide HZ)
  have hXX : gx = ⟨y0, y1, y2⟩ := by rw [unhide HGX, unhide HY0, unhide HY1, unhide HY2]; rfl
  have HXX := hide hXX
  rw [hXX] at HCN
  clear f4 S2 hXX HC
  go_wp2_with (first | (refine wl_ha72 rfl rfl rfl rfl rfl ?_) | (apply wl_load72 _ rfl rfl _ rfl; (case hr => (first | (simp [go_sem]; done) | (simp (disch := first | rfl | (simp; done) | (simp; omega)) only [rowN_ext, rowN_alloc_past, Ha.rowN]; done))); (case hc => (first | (simp [go_sem]; done) | (simp (disch := first | rfl | (simp; done) | (simp; omega)) only [rowD_ext, rowD_alloc_past, rowD_alloc_at]; try exact rfl)))) | (apply wl_store72 _ _ rfl rfl _ rfl _ rfl; (case hr => (first | (simp [go_sem]; done) | (simp (disch := first | rfl | (simp; done) | (simp; omega)) only [rowN_ext, rowN_alloc_past, Ha.rowN]; done))); (case hw => (first | (simp (disch := first | rfl | (simp; done) | (simp; omega)) only [setRow_ext, setRow_alloc_past, setRow_alloc_at]; exact rfl) | (simp [go_sem]; try exact rfl)))))
  refine mono_ext (HCN _) ?_
  rintro e E3 rfl hE3
  have hWn : (Ytbenailemoefhaa.ext (w4.alloc (.cells (Ha.cs ⟨y0, y1, y2⟩) 72)) E3).heap[w.heap.size]? = some (.cells (Ha.cs Ha.zero) 72 (0, 0)) := by
    have h9 := lt_of_heap (unhide HZ4)
    rw [ext_heap _ _ _ (by simp; omega), Below.heap_alloc _ _ _ h9]; exact unhide HZ4
  have hrz : rowN (Ytbenailemoefhaa.ext (w4.alloc (.cells (Ha.cs ⟨y0, y1, y2⟩) 72)) E3) w.heap.size 3 = true := by
    unfold rowN row?; rw [hWn]; simp
  have HWN := hide hWn
  have FW2 : Hid (Fr (fun _ => False) w (Ytbenailemoefhaa.ext (w4.alloc (.cells (Ha.cs ⟨y0, y1, y2⟩) 72)) E3)) := hide (Fr.ext ((unhide FW).alloc _) hE3)
  have hrow : ∀ z : Ha, row? ((Ytbenailemoefhaa.ext (w4.alloc (.cells (Ha.cs ⟨y0, y1, y2⟩) 72)) E3).setRow w.heap.size z.cs) w.heap.size = some z.cs := fun z => by
    unfold row?; rw [setRow_at (unhide HWN)]; rfl
  have HROW := hide hrow
  have FR2 : Hid (∀ z : Ha, Fr (fun _ => False) w ((Ytbenailemoefhaa.ext (w4.alloc (.cells (Ha.cs ⟨y0, y1, y2⟩) 72)) E3).setRow w.heap.size z.cs)) := hide (fun z => (unhide FW2).trans (Fr.setRow_one (S := fun k => k = w.heap.size) _ _ rfl) (fun k hk e => by omega))
  obtain ⟨cb, hcb⟩ : ∃ cb, cb = cnB (⟨y0, y1, y2⟩ : Ha) := ⟨_, rfl⟩
  rw [unhide HXX, ← hcb] at HG2
  rw [← hcb]
  clear hWn hrow HCN hcb
  rcases cb with _ | _
  · have hge : ge = 121 := unhide HG2
    subst hge
    go_wp2_with (first | (refine wl_zero72 rfl rfl ?_; simp only [Act.put, List.setIfInBounds_toArray, List.set_cons_succ, List.set_cons_zero]) | (apply wl_store72 _ _ rfl rfl _ rfl _ rfl; (case hr => exact hrz); (case hw => exact rfl)))
    refine re72 rfl rfl rfl (by unfold rowN; rw [unhide HROW] <;> rfl) (by unfold rowD; rw [unhide HROW] <;> rfl) ⟨rfl, unhide FR2 _⟩
  · have hge : ge = 0 := unhide HG2
    subst hge
    go_wp2_with (first | (apply wl_load72 _ rfl rfl _ rfl; (case hr => (first | (simp [go_sem]; done) | (simp (disch := first | rfl | (simp; done) | (simp; omega)) only [rowN_ext, rowN_alloc_past, Ha.rowN]; done))); (case hc => (first | (simp [go_sem]; done) | (simp (disch := first | rfl | (simp; done) | (simp; omega)) only [rowD_ext, rowD_alloc_past, rowD_alloc_at]; try exact rfl)))) | (apply wl_store72 _ _ rfl rfl _ rfl _ rfl; (case hr => exact hrz); (case hw => exact rfl)))
    refine re72 rfl rfl rfl (by unfold rowN; rw [unhide HROW] <;> rfl) (by unfold rowD; rw [unhide HROW] <;> rfl) ⟨?_, unhide FR2 _⟩
    rw [unhide HXX]; rfl
end Go.Proofs.Ytbenailemoefhaa
