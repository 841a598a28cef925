/-
  The document's Get.
-/
import Derived.Test.YtbenailemoefhaaD5
import Derived.Test.YtbenailemoefhaaD4
import Derived.Deep.DeepCutAuto
import Derived.Deep.CutBlock
namespace Go.Proofs.Ytbenailemoefhaa
open Go.RowKit
set_option linter.unusedVariables false
set_option linter.unusedSimpArgs false

attribute [local go_sem ↓] Go.wp_at_zero Go.wp_at_succ

theorem b7_25 (x0 x1 x2 x3 x4 x5 x6 : Int) : Try.prog.built 25 [(0, .int .u64 x0), (1, .int .u32 x1), (2, .int .i64 x2), (3, .int .u32 x3), (4, .int .u32 x4), (5, .int .u32 x5), (6, .int .u32 x6)] = some (In.cs ⟨x0, x1, x2, x3, x4, x5, x6, 0, 0, 0, 0, 0, 0, ⟨#[]⟩⟩) := by kernel_rfl
theorem wl_b7 {opsA : Array Oper} {rest : List Oper} {o : Oper} {a : Act} {w : World} {Q : Exit → Act → World → Prop} {p0 p1 p2 p3 p4 p5 p6 : Operand} {x0 x1 x2 x3 x4 x5 x6 : Int} (hg : o.guard = none) (ho : o.op = .build 25 #[(0, p0), (1, p1), (2, p2), (3, p3), (4, p4), (5, p5), (6, p6)]) (h0 : a.eval p0 = .int .u64 x0) (h1 : a.eval p1 = .int .u32 x1) (h2 : a.eval p2 = .int .i64 x2) (h3 : a.eval p3 = .int .u32 x3) (h4 : a.eval p4 = .int .u32 x4) (h5 : a.eval p5 = .int .u32 x5) (h6 : a.eval p6 = .int .u32 x6) (h : wpList Try.prog opsA Q rest (a.put o.dst (.agg (In.cs ⟨x0, x1, x2, x3, x4, x5, x6, 0, 0, 0, 0, 0, 0, ⟨#[]⟩⟩))) w) : wpList Try.prog opsA Q (o :: rest) a w := by
  have hb : Try.prog.built 25 (#[(0, p0), (1, p1), (2, p2), (3, p3), (4, p4), (5, p5), (6, p6)].map fun (i, x) => (i, a.eval x) : Array (Nat × Value)).toList = some (In.cs ⟨x0, x1, x2, x3, x4, x5, x6, 0, 0, 0, 0, 0, 0, ⟨#[]⟩⟩) := by
    simp only [List.map_toArray, List.map_cons, List.map_nil, h0, h1, h2, h3, h4, h5, h6]
    exact b7_25 x0 x1 x2 x3 x4 x5 x6
  exact wpList_build hg 25 _ ho (by rw [hb]; rfl) (by rw [hb]; exact h)
theorem zb4 (n : Nat) : (n + 3) / 4 * 4 = n + zb n := by unfold zb; omega
theorem crE3 {r : List UInt8} {n : Nat} (h : r.length < n + zb n) : crE r n = 3 := by unfold crE; rw [if_pos h]
theorem crE4 {r : List UInt8} {n : Nat} (h : n + zb n < r.length) : crE r n = 4 := by unfold crE; rw [if_neg (by omega), if_pos h]
theorem crE0 {r : List UInt8} {n : Nat} (h : r.length = n + zb n) (h2 : ∀ j, j < zb n → r[n + j]? = some 0) : crE r n = 0 := by
  unfold crE
  rw [if_neg (by omega), if_neg (by omega), if_pos]
  rw [List.all_eq_true]
  intro x hx
  rw [List.mem_iff_getElem?] at hx
  obtain ⟨j, hj⟩ := hx
  rw [List.getElem?_drop] at hj
  have hjl : n + j < r.length := (List.getElem?_eq_some_iff.1 hj).1
  rw [h2 j (by omega)] at hj
  simp at hj
  rw [← hj]; rfl
theorem crE120 {r : List UInt8} {n : Nat} (h : r.length = n + zb n) {j : Nat} {x : UInt8} (hj : r[n + j]? = some x) (hx : x ≠ 0) : crE r n = 120 := by
  unfold crE
  rw [if_neg (by omega), if_neg (by omega), if_neg]
  intro h2
  rw [List.all_eq_true] at h2
  have hm : x ∈ r.drop n := by
    rw [List.mem_iff_getElem?]
    exact ⟨j, by rw [List.getElem?_drop]; exact hj⟩
  have := h2 x hm
  simp at this
  exact hx this
set_option maxRecDepth 100000 in
set_option maxHeartbeats 8000000 in
theorem rget_any (w : World) (v : Value) (b : List UInt8) (h : Rd w v b) : Calls Try.prog 16 #[v] w fun e w' => e = .returned (Res (gX b) (gE b)) ∧ Fr (fun _ => False) w w' := by
  have HG : Hid (gE b = if b.length < 84 then 3 else if 255 < nb b 80 4 then 1 else if crE (b.drop 84) (nb b 80 4) ≠ 0 then crE (b.drop 84) (nb b 80 4) else ck (gX b)) := hide rfl
  have HX : Hid (gX b = { hdX b with t := str ((b.drop 84).take (nb b 80 4)) }) := hide rfl
  obtain ⟨ao, cap, rfl⟩ := h.shape
  have HCK := rcheck_any (gX b)
  by_cases h84 : b.length < 84
  · have d1 : decide ((b.length : Int) < 84) = true := by simp; omega
    rw [if_pos h84] at HG
    obtain ⟨n, hn⟩ : ∃ n, n = b.length := ⟨_, rfl⟩
    rw [← hn] at d1 ⊢
    generalize gE b = ge at *
    generalize gX b = gx at *
    have hge : ge = 3 := unhide HG
    subst hge
    clear HX h HCK h84 hn HG
    go_enter Try.func16, Try.ntmps16
    go_wp2_with (first | (refine wl_zero25 rfl rfl ?_; simp only [Act.put, List.setIfInBounds_toArray, List.set_cons_succ, List.set_cons_zero]) | (apply wl_store25 _ _ rfl rfl _ rfl _ rfl; (case hr => (first | (simp [go_sem]; done) | (simp (disch := first | rfl | (simp; done) | (simp; omega)) only [rowN_ext, rowN_alloc_past, In.rowN]; done))); (case hw => (first | (simp (disch := first | rfl | (simp; done) | (simp; omega)) only [setRow_ext, setRow_alloc_past, setRow_alloc_at]; exact rfl) | (simp [go_sem]; try exact rfl)))))
    apply re25 rfl rfl rfl; (case hr => (first | (simp [go_sem]; done) | (simp (disch := first | rfl | (simp; done) | (simp; omega)) only [rowN_ext, rowN_alloc_past, In.rowN]; done))); (case hc => (first | (simp [go_sem]; done) | (simp (disch := first | rfl | (simp; done) | (simp; omega)) only [rowD_ext, rowD_alloc_past, rowD_alloc_at]; try exact rfl)))
    refine ⟨congrArg Ending.returned ?_, by repeat' (first | exact Fr.refl _ _ | apply Fr.alloc | rw [← ext_ext] | (refine Fr.ext ?_ (by assumption)))⟩
    rfl
  obtain ⟨B, o, rfl, -, hnc, hcm, hc⟩ := h.lits (by omega)
  have hBw : B < w.heap.size := World.block_lt_of_cell? w _ (hc 0 (by omega))
  have HC : Hid (∀ W, Fr (fun _ => False) w W → ∀ j (h : j < b.length), W.cell? ⟨B, o + j, none⟩ = some (.int .u8 ((b[j].toNat : Nat) : Int))) := hide (fun W f j hj => by rw [f.cell hBw id]; exact hc j hj)
  rw [if_neg h84] at HG
  obtain ⟨n, hn⟩ : ∃ n, n = b.length := ⟨_, rfl⟩
  have hn84 : 84 ≤ n := by omega
  rw [← hn] at hnc ⊢
  have HN := hide hn
  have d1 : decide ((n : Int) < 84) = false := by simp; omega
  have hLb : nb b 80 4 < 4294967296 := nb_lt b 80 4
  obtain ⟨L, hL⟩ : ∃ L, L = nb b 80 4 := ⟨_, rfl⟩
  rw [← hL] at HG HX hLb
  have HL := hide hL
  generalize gE b = ge at *
  obtain ⟨gx, hgx⟩ : ∃ gx, gx = gX b := ⟨_, rfl⟩
  rw [← hgx] at HX HG HCK ⊢
  clear h hc hBw hn h84 hL hgx
  by_cases h255 : 255 < L
  · have d2 : decide ((255 : Int) < (L : Int)) = true := by simp; omega
    rw [if_pos h255] at HG
    have hge : ge = 1 := unhide HG
    subst hge
    clear HG HX HCK h255
    go_enter Try.func16, Try.ntmps16
    go_wp2_with fail
    refine (number_any _ B o n cap b 80 4 _ _ rfl rfl (unhide HN) hnc hcm (by omega) (by omega) (.inl rfl) (unhide HC _ (by repeat' (first | exact Fr.refl _ _ | apply Fr.alloc | rw [← ext_ext] | (refine Fr.ext ?_ (by assumption)))))).mono ?_
    rintro e w' ⟨rfl, rfl⟩
    rw [← unhide HL]
    clear HC HL
    go_wp2_with (first | (refine wl_zero25 rfl rfl ?_; simp only [Act.put, List.setIfInBounds_toArray, List.set_cons_succ, List.set_cons_zero]) | (apply wl_store25 _ _ rfl rfl _ rfl _ rfl; (case hr => (first | (simp [go_sem]; done) | (simp (disch := first | rfl | (simp; done) | (simp; omega)) only [rowN_ext, rowN_alloc_past, In.rowN]; done))); (case hw => (first | (simp (disch := first | rfl | (simp; done) | (simp; omega)) only [setRow_ext, setRow_alloc_past, setRow_alloc_at]; exact rfl) | (simp [go_sem]; try exact rfl)))))
    apply re25 rfl rfl rfl; (case hr => (first | (simp [go_sem]; done) | (simp (disch := first | rfl | (simp; done) | (simp; omega)) only [rowN_ext, rowN_alloc_past, In.rowN]; done))); (case hc => (first | (simp [go_sem]; done) | (simp (disch := first | rfl | (simp; done) | (simp; omega)) only [rowD_ext, rowD_alloc_past, rowD_alloc_at]; try exact rfl)))
    refine ⟨congrArg Ending.returned ?_, by repeat' (first | exact Fr.refl _ _ | apply Fr.alloc | rw [← ext_ext] | (refine Fr.ext ?_ (by assumption)))⟩
    rfl
  have d2 : decide ((255 : Int) < (L : Int)) = false := by simp; omega
  have hL255 : L ≤ 255 := by omega
  rw [if_neg h255] at HG
  obtain ⟨z, hz⟩ : ∃ z, z = zb L := ⟨_, rfl⟩
  have hz3 : z ≤ 3 := by rw [hz]; unfold zb; omega
  have hz4 : ((L : Int) + 3) / 4 * 4 = (L : Int) + (z : Int) := by have h9 := zb4 L; rw [← hz] at h9; omega
  have HZ := hide hz
  have hdl : (b.drop 84).length = n - 84 := by rw [List.length_drop, unhide HN]
  have HDL := hide hdl
  clear h255 hz hdl
  go_enter Try.func16, Try.ntmps16
  go_wp2_with fail
  refine (number_any _ B o n cap b 80 4 _ _ rfl rfl (unhide HN) hnc hcm (by omega) (by omega) (.inl rfl) (unhide HC _ (by repeat' (first | exact Fr.refl _ _ | apply Fr.alloc | rw [← ext_ext] | (refine Fr.ext ?_ (by assumption)))))).mono ?_
  rintro e w' ⟨rfl, rfl⟩
  rw [← unhide HL]
  by_cases h1 : n < 84 + L + z
  · have d3 : decide ((n : Int) < 84 + ((L : Int) + (z : Int))) = true := by simp; omega
    have hC := crE3 (r := b.drop 84) (n := L) (by rw [unhide HDL, ← unhide HZ]; omega)
    rw [hC] at HG
    have hge : ge = 3 := by rw [unhide HG, if_pos (by decide)]
    subst hge
    clear HG HX HCK HC HL h1 hC
    go_wp2_with (first | (refine wl_zero25 rfl rfl ?_; simp only [Act.put, List.setIfInBounds_toArray, List.set_cons_succ, List.set_cons_zero]) | (apply wl_store25 _ _ rfl rfl _ rfl _ rfl; (case hr => (first | (simp [go_sem]; done) | (simp (disch := first | rfl | (simp; done) | (simp; omega)) only [rowN_ext, rowN_alloc_past, In.rowN]; done))); (case hw => (first | (simp (disch := first | rfl | (simp; done) | (simp; omega)) only [setRow_ext, setRow_alloc_past, setRow_alloc_at]; exact rfl) | (simp [go_sem]; try exact rfl)))))
    apply re25 rfl rfl rfl; (case hr => (first | (simp [go_sem]; done) | (simp (disch := first | rfl | (simp; done) | (simp; omega)) only [rowN_ext, rowN_alloc_past, In.rowN]; done))); (case hc => (first | (simp [go_sem]; done) | (simp (disch := first | rfl | (simp; done) | (simp; omega)) only [rowD_ext, rowD_alloc_past, rowD_alloc_at]; try exact rfl)))
    refine ⟨congrArg Ending.returned ?_, by repeat' (first | exact Fr.refl _ _ | apply Fr.alloc | rw [← ext_ext] | (refine Fr.ext ?_ (by assumption)))⟩
    rfl
  have d3 : decide ((n : Int) < 84 + ((L : Int) + (z : Int))) = false := by simp; omega
  by_cases h2 : 84 + L + z < n
  · have d4 : decide (84 + ((L : Int) + (z : Int)) < (n : Int)) = true := by simp; omega
    have hC := crE4 (r := b.drop 84) (n := L) (by rw [unhide HDL, ← unhide HZ]; omega)
    rw [hC] at HG
    have hge : ge = 4 := by rw [unhide HG, if_pos (by decide)]
    subst hge
    clear HG HX HCK HC HL h2 hC
    go_wp2_with (first | (refine wl_zero25 rfl rfl ?_; simp only [Act.put, List.setIfInBounds_toArray, List.set_cons_succ, List.set_cons_zero]) | (apply wl_store25 _ _ rfl rfl _ rfl _ rfl; (case hr => (first | (simp [go_sem]; done) | (simp (disch := first | rfl | (simp; done) | (simp; omega)) only [rowN_ext, rowN_alloc_past, In.rowN]; done))); (case hw => (first | (simp (disch := first | rfl | (simp; done) | (simp; omega)) only [setRow_ext, setRow_alloc_past, setRow_alloc_at]; exact rfl) | (simp [go_sem]; try exact rfl)))))
    apply re25 rfl rfl rfl; (case hr => (first | (simp [go_sem]; done) | (simp (disch := first | rfl | (simp; done) | (simp; omega)) only [rowN_ext, rowN_alloc_past, In.rowN]; done))); (case hc => (first | (simp [go_sem]; done) | (simp (disch := first | rfl | (simp; done) | (simp; omega)) only [rowD_ext, rowD_alloc_past, rowD_alloc_at]; try exact rfl)))
    refine ⟨congrArg Ending.returned ?_, by repeat' (first | exact Fr.refl _ _ | apply Fr.alloc | rw [← ext_ext] | (refine Fr.ext ?_ (by assumption)))⟩
    rfl
  have d4 : decide (84 + ((L : Int) + (z : Int)) < (n : Int)) = false := by simp; omega
  have hnn : n = 84 + L + z := by omega
  have HNN := hide hnn
  clear h1 h2 hnn
  have hn400 : n ≤ 400 := by have := unhide HNN; omega
  have FZ : Hid (Fr (fun _ => False) w (w.alloc (.cells (In.cs ⟨0, 0, 0, 0, 0, 0, 0, 0, 0, 0, 0, 0, 0, ⟨#[]⟩⟩) 25))) := hide ((Fr.refl _ _).alloc _)
  go_wp2_with fail
  have hnI : (84 : Int) + ((L : Int) + (z : Int)) = (n : Int) := by have := unhide HNN; omega
  have hi0 : (84 : Int) + (L : Int) = ((84 + L : Nat) : Int) := by omega
  simp only [hnI, hi0]
  clear d3 d4 hz4
  have HZ4 := hide hnI
  have HI0 := hide hi0
  clear hnI hi0
  obtain ⟨i0, hi0⟩ : ∃ i0, i0 = 84 + L := ⟨_, rfl⟩
  rw [← hi0]
  have HI1 := hide hi0
  clear hi0
  go_loopw [6] (fun y W => ∃ i k : Nat, i = 84 + L + k ∧ k ≤ z ∧ y = .int .i64 (i : Int) ∧ (∀ j, j < k → (b.drop 84)[L + j]? = some 0) ∧ W = w.alloc (.cells (In.cs ⟨0, 0, 0, 0, 0, 0, 0, 0, 0, 0, 0, 0, 0, ⟨#[]⟩⟩) 25)) (fun y _ => n - (intOf y).toNat)
  case atStart => exact ⟨i0, 0, by rw [unhide HI1]; rfl, by omega, rfl, fun j hj => by omega, rfl⟩
  case round =>
    obtain ⟨i, k, hik, hkz, rfl, hall, rfl⟩ := hrel
    have HIK := hide hik
    have HA := hide hall
    have hin : i ≤ n := by have := unhide HNN; omega
    clear hik hall
    by_cases hlt : i < n
    · have hib : i < b.length := by have := unhide HN; omega
      have y0 := unhide HC _ (unhide FZ) i hib
      have HR : Hid ((b.drop 84)[L + k]? = some b[i]) := hide (by
        rw [List.getElem?_drop, show 84 + (L + k) = i by have := unhide HIK; omega]; exact List.getElem?_eq_getElem hib)
      have hic : i < cap := by omega
      generalize b[i] = x at *
      by_cases hx : x = 0
      · subst hx
        have HA2 : Hid (∀ j, j < k + 1 → (b.drop 84)[L + j]? = some 0) := hide (fun j hj => by
          rcases Nat.lt_succ_iff_lt_or_eq.1 hj with h | h
          · exact unhide HA j h
          · rw [h]; exact unhide HR)
        have HIK2 : Hid (i + 1 = 84 + L + (k + 1) ∧ k + 1 ≤ z) := hide (by have h1 := unhide HIK; have h2 := unhide HNN; omega)
        clear HA HR hib hkz
        go_wp2_with fail
        go_roundw
        case rel => exact ⟨i + 1, k + 1, (unhide HIK2).1, (unhide HIK2).2, by go_num, unhide HA2, by trivial⟩
        case measure => simp [intOf]; omega
      · have hx2 : (((x.toNat : Nat) : Int) != 0) = true := by
          have : x.toNat ≠ 0 := fun e => hx (UInt8.toNat_inj.1 (by simpa using e))
          simp; omega
        have hC := crE120 (r := b.drop 84) (n := L) (by rw [unhide HDL, ← unhide HZ]; have := unhide HNN; omega) (unhide HR) hx
        rw [hC] at HG
        have hge : ge = 120 := by rw [unhide HG, if_pos (by decide)]
        subst hge
        clear HG HX HCK HC HL hC HA HR hib hx hkz
        go_wp2_with (first | (refine wl_zero25 rfl rfl ?_; simp only [Act.put, List.setIfInBounds_toArray, List.set_cons_succ, List.set_cons_zero]) | (apply wl_store25 _ _ rfl rfl _ rfl _ rfl; (case hr => (first | (simp [go_sem]; done) | (simp (disch := first | rfl | (simp; done) | (simp; omega)) only [rowN_ext, rowN_alloc_past, In.rowN]; done))); (case hw => (first | (simp (disch := first | rfl | (simp; done) | (simp; omega)) only [setRow_ext, setRow_alloc_past, setRow_alloc_at]; exact rfl) | (simp [go_sem]; try exact rfl)))))
        apply re25 rfl rfl rfl; (case hr => (first | (simp [go_sem]; done) | (simp (disch := first | rfl | (simp; done) | (simp; omega)) only [rowN_ext, rowN_alloc_past, In.rowN]; done))); (case hc => (first | (simp [go_sem]; done) | (simp (disch := first | rfl | (simp; done) | (simp; omega)) only [rowD_ext, rowD_alloc_past, rowD_alloc_at]; try exact rfl)))
        refine ⟨congrArg Ending.returned ?_, by repeat' (first | exact Fr.refl _ _ | apply Fr.alloc | rw [← ext_ext] | (refine Fr.ext ?_ (by assumption)))⟩
        rfl
    · have hie : n = i := by omega
      subst hie
      have hke : z = k := by have h1 := unhide HIK; have h2 := unhide HNN; omega
      subst hke
      have hC := crE0 (r := b.drop 84) (n := L) (by rw [unhide HDL, ← unhide HZ]; have := unhide HNN; omega) (by rw [← unhide HZ]; exact unhide HA)
      rw [hC] at HG
      have hge : ge = ck gx := by rw [unhide HG, if_neg (by decide)]
      rw [← hge] at HCK
      clear HG hC HA hkz hin hlt hge
      go_wp2_with fail
      refine (number_any _ B o n cap b 0 8 _ _ rfl rfl (unhide HN) hnc hcm (by omega) (by omega) (.inr rfl) (unhide HC _ (by repeat' (first | exact Fr.refl _ _ | apply Fr.alloc | rw [← ext_ext] | (refine Fr.ext ?_ (by assumption)))))).mono ?_
      rintro e w' ⟨rfl, rfl⟩
      obtain ⟨y0, hy0⟩ : ∃ y, y = nb b 0 8 := ⟨_, rfl⟩
      have hyb0 := nb_lt b 0 8
      rw [← hy0] at hyb0 ⊢
      have HY0 := hide hy0
      clear hy0
      go_wp2_with fail
      refine (number_any _ B o n cap b 8 4 _ _ rfl rfl (unhide HN) hnc hcm (by omega) (by omega) (.inl rfl) (unhide HC _ (by repeat' (first | exact Fr.refl _ _ | apply Fr.alloc | rw [← ext_ext] | (refine Fr.ext ?_ (by assumption)))))).mono ?_
      rintro e w' ⟨rfl, rfl⟩
      obtain ⟨y1, hy1⟩ : ∃ y, y = nb b 8 4 := ⟨_, rfl⟩
      have hyb1 := nb_lt b 8 4
      rw [← hy1] at hyb1 ⊢
      have HY1 := hide hy1
      clear hy1
      go_wp2_with fail
      refine (number_any _ B o n cap b 12 4 _ _ rfl rfl (unhide HN) hnc hcm (by omega) (by omega) (.inl rfl) (unhide HC _ (by repeat' (first | exact Fr.refl _ _ | apply Fr.alloc | rw [← ext_ext] | (refine Fr.ext ?_ (by assumption)))))).mono ?_
      rintro e w' ⟨rfl, rfl⟩
      obtain ⟨y2, hy2⟩ : ∃ y, y = nb b 12 4 := ⟨_, rfl⟩
      have hyb2 := nb_lt b 12 4
      rw [← hy2] at hyb2 ⊢
      have HY2 := hide hy2
      clear hy2
      go_wp2_with fail
      refine (number_any _ B o n cap b 16 4 _ _ rfl rfl (unhide HN) hnc hcm (by omega) (by omega) (.inl rfl) (unhide HC _ (by repeat' (first | exact Fr.refl _ _ | apply Fr.alloc | rw [← ext_ext] | (refine Fr.ext ?_ (by assumption)))))).mono ?_
      rintro e w' ⟨rfl, rfl⟩
      obtain ⟨y3, hy3⟩ : ∃ y, y = nb b 16 4 := ⟨_, rfl⟩
      have hyb3 := nb_lt b 16 4
      rw [← hy3] at hyb3 ⊢
      have HY3 := hide hy3
      clear hy3
      go_wp2_with fail
      refine (number_any _ B o n cap b 20 4 _ _ rfl rfl (unhide HN) hnc hcm (by omega) (by omega) (.inl rfl) (unhide HC _ (by repeat' (first | exact Fr.refl _ _ | apply Fr.alloc | rw [← ext_ext] | (refine Fr.ext ?_ (by assumption)))))).mono ?_
      rintro e w' ⟨rfl, rfl⟩
      obtain ⟨y4, hy4⟩ : ∃ y, y = nb b 20 4 := ⟨_, rfl⟩
      have hyb4 := nb_lt b 20 4
      rw [← hy4] at hyb4 ⊢
      have HY4 := hide hy4
      clear hy4
      go_wp2_with fail
      refine (number_any _ B o n cap b 24 4 _ _ rfl rfl (unhide HN) hnc hcm (by omega) (by omega) (.inl rfl) (unhide HC _ (by repeat' (first | exact Fr.refl _ _ | apply Fr.alloc | rw [← ext_ext] | (refine Fr.ext ?_ (by assumption)))))).mono ?_
      rintro e w' ⟨rfl, rfl⟩
      obtain ⟨y5, hy5⟩ : ∃ y, y = nb b 24 4 := ⟨_, rfl⟩
      have hyb5 := nb_lt b 24 4
      rw [← hy5] at hyb5 ⊢
      have HY5 := hide hy5
      clear hy5
      go_wp2_with fail
      refine (number_any _ B o n cap b 28 4 _ _ rfl rfl (unhide HN) hnc hcm (by omega) (by omega) (.inl rfl) (unhide HC _ (by repeat' (first | exact Fr.refl _ _ | apply Fr.alloc | rw [← ext_ext] | (refine Fr.ext ?_ (by assumption)))))).mono ?_
      rintro e w' ⟨rfl, rfl⟩
      obtain ⟨y6, hy6⟩ : ∃ y, y = nb b 28 4 := ⟨_, rfl⟩
      have hyb6 := nb_lt b 28 4
      rw [← hy6] at hyb6 ⊢
      have HY6 := hide hy6
      clear hy6
      go_wp2_with (first | (refine wl_b7 rfl rfl rfl rfl rfl rfl rfl rfl rfl ?_) | (apply wl_store25 _ _ rfl rfl _ rfl _ rfl; (case hr => (first | (simp [go_sem]; done) | (simp (disch := first | rfl | (simp; done) | (simp; omega)) only [rowN_ext, rowN_alloc_past, In.rowN]; done))); (case hw => (first | (simp (disch := first | rfl | (simp; done) | (simp; omega)) only [setRow_ext, setRow_alloc_past, setRow_alloc_at]; exact rfl) | (simp [go_sem]; try exact rfl)))))
      refine (number_any _ B o n cap b 32 8 _ _ rfl rfl (unhide HN) hnc hcm (by omega) (by omega) (.inr rfl) (unhide HC _ (by repeat' (first | exact Fr.refl _ _ | apply Fr.alloc | rw [← ext_ext] | (refine Fr.ext ?_ (by assumption)))))).mono ?_
      rintro e w' ⟨rfl, rfl⟩
      obtain ⟨y7, hy7⟩ : ∃ y, y = nb b 32 8 := ⟨_, rfl⟩
      have hyb7 := nb_lt b 32 8
      rw [← hy7] at hyb7 ⊢
      have HY7 := hide hy7
      clear hy7
      go_wp2_with fail
      refine (number_any _ B o n cap b 40 8 _ _ rfl rfl (unhide HN) hnc hcm (by omega) (by omega) (.inr rfl) (unhide HC _ (by repeat' (first | exact Fr.refl _ _ | apply Fr.alloc | rw [← ext_ext] | (refine Fr.ext ?_ (by assumption)))))).mono ?_
      rintro e w' ⟨rfl, rfl⟩
      obtain ⟨y8, hy8⟩ : ∃ y, y = nb b 40 8 := ⟨_, rfl⟩
      have hyb8 := nb_lt b 40 8
      rw [← hy8] at hyb8 ⊢
      have HY8 := hide hy8
      clear hy8
      go_wp2_with fail
      refine (number_any _ B o n cap b 48 8 _ _ rfl rfl (unhide HN) hnc hcm (by omega) (by omega) (.inr rfl) (unhide HC _ (by repeat' (first | exact Fr.refl _ _ | apply Fr.alloc | rw [← ext_ext] | (refine Fr.ext ?_ (by assumption)))))).mono ?_
      rintro e w' ⟨rfl, rfl⟩
      obtain ⟨y9, hy9⟩ : ∃ y, y = nb b 48 8 := ⟨_, rfl⟩
      have hyb9 := nb_lt b 48 8
      rw [← hy9] at hyb9 ⊢
      have HY9 := hide hy9
      clear hy9
      go_wp2_with fail
      refine (number_any _ B o n cap b 56 8 _ _ rfl rfl (unhide HN) hnc hcm (by omega) (by omega) (.inr rfl) (unhide HC _ (by repeat' (first | exact Fr.refl _ _ | apply Fr.alloc | rw [← ext_ext] | (refine Fr.ext ?_ (by assumption)))))).mono ?_
      rintro e w' ⟨rfl, rfl⟩
      obtain ⟨y10, hy10⟩ : ∃ y, y = nb b 56 8 := ⟨_, rfl⟩
      have hyb10 := nb_lt b 56 8
      rw [← hy10] at hyb10 ⊢
      have HY10 := hide hy10
      clear hy10
      go_wp2_with fail
      refine (number_any _ B o n cap b 64 8 _ _ rfl rfl (unhide HN) hnc hcm (by omega) (by omega) (.inr rfl) (unhide HC _ (by repeat' (first | exact Fr.refl _ _ | apply Fr.alloc | rw [← ext_ext] | (refine Fr.ext ?_ (by assumption)))))).mono ?_
      rintro e w' ⟨rfl, rfl⟩
      obtain ⟨y11, hy11⟩ : ∃ y, y = nb b 64 8 := ⟨_, rfl⟩
      have hyb11 := nb_lt b 64 8
      rw [← hy11] at hyb11 ⊢
      have HY11 := hide hy11
      clear hy11
      go_wp2_with fail
      refine (number_any _ B o n cap b 72 8 _ _ rfl rfl (unhide HN) hnc hcm (by omega) (by omega) (.inr rfl) (unhide HC _ (by repeat' (first | exact Fr.refl _ _ | apply Fr.alloc | rw [← ext_ext] | (refine Fr.ext ?_ (by assumption)))))).mono ?_
      rintro e w' ⟨rfl, rfl⟩
      obtain ⟨y12, hy12⟩ : ∃ y, y = nb b 72 8 := ⟨_, rfl⟩
      have hyb12 := nb_lt b 72 8
      rw [← hy12] at hyb12 ⊢
      have HY12 := hide hy12
      clear hy12
      have HXX : Hid (hdX b = ⟨y0, y1, y2, y3, y4, y5, y6, y7, y8, y9, y10, y11, y12, ⟨#[]⟩⟩) := hide (by
        rw [unhide HY0, unhide HY1, unhide HY2, unhide HY3, unhide HY4, unhide HY5, unhide HY6, unhide HY7, unhide HY8, unhide HY9, unhide HY10, unhide HY11, unhide HY12]; rfl)
      rw [unhide HXX] at HX
      have hLc : 84 + L ≤ cap := by have := unhide HNN; omega
      have hLn : L ≤ n - 84 := by have := unhide HNN; omega
      clear HY0 HY1 HY2 HY3 HY4 HY5 HY6 HY7 HY8 HY9 HY10 HY11 HY12
      by_cases hcap : cap = 84
      · have hL0 : L = 0 := by omega
        subst hL0 hcap
        have kc := conv_rd (P := Try.prog) (Rd.lit (w := ((w.alloc (.cells (In.cs ⟨0, 0, 0, 0, 0, 0, 0, 0, 0, 0, 0, 0, 0, ⟨#[]⟩⟩) 25)).alloc (.cells (In.cs ⟨y0, y1, y2, y3, y4, y5, y6, y7, y8, y9, y10, y11, y12, ⟨#[]⟩⟩) 25))) (b := B) (o := o) (n := 0) (cap := 84 - 84) (l := (b.drop 84).take 0) (by rw [List.length_take, unhide HDL]; omega) (by omega) (by omega) (fun j hj => by
          have h0 : j < 0 := by rw [List.length_take] at hj; omega
          have h2 := unhide HC ((w.alloc (.cells (In.cs ⟨0, 0, 0, 0, 0, 0, 0, 0, 0, 0, 0, 0, 0, ⟨#[]⟩⟩) 25)).alloc (.cells (In.cs ⟨y0, y1, y2, y3, y4, y5, y6, y7, y8, y9, y10, y11, y12, ⟨#[]⟩⟩) 25)) (by repeat' (first | exact Fr.refl _ _ | apply Fr.alloc | rw [← ext_ext] | (refine Fr.ext ?_ (by assumption)))) (84 + j) (by have := unhide HN; omega)
          rw [List.getElem_take, List.getElem_drop]
          first | (exfalso; omega) | (rw [show o + j = o + (84 + j) by omega]; exact h2))) 26 9 5 Try.underlying26 Try.underlying5 Try.underlying9
        obtain ⟨st, hst⟩ : ∃ st, st = str ((b.drop 84).take 0) := ⟨_, rfl⟩
        rw [← hst] at kc HX
        clear hst
        rw [unhide HX] at HCK
        clear HC HL HN
        by_cases hk0 : ge = 0
        · subst hk0
          go_wp2_with (first | (go_at_call 19; refine mono_ext (HCK _) ?_; rintro e E3 rfl hE3) | (refine wl_zero25 rfl rfl ?_; simp only [Act.put, List.setIfInBounds_toArray, List.set_cons_succ, List.set_cons_zero]) | (apply wl_load25 _ rfl rfl _ rfl; (case hr => (first | (simp [go_sem]; done) | (simp (disch := first | rfl | (simp; done) | (simp; omega)) only [rowN_ext, rowN_alloc_past, In.rowN]; done))); (case hc => (first | (simp [go_sem]; done) | (simp (disch := first | rfl | (simp; done) | (simp; omega)) only [rowD_ext, rowD_alloc_past, rowD_alloc_at]; try exact rfl)))) | (apply wl_store25 _ _ rfl rfl _ rfl _ rfl; (case hr => (first | (simp [go_sem]; done) | (simp (disch := first | rfl | (simp; done) | (simp; omega)) only [rowN_ext, rowN_alloc_past, In.rowN]; done))); (case hw => (first | (simp (disch := first | rfl | (simp; done) | (simp; omega)) only [setRow_ext, setRow_alloc_past, setRow_alloc_at]; exact rfl) | (simp [go_sem]; try exact rfl)))))
          apply re25 rfl rfl rfl; (case hr => (first | (simp [go_sem]; done) | (simp (disch := first | rfl | (simp; done) | (simp; omega)) only [rowN_ext, rowN_alloc_past, In.rowN]; done))); (case hc => (first | (simp [go_sem]; done) | (simp (disch := first | rfl | (simp; done) | (simp; omega)) only [rowD_ext, rowD_alloc_past, rowD_alloc_at]; try exact rfl)))
          refine ⟨congrArg Ending.returned ?_, by repeat' (first | exact Fr.refl _ _ | apply Fr.alloc | rw [← ext_ext] | (refine Fr.ext ?_ (by assumption)))⟩
          rw [unhide HX]; rfl
        · have bne : (ge != 0) = true := by simpa using hk0
          go_wp2_with (first | (go_at_call 19; refine mono_ext (HCK _) ?_; rintro e E3 rfl hE3) | (refine wl_zero25 rfl rfl ?_; simp only [Act.put, List.setIfInBounds_toArray, List.set_cons_succ, List.set_cons_zero]) | (apply wl_load25 _ rfl rfl _ rfl; (case hr => (first | (simp [go_sem]; done) | (simp (disch := first | rfl | (simp; done) | (simp; omega)) only [rowN_ext, rowN_alloc_past, In.rowN]; done))); (case hc => (first | (simp [go_sem]; done) | (simp (disch := first | rfl | (simp; done) | (simp; omega)) only [rowD_ext, rowD_alloc_past, rowD_alloc_at]; try exact rfl)))) | (apply wl_store25 _ _ rfl rfl _ rfl _ rfl; (case hr => (first | (simp [go_sem]; done) | (simp (disch := first | rfl | (simp; done) | (simp; omega)) only [rowN_ext, rowN_alloc_past, In.rowN]; done))); (case hw => (first | (simp (disch := first | rfl | (simp; done) | (simp; omega)) only [setRow_ext, setRow_alloc_past, setRow_alloc_at]; exact rfl) | (simp [go_sem]; try exact rfl)))))
          apply re25 rfl rfl rfl; (case hr => (first | (simp [go_sem]; done) | (simp (disch := first | rfl | (simp; done) | (simp; omega)) only [rowN_ext, rowN_alloc_past, In.rowN]; done))); (case hc => (first | (simp [go_sem]; done) | (simp (disch := first | rfl | (simp; done) | (simp; omega)) only [rowD_ext, rowD_alloc_past, rowD_alloc_at]; try exact rfl)))
          refine ⟨congrArg Ending.returned ?_, by repeat' (first | exact Fr.refl _ _ | apply Fr.alloc | rw [← ext_ext] | (refine Fr.ext ?_ (by assumption)))⟩
          rw [show Res gx ge = Value.tuple #[In.zero.v, .int .i64 ge] by simp [Res, hk0]]; rfl
      · have hc84 : 84 < cap := by omega
        have kc := conv_rd (P := Try.prog) (Rd.lit (w := ((w.alloc (.cells (In.cs ⟨0, 0, 0, 0, 0, 0, 0, 0, 0, 0, 0, 0, 0, ⟨#[]⟩⟩) 25)).alloc (.cells (In.cs ⟨y0, y1, y2, y3, y4, y5, y6, y7, y8, y9, y10, y11, y12, ⟨#[]⟩⟩) 25))) (b := B) (o := (o + 84)) (n := L) (cap := cap - 84) (l := (b.drop 84).take L) (by rw [List.length_take, unhide HDL]; omega) (by omega) (by omega) (fun j hj => by
          have h0 : j < L := by rw [List.length_take] at hj; omega
          have h2 := unhide HC ((w.alloc (.cells (In.cs ⟨0, 0, 0, 0, 0, 0, 0, 0, 0, 0, 0, 0, 0, ⟨#[]⟩⟩) 25)).alloc (.cells (In.cs ⟨y0, y1, y2, y3, y4, y5, y6, y7, y8, y9, y10, y11, y12, ⟨#[]⟩⟩) 25)) (by repeat' (first | exact Fr.refl _ _ | apply Fr.alloc | rw [← ext_ext] | (refine Fr.ext ?_ (by assumption)))) (84 + j) (by have := unhide HN; omega)
          rw [List.getElem_take, List.getElem_drop]
          first | (exfalso; omega) | (rw [show (o + 84) + j = o + (84 + j) by omega]; exact h2))) 26 9 5 Try.underlying26 Try.underlying5 Try.underlying9
        obtain ⟨st, hst⟩ : ∃ st, st = str ((b.drop 84).take L) := ⟨_, rfl⟩
        rw [← hst] at kc HX
        clear hst
        rw [unhide HX] at HCK
        clear HC HL HN
        by_cases hk0 : ge = 0
        · subst hk0
          go_wp2_with (first | (go_at_call 19; refine mono_ext (HCK _) ?_; rintro e E3 rfl hE3) | (refine wl_zero25 rfl rfl ?_; simp only [Act.put, List.setIfInBounds_toArray, List.set_cons_succ, List.set_cons_zero]) | (apply wl_load25 _ rfl rfl _ rfl; (case hr => (first | (simp [go_sem]; done) | (simp (disch := first | rfl | (simp; done) | (simp; omega)) only [rowN_ext, rowN_alloc_past, In.rowN]; done))); (case hc => (first | (simp [go_sem]; done) | (simp (disch := first | rfl | (simp; done) | (simp; omega)) only [rowD_ext, rowD_alloc_past, rowD_alloc_at]; try exact rfl)))) | (apply wl_store25 _ _ rfl rfl _ rfl _ rfl; (case hr => (first | (simp [go_sem]; done) | (simp (disch := first | rfl | (simp; done) | (simp; omega)) only [rowN_ext, rowN_alloc_past, In.rowN]; done))); (case hw => (first | (simp (disch := first | rfl | (simp; done) | (simp; omega)) only [setRow_ext, setRow_alloc_past, setRow_alloc_at]; exact rfl) | (simp [go_sem]; try exact rfl)))))
          apply re25 rfl rfl rfl; (case hr => (first | (simp [go_sem]; done) | (simp (disch := first | rfl | (simp; done) | (simp; omega)) only [rowN_ext, rowN_alloc_past, In.rowN]; done))); (case hc => (first | (simp [go_sem]; done) | (simp (disch := first | rfl | (simp; done) | (simp; omega)) only [rowD_ext, rowD_alloc_past, rowD_alloc_at]; try exact rfl)))
          refine ⟨congrArg Ending.returned ?_, by repeat' (first | exact Fr.refl _ _ | apply Fr.alloc | rw [← ext_ext] | (refine Fr.ext ?_ (by assumption)))⟩
          rw [unhide HX]; rfl
        · have bne : (ge != 0) = true := by simpa using hk0
          go_wp2_with (first | (go_at_call 19; refine mono_ext (HCK _) ?_; rintro e E3 rfl hE3) | (refine wl_zero25 rfl rfl ?_; simp only [Act.put, List.setIfInBounds_toArray, List.set_cons_succ, List.set_cons_zero]) | (apply wl_load25 _ rfl rfl _ rfl; (case hr => (first | (simp [go_sem]; done) | (simp (disch := first | rfl | (simp; done) | (simp; omega)) only [rowN_ext, rowN_alloc_past, In.rowN]; done))); (case hc => (first | (simp [go_sem]; done) | (simp (disch := first | rfl | (simp; done) | (simp; omega)) only [rowD_ext, rowD_alloc_past, rowD_alloc_at]; try exact rfl)))) | (apply wl_store25 _ _ rfl rfl _ rfl _ rfl; (case hr => (first | (simp [go_sem]; done) | (simp (disch := first | rfl | (simp; done) | (simp; omega)) only [rowN_ext, rowN_alloc_past, In.rowN]; done))); (case hw => (first | (simp (disch := first | rfl | (simp; done) | (simp; omega)) only [setRow_ext, setRow_alloc_past, setRow_alloc_at]; exact rfl) | (simp [go_sem]; try exact rfl)))))
          apply re25 rfl rfl rfl; (case hr => (first | (simp [go_sem]; done) | (simp (disch := first | rfl | (simp; done) | (simp; omega)) only [rowN_ext, rowN_alloc_past, In.rowN]; done))); (case hc => (first | (simp [go_sem]; done) | (simp (disch := first | rfl | (simp; done) | (simp; omega)) only [rowD_ext, rowD_alloc_past, rowD_alloc_at]; try exact rfl)))
          refine ⟨congrArg Ending.returned ?_, by repeat' (first | exact Fr.refl _ _ | apply Fr.alloc | rw [← ext_ext] | (refine Fr.ext ?_ (by assumption)))⟩
          rw [show Res gx ge = Value.tuple #[In.zero.v, .int .i64 ge] by simp [Res, hk0]]; rfl
end Go.Proofs.Ytbenailemoefhaa
