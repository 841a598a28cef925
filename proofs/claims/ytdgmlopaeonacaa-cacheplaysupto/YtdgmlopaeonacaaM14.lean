/-
  A home whose rows are slices of any capacity, and its calls.
  The document's cache beside its home; a place is written home.
-/
import Derived.Test.YtdgmlopaeonacaaM13
namespace Go.Proofs.Ytdgmlopaeonacaa
set_option linter.unusedVariables false
set_option linter.unusedSimpArgs false
open Go.RowKit
set_option linter.unusedVariables false
set_option linter.unusedSimpArgs false

attribute [local go_sem ↓] Go.wp_at_zero Go.wp_at_succ

/-- A row of 384 bytes that can be read, in a block of bytes. -/
def RA (w : World) (b cb : Nat) (d : List UInt8) : Prop := 384 ≤ cb ∧ Rd w (.slice (some ⟨b, 0, none⟩) 384 cb) d ∧ knd w b = 5
theorem RA.kept {S : Nat → Prop} {w w' : World} {b cb : Nat} {d : List UInt8} (h : RA w b cb d) (f : Fr S w w') (hs : ¬ S b) : RA w' b cb d :=
  ⟨h.1, h.2.1.kept f (fun k hk e => by simp [Value.ownBlock] at hk; subst hk; exact hs e), by
    have e := h.2.2
    have hl : b < w.heap.size := knd_lt (by rw [e]; decide)
    unfold knd at *
    rw [f.block b hl hs]; exact e⟩
theorem BAt.ra {w : World} {b : Nat} {d : List UInt8} (h : BAt w b d) (hd : d.length = 384) : RA w b 384 d :=
  ⟨Nat.le_refl _, by have := h.rd (by rw [hd]; decide); rwa [hd] at this, knd_cells h⟩
/-- The home in memory: h the struct, dv its blocks, lv its log. -/
structure HAtG [Av] (w : World) (h : Nat) (dv lv : Value) (vs : List Value) (m : Hm) : Prop where
  heap : w.heap[h]? = some (.cells #[dv, lv, .int .i64 (m.calls : Int), .int .i64 (m.bad : Int), .int .i64 (m.long : Int)] 51 (0, 0))
  data : w.ownsRow 0 37 1 dv m.D.length vs
  rd : ∀ i (hi : i < m.D.length), ∃ b cb, vs[i]? = some (.slice (some ⟨b, 0, none⟩) 384 cb) ∧ RA w b cb m.D[i]
  log : w.ownsRow 0 3 1 lv m.log.length (ivs m.log)
  ok : m.Ok
  far : ∀ v ∈ vs, ∀ b, v.ownBlock = some b → Av.z ≠ some b
  old : ∀ b, Av.z = some b → b < w.heap.size


section
variable {w w' : World} {h : Nat} {dv lv : Value} {vs : List Value} {m : Hm}
theorem HAtG.kept [Av] (H : HAtG w h dv lv vs m) {S : Nat → Prop} (f : Fr S w w') (hs : ∀ k, S k → knd w k ≠ 51 ∧ knd w k ≠ 37 ∧ knd w k ≠ 3 ∧ knd w k ≠ 5) : HAtG w' h dv lv vs m := by
  refine ⟨?_, owns_kept H.data f (fun k hk e => (hs k e).2.1 (knd_owns H.data hk)), fun i hi => ?_, owns_kept H.log f (fun k hk e => (hs k e).2.2.1 (knd_owns H.log hk)), H.ok, H.far, fun z hz => Nat.lt_of_lt_of_le (H.old z hz) f.size⟩
  · rw [f.block h (lt_of_heap H.heap) (fun e => (hs h e).1 (knd_cells H.heap))]; exact H.heap
  · obtain ⟨b, cb, h1, h2⟩ := H.rd i hi
    exact ⟨b, cb, h1, h2.kept f (fun e => (hs b e).2.2.2 h2.2.2)⟩
theorem HAtG.kept0 [Av] (H : HAtG w h dv lv vs m) (f : Fr (fun _ => False) w w') : HAtG w' h dv lv vs m := H.kept f (fun _ e => e.elim)
theorem HAtG.knds [Av] (H : HAtG w h dv lv vs m) {k : Nat} (hk : HB h dv lv k) : knd w k = 51 ∨ knd w k = 37 ∨ knd w k = 3 := by
  rcases hk with rfl | hk | hk
  · exact .inl (knd_cells H.heap)
  · exact .inr (.inl (knd_owns H.data hk))
  · exact .inr (.inr (knd_owns H.log hk))
theorem HAtG.shape [Av] (H : HAtG w h dv lv vs m) : ∃ ao c, dv = .slice ao m.D.length c := owns_shape H.data
end


section
variable (w : World) (h : Nat) (dv lv : Value) (vs : List Value) (m : Hm)
theorem HAtG.one [Av] (H : HAtG w h dv lv vs m) (hc : m.calls < 1000000000) (u : Value) : HAtG (w.setCell ⟨h, 2, none⟩ (.int .i64 ((m.calls : Int) + 1))) h dv lv vs m.one := by
  have f : Fr (fun k => k = h) w (w.setCell ⟨h, 2, none⟩ (.int .i64 ((m.calls : Int) + 1))) := (Fr.refl (fun k => k = h) w).setCell (p := ⟨h, 2, none⟩) (fun _ => rfl) _
  refine ⟨?_, owns_kept H.data f (fun k hk e => ?_), fun i hi => ?_, owns_kept H.log f (fun k hk e => ?_), ⟨H.ok.len, H.ok.all, Nat.le_succ_of_le H.ok.log, H.ok.bad, H.ok.long, hc⟩, H.far, fun z hz => Nat.lt_of_lt_of_le (H.old z hz) f.size⟩
  · have := heap_setCell_same w h 2 _ 51 (.int .i64 ((m.calls : Int) + 1)) H.heap
    rw [this]
    simp [Hm.one]
  · subst e; have := knd_owns H.data hk; rw [knd_cells H.heap] at this; exact absurd this (by decide)
  · obtain ⟨b, cb, h1, h2⟩ := H.rd i hi
    refine ⟨b, cb, h1, h2.kept f (fun e => ?_)⟩
    have e' : b = h := e
    subst e'
    have := h2.2.2
    rw [knd_cells H.heap] at this
    exact absurd this (by decide)
  · subst e; have := knd_owns H.log hk; rw [knd_cells H.heap] at this; exact absurd this (by decide)

set_option maxHeartbeats 1000000 in
theorem failsG_any [Av] (H : HAtG w h dv lv vs m) (hc : m.calls < 1000000000) : Calls Try.prog 69 #[ptr h] w fun e w' => e = .returned (.bool m.fa) ∧ HAtG w' h dv lv vs m.one ∧ Fr (fun k => k = h) w w' := by
  have c2 := cell_of_heap H.heap 2
  have c3 := cell_of_heap H.heap 3
  have c4 := cell_of_heap H.heap 4
  simp at c2 c3 c4
  have z2 := frozen_of_heap H.heap 2
  have HO := hide (HAtG.one w h dv lv vs m H hc (.bool true))
  have ok := H.ok
  have hb := ok.bad
  have hl := ok.long
  have hfa : m.fa = (decide (m.bad < m.calls + 1) && decide (m.calls + 1 ≤ m.bad + m.long)) := rfl
  obtain ⟨b1, hb1⟩ : ∃ b, b = decide (m.bad < m.calls + 1) := ⟨_, rfl⟩
  obtain ⟨b2, hb2⟩ : ∃ b, b = decide (m.calls + 1 ≤ m.bad + m.long) := ⟨_, rfl⟩
  have e1 : decide ((m.bad : Int) < (m.calls : Int) + 1) = b1 := by rw [hb1]; congr 1; simp; omega
  have e2 : decide ((m.calls : Int) + 1 ≤ (m.bad : Int) + (m.long : Int)) = b2 := by rw [hb2]; congr 1; simp; omega
  rw [← hb1, ← hb2] at hfa
  rw [hfa]
  have F1 : Hid (Fr (fun k => k = h) w (w.setCell ⟨h, 2, none⟩ (.int .i64 ((m.calls : Int) + 1)))) := hide ((Fr.refl (fun k => k = h) w).setCell (p := ⟨h, 2, none⟩) (fun _ => rfl) _)
  clear H ok hb1 hb2 hfa
  unfold ptr
  generalize m.one = m1 at *
  generalize m.calls = mc at *
  generalize m.bad = mb at *
  generalize m.long = ml at *
  cases b1
  · go_enter Try.func69, Try.ntmps69
    go_wp2_with fail
    go_quiet (fail)
    go_wp2_with fail
    go_ret
    exact ⟨rfl, (unhide HO).kept0 (Fr.ofDrewN _ _), (unhide F1).trans (Fr.ofDrewN (S := fun _ => False) _ _) (fun _ _ h => h.elim)⟩
  · go_enter Try.func69, Try.ntmps69
    go_wp2_with fail
    go_quiet (fail)
    go_wp2_with fail
    go_ret
    exact ⟨rfl, (unhide HO).kept0 (Fr.ofDrewN _ _), (unhide F1).trans (Fr.ofDrewN (S := fun _ => False) _ _) (fun _ _ h => h.elim)⟩

set_option maxRecDepth 100000 in
set_option maxHeartbeats 1000000 in
theorem hreadG_any [Av] (i : Nat) (Di : List UInt8) (hDi : m.D[i]? = some Di) (H : HAtG w h dv lv vs m) (hc : m.calls < 1000000000) : Calls Try.prog 67 #[ptr h, .int .i64 (i : Int)] w fun e w' =>
    ((m.fa = true ∧ e = .returned (.tuple #[.slice none 0 0, .int .i64 77])) ∨ (m.fa = false ∧ ∃ ao c, e = .returned (.tuple #[.slice ao 384 c, .int .i64 0]) ∧ Rd w' (.slice ao 384 c) Di ∧ ∀ b, (Value.slice ao 384 c).ownBlock = some b → w.heap.size ≤ b ∧ knd w' b = 5)) ∧ HAtG w' h dv lv vs m.one ∧ Fr (fun k => k = h) w w' := by
  obtain ⟨hi, hDi⟩ := List.getElem?_eq_some_iff.1 hDi
  have HF := hide (failsG_any w h dv lv vs m H hc)
  clear H hc
  unfold ptr at *
  rcases hfa : m.fa with _ | _
  · rw [hfa] at HF
    go_enter Try.func67, Try.ntmps67
    go_wp2_with fail
    refine (unhide HF).mono ?_
    rintro e w1 ⟨rfl, H1, f1⟩
    have c0 := cell_of_heap H1.heap 0
    simp at c0
    obtain ⟨g, c, cur, rfl, hnc, hcm, hg, hcs, hcells⟩ := owns_at H1.data (by show 0 < m.D.length; omega)
    obtain ⟨b, cb, hvb, hB⟩ := H1.rd i hi
    change RA w1 b cb m.D[i] at hB
    rw [hDi] at hB
    have ci := hcells i hi
    rw [hvb] at ci
    have hlen : Di.length = 384 := by rw [← hDi]; exact H1.ok.all _ (List.getElem_mem hi)
    have hR := hB.2.1
    have hlt : (i : Int) < (m.D.length : Int) := by omega
    have hic : i < c := by have : m.D.length ≤ c := hnc; omega
    change w1.cell? ⟨h, 0, none⟩ = some (.slice (some ⟨g, 0, none⟩) m.D.length c) at c0
    have fa := (Fr.refl (fun _ => False) w1).alloc (.cells #[] 5)
    have c0a := (fa.cell (a := ⟨h, 0, none⟩) (lt_of_heap H1.heap) id).trans c0
    have cia := (fa.cell (a := ⟨g, i, none⟩) (lt_of_heap hg) id).trans ci
    have HR := hide hR
    have HH := hide H1
    have F1 := hide f1
    clear fa c0 ci hR
    obtain ⟨inf, hi0, hz0, hz1, hz2⟩ := info_parts Try.info5
    have HL := hide hlen
    clear hB hg hcs hcells H1 hlen f1 HF hvb hDi hcm hnc hfa
    go_wp2_with (at_builtin; refine wpList_app rfl (.tmp 8) (.tmp 15) 37 rfl 5 inf _ 1 1 Try.underlying37 hi0 hz0 hz1 hz2 rfl (by decide) (.slice (some ⟨w1.heap.size, 0, none⟩) 0 0) 0 [] rfl (.slice (some ⟨b, 0, none⟩) 384 cb) rfl 384 (bvs Di) (owns_new (heap_alloc_new _ _)) (by have := ((unhide HR).kept ((Fr.refl (fun _ => False) w1).alloc (.cells #[] 5)) (fun _ _ h => h)).sr; rw [unhide HL] at this; exact this) (bvs_one _) (by decide) (by decide) ?_)
    intro ao c w2 o2 g2 p2
    have hR2 : Rd w2 (.slice ao 384 c) Di := by
      refine Rd.of_owns (base := 0) ?_
      rw [unhide HL]
      exact o2
    have HR2 := hide hR2
    have HK5 : Hid (∀ b, (Value.slice ao 384 c).ownBlock = some b → knd w2 b = 5) := hide (fun b hb => knd_owns o2 hb)
    have HP2 : Hid (∀ b, (Value.slice ao 384 c).ownBlock = some b → w1.heap.size ≤ b) := hide (fun b hb => by
      rcases p2 with e | ⟨k, e, hk⟩
      · rw [e] at hb; simp [Value.ownBlock] at hb; omega
      · rw [e] at hb; simp at hb; omega)
    have F2 := hide (((Fr.refl (fun _ => False) w1).alloc (.cells #[] 5)).grown g2 (fun k hk e => by simp [Value.ownBlock] at e; omega))
    clear o2 g2 p2 hR2
    go_wp2_with fail
    go_ret2
    refine ⟨.inr ⟨trivial, ao, c, rfl, unhide HR2, fun b hb => ⟨Nat.le_trans (unhide F1).size (unhide HP2 b hb), unhide HK5 b hb⟩⟩, (unhide HH).kept0 (unhide F2), (unhide F1).trans (unhide F2) (fun _ _ h => h.elim)⟩
  · rw [hfa] at HF
    go_enter Try.func67, Try.ntmps67
    go_wp2_with fail
    refine (unhide HF).mono ?_
    rintro e w1 ⟨rfl, H1, f1⟩
    have HH := hide H1
    have F1 := hide f1
    clear H1 f1 HF
    go_wp2_with fail
    go_ret2
    exact ⟨.inl ⟨trivial, rfl⟩, unhide HH, unhide F1⟩

theorem hwriteG_no [Av] (i : Nat) (v : Value) (hfa : m.fa = true) (H : HAtG w h dv lv vs m) (hc : m.calls < 1000000000) : Calls Try.prog 68 #[ptr h, .int .i64 (i : Int), v] w fun e w' => e = .returned (.int .i64 77) ∧ HAtG w' h dv lv vs m.one ∧ Fr (fun k => k = h) w w' := by
  have HF := hide (failsG_any w h dv lv vs m H hc)
  clear H hc
  unfold ptr at *
  rw [hfa] at HF
  go_enter Try.func68, Try.ntmps68
  go_wp2_with fail
  refine (unhide HF).mono ?_
  rintro e w1 ⟨rfl, H1, f1⟩
  have HH := hide H1
  have F1 := hide f1
  clear H1 f1 HF
  go_wp2_with fail
  go_ret
  exact ⟨rfl, unhide HH, unhide F1⟩

set_option maxRecDepth 100000 in
set_option maxHeartbeats 1000000 in
theorem hwriteG_ok [Av] (i : Nat) (hi : i < m.D.length) (v : Value) (l : List UInt8) (hv : Rd w v l) (hl : l.length = 384) (hvh : ∀ b, v.ownBlock = some b → b ≠ h) (hfa : m.fa = false) (H : HAtG w h dv lv vs m) (hc : m.calls < 1000000000) : Calls Try.prog 68 #[ptr h, .int .i64 (i : Int), v] w fun e w' => e = .returned (.int .i64 0) ∧ (∃ lv' vs', HAtG w' h dv lv' vs' (m.put i l) ∧ ∀ b, lv'.ownBlock = some b → lv.ownBlock = some b ∨ w.heap.size ≤ b) ∧ Fr (HB h dv lv) w w' := by
  have HF := hide (failsG_any w h dv lv vs m H hc)
  have hlog0 := H.ok.log
  clear H
  unfold ptr at *
  rw [hfa] at HF
  obtain ⟨ao, cv, rfl⟩ := hv.shape
  obtain ⟨vb, vo, rfl, -, hvc, hvm, hvcells⟩ := hv.lits (by omega)
  rw [hl] at hv hvc ⊢
  have HV := hide hv
  have HVH := hide (hvh vb rfl)
  clear hv hvh hvcells
  go_enter Try.func68, Try.ntmps68
  go_wp2_with fail
  refine (unhide HF).mono ?_
  rintro e w1 ⟨rfl, H1, f1⟩
  obtain ⟨w2, hmk, hB2, f2⟩ := mk_any w1 384 (by decide)
  obtain ⟨gq, hgq⟩ : ∃ g, g = w1.heap.size := ⟨_, rfl⟩
  rw [← hgq] at hmk hB2
  have hmk' : (Instr.makeSlice 37 (.int .i64 384) (.int .i64 384)).run Try.prog w1 = .ok (.slice (some ⟨gq, 0, none⟩) 384 384) w2 := hmk
  have HH := hide H1
  have F1 := hide f1
  have F2 := hide f2
  have HB2 := hide hB2
  have HGQ := hide hgq
  have HZ : Hid (∀ z, Av.z = some z → z < gq) := hide (fun z hz => by rw [hgq]; exact H1.old z hz)
  have HV2 := hide (((unhide HV).kept f1 (fun b hb e => unhide HVH (by simp [Value.ownBlock] at hb; omega))).kept f2 (fun _ _ h => h))
  have hvq : vb ≠ gq := by
    obtain ⟨b, o, e, -, -, -, hcs⟩ := (unhide HV).lits (by rw [hl]; decide)
    simp only [Option.some.injEq, Addr.mk.injEq] at e
    obtain ⟨rfl, rfl, -⟩ := e
    have h0 := hcs 0 (by rw [hl]; decide)
    have := World.block_lt_of_cell? w _ h0
    have s1 := f1.size
    have : vb < w.heap.size := this
    omega
  clear H1 f1 f2 hB2 hmk hgq HF HV HVH
  go_wp2_with fail
  go_loopw [8] (fun y W => ∃ j : Nat, j ≤ 384 ∧ y = .int .i64 (j : Int) ∧ BAt W gq (fillL l j) ∧ Fr (fun k => k = gq) w2 W) (fun y _ => 384 - (intOf y).toNat)
  case atStart => exact ⟨0, by omega, rfl, by simpa [fillL] using unhide HB2, Fr.refl _ _⟩
  case round =>
    obtain ⟨j, hj, rfl, hB, hf⟩ := hrel
    by_cases hlt : j < 384
    · obtain ⟨b, o, e, -, -, -, hcs⟩ := ((unhide HV2).kept hf (fun b hb e => hvq (by simp [Value.ownBlock] at hb; omega))).lits (by rw [hl]; exact Nat.lt_of_le_of_lt (Nat.zero_le _) hlt)
      simp only [Option.some.injEq, Addr.mk.injEq] at e
      obtain ⟨rfl, rfl, -⟩ := e
      have y1 := hcs j (by rw [hl]; exact hlt)
      have y2 := hB.cell j (by rw [fillL_length l j hl hj]; exact hlt)
      have z2 := hB.frozen j
      have HS := hide (hB.set j (l[j]'(by rw [hl]; exact hlt)))
      rw [fillL_succ l j hl hlt] at HS
      have HFF := hide (hf.setCell (p := ⟨gq, j, none⟩) (fun _ => rfl) (.int .u8 (((l[j]'(by rw [hl]; exact hlt)).toNat : Nat) : Int)))
      have bl : decide ((j : Int) < 384) = true := by simp; omega
      have hjc : j < cv := by omega
      generalize (fillL l j)[j]'(by rw [fillL_length l j hl hj]; exact hlt) = oc at y2
      generalize l[j]'(by rw [hl]; exact hlt) = lj at *
      clear hcs hB hf
      go_wp2_with fail
      go_roundw
      case rel => exact ⟨j + 1, by omega, by go_num, unhide HS, unhide HFF⟩
      case measure => simp [intOf]; omega
    · obtain rfl : j = 384 := by omega
      rw [fillL_end l hl] at hB
      have fW := (unhide F2).trans hf (fun k hk e => by have := unhide HGQ; omega)
      have HW := (unhide HH).kept0 fW
      obtain ⟨g, c, cur, hdv, hnc, hcm, hg, hcs, hcells⟩ := owns_at HW.data (by show 0 < m.D.length; omega)
      subst hdv
      have c0 := cell_of_heap HW.heap 0
      simp at c0
      change _ = some (Value.slice (some ⟨g, 0, none⟩) m.D.length c) at c0
      obtain ⟨hO2, ci, zi⟩ := owns_set HW.data i hi (.slice (some ⟨gq, 0, none⟩) 384 384)
      obtain ⟨b0, cb0, hvb, -⟩ := HW.rd i hi
      rw [hvb] at ci
      have hlt2 : (i : Int) < (m.D.length : Int) := by omega
      have hic : i < c := by have : m.D.length ≤ c := hnc; omega
      have hgh : g ≠ h := fun e => by subst e; have := knd_cells hg; rw [knd_cells HW.heap] at this; exact absurd this (by decide)
      have hgl : lv.ownBlock ≠ some g := fun e => by have := knd_owns HW.log e; rw [knd_cells hg] at this; exact absurd this (by decide)
      have hhl : lv.ownBlock ≠ some h := fun e => by have := knd_owns HW.log e; rw [knd_cells HW.heap] at this; exact absurd this (by decide)
      have HO2 := hide hO2
      have HWW := hide HW
      have HBq := hide hB
      have FW := hide fW
      have HCG := hide hg
      clear hO2 HW hB fW hf hg hcs hcells hvb HH HB2 HV2 F2
      obtain ⟨w3, hw3⟩ : ∃ w3, w3 = wr.setCell ⟨g, i, none⟩ (.slice (some ⟨gq, 0, none⟩) 384 384) := ⟨_, rfl⟩
      have f3 : Fr (fun k => k = g) wr w3 := by rw [hw3]; exact (Fr.refl (fun k => k = g) wr).setCell (p := ⟨g, i, none⟩) (fun _ => rfl) _
      have HO3 : Hid (w3.ownsRow 0 37 1 (.slice (some ⟨g, 0, none⟩) m.D.length c) m.D.length (vs.set i (.slice (some ⟨gq, 0, none⟩) 384 384))) := hide (by rw [hw3]; exact unhide HO2)
      have hh3 : w3.heap[h]? = some (.cells #[.slice (some ⟨g, 0, none⟩) m.D.length c, lv, .int .i64 ((m.calls + 1 : Nat) : Int), .int .i64 (m.bad : Int), .int .i64 (m.long : Int)] 51 (0, 0)) := by
        rw [f3.block h (lt_of_heap (unhide HWW).heap) (fun e => hgh e.symm)]
        exact (unhide HWW).heap
      have hl3 : w3.ownsRow 0 3 1 lv m.log.length (ivs m.log) := owns_kept (unhide HWW).log f3 (fun k hk e => hgl (by rw [← e]; exact hk))
      obtain ⟨lo, lc, rfl⟩ := owns_shape hl3
      have d1 := cell_of_heap hh3 1
      simp at d1
      have z1 := frozen_of_heap hh3 1
      obtain ⟨inf, hi0, hz0, hz1, hz2⟩ := info_parts Try.info3
      have hll : m.log.length ≤ 1000000000 := by have := (unhide HWW).ok.log; have h2 : m.log.length ≤ m.calls + 1 := this; omega
      have HL3 := hide hl3
      have HH3 := hide hh3
      have F3 := hide f3
      have hhs := lt_of_heap hh3
      have d1a := (((Fr.refl (fun _ => False) w3).alloc (.cells #[.int .i64 (i : Int)] 3)).cell (a := ⟨h, 1, none⟩) hhs id).trans d1
      have z1a := (((Fr.refl (fun _ => False) w3).alloc (.cells #[.int .i64 (i : Int)] 3)).frozen (a := ⟨h, 1, none⟩) hhs id).trans z1
      have HSZ : Hid (w3.heap.size = wr.heap.size) := hide (by rw [hw3]; simp [World.setCell])
      clear hl3 hh3 f3 HO2 z1
      have SR1 : Hid (Sr (w3.alloc (Obj.cells #[.int .i64 (i : Int)] 3)) 1 (.slice (some ⟨wr.heap.size, 0, none⟩) 1 1) 1 [.int .i64 (i : Int)]) := hide (by have := one_cellV w3 (.int .i64 (i : Int)) 3; rw [unhide HSZ] at this; exact this)
      have OW1 := hide ((unhide HL3).alloc (Obj.cells #[.int .i64 (i : Int)] 3))
      subst hw3
      go_wp2_with (at_builtin; refine wpList_app rfl (.tmp 42) (.tmp 44) 49 rfl 3 inf _ 1 8 Try.underlying49 hi0 hz0 hz1 hz2 rfl (by decide) (.slice lo m.log.length lc) m.log.length (ivs m.log) rfl (.slice (some ⟨wr.heap.size, 0, none⟩) 1 1) rfl 1 [.int .i64 (i : Int)] (unhide OW1) (unhide SR1) (fun u hu => by simp at hu; subst hu; rfl) (by omega) (by simp only [maxLen]; omega) ?_)
      intro ao4 ac4 w4 o4 g4 p4
      have f4 : Fr (fun k => (Value.slice lo m.log.length lc).ownBlock = some k) (wr.setCell ⟨g, i, none⟩ (.slice (some ⟨gq, 0, none⟩) 384 384)) w4 := ((Fr.refl _ _).alloc (.cells #[.int .i64 (i : Int)] 3)).grown g4 (fun k _ e => e)
      have d4 := (f4.cell (a := ⟨h, 1, none⟩) hhs hhl).trans d1
      have z4 := (f4.frozen (a := ⟨h, 1, none⟩) hhs hhl).trans (frozen_of_heap (unhide HH3) 1)
      have h4 := (f4.block h hhs hhl).trans (unhide HH3)
      have HH4 := hide h4
      have F4 := hide f4
      have O4 := hide o4
      have P4 := hide p4
      clear o4 g4 p4 f4 h4 z1a d1a d1
      go_wp2_with fail
      go_ret
      have f5 : Fr (fun k => k = h) w4 (w4.setCell ⟨h, 1, none⟩ (.slice ao4 (m.log.length + 1) ac4)) := (Fr.refl (fun k => k = h) w4).setCell (p := ⟨h, 1, none⟩) (fun _ => rfl) _
      have hlt4 : ∀ k, k < wr.heap.size → k < (wr.setCell ⟨g, i, none⟩ (.slice (some ⟨gq, 0, none⟩) 384 384)).heap.size := fun k hk => by rw [unhide HSZ]; exact hk
      have hBk : ∀ b cb d, RA wr b cb d → RA (w4.setCell ⟨h, 1, none⟩ (.slice ao4 (m.log.length + 1) ac4)) b cb d := fun b cb d hb => by
        have e1 : ¬ b = g := fun e => by subst e; have := hb.2.2; rw [knd_cells (unhide HCG)] at this; exact absurd this (by decide)
        have e2 : ¬ (Value.slice lo m.log.length lc).ownBlock = some b := fun e => by have := knd_owns (unhide HWW).log e; rw [hb.2.2] at this; exact absurd this (by decide)
        have e3 : ¬ b = h := fun e => by subst e; have := hb.2.2; rw [knd_cells (unhide HWW).heap] at this; exact absurd this (by decide)
        exact ((hb.kept (unhide F3) e1).kept (unhide F4) e2).kept f5 e3
      have hok := (unhide HWW).ok
      refine ⟨rfl, ⟨.slice ao4 (m.log.length + 1) ac4, vs.set i (.slice (some ⟨gq, 0, none⟩) 384 384), ⟨?_, ?_, fun i' hi' => ?_, ?_, ?_, fun v9 hv9 b9 hb9 hz9 => (List.mem_or_eq_of_mem_set hv9).elim (fun h9 => (unhide HWW).far v9 h9 b9 hb9 hz9) (fun h9 => by rw [h9] at hb9; simp [Value.ownBlock] at hb9; have := unhide HZ _ hz9; omega), fun z9 hz9 => by have a1 := unhide HZ z9 hz9; have a2 := unhide HGQ; have a3 := (unhide FW).size; have a4 := (unhide F4).size; have a5 := f5.size; have a6 := unhide HSZ; omega⟩, ?_⟩, ?_⟩
      · rw [heap_setCell_same w4 h 1 _ 51 _ (unhide HH4)]
        simp [Hm.put, Hm.one]
      · have := owns_kept (owns_kept (unhide HO3) (unhide F4) (fun k hk e => by simp [Value.ownBlock] at hk; subst hk; exact hgl e)) f5 (fun k hk e => by simp [Value.ownBlock] at hk; omega)
        simpa [Hm.put, Hm.one] using this
      · have hi2 : i' < m.D.length := by simpa [Hm.put] using hi'
        by_cases e : i = i'
        · subst e
          refine ⟨gq, 384, ?_, ?_⟩
          · have hvl : i < vs.length := by
              obtain ⟨b, cb, hb, -⟩ := (unhide HWW).rd i hi
              exact (List.getElem?_eq_some_iff.1 hb).1
            simp [hvl]
          · have : (m.put i l).D[i] = l := by simp [Hm.put]
            rw [this]
            exact hBk _ _ _ ((unhide HBq).ra hl)
        · obtain ⟨b, cb, hb, hB⟩ := (unhide HWW).rd i' hi2
          refine ⟨b, cb, by rw [List.getElem?_set_ne e]; exact hb, ?_⟩
          have : (m.put i l).D[i'] = m.D[i'] := by simp [Hm.put, List.getElem_set_ne e]
          rw [this]
          exact hBk _ _ _ hB
      · have := owns_kept (unhide O4) f5 (fun k hk e => by
          subst e
          rcases unhide P4 with e | ⟨k', e, hk'⟩
          · rw [e] at hk; exact hhl hk
          · rw [e] at hk
            simp at hk
            have h1 := lt_of_heap (unhide HWW).heap
            omega)
        simpa [Hm.put, ivs] using this
      · refine ⟨by simpa [Hm.put, Hm.one] using hok.len, fun d hd => ?_, by simp only [Hm.put, List.length_append, List.length_singleton]; exact Nat.succ_le_succ hlog0, hok.bad, hok.long, by simp only [Hm.put]; omega⟩
        have hd' : d ∈ m.D.set i l := hd
        rcases List.mem_or_eq_of_mem_set hd' with h | h
        · exact hok.all d h
        · rw [h]; exact hl
      · intro b hb
        rcases unhide P4 with e | ⟨k', e, hk'⟩
        · rw [e] at hb; exact .inl hb
        · rw [e] at hb
          simp at hb
          have h1 := (unhide F1).size
          have h2 := (unhide FW).size
          right; omega
      · have a1 : Fr (HB h (.slice (some ⟨g, 0, none⟩) m.one.D.length c) (.slice lo m.log.length lc)) w w1 := (unhide F1).mono (fun _ _ e => .inl e)
        have a2 := a1.trans (unhide FW) (fun _ _ e => e.elim)
        have a3 := a2.trans (unhide F3) (fun k _ e => .inr (.inl (by rw [e]; rfl)))
        have a4 := a3.trans (unhide F4) (fun k _ e => .inr (.inr e))
        exact a4.trans f5 (fun k _ e => .inl e)

theorem hflushG_any [Av] (H : HAtG w h dv lv vs m) (hc : m.calls < 1000000000) : Calls Try.prog 58 #[ptr h] w fun e w' => e = .returned (.int .i64 (if m.fa = true then 77 else 0)) ∧ HAtG w' h dv lv vs m.one ∧ Fr (fun k => k = h) w w' := by
  have HF := hide (failsG_any w h dv lv vs m H hc)
  clear H hc
  unfold ptr at *
  rcases hfa : m.fa with _ | _
  · rw [hfa] at HF
    go_enter Try.func58, Try.ntmps58
    go_wp2_with fail
    refine (unhide HF).mono ?_
    rintro e w1 ⟨rfl, H1, f1⟩
    have HH := hide H1
    have F1 := hide f1
    clear H1 f1 HF
    go_wp2_with fail
    go_ret
    exact ⟨rfl, unhide HH, unhide F1⟩
  · rw [hfa] at HF
    go_enter Try.func58, Try.ntmps58
    go_wp2_with fail
    refine (unhide HF).mono ?_
    rintro e w1 ⟨rfl, H1, f1⟩
    have HH := hide H1
    have F1 := hide f1
    clear H1 f1 HF
    go_wp2_with fail
    go_ret
    exact ⟨rfl, unhide HH, unhide F1⟩

end
/-- The home behind a call, its log where it was, or in new memory. -/
def HoBG [Av] (w : World) (h : Nat) (dv lv : Value) (m : Hm) (W : World) : Prop := ∃ lv' vs', HAtG W h dv lv' vs' m ∧ ∀ b, lv'.ownBlock = some b → lv.ownBlock = some b ∨ w.heap.size ≤ b
/-- .. where only its own blocks may have turned. -/
def WHG [Av] (w : World) (h : Nat) (dv lv : Value) (m : Hm) (W : World) : Prop := HoBG w h dv lv m W ∧ Fr (HB h dv lv) w W

theorem hwriteG_any [Av] (w : World) (h : Nat) (dv lv : Value) (vs : List Value) (m : Hm) (b : Int) (hb : 0 ≤ b ∧ b < (m.D.length : Int)) (v : Value) (l : List UInt8) (hv : Rd w v l) (hl : l.length = 384) (hvh : ∀ k, v.ownBlock = some k → k ≠ h) (H : HAtG w h dv lv vs m) (hc : m.calls < 1000000000) : Calls Try.prog 68 #[ptr h, .int .i64 b, v] w fun e w' => e = .returned (.int .i64 (whE m)) ∧ WHG w h dv lv (m.wr b l) w' := by
  obtain ⟨i, rfl⟩ : ∃ i : Nat, b = (i : Int) := ⟨b.toNat, by omega⟩
  have hi : i < m.D.length := by omega
  unfold whE Hm.wr
  rcases hfa : m.fa with _ | _
  · rw [if_neg (by decide), if_neg (by decide)]
    refine (hwriteG_ok w h dv lv vs m i hi v l hv hl hvh hfa H hc).mono ?_
    rintro e w' ⟨rfl, h1, f⟩
    exact ⟨rfl, h1, f⟩
  · rw [if_pos rfl, if_pos rfl]
    refine (hwriteG_no w h dv lv vs m i v hfa H hc).mono ?_
    rintro e w' ⟨rfl, h1, f⟩
    exact ⟨rfl, ⟨lv, vs, h1, fun _ e => .inl e⟩, f.mono (fun _ _ e => .inl e)⟩


end Go.Proofs.Ytdgmlopaeonacaa

namespace Go.Proofs.Ytdgmlopaeonacaa
set_option linter.unusedVariables false
set_option linter.unusedSimpArgs false
open Go.RowKit
set_option linter.unusedVariables false
set_option linter.unusedSimpArgs false

attribute [local go_sem ↓] Go.wp_at_zero Go.wp_at_succ

/-- Cache and home of the document's behind a call, each part by its name. -/
structure Dd [Av] (w w' : World) (q g : Nat) (dv lg lv : Value) (R : List (Nat × Pl)) (lg' : Value) (vs' : List Value) (lv' : Value) (R' : List (Nat × Pl)) (c : Ca) (m : Hm) : Prop where
  d : DAt w' q g lv' R' c
  hh : HAtG w' g dv lg' vs' m
  sub : ∀ k ∈ adr R', k ∈ adr R ∨ w.heap.size ≤ k
  lvn : ∀ b, lv'.ownBlock = some b → lv.ownBlock = some b ∨ w.heap.size ≤ b
  lgn : ∀ b, lg'.ownBlock = some b → lg.ownBlock = some b ∨ w.heap.size ≤ b
  f : Fr (fun k => HB g dv lg k ∨ DB q lv R k) w w'

section
variable {w w1 w2 : World} {q g : Nat} {dv lg lv lg1 lv1 lg2 lv2 : Value} {vs vs1 vs2 : List Value} {R R1 R2 : List (Nat × Pl)} {c c1 c2 : Ca} {m m1 m2 : Hm}
theorem Dd.same [Av] (H : DAt w q g lv R c) (HH : HAtG w g dv lg vs m) (f : Fr (fun _ => False) w w1) : Dd w w1 q g dv lg lv R lg vs lv R c m :=
  ⟨H.kept0 f, HH.kept0 f, fun _ h => .inl h, fun _ h => .inl h, fun _ h => .inl h, f.mono (fun _ _ e => e.elim)⟩
theorem Dd.trans [Av] (h1 : Dd w w1 q g dv lg lv R lg1 vs1 lv1 R1 c1 m1) (h2 : Dd w1 w2 q g dv lg1 lv1 R1 lg2 vs2 lv2 R2 c2 m2) : Dd w w2 q g dv lg lv R lg2 vs2 lv2 R2 c2 m2 := by
  have hs := h1.f.size
  refine ⟨h2.d, h2.hh, fun k hk => ?_, fun b hb => ?_, fun b hb => ?_, h1.f.trans h2.f (fun k hk e => ?_)⟩
  · rcases h2.sub k hk with e | e
    · exact h1.sub k e
    · right; omega
  · rcases h2.lvn b hb with e | e
    · exact h1.lvn b e
    · right; omega
  · rcases h2.lgn b hb with e | e
    · exact h1.lgn b e
    · right; omega
  · rcases e with (e | e | e) | (e | e | e)
    · exact .inl (.inl e)
    · exact .inl (.inr (.inl e))
    · rcases h1.lgn k e with e | e
      · exact .inl (.inr (.inr e))
      · omega
    · exact .inr (.inl e)
    · rcases h1.lvn k e with e | e
      · exact .inr (.inr (.inl e))
      · omega
    · rcases h1.sub k e with e | e
      · exact .inr (.inr (.inr e))
      · omega
/-- A call of the cache alone. -/
theorem Dd.cache [Av] (H : DAt w q g lv R c) (HH : HAtG w g dv lg vs m) (k : DAt w1 q g lv1 R1 c1) (hs : ∀ k ∈ adr R1, k ∈ adr R ∨ w.heap.size ≤ k) (hl : ∀ b, lv1.ownBlock = some b → lv.ownBlock = some b ∨ w.heap.size ≤ b) (f : Fr (DB q lv R) w w1) : Dd w w1 q g dv lg lv R lg vs lv1 R1 c1 m :=
  ⟨k, HH.kept f (fun k hk => by rcases H.knds hk with e | e | e <;> rw [e] <;> decide), hs, hl, fun _ h => .inl h, f.mono (fun _ _ e => .inr e)⟩
/-- A call of the home alone. -/
theorem Dd.home [Av] (H : DAt w q g lv R c) (HH : HAtG w g dv lg vs m) (k : HAtG w1 g dv lg1 vs1 m1) (hl : ∀ b, lg1.ownBlock = some b → lg.ownBlock = some b ∨ w.heap.size ≤ b) (f : Fr (HB g dv lg) w w1) : Dd w w1 q g dv lg lv R lg1 vs1 lv R c m1 :=
  ⟨H.kept f (fun k hk => by
    rcases HH.knds hk with e | e | e
    · exact ⟨fun e2 => by rcases H.knds e2 with e3 | e3 | e3 <;> rw [e] at e3 <;> exact absurd e3 (by decide), by rw [e]; decide⟩
    · exact ⟨fun e2 => by rcases H.knds e2 with e3 | e3 | e3 <;> rw [e] at e3 <;> exact absurd e3 (by decide), by rw [e]; decide⟩
    · exact ⟨fun e2 => by rcases H.knds e2 with e3 | e3 | e3 <;> rw [e] at e3 <;> exact absurd e3 (by decide), by rw [e]; decide⟩), k, fun _ h => .inl h, fun _ h => .inl h, hl, f.mono (fun _ _ e => .inl e)⟩
/-- A place's own fields turn. -/
theorem DAt.turn [Av] {x : Nat × Pl} {y : Pl} (H : DAt w q g lv (R1 ++ x :: R2) c) (f : Fr (fun k => k = x.1) w w1) (hp : ∃ pv, PAt w1 x.1 pv y) (ok : y.Ok) : DAt w1 q g lv (R1 ++ (x.1, y) :: R2) c := by
  have hkx : knd w x.1 = 94 := by obtain ⟨pv, h⟩ := H.pl x (by simp); exact knd_cells h.1
  have hnd := H.nd
  refine ⟨?_, ?_, fun z hz => ?_, by simpa [adr] using hnd, fun z hz => ?_, H.num⟩
  · rw [f.block q (lt_of_heap H.heap) (fun e => by rw [← show q = x.1 from e, knd_cells H.heap] at hkx; exact absurd hkx (by decide))]; exact H.heap
  · have := owns_kept H.row f (fun k hk e => by have h2 := knd_owns H.row hk; rw [show k = x.1 from e, hkx] at h2; exact absurd h2 (by decide))
    simpa using this
  · by_cases hz2 : z = (x.1, y)
    · rw [hz2]; exact hp
    · have hzR : z ∈ R1 ∨ z ∈ R2 := by
        rcases List.mem_append.1 hz with h | h
        · exact .inl h
        · rcases List.mem_cons.1 h with h | h
          · exact absurd h hz2
          · exact .inr h
      obtain ⟨pv, hpz⟩ := H.pl z (by rcases hzR with h | h <;> simp [h])
      refine ⟨pv, hpz.kept f (fun e => ?_) (fun k e => by rw [show k = x.1 from e, hkx]; decide)⟩
      unfold adr at hnd
      simp only [List.map_append, List.map_cons, List.nodup_append, List.nodup_cons] at hnd
      rcases hzR with h | h
      · exact hnd.2.2 _ (List.mem_map.2 ⟨z, h, rfl⟩) _ (List.mem_cons_self ..) e
      · exact hnd.2.1.1 (List.mem_map.2 ⟨z, h, e⟩)
  · rcases List.mem_append.1 hz with h | h
    · exact H.ok z (List.mem_append_left _ h)
    · rcases List.mem_cons.1 h with h | h
      · rw [h]; exact ok
      · exact H.ok z (by simp [h])
theorem Dd.turn [Av] {x : Nat × Pl} {y : Pl} (H : DAt w q g lv (R1 ++ x :: R2) c) (HH : HAtG w g dv lg vs m) (f : Fr (fun k => k = x.1) w w1) (hp : ∃ pv, PAt w1 x.1 pv y) (ok : y.Ok) : Dd w w1 q g dv lg lv (R1 ++ x :: R2) lg vs lv (R1 ++ (x.1, y) :: R2) c m :=
  Dd.cache H HH (H.turn f hp ok) (fun k hk => .inl (by simpa [adr] using hk)) (fun _ h => .inl h) (f.mono (fun k _ e => .inr (.inr (by rw [show k = x.1 from e]; simp [adr]))))
theorem wh_pre [Av] {h : Nat} {dv lv : Value} {w' W : World} (f : Fr (fun _ => False) w w') (H : WHG w' h dv lv m W) : WHG w h dv lv m W := by
  obtain ⟨⟨lv', vs', h1, h2⟩, f2⟩ := H
  have := f.size
  exact ⟨⟨lv', vs', h1, fun b hb => by rcases h2 b hb with e | e; exact .inl e; right; omega⟩, (f.mono (fun _ _ e => e.elim)).trans f2 (fun _ _ e => e)⟩
end
theorem fa56_0 (b o : Nat) (W : World) : (Instr.fieldAt 56 (.pointer (some ⟨b, o, none⟩)) 0).run Try.prog W = .ok (.pointer (some ⟨b, o + 0, none⟩)) W := by simp [go_sem]
theorem fa94_0 (b o : Nat) (W : World) : (Instr.fieldAt 94 (.pointer (some ⟨b, o, none⟩)) 0).run Try.prog W = .ok (.pointer (some ⟨b, o + 0, none⟩)) W := by simp [go_sem]
theorem fa94_1 (b o : Nat) (W : World) : (Instr.fieldAt 94 (.pointer (some ⟨b, o, none⟩)) 1).run Try.prog W = .ok (.pointer (some ⟨b, o + 1, none⟩)) W := by simp [go_sem]
theorem ld25 (W : World) (a : Addr) (u : Value) (h : W.cell? a = some u) : (Instr.loadAt 25 (.pointer (some a))).run Try.prog W = .ok u W := by simp [go_sem, h]

section
variable (w : World) (q g : Nat) (dv lg lv : Value) (vs : List Value) (R1 R2 : List (Nat × Pl)) (x : Nat × Pl) (c : Ca) (m : Hm)

set_option maxRecDepth 100000 in
set_option maxHeartbeats 2000000 in
theorem dhome_any [Av] (H : DAt w q g lv (R1 ++ x :: R2) c) (HH : HAtG w g dv lg vs m) (hb : x.2.b < (m.D.length : Int)) (hc : m.calls < 1000000000) : Calls Try.prog 57 #[ptr q, ptr x.1] w fun e w' => e = .returned (.int .i64 (whE m)) ∧ ∃ lg' vs', Dd w w' q g dv lg lv (R1 ++ x :: R2) lg' vs' lv (R1 ++ (x.1, clP m x.2) :: R2) c (m.wr x.2.b x.2.P) := by
  obtain ⟨pv, hp⟩ := H.pl x (by simp)
  have hok := H.ok x (by simp)
  have HD := hide H
  have HH := hide HH
  have HP := hide hp
  have HBB : Hid (0 ≤ x.2.b ∧ x.2.b < (m.D.length : Int)) := hide ⟨hok.b, hb⟩
  have HLN := hide hok.len
  have HOK := hide hok
  have HC := hide hc
  obtain ⟨pa, pc, hpv⟩ := hp.2.1.shape
  clear H hp hok hb hc
  unfold ptr at *
  go_enter Try.func57, Try.ntmps57
  go_wp2_with fail
  refine wp_nameK ?_
  intro a0 hA
  have h0 : a0.tmps.getD 0 undef = .pointer (some ⟨q, 0, none⟩) := by rw [hA]; rfl
  have h1 : a0.tmps.getD 1 undef = .pointer (some ⟨x.1, 0, none⟩) := by rw [hA]; rfl
  have hsz : a0.tmps.size = 31 := by rw [hA]; rfl
  have hdf : a0.defers = [] := by rw [hA]
  have HA0 := hide hA
  clear hA
  refine wp_region_kinds (HB g dv lg) (by kernel_rfl) (by kernel_rfl) (by decide +kernel) (by rw [hsz]; decide +kernel) [.eq (.pointer (some ⟨q, 0, none⟩)), .eq (.pointer (some ⟨q, 0, none⟩)), .eq (.pointer (some ⟨q, 0, none⟩)), .eq (.pointer (some ⟨g, 0, none⟩)), .eq (.pointer (some ⟨x.1, 0, none⟩)), .eq (.pointer (some ⟨x.1, 0, none⟩)), .eq (.pointer (some ⟨x.1, 0, none⟩)), .eq (.int .i64 x.2.b), .eq (.pointer (some ⟨x.1, 0, none⟩)), .eq (.pointer (some ⟨x.1, 0, none⟩)), .eq (.pointer (some ⟨x.1, 1, none⟩)), .eq (pv), .eq (.int .i64 (whE m)), .eq (.int .i64 (whE m))] [12] (by decide) (by decide) (onepath) (fun k W => (k ≤ 0 → Fr (fun _ => False) w W) ∧ (k = 1 → WHG w g dv lg (m.wr x.2.b x.2.P) W)) ⟨fun _ => (Fr.refl _ _).drew, fun e => by omega⟩ ?steps ?done
  case steps =>
    refine ⟨?_, ?_⟩
    · intro a' w' k' hb hf hs hc hq hg hd
      exact ⟨wantedN rfl, k_val (.pointer (some ⟨q, 0, none⟩)) (by decide) hs (x_move rfl ((hb.old 0 (by decide +kernel)).trans h0)) rfl⟩
    refine ⟨?_, ?_⟩
    · intro a' w' k' hb hf hs hc hq hg hd
      exact ⟨wantedN rfl, k_val (.pointer (some ⟨q, 0, none⟩)) (by decide) hs (x_nilCheck rfl (hd 0 (by kernel_rfl) 6 rfl)) rfl⟩
    refine ⟨?_, ?_⟩
    · intro a' w' k' hb hf hs hc hq hg hd
      exact ⟨wantedN rfl, k_val (.pointer (some ⟨q, 0, none⟩)) (by decide) hs (x_field (of := 0) (off := 0) (fa56_0 q 0) rfl (hd 1 (by kernel_rfl) 7 rfl)) rfl⟩
    refine ⟨?_, ?_⟩
    · intro a' w' k' hb hf hs hc hq hg hd
      have hF0 : Fr (fun _ => False) w w' := hs.1 (by have := hq 0 12 rfl (waits (by kernel_rfl)); omega); exact ⟨wantedN rfl, k_val (.pointer (some ⟨g, 0, none⟩)) (by decide) hs (x_load1 ld25 rfl (hd 2 (by kernel_rfl) 8 rfl) (((unhide HD).kept0 hF0).cells.1)) rfl⟩
    refine ⟨?_, ?_⟩
    · intro a' w' k' hb hf hs hc hq hg hd
      exact ⟨wantedN rfl, k_val (.pointer (some ⟨x.1, 0, none⟩)) (by decide) hs (x_move rfl ((hb.old 1 (by decide +kernel)).trans h1)) rfl⟩
    refine ⟨?_, ?_⟩
    · intro a' w' k' hb hf hs hc hq hg hd
      exact ⟨wantedN rfl, k_val (.pointer (some ⟨x.1, 0, none⟩)) (by decide) hs (x_nilCheck rfl (hd 4 (by kernel_rfl) 10 rfl)) rfl⟩
    refine ⟨?_, ?_⟩
    · intro a' w' k' hb hf hs hc hq hg hd
      exact ⟨wantedN rfl, k_val (.pointer (some ⟨x.1, 0, none⟩)) (by decide) hs (x_field (of := 0) (off := 0) (fa94_0 x.1 0) rfl (hd 5 (by kernel_rfl) 11 rfl)) rfl⟩
    refine ⟨?_, ?_⟩
    · intro a' w' k' hb hf hs hc hq hg hd
      have hF0 : Fr (fun _ => False) w w' := hs.1 (by have := hq 0 12 rfl (waits (by kernel_rfl)); omega); exact ⟨wantedN rfl, k_val (.int .i64 x.2.b) (by decide) hs (x_load1 ld3 rfl (hd 6 (by kernel_rfl) 12 rfl) (((unhide HP).kept hF0 id (fun _ e => e.elim)).cells.1)) rfl⟩
    refine ⟨?_, ?_⟩
    · intro a' w' k' hb hf hs hc hq hg hd
      exact ⟨wantedN rfl, k_val (.pointer (some ⟨x.1, 0, none⟩)) (by decide) hs (x_move rfl ((hb.old 1 (by decide +kernel)).trans h1)) rfl⟩
    refine ⟨?_, ?_⟩
    · intro a' w' k' hb hf hs hc hq hg hd
      exact ⟨wantedN rfl, k_val (.pointer (some ⟨x.1, 0, none⟩)) (by decide) hs (x_nilCheck rfl (hd 8 (by kernel_rfl) 14 rfl)) rfl⟩
    refine ⟨?_, ?_⟩
    · intro a' w' k' hb hf hs hc hq hg hd
      exact ⟨wantedN rfl, k_val (.pointer (some ⟨x.1, 1, none⟩)) (by decide) hs (x_field (of := 0) (off := 1) (fa94_1 x.1 0) rfl (hd 9 (by kernel_rfl) 15 rfl)) rfl⟩
    refine ⟨?_, ?_⟩
    · intro a' w' k' hb hf hs hc hq hg hd
      have hF0 : Fr (fun _ => False) w w' := hs.1 (by have := hq 0 12 rfl (waits (by kernel_rfl)); omega); exact ⟨wantedN rfl, k_val (pv) (by decide) hs (x_load1 ld37 rfl (hd 10 (by kernel_rfl) 16 rfl) (((unhide HP).kept hF0 id (fun _ e => e.elim)).cells.2.1)) rfl⟩
    refine ⟨?_, ?_⟩
    · intro a' w' k' hb hf hs hc hq hg hd
      obtain rfl := hc 0 rfl; have hF0 : Fr (fun _ => False) w w' := hs.1 (by omega); have hP0 := (unhide HP).kept hF0 id (fun _ e => e.elim); exact ⟨wantedN rfl, k_callC 68 _ (by decide) (e_call3 rfl rfl (hd 3 (by kernel_rfl) 9 rfl) (hd 7 (by kernel_rfl) 13 rfl) (hd 11 (by kernel_rfl) 17 rfl) (fun _ _ => by simp [go_sem])) ((hwriteG_any w' g dv lg vs m x.2.b (unhide HBB) pv x.2.P hP0.2.1 (unhide HLN) (fun k hk e => by have e5 := hP0.2.2.1 k hk; rw [e, knd_cells ((unhide HH).kept0 hF0).heap] at e5; exact absurd e5 (by decide)) ((unhide HH).kept0 hF0) (unhide HC)).mono (fun e W h => ⟨_, h.1, rfl, h.2.2, ⟨fun e => by omega, fun _ => wh_pre hF0 h.2⟩⟩))⟩
    refine ⟨?_, ?_⟩
    · intro a' w' k' hb hf hs hc hq hg hd
      exact ⟨wantedN rfl, k_val (.int .i64 (whE m)) (by decide) hs (x_assign rfl (hd 12 (by kernel_rfl) 18 rfl)) rfl⟩
    exact trivial
  case done =>
    intro a' w6 hb hf hs hall
    have hdf' : a'.defers = [] := by rw [hb.defers]; exact hdf
    obtain ⟨v6, hv6⟩ : ∃ v, a'.tmps.getD 6 undef = v := ⟨_, rfl⟩
    obtain ⟨v7, hv7⟩ : ∃ v, a'.tmps.getD 7 undef = v := ⟨_, rfl⟩
    obtain ⟨v8, hv8⟩ : ∃ v, a'.tmps.getD 8 undef = v := ⟨_, rfl⟩
    obtain ⟨v9, hv9⟩ : ∃ v, a'.tmps.getD 9 undef = v := ⟨_, rfl⟩
    obtain ⟨v10, hv10⟩ : ∃ v, a'.tmps.getD 10 undef = v := ⟨_, rfl⟩
    obtain ⟨v11, hv11⟩ : ∃ v, a'.tmps.getD 11 undef = v := ⟨_, rfl⟩
    obtain ⟨v12, hv12⟩ : ∃ v, a'.tmps.getD 12 undef = v := ⟨_, rfl⟩
    obtain ⟨v13, hv13⟩ : ∃ v, a'.tmps.getD 13 undef = v := ⟨_, rfl⟩
    obtain ⟨v14, hv14⟩ : ∃ v, a'.tmps.getD 14 undef = v := ⟨_, rfl⟩
    obtain ⟨v15, hv15⟩ : ∃ v, a'.tmps.getD 15 undef = v := ⟨_, rfl⟩
    obtain ⟨v16, hv16⟩ : ∃ v, a'.tmps.getD 16 undef = v := ⟨_, rfl⟩
    obtain ⟨v17, hv17⟩ : ∃ v, a'.tmps.getD 17 undef = v := ⟨_, rfl⟩
    obtain ⟨v18, hv18⟩ : ∃ v, a'.tmps.getD 18 undef = v := ⟨_, rfl⟩
    have hfr := frame_eq (a := a') (vs := [.pointer (some ⟨q, 0, none⟩), .pointer (some ⟨x.1, 0, none⟩), a0.tmps.getD 2 undef, a0.tmps.getD 3 undef, a0.tmps.getD 4 undef, .int .i64 (whE m), v6, v7, v8, v9, v10, v11, v12, v13, v14, v15, v16, v17, v18, a0.tmps.getD 19 undef, a0.tmps.getD 20 undef, a0.tmps.getD 21 undef, a0.tmps.getD 22 undef, a0.tmps.getD 23 undef, a0.tmps.getD 24 undef, a0.tmps.getD 25 undef, a0.tmps.getD 26 undef, a0.tmps.getD 27 undef, a0.tmps.getD 28 undef, a0.tmps.getD 29 undef, a0.tmps.getD 30 undef]) (by rw [hb.size, hsz]; rfl) hdf' ⟨((hb.old 0 (by decide +kernel)).trans h0), ((hb.old 1 (by decide +kernel)).trans h1), (hb.old 2 (by decide +kernel)), (hb.old 3 (by decide +kernel)), (hb.old 4 (by decide +kernel)), (show a'.tmps.getD 5 undef = .int .i64 (whE m) from hall 13 (by decide) 5 rfl), hv6, hv7, hv8, hv9, hv10, hv11, hv12, hv13, hv14, hv15, hv16, hv17, hv18, (hb.old 19 (by decide +kernel)), (hb.old 20 (by decide +kernel)), (hb.old 21 (by decide +kernel)), (hb.old 22 (by decide +kernel)), (hb.old 23 (by decide +kernel)), (hb.old 24 (by decide +kernel)), (hb.old 25 (by decide +kernel)), (hb.old 26 (by decide +kernel)), (hb.old 27 (by decide +kernel)), (hb.old 28 (by decide +kernel)), (hb.old 29 (by decide +kernel)), (hb.old 30 (by decide +kernel)), trivial⟩
    have HST : Hid (WHG w g dv lg (m.wr x.2.b x.2.P) w6) := hide (hs.2 rfl)
    clear hall hb hf hs hv6 hv7 hv8 hv9 hv10 hv11 hv12 hv13 hv14 hv15 hv16 hv17 hv18
    subst hfr
    clear HA0 h0 h1 hsz hdf hdf'
    apply_assumption
    obtain ⟨⟨lg6, vs6, hH6, hl6⟩, f6⟩ := unhide HST
    have hC6 := Dd.home (unhide HD) (unhide HH) hH6 hl6 f6
    rcases hfa : m.fa with _ | _
    · have HFA := hide hfa
      have hE : whE m = 0 := by unfold whE; rw [hfa]; rfl
      have hcl : clP m x.2 = { x.2 with dirty := false } := by unfold clP; rw [hfa]; rfl
      obtain ⟨pv6, hp6⟩ := hC6.d.pl x (by simp)
      have f9 : Fr (fun k => k = x.1) w6 (((w6.setCell ⟨x.1, 2, none⟩ (.bool false)).setCell ⟨x.1, 3, none⟩ (.int .u64 0)).setCell ⟨x.1, 4, none⟩ (.int .u64 0)) := (((Fr.refl (fun k => k = x.1) w6).setCell (p := ⟨x.1, 2, none⟩) (fun _ => rfl) _).setCell (p := ⟨x.1, 3, none⟩) (fun _ => rfl) _).setCell (p := ⟨x.1, 4, none⟩) (fun _ => rfl) _
      have hp9 : PAt (((w6.setCell ⟨x.1, 2, none⟩ (.bool false)).setCell ⟨x.1, 3, none⟩ (.int .u64 0)).setCell ⟨x.1, 4, none⟩ (.int .u64 0)) x.1 pv6 { x.2 with dirty := false } := by
        have hk6 : knd w6 x.1 = 94 := knd_cells hp6.1
        have hb9 := hp6.2.1.kept f9 (fun k hk e => by have := hp6.2.2.1 k hk; rw [show k = x.1 from e, hk6] at this; exact absurd this (by decide))
        have h2 := heap_setCell_same w6 x.1 2 _ 94 (.bool false) hp6.1
        have h3 := heap_setCell_same _ x.1 3 _ 94 (.int .u64 0) h2
        have h4 := heap_setCell_same _ x.1 4 _ 94 (.int .u64 0) h3
        refine ⟨?_, hb9, fun k hk => ?_, hp6.2.2.2⟩
        · rw [h4]; simp [fz, lz]
        · have e5 := hp6.2.2.1 k hk
          have hl : k < w6.heap.size := knd_lt (by rw [e5]; decide)
          unfold knd at *
          rw [f9.block k hl (fun e => by rw [show k = x.1 from e] at e5; rw [e5] at hk6; exact absurd hk6 (by decide))]
          exact e5
      have hD9 := (hC6.trans (Dd.turn hC6.d hC6.hh f9 ⟨pv6, hp9⟩ ⟨(unhide HOK).len, (unhide HOK).b, (unhide HOK).first, (unhide HOK).last, (unhide HOK).pins⟩))
      rw [← hcl] at hD9
      have HD9 := hide hD9
      obtain ⟨-, -, d2, d3, d4, -⟩ := hp6.cells
      have z2 := frozen_of_heap hp6.1 2
      have z3 := frozen_of_heap hp6.1 3
      have z4 := frozen_of_heap hp6.1 4
      rw [hE]
      clear hD9 hC6 hp6 f9 hp9 hH6 hl6 f6 HST hfa hE hcl
      go_wp2_with fail
      go_ret
      exact ⟨by unfold whE; rw [unhide HFA]; rfl, lg6, vs6, unhide HD9⟩
    · have HFA := hide hfa
      have hE : whE m = 77 := by unfold whE; rw [hfa]; rfl
      have hcl : clP m x.2 = x.2 := by unfold clP; rw [hfa]; rfl
      rw [hE]
      have HD9 : Hid (Dd w w6 q g dv lg lv (R1 ++ x :: R2) lg6 vs6 lv (R1 ++ (x.1, clP m x.2) :: R2) c (m.wr x.2.b x.2.P)) := hide (by rw [show (x.1, clP m x.2) = x by rw [hcl]]; exact hC6)
      clear hC6 hH6 hl6 f6 HST hfa hE hcl
      go_wp2_with fail
      go_ret
      exact ⟨by unfold whE; rw [unhide HFA]; rfl, lg6, vs6, unhide HD9⟩
end
end Go.Proofs.Ytdgmlopaeonacaa
