/-
  The home's Write, Flush.
-/
import Derived.Test.YtdgmlopaeonacaaA6
namespace Go.Proofs.Ytdgmlopaeonacaa
open Go.RowKit
set_option linter.unusedVariables false

attribute [local go_sem ↓] Go.wp_at_zero Go.wp_at_succ

theorem owns_set {w : World} {e : TypeId} {g n cap : Nat} {xs : List Value} (h : w.ownsRow 0 e 1 (.slice (some ⟨g, 0, none⟩) n cap) n xs) (t : Nat) (ht : t < n) (u : Value) :
    (w.setCell ⟨g, t, none⟩ u).ownsRow 0 e 1 (.slice (some ⟨g, 0, none⟩) n cap) n (xs.set t u) ∧ w.cell? ⟨g, t, none⟩ = xs[t]? ∧ w.frozen? ⟨g, t, none⟩ = false := by
  obtain ⟨h1, h2⟩ := h
  rcases h2 with ⟨hv, -⟩ | ⟨g', cap', cur, hv, hb, hh, hn, hm, hs, hx⟩
  · simp at hv
  · simp only [Value.slice.injEq, Option.some.injEq, Addr.mk.injEq] at hv
    obtain ⟨⟨rfl, -, -⟩, -, rfl⟩ := hv
    refine ⟨⟨by simpa using h1, .inr ⟨g, cap, cur.setIfInBounds t u, rfl, hb, heap_setCell_same w g t cur e u hh, hn, hm, by simpa using hs, ?_⟩⟩, ?_, frozen_of_heap hh t⟩
    · rw [Array.toList_setIfInBounds, List.take_set, hx]
    · rw [cell_of_heap hh, ← hx, List.getElem?_take_of_lt (by omega), Array.getElem?_toList]

theorem Try.info3 : (Try.prog.info? 3).map (fun i => (i.zero, i.size, i.bytes)) = some (some (.int .i64 0), 1, 8) := by kernel_rfl
theorem Try.info37 : (Try.prog.info? 37).map (fun i => (i.zero, i.size, i.bytes)) = some (some (.slice none 0 0), 1, 24) := by kernel_rfl

/-- A block is written home. -/
def Hm.put (m : Hm) (i : Nat) (l : List UInt8) : Hm := { m with D := m.D.set i l, log := m.log ++ [(i : Int)], calls := m.calls + 1 }
def fillL (l : List UInt8) (j : Nat) : List UInt8 := l.take j ++ List.replicate (384 - j) 0
theorem fillL_succ (l : List UInt8) (j : Nat) (hl : l.length = 384) (hj : j < 384) : (fillL l j).set j (l[j]'(by omega)) = fillL l (j + 1) := by
  unfold fillL
  have hr : List.replicate (384 - j) (0 : UInt8) = 0 :: List.replicate (384 - (j + 1)) 0 := by
    rw [show 384 - j = (384 - (j + 1)) + 1 by omega, List.replicate_succ]
  rw [List.set_append_right _ _ (by simp; omega), hr]
  have : j - (l.take j).length = 0 := by simp; omega
  rw [this, List.set_cons_zero, List.take_succ_eq_append_getElem (by omega), List.append_assoc]
  rfl
theorem fillL_end (l : List UInt8) (hl : l.length = 384) : fillL l 384 = l := by unfold fillL; simp [List.take_of_length_le (show l.length ≤ 384 by omega)]
theorem fillL_length (l : List UInt8) (j : Nat) (hl : l.length = 384) (hj : j ≤ 384) : (fillL l j).length = 384 := by unfold fillL; simp; omega

section
variable (w : World) (h : Nat) (dv lv : Value) (vs : List Value) (m : Hm)

theorem hwrite_no (i : Nat) (v : Value) (hfa : m.fa = true) (H : HAt w h dv lv vs m) (hc : m.calls < 1000000000) : Calls Try.prog 68 #[ptr h, .int .i64 (i : Int), v] w fun e w' => e = .returned (.int .i64 77) ∧ HAt w' h dv lv vs m.one ∧ Fr (fun k => k = h) w w' := by
  have HF := hide (fails_any w h dv lv vs m H hc)
  clear H hc
  unfold ptr at *
  rw [hfa] at HF
  go_enter Try.func68, Try.ntmps68
  go_wp2_with fail
  refine (unhide HF).mono ?_
  rintro e w1 ⟨rfl, H1, f1⟩
  have HH := hide H1
  have F1 := hide f1
  clear H1 f1 HF
  go_wp2_with fail
  go_ret
  exact ⟨rfl, unhide HH, unhide F1⟩

set_option maxRecDepth 100000 in
set_option maxHeartbeats 1000000 in
theorem hwrite_ok (i : Nat) (hi : i < m.D.length) (v : Value) (l : List UInt8) (hv : Rd w v l) (hl : l.length = 384) (hvh : ∀ b, v.ownBlock = some b → b ≠ h) (hfa : m.fa = false) (H : HAt w h dv lv vs m) (hc : m.calls < 1000000000) : Calls Try.prog 68 #[ptr h, .int .i64 (i : Int), v] w fun e w' => e = .returned (.int .i64 0) ∧ (∃ lv' vs', HAt w' h dv lv' vs' (m.put i l) ∧ ∀ b, lv'.ownBlock = some b → lv.ownBlock = some b ∨ w.heap.size ≤ b) ∧ Fr (HB h dv lv) w w' := by
  have HF := hide (fails_any w h dv lv vs m H hc)
  have hlog0 := H.ok.log
  clear H
  unfold ptr at *
  rw [hfa] at HF
  obtain ⟨ao, cv, rfl⟩ := hv.shape
  obtain ⟨vb, vo, rfl, -, hvc, hvm, hvcells⟩ := hv.lits (by omega)
  rw [hl] at hv hvc ⊢
  have HV := hide hv
  have HVH := hide (hvh vb rfl)
  clear hv hvh hvcells
  go_enter Try.func68, Try.ntmps68
  go_wp2_with fail
  refine (unhide HF).mono ?_
  rintro e w1 ⟨rfl, H1, f1⟩
  obtain ⟨w2, hmk, hB2, f2⟩ := mk_any w1 384 (by decide)
  obtain ⟨gq, hgq⟩ : ∃ g, g = w1.heap.size := ⟨_, rfl⟩
  rw [← hgq] at hmk hB2
  have hmk' : (Instr.makeSlice 37 (.int .i64 384) (.int .i64 384)).run Try.prog w1 = .ok (.slice (some ⟨gq, 0, none⟩) 384 384) w2 := hmk
  have HH := hide H1
  have F1 := hide f1
  have F2 := hide f2
  have HB2 := hide hB2
  have HGQ := hide hgq
  have HV2 := hide (((unhide HV).kept f1 (fun b hb e => unhide HVH (by simp [Value.ownBlock] at hb; omega))).kept f2 (fun _ _ h => h))
  have hvq : vb ≠ gq := by
    obtain ⟨b, o, e, -, -, -, hcs⟩ := (unhide HV).lits (by rw [hl]; decide)
    simp only [Option.some.injEq, Addr.mk.injEq] at e
    obtain ⟨rfl, rfl, -⟩ := e
    have h0 := hcs 0 (by rw [hl]; decide)
    have := World.block_lt_of_cell? w _ h0
    have s1 := f1.size
    have : vb < w.heap.size := this
    omega
  clear H1 f1 f2 hB2 hmk hgq HF HV HVH
  go_wp2_with fail
  go_loopw [8] (fun y W => ∃ j : Nat, j ≤ 384 ∧ y = .int .i64 (j : Int) ∧ BAt W gq (fillL l j) ∧ Fr (fun k => k = gq) w2 W) (fun y _ => 384 - (intOf y).toNat)
  case atStart => exact ⟨0, by omega, rfl, by simpa [fillL] using unhide HB2, Fr.refl _ _⟩
  case round =>
    obtain ⟨j, hj, rfl, hB, hf⟩ := hrel
    by_cases hlt : j < 384
    · obtain ⟨b, o, e, -, -, -, hcs⟩ := ((unhide HV2).kept hf (fun b hb e => hvq (by simp [Value.ownBlock] at hb; omega))).lits (by rw [hl]; exact Nat.lt_of_le_of_lt (Nat.zero_le _) hlt)
      simp only [Option.some.injEq, Addr.mk.injEq] at e
      obtain ⟨rfl, rfl, -⟩ := e
      have y1 := hcs j (by rw [hl]; exact hlt)
      have y2 := hB.cell j (by rw [fillL_length l j hl hj]; exact hlt)
      have z2 := hB.frozen j
      have HS := hide (hB.set j (l[j]'(by rw [hl]; exact hlt)))
      rw [fillL_succ l j hl hlt] at HS
      have HFF := hide (hf.setCell (p := ⟨gq, j, none⟩) (fun _ => rfl) (.int .u8 (((l[j]'(by rw [hl]; exact hlt)).toNat : Nat) : Int)))
      have bl : decide ((j : Int) < 384) = true := by simp; omega
      have hjc : j < cv := by omega
      generalize (fillL l j)[j]'(by rw [fillL_length l j hl hj]; exact hlt) = oc at y2
      generalize l[j]'(by rw [hl]; exact hlt) = lj at *
      clear hcs hB hf
      go_wp2_with fail
      go_roundw
      case rel => exact ⟨j + 1, by omega, by go_num, unhide HS, unhide HFF⟩
      case measure => simp [intOf]; omega
    · obtain rfl : j = 384 := by omega
      rw [fillL_end l hl] at hB
      have fW := (unhide F2).trans hf (fun k hk e => by have := unhide HGQ; omega)
      have HW := (unhide HH).kept0 fW
      obtain ⟨g, c, cur, hdv, hnc, hcm, hg, hcs, hcells⟩ := owns_at HW.data (by show 0 < m.D.length; omega)
      subst hdv
      have c0 := cell_of_heap HW.heap 0
      simp at c0
      change _ = some (Value.slice (some ⟨g, 0, none⟩) m.D.length c) at c0
      obtain ⟨hO2, ci, zi⟩ := owns_set HW.data i hi (.slice (some ⟨gq, 0, none⟩) 384 384)
      obtain ⟨b0, hvb, -⟩ := HW.rd i hi
      rw [hvb] at ci
      have hlt2 : (i : Int) < (m.D.length : Int) := by omega
      have hic : i < c := by have : m.D.length ≤ c := hnc; omega
      have hgh : g ≠ h := fun e => by subst e; have := knd_cells hg; rw [knd_cells HW.heap] at this; exact absurd this (by decide)
      have hgl : lv.ownBlock ≠ some g := fun e => by have := knd_owns HW.log e; rw [knd_cells hg] at this; exact absurd this (by decide)
      have hhl : lv.ownBlock ≠ some h := fun e => by have := knd_owns HW.log e; rw [knd_cells HW.heap] at this; exact absurd this (by decide)
      have HO2 := hide hO2
      have HWW := hide HW
      have HBq := hide hB
      have FW := hide fW
      have HCG := hide hg
      clear hO2 HW hB fW hf hg hcs hcells hvb HH HB2 HV2 F2
      obtain ⟨w3, hw3⟩ : ∃ w3, w3 = wr.setCell ⟨g, i, none⟩ (.slice (some ⟨gq, 0, none⟩) 384 384) := ⟨_, rfl⟩
      have f3 : Fr (fun k => k = g) wr w3 := by rw [hw3]; exact (Fr.refl (fun k => k = g) wr).setCell (p := ⟨g, i, none⟩) (fun _ => rfl) _
      have HO3 : Hid (w3.ownsRow 0 37 1 (.slice (some ⟨g, 0, none⟩) m.D.length c) m.D.length (vs.set i (.slice (some ⟨gq, 0, none⟩) 384 384))) := hide (by rw [hw3]; exact unhide HO2)
      have hh3 : w3.heap[h]? = some (.cells #[.slice (some ⟨g, 0, none⟩) m.D.length c, lv, .int .i64 ((m.calls + 1 : Nat) : Int), .int .i64 (m.bad : Int), .int .i64 (m.long : Int)] 51 (0, 0)) := by
        rw [f3.block h (lt_of_heap (unhide HWW).heap) (fun e => hgh e.symm)]
        exact (unhide HWW).heap
      have hl3 : w3.ownsRow 0 3 1 lv m.log.length (ivs m.log) := owns_kept (unhide HWW).log f3 (fun k hk e => hgl (by rw [← e]; exact hk))
      obtain ⟨lo, lc, rfl⟩ := owns_shape hl3
      have d1 := cell_of_heap hh3 1
      simp at d1
      have z1 := frozen_of_heap hh3 1
      obtain ⟨inf, hi0, hz0, hz1, hz2⟩ := info_parts Try.info3
      have hll : m.log.length ≤ 1000000000 := by have := (unhide HWW).ok.log; have h2 : m.log.length ≤ m.calls + 1 := this; omega
      have HL3 := hide hl3
      have HH3 := hide hh3
      have F3 := hide f3
      have hhs := lt_of_heap hh3
      have d1a := (((Fr.refl (fun _ => False) w3).alloc (.cells #[.int .i64 (i : Int)] 3)).cell (a := ⟨h, 1, none⟩) hhs id).trans d1
      have z1a := (((Fr.refl (fun _ => False) w3).alloc (.cells #[.int .i64 (i : Int)] 3)).frozen (a := ⟨h, 1, none⟩) hhs id).trans z1
      have HSZ : Hid (w3.heap.size = wr.heap.size) := hide (by rw [hw3]; simp [World.setCell])
      clear hl3 hh3 f3 HO2 z1
      have SR1 : Hid (Sr (w3.alloc (Obj.cells #[.int .i64 (i : Int)] 3)) 1 (.slice (some ⟨wr.heap.size, 0, none⟩) 1 1) 1 [.int .i64 (i : Int)]) := hide (by have := one_cellV w3 (.int .i64 (i : Int)) 3; rw [unhide HSZ] at this; exact this)
      have OW1 := hide ((unhide HL3).alloc (Obj.cells #[.int .i64 (i : Int)] 3))
      subst hw3
      go_wp2_with (at_builtin; refine wpList_app rfl (.tmp 42) (.tmp 44) 49 rfl 3 inf _ 1 8 Try.underlying49 hi0 hz0 hz1 hz2 rfl (by decide) (.slice lo m.log.length lc) m.log.length (ivs m.log) rfl (.slice (some ⟨wr.heap.size, 0, none⟩) 1 1) rfl 1 [.int .i64 (i : Int)] (unhide OW1) (unhide SR1) (fun u hu => by simp at hu; subst hu; rfl) (by omega) (by simp only [maxLen]; omega) ?_)
      intro ao4 ac4 w4 o4 g4 p4
      have f4 : Fr (fun k => (Value.slice lo m.log.length lc).ownBlock = some k) (wr.setCell ⟨g, i, none⟩ (.slice (some ⟨gq, 0, none⟩) 384 384)) w4 := ((Fr.refl _ _).alloc (.cells #[.int .i64 (i : Int)] 3)).grown g4 (fun k _ e => e)
      have d4 := (f4.cell (a := ⟨h, 1, none⟩) hhs hhl).trans d1
      have z4 := (f4.frozen (a := ⟨h, 1, none⟩) hhs hhl).trans (frozen_of_heap (unhide HH3) 1)
      have h4 := (f4.block h hhs hhl).trans (unhide HH3)
      have HH4 := hide h4
      have F4 := hide f4
      have O4 := hide o4
      have P4 := hide p4
      clear o4 g4 p4 f4 h4 z1a d1a d1
      go_wp2_with fail
      go_ret
      have f5 : Fr (fun k => k = h) w4 (w4.setCell ⟨h, 1, none⟩ (.slice ao4 (m.log.length + 1) ac4)) := (Fr.refl (fun k => k = h) w4).setCell (p := ⟨h, 1, none⟩) (fun _ => rfl) _
      have hlt4 : ∀ k, k < wr.heap.size → k < (wr.setCell ⟨g, i, none⟩ (.slice (some ⟨gq, 0, none⟩) 384 384)).heap.size := fun k hk => by rw [unhide HSZ]; exact hk
      have hBk : ∀ b d, BAt wr b d → BAt (w4.setCell ⟨h, 1, none⟩ (.slice ao4 (m.log.length + 1) ac4)) b d := fun b d hb => by
        have e1 : ¬ b = g := fun e => by subst e; have := knd_cells hb; rw [knd_cells (unhide HCG)] at this; exact absurd this (by decide)
        have e2 : ¬ (Value.slice lo m.log.length lc).ownBlock = some b := fun e => by have := knd_owns (unhide HWW).log e; rw [knd_cells hb] at this; exact absurd this (by decide)
        have e3 : ¬ b = h := fun e => by subst e; have := knd_cells hb; rw [knd_cells (unhide HWW).heap] at this; exact absurd this (by decide)
        exact ((hb.kept (unhide F3) e1).kept (unhide F4) e2).kept f5 e3
      have hok := (unhide HWW).ok
      refine ⟨rfl, ⟨.slice ao4 (m.log.length + 1) ac4, vs.set i (.slice (some ⟨gq, 0, none⟩) 384 384), ⟨?_, ?_, fun i' hi' => ?_, ?_, ?_⟩, ?_⟩, ?_⟩
      · rw [heap_setCell_same w4 h 1 _ 51 _ (unhide HH4)]
        simp [Hm.put, Hm.one]
      · have := owns_kept (owns_kept (unhide HO3) (unhide F4) (fun k hk e => by simp [Value.ownBlock] at hk; subst hk; exact hgl e)) f5 (fun k hk e => by simp [Value.ownBlock] at hk; omega)
        simpa [Hm.put, Hm.one] using this
      · have hi2 : i' < m.D.length := by simpa [Hm.put] using hi'
        by_cases e : i = i'
        · subst e
          refine ⟨gq, ?_, ?_⟩
          · have hvl : i < vs.length := by
              obtain ⟨b, hb, -⟩ := (unhide HWW).rd i hi
              exact (List.getElem?_eq_some_iff.1 hb).1
            simp [hvl]
          · have : (m.put i l).D[i] = l := by simp [Hm.put]
            rw [this]
            exact hBk _ _ (unhide HBq)
        · obtain ⟨b, hb, hB⟩ := (unhide HWW).rd i' hi2
          refine ⟨b, by rw [List.getElem?_set_ne e]; exact hb, ?_⟩
          have : (m.put i l).D[i'] = m.D[i'] := by simp [Hm.put, List.getElem_set_ne e]
          rw [this]
          exact hBk _ _ hB
      · have := owns_kept (unhide O4) f5 (fun k hk e => by
          subst e
          rcases unhide P4 with e | ⟨k', e, hk'⟩
          · rw [e] at hk; exact hhl hk
          · rw [e] at hk
            simp at hk
            have h1 := lt_of_heap (unhide HWW).heap
            omega)
        simpa [Hm.put, ivs] using this
      · refine ⟨by simpa [Hm.put, Hm.one] using hok.len, fun d hd => ?_, by simp only [Hm.put, List.length_append, List.length_singleton]; exact Nat.succ_le_succ hlog0, hok.bad, hok.long, by simp only [Hm.put]; omega⟩
        have hd' : d ∈ m.D.set i l := hd
        rcases List.mem_or_eq_of_mem_set hd' with h | h
        · exact hok.all d h
        · rw [h]; exact hl
      · intro b hb
        rcases unhide P4 with e | ⟨k', e, hk'⟩
        · rw [e] at hb; exact .inl hb
        · rw [e] at hb
          simp at hb
          have h1 := (unhide F1).size
          have h2 := (unhide FW).size
          right; omega
      · have a1 : Fr (HB h (.slice (some ⟨g, 0, none⟩) m.one.D.length c) (.slice lo m.log.length lc)) w w1 := (unhide F1).mono (fun _ _ e => .inl e)
        have a2 := a1.trans (unhide FW) (fun _ _ e => e.elim)
        have a3 := a2.trans (unhide F3) (fun k _ e => .inr (.inl (by rw [e]; rfl)))
        have a4 := a3.trans (unhide F4) (fun k _ e => .inr (.inr e))
        exact a4.trans f5 (fun k _ e => .inl e)

theorem hflush_any (H : HAt w h dv lv vs m) (hc : m.calls < 1000000000) : Calls Try.prog 58 #[ptr h] w fun e w' => e = .returned (.int .i64 (if m.fa = true then 77 else 0)) ∧ HAt w' h dv lv vs m.one ∧ Fr (fun k => k = h) w w' := by
  have HF := hide (fails_any w h dv lv vs m H hc)
  clear H hc
  unfold ptr at *
  rcases hfa : m.fa with _ | _
  · rw [hfa] at HF
    go_enter Try.func58, Try.ntmps58
    go_wp2_with fail
    refine (unhide HF).mono ?_
    rintro e w1 ⟨rfl, H1, f1⟩
    have HH := hide H1
    have F1 := hide f1
    clear H1 f1 HF
    go_wp2_with fail
    go_ret
    exact ⟨rfl, unhide HH, unhide F1⟩
  · rw [hfa] at HF
    go_enter Try.func58, Try.ntmps58
    go_wp2_with fail
    refine (unhide HF).mono ?_
    rintro e w1 ⟨rfl, H1, f1⟩
    have HH := hide H1
    have F1 := hide f1
    clear H1 f1 HF
    go_wp2_with fail
    go_ret
    exact ⟨rfl, unhide HH, unhide F1⟩
end
end Go.Proofs.Ytdgmlopaeonacaa
