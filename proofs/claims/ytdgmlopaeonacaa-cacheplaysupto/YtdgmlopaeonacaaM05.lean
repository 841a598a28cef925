/-
  The home's Write, Flush.
  The cache in memory; what only asks it.
  The cache's use, forget, take.
-/
import Derived.Test.YtdgmlopaeonacaaM04
namespace Go.Proofs.Ytdgmlopaeonacaa
set_option linter.unusedVariables false
set_option linter.unusedSimpArgs false
open Go.RowKit
set_option linter.unusedVariables false

attribute [local go_sem ↓] Go.wp_at_zero Go.wp_at_succ

theorem owns_set {w : World} {e : TypeId} {g n cap : Nat} {xs : List Value} (h : w.ownsRow 0 e 1 (.slice (some ⟨g, 0, none⟩) n cap) n xs) (t : Nat) (ht : t < n) (u : Value) :
    (w.setCell ⟨g, t, none⟩ u).ownsRow 0 e 1 (.slice (some ⟨g, 0, none⟩) n cap) n (xs.set t u) ∧ w.cell? ⟨g, t, none⟩ = xs[t]? ∧ w.frozen? ⟨g, t, none⟩ = false := by
  obtain ⟨h1, h2⟩ := h
  rcases h2 with ⟨hv, -⟩ | ⟨g', cap', cur, hv, hb, hh, hn, hm, hs, hx⟩
  · simp at hv
  · simp only [Value.slice.injEq, Option.some.injEq, Addr.mk.injEq] at hv
    obtain ⟨⟨rfl, -, -⟩, -, rfl⟩ := hv
    refine ⟨⟨by simpa using h1, .inr ⟨g, cap, cur.setIfInBounds t u, rfl, hb, heap_setCell_same w g t cur e u hh, hn, hm, by simpa using hs, ?_⟩⟩, ?_, frozen_of_heap hh t⟩
    · rw [Array.toList_setIfInBounds, List.take_set, hx]
    · rw [cell_of_heap hh, ← hx, List.getElem?_take_of_lt (by omega), Array.getElem?_toList]

theorem Try.info3 : (Try.prog.info? 3).map (fun i => (i.zero, i.size, i.bytes)) = some (some (.int .i64 0), 1, 8) := by kernel_rfl
theorem Try.info37 : (Try.prog.info? 37).map (fun i => (i.zero, i.size, i.bytes)) = some (some (.slice none 0 0), 1, 24) := by kernel_rfl

/-- A block is written home. -/
def Hm.put (m : Hm) (i : Nat) (l : List UInt8) : Hm := { m with D := m.D.set i l, log := m.log ++ [(i : Int)], calls := m.calls + 1 }
def fillL (l : List UInt8) (j : Nat) : List UInt8 := l.take j ++ List.replicate (384 - j) 0
theorem fillL_succ (l : List UInt8) (j : Nat) (hl : l.length = 384) (hj : j < 384) : (fillL l j).set j (l[j]'(by omega)) = fillL l (j + 1) := by
  unfold fillL
  have hr : List.replicate (384 - j) (0 : UInt8) = 0 :: List.replicate (384 - (j + 1)) 0 := by
    rw [show 384 - j = (384 - (j + 1)) + 1 by omega, List.replicate_succ]
  rw [List.set_append_right _ _ (by simp; omega), hr]
  have : j - (l.take j).length = 0 := by simp; omega
  rw [this, List.set_cons_zero, List.take_succ_eq_append_getElem (by omega), List.append_assoc]
  rfl
theorem fillL_end (l : List UInt8) (hl : l.length = 384) : fillL l 384 = l := by unfold fillL; simp [List.take_of_length_le (show l.length ≤ 384 by omega)]
theorem fillL_length (l : List UInt8) (j : Nat) (hl : l.length = 384) (hj : j ≤ 384) : (fillL l j).length = 384 := by unfold fillL; simp; omega

section
variable (w : World) (h : Nat) (dv lv : Value) (vs : List Value) (m : Hm)

theorem hwrite_no [Av] (i : Nat) (v : Value) (hfa : m.fa = true) (H : HAt w h dv lv vs m) (hc : m.calls < 1000000000) : Calls Try.prog 68 #[ptr h, .int .i64 (i : Int), v] w fun e w' => e = .returned (.int .i64 77) ∧ HAt w' h dv lv vs m.one ∧ Fr (fun k => k = h) w w' := by
  have HF := hide (fails_any w h dv lv vs m H hc)
  clear H hc
  unfold ptr at *
  rw [hfa] at HF
  go_enter Try.func68, Try.ntmps68
  go_wp2_with fail
  refine (unhide HF).mono ?_
  rintro e w1 ⟨rfl, H1, f1⟩
  have HH := hide H1
  have F1 := hide f1
  clear H1 f1 HF
  go_wp2_with fail
  go_ret
  exact ⟨rfl, unhide HH, unhide F1⟩

set_option maxRecDepth 100000 in
set_option maxHeartbeats 1000000 in
theorem hwrite_ok [Av] (i : Nat) (hi : i < m.D.length) (v : Value) (l : List UInt8) (hv : Rd w v l) (hl : l.length = 384) (hvh : ∀ b, v.ownBlock = some b → b ≠ h) (hfa : m.fa = false) (H : HAt w h dv lv vs m) (hc : m.calls < 1000000000) : Calls Try.prog 68 #[ptr h, .int .i64 (i : Int), v] w fun e w' => e = .returned (.int .i64 0) ∧ (∃ lv' vs', HAt w' h dv lv' vs' (m.put i l) ∧ ∀ b, lv'.ownBlock = some b → lv.ownBlock = some b ∨ w.heap.size ≤ b) ∧ Fr (HB h dv lv) w w' := by
  have HF := hide (fails_any w h dv lv vs m H hc)
  have hlog0 := H.ok.log
  clear H
  unfold ptr at *
  rw [hfa] at HF
  obtain ⟨ao, cv, rfl⟩ := hv.shape
  obtain ⟨vb, vo, rfl, -, hvc, hvm, hvcells⟩ := hv.lits (by omega)
  rw [hl] at hv hvc ⊢
  have HV := hide hv
  have HVH := hide (hvh vb rfl)
  clear hv hvh hvcells
  go_enter Try.func68, Try.ntmps68
  go_wp2_with fail
  refine (unhide HF).mono ?_
  rintro e w1 ⟨rfl, H1, f1⟩
  obtain ⟨w2, hmk, hB2, f2⟩ := mk_any w1 384 (by decide)
  obtain ⟨gq, hgq⟩ : ∃ g, g = w1.heap.size := ⟨_, rfl⟩
  rw [← hgq] at hmk hB2
  have hmk' : (Instr.makeSlice 37 (.int .i64 384) (.int .i64 384)).run Try.prog w1 = .ok (.slice (some ⟨gq, 0, none⟩) 384 384) w2 := hmk
  have HH := hide H1
  have F1 := hide f1
  have F2 := hide f2
  have HB2 := hide hB2
  have HGQ := hide hgq
  have HZ : Hid (∀ z, Av.z = some z → z < gq) := hide (fun z hz => by rw [hgq]; exact H1.old z hz)
  have HV2 := hide (((unhide HV).kept f1 (fun b hb e => unhide HVH (by simp [Value.ownBlock] at hb; omega))).kept f2 (fun _ _ h => h))
  have hvq : vb ≠ gq := by
    obtain ⟨b, o, e, -, -, -, hcs⟩ := (unhide HV).lits (by rw [hl]; decide)
    simp only [Option.some.injEq, Addr.mk.injEq] at e
    obtain ⟨rfl, rfl, -⟩ := e
    have h0 := hcs 0 (by rw [hl]; decide)
    have := World.block_lt_of_cell? w _ h0
    have s1 := f1.size
    have : vb < w.heap.size := this
    omega
  clear H1 f1 f2 hB2 hmk hgq HF HV HVH
  go_wp2_with fail
  go_loopw [8] (fun y W => ∃ j : Nat, j ≤ 384 ∧ y = .int .i64 (j : Int) ∧ BAt W gq (fillL l j) ∧ Fr (fun k => k = gq) w2 W) (fun y _ => 384 - (intOf y).toNat)
  case atStart => exact ⟨0, by omega, rfl, by simpa [fillL] using unhide HB2, Fr.refl _ _⟩
  case round =>
    obtain ⟨j, hj, rfl, hB, hf⟩ := hrel
    by_cases hlt : j < 384
    · obtain ⟨b, o, e, -, -, -, hcs⟩ := ((unhide HV2).kept hf (fun b hb e => hvq (by simp [Value.ownBlock] at hb; omega))).lits (by rw [hl]; exact Nat.lt_of_le_of_lt (Nat.zero_le _) hlt)
      simp only [Option.some.injEq, Addr.mk.injEq] at e
      obtain ⟨rfl, rfl, -⟩ := e
      have y1 := hcs j (by rw [hl]; exact hlt)
      have y2 := hB.cell j (by rw [fillL_length l j hl hj]; exact hlt)
      have z2 := hB.frozen j
      have HS := hide (hB.set j (l[j]'(by rw [hl]; exact hlt)))
      rw [fillL_succ l j hl hlt] at HS
      have HFF := hide (hf.setCell (p := ⟨gq, j, none⟩) (fun _ => rfl) (.int .u8 (((l[j]'(by rw [hl]; exact hlt)).toNat : Nat) : Int)))
      have bl : decide ((j : Int) < 384) = true := by simp; omega
      have hjc : j < cv := by omega
      generalize (fillL l j)[j]'(by rw [fillL_length l j hl hj]; exact hlt) = oc at y2
      generalize l[j]'(by rw [hl]; exact hlt) = lj at *
      clear hcs hB hf
      go_wp2_with fail
      go_roundw
      case rel => exact ⟨j + 1, by omega, by go_num, unhide HS, unhide HFF⟩
      case measure => simp [intOf]; omega
    · obtain rfl : j = 384 := by omega
      rw [fillL_end l hl] at hB
      have fW := (unhide F2).trans hf (fun k hk e => by have := unhide HGQ; omega)
      have HW := (unhide HH).kept0 fW
      obtain ⟨g, c, cur, hdv, hnc, hcm, hg, hcs, hcells⟩ := owns_at HW.data (by show 0 < m.D.length; omega)
      subst hdv
      have c0 := cell_of_heap HW.heap 0
      simp at c0
      change _ = some (Value.slice (some ⟨g, 0, none⟩) m.D.length c) at c0
      obtain ⟨hO2, ci, zi⟩ := owns_set HW.data i hi (.slice (some ⟨gq, 0, none⟩) 384 384)
      obtain ⟨b0, hvb, -⟩ := HW.rd i hi
      rw [hvb] at ci
      have hlt2 : (i : Int) < (m.D.length : Int) := by omega
      have hic : i < c := by have : m.D.length ≤ c := hnc; omega
      have hgh : g ≠ h := fun e => by subst e; have := knd_cells hg; rw [knd_cells HW.heap] at this; exact absurd this (by decide)
      have hgl : lv.ownBlock ≠ some g := fun e => by have := knd_owns HW.log e; rw [knd_cells hg] at this; exact absurd this (by decide)
      have hhl : lv.ownBlock ≠ some h := fun e => by have := knd_owns HW.log e; rw [knd_cells HW.heap] at this; exact absurd this (by decide)
      have HO2 := hide hO2
      have HWW := hide HW
      have HBq := hide hB
      have FW := hide fW
      have HCG := hide hg
      clear hO2 HW hB fW hf hg hcs hcells hvb HH HB2 HV2 F2
      obtain ⟨w3, hw3⟩ : ∃ w3, w3 = wr.setCell ⟨g, i, none⟩ (.slice (some ⟨gq, 0, none⟩) 384 384) := ⟨_, rfl⟩
      have f3 : Fr (fun k => k = g) wr w3 := by rw [hw3]; exact (Fr.refl (fun k => k = g) wr).setCell (p := ⟨g, i, none⟩) (fun _ => rfl) _
      have HO3 : Hid (w3.ownsRow 0 37 1 (.slice (some ⟨g, 0, none⟩) m.D.length c) m.D.length (vs.set i (.slice (some ⟨gq, 0, none⟩) 384 384))) := hide (by rw [hw3]; exact unhide HO2)
      have hh3 : w3.heap[h]? = some (.cells #[.slice (some ⟨g, 0, none⟩) m.D.length c, lv, .int .i64 ((m.calls + 1 : Nat) : Int), .int .i64 (m.bad : Int), .int .i64 (m.long : Int)] 51 (0, 0)) := by
        rw [f3.block h (lt_of_heap (unhide HWW).heap) (fun e => hgh e.symm)]
        exact (unhide HWW).heap
      have hl3 : w3.ownsRow 0 3 1 lv m.log.length (ivs m.log) := owns_kept (unhide HWW).log f3 (fun k hk e => hgl (by rw [← e]; exact hk))
      obtain ⟨lo, lc, rfl⟩ := owns_shape hl3
      have d1 := cell_of_heap hh3 1
      simp at d1
      have z1 := frozen_of_heap hh3 1
      obtain ⟨inf, hi0, hz0, hz1, hz2⟩ := info_parts Try.info3
      have hll : m.log.length ≤ 1000000000 := by have := (unhide HWW).ok.log; have h2 : m.log.length ≤ m.calls + 1 := this; omega
      have HL3 := hide hl3
      have HH3 := hide hh3
      have F3 := hide f3
      have hhs := lt_of_heap hh3
      have d1a := (((Fr.refl (fun _ => False) w3).alloc (.cells #[.int .i64 (i : Int)] 3)).cell (a := ⟨h, 1, none⟩) hhs id).trans d1
      have z1a := (((Fr.refl (fun _ => False) w3).alloc (.cells #[.int .i64 (i : Int)] 3)).frozen (a := ⟨h, 1, none⟩) hhs id).trans z1
      have HSZ : Hid (w3.heap.size = wr.heap.size) := hide (by rw [hw3]; simp [World.setCell])
      clear hl3 hh3 f3 HO2 z1
      have SR1 : Hid (Sr (w3.alloc (Obj.cells #[.int .i64 (i : Int)] 3)) 1 (.slice (some ⟨wr.heap.size, 0, none⟩) 1 1) 1 [.int .i64 (i : Int)]) := hide (by have := one_cellV w3 (.int .i64 (i : Int)) 3; rw [unhide HSZ] at this; exact this)
      have OW1 := hide ((unhide HL3).alloc (Obj.cells #[.int .i64 (i : Int)] 3))
      subst hw3
      go_wp2_with (at_builtin; refine wpList_app rfl (.tmp 42) (.tmp 44) 49 rfl 3 inf _ 1 8 Try.underlying49 hi0 hz0 hz1 hz2 rfl (by decide) (.slice lo m.log.length lc) m.log.length (ivs m.log) rfl (.slice (some ⟨wr.heap.size, 0, none⟩) 1 1) rfl 1 [.int .i64 (i : Int)] (unhide OW1) (unhide SR1) (fun u hu => by simp at hu; subst hu; rfl) (by omega) (by simp only [maxLen]; omega) ?_)
      intro ao4 ac4 w4 o4 g4 p4
      have f4 : Fr (fun k => (Value.slice lo m.log.length lc).ownBlock = some k) (wr.setCell ⟨g, i, none⟩ (.slice (some ⟨gq, 0, none⟩) 384 384)) w4 := ((Fr.refl _ _).alloc (.cells #[.int .i64 (i : Int)] 3)).grown g4 (fun k _ e => e)
      have d4 := (f4.cell (a := ⟨h, 1, none⟩) hhs hhl).trans d1
      have z4 := (f4.frozen (a := ⟨h, 1, none⟩) hhs hhl).trans (frozen_of_heap (unhide HH3) 1)
      have h4 := (f4.block h hhs hhl).trans (unhide HH3)
      have HH4 := hide h4
      have F4 := hide f4
      have O4 := hide o4
      have P4 := hide p4
      clear o4 g4 p4 f4 h4 z1a d1a d1
      go_wp2_with fail
      go_ret
      have f5 : Fr (fun k => k = h) w4 (w4.setCell ⟨h, 1, none⟩ (.slice ao4 (m.log.length + 1) ac4)) := (Fr.refl (fun k => k = h) w4).setCell (p := ⟨h, 1, none⟩) (fun _ => rfl) _
      have hlt4 : ∀ k, k < wr.heap.size → k < (wr.setCell ⟨g, i, none⟩ (.slice (some ⟨gq, 0, none⟩) 384 384)).heap.size := fun k hk => by rw [unhide HSZ]; exact hk
      have hBk : ∀ b d, BAt wr b d → BAt (w4.setCell ⟨h, 1, none⟩ (.slice ao4 (m.log.length + 1) ac4)) b d := fun b d hb => by
        have e1 : ¬ b = g := fun e => by subst e; have := knd_cells hb; rw [knd_cells (unhide HCG)] at this; exact absurd this (by decide)
        have e2 : ¬ (Value.slice lo m.log.length lc).ownBlock = some b := fun e => by have := knd_owns (unhide HWW).log e; rw [knd_cells hb] at this; exact absurd this (by decide)
        have e3 : ¬ b = h := fun e => by subst e; have := knd_cells hb; rw [knd_cells (unhide HWW).heap] at this; exact absurd this (by decide)
        exact ((hb.kept (unhide F3) e1).kept (unhide F4) e2).kept f5 e3
      have hok := (unhide HWW).ok
      refine ⟨rfl, ⟨.slice ao4 (m.log.length + 1) ac4, vs.set i (.slice (some ⟨gq, 0, none⟩) 384 384), ⟨?_, ?_, fun i' hi' => ?_, ?_, ?_, fun v9 hv9 b9 hb9 hz9 => (List.mem_or_eq_of_mem_set hv9).elim (fun h9 => (unhide HWW).far v9 h9 b9 hb9 hz9) (fun h9 => by rw [h9] at hb9; simp [Value.ownBlock] at hb9; have := unhide HZ _ hz9; omega), fun z9 hz9 => by have a1 := unhide HZ z9 hz9; have a2 := unhide HGQ; have a3 := (unhide FW).size; have a4 := (unhide F4).size; have a5 := f5.size; have a6 := unhide HSZ; omega⟩, ?_⟩, ?_⟩
      · rw [heap_setCell_same w4 h 1 _ 51 _ (unhide HH4)]
        simp [Hm.put, Hm.one]
      · have := owns_kept (owns_kept (unhide HO3) (unhide F4) (fun k hk e => by simp [Value.ownBlock] at hk; subst hk; exact hgl e)) f5 (fun k hk e => by simp [Value.ownBlock] at hk; omega)
        simpa [Hm.put, Hm.one] using this
      · have hi2 : i' < m.D.length := by simpa [Hm.put] using hi'
        by_cases e : i = i'
        · subst e
          refine ⟨gq, ?_, ?_⟩
          · have hvl : i < vs.length := by
              obtain ⟨b, hb, -⟩ := (unhide HWW).rd i hi
              exact (List.getElem?_eq_some_iff.1 hb).1
            simp [hvl]
          · have : (m.put i l).D[i] = l := by simp [Hm.put]
            rw [this]
            exact hBk _ _ (unhide HBq)
        · obtain ⟨b, hb, hB⟩ := (unhide HWW).rd i' hi2
          refine ⟨b, by rw [List.getElem?_set_ne e]; exact hb, ?_⟩
          have : (m.put i l).D[i'] = m.D[i'] := by simp [Hm.put, List.getElem_set_ne e]
          rw [this]
          exact hBk _ _ hB
      · have := owns_kept (unhide O4) f5 (fun k hk e => by
          subst e
          rcases unhide P4 with e | ⟨k', e, hk'⟩
          · rw [e] at hk; exact hhl hk
          · rw [e] at hk
            simp at hk
            have h1 := lt_of_heap (unhide HWW).heap
            omega)
        simpa [Hm.put, ivs] using this
      · refine ⟨by simpa [Hm.put, Hm.one] using hok.len, fun d hd => ?_, by simp only [Hm.put, List.length_append, List.length_singleton]; exact Nat.succ_le_succ hlog0, hok.bad, hok.long, by simp only [Hm.put]; omega⟩
        have hd' : d ∈ m.D.set i l := hd
        rcases List.mem_or_eq_of_mem_set hd' with h | h
        · exact hok.all d h
        · rw [h]; exact hl
      · intro b hb
        rcases unhide P4 with e | ⟨k', e, hk'⟩
        · rw [e] at hb; exact .inl hb
        · rw [e] at hb
          simp at hb
          have h1 := (unhide F1).size
          have h2 := (unhide FW).size
          right; omega
      · have a1 : Fr (HB h (.slice (some ⟨g, 0, none⟩) m.one.D.length c) (.slice lo m.log.length lc)) w w1 := (unhide F1).mono (fun _ _ e => .inl e)
        have a2 := a1.trans (unhide FW) (fun _ _ e => e.elim)
        have a3 := a2.trans (unhide F3) (fun k _ e => .inr (.inl (by rw [e]; rfl)))
        have a4 := a3.trans (unhide F4) (fun k _ e => .inr (.inr e))
        exact a4.trans f5 (fun k _ e => .inl e)

theorem hflush_any [Av] (H : HAt w h dv lv vs m) (hc : m.calls < 1000000000) : Calls Try.prog 58 #[ptr h] w fun e w' => e = .returned (.int .i64 (if m.fa = true then 77 else 0)) ∧ HAt w' h dv lv vs m.one ∧ Fr (fun k => k = h) w w' := by
  have HF := hide (fails_any w h dv lv vs m H hc)
  clear H hc
  unfold ptr at *
  rcases hfa : m.fa with _ | _
  · rw [hfa] at HF
    go_enter Try.func58, Try.ntmps58
    go_wp2_with fail
    refine (unhide HF).mono ?_
    rintro e w1 ⟨rfl, H1, f1⟩
    have HH := hide H1
    have F1 := hide f1
    clear H1 f1 HF
    go_wp2_with fail
    go_ret
    exact ⟨rfl, unhide HH, unhide F1⟩
  · rw [hfa] at HF
    go_enter Try.func58, Try.ntmps58
    go_wp2_with fail
    refine (unhide HF).mono ?_
    rintro e w1 ⟨rfl, H1, f1⟩
    have HH := hide H1
    have F1 := hide f1
    clear H1 f1 HF
    go_wp2_with fail
    go_ret
    exact ⟨rfl, unhide HH, unhide F1⟩
end
end Go.Proofs.Ytdgmlopaeonacaa

namespace Go.Proofs.Ytdgmlopaeonacaa
set_option linter.unusedVariables false
set_option linter.unusedSimpArgs false
open Go.RowKit
set_option linter.unusedVariables false

attribute [local go_sem ↓] Go.wp_at_zero Go.wp_at_succ

/-- The cache's numbers. -/
structure Ca where
  places : Nat
  safe : Nat
  hit : Nat
  miss : Nat

structure Pl.Ok (x : Pl) : Prop where
  len : x.P.length = 384
  b : 0 ≤ x.b
  first : x.first < 18446744073709551616
  last : x.last < 18446744073709551616
  pins : 0 ≤ x.pins ∧ x.pins ≤ 1000000000

/-- The cache in memory: p the struct, h its home, r the map, u the ring's beginning. -/
structure KAt (w : World) (p h r u : Nat) (L : List (Int × Nat)) (R : List (Nat × Pl)) (c : Ca) : Prop where
  heap : w.heap[p]? = some (.cells #[.iface 25 (ptr h), .int .i64 (c.places : Int), .map (some r), ptr u, .int .u64 (c.safe : Int), .int .i64 (c.hit : Int), .int .i64 (c.miss : Int)] 78 (0, 0))
  ring : Ring w u R
  mp : MAt w r L
  pm : L.Perm (R.map fun q => (q.2.b, q.1))
  ok : ∀ q ∈ R, q.2.Ok
  num : c.hit ≤ 1000000000 ∧ c.miss ≤ 1000000000 ∧ c.safe < 18446744073709551616 ∧ c.places ≤ 4096

def KB (p r u : Nat) (R : List (Nat × Pl)) (k : Nat) : Prop := k = p ∨ k = r ∨ k ∈ u :: adr R

section
variable {w w' : World} {p h r u : Nat} {L : List (Int × Nat)} {R : List (Nat × Pl)} {c : Ca}
theorem Ring.knd (H : Ring w u R) {k : Nat} (hk : k ∈ u :: adr R) : Ytdgmlopaeonacaa.knd w k = 91 := by
  obtain ⟨o, n, y, h1⟩ := H.at hk
  exact knd_cells h1
theorem MAt.knd (H : MAt w r L) : Ytdgmlopaeonacaa.knd w r = 1000 := by
  obtain ⟨⟨es, cl, h1, -⟩, -⟩ := H
  exact knd_map h1
theorem KAt.knds (H : KAt w p h r u L R c) {k : Nat} (hk : KB p r u R k) : knd w k = 78 ∨ knd w k = 1000 ∨ knd w k = 91 := by
  rcases hk with rfl | rfl | hk
  · exact .inl (knd_cells H.heap)
  · exact .inr (.inl H.mp.knd)
  · exact .inr (.inr (H.ring.knd hk))
theorem KAt.kept (H : KAt w p h r u L R c) {S : Nat → Prop} (f : Fr S w w') (hs : ∀ k, S k → knd w k ≠ 78 ∧ knd w k ≠ 1000 ∧ knd w k ≠ 91) : KAt w' p h r u L R c :=
  ⟨by rw [f.block p (lt_of_heap H.heap) (fun e => (hs p e).1 (knd_cells H.heap))]; exact H.heap, H.ring.kept f (fun k hk e => (hs k e).2.2 (H.ring.knd hk)), H.mp.kept f (fun e => (hs r e).2.1 H.mp.knd), H.pm, H.ok, H.num⟩
theorem KAt.kept0 (H : KAt w p h r u L R c) (f : Fr (fun _ => False) w w') : KAt w' p h r u L R c := H.kept f (fun _ e => e.elim)
theorem KAt.len (H : KAt w p h r u L R c) : L.length = R.length := by rw [H.pm.length_eq]; simp
theorem KAt.at (H : KAt w p h r u L R c) {q : Nat × Pl} (hq : q ∈ R) : ∃ o n, NAt w q.1 (ptr o) (ptr n) q.2 := by
  obtain ⟨⟨o, n, h1, -⟩, -⟩ := H.ring
  exact ⟨_, _, h1 q (List.mem_cons_of_mem _ hq)⟩
theorem KAt.look (H : KAt w p h r u L R c) {q : Nat × Pl} (hq : q ∈ R) : (q.2.b, q.1) ∈ L := (H.pm.mem_iff).2 (List.mem_map.2 ⟨q, hq, rfl⟩)
theorem KAt.lookNo (H : KAt w p h r u L R c) {b : Int} (hb : ∀ q ∈ R, q.2.b ≠ b) (a : Nat) : (b, a) ∉ L := fun e => by
  obtain ⟨q, hq, e⟩ := List.mem_map.1 ((H.pm.mem_iff).1 e)
  simp only [Prod.mk.injEq] at e
  exact hb q hq e.1
end

section
variable {w : World} {a : Nat} {o n : Value} {x : Pl}
theorem NAt.set3 (h : NAt w a o n x) (v : Nat) : NAt (w.setCell ⟨a, 3, none⟩ (.int .u64 (v : Int))) a o n { x with first := v } := by
  have := heap_setCell_same w a 3 _ 91 (.int .u64 (v : Int)) h
  unfold NAt
  rw [this, List.setIfInBounds_toArray]; rfl
theorem NAt.set4 (h : NAt w a o n x) (v : Nat) : NAt (w.setCell ⟨a, 4, none⟩ (.int .u64 (v : Int))) a o n { x with last := v } := by
  have := heap_setCell_same w a 4 _ 91 (.int .u64 (v : Int)) h
  unfold NAt
  rw [this, List.setIfInBounds_toArray]; rfl
theorem NAt.set5 (h : NAt w a o n x) (v : Int) : NAt (w.setCell ⟨a, 5, none⟩ (.int .i64 v)) a o n { x with pins := v } := by
  have := heap_setCell_same w a 5 _ 91 (.int .i64 v) h
  unfold NAt
  rw [this, List.setIfInBounds_toArray]; rfl
theorem NAt.set6 (h : NAt w a o n x) (v : Bool) : NAt (w.setCell ⟨a, 6, none⟩ (.bool v)) a o n { x with dirty := v } := by
  have := heap_setCell_same w a 6 _ 91 (.bool v) h
  unfold NAt
  rw [this, List.setIfInBounds_toArray]; rfl
end

/-- What a block holds has turned. -/
theorem KAt.turn {w w' : World} {p h r u : Nat} {L : List (Int × Nat)} {R1 R2 : List (Nat × Pl)} {a : Nat} {x x' : Pl} {c : Ca} (H : KAt w p h r u L (R1 ++ (a, x) :: R2) c) (hb : x'.b = x.b) (ok : x'.Ok) (hn : ∀ o n, NAt w a o n x → NAt w' a o n x') (f : Fr (fun k => k = a) w w') : KAt w' p h r u L (R1 ++ (a, x') :: R2) c := by
  have ha : a ∈ u :: adr (R1 ++ (a, x) :: R2) := by simp [adr]
  have hk := H.ring.knd ha
  have hadr : adr (R1 ++ (a, x') :: R2) = adr (R1 ++ (a, x) :: R2) := by simp [adr]
  refine ⟨(f.block p (lt_of_heap H.heap) (fun e => ?_)).trans H.heap, ⟨?_, by rw [hadr]; exact H.ring.nd⟩, H.mp.kept f (fun e => ?_), ?_, fun q hq => ?_, H.num⟩
  · have e' : p = a := e
    rw [← e', knd_cells H.heap] at hk
    exact absurd hk (by decide)
  · obtain ⟨o, n, h1, h2, h3⟩ := H.ring.ex
    have hnd := H.ring.nd
    refine ⟨o, n, fun q hq => ?_, by rw [hadr]; exact h2, by rw [hadr]; exact h3⟩
    by_cases e : q.1 = a
    · have : q = (a, x') := by
        have hnd' : a ∉ u :: adr (R1 ++ R2) := by
          have e2 : (u :: adr (R1 ++ (a, x) :: R2)).Perm (a :: u :: adr (R1 ++ R2)) := by
            have := List.perm_middle (a := a) (l₁ := u :: adr R1) (l₂ := adr R2)
            simpa [adr] using this
          exact (List.nodup_cons.1 ((e2.nodup_iff).1 hnd)).1
        rcases List.mem_cons.1 hq with rfl | hq
        · exact absurd (by rw [← e]; simp) hnd'
        · rcases List.mem_append.1 hq with hq | hq
          · exact absurd (by rw [← e]; simp [adr]; exact .inr (.inl ⟨q.2, hq⟩)) hnd'
          · rcases List.mem_cons.1 hq with rfl | hq
            · rfl
            · exact absurd (by rw [← e]; simp [adr]; exact .inr (.inr ⟨q.2, hq⟩)) hnd'
      subst this
      exact hn _ _ (h1 (a, x) (by simp))
    · refine (h1 q ?_).kept f e
      rcases List.mem_cons.1 hq with rfl | hq
      · exact List.mem_cons_self ..
      · refine List.mem_cons_of_mem _ ?_
        rcases List.mem_append.1 hq with hq | hq
        · exact List.mem_append_left _ hq
        · rcases List.mem_cons.1 hq with rfl | hq
          · exact absurd rfl e
          · exact List.mem_append_right _ (List.mem_cons_of_mem _ hq)
  · have e' : r = a := e
    rw [← e', H.mp.knd] at hk
    exact absurd hk (by decide)
  · have := H.pm
    simp only [List.map_append, List.map_cons] at this ⊢
    rw [hb]; exact this
  · rcases List.mem_append.1 hq with hq | hq
    · exact H.ok q (List.mem_append_left _ hq)
    · rcases List.mem_cons.1 hq with rfl | hq
      · exact ok
      · exact H.ok q (List.mem_append_right _ (List.mem_cons_of_mem _ hq))

section
variable (w : World) (p h r u : Nat) (L : List (Int × Nat)) (R : List (Nat × Pl)) (c : Ca)
theorem none_any (H : KAt w p h r u L R c) : Calls Try.prog 39 #[ptr p] w fun e w' => e = .returned (.bool false) ∧ w = w' := by
  have c0 := cell_of_heap H.heap 0
  simp at c0
  clear H
  unfold ptr at *
  go_enter Try.func39, Try.ntmps39
  go_wp2_with fail
  go_ret
  exact ⟨rfl, rfl⟩
theorem none_nil : Calls Try.prog 39 #[.pointer none] w fun e w' => e = .returned (.bool true) ∧ w = w' := by
  go_enter Try.func39, Try.ntmps39
  go_wp2_with fail
  go_ret
  exact ⟨rfl, rfl⟩

/-- Is there no such block? -/
def chE (m : Hm) (b : Int) : Int := if b < 0 ∨ (m.D.length : Int) ≤ b then 2 else 0
set_option maxRecDepth 100000 in
theorem check_any [Av] (dv lv : Value) (vs : List Value) (m : Hm) (b : Int) (H : KAt w p h r u L R c) (HH : HAt w h dv lv vs m) : Calls Try.prog 44 #[ptr p, .int .i64 b] w fun e w' => e = .returned (.int .i64 (chE m b)) ∧ w = w' := by
  have HN := hide (none_any w p h r u L R c H)
  have HLn := hide (hlen_any w h dv lv vs m HH)
  have c0 := cell_of_heap H.heap 0
  simp at c0
  clear H HH
  unfold ptr at *
  unfold chE
  by_cases h0 : b < 0
  · have b0 : decide (b < 0) = true := by simpa using h0
    rw [if_pos (.inl h0)]
    clear h0
    go_enter Try.func44, Try.ntmps44
    go_wp2_with fail
    refine (unhide HN).mono ?_
    rintro e w' ⟨rfl, rfl⟩
    go_wp2_with fail
    go_ret
    exact ⟨rfl, rfl⟩
  · have b0 : decide (b < 0) = false := by simpa using h0
    by_cases h1 : (m.D.length : Int) ≤ b
    · have b1 : decide ((m.D.length : Int) ≤ b) = true := by simpa using h1
      rw [if_pos (.inr h1)]
      clear h0 h1
      go_enter Try.func44, Try.ntmps44
      go_wp2_with fail
      refine (unhide HN).mono ?_
      rintro e w' ⟨rfl, rfl⟩
      go_wp2_with fail
      refine (unhide HLn).mono ?_
      rintro e w' ⟨rfl, rfl⟩
      go_wp2_with fail
      go_ret
      exact ⟨rfl, rfl⟩
    · have b1 : decide ((m.D.length : Int) ≤ b) = false := by simpa using h1
      rw [if_neg (by rintro (h | h); exact h0 h; exact h1 h)]
      clear h0 h1
      go_enter Try.func44, Try.ntmps44
      go_wp2_with fail
      refine (unhide HN).mono ?_
      rintro e w' ⟨rfl, rfl⟩
      go_wp2_with fail
      refine (unhide HLn).mono ?_
      rintro e w' ⟨rfl, rfl⟩
      go_wp2_with fail
      go_ret
      exact ⟨rfl, rfl⟩

theorem may_any (q : Nat × Pl) (hq : q ∈ R) (H : KAt w p h r u L R c) : Calls Try.prog 49 #[ptr p, ptr q.1] w fun e w' => e = .returned (.bool (decide (q.2.last ≤ c.safe))) ∧ ∃ n, w' = w.drewN n := by
  obtain ⟨o, n, hn⟩ := H.at hq
  have c4 := cell_of_heap H.heap 4
  have d4 := hn.c4
  simp at c4
  clear H hn
  unfold ptr at *
  generalize q.2.last = ql at *
  generalize c.safe = cs at *
  generalize q.1 = qa at *
  have e : decide ((ql : Int) ≤ (cs : Int)) = decide (ql ≤ cs) := by congr 1; simp
  go_enter Try.func49, Try.ntmps49
  go_wp2_with fail
  go_quiet (fail)
  go_wp2_with fail
  go_ret
  exact ⟨by simp, _, rfl⟩
end
end Go.Proofs.Ytdgmlopaeonacaa

namespace Go.Proofs.Ytdgmlopaeonacaa
set_option linter.unusedVariables false
set_option linter.unusedSimpArgs false
open Go.RowKit
set_option linter.unusedVariables false

attribute [local go_sem ↓] Go.wp_at_zero Go.wp_at_succ

theorem perm_erase {α : Type} {x : α} : ∀ (l : List α) (j : Nat), l[j]? = some x → (x :: l.eraseIdx j).Perm l
  | [], _, h => by simp at h
  | y :: l, 0, h => by simp at h; subst h; exact List.Perm.refl _
  | y :: l, j + 1, h => by
    have := perm_erase l j (by simpa using h)
    exact (List.Perm.swap y x _).trans (this.cons y)

section
variable (w : World) (p h r u : Nat) (L : List (Int × Nat)) (R : List (Nat × Pl)) (c : Ca)

theorem mid_not {u : Nat} {R1 R2 : List (Nat × Pl)} {q : Nat × Pl} (h : (u :: adr (R1 ++ q :: R2)).Nodup) : q.1 ∉ u :: adr (R1 ++ R2) := by
  have e : (u :: adr (R1 ++ q :: R2)).Perm (q.1 :: u :: adr (R1 ++ R2)) := by
    have := List.perm_middle (a := q.1) (l₁ := u :: adr R1) (l₂ := adr R2)
    simpa [adr] using this
  exact (List.nodup_cons.1 ((e.nodup_iff).1 h)).1

set_option maxRecDepth 100000 in
theorem use_any (R1 R2 : List (Nat × Pl)) (q : Nat × Pl) (H : KAt w p h r u L (R1 ++ q :: R2) c) : Calls Try.prog 48 #[ptr p, ptr q.1] w fun e w' => e = .returned (.tuple #[]) ∧ KAt w' p h r u L (R1 ++ R2 ++ [q]) c ∧ Fr (fun k => k ∈ u :: adr (R1 ++ q :: R2)) w w' := by
  have HU := hide (ring_unlink w u R1 R2 q H.ring)
  have hq := mid_not H.ring.nd
  have HQ := hide hq
  have HK := hide H
  clear H hq
  obtain ⟨qa, qx⟩ := q
  dsimp only at HU HQ HK ⊢
  unfold ptr
  go_enter Try.func48, Try.ntmps48
  go_wp2_with fail
  refine (unhide HU).mono ?_
  rintro e w1 ⟨rfl, h1, h2, f1⟩
  have hp : ∀ k, k ∈ u :: adr (R1 ++ (qa, qx) :: R2) → ¬ k = p := fun k hk e => by
    have := (unhide HK).ring.knd hk
    rw [e, knd_cells (unhide HK).heap] at this
    exact absurd this (by decide)
  have hh1 := (f1.block p (lt_of_heap (unhide HK).heap) (fun e => hp _ e rfl)).trans (unhide HK).heap
  have c3 := cell_of_heap hh1 3
  simp at c3
  unfold ptr at c3
  have HL := hide (ring_link w1 u (R1 ++ R2) qa qx _ _ h1 h2 (unhide HQ))
  have F1 := hide f1
  clear h1 h2 f1 hh1 HU
  go_wp2_with fail
  refine (unhide HL).mono ?_
  rintro e w2 ⟨rfl, h3, f2⟩
  have hF : Fr (fun k => k ∈ u :: adr (R1 ++ (qa, qx) :: R2)) w w2 := (unhide F1).trans f2 (fun k _ hk => by
    rcases hk with rfl | hk
    · simp [adr]
    · simp [adr] at hk ⊢
      rcases hk with h | h | h
      · exact .inl h
      · exact .inr (.inl h)
      · exact .inr (.inr (.inr h)))
  have hK2 : KAt w2 p h r u L (R1 ++ R2 ++ [(qa, qx)]) c := by
    have H := unhide HK
    refine ⟨(hF.block p (lt_of_heap H.heap) (fun e => hp _ e rfl)).trans H.heap, h3, H.mp.kept hF (fun e => ?_), H.pm.trans ?_, fun x hx => H.ok x ?_, H.num⟩
    · have := H.ring.knd e
      rw [H.mp.knd] at this
      exact absurd this (by decide)
    · refine List.Perm.map _ ?_
      have : (R1 ++ (qa, qx) :: R2).Perm (R1 ++ (R2 ++ [(qa, qx)])) := List.Perm.append_left R1 (by
        have := (List.perm_append_singleton (qa, qx) R2).symm
        exact this)
      rw [List.append_assoc]; exact this
    · simp at hx ⊢
      rcases hx with h | h | h
      · exact .inl h
      · exact .inr (.inr h)
      · exact .inr (.inl h)
  have HK2 := hide hK2
  have HF := hide hF
  clear h3 f2 hF hK2 HL F1
  go_wp2_with fail
  go_end0
  exact ⟨rfl, unhide HK2, unhide HF⟩

set_option maxRecDepth 100000 in
theorem forget_any (R1 R2 : List (Nat × Pl)) (q : Nat × Pl) (H : KAt w p h r u L (R1 ++ q :: R2) c) : Calls Try.prog 51 #[ptr p, ptr q.1] w fun e w' => e = .returned (.tuple #[]) ∧ (∃ L', KAt w' p h r u L' (R1 ++ R2) c) ∧ Fr (KB p r u (R1 ++ q :: R2)) w w' := by
  have HU := hide (ring_unlink w u R1 R2 q H.ring)
  have HK := hide H
  clear H
  obtain ⟨qa, qx⟩ := q
  dsimp only at HU HK ⊢
  unfold ptr
  go_enter Try.func51, Try.ntmps51
  go_wp2_with fail
  refine (unhide HU).mono ?_
  rintro e w1 ⟨rfl, h1, h2, f1⟩
  have hp : ∀ k, k ∈ u :: adr (R1 ++ (qa, qx) :: R2) → ¬ k = p := fun k hk e => by
    have := (unhide HK).ring.knd hk
    rw [e, knd_cells (unhide HK).heap] at this
    exact absurd this (by decide)
  have hh1 := (f1.block p (lt_of_heap (unhide HK).heap) (fun e => hp _ e rfl)).trans (unhide HK).heap
  have hm1 := (unhide HK).mp.kept f1 (fun e => by
    have := (unhide HK).ring.knd e
    rw [(unhide HK).mp.knd] at this
    exact absurd this (by decide))
  have c2 := cell_of_heap hh1 2
  simp at c2
  have d2 := h2.c2
  have HH1 := hide hh1
  have HM1 := hide hm1
  have H1 := hide h1
  have F1 := hide f1
  clear h1 h2 f1 hh1 HU hm1
  go_wp2_with fail
  refine wp_region_quietTail 9 (by kernel_rfl) (by kernel_rfl) ?_
  simp only [List.take_succ_cons, List.take_zero]
  repeat (go_big_quiet_step (fail))
  refine wpQuiet_nil ?_
  intro _ hw'
  obtain ⟨nq, hw''⟩ := hw'
  subst hw''
  have fd : Fr (fun _ => False) w1 (w1.drewN nq) := Fr.ofDrewN _ _
  obtain ⟨w2, hdel, ⟨j, hj, hm2⟩, f2⟩ := run_del_in ((unhide HM1).kept fd id) ((unhide HK).look (q := (qa, qx)) (by simp))
  dsimp only at hdel hj
  have a1 : Fr (KB p r u (R1 ++ (qa, qx) :: R2)) w w1 := (unhide F1).mono (fun k _ e => .inr (.inr e))
  have a2 := a1.trans fd (fun _ _ e => e.elim)
  have hF : Fr (KB p r u (R1 ++ (qa, qx) :: R2)) w w2 := a2.trans f2 (fun k _ e => .inr (.inl e))
  have f12 : Fr (fun k => k = r) w1 w2 := (fd.mono (fun _ _ e => e.elim)).trans f2 (fun _ _ e => e)
  have hK2 : KAt w2 p h r u (L.eraseIdx j) (R1 ++ R2) c := by
    have H := unhide HK
    refine ⟨(f12.block p (lt_of_heap (unhide HH1)) (fun e => ?_)).trans (unhide HH1), (unhide H1).kept f12 (fun k hk e => ?_), hm2, ?_, fun x hx => H.ok x ?_, H.num⟩
    · have := knd_cells H.heap
      rw [show p = r from e, H.mp.knd] at this
      exact absurd this (by decide)
    · have := (unhide H1).knd hk
      rw [show k = r from e, (unhide HM1).knd] at this
      exact absurd this (by decide)
    · have e1 := perm_erase L j hj
      have e2 := e1.trans H.pm
      rw [List.map_append, List.map_cons] at e2
      have e3 := e2.trans List.perm_middle
      have := List.Perm.cons_inv e3
      rwa [← List.map_append] at this
    · simp at hx ⊢
      rcases hx with h | h
      · exact .inl h
      · exact .inr (.inr h)
  have HK2 := hide hK2
  have HF := hide hF
  clear hK2 hF f12 a1 a2 fd f2 hm2 hj
  simp only [List.drop_succ_cons, List.drop_zero]
  go_wp2_with fail
  go_end0
  exact ⟨rfl, ⟨_, unhide HK2⟩, unhide HF⟩

set_option maxRecDepth 100000 in
theorem take_any (b : Int) (hb : ∀ q ∈ R, q.2.b ≠ b) (hb0 : 0 ≤ b) (H : KAt w p h r u L R c) : Calls Try.prog 46 #[ptr p, .int .i64 b] w fun e w' => e = .returned (ptr w.heap.size) ∧ (∃ L', KAt w' p h r u L' (R ++ [(w.heap.size, zeroP b)]) c) ∧ Fr (KB p r u R) w w' := by
  have HB := hide hb
  obtain ⟨O, hO⟩ : ∃ O, O = Obj.cells ((((Try.zeroCells91.setIfInBounds 2 (Value.int .i64 b)).setIfInBounds 3 (Value.int .u64 0)).setIfInBounds 4 (Value.int .u64 0)).setIfInBounds 5 (Value.int .i64 0)) 91 := ⟨_, rfl⟩
  have hO2 : O = Obj.cells (nodeC (.pointer none) (.pointer none) (zeroP b)).toArray 91 := by
    rw [hO, zero91]; simp [nodeC, zeroP]
  have fa := (Fr.refl (fun _ => False) w).alloc O
  have H1 := H.kept0 fa
  have hN : NAt (w.alloc O) w.heap.size (.pointer none) (.pointer none) (zeroP b) := by
    unfold NAt; rw [heap_alloc_new, hO2]
  have c3 := cell_of_heap H1.heap 3
  simp at c3
  have hna : w.heap.size ∉ u :: adr R := fun e => by
    obtain ⟨o, n, y, h1⟩ := H.ring.at e
    have := lt_of_heap h1
    omega
  have HL := hide (ring_link (w.alloc O) u R w.heap.size (zeroP b) _ _ H1.ring hN hna)
  have HK1 := hide H1
  have FA := hide fa
  have HK := hide H
  clear H1 hN fa H hb hO2
  rw [hO] at c3 HL HK1 FA
  clear hO
  unfold ptr at *
  go_enter Try.func46, Try.ntmps46
  go_wp2_with fail
  refine (unhide HL).mono ?_
  rintro e w1 ⟨rfl, h1, f1⟩
  have hkk : ∀ k, (k = w.heap.size ∨ k ∈ u :: adr R) → knd (w.alloc (Obj.cells ((((Try.zeroCells91.setIfInBounds 2 (Value.int .i64 b)).setIfInBounds 3 (Value.int .u64 0)).setIfInBounds 4 (Value.int .u64 0)).setIfInBounds 5 (Value.int .i64 0)) 91)) k = 91 := fun k hk => by
    rcases hk with rfl | hk
    · exact knd_cells (heap_alloc_new w _)
    · exact (unhide HK1).ring.knd hk
  have hh1 := (f1.block p (lt_of_heap (unhide HK1).heap) (fun e => by have := hkk _ e; rw [knd_cells (unhide HK1).heap] at this; exact absurd this (by decide))).trans (unhide HK1).heap
  have hm1 := (unhide HK1).mp.kept f1 (fun e => by have := hkk _ e; rw [(unhide HK1).mp.knd] at this; exact absurd this (by decide))
  obtain ⟨w2, hput, hm2, f2⟩ := run_put_out hm1 ((unhide HK).lookNo (unhide HB)) w.heap.size
  have c2 := cell_of_heap hh1 2
  simp at c2
  have hr1 := h1
  have hpr : ¬ p = r := fun e => by have := knd_cells hh1; rw [e, hm1.knd] at this; exact absurd this (by decide)
  have hK2 : KAt w2 p h r u (L ++ [(b, w.heap.size)]) (R ++ [(w.heap.size, zeroP b)]) c := by
    have H := unhide HK
    refine ⟨(f2.block p (lt_of_heap hh1) hpr).trans hh1, hr1.kept f2 (fun k hk e => ?_), hm2, ?_, fun x hx => ?_, H.num⟩
    · have := hr1.knd hk
      rw [show k = r from e, hm1.knd] at this
      exact absurd this (by decide)
    · rw [List.map_append]
      exact H.pm.append (List.Perm.refl _)
    · rcases List.mem_append.1 hx with h | h
      · exact H.ok x h
      · simp at h
        subst h
        exact ⟨by simp [zeroP], hb0, by simp [zeroP], by simp [zeroP], by simp [zeroP]⟩
  have a0 : Fr (KB p r u R) w _ := (unhide FA).mono (fun _ _ e => e.elim)
  have a1 := a0.trans f1 (fun k hk e => by
    rcases e with e | e
    · omega
    · exact .inr (.inr e))
  have hF : Fr (KB p r u R) w w2 := a1.trans f2 (fun k _ e => .inr (.inl e))
  clear a0 a1
  have HK2 := hide hK2
  have HF := hide hF
  unfold ptr at hput
  clear hK2 hF hm2 f2 f1 h1 hr1 hm1 hh1 HL
  go_wp2_with fail
  go_ret
  exact ⟨rfl, ⟨_, unhide HK2⟩, unhide HF⟩
end
end Go.Proofs.Ytdgmlopaeonacaa
