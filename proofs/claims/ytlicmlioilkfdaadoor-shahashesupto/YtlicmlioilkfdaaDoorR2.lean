/-
  The walk of the document's Piece.
-/
import Derived.Test.YtlicmlioilkfdaaDoorR1
namespace Go.Proofs.YtlicmlioilkfdaaDoor
open Go.RowKit
set_option linter.unusedVariables false
set_option linter.unusedSimpArgs false

attribute [local go_sem ↓] Go.wp_at_zero Go.wp_at_succ

theorem BlockAt.frS {w w' : World} {S : Nat → Prop} {b : Nat} {o : Obj} (h : w.heap[b]? = some o) (f : Fr S w w') (hs : ¬ S b) : w'.heap[b]? = some o := (f.block b (lt_of_heap h) hs).trans h

theorem St.add_comm (s t : St) : s.add t = t.add s := by
  unfold St.add
  simp only [BitVec.add_comm]

set_option maxHeartbeats 4000000 in
set_option maxRecDepth 100000 in
theorem piece_any (w : World) (s : St) (b o n c : Nat) (l : List UInt8) (hl : 64 ≤ l.length) (hv : Rd w (.slice (some ⟨b, o, none⟩) n c) l) : Calls Tryd.prog 44 #[.agg #[.int .u32 (N s.a), .int .u32 (N s.b), .int .u32 (N s.c), .int .u32 (N s.d), .int .u32 (N s.e), .int .u32 (N s.f), .int .u32 (N s.g), .int .u32 (N s.h)], .slice (some ⟨b, o, none⟩) n c] w fun e w' => e = .returned (.agg #[.int .u32 (N (stir s l).a), .int .u32 (N (stir s l).b), .int .u32 (N (stir s l).c), .int .u32 (N (stir s l).d), .int .u32 (N (stir s l).e), .int .u32 (N (stir s l).f), .int .u32 (N (stir s l).g), .int .u32 (N (stir s l).h)]) ∧ Fr (fun _ => False) w w' := by
  obtain ⟨b', o', e, hnl, -, -, hcell⟩ := hv.lits (by omega)
  simp only [Option.some.injEq, Addr.mk.injEq] at e
  obtain ⟨rfl, rfl, -⟩ := e
  have hb : b < w.heap.size := World.block_lt_of_cell? w _ (hcell 0 (by omega))
  have hn64 : 64 ≤ n := by omega
  have HCELL : Hid (∀ j, j < 64 → w.cell? ⟨b, o + j, none⟩ = some (.int .u8 (((l.getD j 0).toNat : Nat) : Int))) := hide fun j hj => by
    rw [hcell j (by omega)]
    simp [show j < l.length by omega]
  clear hv hcell hnl hl
  have HSTIR : Hid (∀ t, t = 64 → s.add (rn (sch l 48) s t) = stir s l) := hide (fun t ht => by rw [ht]; rfl)
  go_enter Tryd.func44, Tryd.ntmps44
  go_wp2_with fail
  refine wpC_world ?_
  intro w0 hw0
  have f0 : Fr (fun _ => False) w w0 := by rw [hw0]; exact ((Fr.refl _ _).alloc _).alloc _
  have hA : WAt w0 w.heap.size 50 s.l := by rw [hw0]; exact BlockAt.two w _ _
  have hR : ZAt w0 (w.heap.size + 1) 50 8 := by rw [hw0]; exact ⟨_, BlockAt.one w _ _, rfl⟩
  clear hw0
  refine (K_any w0).mono ?_
  rintro e w1 ⟨rfl, f1⟩
  have F1 := hide (f0.trans f1 (fun _ _ h => h))
  have HA := hide (hA.kept f1 id)
  have HR := hide (hR.kept f1 id)
  have hs1 : w.heap.size + 1 < w1.heap.size := by obtain ⟨cs, h, -⟩ := unhide HR; exact lt_of_heap h
  clear f0 hA hR f1
  have hkl : (wvs KL).length = 64 := by rw [wvs_length]; exact KL_length
  have hsz : (wvs KL).toArray.size = 64 := by simpa using hkl
  have hi2 : (Tryd.prog.info? 98).map (·.size) = some (wvs KL).toArray.size := by rw [hsz]; exact Tryd.s98
  have hone := wvs_one KL
  have hth2 : ∀ cs : Array Value, cs.size = 64 → (w1.alloc (.cells cs 98)).there w1.heap.size 0 (wvs KL).toArray.size := fun cs hcs => by rw [hsz]; exact (ZAt.new w1 cs 98 64 hcs).there
  clear hsz
  go_wp2_with (refine wpList_storeN rfl rfl 98 _ _ rfl w1.heap.size 0 (wvs KL).toArray rfl rfl (hth2 _ rfl) hi2 hone ?_)
  intro w2 hw2
  replace hw2 := unhide hw2
  have hK2 : WAt w2 w1.heap.size 98 KL := by rw [hw2]; exact (ZAt.new w1 _ 98 64 rfl).put _ KL_length
  have f12 : Fr (fun _ => False) w1 w2 := by rw [hw2]; exact ((Fr.refl _ _).alloc _).trans (setCells_frame _ _ _ _) (fun i hi e => by omega)
  have F2 := hide ((unhide F1).trans f12 (fun _ _ h => h))
  have HA2 := hide ((unhide HA).kept f12 id)
  have HR2 := hide ((unhide HR).kept f12 id)
  have HK2 := hide hK2
  have hs2 : w1.heap.size < w2.heap.size := lt_of_heap hK2
  clear hw2 hK2 f12 hth2 hi2 hone HA HR
  go_wp2_with fail
  go_loopw [7] (fun v w' => ∃ t : Nat, t ≤ 16 ∧ v = .int .i64 (t : Int) ∧ WAt w' w2.heap.size 98 ((List.range t).map (wdAt l) ++ List.replicate (64 - t) 0) ∧ Fr (fun _ => False) w2 w') (fun v _ => 16 - (intOf v).toNat)
  case atStart => exact ⟨0, by omega, rfl, heap_alloc_new w2 _, (Fr.refl _ _).alloc _⟩
  case round =>
    obtain ⟨t, ht, rfl, hw, hf⟩ := hrel
    by_cases hlt : t < 16
    · have hfr : Fr (fun _ => False) w wr := (unhide F2).trans hf (fun _ _ h => h)
      have hc : ∀ j, j < 64 → wr.cell? ⟨b, o + j, none⟩ = some (.int .u8 (((l.getD j 0).toNat : Nat) : Int)) := fun j hj => (hfr.cell (a := ⟨b, o + j, none⟩) hb id).trans (unhide HCELL j hj)
      have c0 := hc (4 * t) (by omega)
      have c1 := hc (4 * t + 1) (by omega)
      have c2 := hc (4 * t + 2) (by omega)
      have c3 := hc (4 * t + 3) (by omega)
      have hcx : wr.cell? ⟨w2.heap.size, t, none⟩ = some (.int .u32 (N (((List.range t).map (wdAt l) ++ List.replicate (64 - t) 0).getD t 0))) := hw.cell t (by simp; omega)
      have hz := hw.frozen t
      have HW : Hid (wdAt l t = wd4 (l.getD (4 * t) 0) (l.getD (4 * t + 1) 0) (l.getD (4 * t + 2) 0) (l.getD (4 * t + 3) 0)) := hide rfl
      generalize l.getD (4 * t) 0 = x0 at *
      generalize l.getD (4 * t + 1) 0 = x1 at *
      generalize l.getD (4 * t + 2) 0 = x2 at *
      generalize l.getD (4 * t + 3) 0 = x3 at *
      have a0 := wrap_N (B8 x0)
      have a1 := wrap_N (B8 x1)
      have a2 := wrap_N (B8 x2)
      have a3 := wrap_N (B8 x3)
      have e0 := shlB x0 24 16777216 (by decide)
      have e1 := shlB x1 16 65536 (by decide)
      have e2 := shlB x2 8 256 (by decide)
      rw [← N_B8] at c0 c1 c2 c3 e0 e1 e2
      have o1 := or32 (B8 x0 <<< 24) (B8 x1 <<< 16)
      have o2 := or32 (B8 x0 <<< 24 ||| B8 x1 <<< 16) (B8 x2 <<< 8)
      have o3 := or32 (B8 x0 <<< 24 ||| B8 x1 <<< 16 ||| B8 x2 <<< 8) (B8 x3)
      have hd : B8 x0 <<< 24 ||| B8 x1 <<< 16 ||| B8 x2 <<< 8 ||| B8 x3 = wd4 x0 x1 x2 x3 := rfl
      rw [hd, ← unhide HW] at o3
      clear hd
      generalize hres : wdAt l t = res at *
      have HRES := hide hres
      clear hres
      generalize B8 x0 <<< 24 ||| B8 x1 <<< 16 ||| B8 x2 <<< 8 = y2 at *
      generalize B8 x0 <<< 24 ||| B8 x1 <<< 16 = y1 at *
      generalize B8 x0 <<< 24 = y0 at *
      generalize B8 x1 <<< 16 = z1 at *
      generalize B8 x2 <<< 8 = z2 at *
      have HHW := hide hw
      have HF := hide hf
      clear hw hf hc hfr
      generalize hB : w2.heap.size = q at *
      have HB := hide hB
      clear hB
      have i0 : (0 : Int) ≤ 4 * (t : Int) := by omega
      have i1 : 4 * (t : Int) < (n : Int) := by omega
      have i2 : 4 * (t : Int) + 1 < (n : Int) := by omega
      have i3 : 4 * (t : Int) + 2 < (n : Int) := by omega
      have i4 : 4 * (t : Int) + 3 < (n : Int) := by omega
      have j0 : (4 * (t : Int)).toNat = 4 * t := by omega
      have j1 : (4 * (t : Int) + 1).toNat = 4 * t + 1 := by omega
      have j2 : (4 * (t : Int) + 2).toNat = 4 * t + 2 := by omega
      have j3 : (4 * (t : Int) + 3).toNat = 4 * t + 3 := by omega
      go_wp2_with fail
      refine wp_region_quietTail 35 (by kernel_rfl) (by kernel_rfl) ?_
      simp only [List.take_succ_cons, List.take_zero]
      repeat (go_big_quiet_step (fail))
      refine wpQuiet_nil ?_
      intro _ hw'
      obtain ⟨nq, hw''⟩ := hw'
      subst hw''
      simp only [List.drop_succ_cons, List.drop_zero]
      go_wp2_with fail
      go_roundw
      case rel =>
        have hb2 := unhide HB
        refine ⟨t + 1, by omega, by go_num, ?_, ((unhide HF).drewN nq).setCell (fun h => absurd h (by simp; omega)) _⟩
        have h1 := ((unhide HHW).kept (frD wr nq (fun _ => False)) id).set t res
        have e2 : ((List.range t).map (wdAt l) ++ List.replicate (64 - t) 0).set t res = (List.range (t + 1)).map (wdAt l) ++ List.replicate (64 - (t + 1)) 0 := by
          have := set_mid ((List.range t).map (wdAt l)) (64 - (t + 1)) res
          rw [show 64 - (t + 1) + 1 = 64 - t by omega, show ((List.range t).map (wdAt l)).length = t by simp] at this
          rw [this, List.range_succ, ← unhide HRES]
          simp
        rw [e2] at h1
        rw [← hb2] at h1 ⊢
        exact h1
      case measure => simp [intOf]; omega
    · have ht16 : t = 16 := by omega
      subst ht16
      have hq0 : WAt wr w2.heap.size 98 (sch l 0 ++ List.replicate (48 - 0) 0) := hw
      have HF := hide hf
      have HQ := hide hq0
      clear hw hf hq0
      go_wp2_with fail
      go_loopw [8] (fun v w' => ∃ n t : Nat, n ≤ 48 ∧ t = 16 + n ∧ v = .int .i64 (t : Int) ∧ WAt w' w2.heap.size 98 (sch l n ++ List.replicate (48 - n) 0) ∧ Fr (fun _ => False) w2 w') (fun v _ => 64 - (intOf v).toNat)
      case atStart => exact ⟨0, 16, by omega, rfl, rfl, unhide HQ, unhide HF⟩
      case round =>
        obtain ⟨m, t, hn, htn, rfl, hw, hf⟩ := hrel
        by_cases hlt : t < 64
        · have hl := sch_length l m
          have hl2 : (sch l m ++ List.replicate (48 - m) (0 : Wd)).length = 64 := by simp [hl]; omega
          have hcell : ∀ j, j < t → wr.cell? ⟨w2.heap.size, j, none⟩ = some (.int .u32 (N ((sch l m).getD j 0))) := fun j hj => by
            rw [← getD_left _ (List.replicate (48 - m) 0) j (by omega)]; exact hw.cell j (by omega)
          have hst := hw.cell t (by omega)
          have hz := hw.frozen t
          obtain ⟨a16, i16⟩ : ∃ a : Nat, (t : Int) - 16 = (a : Int) := ⟨t - 16, by omega⟩
          obtain ⟨a15, i15⟩ : ∃ a : Nat, (t : Int) - 15 = (a : Int) := ⟨t - 15, by omega⟩
          obtain ⟨a7, i7⟩ : ∃ a : Nat, (t : Int) - 7 = (a : Int) := ⟨t - 7, by omega⟩
          obtain ⟨a2, i2⟩ : ∃ a : Nat, (t : Int) - 2 = (a : Int) := ⟨t - 2, by omega⟩
          have c16 := hcell a16 (by omega)
          have c15 := hcell a15 (by omega)
          have c7 := hcell a7 (by omega)
          have c2 := hcell a2 (by omega)
          have HN : Hid (nxt (sch l m) = (sch l m).getD a16 0 + (rot ((sch l m).getD a15 0) 7 ^^^ rot ((sch l m).getD a15 0) 18 ^^^ (sch l m).getD a15 0 >>> 3) + (sch l m).getD a7 0 +
              (rot ((sch l m).getD a2 0) 17 ^^^ rot ((sch l m).getD a2 0) 19 ^^^ (sch l m).getD a2 0 >>> 10)) := by
            unfold nxt
            rw [show a16 = (sch l m).length - 16 by omega, show a15 = (sch l m).length - 15 by omega, show a7 = (sch l m).length - 7 by omega, show a2 = (sch l m).length - 2 by omega]
            exact hide rfl
          have HW := hide hw
          have HF2 := hide hf
          have HL := hide hl
          have HT := hide htn
          have HNN := hide hn
          generalize (sch l m).getD a16 0 = x16 at *
          generalize (sch l m).getD a15 0 = x15 at *
          generalize (sch l m).getD a7 0 = x7 at *
          generalize (sch l m).getD a2 0 = x2 at *
          have b16 : a16 < 64 := by omega
          have b15 : a15 < 64 := by omega
          have b7 : a7 < 64 := by omega
          have b2 : a2 < 64 := by omega
          have t16 : 16 ≤ t := by omega
          clear hw hf hl hl2 hcell htn hn
          generalize hB : w2.heap.size = q at *
          have HB := hide hB
          clear hB
          have q1 := xor32 (rot x15 7) (rot x15 18)
          have q5 := xor32 (rot x2 17) (rot x2 19)
          go_wp2_with fail
          have R2 : ∀ (n : Nat) (x : Wd) (k : Int), 0 < k → k < 32 → Calls Tryd.prog 66 #[.int .u32 (N x), .int .u64 k] (wr.drewN n) fun e w'' => e = .returned (.int .u32 (N (rot x k.toNat))) ∧ ∃ m, w'' = wr.drewN m := fun n x k h0 h1 => r_q _ x k h0 h1 (fun w'' e => ⟨n, e⟩)
          refine wp_region_quietTail 29 (by kernel_rfl) (by kernel_rfl) ?_
          simp only [List.take_succ_cons, List.take_zero]
          repeat (go_big_quiet_step (exact R2 _ _ _ (by decide) (by decide)))
          refine wpQuiet_nil ?_
          intro _ hw'
          obtain ⟨nq, hw''⟩ := hw'
          subst hw''
          simp only [List.drop_succ_cons, List.drop_zero]
          go_wp2_with fail
          go_roundw
          case rel =>
            have hb := unhide HB
            have hn := unhide HT
            have ev : (N x16 + bits BinOp.xor IntKind.u32 (N (rot x15 7 ^^^ rot x15 18)) (N x15 / 8) + N x7 + bits BinOp.xor IntKind.u32 (N (rot x2 17 ^^^ rot x2 19)) (N x2 / 1024)) % 4294967296 = N (nxt (sch l m)) := by
              rw [unhide HN, shr_3, shr_10, xor32, xor32, add4]
            rw [ev]
            refine ⟨m + 1, t + 1, by omega, by omega, by go_num, ?_, ((unhide HF2).drewN nq).setCell (fun h => absurd h (by simp; omega)) _⟩
            have h1 := ((unhide HW).kept (frD wr nq (fun _ => False)) id).set t (nxt (sch l m))
            have hl := unhide HL
            have e2 : (sch l m ++ List.replicate (48 - m) 0).set t (nxt (sch l m)) = sch l (m + 1) ++ List.replicate (48 - (m + 1)) 0 := by
              have := set_mid (sch l m) (48 - (m + 1)) (nxt (sch l m))
              rw [show 48 - (m + 1) + 1 = 48 - m by omega, hl, ← hn] at this
              exact this
            rw [e2] at h1
            rw [← hb] at h1 ⊢
            exact h1
          case measure => simp [intOf]; omega
        · have hm48 : m = 48 := by omega
          have hw2' : WAt wr w2.heap.size 98 (sch l 48) := by rw [hm48] at hw; simpa using hw
          have hWl : (sch l 48).length = 64 := sch_length l 48
          have hA3 := (unhide HA2).kept hf id
          have hR3 := (unhide HR2).kept hf id
          have hK3 := (unhide HK2).kept hf id
          have F3 := (unhide F2).trans hf (fun _ _ h => h)
          have hs3 : w2.heap.size < wr.heap.size := lt_of_heap hw2'
          clear hw hn htn hm48
          generalize sch l 48 = W at *
          have hrng := hA3.range
          have hone := wvs_one s.l
          have hth : ∀ cs : Array Value, cs.size = 8 → (wr.alloc (.cells cs 50)).there wr.heap.size 0 (wvs s.l).toArray.size := fun cs hcs => (ZAt.new wr cs 50 8 hcs).there
          have HW3 := hide hw2'
          have HA3 := hide hA3
          have HR3 := hide hR3
          have HK3 := hide hK3
          have HF3 := hide F3
          clear hw2' hA3 hR3 hK3 F3 hf HA2 HR2 HK2 HQ HF
          go_wp2_with (first | refine wpList_load_mid rfl 50 _ rfl w.heap.size 0 rfl (wvs s.l) _ hrng Tryd.u50 rfl Tryd.s50 ?_ | refine wpList_storeN rfl rfl 50 _ _ rfl wr.heap.size 0 (wvs s.l).toArray rfl rfl (hth _ rfl) Tryd.s50 hone ?_)
          intro w4 hw4
          replace hw4 := unhide hw4
          have hV4 : WAt w4 wr.heap.size 50 s.l := by rw [hw4]; exact (ZAt.new wr _ 50 8 rfl).put s.l rfl
          have f34 : Fr (fun _ => False) wr w4 := by rw [hw4]; exact ((Fr.refl _ _).alloc _).trans (setCells_frame _ _ _ _) (fun i hi e => by omega)
          have HW4 := hide ((unhide HW3).kept f34 id)
          have HA4 := hide ((unhide HA3).kept f34 id)
          have HR4 := hide ((unhide HR3).kept f34 id)
          have HK4 := hide ((unhide HK3).kept f34 id)
          have HF4 := hide ((unhide HF3).trans f34 (fun _ _ h => h))
          have HV4 := hide hV4
          have hs4 : wr.heap.size < w4.heap.size := lt_of_heap hV4
          clear hw4 hV4 f34 hth hone hrng HW3 HA3 HR3 HK3
          go_wp2_with fail
          generalize hvq : wr.heap.size = vq at *
          have HVQ := hide hvq
          clear hvq
          go_loopw [12] (fun v w' => ∃ t : Nat, t ≤ 64 ∧ v = .int .i64 (t : Int) ∧ WAt w' vq 50 (rn W s t).l ∧ Fr (fun k => k = vq) w4 w') (fun v _ => 64 - (intOf v).toNat)
          case atStart => exact ⟨0, by omega, rfl, unhide HV4, Fr.refl _ _⟩
          case round =>
            obtain ⟨t5, ht, rfl, hV, hF⟩ := hrel
            by_cases hlt5 : t5 < 64
            · have ck := ((unhide HK4).kept hF (by omega)).cell t5 (by rw [KL_length]; exact hlt5)
              have cw := ((unhide HW4).kept hF (by omega)).cell t5 (by omega)
              have HN : Hid (rn W s (t5 + 1) = rnd (rn W s t5) (KL.getD t5 0) (W.getD t5 0)) := hide rfl
              have HVV := hide hV
              have c0 := hV.cell 0 (by simp [St.l])
              have c1 := hV.cell 1 (by simp [St.l])
              have c2 := hV.cell 2 (by simp [St.l])
              have c3 := hV.cell 3 (by simp [St.l])
              have c4 := hV.cell 4 (by simp [St.l])
              have c5 := hV.cell 5 (by simp [St.l])
              have c6 := hV.cell 6 (by simp [St.l])
              have c7 := hV.cell 7 (by simp [St.l])
              simp only [St.l, List.getD_cons_zero, List.getD_cons_succ] at c0 c1 c2 c3 c4 c5 c6 c7
              have hth : wr.there vq 0 8 := hV.z.there
              have HFF := hide hF
              clear hV hF
              generalize KL.getD t5 0 = kt at *
              generalize W.getD t5 0 = wt at *
              generalize hS' : rn W s (t5 + 1) = S' at *
              have HS' := hide hS'
              clear hS'
              generalize hS : rn W s t5 = S at *
              have HSS := hide hS
              clear hS
              obtain ⟨xa, xb, xc, xd, xe, xf, xg, xh⟩ := S
              simp only at c0 c1 c2 c3 c4 c5 c6 c7
              go_wp2_with fail
              go_quiet (fail)
              have R2 : ∀ (m : Nat) (x : Wd) (k : Int), 0 < k → k < 32 → Calls Tryd.prog 66 #[.int .u32 (N x), .int .u64 k] (wr.drewN (nq + m)) fun e w'' => e = .returned (.int .u32 (N (rot x k.toNat))) ∧ ∃ m, w'' = wr.drewN (nq + m) := fun m x k h0 h1 => r_q _ x k h0 h1 (fun w'' e => ⟨m, e⟩)
              go_wp2_with fail
              go_quiet (exact R2 _ _ _ (by decide) (by decide))
              have ev1 : ((N xh + bits BinOp.xor IntKind.u32 (bits BinOp.xor IntKind.u32 (N (rot xe 6)) (N (rot xe 11))) (N (rot xe 25)) + bits BinOp.xor IntKind.u32 (bits BinOp.and IntKind.u32 (N xe) (N xf)) (bits BinOp.and IntKind.u32 (bits BinOp.xor IntKind.u32 (if IntKind.u32.signed = true then -1 else IntKind.u32.max) (N xe)) (N xg)) + N kt) % 4294967296 + N wt) % 4294967296 = N (xs (⟨xa, xb, xc, xd, xe, xf, xg, xh⟩ : St) kt wt) := by
                simp only [not32', xor32, and32, add4, add32]
                rfl
              simp only [ev1]
              clear ev1
              generalize hX : xs (⟨xa, xb, xc, xd, xe, xf, xg, xh⟩ : St) kt wt = X at *
              have HX := hide hX
              clear hX
              go_wp2_with fail
              refine wp_world ?_
              intro wA hwA
              have fA : Fr (fun _ => False) wr wA := by rw [hwA]; first | exact (Fr.refl _ _).drewN _ | exact ((Fr.refl _ _).drewN _).drewN _
              have hvl : vq < wr.heap.size := World.block_lt_of_cell? wr _ c0
              replace c0 := (fA.cell (a := ⟨vq, 0, none⟩) hvl id).trans c0
              replace c1 := (fA.cell (a := ⟨vq, 1, none⟩) hvl id).trans c1
              replace c2 := (fA.cell (a := ⟨vq, 2, none⟩) hvl id).trans c2
              replace c3 := (fA.cell (a := ⟨vq, 3, none⟩) hvl id).trans c3
              replace c4 := (fA.cell (a := ⟨vq, 4, none⟩) hvl id).trans c4
              replace c5 := (fA.cell (a := ⟨vq, 5, none⟩) hvl id).trans c5
              replace c6 := (fA.cell (a := ⟨vq, 6, none⟩) hvl id).trans c6
              replace c7 := (fA.cell (a := ⟨vq, 7, none⟩) hvl id).trans c7
              have HFA := hide fA
              have HTH := hide hth
              clear hwA fA hth R2 ck cw
              have R3 : ∀ (m : Nat) (x : Wd) (k : Int), 0 < k → k < 32 → Calls Tryd.prog 66 #[.int .u32 (N x), .int .u64 k] (wA.drewN m) fun e w'' => e = .returned (.int .u32 (N (rot x k.toNat))) ∧ ∃ m, w'' = wA.drewN m := fun m x k h0 h1 => r_q _ x k h0 h1 (fun w'' e => ⟨m, e⟩)
              go_quiet (exact R3 _ _ _ (by decide) (by decide))
              have ev2 : (bits BinOp.xor IntKind.u32 (bits BinOp.xor IntKind.u32 (N (rot xa 2)) (N (rot xa 13))) (N (rot xa 22)) + bits BinOp.xor IntKind.u32 (bits BinOp.xor IntKind.u32 (bits BinOp.and IntKind.u32 (N xa) (N xb)) (bits BinOp.and IntKind.u32 (N xa) (N xc))) (bits BinOp.and IntKind.u32 (N xb) (N xc))) % 4294967296 = N (ys (⟨xa, xb, xc, xd, xe, xf, xg, xh⟩ : St)) := by
                simp only [xor32, and32, add32]
                rfl
              simp only [ev2]
              clear ev2
              generalize hY : ys (⟨xa, xb, xc, xd, xe, xf, xg, xh⟩ : St) = Y at *
              have HY := hide hY
              clear hY
              have hth6 : ∀ k, (wA.drewN k).there vq 0 8 := fun k j hj => by
                have f6 : Fr (fun _ => False) wr (wA.drewN k) := (unhide HFA).drewN k
                rw [f6.cell (a := ⟨vq, 0 + j, none⟩) hvl id, f6.frozen (a := ⟨vq, 0 + j, none⟩) hvl id]
                exact unhide HTH j hj
              have a1 := add32 X Y
              have a2 := add32 xd X
              go_wp2_with (refine wpList_storeN rfl rfl 50 _ _ rfl vq 0 (wvs [X + Y, xa, xb, xc, xd + X, xe, xf, xg]).toArray rfl rfl (hth6 _) Tryd.s50 (wvs_one _) ?_)
              intro w6 hw6
              replace hw6 := unhide hw6
              have hS6 : WAt w6 vq 50 (rn W s (t5 + 1)).l ∧ Fr (fun k => k = vq) w4 w6 := by
                have fA2 : ∃ k, w6 = (wA.drewN k).setCells vq 0 (wvs [X + Y, xa, xb, xc, xd + X, xe, xf, xg]) := ⟨_, hw6⟩
                obtain ⟨k, e6⟩ := fA2
                have f6 : Fr (fun _ => False) wr (wA.drewN k) := (unhide HFA).drewN k
                have hz : ZAt (wA.drewN k) vq 50 8 := ((unhide HVV).z).kept f6 id
                rw [unhide HS', unhide HN, e6]
                refine ⟨?_, ((unhide HFF).trans (f6.mono (fun _ _ h => h.elim)) (fun _ _ h => h)).trans (setCells_frame _ _ _ _) (fun _ _ h => h)⟩
                have := hz.put [X + Y, xa, xb, xc, xd + X, xe, xf, xg] rfl
                rw [← unhide HX, ← unhide HY] at this ⊢
                exact this
              have HS6 := hide hS6
              clear hw6 hS6 c0 c1 c2 c3 c4 c5 c6 c7 hth6 R3
              go_wp2_with fail
              go_roundw
              case rel => exact ⟨t5 + 1, by omega, by go_num, (unhide HS6).1, (unhide HS6).2⟩
              case measure => simp [intOf]; omega
            · have t64 : t5 = 64 := by omega
              have hst := unhide HSTIR t5 t64
              generalize rn W s t5 = r at *
              have HST := hide hst
              have HV5 := hide hV
              have HA5 := hide ((unhide HA4).kept hF (by have := unhide HVQ; omega))
              have HR5 := hide ((unhide HR4).kept hF (by have := unhide HVQ; omega))
              have HF5 : Hid (Fr (fun _ => False) w wr) := hide ((unhide HF4).trans hF (fun i hi e => by have := unhide HVQ; have := (unhide F1).size; omega))
              clear hst HSTIR hV hF
              go_wp2_with fail
              go_loopw [17] (fun v w' => ∃ i : Nat, i ≤ 8 ∧ v = .int .i64 (i : Int) ∧ WAt w' vq 50 (mixd r s i) ∧ WAt w' w.heap.size 50 s.l ∧ ZAt w' (w.heap.size + 1) 50 8 ∧ Fr (fun _ => False) w w') (fun v _ => 8 - (intOf v).toNat)
              case atStart => exact ⟨0, by omega, rfl, unhide HV5, unhide HA5, unhide HR5, unhide HF5⟩
              case round =>
                obtain ⟨i, hi, rfl, hV, hA, hR, hF⟩ := hrel
                by_cases hlt8 : i < 8
                · have hz := hV.frozen i
                  have hl8 : (mixd r s i).length = 8 := by rw [mixd]; simp [St.l]; omega
                  have hc := hV.cell i (by omega)
                  have hca := hA.cell i hlt8
                  have h2 := mixd_step r s i hlt8
                  have HVX := hide hV
                  generalize (mixd r s i).getD i 0 = x at *
                  generalize s.l.getD i 0 = y at *
                  have ha := add32 x y
                  have hne : vq ≠ w.heap.size := by have := unhide HVQ; omega
                  have H2 := hide h2
                  have HA6 := hide hA
                  have HR6 := hide hR
                  have HF6 := hide hF
                  clear hV h2 hA hR hF hl8
                  go_wp2_with fail
                  refine wp_region_quietTail 9 (by kernel_rfl) (by kernel_rfl) ?_
                  simp only [List.take_succ_cons, List.take_zero]
                  repeat (go_big_quiet_step (fail))
                  refine wpQuiet_nil ?_
                  intro _ hw'
                  obtain ⟨nq, hw''⟩ := hw'
                  subst hw''
                  simp only [List.drop_succ_cons, List.drop_zero]
                  go_wp2_with fail
                  refine ⟨⟨i + 1, by omega, by go_num, ?_, ?_, ((unhide HR6).kept (frD wr nq (fun _ => False)) id).setCell _ _ _, ?_⟩, by simp [intOf]; omega⟩
                  · rw [← unhide H2]
                    exact ((unhide HVX).kept (frD wr nq (fun _ => False)) id).set i (x + y)
                  · exact ((unhide HA6).kept (frD wr nq (fun _ => False)) id).kept (S := fun k => k = vq) ((Fr.refl (fun k => k = vq) _).setCell (p := ⟨vq, i, none⟩) (fun _ => rfl) _) (fun e => hne e.symm)
                  · exact ((unhide HF6).drewN nq).setCell (fun h => absurd h (by have := unhide HVQ; have := (unhide F1).size; simp; omega)) _
                · have : i = 8 := by omega
                  subst this
                  obtain ⟨z, hz⟩ : ∃ z, z = stir s l := ⟨_, rfl⟩
                  have hm8 : mixd r s 8 = z.l := by rw [hz, ← unhide HST, St.add_comm]; rfl
                  rw [hm8] at hV
                  have HZ := hide hz
                  clear hz hm8
                  have hrng := hV.range
                  have hi : (Tryd.prog.info? 50).map (·.size) = some (wvs z.l).length := Tryd.s50
                  have hi2 : (Tryd.prog.info? 50).map (·.size) = some (wvs z.l).toArray.size := Tryd.s50
                  have hone := wvs_one z.l
                  have hth : wr.there (w.heap.size + 1) 0 (wvs z.l).toArray.size := hR.there
                  have hres := hR.put z.l rfl
                  have fin : Fr (fun _ => False) w (wr.setCells (w.heap.size + 1) 0 (wvs z.l)) := hF.trans (setCells_frame _ _ _ _) (fun i hi e => by omega)
                  clear hV hA hR hF
                  go_wp2_with (first | refine wpList_load_mid rfl 50 _ rfl vq 0 rfl (wvs z.l) _ hrng Tryd.u50 rfl hi ?_ | refine wpList_store_mid0 rfl rfl 50 _ _ rfl (w.heap.size + 1) 0 (wvs z.l).toArray rfl rfl hth hi2 hone ?_)
                  refine bodyPost_ret (ret_agg rfl _ _ (w.heap.size + 1) 0 _ _ rfl hres.range Tryd.u50 rfl hi) rfl ?_
                  rw [← unhide HZ]
                  exact ⟨rfl, fin⟩
end Go.Proofs.YtlicmlioilkfdaaDoor
