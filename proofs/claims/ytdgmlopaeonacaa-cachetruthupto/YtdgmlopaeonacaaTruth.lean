/-
  The walk of CacheTruth: Read tells what was written last; nothing goes home ahead of the journal; behind Flush home has all.
-/
import Derived.Test.YtdgmlopaeonacaaT1
import Derived.Test.YtdgmlopaeonacaaT2
import Derived.Test.YtdgmlopaeonacaaT3
import Derived.Test.YtdgmlopaeonacaaT4
import Derived.Test.YtdgmlopaeonacaaT5
import Derived.Deep.DeepCutAuto
import Derived.Deep.CutBlock
namespace Go.Proofs.Ytdgmlopaeonacaa
open Go.RowKit
set_option linter.unusedVariables false
set_option linter.unusedSimpArgs false

attribute [local go_sem ↓] Go.wp_at_zero Go.wp_at_succ

set_option maxRecDepth 100000 in
set_option maxHeartbeats 16000000 in
theorem cacheTruth_any (w : World) (nb pls : Int) (v : Value) (l : List Ac) (hl : RdC w v l) : Calls Try.prog 4 #[.int .i64 nb, .int .i64 pls, v] w fun e w' => e = .returned (.bool true) ∧ Fr (fun _ => False) w w' := by
  obtain ⟨ao, cap, rfl⟩ := hl.shape
  have HL := hide hl
  obtain ⟨L, hL⟩ : ∃ L, L = l.length := ⟨_, rfl⟩
  rw [← hL] at HL ⊢
  have HLL := hide hL
  have HHG : Hid (Calls Try.prog 6 #[.slice ao L cap] w fun e w' => HgE L e ∧ w = w') := hide (by rw [hL]; exact huge_any w _ l (by rw [← hL]; exact unhide HL))
  clear hl hL
  have HLV : Hid (∀ W, Fr (fun _ => False) w W → Calls Try.prog 7 #[] W fun e w' => e = .returned (.bool true) ∧ Fr (fun _ => False) w w') := hide (fun W f => (live_any W).mono (fun e w' h => ⟨h.1, f.trans h.2 (fun _ _ h => h)⟩))
  by_cases g0 : nb < 1
  · have b0 : decide (nb < 1) = true := by simpa using g0
    clear g0
    go_enter Try.func4, Try.ntmps4
    go_wp2_with fail
    refine (unhide HLV _ (Fr.refl _ _)).mono ?_
    rintro e w2 ⟨rfl, f2⟩
    have HF2 := hide f2
    clear f2
    go_wp2_with fail
    go_ret
    exact ⟨rfl, unhide HF2⟩
  have b0 : decide (nb < 1) = false := by simpa using g0
  by_cases g1 : 40 < nb
  · have b1 : decide (40 < nb) = true := by simpa using g1
    clear g1 g0
    go_enter Try.func4, Try.ntmps4
    go_wp2_with fail
    refine (unhide HLV _ (Fr.refl _ _)).mono ?_
    rintro e w2 ⟨rfl, f2⟩
    have HF2 := hide f2
    clear f2
    go_wp2_with fail
    go_ret
    exact ⟨rfl, unhide HF2⟩
  have b1 : decide (40 < nb) = false := by simpa using g1
  by_cases g2 : pls < 1
  · have b2 : decide (pls < 1) = true := by simpa using g2
    clear g2 g0 g1
    go_enter Try.func4, Try.ntmps4
    go_wp2_with fail
    refine (unhide HLV _ (Fr.refl _ _)).mono ?_
    rintro e w2 ⟨rfl, f2⟩
    have HF2 := hide f2
    clear f2
    go_wp2_with fail
    go_ret
    exact ⟨rfl, unhide HF2⟩
  have b2 : decide (pls < 1) = false := by simpa using g2
  by_cases g3 : 4096 < pls
  · have b3 : decide (4096 < pls) = true := by simpa using g3
    clear g3 g0 g1 g2
    go_enter Try.func4, Try.ntmps4
    go_wp2_with fail
    refine (unhide HLV _ (Fr.refl _ _)).mono ?_
    rintro e w2 ⟨rfl, f2⟩
    have HF2 := hide f2
    clear f2
    go_wp2_with fail
    go_ret
    exact ⟨rfl, unhide HF2⟩
  have b3 : decide (4096 < pls) = false := by simpa using g3
  obtain ⟨n, rfl⟩ : ∃ n : Nat, nb = (n : Int) := ⟨nb.toNat, by omega⟩
  obtain ⟨pl, rfl⟩ : ∃ pl : Nat, pls = (pl : Int) := ⟨pls.toNat, by omega⟩
  have hn1 : 1 ≤ n := by omega
  have hn2 : n ≤ 40 := by omega
  have hp1 : 1 ≤ pl := by omega
  have hp2 : pl ≤ 4096 := by omega
  clear g0 g1 g2 g3
  go_enter Try.func4, Try.ntmps4
  go_wp2_with fail
  refine (unhide HHG).mono ?_
  rintro e w' ⟨⟨bg, rfl, hbg⟩, rfl⟩
  rcases bg with _ | _
  · have hL2 : L ≤ 200 := hbg rfl
    clear hbg HHG
    go_wp2_with fail
    refine (newHome_any w n 0 0 (by omega) (by decide) (by decide)).mono ?_
    rintro e w1 ⟨⟨h, dv, vs, rfl, hH, hh1, hh2⟩, f1⟩
    have HN := hide (cs_new (w0 := w) hH f1 ⟨hh1, hh2⟩ pl ⟨hp1, hp2⟩)
    unfold ptr at *
    clear hH hh1 hh2 f1
    go_wp2_with fail
    refine (unhide HN).mono ?_
    rintro e w2 ⟨p, r, u, rfl, h2⟩
    have H2 := hide h2
    unfold ptr at *
    clear h2 HN
    have m1 := run_make60 n (by omega)
    have m2 := run_make61 n (by omega)
    obtain ⟨w3, hw3⟩ : ∃ w3, w3 = (w2.alloc (.cells (svs (List.replicate n [])).toArray 9)).alloc (.cells (cvs (List.replicate n 0)).toArray 38) := ⟨_, rfl⟩
    have F3 := hide (show Fr (fun _ => False) w2 w3 by rw [hw3]; exact ((Fr.refl _ _).alloc _).alloc _)
    have hs1 : (w2.alloc (.cells (svs (List.replicate n [])).toArray 9)).heap.size = w2.heap.size + 1 := by simp
    have HS3 : Hid (SAt w3 w2.heap.size (wnt n 0)) := hide (by
      unfold SAt wnt
      rw [hw3, Below.heap_alloc _ _ _ (by rw [hs1]; omega), heap_alloc_new]
      simp)
    have HU3 : Hid (UAt w3 (w2.heap.size + 1) (List.replicate n 0)) := hide (by
      unfold UAt
      rw [hw3, ← hs1, heap_alloc_new])
    have HW3 := hide hw3
    obtain ⟨gw, hgw⟩ : ∃ gw, gw = w2.heap.size := ⟨_, rfl⟩
    have HGW : Hid (w.heap.size ≤ gw) := hide (by rw [hgw]; exact (unhide H2).f.size)
    rw [← hgw] at HS3 HU3 hs1
    clear hw3
    go_wp2_with (go_at_call 12; refine (num_any _ _).mono ?_; rintro e w' ⟨rfl, rfl⟩)
    rw [show ((w2.alloc (.cells (svs (List.replicate n [])).toArray 9)).alloc (.cells (cvs (List.replicate n 0)).toArray 38)) = w3 from (unhide HW3).symm]
    have hgz : w2.heap.size = gw := hgw.symm
    try simp only [hgz]
    go_loopw [13] (fun y W => ∃ i : Nat, i ≤ n ∧ y = .int .i64 (i : Int) ∧ SAt W gw (wnt n i) ∧ UAt W (gw + 1) (List.replicate n 0) ∧ CS (w, w) W p h r u dv ⟨pl, 0, 0, 0⟩ (hmN n 0 0) []) (fun y _ => n - (intOf y).toNat)
    case atStart => exact ⟨0, by omega, rfl, unhide HS3, unhide HU3, (unhide H2).fr (unhide F3)⟩
    case round =>
      clear HS3 HU3 HW3 F3 H2 m1 m2 hs1 hgz hgw
      obtain ⟨i, hi, rfl, hS, hU, hC⟩ := hrel
      have HS := hide hS
      have HU := hide hU
      have HC := hide hC
      by_cases hlt : i < n
      · obtain ⟨g, dc, bb, rfl, hd1, hd2, hd3, hd4, hB⟩ := cs_home hC i z384 (by simp [hmN, hlt])
        have hnl : (hmN n 0 0).D.length = n := by simp [hmN]
        rw [hnl] at hd1 hd2 hd3
        have cv := conv_rd (P := Try.prog) (hB.rd (by decide)) 37 9 5 Try.underlying37 Try.underlying5 Try.underlying9
        have hzl : z384.length = 384 := by kernel_rfl
        rw [hzl] at cv
        have hcs := hS.cell (wnt_get hlt)
        have hzs := frozen_of_heap hS i
        have HN5 : Hid (CS (w, w) (wr.setCell ⟨gw, i, none⟩ (.string (str z384))) p h r u _ ⟨pl, 0, 0, 0⟩ (hmN n 0 0) []) := hide (hC.off (unhide HGW) (.inl (knd_cells hS)) _)
        have HNS : Hid (SAt (wr.setCell ⟨gw, i, none⟩ (.string (str z384))) gw (wnt n (i + 1))) := hide (by rw [← wnt_set hlt]; exact hS.set i z384)
        have HNU : Hid (UAt (wr.setCell ⟨gw, i, none⟩ (.string (str z384))) (gw + 1) (List.replicate n 0)) := hide (hU.kept (S := fun k => k = gw) (Fr.setCell (S := fun k => k = gw) (Fr.refl _ _) (p := ⟨gw, i, none⟩) (fun _ => rfl) _) (by omega))
        generalize str z384 = sz at *
        clear hS hU hC hB hnl hzl
        go_wp2_with fail
        go_roundw
        case rel => exact ⟨i + 1, by omega, by go_num, unhide HNS, unhide HNU, unhide HN5⟩
        case measure => simp [intOf]; omega
      · have hie : n = i := by omega
        have HS0 := hide (LS.init hC (by have h := hS; rw [← hie] at h; simpa [wnt] using h) hU (unhide HGW) (Nat.le_succ_of_le (unhide HGW)))
        clear hS hU hC HS HU HC hi hlt
        subst hie
        go_wp2_with fail
        go_loopw [12, 14] (fun x y W => ∃ (i : Nat) (c : Ca) (m : Hm) (ll : List Pl) (want : List (List UInt8)) (last : List Nat), i ≤ L ∧ y = .int .i64 (i : Int) ∧ x = .int .u64 (c.safe : Int) ∧ LS w W p h r u dv gw (gw + 1) n pl i c m ll want last) (fun _ y _ => L - (intOf y).toNat)
        case atStart => exact ⟨0, _, _, _, _, _, by omega, rfl, rfl, unhide HS0⟩
        case round =>
          clear HS0
          obtain ⟨i, c, m, ll, want, last, hi, rfl, rfl, hS⟩ := hrel
          obtain ⟨sf, hsf⟩ : ∃ sf, sf = c.safe := ⟨_, rfl⟩
          rw [← hsf]
          have HSF0 := hide hsf
          clear hsf
          have HS := hide hS
          by_cases hlt : i < L
          · have i1 : i < l.length := by have := unhide HLL; omega
            have hRd := (unhide HL).kept hS.cs.f
            obtain ⟨bb, oo, rfl, -, hnc, hcm, hc⟩ := hRd.lits (by omega)
            obtain ⟨y0, y1, y2, y3, y4⟩ := hc i i1
            have hOk := hRd.2 l[i] (List.getElem_mem i1)
            have hOw := (unhide HL).2 l[i] (List.getElem_mem i1)
            have hic : i < cap := by omega
            generalize l[i] = a at *
            obtain ⟨kd, kb, pv, P, ch, kn⟩ := a
            have hch := hOk.ch
            have hrd := hOk.rd
            have hrw := hOw.rd
            have hpl := hOk.len
            dsimp only at y0 y1 y2 y3 y4 hch hrd hrw hpl
            obtain ⟨po, pc, rfl⟩ := hrd.shape
            obtain ⟨w4, hw4⟩ : ∃ w4, w4 = wr.alloc (.cells #[.int .i64 kd, .int .i64 kb, .slice po P.length pc, .int .u64 (ch : Int), .int .i64 kn] 40) := ⟨_, rfl⟩
            have f4 : Fr (fun _ => False) wr w4 := by rw [hw4]; exact (Fr.refl _ _).alloc _
            obtain ⟨ga, hga⟩ : ∃ ga, ga = wr.heap.size := ⟨_, rfl⟩
            have hA4 : AAt w4 ga kd kb (.slice po P.length pc) ch kn := by unfold AAt; rw [hw4, hga]; exact heap_alloc_new wr _
            have HR4 := hide (hrd.kept f4 (fun _ _ h => h))
            have HA4 := hide hA4
            have HS4 := hide (hS.fr f4)
            have HW4 := hide hw4
            have HGA := hide hga
            obtain ⟨c0, c1, c2, c3, c4⟩ := hA4.cells
            obtain ⟨lo4, lc4, hg4, hr4⟩ := cs_log (unhide HS4).cs
            obtain ⟨lg, hlg⟩ : ∃ lg, lg = m.log.length := ⟨_, rfl⟩
            rw [← hlg] at hg4
            have HLG0 := hide hlg
            obtain ⟨pn, hpn⟩ : ∃ pn, pn = P.length := ⟨_, rfl⟩
            rw [← hpn] at y2 hw4 HA4 HW4 HR4 c2 hrw
            have HRW := hide hrw
            have HPN := hide hpn
            have e1 : (wr.alloc (.cells #[.int .i64 kd, .int .i64 kb, .slice po pn pc, .int .u64 (ch : Int), .int .i64 kn] 40)).cell? ⟨h, 1, none⟩ = some (.slice lo4 lg lc4) := by rw [← hw4]; exact hg4
            have e2 : (wr.alloc (.cells #[.int .i64 kd, .int .i64 kb, .slice po pn pc, .int .u64 (ch : Int), .int .i64 kn] 40)).cell? ⟨wr.heap.size, 0, none⟩ = some (.int .i64 kd) := by rw [← hw4, ← hga]; exact c0
            have e3 : (wr.alloc (.cells #[.int .i64 kd, .int .i64 kb, .slice po pn pc, .int .u64 (ch : Int), .int .i64 kn] 40)).cell? ⟨wr.heap.size, 1, none⟩ = some (.int .i64 kb) := by rw [← hw4, ← hga]; exact c1
            have e4 : (wr.alloc (.cells #[.int .i64 kd, .int .i64 kb, .slice po pn pc, .int .u64 (ch : Int), .int .i64 kn] 40)).cell? ⟨wr.heap.size, 3, none⟩ = some (.int .u64 (ch : Int)) := by rw [← hw4, ← hga]; exact c3
            have e5 : (wr.alloc (.cells #[.int .i64 kd, .int .i64 kb, .slice po pn pc, .int .u64 (ch : Int), .int .i64 kn] 40)).cell? ⟨wr.heap.size, 4, none⟩ = some (.int .i64 kn) := by rw [← hw4, ← hga]; exact c4
            clear hc hS hRd hOk hOw hrw hrd f4 hA4 hr4 hlg hpn hw4 HS i1 c0 c1 c2 c3 c4 hga hg4
            go_upto_region 19 with fail
            go_cut [17] (fun c wx => ∃ b : Bool, c = .bool b ∧ (b = true ↔ (0 ≤ kb ∧ kb < (n : Int))) ∧ w4 = wx)
            case first =>
              have hin : (decide (0 ≤ kb) = true ∧ decide (kb < (n : Int)) = true) ∨ (decide (0 ≤ kb) = true ∧ decide (kb < (n : Int)) = false) ∨ decide (0 ≤ kb) = false := by
                by_cases x1 : 0 ≤ kb <;> by_cases x2 : kb < (n : Int) <;> simp [x1, x2]
              rcases hin with ⟨x1, x2⟩ | ⟨x1, x2⟩ | x1
              · go_wp2_with fail
                go_meet
                case rel => exact ⟨true, rfl, ⟨fun _ => ⟨of_decide_eq_true x1, of_decide_eq_true x2⟩, fun _ => rfl⟩, unhide HW4⟩
              · go_wp2_with fail
                go_meet
                case rel => exact ⟨false, rfl, ⟨fun h => absurd h (by decide), fun h => absurd h.2 (of_decide_eq_false x2)⟩, unhide HW4⟩
              · go_wp2_with fail
                go_meet
                case rel => exact ⟨false, rfl, ⟨fun h => absurd h (by decide), fun h => absurd h.1 (of_decide_eq_false x1)⟩, unhide HW4⟩
            case rest =>
              obtain ⟨bi, rfl, hbi, rfl⟩ := hcut
              have HBI := hide hbi
              clear hbi e1 e2 e3 e4 e5
              rw [← unhide HGA]
              obtain ⟨c0, c1, c2, c3, c4⟩ := (unhide HA4).cells
              go_upto_block 4 with fail
              go_cut [12, 18, 19] (fun x _ _ W => TrR w W p h r u dv gw n pl i m x)
              case rest =>
                obtain ⟨c5, m5, l5, want5, last5, rfl, hS5, hLG⟩ := hcut
                obtain ⟨sf5, hsf5⟩ : ∃ sf5, sf5 = c5.safe := ⟨_, rfl⟩
                rw [← hsf5] at hLG ⊢
                have HSF := hide hsf5
                have HS5 := hide hS5
                have HLG := hide hLG
                clear hsf5 hS5 hLG HSF0 HS4 HR4 HA4 HW4 HGA HBI c0 c1 c2 c3 c4 HPN HRW hpl
                unfold ptr at *
                go_upto_block 5 with fail
                refine truth_log hL2 (by omega) hp2 HSF HLG0 HS5 HLG ?_
                intro y6 y20 y193 y194 y195 y196 y197 y198 y199 y200 y201 y202 y203 y204 y205 y206 y207 y208 y209 y210 y211 y212 y213 y214 y215 y216 y217 y218 y219 y220 y221 y222 y223 y224 y225 y226 y227 y228 y229 y230 y231 y232 y233 y234 y235 y236 y237 y238 y239 y240 W6 hS6
                have HS6 := hide hS6
                clear hS6 HS5 HLG
                apply_assumption
                dsimp only
                have HHD := hide (cs_held (unhide HS6).cs (by have h1 := (unhide HS6).len; have h2 := (unhide HS6).pl; omega))
                have hhl : l5.length ≤ pl := by have h1 := (unhide HS6).len; have h2 := (unhide HS6).pl; omega
                obtain ⟨n5, hn5⟩ : ∃ n5, n5 = l5.length := ⟨_, rfl⟩
                rw [← hn5] at HHD hhl
                have hb9 : decide ((pl : Int) < (n5 : Int)) = false := by simp; omega
                have hb8 : decide (pl < n5) = false := by simp; omega
                clear hn5
                unfold ptr at *
                go_wp2_with fail
                refine (unhide HHD).mono ?_
                rintro e w8 ⟨⟨ao8, cc8, rfl, -⟩, f8⟩
                have HS8 := hide ((unhide HS6).fr f8)
                clear f8 HHD
                go_wp2_with fail
                go_roundw
                case rel => exact ⟨i + 1, c5, m5, l5, want5, last5, by omega, by go_num, by rw [unhide HSF], unhide HS8⟩
                case measure => simp [intOf]; omega
              case first =>
                by_cases k0 : kd = 0
                · refine truth_arm0 hL2 hlt hp2 hch hpl HSF0 HPN HBI HS4 HR4 HRW HA4 ?_ k0
                  intro y12 y6 y18 y19 y104 y105 y106 y107 y108 y109 y110 y111 y112 y113 y114 y115 y116 y117 y118 y119 y120 y121 y122 y123 y124 y125 y126 y127 y128 y129 y130 y131 y132 y133 y134 y135 y136 y137 y138 y139 y140 y141 y142 y143 y144 y145 y146 y147 y148 y149 y150 y151 y152 y153 y154 y155 y156 y157 y158 y159 y160 y161 y162 y163 y164 y165 y166 y167 y168 y169 y170 y171 y172 y173 y174 y175 y176 y177 y178 y179 y180 y181 y182 y183 y184 y185 y186 y187 y188 y189 y190 y191 W hR
                  dsimp only
                  apply_assumption
                  go_meet
                  case rel => exact hR
                by_cases k1 : kd = 1
                · refine truth_arm1 hL2 hlt hp2 hch hpl HSF0 HPN HBI HS4 HR4 HRW HA4 ?_ k1
                  intro y12 y6 y18 y19 y104 y105 y106 y107 y108 y109 y110 y111 y112 y113 y114 y115 y116 y117 y118 y119 y120 y121 y122 y123 y124 y125 y126 y127 y128 y129 y130 y131 y132 y133 y134 y135 y136 y137 y138 y139 y140 y141 y142 y143 y144 y145 y146 y147 y148 y149 y150 y151 y152 y153 y154 y155 y156 y157 y158 y159 y160 y161 y162 y163 y164 y165 y166 y167 y168 y169 y170 y171 y172 y173 y174 y175 y176 y177 y178 y179 y180 y181 y182 y183 y184 y185 y186 y187 y188 y189 y190 y191 W hR
                  dsimp only
                  apply_assumption
                  go_meet
                  case rel => exact hR
                by_cases k2 : kd = 2
                · refine truth_arm2 hL2 hlt hp2 hch hpl HSF0 HPN HBI HS4 HR4 HRW HA4 ?_ k2
                  intro y12 y6 y18 y19 y104 y105 y106 y107 y108 y109 y110 y111 y112 y113 y114 y115 y116 y117 y118 y119 y120 y121 y122 y123 y124 y125 y126 y127 y128 y129 y130 y131 y132 y133 y134 y135 y136 y137 y138 y139 y140 y141 y142 y143 y144 y145 y146 y147 y148 y149 y150 y151 y152 y153 y154 y155 y156 y157 y158 y159 y160 y161 y162 y163 y164 y165 y166 y167 y168 y169 y170 y171 y172 y173 y174 y175 y176 y177 y178 y179 y180 y181 y182 y183 y184 y185 y186 y187 y188 y189 y190 y191 W hR
                  dsimp only
                  apply_assumption
                  go_meet
                  case rel => exact hR
                by_cases k3 : kd = 3
                · refine truth_arm3 hL2 hlt hp2 hch hpl HSF0 HPN HBI HS4 HR4 HRW HA4 ?_ k3
                  intro y12 y6 y18 y19 y104 y105 y106 y107 y108 y109 y110 y111 y112 y113 y114 y115 y116 y117 y118 y119 y120 y121 y122 y123 y124 y125 y126 y127 y128 y129 y130 y131 y132 y133 y134 y135 y136 y137 y138 y139 y140 y141 y142 y143 y144 y145 y146 y147 y148 y149 y150 y151 y152 y153 y154 y155 y156 y157 y158 y159 y160 y161 y162 y163 y164 y165 y166 y167 y168 y169 y170 y171 y172 y173 y174 y175 y176 y177 y178 y179 y180 y181 y182 y183 y184 y185 y186 y187 y188 y189 y190 y191 W hR
                  dsimp only
                  apply_assumption
                  go_meet
                  case rel => exact hR
                by_cases k4 : kd = 4
                · refine truth_arm4 hL2 hlt hp2 hch hpl HSF0 HPN HBI HS4 HR4 HRW HA4 ?_ k4
                  intro y12 y6 y18 y19 y104 y105 y106 y107 y108 y109 y110 y111 y112 y113 y114 y115 y116 y117 y118 y119 y120 y121 y122 y123 y124 y125 y126 y127 y128 y129 y130 y131 y132 y133 y134 y135 y136 y137 y138 y139 y140 y141 y142 y143 y144 y145 y146 y147 y148 y149 y150 y151 y152 y153 y154 y155 y156 y157 y158 y159 y160 y161 y162 y163 y164 y165 y166 y167 y168 y169 y170 y171 y172 y173 y174 y175 y176 y177 y178 y179 y180 y181 y182 y183 y184 y185 y186 y187 y188 y189 y190 y191 W hR
                  dsimp only
                  apply_assumption
                  go_meet
                  case rel => exact hR
                by_cases k5 : kd = 5
                · refine truth_arm5 hL2 hlt hp2 hch hpl HSF0 HPN HBI HS4 HR4 HRW HA4 ?_ k5
                  intro y12 y6 y18 y19 y104 y105 y106 y107 y108 y109 y110 y111 y112 y113 y114 y115 y116 y117 y118 y119 y120 y121 y122 y123 y124 y125 y126 y127 y128 y129 y130 y131 y132 y133 y134 y135 y136 y137 y138 y139 y140 y141 y142 y143 y144 y145 y146 y147 y148 y149 y150 y151 y152 y153 y154 y155 y156 y157 y158 y159 y160 y161 y162 y163 y164 y165 y166 y167 y168 y169 y170 y171 y172 y173 y174 y175 y176 y177 y178 y179 y180 y181 y182 y183 y184 y185 y186 y187 y188 y189 y190 y191 W hR
                  dsimp only
                  apply_assumption
                  go_meet
                  case rel => exact hR
                refine truth_arm6 hL2 hlt hp2 hch hpl HSF0 HPN HBI HS4 HR4 HRW HA4 ?_ k0 k1 k2 k3 k4 k5
                intro y12 y6 y18 y19 y104 y105 y106 y107 y108 y109 y110 y111 y112 y113 y114 y115 y116 y117 y118 y119 y120 y121 y122 y123 y124 y125 y126 y127 y128 y129 y130 y131 y132 y133 y134 y135 y136 y137 y138 y139 y140 y141 y142 y143 y144 y145 y146 y147 y148 y149 y150 y151 y152 y153 y154 y155 y156 y157 y158 y159 y160 y161 y162 y163 y164 y165 y166 y167 y168 y169 y170 y171 y172 y173 y174 y175 y176 y177 y178 y179 y180 y181 y182 y183 y184 y185 y186 y187 y188 y189 y190 y191 W hR
                dsimp only
                apply_assumption
                go_meet
                case rel => exact hR
          · have hie : L = i := by omega
            have HS7 := hide hS
            clear hS hlt hi HS HL HLL
            subst hie
            have HFL := hide (ls_flush (unhide HS7) (by omega) hp2)
            have HHM := hide (fun e => ls_home (unhide HS7) e)
            clear HS7
            generalize (flR c m ll).1 = e5 at *
            generalize (flR c m ll).2.1 = m7 at *
            generalize (flR c m ll).2.2 = l7 at *
            unfold ptr at *
            go_wp2_with fail
            refine (unhide HFL).mono ?_
            rintro e w7 ⟨rfl, hS8⟩
            have HS8 := hide hS8
            clear hS8 HFL
            by_cases he : e5 = 0
            · subst he
              have HD : Hid (m7.D = want) := hide (unhide HHM rfl)
              clear HHM
              go_upto_block 7 with (go_at_call 12; refine (num_any _ _).mono ?_; rintro e w' ⟨rfl, rfl⟩)
              refine truth_hold7 (by omega) HS8 HD ?_
              intro y6 y21 y250 y251 y252 y253 y254 y255 y256 y257 y258 y259 y260 y261 y262 y263 y264 y265 y266 y267 W9 hS9
              have HS9 := hide hS9
              clear hS9 HS8
              apply_assumption
              dsimp only
              have HSA := hide (ls_safe (unhide HS9) (by omega) hp2 18446744073709551615 (by decide))
              go_wp2_with fail
              refine (unhide HSA).mono ?_
              rintro e w10 ⟨rfl, hS10⟩
              have HFL2 := hide (ls_flush hS10 (by omega) hp2)
              obtain ⟨z1, z2, z3⟩ := ls_all hS10 (by show _ ≤ max _ _; omega)
              rw [z1] at HFL2
              have HD2 := hide z2
              have HZ3 := hide z3
              clear z1 z2 z3 hS10 HSA HS9
              generalize ({ c with safe := max c.safe 18446744073709551615 } : Ca) = c10 at *
              generalize (flR c10 m7 l7).2.1 = m10 at *
              generalize (flR c10 m7 l7).2.2 = l10 at *
              unfold ptr at *
              go_wp2_with fail
              refine (unhide HFL2).mono ?_
              rintro e w11 ⟨rfl, hS11⟩
              have HDT := hide (cs_dirty hS11.cs (by have h1 := hS11.len; have h2 := hS11.pl; omega))
              rw [unhide HZ3] at HDT
              have HS11 := hide hS11
              clear hS11 HFL2
              unfold ptr at *
              go_wp2_with (go_at_call 12; refine (num_any _ _).mono ?_; rintro e w' ⟨rfl, rfl⟩)
              refine (unhide HDT).mono ?_
              rintro e w12 ⟨⟨ao9, cc9, rfl, -⟩, f12⟩
              have HS11 := hide ((unhide HS11).fr f12)
              clear f12 HDT HZ3
              go_upto_block 9 with fail
              refine truth_hold9 (by omega) HS11 HD2 ?_
              intro y6 y22 y280 y281 y282 y283 y284 y285 y286 y287 y288 y289 y290 y291 y292 y293 y294 y295 y296 y297 W9 hS9
              have HS9 := hide hS9
              clear hS9 HS11
              apply_assumption
              dsimp only
              go_wp2_with fail
              refine (unhide HLV _ (unhide HS9).cs.f).mono ?_
              rintro e w12 ⟨rfl, f12⟩
              have HF12 := hide f12
              clear f12
              go_wp2_with fail
              go_ret
              exact ⟨rfl, unhide HF12⟩
            · have qe : (e5 == 0) = false := by simpa using he
              have HS9 := HS8
              clear HS8 HHM he
              go_wp2_with (go_at_call 12; refine (num_any _ _).mono ?_; rintro e w' ⟨rfl, rfl⟩)
              have HSA := hide (ls_safe (unhide HS9) (by omega) hp2 18446744073709551615 (by decide))
              refine (unhide HSA).mono ?_
              rintro e w10 ⟨rfl, hS10⟩
              have HFL2 := hide (ls_flush hS10 (by omega) hp2)
              obtain ⟨z1, z2, z3⟩ := ls_all hS10 (by show _ ≤ max _ _; omega)
              rw [z1] at HFL2
              have HD2 := hide z2
              have HZ3 := hide z3
              clear z1 z2 z3 hS10 HSA HS9
              generalize ({ c with safe := max c.safe 18446744073709551615 } : Ca) = c10 at *
              generalize (flR c10 m7 l7).2.1 = m10 at *
              generalize (flR c10 m7 l7).2.2 = l10 at *
              unfold ptr at *
              go_wp2_with fail
              refine (unhide HFL2).mono ?_
              rintro e w11 ⟨rfl, hS11⟩
              have HDT := hide (cs_dirty hS11.cs (by have h1 := hS11.len; have h2 := hS11.pl; omega))
              rw [unhide HZ3] at HDT
              have HS11 := hide hS11
              clear hS11 HFL2
              unfold ptr at *
              go_wp2_with (go_at_call 12; refine (num_any _ _).mono ?_; rintro e w' ⟨rfl, rfl⟩)
              refine (unhide HDT).mono ?_
              rintro e w12 ⟨⟨ao9, cc9, rfl, -⟩, f12⟩
              have HS11 := hide ((unhide HS11).fr f12)
              clear f12 HDT HZ3
              go_upto_block 9 with fail
              refine truth_hold9 (by omega) HS11 HD2 ?_
              intro y6 y22 y280 y281 y282 y283 y284 y285 y286 y287 y288 y289 y290 y291 y292 y293 y294 y295 y296 y297 W9 hS9
              have HS9 := hide hS9
              clear hS9 HS11
              apply_assumption
              dsimp only
              go_wp2_with fail
              refine (unhide HLV _ (unhide HS9).cs.f).mono ?_
              rintro e w12 ⟨rfl, f12⟩
              have HF12 := hide f12
              clear f12
              go_wp2_with fail
              go_ret
              exact ⟨rfl, unhide HF12⟩
  · clear hbg HHG
    go_wp2_with fail
    refine (unhide HLV _ (Fr.refl _ _)).mono ?_
    rintro e w2 ⟨rfl, f2⟩
    have HF2 := hide f2
    clear f2
    go_wp2_with fail
    go_ret
    exact ⟨rfl, unhide HF2⟩
end Go.Proofs.Ytdgmlopaeonacaa
