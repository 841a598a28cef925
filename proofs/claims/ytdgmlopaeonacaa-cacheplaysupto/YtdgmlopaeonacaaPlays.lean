/-
  The walk of CachePlays: every acts over a home that fails: what goes home and when, what is at hand.
-/
import Derived.Test.YtdgmlopaeonacaaM26
import Derived.Deep.DeepCutAuto
import Derived.Deep.CutBlock
namespace Go.Proofs.Ytdgmlopaeonacaa
set_option linter.unusedVariables false
set_option linter.unusedSimpArgs false
open Go.RowKit
set_option linter.unusedVariables false
set_option linter.unusedSimpArgs false

attribute [local go_sem ↓] Go.wp_at_zero Go.wp_at_succ

set_option maxRecDepth 100000 in
set_option maxHeartbeats 16000000 in
theorem cachePlays_any (w : World) (nb pls bd lo : Int) (v : Value) (l : List Ac) (hl : RdC w v l) : Calls Try.prog 3 #[.int .i64 nb, .int .i64 pls, .int .i64 bd, .int .i64 lo, v] w fun e w' => e = .returned (.bool true) ∧ Fr (fun _ => False) w w' := by
  obtain ⟨ao, cap, rfl⟩ := hl.shape
  have HL := hide hl
  obtain ⟨L, hL⟩ : ∃ L, L = l.length := ⟨_, rfl⟩
  rw [← hL] at HL ⊢
  have HLL := hide hL
  have HHG : Hid (Calls Try.prog 6 #[.slice ao L cap] w fun e w' => HgE L e ∧ w = w') := hide (by rw [hL]; exact huge_any w _ l (by rw [← hL]; exact unhide HL))
  clear hl hL
  have HLV : Hid (∀ W, Fr (fun _ => False) w W → Calls Try.prog 7 #[] W fun e w' => e = .returned (.bool true) ∧ Fr (fun _ => False) w w') := hide (fun W f => (live_any W).mono (fun e w' h => ⟨h.1, f.trans h.2 (fun _ _ h => h)⟩))
  by_cases g0 : nb < 0
  · have b0 : decide (nb < 0) = true := by simpa using g0
    clear g0
    go_enter Try.func3, Try.ntmps3
    go_wp2_with fail
    refine (unhide HLV _ (Fr.refl _ _)).mono ?_
    rintro e w2 ⟨rfl, f2⟩
    have HF2 := hide f2
    clear f2
    go_wp2_with fail
    go_ret
    exact ⟨rfl, unhide HF2⟩
  have b0 : decide (nb < 0) = false := by simpa using g0
  by_cases g1 : 40 < nb
  · have b1 : decide (40 < nb) = true := by simpa using g1
    clear g1
    go_enter Try.func3, Try.ntmps3
    go_wp2_with fail
    refine (unhide HLV _ (Fr.refl _ _)).mono ?_
    rintro e w2 ⟨rfl, f2⟩
    have HF2 := hide f2
    clear f2
    go_wp2_with fail
    go_ret
    exact ⟨rfl, unhide HF2⟩
  have b1 : decide (40 < nb) = false := by simpa using g1
  obtain ⟨n, rfl⟩ : ∃ n : Nat, nb = (n : Int) := ⟨nb.toNat, by omega⟩
  have hn2 : n ≤ 40 := by omega
  clear g0 g1
  go_enter Try.func3, Try.ntmps3
  go_wp2_with fail
  refine (unhide HHG).mono ?_
  rintro e w' ⟨⟨bg, rfl, hbg⟩, rfl⟩
  rcases bg with _ | _
  rotate_left
  · clear hbg
    go_wp2_with fail
    refine (unhide HLV _ (Fr.refl _ _)).mono ?_
    rintro e w2 ⟨rfl, f2⟩
    have HF2 := hide f2
    clear f2
    go_wp2_with fail
    go_ret
    exact ⟨rfl, unhide HF2⟩
  have hL2 : L ≤ 200 := hbg rfl
  clear hbg HHG
  by_cases g2 : bd < 0
  · have b2 : decide (bd < 0) = true := by simpa using g2
    clear g2
    go_wp2_with fail
    refine (unhide HLV _ (Fr.refl _ _)).mono ?_
    rintro e w2 ⟨rfl, f2⟩
    have HF2 := hide f2
    clear f2
    go_wp2_with fail
    go_ret
    exact ⟨rfl, unhide HF2⟩
  have b2 : decide (bd < 0) = false := by simpa using g2
  by_cases g3 : 1000000 < bd
  · have b3 : decide (1000000 < bd) = true := by simpa using g3
    clear g3
    go_wp2_with fail
    refine (unhide HLV _ (Fr.refl _ _)).mono ?_
    rintro e w2 ⟨rfl, f2⟩
    have HF2 := hide f2
    clear f2
    go_wp2_with fail
    go_ret
    exact ⟨rfl, unhide HF2⟩
  have b3 : decide (1000000 < bd) = false := by simpa using g3
  by_cases g4 : lo < 0
  · have b4 : decide (lo < 0) = true := by simpa using g4
    clear g4
    go_wp2_with fail
    refine (unhide HLV _ (Fr.refl _ _)).mono ?_
    rintro e w2 ⟨rfl, f2⟩
    have HF2 := hide f2
    clear f2
    go_wp2_with fail
    go_ret
    exact ⟨rfl, unhide HF2⟩
  have b4 : decide (lo < 0) = false := by simpa using g4
  by_cases g5 : 1000000 < lo
  · have b5 : decide (1000000 < lo) = true := by simpa using g5
    clear g5
    go_wp2_with fail
    refine (unhide HLV _ (Fr.refl _ _)).mono ?_
    rintro e w2 ⟨rfl, f2⟩
    have HF2 := hide f2
    clear f2
    go_wp2_with fail
    go_ret
    exact ⟨rfl, unhide HF2⟩
  have b5 : decide (1000000 < lo) = false := by simpa using g5
  obtain ⟨bad, rfl⟩ : ∃ n : Nat, bd = (n : Int) := ⟨bd.toNat, by omega⟩
  obtain ⟨long, rfl⟩ : ∃ n : Nat, lo = (n : Int) := ⟨lo.toNat, by omega⟩
  have hbad : bad ≤ 1000000 := by omega
  have hlong : long ≤ 1000000 := by omega
  clear g2 g3 g4 g5
  go_wp2_with fail
  refine (newHome_any w n bad long (by omega) hbad hlong).mono ?_
  rintro e w1 ⟨⟨h, dv, vs, rfl, hH, hh1, hh2⟩, f1⟩
  have HC := hide (copy_any _ _ _ _ _ hH (by rfl) (by simp [hmN]; omega))
  have HH1 := hide hH
  have HF1 := hide f1
  have HQ1 := hide hh1
  have HQ2 := hide hh2
  unfold ptr at *
  clear hH hh1 hh2 f1 b0 b1 b2 b3 b4 b5
  go_wp2_with fail
  refine (unhide HC).mono ?_
  rintro e w2 ⟨⟨g, dv2, lg2, vs2, rfl, hG, e3, e4, e5⟩, f2⟩
  have HG := hide hG
  have HF2 := hide f2
  have HQ3 := hide e3
  have HQ4 := hide e4
  have HQ5 := hide e5
  unfold ptr at *
  clear hG e3 e4 e5 f2 HC
  by_cases hpr : pls < 1 ∨ 4096 < pls
  · have HN := hide (new_no2 w2 h pls hpr)
    have HD := hide (dnew_no (w := w2) (g := g) pls hpr)
    have HF12 := hide ((unhide HF1).trans (unhide HF2) (fun _ _ e => e))
    unfold ptr at *
    clear hpr
    go_wp2_with fail
    refine (unhide HN).mono ?_
    rintro e w' ⟨rfl, rfl⟩
    go_wp2_with fail
    refine (unhide HD).mono ?_
    rintro e w' ⟨rfl, rfl⟩
    go_wp2_with (go_at_call 12; refine (num_any _ _).mono ?_; rintro e w' ⟨rfl, rfl⟩)
    go_loopw [17] (fun y W => y = .int .i64 0 ∧ Fr (fun _ => False) w W) (fun _ _ => 0)
    case atStart => exact ⟨rfl, unhide HF12⟩
    case round =>
      obtain ⟨rfl, hfr⟩ := hrel
      have HFR := hide hfr
      clear hfr
      go_wp2_with fail
      all_goals
        refine (unhide HLV _ (unhide HFR)).mono ?_
        rintro e w9 ⟨rfl, f9⟩
        have HF9 := hide f9
        clear f9
        go_wp2_with fail
        go_ret
        exact ⟨rfl, unhide HF9⟩
  obtain ⟨pl, rfl⟩ : ∃ n : Nat, pls = (n : Int) := ⟨pls.toNat, by omega⟩
  have hpl : 1 ≤ pl ∧ pl ≤ 4096 := by omega
  clear hpr
  go_wp2_with fail
  refine (new_ok w2 h pl hpl).mono ?_
  rintro e w3 ⟨⟨p, r, u, rfl, hK, e6, e7, e8⟩, f3⟩
  have HD := hide (@dnew_ok w3 g avNo pl hpl)
  have HK := hide hK
  have HF3 := hide f3
  have HQ6 := hide e6
  have HQ7 := hide e7
  have HQ8 := hide e8
  unfold ptr at *
  clear hK e6 e7 e8 f3
  go_wp2_with fail
  refine (unhide HD).mono ?_
  rintro e w4 ⟨rfl, hDA, f4⟩
  obtain ⟨q, hq⟩ : ∃ q, q = w3.heap.size := ⟨_, rfl⟩
  have HLP : Hid (@LP avNo w w4 p h r u dv q g dv2 0 ⟨pl, 0, 0, 0⟩ (hmN n bad long) []) := hide (by
    rw [hq]
    exact lp_init hpl rfl (unhide HF1) (unhide HH1) (unhide HQ1) (unhide HQ2) (unhide HF2) (unhide HG) (unhide HQ3) (unhide HQ4) (unhide HQ5) (unhide HF3) (unhide HK) (unhide HQ6) (unhide HQ7) (unhide HQ8) f4 hDA)
  unfold ptr at *
  rw [← hq]
  clear hDA f4 HD HK HF3 HQ6 HQ7 HQ8 HG HF2 HF1 HQ1 HQ2 HQ3 HQ4 HQ5 HH1 hq
  go_wp2_with (go_at_call 12; refine (num_any _ _).mono ?_; rintro e w' ⟨rfl, rfl⟩)
  generalize (Value.iface 25 (Value.pointer (some ⟨h, 0, none⟩))) = vi
  go_loopw [17] (fun y W => ∃ (i : Nat) (c : Ca) (m : Hm) (ll : List Pl), i ≤ L ∧ y = .int .i64 (i : Int) ∧ @LP avNo w W p h r u dv q g dv2 i c m ll) (fun y _ => L - (intOf y).toNat)
  case atStart => exact ⟨0, _, _, _, by omega, rfl, unhide HLP⟩
  case round =>
    clear HLP
    obtain ⟨i, c, m, ll, hi, rfl, hS⟩ := hrel
    have HS := hide hS
    by_cases hlt : i < L
    · have i1 : i < l.length := by have := unhide HLL; omega
      have hRd := (unhide HL).kept hS.f
      obtain ⟨bb, oo, rfl, -, hnc, hcm, hc⟩ := hRd.lits (by omega)
      obtain ⟨y0, y1, y2, y3, y4⟩ := hc i i1
      have hOw := (unhide HL).2 l[i] (List.getElem_mem i1)
      have hic : i < cap := by omega
      have HDO := hide (does_any hS (by omega) hOw)
      have hk1 : i + 1 ≤ 1000 := by omega
      generalize l[i] = a at *
      obtain ⟨kd, kb, pv, P, ch, kn⟩ := a
      dsimp only at y0 y1 y2 y3 y4 HDO
      unfold ptr at *
      clear hc hS hRd hOw HS i1
      go_wp2_with fail
      refine (unhide HDO).mono ?_
      rintro e w5 ⟨rfl, c', m', l', h5⟩
      clear HDO y0 y1 y2 y3 y4
      have HT := hide (lp_hits h5)
      have H5 := hide h5
      unfold ptr at *
      clear h5
      go_wp2_with fail
      refine (unhide HT).mono ?_
      rintro e w6 ⟨rfl, f6⟩
      have h6 := (unhide H5).fr0 f6
      have HO := hide (lp_old h6 hk1)
      have H6 := hide h6
      unfold ptr at *
      clear h6 f6 HT H5
      go_wp2_with fail
      refine (unhide HO).mono ?_
      rintro e w7 ⟨rfl, f7⟩
      have h7 := (unhide H6).fr0 f7
      have HD := hide (lp_dirties h7 hk1)
      have H7 := hide h7
      unfold ptr at *
      clear h7 f7 HO H6
      go_wp2_with fail
      refine (unhide HD).mono ?_
      rintro e w8 ⟨⟨da, dc, rfl, hdo⟩, f8⟩
      have h8 := (unhide H7).fr0 f8
      have H8 := hide h8
      have HDO := hide hdo
      have hsl : (srtL l').length ≤ 4096 := Nat.le_trans (srtL_len l') (lp_small h8 hk1)
      obtain ⟨lv, lg, z1, z2, z3, z4, z5, z6, z7, z8⟩ := lp_cells h8
      have HZ1 := hide z1
      have HZ2 := hide z2
      have HZ3 := hide z3
      have HZ4 := hide z4
      have HZ5 := hide z5
      have HZ6 := hide z6
      have HZ7 := hide z7
      have HZ8 := hide z8
      clear h8 hdo f8 HD H7 z1 z2 z3 z4 z5 z6 z7 z8
      unfold oldR
      rcases hsr : srtL l' with _ | ⟨x0, xs⟩
      · have HSR := hide hsr
        have HSL := hide hsl
        rw [hsr] at HDO HSL
        clear hsr hsl
        dsimp only
        go_upto_region 17 with fail
        try simp only [List.append_eq, List.cons_append, List.nil_append]
        refine wp_nameK ?_
        intro a0 hA
        have h0 : a0.tmps.getD 0 undef = .int .i64 (n : Int) := by rw [hA]; rfl
        have h1 : a0.tmps.getD 1 undef = .int .i64 (pl : Int) := by rw [hA]; rfl
        have h2 : a0.tmps.getD 2 undef = .int .i64 (bad : Int) := by rw [hA]; rfl
        have h3 : a0.tmps.getD 3 undef = .int .i64 (long : Int) := by rw [hA]; rfl
        have h4 : a0.tmps.getD 4 undef = .slice (some ⟨bb, oo, none⟩) L cap := by rw [hA]; rfl
        have h5 : a0.tmps.getD 5 undef = undef := by rw [hA]; rfl
        have h6 : a0.tmps.getD 6 undef = undef := by rw [hA]; rfl
        have h7 : a0.tmps.getD 7 undef = undef := by rw [hA]; rfl
        have h8 : a0.tmps.getD 8 undef = undef := by rw [hA]; rfl
        have h9 : a0.tmps.getD 9 undef = undef := by rw [hA]; rfl
        have h10 : a0.tmps.getD 10 undef = u10 := by rw [hA]; rfl
        have h11 : a0.tmps.getD 11 undef = .pointer (some ⟨h, 0, none⟩) := by rw [hA]; rfl
        have h12 : a0.tmps.getD 12 undef = .pointer (some ⟨g, 0, none⟩) := by rw [hA]; rfl
        have h13 : a0.tmps.getD 13 undef = .pointer (some ⟨p, 0, none⟩) := by rw [hA]; rfl
        have h14 : a0.tmps.getD 14 undef = .int .i64 0 := by rw [hA]; rfl
        have h15 : a0.tmps.getD 15 undef = .pointer (some ⟨q, 0, none⟩) := by rw [hA]; rfl
        have h16 : a0.tmps.getD 16 undef = .int .i64 0 := by rw [hA]; rfl
        have h17 : a0.tmps.getD 17 undef = .int .i64 (i : Int) := by rw [hA]; rfl
        have h18 : a0.tmps.getD 18 undef = .int .i64 (c'.hit : Int) := by rw [hA]; rfl
        have h19 : a0.tmps.getD 19 undef = .int .i64 (c'.miss : Int) := by rw [hA]; rfl
        have h20 : a0.tmps.getD 20 undef = .int .u64 0 := by rw [hA]; rfl
        have h21 : a0.tmps.getD 21 undef = .bool false := by rw [hA]; rfl
        have h22 : a0.tmps.getD 22 undef = .slice da 0 dc := by rw [hA]; rfl
        have h23 : a0.tmps.getD 23 undef = .int .i64 (n : Int) := by rw [hA]; rfl
        have h24 : a0.tmps.getD 24 undef = .bool false := by rw [hA]; rfl
        have h25 : a0.tmps.getD 25 undef = .bool false := by rw [hA]; rfl
        have h26 : a0.tmps.getD 26 undef = .int .i64 (n : Int) := by rw [hA]; rfl
        have h27 : a0.tmps.getD 27 undef = .bool false := by rw [hA]; rfl
        have h28 : a0.tmps.getD 28 undef = .bool false := by rw [hA]; rfl
        have h29 : a0.tmps.getD 29 undef = .bool false := by rw [hA]; rfl
        have h30 : a0.tmps.getD 30 undef = .slice (some ⟨bb, oo, none⟩) L cap := by rw [hA]; rfl
        have h31 : a0.tmps.getD 31 undef = .bool false := by rw [hA]; rfl
        have h32 : a0.tmps.getD 32 undef = .bool false := by rw [hA]; rfl
        have h33 : a0.tmps.getD 33 undef = .bool false := by rw [hA]; rfl
        have h34 : a0.tmps.getD 34 undef = .int .i64 (bad : Int) := by rw [hA]; rfl
        have h35 : a0.tmps.getD 35 undef = .bool false := by rw [hA]; rfl
        have h36 : a0.tmps.getD 36 undef = .bool false := by rw [hA]; rfl
        have h37 : a0.tmps.getD 37 undef = .bool false := by rw [hA]; rfl
        have h38 : a0.tmps.getD 38 undef = .int .i64 (bad : Int) := by rw [hA]; rfl
        have h39 : a0.tmps.getD 39 undef = .bool false := by rw [hA]; rfl
        have h40 : a0.tmps.getD 40 undef = .bool false := by rw [hA]; rfl
        have h41 : a0.tmps.getD 41 undef = .bool false := by rw [hA]; rfl
        have h42 : a0.tmps.getD 42 undef = .int .i64 (long : Int) := by rw [hA]; rfl
        have h43 : a0.tmps.getD 43 undef = .bool false := by rw [hA]; rfl
        have h44 : a0.tmps.getD 44 undef = .bool false := by rw [hA]; rfl
        have h45 : a0.tmps.getD 45 undef = .bool false := by rw [hA]; rfl
        have h46 : a0.tmps.getD 46 undef = .int .i64 (long : Int) := by rw [hA]; rfl
        have h47 : a0.tmps.getD 47 undef = .bool false := by rw [hA]; rfl
        have h48 : a0.tmps.getD 48 undef = .bool false := by rw [hA]; rfl
        have h49 : a0.tmps.getD 49 undef = undef := by rw [hA]; rfl
        have h50 : a0.tmps.getD 50 undef = .int .i64 (n : Int) := by rw [hA]; rfl
        have h51 : a0.tmps.getD 51 undef = .int .i64 (bad : Int) := by rw [hA]; rfl
        have h52 : a0.tmps.getD 52 undef = .int .i64 (long : Int) := by rw [hA]; rfl
        have h53 : a0.tmps.getD 53 undef = .pointer (some ⟨h, 0, none⟩) := by rw [hA]; rfl
        have h54 : a0.tmps.getD 54 undef = .pointer (some ⟨h, 0, none⟩) := by rw [hA]; rfl
        have h55 : a0.tmps.getD 55 undef = .pointer (some ⟨g, 0, none⟩) := by rw [hA]; rfl
        have h56 : a0.tmps.getD 56 undef = .tuple #[.pointer (some ⟨p, 0, none⟩), .int .i64 0] := by rw [hA]; rfl
        have h57 : a0.tmps.getD 57 undef = .pointer (some ⟨h, 0, none⟩) := by rw [hA]; rfl
        have h58 : a0.tmps.getD 58 undef = vi := by rw [hA]; rfl
        have h59 : a0.tmps.getD 59 undef = .int .i64 (pl : Int) := by rw [hA]; rfl
        have h60 : a0.tmps.getD 60 undef = .tuple #[.pointer (some ⟨p, 0, none⟩), .int .i64 0] := by rw [hA]; rfl
        have h61 : a0.tmps.getD 61 undef = .pointer (some ⟨p, 0, none⟩) := by rw [hA]; rfl
        have h62 : a0.tmps.getD 62 undef = .int .i64 0 := by rw [hA]; rfl
        have h63 : a0.tmps.getD 63 undef = .tuple #[.pointer (some ⟨q, 0, none⟩), .int .i64 0] := by rw [hA]; rfl
        have h64 : a0.tmps.getD 64 undef = .pointer (some ⟨g, 0, none⟩) := by rw [hA]; rfl
        have h65 : a0.tmps.getD 65 undef = .int .i64 (pl : Int) := by rw [hA]; rfl
        have h66 : a0.tmps.getD 66 undef = .tuple #[.pointer (some ⟨q, 0, none⟩), .int .i64 0] := by rw [hA]; rfl
        have h67 : a0.tmps.getD 67 undef = .pointer (some ⟨q, 0, none⟩) := by rw [hA]; rfl
        have h68 : a0.tmps.getD 68 undef = .int .i64 0 := by rw [hA]; rfl
        have h69 : a0.tmps.getD 69 undef = .int .i64 0 := by rw [hA]; rfl
        have h70 : a0.tmps.getD 70 undef = .int .i64 0 := by rw [hA]; rfl
        have h71 : a0.tmps.getD 71 undef = .int .i64 0 := by rw [hA]; rfl
        have h72 : a0.tmps.getD 72 undef = .bool false := by rw [hA]; rfl
        have h73 : a0.tmps.getD 73 undef = .bool false := by rw [hA]; rfl
        have h74 : a0.tmps.getD 74 undef = .pointer (some ⟨p, 0, none⟩) := by rw [hA]; rfl
        have h75 : a0.tmps.getD 75 undef = .bool false := by rw [hA]; rfl
        have h76 : a0.tmps.getD 76 undef = .pointer (some ⟨q, 0, none⟩) := by rw [hA]; rfl
        have h77 : a0.tmps.getD 77 undef = .bool false := by rw [hA]; rfl
        have h78 : a0.tmps.getD 78 undef = .bool false := by rw [hA]; rfl
        have h79 : a0.tmps.getD 79 undef = .bool false := by rw [hA]; rfl
        have h80 : a0.tmps.getD 80 undef = .int .i64 (i : Int) := by rw [hA]; rfl
        have h81 : a0.tmps.getD 81 undef = .slice (some ⟨bb, oo, none⟩) L cap := by rw [hA]; rfl
        have h82 : a0.tmps.getD 82 undef = .int .i64 (L : Int) := by rw [hA]; rfl
        have h83 : a0.tmps.getD 83 undef = .bool true := by rw [hA]; rfl
        have h84 : a0.tmps.getD 84 undef = .bool true := by rw [hA]; rfl
        have h85 : a0.tmps.getD 85 undef = .pointer (some ⟨q, 0, none⟩) := by rw [hA]; rfl
        have h86 : a0.tmps.getD 86 undef = .bool true := by rw [hA]; rfl
        have h87 : a0.tmps.getD 87 undef = .bool true := by rw [hA]; rfl
        have h88 : a0.tmps.getD 88 undef = u88 := by rw [hA]; rfl
        have h89 : a0.tmps.getD 89 undef = u89 := by rw [hA]; rfl
        have h90 : a0.tmps.getD 90 undef = .pointer (some ⟨p, 0, none⟩) := by rw [hA]; rfl
        have h91 : a0.tmps.getD 91 undef = .pointer (some ⟨q, 0, none⟩) := by rw [hA]; rfl
        have h92 : a0.tmps.getD 92 undef = .slice (some ⟨bb, oo, none⟩) L cap := by rw [hA]; rfl
        have h93 : a0.tmps.getD 93 undef = .int .i64 (i : Int) := by rw [hA]; rfl
        have h94 : a0.tmps.getD 94 undef = .pointer (some ⟨bb, oo + i * 5, none⟩) := by rw [hA]; rfl
        have h95 : a0.tmps.getD 95 undef = .agg #[.int .i64 kd, .int .i64 kb, pv, .int .u64 (ch : Int), .int .i64 kn] := by rw [hA]; rfl
        have h96 : a0.tmps.getD 96 undef = .bool true := by rw [hA]; rfl
        have h97 : a0.tmps.getD 97 undef = .bool false := by rw [hA]; rfl
        have h98 : a0.tmps.getD 98 undef = .tuple #[.int .i64 (c'.hit : Int), .int .i64 (c'.miss : Int)] := by rw [hA]; rfl
        have h99 : a0.tmps.getD 99 undef = .pointer (some ⟨p, 0, none⟩) := by rw [hA]; rfl
        have h100 : a0.tmps.getD 100 undef = .tuple #[.int .i64 (c'.hit : Int), .int .i64 (c'.miss : Int)] := by rw [hA]; rfl
        have h101 : a0.tmps.getD 101 undef = .int .i64 (c'.hit : Int) := by rw [hA]; rfl
        have h102 : a0.tmps.getD 102 undef = .int .i64 (c'.miss : Int) := by rw [hA]; rfl
        have h103 : a0.tmps.getD 103 undef = .tuple #[.int .u64 0, .bool false] := by rw [hA]; rfl
        have h104 : a0.tmps.getD 104 undef = .pointer (some ⟨p, 0, none⟩) := by rw [hA]; rfl
        have h105 : a0.tmps.getD 105 undef = .tuple #[.int .u64 0, .bool false] := by rw [hA]; rfl
        have h106 : a0.tmps.getD 106 undef = .int .u64 0 := by rw [hA]; rfl
        have h107 : a0.tmps.getD 107 undef = .bool false := by rw [hA]; rfl
        have h108 : a0.tmps.getD 108 undef = .pointer (some ⟨q, 0, none⟩) := by rw [hA]; rfl
        have h109 : a0.tmps.getD 109 undef = .slice da 0 dc := by rw [hA]; rfl
        have h188 : a0.tmps.getD 188 undef = undef := by rw [hA]; rfl
        have hsz : a0.tmps.size = 189 := by rw [hA]; rfl
        have hdf : a0.defers = [] := by rw [hA]
        clear hA
        refine wp_region_kinds3 (fun _ => False) (by kernel_rfl) (by kernel_rfl) (by decide +kernel) (by rw [hsz]; decide +kernel) (.eq (.pointer (some ⟨h, 0, none⟩)) :: .eq (.pointer (some ⟨h, 0, none⟩)) :: .eq (.pointer (some ⟨h, 1, none⟩)) :: .eq (lv) :: .eq (.pointer (some ⟨g, 0, none⟩)) :: .eq (.pointer (some ⟨g, 0, none⟩)) :: .eq (.pointer (some ⟨g, 1, none⟩)) :: .eq (lg) :: .eq (.bool true) :: .eq (.bool false) :: .eq (.bool false) :: .eq (.pointer (some ⟨h, 0, none⟩)) :: .eq (.pointer (some ⟨h, 0, none⟩)) :: .eq (.pointer (some ⟨h, 2, none⟩)) :: .eq (.int .i64 (m'.calls : Int)) :: .eq (.pointer (some ⟨g, 0, none⟩)) :: .eq (.pointer (some ⟨g, 0, none⟩)) :: .eq (.pointer (some ⟨g, 2, none⟩)) :: .eq (.int .i64 (m'.calls : Int)) :: .eq (.bool false) :: .eq (.bool false) :: .eq (.bool false) :: .eq (.pointer (some ⟨p, 0, none⟩)) :: kI (fun _ e => e) (l'.map (·.b)) :: .eq (.pointer (some ⟨q, 0, none⟩)) :: kI (fun _ e => e) (l'.map (·.b)) :: .eq (.bool true) :: .eq (.bool false) :: .eq (.bool false) :: .eq (.bool false) :: .eq (.pointer (some ⟨p, 0, none⟩)) :: kDs (fun _ e => e) 0 [] :: .eq (.slice da 0 dc) :: .eq (.bool true) :: .eq (.bool false) :: .eq (.bool false) :: .eq (.bool false) :: .eq (.int .i64 (c'.hit : Int)) :: .eq (.pointer (some ⟨q, 0, none⟩)) :: .eq (.pointer (some ⟨q, 0, none⟩)) :: .eq (.pointer (some ⟨q, 4, none⟩)) :: .eq ((.int .i64 (c'.hit : Int))) :: .eq (.bool false) :: .eq (.bool false) :: .eq (.bool false) :: .eq (.int .i64 (c'.miss : Int)) :: .eq (.pointer (some ⟨q, 0, none⟩)) :: .eq (.pointer (some ⟨q, 0, none⟩)) :: .eq (.pointer (some ⟨q, 5, none⟩)) :: .eq ((.int .i64 (c'.miss : Int))) :: .eq (.bool false) :: .eq (.bool false) :: .eq (.bool false) :: .eq (.bool false) :: .eq (.slice da 0 dc) :: .eq (.int .i64 ((0 : Nat) : Int)) :: .eq (.bool false) :: .eq (.bool false) :: .eq (.bool false) :: .eq (.bool false) :: .eq (.bool false) :: .eq (.bool false) :: .eq undef :: .eq undef :: .eq undef :: .eq undef :: .eq undef :: .eq undef :: .eq (.bool false) :: .eq (.bool false) :: .eq (.bool false) :: .eq (.bool false) :: .eq (.bool true) :: .eq (.bool true) :: .eq (.int .u64 0) :: .eq (.bool false) :: .eq (.bool false) :: .eq (.bool false) :: []) [] (by decide) (by decide) (nopaths) (fun _ W => Fr (fun _ => False) w8 W) (Fr.refl _ _).drew ?steps ?done
        case steps =>
          refine ⟨?_, ?_⟩
          · intro a' w' k' hb hf hs hc hq hg hd
            exact .inl ⟨wantedN rfl, k_val (.pointer (some ⟨h, 0, none⟩)) (by decide) hs (x_move rfl ((hb.old 11 (by decide +kernel)).trans h11)) rfl⟩
          refine ⟨?_, ?_⟩
          · intro a' w' k' hb hf hs hc hq hg hd
            exact .inl ⟨wantedN rfl, k_val (.pointer (some ⟨h, 0, none⟩)) (by decide) hs (x_nilCheck rfl (hd 0 (by kernel_rfl) 110 rfl)) rfl⟩
          refine ⟨?_, ?_⟩
          · intro a' w' k' hb hf hs hc hq hg hd
            exact .inl ⟨wantedN rfl, k_val (.pointer (some ⟨h, 1, none⟩)) (by decide) hs (x_field (of := 0) (off := 1) (by intro W9; simpa using fa51_1 h 0 W9) rfl (hd 1 (by kernel_rfl) 111 rfl)) rfl⟩
          refine ⟨?_, ?_⟩
          · intro a' w' k' hb hf hs hc hq hg hd
            exact .inl ⟨wantedN rfl, k_val (lv) (by decide) hs (x_load1 ld49 rfl (hd 2 (by kernel_rfl) 112 rfl) (hs.cell_some (unhide HZ1))) rfl⟩
          refine ⟨?_, ?_⟩
          · intro a' w' k' hb hf hs hc hq hg hd
            exact .inl ⟨wantedN rfl, k_val (.pointer (some ⟨g, 0, none⟩)) (by decide) hs (x_move rfl ((hb.old 12 (by decide +kernel)).trans h12)) rfl⟩
          refine ⟨?_, ?_⟩
          · intro a' w' k' hb hf hs hc hq hg hd
            exact .inl ⟨wantedN rfl, k_val (.pointer (some ⟨g, 0, none⟩)) (by decide) hs (x_nilCheck rfl (hd 4 (by kernel_rfl) 114 rfl)) rfl⟩
          refine ⟨?_, ?_⟩
          · intro a' w' k' hb hf hs hc hq hg hd
            exact .inl ⟨wantedN rfl, k_val (.pointer (some ⟨g, 1, none⟩)) (by decide) hs (x_field (of := 0) (off := 1) (by intro W9; simpa using fa51_1 g 0 W9) rfl (hd 5 (by kernel_rfl) 115 rfl)) rfl⟩
          refine ⟨?_, ?_⟩
          · intro a' w' k' hb hf hs hc hq hg hd
            exact .inl ⟨wantedN rfl, k_val (lg) (by decide) hs (x_load1 ld49 rfl (hd 6 (by kernel_rfl) 116 rfl) (hs.cell_some (unhide HZ3))) rfl⟩
          refine ⟨?_, ?_⟩
          · intro a' w' k' hb hf hs hc hq hg hd
            exact .inl ⟨wantedN rfl, k_call 17 _ (by decide) (e_call2 rfl rfl (hd 3 (by kernel_rfl) 113 rfl) (hd 7 (by kernel_rfl) 117 rfl) (fun _ _ => by simp [go_sem])) ((ints_any _ _ _ m'.log m'.log ((unhide HZ7).kept hs (fun _ _ e => e)) ((unhide HZ8).kept hs (fun _ _ e => e))).mono (by rintro e w9 ⟨rfl, n9, rfl⟩; exact ⟨_, rfl, by simp [Tk, Kd.holds], Fr.ofDrewN _ _, Fr.trans hs (Fr.ofDrewN _ _) (fun _ _ h => h)⟩))⟩
          refine ⟨?_, ?_⟩
          · intro a' w' k' hb hf hs hc hq hg hd
            exact .inl ⟨wantedN rfl, k_val (.bool false) (by decide) hs (y_not (b := true) rfl (hd 8 (by kernel_rfl) 118 rfl)) rfl⟩
          refine ⟨?_, ?_⟩
          · intro a' w' k' hb hf hs hc hq hg hd
            exact .inl ⟨wantedN rfl, k_val (.bool false) (by decide) hs (x_move rfl (hd 9 (by kernel_rfl) 119 rfl)) rfl⟩
          refine ⟨?_, ?_⟩
          · intro a' w' k' hb hf hs hc hq hg hd
            exact .inl ⟨wantedF (d := 120) rfl rfl (by rw [hb.size, hsz]; omega) (hd 10 (by kernel_rfl) 120 rfl), k_val (.pointer (some ⟨h, 0, none⟩)) (by decide) hs (x_move rfl ((hb.old 11 (by decide +kernel)).trans h11)) rfl⟩
          refine ⟨?_, ?_⟩
          · intro a' w' k' hb hf hs hc hq hg hd
            exact .inl ⟨wantedF (d := 120) rfl rfl (by rw [hb.size, hsz]; omega) (hd 10 (by kernel_rfl) 120 rfl), k_val (.pointer (some ⟨h, 0, none⟩)) (by decide) hs (x_nilCheck rfl (hd 11 (by kernel_rfl) 121 rfl)) rfl⟩
          refine ⟨?_, ?_⟩
          · intro a' w' k' hb hf hs hc hq hg hd
            exact .inl ⟨wantedF (d := 120) rfl rfl (by rw [hb.size, hsz]; omega) (hd 10 (by kernel_rfl) 120 rfl), k_val (.pointer (some ⟨h, 2, none⟩)) (by decide) hs (x_field (of := 0) (off := 2) (by intro W9; simpa using fa51_2 h 0 W9) rfl (hd 12 (by kernel_rfl) 122 rfl)) rfl⟩
          refine ⟨?_, ?_⟩
          · intro a' w' k' hb hf hs hc hq hg hd
            exact .inl ⟨wantedF (d := 120) rfl rfl (by rw [hb.size, hsz]; omega) (hd 10 (by kernel_rfl) 120 rfl), k_val (.int .i64 (m'.calls : Int)) (by decide) hs (x_load1 ld3 rfl (hd 13 (by kernel_rfl) 123 rfl) (hs.cell_some (unhide HZ2))) rfl⟩
          refine ⟨?_, ?_⟩
          · intro a' w' k' hb hf hs hc hq hg hd
            exact .inl ⟨wantedF (d := 120) rfl rfl (by rw [hb.size, hsz]; omega) (hd 10 (by kernel_rfl) 120 rfl), k_val (.pointer (some ⟨g, 0, none⟩)) (by decide) hs (x_move rfl ((hb.old 12 (by decide +kernel)).trans h12)) rfl⟩
          refine ⟨?_, ?_⟩
          · intro a' w' k' hb hf hs hc hq hg hd
            exact .inl ⟨wantedF (d := 120) rfl rfl (by rw [hb.size, hsz]; omega) (hd 10 (by kernel_rfl) 120 rfl), k_val (.pointer (some ⟨g, 0, none⟩)) (by decide) hs (x_nilCheck rfl (hd 15 (by kernel_rfl) 125 rfl)) rfl⟩
          refine ⟨?_, ?_⟩
          · intro a' w' k' hb hf hs hc hq hg hd
            exact .inl ⟨wantedF (d := 120) rfl rfl (by rw [hb.size, hsz]; omega) (hd 10 (by kernel_rfl) 120 rfl), k_val (.pointer (some ⟨g, 2, none⟩)) (by decide) hs (x_field (of := 0) (off := 2) (by intro W9; simpa using fa51_2 g 0 W9) rfl (hd 16 (by kernel_rfl) 126 rfl)) rfl⟩
          refine ⟨?_, ?_⟩
          · intro a' w' k' hb hf hs hc hq hg hd
            exact .inl ⟨wantedF (d := 120) rfl rfl (by rw [hb.size, hsz]; omega) (hd 10 (by kernel_rfl) 120 rfl), k_val (.int .i64 (m'.calls : Int)) (by decide) hs (x_load1 ld3 rfl (hd 17 (by kernel_rfl) 127 rfl) (hs.cell_some (unhide HZ4))) rfl⟩
          refine ⟨?_, ?_⟩
          · intro a' w' k' hb hf hs hc hq hg hd
            exact .inl ⟨wantedF (d := 120) rfl rfl (by rw [hb.size, hsz]; omega) (hd 10 (by kernel_rfl) 120 rfl), k_val (.bool false) (by decide) hs (y_neI rfl (hd 14 (by kernel_rfl) 124 rfl) (hd 18 (by kernel_rfl) 128 rfl)) rfl⟩
          refine ⟨?_, ?_⟩
          · intro a' w' k' hb hf hs hc hq hg hd
            exact .inl ⟨wantedN rfl, k_val (.bool false) (by decide) hs (x_pickF rfl (hd 10 (by kernel_rfl) 120 rfl) (hd 19 (by kernel_rfl) 129 rfl)) rfl⟩
          refine ⟨?_, ?_⟩
          · intro a' w' k' hb hf hs hc hq hg hd
            exact .inl ⟨wantedN rfl, k_val (.bool false) (by decide) hs (x_move rfl (hd 20 (by kernel_rfl) 130 rfl)) rfl⟩
          refine ⟨?_, ?_⟩
          · intro a' w' k' hb hf hs hc hq hg hd
            exact .inl ⟨wantedF (d := 131) rfl rfl (by rw [hb.size, hsz]; omega) (hd 21 (by kernel_rfl) 131 rfl), k_val (.pointer (some ⟨p, 0, none⟩)) (by decide) hs (x_move rfl ((hb.old 13 (by decide +kernel)).trans h13)) rfl⟩
          refine ⟨?_, ?_⟩
          · intro a' w' k' hb hf hs hc hq hg hd
            exact .inl ⟨wantedF (d := 131) rfl rfl (by rw [hb.size, hsz]; omega) (hd 21 (by kernel_rfl) 131 rfl), k_call 18 _ (by decide) (e_call1 rfl rfl (hd 22 (by kernel_rfl) 132 rfl) (fun _ _ => by simp [go_sem])) ((lp_held1 ((unhide H8).fr0 hs) hk1).mono (by rintro e w9 ⟨⟨ao9, cc9, rfl, h9⟩, f9⟩; exact ⟨_, rfl, h9, f9, Fr.trans hs f9 (fun _ _ h => h)⟩))⟩
          refine ⟨?_, ?_⟩
          · intro a' w' k' hb hf hs hc hq hg hd
            exact .inl ⟨wantedF (d := 131) rfl rfl (by rw [hb.size, hsz]; omega) (hd 21 (by kernel_rfl) 131 rfl), k_val (.pointer (some ⟨q, 0, none⟩)) (by decide) hs (x_move rfl ((hb.old 15 (by decide +kernel)).trans h15)) rfl⟩
          refine ⟨?_, ?_⟩
          · intro a' w' k' hb hf hs hc hq hg hd
            exact .inl ⟨wantedF (d := 131) rfl rfl (by rw [hb.size, hsz]; omega) (hd 21 (by kernel_rfl) 131 rfl), k_call 19 _ (by decide) (e_call1 rfl rfl (hd 24 (by kernel_rfl) 134 rfl) (fun _ _ => by simp [go_sem])) ((lp_held2 ((unhide H8).fr0 hs) hk1).mono (by rintro e w9 ⟨⟨ao9, cc9, rfl, h9⟩, f9⟩; exact ⟨_, rfl, h9, f9, Fr.trans hs f9 (fun _ _ h => h)⟩))⟩
          refine ⟨?_, ?_⟩
          · intro a' w' k' hb hf hs hc hq hg hd
            have hh : RdV w' _ _ := (hd 23 (by kernel_rfl) 133 rfl); have hh2 : RdV w' _ _ := (hd 25 (by kernel_rfl) 135 rfl); exact .inl ⟨wantedF (d := 131) rfl rfl (by rw [hb.size, hsz]; omega) (hd 21 (by kernel_rfl) 131 rfl), k_call 17 _ (by decide) (e_call2 rfl rfl rfl rfl (fun _ _ => by simp [go_sem])) ((ints_any _ _ _ _ _ hh hh2).mono (by rintro e w9 ⟨rfl, n9, rfl⟩; exact ⟨_, rfl, by simp [Tk, Kd.holds], Fr.ofDrewN _ _, Fr.trans hs (Fr.ofDrewN _ _) (fun _ _ h => h)⟩))⟩
          refine ⟨?_, ?_⟩
          · intro a' w' k' hb hf hs hc hq hg hd
            exact .inl ⟨wantedF (d := 131) rfl rfl (by rw [hb.size, hsz]; omega) (hd 21 (by kernel_rfl) 131 rfl), k_val (.bool false) (by decide) hs (y_not (b := true) rfl (hd 26 (by kernel_rfl) 136 rfl)) rfl⟩
          refine ⟨?_, ?_⟩
          · intro a' w' k' hb hf hs hc hq hg hd
            exact .inl ⟨wantedN rfl, k_val (.bool false) (by decide) hs (x_pickF rfl (hd 21 (by kernel_rfl) 131 rfl) (hd 27 (by kernel_rfl) 137 rfl)) rfl⟩
          refine ⟨?_, ?_⟩
          · intro a' w' k' hb hf hs hc hq hg hd
            exact .inl ⟨wantedN rfl, k_val (.bool false) (by decide) hs (x_move rfl (hd 28 (by kernel_rfl) 138 rfl)) rfl⟩
          refine ⟨?_, ?_⟩
          · intro a' w' k' hb hf hs hc hq hg hd
            exact .inl ⟨wantedF (d := 139) rfl rfl (by rw [hb.size, hsz]; omega) (hd 29 (by kernel_rfl) 139 rfl), k_val (.pointer (some ⟨p, 0, none⟩)) (by decide) hs (x_move rfl ((hb.old 13 (by decide +kernel)).trans h13)) rfl⟩
          refine ⟨?_, ?_⟩
          · intro a' w' k' hb hf hs hc hq hg hd
            exact .inl ⟨wantedF (d := 139) rfl rfl (by rw [hb.size, hsz]; omega) (hd 29 (by kernel_rfl) 139 rfl), k_call 21 _ (by decide) (e_call1 rfl rfl (hd 30 (by kernel_rfl) 140 rfl) (fun _ _ => by simp [go_sem])) ((lp_dirty ((unhide H8).fr0 hs) hk1).mono (by rw [unhide HSR]; rintro e w9 ⟨⟨ao9, cc9, rfl, h9⟩, f9⟩; exact ⟨_, rfl, ⟨ao9, cc9, rfl, h9⟩, f9, Fr.trans hs f9 (fun _ _ h => h)⟩))⟩
          refine ⟨?_, ?_⟩
          · intro a' w' k' hb hf hs hc hq hg hd
            exact .inl ⟨wantedF (d := 139) rfl rfl (by rw [hb.size, hsz]; omega) (hd 29 (by kernel_rfl) 139 rfl), k_val (.slice da 0 dc) (by decide) hs (x_move rfl ((hb.old 22 (by decide +kernel)).trans h22)) rfl⟩
          refine ⟨?_, ?_⟩
          · intro a' w' k' hb hf hs hc hq hg hd
            obtain ⟨ao9, cc9, hv9, hh⟩ : ∃ ao cc, _ = Value.slice ao _ cc ∧ World.ownsRow _ 0 58 4 _ _ _ := (hd 31 (by kernel_rfl) 141 rfl); exact .inl ⟨wantedF (d := 139) rfl rfl (by rw [hb.size, hsz]; omega) (hd 29 (by kernel_rfl) 139 rfl), k_call 20 _ (by decide) (e_call2 rfl rfl hv9 (hd 32 (by kernel_rfl) 142 rfl) (fun _ _ => by simp [go_sem])) ((same_ok _ _ _ _ _ _ [] (by simp) (by have := unhide HSL; omega) hh (owns_kept (unhide HDO) hs (fun _ _ e => e))).mono (by rintro e w9 ⟨rfl, f9⟩; exact ⟨_, rfl, rfl, f9, Fr.trans hs f9 (fun _ _ h => h)⟩))⟩
          refine ⟨?_, ?_⟩
          · intro a' w' k' hb hf hs hc hq hg hd
            exact .inl ⟨wantedF (d := 139) rfl rfl (by rw [hb.size, hsz]; omega) (hd 29 (by kernel_rfl) 139 rfl), k_val (.bool false) (by decide) hs (y_not (b := true) rfl (hd 33 (by kernel_rfl) 143 rfl)) rfl⟩
          refine ⟨?_, ?_⟩
          · intro a' w' k' hb hf hs hc hq hg hd
            exact .inl ⟨wantedN rfl, k_val (.bool false) (by decide) hs (x_pickF rfl (hd 29 (by kernel_rfl) 139 rfl) (hd 34 (by kernel_rfl) 144 rfl)) rfl⟩
          refine ⟨?_, ?_⟩
          · intro a' w' k' hb hf hs hc hq hg hd
            exact .inl ⟨wantedN rfl, k_val (.bool false) (by decide) hs (x_move rfl (hd 35 (by kernel_rfl) 145 rfl)) rfl⟩
          refine ⟨?_, ?_⟩
          · intro a' w' k' hb hf hs hc hq hg hd
            exact .inl ⟨wantedF (d := 146) rfl rfl (by rw [hb.size, hsz]; omega) (hd 36 (by kernel_rfl) 146 rfl), k_val (.int .i64 (c'.hit : Int)) (by decide) hs (x_move rfl ((hb.old 18 (by decide +kernel)).trans h18)) rfl⟩
          refine ⟨?_, ?_⟩
          · intro a' w' k' hb hf hs hc hq hg hd
            exact .inl ⟨wantedF (d := 146) rfl rfl (by rw [hb.size, hsz]; omega) (hd 36 (by kernel_rfl) 146 rfl), k_val (.pointer (some ⟨q, 0, none⟩)) (by decide) hs (x_move rfl ((hb.old 15 (by decide +kernel)).trans h15)) rfl⟩
          refine ⟨?_, ?_⟩
          · intro a' w' k' hb hf hs hc hq hg hd
            exact .inl ⟨wantedF (d := 146) rfl rfl (by rw [hb.size, hsz]; omega) (hd 36 (by kernel_rfl) 146 rfl), k_val (.pointer (some ⟨q, 0, none⟩)) (by decide) hs (x_nilCheck rfl (hd 38 (by kernel_rfl) 148 rfl)) rfl⟩
          refine ⟨?_, ?_⟩
          · intro a' w' k' hb hf hs hc hq hg hd
            exact .inl ⟨wantedF (d := 146) rfl rfl (by rw [hb.size, hsz]; omega) (hd 36 (by kernel_rfl) 146 rfl), k_val (.pointer (some ⟨q, 4, none⟩)) (by decide) hs (x_field (of := 0) (off := 4) (by intro W9; simpa using fa56_4 q 0 W9) rfl (hd 39 (by kernel_rfl) 149 rfl)) rfl⟩
          refine ⟨?_, ?_⟩
          · intro a' w' k' hb hf hs hc hq hg hd
            exact .inl ⟨wantedF (d := 146) rfl rfl (by rw [hb.size, hsz]; omega) (hd 36 (by kernel_rfl) 146 rfl), k_val ((.int .i64 (c'.hit : Int))) (by decide) hs (x_load1 ld3 rfl (hd 40 (by kernel_rfl) 150 rfl) (hs.cell_some (unhide HZ5))) rfl⟩
          refine ⟨?_, ?_⟩
          · intro a' w' k' hb hf hs hc hq hg hd
            exact .inl ⟨wantedF (d := 146) rfl rfl (by rw [hb.size, hsz]; omega) (hd 36 (by kernel_rfl) 146 rfl), k_val (.bool false) (by decide) hs (y_neI rfl (hd 37 (by kernel_rfl) 147 rfl) (hd 41 (by kernel_rfl) 151 rfl)) rfl⟩
          refine ⟨?_, ?_⟩
          · intro a' w' k' hb hf hs hc hq hg hd
            exact .inl ⟨wantedN rfl, k_val (.bool false) (by decide) hs (x_pickF rfl (hd 36 (by kernel_rfl) 146 rfl) (hd 42 (by kernel_rfl) 152 rfl)) rfl⟩
          refine ⟨?_, ?_⟩
          · intro a' w' k' hb hf hs hc hq hg hd
            exact .inl ⟨wantedN rfl, k_val (.bool false) (by decide) hs (x_move rfl (hd 43 (by kernel_rfl) 153 rfl)) rfl⟩
          refine ⟨?_, ?_⟩
          · intro a' w' k' hb hf hs hc hq hg hd
            exact .inl ⟨wantedF (d := 154) rfl rfl (by rw [hb.size, hsz]; omega) (hd 44 (by kernel_rfl) 154 rfl), k_val (.int .i64 (c'.miss : Int)) (by decide) hs (x_move rfl ((hb.old 19 (by decide +kernel)).trans h19)) rfl⟩
          refine ⟨?_, ?_⟩
          · intro a' w' k' hb hf hs hc hq hg hd
            exact .inl ⟨wantedF (d := 154) rfl rfl (by rw [hb.size, hsz]; omega) (hd 44 (by kernel_rfl) 154 rfl), k_val (.pointer (some ⟨q, 0, none⟩)) (by decide) hs (x_move rfl ((hb.old 15 (by decide +kernel)).trans h15)) rfl⟩
          refine ⟨?_, ?_⟩
          · intro a' w' k' hb hf hs hc hq hg hd
            exact .inl ⟨wantedF (d := 154) rfl rfl (by rw [hb.size, hsz]; omega) (hd 44 (by kernel_rfl) 154 rfl), k_val (.pointer (some ⟨q, 0, none⟩)) (by decide) hs (x_nilCheck rfl (hd 46 (by kernel_rfl) 156 rfl)) rfl⟩
          refine ⟨?_, ?_⟩
          · intro a' w' k' hb hf hs hc hq hg hd
            exact .inl ⟨wantedF (d := 154) rfl rfl (by rw [hb.size, hsz]; omega) (hd 44 (by kernel_rfl) 154 rfl), k_val (.pointer (some ⟨q, 5, none⟩)) (by decide) hs (x_field (of := 0) (off := 5) (by intro W9; simpa using fa56_5 q 0 W9) rfl (hd 47 (by kernel_rfl) 157 rfl)) rfl⟩
          refine ⟨?_, ?_⟩
          · intro a' w' k' hb hf hs hc hq hg hd
            exact .inl ⟨wantedF (d := 154) rfl rfl (by rw [hb.size, hsz]; omega) (hd 44 (by kernel_rfl) 154 rfl), k_val ((.int .i64 (c'.miss : Int))) (by decide) hs (x_load1 ld3 rfl (hd 48 (by kernel_rfl) 158 rfl) (hs.cell_some (unhide HZ6))) rfl⟩
          refine ⟨?_, ?_⟩
          · intro a' w' k' hb hf hs hc hq hg hd
            exact .inl ⟨wantedF (d := 154) rfl rfl (by rw [hb.size, hsz]; omega) (hd 44 (by kernel_rfl) 154 rfl), k_val (.bool false) (by decide) hs (y_neI rfl (hd 45 (by kernel_rfl) 155 rfl) (hd 49 (by kernel_rfl) 159 rfl)) rfl⟩
          refine ⟨?_, ?_⟩
          · intro a' w' k' hb hf hs hc hq hg hd
            exact .inl ⟨wantedN rfl, k_val (.bool false) (by decide) hs (x_pickF rfl (hd 44 (by kernel_rfl) 154 rfl) (hd 50 (by kernel_rfl) 160 rfl)) rfl⟩
          refine ⟨?_, ?_⟩
          · intro a' w' k' hb hf hs hc hq hg hd
            exact .inl ⟨wantedN rfl, k_val (.bool false) (by decide) hs (x_move rfl (hd 51 (by kernel_rfl) 161 rfl)) rfl⟩
          refine ⟨?_, ?_⟩
          · intro a' w' k' hb hf hs hc hq hg hd
            exact .inl ⟨wantedF (d := 162) rfl rfl (by rw [hb.size, hsz]; omega) (hd 52 (by kernel_rfl) 162 rfl), k_val (.bool false) (by decide) hs (x_move rfl ((hb.old 21 (by decide +kernel)).trans h21)) rfl⟩
          refine ⟨?_, ?_⟩
          · intro a' w' k' hb hf hs hc hq hg hd
            exact .inl ⟨wantedF (d := 162) rfl rfl (by rw [hb.size, hsz]; omega) (hd 52 (by kernel_rfl) 162 rfl), k_val (.slice da 0 dc) (by decide) hs (x_move rfl ((hb.old 22 (by decide +kernel)).trans h22)) rfl⟩
          refine ⟨?_, ?_⟩
          · intro a' w' k' hb hf hs hc hq hg hd
            exact .inl ⟨wantedF (d := 162) rfl rfl (by rw [hb.size, hsz]; omega) (hd 52 (by kernel_rfl) 162 rfl), k_val (.int .i64 ((0 : Nat) : Int)) (by decide) hs (y_len45 rfl (hd 54 (by kernel_rfl) 164 rfl)) rfl⟩
          refine ⟨?_, ?_⟩
          · intro a' w' k' hb hf hs hc hq hg hd
            exact .inl ⟨wantedF (d := 162) rfl rfl (by rw [hb.size, hsz]; omega) (hd 52 (by kernel_rfl) 162 rfl), k_val (.bool false) (by decide) hs (y_gt rfl (hd 55 (by kernel_rfl) 165 rfl) rfl (by simp)) rfl⟩
          refine ⟨?_, ?_⟩
          · intro a' w' k' hb hf hs hc hq hg hd
            exact .inl ⟨wantedF (d := 162) rfl rfl (by rw [hb.size, hsz]; omega) (hd 52 (by kernel_rfl) 162 rfl), k_val (.bool false) (by decide) hs (y_neB rfl (hd 53 (by kernel_rfl) 163 rfl) (hd 56 (by kernel_rfl) 166 rfl)) rfl⟩
          refine ⟨?_, ?_⟩
          · intro a' w' k' hb hf hs hc hq hg hd
            exact .inl ⟨wantedN rfl, k_val (.bool false) (by decide) hs (x_pickF rfl (hd 52 (by kernel_rfl) 162 rfl) (hd 57 (by kernel_rfl) 167 rfl)) rfl⟩
          refine ⟨?_, ?_⟩
          · intro a' w' k' hb hf hs hc hq hg hd
            exact .inl ⟨wantedN rfl, k_val (.bool false) (by decide) hs (x_move rfl (hd 58 (by kernel_rfl) 168 rfl)) rfl⟩
          refine ⟨?_, ?_⟩
          · intro a' w' k' hb hf hs hc hq hg hd
            exact .inl ⟨wantedF (d := 169) rfl rfl (by rw [hb.size, hsz]; omega) (hd 59 (by kernel_rfl) 169 rfl), k_val (.bool false) (by decide) hs (x_move rfl ((hb.old 21 (by decide +kernel)).trans h21)) rfl⟩
          refine ⟨?_, ?_⟩
          · intro a' w' k' hb hf hs hc hq hg hd
            exact .inl ⟨wantedF (d := 169) rfl rfl (by rw [hb.size, hsz]; omega) (hd 59 (by kernel_rfl) 169 rfl), k_val (.bool false) (by decide) hs (x_move rfl (hd 60 (by kernel_rfl) 170 rfl)) rfl⟩
          refine ⟨?_, ?_⟩
          · intro a' w' k' hb hf hs hc hq hg hd
            exact .inr ⟨offT (d := 171) rfl rfl (by rw [hb.size, hsz]; omega) (hd 61 (by kernel_rfl) 171 rfl), by decide, rfl, Fr.refl _ _⟩
          refine ⟨?_, ?_⟩
          · intro a' w' k' hb hf hs hc hq hg hd
            exact .inr ⟨offT (d := 171) rfl rfl (by rw [hb.size, hsz]; omega) (hd 61 (by kernel_rfl) 171 rfl), by decide, rfl, Fr.refl _ _⟩
          refine ⟨?_, ?_⟩
          · intro a' w' k' hb hf hs hc hq hg hd
            exact .inr ⟨offT (d := 171) rfl rfl (by rw [hb.size, hsz]; omega) (hd 61 (by kernel_rfl) 171 rfl), by decide, rfl, Fr.refl _ _⟩
          refine ⟨?_, ?_⟩
          · intro a' w' k' hb hf hs hc hq hg hd
            exact .inr ⟨offT (d := 171) rfl rfl (by rw [hb.size, hsz]; omega) (hd 61 (by kernel_rfl) 171 rfl), by decide, rfl, Fr.refl _ _⟩
          refine ⟨?_, ?_⟩
          · intro a' w' k' hb hf hs hc hq hg hd
            exact .inr ⟨offT (d := 171) rfl rfl (by rw [hb.size, hsz]; omega) (hd 61 (by kernel_rfl) 171 rfl), by decide, rfl, Fr.refl _ _⟩
          refine ⟨?_, ?_⟩
          · intro a' w' k' hb hf hs hc hq hg hd
            exact .inr ⟨offT (d := 171) rfl rfl (by rw [hb.size, hsz]; omega) (hd 61 (by kernel_rfl) 171 rfl), by decide, rfl, Fr.refl _ _⟩
          refine ⟨?_, ?_⟩
          · intro a' w' k' hb hf hs hc hq hg hd
            exact .inl ⟨wantedF (d := 169) rfl rfl (by rw [hb.size, hsz]; omega) (hd 59 (by kernel_rfl) 169 rfl), k_val (.bool false) (by decide) hs (x_pickF rfl (hd 61 (by kernel_rfl) 171 rfl) rfl) rfl⟩
          refine ⟨?_, ?_⟩
          · intro a' w' k' hb hf hs hc hq hg hd
            exact .inl ⟨wantedN rfl, k_val (.bool false) (by decide) hs (x_pickF rfl (hd 59 (by kernel_rfl) 169 rfl) (hd 68 (by kernel_rfl) 178 rfl)) rfl⟩
          refine ⟨?_, ?_⟩
          · intro a' w' k' hb hf hs hc hq hg hd
            exact .inl ⟨wantedN rfl, k_val (.bool false) (by decide) hs (x_move rfl (hd 69 (by kernel_rfl) 179 rfl)) rfl⟩
          refine ⟨?_, ?_⟩
          · intro a' w' k' hb hf hs hc hq hg hd
            exact .inl ⟨wantedF (d := 180) rfl rfl (by rw [hb.size, hsz]; omega) (hd 70 (by kernel_rfl) 180 rfl), k_val (.bool false) (by decide) hs (x_move rfl ((hb.old 21 (by decide +kernel)).trans h21)) rfl⟩
          refine ⟨?_, ?_⟩
          · intro a' w' k' hb hf hs hc hq hg hd
            exact .inl ⟨wantedF (d := 180) rfl rfl (by rw [hb.size, hsz]; omega) (hd 70 (by kernel_rfl) 180 rfl), k_val (.bool true) (by decide) hs (y_not (b := false) rfl (hd 71 (by kernel_rfl) 181 rfl)) rfl⟩
          refine ⟨?_, ?_⟩
          · intro a' w' k' hb hf hs hc hq hg hd
            exact .inl ⟨wantedF (d := 180) rfl rfl (by rw [hb.size, hsz]; omega) (hd 70 (by kernel_rfl) 180 rfl), k_val (.bool true) (by decide) hs (x_move rfl (hd 72 (by kernel_rfl) 182 rfl)) rfl⟩
          refine ⟨?_, ?_⟩
          · intro a' w' k' hb hf hs hc hq hg hd
            exact .inl ⟨wantedT (d := 183) rfl rfl (by rw [hb.size, hsz]; omega) (hd 73 (by kernel_rfl) 183 rfl), k_val (.int .u64 0) (by decide) hs (x_move rfl ((hb.old 20 (by decide +kernel)).trans h20)) rfl⟩
          refine ⟨?_, ?_⟩
          · intro a' w' k' hb hf hs hc hq hg hd
            exact .inl ⟨wantedT (d := 183) rfl rfl (by rw [hb.size, hsz]; omega) (hd 73 (by kernel_rfl) 183 rfl), k_val (.bool false) (by decide) hs (y_neU rfl (hd 74 (by kernel_rfl) 184 rfl) rfl) rfl⟩
          refine ⟨?_, ?_⟩
          · intro a' w' k' hb hf hs hc hq hg hd
            exact .inl ⟨wantedF (d := 180) rfl rfl (by rw [hb.size, hsz]; omega) (hd 70 (by kernel_rfl) 180 rfl), k_val (.bool false) (by decide) hs (x_pickT rfl (hd 73 (by kernel_rfl) 183 rfl) (hd 75 (by kernel_rfl) 185 rfl)) rfl⟩
          refine ⟨?_, ?_⟩
          · intro a' w' k' hb hf hs hc hq hg hd
            exact .inl ⟨wantedN rfl, k_val (.bool false) (by decide) hs (x_pickF rfl (hd 70 (by kernel_rfl) 180 rfl) (hd 76 (by kernel_rfl) 186 rfl)) rfl⟩
          exact trivial
        case done =>
          intro a' w9 hb hf hs hall
          have hdf' : a'.defers = [] := by rw [hb.defers]; exact hdf
          obtain ⟨v110, hv110⟩ : ∃ v, a'.tmps.getD 110 undef = v := ⟨_, rfl⟩
          obtain ⟨v111, hv111⟩ : ∃ v, a'.tmps.getD 111 undef = v := ⟨_, rfl⟩
          obtain ⟨v112, hv112⟩ : ∃ v, a'.tmps.getD 112 undef = v := ⟨_, rfl⟩
          obtain ⟨v113, hv113⟩ : ∃ v, a'.tmps.getD 113 undef = v := ⟨_, rfl⟩
          obtain ⟨v114, hv114⟩ : ∃ v, a'.tmps.getD 114 undef = v := ⟨_, rfl⟩
          obtain ⟨v115, hv115⟩ : ∃ v, a'.tmps.getD 115 undef = v := ⟨_, rfl⟩
          obtain ⟨v116, hv116⟩ : ∃ v, a'.tmps.getD 116 undef = v := ⟨_, rfl⟩
          obtain ⟨v117, hv117⟩ : ∃ v, a'.tmps.getD 117 undef = v := ⟨_, rfl⟩
          obtain ⟨v118, hv118⟩ : ∃ v, a'.tmps.getD 118 undef = v := ⟨_, rfl⟩
          obtain ⟨v119, hv119⟩ : ∃ v, a'.tmps.getD 119 undef = v := ⟨_, rfl⟩
          obtain ⟨v120, hv120⟩ : ∃ v, a'.tmps.getD 120 undef = v := ⟨_, rfl⟩
          obtain ⟨v121, hv121⟩ : ∃ v, a'.tmps.getD 121 undef = v := ⟨_, rfl⟩
          obtain ⟨v122, hv122⟩ : ∃ v, a'.tmps.getD 122 undef = v := ⟨_, rfl⟩
          obtain ⟨v123, hv123⟩ : ∃ v, a'.tmps.getD 123 undef = v := ⟨_, rfl⟩
          obtain ⟨v124, hv124⟩ : ∃ v, a'.tmps.getD 124 undef = v := ⟨_, rfl⟩
          obtain ⟨v125, hv125⟩ : ∃ v, a'.tmps.getD 125 undef = v := ⟨_, rfl⟩
          obtain ⟨v126, hv126⟩ : ∃ v, a'.tmps.getD 126 undef = v := ⟨_, rfl⟩
          obtain ⟨v127, hv127⟩ : ∃ v, a'.tmps.getD 127 undef = v := ⟨_, rfl⟩
          obtain ⟨v128, hv128⟩ : ∃ v, a'.tmps.getD 128 undef = v := ⟨_, rfl⟩
          obtain ⟨v129, hv129⟩ : ∃ v, a'.tmps.getD 129 undef = v := ⟨_, rfl⟩
          obtain ⟨v130, hv130⟩ : ∃ v, a'.tmps.getD 130 undef = v := ⟨_, rfl⟩
          obtain ⟨v131, hv131⟩ : ∃ v, a'.tmps.getD 131 undef = v := ⟨_, rfl⟩
          obtain ⟨v132, hv132⟩ : ∃ v, a'.tmps.getD 132 undef = v := ⟨_, rfl⟩
          obtain ⟨v133, hv133⟩ : ∃ v, a'.tmps.getD 133 undef = v := ⟨_, rfl⟩
          obtain ⟨v134, hv134⟩ : ∃ v, a'.tmps.getD 134 undef = v := ⟨_, rfl⟩
          obtain ⟨v135, hv135⟩ : ∃ v, a'.tmps.getD 135 undef = v := ⟨_, rfl⟩
          obtain ⟨v136, hv136⟩ : ∃ v, a'.tmps.getD 136 undef = v := ⟨_, rfl⟩
          obtain ⟨v137, hv137⟩ : ∃ v, a'.tmps.getD 137 undef = v := ⟨_, rfl⟩
          obtain ⟨v138, hv138⟩ : ∃ v, a'.tmps.getD 138 undef = v := ⟨_, rfl⟩
          obtain ⟨v139, hv139⟩ : ∃ v, a'.tmps.getD 139 undef = v := ⟨_, rfl⟩
          obtain ⟨v140, hv140⟩ : ∃ v, a'.tmps.getD 140 undef = v := ⟨_, rfl⟩
          obtain ⟨v141, hv141⟩ : ∃ v, a'.tmps.getD 141 undef = v := ⟨_, rfl⟩
          obtain ⟨v142, hv142⟩ : ∃ v, a'.tmps.getD 142 undef = v := ⟨_, rfl⟩
          obtain ⟨v143, hv143⟩ : ∃ v, a'.tmps.getD 143 undef = v := ⟨_, rfl⟩
          obtain ⟨v144, hv144⟩ : ∃ v, a'.tmps.getD 144 undef = v := ⟨_, rfl⟩
          obtain ⟨v145, hv145⟩ : ∃ v, a'.tmps.getD 145 undef = v := ⟨_, rfl⟩
          obtain ⟨v146, hv146⟩ : ∃ v, a'.tmps.getD 146 undef = v := ⟨_, rfl⟩
          obtain ⟨v147, hv147⟩ : ∃ v, a'.tmps.getD 147 undef = v := ⟨_, rfl⟩
          obtain ⟨v148, hv148⟩ : ∃ v, a'.tmps.getD 148 undef = v := ⟨_, rfl⟩
          obtain ⟨v149, hv149⟩ : ∃ v, a'.tmps.getD 149 undef = v := ⟨_, rfl⟩
          obtain ⟨v150, hv150⟩ : ∃ v, a'.tmps.getD 150 undef = v := ⟨_, rfl⟩
          obtain ⟨v151, hv151⟩ : ∃ v, a'.tmps.getD 151 undef = v := ⟨_, rfl⟩
          obtain ⟨v152, hv152⟩ : ∃ v, a'.tmps.getD 152 undef = v := ⟨_, rfl⟩
          obtain ⟨v153, hv153⟩ : ∃ v, a'.tmps.getD 153 undef = v := ⟨_, rfl⟩
          obtain ⟨v154, hv154⟩ : ∃ v, a'.tmps.getD 154 undef = v := ⟨_, rfl⟩
          obtain ⟨v155, hv155⟩ : ∃ v, a'.tmps.getD 155 undef = v := ⟨_, rfl⟩
          obtain ⟨v156, hv156⟩ : ∃ v, a'.tmps.getD 156 undef = v := ⟨_, rfl⟩
          obtain ⟨v157, hv157⟩ : ∃ v, a'.tmps.getD 157 undef = v := ⟨_, rfl⟩
          obtain ⟨v158, hv158⟩ : ∃ v, a'.tmps.getD 158 undef = v := ⟨_, rfl⟩
          obtain ⟨v159, hv159⟩ : ∃ v, a'.tmps.getD 159 undef = v := ⟨_, rfl⟩
          obtain ⟨v160, hv160⟩ : ∃ v, a'.tmps.getD 160 undef = v := ⟨_, rfl⟩
          obtain ⟨v161, hv161⟩ : ∃ v, a'.tmps.getD 161 undef = v := ⟨_, rfl⟩
          obtain ⟨v162, hv162⟩ : ∃ v, a'.tmps.getD 162 undef = v := ⟨_, rfl⟩
          obtain ⟨v163, hv163⟩ : ∃ v, a'.tmps.getD 163 undef = v := ⟨_, rfl⟩
          obtain ⟨v164, hv164⟩ : ∃ v, a'.tmps.getD 164 undef = v := ⟨_, rfl⟩
          obtain ⟨v165, hv165⟩ : ∃ v, a'.tmps.getD 165 undef = v := ⟨_, rfl⟩
          obtain ⟨v166, hv166⟩ : ∃ v, a'.tmps.getD 166 undef = v := ⟨_, rfl⟩
          obtain ⟨v167, hv167⟩ : ∃ v, a'.tmps.getD 167 undef = v := ⟨_, rfl⟩
          obtain ⟨v168, hv168⟩ : ∃ v, a'.tmps.getD 168 undef = v := ⟨_, rfl⟩
          obtain ⟨v169, hv169⟩ : ∃ v, a'.tmps.getD 169 undef = v := ⟨_, rfl⟩
          obtain ⟨v170, hv170⟩ : ∃ v, a'.tmps.getD 170 undef = v := ⟨_, rfl⟩
          obtain ⟨v171, hv171⟩ : ∃ v, a'.tmps.getD 171 undef = v := ⟨_, rfl⟩
          obtain ⟨v172, hv172⟩ : ∃ v, a'.tmps.getD 172 undef = v := ⟨_, rfl⟩
          obtain ⟨v173, hv173⟩ : ∃ v, a'.tmps.getD 173 undef = v := ⟨_, rfl⟩
          obtain ⟨v174, hv174⟩ : ∃ v, a'.tmps.getD 174 undef = v := ⟨_, rfl⟩
          obtain ⟨v175, hv175⟩ : ∃ v, a'.tmps.getD 175 undef = v := ⟨_, rfl⟩
          obtain ⟨v176, hv176⟩ : ∃ v, a'.tmps.getD 176 undef = v := ⟨_, rfl⟩
          obtain ⟨v177, hv177⟩ : ∃ v, a'.tmps.getD 177 undef = v := ⟨_, rfl⟩
          obtain ⟨v178, hv178⟩ : ∃ v, a'.tmps.getD 178 undef = v := ⟨_, rfl⟩
          obtain ⟨v179, hv179⟩ : ∃ v, a'.tmps.getD 179 undef = v := ⟨_, rfl⟩
          obtain ⟨v180, hv180⟩ : ∃ v, a'.tmps.getD 180 undef = v := ⟨_, rfl⟩
          obtain ⟨v181, hv181⟩ : ∃ v, a'.tmps.getD 181 undef = v := ⟨_, rfl⟩
          obtain ⟨v182, hv182⟩ : ∃ v, a'.tmps.getD 182 undef = v := ⟨_, rfl⟩
          obtain ⟨v183, hv183⟩ : ∃ v, a'.tmps.getD 183 undef = v := ⟨_, rfl⟩
          obtain ⟨v184, hv184⟩ : ∃ v, a'.tmps.getD 184 undef = v := ⟨_, rfl⟩
          obtain ⟨v185, hv185⟩ : ∃ v, a'.tmps.getD 185 undef = v := ⟨_, rfl⟩
          obtain ⟨v186, hv186⟩ : ∃ v, a'.tmps.getD 186 undef = v := ⟨_, rfl⟩
          have hfr := frame_eq (a := a') (vs := [.int .i64 (n : Int), .int .i64 (pl : Int), .int .i64 (bad : Int), .int .i64 (long : Int), .slice (some ⟨bb, oo, none⟩) L cap, undef, undef, undef, undef, undef, u10, .pointer (some ⟨h, 0, none⟩), .pointer (some ⟨g, 0, none⟩), .pointer (some ⟨p, 0, none⟩), .int .i64 0, .pointer (some ⟨q, 0, none⟩), .int .i64 0, .int .i64 (i : Int), .int .i64 (c'.hit : Int), .int .i64 (c'.miss : Int), .int .u64 0, .bool false, .slice da 0 dc, .int .i64 (n : Int), .bool false, .bool false, .int .i64 (n : Int), .bool false, .bool false, .bool false, .slice (some ⟨bb, oo, none⟩) L cap, .bool false, .bool false, .bool false, .int .i64 (bad : Int), .bool false, .bool false, .bool false, .int .i64 (bad : Int), .bool false, .bool false, .bool false, .int .i64 (long : Int), .bool false, .bool false, .bool false, .int .i64 (long : Int), .bool false, .bool false, undef, .int .i64 (n : Int), .int .i64 (bad : Int), .int .i64 (long : Int), .pointer (some ⟨h, 0, none⟩), .pointer (some ⟨h, 0, none⟩), .pointer (some ⟨g, 0, none⟩), .tuple #[.pointer (some ⟨p, 0, none⟩), .int .i64 0], .pointer (some ⟨h, 0, none⟩), vi, .int .i64 (pl : Int), .tuple #[.pointer (some ⟨p, 0, none⟩), .int .i64 0], .pointer (some ⟨p, 0, none⟩), .int .i64 0, .tuple #[.pointer (some ⟨q, 0, none⟩), .int .i64 0], .pointer (some ⟨g, 0, none⟩), .int .i64 (pl : Int), .tuple #[.pointer (some ⟨q, 0, none⟩), .int .i64 0], .pointer (some ⟨q, 0, none⟩), .int .i64 0, .int .i64 0, .int .i64 0, .int .i64 0, .bool false, .bool false, .pointer (some ⟨p, 0, none⟩), .bool false, .pointer (some ⟨q, 0, none⟩), .bool false, .bool false, .bool false, .int .i64 (i : Int), .slice (some ⟨bb, oo, none⟩) L cap, .int .i64 (L : Int), .bool true, .bool true, .pointer (some ⟨q, 0, none⟩), .bool true, .bool true, u88, u89, .pointer (some ⟨p, 0, none⟩), .pointer (some ⟨q, 0, none⟩), .slice (some ⟨bb, oo, none⟩) L cap, .int .i64 (i : Int), .pointer (some ⟨bb, oo + i * 5, none⟩), .agg #[.int .i64 kd, .int .i64 kb, pv, .int .u64 (ch : Int), .int .i64 kn], .bool true, .bool false, .tuple #[.int .i64 (c'.hit : Int), .int .i64 (c'.miss : Int)], .pointer (some ⟨p, 0, none⟩), .tuple #[.int .i64 (c'.hit : Int), .int .i64 (c'.miss : Int)], .int .i64 (c'.hit : Int), .int .i64 (c'.miss : Int), .tuple #[.int .u64 0, .bool false], .pointer (some ⟨p, 0, none⟩), .tuple #[.int .u64 0, .bool false], .int .u64 0, .bool false, .pointer (some ⟨q, 0, none⟩), .slice da 0 dc, v110, v111, v112, v113, v114, v115, v116, v117, v118, v119, v120, v121, v122, v123, v124, v125, v126, v127, v128, v129, v130, v131, v132, v133, v134, v135, v136, v137, v138, v139, v140, v141, v142, v143, v144, v145, v146, v147, v148, v149, v150, v151, v152, v153, v154, v155, v156, v157, v158, v159, v160, v161, v162, v163, v164, v165, v166, v167, v168, v169, v170, v171, v172, v173, v174, v175, v176, v177, v178, v179, v180, v181, v182, v183, v184, v185, v186, .bool false, undef]) (by rw [hb.size, hsz]; rfl) hdf' ⟨((hb.old 0 (by decide +kernel)).trans h0), ((hb.old 1 (by decide +kernel)).trans h1), ((hb.old 2 (by decide +kernel)).trans h2), ((hb.old 3 (by decide +kernel)).trans h3), ((hb.old 4 (by decide +kernel)).trans h4), ((hb.old 5 (by decide +kernel)).trans h5), ((hb.old 6 (by decide +kernel)).trans h6), ((hb.old 7 (by decide +kernel)).trans h7), ((hb.old 8 (by decide +kernel)).trans h8), ((hb.old 9 (by decide +kernel)).trans h9), ((hb.old 10 (by decide +kernel)).trans h10), ((hb.old 11 (by decide +kernel)).trans h11), ((hb.old 12 (by decide +kernel)).trans h12), ((hb.old 13 (by decide +kernel)).trans h13), ((hb.old 14 (by decide +kernel)).trans h14), ((hb.old 15 (by decide +kernel)).trans h15), ((hb.old 16 (by decide +kernel)).trans h16), ((hb.old 17 (by decide +kernel)).trans h17), ((hb.old 18 (by decide +kernel)).trans h18), ((hb.old 19 (by decide +kernel)).trans h19), ((hb.old 20 (by decide +kernel)).trans h20), ((hb.old 21 (by decide +kernel)).trans h21), ((hb.old 22 (by decide +kernel)).trans h22), ((hb.old 23 (by decide +kernel)).trans h23), ((hb.old 24 (by decide +kernel)).trans h24), ((hb.old 25 (by decide +kernel)).trans h25), ((hb.old 26 (by decide +kernel)).trans h26), ((hb.old 27 (by decide +kernel)).trans h27), ((hb.old 28 (by decide +kernel)).trans h28), ((hb.old 29 (by decide +kernel)).trans h29), ((hb.old 30 (by decide +kernel)).trans h30), ((hb.old 31 (by decide +kernel)).trans h31), ((hb.old 32 (by decide +kernel)).trans h32), ((hb.old 33 (by decide +kernel)).trans h33), ((hb.old 34 (by decide +kernel)).trans h34), ((hb.old 35 (by decide +kernel)).trans h35), ((hb.old 36 (by decide +kernel)).trans h36), ((hb.old 37 (by decide +kernel)).trans h37), ((hb.old 38 (by decide +kernel)).trans h38), ((hb.old 39 (by decide +kernel)).trans h39), ((hb.old 40 (by decide +kernel)).trans h40), ((hb.old 41 (by decide +kernel)).trans h41), ((hb.old 42 (by decide +kernel)).trans h42), ((hb.old 43 (by decide +kernel)).trans h43), ((hb.old 44 (by decide +kernel)).trans h44), ((hb.old 45 (by decide +kernel)).trans h45), ((hb.old 46 (by decide +kernel)).trans h46), ((hb.old 47 (by decide +kernel)).trans h47), ((hb.old 48 (by decide +kernel)).trans h48), ((hb.old 49 (by decide +kernel)).trans h49), ((hb.old 50 (by decide +kernel)).trans h50), ((hb.old 51 (by decide +kernel)).trans h51), ((hb.old 52 (by decide +kernel)).trans h52), ((hb.old 53 (by decide +kernel)).trans h53), ((hb.old 54 (by decide +kernel)).trans h54), ((hb.old 55 (by decide +kernel)).trans h55), ((hb.old 56 (by decide +kernel)).trans h56), ((hb.old 57 (by decide +kernel)).trans h57), ((hb.old 58 (by decide +kernel)).trans h58), ((hb.old 59 (by decide +kernel)).trans h59), ((hb.old 60 (by decide +kernel)).trans h60), ((hb.old 61 (by decide +kernel)).trans h61), ((hb.old 62 (by decide +kernel)).trans h62), ((hb.old 63 (by decide +kernel)).trans h63), ((hb.old 64 (by decide +kernel)).trans h64), ((hb.old 65 (by decide +kernel)).trans h65), ((hb.old 66 (by decide +kernel)).trans h66), ((hb.old 67 (by decide +kernel)).trans h67), ((hb.old 68 (by decide +kernel)).trans h68), ((hb.old 69 (by decide +kernel)).trans h69), ((hb.old 70 (by decide +kernel)).trans h70), ((hb.old 71 (by decide +kernel)).trans h71), ((hb.old 72 (by decide +kernel)).trans h72), ((hb.old 73 (by decide +kernel)).trans h73), ((hb.old 74 (by decide +kernel)).trans h74), ((hb.old 75 (by decide +kernel)).trans h75), ((hb.old 76 (by decide +kernel)).trans h76), ((hb.old 77 (by decide +kernel)).trans h77), ((hb.old 78 (by decide +kernel)).trans h78), ((hb.old 79 (by decide +kernel)).trans h79), ((hb.old 80 (by decide +kernel)).trans h80), ((hb.old 81 (by decide +kernel)).trans h81), ((hb.old 82 (by decide +kernel)).trans h82), ((hb.old 83 (by decide +kernel)).trans h83), ((hb.old 84 (by decide +kernel)).trans h84), ((hb.old 85 (by decide +kernel)).trans h85), ((hb.old 86 (by decide +kernel)).trans h86), ((hb.old 87 (by decide +kernel)).trans h87), ((hb.old 88 (by decide +kernel)).trans h88), ((hb.old 89 (by decide +kernel)).trans h89), ((hb.old 90 (by decide +kernel)).trans h90), ((hb.old 91 (by decide +kernel)).trans h91), ((hb.old 92 (by decide +kernel)).trans h92), ((hb.old 93 (by decide +kernel)).trans h93), ((hb.old 94 (by decide +kernel)).trans h94), ((hb.old 95 (by decide +kernel)).trans h95), ((hb.old 96 (by decide +kernel)).trans h96), ((hb.old 97 (by decide +kernel)).trans h97), ((hb.old 98 (by decide +kernel)).trans h98), ((hb.old 99 (by decide +kernel)).trans h99), ((hb.old 100 (by decide +kernel)).trans h100), ((hb.old 101 (by decide +kernel)).trans h101), ((hb.old 102 (by decide +kernel)).trans h102), ((hb.old 103 (by decide +kernel)).trans h103), ((hb.old 104 (by decide +kernel)).trans h104), ((hb.old 105 (by decide +kernel)).trans h105), ((hb.old 106 (by decide +kernel)).trans h106), ((hb.old 107 (by decide +kernel)).trans h107), ((hb.old 108 (by decide +kernel)).trans h108), ((hb.old 109 (by decide +kernel)).trans h109), hv110, hv111, hv112, hv113, hv114, hv115, hv116, hv117, hv118, hv119, hv120, hv121, hv122, hv123, hv124, hv125, hv126, hv127, hv128, hv129, hv130, hv131, hv132, hv133, hv134, hv135, hv136, hv137, hv138, hv139, hv140, hv141, hv142, hv143, hv144, hv145, hv146, hv147, hv148, hv149, hv150, hv151, hv152, hv153, hv154, hv155, hv156, hv157, hv158, hv159, hv160, hv161, hv162, hv163, hv164, hv165, hv166, hv167, hv168, hv169, hv170, hv171, hv172, hv173, hv174, hv175, hv176, hv177, hv178, hv179, hv180, hv181, hv182, hv183, hv184, hv185, hv186, (show a'.tmps.getD 187 undef = .bool false from hall 77 (by decide) 187 rfl), ((hb.old 188 (by decide +kernel)).trans h188), trivial⟩
          have H9 := hide ((unhide H8).fr0 hs)
          clear hall hb hf hs hv110 hv111 hv112 hv113 hv114 hv115 hv116 hv117 hv118 hv119 hv120 hv121 hv122 hv123 hv124 hv125 hv126 hv127 hv128 hv129 hv130 hv131 hv132 hv133 hv134 hv135 hv136 hv137 hv138 hv139 hv140 hv141 hv142 hv143 hv144 hv145 hv146 hv147 hv148 hv149 hv150 hv151 hv152 hv153 hv154 hv155 hv156 hv157 hv158 hv159 hv160 hv161 hv162 hv163 hv164 hv165 hv166 hv167 hv168 hv169 hv170 hv171 hv172 hv173 hv174 hv175 hv176 hv177 hv178 hv179 hv180 hv181 hv182 hv183 hv184 hv185 hv186
          subst hfr
          clear h0 h1 h2 h3 h4 h5 h6 h7 h8 h9 h10 h11 h12 h13 h14 h15 h16 h17 h18 h19 h20 h21 h22 h23 h24 h25 h26 h27 h28 h29 h30 h31 h32 h33 h34 h35 h36 h37 h38 h39 h40 h41 h42 h43 h44 h45 h46 h47 h48 h49 h50 h51 h52 h53 h54 h55 h56 h57 h58 h59 h60 h61 h62 h63 h64 h65 h66 h67 h68 h69 h70 h71 h72 h73 h74 h75 h76 h77 h78 h79 h80 h81 h82 h83 h84 h85 h86 h87 h88 h89 h90 h91 h92 h93 h94 h95 h96 h97 h98 h99 h100 h101 h102 h103 h104 h105 h106 h107 h108 h109 h188 hsz hdf hdf' HZ1 HZ2 HZ3 HZ4 HZ5 HZ6 HZ7 HZ8 H8 HDO
          apply_assumption
          go_wp2_with fail
          go_roundw
          case rel => exact ⟨i + 1, _, _, _, by omega, by go_num, unhide H9⟩
          case measure => simp [intOf]; omega
      · have HSR := hide hsr
        have HSL := hide hsl
        rw [hsr] at HDO HSL
        clear hsr hsl
        dsimp only [List.length_cons] at HDO HSL ⊢
        obtain ⟨db, rfl, hC1⟩ := dC_first (unhide HDO)
        have HC1 := hide hC1
        clear hC1
        go_upto_region 17 with fail
        try simp only [List.append_eq, List.cons_append, List.nil_append]
        refine wp_nameK ?_
        intro a0 hA
        have h0 : a0.tmps.getD 0 undef = .int .i64 (n : Int) := by rw [hA]; rfl
        have h1 : a0.tmps.getD 1 undef = .int .i64 (pl : Int) := by rw [hA]; rfl
        have h2 : a0.tmps.getD 2 undef = .int .i64 (bad : Int) := by rw [hA]; rfl
        have h3 : a0.tmps.getD 3 undef = .int .i64 (long : Int) := by rw [hA]; rfl
        have h4 : a0.tmps.getD 4 undef = .slice (some ⟨bb, oo, none⟩) L cap := by rw [hA]; rfl
        have h5 : a0.tmps.getD 5 undef = undef := by rw [hA]; rfl
        have h6 : a0.tmps.getD 6 undef = undef := by rw [hA]; rfl
        have h7 : a0.tmps.getD 7 undef = undef := by rw [hA]; rfl
        have h8 : a0.tmps.getD 8 undef = undef := by rw [hA]; rfl
        have h9 : a0.tmps.getD 9 undef = undef := by rw [hA]; rfl
        have h10 : a0.tmps.getD 10 undef = u10 := by rw [hA]; rfl
        have h11 : a0.tmps.getD 11 undef = .pointer (some ⟨h, 0, none⟩) := by rw [hA]; rfl
        have h12 : a0.tmps.getD 12 undef = .pointer (some ⟨g, 0, none⟩) := by rw [hA]; rfl
        have h13 : a0.tmps.getD 13 undef = .pointer (some ⟨p, 0, none⟩) := by rw [hA]; rfl
        have h14 : a0.tmps.getD 14 undef = .int .i64 0 := by rw [hA]; rfl
        have h15 : a0.tmps.getD 15 undef = .pointer (some ⟨q, 0, none⟩) := by rw [hA]; rfl
        have h16 : a0.tmps.getD 16 undef = .int .i64 0 := by rw [hA]; rfl
        have h17 : a0.tmps.getD 17 undef = .int .i64 (i : Int) := by rw [hA]; rfl
        have h18 : a0.tmps.getD 18 undef = .int .i64 (c'.hit : Int) := by rw [hA]; rfl
        have h19 : a0.tmps.getD 19 undef = .int .i64 (c'.miss : Int) := by rw [hA]; rfl
        have h20 : a0.tmps.getD 20 undef = .int .u64 (x0.first : Int) := by rw [hA]; rfl
        have h21 : a0.tmps.getD 21 undef = .bool true := by rw [hA]; rfl
        have h22 : a0.tmps.getD 22 undef = .slice (some ⟨db, 0, none⟩) (xs.length + 1) dc := by rw [hA]; rfl
        have h23 : a0.tmps.getD 23 undef = .int .i64 (n : Int) := by rw [hA]; rfl
        have h24 : a0.tmps.getD 24 undef = .bool false := by rw [hA]; rfl
        have h25 : a0.tmps.getD 25 undef = .bool false := by rw [hA]; rfl
        have h26 : a0.tmps.getD 26 undef = .int .i64 (n : Int) := by rw [hA]; rfl
        have h27 : a0.tmps.getD 27 undef = .bool false := by rw [hA]; rfl
        have h28 : a0.tmps.getD 28 undef = .bool false := by rw [hA]; rfl
        have h29 : a0.tmps.getD 29 undef = .bool false := by rw [hA]; rfl
        have h30 : a0.tmps.getD 30 undef = .slice (some ⟨bb, oo, none⟩) L cap := by rw [hA]; rfl
        have h31 : a0.tmps.getD 31 undef = .bool false := by rw [hA]; rfl
        have h32 : a0.tmps.getD 32 undef = .bool false := by rw [hA]; rfl
        have h33 : a0.tmps.getD 33 undef = .bool false := by rw [hA]; rfl
        have h34 : a0.tmps.getD 34 undef = .int .i64 (bad : Int) := by rw [hA]; rfl
        have h35 : a0.tmps.getD 35 undef = .bool false := by rw [hA]; rfl
        have h36 : a0.tmps.getD 36 undef = .bool false := by rw [hA]; rfl
        have h37 : a0.tmps.getD 37 undef = .bool false := by rw [hA]; rfl
        have h38 : a0.tmps.getD 38 undef = .int .i64 (bad : Int) := by rw [hA]; rfl
        have h39 : a0.tmps.getD 39 undef = .bool false := by rw [hA]; rfl
        have h40 : a0.tmps.getD 40 undef = .bool false := by rw [hA]; rfl
        have h41 : a0.tmps.getD 41 undef = .bool false := by rw [hA]; rfl
        have h42 : a0.tmps.getD 42 undef = .int .i64 (long : Int) := by rw [hA]; rfl
        have h43 : a0.tmps.getD 43 undef = .bool false := by rw [hA]; rfl
        have h44 : a0.tmps.getD 44 undef = .bool false := by rw [hA]; rfl
        have h45 : a0.tmps.getD 45 undef = .bool false := by rw [hA]; rfl
        have h46 : a0.tmps.getD 46 undef = .int .i64 (long : Int) := by rw [hA]; rfl
        have h47 : a0.tmps.getD 47 undef = .bool false := by rw [hA]; rfl
        have h48 : a0.tmps.getD 48 undef = .bool false := by rw [hA]; rfl
        have h49 : a0.tmps.getD 49 undef = undef := by rw [hA]; rfl
        have h50 : a0.tmps.getD 50 undef = .int .i64 (n : Int) := by rw [hA]; rfl
        have h51 : a0.tmps.getD 51 undef = .int .i64 (bad : Int) := by rw [hA]; rfl
        have h52 : a0.tmps.getD 52 undef = .int .i64 (long : Int) := by rw [hA]; rfl
        have h53 : a0.tmps.getD 53 undef = .pointer (some ⟨h, 0, none⟩) := by rw [hA]; rfl
        have h54 : a0.tmps.getD 54 undef = .pointer (some ⟨h, 0, none⟩) := by rw [hA]; rfl
        have h55 : a0.tmps.getD 55 undef = .pointer (some ⟨g, 0, none⟩) := by rw [hA]; rfl
        have h56 : a0.tmps.getD 56 undef = .tuple #[.pointer (some ⟨p, 0, none⟩), .int .i64 0] := by rw [hA]; rfl
        have h57 : a0.tmps.getD 57 undef = .pointer (some ⟨h, 0, none⟩) := by rw [hA]; rfl
        have h58 : a0.tmps.getD 58 undef = vi := by rw [hA]; rfl
        have h59 : a0.tmps.getD 59 undef = .int .i64 (pl : Int) := by rw [hA]; rfl
        have h60 : a0.tmps.getD 60 undef = .tuple #[.pointer (some ⟨p, 0, none⟩), .int .i64 0] := by rw [hA]; rfl
        have h61 : a0.tmps.getD 61 undef = .pointer (some ⟨p, 0, none⟩) := by rw [hA]; rfl
        have h62 : a0.tmps.getD 62 undef = .int .i64 0 := by rw [hA]; rfl
        have h63 : a0.tmps.getD 63 undef = .tuple #[.pointer (some ⟨q, 0, none⟩), .int .i64 0] := by rw [hA]; rfl
        have h64 : a0.tmps.getD 64 undef = .pointer (some ⟨g, 0, none⟩) := by rw [hA]; rfl
        have h65 : a0.tmps.getD 65 undef = .int .i64 (pl : Int) := by rw [hA]; rfl
        have h66 : a0.tmps.getD 66 undef = .tuple #[.pointer (some ⟨q, 0, none⟩), .int .i64 0] := by rw [hA]; rfl
        have h67 : a0.tmps.getD 67 undef = .pointer (some ⟨q, 0, none⟩) := by rw [hA]; rfl
        have h68 : a0.tmps.getD 68 undef = .int .i64 0 := by rw [hA]; rfl
        have h69 : a0.tmps.getD 69 undef = .int .i64 0 := by rw [hA]; rfl
        have h70 : a0.tmps.getD 70 undef = .int .i64 0 := by rw [hA]; rfl
        have h71 : a0.tmps.getD 71 undef = .int .i64 0 := by rw [hA]; rfl
        have h72 : a0.tmps.getD 72 undef = .bool false := by rw [hA]; rfl
        have h73 : a0.tmps.getD 73 undef = .bool false := by rw [hA]; rfl
        have h74 : a0.tmps.getD 74 undef = .pointer (some ⟨p, 0, none⟩) := by rw [hA]; rfl
        have h75 : a0.tmps.getD 75 undef = .bool false := by rw [hA]; rfl
        have h76 : a0.tmps.getD 76 undef = .pointer (some ⟨q, 0, none⟩) := by rw [hA]; rfl
        have h77 : a0.tmps.getD 77 undef = .bool false := by rw [hA]; rfl
        have h78 : a0.tmps.getD 78 undef = .bool false := by rw [hA]; rfl
        have h79 : a0.tmps.getD 79 undef = .bool false := by rw [hA]; rfl
        have h80 : a0.tmps.getD 80 undef = .int .i64 (i : Int) := by rw [hA]; rfl
        have h81 : a0.tmps.getD 81 undef = .slice (some ⟨bb, oo, none⟩) L cap := by rw [hA]; rfl
        have h82 : a0.tmps.getD 82 undef = .int .i64 (L : Int) := by rw [hA]; rfl
        have h83 : a0.tmps.getD 83 undef = .bool true := by rw [hA]; rfl
        have h84 : a0.tmps.getD 84 undef = .bool true := by rw [hA]; rfl
        have h85 : a0.tmps.getD 85 undef = .pointer (some ⟨q, 0, none⟩) := by rw [hA]; rfl
        have h86 : a0.tmps.getD 86 undef = .bool true := by rw [hA]; rfl
        have h87 : a0.tmps.getD 87 undef = .bool true := by rw [hA]; rfl
        have h88 : a0.tmps.getD 88 undef = u88 := by rw [hA]; rfl
        have h89 : a0.tmps.getD 89 undef = u89 := by rw [hA]; rfl
        have h90 : a0.tmps.getD 90 undef = .pointer (some ⟨p, 0, none⟩) := by rw [hA]; rfl
        have h91 : a0.tmps.getD 91 undef = .pointer (some ⟨q, 0, none⟩) := by rw [hA]; rfl
        have h92 : a0.tmps.getD 92 undef = .slice (some ⟨bb, oo, none⟩) L cap := by rw [hA]; rfl
        have h93 : a0.tmps.getD 93 undef = .int .i64 (i : Int) := by rw [hA]; rfl
        have h94 : a0.tmps.getD 94 undef = .pointer (some ⟨bb, oo + i * 5, none⟩) := by rw [hA]; rfl
        have h95 : a0.tmps.getD 95 undef = .agg #[.int .i64 kd, .int .i64 kb, pv, .int .u64 (ch : Int), .int .i64 kn] := by rw [hA]; rfl
        have h96 : a0.tmps.getD 96 undef = .bool true := by rw [hA]; rfl
        have h97 : a0.tmps.getD 97 undef = .bool false := by rw [hA]; rfl
        have h98 : a0.tmps.getD 98 undef = .tuple #[.int .i64 (c'.hit : Int), .int .i64 (c'.miss : Int)] := by rw [hA]; rfl
        have h99 : a0.tmps.getD 99 undef = .pointer (some ⟨p, 0, none⟩) := by rw [hA]; rfl
        have h100 : a0.tmps.getD 100 undef = .tuple #[.int .i64 (c'.hit : Int), .int .i64 (c'.miss : Int)] := by rw [hA]; rfl
        have h101 : a0.tmps.getD 101 undef = .int .i64 (c'.hit : Int) := by rw [hA]; rfl
        have h102 : a0.tmps.getD 102 undef = .int .i64 (c'.miss : Int) := by rw [hA]; rfl
        have h103 : a0.tmps.getD 103 undef = .tuple #[.int .u64 (x0.first : Int), .bool true] := by rw [hA]; rfl
        have h104 : a0.tmps.getD 104 undef = .pointer (some ⟨p, 0, none⟩) := by rw [hA]; rfl
        have h105 : a0.tmps.getD 105 undef = .tuple #[.int .u64 (x0.first : Int), .bool true] := by rw [hA]; rfl
        have h106 : a0.tmps.getD 106 undef = .int .u64 (x0.first : Int) := by rw [hA]; rfl
        have h107 : a0.tmps.getD 107 undef = .bool true := by rw [hA]; rfl
        have h108 : a0.tmps.getD 108 undef = .pointer (some ⟨q, 0, none⟩) := by rw [hA]; rfl
        have h109 : a0.tmps.getD 109 undef = .slice (some ⟨db, 0, none⟩) (xs.length + 1) dc := by rw [hA]; rfl
        have h188 : a0.tmps.getD 188 undef = undef := by rw [hA]; rfl
        have hsz : a0.tmps.size = 189 := by rw [hA]; rfl
        have hdf : a0.defers = [] := by rw [hA]
        clear hA
        refine wp_region_kinds3 (fun _ => False) (by kernel_rfl) (by kernel_rfl) (by decide +kernel) (by rw [hsz]; decide +kernel) (.eq (.pointer (some ⟨h, 0, none⟩)) :: .eq (.pointer (some ⟨h, 0, none⟩)) :: .eq (.pointer (some ⟨h, 1, none⟩)) :: .eq (lv) :: .eq (.pointer (some ⟨g, 0, none⟩)) :: .eq (.pointer (some ⟨g, 0, none⟩)) :: .eq (.pointer (some ⟨g, 1, none⟩)) :: .eq (lg) :: .eq (.bool true) :: .eq (.bool false) :: .eq (.bool false) :: .eq (.pointer (some ⟨h, 0, none⟩)) :: .eq (.pointer (some ⟨h, 0, none⟩)) :: .eq (.pointer (some ⟨h, 2, none⟩)) :: .eq (.int .i64 (m'.calls : Int)) :: .eq (.pointer (some ⟨g, 0, none⟩)) :: .eq (.pointer (some ⟨g, 0, none⟩)) :: .eq (.pointer (some ⟨g, 2, none⟩)) :: .eq (.int .i64 (m'.calls : Int)) :: .eq (.bool false) :: .eq (.bool false) :: .eq (.bool false) :: .eq (.pointer (some ⟨p, 0, none⟩)) :: kI (fun _ e => e) (l'.map (·.b)) :: .eq (.pointer (some ⟨q, 0, none⟩)) :: kI (fun _ e => e) (l'.map (·.b)) :: .eq (.bool true) :: .eq (.bool false) :: .eq (.bool false) :: .eq (.bool false) :: .eq (.pointer (some ⟨p, 0, none⟩)) :: kDs (fun _ e => e) (xs.length + 1) (x0 :: xs) :: .eq (.slice (some ⟨db, 0, none⟩) (xs.length + 1) dc) :: .eq (.bool true) :: .eq (.bool false) :: .eq (.bool false) :: .eq (.bool false) :: .eq (.int .i64 (c'.hit : Int)) :: .eq (.pointer (some ⟨q, 0, none⟩)) :: .eq (.pointer (some ⟨q, 0, none⟩)) :: .eq (.pointer (some ⟨q, 4, none⟩)) :: .eq ((.int .i64 (c'.hit : Int))) :: .eq (.bool false) :: .eq (.bool false) :: .eq (.bool false) :: .eq (.int .i64 (c'.miss : Int)) :: .eq (.pointer (some ⟨q, 0, none⟩)) :: .eq (.pointer (some ⟨q, 0, none⟩)) :: .eq (.pointer (some ⟨q, 5, none⟩)) :: .eq ((.int .i64 (c'.miss : Int))) :: .eq (.bool false) :: .eq (.bool false) :: .eq (.bool false) :: .eq (.bool true) :: .eq (.slice (some ⟨db, 0, none⟩) (xs.length + 1) dc) :: .eq (.int .i64 (((xs.length + 1) : Nat) : Int)) :: .eq (.bool true) :: .eq (.bool false) :: .eq (.bool false) :: .eq (.bool false) :: .eq (.bool true) :: .eq (.bool true) :: .eq (.int .u64 (x0.first : Int)) :: .eq (.slice (some ⟨db, 0, none⟩) (xs.length + 1) dc) :: .eq (.pointer (some ⟨db, 0, none⟩)) :: .eq (.pointer (some ⟨db, 1, none⟩)) :: .eq (.int .u64 (x0.first : Int)) :: .eq (.bool false) :: .eq (.bool false) :: .eq (.bool false) :: .eq (.bool false) :: .eq (.bool true) :: .eq (.bool false) :: .eq (.bool false) :: .eq undef :: .eq undef :: .eq (.bool false) :: .eq (.bool false) :: []) [] (by decide) (by decide) (nopaths) (fun _ W => Fr (fun _ => False) w8 W) (Fr.refl _ _).drew ?steps ?done
        case steps =>
          refine ⟨?_, ?_⟩
          · intro a' w' k' hb hf hs hc hq hg hd
            exact .inl ⟨wantedN rfl, k_val (.pointer (some ⟨h, 0, none⟩)) (by decide) hs (x_move rfl ((hb.old 11 (by decide +kernel)).trans h11)) rfl⟩
          refine ⟨?_, ?_⟩
          · intro a' w' k' hb hf hs hc hq hg hd
            exact .inl ⟨wantedN rfl, k_val (.pointer (some ⟨h, 0, none⟩)) (by decide) hs (x_nilCheck rfl (hd 0 (by kernel_rfl) 110 rfl)) rfl⟩
          refine ⟨?_, ?_⟩
          · intro a' w' k' hb hf hs hc hq hg hd
            exact .inl ⟨wantedN rfl, k_val (.pointer (some ⟨h, 1, none⟩)) (by decide) hs (x_field (of := 0) (off := 1) (by intro W9; simpa using fa51_1 h 0 W9) rfl (hd 1 (by kernel_rfl) 111 rfl)) rfl⟩
          refine ⟨?_, ?_⟩
          · intro a' w' k' hb hf hs hc hq hg hd
            exact .inl ⟨wantedN rfl, k_val (lv) (by decide) hs (x_load1 ld49 rfl (hd 2 (by kernel_rfl) 112 rfl) (hs.cell_some (unhide HZ1))) rfl⟩
          refine ⟨?_, ?_⟩
          · intro a' w' k' hb hf hs hc hq hg hd
            exact .inl ⟨wantedN rfl, k_val (.pointer (some ⟨g, 0, none⟩)) (by decide) hs (x_move rfl ((hb.old 12 (by decide +kernel)).trans h12)) rfl⟩
          refine ⟨?_, ?_⟩
          · intro a' w' k' hb hf hs hc hq hg hd
            exact .inl ⟨wantedN rfl, k_val (.pointer (some ⟨g, 0, none⟩)) (by decide) hs (x_nilCheck rfl (hd 4 (by kernel_rfl) 114 rfl)) rfl⟩
          refine ⟨?_, ?_⟩
          · intro a' w' k' hb hf hs hc hq hg hd
            exact .inl ⟨wantedN rfl, k_val (.pointer (some ⟨g, 1, none⟩)) (by decide) hs (x_field (of := 0) (off := 1) (by intro W9; simpa using fa51_1 g 0 W9) rfl (hd 5 (by kernel_rfl) 115 rfl)) rfl⟩
          refine ⟨?_, ?_⟩
          · intro a' w' k' hb hf hs hc hq hg hd
            exact .inl ⟨wantedN rfl, k_val (lg) (by decide) hs (x_load1 ld49 rfl (hd 6 (by kernel_rfl) 116 rfl) (hs.cell_some (unhide HZ3))) rfl⟩
          refine ⟨?_, ?_⟩
          · intro a' w' k' hb hf hs hc hq hg hd
            exact .inl ⟨wantedN rfl, k_call 17 _ (by decide) (e_call2 rfl rfl (hd 3 (by kernel_rfl) 113 rfl) (hd 7 (by kernel_rfl) 117 rfl) (fun _ _ => by simp [go_sem])) ((ints_any _ _ _ m'.log m'.log ((unhide HZ7).kept hs (fun _ _ e => e)) ((unhide HZ8).kept hs (fun _ _ e => e))).mono (by rintro e w9 ⟨rfl, n9, rfl⟩; exact ⟨_, rfl, by simp [Tk, Kd.holds], Fr.ofDrewN _ _, Fr.trans hs (Fr.ofDrewN _ _) (fun _ _ h => h)⟩))⟩
          refine ⟨?_, ?_⟩
          · intro a' w' k' hb hf hs hc hq hg hd
            exact .inl ⟨wantedN rfl, k_val (.bool false) (by decide) hs (y_not (b := true) rfl (hd 8 (by kernel_rfl) 118 rfl)) rfl⟩
          refine ⟨?_, ?_⟩
          · intro a' w' k' hb hf hs hc hq hg hd
            exact .inl ⟨wantedN rfl, k_val (.bool false) (by decide) hs (x_move rfl (hd 9 (by kernel_rfl) 119 rfl)) rfl⟩
          refine ⟨?_, ?_⟩
          · intro a' w' k' hb hf hs hc hq hg hd
            exact .inl ⟨wantedF (d := 120) rfl rfl (by rw [hb.size, hsz]; omega) (hd 10 (by kernel_rfl) 120 rfl), k_val (.pointer (some ⟨h, 0, none⟩)) (by decide) hs (x_move rfl ((hb.old 11 (by decide +kernel)).trans h11)) rfl⟩
          refine ⟨?_, ?_⟩
          · intro a' w' k' hb hf hs hc hq hg hd
            exact .inl ⟨wantedF (d := 120) rfl rfl (by rw [hb.size, hsz]; omega) (hd 10 (by kernel_rfl) 120 rfl), k_val (.pointer (some ⟨h, 0, none⟩)) (by decide) hs (x_nilCheck rfl (hd 11 (by kernel_rfl) 121 rfl)) rfl⟩
          refine ⟨?_, ?_⟩
          · intro a' w' k' hb hf hs hc hq hg hd
            exact .inl ⟨wantedF (d := 120) rfl rfl (by rw [hb.size, hsz]; omega) (hd 10 (by kernel_rfl) 120 rfl), k_val (.pointer (some ⟨h, 2, none⟩)) (by decide) hs (x_field (of := 0) (off := 2) (by intro W9; simpa using fa51_2 h 0 W9) rfl (hd 12 (by kernel_rfl) 122 rfl)) rfl⟩
          refine ⟨?_, ?_⟩
          · intro a' w' k' hb hf hs hc hq hg hd
            exact .inl ⟨wantedF (d := 120) rfl rfl (by rw [hb.size, hsz]; omega) (hd 10 (by kernel_rfl) 120 rfl), k_val (.int .i64 (m'.calls : Int)) (by decide) hs (x_load1 ld3 rfl (hd 13 (by kernel_rfl) 123 rfl) (hs.cell_some (unhide HZ2))) rfl⟩
          refine ⟨?_, ?_⟩
          · intro a' w' k' hb hf hs hc hq hg hd
            exact .inl ⟨wantedF (d := 120) rfl rfl (by rw [hb.size, hsz]; omega) (hd 10 (by kernel_rfl) 120 rfl), k_val (.pointer (some ⟨g, 0, none⟩)) (by decide) hs (x_move rfl ((hb.old 12 (by decide +kernel)).trans h12)) rfl⟩
          refine ⟨?_, ?_⟩
          · intro a' w' k' hb hf hs hc hq hg hd
            exact .inl ⟨wantedF (d := 120) rfl rfl (by rw [hb.size, hsz]; omega) (hd 10 (by kernel_rfl) 120 rfl), k_val (.pointer (some ⟨g, 0, none⟩)) (by decide) hs (x_nilCheck rfl (hd 15 (by kernel_rfl) 125 rfl)) rfl⟩
          refine ⟨?_, ?_⟩
          · intro a' w' k' hb hf hs hc hq hg hd
            exact .inl ⟨wantedF (d := 120) rfl rfl (by rw [hb.size, hsz]; omega) (hd 10 (by kernel_rfl) 120 rfl), k_val (.pointer (some ⟨g, 2, none⟩)) (by decide) hs (x_field (of := 0) (off := 2) (by intro W9; simpa using fa51_2 g 0 W9) rfl (hd 16 (by kernel_rfl) 126 rfl)) rfl⟩
          refine ⟨?_, ?_⟩
          · intro a' w' k' hb hf hs hc hq hg hd
            exact .inl ⟨wantedF (d := 120) rfl rfl (by rw [hb.size, hsz]; omega) (hd 10 (by kernel_rfl) 120 rfl), k_val (.int .i64 (m'.calls : Int)) (by decide) hs (x_load1 ld3 rfl (hd 17 (by kernel_rfl) 127 rfl) (hs.cell_some (unhide HZ4))) rfl⟩
          refine ⟨?_, ?_⟩
          · intro a' w' k' hb hf hs hc hq hg hd
            exact .inl ⟨wantedF (d := 120) rfl rfl (by rw [hb.size, hsz]; omega) (hd 10 (by kernel_rfl) 120 rfl), k_val (.bool false) (by decide) hs (y_neI rfl (hd 14 (by kernel_rfl) 124 rfl) (hd 18 (by kernel_rfl) 128 rfl)) rfl⟩
          refine ⟨?_, ?_⟩
          · intro a' w' k' hb hf hs hc hq hg hd
            exact .inl ⟨wantedN rfl, k_val (.bool false) (by decide) hs (x_pickF rfl (hd 10 (by kernel_rfl) 120 rfl) (hd 19 (by kernel_rfl) 129 rfl)) rfl⟩
          refine ⟨?_, ?_⟩
          · intro a' w' k' hb hf hs hc hq hg hd
            exact .inl ⟨wantedN rfl, k_val (.bool false) (by decide) hs (x_move rfl (hd 20 (by kernel_rfl) 130 rfl)) rfl⟩
          refine ⟨?_, ?_⟩
          · intro a' w' k' hb hf hs hc hq hg hd
            exact .inl ⟨wantedF (d := 131) rfl rfl (by rw [hb.size, hsz]; omega) (hd 21 (by kernel_rfl) 131 rfl), k_val (.pointer (some ⟨p, 0, none⟩)) (by decide) hs (x_move rfl ((hb.old 13 (by decide +kernel)).trans h13)) rfl⟩
          refine ⟨?_, ?_⟩
          · intro a' w' k' hb hf hs hc hq hg hd
            exact .inl ⟨wantedF (d := 131) rfl rfl (by rw [hb.size, hsz]; omega) (hd 21 (by kernel_rfl) 131 rfl), k_call 18 _ (by decide) (e_call1 rfl rfl (hd 22 (by kernel_rfl) 132 rfl) (fun _ _ => by simp [go_sem])) ((lp_held1 ((unhide H8).fr0 hs) hk1).mono (by rintro e w9 ⟨⟨ao9, cc9, rfl, h9⟩, f9⟩; exact ⟨_, rfl, h9, f9, Fr.trans hs f9 (fun _ _ h => h)⟩))⟩
          refine ⟨?_, ?_⟩
          · intro a' w' k' hb hf hs hc hq hg hd
            exact .inl ⟨wantedF (d := 131) rfl rfl (by rw [hb.size, hsz]; omega) (hd 21 (by kernel_rfl) 131 rfl), k_val (.pointer (some ⟨q, 0, none⟩)) (by decide) hs (x_move rfl ((hb.old 15 (by decide +kernel)).trans h15)) rfl⟩
          refine ⟨?_, ?_⟩
          · intro a' w' k' hb hf hs hc hq hg hd
            exact .inl ⟨wantedF (d := 131) rfl rfl (by rw [hb.size, hsz]; omega) (hd 21 (by kernel_rfl) 131 rfl), k_call 19 _ (by decide) (e_call1 rfl rfl (hd 24 (by kernel_rfl) 134 rfl) (fun _ _ => by simp [go_sem])) ((lp_held2 ((unhide H8).fr0 hs) hk1).mono (by rintro e w9 ⟨⟨ao9, cc9, rfl, h9⟩, f9⟩; exact ⟨_, rfl, h9, f9, Fr.trans hs f9 (fun _ _ h => h)⟩))⟩
          refine ⟨?_, ?_⟩
          · intro a' w' k' hb hf hs hc hq hg hd
            have hh : RdV w' _ _ := (hd 23 (by kernel_rfl) 133 rfl); have hh2 : RdV w' _ _ := (hd 25 (by kernel_rfl) 135 rfl); exact .inl ⟨wantedF (d := 131) rfl rfl (by rw [hb.size, hsz]; omega) (hd 21 (by kernel_rfl) 131 rfl), k_call 17 _ (by decide) (e_call2 rfl rfl rfl rfl (fun _ _ => by simp [go_sem])) ((ints_any _ _ _ _ _ hh hh2).mono (by rintro e w9 ⟨rfl, n9, rfl⟩; exact ⟨_, rfl, by simp [Tk, Kd.holds], Fr.ofDrewN _ _, Fr.trans hs (Fr.ofDrewN _ _) (fun _ _ h => h)⟩))⟩
          refine ⟨?_, ?_⟩
          · intro a' w' k' hb hf hs hc hq hg hd
            exact .inl ⟨wantedF (d := 131) rfl rfl (by rw [hb.size, hsz]; omega) (hd 21 (by kernel_rfl) 131 rfl), k_val (.bool false) (by decide) hs (y_not (b := true) rfl (hd 26 (by kernel_rfl) 136 rfl)) rfl⟩
          refine ⟨?_, ?_⟩
          · intro a' w' k' hb hf hs hc hq hg hd
            exact .inl ⟨wantedN rfl, k_val (.bool false) (by decide) hs (x_pickF rfl (hd 21 (by kernel_rfl) 131 rfl) (hd 27 (by kernel_rfl) 137 rfl)) rfl⟩
          refine ⟨?_, ?_⟩
          · intro a' w' k' hb hf hs hc hq hg hd
            exact .inl ⟨wantedN rfl, k_val (.bool false) (by decide) hs (x_move rfl (hd 28 (by kernel_rfl) 138 rfl)) rfl⟩
          refine ⟨?_, ?_⟩
          · intro a' w' k' hb hf hs hc hq hg hd
            exact .inl ⟨wantedF (d := 139) rfl rfl (by rw [hb.size, hsz]; omega) (hd 29 (by kernel_rfl) 139 rfl), k_val (.pointer (some ⟨p, 0, none⟩)) (by decide) hs (x_move rfl ((hb.old 13 (by decide +kernel)).trans h13)) rfl⟩
          refine ⟨?_, ?_⟩
          · intro a' w' k' hb hf hs hc hq hg hd
            exact .inl ⟨wantedF (d := 139) rfl rfl (by rw [hb.size, hsz]; omega) (hd 29 (by kernel_rfl) 139 rfl), k_call 21 _ (by decide) (e_call1 rfl rfl (hd 30 (by kernel_rfl) 140 rfl) (fun _ _ => by simp [go_sem])) ((lp_dirty ((unhide H8).fr0 hs) hk1).mono (by rw [unhide HSR]; rintro e w9 ⟨⟨ao9, cc9, rfl, h9⟩, f9⟩; exact ⟨_, rfl, ⟨ao9, cc9, rfl, h9⟩, f9, Fr.trans hs f9 (fun _ _ h => h)⟩))⟩
          refine ⟨?_, ?_⟩
          · intro a' w' k' hb hf hs hc hq hg hd
            exact .inl ⟨wantedF (d := 139) rfl rfl (by rw [hb.size, hsz]; omega) (hd 29 (by kernel_rfl) 139 rfl), k_val (.slice (some ⟨db, 0, none⟩) (xs.length + 1) dc) (by decide) hs (x_move rfl ((hb.old 22 (by decide +kernel)).trans h22)) rfl⟩
          refine ⟨?_, ?_⟩
          · intro a' w' k' hb hf hs hc hq hg hd
            obtain ⟨ao9, cc9, hv9, hh⟩ : ∃ ao cc, _ = Value.slice ao _ cc ∧ World.ownsRow _ 0 58 4 _ _ _ := (hd 31 (by kernel_rfl) 141 rfl); exact .inl ⟨wantedF (d := 139) rfl rfl (by rw [hb.size, hsz]; omega) (hd 29 (by kernel_rfl) 139 rfl), k_call 20 _ (by decide) (e_call2 rfl rfl hv9 (hd 32 (by kernel_rfl) 142 rfl) (fun _ _ => by simp [go_sem])) ((same_ok _ _ _ _ _ _ (x0 :: xs) (by simp) (by have := unhide HSL; omega) hh (owns_kept (unhide HDO) hs (fun _ _ e => e))).mono (by rintro e w9 ⟨rfl, f9⟩; exact ⟨_, rfl, rfl, f9, Fr.trans hs f9 (fun _ _ h => h)⟩))⟩
          refine ⟨?_, ?_⟩
          · intro a' w' k' hb hf hs hc hq hg hd
            exact .inl ⟨wantedF (d := 139) rfl rfl (by rw [hb.size, hsz]; omega) (hd 29 (by kernel_rfl) 139 rfl), k_val (.bool false) (by decide) hs (y_not (b := true) rfl (hd 33 (by kernel_rfl) 143 rfl)) rfl⟩
          refine ⟨?_, ?_⟩
          · intro a' w' k' hb hf hs hc hq hg hd
            exact .inl ⟨wantedN rfl, k_val (.bool false) (by decide) hs (x_pickF rfl (hd 29 (by kernel_rfl) 139 rfl) (hd 34 (by kernel_rfl) 144 rfl)) rfl⟩
          refine ⟨?_, ?_⟩
          · intro a' w' k' hb hf hs hc hq hg hd
            exact .inl ⟨wantedN rfl, k_val (.bool false) (by decide) hs (x_move rfl (hd 35 (by kernel_rfl) 145 rfl)) rfl⟩
          refine ⟨?_, ?_⟩
          · intro a' w' k' hb hf hs hc hq hg hd
            exact .inl ⟨wantedF (d := 146) rfl rfl (by rw [hb.size, hsz]; omega) (hd 36 (by kernel_rfl) 146 rfl), k_val (.int .i64 (c'.hit : Int)) (by decide) hs (x_move rfl ((hb.old 18 (by decide +kernel)).trans h18)) rfl⟩
          refine ⟨?_, ?_⟩
          · intro a' w' k' hb hf hs hc hq hg hd
            exact .inl ⟨wantedF (d := 146) rfl rfl (by rw [hb.size, hsz]; omega) (hd 36 (by kernel_rfl) 146 rfl), k_val (.pointer (some ⟨q, 0, none⟩)) (by decide) hs (x_move rfl ((hb.old 15 (by decide +kernel)).trans h15)) rfl⟩
          refine ⟨?_, ?_⟩
          · intro a' w' k' hb hf hs hc hq hg hd
            exact .inl ⟨wantedF (d := 146) rfl rfl (by rw [hb.size, hsz]; omega) (hd 36 (by kernel_rfl) 146 rfl), k_val (.pointer (some ⟨q, 0, none⟩)) (by decide) hs (x_nilCheck rfl (hd 38 (by kernel_rfl) 148 rfl)) rfl⟩
          refine ⟨?_, ?_⟩
          · intro a' w' k' hb hf hs hc hq hg hd
            exact .inl ⟨wantedF (d := 146) rfl rfl (by rw [hb.size, hsz]; omega) (hd 36 (by kernel_rfl) 146 rfl), k_val (.pointer (some ⟨q, 4, none⟩)) (by decide) hs (x_field (of := 0) (off := 4) (by intro W9; simpa using fa56_4 q 0 W9) rfl (hd 39 (by kernel_rfl) 149 rfl)) rfl⟩
          refine ⟨?_, ?_⟩
          · intro a' w' k' hb hf hs hc hq hg hd
            exact .inl ⟨wantedF (d := 146) rfl rfl (by rw [hb.size, hsz]; omega) (hd 36 (by kernel_rfl) 146 rfl), k_val ((.int .i64 (c'.hit : Int))) (by decide) hs (x_load1 ld3 rfl (hd 40 (by kernel_rfl) 150 rfl) (hs.cell_some (unhide HZ5))) rfl⟩
          refine ⟨?_, ?_⟩
          · intro a' w' k' hb hf hs hc hq hg hd
            exact .inl ⟨wantedF (d := 146) rfl rfl (by rw [hb.size, hsz]; omega) (hd 36 (by kernel_rfl) 146 rfl), k_val (.bool false) (by decide) hs (y_neI rfl (hd 37 (by kernel_rfl) 147 rfl) (hd 41 (by kernel_rfl) 151 rfl)) rfl⟩
          refine ⟨?_, ?_⟩
          · intro a' w' k' hb hf hs hc hq hg hd
            exact .inl ⟨wantedN rfl, k_val (.bool false) (by decide) hs (x_pickF rfl (hd 36 (by kernel_rfl) 146 rfl) (hd 42 (by kernel_rfl) 152 rfl)) rfl⟩
          refine ⟨?_, ?_⟩
          · intro a' w' k' hb hf hs hc hq hg hd
            exact .inl ⟨wantedN rfl, k_val (.bool false) (by decide) hs (x_move rfl (hd 43 (by kernel_rfl) 153 rfl)) rfl⟩
          refine ⟨?_, ?_⟩
          · intro a' w' k' hb hf hs hc hq hg hd
            exact .inl ⟨wantedF (d := 154) rfl rfl (by rw [hb.size, hsz]; omega) (hd 44 (by kernel_rfl) 154 rfl), k_val (.int .i64 (c'.miss : Int)) (by decide) hs (x_move rfl ((hb.old 19 (by decide +kernel)).trans h19)) rfl⟩
          refine ⟨?_, ?_⟩
          · intro a' w' k' hb hf hs hc hq hg hd
            exact .inl ⟨wantedF (d := 154) rfl rfl (by rw [hb.size, hsz]; omega) (hd 44 (by kernel_rfl) 154 rfl), k_val (.pointer (some ⟨q, 0, none⟩)) (by decide) hs (x_move rfl ((hb.old 15 (by decide +kernel)).trans h15)) rfl⟩
          refine ⟨?_, ?_⟩
          · intro a' w' k' hb hf hs hc hq hg hd
            exact .inl ⟨wantedF (d := 154) rfl rfl (by rw [hb.size, hsz]; omega) (hd 44 (by kernel_rfl) 154 rfl), k_val (.pointer (some ⟨q, 0, none⟩)) (by decide) hs (x_nilCheck rfl (hd 46 (by kernel_rfl) 156 rfl)) rfl⟩
          refine ⟨?_, ?_⟩
          · intro a' w' k' hb hf hs hc hq hg hd
            exact .inl ⟨wantedF (d := 154) rfl rfl (by rw [hb.size, hsz]; omega) (hd 44 (by kernel_rfl) 154 rfl), k_val (.pointer (some ⟨q, 5, none⟩)) (by decide) hs (x_field (of := 0) (off := 5) (by intro W9; simpa using fa56_5 q 0 W9) rfl (hd 47 (by kernel_rfl) 157 rfl)) rfl⟩
          refine ⟨?_, ?_⟩
          · intro a' w' k' hb hf hs hc hq hg hd
            exact .inl ⟨wantedF (d := 154) rfl rfl (by rw [hb.size, hsz]; omega) (hd 44 (by kernel_rfl) 154 rfl), k_val ((.int .i64 (c'.miss : Int))) (by decide) hs (x_load1 ld3 rfl (hd 48 (by kernel_rfl) 158 rfl) (hs.cell_some (unhide HZ6))) rfl⟩
          refine ⟨?_, ?_⟩
          · intro a' w' k' hb hf hs hc hq hg hd
            exact .inl ⟨wantedF (d := 154) rfl rfl (by rw [hb.size, hsz]; omega) (hd 44 (by kernel_rfl) 154 rfl), k_val (.bool false) (by decide) hs (y_neI rfl (hd 45 (by kernel_rfl) 155 rfl) (hd 49 (by kernel_rfl) 159 rfl)) rfl⟩
          refine ⟨?_, ?_⟩
          · intro a' w' k' hb hf hs hc hq hg hd
            exact .inl ⟨wantedN rfl, k_val (.bool false) (by decide) hs (x_pickF rfl (hd 44 (by kernel_rfl) 154 rfl) (hd 50 (by kernel_rfl) 160 rfl)) rfl⟩
          refine ⟨?_, ?_⟩
          · intro a' w' k' hb hf hs hc hq hg hd
            exact .inl ⟨wantedN rfl, k_val (.bool false) (by decide) hs (x_move rfl (hd 51 (by kernel_rfl) 161 rfl)) rfl⟩
          refine ⟨?_, ?_⟩
          · intro a' w' k' hb hf hs hc hq hg hd
            exact .inl ⟨wantedF (d := 162) rfl rfl (by rw [hb.size, hsz]; omega) (hd 52 (by kernel_rfl) 162 rfl), k_val (.bool true) (by decide) hs (x_move rfl ((hb.old 21 (by decide +kernel)).trans h21)) rfl⟩
          refine ⟨?_, ?_⟩
          · intro a' w' k' hb hf hs hc hq hg hd
            exact .inl ⟨wantedF (d := 162) rfl rfl (by rw [hb.size, hsz]; omega) (hd 52 (by kernel_rfl) 162 rfl), k_val (.slice (some ⟨db, 0, none⟩) (xs.length + 1) dc) (by decide) hs (x_move rfl ((hb.old 22 (by decide +kernel)).trans h22)) rfl⟩
          refine ⟨?_, ?_⟩
          · intro a' w' k' hb hf hs hc hq hg hd
            exact .inl ⟨wantedF (d := 162) rfl rfl (by rw [hb.size, hsz]; omega) (hd 52 (by kernel_rfl) 162 rfl), k_val (.int .i64 (((xs.length + 1) : Nat) : Int)) (by decide) hs (y_len45 rfl (hd 54 (by kernel_rfl) 164 rfl)) rfl⟩
          refine ⟨?_, ?_⟩
          · intro a' w' k' hb hf hs hc hq hg hd
            exact .inl ⟨wantedF (d := 162) rfl rfl (by rw [hb.size, hsz]; omega) (hd 52 (by kernel_rfl) 162 rfl), k_val (.bool true) (by decide) hs (y_gt rfl (hd 55 (by kernel_rfl) 165 rfl) rfl (by simp)) rfl⟩
          refine ⟨?_, ?_⟩
          · intro a' w' k' hb hf hs hc hq hg hd
            exact .inl ⟨wantedF (d := 162) rfl rfl (by rw [hb.size, hsz]; omega) (hd 52 (by kernel_rfl) 162 rfl), k_val (.bool false) (by decide) hs (y_neB rfl (hd 53 (by kernel_rfl) 163 rfl) (hd 56 (by kernel_rfl) 166 rfl)) rfl⟩
          refine ⟨?_, ?_⟩
          · intro a' w' k' hb hf hs hc hq hg hd
            exact .inl ⟨wantedN rfl, k_val (.bool false) (by decide) hs (x_pickF rfl (hd 52 (by kernel_rfl) 162 rfl) (hd 57 (by kernel_rfl) 167 rfl)) rfl⟩
          refine ⟨?_, ?_⟩
          · intro a' w' k' hb hf hs hc hq hg hd
            exact .inl ⟨wantedN rfl, k_val (.bool false) (by decide) hs (x_move rfl (hd 58 (by kernel_rfl) 168 rfl)) rfl⟩
          refine ⟨?_, ?_⟩
          · intro a' w' k' hb hf hs hc hq hg hd
            exact .inl ⟨wantedF (d := 169) rfl rfl (by rw [hb.size, hsz]; omega) (hd 59 (by kernel_rfl) 169 rfl), k_val (.bool true) (by decide) hs (x_move rfl ((hb.old 21 (by decide +kernel)).trans h21)) rfl⟩
          refine ⟨?_, ?_⟩
          · intro a' w' k' hb hf hs hc hq hg hd
            exact .inl ⟨wantedF (d := 169) rfl rfl (by rw [hb.size, hsz]; omega) (hd 59 (by kernel_rfl) 169 rfl), k_val (.bool true) (by decide) hs (x_move rfl (hd 60 (by kernel_rfl) 170 rfl)) rfl⟩
          refine ⟨?_, ?_⟩
          · intro a' w' k' hb hf hs hc hq hg hd
            exact .inl ⟨wantedT (d := 171) rfl rfl (by rw [hb.size, hsz]; omega) (hd 61 (by kernel_rfl) 171 rfl), k_val (.int .u64 (x0.first : Int)) (by decide) hs (x_move rfl ((hb.old 20 (by decide +kernel)).trans h20)) rfl⟩
          refine ⟨?_, ?_⟩
          · intro a' w' k' hb hf hs hc hq hg hd
            exact .inl ⟨wantedT (d := 171) rfl rfl (by rw [hb.size, hsz]; omega) (hd 61 (by kernel_rfl) 171 rfl), k_val (.slice (some ⟨db, 0, none⟩) (xs.length + 1) dc) (by decide) hs (x_move rfl ((hb.old 22 (by decide +kernel)).trans h22)) rfl⟩
          refine ⟨?_, ?_⟩
          · intro a' w' k' hb hf hs hc hq hg hd
            exact .inl ⟨wantedT (d := 171) rfl rfl (by rw [hb.size, hsz]; omega) (hd 61 (by kernel_rfl) 171 rfl), k_val (.pointer (some ⟨db, 0, none⟩)) (by decide) hs (y_idx45 rfl (hd 63 (by kernel_rfl) 173 rfl) rfl) rfl⟩
          refine ⟨?_, ?_⟩
          · intro a' w' k' hb hf hs hc hq hg hd
            exact .inl ⟨wantedT (d := 171) rfl rfl (by rw [hb.size, hsz]; omega) (hd 61 (by kernel_rfl) 171 rfl), k_val (.pointer (some ⟨db, 1, none⟩)) (by decide) hs (x_field (of := 0) (off := 1) (by intro W9; simpa using fa58_1 db 0 W9) rfl (hd 64 (by kernel_rfl) 174 rfl)) rfl⟩
          refine ⟨?_, ?_⟩
          · intro a' w' k' hb hf hs hc hq hg hd
            exact .inl ⟨wantedT (d := 171) rfl rfl (by rw [hb.size, hsz]; omega) (hd 61 (by kernel_rfl) 171 rfl), k_val (.int .u64 (x0.first : Int)) (by decide) hs (x_load1 ld38 rfl (hd 65 (by kernel_rfl) 175 rfl) (hs.cell_some (unhide HC1))) rfl⟩
          refine ⟨?_, ?_⟩
          · intro a' w' k' hb hf hs hc hq hg hd
            exact .inl ⟨wantedT (d := 171) rfl rfl (by rw [hb.size, hsz]; omega) (hd 61 (by kernel_rfl) 171 rfl), k_val (.bool false) (by decide) hs (y_neU rfl (hd 62 (by kernel_rfl) 172 rfl) (hd 66 (by kernel_rfl) 176 rfl)) rfl⟩
          refine ⟨?_, ?_⟩
          · intro a' w' k' hb hf hs hc hq hg hd
            exact .inl ⟨wantedF (d := 169) rfl rfl (by rw [hb.size, hsz]; omega) (hd 59 (by kernel_rfl) 169 rfl), k_val (.bool false) (by decide) hs (x_pickT rfl (hd 61 (by kernel_rfl) 171 rfl) (hd 67 (by kernel_rfl) 177 rfl)) rfl⟩
          refine ⟨?_, ?_⟩
          · intro a' w' k' hb hf hs hc hq hg hd
            exact .inl ⟨wantedN rfl, k_val (.bool false) (by decide) hs (x_pickF rfl (hd 59 (by kernel_rfl) 169 rfl) (hd 68 (by kernel_rfl) 178 rfl)) rfl⟩
          refine ⟨?_, ?_⟩
          · intro a' w' k' hb hf hs hc hq hg hd
            exact .inl ⟨wantedN rfl, k_val (.bool false) (by decide) hs (x_move rfl (hd 69 (by kernel_rfl) 179 rfl)) rfl⟩
          refine ⟨?_, ?_⟩
          · intro a' w' k' hb hf hs hc hq hg hd
            exact .inl ⟨wantedF (d := 180) rfl rfl (by rw [hb.size, hsz]; omega) (hd 70 (by kernel_rfl) 180 rfl), k_val (.bool true) (by decide) hs (x_move rfl ((hb.old 21 (by decide +kernel)).trans h21)) rfl⟩
          refine ⟨?_, ?_⟩
          · intro a' w' k' hb hf hs hc hq hg hd
            exact .inl ⟨wantedF (d := 180) rfl rfl (by rw [hb.size, hsz]; omega) (hd 70 (by kernel_rfl) 180 rfl), k_val (.bool false) (by decide) hs (y_not (b := true) rfl (hd 71 (by kernel_rfl) 181 rfl)) rfl⟩
          refine ⟨?_, ?_⟩
          · intro a' w' k' hb hf hs hc hq hg hd
            exact .inl ⟨wantedF (d := 180) rfl rfl (by rw [hb.size, hsz]; omega) (hd 70 (by kernel_rfl) 180 rfl), k_val (.bool false) (by decide) hs (x_move rfl (hd 72 (by kernel_rfl) 182 rfl)) rfl⟩
          refine ⟨?_, ?_⟩
          · intro a' w' k' hb hf hs hc hq hg hd
            exact .inr ⟨offT (d := 183) rfl rfl (by rw [hb.size, hsz]; omega) (hd 73 (by kernel_rfl) 183 rfl), by decide, rfl, Fr.refl _ _⟩
          refine ⟨?_, ?_⟩
          · intro a' w' k' hb hf hs hc hq hg hd
            exact .inr ⟨offT (d := 183) rfl rfl (by rw [hb.size, hsz]; omega) (hd 73 (by kernel_rfl) 183 rfl), by decide, rfl, Fr.refl _ _⟩
          refine ⟨?_, ?_⟩
          · intro a' w' k' hb hf hs hc hq hg hd
            exact .inl ⟨wantedF (d := 180) rfl rfl (by rw [hb.size, hsz]; omega) (hd 70 (by kernel_rfl) 180 rfl), k_val (.bool false) (by decide) hs (x_pickF rfl (hd 73 (by kernel_rfl) 183 rfl) rfl) rfl⟩
          refine ⟨?_, ?_⟩
          · intro a' w' k' hb hf hs hc hq hg hd
            exact .inl ⟨wantedN rfl, k_val (.bool false) (by decide) hs (x_pickF rfl (hd 70 (by kernel_rfl) 180 rfl) (hd 76 (by kernel_rfl) 186 rfl)) rfl⟩
          exact trivial
        case done =>
          intro a' w9 hb hf hs hall
          have hdf' : a'.defers = [] := by rw [hb.defers]; exact hdf
          obtain ⟨v110, hv110⟩ : ∃ v, a'.tmps.getD 110 undef = v := ⟨_, rfl⟩
          obtain ⟨v111, hv111⟩ : ∃ v, a'.tmps.getD 111 undef = v := ⟨_, rfl⟩
          obtain ⟨v112, hv112⟩ : ∃ v, a'.tmps.getD 112 undef = v := ⟨_, rfl⟩
          obtain ⟨v113, hv113⟩ : ∃ v, a'.tmps.getD 113 undef = v := ⟨_, rfl⟩
          obtain ⟨v114, hv114⟩ : ∃ v, a'.tmps.getD 114 undef = v := ⟨_, rfl⟩
          obtain ⟨v115, hv115⟩ : ∃ v, a'.tmps.getD 115 undef = v := ⟨_, rfl⟩
          obtain ⟨v116, hv116⟩ : ∃ v, a'.tmps.getD 116 undef = v := ⟨_, rfl⟩
          obtain ⟨v117, hv117⟩ : ∃ v, a'.tmps.getD 117 undef = v := ⟨_, rfl⟩
          obtain ⟨v118, hv118⟩ : ∃ v, a'.tmps.getD 118 undef = v := ⟨_, rfl⟩
          obtain ⟨v119, hv119⟩ : ∃ v, a'.tmps.getD 119 undef = v := ⟨_, rfl⟩
          obtain ⟨v120, hv120⟩ : ∃ v, a'.tmps.getD 120 undef = v := ⟨_, rfl⟩
          obtain ⟨v121, hv121⟩ : ∃ v, a'.tmps.getD 121 undef = v := ⟨_, rfl⟩
          obtain ⟨v122, hv122⟩ : ∃ v, a'.tmps.getD 122 undef = v := ⟨_, rfl⟩
          obtain ⟨v123, hv123⟩ : ∃ v, a'.tmps.getD 123 undef = v := ⟨_, rfl⟩
          obtain ⟨v124, hv124⟩ : ∃ v, a'.tmps.getD 124 undef = v := ⟨_, rfl⟩
          obtain ⟨v125, hv125⟩ : ∃ v, a'.tmps.getD 125 undef = v := ⟨_, rfl⟩
          obtain ⟨v126, hv126⟩ : ∃ v, a'.tmps.getD 126 undef = v := ⟨_, rfl⟩
          obtain ⟨v127, hv127⟩ : ∃ v, a'.tmps.getD 127 undef = v := ⟨_, rfl⟩
          obtain ⟨v128, hv128⟩ : ∃ v, a'.tmps.getD 128 undef = v := ⟨_, rfl⟩
          obtain ⟨v129, hv129⟩ : ∃ v, a'.tmps.getD 129 undef = v := ⟨_, rfl⟩
          obtain ⟨v130, hv130⟩ : ∃ v, a'.tmps.getD 130 undef = v := ⟨_, rfl⟩
          obtain ⟨v131, hv131⟩ : ∃ v, a'.tmps.getD 131 undef = v := ⟨_, rfl⟩
          obtain ⟨v132, hv132⟩ : ∃ v, a'.tmps.getD 132 undef = v := ⟨_, rfl⟩
          obtain ⟨v133, hv133⟩ : ∃ v, a'.tmps.getD 133 undef = v := ⟨_, rfl⟩
          obtain ⟨v134, hv134⟩ : ∃ v, a'.tmps.getD 134 undef = v := ⟨_, rfl⟩
          obtain ⟨v135, hv135⟩ : ∃ v, a'.tmps.getD 135 undef = v := ⟨_, rfl⟩
          obtain ⟨v136, hv136⟩ : ∃ v, a'.tmps.getD 136 undef = v := ⟨_, rfl⟩
          obtain ⟨v137, hv137⟩ : ∃ v, a'.tmps.getD 137 undef = v := ⟨_, rfl⟩
          obtain ⟨v138, hv138⟩ : ∃ v, a'.tmps.getD 138 undef = v := ⟨_, rfl⟩
          obtain ⟨v139, hv139⟩ : ∃ v, a'.tmps.getD 139 undef = v := ⟨_, rfl⟩
          obtain ⟨v140, hv140⟩ : ∃ v, a'.tmps.getD 140 undef = v := ⟨_, rfl⟩
          obtain ⟨v141, hv141⟩ : ∃ v, a'.tmps.getD 141 undef = v := ⟨_, rfl⟩
          obtain ⟨v142, hv142⟩ : ∃ v, a'.tmps.getD 142 undef = v := ⟨_, rfl⟩
          obtain ⟨v143, hv143⟩ : ∃ v, a'.tmps.getD 143 undef = v := ⟨_, rfl⟩
          obtain ⟨v144, hv144⟩ : ∃ v, a'.tmps.getD 144 undef = v := ⟨_, rfl⟩
          obtain ⟨v145, hv145⟩ : ∃ v, a'.tmps.getD 145 undef = v := ⟨_, rfl⟩
          obtain ⟨v146, hv146⟩ : ∃ v, a'.tmps.getD 146 undef = v := ⟨_, rfl⟩
          obtain ⟨v147, hv147⟩ : ∃ v, a'.tmps.getD 147 undef = v := ⟨_, rfl⟩
          obtain ⟨v148, hv148⟩ : ∃ v, a'.tmps.getD 148 undef = v := ⟨_, rfl⟩
          obtain ⟨v149, hv149⟩ : ∃ v, a'.tmps.getD 149 undef = v := ⟨_, rfl⟩
          obtain ⟨v150, hv150⟩ : ∃ v, a'.tmps.getD 150 undef = v := ⟨_, rfl⟩
          obtain ⟨v151, hv151⟩ : ∃ v, a'.tmps.getD 151 undef = v := ⟨_, rfl⟩
          obtain ⟨v152, hv152⟩ : ∃ v, a'.tmps.getD 152 undef = v := ⟨_, rfl⟩
          obtain ⟨v153, hv153⟩ : ∃ v, a'.tmps.getD 153 undef = v := ⟨_, rfl⟩
          obtain ⟨v154, hv154⟩ : ∃ v, a'.tmps.getD 154 undef = v := ⟨_, rfl⟩
          obtain ⟨v155, hv155⟩ : ∃ v, a'.tmps.getD 155 undef = v := ⟨_, rfl⟩
          obtain ⟨v156, hv156⟩ : ∃ v, a'.tmps.getD 156 undef = v := ⟨_, rfl⟩
          obtain ⟨v157, hv157⟩ : ∃ v, a'.tmps.getD 157 undef = v := ⟨_, rfl⟩
          obtain ⟨v158, hv158⟩ : ∃ v, a'.tmps.getD 158 undef = v := ⟨_, rfl⟩
          obtain ⟨v159, hv159⟩ : ∃ v, a'.tmps.getD 159 undef = v := ⟨_, rfl⟩
          obtain ⟨v160, hv160⟩ : ∃ v, a'.tmps.getD 160 undef = v := ⟨_, rfl⟩
          obtain ⟨v161, hv161⟩ : ∃ v, a'.tmps.getD 161 undef = v := ⟨_, rfl⟩
          obtain ⟨v162, hv162⟩ : ∃ v, a'.tmps.getD 162 undef = v := ⟨_, rfl⟩
          obtain ⟨v163, hv163⟩ : ∃ v, a'.tmps.getD 163 undef = v := ⟨_, rfl⟩
          obtain ⟨v164, hv164⟩ : ∃ v, a'.tmps.getD 164 undef = v := ⟨_, rfl⟩
          obtain ⟨v165, hv165⟩ : ∃ v, a'.tmps.getD 165 undef = v := ⟨_, rfl⟩
          obtain ⟨v166, hv166⟩ : ∃ v, a'.tmps.getD 166 undef = v := ⟨_, rfl⟩
          obtain ⟨v167, hv167⟩ : ∃ v, a'.tmps.getD 167 undef = v := ⟨_, rfl⟩
          obtain ⟨v168, hv168⟩ : ∃ v, a'.tmps.getD 168 undef = v := ⟨_, rfl⟩
          obtain ⟨v169, hv169⟩ : ∃ v, a'.tmps.getD 169 undef = v := ⟨_, rfl⟩
          obtain ⟨v170, hv170⟩ : ∃ v, a'.tmps.getD 170 undef = v := ⟨_, rfl⟩
          obtain ⟨v171, hv171⟩ : ∃ v, a'.tmps.getD 171 undef = v := ⟨_, rfl⟩
          obtain ⟨v172, hv172⟩ : ∃ v, a'.tmps.getD 172 undef = v := ⟨_, rfl⟩
          obtain ⟨v173, hv173⟩ : ∃ v, a'.tmps.getD 173 undef = v := ⟨_, rfl⟩
          obtain ⟨v174, hv174⟩ : ∃ v, a'.tmps.getD 174 undef = v := ⟨_, rfl⟩
          obtain ⟨v175, hv175⟩ : ∃ v, a'.tmps.getD 175 undef = v := ⟨_, rfl⟩
          obtain ⟨v176, hv176⟩ : ∃ v, a'.tmps.getD 176 undef = v := ⟨_, rfl⟩
          obtain ⟨v177, hv177⟩ : ∃ v, a'.tmps.getD 177 undef = v := ⟨_, rfl⟩
          obtain ⟨v178, hv178⟩ : ∃ v, a'.tmps.getD 178 undef = v := ⟨_, rfl⟩
          obtain ⟨v179, hv179⟩ : ∃ v, a'.tmps.getD 179 undef = v := ⟨_, rfl⟩
          obtain ⟨v180, hv180⟩ : ∃ v, a'.tmps.getD 180 undef = v := ⟨_, rfl⟩
          obtain ⟨v181, hv181⟩ : ∃ v, a'.tmps.getD 181 undef = v := ⟨_, rfl⟩
          obtain ⟨v182, hv182⟩ : ∃ v, a'.tmps.getD 182 undef = v := ⟨_, rfl⟩
          obtain ⟨v183, hv183⟩ : ∃ v, a'.tmps.getD 183 undef = v := ⟨_, rfl⟩
          obtain ⟨v184, hv184⟩ : ∃ v, a'.tmps.getD 184 undef = v := ⟨_, rfl⟩
          obtain ⟨v185, hv185⟩ : ∃ v, a'.tmps.getD 185 undef = v := ⟨_, rfl⟩
          obtain ⟨v186, hv186⟩ : ∃ v, a'.tmps.getD 186 undef = v := ⟨_, rfl⟩
          have hfr := frame_eq (a := a') (vs := [.int .i64 (n : Int), .int .i64 (pl : Int), .int .i64 (bad : Int), .int .i64 (long : Int), .slice (some ⟨bb, oo, none⟩) L cap, undef, undef, undef, undef, undef, u10, .pointer (some ⟨h, 0, none⟩), .pointer (some ⟨g, 0, none⟩), .pointer (some ⟨p, 0, none⟩), .int .i64 0, .pointer (some ⟨q, 0, none⟩), .int .i64 0, .int .i64 (i : Int), .int .i64 (c'.hit : Int), .int .i64 (c'.miss : Int), .int .u64 (x0.first : Int), .bool true, .slice (some ⟨db, 0, none⟩) (xs.length + 1) dc, .int .i64 (n : Int), .bool false, .bool false, .int .i64 (n : Int), .bool false, .bool false, .bool false, .slice (some ⟨bb, oo, none⟩) L cap, .bool false, .bool false, .bool false, .int .i64 (bad : Int), .bool false, .bool false, .bool false, .int .i64 (bad : Int), .bool false, .bool false, .bool false, .int .i64 (long : Int), .bool false, .bool false, .bool false, .int .i64 (long : Int), .bool false, .bool false, undef, .int .i64 (n : Int), .int .i64 (bad : Int), .int .i64 (long : Int), .pointer (some ⟨h, 0, none⟩), .pointer (some ⟨h, 0, none⟩), .pointer (some ⟨g, 0, none⟩), .tuple #[.pointer (some ⟨p, 0, none⟩), .int .i64 0], .pointer (some ⟨h, 0, none⟩), vi, .int .i64 (pl : Int), .tuple #[.pointer (some ⟨p, 0, none⟩), .int .i64 0], .pointer (some ⟨p, 0, none⟩), .int .i64 0, .tuple #[.pointer (some ⟨q, 0, none⟩), .int .i64 0], .pointer (some ⟨g, 0, none⟩), .int .i64 (pl : Int), .tuple #[.pointer (some ⟨q, 0, none⟩), .int .i64 0], .pointer (some ⟨q, 0, none⟩), .int .i64 0, .int .i64 0, .int .i64 0, .int .i64 0, .bool false, .bool false, .pointer (some ⟨p, 0, none⟩), .bool false, .pointer (some ⟨q, 0, none⟩), .bool false, .bool false, .bool false, .int .i64 (i : Int), .slice (some ⟨bb, oo, none⟩) L cap, .int .i64 (L : Int), .bool true, .bool true, .pointer (some ⟨q, 0, none⟩), .bool true, .bool true, u88, u89, .pointer (some ⟨p, 0, none⟩), .pointer (some ⟨q, 0, none⟩), .slice (some ⟨bb, oo, none⟩) L cap, .int .i64 (i : Int), .pointer (some ⟨bb, oo + i * 5, none⟩), .agg #[.int .i64 kd, .int .i64 kb, pv, .int .u64 (ch : Int), .int .i64 kn], .bool true, .bool false, .tuple #[.int .i64 (c'.hit : Int), .int .i64 (c'.miss : Int)], .pointer (some ⟨p, 0, none⟩), .tuple #[.int .i64 (c'.hit : Int), .int .i64 (c'.miss : Int)], .int .i64 (c'.hit : Int), .int .i64 (c'.miss : Int), .tuple #[.int .u64 (x0.first : Int), .bool true], .pointer (some ⟨p, 0, none⟩), .tuple #[.int .u64 (x0.first : Int), .bool true], .int .u64 (x0.first : Int), .bool true, .pointer (some ⟨q, 0, none⟩), .slice (some ⟨db, 0, none⟩) (xs.length + 1) dc, v110, v111, v112, v113, v114, v115, v116, v117, v118, v119, v120, v121, v122, v123, v124, v125, v126, v127, v128, v129, v130, v131, v132, v133, v134, v135, v136, v137, v138, v139, v140, v141, v142, v143, v144, v145, v146, v147, v148, v149, v150, v151, v152, v153, v154, v155, v156, v157, v158, v159, v160, v161, v162, v163, v164, v165, v166, v167, v168, v169, v170, v171, v172, v173, v174, v175, v176, v177, v178, v179, v180, v181, v182, v183, v184, v185, v186, .bool false, undef]) (by rw [hb.size, hsz]; rfl) hdf' ⟨((hb.old 0 (by decide +kernel)).trans h0), ((hb.old 1 (by decide +kernel)).trans h1), ((hb.old 2 (by decide +kernel)).trans h2), ((hb.old 3 (by decide +kernel)).trans h3), ((hb.old 4 (by decide +kernel)).trans h4), ((hb.old 5 (by decide +kernel)).trans h5), ((hb.old 6 (by decide +kernel)).trans h6), ((hb.old 7 (by decide +kernel)).trans h7), ((hb.old 8 (by decide +kernel)).trans h8), ((hb.old 9 (by decide +kernel)).trans h9), ((hb.old 10 (by decide +kernel)).trans h10), ((hb.old 11 (by decide +kernel)).trans h11), ((hb.old 12 (by decide +kernel)).trans h12), ((hb.old 13 (by decide +kernel)).trans h13), ((hb.old 14 (by decide +kernel)).trans h14), ((hb.old 15 (by decide +kernel)).trans h15), ((hb.old 16 (by decide +kernel)).trans h16), ((hb.old 17 (by decide +kernel)).trans h17), ((hb.old 18 (by decide +kernel)).trans h18), ((hb.old 19 (by decide +kernel)).trans h19), ((hb.old 20 (by decide +kernel)).trans h20), ((hb.old 21 (by decide +kernel)).trans h21), ((hb.old 22 (by decide +kernel)).trans h22), ((hb.old 23 (by decide +kernel)).trans h23), ((hb.old 24 (by decide +kernel)).trans h24), ((hb.old 25 (by decide +kernel)).trans h25), ((hb.old 26 (by decide +kernel)).trans h26), ((hb.old 27 (by decide +kernel)).trans h27), ((hb.old 28 (by decide +kernel)).trans h28), ((hb.old 29 (by decide +kernel)).trans h29), ((hb.old 30 (by decide +kernel)).trans h30), ((hb.old 31 (by decide +kernel)).trans h31), ((hb.old 32 (by decide +kernel)).trans h32), ((hb.old 33 (by decide +kernel)).trans h33), ((hb.old 34 (by decide +kernel)).trans h34), ((hb.old 35 (by decide +kernel)).trans h35), ((hb.old 36 (by decide +kernel)).trans h36), ((hb.old 37 (by decide +kernel)).trans h37), ((hb.old 38 (by decide +kernel)).trans h38), ((hb.old 39 (by decide +kernel)).trans h39), ((hb.old 40 (by decide +kernel)).trans h40), ((hb.old 41 (by decide +kernel)).trans h41), ((hb.old 42 (by decide +kernel)).trans h42), ((hb.old 43 (by decide +kernel)).trans h43), ((hb.old 44 (by decide +kernel)).trans h44), ((hb.old 45 (by decide +kernel)).trans h45), ((hb.old 46 (by decide +kernel)).trans h46), ((hb.old 47 (by decide +kernel)).trans h47), ((hb.old 48 (by decide +kernel)).trans h48), ((hb.old 49 (by decide +kernel)).trans h49), ((hb.old 50 (by decide +kernel)).trans h50), ((hb.old 51 (by decide +kernel)).trans h51), ((hb.old 52 (by decide +kernel)).trans h52), ((hb.old 53 (by decide +kernel)).trans h53), ((hb.old 54 (by decide +kernel)).trans h54), ((hb.old 55 (by decide +kernel)).trans h55), ((hb.old 56 (by decide +kernel)).trans h56), ((hb.old 57 (by decide +kernel)).trans h57), ((hb.old 58 (by decide +kernel)).trans h58), ((hb.old 59 (by decide +kernel)).trans h59), ((hb.old 60 (by decide +kernel)).trans h60), ((hb.old 61 (by decide +kernel)).trans h61), ((hb.old 62 (by decide +kernel)).trans h62), ((hb.old 63 (by decide +kernel)).trans h63), ((hb.old 64 (by decide +kernel)).trans h64), ((hb.old 65 (by decide +kernel)).trans h65), ((hb.old 66 (by decide +kernel)).trans h66), ((hb.old 67 (by decide +kernel)).trans h67), ((hb.old 68 (by decide +kernel)).trans h68), ((hb.old 69 (by decide +kernel)).trans h69), ((hb.old 70 (by decide +kernel)).trans h70), ((hb.old 71 (by decide +kernel)).trans h71), ((hb.old 72 (by decide +kernel)).trans h72), ((hb.old 73 (by decide +kernel)).trans h73), ((hb.old 74 (by decide +kernel)).trans h74), ((hb.old 75 (by decide +kernel)).trans h75), ((hb.old 76 (by decide +kernel)).trans h76), ((hb.old 77 (by decide +kernel)).trans h77), ((hb.old 78 (by decide +kernel)).trans h78), ((hb.old 79 (by decide +kernel)).trans h79), ((hb.old 80 (by decide +kernel)).trans h80), ((hb.old 81 (by decide +kernel)).trans h81), ((hb.old 82 (by decide +kernel)).trans h82), ((hb.old 83 (by decide +kernel)).trans h83), ((hb.old 84 (by decide +kernel)).trans h84), ((hb.old 85 (by decide +kernel)).trans h85), ((hb.old 86 (by decide +kernel)).trans h86), ((hb.old 87 (by decide +kernel)).trans h87), ((hb.old 88 (by decide +kernel)).trans h88), ((hb.old 89 (by decide +kernel)).trans h89), ((hb.old 90 (by decide +kernel)).trans h90), ((hb.old 91 (by decide +kernel)).trans h91), ((hb.old 92 (by decide +kernel)).trans h92), ((hb.old 93 (by decide +kernel)).trans h93), ((hb.old 94 (by decide +kernel)).trans h94), ((hb.old 95 (by decide +kernel)).trans h95), ((hb.old 96 (by decide +kernel)).trans h96), ((hb.old 97 (by decide +kernel)).trans h97), ((hb.old 98 (by decide +kernel)).trans h98), ((hb.old 99 (by decide +kernel)).trans h99), ((hb.old 100 (by decide +kernel)).trans h100), ((hb.old 101 (by decide +kernel)).trans h101), ((hb.old 102 (by decide +kernel)).trans h102), ((hb.old 103 (by decide +kernel)).trans h103), ((hb.old 104 (by decide +kernel)).trans h104), ((hb.old 105 (by decide +kernel)).trans h105), ((hb.old 106 (by decide +kernel)).trans h106), ((hb.old 107 (by decide +kernel)).trans h107), ((hb.old 108 (by decide +kernel)).trans h108), ((hb.old 109 (by decide +kernel)).trans h109), hv110, hv111, hv112, hv113, hv114, hv115, hv116, hv117, hv118, hv119, hv120, hv121, hv122, hv123, hv124, hv125, hv126, hv127, hv128, hv129, hv130, hv131, hv132, hv133, hv134, hv135, hv136, hv137, hv138, hv139, hv140, hv141, hv142, hv143, hv144, hv145, hv146, hv147, hv148, hv149, hv150, hv151, hv152, hv153, hv154, hv155, hv156, hv157, hv158, hv159, hv160, hv161, hv162, hv163, hv164, hv165, hv166, hv167, hv168, hv169, hv170, hv171, hv172, hv173, hv174, hv175, hv176, hv177, hv178, hv179, hv180, hv181, hv182, hv183, hv184, hv185, hv186, (show a'.tmps.getD 187 undef = .bool false from hall 77 (by decide) 187 rfl), ((hb.old 188 (by decide +kernel)).trans h188), trivial⟩
          have H9 := hide ((unhide H8).fr0 hs)
          clear hall hb hf hs hv110 hv111 hv112 hv113 hv114 hv115 hv116 hv117 hv118 hv119 hv120 hv121 hv122 hv123 hv124 hv125 hv126 hv127 hv128 hv129 hv130 hv131 hv132 hv133 hv134 hv135 hv136 hv137 hv138 hv139 hv140 hv141 hv142 hv143 hv144 hv145 hv146 hv147 hv148 hv149 hv150 hv151 hv152 hv153 hv154 hv155 hv156 hv157 hv158 hv159 hv160 hv161 hv162 hv163 hv164 hv165 hv166 hv167 hv168 hv169 hv170 hv171 hv172 hv173 hv174 hv175 hv176 hv177 hv178 hv179 hv180 hv181 hv182 hv183 hv184 hv185 hv186
          subst hfr
          clear h0 h1 h2 h3 h4 h5 h6 h7 h8 h9 h10 h11 h12 h13 h14 h15 h16 h17 h18 h19 h20 h21 h22 h23 h24 h25 h26 h27 h28 h29 h30 h31 h32 h33 h34 h35 h36 h37 h38 h39 h40 h41 h42 h43 h44 h45 h46 h47 h48 h49 h50 h51 h52 h53 h54 h55 h56 h57 h58 h59 h60 h61 h62 h63 h64 h65 h66 h67 h68 h69 h70 h71 h72 h73 h74 h75 h76 h77 h78 h79 h80 h81 h82 h83 h84 h85 h86 h87 h88 h89 h90 h91 h92 h93 h94 h95 h96 h97 h98 h99 h100 h101 h102 h103 h104 h105 h106 h107 h108 h109 h188 hsz hdf hdf' HZ1 HZ2 HZ3 HZ4 HZ5 HZ6 HZ7 HZ8 H8 HDO
          apply_assumption
          go_wp2_with fail
          go_roundw
          case rel => exact ⟨i + 1, _, _, _, by omega, by go_num, unhide H9⟩
          case measure => simp [intOf]; omega
    · obtain rfl : i = L := by omega
      have HFR := hide hS.f
      clear hS HS
      go_wp2_with fail
      refine (unhide HLV _ (unhide HFR)).mono ?_
      rintro e w9 ⟨rfl, f9⟩
      have HF9 := hide f9
      clear f9
      go_wp2_with fail
      go_ret
      exact ⟨rfl, unhide HF9⟩
end Go.Proofs.Ytdgmlopaeonacaa
