/-
  The walk of the law ShaPieces.
-/
import Derived.Test.YtlicmlioilkfdaaDoorP5
namespace Go.Proofs.YtlicmlioilkfdaaDoor
open Go.RowKit
set_option linter.unusedVariables false
set_option linter.unusedSimpArgs false

attribute [local go_sem ↓] Go.wp_at_zero Go.wp_at_succ

set_option maxHeartbeats 4000000 in
set_option maxRecDepth 100000 in
theorem shaPieces_any (w : World) (T : Tb w) (v : Value) (q : List UInt8) (hv : Rd w v q) (cv : Value) (cs : List Int) (hc : RdV w cv (cs.map (Value.int .i64))) (hcb : ∀ x ∈ cs, -9223372036854775808 ≤ x ∧ x ≤ 9223372036854775807) (lv : Value) (ls : List Dg) (hl : DRd w lv ls) (i : Int) :
    Calls Tryd.prog 7 #[v, cv, lv, .int .i64 i] w fun e w' => e = .returned (.bool true) ∧ Fr (fun _ => False) w w' := by
  obtain ⟨aoc, capc, rfl⟩ := hc.shape
  obtain ⟨aol, capl, rfl⟩ := hl.shape
  rw [List.length_map] at *
  have hlive : ∀ W, Fr (fun _ => False) w W → Calls Tryd.prog 10 #[] W fun e w' => e = .returned (.bool true) ∧ Fr (fun _ => False) w w' := fun W f => by
    refine (live_any W (T.kept f id id)).mono ?_
    rintro e w1 ⟨rfl, f1⟩
    exact ⟨rfl, f.trans f1 (fun _ _ h => h)⟩
  have HLV := hide hlive
  have hlen := len22 hv
  have HT := hide T
  have HV := hide hv
  have HC := hide hc
  have HCB := hide hcb
  have HL := hide hl
  clear hlive T hv hc hcb hl
  by_cases hbig : 9000 < (q.length : Int) ∨ 60 < (cs.length : Int) ∨ 60 < (ls.length : Int)
  · by_cases h1 : 9000 < (q.length : Int)
    · go_enter Tryd.func7, Tryd.ntmps7
      go_wp2_with fail
      refine (unhide HLV w (Fr.refl _ _)).mono ?_
      rintro e w1 ⟨rfl, f1⟩
      go_wp2_with fail
      go_ret
      exact ⟨rfl, f1⟩
    · by_cases h2 : 60 < (cs.length : Int)
      · go_enter Tryd.func7, Tryd.ntmps7
        go_wp2_with fail
        refine (unhide HLV w (Fr.refl _ _)).mono ?_
        rintro e w1 ⟨rfl, f1⟩
        go_wp2_with fail
        go_ret
        exact ⟨rfl, f1⟩
      · have h3 : 60 < (ls.length : Int) := by omega
        go_enter Tryd.func7, Tryd.ntmps7
        go_wp2_with fail
        refine (unhide HLV w (Fr.refl _ _)).mono ?_
        rintro e w1 ⟨rfl, f1⟩
        go_wp2_with fail
        go_ret
        exact ⟨rfl, f1⟩
  · have h1 : ¬ 9000 < (q.length : Int) := by omega
    have h2 : ¬ 60 < (cs.length : Int) := by omega
    have h3 : ¬ 60 < (ls.length : Int) := by omega
    clear hbig
    go_enter Tryd.func7, Tryd.ntmps7
    go_wp2_with fail
    refine (new_any w).mono ?_
    rintro e w1 ⟨rfl, hH1, f1⟩
    have H1 := hide (HH.new hH1)
    have F1 := hide f1
    clear hH1 f1
    go_wp2_with fail
    go_loopw [9, 10, 11, 12] (fun h a c k w' => ∃ g t kk : Nat, kk ≤ cs.length ∧ t ≤ q.length ∧ w.heap.size ≤ g ∧ h = .pointer (some ⟨g, 0, none⟩) ∧ a = .int .i64 (t : Int) ∧ c = .int .u32 (N (more 0 (q.take t))) ∧ k = .int .i64 (kk : Int) ∧ HH w' g (feed s0 (q.take t)).1 t (feed s0 (q.take t)).2 ∧ Fr (fun _ => False) w w') (fun _ _ _ k _ => cs.length - (intOf k).toNat)
    case atStart =>
      refine ⟨w.heap.size, 0, 0, by omega, by omega, Nat.le_refl _, rfl, rfl, ?_, rfl, ?_, unhide F1⟩
      · rw [List.take_zero]; exact congrArg (Value.int .u32) (by decide : (0 : Int) = N (more 0 []))
      · rw [List.take_zero, feed_few s0 [] (by decide)]; exact unhide H1
    case round =>
      obtain ⟨g, t, kk, hkk, ht, hg, rfl, rfl, rfl, rfl, hH, hf⟩ := hrel
      by_cases hlt : kk < cs.length
      · have hlti : (kk : Int) < (cs.length : Int) := by omega
        obtain ⟨bc, oc, rfl, -, hn1, hn2, hcell⟩ := (unhide HC).lits (by simpa using (show 0 < cs.length by omega))
        have hck := hcell kk (by simpa using hlt)
        simp only [List.getElem_map] at hck
        have hbd := unhide HCB cs[kk] (List.getElem_mem hlt)
        have hbc : bc < w.heap.size := World.block_lt_of_cell? w _ hck
        generalize cs[kk] = x at *
        have hck1 := (hf.cell (a := ⟨bc, oc + kk, none⟩) hbc id).trans hck
        have wr1 : wrap64 ((q.length : Int) - (t : Int)) = (q.length : Int) - (t : Int) := by unfold wrap64; omega
        have HH1 := hide hH
        have HF := hide hf
        clear hH hf hcell
        by_cases hx0 : x < 0
        · go_wp2_with fail
          go_roundw
          case rel => exact ⟨g, t, kk + 1, by omega, ht, hg, rfl, rfl, rfl, by go_num, unhide HH1, unhide HF⟩
          case measure => simp [intOf]; omega
        · by_cases hx1 : (q.length : Int) - (t : Int) < x
          · go_wp2_with fail
            go_roundw
            case rel => exact ⟨g, t, kk + 1, by omega, ht, hg, rfl, rfl, rfl, by go_num, unhide HH1, unhide HF⟩
            case measure => simp [intOf]; omega
          · obtain ⟨m, rfl⟩ : ∃ m : Nat, x = (m : Int) := ⟨x.toNat, by omega⟩
            have hm : t + m ≤ q.length := by omega
            obtain ⟨ao, cap, hvs⟩ := (unhide HV).shape
            obtain ⟨a2, c2, hs2, hr2⟩ := cut_lh (by rw [← hvs]; exact unhide HV) t (t + m) (by omega) hm
            have e2 : ((t + m : Nat) : Int) = (t : Int) + (m : Int) := by omega
            rw [Nat.add_sub_cancel_left] at hs2 hr2
            rw [e2, ← hvs] at hs2
            have HR2 := hide hr2
            have hs3 := at_slice hs2
            clear hr2 e2
            have HVS := hide hvs
            clear hvs
            have hfd : feed (feed s0 (q.take t)).1 ((feed s0 (q.take t)).2 ++ (q.drop t).take m) = feed s0 (q.take (t + m)) := by
              rw [feed_app, List.take_add]
            have hmr : more (more 0 (q.take t)) ((q.drop t).take m) = more 0 (q.take (t + m)) := by
              rw [← more_app, List.take_add]
            have hml : ((q.drop t).take m).length = m := by simp; omega
            have HW := hide (write_any wr g _ _ _ (.slice a2 m c2) _ ((unhide HT).kept (unhide HF) id id) (unhide HH1) ((unhide HR2).kept (unhide HF) (fun _ _ h => h)) (fun b hb => ((unhide HR2).blk b hb).imp_right (fun h => by omega)))
            rw [hfd, hml, Nat.mod_eq_of_lt (by omega)] at HW
            have HMR := hide hmr
            clear hfd hml hmr
            go_wp2_with fail
            refine (unhide HW).mono ?_
            rintro e w2 ⟨rfl, h2, f2⟩
            have F2 : Hid (Fr (fun _ => False) w w2) := hide ((unhide HF).trans f2 (fun i hi e => by omega))
            have hck2 := ((unhide F2).cell (a := ⟨bc, oc + kk, none⟩) hbc id).trans hck
            have HMO := hide (more_any w2 (more 0 (q.take t)) _ _ ((unhide HT).kept (unhide F2) id id) ((unhide HR2).kept (unhide F2) (fun _ _ h => h)))
            rw [unhide HMR] at HMO
            have H2 := hide h2
            clear h2 f2 HW hck1
            go_wp2_with fail
            refine (unhide HMO).mono ?_
            rintro e w2' ⟨rfl, rfl⟩
            have HSA := hide (save_any w2 g _ _ _ (unhide H2))
            clear HMO
            go_wp2_with fail
            refine (unhide HSA).mono ?_
            rintro e w3 ⟨v3, rfl, o3, f3, n3⟩
            have F3 := hide ((unhide F2).trans f3 (fun _ _ h => h))
            have HLO := hide (load_any w3 v3 _ o3.rd)
            have H3 := hide ((unhide H2).kept f3 id)
            clear HSA o3 f3 n3
            go_wp2_with fail
            refine (unhide HLO).mono ?_
            rintro e w4 ⟨f4, h4⟩
            have hlen2 := (unhide H2).len
            have hok := ldOk_sv (feed s0 (q.take (t + m))).1 (t + m) (feed s0 (q.take (t + m))).2 (by omega) hlen2
            rcases h4 with ⟨-, g', hg', rfl, h4⟩ | ⟨hno, -⟩
            case inr => exact absurd hok hno
            rw [ldS_sv, ldN_sv _ _ _ (by omega), drop_sv] at h4
            have F4 := hide ((unhide F3).trans f4 (fun _ _ h => h))
            have H4 := hide ((unhide H3).kept f4 id)
            have G4 := hide h4
            have hg4 : w.heap.size ≤ g' := Nat.le_trans (unhide F3).size hg'
            clear f4 h4 hok hlen2 HLO hck2
            go_wp2_with fail
            have hvs := unhide HVS
            obtain ⟨a5, c5, hs5, hr5⟩ := cut_h (by rw [← hvs]; exact unhide HV) (t + m) hm
            rw [← hvs, show ((t + m : Nat) : Int) = (t : Int) + (m : Int) by omega] at hs5
            have HS5 := hide hs5
            have HR5 := hide (hr5.kept (unhide F4) (fun _ _ h => h))
            have T4 := hide ((unhide HT).kept (unhide F4) id id)
            obtain ⟨D, hD⟩ : ∃ D, D = sha (q.take (t + m)) := ⟨_, rfl⟩
            have hDl : D.length = 32 := by rw [hD]; rfl
            have HD2 := hide hD.symm
            have HD1 : Hid (sumH (feed s0 (q.take (t + m))).1 (t + m) (feed s0 (q.take (t + m))).2 = D) := hide (by
              rw [hD]
              unfold sha
              rw [List.length_take, Nat.min_eq_left hm, Nat.mod_eq_of_lt (by omega)])
            have hg5 : g < w4.heap.size := (unhide H4).choose_spec.1.lt
            clear hs5 hr5 hD hs2 hs3 hvs
            refine wp_nameK ?_
            intro a0 hA
            have h0 : a0.tmps.getD 0 undef = v := by rw [hA]; rfl
            have h1 : a0.tmps.getD 1 undef = Value.slice (some ⟨bc, oc, none⟩) cs.length capc := by rw [hA]; rfl
            have h2 : a0.tmps.getD 2 undef = Value.slice aol ls.length capl := by rw [hA]; rfl
            have h3 : a0.tmps.getD 3 undef = Value.int .i64 i := by rw [hA]; rfl
            have h4 : a0.tmps.getD 4 undef = undef := by rw [hA]; rfl
            have h5 : a0.tmps.getD 5 undef = undef := by rw [hA]; rfl
            have h6 : a0.tmps.getD 6 undef = undef := by rw [hA]; rfl
            have h7 : a0.tmps.getD 7 undef = undef := by rw [hA]; rfl
            have h8 : a0.tmps.getD 8 undef = u8 := by rw [hA]; rfl
            have h9 : a0.tmps.getD 9 undef = Value.pointer (some ⟨g, 0, none⟩) := by rw [hA]; rfl
            have h10 : a0.tmps.getD 10 undef = Value.int .i64 ((t : Int) + (m : Int) : Int) := by rw [hA]; rfl
            have h11 : a0.tmps.getD 11 undef = Value.int .u32 (N (more 0#32 (q.take (t + m)))) := by rw [hA]; rfl
            have h12 : a0.tmps.getD 12 undef = Value.int .i64 (kk : Int) := by rw [hA]; rfl
            have h13 : a0.tmps.getD 13 undef = Value.pointer (some ⟨g', 0, none⟩) := by rw [hA]; rfl
            have h14 : a0.tmps.getD 14 undef = Value.int .i64 0 := by rw [hA]; rfl
            have h15 : a0.tmps.getD 15 undef = undef := by rw [hA]; rfl
            have h16 : a0.tmps.getD 16 undef = undef := by rw [hA]; rfl
            have h17 : a0.tmps.getD 17 undef = undef := by rw [hA]; rfl
            have h18 : a0.tmps.getD 18 undef = undef := by rw [hA]; rfl
            have h19 : a0.tmps.getD 19 undef = v := by rw [hA]; rfl
            have h20 : a0.tmps.getD 20 undef = Value.int .i64 (q.length : Int) := by rw [hA]; rfl
            have h21 : a0.tmps.getD 21 undef = Value.bool false := by rw [hA]; rfl
            have h22 : a0.tmps.getD 22 undef = Value.bool false := by rw [hA]; rfl
            have h23 : a0.tmps.getD 23 undef = Value.slice (some ⟨bc, oc, none⟩) cs.length capc := by rw [hA]; rfl
            have h24 : a0.tmps.getD 24 undef = Value.int .i64 (cs.length : Int) := by rw [hA]; rfl
            have h25 : a0.tmps.getD 25 undef = Value.bool false := by rw [hA]; rfl
            have h26 : a0.tmps.getD 26 undef = Value.bool false := by rw [hA]; rfl
            have h27 : a0.tmps.getD 27 undef = Value.bool false := by rw [hA]; rfl
            have h28 : a0.tmps.getD 28 undef = Value.slice aol ls.length capl := by rw [hA]; rfl
            have h29 : a0.tmps.getD 29 undef = Value.int .i64 (ls.length : Int) := by rw [hA]; rfl
            have h30 : a0.tmps.getD 30 undef = Value.bool false := by rw [hA]; rfl
            have h31 : a0.tmps.getD 31 undef = Value.bool false := by rw [hA]; rfl
            have h32 : a0.tmps.getD 32 undef = undef := by rw [hA]; rfl
            have h33 : a0.tmps.getD 33 undef = Value.pointer (some ⟨w.heap.size, 0, none⟩) := by rw [hA]; rfl
            have h34 : a0.tmps.getD 34 undef = Value.pointer (some ⟨w.heap.size, 0, none⟩) := by rw [hA]; rfl
            have h35 : a0.tmps.getD 35 undef = Value.bool false := by rw [hA]; rfl
            have h109 : a0.tmps.getD 109 undef = undef := by rw [hA]; rfl
            have h110 : a0.tmps.getD 110 undef = undef := by rw [hA]; rfl
            have h111 : a0.tmps.getD 111 undef = undef := by rw [hA]; rfl
            have h112 : a0.tmps.getD 112 undef = undef := by rw [hA]; rfl
            have h113 : a0.tmps.getD 113 undef = undef := by rw [hA]; rfl
            have h114 : a0.tmps.getD 114 undef = undef := by rw [hA]; rfl
            have h115 : a0.tmps.getD 115 undef = undef := by rw [hA]; rfl
            have h116 : a0.tmps.getD 116 undef = undef := by rw [hA]; rfl
            have h117 : a0.tmps.getD 117 undef = undef := by rw [hA]; rfl
            have h118 : a0.tmps.getD 118 undef = undef := by rw [hA]; rfl
            have h119 : a0.tmps.getD 119 undef = undef := by rw [hA]; rfl
            have h120 : a0.tmps.getD 120 undef = undef := by rw [hA]; rfl
            have h121 : a0.tmps.getD 121 undef = undef := by rw [hA]; rfl
            have h122 : a0.tmps.getD 122 undef = undef := by rw [hA]; rfl
            have h123 : a0.tmps.getD 123 undef = undef := by rw [hA]; rfl
            have h124 : a0.tmps.getD 124 undef = undef := by rw [hA]; rfl
            have h125 : a0.tmps.getD 125 undef = undef := by rw [hA]; rfl
            have h126 : a0.tmps.getD 126 undef = undef := by rw [hA]; rfl
            have h127 : a0.tmps.getD 127 undef = undef := by rw [hA]; rfl
            have h128 : a0.tmps.getD 128 undef = undef := by rw [hA]; rfl
            have h129 : a0.tmps.getD 129 undef = undef := by rw [hA]; rfl
            have h130 : a0.tmps.getD 130 undef = undef := by rw [hA]; rfl
            have h131 : a0.tmps.getD 131 undef = undef := by rw [hA]; rfl
            have h132 : a0.tmps.getD 132 undef = undef := by rw [hA]; rfl
            have h133 : a0.tmps.getD 133 undef = undef := by rw [hA]; rfl
            have h134 : a0.tmps.getD 134 undef = undef := by rw [hA]; rfl
            have h135 : a0.tmps.getD 135 undef = undef := by rw [hA]; rfl
            have h136 : a0.tmps.getD 136 undef = undef := by rw [hA]; rfl
            have h137 : a0.tmps.getD 137 undef = undef := by rw [hA]; rfl
            have h138 : a0.tmps.getD 138 undef = undef := by rw [hA]; rfl
            have h139 : a0.tmps.getD 139 undef = undef := by rw [hA]; rfl
            have h140 : a0.tmps.getD 140 undef = undef := by rw [hA]; rfl
            have h141 : a0.tmps.getD 141 undef = undef := by rw [hA]; rfl
            have h142 : a0.tmps.getD 142 undef = undef := by rw [hA]; rfl
            have h143 : a0.tmps.getD 143 undef = undef := by rw [hA]; rfl
            have h144 : a0.tmps.getD 144 undef = undef := by rw [hA]; rfl
            have h145 : a0.tmps.getD 145 undef = undef := by rw [hA]; rfl
            have h146 : a0.tmps.getD 146 undef = undef := by rw [hA]; rfl
            have h147 : a0.tmps.getD 147 undef = undef := by rw [hA]; rfl
            have h148 : a0.tmps.getD 148 undef = undef := by rw [hA]; rfl
            have h149 : a0.tmps.getD 149 undef = undef := by rw [hA]; rfl
            have h150 : a0.tmps.getD 150 undef = undef := by rw [hA]; rfl
            have h151 : a0.tmps.getD 151 undef = undef := by rw [hA]; rfl
            have h152 : a0.tmps.getD 152 undef = undef := by rw [hA]; rfl
            have h153 : a0.tmps.getD 153 undef = undef := by rw [hA]; rfl
            have h154 : a0.tmps.getD 154 undef = undef := by rw [hA]; rfl
            have h155 : a0.tmps.getD 155 undef = undef := by rw [hA]; rfl
            have h156 : a0.tmps.getD 156 undef = undef := by rw [hA]; rfl
            have h157 : a0.tmps.getD 157 undef = undef := by rw [hA]; rfl
            have h158 : a0.tmps.getD 158 undef = undef := by rw [hA]; rfl
            have h159 : a0.tmps.getD 159 undef = undef := by rw [hA]; rfl
            have h160 : a0.tmps.getD 160 undef = undef := by rw [hA]; rfl
            have h161 : a0.tmps.getD 161 undef = undef := by rw [hA]; rfl
            have h162 : a0.tmps.getD 162 undef = undef := by rw [hA]; rfl
            have h163 : a0.tmps.getD 163 undef = undef := by rw [hA]; rfl
            have h164 : a0.tmps.getD 164 undef = undef := by rw [hA]; rfl
            have h165 : a0.tmps.getD 165 undef = undef := by rw [hA]; rfl
            have h166 : a0.tmps.getD 166 undef = undef := by rw [hA]; rfl
            have h167 : a0.tmps.getD 167 undef = undef := by rw [hA]; rfl
            have h168 : a0.tmps.getD 168 undef = undef := by rw [hA]; rfl
            have h169 : a0.tmps.getD 169 undef = undef := by rw [hA]; rfl
            have h170 : a0.tmps.getD 170 undef = undef := by rw [hA]; rfl
            have h171 : a0.tmps.getD 171 undef = undef := by rw [hA]; rfl
            have h172 : a0.tmps.getD 172 undef = undef := by rw [hA]; rfl
            have h173 : a0.tmps.getD 173 undef = undef := by rw [hA]; rfl
            have h174 : a0.tmps.getD 174 undef = undef := by rw [hA]; rfl
            have h175 : a0.tmps.getD 175 undef = undef := by rw [hA]; rfl
            have h176 : a0.tmps.getD 176 undef = undef := by rw [hA]; rfl
            have h177 : a0.tmps.getD 177 undef = undef := by rw [hA]; rfl
            have h178 : a0.tmps.getD 178 undef = undef := by rw [hA]; rfl
            have h179 : a0.tmps.getD 179 undef = undef := by rw [hA]; rfl
            have h180 : a0.tmps.getD 180 undef = undef := by rw [hA]; rfl
            have hsz : a0.tmps.size = 181 := by rw [hA]; rfl
            have hdf : a0.defers = [] := by rw [hA]
            clear hA
            refine wp_region_freeR (R := Cg (w4.heap.size)) (fun w => Cg.drew w) (fun a b c h k => Cg.trans a b c h k) (by kernel_rfl) (by kernel_rfl) (by decide +kernel) (by rw [hsz]; decide +kernel) (Tk (w4.heap.size) [.eq (Value.int .i64 0), .eq (Value.int .i64 0), .eq (Value.bool false), .eq (Value.bool false), .eq (Value.pointer (some ⟨g', 0, none⟩)), .eq (Value.bool false), .eq (Value.bool false), .eq (Value.bool false), .eq (Value.pointer (some ⟨g, 0, none⟩)), .eq (Value.agg (bvs D).toArray), .eq (v), .eq (Value.int .i64 ((t : Int) + (m : Int) : Int)), .eq (Value.slice a5 (t + m) c5), .eq (Value.agg (bvs D).toArray), .eq (Value.bool false), .eq (Value.bool false)]) (Tk.mono _) ?steps ?done
            case steps =>
              refine ⟨?_, ?_⟩
              · intro a' w' hb hf hd
                exact ⟨wanted_none rfl, ex_val (Value.int .i64 0) (ex_move rfl ((hb.old 14 (by decide +kernel)).trans h14)) rfl⟩
              refine ⟨?_, ?_⟩
              · intro a' w' hb hf hd
                exact ⟨wanted_none rfl, ex_call 25 _ (en_call1 rfl rfl (hd 0 (by kernel_rfl) 92 rfl) cfv25) ((num_any w' 0).mono (by rintro e w7 ⟨rfl, rfl⟩; exact ⟨⟨_, rfl, rfl⟩, Fr.refl _ _⟩))⟩
              refine ⟨?_, ?_⟩
              · intro a' w' hb hf hd
                exact ⟨wanted_none rfl, ex_val (Value.bool false) (ex_neI Tryd.underlying3 rfl (hd 1 (by kernel_rfl) 93 rfl) rfl) rfl⟩
              refine ⟨?_, ?_⟩
              · intro a' w' hb hf hd
                exact ⟨wanted_none rfl, ex_val (Value.bool false) (ex_move rfl (hd 2 (by kernel_rfl) 94 rfl)) rfl⟩
              refine ⟨?_, ?_⟩
              · intro a' w' hb hf hd
                exact ⟨wantedF (d := 95) rfl rfl (by rw [hb.size, hsz]; omega) (hd 3 (by kernel_rfl) 95 rfl), ex_val (Value.pointer (some ⟨g', 0, none⟩)) (ex_move rfl ((hb.old 13 (by decide +kernel)).trans h13)) rfl⟩
              refine ⟨?_, ?_⟩
              · intro a' w' hb hf hd
                exact ⟨wantedF (d := 95) rfl rfl (by rw [hb.size, hsz]; omega) (hd 3 (by kernel_rfl) 95 rfl), ex_val (Value.bool false) (ex_eqP rfl (hd 4 (by kernel_rfl) 96 rfl) rfl) rfl⟩
              refine ⟨?_, ?_⟩
              · intro a' w' hb hf hd
                exact ⟨wanted_none rfl, ex_val (Value.bool false) (ex_pickF rfl (hd 3 (by kernel_rfl) 95 rfl) (hd 5 (by kernel_rfl) 97 rfl)) rfl⟩
              refine ⟨?_, ?_⟩
              · intro a' w' hb hf hd
                exact ⟨wanted_none rfl, ex_val (Value.bool false) (ex_move rfl (hd 6 (by kernel_rfl) 98 rfl)) rfl⟩
              refine ⟨?_, ?_⟩
              · intro a' w' hb hf hd
                exact ⟨wantedF (d := 99) rfl rfl (by rw [hb.size, hsz]; omega) (hd 7 (by kernel_rfl) 99 rfl), ex_val (Value.pointer (some ⟨g, 0, none⟩)) (ex_move rfl ((hb.old 9 (by decide +kernel)).trans h9)) rfl⟩
              refine ⟨?_, ?_⟩
              · intro a' w' hb hf hd
                exact ⟨wantedF (d := 99) rfl rfl (by rw [hb.size, hsz]; omega) (hd 7 (by kernel_rfl) 99 rfl), ex_call 27 _ (en_call1 rfl rfl (hd 8 (by kernel_rfl) 100 rfl) cfv27) ((sum_any w' g _ _ _ (hf.tb (unhide T4)) (hf.hh (unhide H4) hg5)).mono (by rintro e w7 ⟨rfl, f⟩; exact ⟨⟨_, rfl, congrArg (fun l => Value.agg (bvs l).toArray) (unhide HD1)⟩, f⟩))⟩
              refine ⟨?_, ?_⟩
              · intro a' w' hb hf hd
                exact ⟨wantedF (d := 99) rfl rfl (by rw [hb.size, hsz]; omega) (hd 7 (by kernel_rfl) 99 rfl), ex_val v (ex_move rfl ((hb.old 0 (by decide +kernel)).trans h0)) rfl⟩
              refine ⟨?_, ?_⟩
              · intro a' w' hb hf hd
                exact ⟨wantedF (d := 99) rfl rfl (by rw [hb.size, hsz]; omega) (hd 7 (by kernel_rfl) 99 rfl), ex_val (Value.int .i64 ((t : Int) + (m : Int) : Int)) (ex_move rfl ((hb.old 10 (by decide +kernel)).trans h10)) rfl⟩
              refine ⟨?_, ?_⟩
              · intro a' w' hb hf hd
                exact ⟨wantedF (d := 99) rfl rfl (by rw [hb.size, hsz]; omega) (hd 7 (by kernel_rfl) 99 rfl), ex_val (Value.slice a5 (t + m) c5) (ex_slH rfl (hd 10 (by kernel_rfl) 102 rfl) (hd 11 (by kernel_rfl) 103 rfl) (unhide HS5)) rfl⟩
              refine ⟨?_, ?_⟩
              · intro a' w' hb hf hd
                exact ⟨wantedF (d := 99) rfl rfl (by rw [hb.size, hsz]; omega) (hd 7 (by kernel_rfl) 99 rfl), ex_call 11 _ (en_call1 rfl rfl (hd 12 (by kernel_rfl) 104 rfl) cfv11) ((Sum_any w' _ _ (hf.tb (unhide T4)) (hf.rd (unhide HR5))).mono (by rintro e w7 ⟨rfl, f⟩; exact ⟨⟨_, rfl, congrArg (fun l => Value.agg (bvs l).toArray) (unhide HD2)⟩, f⟩))⟩
              refine ⟨?_, ?_⟩
              · intro a' w' hb hf hd
                exact ⟨wantedF (d := 99) rfl rfl (by rw [hb.size, hsz]; omega) (hd 7 (by kernel_rfl) 99 rfl), ex_val (Value.bool false) (ex_neD rfl (hd 9 (by kernel_rfl) 101 rfl) (hd 13 (by kernel_rfl) 105 rfl) hDl) rfl⟩
              refine ⟨?_, ?_⟩
              · intro a' w' hb hf hd
                exact ⟨wanted_none rfl, ex_val (Value.bool false) (ex_pickF rfl (hd 7 (by kernel_rfl) 99 rfl) (hd 14 (by kernel_rfl) 106 rfl)) rfl⟩
              exact trivial
            case done =>
              intro a' w' hb hf hall
              have e107 : a'.tmps.getD 107 undef = .bool false := hall 15 (by decide) 107 rfl
              obtain ⟨f, hfr⟩ : ∃ f : Nat → Value, a' = { tmps := #[v, Value.slice (some ⟨bc, oc, none⟩) cs.length capc, Value.slice aol ls.length capl, Value.int .i64 i, undef, undef, undef, undef, u8, Value.pointer (some ⟨g, 0, none⟩), Value.int .i64 ((t : Int) + (m : Int) : Int), Value.int .u32 (N (more 0#32 (q.take (t + m)))), Value.int .i64 (kk : Int), Value.pointer (some ⟨g', 0, none⟩), Value.int .i64 0, undef, undef, undef, undef, v, Value.int .i64 (q.length : Int), Value.bool false, Value.bool false, Value.slice (some ⟨bc, oc, none⟩) cs.length capc, Value.int .i64 (cs.length : Int), Value.bool false, Value.bool false, Value.bool false, Value.slice aol ls.length capl, Value.int .i64 (ls.length : Int), Value.bool false, Value.bool false, undef, Value.pointer (some ⟨w.heap.size, 0, none⟩), Value.pointer (some ⟨w.heap.size, 0, none⟩), Value.bool false, f 36, f 37, f 38, f 39, f 40, f 41, f 42, f 43, f 44, f 45, f 46, f 47, f 48, f 49, f 50, f 51, f 52, f 53, f 54, f 55, f 56, f 57, f 58, f 59, f 60, f 61, f 62, f 63, f 64, f 65, f 66, f 67, f 68, f 69, f 70, f 71, f 72, f 73, f 74, f 75, f 76, f 77, f 78, f 79, f 80, f 81, f 82, f 83, f 84, f 85, f 86, f 87, f 88, f 89, f 90, f 91, f 92, f 93, f 94, f 95, f 96, f 97, f 98, f 99, f 100, f 101, f 102, f 103, f 104, f 105, f 106, .bool false, f 108, undef, undef, undef, undef, undef, undef, undef, undef, undef, undef, undef, undef, undef, undef, undef, undef, undef, undef, undef, undef, undef, undef, undef, undef, undef, undef, undef, undef, undef, undef, undef, undef, undef, undef, undef, undef, undef, undef, undef, undef, undef, undef, undef, undef, undef, undef, undef, undef, undef, undef, undef, undef, undef, undef, undef, undef, undef, undef, undef, undef, undef, undef, undef, undef, undef, undef, undef, undef, undef, undef, undef, undef], defers := [] } :=
                ⟨fun i => a'.tmps.getD i undef, frame_eq (vs := [v, Value.slice (some ⟨bc, oc, none⟩) cs.length capc, Value.slice aol ls.length capl, Value.int .i64 i, undef, undef, undef, undef, u8, Value.pointer (some ⟨g, 0, none⟩), Value.int .i64 ((t : Int) + (m : Int) : Int), Value.int .u32 (N (more 0#32 (q.take (t + m)))), Value.int .i64 (kk : Int), Value.pointer (some ⟨g', 0, none⟩), Value.int .i64 0, undef, undef, undef, undef, v, Value.int .i64 (q.length : Int), Value.bool false, Value.bool false, Value.slice (some ⟨bc, oc, none⟩) cs.length capc, Value.int .i64 (cs.length : Int), Value.bool false, Value.bool false, Value.bool false, Value.slice aol ls.length capl, Value.int .i64 (ls.length : Int), Value.bool false, Value.bool false, undef, Value.pointer (some ⟨w.heap.size, 0, none⟩), Value.pointer (some ⟨w.heap.size, 0, none⟩), Value.bool false, (fun i => a'.tmps.getD i undef) 36, (fun i => a'.tmps.getD i undef) 37, (fun i => a'.tmps.getD i undef) 38, (fun i => a'.tmps.getD i undef) 39, (fun i => a'.tmps.getD i undef) 40, (fun i => a'.tmps.getD i undef) 41, (fun i => a'.tmps.getD i undef) 42, (fun i => a'.tmps.getD i undef) 43, (fun i => a'.tmps.getD i undef) 44, (fun i => a'.tmps.getD i undef) 45, (fun i => a'.tmps.getD i undef) 46, (fun i => a'.tmps.getD i undef) 47, (fun i => a'.tmps.getD i undef) 48, (fun i => a'.tmps.getD i undef) 49, (fun i => a'.tmps.getD i undef) 50, (fun i => a'.tmps.getD i undef) 51, (fun i => a'.tmps.getD i undef) 52, (fun i => a'.tmps.getD i undef) 53, (fun i => a'.tmps.getD i undef) 54, (fun i => a'.tmps.getD i undef) 55, (fun i => a'.tmps.getD i undef) 56, (fun i => a'.tmps.getD i undef) 57, (fun i => a'.tmps.getD i undef) 58, (fun i => a'.tmps.getD i undef) 59, (fun i => a'.tmps.getD i undef) 60, (fun i => a'.tmps.getD i undef) 61, (fun i => a'.tmps.getD i undef) 62, (fun i => a'.tmps.getD i undef) 63, (fun i => a'.tmps.getD i undef) 64, (fun i => a'.tmps.getD i undef) 65, (fun i => a'.tmps.getD i undef) 66, (fun i => a'.tmps.getD i undef) 67, (fun i => a'.tmps.getD i undef) 68, (fun i => a'.tmps.getD i undef) 69, (fun i => a'.tmps.getD i undef) 70, (fun i => a'.tmps.getD i undef) 71, (fun i => a'.tmps.getD i undef) 72, (fun i => a'.tmps.getD i undef) 73, (fun i => a'.tmps.getD i undef) 74, (fun i => a'.tmps.getD i undef) 75, (fun i => a'.tmps.getD i undef) 76, (fun i => a'.tmps.getD i undef) 77, (fun i => a'.tmps.getD i undef) 78, (fun i => a'.tmps.getD i undef) 79, (fun i => a'.tmps.getD i undef) 80, (fun i => a'.tmps.getD i undef) 81, (fun i => a'.tmps.getD i undef) 82, (fun i => a'.tmps.getD i undef) 83, (fun i => a'.tmps.getD i undef) 84, (fun i => a'.tmps.getD i undef) 85, (fun i => a'.tmps.getD i undef) 86, (fun i => a'.tmps.getD i undef) 87, (fun i => a'.tmps.getD i undef) 88, (fun i => a'.tmps.getD i undef) 89, (fun i => a'.tmps.getD i undef) 90, (fun i => a'.tmps.getD i undef) 91, (fun i => a'.tmps.getD i undef) 92, (fun i => a'.tmps.getD i undef) 93, (fun i => a'.tmps.getD i undef) 94, (fun i => a'.tmps.getD i undef) 95, (fun i => a'.tmps.getD i undef) 96, (fun i => a'.tmps.getD i undef) 97, (fun i => a'.tmps.getD i undef) 98, (fun i => a'.tmps.getD i undef) 99, (fun i => a'.tmps.getD i undef) 100, (fun i => a'.tmps.getD i undef) 101, (fun i => a'.tmps.getD i undef) 102, (fun i => a'.tmps.getD i undef) 103, (fun i => a'.tmps.getD i undef) 104, (fun i => a'.tmps.getD i undef) 105, (fun i => a'.tmps.getD i undef) 106, .bool false, (fun i => a'.tmps.getD i undef) 108, undef, undef, undef, undef, undef, undef, undef, undef, undef, undef, undef, undef, undef, undef, undef, undef, undef, undef, undef, undef, undef, undef, undef, undef, undef, undef, undef, undef, undef, undef, undef, undef, undef, undef, undef, undef, undef, undef, undef, undef, undef, undef, undef, undef, undef, undef, undef, undef, undef, undef, undef, undef, undef, undef, undef, undef, undef, undef, undef, undef, undef, undef, undef, undef, undef, undef, undef, undef, undef, undef, undef, undef]) (by rw [hb.size, hsz]; rfl) (by rw [hb.defers]; exact hdf) ⟨((hb.old 0 (by decide +kernel)).trans h0), ((hb.old 1 (by decide +kernel)).trans h1), ((hb.old 2 (by decide +kernel)).trans h2), ((hb.old 3 (by decide +kernel)).trans h3), ((hb.old 4 (by decide +kernel)).trans h4), ((hb.old 5 (by decide +kernel)).trans h5), ((hb.old 6 (by decide +kernel)).trans h6), ((hb.old 7 (by decide +kernel)).trans h7), ((hb.old 8 (by decide +kernel)).trans h8), ((hb.old 9 (by decide +kernel)).trans h9), ((hb.old 10 (by decide +kernel)).trans h10), ((hb.old 11 (by decide +kernel)).trans h11), ((hb.old 12 (by decide +kernel)).trans h12), ((hb.old 13 (by decide +kernel)).trans h13), ((hb.old 14 (by decide +kernel)).trans h14), ((hb.old 15 (by decide +kernel)).trans h15), ((hb.old 16 (by decide +kernel)).trans h16), ((hb.old 17 (by decide +kernel)).trans h17), ((hb.old 18 (by decide +kernel)).trans h18), ((hb.old 19 (by decide +kernel)).trans h19), ((hb.old 20 (by decide +kernel)).trans h20), ((hb.old 21 (by decide +kernel)).trans h21), ((hb.old 22 (by decide +kernel)).trans h22), ((hb.old 23 (by decide +kernel)).trans h23), ((hb.old 24 (by decide +kernel)).trans h24), ((hb.old 25 (by decide +kernel)).trans h25), ((hb.old 26 (by decide +kernel)).trans h26), ((hb.old 27 (by decide +kernel)).trans h27), ((hb.old 28 (by decide +kernel)).trans h28), ((hb.old 29 (by decide +kernel)).trans h29), ((hb.old 30 (by decide +kernel)).trans h30), ((hb.old 31 (by decide +kernel)).trans h31), ((hb.old 32 (by decide +kernel)).trans h32), ((hb.old 33 (by decide +kernel)).trans h33), ((hb.old 34 (by decide +kernel)).trans h34), ((hb.old 35 (by decide +kernel)).trans h35), rfl, rfl, rfl, rfl, rfl, rfl, rfl, rfl, rfl, rfl, rfl, rfl, rfl, rfl, rfl, rfl, rfl, rfl, rfl, rfl, rfl, rfl, rfl, rfl, rfl, rfl, rfl, rfl, rfl, rfl, rfl, rfl, rfl, rfl, rfl, rfl, rfl, rfl, rfl, rfl, rfl, rfl, rfl, rfl, rfl, rfl, rfl, rfl, rfl, rfl, rfl, rfl, rfl, rfl, rfl, rfl, rfl, rfl, rfl, rfl, rfl, rfl, rfl, rfl, rfl, rfl, rfl, rfl, rfl, rfl, rfl, e107, rfl, ((hb.old 109 (by decide +kernel)).trans h109), ((hb.old 110 (by decide +kernel)).trans h110), ((hb.old 111 (by decide +kernel)).trans h111), ((hb.old 112 (by decide +kernel)).trans h112), ((hb.old 113 (by decide +kernel)).trans h113), ((hb.old 114 (by decide +kernel)).trans h114), ((hb.old 115 (by decide +kernel)).trans h115), ((hb.old 116 (by decide +kernel)).trans h116), ((hb.old 117 (by decide +kernel)).trans h117), ((hb.old 118 (by decide +kernel)).trans h118), ((hb.old 119 (by decide +kernel)).trans h119), ((hb.old 120 (by decide +kernel)).trans h120), ((hb.old 121 (by decide +kernel)).trans h121), ((hb.old 122 (by decide +kernel)).trans h122), ((hb.old 123 (by decide +kernel)).trans h123), ((hb.old 124 (by decide +kernel)).trans h124), ((hb.old 125 (by decide +kernel)).trans h125), ((hb.old 126 (by decide +kernel)).trans h126), ((hb.old 127 (by decide +kernel)).trans h127), ((hb.old 128 (by decide +kernel)).trans h128), ((hb.old 129 (by decide +kernel)).trans h129), ((hb.old 130 (by decide +kernel)).trans h130), ((hb.old 131 (by decide +kernel)).trans h131), ((hb.old 132 (by decide +kernel)).trans h132), ((hb.old 133 (by decide +kernel)).trans h133), ((hb.old 134 (by decide +kernel)).trans h134), ((hb.old 135 (by decide +kernel)).trans h135), ((hb.old 136 (by decide +kernel)).trans h136), ((hb.old 137 (by decide +kernel)).trans h137), ((hb.old 138 (by decide +kernel)).trans h138), ((hb.old 139 (by decide +kernel)).trans h139), ((hb.old 140 (by decide +kernel)).trans h140), ((hb.old 141 (by decide +kernel)).trans h141), ((hb.old 142 (by decide +kernel)).trans h142), ((hb.old 143 (by decide +kernel)).trans h143), ((hb.old 144 (by decide +kernel)).trans h144), ((hb.old 145 (by decide +kernel)).trans h145), ((hb.old 146 (by decide +kernel)).trans h146), ((hb.old 147 (by decide +kernel)).trans h147), ((hb.old 148 (by decide +kernel)).trans h148), ((hb.old 149 (by decide +kernel)).trans h149), ((hb.old 150 (by decide +kernel)).trans h150), ((hb.old 151 (by decide +kernel)).trans h151), ((hb.old 152 (by decide +kernel)).trans h152), ((hb.old 153 (by decide +kernel)).trans h153), ((hb.old 154 (by decide +kernel)).trans h154), ((hb.old 155 (by decide +kernel)).trans h155), ((hb.old 156 (by decide +kernel)).trans h156), ((hb.old 157 (by decide +kernel)).trans h157), ((hb.old 158 (by decide +kernel)).trans h158), ((hb.old 159 (by decide +kernel)).trans h159), ((hb.old 160 (by decide +kernel)).trans h160), ((hb.old 161 (by decide +kernel)).trans h161), ((hb.old 162 (by decide +kernel)).trans h162), ((hb.old 163 (by decide +kernel)).trans h163), ((hb.old 164 (by decide +kernel)).trans h164), ((hb.old 165 (by decide +kernel)).trans h165), ((hb.old 166 (by decide +kernel)).trans h166), ((hb.old 167 (by decide +kernel)).trans h167), ((hb.old 168 (by decide +kernel)).trans h168), ((hb.old 169 (by decide +kernel)).trans h169), ((hb.old 170 (by decide +kernel)).trans h170), ((hb.old 171 (by decide +kernel)).trans h171), ((hb.old 172 (by decide +kernel)).trans h172), ((hb.old 173 (by decide +kernel)).trans h173), ((hb.old 174 (by decide +kernel)).trans h174), ((hb.old 175 (by decide +kernel)).trans h175), ((hb.old 176 (by decide +kernel)).trans h176), ((hb.old 177 (by decide +kernel)).trans h177), ((hb.old 178 (by decide +kernel)).trans h178), ((hb.old 179 (by decide +kernel)).trans h179), ((hb.old 180 (by decide +kernel)).trans h180), trivial⟩⟩
              have HFF := hide hf.fr
              clear hall hb hf e107 hsz hdf h0 h1 h2 h3 h4 h5 h6 h7 h8 h9 h10 h11 h12 h13 h14 h15 h16 h17 h18 h19 h20 h21 h22 h23 h24 h25 h26 h27 h28 h29 h30 h31 h32 h33 h34 h35 h109 h110 h111 h112 h113 h114 h115 h116 h117 h118 h119 h120 h121 h122 h123 h124 h125 h126 h127 h128 h129 h130 h131 h132 h133 h134 h135 h136 h137 h138 h139 h140 h141 h142 h143 h144 h145 h146 h147 h148 h149 h150 h151 h152 h153 h154 h155 h156 h157 h158 h159 h160 h161 h162 h163 h164 h165 h166 h167 h168 h169 h170 h171 h172 h173 h174 h175 h176 h177 h178 h179 h180
              subst hfr
              apply_assumption
              go_wp2_with fail
              go_roundw
              case rel => exact ⟨g', t + m, kk + 1, by omega, hm, hg4, rfl, by go_num, rfl, by go_num, (unhide G4).kept (unhide HFF) id, (unhide F4).trans (unhide HFF) (fun _ _ h => h)⟩
              case measure => simp [intOf]; omega
      · obtain rfl : kk = cs.length := by omega
        obtain ⟨ao, cap, hvs⟩ := (unhide HV).shape
        obtain ⟨a6, c6, hs6, hr6⟩ := cut_l (by rw [← hvs]; exact unhide HV) t ht
        rw [← hvs] at hs6
        have hs7 := at_slice hs6
        have hfd : feed (feed s0 (q.take t)).1 ((feed s0 (q.take t)).2 ++ q.drop t) = feed s0 q := by rw [feed_app, List.take_append_drop]
        have hmr : more (more 0 (q.take t)) (q.drop t) = crc q := by rw [← more_app, List.take_append_drop]; rfl
        have HW := hide (write_any wr g _ _ _ (.slice a6 (q.length - t) c6) _ ((unhide HT).kept hf id id) hH (hr6.kept hf (fun _ _ h => h)) (fun b hb => (hr6.blk b hb).imp_right (fun h => by omega)))
        rw [hfd, List.length_drop, show t + (q.length - t) = q.length by omega, Nat.mod_eq_of_lt (by omega)] at HW
        have HR6 := hide hr6
        have HF := hide hf
        have HMR := hide hmr
        clear hvs hr6 hfd hmr hH hf
        go_wp2_with fail
        refine (unhide HW).mono ?_
        rintro e w2 ⟨rfl, h2, f2⟩
        have F2 : Hid (Fr (fun _ => False) w w2) := hide ((unhide HF).trans f2 (fun i hi e => by omega))
        have H2 := hide h2
        obtain ⟨D, hD⟩ : ∃ D, D = sha q := ⟨_, rfl⟩
        have hDl : D.length = 32 := by rw [hD]; rfl
        have hD1 : sumH (feed s0 q).1 q.length (feed s0 q).2 = D := by rw [hD]; unfold sha; rw [Nat.mod_eq_of_lt (by omega)]
        have HSU := hide (sum_any w2 g _ _ _ ((unhide HT).kept (unhide F2) id id) h2)
        rw [hD1] at HSU
        clear h2 f2 HW hD1
        go_wp2_with fail
        refine (unhide HSU).mono ?_
        rintro e w3 ⟨rfl, f3⟩
        have F3 := hide ((unhide F2).trans f3 (fun _ _ h => h))
        have H3 := hide ((unhide H2).kept f3 id)
        have HS3 := hide (Sum_any w3 _ _ ((unhide HT).kept (unhide F3) id id) ((unhide HV).kept (unhide F3) (fun _ _ h => h)))
        rw [← hD] at HS3
        clear f3 HSU hD H2
        go_wp2_with fail
        refine (unhide HS3).mono ?_
        rintro e w4 ⟨rfl, f4⟩
        have F4 := hide ((unhide F3).trans f4 (fun _ _ h => h))
        have H4 := (unhide H3).kept f4 id
        have HM4 := hide (more_any w4 (more 0 (q.take t)) _ _ ((unhide HT).kept (unhide F4) id id) ((unhide HR6).kept (unhide F4) (fun _ _ h => h)))
        rw [unhide HMR] at HM4
        have HC4 := hide (crc_any w4 _ _ ((unhide HT).kept (unhide F4) id id) ((unhide HV).kept (unhide F4) (fun _ _ h => h)))
        obtain ⟨pc, hpc, -⟩ := H4
        have HLE := hide (len_any w4 g _ _ _ hpc)
        have wq : IntKind.u64.wrap ((q.length : Nat) : Int) = ((q.length : Nat) : Int) := wr64 _ (by omega) (by omega)
        clear f4 HS3 H3 hpc HMR
        generalize crc q = cq at *
        go_wp2_with (refine wpList_ex rfl (ex_neD rfl rfl rfl hDl) ?_)
        refine (unhide HM4).mono ?_
        rintro e w5 ⟨rfl, rfl⟩
        go_wp2_with fail
        refine (unhide HC4).mono ?_
        rintro e w5 ⟨rfl, rfl⟩
        go_wp2_with fail
        refine (unhide HLE).mono ?_
        rintro e w5 ⟨rfl, rfl⟩
        clear HM4 HC4 HLE hs6 hs7
        by_cases hi0 : i < 0
        · go_wp2_with fail
          refine (unhide HLV w4 (unhide F4)).mono ?_
          rintro e w6 ⟨rfl, f6⟩
          go_wp2_with fail
          go_ret
          exact ⟨rfl, f6⟩
        · by_cases hi1 : (ls.length : Int) ≤ i
          · go_wp2_with fail
            refine (unhide HLV w4 (unhide F4)).mono ?_
            rintro e w6 ⟨rfl, f6⟩
            go_wp2_with fail
            go_ret
            exact ⟨rfl, f6⟩
          · obtain ⟨k, rfl⟩ : ∃ k : Nat, i = (k : Int) := ⟨i.toNat, by omega⟩
            have hk : k < ls.length := by omega
            obtain ⟨b1, o1, rfl, -, -, -, hbl1, hc1⟩ := (unhide HL).lits (by omega)
            have hr1 := hc1 k hk
            rw [Nat.mul_comm] at hr1
            have hd32 := (unhide HL).1 ls[k] (List.getElem_mem hk)
            have hgd : ls.getD k [] = ls[k] := by simp [hk]
            have HPA := hide (path_any w4 _ ls (k : Int) (by omega) ((unhide HT).kept (unhide F4) id id) ((unhide HL).kept (unhide F4)))
            have hpa : paR ls (k : Int) = (oth ls k, 0) := by unfold paR; rw [if_pos ⟨by omega, by omega⟩]; rfl
            rw [hpa] at HPA
            have hcl := clR_oth ls k hk (by omega)
            rw [hgd] at hcl
            generalize ls[k] = d at *
            have HCL := hide hcl
            have HD32 := hide hd32
            have HR1 := hide hr1
            clear hpa hcl hgd hc1 hd32 hr1
            go_wp2_with fail
            refine (unhide HPA).mono ?_
            rintro e w5 ⟨v5, rfl, o5, f5⟩
            have F5 := hide ((unhide F4).trans f5 (fun _ _ h => h))
            have hr5 := rangeAt_kept (unhide HR1) (unhide F5) hbl1 id
            have HCA := hide (climbR_any w5 d (k : Int) ((ls.length : Nat) : Int) v5 _ (unhide HD32) ((unhide HT).kept (unhide F5) id id) o5.rd)
            rw [unhide HCL] at HCA
            obtain ⟨R, hR⟩ : ∃ R, R = root ls := ⟨_, rfl⟩
            have HRL : Hid (R.length = 32) := hide (by rw [hR]; exact root_length ls (unhide HL).1)
            have HRA : Hid (∀ W, Fr (fun _ => False) w W → Calls Tryd.prog 38 #[.slice (some ⟨b1, o1, none⟩) ls.length capl] W fun e w' => e = .returned (.agg (bvs R).toArray) ∧ Fr (fun _ => False) W w') := hide fun W f => by
              rw [hR]
              exact root_any ls.length W _ ls rfl (by omega) ((unhide HT).kept f id id) ((unhide HL).kept f)
            dsimp only at HCA
            rw [← hR] at HCA
            have P := Put.of (unhide HRL)
            have hi2 := P.hi2
            have hone := P.oneA
            have hid := (Put.of (unhide HD32)).hi
            clear hR HCL HPA o5 f5
            go_wp2_with (first | refine wpList_ex rfl (xk_index rfl rfl rfl hk) ?_ | refine wpList_load_mid rfl 26 _ rfl b1 (o1 + k * 32) rfl (bvs d) _ hr5 Tryd.u26 rfl hid ?_)
            refine (unhide HCA).mono ?_
            rintro e w6 ⟨rfl, f6⟩
            have F6 := hide ((unhide F5).trans f6 (fun _ _ h => h))
            have hth6 : ∀ cs : Array Value, cs.size = 32 → (w6.alloc (.cells cs 26)).there w6.heap.size 0 (bvs R).toArray.size := fun cs hcs => P.there (ZAt.new w6 cs 26 32 hcs)
            have HP6 : Hid (∀ (cs : Array Value) (w' : World), cs.size = 32 → Hid (w' = (w6.alloc (.cells cs 26)).setCells w6.heap.size 0 (bvs R).toArray.toList) → w'.heap[w6.heap.size]? = some (.cells (bvs R).toArray 26 (0, 0)) ∧ Fr (fun _ => False) w6 w') :=
              hide fun cs w' hcs hw => (by rw [unhide hw]; exact ⟨(ZAt.new w6 cs 26 32 hcs).putB R (unhide HRL), ((Fr.refl _ _).alloc _).trans (setCells_frame _ _ _ _) (fun k hk e => by omega)⟩)
            clear f6 HCA hr5
            go_wp2_with (refine wpList_storeN rfl rfl 26 _ _ rfl w6.heap.size 0 (bvs R).toArray rfl rfl (hth6 _ rfl) hi2 hone ?_; intro w9 hw9)
            have h69 := unhide HP6 _ _ (by rfl) hw9
            have F9 : Hid (Fr (fun _ => False) w w9) := hide ((unhide F6).trans h69.2 (fun _ _ h => h))
            have HRG := hide (bat_range h69.1)
            have T9 := hide ((unhide HT).kept (unhide F9) id id)
            have HRA9 := hide fun (W : World) (f : Fr (fun _ => False) w9 W) => unhide HRA W ((unhide F9).trans f (fun _ _ h => h))
            clear hw9 h69 HP6 hth6 P hi2 hone hid HRA
            have HRA := HRA9
            clear HRA9
            refine wp_nameK ?_
            intro a0 hA
            have h2 : a0.tmps.getD 2 undef = Value.slice (some ⟨b1, o1, none⟩) ls.length capl := by rw [hA]; rfl
            have h16 : a0.tmps.getD 16 undef = Value.int .i64 0 := by rw [hA]; rfl
            have h17 : a0.tmps.getD 17 undef = Value.pointer (some ⟨w6.heap.size, 0, none⟩) := by rw [hA]; rfl
            have h18 : a0.tmps.getD 18 undef = Value.int .i64 0 := by rw [hA]; rfl
            have hsz : a0.tmps.size = 181 := by rw [hA]; rfl
            have hdf : a0.defers = [] := by rw [hA]
            clear hA
            refine wp_region_freeR (R := Cg (w9.heap.size)) (fun w => Cg.drew w) (fun a b c h k => Cg.trans a b c h k) (by kernel_rfl) (by kernel_rfl) (by decide +kernel) (by rw [hsz]; decide +kernel) (Tk (w9.heap.size) [.eq (Value.int .i64 0), .eq (Value.int .i64 0), .eq (Value.bool true), .eq (Value.bool true), .eq (Value.int .i64 0), .eq (Value.int .i64 0), .eq (Value.bool true), .eq (Value.bool true), .eq (Value.bool true), .eq (Value.agg (bvs R).toArray), .eq (Value.slice (some ⟨b1, o1, none⟩) ls.length capl), .eq (Value.agg (bvs R).toArray), .eq (Value.bool true), .eq (Value.bool true), .eq (Value.bool true), .eq (Value.bool true), .eq (Value.bool true), .eq (Value.bool true)]) (Tk.mono _) ?steps ?done
            case steps =>
              refine ⟨?_, ?_⟩
              · intro a' w' hb hf hd
                exact ⟨wanted_none rfl, ex_val (Value.int .i64 0) (ex_move rfl ((hb.old 16 (by decide +kernel)).trans h16)) rfl⟩
              refine ⟨?_, ?_⟩
              · intro a' w' hb hf hd
                exact ⟨wanted_none rfl, ex_call 25 _ (en_call1 rfl rfl (hd 0 (by kernel_rfl) 164 rfl) cfv25) ((num_any w' 0).mono (by rintro e w7 ⟨rfl, rfl⟩; exact ⟨⟨_, rfl, rfl⟩, Fr.refl _ _⟩))⟩
              refine ⟨?_, ?_⟩
              · intro a' w' hb hf hd
                exact ⟨wanted_none rfl, ex_val (Value.bool true) (ex_eqI Tryd.underlying3 rfl (hd 1 (by kernel_rfl) 165 rfl) rfl) rfl⟩
              refine ⟨?_, ?_⟩
              · intro a' w' hb hf hd
                exact ⟨wanted_none rfl, ex_val (Value.bool true) (ex_move rfl (hd 2 (by kernel_rfl) 166 rfl)) rfl⟩
              refine ⟨?_, ?_⟩
              · intro a' w' hb hf hd
                exact ⟨wanted_of (d := 167) rfl rfl (by rw [hb.size, hsz]; omega) (hd 3 (by kernel_rfl) 167 rfl), ex_val (Value.int .i64 0) (ex_move rfl ((hb.old 18 (by decide +kernel)).trans h18)) rfl⟩
              refine ⟨?_, ?_⟩
              · intro a' w' hb hf hd
                exact ⟨wanted_of (d := 167) rfl rfl (by rw [hb.size, hsz]; omega) (hd 3 (by kernel_rfl) 167 rfl), ex_call 25 _ (en_call1 rfl rfl (hd 4 (by kernel_rfl) 168 rfl) cfv25) ((num_any w' 0).mono (by rintro e w7 ⟨rfl, rfl⟩; exact ⟨⟨_, rfl, rfl⟩, Fr.refl _ _⟩))⟩
              refine ⟨?_, ?_⟩
              · intro a' w' hb hf hd
                exact ⟨wanted_of (d := 167) rfl rfl (by rw [hb.size, hsz]; omega) (hd 3 (by kernel_rfl) 167 rfl), ex_val (Value.bool true) (ex_eqI Tryd.underlying3 rfl (hd 5 (by kernel_rfl) 169 rfl) rfl) rfl⟩
              refine ⟨?_, ?_⟩
              · intro a' w' hb hf hd
                exact ⟨wanted_none rfl, ex_val (Value.bool true) (ex_pick rfl (hd 3 (by kernel_rfl) 167 rfl) (hd 6 (by kernel_rfl) 170 rfl)) rfl⟩
              refine ⟨?_, ?_⟩
              · intro a' w' hb hf hd
                exact ⟨wanted_none rfl, ex_val (Value.bool true) (ex_move rfl (hd 7 (by kernel_rfl) 171 rfl)) rfl⟩
              refine ⟨?_, ?_⟩
              · intro a' w' hb hf hd
                exact ⟨wanted_of (d := 172) rfl rfl (by rw [hb.size, hsz]; omega) (hd 8 (by kernel_rfl) 172 rfl), ex_val (Value.agg (bvs R).toArray) (ex_load26 rfl ((hb.old 17 (by decide +kernel)).trans h17) (unhide HRL) (hf.range (unhide HRG))) rfl⟩
              refine ⟨?_, ?_⟩
              · intro a' w' hb hf hd
                exact ⟨wanted_of (d := 172) rfl rfl (by rw [hb.size, hsz]; omega) (hd 8 (by kernel_rfl) 172 rfl), ex_val (Value.slice (some ⟨b1, o1, none⟩) ls.length capl) (ex_move rfl ((hb.old 2 (by decide +kernel)).trans h2)) rfl⟩
              refine ⟨?_, ?_⟩
              · intro a' w' hb hf hd
                exact ⟨wanted_of (d := 172) rfl rfl (by rw [hb.size, hsz]; omega) (hd 8 (by kernel_rfl) 172 rfl), ex_call 38 _ (en_call1 rfl rfl (hd 10 (by kernel_rfl) 174 rfl) cfv38) ((unhide HRA w' hf.fr).mono (by rintro e w7 ⟨rfl, f⟩; exact ⟨⟨_, rfl, rfl⟩, f⟩))⟩
              refine ⟨?_, ?_⟩
              · intro a' w' hb hf hd
                exact ⟨wanted_of (d := 172) rfl rfl (by rw [hb.size, hsz]; omega) (hd 8 (by kernel_rfl) 172 rfl), ex_val (Value.bool true) (ex_eqD rfl (hd 9 (by kernel_rfl) 173 rfl) (hd 11 (by kernel_rfl) 175 rfl) (unhide HRL)) rfl⟩
              refine ⟨?_, ?_⟩
              · intro a' w' hb hf hd
                exact ⟨wanted_none rfl, ex_val (Value.bool true) (ex_pick rfl (hd 8 (by kernel_rfl) 172 rfl) (hd 12 (by kernel_rfl) 176 rfl)) rfl⟩
              refine ⟨?_, ?_⟩
              · intro a' w' hb hf hd
                exact ⟨wanted_none rfl, ex_val (Value.bool true) (ex_move rfl (hd 13 (by kernel_rfl) 177 rfl)) rfl⟩
              refine ⟨?_, ?_⟩
              · intro a' w' hb hf hd
                exact ⟨wanted_of (d := 178) rfl rfl (by rw [hb.size, hsz]; omega) (hd 14 (by kernel_rfl) 178 rfl), ex_call 10 _ (en_call0 rfl rfl cfvL10) ((live_any w' (hf.tb (unhide T9))).mono (by rintro e w7 ⟨rfl, f⟩; exact ⟨⟨_, rfl, rfl⟩, f⟩))⟩
              refine ⟨?_, ?_⟩
              · intro a' w' hb hf hd
                exact ⟨wanted_none rfl, ex_val (Value.bool true) (ex_pick rfl (hd 14 (by kernel_rfl) 178 rfl) (hd 15 (by kernel_rfl) 179 rfl)) rfl⟩
              refine ⟨?_, ?_⟩
              · intro a' w' hb hf hd
                exact ⟨wanted_none rfl, ex_val (Value.bool true) (ex_assign rfl (hd 16 (by kernel_rfl) 180 rfl)) rfl⟩
              exact trivial
            case done =>
              intro a' w' hb hf hall
              have hres : a'.tmps.getD 8 undef = .bool true := hall 17 (by decide) 8 rfl
              have hdf' : a'.defers = [] := by rw [hb.defers]; exact hdf
              have hF : Fr (fun _ => False) w w' := (unhide F9).trans hf.fr (fun _ _ h => h)
              have hr : bodyPost Tryd.prog Tryd.f7 (fun e w' => e = Ending.returned (Value.bool true) ∧ Fr (fun x => False) w w') .ret a' w' :=
                bodyPost_ret (v := .bool true) (by
                  have h6' : a'.tmps[8]?.getD undef = .bool true := by simpa using hres
                  simp [results, Tryd.results7, go_sem, h6']) hdf' ⟨rfl, hF⟩
              clear hall hb
              apply_assumption
              exact wp_ret hr
end Go.Proofs.YtlicmlioilkfdaaDoor
