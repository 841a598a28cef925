/-
  The walk of the law ShaHashes.
-/
import Derived.Test.YtlicmlioilkfdaaDoorHp
namespace Go.Proofs.YtlicmlioilkfdaaDoor
open Go.RowKit
set_option linter.unusedVariables false
set_option linter.unusedSimpArgs false

attribute [local go_sem ↓] Go.wp_at_zero Go.wp_at_succ

set_option maxHeartbeats 8000000 in
set_option maxRecDepth 100000 in
theorem shaHashes_any (w : World) (T : Tb w) (v : Value) (ss : List Sp) (hv : RdS w v ss) : Calls Tryd.prog 4 #[v] w fun e w' => e = .returned (.bool true) ∧ Fr (fun _ => False) w w' := by
  have hlm := hv.len
  unfold maxLen at hlm
  obtain ⟨ao, cap, rfl⟩ := hv.shape
  have HH0 := hide (huge_any w _ ss hv)
  have HT := hide T
  have HV := hide hv
  clear T hv
  go_enter Tryd.func4, Tryd.ntmps4
  go_wp2_with fail
  refine (unhide HH0).mono ?_
  rintro e w1 ⟨bb, rfl, rfl, hhb⟩
  clear HH0
  cases bb with
  | true =>
    clear hhb
    go_wp2_with fail
    refine (live_any w (unhide HT)).mono ?_
    rintro e w1 ⟨rfl, f1⟩
    go_wp2_with fail
    go_ret
    exact ⟨rfl, f1⟩
  | false =>
    obtain ⟨hfew, hbulk⟩ := hhb rfl
    have HBK := hide hbulk
    clear hbulk
    go_wp2_with fail
    refine (new_any w).mono ?_
    rintro e w1 ⟨rfl, hH1, f1⟩
    have H1 := hide (HH.new hH1)
    have F1 := hide f1
    clear hH1 f1
    go_wp2_with fail
    refine (rnew_any w1).mono ?_
    rintro e w2 ⟨⟨Q0, rfl, hQ0, hG2⟩, f2⟩
    have F2 := hide ((unhide F1).trans f2 (fun _ _ h => h))
    have H2 := hide ((unhide H1).kept f2 id)
    have G2 := hide hG2
    have hQ1 : w.heap.size ≤ Q0 := Nat.le_trans (unhide F1).size hQ0
    clear hG2 f2 H1
    obtain ⟨P0, hP0⟩ : ∃ P0, P0 = w.heap.size := ⟨_, rfl⟩
    rw [← hP0] at H2 ⊢
    have HTW : Hid (Two w.heap.size w2 P0 Q0 s0 0 (.slice none 0 0) []) := hide ⟨unhide H2, unhide G2, by omega, hQ1, fun b hb => by simp [Value.ownBlock] at hb⟩
    clear H2 G2 hP0
    go_wp2_with fail
    go_loopw [3, 4, 5] (fun h g i w' => ∃ (k ph pg : Nat) (s : St) (n : Nat) (gv : Value) (r : List UInt8), k ≤ ss.length ∧ h = .pointer (some ⟨ph, 0, none⟩) ∧ g = .pointer (some ⟨pg, 0, none⟩) ∧ i = .int .i64 (k : Int) ∧ Two w.heap.size w' ph pg s n gv r ∧ Fr (fun _ => False) w w') (fun _ _ i _ => ss.length - (intOf i).toNat)
    case atStart => exact ⟨0, P0, Q0, s0, 0, .slice none 0 0, [], Nat.zero_le _, rfl, rfl, rfl, unhide HTW, unhide F2⟩
    case round =>
      obtain ⟨k, ph, pg, s, n, gv, r, hk, rfl, rfl, rfl, htw, hf⟩ := hrel
      by_cases hlt : k < ss.length
      · obtain ⟨b, o, rfl, -, hnc, hcm, hbl, hcell⟩ := (unhide HV).lits (by omega)
        obtain ⟨c0, c1, hok⟩ := hcell k hlt
        have hlp := Nat.le_trans (bulk_each ss k hlt) (unhide HBK)
        have hrp := hok.rp
        generalize ss[k] = S at *
        obtain ⟨kd, pv, lp⟩ := S
        dsimp only at c0 c1 hlp hrp
        have c0r := (hf.cell (a := ⟨b, o + k * 2, none⟩) hbl id).trans c0
        have c1r := (hf.cell (a := ⟨b, o + k * 2 + 1, none⟩) hbl id).trans c1
        have c1a : (wr.alloc (Obj.cells #[] 5)).cell? ⟨b, o + k * 2 + 1, none⟩ = some pv := (((Fr.refl (fun _ => False) wr).alloc (Obj.cells #[] 5)).cell (a := ⟨b, o + k * 2 + 1, none⟩) (Nat.lt_of_lt_of_le hbl hf.size) id).trans c1r
        have hlti : (k : Int) < (ss.length : Int) := by omega
        have HRP := hide hrp
        have HTW1 := hide htw
        have HF := hide hf
        have HC1 := hide c1
        clear hcell hok hrp htw hf c0 c1
        unfold maxLen at hcm
        go_wp2_with (refine wpList_appO rfl (.tmp 29) (.tmp 34) rfl (.slice (some ⟨wr.heap.size, 0, none⟩) 0 0) [] pv lp rfl rfl (owns_empty (heap_alloc_new wr _)) ((unhide HRP).kept ((unhide HF).alloc _) (fun _ _ h => h)) (by simp; omega) ?_)
        intro ao6 cap6 w3 o6 g6
        have f3 : Fr (fun _ => False) wr w3 := ((Fr.refl (fun _ => False) wr).alloc _).trans (unhide g6).1 (fun i hi e => by simp [Value.ownBlock] at e; omega)
        have hn6 : ∀ j, (Value.slice ao6 lp.length cap6).ownBlock = some j → wr.heap.size ≤ j := by
          intro j hj
          rcases (unhide g6).2 with e | ⟨k', e, hk'⟩
          · rw [e] at hj; simp [Value.ownBlock] at hj; omega
          · rw [e] at hj; simp at hj hk'; omega
        have HN6 := hide hn6
        have HTW3 := hide ((unhide HTW1).kept f3 (fun _ _ h => h))
        have HLW := hide (unhide HTW1).lt
        have F3 := hide ((unhide HF).trans f3 (fun _ _ h => h))
        have HMX : Hid (lp.length ≤ 1000000) := by show lp.length ≤ 1000000; omega
        have c0r := (f3.cell (a := ⟨b, o + k * 2, none⟩) (Nat.lt_of_lt_of_le hbl (unhide HF).size) id).trans c0r
        have hsz3 : wr.heap.size ≤ w3.heap.size := f3.size
        clear f3 hn6 g6 c1r c1a
        by_cases hk0 : kd = 0
        · subst hk0
          have HW := hide (write_any w3 ph s n r (.slice ao6 lp.length cap6) lp ((unhide HT).kept (unhide F3) id id) (unhide HTW3).h (unhide o6).rd (fun b hb => .inr (by have := unhide HN6 b hb; have := (unhide HLW).1; omega)))
          go_wp2_with fail
          refine (unhide HW).mono ?_
          rintro e w4 ⟨rfl, h4, f4⟩
          have hne := (unhide HTW3).ne
          have hg4 : GAt w4 pg s n gv r := (unhide HTW3).g.kept f4 (fun e => hne e.symm) (fun b hb => ((unhide HTW3).nv b hb).2)
          have F4 : Hid (Fr (fun _ => False) w w4) := hide ((unhide F3).trans f4 (fun i hi e => by have := (unhide HTW3).nh; omega))
          have c1r := ((unhide F4).cell (a := ⟨b, o + k * 2 + 1, none⟩) hbl id).trans (unhide HC1)
          have HW2 := hide (rwrite_any w4 pg s n gv r pv lp hg4 ((unhide HRP).kept (unhide F4) (fun _ _ h => h)) (fun b hb => ((unhide HRP).blk b hb).imp_right (fun h => by have := (unhide HTW3).ng; omega)) (unhide HMX))
          have HO4 := hide ((unhide o6).kept f4 (fun j hj e => by have := unhide HN6 j hj; have := (unhide HLW).1; omega))
          have H4 := hide h4
          have HF4 := hide f4
          clear HW h4 f4 hg4 c0r o6
          go_wp2_with fail
          refine (unhide HW2).mono ?_
          rintro e w5 ⟨rfl, ⟨gv5, g5, n5⟩, f5⟩
          have hsz4 := (unhide HF4).size
          have F5 : Hid (Fr (fun _ => False) w w5) := hide ((unhide F4).trans f5 (fun i hi e => by have := (unhide HTW3).ng; omega))
          have HTW5 : Hid (Two w.heap.size w5 ph pg (feed s (r ++ lp)).1 ((n + lp.length) % 18446744073709551616) gv5 (feed s (r ++ lp)).2) := hide ⟨(unhide H4).kept f5 hne, g5, (unhide HTW3).nh, (unhide HTW3).ng, fun b hb => by have := n5 b hb; have := (unhide F4).size; have := (unhide HLW).1; exact ⟨by omega, by omega⟩⟩
          have HNV5 : Hid (∀ b, gv5.ownBlock = some b → w4.heap.size ≤ b) := hide n5
          have HL6 : Hid (∀ j, (Value.slice ao6 lp.length cap6).ownBlock = some j → j < w4.heap.size) := hide (unhide HO4).lt
          have HO := hide ((unhide HO4).kept f5 (fun j hj e => by have := unhide HN6 j hj; have := (unhide HLW).2; omega))
          generalize (feed s (r ++ lp)).1 = s5 at *
          generalize (feed s (r ++ lp)).2 = r5 at *
          generalize (n + lp.length) % 18446744073709551616 = m5 at *
          clear HW2 g5 n5 f5 H4 HO4 hne c1r
          go_wp2_with fail
          go_loopw [7] (fun i w' => ∃ (t : Nat) (l' : List UInt8), t ≤ lp.length ∧ i = .int .i64 t ∧ l'.length = lp.length ∧ Ow w' (.slice ao6 lp.length cap6) l' ∧ Fr (fun j => (Value.slice ao6 lp.length cap6).ownBlock = some j) w5 w') (fun i _ => lp.length - (intOf i).toNat)
          case atStart => exact ⟨0, lp, Nat.zero_le _, rfl, rfl, unhide HO, Fr.refl _ _⟩
          case round =>
            obtain ⟨t, l', ht, rfl, hl', ho', f'⟩ := hrel
            by_cases htl : t < lp.length
            · obtain ⟨g, hao, hcap8, hcell, hfz, hset⟩ := ho'.spoil hl' htl
              subst hao
              generalize l'.getD t 0 = oldb at *
              have hxo : bits BinOp.xor IntKind.u8 ((oldb.toNat : Nat) : Int) 85 = (((oldb ^^^ 85).toNat : Nat) : Int) := xorB oldb 85
              have HSET := hide (hset (oldb ^^^ 85))
              have HF' := hide f'
              have HL' := hide hl'
              have htli : (t : Int) < ((lp.length : Nat) : Int) := by omega
              have hmx : lp.length ≤ 1000000 := unhide HMX
              clear ho' hset f' hl'
              go_wp2_with fail
              go_roundw
              case rel =>
                exact ⟨t + 1, l'.set t (oldb ^^^ 85), by omega, by go_num, by simp [unhide HL'], unhide HSET, (unhide HF').setCell (p := ⟨g, t, none⟩) (fun _ => rfl) _⟩
              case measure => simp [intOf]; omega
            · have HF' := hide f'
              have htli : ¬ (t : Int) < ((lp.length : Nat) : Int) := by omega
              clear ho' f' hl'
              go_wp2_with fail
              have HTZ : Hid (Two w.heap.size wr ph pg s5 m5 gv5 r5) := hide ⟨(unhide HTW5).h.kept (unhide HF') (fun e => by have := unhide HN6 _ e; have := (unhide HLW).1; omega), (unhide HTW5).g.kept (unhide HF') (fun e => by have := unhide HN6 _ e; have := (unhide HLW).2; omega) (fun b hb e => by have := unhide HNV5 b hb; have := unhide HL6 b e; omega), (unhide HTW5).nh, (unhide HTW5).ng, (unhide HTW5).nv⟩
              have FZ : Hid (Fr (fun _ => False) w wr) := hide ((unhide F5).trans (unhide HF') (fun i hi e => by have := unhide HN6 i e; have := (unhide HF).size; omega))
              clear HTW5 HF' HNV5 HL6 HO HN6 F5 HTW3 HTW1 HLW F3 F4 HF4 HRP
              have TZ := hide ((unhide HT).kept (unhide FZ) id id)
              have hlz := (unhide HTZ).lt
              have hrl := (unhide HTZ).h.len
              have HRL := hide hrl
              obtain ⟨D, hD⟩ : ∃ D, D = sumH s5 m5 r5 := ⟨_, rfl⟩
              have hDl : D.length = 32 := by rw [hD]; rfl
              have HD := hide hD.symm
              obtain ⟨B, hB⟩ : ∃ B, B = svB s5 m5 r5 := ⟨_, rfl⟩
              have HB := hide hB
              clear hD hB hrl
              refine wp_nameK ?_
              intro a0 hA
              have h0 : a0.tmps.getD 0 undef = Value.slice (some ⟨b, o, none⟩) ss.length cap := by rw [hA]; rfl
              have h1 : a0.tmps.getD 1 undef = undef := by rw [hA]; rfl
              have h3 : a0.tmps.getD 3 undef = Value.pointer (some ⟨ph, 0, none⟩) := by rw [hA]; rfl
              have h4 : a0.tmps.getD 4 undef = Value.pointer (some ⟨pg, 0, none⟩) := by rw [hA]; rfl
              have h5 : a0.tmps.getD 5 undef = Value.int .i64 (k : Int) := by rw [hA]; rfl
              have h16 : a0.tmps.getD 16 undef = Value.slice (some ⟨b, o, none⟩) ss.length cap := by rw [hA]; rfl
              have h17 : a0.tmps.getD 17 undef = Value.bool false := by rw [hA]; rfl
              have h18 : a0.tmps.getD 18 undef = undef := by rw [hA]; rfl
              have h19 : a0.tmps.getD 19 undef = Value.pointer (some ⟨P0, 0, none⟩) := by rw [hA]; rfl
              have h20 : a0.tmps.getD 20 undef = Value.pointer (some ⟨Q0, 0, none⟩) := by rw [hA]; rfl
              have h21 : a0.tmps.getD 21 undef = Value.pointer (some ⟨P0, 0, none⟩) := by rw [hA]; rfl
              have h22 : a0.tmps.getD 22 undef = Value.bool false := by rw [hA]; rfl
              have h162 : a0.tmps.getD 162 undef = undef := by rw [hA]; rfl
              have hsz : a0.tmps.size = 163 := by rw [hA]; rfl
              have hdf : a0.defers = [] := by rw [hA]
              clear hA
              refine wp_region_freeR (R := Cg (wr.heap.size)) (fun w => Cg.drew w) (fun a b c h k => Cg.trans a b c h k) (by kernel_rfl) (by kernel_rfl) (by decide +kernel) (by rw [hsz]; decide +kernel) (Tk (wr.heap.size) [.eq (Value.pointer (some ⟨ph, 0, none⟩)), .eq (Value.agg (bvs D).toArray), .eq (Value.pointer (some ⟨pg, 0, none⟩)), .eq (Value.agg (bvs D).toArray), .eq (Value.bool false), .eq (Value.bool false), .eq (Value.pointer (some ⟨ph, 0, none⟩)), .eq (Value.int .u64 ((m5 : Nat) : Int)), .eq (Value.pointer (some ⟨pg, 0, none⟩)), .eq (Value.pointer (some ⟨pg, 0, none⟩)), .eq (Value.pointer (some ⟨pg, 8, none⟩)), .eq (Value.int .u64 ((m5 : Nat) : Int)), .eq (Value.bool false), .eq (Value.bool false), .eq (Value.bool false), .eq (Value.pointer (some ⟨ph, 0, none⟩)), .sl B.length B, .eq (Value.string (str B)), .eq (Value.pointer (some ⟨pg, 0, none⟩)), .sl B.length B, .eq (Value.string (str B)), .eq (Value.bool false), .eq (Value.bool false)]) (Tk.mono _) ?steps ?done
              case steps =>
                refine ⟨?_, ?_⟩
                · intro a' w' hb hf hd
                  exact ⟨wanted_none rfl, ex_val (Value.pointer (some ⟨ph, 0, none⟩)) (ex_move rfl ((hb.old 3 (by decide +kernel)).trans h3)) rfl⟩
                refine ⟨?_, ?_⟩
                · intro a' w' hb hf hd
                  exact ⟨wanted_none rfl, ex_call 27 _ (en_call1 rfl rfl (hd 0 (by kernel_rfl) 139 rfl) cfv27) ((sum_any w' ph _ _ _ (hf.tb (unhide TZ)) (hf.hh (unhide HTZ).h hlz.1)).mono (by rintro e w7 ⟨rfl, f⟩; exact ⟨⟨_, rfl, congrArg (fun l => Value.agg (bvs l).toArray) (unhide HD)⟩, f⟩))⟩
                refine ⟨?_, ?_⟩
                · intro a' w' hb hf hd
                  exact ⟨wanted_none rfl, ex_val (Value.pointer (some ⟨pg, 0, none⟩)) (ex_move rfl ((hb.old 4 (by decide +kernel)).trans h4)) rfl⟩
                refine ⟨?_, ?_⟩
                · intro a' w' hb hf hd
                  exact ⟨wanted_none rfl, ex_call 28 _ (en_call1 rfl rfl (hd 2 (by kernel_rfl) 141 rfl) cfv28) ((rsum_any w' pg _ _ _ _ (hf.gat (unhide HTZ).g hlz.2) (unhide HRL)).mono (by rintro e w7 ⟨rfl, f⟩; exact ⟨⟨_, rfl, congrArg (fun l => Value.agg (bvs l).toArray) (unhide HD)⟩, f⟩))⟩
                refine ⟨?_, ?_⟩
                · intro a' w' hb hf hd
                  exact ⟨wanted_none rfl, ex_val (Value.bool false) (ex_neD rfl (hd 1 (by kernel_rfl) 140 rfl) (hd 3 (by kernel_rfl) 142 rfl) hDl) rfl⟩
                refine ⟨?_, ?_⟩
                · intro a' w' hb hf hd
                  exact ⟨wanted_none rfl, ex_val (Value.bool false) (ex_move rfl (hd 4 (by kernel_rfl) 143 rfl)) rfl⟩
                refine ⟨?_, ?_⟩
                · intro a' w' hb hf hd
                  exact ⟨wantedF (d := 144) rfl rfl (by rw [hb.size, hsz]; omega) (hd 5 (by kernel_rfl) 144 rfl), ex_val (Value.pointer (some ⟨ph, 0, none⟩)) (ex_move rfl ((hb.old 3 (by decide +kernel)).trans h3)) rfl⟩
                refine ⟨?_, ?_⟩
                · intro a' w' hb hf hd
                  obtain ⟨pc, hpc, -⟩ := hf.hh (unhide HTZ).h hlz.1
                  exact ⟨wantedF (d := 144) rfl rfl (by rw [hb.size, hsz]; omega) (hd 5 (by kernel_rfl) 144 rfl), ex_call 29 _ (en_call1 rfl rfl (hd 6 (by kernel_rfl) 145 rfl) cfv29) ((len_any w' ph _ _ _ hpc).mono (by rintro e w7 ⟨rfl, rfl⟩; exact ⟨⟨_, rfl, rfl⟩, Fr.refl _ _⟩))⟩
                refine ⟨?_, ?_⟩
                · intro a' w' hb hf hd
                  exact ⟨wantedF (d := 144) rfl rfl (by rw [hb.size, hsz]; omega) (hd 5 (by kernel_rfl) 144 rfl), ex_val (Value.pointer (some ⟨pg, 0, none⟩)) (ex_move rfl ((hb.old 4 (by decide +kernel)).trans h4)) rfl⟩
                refine ⟨?_, ?_⟩
                · intro a' w' hb hf hd
                  exact ⟨wantedF (d := 144) rfl rfl (by rw [hb.size, hsz]; omega) (hd 5 (by kernel_rfl) 144 rfl), ex_val (Value.pointer (some ⟨pg, 0, none⟩)) (xk_nil rfl (hd 8 (by kernel_rfl) 147 rfl)) rfl⟩
                refine ⟨?_, ?_⟩
                · intro a' w' hb hf hd
                  exact ⟨wantedF (d := 144) rfl rfl (by rw [hb.size, hsz]; omega) (hd 5 (by kernel_rfl) 144 rfl), ex_val (Value.pointer (some ⟨pg, 8, none⟩)) (xk_f1 rfl (hd 9 (by kernel_rfl) 148 rfl)) rfl⟩
                refine ⟨?_, ?_⟩
                · intro a' w' hb hf hd
                  exact ⟨wantedF (d := 144) rfl rfl (by rw [hb.size, hsz]; omega) (hd 5 (by kernel_rfl) 144 rfl), ex_val (Value.int .u64 ((m5 : Nat) : Int)) (xk_l48 rfl (hd 10 (by kernel_rfl) 149 rfl) (hf.gat (unhide HTZ).g hlz.2).num) rfl⟩
                refine ⟨?_, ?_⟩
                · intro a' w' hb hf hd
                  exact ⟨wantedF (d := 144) rfl rfl (by rw [hb.size, hsz]; omega) (hd 5 (by kernel_rfl) 144 rfl), ex_val (Value.bool false) (ex_neJ Tryd.u48h rfl (hd 7 (by kernel_rfl) 146 rfl) (hd 11 (by kernel_rfl) 150 rfl)) rfl⟩
                refine ⟨?_, ?_⟩
                · intro a' w' hb hf hd
                  exact ⟨wanted_none rfl, ex_val (Value.bool false) (ex_pickN rfl (hd 5 (by kernel_rfl) 144 rfl) (hd 12 (by kernel_rfl) 151 rfl)) rfl⟩
                refine ⟨?_, ?_⟩
                · intro a' w' hb hf hd
                  exact ⟨wanted_none rfl, ex_val (Value.bool false) (ex_move rfl (hd 13 (by kernel_rfl) 152 rfl)) rfl⟩
                refine ⟨?_, ?_⟩
                · intro a' w' hb hf hd
                  exact ⟨wantedF (d := 153) rfl rfl (by rw [hb.size, hsz]; omega) (hd 14 (by kernel_rfl) 153 rfl), ex_val (Value.pointer (some ⟨ph, 0, none⟩)) (ex_move rfl ((hb.old 3 (by decide +kernel)).trans h3)) rfl⟩
                refine ⟨?_, ?_⟩
                · intro a' w' hb hf hd
                  exact ⟨wantedF (d := 153) rfl rfl (by rw [hb.size, hsz]; omega) (hd 14 (by kernel_rfl) 153 rfl), ex_call 22 _ (en_call1 rfl rfl (hd 15 (by kernel_rfl) 154 rfl) cfv22) ((save_any w' ph _ _ _ (hf.hh (unhide HTZ).h hlz.1)).mono (by rintro e w7 ⟨v7, rfl, o7, f7, -⟩; rw [← unhide HB] at o7; obtain ⟨ao7, cap7, rfl⟩ := o7.shape; exact ⟨⟨_, rfl, ⟨ao7, cap7, rfl, o7.rd⟩⟩, f7⟩))⟩
                refine ⟨?_, ?_⟩
                · intro a' w' hb hf hd
                  obtain ⟨ao7, cap7, e7, r7⟩ := (hd 16 (by kernel_rfl) 155 rfl)
                  exact ⟨wantedF (d := 153) rfl rfl (by rw [hb.size, hsz]; omega) (hd 14 (by kernel_rfl) 153 rfl), ex_val (Value.string (str B)) (ex_conv rfl e7 (conv_rd r7 22 9 5 Tryd.underlying22 Tryd.underlying5 Tryd.u9)) rfl⟩
                refine ⟨?_, ?_⟩
                · intro a' w' hb hf hd
                  exact ⟨wantedF (d := 153) rfl rfl (by rw [hb.size, hsz]; omega) (hd 14 (by kernel_rfl) 153 rfl), ex_val (Value.pointer (some ⟨pg, 0, none⟩)) (ex_move rfl ((hb.old 4 (by decide +kernel)).trans h4)) rfl⟩
                refine ⟨?_, ?_⟩
                · intro a' w' hb hf hd
                  exact ⟨wantedF (d := 153) rfl rfl (by rw [hb.size, hsz]; omega) (hd 14 (by kernel_rfl) 153 rfl), ex_call 23 _ (en_call1 rfl rfl (hd 18 (by kernel_rfl) 157 rfl) cfv23) ((rsave_any w' pg _ _ _ _ (hf.gat (unhide HTZ).g hlz.2)).mono (by rintro e w7 ⟨⟨v7, rfl, o7, -⟩, f7⟩; rw [← unhide HB] at o7; obtain ⟨ao7, cap7, rfl⟩ := o7.shape; exact ⟨⟨_, rfl, ⟨ao7, cap7, rfl, o7.rd⟩⟩, f7⟩))⟩
                refine ⟨?_, ?_⟩
                · intro a' w' hb hf hd
                  obtain ⟨ao7, cap7, e7, r7⟩ := (hd 19 (by kernel_rfl) 158 rfl)
                  exact ⟨wantedF (d := 153) rfl rfl (by rw [hb.size, hsz]; omega) (hd 14 (by kernel_rfl) 153 rfl), ex_val (Value.string (str B)) (ex_conv rfl e7 (conv_rd r7 22 9 5 Tryd.underlying22 Tryd.underlying5 Tryd.u9)) rfl⟩
                refine ⟨?_, ?_⟩
                · intro a' w' hb hf hd
                  exact ⟨wantedF (d := 153) rfl rfl (by rw [hb.size, hsz]; omega) (hd 14 (by kernel_rfl) 153 rfl), ex_val (Value.bool false) (ex_neS rfl (hd 17 (by kernel_rfl) 156 rfl) (hd 20 (by kernel_rfl) 159 rfl)) rfl⟩
                refine ⟨?_, ?_⟩
                · intro a' w' hb hf hd
                  exact ⟨wanted_none rfl, ex_val (Value.bool false) (ex_pickN rfl (hd 14 (by kernel_rfl) 153 rfl) (hd 21 (by kernel_rfl) 160 rfl)) rfl⟩
                exact trivial
              case done =>
                intro a' w' hb hf hall
                have e161 : a'.tmps.getD 161 undef = .bool false := hall 22 (by decide) 161 rfl
                obtain ⟨f, hfr⟩ : ∃ f : Nat → Value, a' = { tmps := #[Value.slice (some ⟨b, o, none⟩) ss.length cap, undef, f 2, Value.pointer (some ⟨ph, 0, none⟩), Value.pointer (some ⟨pg, 0, none⟩), Value.int .i64 (k : Int), f 6, f 7, f 8, f 9, f 10, f 11, f 12, f 13, f 14, f 15, Value.slice (some ⟨b, o, none⟩) ss.length cap, Value.bool false, undef, Value.pointer (some ⟨P0, 0, none⟩), Value.pointer (some ⟨Q0, 0, none⟩), Value.pointer (some ⟨P0, 0, none⟩), Value.bool false, f 23, f 24, f 25, f 26, f 27, f 28, f 29, f 30, f 31, f 32, f 33, f 34, f 35, f 36, f 37, f 38, f 39, f 40, f 41, f 42, f 43, f 44, f 45, f 46, f 47, f 48, f 49, f 50, f 51, f 52, f 53, f 54, f 55, f 56, f 57, f 58, f 59, f 60, f 61, f 62, f 63, f 64, f 65, f 66, f 67, f 68, f 69, f 70, f 71, f 72, f 73, f 74, f 75, f 76, f 77, f 78, f 79, f 80, f 81, f 82, f 83, f 84, f 85, f 86, f 87, f 88, f 89, f 90, f 91, f 92, f 93, f 94, f 95, f 96, f 97, f 98, f 99, f 100, f 101, f 102, f 103, f 104, f 105, f 106, f 107, f 108, f 109, f 110, f 111, f 112, f 113, f 114, f 115, f 116, f 117, f 118, f 119, f 120, f 121, f 122, f 123, f 124, f 125, f 126, f 127, f 128, f 129, f 130, f 131, f 132, f 133, f 134, f 135, f 136, f 137, f 138, f 139, f 140, f 141, f 142, f 143, f 144, f 145, f 146, f 147, f 148, f 149, f 150, f 151, f 152, f 153, f 154, f 155, f 156, f 157, f 158, f 159, f 160, .bool false, undef], defers := [] } :=
                  ⟨fun i => a'.tmps.getD i undef, frame_eq (vs := [Value.slice (some ⟨b, o, none⟩) ss.length cap, undef, (fun i => a'.tmps.getD i undef) 2, Value.pointer (some ⟨ph, 0, none⟩), Value.pointer (some ⟨pg, 0, none⟩), Value.int .i64 (k : Int), (fun i => a'.tmps.getD i undef) 6, (fun i => a'.tmps.getD i undef) 7, (fun i => a'.tmps.getD i undef) 8, (fun i => a'.tmps.getD i undef) 9, (fun i => a'.tmps.getD i undef) 10, (fun i => a'.tmps.getD i undef) 11, (fun i => a'.tmps.getD i undef) 12, (fun i => a'.tmps.getD i undef) 13, (fun i => a'.tmps.getD i undef) 14, (fun i => a'.tmps.getD i undef) 15, Value.slice (some ⟨b, o, none⟩) ss.length cap, Value.bool false, undef, Value.pointer (some ⟨P0, 0, none⟩), Value.pointer (some ⟨Q0, 0, none⟩), Value.pointer (some ⟨P0, 0, none⟩), Value.bool false, (fun i => a'.tmps.getD i undef) 23, (fun i => a'.tmps.getD i undef) 24, (fun i => a'.tmps.getD i undef) 25, (fun i => a'.tmps.getD i undef) 26, (fun i => a'.tmps.getD i undef) 27, (fun i => a'.tmps.getD i undef) 28, (fun i => a'.tmps.getD i undef) 29, (fun i => a'.tmps.getD i undef) 30, (fun i => a'.tmps.getD i undef) 31, (fun i => a'.tmps.getD i undef) 32, (fun i => a'.tmps.getD i undef) 33, (fun i => a'.tmps.getD i undef) 34, (fun i => a'.tmps.getD i undef) 35, (fun i => a'.tmps.getD i undef) 36, (fun i => a'.tmps.getD i undef) 37, (fun i => a'.tmps.getD i undef) 38, (fun i => a'.tmps.getD i undef) 39, (fun i => a'.tmps.getD i undef) 40, (fun i => a'.tmps.getD i undef) 41, (fun i => a'.tmps.getD i undef) 42, (fun i => a'.tmps.getD i undef) 43, (fun i => a'.tmps.getD i undef) 44, (fun i => a'.tmps.getD i undef) 45, (fun i => a'.tmps.getD i undef) 46, (fun i => a'.tmps.getD i undef) 47, (fun i => a'.tmps.getD i undef) 48, (fun i => a'.tmps.getD i undef) 49, (fun i => a'.tmps.getD i undef) 50, (fun i => a'.tmps.getD i undef) 51, (fun i => a'.tmps.getD i undef) 52, (fun i => a'.tmps.getD i undef) 53, (fun i => a'.tmps.getD i undef) 54, (fun i => a'.tmps.getD i undef) 55, (fun i => a'.tmps.getD i undef) 56, (fun i => a'.tmps.getD i undef) 57, (fun i => a'.tmps.getD i undef) 58, (fun i => a'.tmps.getD i undef) 59, (fun i => a'.tmps.getD i undef) 60, (fun i => a'.tmps.getD i undef) 61, (fun i => a'.tmps.getD i undef) 62, (fun i => a'.tmps.getD i undef) 63, (fun i => a'.tmps.getD i undef) 64, (fun i => a'.tmps.getD i undef) 65, (fun i => a'.tmps.getD i undef) 66, (fun i => a'.tmps.getD i undef) 67, (fun i => a'.tmps.getD i undef) 68, (fun i => a'.tmps.getD i undef) 69, (fun i => a'.tmps.getD i undef) 70, (fun i => a'.tmps.getD i undef) 71, (fun i => a'.tmps.getD i undef) 72, (fun i => a'.tmps.getD i undef) 73, (fun i => a'.tmps.getD i undef) 74, (fun i => a'.tmps.getD i undef) 75, (fun i => a'.tmps.getD i undef) 76, (fun i => a'.tmps.getD i undef) 77, (fun i => a'.tmps.getD i undef) 78, (fun i => a'.tmps.getD i undef) 79, (fun i => a'.tmps.getD i undef) 80, (fun i => a'.tmps.getD i undef) 81, (fun i => a'.tmps.getD i undef) 82, (fun i => a'.tmps.getD i undef) 83, (fun i => a'.tmps.getD i undef) 84, (fun i => a'.tmps.getD i undef) 85, (fun i => a'.tmps.getD i undef) 86, (fun i => a'.tmps.getD i undef) 87, (fun i => a'.tmps.getD i undef) 88, (fun i => a'.tmps.getD i undef) 89, (fun i => a'.tmps.getD i undef) 90, (fun i => a'.tmps.getD i undef) 91, (fun i => a'.tmps.getD i undef) 92, (fun i => a'.tmps.getD i undef) 93, (fun i => a'.tmps.getD i undef) 94, (fun i => a'.tmps.getD i undef) 95, (fun i => a'.tmps.getD i undef) 96, (fun i => a'.tmps.getD i undef) 97, (fun i => a'.tmps.getD i undef) 98, (fun i => a'.tmps.getD i undef) 99, (fun i => a'.tmps.getD i undef) 100, (fun i => a'.tmps.getD i undef) 101, (fun i => a'.tmps.getD i undef) 102, (fun i => a'.tmps.getD i undef) 103, (fun i => a'.tmps.getD i undef) 104, (fun i => a'.tmps.getD i undef) 105, (fun i => a'.tmps.getD i undef) 106, (fun i => a'.tmps.getD i undef) 107, (fun i => a'.tmps.getD i undef) 108, (fun i => a'.tmps.getD i undef) 109, (fun i => a'.tmps.getD i undef) 110, (fun i => a'.tmps.getD i undef) 111, (fun i => a'.tmps.getD i undef) 112, (fun i => a'.tmps.getD i undef) 113, (fun i => a'.tmps.getD i undef) 114, (fun i => a'.tmps.getD i undef) 115, (fun i => a'.tmps.getD i undef) 116, (fun i => a'.tmps.getD i undef) 117, (fun i => a'.tmps.getD i undef) 118, (fun i => a'.tmps.getD i undef) 119, (fun i => a'.tmps.getD i undef) 120, (fun i => a'.tmps.getD i undef) 121, (fun i => a'.tmps.getD i undef) 122, (fun i => a'.tmps.getD i undef) 123, (fun i => a'.tmps.getD i undef) 124, (fun i => a'.tmps.getD i undef) 125, (fun i => a'.tmps.getD i undef) 126, (fun i => a'.tmps.getD i undef) 127, (fun i => a'.tmps.getD i undef) 128, (fun i => a'.tmps.getD i undef) 129, (fun i => a'.tmps.getD i undef) 130, (fun i => a'.tmps.getD i undef) 131, (fun i => a'.tmps.getD i undef) 132, (fun i => a'.tmps.getD i undef) 133, (fun i => a'.tmps.getD i undef) 134, (fun i => a'.tmps.getD i undef) 135, (fun i => a'.tmps.getD i undef) 136, (fun i => a'.tmps.getD i undef) 137, (fun i => a'.tmps.getD i undef) 138, (fun i => a'.tmps.getD i undef) 139, (fun i => a'.tmps.getD i undef) 140, (fun i => a'.tmps.getD i undef) 141, (fun i => a'.tmps.getD i undef) 142, (fun i => a'.tmps.getD i undef) 143, (fun i => a'.tmps.getD i undef) 144, (fun i => a'.tmps.getD i undef) 145, (fun i => a'.tmps.getD i undef) 146, (fun i => a'.tmps.getD i undef) 147, (fun i => a'.tmps.getD i undef) 148, (fun i => a'.tmps.getD i undef) 149, (fun i => a'.tmps.getD i undef) 150, (fun i => a'.tmps.getD i undef) 151, (fun i => a'.tmps.getD i undef) 152, (fun i => a'.tmps.getD i undef) 153, (fun i => a'.tmps.getD i undef) 154, (fun i => a'.tmps.getD i undef) 155, (fun i => a'.tmps.getD i undef) 156, (fun i => a'.tmps.getD i undef) 157, (fun i => a'.tmps.getD i undef) 158, (fun i => a'.tmps.getD i undef) 159, (fun i => a'.tmps.getD i undef) 160, .bool false, undef]) (by rw [hb.size, hsz]; rfl) (by rw [hb.defers]; exact hdf) ⟨((hb.old 0 (by decide +kernel)).trans h0), ((hb.old 1 (by decide +kernel)).trans h1), rfl, ((hb.old 3 (by decide +kernel)).trans h3), ((hb.old 4 (by decide +kernel)).trans h4), ((hb.old 5 (by decide +kernel)).trans h5), rfl, rfl, rfl, rfl, rfl, rfl, rfl, rfl, rfl, rfl, ((hb.old 16 (by decide +kernel)).trans h16), ((hb.old 17 (by decide +kernel)).trans h17), ((hb.old 18 (by decide +kernel)).trans h18), ((hb.old 19 (by decide +kernel)).trans h19), ((hb.old 20 (by decide +kernel)).trans h20), ((hb.old 21 (by decide +kernel)).trans h21), ((hb.old 22 (by decide +kernel)).trans h22), rfl, rfl, rfl, rfl, rfl, rfl, rfl, rfl, rfl, rfl, rfl, rfl, rfl, rfl, rfl, rfl, rfl, rfl, rfl, rfl, rfl, rfl, rfl, rfl, rfl, rfl, rfl, rfl, rfl, rfl, rfl, rfl, rfl, rfl, rfl, rfl, rfl, rfl, rfl, rfl, rfl, rfl, rfl, rfl, rfl, rfl, rfl, rfl, rfl, rfl, rfl, rfl, rfl, rfl, rfl, rfl, rfl, rfl, rfl, rfl, rfl, rfl, rfl, rfl, rfl, rfl, rfl, rfl, rfl, rfl, rfl, rfl, rfl, rfl, rfl, rfl, rfl, rfl, rfl, rfl, rfl, rfl, rfl, rfl, rfl, rfl, rfl, rfl, rfl, rfl, rfl, rfl, rfl, rfl, rfl, rfl, rfl, rfl, rfl, rfl, rfl, rfl, rfl, rfl, rfl, rfl, rfl, rfl, rfl, rfl, rfl, rfl, rfl, rfl, rfl, rfl, rfl, rfl, rfl, rfl, rfl, rfl, rfl, rfl, rfl, rfl, rfl, rfl, rfl, rfl, rfl, rfl, rfl, rfl, rfl, rfl, rfl, rfl, e161, ((hb.old 162 (by decide +kernel)).trans h162), trivial⟩⟩
                have HFF := hide hf.fr
                clear hall hb hf e161 hsz hdf h0 h1 h3 h4 h5 h16 h17 h18 h19 h20 h21 h22 h162
                subst hfr
                apply_assumption
                go_wp2_with fail
                go_roundw
                case rel => exact ⟨k + 1, ph, pg, s5, m5, gv5, r5, by omega, rfl, rfl, by go_num, (unhide HTZ).kept (unhide HFF) (fun _ _ h => h), (unhide FZ).trans (unhide HFF) (fun _ _ h => h)⟩
                case measure => simp [intOf]; omega
        · by_cases hk2 : kd = 2
          · subst hk2
            have HW := hide (save_any w3 ph s n r (unhide HTW3).h)
            obtain ⟨pc, hpc, -⟩ := (unhide HTW3).h
            have hfit := hpc.fit
            have hlr := (unhide HTW3).h.len
            have hok := ldOk_sv s n r hfit hlr
            have e1 := ldS_sv s n r
            have e2 := ldN_sv s n r hfit
            have e3 := drop_sv s n r
            have hbl8 : (svB s n r).length ≤ 1000000 := by
              rw [svB_length, hlr]
              have := Nat.mod_lt n (show 0 < 64 by decide)
              omega
            clear hpc
            obtain ⟨B, hB⟩ : ∃ B, B = svB s n r := ⟨_, rfl⟩
            rw [← hB] at HW hok e1 e2 e3 hbl8
            have HBV := hide hB
            have HOK := hide hok
            have HE := hide (And.intro e1 (And.intro e2 e3))
            have HMX8 : Hid (B.length ≤ 1000000) := hbl8
            clear hB hok e1 e2 e3 hbl8 hfit hlr
            go_wp2_with fail
            refine (unhide HW).mono ?_
            rintro e w4 ⟨v8, rfl, o8, f4, n8⟩
            obtain ⟨ao8, cap8, rfl⟩ := o8.shape
            have F4 := hide ((unhide F3).trans f4 (fun _ _ h => h))
            have HTW4 := hide ((unhide HTW3).kept f4 (fun _ _ h => h))
            have HL3 := hide (unhide HTW3).lt
            have hsz4 : w3.heap.size ≤ w4.heap.size := f4.size
            have O8 := hide o8
            have N8 := hide n8
            clear HW o8 f4 n8 o6 HN6 c0r HMX HTW3
            go_wp2_with fail
            refine wp_nameK ?_
            intro a0 hA
            have h0 : a0.tmps.getD 0 undef = Value.slice (some ⟨b, o, none⟩) ss.length cap := by rw [hA]; rfl
            have h1 : a0.tmps.getD 1 undef = undef := by rw [hA]; rfl
            have h3 : a0.tmps.getD 3 undef = Value.pointer (some ⟨ph, 0, none⟩) := by rw [hA]; rfl
            have h4 : a0.tmps.getD 4 undef = Value.pointer (some ⟨pg, 0, none⟩) := by rw [hA]; rfl
            have h5 : a0.tmps.getD 5 undef = Value.int .i64 (k : Int) := by rw [hA]; rfl
            have h16 : a0.tmps.getD 16 undef = Value.slice (some ⟨b, o, none⟩) ss.length cap := by rw [hA]; rfl
            have h17 : a0.tmps.getD 17 undef = Value.bool false := by rw [hA]; rfl
            have h18 : a0.tmps.getD 18 undef = undef := by rw [hA]; rfl
            have h19 : a0.tmps.getD 19 undef = Value.pointer (some ⟨P0, 0, none⟩) := by rw [hA]; rfl
            have h20 : a0.tmps.getD 20 undef = Value.pointer (some ⟨Q0, 0, none⟩) := by rw [hA]; rfl
            have h21 : a0.tmps.getD 21 undef = Value.pointer (some ⟨P0, 0, none⟩) := by rw [hA]; rfl
            have h22 : a0.tmps.getD 22 undef = Value.bool false := by rw [hA]; rfl
            have h162 : a0.tmps.getD 162 undef = undef := by rw [hA]; rfl
            have h8 : a0.tmps.getD 8 undef = Value.slice ao8 B.length cap8 := by rw [hA]; rfl
            have hsz : a0.tmps.size = 163 := by rw [hA]; rfl
            have hdf : a0.defers = [] := by rw [hA]
            clear hA
            refine wp_region_freeR (R := Cg (w4.heap.size)) (fun w => Cg.drew w) (fun a b c h k => Cg.trans a b c h k) (by kernel_rfl) (by kernel_rfl) (by decide +kernel) (by rw [hsz]; decide +kernel) (Tk (w4.heap.size) [.eq (Value.slice ao8 B.length cap8), .eq (Value.string (str B)), .eq (Value.pointer (some ⟨pg, 0, none⟩)), .sl B.length B, .eq (Value.string (str B)), .eq (Value.bool false)]) (Tk.mono _) ?steps ?done
            case steps =>
              refine ⟨?_, ?_⟩
              · intro a' w' hb hf hd
                exact ⟨wanted_none rfl, ex_val (Value.slice ao8 B.length cap8) (ex_move rfl ((hb.old 8 (by decide +kernel)).trans h8)) rfl⟩
              refine ⟨?_, ?_⟩
              · intro a' w' hb hf hd
                exact ⟨wanted_none rfl, ex_val (Value.string (str B)) (ex_conv rfl (hd 0 (by kernel_rfl) 71 rfl) (conv_rd (hf.rd (unhide O8).rd) 22 9 5 Tryd.underlying22 Tryd.underlying5 Tryd.u9)) rfl⟩
              refine ⟨?_, ?_⟩
              · intro a' w' hb hf hd
                exact ⟨wanted_none rfl, ex_val (Value.pointer (some ⟨pg, 0, none⟩)) (ex_move rfl ((hb.old 4 (by decide +kernel)).trans h4)) rfl⟩
              refine ⟨?_, ?_⟩
              · intro a' w' hb hf hd
                exact ⟨wanted_none rfl, ex_call 23 _ (en_call1 rfl rfl (hd 2 (by kernel_rfl) 73 rfl) cfv23) ((rsave_any w' pg _ _ _ _ (hf.gat (unhide HTW4).g (unhide HTW4).lt.2)).mono (by rintro e w7 ⟨⟨v7, rfl, o7, -⟩, f7⟩; rw [← unhide HBV] at o7; obtain ⟨ao7, cap7, rfl⟩ := o7.shape; exact ⟨⟨_, rfl, ⟨ao7, cap7, rfl, o7.rd⟩⟩, f7⟩))⟩
              refine ⟨?_, ?_⟩
              · intro a' w' hb hf hd
                obtain ⟨ao7, cap7, e7, r7⟩ := (hd 3 (by kernel_rfl) 74 rfl)
                exact ⟨wanted_none rfl, ex_val (Value.string (str B)) (ex_conv rfl e7 (conv_rd r7 22 9 5 Tryd.underlying22 Tryd.underlying5 Tryd.u9)) rfl⟩
              refine ⟨?_, ?_⟩
              · intro a' w' hb hf hd
                exact ⟨wanted_none rfl, ex_val (Value.bool false) (ex_neS rfl (hd 1 (by kernel_rfl) 72 rfl) (hd 4 (by kernel_rfl) 75 rfl)) rfl⟩
              exact trivial
            case done =>
              intro a' w' hb hf hall
              have e76 : a'.tmps.getD 76 undef = .bool false := hall 5 (by decide) 76 rfl
              obtain ⟨f, hfr⟩ : ∃ f : Nat → Value, a' = { tmps := #[Value.slice (some ⟨b, o, none⟩) ss.length cap, undef, f 2, Value.pointer (some ⟨ph, 0, none⟩), Value.pointer (some ⟨pg, 0, none⟩), Value.int .i64 (k : Int), f 6, f 7, Value.slice ao8 B.length cap8, f 9, f 10, f 11, f 12, f 13, f 14, f 15, Value.slice (some ⟨b, o, none⟩) ss.length cap, Value.bool false, undef, Value.pointer (some ⟨P0, 0, none⟩), Value.pointer (some ⟨Q0, 0, none⟩), Value.pointer (some ⟨P0, 0, none⟩), Value.bool false, f 23, f 24, f 25, f 26, f 27, f 28, f 29, f 30, f 31, f 32, f 33, f 34, f 35, f 36, f 37, f 38, f 39, f 40, f 41, f 42, f 43, f 44, f 45, f 46, f 47, f 48, f 49, f 50, f 51, f 52, f 53, f 54, f 55, f 56, f 57, f 58, f 59, f 60, f 61, f 62, f 63, f 64, f 65, f 66, f 67, f 68, f 69, f 70, f 71, f 72, f 73, f 74, f 75, .bool false, f 77, f 78, f 79, f 80, f 81, f 82, f 83, f 84, f 85, f 86, f 87, f 88, f 89, f 90, f 91, f 92, f 93, f 94, f 95, f 96, f 97, f 98, f 99, f 100, f 101, f 102, f 103, f 104, f 105, f 106, f 107, f 108, f 109, f 110, f 111, f 112, f 113, f 114, f 115, f 116, f 117, f 118, f 119, f 120, f 121, f 122, f 123, f 124, f 125, f 126, f 127, f 128, f 129, f 130, f 131, f 132, f 133, f 134, f 135, f 136, f 137, f 138, f 139, f 140, f 141, f 142, f 143, f 144, f 145, f 146, f 147, f 148, f 149, f 150, f 151, f 152, f 153, f 154, f 155, f 156, f 157, f 158, f 159, f 160, f 161, undef], defers := [] } :=
                ⟨fun i => a'.tmps.getD i undef, frame_eq (vs := [Value.slice (some ⟨b, o, none⟩) ss.length cap, undef, (fun i => a'.tmps.getD i undef) 2, Value.pointer (some ⟨ph, 0, none⟩), Value.pointer (some ⟨pg, 0, none⟩), Value.int .i64 (k : Int), (fun i => a'.tmps.getD i undef) 6, (fun i => a'.tmps.getD i undef) 7, Value.slice ao8 B.length cap8, (fun i => a'.tmps.getD i undef) 9, (fun i => a'.tmps.getD i undef) 10, (fun i => a'.tmps.getD i undef) 11, (fun i => a'.tmps.getD i undef) 12, (fun i => a'.tmps.getD i undef) 13, (fun i => a'.tmps.getD i undef) 14, (fun i => a'.tmps.getD i undef) 15, Value.slice (some ⟨b, o, none⟩) ss.length cap, Value.bool false, undef, Value.pointer (some ⟨P0, 0, none⟩), Value.pointer (some ⟨Q0, 0, none⟩), Value.pointer (some ⟨P0, 0, none⟩), Value.bool false, (fun i => a'.tmps.getD i undef) 23, (fun i => a'.tmps.getD i undef) 24, (fun i => a'.tmps.getD i undef) 25, (fun i => a'.tmps.getD i undef) 26, (fun i => a'.tmps.getD i undef) 27, (fun i => a'.tmps.getD i undef) 28, (fun i => a'.tmps.getD i undef) 29, (fun i => a'.tmps.getD i undef) 30, (fun i => a'.tmps.getD i undef) 31, (fun i => a'.tmps.getD i undef) 32, (fun i => a'.tmps.getD i undef) 33, (fun i => a'.tmps.getD i undef) 34, (fun i => a'.tmps.getD i undef) 35, (fun i => a'.tmps.getD i undef) 36, (fun i => a'.tmps.getD i undef) 37, (fun i => a'.tmps.getD i undef) 38, (fun i => a'.tmps.getD i undef) 39, (fun i => a'.tmps.getD i undef) 40, (fun i => a'.tmps.getD i undef) 41, (fun i => a'.tmps.getD i undef) 42, (fun i => a'.tmps.getD i undef) 43, (fun i => a'.tmps.getD i undef) 44, (fun i => a'.tmps.getD i undef) 45, (fun i => a'.tmps.getD i undef) 46, (fun i => a'.tmps.getD i undef) 47, (fun i => a'.tmps.getD i undef) 48, (fun i => a'.tmps.getD i undef) 49, (fun i => a'.tmps.getD i undef) 50, (fun i => a'.tmps.getD i undef) 51, (fun i => a'.tmps.getD i undef) 52, (fun i => a'.tmps.getD i undef) 53, (fun i => a'.tmps.getD i undef) 54, (fun i => a'.tmps.getD i undef) 55, (fun i => a'.tmps.getD i undef) 56, (fun i => a'.tmps.getD i undef) 57, (fun i => a'.tmps.getD i undef) 58, (fun i => a'.tmps.getD i undef) 59, (fun i => a'.tmps.getD i undef) 60, (fun i => a'.tmps.getD i undef) 61, (fun i => a'.tmps.getD i undef) 62, (fun i => a'.tmps.getD i undef) 63, (fun i => a'.tmps.getD i undef) 64, (fun i => a'.tmps.getD i undef) 65, (fun i => a'.tmps.getD i undef) 66, (fun i => a'.tmps.getD i undef) 67, (fun i => a'.tmps.getD i undef) 68, (fun i => a'.tmps.getD i undef) 69, (fun i => a'.tmps.getD i undef) 70, (fun i => a'.tmps.getD i undef) 71, (fun i => a'.tmps.getD i undef) 72, (fun i => a'.tmps.getD i undef) 73, (fun i => a'.tmps.getD i undef) 74, (fun i => a'.tmps.getD i undef) 75, .bool false, (fun i => a'.tmps.getD i undef) 77, (fun i => a'.tmps.getD i undef) 78, (fun i => a'.tmps.getD i undef) 79, (fun i => a'.tmps.getD i undef) 80, (fun i => a'.tmps.getD i undef) 81, (fun i => a'.tmps.getD i undef) 82, (fun i => a'.tmps.getD i undef) 83, (fun i => a'.tmps.getD i undef) 84, (fun i => a'.tmps.getD i undef) 85, (fun i => a'.tmps.getD i undef) 86, (fun i => a'.tmps.getD i undef) 87, (fun i => a'.tmps.getD i undef) 88, (fun i => a'.tmps.getD i undef) 89, (fun i => a'.tmps.getD i undef) 90, (fun i => a'.tmps.getD i undef) 91, (fun i => a'.tmps.getD i undef) 92, (fun i => a'.tmps.getD i undef) 93, (fun i => a'.tmps.getD i undef) 94, (fun i => a'.tmps.getD i undef) 95, (fun i => a'.tmps.getD i undef) 96, (fun i => a'.tmps.getD i undef) 97, (fun i => a'.tmps.getD i undef) 98, (fun i => a'.tmps.getD i undef) 99, (fun i => a'.tmps.getD i undef) 100, (fun i => a'.tmps.getD i undef) 101, (fun i => a'.tmps.getD i undef) 102, (fun i => a'.tmps.getD i undef) 103, (fun i => a'.tmps.getD i undef) 104, (fun i => a'.tmps.getD i undef) 105, (fun i => a'.tmps.getD i undef) 106, (fun i => a'.tmps.getD i undef) 107, (fun i => a'.tmps.getD i undef) 108, (fun i => a'.tmps.getD i undef) 109, (fun i => a'.tmps.getD i undef) 110, (fun i => a'.tmps.getD i undef) 111, (fun i => a'.tmps.getD i undef) 112, (fun i => a'.tmps.getD i undef) 113, (fun i => a'.tmps.getD i undef) 114, (fun i => a'.tmps.getD i undef) 115, (fun i => a'.tmps.getD i undef) 116, (fun i => a'.tmps.getD i undef) 117, (fun i => a'.tmps.getD i undef) 118, (fun i => a'.tmps.getD i undef) 119, (fun i => a'.tmps.getD i undef) 120, (fun i => a'.tmps.getD i undef) 121, (fun i => a'.tmps.getD i undef) 122, (fun i => a'.tmps.getD i undef) 123, (fun i => a'.tmps.getD i undef) 124, (fun i => a'.tmps.getD i undef) 125, (fun i => a'.tmps.getD i undef) 126, (fun i => a'.tmps.getD i undef) 127, (fun i => a'.tmps.getD i undef) 128, (fun i => a'.tmps.getD i undef) 129, (fun i => a'.tmps.getD i undef) 130, (fun i => a'.tmps.getD i undef) 131, (fun i => a'.tmps.getD i undef) 132, (fun i => a'.tmps.getD i undef) 133, (fun i => a'.tmps.getD i undef) 134, (fun i => a'.tmps.getD i undef) 135, (fun i => a'.tmps.getD i undef) 136, (fun i => a'.tmps.getD i undef) 137, (fun i => a'.tmps.getD i undef) 138, (fun i => a'.tmps.getD i undef) 139, (fun i => a'.tmps.getD i undef) 140, (fun i => a'.tmps.getD i undef) 141, (fun i => a'.tmps.getD i undef) 142, (fun i => a'.tmps.getD i undef) 143, (fun i => a'.tmps.getD i undef) 144, (fun i => a'.tmps.getD i undef) 145, (fun i => a'.tmps.getD i undef) 146, (fun i => a'.tmps.getD i undef) 147, (fun i => a'.tmps.getD i undef) 148, (fun i => a'.tmps.getD i undef) 149, (fun i => a'.tmps.getD i undef) 150, (fun i => a'.tmps.getD i undef) 151, (fun i => a'.tmps.getD i undef) 152, (fun i => a'.tmps.getD i undef) 153, (fun i => a'.tmps.getD i undef) 154, (fun i => a'.tmps.getD i undef) 155, (fun i => a'.tmps.getD i undef) 156, (fun i => a'.tmps.getD i undef) 157, (fun i => a'.tmps.getD i undef) 158, (fun i => a'.tmps.getD i undef) 159, (fun i => a'.tmps.getD i undef) 160, (fun i => a'.tmps.getD i undef) 161, undef]) (by rw [hb.size, hsz]; rfl) (by rw [hb.defers]; exact hdf) ⟨((hb.old 0 (by decide +kernel)).trans h0), ((hb.old 1 (by decide +kernel)).trans h1), rfl, ((hb.old 3 (by decide +kernel)).trans h3), ((hb.old 4 (by decide +kernel)).trans h4), ((hb.old 5 (by decide +kernel)).trans h5), rfl, rfl, ((hb.old 8 (by decide +kernel)).trans h8), rfl, rfl, rfl, rfl, rfl, rfl, rfl, ((hb.old 16 (by decide +kernel)).trans h16), ((hb.old 17 (by decide +kernel)).trans h17), ((hb.old 18 (by decide +kernel)).trans h18), ((hb.old 19 (by decide +kernel)).trans h19), ((hb.old 20 (by decide +kernel)).trans h20), ((hb.old 21 (by decide +kernel)).trans h21), ((hb.old 22 (by decide +kernel)).trans h22), rfl, rfl, rfl, rfl, rfl, rfl, rfl, rfl, rfl, rfl, rfl, rfl, rfl, rfl, rfl, rfl, rfl, rfl, rfl, rfl, rfl, rfl, rfl, rfl, rfl, rfl, rfl, rfl, rfl, rfl, rfl, rfl, rfl, rfl, rfl, rfl, rfl, rfl, rfl, rfl, rfl, rfl, rfl, rfl, rfl, rfl, rfl, rfl, rfl, rfl, rfl, rfl, rfl, e76, rfl, rfl, rfl, rfl, rfl, rfl, rfl, rfl, rfl, rfl, rfl, rfl, rfl, rfl, rfl, rfl, rfl, rfl, rfl, rfl, rfl, rfl, rfl, rfl, rfl, rfl, rfl, rfl, rfl, rfl, rfl, rfl, rfl, rfl, rfl, rfl, rfl, rfl, rfl, rfl, rfl, rfl, rfl, rfl, rfl, rfl, rfl, rfl, rfl, rfl, rfl, rfl, rfl, rfl, rfl, rfl, rfl, rfl, rfl, rfl, rfl, rfl, rfl, rfl, rfl, rfl, rfl, rfl, rfl, rfl, rfl, rfl, rfl, rfl, rfl, rfl, rfl, rfl, rfl, rfl, rfl, rfl, rfl, rfl, rfl, ((hb.old 162 (by decide +kernel)).trans h162), trivial⟩⟩
              have HFF := hide hf.fr
              clear hall hb hf e76 hsz hdf h0 h1 h3 h4 h5 h16 h17 h18 h19 h20 h21 h22 h162 h8
              subst hfr
              apply_assumption
              go_wp2_with fail
              have F5 := hide ((unhide F4).trans (unhide HFF) (fun _ _ h => h))
              have HTW5 := hide ((unhide HTW4).kept (unhide HFF) (fun _ _ h => h))
              have O5 := hide ((unhide O8).kept (unhide HFF) (fun _ _ h => h))
              have hsz5 : w4.heap.size ≤ w'.heap.size := (unhide HFF).size
              refine (load_any w' _ B (unhide O5).rd).mono ?_
              rintro e w6 ⟨f6, h6⟩
              rcases h6 with ⟨-, g', hg', rfl, h6⟩ | ⟨hno, -⟩
              case inr => exact absurd (unhide HOK) hno
              rw [(unhide HE).1, (unhide HE).2.1, (unhide HE).2.2] at h6
              have F6 := hide ((unhide F5).trans f6 (fun _ _ h => h))
              have HTW6 := hide ((unhide HTW5).kept f6 (fun _ _ h => h))
              have O6 := hide ((unhide O5).kept f6 (fun _ _ h => h))
              have H6 := hide h6
              have hsz6 : w'.heap.size ≤ w6.heap.size := f6.size
              clear f6 h6 HTW5 O5 HFF F5
              go_wp2_with fail
              refine (num_any w6 0).mono ?_
              rintro e w7 ⟨rfl, rfl⟩
              have hcv := fun (W : World) (C : Array Value) (n c : Nat) => Lib.run_convert_bytes_const (P := Tryd.prog) W 22 5 C n c Tryd.underlying22 Tryd.underlying5
              go_wp2_with fail
              refine wpC_world ?_
              intro w7 hw7
              have f67 : Fr (fun _ => False) w6 w7 := by rw [hw7]; exact (Fr.refl _ _).alloc _
              have hR7 : Rd w7 (.slice (some ⟨w6.heap.size, 0, none⟩) 5 5) [97, 112, 97, 114, 116] := by rw [hw7]; exact rd_mark w6 [97, 112, 97, 114, 116] (by decide) _
              have F7 := hide ((unhide F6).trans f67 (fun _ _ h => h))
              have HTW7 := hide ((unhide HTW6).kept f67 (fun _ _ h => h))
              refine (write_any w7 ph s n r _ [97, 112, 97, 114, 116] ((unhide HT).kept (unhide F7) id id) (unhide HTW7).h hR7 (fun b hb => .inr (by simp [Value.ownBlock] at hb; have := (unhide HTW6).lt.1; omega))).mono ?_
              rintro e w8 ⟨rfl, -, f8⟩
              have hl6 := (unhide HTW4).lt
              have HTW8 : Hid (Two w.heap.size w8 g' pg s n gv r) := hide ⟨((unhide H6).kept f67 id).kept f8 (fun e => by omega), (unhide HTW7).g.kept f8 (fun e => (unhide HTW7).ne e.symm) (fun b hb => ((unhide HTW7).nv b hb).2), by have := (unhide F4).size; omega, (unhide HTW7).ng, fun b hb => ⟨((unhide HTW7).nv b hb).1, by have := ((unhide HTW4).g.ne b hb).2; omega⟩⟩
              have F8 : Hid (Fr (fun _ => False) w w8) := hide ((unhide F7).trans f8 (fun i hi e => by have := (unhide HTW7).nh; omega))
              have HL8 : Hid (∀ j, (Value.slice ao8 B.length cap8).ownBlock = some j → j < g') := hide (fun j hj => by have := (unhide O8).lt j hj; omega)
              have HGV : Hid (∀ b, gv.ownBlock = some b → b < w3.heap.size) := hide (fun b hb => by have h1 := ((unhide HTW1).g.ne b hb).2; omega)
              have HO := hide (((unhide O6).kept f67 (fun _ _ h => h)).kept f8 (fun j hj e => by have := unhide N8 j hj; have := (unhide HL3).1; omega))
              have HMX := HMX8
              clear hcv f67 hR7 f8 hw7 H6 HTW6 HTW7 O6 hl6 F7 F6
              go_wp2_with fail
              go_loopw [11] (fun i w' => ∃ (t : Nat) (l' : List UInt8), t ≤ B.length ∧ i = .int .i64 t ∧ l'.length = B.length ∧ Ow w' (.slice ao8 B.length cap8) l' ∧ Fr (fun j => (Value.slice ao8 B.length cap8).ownBlock = some j) w8 w') (fun i _ => B.length - (intOf i).toNat)
              case atStart => exact ⟨0, B, Nat.zero_le _, rfl, rfl, unhide HO, Fr.refl _ _⟩
              case round =>
                obtain ⟨t, l', ht, rfl, hl', ho', f'⟩ := hrel
                by_cases htl : t < B.length
                · obtain ⟨g, hao, hcap8, hcell, hfz, hset⟩ := ho'.spoil hl' htl
                  subst hao
                  generalize l'.getD t 0 = oldb at *
                  have hxo : bits BinOp.xor IntKind.u8 ((oldb.toNat : Nat) : Int) 85 = (((oldb ^^^ 85).toNat : Nat) : Int) := xorB oldb 85
                  have HSET := hide (hset (oldb ^^^ 85))
                  have HF' := hide f'
                  have HL' := hide hl'
                  have htli : (t : Int) < ((B.length : Nat) : Int) := by omega
                  have hmx : B.length ≤ 1000000 := unhide HMX
                  clear ho' hset f' hl'
                  go_wp2_with fail
                  go_roundw
                  case rel =>
                    exact ⟨t + 1, l'.set t (oldb ^^^ 85), by omega, by go_num, by simp [unhide HL'], unhide HSET, (unhide HF').setCell (p := ⟨g, t, none⟩) (fun _ => rfl) _⟩
                  case measure => simp [intOf]; omega
                · have HF' := hide f'
                  have htli : ¬ (t : Int) < ((B.length : Nat) : Int) := by omega
                  clear ho' f' hl'
                  go_wp2_with fail
                  have HTZ : Hid (Two w.heap.size wr g' pg s n gv r) := hide ⟨(unhide HTW8).h.kept (unhide HF') (fun e => by have := unhide HL8 _ e; omega), (unhide HTW8).g.kept (unhide HF') (fun e => by have := unhide N8 _ e; have := (unhide HL3).2; omega) (fun b hb e => by have := unhide N8 b e; have := unhide HGV b hb; omega), (unhide HTW8).nh, (unhide HTW8).ng, (unhide HTW8).nv⟩
                  have FZ : Hid (Fr (fun _ => False) w wr) := hide ((unhide F8).trans (unhide HF') (fun i hi e => by have := unhide N8 i e; have := (unhide F3).size; omega))
                  clear HTW8 HF' HL8 HO N8 F8 HTW4 HTW1 HLW F3 F4 HRP HGV HL3 O8
                  have TZ := hide ((unhide HT).kept (unhide FZ) id id)
                  have hlz := (unhide HTZ).lt
                  have hrl := (unhide HTZ).h.len
                  have HRL := hide hrl
                  obtain ⟨D, hD⟩ : ∃ D, D = sumH s n r := ⟨_, rfl⟩
                  have hDl : D.length = 32 := by rw [hD]; rfl
                  have HD := hide hD.symm
                  obtain ⟨B, hB⟩ : ∃ B, B = svB s n r := ⟨_, rfl⟩
                  have HB := hide hB
                  clear hD hB hrl
                  refine wp_nameK ?_
                  intro a0 hA
                  have h0 : a0.tmps.getD 0 undef = Value.slice (some ⟨b, o, none⟩) ss.length cap := by rw [hA]; rfl
                  have h1 : a0.tmps.getD 1 undef = undef := by rw [hA]; rfl
                  have h3 : a0.tmps.getD 3 undef = Value.pointer (some ⟨g', 0, none⟩) := by rw [hA]; rfl
                  have h4 : a0.tmps.getD 4 undef = Value.pointer (some ⟨pg, 0, none⟩) := by rw [hA]; rfl
                  have h5 : a0.tmps.getD 5 undef = Value.int .i64 (k : Int) := by rw [hA]; rfl
                  have h16 : a0.tmps.getD 16 undef = Value.slice (some ⟨b, o, none⟩) ss.length cap := by rw [hA]; rfl
                  have h17 : a0.tmps.getD 17 undef = Value.bool false := by rw [hA]; rfl
                  have h18 : a0.tmps.getD 18 undef = undef := by rw [hA]; rfl
                  have h19 : a0.tmps.getD 19 undef = Value.pointer (some ⟨P0, 0, none⟩) := by rw [hA]; rfl
                  have h20 : a0.tmps.getD 20 undef = Value.pointer (some ⟨Q0, 0, none⟩) := by rw [hA]; rfl
                  have h21 : a0.tmps.getD 21 undef = Value.pointer (some ⟨P0, 0, none⟩) := by rw [hA]; rfl
                  have h22 : a0.tmps.getD 22 undef = Value.bool false := by rw [hA]; rfl
                  have h162 : a0.tmps.getD 162 undef = undef := by rw [hA]; rfl
                  have hsz : a0.tmps.size = 163 := by rw [hA]; rfl
                  have hdf : a0.defers = [] := by rw [hA]
                  clear hA
                  refine wp_region_freeR (R := Cg (wr.heap.size)) (fun w => Cg.drew w) (fun a b c h k => Cg.trans a b c h k) (by kernel_rfl) (by kernel_rfl) (by decide +kernel) (by rw [hsz]; decide +kernel) (Tk (wr.heap.size) [.eq (Value.pointer (some ⟨g', 0, none⟩)), .eq (Value.agg (bvs D).toArray), .eq (Value.pointer (some ⟨pg, 0, none⟩)), .eq (Value.agg (bvs D).toArray), .eq (Value.bool false), .eq (Value.bool false), .eq (Value.pointer (some ⟨g', 0, none⟩)), .eq (Value.int .u64 ((n : Nat) : Int)), .eq (Value.pointer (some ⟨pg, 0, none⟩)), .eq (Value.pointer (some ⟨pg, 0, none⟩)), .eq (Value.pointer (some ⟨pg, 8, none⟩)), .eq (Value.int .u64 ((n : Nat) : Int)), .eq (Value.bool false), .eq (Value.bool false), .eq (Value.bool false), .eq (Value.pointer (some ⟨g', 0, none⟩)), .sl B.length B, .eq (Value.string (str B)), .eq (Value.pointer (some ⟨pg, 0, none⟩)), .sl B.length B, .eq (Value.string (str B)), .eq (Value.bool false), .eq (Value.bool false)]) (Tk.mono _) ?steps ?done
                  case steps =>
                    refine ⟨?_, ?_⟩
                    · intro a' w' hb hf hd
                      exact ⟨wanted_none rfl, ex_val (Value.pointer (some ⟨g', 0, none⟩)) (ex_move rfl ((hb.old 3 (by decide +kernel)).trans h3)) rfl⟩
                    refine ⟨?_, ?_⟩
                    · intro a' w' hb hf hd
                      exact ⟨wanted_none rfl, ex_call 27 _ (en_call1 rfl rfl (hd 0 (by kernel_rfl) 139 rfl) cfv27) ((sum_any w' g' _ _ _ (hf.tb (unhide TZ)) (hf.hh (unhide HTZ).h hlz.1)).mono (by rintro e w7 ⟨rfl, f⟩; exact ⟨⟨_, rfl, congrArg (fun l => Value.agg (bvs l).toArray) (unhide HD)⟩, f⟩))⟩
                    refine ⟨?_, ?_⟩
                    · intro a' w' hb hf hd
                      exact ⟨wanted_none rfl, ex_val (Value.pointer (some ⟨pg, 0, none⟩)) (ex_move rfl ((hb.old 4 (by decide +kernel)).trans h4)) rfl⟩
                    refine ⟨?_, ?_⟩
                    · intro a' w' hb hf hd
                      exact ⟨wanted_none rfl, ex_call 28 _ (en_call1 rfl rfl (hd 2 (by kernel_rfl) 141 rfl) cfv28) ((rsum_any w' pg _ _ _ _ (hf.gat (unhide HTZ).g hlz.2) (unhide HRL)).mono (by rintro e w7 ⟨rfl, f⟩; exact ⟨⟨_, rfl, congrArg (fun l => Value.agg (bvs l).toArray) (unhide HD)⟩, f⟩))⟩
                    refine ⟨?_, ?_⟩
                    · intro a' w' hb hf hd
                      exact ⟨wanted_none rfl, ex_val (Value.bool false) (ex_neD rfl (hd 1 (by kernel_rfl) 140 rfl) (hd 3 (by kernel_rfl) 142 rfl) hDl) rfl⟩
                    refine ⟨?_, ?_⟩
                    · intro a' w' hb hf hd
                      exact ⟨wanted_none rfl, ex_val (Value.bool false) (ex_move rfl (hd 4 (by kernel_rfl) 143 rfl)) rfl⟩
                    refine ⟨?_, ?_⟩
                    · intro a' w' hb hf hd
                      exact ⟨wantedF (d := 144) rfl rfl (by rw [hb.size, hsz]; omega) (hd 5 (by kernel_rfl) 144 rfl), ex_val (Value.pointer (some ⟨g', 0, none⟩)) (ex_move rfl ((hb.old 3 (by decide +kernel)).trans h3)) rfl⟩
                    refine ⟨?_, ?_⟩
                    · intro a' w' hb hf hd
                      obtain ⟨pc, hpc, -⟩ := hf.hh (unhide HTZ).h hlz.1
                      exact ⟨wantedF (d := 144) rfl rfl (by rw [hb.size, hsz]; omega) (hd 5 (by kernel_rfl) 144 rfl), ex_call 29 _ (en_call1 rfl rfl (hd 6 (by kernel_rfl) 145 rfl) cfv29) ((len_any w' g' _ _ _ hpc).mono (by rintro e w7 ⟨rfl, rfl⟩; exact ⟨⟨_, rfl, rfl⟩, Fr.refl _ _⟩))⟩
                    refine ⟨?_, ?_⟩
                    · intro a' w' hb hf hd
                      exact ⟨wantedF (d := 144) rfl rfl (by rw [hb.size, hsz]; omega) (hd 5 (by kernel_rfl) 144 rfl), ex_val (Value.pointer (some ⟨pg, 0, none⟩)) (ex_move rfl ((hb.old 4 (by decide +kernel)).trans h4)) rfl⟩
                    refine ⟨?_, ?_⟩
                    · intro a' w' hb hf hd
                      exact ⟨wantedF (d := 144) rfl rfl (by rw [hb.size, hsz]; omega) (hd 5 (by kernel_rfl) 144 rfl), ex_val (Value.pointer (some ⟨pg, 0, none⟩)) (xk_nil rfl (hd 8 (by kernel_rfl) 147 rfl)) rfl⟩
                    refine ⟨?_, ?_⟩
                    · intro a' w' hb hf hd
                      exact ⟨wantedF (d := 144) rfl rfl (by rw [hb.size, hsz]; omega) (hd 5 (by kernel_rfl) 144 rfl), ex_val (Value.pointer (some ⟨pg, 8, none⟩)) (xk_f1 rfl (hd 9 (by kernel_rfl) 148 rfl)) rfl⟩
                    refine ⟨?_, ?_⟩
                    · intro a' w' hb hf hd
                      exact ⟨wantedF (d := 144) rfl rfl (by rw [hb.size, hsz]; omega) (hd 5 (by kernel_rfl) 144 rfl), ex_val (Value.int .u64 ((n : Nat) : Int)) (xk_l48 rfl (hd 10 (by kernel_rfl) 149 rfl) (hf.gat (unhide HTZ).g hlz.2).num) rfl⟩
                    refine ⟨?_, ?_⟩
                    · intro a' w' hb hf hd
                      exact ⟨wantedF (d := 144) rfl rfl (by rw [hb.size, hsz]; omega) (hd 5 (by kernel_rfl) 144 rfl), ex_val (Value.bool false) (ex_neJ Tryd.u48h rfl (hd 7 (by kernel_rfl) 146 rfl) (hd 11 (by kernel_rfl) 150 rfl)) rfl⟩
                    refine ⟨?_, ?_⟩
                    · intro a' w' hb hf hd
                      exact ⟨wanted_none rfl, ex_val (Value.bool false) (ex_pickN rfl (hd 5 (by kernel_rfl) 144 rfl) (hd 12 (by kernel_rfl) 151 rfl)) rfl⟩
                    refine ⟨?_, ?_⟩
                    · intro a' w' hb hf hd
                      exact ⟨wanted_none rfl, ex_val (Value.bool false) (ex_move rfl (hd 13 (by kernel_rfl) 152 rfl)) rfl⟩
                    refine ⟨?_, ?_⟩
                    · intro a' w' hb hf hd
                      exact ⟨wantedF (d := 153) rfl rfl (by rw [hb.size, hsz]; omega) (hd 14 (by kernel_rfl) 153 rfl), ex_val (Value.pointer (some ⟨g', 0, none⟩)) (ex_move rfl ((hb.old 3 (by decide +kernel)).trans h3)) rfl⟩
                    refine ⟨?_, ?_⟩
                    · intro a' w' hb hf hd
                      exact ⟨wantedF (d := 153) rfl rfl (by rw [hb.size, hsz]; omega) (hd 14 (by kernel_rfl) 153 rfl), ex_call 22 _ (en_call1 rfl rfl (hd 15 (by kernel_rfl) 154 rfl) cfv22) ((save_any w' g' _ _ _ (hf.hh (unhide HTZ).h hlz.1)).mono (by rintro e w7 ⟨v7, rfl, o7, f7, -⟩; rw [← unhide HB] at o7; obtain ⟨ao7, cap7, rfl⟩ := o7.shape; exact ⟨⟨_, rfl, ⟨ao7, cap7, rfl, o7.rd⟩⟩, f7⟩))⟩
                    refine ⟨?_, ?_⟩
                    · intro a' w' hb hf hd
                      obtain ⟨ao7, cap7, e7, r7⟩ := (hd 16 (by kernel_rfl) 155 rfl)
                      exact ⟨wantedF (d := 153) rfl rfl (by rw [hb.size, hsz]; omega) (hd 14 (by kernel_rfl) 153 rfl), ex_val (Value.string (str B)) (ex_conv rfl e7 (conv_rd r7 22 9 5 Tryd.underlying22 Tryd.underlying5 Tryd.u9)) rfl⟩
                    refine ⟨?_, ?_⟩
                    · intro a' w' hb hf hd
                      exact ⟨wantedF (d := 153) rfl rfl (by rw [hb.size, hsz]; omega) (hd 14 (by kernel_rfl) 153 rfl), ex_val (Value.pointer (some ⟨pg, 0, none⟩)) (ex_move rfl ((hb.old 4 (by decide +kernel)).trans h4)) rfl⟩
                    refine ⟨?_, ?_⟩
                    · intro a' w' hb hf hd
                      exact ⟨wantedF (d := 153) rfl rfl (by rw [hb.size, hsz]; omega) (hd 14 (by kernel_rfl) 153 rfl), ex_call 23 _ (en_call1 rfl rfl (hd 18 (by kernel_rfl) 157 rfl) cfv23) ((rsave_any w' pg _ _ _ _ (hf.gat (unhide HTZ).g hlz.2)).mono (by rintro e w7 ⟨⟨v7, rfl, o7, -⟩, f7⟩; rw [← unhide HB] at o7; obtain ⟨ao7, cap7, rfl⟩ := o7.shape; exact ⟨⟨_, rfl, ⟨ao7, cap7, rfl, o7.rd⟩⟩, f7⟩))⟩
                    refine ⟨?_, ?_⟩
                    · intro a' w' hb hf hd
                      obtain ⟨ao7, cap7, e7, r7⟩ := (hd 19 (by kernel_rfl) 158 rfl)
                      exact ⟨wantedF (d := 153) rfl rfl (by rw [hb.size, hsz]; omega) (hd 14 (by kernel_rfl) 153 rfl), ex_val (Value.string (str B)) (ex_conv rfl e7 (conv_rd r7 22 9 5 Tryd.underlying22 Tryd.underlying5 Tryd.u9)) rfl⟩
                    refine ⟨?_, ?_⟩
                    · intro a' w' hb hf hd
                      exact ⟨wantedF (d := 153) rfl rfl (by rw [hb.size, hsz]; omega) (hd 14 (by kernel_rfl) 153 rfl), ex_val (Value.bool false) (ex_neS rfl (hd 17 (by kernel_rfl) 156 rfl) (hd 20 (by kernel_rfl) 159 rfl)) rfl⟩
                    refine ⟨?_, ?_⟩
                    · intro a' w' hb hf hd
                      exact ⟨wanted_none rfl, ex_val (Value.bool false) (ex_pickN rfl (hd 14 (by kernel_rfl) 153 rfl) (hd 21 (by kernel_rfl) 160 rfl)) rfl⟩
                    exact trivial
                  case done =>
                    intro a' w' hb hf hall
                    have e161 : a'.tmps.getD 161 undef = .bool false := hall 22 (by decide) 161 rfl
                    obtain ⟨f, hfr⟩ : ∃ f : Nat → Value, a' = { tmps := #[Value.slice (some ⟨b, o, none⟩) ss.length cap, undef, f 2, Value.pointer (some ⟨g', 0, none⟩), Value.pointer (some ⟨pg, 0, none⟩), Value.int .i64 (k : Int), f 6, f 7, f 8, f 9, f 10, f 11, f 12, f 13, f 14, f 15, Value.slice (some ⟨b, o, none⟩) ss.length cap, Value.bool false, undef, Value.pointer (some ⟨P0, 0, none⟩), Value.pointer (some ⟨Q0, 0, none⟩), Value.pointer (some ⟨P0, 0, none⟩), Value.bool false, f 23, f 24, f 25, f 26, f 27, f 28, f 29, f 30, f 31, f 32, f 33, f 34, f 35, f 36, f 37, f 38, f 39, f 40, f 41, f 42, f 43, f 44, f 45, f 46, f 47, f 48, f 49, f 50, f 51, f 52, f 53, f 54, f 55, f 56, f 57, f 58, f 59, f 60, f 61, f 62, f 63, f 64, f 65, f 66, f 67, f 68, f 69, f 70, f 71, f 72, f 73, f 74, f 75, f 76, f 77, f 78, f 79, f 80, f 81, f 82, f 83, f 84, f 85, f 86, f 87, f 88, f 89, f 90, f 91, f 92, f 93, f 94, f 95, f 96, f 97, f 98, f 99, f 100, f 101, f 102, f 103, f 104, f 105, f 106, f 107, f 108, f 109, f 110, f 111, f 112, f 113, f 114, f 115, f 116, f 117, f 118, f 119, f 120, f 121, f 122, f 123, f 124, f 125, f 126, f 127, f 128, f 129, f 130, f 131, f 132, f 133, f 134, f 135, f 136, f 137, f 138, f 139, f 140, f 141, f 142, f 143, f 144, f 145, f 146, f 147, f 148, f 149, f 150, f 151, f 152, f 153, f 154, f 155, f 156, f 157, f 158, f 159, f 160, .bool false, undef], defers := [] } :=
                      ⟨fun i => a'.tmps.getD i undef, frame_eq (vs := [Value.slice (some ⟨b, o, none⟩) ss.length cap, undef, (fun i => a'.tmps.getD i undef) 2, Value.pointer (some ⟨g', 0, none⟩), Value.pointer (some ⟨pg, 0, none⟩), Value.int .i64 (k : Int), (fun i => a'.tmps.getD i undef) 6, (fun i => a'.tmps.getD i undef) 7, (fun i => a'.tmps.getD i undef) 8, (fun i => a'.tmps.getD i undef) 9, (fun i => a'.tmps.getD i undef) 10, (fun i => a'.tmps.getD i undef) 11, (fun i => a'.tmps.getD i undef) 12, (fun i => a'.tmps.getD i undef) 13, (fun i => a'.tmps.getD i undef) 14, (fun i => a'.tmps.getD i undef) 15, Value.slice (some ⟨b, o, none⟩) ss.length cap, Value.bool false, undef, Value.pointer (some ⟨P0, 0, none⟩), Value.pointer (some ⟨Q0, 0, none⟩), Value.pointer (some ⟨P0, 0, none⟩), Value.bool false, (fun i => a'.tmps.getD i undef) 23, (fun i => a'.tmps.getD i undef) 24, (fun i => a'.tmps.getD i undef) 25, (fun i => a'.tmps.getD i undef) 26, (fun i => a'.tmps.getD i undef) 27, (fun i => a'.tmps.getD i undef) 28, (fun i => a'.tmps.getD i undef) 29, (fun i => a'.tmps.getD i undef) 30, (fun i => a'.tmps.getD i undef) 31, (fun i => a'.tmps.getD i undef) 32, (fun i => a'.tmps.getD i undef) 33, (fun i => a'.tmps.getD i undef) 34, (fun i => a'.tmps.getD i undef) 35, (fun i => a'.tmps.getD i undef) 36, (fun i => a'.tmps.getD i undef) 37, (fun i => a'.tmps.getD i undef) 38, (fun i => a'.tmps.getD i undef) 39, (fun i => a'.tmps.getD i undef) 40, (fun i => a'.tmps.getD i undef) 41, (fun i => a'.tmps.getD i undef) 42, (fun i => a'.tmps.getD i undef) 43, (fun i => a'.tmps.getD i undef) 44, (fun i => a'.tmps.getD i undef) 45, (fun i => a'.tmps.getD i undef) 46, (fun i => a'.tmps.getD i undef) 47, (fun i => a'.tmps.getD i undef) 48, (fun i => a'.tmps.getD i undef) 49, (fun i => a'.tmps.getD i undef) 50, (fun i => a'.tmps.getD i undef) 51, (fun i => a'.tmps.getD i undef) 52, (fun i => a'.tmps.getD i undef) 53, (fun i => a'.tmps.getD i undef) 54, (fun i => a'.tmps.getD i undef) 55, (fun i => a'.tmps.getD i undef) 56, (fun i => a'.tmps.getD i undef) 57, (fun i => a'.tmps.getD i undef) 58, (fun i => a'.tmps.getD i undef) 59, (fun i => a'.tmps.getD i undef) 60, (fun i => a'.tmps.getD i undef) 61, (fun i => a'.tmps.getD i undef) 62, (fun i => a'.tmps.getD i undef) 63, (fun i => a'.tmps.getD i undef) 64, (fun i => a'.tmps.getD i undef) 65, (fun i => a'.tmps.getD i undef) 66, (fun i => a'.tmps.getD i undef) 67, (fun i => a'.tmps.getD i undef) 68, (fun i => a'.tmps.getD i undef) 69, (fun i => a'.tmps.getD i undef) 70, (fun i => a'.tmps.getD i undef) 71, (fun i => a'.tmps.getD i undef) 72, (fun i => a'.tmps.getD i undef) 73, (fun i => a'.tmps.getD i undef) 74, (fun i => a'.tmps.getD i undef) 75, (fun i => a'.tmps.getD i undef) 76, (fun i => a'.tmps.getD i undef) 77, (fun i => a'.tmps.getD i undef) 78, (fun i => a'.tmps.getD i undef) 79, (fun i => a'.tmps.getD i undef) 80, (fun i => a'.tmps.getD i undef) 81, (fun i => a'.tmps.getD i undef) 82, (fun i => a'.tmps.getD i undef) 83, (fun i => a'.tmps.getD i undef) 84, (fun i => a'.tmps.getD i undef) 85, (fun i => a'.tmps.getD i undef) 86, (fun i => a'.tmps.getD i undef) 87, (fun i => a'.tmps.getD i undef) 88, (fun i => a'.tmps.getD i undef) 89, (fun i => a'.tmps.getD i undef) 90, (fun i => a'.tmps.getD i undef) 91, (fun i => a'.tmps.getD i undef) 92, (fun i => a'.tmps.getD i undef) 93, (fun i => a'.tmps.getD i undef) 94, (fun i => a'.tmps.getD i undef) 95, (fun i => a'.tmps.getD i undef) 96, (fun i => a'.tmps.getD i undef) 97, (fun i => a'.tmps.getD i undef) 98, (fun i => a'.tmps.getD i undef) 99, (fun i => a'.tmps.getD i undef) 100, (fun i => a'.tmps.getD i undef) 101, (fun i => a'.tmps.getD i undef) 102, (fun i => a'.tmps.getD i undef) 103, (fun i => a'.tmps.getD i undef) 104, (fun i => a'.tmps.getD i undef) 105, (fun i => a'.tmps.getD i undef) 106, (fun i => a'.tmps.getD i undef) 107, (fun i => a'.tmps.getD i undef) 108, (fun i => a'.tmps.getD i undef) 109, (fun i => a'.tmps.getD i undef) 110, (fun i => a'.tmps.getD i undef) 111, (fun i => a'.tmps.getD i undef) 112, (fun i => a'.tmps.getD i undef) 113, (fun i => a'.tmps.getD i undef) 114, (fun i => a'.tmps.getD i undef) 115, (fun i => a'.tmps.getD i undef) 116, (fun i => a'.tmps.getD i undef) 117, (fun i => a'.tmps.getD i undef) 118, (fun i => a'.tmps.getD i undef) 119, (fun i => a'.tmps.getD i undef) 120, (fun i => a'.tmps.getD i undef) 121, (fun i => a'.tmps.getD i undef) 122, (fun i => a'.tmps.getD i undef) 123, (fun i => a'.tmps.getD i undef) 124, (fun i => a'.tmps.getD i undef) 125, (fun i => a'.tmps.getD i undef) 126, (fun i => a'.tmps.getD i undef) 127, (fun i => a'.tmps.getD i undef) 128, (fun i => a'.tmps.getD i undef) 129, (fun i => a'.tmps.getD i undef) 130, (fun i => a'.tmps.getD i undef) 131, (fun i => a'.tmps.getD i undef) 132, (fun i => a'.tmps.getD i undef) 133, (fun i => a'.tmps.getD i undef) 134, (fun i => a'.tmps.getD i undef) 135, (fun i => a'.tmps.getD i undef) 136, (fun i => a'.tmps.getD i undef) 137, (fun i => a'.tmps.getD i undef) 138, (fun i => a'.tmps.getD i undef) 139, (fun i => a'.tmps.getD i undef) 140, (fun i => a'.tmps.getD i undef) 141, (fun i => a'.tmps.getD i undef) 142, (fun i => a'.tmps.getD i undef) 143, (fun i => a'.tmps.getD i undef) 144, (fun i => a'.tmps.getD i undef) 145, (fun i => a'.tmps.getD i undef) 146, (fun i => a'.tmps.getD i undef) 147, (fun i => a'.tmps.getD i undef) 148, (fun i => a'.tmps.getD i undef) 149, (fun i => a'.tmps.getD i undef) 150, (fun i => a'.tmps.getD i undef) 151, (fun i => a'.tmps.getD i undef) 152, (fun i => a'.tmps.getD i undef) 153, (fun i => a'.tmps.getD i undef) 154, (fun i => a'.tmps.getD i undef) 155, (fun i => a'.tmps.getD i undef) 156, (fun i => a'.tmps.getD i undef) 157, (fun i => a'.tmps.getD i undef) 158, (fun i => a'.tmps.getD i undef) 159, (fun i => a'.tmps.getD i undef) 160, .bool false, undef]) (by rw [hb.size, hsz]; rfl) (by rw [hb.defers]; exact hdf) ⟨((hb.old 0 (by decide +kernel)).trans h0), ((hb.old 1 (by decide +kernel)).trans h1), rfl, ((hb.old 3 (by decide +kernel)).trans h3), ((hb.old 4 (by decide +kernel)).trans h4), ((hb.old 5 (by decide +kernel)).trans h5), rfl, rfl, rfl, rfl, rfl, rfl, rfl, rfl, rfl, rfl, ((hb.old 16 (by decide +kernel)).trans h16), ((hb.old 17 (by decide +kernel)).trans h17), ((hb.old 18 (by decide +kernel)).trans h18), ((hb.old 19 (by decide +kernel)).trans h19), ((hb.old 20 (by decide +kernel)).trans h20), ((hb.old 21 (by decide +kernel)).trans h21), ((hb.old 22 (by decide +kernel)).trans h22), rfl, rfl, rfl, rfl, rfl, rfl, rfl, rfl, rfl, rfl, rfl, rfl, rfl, rfl, rfl, rfl, rfl, rfl, rfl, rfl, rfl, rfl, rfl, rfl, rfl, rfl, rfl, rfl, rfl, rfl, rfl, rfl, rfl, rfl, rfl, rfl, rfl, rfl, rfl, rfl, rfl, rfl, rfl, rfl, rfl, rfl, rfl, rfl, rfl, rfl, rfl, rfl, rfl, rfl, rfl, rfl, rfl, rfl, rfl, rfl, rfl, rfl, rfl, rfl, rfl, rfl, rfl, rfl, rfl, rfl, rfl, rfl, rfl, rfl, rfl, rfl, rfl, rfl, rfl, rfl, rfl, rfl, rfl, rfl, rfl, rfl, rfl, rfl, rfl, rfl, rfl, rfl, rfl, rfl, rfl, rfl, rfl, rfl, rfl, rfl, rfl, rfl, rfl, rfl, rfl, rfl, rfl, rfl, rfl, rfl, rfl, rfl, rfl, rfl, rfl, rfl, rfl, rfl, rfl, rfl, rfl, rfl, rfl, rfl, rfl, rfl, rfl, rfl, rfl, rfl, rfl, rfl, rfl, rfl, rfl, rfl, rfl, rfl, e161, ((hb.old 162 (by decide +kernel)).trans h162), trivial⟩⟩
                    have HFF := hide hf.fr
                    clear hall hb hf e161 hsz hdf h0 h1 h3 h4 h5 h16 h17 h18 h19 h20 h21 h22 h162
                    subst hfr
                    apply_assumption
                    go_wp2_with fail
                    go_roundw
                    case rel => exact ⟨k + 1, g', pg, s, n, gv, r, by omega, rfl, rfl, by go_num, (unhide HTZ).kept (unhide HFF) (fun _ _ h => h), (unhide FZ).trans (unhide HFF) (fun _ _ h => h)⟩
                    case measure => simp [intOf]; omega
          · by_cases hk3 : kd = 3
            · subst hk3
              have HLO := hide (load_any w3 _ lp (unhide o6).rd)
              go_wp2_with fail
              refine (unhide HLO).mono ?_
              rintro e w4 ⟨f4, h4⟩
              have F4 := hide ((unhide F3).trans f4 (fun _ _ h => h))
              have HTW4 := hide ((unhide HTW3).kept f4 (fun _ _ h => h))
              have hsz4 : w3.heap.size ≤ w4.heap.size := f4.size
              have hsw : w.heap.size ≤ w3.heap.size := (unhide F3).size
              have c1r := ((unhide F4).cell (a := ⟨b, o + k * 2 + 1, none⟩) hbl id).trans (unhide HC1)
              have HRO := hide (rload_any w4 pv lp ((unhide HRP).kept (unhide F4) (fun _ _ h => h)) (unhide HMX))
              clear f4 HLO o6 HN6 HTW3 HTW1 c0r
              rcases h4 with ⟨hok, g', hg', rfl, hh4⟩ | ⟨hno, rfl⟩
              · have H4 := hide hh4
                have HOK := hide hok
                clear hh4 hok
                go_wp2_with fail
                refine (unhide HRO).mono ?_
                rintro e w5 ⟨f5, h5⟩
                rcases h5 with ⟨-, g2, v2, hg2, rfl, hG5, n5⟩ | ⟨hno, -⟩
                case inr => exact absurd (unhide HOK) hno
                have hl4 : g' < w4.heap.size := (unhide H4).choose_spec.1.lt
                have HTZ : Hid (Two w.heap.size w5 g' g2 (ldS lp) (ldN lp) v2 (lp.drop 40)) := hide ⟨(unhide H4).kept f5 id, hG5, by omega, by omega, fun b hb => by have := n5 b hb; exact ⟨by omega, by omega⟩⟩
                have FZ := hide ((unhide F4).trans f5 (fun _ _ h => h))
                generalize ldS lp = s5 at *
                generalize ldN lp = m5 at *
                generalize lp.drop 40 = r5 at *
                clear f5 hG5 n5 H4 HRO F4 HTW4 c1r HC1
                go_wp2_with fail
                refine (num_any w5 0).mono ?_
                rintro e w6 ⟨rfl, rfl⟩
                go_wp2_with fail
                have TZ := hide ((unhide HT).kept (unhide FZ) id id)
                have hlz := (unhide HTZ).lt
                have hrl := (unhide HTZ).h.len
                have HRL := hide hrl
                obtain ⟨D, hD⟩ : ∃ D, D = sumH s5 m5 r5 := ⟨_, rfl⟩
                have hDl : D.length = 32 := by rw [hD]; rfl
                have HD := hide hD.symm
                obtain ⟨B, hB⟩ : ∃ B, B = svB s5 m5 r5 := ⟨_, rfl⟩
                have HB := hide hB
                clear hD hB hrl
                refine wp_nameK ?_
                intro a0 hA
                have h0 : a0.tmps.getD 0 undef = Value.slice (some ⟨b, o, none⟩) ss.length cap := by rw [hA]; rfl
                have h1 : a0.tmps.getD 1 undef = undef := by rw [hA]; rfl
                have h3 : a0.tmps.getD 3 undef = Value.pointer (some ⟨g', 0, none⟩) := by rw [hA]; rfl
                have h4 : a0.tmps.getD 4 undef = Value.pointer (some ⟨g2, 0, none⟩) := by rw [hA]; rfl
                have h5 : a0.tmps.getD 5 undef = Value.int .i64 (k : Int) := by rw [hA]; rfl
                have h16 : a0.tmps.getD 16 undef = Value.slice (some ⟨b, o, none⟩) ss.length cap := by rw [hA]; rfl
                have h17 : a0.tmps.getD 17 undef = Value.bool false := by rw [hA]; rfl
                have h18 : a0.tmps.getD 18 undef = undef := by rw [hA]; rfl
                have h19 : a0.tmps.getD 19 undef = Value.pointer (some ⟨P0, 0, none⟩) := by rw [hA]; rfl
                have h20 : a0.tmps.getD 20 undef = Value.pointer (some ⟨Q0, 0, none⟩) := by rw [hA]; rfl
                have h21 : a0.tmps.getD 21 undef = Value.pointer (some ⟨P0, 0, none⟩) := by rw [hA]; rfl
                have h22 : a0.tmps.getD 22 undef = Value.bool false := by rw [hA]; rfl
                have h162 : a0.tmps.getD 162 undef = undef := by rw [hA]; rfl
                have hsz : a0.tmps.size = 163 := by rw [hA]; rfl
                have hdf : a0.defers = [] := by rw [hA]
                clear hA
                refine wp_region_freeR (R := Cg (w5.heap.size)) (fun w => Cg.drew w) (fun a b c h k => Cg.trans a b c h k) (by kernel_rfl) (by kernel_rfl) (by decide +kernel) (by rw [hsz]; decide +kernel) (Tk (w5.heap.size) [.eq (Value.pointer (some ⟨g', 0, none⟩)), .eq (Value.agg (bvs D).toArray), .eq (Value.pointer (some ⟨g2, 0, none⟩)), .eq (Value.agg (bvs D).toArray), .eq (Value.bool false), .eq (Value.bool false), .eq (Value.pointer (some ⟨g', 0, none⟩)), .eq (Value.int .u64 ((m5 : Nat) : Int)), .eq (Value.pointer (some ⟨g2, 0, none⟩)), .eq (Value.pointer (some ⟨g2, 0, none⟩)), .eq (Value.pointer (some ⟨g2, 8, none⟩)), .eq (Value.int .u64 ((m5 : Nat) : Int)), .eq (Value.bool false), .eq (Value.bool false), .eq (Value.bool false), .eq (Value.pointer (some ⟨g', 0, none⟩)), .sl B.length B, .eq (Value.string (str B)), .eq (Value.pointer (some ⟨g2, 0, none⟩)), .sl B.length B, .eq (Value.string (str B)), .eq (Value.bool false), .eq (Value.bool false)]) (Tk.mono _) ?steps ?done
                case steps =>
                  refine ⟨?_, ?_⟩
                  · intro a' w' hb hf hd
                    exact ⟨wanted_none rfl, ex_val (Value.pointer (some ⟨g', 0, none⟩)) (ex_move rfl ((hb.old 3 (by decide +kernel)).trans h3)) rfl⟩
                  refine ⟨?_, ?_⟩
                  · intro a' w' hb hf hd
                    exact ⟨wanted_none rfl, ex_call 27 _ (en_call1 rfl rfl (hd 0 (by kernel_rfl) 139 rfl) cfv27) ((sum_any w' g' _ _ _ (hf.tb (unhide TZ)) (hf.hh (unhide HTZ).h hlz.1)).mono (by rintro e w7 ⟨rfl, f⟩; exact ⟨⟨_, rfl, congrArg (fun l => Value.agg (bvs l).toArray) (unhide HD)⟩, f⟩))⟩
                  refine ⟨?_, ?_⟩
                  · intro a' w' hb hf hd
                    exact ⟨wanted_none rfl, ex_val (Value.pointer (some ⟨g2, 0, none⟩)) (ex_move rfl ((hb.old 4 (by decide +kernel)).trans h4)) rfl⟩
                  refine ⟨?_, ?_⟩
                  · intro a' w' hb hf hd
                    exact ⟨wanted_none rfl, ex_call 28 _ (en_call1 rfl rfl (hd 2 (by kernel_rfl) 141 rfl) cfv28) ((rsum_any w' g2 _ _ _ _ (hf.gat (unhide HTZ).g hlz.2) (unhide HRL)).mono (by rintro e w7 ⟨rfl, f⟩; exact ⟨⟨_, rfl, congrArg (fun l => Value.agg (bvs l).toArray) (unhide HD)⟩, f⟩))⟩
                  refine ⟨?_, ?_⟩
                  · intro a' w' hb hf hd
                    exact ⟨wanted_none rfl, ex_val (Value.bool false) (ex_neD rfl (hd 1 (by kernel_rfl) 140 rfl) (hd 3 (by kernel_rfl) 142 rfl) hDl) rfl⟩
                  refine ⟨?_, ?_⟩
                  · intro a' w' hb hf hd
                    exact ⟨wanted_none rfl, ex_val (Value.bool false) (ex_move rfl (hd 4 (by kernel_rfl) 143 rfl)) rfl⟩
                  refine ⟨?_, ?_⟩
                  · intro a' w' hb hf hd
                    exact ⟨wantedF (d := 144) rfl rfl (by rw [hb.size, hsz]; omega) (hd 5 (by kernel_rfl) 144 rfl), ex_val (Value.pointer (some ⟨g', 0, none⟩)) (ex_move rfl ((hb.old 3 (by decide +kernel)).trans h3)) rfl⟩
                  refine ⟨?_, ?_⟩
                  · intro a' w' hb hf hd
                    obtain ⟨pc, hpc, -⟩ := hf.hh (unhide HTZ).h hlz.1
                    exact ⟨wantedF (d := 144) rfl rfl (by rw [hb.size, hsz]; omega) (hd 5 (by kernel_rfl) 144 rfl), ex_call 29 _ (en_call1 rfl rfl (hd 6 (by kernel_rfl) 145 rfl) cfv29) ((len_any w' g' _ _ _ hpc).mono (by rintro e w7 ⟨rfl, rfl⟩; exact ⟨⟨_, rfl, rfl⟩, Fr.refl _ _⟩))⟩
                  refine ⟨?_, ?_⟩
                  · intro a' w' hb hf hd
                    exact ⟨wantedF (d := 144) rfl rfl (by rw [hb.size, hsz]; omega) (hd 5 (by kernel_rfl) 144 rfl), ex_val (Value.pointer (some ⟨g2, 0, none⟩)) (ex_move rfl ((hb.old 4 (by decide +kernel)).trans h4)) rfl⟩
                  refine ⟨?_, ?_⟩
                  · intro a' w' hb hf hd
                    exact ⟨wantedF (d := 144) rfl rfl (by rw [hb.size, hsz]; omega) (hd 5 (by kernel_rfl) 144 rfl), ex_val (Value.pointer (some ⟨g2, 0, none⟩)) (xk_nil rfl (hd 8 (by kernel_rfl) 147 rfl)) rfl⟩
                  refine ⟨?_, ?_⟩
                  · intro a' w' hb hf hd
                    exact ⟨wantedF (d := 144) rfl rfl (by rw [hb.size, hsz]; omega) (hd 5 (by kernel_rfl) 144 rfl), ex_val (Value.pointer (some ⟨g2, 8, none⟩)) (xk_f1 rfl (hd 9 (by kernel_rfl) 148 rfl)) rfl⟩
                  refine ⟨?_, ?_⟩
                  · intro a' w' hb hf hd
                    exact ⟨wantedF (d := 144) rfl rfl (by rw [hb.size, hsz]; omega) (hd 5 (by kernel_rfl) 144 rfl), ex_val (Value.int .u64 ((m5 : Nat) : Int)) (xk_l48 rfl (hd 10 (by kernel_rfl) 149 rfl) (hf.gat (unhide HTZ).g hlz.2).num) rfl⟩
                  refine ⟨?_, ?_⟩
                  · intro a' w' hb hf hd
                    exact ⟨wantedF (d := 144) rfl rfl (by rw [hb.size, hsz]; omega) (hd 5 (by kernel_rfl) 144 rfl), ex_val (Value.bool false) (ex_neJ Tryd.u48h rfl (hd 7 (by kernel_rfl) 146 rfl) (hd 11 (by kernel_rfl) 150 rfl)) rfl⟩
                  refine ⟨?_, ?_⟩
                  · intro a' w' hb hf hd
                    exact ⟨wanted_none rfl, ex_val (Value.bool false) (ex_pickN rfl (hd 5 (by kernel_rfl) 144 rfl) (hd 12 (by kernel_rfl) 151 rfl)) rfl⟩
                  refine ⟨?_, ?_⟩
                  · intro a' w' hb hf hd
                    exact ⟨wanted_none rfl, ex_val (Value.bool false) (ex_move rfl (hd 13 (by kernel_rfl) 152 rfl)) rfl⟩
                  refine ⟨?_, ?_⟩
                  · intro a' w' hb hf hd
                    exact ⟨wantedF (d := 153) rfl rfl (by rw [hb.size, hsz]; omega) (hd 14 (by kernel_rfl) 153 rfl), ex_val (Value.pointer (some ⟨g', 0, none⟩)) (ex_move rfl ((hb.old 3 (by decide +kernel)).trans h3)) rfl⟩
                  refine ⟨?_, ?_⟩
                  · intro a' w' hb hf hd
                    exact ⟨wantedF (d := 153) rfl rfl (by rw [hb.size, hsz]; omega) (hd 14 (by kernel_rfl) 153 rfl), ex_call 22 _ (en_call1 rfl rfl (hd 15 (by kernel_rfl) 154 rfl) cfv22) ((save_any w' g' _ _ _ (hf.hh (unhide HTZ).h hlz.1)).mono (by rintro e w7 ⟨v7, rfl, o7, f7, -⟩; rw [← unhide HB] at o7; obtain ⟨ao7, cap7, rfl⟩ := o7.shape; exact ⟨⟨_, rfl, ⟨ao7, cap7, rfl, o7.rd⟩⟩, f7⟩))⟩
                  refine ⟨?_, ?_⟩
                  · intro a' w' hb hf hd
                    obtain ⟨ao7, cap7, e7, r7⟩ := (hd 16 (by kernel_rfl) 155 rfl)
                    exact ⟨wantedF (d := 153) rfl rfl (by rw [hb.size, hsz]; omega) (hd 14 (by kernel_rfl) 153 rfl), ex_val (Value.string (str B)) (ex_conv rfl e7 (conv_rd r7 22 9 5 Tryd.underlying22 Tryd.underlying5 Tryd.u9)) rfl⟩
                  refine ⟨?_, ?_⟩
                  · intro a' w' hb hf hd
                    exact ⟨wantedF (d := 153) rfl rfl (by rw [hb.size, hsz]; omega) (hd 14 (by kernel_rfl) 153 rfl), ex_val (Value.pointer (some ⟨g2, 0, none⟩)) (ex_move rfl ((hb.old 4 (by decide +kernel)).trans h4)) rfl⟩
                  refine ⟨?_, ?_⟩
                  · intro a' w' hb hf hd
                    exact ⟨wantedF (d := 153) rfl rfl (by rw [hb.size, hsz]; omega) (hd 14 (by kernel_rfl) 153 rfl), ex_call 23 _ (en_call1 rfl rfl (hd 18 (by kernel_rfl) 157 rfl) cfv23) ((rsave_any w' g2 _ _ _ _ (hf.gat (unhide HTZ).g hlz.2)).mono (by rintro e w7 ⟨⟨v7, rfl, o7, -⟩, f7⟩; rw [← unhide HB] at o7; obtain ⟨ao7, cap7, rfl⟩ := o7.shape; exact ⟨⟨_, rfl, ⟨ao7, cap7, rfl, o7.rd⟩⟩, f7⟩))⟩
                  refine ⟨?_, ?_⟩
                  · intro a' w' hb hf hd
                    obtain ⟨ao7, cap7, e7, r7⟩ := (hd 19 (by kernel_rfl) 158 rfl)
                    exact ⟨wantedF (d := 153) rfl rfl (by rw [hb.size, hsz]; omega) (hd 14 (by kernel_rfl) 153 rfl), ex_val (Value.string (str B)) (ex_conv rfl e7 (conv_rd r7 22 9 5 Tryd.underlying22 Tryd.underlying5 Tryd.u9)) rfl⟩
                  refine ⟨?_, ?_⟩
                  · intro a' w' hb hf hd
                    exact ⟨wantedF (d := 153) rfl rfl (by rw [hb.size, hsz]; omega) (hd 14 (by kernel_rfl) 153 rfl), ex_val (Value.bool false) (ex_neS rfl (hd 17 (by kernel_rfl) 156 rfl) (hd 20 (by kernel_rfl) 159 rfl)) rfl⟩
                  refine ⟨?_, ?_⟩
                  · intro a' w' hb hf hd
                    exact ⟨wanted_none rfl, ex_val (Value.bool false) (ex_pickN rfl (hd 14 (by kernel_rfl) 153 rfl) (hd 21 (by kernel_rfl) 160 rfl)) rfl⟩
                  exact trivial
                case done =>
                  intro a' w' hb hf hall
                  have e161 : a'.tmps.getD 161 undef = .bool false := hall 22 (by decide) 161 rfl
                  obtain ⟨f, hfr⟩ : ∃ f : Nat → Value, a' = { tmps := #[Value.slice (some ⟨b, o, none⟩) ss.length cap, undef, f 2, Value.pointer (some ⟨g', 0, none⟩), Value.pointer (some ⟨g2, 0, none⟩), Value.int .i64 (k : Int), f 6, f 7, f 8, f 9, f 10, f 11, f 12, f 13, f 14, f 15, Value.slice (some ⟨b, o, none⟩) ss.length cap, Value.bool false, undef, Value.pointer (some ⟨P0, 0, none⟩), Value.pointer (some ⟨Q0, 0, none⟩), Value.pointer (some ⟨P0, 0, none⟩), Value.bool false, f 23, f 24, f 25, f 26, f 27, f 28, f 29, f 30, f 31, f 32, f 33, f 34, f 35, f 36, f 37, f 38, f 39, f 40, f 41, f 42, f 43, f 44, f 45, f 46, f 47, f 48, f 49, f 50, f 51, f 52, f 53, f 54, f 55, f 56, f 57, f 58, f 59, f 60, f 61, f 62, f 63, f 64, f 65, f 66, f 67, f 68, f 69, f 70, f 71, f 72, f 73, f 74, f 75, f 76, f 77, f 78, f 79, f 80, f 81, f 82, f 83, f 84, f 85, f 86, f 87, f 88, f 89, f 90, f 91, f 92, f 93, f 94, f 95, f 96, f 97, f 98, f 99, f 100, f 101, f 102, f 103, f 104, f 105, f 106, f 107, f 108, f 109, f 110, f 111, f 112, f 113, f 114, f 115, f 116, f 117, f 118, f 119, f 120, f 121, f 122, f 123, f 124, f 125, f 126, f 127, f 128, f 129, f 130, f 131, f 132, f 133, f 134, f 135, f 136, f 137, f 138, f 139, f 140, f 141, f 142, f 143, f 144, f 145, f 146, f 147, f 148, f 149, f 150, f 151, f 152, f 153, f 154, f 155, f 156, f 157, f 158, f 159, f 160, .bool false, undef], defers := [] } :=
                    ⟨fun i => a'.tmps.getD i undef, frame_eq (vs := [Value.slice (some ⟨b, o, none⟩) ss.length cap, undef, (fun i => a'.tmps.getD i undef) 2, Value.pointer (some ⟨g', 0, none⟩), Value.pointer (some ⟨g2, 0, none⟩), Value.int .i64 (k : Int), (fun i => a'.tmps.getD i undef) 6, (fun i => a'.tmps.getD i undef) 7, (fun i => a'.tmps.getD i undef) 8, (fun i => a'.tmps.getD i undef) 9, (fun i => a'.tmps.getD i undef) 10, (fun i => a'.tmps.getD i undef) 11, (fun i => a'.tmps.getD i undef) 12, (fun i => a'.tmps.getD i undef) 13, (fun i => a'.tmps.getD i undef) 14, (fun i => a'.tmps.getD i undef) 15, Value.slice (some ⟨b, o, none⟩) ss.length cap, Value.bool false, undef, Value.pointer (some ⟨P0, 0, none⟩), Value.pointer (some ⟨Q0, 0, none⟩), Value.pointer (some ⟨P0, 0, none⟩), Value.bool false, (fun i => a'.tmps.getD i undef) 23, (fun i => a'.tmps.getD i undef) 24, (fun i => a'.tmps.getD i undef) 25, (fun i => a'.tmps.getD i undef) 26, (fun i => a'.tmps.getD i undef) 27, (fun i => a'.tmps.getD i undef) 28, (fun i => a'.tmps.getD i undef) 29, (fun i => a'.tmps.getD i undef) 30, (fun i => a'.tmps.getD i undef) 31, (fun i => a'.tmps.getD i undef) 32, (fun i => a'.tmps.getD i undef) 33, (fun i => a'.tmps.getD i undef) 34, (fun i => a'.tmps.getD i undef) 35, (fun i => a'.tmps.getD i undef) 36, (fun i => a'.tmps.getD i undef) 37, (fun i => a'.tmps.getD i undef) 38, (fun i => a'.tmps.getD i undef) 39, (fun i => a'.tmps.getD i undef) 40, (fun i => a'.tmps.getD i undef) 41, (fun i => a'.tmps.getD i undef) 42, (fun i => a'.tmps.getD i undef) 43, (fun i => a'.tmps.getD i undef) 44, (fun i => a'.tmps.getD i undef) 45, (fun i => a'.tmps.getD i undef) 46, (fun i => a'.tmps.getD i undef) 47, (fun i => a'.tmps.getD i undef) 48, (fun i => a'.tmps.getD i undef) 49, (fun i => a'.tmps.getD i undef) 50, (fun i => a'.tmps.getD i undef) 51, (fun i => a'.tmps.getD i undef) 52, (fun i => a'.tmps.getD i undef) 53, (fun i => a'.tmps.getD i undef) 54, (fun i => a'.tmps.getD i undef) 55, (fun i => a'.tmps.getD i undef) 56, (fun i => a'.tmps.getD i undef) 57, (fun i => a'.tmps.getD i undef) 58, (fun i => a'.tmps.getD i undef) 59, (fun i => a'.tmps.getD i undef) 60, (fun i => a'.tmps.getD i undef) 61, (fun i => a'.tmps.getD i undef) 62, (fun i => a'.tmps.getD i undef) 63, (fun i => a'.tmps.getD i undef) 64, (fun i => a'.tmps.getD i undef) 65, (fun i => a'.tmps.getD i undef) 66, (fun i => a'.tmps.getD i undef) 67, (fun i => a'.tmps.getD i undef) 68, (fun i => a'.tmps.getD i undef) 69, (fun i => a'.tmps.getD i undef) 70, (fun i => a'.tmps.getD i undef) 71, (fun i => a'.tmps.getD i undef) 72, (fun i => a'.tmps.getD i undef) 73, (fun i => a'.tmps.getD i undef) 74, (fun i => a'.tmps.getD i undef) 75, (fun i => a'.tmps.getD i undef) 76, (fun i => a'.tmps.getD i undef) 77, (fun i => a'.tmps.getD i undef) 78, (fun i => a'.tmps.getD i undef) 79, (fun i => a'.tmps.getD i undef) 80, (fun i => a'.tmps.getD i undef) 81, (fun i => a'.tmps.getD i undef) 82, (fun i => a'.tmps.getD i undef) 83, (fun i => a'.tmps.getD i undef) 84, (fun i => a'.tmps.getD i undef) 85, (fun i => a'.tmps.getD i undef) 86, (fun i => a'.tmps.getD i undef) 87, (fun i => a'.tmps.getD i undef) 88, (fun i => a'.tmps.getD i undef) 89, (fun i => a'.tmps.getD i undef) 90, (fun i => a'.tmps.getD i undef) 91, (fun i => a'.tmps.getD i undef) 92, (fun i => a'.tmps.getD i undef) 93, (fun i => a'.tmps.getD i undef) 94, (fun i => a'.tmps.getD i undef) 95, (fun i => a'.tmps.getD i undef) 96, (fun i => a'.tmps.getD i undef) 97, (fun i => a'.tmps.getD i undef) 98, (fun i => a'.tmps.getD i undef) 99, (fun i => a'.tmps.getD i undef) 100, (fun i => a'.tmps.getD i undef) 101, (fun i => a'.tmps.getD i undef) 102, (fun i => a'.tmps.getD i undef) 103, (fun i => a'.tmps.getD i undef) 104, (fun i => a'.tmps.getD i undef) 105, (fun i => a'.tmps.getD i undef) 106, (fun i => a'.tmps.getD i undef) 107, (fun i => a'.tmps.getD i undef) 108, (fun i => a'.tmps.getD i undef) 109, (fun i => a'.tmps.getD i undef) 110, (fun i => a'.tmps.getD i undef) 111, (fun i => a'.tmps.getD i undef) 112, (fun i => a'.tmps.getD i undef) 113, (fun i => a'.tmps.getD i undef) 114, (fun i => a'.tmps.getD i undef) 115, (fun i => a'.tmps.getD i undef) 116, (fun i => a'.tmps.getD i undef) 117, (fun i => a'.tmps.getD i undef) 118, (fun i => a'.tmps.getD i undef) 119, (fun i => a'.tmps.getD i undef) 120, (fun i => a'.tmps.getD i undef) 121, (fun i => a'.tmps.getD i undef) 122, (fun i => a'.tmps.getD i undef) 123, (fun i => a'.tmps.getD i undef) 124, (fun i => a'.tmps.getD i undef) 125, (fun i => a'.tmps.getD i undef) 126, (fun i => a'.tmps.getD i undef) 127, (fun i => a'.tmps.getD i undef) 128, (fun i => a'.tmps.getD i undef) 129, (fun i => a'.tmps.getD i undef) 130, (fun i => a'.tmps.getD i undef) 131, (fun i => a'.tmps.getD i undef) 132, (fun i => a'.tmps.getD i undef) 133, (fun i => a'.tmps.getD i undef) 134, (fun i => a'.tmps.getD i undef) 135, (fun i => a'.tmps.getD i undef) 136, (fun i => a'.tmps.getD i undef) 137, (fun i => a'.tmps.getD i undef) 138, (fun i => a'.tmps.getD i undef) 139, (fun i => a'.tmps.getD i undef) 140, (fun i => a'.tmps.getD i undef) 141, (fun i => a'.tmps.getD i undef) 142, (fun i => a'.tmps.getD i undef) 143, (fun i => a'.tmps.getD i undef) 144, (fun i => a'.tmps.getD i undef) 145, (fun i => a'.tmps.getD i undef) 146, (fun i => a'.tmps.getD i undef) 147, (fun i => a'.tmps.getD i undef) 148, (fun i => a'.tmps.getD i undef) 149, (fun i => a'.tmps.getD i undef) 150, (fun i => a'.tmps.getD i undef) 151, (fun i => a'.tmps.getD i undef) 152, (fun i => a'.tmps.getD i undef) 153, (fun i => a'.tmps.getD i undef) 154, (fun i => a'.tmps.getD i undef) 155, (fun i => a'.tmps.getD i undef) 156, (fun i => a'.tmps.getD i undef) 157, (fun i => a'.tmps.getD i undef) 158, (fun i => a'.tmps.getD i undef) 159, (fun i => a'.tmps.getD i undef) 160, .bool false, undef]) (by rw [hb.size, hsz]; rfl) (by rw [hb.defers]; exact hdf) ⟨((hb.old 0 (by decide +kernel)).trans h0), ((hb.old 1 (by decide +kernel)).trans h1), rfl, ((hb.old 3 (by decide +kernel)).trans h3), ((hb.old 4 (by decide +kernel)).trans h4), ((hb.old 5 (by decide +kernel)).trans h5), rfl, rfl, rfl, rfl, rfl, rfl, rfl, rfl, rfl, rfl, ((hb.old 16 (by decide +kernel)).trans h16), ((hb.old 17 (by decide +kernel)).trans h17), ((hb.old 18 (by decide +kernel)).trans h18), ((hb.old 19 (by decide +kernel)).trans h19), ((hb.old 20 (by decide +kernel)).trans h20), ((hb.old 21 (by decide +kernel)).trans h21), ((hb.old 22 (by decide +kernel)).trans h22), rfl, rfl, rfl, rfl, rfl, rfl, rfl, rfl, rfl, rfl, rfl, rfl, rfl, rfl, rfl, rfl, rfl, rfl, rfl, rfl, rfl, rfl, rfl, rfl, rfl, rfl, rfl, rfl, rfl, rfl, rfl, rfl, rfl, rfl, rfl, rfl, rfl, rfl, rfl, rfl, rfl, rfl, rfl, rfl, rfl, rfl, rfl, rfl, rfl, rfl, rfl, rfl, rfl, rfl, rfl, rfl, rfl, rfl, rfl, rfl, rfl, rfl, rfl, rfl, rfl, rfl, rfl, rfl, rfl, rfl, rfl, rfl, rfl, rfl, rfl, rfl, rfl, rfl, rfl, rfl, rfl, rfl, rfl, rfl, rfl, rfl, rfl, rfl, rfl, rfl, rfl, rfl, rfl, rfl, rfl, rfl, rfl, rfl, rfl, rfl, rfl, rfl, rfl, rfl, rfl, rfl, rfl, rfl, rfl, rfl, rfl, rfl, rfl, rfl, rfl, rfl, rfl, rfl, rfl, rfl, rfl, rfl, rfl, rfl, rfl, rfl, rfl, rfl, rfl, rfl, rfl, rfl, rfl, rfl, rfl, rfl, rfl, rfl, e161, ((hb.old 162 (by decide +kernel)).trans h162), trivial⟩⟩
                  have HFF := hide hf.fr
                  clear hall hb hf e161 hsz hdf h0 h1 h3 h4 h5 h16 h17 h18 h19 h20 h21 h22 h162
                  subst hfr
                  apply_assumption
                  go_wp2_with fail
                  go_roundw
                  case rel => exact ⟨k + 1, g', g2, s5, m5, v2, r5, by omega, rfl, rfl, by go_num, (unhide HTZ).kept (unhide HFF) (fun _ _ h => h), (unhide FZ).trans (unhide HFF) (fun _ _ h => h)⟩
                  case measure => simp [intOf]; omega
              · have HNO := hide hno
                clear hno
                go_wp2_with fail
                refine (unhide HRO).mono ?_
                rintro e w5 ⟨f5, h5⟩
                rcases h5 with ⟨hok, -⟩ | ⟨-, rfl⟩
                case inl => exact absurd hok (unhide HNO)
                have HTZ := hide ((unhide HTW4).kept f5 (fun _ _ h => h))
                have FZ := hide ((unhide F4).trans f5 (fun _ _ h => h))
                clear f5 HRO F4 HTW4 c1r HC1
                go_wp2_with fail
                refine (num_any w5 51).mono ?_
                rintro e w6 ⟨rfl, rfl⟩
                go_wp2_with fail
                have TZ := hide ((unhide HT).kept (unhide FZ) id id)
                have hlz := (unhide HTZ).lt
                have hrl := (unhide HTZ).h.len
                have HRL := hide hrl
                obtain ⟨D, hD⟩ : ∃ D, D = sumH s n r := ⟨_, rfl⟩
                have hDl : D.length = 32 := by rw [hD]; rfl
                have HD := hide hD.symm
                obtain ⟨B, hB⟩ : ∃ B, B = svB s n r := ⟨_, rfl⟩
                have HB := hide hB
                clear hD hB hrl
                refine wp_nameK ?_
                intro a0 hA
                have h0 : a0.tmps.getD 0 undef = Value.slice (some ⟨b, o, none⟩) ss.length cap := by rw [hA]; rfl
                have h1 : a0.tmps.getD 1 undef = undef := by rw [hA]; rfl
                have h3 : a0.tmps.getD 3 undef = Value.pointer (some ⟨ph, 0, none⟩) := by rw [hA]; rfl
                have h4 : a0.tmps.getD 4 undef = Value.pointer (some ⟨pg, 0, none⟩) := by rw [hA]; rfl
                have h5 : a0.tmps.getD 5 undef = Value.int .i64 (k : Int) := by rw [hA]; rfl
                have h16 : a0.tmps.getD 16 undef = Value.slice (some ⟨b, o, none⟩) ss.length cap := by rw [hA]; rfl
                have h17 : a0.tmps.getD 17 undef = Value.bool false := by rw [hA]; rfl
                have h18 : a0.tmps.getD 18 undef = undef := by rw [hA]; rfl
                have h19 : a0.tmps.getD 19 undef = Value.pointer (some ⟨P0, 0, none⟩) := by rw [hA]; rfl
                have h20 : a0.tmps.getD 20 undef = Value.pointer (some ⟨Q0, 0, none⟩) := by rw [hA]; rfl
                have h21 : a0.tmps.getD 21 undef = Value.pointer (some ⟨P0, 0, none⟩) := by rw [hA]; rfl
                have h22 : a0.tmps.getD 22 undef = Value.bool false := by rw [hA]; rfl
                have h162 : a0.tmps.getD 162 undef = undef := by rw [hA]; rfl
                have hsz : a0.tmps.size = 163 := by rw [hA]; rfl
                have hdf : a0.defers = [] := by rw [hA]
                clear hA
                refine wp_region_freeR (R := Cg (w5.heap.size)) (fun w => Cg.drew w) (fun a b c h k => Cg.trans a b c h k) (by kernel_rfl) (by kernel_rfl) (by decide +kernel) (by rw [hsz]; decide +kernel) (Tk (w5.heap.size) [.eq (Value.pointer (some ⟨ph, 0, none⟩)), .eq (Value.agg (bvs D).toArray), .eq (Value.pointer (some ⟨pg, 0, none⟩)), .eq (Value.agg (bvs D).toArray), .eq (Value.bool false), .eq (Value.bool false), .eq (Value.pointer (some ⟨ph, 0, none⟩)), .eq (Value.int .u64 ((n : Nat) : Int)), .eq (Value.pointer (some ⟨pg, 0, none⟩)), .eq (Value.pointer (some ⟨pg, 0, none⟩)), .eq (Value.pointer (some ⟨pg, 8, none⟩)), .eq (Value.int .u64 ((n : Nat) : Int)), .eq (Value.bool false), .eq (Value.bool false), .eq (Value.bool false), .eq (Value.pointer (some ⟨ph, 0, none⟩)), .sl B.length B, .eq (Value.string (str B)), .eq (Value.pointer (some ⟨pg, 0, none⟩)), .sl B.length B, .eq (Value.string (str B)), .eq (Value.bool false), .eq (Value.bool false)]) (Tk.mono _) ?steps ?done
                case steps =>
                  refine ⟨?_, ?_⟩
                  · intro a' w' hb hf hd
                    exact ⟨wanted_none rfl, ex_val (Value.pointer (some ⟨ph, 0, none⟩)) (ex_move rfl ((hb.old 3 (by decide +kernel)).trans h3)) rfl⟩
                  refine ⟨?_, ?_⟩
                  · intro a' w' hb hf hd
                    exact ⟨wanted_none rfl, ex_call 27 _ (en_call1 rfl rfl (hd 0 (by kernel_rfl) 139 rfl) cfv27) ((sum_any w' ph _ _ _ (hf.tb (unhide TZ)) (hf.hh (unhide HTZ).h hlz.1)).mono (by rintro e w7 ⟨rfl, f⟩; exact ⟨⟨_, rfl, congrArg (fun l => Value.agg (bvs l).toArray) (unhide HD)⟩, f⟩))⟩
                  refine ⟨?_, ?_⟩
                  · intro a' w' hb hf hd
                    exact ⟨wanted_none rfl, ex_val (Value.pointer (some ⟨pg, 0, none⟩)) (ex_move rfl ((hb.old 4 (by decide +kernel)).trans h4)) rfl⟩
                  refine ⟨?_, ?_⟩
                  · intro a' w' hb hf hd
                    exact ⟨wanted_none rfl, ex_call 28 _ (en_call1 rfl rfl (hd 2 (by kernel_rfl) 141 rfl) cfv28) ((rsum_any w' pg _ _ _ _ (hf.gat (unhide HTZ).g hlz.2) (unhide HRL)).mono (by rintro e w7 ⟨rfl, f⟩; exact ⟨⟨_, rfl, congrArg (fun l => Value.agg (bvs l).toArray) (unhide HD)⟩, f⟩))⟩
                  refine ⟨?_, ?_⟩
                  · intro a' w' hb hf hd
                    exact ⟨wanted_none rfl, ex_val (Value.bool false) (ex_neD rfl (hd 1 (by kernel_rfl) 140 rfl) (hd 3 (by kernel_rfl) 142 rfl) hDl) rfl⟩
                  refine ⟨?_, ?_⟩
                  · intro a' w' hb hf hd
                    exact ⟨wanted_none rfl, ex_val (Value.bool false) (ex_move rfl (hd 4 (by kernel_rfl) 143 rfl)) rfl⟩
                  refine ⟨?_, ?_⟩
                  · intro a' w' hb hf hd
                    exact ⟨wantedF (d := 144) rfl rfl (by rw [hb.size, hsz]; omega) (hd 5 (by kernel_rfl) 144 rfl), ex_val (Value.pointer (some ⟨ph, 0, none⟩)) (ex_move rfl ((hb.old 3 (by decide +kernel)).trans h3)) rfl⟩
                  refine ⟨?_, ?_⟩
                  · intro a' w' hb hf hd
                    obtain ⟨pc, hpc, -⟩ := hf.hh (unhide HTZ).h hlz.1
                    exact ⟨wantedF (d := 144) rfl rfl (by rw [hb.size, hsz]; omega) (hd 5 (by kernel_rfl) 144 rfl), ex_call 29 _ (en_call1 rfl rfl (hd 6 (by kernel_rfl) 145 rfl) cfv29) ((len_any w' ph _ _ _ hpc).mono (by rintro e w7 ⟨rfl, rfl⟩; exact ⟨⟨_, rfl, rfl⟩, Fr.refl _ _⟩))⟩
                  refine ⟨?_, ?_⟩
                  · intro a' w' hb hf hd
                    exact ⟨wantedF (d := 144) rfl rfl (by rw [hb.size, hsz]; omega) (hd 5 (by kernel_rfl) 144 rfl), ex_val (Value.pointer (some ⟨pg, 0, none⟩)) (ex_move rfl ((hb.old 4 (by decide +kernel)).trans h4)) rfl⟩
                  refine ⟨?_, ?_⟩
                  · intro a' w' hb hf hd
                    exact ⟨wantedF (d := 144) rfl rfl (by rw [hb.size, hsz]; omega) (hd 5 (by kernel_rfl) 144 rfl), ex_val (Value.pointer (some ⟨pg, 0, none⟩)) (xk_nil rfl (hd 8 (by kernel_rfl) 147 rfl)) rfl⟩
                  refine ⟨?_, ?_⟩
                  · intro a' w' hb hf hd
                    exact ⟨wantedF (d := 144) rfl rfl (by rw [hb.size, hsz]; omega) (hd 5 (by kernel_rfl) 144 rfl), ex_val (Value.pointer (some ⟨pg, 8, none⟩)) (xk_f1 rfl (hd 9 (by kernel_rfl) 148 rfl)) rfl⟩
                  refine ⟨?_, ?_⟩
                  · intro a' w' hb hf hd
                    exact ⟨wantedF (d := 144) rfl rfl (by rw [hb.size, hsz]; omega) (hd 5 (by kernel_rfl) 144 rfl), ex_val (Value.int .u64 ((n : Nat) : Int)) (xk_l48 rfl (hd 10 (by kernel_rfl) 149 rfl) (hf.gat (unhide HTZ).g hlz.2).num) rfl⟩
                  refine ⟨?_, ?_⟩
                  · intro a' w' hb hf hd
                    exact ⟨wantedF (d := 144) rfl rfl (by rw [hb.size, hsz]; omega) (hd 5 (by kernel_rfl) 144 rfl), ex_val (Value.bool false) (ex_neJ Tryd.u48h rfl (hd 7 (by kernel_rfl) 146 rfl) (hd 11 (by kernel_rfl) 150 rfl)) rfl⟩
                  refine ⟨?_, ?_⟩
                  · intro a' w' hb hf hd
                    exact ⟨wanted_none rfl, ex_val (Value.bool false) (ex_pickN rfl (hd 5 (by kernel_rfl) 144 rfl) (hd 12 (by kernel_rfl) 151 rfl)) rfl⟩
                  refine ⟨?_, ?_⟩
                  · intro a' w' hb hf hd
                    exact ⟨wanted_none rfl, ex_val (Value.bool false) (ex_move rfl (hd 13 (by kernel_rfl) 152 rfl)) rfl⟩
                  refine ⟨?_, ?_⟩
                  · intro a' w' hb hf hd
                    exact ⟨wantedF (d := 153) rfl rfl (by rw [hb.size, hsz]; omega) (hd 14 (by kernel_rfl) 153 rfl), ex_val (Value.pointer (some ⟨ph, 0, none⟩)) (ex_move rfl ((hb.old 3 (by decide +kernel)).trans h3)) rfl⟩
                  refine ⟨?_, ?_⟩
                  · intro a' w' hb hf hd
                    exact ⟨wantedF (d := 153) rfl rfl (by rw [hb.size, hsz]; omega) (hd 14 (by kernel_rfl) 153 rfl), ex_call 22 _ (en_call1 rfl rfl (hd 15 (by kernel_rfl) 154 rfl) cfv22) ((save_any w' ph _ _ _ (hf.hh (unhide HTZ).h hlz.1)).mono (by rintro e w7 ⟨v7, rfl, o7, f7, -⟩; rw [← unhide HB] at o7; obtain ⟨ao7, cap7, rfl⟩ := o7.shape; exact ⟨⟨_, rfl, ⟨ao7, cap7, rfl, o7.rd⟩⟩, f7⟩))⟩
                  refine ⟨?_, ?_⟩
                  · intro a' w' hb hf hd
                    obtain ⟨ao7, cap7, e7, r7⟩ := (hd 16 (by kernel_rfl) 155 rfl)
                    exact ⟨wantedF (d := 153) rfl rfl (by rw [hb.size, hsz]; omega) (hd 14 (by kernel_rfl) 153 rfl), ex_val (Value.string (str B)) (ex_conv rfl e7 (conv_rd r7 22 9 5 Tryd.underlying22 Tryd.underlying5 Tryd.u9)) rfl⟩
                  refine ⟨?_, ?_⟩
                  · intro a' w' hb hf hd
                    exact ⟨wantedF (d := 153) rfl rfl (by rw [hb.size, hsz]; omega) (hd 14 (by kernel_rfl) 153 rfl), ex_val (Value.pointer (some ⟨pg, 0, none⟩)) (ex_move rfl ((hb.old 4 (by decide +kernel)).trans h4)) rfl⟩
                  refine ⟨?_, ?_⟩
                  · intro a' w' hb hf hd
                    exact ⟨wantedF (d := 153) rfl rfl (by rw [hb.size, hsz]; omega) (hd 14 (by kernel_rfl) 153 rfl), ex_call 23 _ (en_call1 rfl rfl (hd 18 (by kernel_rfl) 157 rfl) cfv23) ((rsave_any w' pg _ _ _ _ (hf.gat (unhide HTZ).g hlz.2)).mono (by rintro e w7 ⟨⟨v7, rfl, o7, -⟩, f7⟩; rw [← unhide HB] at o7; obtain ⟨ao7, cap7, rfl⟩ := o7.shape; exact ⟨⟨_, rfl, ⟨ao7, cap7, rfl, o7.rd⟩⟩, f7⟩))⟩
                  refine ⟨?_, ?_⟩
                  · intro a' w' hb hf hd
                    obtain ⟨ao7, cap7, e7, r7⟩ := (hd 19 (by kernel_rfl) 158 rfl)
                    exact ⟨wantedF (d := 153) rfl rfl (by rw [hb.size, hsz]; omega) (hd 14 (by kernel_rfl) 153 rfl), ex_val (Value.string (str B)) (ex_conv rfl e7 (conv_rd r7 22 9 5 Tryd.underlying22 Tryd.underlying5 Tryd.u9)) rfl⟩
                  refine ⟨?_, ?_⟩
                  · intro a' w' hb hf hd
                    exact ⟨wantedF (d := 153) rfl rfl (by rw [hb.size, hsz]; omega) (hd 14 (by kernel_rfl) 153 rfl), ex_val (Value.bool false) (ex_neS rfl (hd 17 (by kernel_rfl) 156 rfl) (hd 20 (by kernel_rfl) 159 rfl)) rfl⟩
                  refine ⟨?_, ?_⟩
                  · intro a' w' hb hf hd
                    exact ⟨wanted_none rfl, ex_val (Value.bool false) (ex_pickN rfl (hd 14 (by kernel_rfl) 153 rfl) (hd 21 (by kernel_rfl) 160 rfl)) rfl⟩
                  exact trivial
                case done =>
                  intro a' w' hb hf hall
                  have e161 : a'.tmps.getD 161 undef = .bool false := hall 22 (by decide) 161 rfl
                  obtain ⟨f, hfr⟩ : ∃ f : Nat → Value, a' = { tmps := #[Value.slice (some ⟨b, o, none⟩) ss.length cap, undef, f 2, Value.pointer (some ⟨ph, 0, none⟩), Value.pointer (some ⟨pg, 0, none⟩), Value.int .i64 (k : Int), f 6, f 7, f 8, f 9, f 10, f 11, f 12, f 13, f 14, f 15, Value.slice (some ⟨b, o, none⟩) ss.length cap, Value.bool false, undef, Value.pointer (some ⟨P0, 0, none⟩), Value.pointer (some ⟨Q0, 0, none⟩), Value.pointer (some ⟨P0, 0, none⟩), Value.bool false, f 23, f 24, f 25, f 26, f 27, f 28, f 29, f 30, f 31, f 32, f 33, f 34, f 35, f 36, f 37, f 38, f 39, f 40, f 41, f 42, f 43, f 44, f 45, f 46, f 47, f 48, f 49, f 50, f 51, f 52, f 53, f 54, f 55, f 56, f 57, f 58, f 59, f 60, f 61, f 62, f 63, f 64, f 65, f 66, f 67, f 68, f 69, f 70, f 71, f 72, f 73, f 74, f 75, f 76, f 77, f 78, f 79, f 80, f 81, f 82, f 83, f 84, f 85, f 86, f 87, f 88, f 89, f 90, f 91, f 92, f 93, f 94, f 95, f 96, f 97, f 98, f 99, f 100, f 101, f 102, f 103, f 104, f 105, f 106, f 107, f 108, f 109, f 110, f 111, f 112, f 113, f 114, f 115, f 116, f 117, f 118, f 119, f 120, f 121, f 122, f 123, f 124, f 125, f 126, f 127, f 128, f 129, f 130, f 131, f 132, f 133, f 134, f 135, f 136, f 137, f 138, f 139, f 140, f 141, f 142, f 143, f 144, f 145, f 146, f 147, f 148, f 149, f 150, f 151, f 152, f 153, f 154, f 155, f 156, f 157, f 158, f 159, f 160, .bool false, undef], defers := [] } :=
                    ⟨fun i => a'.tmps.getD i undef, frame_eq (vs := [Value.slice (some ⟨b, o, none⟩) ss.length cap, undef, (fun i => a'.tmps.getD i undef) 2, Value.pointer (some ⟨ph, 0, none⟩), Value.pointer (some ⟨pg, 0, none⟩), Value.int .i64 (k : Int), (fun i => a'.tmps.getD i undef) 6, (fun i => a'.tmps.getD i undef) 7, (fun i => a'.tmps.getD i undef) 8, (fun i => a'.tmps.getD i undef) 9, (fun i => a'.tmps.getD i undef) 10, (fun i => a'.tmps.getD i undef) 11, (fun i => a'.tmps.getD i undef) 12, (fun i => a'.tmps.getD i undef) 13, (fun i => a'.tmps.getD i undef) 14, (fun i => a'.tmps.getD i undef) 15, Value.slice (some ⟨b, o, none⟩) ss.length cap, Value.bool false, undef, Value.pointer (some ⟨P0, 0, none⟩), Value.pointer (some ⟨Q0, 0, none⟩), Value.pointer (some ⟨P0, 0, none⟩), Value.bool false, (fun i => a'.tmps.getD i undef) 23, (fun i => a'.tmps.getD i undef) 24, (fun i => a'.tmps.getD i undef) 25, (fun i => a'.tmps.getD i undef) 26, (fun i => a'.tmps.getD i undef) 27, (fun i => a'.tmps.getD i undef) 28, (fun i => a'.tmps.getD i undef) 29, (fun i => a'.tmps.getD i undef) 30, (fun i => a'.tmps.getD i undef) 31, (fun i => a'.tmps.getD i undef) 32, (fun i => a'.tmps.getD i undef) 33, (fun i => a'.tmps.getD i undef) 34, (fun i => a'.tmps.getD i undef) 35, (fun i => a'.tmps.getD i undef) 36, (fun i => a'.tmps.getD i undef) 37, (fun i => a'.tmps.getD i undef) 38, (fun i => a'.tmps.getD i undef) 39, (fun i => a'.tmps.getD i undef) 40, (fun i => a'.tmps.getD i undef) 41, (fun i => a'.tmps.getD i undef) 42, (fun i => a'.tmps.getD i undef) 43, (fun i => a'.tmps.getD i undef) 44, (fun i => a'.tmps.getD i undef) 45, (fun i => a'.tmps.getD i undef) 46, (fun i => a'.tmps.getD i undef) 47, (fun i => a'.tmps.getD i undef) 48, (fun i => a'.tmps.getD i undef) 49, (fun i => a'.tmps.getD i undef) 50, (fun i => a'.tmps.getD i undef) 51, (fun i => a'.tmps.getD i undef) 52, (fun i => a'.tmps.getD i undef) 53, (fun i => a'.tmps.getD i undef) 54, (fun i => a'.tmps.getD i undef) 55, (fun i => a'.tmps.getD i undef) 56, (fun i => a'.tmps.getD i undef) 57, (fun i => a'.tmps.getD i undef) 58, (fun i => a'.tmps.getD i undef) 59, (fun i => a'.tmps.getD i undef) 60, (fun i => a'.tmps.getD i undef) 61, (fun i => a'.tmps.getD i undef) 62, (fun i => a'.tmps.getD i undef) 63, (fun i => a'.tmps.getD i undef) 64, (fun i => a'.tmps.getD i undef) 65, (fun i => a'.tmps.getD i undef) 66, (fun i => a'.tmps.getD i undef) 67, (fun i => a'.tmps.getD i undef) 68, (fun i => a'.tmps.getD i undef) 69, (fun i => a'.tmps.getD i undef) 70, (fun i => a'.tmps.getD i undef) 71, (fun i => a'.tmps.getD i undef) 72, (fun i => a'.tmps.getD i undef) 73, (fun i => a'.tmps.getD i undef) 74, (fun i => a'.tmps.getD i undef) 75, (fun i => a'.tmps.getD i undef) 76, (fun i => a'.tmps.getD i undef) 77, (fun i => a'.tmps.getD i undef) 78, (fun i => a'.tmps.getD i undef) 79, (fun i => a'.tmps.getD i undef) 80, (fun i => a'.tmps.getD i undef) 81, (fun i => a'.tmps.getD i undef) 82, (fun i => a'.tmps.getD i undef) 83, (fun i => a'.tmps.getD i undef) 84, (fun i => a'.tmps.getD i undef) 85, (fun i => a'.tmps.getD i undef) 86, (fun i => a'.tmps.getD i undef) 87, (fun i => a'.tmps.getD i undef) 88, (fun i => a'.tmps.getD i undef) 89, (fun i => a'.tmps.getD i undef) 90, (fun i => a'.tmps.getD i undef) 91, (fun i => a'.tmps.getD i undef) 92, (fun i => a'.tmps.getD i undef) 93, (fun i => a'.tmps.getD i undef) 94, (fun i => a'.tmps.getD i undef) 95, (fun i => a'.tmps.getD i undef) 96, (fun i => a'.tmps.getD i undef) 97, (fun i => a'.tmps.getD i undef) 98, (fun i => a'.tmps.getD i undef) 99, (fun i => a'.tmps.getD i undef) 100, (fun i => a'.tmps.getD i undef) 101, (fun i => a'.tmps.getD i undef) 102, (fun i => a'.tmps.getD i undef) 103, (fun i => a'.tmps.getD i undef) 104, (fun i => a'.tmps.getD i undef) 105, (fun i => a'.tmps.getD i undef) 106, (fun i => a'.tmps.getD i undef) 107, (fun i => a'.tmps.getD i undef) 108, (fun i => a'.tmps.getD i undef) 109, (fun i => a'.tmps.getD i undef) 110, (fun i => a'.tmps.getD i undef) 111, (fun i => a'.tmps.getD i undef) 112, (fun i => a'.tmps.getD i undef) 113, (fun i => a'.tmps.getD i undef) 114, (fun i => a'.tmps.getD i undef) 115, (fun i => a'.tmps.getD i undef) 116, (fun i => a'.tmps.getD i undef) 117, (fun i => a'.tmps.getD i undef) 118, (fun i => a'.tmps.getD i undef) 119, (fun i => a'.tmps.getD i undef) 120, (fun i => a'.tmps.getD i undef) 121, (fun i => a'.tmps.getD i undef) 122, (fun i => a'.tmps.getD i undef) 123, (fun i => a'.tmps.getD i undef) 124, (fun i => a'.tmps.getD i undef) 125, (fun i => a'.tmps.getD i undef) 126, (fun i => a'.tmps.getD i undef) 127, (fun i => a'.tmps.getD i undef) 128, (fun i => a'.tmps.getD i undef) 129, (fun i => a'.tmps.getD i undef) 130, (fun i => a'.tmps.getD i undef) 131, (fun i => a'.tmps.getD i undef) 132, (fun i => a'.tmps.getD i undef) 133, (fun i => a'.tmps.getD i undef) 134, (fun i => a'.tmps.getD i undef) 135, (fun i => a'.tmps.getD i undef) 136, (fun i => a'.tmps.getD i undef) 137, (fun i => a'.tmps.getD i undef) 138, (fun i => a'.tmps.getD i undef) 139, (fun i => a'.tmps.getD i undef) 140, (fun i => a'.tmps.getD i undef) 141, (fun i => a'.tmps.getD i undef) 142, (fun i => a'.tmps.getD i undef) 143, (fun i => a'.tmps.getD i undef) 144, (fun i => a'.tmps.getD i undef) 145, (fun i => a'.tmps.getD i undef) 146, (fun i => a'.tmps.getD i undef) 147, (fun i => a'.tmps.getD i undef) 148, (fun i => a'.tmps.getD i undef) 149, (fun i => a'.tmps.getD i undef) 150, (fun i => a'.tmps.getD i undef) 151, (fun i => a'.tmps.getD i undef) 152, (fun i => a'.tmps.getD i undef) 153, (fun i => a'.tmps.getD i undef) 154, (fun i => a'.tmps.getD i undef) 155, (fun i => a'.tmps.getD i undef) 156, (fun i => a'.tmps.getD i undef) 157, (fun i => a'.tmps.getD i undef) 158, (fun i => a'.tmps.getD i undef) 159, (fun i => a'.tmps.getD i undef) 160, .bool false, undef]) (by rw [hb.size, hsz]; rfl) (by rw [hb.defers]; exact hdf) ⟨((hb.old 0 (by decide +kernel)).trans h0), ((hb.old 1 (by decide +kernel)).trans h1), rfl, ((hb.old 3 (by decide +kernel)).trans h3), ((hb.old 4 (by decide +kernel)).trans h4), ((hb.old 5 (by decide +kernel)).trans h5), rfl, rfl, rfl, rfl, rfl, rfl, rfl, rfl, rfl, rfl, ((hb.old 16 (by decide +kernel)).trans h16), ((hb.old 17 (by decide +kernel)).trans h17), ((hb.old 18 (by decide +kernel)).trans h18), ((hb.old 19 (by decide +kernel)).trans h19), ((hb.old 20 (by decide +kernel)).trans h20), ((hb.old 21 (by decide +kernel)).trans h21), ((hb.old 22 (by decide +kernel)).trans h22), rfl, rfl, rfl, rfl, rfl, rfl, rfl, rfl, rfl, rfl, rfl, rfl, rfl, rfl, rfl, rfl, rfl, rfl, rfl, rfl, rfl, rfl, rfl, rfl, rfl, rfl, rfl, rfl, rfl, rfl, rfl, rfl, rfl, rfl, rfl, rfl, rfl, rfl, rfl, rfl, rfl, rfl, rfl, rfl, rfl, rfl, rfl, rfl, rfl, rfl, rfl, rfl, rfl, rfl, rfl, rfl, rfl, rfl, rfl, rfl, rfl, rfl, rfl, rfl, rfl, rfl, rfl, rfl, rfl, rfl, rfl, rfl, rfl, rfl, rfl, rfl, rfl, rfl, rfl, rfl, rfl, rfl, rfl, rfl, rfl, rfl, rfl, rfl, rfl, rfl, rfl, rfl, rfl, rfl, rfl, rfl, rfl, rfl, rfl, rfl, rfl, rfl, rfl, rfl, rfl, rfl, rfl, rfl, rfl, rfl, rfl, rfl, rfl, rfl, rfl, rfl, rfl, rfl, rfl, rfl, rfl, rfl, rfl, rfl, rfl, rfl, rfl, rfl, rfl, rfl, rfl, rfl, rfl, rfl, rfl, rfl, rfl, rfl, e161, ((hb.old 162 (by decide +kernel)).trans h162), trivial⟩⟩
                  have HFF := hide hf.fr
                  clear hall hb hf e161 hsz hdf h0 h1 h3 h4 h5 h16 h17 h18 h19 h20 h21 h22 h162
                  subst hfr
                  apply_assumption
                  go_wp2_with fail
                  go_roundw
                  case rel => exact ⟨k + 1, ph, pg, s, n, gv, r, by omega, rfl, rfl, by go_num, (unhide HTZ).kept (unhide HFF) (fun _ _ h => h), (unhide FZ).trans (unhide HFF) (fun _ _ h => h)⟩
                  case measure => simp [intOf]; omega
            · have hk0b : (kd == 0) = false := beq_eq_false_iff_ne.2 hk0
              have hk2b : (kd == 2) = false := beq_eq_false_iff_ne.2 hk2
              have hk3b : (kd == 3) = false := beq_eq_false_iff_ne.2 hk3
              have HTZ := HTW3
              have FZ := F3
              clear o6 HN6 HTW1 HRP HMX HTW3 HLW F3
              go_wp2_with fail
              have TZ := hide ((unhide HT).kept (unhide FZ) id id)
              have hlz := (unhide HTZ).lt
              have hrl := (unhide HTZ).h.len
              have HRL := hide hrl
              obtain ⟨D, hD⟩ : ∃ D, D = sumH s n r := ⟨_, rfl⟩
              have hDl : D.length = 32 := by rw [hD]; rfl
              have HD := hide hD.symm
              obtain ⟨B, hB⟩ : ∃ B, B = svB s n r := ⟨_, rfl⟩
              have HB := hide hB
              clear hD hB hrl
              refine wp_nameK ?_
              intro a0 hA
              have h0 : a0.tmps.getD 0 undef = Value.slice (some ⟨b, o, none⟩) ss.length cap := by rw [hA]; rfl
              have h1 : a0.tmps.getD 1 undef = undef := by rw [hA]; rfl
              have h3 : a0.tmps.getD 3 undef = Value.pointer (some ⟨ph, 0, none⟩) := by rw [hA]; rfl
              have h4 : a0.tmps.getD 4 undef = Value.pointer (some ⟨pg, 0, none⟩) := by rw [hA]; rfl
              have h5 : a0.tmps.getD 5 undef = Value.int .i64 (k : Int) := by rw [hA]; rfl
              have h16 : a0.tmps.getD 16 undef = Value.slice (some ⟨b, o, none⟩) ss.length cap := by rw [hA]; rfl
              have h17 : a0.tmps.getD 17 undef = Value.bool false := by rw [hA]; rfl
              have h18 : a0.tmps.getD 18 undef = undef := by rw [hA]; rfl
              have h19 : a0.tmps.getD 19 undef = Value.pointer (some ⟨P0, 0, none⟩) := by rw [hA]; rfl
              have h20 : a0.tmps.getD 20 undef = Value.pointer (some ⟨Q0, 0, none⟩) := by rw [hA]; rfl
              have h21 : a0.tmps.getD 21 undef = Value.pointer (some ⟨P0, 0, none⟩) := by rw [hA]; rfl
              have h22 : a0.tmps.getD 22 undef = Value.bool false := by rw [hA]; rfl
              have h162 : a0.tmps.getD 162 undef = undef := by rw [hA]; rfl
              have hsz : a0.tmps.size = 163 := by rw [hA]; rfl
              have hdf : a0.defers = [] := by rw [hA]
              clear hA
              refine wp_region_freeR (R := Cg (w3.heap.size)) (fun w => Cg.drew w) (fun a b c h k => Cg.trans a b c h k) (by kernel_rfl) (by kernel_rfl) (by decide +kernel) (by rw [hsz]; decide +kernel) (Tk (w3.heap.size) [.eq (Value.pointer (some ⟨ph, 0, none⟩)), .eq (Value.agg (bvs D).toArray), .eq (Value.pointer (some ⟨pg, 0, none⟩)), .eq (Value.agg (bvs D).toArray), .eq (Value.bool false), .eq (Value.bool false), .eq (Value.pointer (some ⟨ph, 0, none⟩)), .eq (Value.int .u64 ((n : Nat) : Int)), .eq (Value.pointer (some ⟨pg, 0, none⟩)), .eq (Value.pointer (some ⟨pg, 0, none⟩)), .eq (Value.pointer (some ⟨pg, 8, none⟩)), .eq (Value.int .u64 ((n : Nat) : Int)), .eq (Value.bool false), .eq (Value.bool false), .eq (Value.bool false), .eq (Value.pointer (some ⟨ph, 0, none⟩)), .sl B.length B, .eq (Value.string (str B)), .eq (Value.pointer (some ⟨pg, 0, none⟩)), .sl B.length B, .eq (Value.string (str B)), .eq (Value.bool false), .eq (Value.bool false)]) (Tk.mono _) ?steps ?done
              case steps =>
                refine ⟨?_, ?_⟩
                · intro a' w' hb hf hd
                  exact ⟨wanted_none rfl, ex_val (Value.pointer (some ⟨ph, 0, none⟩)) (ex_move rfl ((hb.old 3 (by decide +kernel)).trans h3)) rfl⟩
                refine ⟨?_, ?_⟩
                · intro a' w' hb hf hd
                  exact ⟨wanted_none rfl, ex_call 27 _ (en_call1 rfl rfl (hd 0 (by kernel_rfl) 139 rfl) cfv27) ((sum_any w' ph _ _ _ (hf.tb (unhide TZ)) (hf.hh (unhide HTZ).h hlz.1)).mono (by rintro e w7 ⟨rfl, f⟩; exact ⟨⟨_, rfl, congrArg (fun l => Value.agg (bvs l).toArray) (unhide HD)⟩, f⟩))⟩
                refine ⟨?_, ?_⟩
                · intro a' w' hb hf hd
                  exact ⟨wanted_none rfl, ex_val (Value.pointer (some ⟨pg, 0, none⟩)) (ex_move rfl ((hb.old 4 (by decide +kernel)).trans h4)) rfl⟩
                refine ⟨?_, ?_⟩
                · intro a' w' hb hf hd
                  exact ⟨wanted_none rfl, ex_call 28 _ (en_call1 rfl rfl (hd 2 (by kernel_rfl) 141 rfl) cfv28) ((rsum_any w' pg _ _ _ _ (hf.gat (unhide HTZ).g hlz.2) (unhide HRL)).mono (by rintro e w7 ⟨rfl, f⟩; exact ⟨⟨_, rfl, congrArg (fun l => Value.agg (bvs l).toArray) (unhide HD)⟩, f⟩))⟩
                refine ⟨?_, ?_⟩
                · intro a' w' hb hf hd
                  exact ⟨wanted_none rfl, ex_val (Value.bool false) (ex_neD rfl (hd 1 (by kernel_rfl) 140 rfl) (hd 3 (by kernel_rfl) 142 rfl) hDl) rfl⟩
                refine ⟨?_, ?_⟩
                · intro a' w' hb hf hd
                  exact ⟨wanted_none rfl, ex_val (Value.bool false) (ex_move rfl (hd 4 (by kernel_rfl) 143 rfl)) rfl⟩
                refine ⟨?_, ?_⟩
                · intro a' w' hb hf hd
                  exact ⟨wantedF (d := 144) rfl rfl (by rw [hb.size, hsz]; omega) (hd 5 (by kernel_rfl) 144 rfl), ex_val (Value.pointer (some ⟨ph, 0, none⟩)) (ex_move rfl ((hb.old 3 (by decide +kernel)).trans h3)) rfl⟩
                refine ⟨?_, ?_⟩
                · intro a' w' hb hf hd
                  obtain ⟨pc, hpc, -⟩ := hf.hh (unhide HTZ).h hlz.1
                  exact ⟨wantedF (d := 144) rfl rfl (by rw [hb.size, hsz]; omega) (hd 5 (by kernel_rfl) 144 rfl), ex_call 29 _ (en_call1 rfl rfl (hd 6 (by kernel_rfl) 145 rfl) cfv29) ((len_any w' ph _ _ _ hpc).mono (by rintro e w7 ⟨rfl, rfl⟩; exact ⟨⟨_, rfl, rfl⟩, Fr.refl _ _⟩))⟩
                refine ⟨?_, ?_⟩
                · intro a' w' hb hf hd
                  exact ⟨wantedF (d := 144) rfl rfl (by rw [hb.size, hsz]; omega) (hd 5 (by kernel_rfl) 144 rfl), ex_val (Value.pointer (some ⟨pg, 0, none⟩)) (ex_move rfl ((hb.old 4 (by decide +kernel)).trans h4)) rfl⟩
                refine ⟨?_, ?_⟩
                · intro a' w' hb hf hd
                  exact ⟨wantedF (d := 144) rfl rfl (by rw [hb.size, hsz]; omega) (hd 5 (by kernel_rfl) 144 rfl), ex_val (Value.pointer (some ⟨pg, 0, none⟩)) (xk_nil rfl (hd 8 (by kernel_rfl) 147 rfl)) rfl⟩
                refine ⟨?_, ?_⟩
                · intro a' w' hb hf hd
                  exact ⟨wantedF (d := 144) rfl rfl (by rw [hb.size, hsz]; omega) (hd 5 (by kernel_rfl) 144 rfl), ex_val (Value.pointer (some ⟨pg, 8, none⟩)) (xk_f1 rfl (hd 9 (by kernel_rfl) 148 rfl)) rfl⟩
                refine ⟨?_, ?_⟩
                · intro a' w' hb hf hd
                  exact ⟨wantedF (d := 144) rfl rfl (by rw [hb.size, hsz]; omega) (hd 5 (by kernel_rfl) 144 rfl), ex_val (Value.int .u64 ((n : Nat) : Int)) (xk_l48 rfl (hd 10 (by kernel_rfl) 149 rfl) (hf.gat (unhide HTZ).g hlz.2).num) rfl⟩
                refine ⟨?_, ?_⟩
                · intro a' w' hb hf hd
                  exact ⟨wantedF (d := 144) rfl rfl (by rw [hb.size, hsz]; omega) (hd 5 (by kernel_rfl) 144 rfl), ex_val (Value.bool false) (ex_neJ Tryd.u48h rfl (hd 7 (by kernel_rfl) 146 rfl) (hd 11 (by kernel_rfl) 150 rfl)) rfl⟩
                refine ⟨?_, ?_⟩
                · intro a' w' hb hf hd
                  exact ⟨wanted_none rfl, ex_val (Value.bool false) (ex_pickN rfl (hd 5 (by kernel_rfl) 144 rfl) (hd 12 (by kernel_rfl) 151 rfl)) rfl⟩
                refine ⟨?_, ?_⟩
                · intro a' w' hb hf hd
                  exact ⟨wanted_none rfl, ex_val (Value.bool false) (ex_move rfl (hd 13 (by kernel_rfl) 152 rfl)) rfl⟩
                refine ⟨?_, ?_⟩
                · intro a' w' hb hf hd
                  exact ⟨wantedF (d := 153) rfl rfl (by rw [hb.size, hsz]; omega) (hd 14 (by kernel_rfl) 153 rfl), ex_val (Value.pointer (some ⟨ph, 0, none⟩)) (ex_move rfl ((hb.old 3 (by decide +kernel)).trans h3)) rfl⟩
                refine ⟨?_, ?_⟩
                · intro a' w' hb hf hd
                  exact ⟨wantedF (d := 153) rfl rfl (by rw [hb.size, hsz]; omega) (hd 14 (by kernel_rfl) 153 rfl), ex_call 22 _ (en_call1 rfl rfl (hd 15 (by kernel_rfl) 154 rfl) cfv22) ((save_any w' ph _ _ _ (hf.hh (unhide HTZ).h hlz.1)).mono (by rintro e w7 ⟨v7, rfl, o7, f7, -⟩; rw [← unhide HB] at o7; obtain ⟨ao7, cap7, rfl⟩ := o7.shape; exact ⟨⟨_, rfl, ⟨ao7, cap7, rfl, o7.rd⟩⟩, f7⟩))⟩
                refine ⟨?_, ?_⟩
                · intro a' w' hb hf hd
                  obtain ⟨ao7, cap7, e7, r7⟩ := (hd 16 (by kernel_rfl) 155 rfl)
                  exact ⟨wantedF (d := 153) rfl rfl (by rw [hb.size, hsz]; omega) (hd 14 (by kernel_rfl) 153 rfl), ex_val (Value.string (str B)) (ex_conv rfl e7 (conv_rd r7 22 9 5 Tryd.underlying22 Tryd.underlying5 Tryd.u9)) rfl⟩
                refine ⟨?_, ?_⟩
                · intro a' w' hb hf hd
                  exact ⟨wantedF (d := 153) rfl rfl (by rw [hb.size, hsz]; omega) (hd 14 (by kernel_rfl) 153 rfl), ex_val (Value.pointer (some ⟨pg, 0, none⟩)) (ex_move rfl ((hb.old 4 (by decide +kernel)).trans h4)) rfl⟩
                refine ⟨?_, ?_⟩
                · intro a' w' hb hf hd
                  exact ⟨wantedF (d := 153) rfl rfl (by rw [hb.size, hsz]; omega) (hd 14 (by kernel_rfl) 153 rfl), ex_call 23 _ (en_call1 rfl rfl (hd 18 (by kernel_rfl) 157 rfl) cfv23) ((rsave_any w' pg _ _ _ _ (hf.gat (unhide HTZ).g hlz.2)).mono (by rintro e w7 ⟨⟨v7, rfl, o7, -⟩, f7⟩; rw [← unhide HB] at o7; obtain ⟨ao7, cap7, rfl⟩ := o7.shape; exact ⟨⟨_, rfl, ⟨ao7, cap7, rfl, o7.rd⟩⟩, f7⟩))⟩
                refine ⟨?_, ?_⟩
                · intro a' w' hb hf hd
                  obtain ⟨ao7, cap7, e7, r7⟩ := (hd 19 (by kernel_rfl) 158 rfl)
                  exact ⟨wantedF (d := 153) rfl rfl (by rw [hb.size, hsz]; omega) (hd 14 (by kernel_rfl) 153 rfl), ex_val (Value.string (str B)) (ex_conv rfl e7 (conv_rd r7 22 9 5 Tryd.underlying22 Tryd.underlying5 Tryd.u9)) rfl⟩
                refine ⟨?_, ?_⟩
                · intro a' w' hb hf hd
                  exact ⟨wantedF (d := 153) rfl rfl (by rw [hb.size, hsz]; omega) (hd 14 (by kernel_rfl) 153 rfl), ex_val (Value.bool false) (ex_neS rfl (hd 17 (by kernel_rfl) 156 rfl) (hd 20 (by kernel_rfl) 159 rfl)) rfl⟩
                refine ⟨?_, ?_⟩
                · intro a' w' hb hf hd
                  exact ⟨wanted_none rfl, ex_val (Value.bool false) (ex_pickN rfl (hd 14 (by kernel_rfl) 153 rfl) (hd 21 (by kernel_rfl) 160 rfl)) rfl⟩
                exact trivial
              case done =>
                intro a' w' hb hf hall
                have e161 : a'.tmps.getD 161 undef = .bool false := hall 22 (by decide) 161 rfl
                obtain ⟨f, hfr⟩ : ∃ f : Nat → Value, a' = { tmps := #[Value.slice (some ⟨b, o, none⟩) ss.length cap, undef, f 2, Value.pointer (some ⟨ph, 0, none⟩), Value.pointer (some ⟨pg, 0, none⟩), Value.int .i64 (k : Int), f 6, f 7, f 8, f 9, f 10, f 11, f 12, f 13, f 14, f 15, Value.slice (some ⟨b, o, none⟩) ss.length cap, Value.bool false, undef, Value.pointer (some ⟨P0, 0, none⟩), Value.pointer (some ⟨Q0, 0, none⟩), Value.pointer (some ⟨P0, 0, none⟩), Value.bool false, f 23, f 24, f 25, f 26, f 27, f 28, f 29, f 30, f 31, f 32, f 33, f 34, f 35, f 36, f 37, f 38, f 39, f 40, f 41, f 42, f 43, f 44, f 45, f 46, f 47, f 48, f 49, f 50, f 51, f 52, f 53, f 54, f 55, f 56, f 57, f 58, f 59, f 60, f 61, f 62, f 63, f 64, f 65, f 66, f 67, f 68, f 69, f 70, f 71, f 72, f 73, f 74, f 75, f 76, f 77, f 78, f 79, f 80, f 81, f 82, f 83, f 84, f 85, f 86, f 87, f 88, f 89, f 90, f 91, f 92, f 93, f 94, f 95, f 96, f 97, f 98, f 99, f 100, f 101, f 102, f 103, f 104, f 105, f 106, f 107, f 108, f 109, f 110, f 111, f 112, f 113, f 114, f 115, f 116, f 117, f 118, f 119, f 120, f 121, f 122, f 123, f 124, f 125, f 126, f 127, f 128, f 129, f 130, f 131, f 132, f 133, f 134, f 135, f 136, f 137, f 138, f 139, f 140, f 141, f 142, f 143, f 144, f 145, f 146, f 147, f 148, f 149, f 150, f 151, f 152, f 153, f 154, f 155, f 156, f 157, f 158, f 159, f 160, .bool false, undef], defers := [] } :=
                  ⟨fun i => a'.tmps.getD i undef, frame_eq (vs := [Value.slice (some ⟨b, o, none⟩) ss.length cap, undef, (fun i => a'.tmps.getD i undef) 2, Value.pointer (some ⟨ph, 0, none⟩), Value.pointer (some ⟨pg, 0, none⟩), Value.int .i64 (k : Int), (fun i => a'.tmps.getD i undef) 6, (fun i => a'.tmps.getD i undef) 7, (fun i => a'.tmps.getD i undef) 8, (fun i => a'.tmps.getD i undef) 9, (fun i => a'.tmps.getD i undef) 10, (fun i => a'.tmps.getD i undef) 11, (fun i => a'.tmps.getD i undef) 12, (fun i => a'.tmps.getD i undef) 13, (fun i => a'.tmps.getD i undef) 14, (fun i => a'.tmps.getD i undef) 15, Value.slice (some ⟨b, o, none⟩) ss.length cap, Value.bool false, undef, Value.pointer (some ⟨P0, 0, none⟩), Value.pointer (some ⟨Q0, 0, none⟩), Value.pointer (some ⟨P0, 0, none⟩), Value.bool false, (fun i => a'.tmps.getD i undef) 23, (fun i => a'.tmps.getD i undef) 24, (fun i => a'.tmps.getD i undef) 25, (fun i => a'.tmps.getD i undef) 26, (fun i => a'.tmps.getD i undef) 27, (fun i => a'.tmps.getD i undef) 28, (fun i => a'.tmps.getD i undef) 29, (fun i => a'.tmps.getD i undef) 30, (fun i => a'.tmps.getD i undef) 31, (fun i => a'.tmps.getD i undef) 32, (fun i => a'.tmps.getD i undef) 33, (fun i => a'.tmps.getD i undef) 34, (fun i => a'.tmps.getD i undef) 35, (fun i => a'.tmps.getD i undef) 36, (fun i => a'.tmps.getD i undef) 37, (fun i => a'.tmps.getD i undef) 38, (fun i => a'.tmps.getD i undef) 39, (fun i => a'.tmps.getD i undef) 40, (fun i => a'.tmps.getD i undef) 41, (fun i => a'.tmps.getD i undef) 42, (fun i => a'.tmps.getD i undef) 43, (fun i => a'.tmps.getD i undef) 44, (fun i => a'.tmps.getD i undef) 45, (fun i => a'.tmps.getD i undef) 46, (fun i => a'.tmps.getD i undef) 47, (fun i => a'.tmps.getD i undef) 48, (fun i => a'.tmps.getD i undef) 49, (fun i => a'.tmps.getD i undef) 50, (fun i => a'.tmps.getD i undef) 51, (fun i => a'.tmps.getD i undef) 52, (fun i => a'.tmps.getD i undef) 53, (fun i => a'.tmps.getD i undef) 54, (fun i => a'.tmps.getD i undef) 55, (fun i => a'.tmps.getD i undef) 56, (fun i => a'.tmps.getD i undef) 57, (fun i => a'.tmps.getD i undef) 58, (fun i => a'.tmps.getD i undef) 59, (fun i => a'.tmps.getD i undef) 60, (fun i => a'.tmps.getD i undef) 61, (fun i => a'.tmps.getD i undef) 62, (fun i => a'.tmps.getD i undef) 63, (fun i => a'.tmps.getD i undef) 64, (fun i => a'.tmps.getD i undef) 65, (fun i => a'.tmps.getD i undef) 66, (fun i => a'.tmps.getD i undef) 67, (fun i => a'.tmps.getD i undef) 68, (fun i => a'.tmps.getD i undef) 69, (fun i => a'.tmps.getD i undef) 70, (fun i => a'.tmps.getD i undef) 71, (fun i => a'.tmps.getD i undef) 72, (fun i => a'.tmps.getD i undef) 73, (fun i => a'.tmps.getD i undef) 74, (fun i => a'.tmps.getD i undef) 75, (fun i => a'.tmps.getD i undef) 76, (fun i => a'.tmps.getD i undef) 77, (fun i => a'.tmps.getD i undef) 78, (fun i => a'.tmps.getD i undef) 79, (fun i => a'.tmps.getD i undef) 80, (fun i => a'.tmps.getD i undef) 81, (fun i => a'.tmps.getD i undef) 82, (fun i => a'.tmps.getD i undef) 83, (fun i => a'.tmps.getD i undef) 84, (fun i => a'.tmps.getD i undef) 85, (fun i => a'.tmps.getD i undef) 86, (fun i => a'.tmps.getD i undef) 87, (fun i => a'.tmps.getD i undef) 88, (fun i => a'.tmps.getD i undef) 89, (fun i => a'.tmps.getD i undef) 90, (fun i => a'.tmps.getD i undef) 91, (fun i => a'.tmps.getD i undef) 92, (fun i => a'.tmps.getD i undef) 93, (fun i => a'.tmps.getD i undef) 94, (fun i => a'.tmps.getD i undef) 95, (fun i => a'.tmps.getD i undef) 96, (fun i => a'.tmps.getD i undef) 97, (fun i => a'.tmps.getD i undef) 98, (fun i => a'.tmps.getD i undef) 99, (fun i => a'.tmps.getD i undef) 100, (fun i => a'.tmps.getD i undef) 101, (fun i => a'.tmps.getD i undef) 102, (fun i => a'.tmps.getD i undef) 103, (fun i => a'.tmps.getD i undef) 104, (fun i => a'.tmps.getD i undef) 105, (fun i => a'.tmps.getD i undef) 106, (fun i => a'.tmps.getD i undef) 107, (fun i => a'.tmps.getD i undef) 108, (fun i => a'.tmps.getD i undef) 109, (fun i => a'.tmps.getD i undef) 110, (fun i => a'.tmps.getD i undef) 111, (fun i => a'.tmps.getD i undef) 112, (fun i => a'.tmps.getD i undef) 113, (fun i => a'.tmps.getD i undef) 114, (fun i => a'.tmps.getD i undef) 115, (fun i => a'.tmps.getD i undef) 116, (fun i => a'.tmps.getD i undef) 117, (fun i => a'.tmps.getD i undef) 118, (fun i => a'.tmps.getD i undef) 119, (fun i => a'.tmps.getD i undef) 120, (fun i => a'.tmps.getD i undef) 121, (fun i => a'.tmps.getD i undef) 122, (fun i => a'.tmps.getD i undef) 123, (fun i => a'.tmps.getD i undef) 124, (fun i => a'.tmps.getD i undef) 125, (fun i => a'.tmps.getD i undef) 126, (fun i => a'.tmps.getD i undef) 127, (fun i => a'.tmps.getD i undef) 128, (fun i => a'.tmps.getD i undef) 129, (fun i => a'.tmps.getD i undef) 130, (fun i => a'.tmps.getD i undef) 131, (fun i => a'.tmps.getD i undef) 132, (fun i => a'.tmps.getD i undef) 133, (fun i => a'.tmps.getD i undef) 134, (fun i => a'.tmps.getD i undef) 135, (fun i => a'.tmps.getD i undef) 136, (fun i => a'.tmps.getD i undef) 137, (fun i => a'.tmps.getD i undef) 138, (fun i => a'.tmps.getD i undef) 139, (fun i => a'.tmps.getD i undef) 140, (fun i => a'.tmps.getD i undef) 141, (fun i => a'.tmps.getD i undef) 142, (fun i => a'.tmps.getD i undef) 143, (fun i => a'.tmps.getD i undef) 144, (fun i => a'.tmps.getD i undef) 145, (fun i => a'.tmps.getD i undef) 146, (fun i => a'.tmps.getD i undef) 147, (fun i => a'.tmps.getD i undef) 148, (fun i => a'.tmps.getD i undef) 149, (fun i => a'.tmps.getD i undef) 150, (fun i => a'.tmps.getD i undef) 151, (fun i => a'.tmps.getD i undef) 152, (fun i => a'.tmps.getD i undef) 153, (fun i => a'.tmps.getD i undef) 154, (fun i => a'.tmps.getD i undef) 155, (fun i => a'.tmps.getD i undef) 156, (fun i => a'.tmps.getD i undef) 157, (fun i => a'.tmps.getD i undef) 158, (fun i => a'.tmps.getD i undef) 159, (fun i => a'.tmps.getD i undef) 160, .bool false, undef]) (by rw [hb.size, hsz]; rfl) (by rw [hb.defers]; exact hdf) ⟨((hb.old 0 (by decide +kernel)).trans h0), ((hb.old 1 (by decide +kernel)).trans h1), rfl, ((hb.old 3 (by decide +kernel)).trans h3), ((hb.old 4 (by decide +kernel)).trans h4), ((hb.old 5 (by decide +kernel)).trans h5), rfl, rfl, rfl, rfl, rfl, rfl, rfl, rfl, rfl, rfl, ((hb.old 16 (by decide +kernel)).trans h16), ((hb.old 17 (by decide +kernel)).trans h17), ((hb.old 18 (by decide +kernel)).trans h18), ((hb.old 19 (by decide +kernel)).trans h19), ((hb.old 20 (by decide +kernel)).trans h20), ((hb.old 21 (by decide +kernel)).trans h21), ((hb.old 22 (by decide +kernel)).trans h22), rfl, rfl, rfl, rfl, rfl, rfl, rfl, rfl, rfl, rfl, rfl, rfl, rfl, rfl, rfl, rfl, rfl, rfl, rfl, rfl, rfl, rfl, rfl, rfl, rfl, rfl, rfl, rfl, rfl, rfl, rfl, rfl, rfl, rfl, rfl, rfl, rfl, rfl, rfl, rfl, rfl, rfl, rfl, rfl, rfl, rfl, rfl, rfl, rfl, rfl, rfl, rfl, rfl, rfl, rfl, rfl, rfl, rfl, rfl, rfl, rfl, rfl, rfl, rfl, rfl, rfl, rfl, rfl, rfl, rfl, rfl, rfl, rfl, rfl, rfl, rfl, rfl, rfl, rfl, rfl, rfl, rfl, rfl, rfl, rfl, rfl, rfl, rfl, rfl, rfl, rfl, rfl, rfl, rfl, rfl, rfl, rfl, rfl, rfl, rfl, rfl, rfl, rfl, rfl, rfl, rfl, rfl, rfl, rfl, rfl, rfl, rfl, rfl, rfl, rfl, rfl, rfl, rfl, rfl, rfl, rfl, rfl, rfl, rfl, rfl, rfl, rfl, rfl, rfl, rfl, rfl, rfl, rfl, rfl, rfl, rfl, rfl, rfl, e161, ((hb.old 162 (by decide +kernel)).trans h162), trivial⟩⟩
                have HFF := hide hf.fr
                clear hall hb hf e161 hsz hdf h0 h1 h3 h4 h5 h16 h17 h18 h19 h20 h21 h22 h162
                subst hfr
                apply_assumption
                go_wp2_with fail
                go_roundw
                case rel => exact ⟨k + 1, ph, pg, s, n, gv, r, by omega, rfl, rfl, by go_num, (unhide HTZ).kept (unhide HFF) (fun _ _ h => h), (unhide FZ).trans (unhide HFF) (fun _ _ h => h)⟩
                case measure => simp [intOf]; omega
      · obtain rfl : k = ss.length := by omega
        have HF := hide hf
        clear htw hf
        go_wp2_with fail
        refine (live_any wr ((unhide HT).kept (unhide HF) id id)).mono ?_
        rintro e w3 ⟨rfl, f3⟩
        go_wp2_with fail
        go_ret
        exact ⟨rfl, (unhide HF).trans f3 (fun _ _ h => h)⟩
end Go.Proofs.YtlicmlioilkfdaaDoor
