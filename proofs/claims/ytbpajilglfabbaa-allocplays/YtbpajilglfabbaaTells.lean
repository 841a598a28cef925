/-
  The walk of the law's tells: an allocator tells what the document's does; what is told is spoilt.
-/
import Derived.Test.YtbpajilglfabbaaG3
namespace Go.Proofs.Ytbpajilglfabbaa
open Go.RowKit
set_option linter.unusedVariables false
set_option linter.unusedSimpArgs false

attribute [local go_sem ↓] Go.wp_at_zero Go.wp_at_succ

/-- The cells of a pair of a row that is owned. -/
theorem owns_at2 {w : World} {e : TypeId} {ao : Option Addr} {n c : Nat} {xs : List Value} (h : w.ownsRow 0 e 2 (.slice ao n c) n xs) {i : Nat} (hi : i < n) : ∃ g y0 y1, ao = some ⟨g, 0, none⟩ ∧ n ≤ c ∧ w.cell? ⟨g, i * 2, none⟩ = some y0 ∧ w.cell? ⟨g, i * 2 + 1, none⟩ = some y1 ∧ w.frozen? ⟨g, i * 2, none⟩ = false ∧ w.frozen? ⟨g, i * 2 + 1, none⟩ = false := by
  rcases h.2 with ⟨hv, h0⟩ | ⟨g, cap, cur, hv, hb, hg, hnc, hcm, hcs, htake⟩
  · omega
  · simp only [Value.slice.injEq] at hv
    obtain ⟨rfl, -, rfl⟩ := hv
    have h1 : i * 2 < cur.size := by omega
    have h2 : i * 2 + 1 < cur.size := by omega
    exact ⟨g, cur[i * 2], cur[i * 2 + 1], rfl, hnc, by rw [cell_of_heap hg]; simp [h1], by rw [cell_of_heap hg]; simp [h2], frozen_of_heap hg _, frozen_of_heap hg _⟩

set_option maxRecDepth 100000 in
set_option maxHeartbeats 16000000 in
theorem tells_any (w0 w : World) (p : Nat) (X : Ly) (p' : Nat) (Y : Lr) (K : Kc) (M : Rc) (k : Nat) (H : PA w0 w p X p' Y K M k) : Calls Try.prog 15 #[ptr p, ptr p'] w fun e w' => e = .returned (.bool true) ∧ Fr (fun _ => False) w w' := by
  have HT := hide (taken_nv w p X K M H.ka H.ab)
  have HPA := hide H
  have HAB := hide H.ab
  have hn2 : K.s.length ≤ 65536 := H.ka.n2
  have HTL := hide H.ab.lt_t
  have HGL := hide H.ab.lt_g
  clear H
  unfold ptr at *
  go_enter Try.func15, Try.ntmps15
  go_wp2_with fail
  refine (unhide HT).mono ?_
  rintro e w1 ⟨tv, rfl, ht, f1⟩
  have HG := hide (given_nv w1 p X K M ((unhide HPA).kept f1).ka (unhide HAB))
  have HTV := hide ht
  have HF1 := hide f1
  obtain ⟨to, tn, tc, rfl, htn⟩ := ht.shape
  have HTN := hide htn
  have HTB : Hid (∀ b, (Value.slice to tn tc).ownBlock = some b → b < w1.heap.size) := hide (fun b hb => by
    obtain ⟨ao, N', cc', e', -, ho, -⟩ := ht
    rw [← e'] at ho
    obtain ⟨cs, hcs⟩ := owns_ty ho hb
    exact lt_of_heap hcs)
  clear ht f1 HT htn
  unfold ptr at *
  go_wp2_with fail
  refine (unhide HG).mono ?_
  rintro e w2 ⟨gv, rfl, hgv, f2⟩
  have HF2 := hide ((unhide HF1).trans f2 (fun _ _ h => h))
  have HTV2 := hide ((unhide HTV).kept f2 (fun _ _ h => h))
  have HBM := hide (bitmap_any w2 p X K ((unhide HPA).kept (unhide HF2)).ka)
  have HGV := hide hgv
  have HTG : Hid (∀ b, (Value.slice to tn tc).ownBlock = some b → gv.ownBlock ≠ some b) := hide (fun b hb hg2 => by
    obtain ⟨ao, N', cc', rfl, -, ho, hn⟩ := hgv
    have h1 := unhide HTB b hb
    have h2 := hn b hg2
    omega)
  obtain ⟨go, gn, gc, rfl, hgn⟩ := hgv.shape
  have HGN := hide hgn
  clear hgv f2 HG hgn HTV
  unfold ptr at *
  go_wp2_with fail
  refine (unhide HBM).mono ?_
  rintro e w3 ⟨⟨mq, mn, rfl, hmn, hBM, hmq⟩, f3⟩
  have HF3 := hide ((unhide HF2).trans f3 (fun _ _ h => h))
  have HTV3 := hide ((unhide HTV2).kept f3 (fun _ _ h => h))
  have HGV3 := hide ((unhide HGV).kept f3 (fun _ _ h => h))
  have HRN := hide (runs_any w3 p X K ((unhide HPA).kept (unhide HF3)).ka)
  have HMB := hide hBM
  have HMN := hide hmn
  have HMQ : Hid (w.heap.size ≤ mq) := hide (Nat.le_trans (unhide HF2).size hmq)
  clear hmn hBM hmq f3 HBM HTV2 HGV
  unfold ptr at *
  go_wp2_with fail
  refine (unhide HRN).mono ?_
  rintro e w4 ⟨⟨rv, rfl, hrv⟩, f4⟩
  have HF4 := hide ((unhide HF3).trans f4 (fun _ _ h => h))
  have hnq := hrv.older (unhide HF3).size
  have HRV := hide hnq
  obtain ⟨ro, rc, rfl⟩ := hrv.shape
  obtain ⟨rl, hrl⟩ : ∃ rl, rl = (rn K.s).length := ⟨_, rfl⟩
  rw [← hrl] at HRV hnq ⊢
  have HRL := hide hrl
  have hTV4 := (unhide HTV3).kept f4 (fun _ _ h => h)
  have hGV4 := ((unhide HGV3).kept f4 (fun _ _ h => h)).older (unhide HF1).size
  have hMB4 := (unhide HMB).kept f4 id
  have HQ : Hid (Q4 w w4 (.slice to tn tc) (.slice go gn gc) tn gn mq mn (.slice ro rl rc) rl) := hide (by
    obtain ⟨ao, N', cc', e1, -, ho1, hb1⟩ := hTV4
    obtain ⟨ao2, N2, cc2, e2, -, ho2, hb2⟩ := hGV4
    obtain ⟨ao3, N3, cc3, e3, -, ho3, hb3⟩ := hnq
    simp only [Value.slice.injEq] at e1 e2 e3
    obtain ⟨rfl, rfl, rfl⟩ := e1
    obtain ⟨rfl, rfl, rfl⟩ := e2
    obtain ⟨rfl, rfl, rfl⟩ := e3
    exact ⟨⟨_, ho1⟩, ⟨_, ho2⟩, ⟨_, hMB4, (unhide HMN).symm⟩, ⟨_, ho3⟩, unhide HF4, hb1, hb2, unhide HMQ, hb3, unhide HTG⟩)
  have HT4 := hide hTV4.rd
  have HG4 := hide hGV4.rd
  have HM4 : Hid (Rd w4 (.slice (some ⟨mq, 0, none⟩) mn mn) (bm M.s)) := hide (by
    have h := hMB4.rd (by rw [bm_length]; simp only [maxLen]; omega)
    rw [← unhide HMN] at h
    rw [(unhide HAB).s]
    exact h)
  have HR4 : Hid (Nq w w4 (.slice ro rl rc) (rn M.s)) := hide (by rw [(unhide HAB).s]; exact unhide HRV)
  have HP4 := hide ((unhide HPA).kept (unhide HF4))
  have HRNL : Hid ((rn M.s).length ≤ 65536) := hide (by rw [(unhide HAB).s]; unfold rn; have := rnK_len K.s K.s.length; omega)
  have htn2 : tn ≤ 65536 := by have h1 := unhide HTN; have h2 := unhide HTL; omega
  have hgn2 : gn ≤ 65536 := by have h1 := unhide HGN; have h2 := unhide HGL; omega
  have hmn2 : mn ≤ 65536 := by have h1 := unhide HMN; rw [bm_length] at h1; omega
  have hrl2 : rl ≤ 65536 := by rw [hrl]; unfold rn; have := rnK_len K.s K.s.length; omega
  clear hrv f4 HRN hrl hnq hTV4 hGV4 hMB4 HTV3 HGV3 HMB HF3 HF2 HF1 HRV HTB HTG
  go_wp2_with fail
  simp only [List.append_eq, List.cons_append, List.nil_append]
  refine wp_nameK ?_
  intro a0 hA
  have h0 : a0.tmps.getD 0 undef = .pointer (some ⟨p, 0, none⟩) := by rw [hA]; rfl
  have h1 : a0.tmps.getD 1 undef = .pointer (some ⟨p', 0, none⟩) := by rw [hA]; rfl
  have h2 : a0.tmps.getD 2 undef = undef := by rw [hA]; rfl
  have h3 : a0.tmps.getD 3 undef = undef := by rw [hA]; rfl
  have h4 : a0.tmps.getD 4 undef = .bool false := by rw [hA]; rfl
  have h5 : a0.tmps.getD 5 undef = .slice to tn tc := by rw [hA]; rfl
  have h6 : a0.tmps.getD 6 undef = .slice go gn gc := by rw [hA]; rfl
  have h7 : a0.tmps.getD 7 undef = .slice (some ⟨mq, 0, none⟩) mn mn := by rw [hA]; rfl
  have h8 : a0.tmps.getD 8 undef = .slice ro rl rc := by rw [hA]; rfl
  have h14 : a0.tmps.getD 14 undef = .pointer (some ⟨p, 0, none⟩) := by rw [hA]; rfl
  have h15 : a0.tmps.getD 15 undef = .slice to tn tc := by rw [hA]; rfl
  have h16 : a0.tmps.getD 16 undef = .pointer (some ⟨p, 0, none⟩) := by rw [hA]; rfl
  have h17 : a0.tmps.getD 17 undef = .slice go gn gc := by rw [hA]; rfl
  have h18 : a0.tmps.getD 18 undef = .pointer (some ⟨p, 0, none⟩) := by rw [hA]; rfl
  have h19 : a0.tmps.getD 19 undef = .slice (some ⟨mq, 0, none⟩) mn mn := by rw [hA]; rfl
  have h20 : a0.tmps.getD 20 undef = .pointer (some ⟨p, 0, none⟩) := by rw [hA]; rfl
  have h21 : a0.tmps.getD 21 undef = .slice ro rl rc := by rw [hA]; rfl
  have h9 : a0.tmps.getD 9 undef = undef := by rw [hA]; rfl
  have h10 : a0.tmps.getD 10 undef = undef := by rw [hA]; rfl
  have h11 : a0.tmps.getD 11 undef = undef := by rw [hA]; rfl
  have h12 : a0.tmps.getD 12 undef = undef := by rw [hA]; rfl
  have h13 : a0.tmps.getD 13 undef = undef := by rw [hA]; rfl
  have h88 : a0.tmps.getD 88 undef = undef := by rw [hA]; rfl
  have h89 : a0.tmps.getD 89 undef = undef := by rw [hA]; rfl
  have h90 : a0.tmps.getD 90 undef = undef := by rw [hA]; rfl
  have h91 : a0.tmps.getD 91 undef = undef := by rw [hA]; rfl
  have h92 : a0.tmps.getD 92 undef = undef := by rw [hA]; rfl
  have h93 : a0.tmps.getD 93 undef = undef := by rw [hA]; rfl
  have h94 : a0.tmps.getD 94 undef = undef := by rw [hA]; rfl
  have h95 : a0.tmps.getD 95 undef = undef := by rw [hA]; rfl
  have h96 : a0.tmps.getD 96 undef = undef := by rw [hA]; rfl
  have h97 : a0.tmps.getD 97 undef = undef := by rw [hA]; rfl
  have h98 : a0.tmps.getD 98 undef = undef := by rw [hA]; rfl
  have h99 : a0.tmps.getD 99 undef = undef := by rw [hA]; rfl
  have h100 : a0.tmps.getD 100 undef = undef := by rw [hA]; rfl
  have h101 : a0.tmps.getD 101 undef = undef := by rw [hA]; rfl
  have h102 : a0.tmps.getD 102 undef = undef := by rw [hA]; rfl
  have h103 : a0.tmps.getD 103 undef = undef := by rw [hA]; rfl
  have h104 : a0.tmps.getD 104 undef = undef := by rw [hA]; rfl
  have h105 : a0.tmps.getD 105 undef = undef := by rw [hA]; rfl
  have h106 : a0.tmps.getD 106 undef = undef := by rw [hA]; rfl
  have h107 : a0.tmps.getD 107 undef = undef := by rw [hA]; rfl
  have h108 : a0.tmps.getD 108 undef = undef := by rw [hA]; rfl
  have h109 : a0.tmps.getD 109 undef = undef := by rw [hA]; rfl
  have h110 : a0.tmps.getD 110 undef = undef := by rw [hA]; rfl
  have h111 : a0.tmps.getD 111 undef = undef := by rw [hA]; rfl
  have h112 : a0.tmps.getD 112 undef = undef := by rw [hA]; rfl
  have h113 : a0.tmps.getD 113 undef = undef := by rw [hA]; rfl
  have h114 : a0.tmps.getD 114 undef = undef := by rw [hA]; rfl
  have h115 : a0.tmps.getD 115 undef = undef := by rw [hA]; rfl
  have h116 : a0.tmps.getD 116 undef = undef := by rw [hA]; rfl
  have h117 : a0.tmps.getD 117 undef = undef := by rw [hA]; rfl
  have h118 : a0.tmps.getD 118 undef = undef := by rw [hA]; rfl
  have h119 : a0.tmps.getD 119 undef = undef := by rw [hA]; rfl
  have h120 : a0.tmps.getD 120 undef = undef := by rw [hA]; rfl
  have h121 : a0.tmps.getD 121 undef = undef := by rw [hA]; rfl
  have h122 : a0.tmps.getD 122 undef = undef := by rw [hA]; rfl
  have h123 : a0.tmps.getD 123 undef = undef := by rw [hA]; rfl
  have h124 : a0.tmps.getD 124 undef = undef := by rw [hA]; rfl
  have h125 : a0.tmps.getD 125 undef = undef := by rw [hA]; rfl
  have h126 : a0.tmps.getD 126 undef = undef := by rw [hA]; rfl
  have h127 : a0.tmps.getD 127 undef = undef := by rw [hA]; rfl
  have h128 : a0.tmps.getD 128 undef = undef := by rw [hA]; rfl
  have h129 : a0.tmps.getD 129 undef = undef := by rw [hA]; rfl
  have h130 : a0.tmps.getD 130 undef = undef := by rw [hA]; rfl
  have h131 : a0.tmps.getD 131 undef = undef := by rw [hA]; rfl
  have h132 : a0.tmps.getD 132 undef = undef := by rw [hA]; rfl
  have h133 : a0.tmps.getD 133 undef = undef := by rw [hA]; rfl
  have h134 : a0.tmps.getD 134 undef = undef := by rw [hA]; rfl
  have h135 : a0.tmps.getD 135 undef = undef := by rw [hA]; rfl
  have h136 : a0.tmps.getD 136 undef = undef := by rw [hA]; rfl
  have h137 : a0.tmps.getD 137 undef = undef := by rw [hA]; rfl
  have h138 : a0.tmps.getD 138 undef = undef := by rw [hA]; rfl
  have h139 : a0.tmps.getD 139 undef = undef := by rw [hA]; rfl
  have h140 : a0.tmps.getD 140 undef = undef := by rw [hA]; rfl
  have h141 : a0.tmps.getD 141 undef = undef := by rw [hA]; rfl
  have h142 : a0.tmps.getD 142 undef = undef := by rw [hA]; rfl
  have h143 : a0.tmps.getD 143 undef = undef := by rw [hA]; rfl
  have h144 : a0.tmps.getD 144 undef = undef := by rw [hA]; rfl
  have h145 : a0.tmps.getD 145 undef = undef := by rw [hA]; rfl
  have h146 : a0.tmps.getD 146 undef = undef := by rw [hA]; rfl
  have h147 : a0.tmps.getD 147 undef = undef := by rw [hA]; rfl
  have h148 : a0.tmps.getD 148 undef = undef := by rw [hA]; rfl
  have h149 : a0.tmps.getD 149 undef = undef := by rw [hA]; rfl
  have h150 : a0.tmps.getD 150 undef = undef := by rw [hA]; rfl
  have h151 : a0.tmps.getD 151 undef = undef := by rw [hA]; rfl
  have h152 : a0.tmps.getD 152 undef = undef := by rw [hA]; rfl
  have h153 : a0.tmps.getD 153 undef = undef := by rw [hA]; rfl
  have h154 : a0.tmps.getD 154 undef = undef := by rw [hA]; rfl
  have h155 : a0.tmps.getD 155 undef = undef := by rw [hA]; rfl
  have h156 : a0.tmps.getD 156 undef = undef := by rw [hA]; rfl
  have h157 : a0.tmps.getD 157 undef = undef := by rw [hA]; rfl
  have h158 : a0.tmps.getD 158 undef = undef := by rw [hA]; rfl
  have h159 : a0.tmps.getD 159 undef = undef := by rw [hA]; rfl
  have h160 : a0.tmps.getD 160 undef = undef := by rw [hA]; rfl
  have h161 : a0.tmps.getD 161 undef = undef := by rw [hA]; rfl
  have h162 : a0.tmps.getD 162 undef = undef := by rw [hA]; rfl
  have h163 : a0.tmps.getD 163 undef = undef := by rw [hA]; rfl
  have h164 : a0.tmps.getD 164 undef = undef := by rw [hA]; rfl
  have h165 : a0.tmps.getD 165 undef = undef := by rw [hA]; rfl
  have hsz : a0.tmps.size = 166 := by rw [hA]; rfl
  have hdf : a0.defers = [] := by rw [hA]
  have HA0 := hide hA
  clear hA
  refine wp_region_kinds (fun _ => False) (by kernel_rfl) (by kernel_rfl) (by decide +kernel) (by rw [hsz]; decide +kernel) [.eq (.pointer (some ⟨p, 0, none⟩)), .eq (.int .i64 (K.s.length : Int)), .eq (.pointer (some ⟨p', 0, none⟩)), .eq (.pointer (some ⟨p', 0, none⟩)), .eq (.pointer (some ⟨p', 0 + 0, none⟩)), .eq (.slice (some ⟨Y.q, 0, none⟩) M.s.length M.s.length), .eq (.int .i64 (M.s.length : Int)), .eq (.bool false), .eq (.bool false), .eq (.pointer (some ⟨p, 0, none⟩)), .eq (.int .i64 (fr K.s : Int)), .eq (.pointer (some ⟨p', 0, none⟩)), .eq (.int .i64 (fr M.s : Int)), .eq (.bool false), .eq (.bool false), .eq (.bool false), .eq (.pointer (some ⟨p, 0, none⟩)), .eq (.int .i64 (K.r : Int)), .eq (.pointer (some ⟨p', 0, none⟩)), .eq (.pointer (some ⟨p', 0, none⟩)), .eq (.pointer (some ⟨p', 0 + 3, none⟩)), .eq (.int .i64 (M.r : Int)), .eq (.bool false), .eq (.bool false), .eq (.bool false), .eq (.pointer (some ⟨p, 0, none⟩)), .eq (.int .i64 (K.h : Int)), .eq (.pointer (some ⟨p', 0, none⟩)), .eq (.pointer (some ⟨p', 0, none⟩)), .eq (.pointer (some ⟨p', 0 + 4, none⟩)), .eq (.int .i64 (M.h : Int)), .eq (.bool false), .eq (.bool false), .eq (.bool false), .eq (.slice to tn tc), .eq (.pointer (some ⟨p', 0, none⟩)), .eq (.pointer (some ⟨p', 0, none⟩)), .eq (.pointer (some ⟨p', 0 + 1, none⟩)), .eq (Y.tv), .eq (.bool true), .eq (.bool false), .eq (.bool false), .eq (.bool false), .eq (.slice go gn gc), .eq (.pointer (some ⟨p', 0, none⟩)), .eq (.pointer (some ⟨p', 0, none⟩)), .eq (.pointer (some ⟨p', 0 + 2, none⟩)), .eq (Y.gv), .eq (.bool true), .eq (.bool false), .eq (.bool false), .eq (.bool false), .eq (.slice (some ⟨mq, 0, none⟩) mn mn), .eq (.string (str (bm M.s))), .eq (.pointer (some ⟨p', 0, none⟩)), kRb (bm M.s), .eq (.string (str (bm M.s))), .eq (.bool false), .eq (.bool false), .eq (.bool false), .eq (.slice ro rl rc), .eq (.pointer (some ⟨p', 0, none⟩)), kNq w (rn M.s), .eq (.bool true), .eq (.bool false), .eq (.bool false)] [] (by decide) (by decide) (nopaths) (fun _ W => Fr (fun _ => False) w4 W) (Fr.refl _ _).drew ?steps ?done
  case steps =>
    refine ⟨?_, ?_⟩
    · intro a' w' k' hb hf hs hc hq hg hd
      exact ⟨wantedN rfl, k_val (.pointer (some ⟨p, 0, none⟩)) (by decide) hs (x_move rfl ((hb.old 0 (by decide +kernel)).trans h0)) rfl⟩
    refine ⟨?_, ?_⟩
    · intro a' w' k' hb hf hs hc hq hg hd
      exact ⟨wantedN rfl, k_call 18 _ (by decide) (e_call1 rfl rfl (hd 0 (by kernel_rfl) 22 rfl) cf18) ((blocks_any _ p X K ((unhide HP4).kept hs).ka).mono (by rintro e w7 ⟨rfl, rfl⟩; exact ⟨_, rfl, rfl, Fr.refl _ _, hs⟩))⟩
    refine ⟨?_, ?_⟩
    · intro a' w' k' hb hf hs hc hq hg hd
      exact ⟨wantedN rfl, k_val (.pointer (some ⟨p', 0, none⟩)) (by decide) hs (x_move rfl ((hb.old 1 (by decide +kernel)).trans h1)) rfl⟩
    refine ⟨?_, ?_⟩
    · intro a' w' k' hb hf hs hc hq hg hd
      exact ⟨wantedN rfl, k_val (.pointer (some ⟨p', 0, none⟩)) (by decide) hs (x_nilCheck rfl (hd 2 (by kernel_rfl) 24 rfl)) rfl⟩
    refine ⟨?_, ?_⟩
    · intro a' w' k' hb hf hs hc hq hg hd
      exact ⟨wantedN rfl, k_val (.pointer (some ⟨p', 0 + 0, none⟩)) (by decide) hs (x_field (of := 0) (off := 0) (fa68_0 p') rfl (hd 3 (by kernel_rfl) 25 rfl)) rfl⟩
    refine ⟨?_, ?_⟩
    · intro a' w' k' hb hf hs hc hq hg hd
      exact ⟨wantedN rfl, k_val (.slice (some ⟨Y.q, 0, none⟩) M.s.length M.s.length) (by decide) hs (x_load1 ld51 rfl (hd 4 (by kernel_rfl) 26 rfl) ((unhide HP4).kept hs).ra.c0) rfl⟩
    refine ⟨?_, ?_⟩
    · intro a' w' k' hb hf hs hc hq hg hd
      exact ⟨wantedN rfl, k_val (.int .i64 (M.s.length : Int)) (by decide) hs (x_len51 rfl (hd 5 (by kernel_rfl) 27 rfl)) rfl⟩
    refine ⟨?_, ?_⟩
    · intro a' w' k' hb hf hs hc hq hg hd
      exact ⟨wantedN rfl, k_val (.bool false) (by decide) hs (x_neI Try.underlying3 rfl (hd 1 (by kernel_rfl) 23 rfl) (hd 6 (by kernel_rfl) 28 rfl) (by first | (rw [(unhide HAB).s]; simp) | (rw [(unhide HAB).r]; simp) | (rw [(unhide HAB).h]; simp))) rfl⟩
    refine ⟨?_, ?_⟩
    · intro a' w' k' hb hf hs hc hq hg hd
      exact ⟨wantedN rfl, k_val (.bool false) (by decide) hs (x_move rfl (hd 7 (by kernel_rfl) 29 rfl)) rfl⟩
    refine ⟨?_, ?_⟩
    · intro a' w' k' hb hf hs hc hq hg hd
      exact ⟨wantedF (d := 30) rfl rfl (by rw [hb.size, hsz]; omega) (hd 8 (by kernel_rfl) 30 rfl), k_val (.pointer (some ⟨p, 0, none⟩)) (by decide) hs (x_move rfl ((hb.old 0 (by decide +kernel)).trans h0)) rfl⟩
    refine ⟨?_, ?_⟩
    · intro a' w' k' hb hf hs hc hq hg hd
      exact ⟨wantedF (d := 30) rfl rfl (by rw [hb.size, hsz]; omega) (hd 8 (by kernel_rfl) 30 rfl), k_call 19 _ (by decide) (e_call1 rfl rfl (hd 9 (by kernel_rfl) 31 rfl) cf19) ((free_any _ p X K ((unhide HP4).kept hs).ka).mono (by rintro e w7 ⟨rfl, rfl⟩; exact ⟨_, rfl, rfl, Fr.refl _ _, hs⟩))⟩
    refine ⟨?_, ?_⟩
    · intro a' w' k' hb hf hs hc hq hg hd
      exact ⟨wantedF (d := 30) rfl rfl (by rw [hb.size, hsz]; omega) (hd 8 (by kernel_rfl) 30 rfl), k_val (.pointer (some ⟨p', 0, none⟩)) (by decide) hs (x_move rfl ((hb.old 1 (by decide +kernel)).trans h1)) rfl⟩
    refine ⟨?_, ?_⟩
    · intro a' w' k' hb hf hs hc hq hg hd
      exact ⟨wantedF (d := 30) rfl rfl (by rw [hb.size, hsz]; omega) (hd 8 (by kernel_rfl) 30 rfl), k_call 53 _ (by decide) (e_call2 rfl rfl (hd 11 (by kernel_rfl) 33 rfl) rfl cf53) ((rcount_any _ p' Y M ((unhide HP4).kept hs).ra).mono (by rintro e w7 ⟨rfl, n7, rfl⟩; exact ⟨_, rfl, rfl, Fr.ofDrewN _ _, Fr.trans hs (Fr.ofDrewN _ _) (fun _ _ h => h)⟩))⟩
    refine ⟨?_, ?_⟩
    · intro a' w' k' hb hf hs hc hq hg hd
      exact ⟨wantedF (d := 30) rfl rfl (by rw [hb.size, hsz]; omega) (hd 8 (by kernel_rfl) 30 rfl), k_val (.bool false) (by decide) hs (x_neI Try.underlying3 rfl (hd 10 (by kernel_rfl) 32 rfl) (hd 12 (by kernel_rfl) 34 rfl) (by first | (rw [(unhide HAB).s]; simp) | (rw [(unhide HAB).r]; simp) | (rw [(unhide HAB).h]; simp))) rfl⟩
    refine ⟨?_, ?_⟩
    · intro a' w' k' hb hf hs hc hq hg hd
      exact ⟨wantedN rfl, k_val (.bool false) (by decide) hs (x_pickF rfl (hd 8 (by kernel_rfl) 30 rfl) (hd 13 (by kernel_rfl) 35 rfl)) rfl⟩
    refine ⟨?_, ?_⟩
    · intro a' w' k' hb hf hs hc hq hg hd
      exact ⟨wantedN rfl, k_val (.bool false) (by decide) hs (x_move rfl (hd 14 (by kernel_rfl) 36 rfl)) rfl⟩
    refine ⟨?_, ?_⟩
    · intro a' w' k' hb hf hs hc hq hg hd
      exact ⟨wantedF (d := 37) rfl rfl (by rw [hb.size, hsz]; omega) (hd 15 (by kernel_rfl) 37 rfl), k_val (.pointer (some ⟨p, 0, none⟩)) (by decide) hs (x_move rfl ((hb.old 0 (by decide +kernel)).trans h0)) rfl⟩
    refine ⟨?_, ?_⟩
    · intro a' w' k' hb hf hs hc hq hg hd
      exact ⟨wantedF (d := 37) rfl rfl (by rw [hb.size, hsz]; omega) (hd 15 (by kernel_rfl) 37 rfl), k_call 27 _ (by decide) (e_call1 rfl rfl (hd 16 (by kernel_rfl) 38 rfl) cf27) ((reserved_any _ p X K ((unhide HP4).kept hs).ka).mono (by rintro e w7 ⟨rfl, rfl⟩; exact ⟨_, rfl, rfl, Fr.refl _ _, hs⟩))⟩
    refine ⟨?_, ?_⟩
    · intro a' w' k' hb hf hs hc hq hg hd
      exact ⟨wantedF (d := 37) rfl rfl (by rw [hb.size, hsz]; omega) (hd 15 (by kernel_rfl) 37 rfl), k_val (.pointer (some ⟨p', 0, none⟩)) (by decide) hs (x_move rfl ((hb.old 1 (by decide +kernel)).trans h1)) rfl⟩
    refine ⟨?_, ?_⟩
    · intro a' w' k' hb hf hs hc hq hg hd
      exact ⟨wantedF (d := 37) rfl rfl (by rw [hb.size, hsz]; omega) (hd 15 (by kernel_rfl) 37 rfl), k_val (.pointer (some ⟨p', 0, none⟩)) (by decide) hs (x_nilCheck rfl (hd 18 (by kernel_rfl) 40 rfl)) rfl⟩
    refine ⟨?_, ?_⟩
    · intro a' w' k' hb hf hs hc hq hg hd
      exact ⟨wantedF (d := 37) rfl rfl (by rw [hb.size, hsz]; omega) (hd 15 (by kernel_rfl) 37 rfl), k_val (.pointer (some ⟨p', 0 + 3, none⟩)) (by decide) hs (x_field (of := 0) (off := 3) (fa68_3 p') rfl (hd 19 (by kernel_rfl) 41 rfl)) rfl⟩
    refine ⟨?_, ?_⟩
    · intro a' w' k' hb hf hs hc hq hg hd
      exact ⟨wantedF (d := 37) rfl rfl (by rw [hb.size, hsz]; omega) (hd 15 (by kernel_rfl) 37 rfl), k_val (.int .i64 (M.r : Int)) (by decide) hs (x_load1 ld3 rfl (hd 20 (by kernel_rfl) 42 rfl) ((unhide HP4).kept hs).ra.c3) rfl⟩
    refine ⟨?_, ?_⟩
    · intro a' w' k' hb hf hs hc hq hg hd
      exact ⟨wantedF (d := 37) rfl rfl (by rw [hb.size, hsz]; omega) (hd 15 (by kernel_rfl) 37 rfl), k_val (.bool false) (by decide) hs (x_neI Try.underlying3 rfl (hd 17 (by kernel_rfl) 39 rfl) (hd 21 (by kernel_rfl) 43 rfl) (by first | (rw [(unhide HAB).s]; simp) | (rw [(unhide HAB).r]; simp) | (rw [(unhide HAB).h]; simp))) rfl⟩
    refine ⟨?_, ?_⟩
    · intro a' w' k' hb hf hs hc hq hg hd
      exact ⟨wantedN rfl, k_val (.bool false) (by decide) hs (x_pickF rfl (hd 15 (by kernel_rfl) 37 rfl) (hd 22 (by kernel_rfl) 44 rfl)) rfl⟩
    refine ⟨?_, ?_⟩
    · intro a' w' k' hb hf hs hc hq hg hd
      exact ⟨wantedN rfl, k_val (.bool false) (by decide) hs (x_move rfl (hd 23 (by kernel_rfl) 45 rfl)) rfl⟩
    refine ⟨?_, ?_⟩
    · intro a' w' k' hb hf hs hc hq hg hd
      exact ⟨wantedF (d := 46) rfl rfl (by rw [hb.size, hsz]; omega) (hd 24 (by kernel_rfl) 46 rfl), k_val (.pointer (some ⟨p, 0, none⟩)) (by decide) hs (x_move rfl ((hb.old 0 (by decide +kernel)).trans h0)) rfl⟩
    refine ⟨?_, ?_⟩
    · intro a' w' k' hb hf hs hc hq hg hd
      exact ⟨wantedF (d := 46) rfl rfl (by rw [hb.size, hsz]; omega) (hd 24 (by kernel_rfl) 46 rfl), k_call 26 _ (by decide) (e_call1 rfl rfl (hd 25 (by kernel_rfl) 47 rfl) cf26) ((holds_any _ p X K ((unhide HP4).kept hs).ka).mono (by rintro e w7 ⟨rfl, rfl⟩; exact ⟨_, rfl, rfl, Fr.refl _ _, hs⟩))⟩
    refine ⟨?_, ?_⟩
    · intro a' w' k' hb hf hs hc hq hg hd
      exact ⟨wantedF (d := 46) rfl rfl (by rw [hb.size, hsz]; omega) (hd 24 (by kernel_rfl) 46 rfl), k_val (.pointer (some ⟨p', 0, none⟩)) (by decide) hs (x_move rfl ((hb.old 1 (by decide +kernel)).trans h1)) rfl⟩
    refine ⟨?_, ?_⟩
    · intro a' w' k' hb hf hs hc hq hg hd
      exact ⟨wantedF (d := 46) rfl rfl (by rw [hb.size, hsz]; omega) (hd 24 (by kernel_rfl) 46 rfl), k_val (.pointer (some ⟨p', 0, none⟩)) (by decide) hs (x_nilCheck rfl (hd 27 (by kernel_rfl) 49 rfl)) rfl⟩
    refine ⟨?_, ?_⟩
    · intro a' w' k' hb hf hs hc hq hg hd
      exact ⟨wantedF (d := 46) rfl rfl (by rw [hb.size, hsz]; omega) (hd 24 (by kernel_rfl) 46 rfl), k_val (.pointer (some ⟨p', 0 + 4, none⟩)) (by decide) hs (x_field (of := 0) (off := 4) (fa68_4 p') rfl (hd 28 (by kernel_rfl) 50 rfl)) rfl⟩
    refine ⟨?_, ?_⟩
    · intro a' w' k' hb hf hs hc hq hg hd
      exact ⟨wantedF (d := 46) rfl rfl (by rw [hb.size, hsz]; omega) (hd 24 (by kernel_rfl) 46 rfl), k_val (.int .i64 (M.h : Int)) (by decide) hs (x_load1 ld3 rfl (hd 29 (by kernel_rfl) 51 rfl) ((unhide HP4).kept hs).ra.c4) rfl⟩
    refine ⟨?_, ?_⟩
    · intro a' w' k' hb hf hs hc hq hg hd
      exact ⟨wantedF (d := 46) rfl rfl (by rw [hb.size, hsz]; omega) (hd 24 (by kernel_rfl) 46 rfl), k_val (.bool false) (by decide) hs (x_neI Try.underlying3 rfl (hd 26 (by kernel_rfl) 48 rfl) (hd 30 (by kernel_rfl) 52 rfl) (by first | (rw [(unhide HAB).s]; simp) | (rw [(unhide HAB).r]; simp) | (rw [(unhide HAB).h]; simp))) rfl⟩
    refine ⟨?_, ?_⟩
    · intro a' w' k' hb hf hs hc hq hg hd
      exact ⟨wantedN rfl, k_val (.bool false) (by decide) hs (x_pickF rfl (hd 24 (by kernel_rfl) 46 rfl) (hd 31 (by kernel_rfl) 53 rfl)) rfl⟩
    refine ⟨?_, ?_⟩
    · intro a' w' k' hb hf hs hc hq hg hd
      exact ⟨wantedN rfl, k_val (.bool false) (by decide) hs (x_move rfl (hd 32 (by kernel_rfl) 54 rfl)) rfl⟩
    refine ⟨?_, ?_⟩
    · intro a' w' k' hb hf hs hc hq hg hd
      exact ⟨wantedF (d := 55) rfl rfl (by rw [hb.size, hsz]; omega) (hd 33 (by kernel_rfl) 55 rfl), k_val (.slice to tn tc) (by decide) hs (x_move rfl ((hb.old 5 (by decide +kernel)).trans h5)) rfl⟩
    refine ⟨?_, ?_⟩
    · intro a' w' k' hb hf hs hc hq hg hd
      exact ⟨wantedF (d := 55) rfl rfl (by rw [hb.size, hsz]; omega) (hd 33 (by kernel_rfl) 55 rfl), k_val (.pointer (some ⟨p', 0, none⟩)) (by decide) hs (x_move rfl ((hb.old 1 (by decide +kernel)).trans h1)) rfl⟩
    refine ⟨?_, ?_⟩
    · intro a' w' k' hb hf hs hc hq hg hd
      exact ⟨wantedF (d := 55) rfl rfl (by rw [hb.size, hsz]; omega) (hd 33 (by kernel_rfl) 55 rfl), k_val (.pointer (some ⟨p', 0, none⟩)) (by decide) hs (x_nilCheck rfl (hd 35 (by kernel_rfl) 57 rfl)) rfl⟩
    refine ⟨?_, ?_⟩
    · intro a' w' k' hb hf hs hc hq hg hd
      exact ⟨wantedF (d := 55) rfl rfl (by rw [hb.size, hsz]; omega) (hd 33 (by kernel_rfl) 55 rfl), k_val (.pointer (some ⟨p', 0 + 1, none⟩)) (by decide) hs (x_field (of := 0) (off := 1) (fa68_1 p') rfl (hd 36 (by kernel_rfl) 58 rfl)) rfl⟩
    refine ⟨?_, ?_⟩
    · intro a' w' k' hb hf hs hc hq hg hd
      exact ⟨wantedF (d := 55) rfl rfl (by rw [hb.size, hsz]; omega) (hd 33 (by kernel_rfl) 55 rfl), k_val (Y.tv) (by decide) hs (x_load1 ld51 rfl (hd 37 (by kernel_rfl) 59 rfl) ((unhide HP4).kept hs).ra.c1) rfl⟩
    refine ⟨?_, ?_⟩
    · intro a' w' k' hb hf hs hc hq hg hd
      exact ⟨wantedF (d := 55) rfl rfl (by rw [hb.size, hsz]; omega) (hd 33 (by kernel_rfl) 55 rfl), k_call 38 _ (by decide) (e_call2 rfl rfl (hd 34 (by kernel_rfl) 56 rfl) (hd 38 (by kernel_rfl) 60 rfl) cf38) ((ints_eq _ _ _ M.t ((unhide HT4).kept hs (fun _ _ h => h)) ((unhide HP4).kept hs).ra.rdT).mono (by rintro e w7 ⟨rfl, n7, rfl⟩; exact ⟨_, rfl, rfl, Fr.ofDrewN _ _, Fr.trans hs (Fr.ofDrewN _ _) (fun _ _ h => h)⟩))⟩
    refine ⟨?_, ?_⟩
    · intro a' w' k' hb hf hs hc hq hg hd
      exact ⟨wantedF (d := 55) rfl rfl (by rw [hb.size, hsz]; omega) (hd 33 (by kernel_rfl) 55 rfl), k_val (.bool false) (by decide) hs (x_not (b := true) rfl (hd 39 (by kernel_rfl) 61 rfl)) rfl⟩
    refine ⟨?_, ?_⟩
    · intro a' w' k' hb hf hs hc hq hg hd
      exact ⟨wantedN rfl, k_val (.bool false) (by decide) hs (x_pickF rfl (hd 33 (by kernel_rfl) 55 rfl) (hd 40 (by kernel_rfl) 62 rfl)) rfl⟩
    refine ⟨?_, ?_⟩
    · intro a' w' k' hb hf hs hc hq hg hd
      exact ⟨wantedN rfl, k_val (.bool false) (by decide) hs (x_move rfl (hd 41 (by kernel_rfl) 63 rfl)) rfl⟩
    refine ⟨?_, ?_⟩
    · intro a' w' k' hb hf hs hc hq hg hd
      exact ⟨wantedF (d := 64) rfl rfl (by rw [hb.size, hsz]; omega) (hd 42 (by kernel_rfl) 64 rfl), k_val (.slice go gn gc) (by decide) hs (x_move rfl ((hb.old 6 (by decide +kernel)).trans h6)) rfl⟩
    refine ⟨?_, ?_⟩
    · intro a' w' k' hb hf hs hc hq hg hd
      exact ⟨wantedF (d := 64) rfl rfl (by rw [hb.size, hsz]; omega) (hd 42 (by kernel_rfl) 64 rfl), k_val (.pointer (some ⟨p', 0, none⟩)) (by decide) hs (x_move rfl ((hb.old 1 (by decide +kernel)).trans h1)) rfl⟩
    refine ⟨?_, ?_⟩
    · intro a' w' k' hb hf hs hc hq hg hd
      exact ⟨wantedF (d := 64) rfl rfl (by rw [hb.size, hsz]; omega) (hd 42 (by kernel_rfl) 64 rfl), k_val (.pointer (some ⟨p', 0, none⟩)) (by decide) hs (x_nilCheck rfl (hd 44 (by kernel_rfl) 66 rfl)) rfl⟩
    refine ⟨?_, ?_⟩
    · intro a' w' k' hb hf hs hc hq hg hd
      exact ⟨wantedF (d := 64) rfl rfl (by rw [hb.size, hsz]; omega) (hd 42 (by kernel_rfl) 64 rfl), k_val (.pointer (some ⟨p', 0 + 2, none⟩)) (by decide) hs (x_field (of := 0) (off := 2) (fa68_2 p') rfl (hd 45 (by kernel_rfl) 67 rfl)) rfl⟩
    refine ⟨?_, ?_⟩
    · intro a' w' k' hb hf hs hc hq hg hd
      exact ⟨wantedF (d := 64) rfl rfl (by rw [hb.size, hsz]; omega) (hd 42 (by kernel_rfl) 64 rfl), k_val (Y.gv) (by decide) hs (x_load1 ld51 rfl (hd 46 (by kernel_rfl) 68 rfl) ((unhide HP4).kept hs).ra.c2) rfl⟩
    refine ⟨?_, ?_⟩
    · intro a' w' k' hb hf hs hc hq hg hd
      exact ⟨wantedF (d := 64) rfl rfl (by rw [hb.size, hsz]; omega) (hd 42 (by kernel_rfl) 64 rfl), k_call 38 _ (by decide) (e_call2 rfl rfl (hd 43 (by kernel_rfl) 65 rfl) (hd 47 (by kernel_rfl) 69 rfl) cf38) ((ints_eq _ _ _ M.g ((unhide HG4).kept hs (fun _ _ h => h)) ((unhide HP4).kept hs).ra.rdG).mono (by rintro e w7 ⟨rfl, n7, rfl⟩; exact ⟨_, rfl, rfl, Fr.ofDrewN _ _, Fr.trans hs (Fr.ofDrewN _ _) (fun _ _ h => h)⟩))⟩
    refine ⟨?_, ?_⟩
    · intro a' w' k' hb hf hs hc hq hg hd
      exact ⟨wantedF (d := 64) rfl rfl (by rw [hb.size, hsz]; omega) (hd 42 (by kernel_rfl) 64 rfl), k_val (.bool false) (by decide) hs (x_not (b := true) rfl (hd 48 (by kernel_rfl) 70 rfl)) rfl⟩
    refine ⟨?_, ?_⟩
    · intro a' w' k' hb hf hs hc hq hg hd
      exact ⟨wantedN rfl, k_val (.bool false) (by decide) hs (x_pickF rfl (hd 42 (by kernel_rfl) 64 rfl) (hd 49 (by kernel_rfl) 71 rfl)) rfl⟩
    refine ⟨?_, ?_⟩
    · intro a' w' k' hb hf hs hc hq hg hd
      exact ⟨wantedN rfl, k_val (.bool false) (by decide) hs (x_move rfl (hd 50 (by kernel_rfl) 72 rfl)) rfl⟩
    refine ⟨?_, ?_⟩
    · intro a' w' k' hb hf hs hc hq hg hd
      exact ⟨wantedF (d := 73) rfl rfl (by rw [hb.size, hsz]; omega) (hd 51 (by kernel_rfl) 73 rfl), k_val (.slice (some ⟨mq, 0, none⟩) mn mn) (by decide) hs (x_move rfl ((hb.old 7 (by decide +kernel)).trans h7)) rfl⟩
    refine ⟨?_, ?_⟩
    · intro a' w' k' hb hf hs hc hq hg hd
      exact ⟨wantedF (d := 73) rfl rfl (by rw [hb.size, hsz]; omega) (hd 51 (by kernel_rfl) 73 rfl), k_val (.string (str (bm M.s))) (by decide) hs (x_conv rfl (hd 52 (by kernel_rfl) 74 rfl) (conv_rd (P := Try.prog) ((unhide HM4).kept hs (fun _ _ h => h)) 22 9 5 Try.underlying22 Try.underlying5 Try.underlying9)) rfl⟩
    refine ⟨?_, ?_⟩
    · intro a' w' k' hb hf hs hc hq hg hd
      exact ⟨wantedF (d := 73) rfl rfl (by rw [hb.size, hsz]; omega) (hd 51 (by kernel_rfl) 73 rfl), k_val (.pointer (some ⟨p', 0, none⟩)) (by decide) hs (x_move rfl ((hb.old 1 (by decide +kernel)).trans h1)) rfl⟩
    refine ⟨?_, ?_⟩
    · intro a' w' k' hb hf hs hc hq hg hd
      exact ⟨wantedF (d := 73) rfl rfl (by rw [hb.size, hsz]; omega) (hd 51 (by kernel_rfl) 73 rfl), k_call 54 _ (by decide) (e_call1 rfl rfl (hd 54 (by kernel_rfl) 76 rfl) cf54) ((rbitmap_rd _ p' Y M ((unhide HP4).kept hs).ra).mono (by rintro e w7 ⟨v7, rfl, h7, f⟩; exact ⟨_, rfl, h7, f, Fr.trans hs f (fun _ _ h => h)⟩))⟩
    refine ⟨?_, ?_⟩
    · intro a' w' k' hb hf hs hc hq hg hd
      have hh : Rd w' _ _ := (hd 55 (by kernel_rfl) 77 rfl); exact ⟨wantedF (d := 73) rfl rfl (by rw [hb.size, hsz]; omega) (hd 51 (by kernel_rfl) 73 rfl), k_val (.string (str (bm M.s))) (by decide) hs (x_conv rfl rfl (conv_rd (P := Try.prog) hh 22 9 5 Try.underlying22 Try.underlying5 Try.underlying9)) rfl⟩
    refine ⟨?_, ?_⟩
    · intro a' w' k' hb hf hs hc hq hg hd
      exact ⟨wantedF (d := 73) rfl rfl (by rw [hb.size, hsz]; omega) (hd 51 (by kernel_rfl) 73 rfl), k_val (.bool false) (by decide) hs (x_neS rfl (hd 53 (by kernel_rfl) 75 rfl) (hd 56 (by kernel_rfl) 78 rfl)) rfl⟩
    refine ⟨?_, ?_⟩
    · intro a' w' k' hb hf hs hc hq hg hd
      exact ⟨wantedN rfl, k_val (.bool false) (by decide) hs (x_pickF rfl (hd 51 (by kernel_rfl) 73 rfl) (hd 57 (by kernel_rfl) 79 rfl)) rfl⟩
    refine ⟨?_, ?_⟩
    · intro a' w' k' hb hf hs hc hq hg hd
      exact ⟨wantedN rfl, k_val (.bool false) (by decide) hs (x_move rfl (hd 58 (by kernel_rfl) 80 rfl)) rfl⟩
    refine ⟨?_, ?_⟩
    · intro a' w' k' hb hf hs hc hq hg hd
      exact ⟨wantedF (d := 81) rfl rfl (by rw [hb.size, hsz]; omega) (hd 59 (by kernel_rfl) 81 rfl), k_val (.slice ro rl rc) (by decide) hs (x_move rfl ((hb.old 8 (by decide +kernel)).trans h8)) rfl⟩
    refine ⟨?_, ?_⟩
    · intro a' w' k' hb hf hs hc hq hg hd
      exact ⟨wantedF (d := 81) rfl rfl (by rw [hb.size, hsz]; omega) (hd 59 (by kernel_rfl) 81 rfl), k_val (.pointer (some ⟨p', 0, none⟩)) (by decide) hs (x_move rfl ((hb.old 1 (by decide +kernel)).trans h1)) rfl⟩
    refine ⟨?_, ?_⟩
    · intro a' w' k' hb hf hs hc hq hg hd
      exact ⟨wantedF (d := 81) rfl rfl (by rw [hb.size, hsz]; omega) (hd 59 (by kernel_rfl) 81 rfl), k_call 56 _ (by decide) (e_call1 rfl rfl (hd 61 (by kernel_rfl) 83 rfl) cf56) ((rruns_any _ p' Y M ((unhide HP4).kept hs).ra).mono (by rintro e w7 ⟨⟨v7, rfl, h7⟩, f⟩; exact ⟨_, rfl, h7.older (Nat.le_trans (unhide HF4).size hs.size), f, Fr.trans hs f (fun _ _ h => h)⟩))⟩
    refine ⟨?_, ?_⟩
    · intro a' w' k' hb hf hs hc hq hg hd
      have hh : Nq w w' _ _ := (hd 62 (by kernel_rfl) 84 rfl); exact ⟨wantedF (d := 81) rfl rfl (by rw [hb.size, hsz]; omega) (hd 59 (by kernel_rfl) 81 rfl), k_call 55 _ (by decide) (e_call2 rfl rfl (hd 60 (by kernel_rfl) 82 rfl) rfl cf55) ((pairs_any _ w _ _ (rn M.s) ((unhide HR4).kept hs (fun _ _ h => h)) hh (unhide HRNL)).mono (by rintro e w7 ⟨rfl, f⟩; exact ⟨_, rfl, rfl, f, Fr.trans hs f (fun _ _ h => h)⟩))⟩
    refine ⟨?_, ?_⟩
    · intro a' w' k' hb hf hs hc hq hg hd
      exact ⟨wantedF (d := 81) rfl rfl (by rw [hb.size, hsz]; omega) (hd 59 (by kernel_rfl) 81 rfl), k_val (.bool false) (by decide) hs (x_not (b := true) rfl (hd 63 (by kernel_rfl) 85 rfl)) rfl⟩
    refine ⟨?_, ?_⟩
    · intro a' w' k' hb hf hs hc hq hg hd
      exact ⟨wantedN rfl, k_val (.bool false) (by decide) hs (x_pickF rfl (hd 59 (by kernel_rfl) 81 rfl) (hd 64 (by kernel_rfl) 86 rfl)) rfl⟩
    exact trivial
  case done =>
    intro a' w5 hb hf hs hall
    have hdf' : a'.defers = [] := by rw [hb.defers]; exact hdf
    obtain ⟨v22, hv22⟩ : ∃ v, a'.tmps.getD 22 undef = v := ⟨_, rfl⟩
    obtain ⟨v23, hv23⟩ : ∃ v, a'.tmps.getD 23 undef = v := ⟨_, rfl⟩
    obtain ⟨v24, hv24⟩ : ∃ v, a'.tmps.getD 24 undef = v := ⟨_, rfl⟩
    obtain ⟨v25, hv25⟩ : ∃ v, a'.tmps.getD 25 undef = v := ⟨_, rfl⟩
    obtain ⟨v26, hv26⟩ : ∃ v, a'.tmps.getD 26 undef = v := ⟨_, rfl⟩
    obtain ⟨v27, hv27⟩ : ∃ v, a'.tmps.getD 27 undef = v := ⟨_, rfl⟩
    obtain ⟨v28, hv28⟩ : ∃ v, a'.tmps.getD 28 undef = v := ⟨_, rfl⟩
    obtain ⟨v29, hv29⟩ : ∃ v, a'.tmps.getD 29 undef = v := ⟨_, rfl⟩
    obtain ⟨v30, hv30⟩ : ∃ v, a'.tmps.getD 30 undef = v := ⟨_, rfl⟩
    obtain ⟨v31, hv31⟩ : ∃ v, a'.tmps.getD 31 undef = v := ⟨_, rfl⟩
    obtain ⟨v32, hv32⟩ : ∃ v, a'.tmps.getD 32 undef = v := ⟨_, rfl⟩
    obtain ⟨v33, hv33⟩ : ∃ v, a'.tmps.getD 33 undef = v := ⟨_, rfl⟩
    obtain ⟨v34, hv34⟩ : ∃ v, a'.tmps.getD 34 undef = v := ⟨_, rfl⟩
    obtain ⟨v35, hv35⟩ : ∃ v, a'.tmps.getD 35 undef = v := ⟨_, rfl⟩
    obtain ⟨v36, hv36⟩ : ∃ v, a'.tmps.getD 36 undef = v := ⟨_, rfl⟩
    obtain ⟨v37, hv37⟩ : ∃ v, a'.tmps.getD 37 undef = v := ⟨_, rfl⟩
    obtain ⟨v38, hv38⟩ : ∃ v, a'.tmps.getD 38 undef = v := ⟨_, rfl⟩
    obtain ⟨v39, hv39⟩ : ∃ v, a'.tmps.getD 39 undef = v := ⟨_, rfl⟩
    obtain ⟨v40, hv40⟩ : ∃ v, a'.tmps.getD 40 undef = v := ⟨_, rfl⟩
    obtain ⟨v41, hv41⟩ : ∃ v, a'.tmps.getD 41 undef = v := ⟨_, rfl⟩
    obtain ⟨v42, hv42⟩ : ∃ v, a'.tmps.getD 42 undef = v := ⟨_, rfl⟩
    obtain ⟨v43, hv43⟩ : ∃ v, a'.tmps.getD 43 undef = v := ⟨_, rfl⟩
    obtain ⟨v44, hv44⟩ : ∃ v, a'.tmps.getD 44 undef = v := ⟨_, rfl⟩
    obtain ⟨v45, hv45⟩ : ∃ v, a'.tmps.getD 45 undef = v := ⟨_, rfl⟩
    obtain ⟨v46, hv46⟩ : ∃ v, a'.tmps.getD 46 undef = v := ⟨_, rfl⟩
    obtain ⟨v47, hv47⟩ : ∃ v, a'.tmps.getD 47 undef = v := ⟨_, rfl⟩
    obtain ⟨v48, hv48⟩ : ∃ v, a'.tmps.getD 48 undef = v := ⟨_, rfl⟩
    obtain ⟨v49, hv49⟩ : ∃ v, a'.tmps.getD 49 undef = v := ⟨_, rfl⟩
    obtain ⟨v50, hv50⟩ : ∃ v, a'.tmps.getD 50 undef = v := ⟨_, rfl⟩
    obtain ⟨v51, hv51⟩ : ∃ v, a'.tmps.getD 51 undef = v := ⟨_, rfl⟩
    obtain ⟨v52, hv52⟩ : ∃ v, a'.tmps.getD 52 undef = v := ⟨_, rfl⟩
    obtain ⟨v53, hv53⟩ : ∃ v, a'.tmps.getD 53 undef = v := ⟨_, rfl⟩
    obtain ⟨v54, hv54⟩ : ∃ v, a'.tmps.getD 54 undef = v := ⟨_, rfl⟩
    obtain ⟨v55, hv55⟩ : ∃ v, a'.tmps.getD 55 undef = v := ⟨_, rfl⟩
    obtain ⟨v56, hv56⟩ : ∃ v, a'.tmps.getD 56 undef = v := ⟨_, rfl⟩
    obtain ⟨v57, hv57⟩ : ∃ v, a'.tmps.getD 57 undef = v := ⟨_, rfl⟩
    obtain ⟨v58, hv58⟩ : ∃ v, a'.tmps.getD 58 undef = v := ⟨_, rfl⟩
    obtain ⟨v59, hv59⟩ : ∃ v, a'.tmps.getD 59 undef = v := ⟨_, rfl⟩
    obtain ⟨v60, hv60⟩ : ∃ v, a'.tmps.getD 60 undef = v := ⟨_, rfl⟩
    obtain ⟨v61, hv61⟩ : ∃ v, a'.tmps.getD 61 undef = v := ⟨_, rfl⟩
    obtain ⟨v62, hv62⟩ : ∃ v, a'.tmps.getD 62 undef = v := ⟨_, rfl⟩
    obtain ⟨v63, hv63⟩ : ∃ v, a'.tmps.getD 63 undef = v := ⟨_, rfl⟩
    obtain ⟨v64, hv64⟩ : ∃ v, a'.tmps.getD 64 undef = v := ⟨_, rfl⟩
    obtain ⟨v65, hv65⟩ : ∃ v, a'.tmps.getD 65 undef = v := ⟨_, rfl⟩
    obtain ⟨v66, hv66⟩ : ∃ v, a'.tmps.getD 66 undef = v := ⟨_, rfl⟩
    obtain ⟨v67, hv67⟩ : ∃ v, a'.tmps.getD 67 undef = v := ⟨_, rfl⟩
    obtain ⟨v68, hv68⟩ : ∃ v, a'.tmps.getD 68 undef = v := ⟨_, rfl⟩
    obtain ⟨v69, hv69⟩ : ∃ v, a'.tmps.getD 69 undef = v := ⟨_, rfl⟩
    obtain ⟨v70, hv70⟩ : ∃ v, a'.tmps.getD 70 undef = v := ⟨_, rfl⟩
    obtain ⟨v71, hv71⟩ : ∃ v, a'.tmps.getD 71 undef = v := ⟨_, rfl⟩
    obtain ⟨v72, hv72⟩ : ∃ v, a'.tmps.getD 72 undef = v := ⟨_, rfl⟩
    obtain ⟨v73, hv73⟩ : ∃ v, a'.tmps.getD 73 undef = v := ⟨_, rfl⟩
    obtain ⟨v74, hv74⟩ : ∃ v, a'.tmps.getD 74 undef = v := ⟨_, rfl⟩
    obtain ⟨v75, hv75⟩ : ∃ v, a'.tmps.getD 75 undef = v := ⟨_, rfl⟩
    obtain ⟨v76, hv76⟩ : ∃ v, a'.tmps.getD 76 undef = v := ⟨_, rfl⟩
    obtain ⟨v77, hv77⟩ : ∃ v, a'.tmps.getD 77 undef = v := ⟨_, rfl⟩
    obtain ⟨v78, hv78⟩ : ∃ v, a'.tmps.getD 78 undef = v := ⟨_, rfl⟩
    obtain ⟨v79, hv79⟩ : ∃ v, a'.tmps.getD 79 undef = v := ⟨_, rfl⟩
    obtain ⟨v80, hv80⟩ : ∃ v, a'.tmps.getD 80 undef = v := ⟨_, rfl⟩
    obtain ⟨v81, hv81⟩ : ∃ v, a'.tmps.getD 81 undef = v := ⟨_, rfl⟩
    obtain ⟨v82, hv82⟩ : ∃ v, a'.tmps.getD 82 undef = v := ⟨_, rfl⟩
    obtain ⟨v83, hv83⟩ : ∃ v, a'.tmps.getD 83 undef = v := ⟨_, rfl⟩
    obtain ⟨v84, hv84⟩ : ∃ v, a'.tmps.getD 84 undef = v := ⟨_, rfl⟩
    obtain ⟨v85, hv85⟩ : ∃ v, a'.tmps.getD 85 undef = v := ⟨_, rfl⟩
    obtain ⟨v86, hv86⟩ : ∃ v, a'.tmps.getD 86 undef = v := ⟨_, rfl⟩
    have hfr := frame_eq (a := a') (vs := [.pointer (some ⟨p, 0, none⟩), .pointer (some ⟨p', 0, none⟩), undef, undef, .bool false, .slice to tn tc, .slice go gn gc, .slice (some ⟨mq, 0, none⟩) mn mn, .slice ro rl rc, undef, undef, undef, undef, undef, .pointer (some ⟨p, 0, none⟩), .slice to tn tc, .pointer (some ⟨p, 0, none⟩), .slice go gn gc, .pointer (some ⟨p, 0, none⟩), .slice (some ⟨mq, 0, none⟩) mn mn, .pointer (some ⟨p, 0, none⟩), .slice ro rl rc, v22, v23, v24, v25, v26, v27, v28, v29, v30, v31, v32, v33, v34, v35, v36, v37, v38, v39, v40, v41, v42, v43, v44, v45, v46, v47, v48, v49, v50, v51, v52, v53, v54, v55, v56, v57, v58, v59, v60, v61, v62, v63, v64, v65, v66, v67, v68, v69, v70, v71, v72, v73, v74, v75, v76, v77, v78, v79, v80, v81, v82, v83, v84, v85, v86, .bool false, undef, undef, undef, undef, undef, undef, undef, undef, undef, undef, undef, undef, undef, undef, undef, undef, undef, undef, undef, undef, undef, undef, undef, undef, undef, undef, undef, undef, undef, undef, undef, undef, undef, undef, undef, undef, undef, undef, undef, undef, undef, undef, undef, undef, undef, undef, undef, undef, undef, undef, undef, undef, undef, undef, undef, undef, undef, undef, undef, undef, undef, undef, undef, undef, undef, undef, undef, undef, undef, undef, undef, undef, undef, undef, undef, undef, undef, undef]) (by rw [hb.size, hsz]; rfl) hdf' ⟨((hb.old 0 (by decide +kernel)).trans h0), ((hb.old 1 (by decide +kernel)).trans h1), ((hb.old 2 (by decide +kernel)).trans h2), ((hb.old 3 (by decide +kernel)).trans h3), ((hb.old 4 (by decide +kernel)).trans h4), ((hb.old 5 (by decide +kernel)).trans h5), ((hb.old 6 (by decide +kernel)).trans h6), ((hb.old 7 (by decide +kernel)).trans h7), ((hb.old 8 (by decide +kernel)).trans h8), ((hb.old 9 (by decide +kernel)).trans h9), ((hb.old 10 (by decide +kernel)).trans h10), ((hb.old 11 (by decide +kernel)).trans h11), ((hb.old 12 (by decide +kernel)).trans h12), ((hb.old 13 (by decide +kernel)).trans h13), ((hb.old 14 (by decide +kernel)).trans h14), ((hb.old 15 (by decide +kernel)).trans h15), ((hb.old 16 (by decide +kernel)).trans h16), ((hb.old 17 (by decide +kernel)).trans h17), ((hb.old 18 (by decide +kernel)).trans h18), ((hb.old 19 (by decide +kernel)).trans h19), ((hb.old 20 (by decide +kernel)).trans h20), ((hb.old 21 (by decide +kernel)).trans h21), hv22, hv23, hv24, hv25, hv26, hv27, hv28, hv29, hv30, hv31, hv32, hv33, hv34, hv35, hv36, hv37, hv38, hv39, hv40, hv41, hv42, hv43, hv44, hv45, hv46, hv47, hv48, hv49, hv50, hv51, hv52, hv53, hv54, hv55, hv56, hv57, hv58, hv59, hv60, hv61, hv62, hv63, hv64, hv65, hv66, hv67, hv68, hv69, hv70, hv71, hv72, hv73, hv74, hv75, hv76, hv77, hv78, hv79, hv80, hv81, hv82, hv83, hv84, hv85, hv86, (show a'.tmps.getD 87 undef = .bool false from hall 65 (by decide) 87 rfl), ((hb.old 88 (by decide +kernel)).trans h88), ((hb.old 89 (by decide +kernel)).trans h89), ((hb.old 90 (by decide +kernel)).trans h90), ((hb.old 91 (by decide +kernel)).trans h91), ((hb.old 92 (by decide +kernel)).trans h92), ((hb.old 93 (by decide +kernel)).trans h93), ((hb.old 94 (by decide +kernel)).trans h94), ((hb.old 95 (by decide +kernel)).trans h95), ((hb.old 96 (by decide +kernel)).trans h96), ((hb.old 97 (by decide +kernel)).trans h97), ((hb.old 98 (by decide +kernel)).trans h98), ((hb.old 99 (by decide +kernel)).trans h99), ((hb.old 100 (by decide +kernel)).trans h100), ((hb.old 101 (by decide +kernel)).trans h101), ((hb.old 102 (by decide +kernel)).trans h102), ((hb.old 103 (by decide +kernel)).trans h103), ((hb.old 104 (by decide +kernel)).trans h104), ((hb.old 105 (by decide +kernel)).trans h105), ((hb.old 106 (by decide +kernel)).trans h106), ((hb.old 107 (by decide +kernel)).trans h107), ((hb.old 108 (by decide +kernel)).trans h108), ((hb.old 109 (by decide +kernel)).trans h109), ((hb.old 110 (by decide +kernel)).trans h110), ((hb.old 111 (by decide +kernel)).trans h111), ((hb.old 112 (by decide +kernel)).trans h112), ((hb.old 113 (by decide +kernel)).trans h113), ((hb.old 114 (by decide +kernel)).trans h114), ((hb.old 115 (by decide +kernel)).trans h115), ((hb.old 116 (by decide +kernel)).trans h116), ((hb.old 117 (by decide +kernel)).trans h117), ((hb.old 118 (by decide +kernel)).trans h118), ((hb.old 119 (by decide +kernel)).trans h119), ((hb.old 120 (by decide +kernel)).trans h120), ((hb.old 121 (by decide +kernel)).trans h121), ((hb.old 122 (by decide +kernel)).trans h122), ((hb.old 123 (by decide +kernel)).trans h123), ((hb.old 124 (by decide +kernel)).trans h124), ((hb.old 125 (by decide +kernel)).trans h125), ((hb.old 126 (by decide +kernel)).trans h126), ((hb.old 127 (by decide +kernel)).trans h127), ((hb.old 128 (by decide +kernel)).trans h128), ((hb.old 129 (by decide +kernel)).trans h129), ((hb.old 130 (by decide +kernel)).trans h130), ((hb.old 131 (by decide +kernel)).trans h131), ((hb.old 132 (by decide +kernel)).trans h132), ((hb.old 133 (by decide +kernel)).trans h133), ((hb.old 134 (by decide +kernel)).trans h134), ((hb.old 135 (by decide +kernel)).trans h135), ((hb.old 136 (by decide +kernel)).trans h136), ((hb.old 137 (by decide +kernel)).trans h137), ((hb.old 138 (by decide +kernel)).trans h138), ((hb.old 139 (by decide +kernel)).trans h139), ((hb.old 140 (by decide +kernel)).trans h140), ((hb.old 141 (by decide +kernel)).trans h141), ((hb.old 142 (by decide +kernel)).trans h142), ((hb.old 143 (by decide +kernel)).trans h143), ((hb.old 144 (by decide +kernel)).trans h144), ((hb.old 145 (by decide +kernel)).trans h145), ((hb.old 146 (by decide +kernel)).trans h146), ((hb.old 147 (by decide +kernel)).trans h147), ((hb.old 148 (by decide +kernel)).trans h148), ((hb.old 149 (by decide +kernel)).trans h149), ((hb.old 150 (by decide +kernel)).trans h150), ((hb.old 151 (by decide +kernel)).trans h151), ((hb.old 152 (by decide +kernel)).trans h152), ((hb.old 153 (by decide +kernel)).trans h153), ((hb.old 154 (by decide +kernel)).trans h154), ((hb.old 155 (by decide +kernel)).trans h155), ((hb.old 156 (by decide +kernel)).trans h156), ((hb.old 157 (by decide +kernel)).trans h157), ((hb.old 158 (by decide +kernel)).trans h158), ((hb.old 159 (by decide +kernel)).trans h159), ((hb.old 160 (by decide +kernel)).trans h160), ((hb.old 161 (by decide +kernel)).trans h161), ((hb.old 162 (by decide +kernel)).trans h162), ((hb.old 163 (by decide +kernel)).trans h163), ((hb.old 164 (by decide +kernel)).trans h164), ((hb.old 165 (by decide +kernel)).trans h165), trivial⟩
    have HQ5 : Hid (Q4 w w5 (.slice to tn tc) (.slice go gn gc) tn gn mq mn (.slice ro rl rc) rl) := hide (by
      have h := unhide HQ
      obtain ⟨x1, h1⟩ := h.t
      obtain ⟨x2, h2⟩ := h.g
      obtain ⟨x3, h3, h3l⟩ := h.m
      obtain ⟨x4, h4⟩ := h.r
      exact { h with t := ⟨x1, owns_kept h1 hf (fun _ _ h => h)⟩, g := ⟨x2, owns_kept h2 hf (fun _ _ h => h)⟩, m := ⟨x3, h3.kept hf id, h3l⟩, r := ⟨x4, owns_kept h4 hf (fun _ _ h => h)⟩, f := h.f.trans hf (fun _ _ h => h) })
    clear hall hb hf hs hv22 hv23 hv24 hv25 hv26 hv27 hv28 hv29 hv30 hv31 hv32 hv33 hv34 hv35 hv36 hv37 hv38 hv39 hv40 hv41 hv42 hv43 hv44 hv45 hv46 hv47 hv48 hv49 hv50 hv51 hv52 hv53 hv54 hv55 hv56 hv57 hv58 hv59 hv60 hv61 hv62 hv63 hv64 hv65 hv66 hv67 hv68 hv69 hv70 hv71 hv72 hv73 hv74 hv75 hv76 hv77 hv78 hv79 hv80 hv81 hv82 hv83 hv84 hv85 hv86
    subst hfr
    try rw [unhide HA0]
    clear HA0 h0 h1 h2 h3 h4 h5 h6 h7 h8 h14 h15 h16 h17 h18 h19 h20 h21 h9 h10 h11 h12 h13 h88 h89 h90 h91 h92 h93 h94 h95 h96 h97 h98 h99 h100 h101 h102 h103 h104 h105 h106 h107 h108 h109 h110 h111 h112 h113 h114 h115 h116 h117 h118 h119 h120 h121 h122 h123 h124 h125 h126 h127 h128 h129 h130 h131 h132 h133 h134 h135 h136 h137 h138 h139 h140 h141 h142 h143 h144 h145 h146 h147 h148 h149 h150 h151 h152 h153 h154 h155 h156 h157 h158 h159 h160 h161 h162 h163 h164 h165 hsz hdf hdf' HQ HT4 HG4 HM4 HR4
    apply_assumption
    go_wp2_with fail
    go_loopw [9] (fun y W => ∃ i : Nat, i ≤ tn ∧ y = .int .i64 (i : Int) ∧ Q4 w W (.slice to tn tc) (.slice go gn gc) tn gn mq mn (.slice ro rl rc) rl) (fun y _ => tn - (intOf y).toNat)
    case atStart => exact ⟨0, by omega, rfl, unhide HQ5⟩
    case round =>
      clear HQ5
      obtain ⟨i, hi, rfl, hQ⟩ := hrel
      have HQ := hide hQ
      by_cases hlt : i < tn
      · obtain ⟨xs, hO⟩ := hQ.t
        obtain ⟨gg, yy, rfl, hcc, hce, hzf⟩ := owns_at hO hlt
        have HQN := hide (hQ.setT rfl hlt (.int .i64 (-9)))
        clear hQ hO
        go_wp2_with fail
        go_roundw
        case rel => exact ⟨i + 1, by omega, by go_num, unhide HQN⟩
        case measure => simp [intOf]; omega
      · have hie : tn = i := by omega
        have HQ5 := HQ
        clear hQ hi hlt HQ
        subst hie
        go_wp2_with fail
        go_loopw [10] (fun y W => ∃ i : Nat, i ≤ gn ∧ y = .int .i64 (i : Int) ∧ Q4 w W (.slice to tn tc) (.slice go gn gc) tn gn mq mn (.slice ro rl rc) rl) (fun y _ => gn - (intOf y).toNat)
        case atStart => exact ⟨0, by omega, rfl, unhide HQ5⟩
        case round =>
          clear HQ5
          obtain ⟨i, hi, rfl, hQ⟩ := hrel
          have HQ := hide hQ
          by_cases hlt : i < gn
          · obtain ⟨xs, hO⟩ := hQ.g
            obtain ⟨gg, yy, rfl, hcc, hce, hzf⟩ := owns_at hO hlt
            have HQN := hide (hQ.setG rfl hlt (.int .i64 (-9)))
            clear hQ hO
            go_wp2_with fail
            go_roundw
            case rel => exact ⟨i + 1, by omega, by go_num, unhide HQN⟩
            case measure => simp [intOf]; omega
          · have hie : gn = i := by omega
            have HQ5 := HQ
            clear hQ hi hlt HQ
            subst hie
            go_wp2_with fail
            go_loopw [11] (fun y W => ∃ i : Nat, i ≤ mn ∧ y = .int .i64 (i : Int) ∧ Q4 w W (.slice to tn tc) (.slice go gn gc) tn gn mq mn (.slice ro rl rc) rl) (fun y _ => mn - (intOf y).toNat)
            case atStart => exact ⟨0, by omega, rfl, unhide HQ5⟩
            case round =>
              clear HQ5
              obtain ⟨i, hi, rfl, hQ⟩ := hrel
              have HQ := hide hQ
              by_cases hlt : i < mn
              · obtain ⟨lm, hB, hlm⟩ := hQ.m
                have hlt2 : i < lm.length := by omega
                have hce := hB.cell i hlt2
                have hzf := hB.frozen i
                have HQN := hide (hQ.setM i 85)
                generalize (lm[i]).toNat = xb at *
                clear hQ hB hlm hlt2
                go_wp2_with fail
                go_roundw
                case rel => exact ⟨i + 1, by omega, by go_num, unhide HQN⟩
                case measure => simp [intOf]; omega
              · have hie : mn = i := by omega
                have HQ5 := HQ
                clear hQ hi hlt HQ
                subst hie
                go_wp2_with fail
                go_loopw [12] (fun y W => ∃ i : Nat, i ≤ rl ∧ y = .int .i64 (i : Int) ∧ Q4 w W (.slice to tn tc) (.slice go gn gc) tn gn mq mn (.slice ro rl rc) rl) (fun y _ => rl - (intOf y).toNat)
                case atStart => exact ⟨0, by omega, rfl, unhide HQ5⟩
                case round =>
                  clear HQ5
                  obtain ⟨i, hi, rfl, hQ⟩ := hrel
                  have HQ := hide hQ
                  by_cases hlt : i < rl
                  · obtain ⟨xs, hO⟩ := hQ.r
                    obtain ⟨gg, y0, y1, rfl, hcc, hc0, hc1, hz0, hz1⟩ := owns_at2 hO hlt
                    have HQN := hide ((hQ.setR rfl (show i * 2 < rl * 2 by omega) (.int .i64 (-9))).setR rfl (show i * 2 + 1 < rl * 2 by omega) (.int .i64 (-9)))
                    clear hQ hO
                    go_wp2_with fail
                    go_roundw
                    case rel => exact ⟨i + 1, by omega, by go_num, unhide HQN⟩
                    case measure => simp [intOf]; omega
                  · have hie : rl = i := by omega
                    have HQ5 := HQ
                    clear hQ hi hlt HQ
                    subst hie
                    go_wp2_with fail
                    have HP9 := hide ((unhide HPA).kept (unhide HQ5).f)
                    obtain ⟨w9, hw9⟩ : ∃ w9, w9 = wr := ⟨_, rfl⟩
                    have HW9 := hide hw9
                    have HF9 : Hid (Fr (fun _ => False) w w9) := hide (by rw [hw9]; exact (unhide HQ5).f)
                    have HP9 : Hid (PA w0 w9 p X p' Y K M k) := hide (by rw [hw9]; exact unhide HP9)
                    obtain ⟨n, hn⟩ : ∃ n, n = M.s.length := ⟨_, rfl⟩
                    have HN := hide hn
                    have hn3 : n ≤ 65536 := by rw [hn, (unhide HAB).s]; exact hn2
                    clear hw9 hn HQ5 hn2
                    go_loopw [13] (fun y W => ∃ b : Int, -1 ≤ b ∧ b ≤ (n : Int) + 1 ∧ y = .int .i64 b ∧ Hid (W = w9)) (fun y _ => ((n : Int) + 1 - intOf y).toNat)
                    case atStart => exact ⟨-1, by omega, by omega, rfl, hide (unhide HW9).symm⟩
                    case round =>
                      clear HW9
                      obtain ⟨b, hb1, hb2, rfl, hww⟩ := hrel
                      have hww2 := unhide hww
                      clear hww
                      subst hww2
                      have d0 := (unhide HP9).ra.c0
                      rw [← unhide HN] at d0
                      by_cases hbn : b ≤ (n : Int)
                      · have bl : decide (b ≤ (n : Int)) = true := by simpa using hbn
                        have HSA := hide (stateI_any wr p X K b (unhide HP9).ka)
                        have HSB := hide (rstate_any wr p' Y M (unhide HP9).ra b)
                        rw [(unhide HAB).s] at HSB
                        generalize stI K.s b = sb9 at *
                        unfold ptr at *
                        go_wp2_with fail
                        refine (unhide HSA).mono ?_
                        rintro e w' ⟨rfl, rfl⟩
                        go_wp2_with fail
                        refine (unhide HSB).mono ?_
                        rintro e w' ⟨rfl, rfl⟩
                        go_wp2_with fail
                        go_roundw
                        case rel => exact ⟨b + 1, by omega, by omega, by go_num, hide (by trivial)⟩
                        case measure => simp [intOf]; omega
                      · have bl : decide (b ≤ (n : Int)) = false := by simpa using hbn
                        go_wp2_with fail
                        refine wp_nameK ?_
                        intro a0 hA
                        have h0 : a0.tmps.getD 0 undef = .pointer (some ⟨p, 0, none⟩) := by rw [hA]; rfl
                        have h1 : a0.tmps.getD 1 undef = .pointer (some ⟨p', 0, none⟩) := by rw [hA]; rfl
                        have hsz : a0.tmps.size = 166 := by rw [hA]; rfl
                        have hdf : a0.defers = [] := by rw [hA]
                        clear hA
                        refine wp_region_kinds (fun _ => False) (by kernel_rfl) (by kernel_rfl) (by decide +kernel) (by rw [hsz]; decide +kernel) [.eq (.pointer (some ⟨p, 0, none⟩)), kNv M.t, .eq (.pointer (some ⟨p', 0, none⟩)), .eq (.pointer (some ⟨p', 0, none⟩)), .eq (.pointer (some ⟨p', 0 + 1, none⟩)), .eq (Y.tv), .eq (.bool true), .eq (.bool true), .eq (.pointer (some ⟨p, 0, none⟩)), kNv M.g, .eq (.pointer (some ⟨p', 0, none⟩)), .eq (.pointer (some ⟨p', 0, none⟩)), .eq (.pointer (some ⟨p', 0 + 2, none⟩)), .eq (Y.gv), .eq (.bool true), .eq (.bool true), .eq (.bool true), .eq (.pointer (some ⟨p, 0, none⟩)), kRb (bm M.s), .eq (.string (str (bm M.s))), .eq (.pointer (some ⟨p', 0, none⟩)), kRb (bm M.s), .eq (.string (str (bm M.s))), .eq (.bool true), .eq (.bool true), .eq (.bool true)] [] (by decide) (by decide) (nopaths) (fun _ W => Fr (fun _ => False) wr W) (Fr.refl _ _).drew ?steps ?done
                        case steps =>
                          refine ⟨?_, ?_⟩
                          · intro a' w' k' hb hf hs hc hq hg hd
                            exact ⟨wantedN rfl, k_val (.pointer (some ⟨p, 0, none⟩)) (by decide) hs (x_move rfl ((hb.old 0 (by decide +kernel)).trans h0)) rfl⟩
                          refine ⟨?_, ?_⟩
                          · intro a' w' k' hb hf hs hc hq hg hd
                            exact ⟨wantedN rfl, k_call 24 _ (by decide) (e_call1 rfl rfl (hd 0 (by kernel_rfl) 141 rfl) cf24) ((taken_nv _ p X K M ((unhide HP9).kept hs).ka (unhide HAB)).mono (by rintro e w7 ⟨v7, rfl, h7, f⟩; exact ⟨_, rfl, h7.rd, f, Fr.trans hs f (fun _ _ h => h)⟩))⟩
                          refine ⟨?_, ?_⟩
                          · intro a' w' k' hb hf hs hc hq hg hd
                            exact ⟨wantedN rfl, k_val (.pointer (some ⟨p', 0, none⟩)) (by decide) hs (x_move rfl ((hb.old 1 (by decide +kernel)).trans h1)) rfl⟩
                          refine ⟨?_, ?_⟩
                          · intro a' w' k' hb hf hs hc hq hg hd
                            exact ⟨wantedN rfl, k_val (.pointer (some ⟨p', 0, none⟩)) (by decide) hs (x_nilCheck rfl (hd 2 (by kernel_rfl) 143 rfl)) rfl⟩
                          refine ⟨?_, ?_⟩
                          · intro a' w' k' hb hf hs hc hq hg hd
                            exact ⟨wantedN rfl, k_val (.pointer (some ⟨p', 0 + 1, none⟩)) (by decide) hs (x_field (of := 0) (off := 1) (fa68_1 p') rfl (hd 3 (by kernel_rfl) 144 rfl)) rfl⟩
                          refine ⟨?_, ?_⟩
                          · intro a' w' k' hb hf hs hc hq hg hd
                            exact ⟨wantedN rfl, k_val (Y.tv) (by decide) hs (x_load1 ld51 rfl (hd 4 (by kernel_rfl) 145 rfl) ((unhide HP9).kept hs).ra.c1) rfl⟩
                          refine ⟨?_, ?_⟩
                          · intro a' w' k' hb hf hs hc hq hg hd
                            have hh : RdV w' _ _ := (hd 1 (by kernel_rfl) 142 rfl); exact ⟨wantedN rfl, k_call 38 _ (by decide) (e_call2 rfl rfl rfl (hd 5 (by kernel_rfl) 146 rfl) cf38) ((ints_eq _ _ _ M.t hh ((unhide HP9).kept hs).ra.rdT).mono (by rintro e w7 ⟨rfl, n7, rfl⟩; exact ⟨_, rfl, rfl, Fr.ofDrewN _ _, Fr.trans hs (Fr.ofDrewN _ _) (fun _ _ h => h)⟩))⟩
                          refine ⟨?_, ?_⟩
                          · intro a' w' k' hb hf hs hc hq hg hd
                            exact ⟨wantedN rfl, k_val (.bool true) (by decide) hs (x_move rfl (hd 6 (by kernel_rfl) 147 rfl)) rfl⟩
                          refine ⟨?_, ?_⟩
                          · intro a' w' k' hb hf hs hc hq hg hd
                            exact ⟨wantedT (d := 148) rfl rfl (by rw [hb.size, hsz]; omega) (hd 7 (by kernel_rfl) 148 rfl), k_val (.pointer (some ⟨p, 0, none⟩)) (by decide) hs (x_move rfl ((hb.old 0 (by decide +kernel)).trans h0)) rfl⟩
                          refine ⟨?_, ?_⟩
                          · intro a' w' k' hb hf hs hc hq hg hd
                            exact ⟨wantedT (d := 148) rfl rfl (by rw [hb.size, hsz]; omega) (hd 7 (by kernel_rfl) 148 rfl), k_call 25 _ (by decide) (e_call1 rfl rfl (hd 8 (by kernel_rfl) 149 rfl) cf25) ((given_nv _ p X K M ((unhide HP9).kept hs).ka (unhide HAB)).mono (by rintro e w7 ⟨v7, rfl, h7, f⟩; exact ⟨_, rfl, h7.rd, f, Fr.trans hs f (fun _ _ h => h)⟩))⟩
                          refine ⟨?_, ?_⟩
                          · intro a' w' k' hb hf hs hc hq hg hd
                            exact ⟨wantedT (d := 148) rfl rfl (by rw [hb.size, hsz]; omega) (hd 7 (by kernel_rfl) 148 rfl), k_val (.pointer (some ⟨p', 0, none⟩)) (by decide) hs (x_move rfl ((hb.old 1 (by decide +kernel)).trans h1)) rfl⟩
                          refine ⟨?_, ?_⟩
                          · intro a' w' k' hb hf hs hc hq hg hd
                            exact ⟨wantedT (d := 148) rfl rfl (by rw [hb.size, hsz]; omega) (hd 7 (by kernel_rfl) 148 rfl), k_val (.pointer (some ⟨p', 0, none⟩)) (by decide) hs (x_nilCheck rfl (hd 10 (by kernel_rfl) 151 rfl)) rfl⟩
                          refine ⟨?_, ?_⟩
                          · intro a' w' k' hb hf hs hc hq hg hd
                            exact ⟨wantedT (d := 148) rfl rfl (by rw [hb.size, hsz]; omega) (hd 7 (by kernel_rfl) 148 rfl), k_val (.pointer (some ⟨p', 0 + 2, none⟩)) (by decide) hs (x_field (of := 0) (off := 2) (fa68_2 p') rfl (hd 11 (by kernel_rfl) 152 rfl)) rfl⟩
                          refine ⟨?_, ?_⟩
                          · intro a' w' k' hb hf hs hc hq hg hd
                            exact ⟨wantedT (d := 148) rfl rfl (by rw [hb.size, hsz]; omega) (hd 7 (by kernel_rfl) 148 rfl), k_val (Y.gv) (by decide) hs (x_load1 ld51 rfl (hd 12 (by kernel_rfl) 153 rfl) ((unhide HP9).kept hs).ra.c2) rfl⟩
                          refine ⟨?_, ?_⟩
                          · intro a' w' k' hb hf hs hc hq hg hd
                            have hh : RdV w' _ _ := (hd 9 (by kernel_rfl) 150 rfl); exact ⟨wantedT (d := 148) rfl rfl (by rw [hb.size, hsz]; omega) (hd 7 (by kernel_rfl) 148 rfl), k_call 38 _ (by decide) (e_call2 rfl rfl rfl (hd 13 (by kernel_rfl) 154 rfl) cf38) ((ints_eq _ _ _ M.g hh ((unhide HP9).kept hs).ra.rdG).mono (by rintro e w7 ⟨rfl, n7, rfl⟩; exact ⟨_, rfl, rfl, Fr.ofDrewN _ _, Fr.trans hs (Fr.ofDrewN _ _) (fun _ _ h => h)⟩))⟩
                          refine ⟨?_, ?_⟩
                          · intro a' w' k' hb hf hs hc hq hg hd
                            exact ⟨wantedN rfl, k_val (.bool true) (by decide) hs (x_pickT rfl (hd 7 (by kernel_rfl) 148 rfl) (hd 14 (by kernel_rfl) 155 rfl)) rfl⟩
                          refine ⟨?_, ?_⟩
                          · intro a' w' k' hb hf hs hc hq hg hd
                            exact ⟨wantedN rfl, k_val (.bool true) (by decide) hs (x_move rfl (hd 15 (by kernel_rfl) 156 rfl)) rfl⟩
                          refine ⟨?_, ?_⟩
                          · intro a' w' k' hb hf hs hc hq hg hd
                            exact ⟨wantedT (d := 157) rfl rfl (by rw [hb.size, hsz]; omega) (hd 16 (by kernel_rfl) 157 rfl), k_val (.pointer (some ⟨p, 0, none⟩)) (by decide) hs (x_move rfl ((hb.old 0 (by decide +kernel)).trans h0)) rfl⟩
                          refine ⟨?_, ?_⟩
                          · intro a' w' k' hb hf hs hc hq hg hd
                            exact ⟨wantedT (d := 157) rfl rfl (by rw [hb.size, hsz]; omega) (hd 16 (by kernel_rfl) 157 rfl), k_call 20 _ (by decide) (e_call1 rfl rfl (hd 17 (by kernel_rfl) 158 rfl) cf20) ((bitmap_rd _ p X K ((unhide HP9).kept hs).ka (bm M.s) (by rw [(unhide HAB).s])).mono (by rintro e w7 ⟨v7, rfl, h7, f⟩; exact ⟨_, rfl, h7, f, Fr.trans hs f (fun _ _ h => h)⟩))⟩
                          refine ⟨?_, ?_⟩
                          · intro a' w' k' hb hf hs hc hq hg hd
                            have hh : Rd w' _ _ := (hd 18 (by kernel_rfl) 159 rfl); exact ⟨wantedT (d := 157) rfl rfl (by rw [hb.size, hsz]; omega) (hd 16 (by kernel_rfl) 157 rfl), k_val (.string (str (bm M.s))) (by decide) hs (x_conv rfl rfl (conv_rd (P := Try.prog) hh 22 9 5 Try.underlying22 Try.underlying5 Try.underlying9)) rfl⟩
                          refine ⟨?_, ?_⟩
                          · intro a' w' k' hb hf hs hc hq hg hd
                            exact ⟨wantedT (d := 157) rfl rfl (by rw [hb.size, hsz]; omega) (hd 16 (by kernel_rfl) 157 rfl), k_val (.pointer (some ⟨p', 0, none⟩)) (by decide) hs (x_move rfl ((hb.old 1 (by decide +kernel)).trans h1)) rfl⟩
                          refine ⟨?_, ?_⟩
                          · intro a' w' k' hb hf hs hc hq hg hd
                            exact ⟨wantedT (d := 157) rfl rfl (by rw [hb.size, hsz]; omega) (hd 16 (by kernel_rfl) 157 rfl), k_call 54 _ (by decide) (e_call1 rfl rfl (hd 20 (by kernel_rfl) 161 rfl) cf54) ((rbitmap_rd _ p' Y M ((unhide HP9).kept hs).ra).mono (by rintro e w7 ⟨v7, rfl, h7, f⟩; exact ⟨_, rfl, h7, f, Fr.trans hs f (fun _ _ h => h)⟩))⟩
                          refine ⟨?_, ?_⟩
                          · intro a' w' k' hb hf hs hc hq hg hd
                            have hh : Rd w' _ _ := (hd 21 (by kernel_rfl) 162 rfl); exact ⟨wantedT (d := 157) rfl rfl (by rw [hb.size, hsz]; omega) (hd 16 (by kernel_rfl) 157 rfl), k_val (.string (str (bm M.s))) (by decide) hs (x_conv rfl rfl (conv_rd (P := Try.prog) hh 22 9 5 Try.underlying22 Try.underlying5 Try.underlying9)) rfl⟩
                          refine ⟨?_, ?_⟩
                          · intro a' w' k' hb hf hs hc hq hg hd
                            exact ⟨wantedT (d := 157) rfl rfl (by rw [hb.size, hsz]; omega) (hd 16 (by kernel_rfl) 157 rfl), k_val (.bool true) (by decide) hs (x_eqS rfl (hd 19 (by kernel_rfl) 160 rfl) (hd 22 (by kernel_rfl) 163 rfl)) rfl⟩
                          refine ⟨?_, ?_⟩
                          · intro a' w' k' hb hf hs hc hq hg hd
                            exact ⟨wantedN rfl, k_val (.bool true) (by decide) hs (x_pickT rfl (hd 16 (by kernel_rfl) 157 rfl) (hd 23 (by kernel_rfl) 164 rfl)) rfl⟩
                          refine ⟨?_, ?_⟩
                          · intro a' w' k' hb hf hs hc hq hg hd
                            exact ⟨wantedN rfl, k_val (.bool true) (by decide) hs (x_assign rfl (hd 24 (by kernel_rfl) 165 rfl)) rfl⟩
                          exact trivial
                        case done =>
                          intro a' w' hb hf hs hall
                          have hres : a'.tmps.getD 4 undef = .bool true := hall 25 (by decide) 4 rfl
                          have hdf' : a'.defers = [] := by rw [hb.defers]; exact hdf
                          have hF : Fr (fun _ => False) w w' := (unhide HF9).trans hf (fun _ _ h => h)
                          have hr : bodyPost Try.prog Try.f15 (fun e w' => e = Ending.returned (Value.bool true) ∧ Fr (fun x => False) w w') .ret a' w' :=
                            bodyPost_ret (v := .bool true) (by
                              have h6' : a'.tmps[4]?.getD undef = .bool true := by simpa using hres
                              simp [results, Try.results15, go_sem, h6']) hdf' ⟨rfl, hF⟩
                          clear hall hb
                          apply_assumption
                          exact wp_ret hr
end Go.Proofs.Ytbpajilglfabbaa
