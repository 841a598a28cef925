/-
  The walk of package sha's Write.
-/
import Derived.Test.YtlicmlioilkfdaaDoorH2
namespace Go.Proofs.YtlicmlioilkfdaaDoor
open Go.RowKit Go.Sort
set_option linter.unusedVariables false
set_option linter.unusedSimpArgs false

attribute [local go_sem ↓] Go.wp_at_zero Go.wp_at_succ

def slLen : Value → Nat
  | .slice _ n _ => n
  | _ => 0

theorem wpList_store_mid0 {P : Program} {ops : Array Oper} {rest : List Oper} {op : Oper} {a : Act} {w : World} {Q : Exit → Act → World → Prop} (hgd : op.guard = none) (hdst : op.dst = none) (ty : TypeId) (x y : Operand) (ho : op.op = .store ty x y)
    (b o : Nat) (cells : Array Value) (hx : a.eval x = .pointer (some ⟨b, o, none⟩)) (hy : a.eval y = .agg cells)
    (ht : w.there b o cells.size) (hi : (P.info? ty).map (·.size) = some cells.size) (h1 : cells.all (·.oneCell') = true)
    (h : wpList P ops Q rest a (w.setCells b o cells.toList)) : wpList P ops Q (op :: rest) a w :=
  wpList_store_mid hgd ty x y ho b o cells hx hy ht hi h1 (by rw [hdst]; exact h)

theorem wpList_world {P : Program} {ops : Array Oper} {Q : Exit → Act → World → Prop} {l : List Oper} {a : Act} {w : World} (h : ∀ w2, w2 = w → wpList P ops Q l a w2) : wpList P ops Q l a w := h w rfl

theorem HAt.there {w : World} {p : Nat} {s : St} {n : Nat} {pc : List UInt8} (h : HAt w p s n pc) : w.there p 0 8 := by
  intro j hj
  refine ⟨?_, frozen_of_heap h.heap _⟩
  rw [Nat.zero_add, h.word j hj]
  rfl

theorem HAt.setS {w : World} {p : Nat} {s : St} {n : Nat} {pc : List UInt8} (h : HAt w p s n pc) (z : St) : HAt (w.setCells p 0 (wvs z.l)) p z n pc := by
  refine ⟨?_, h.len, h.fit⟩
  have := setCells_whole p 79 (wvs z.l) 0 w (hcs s n pc) h.heap (by rw [hcs_length, wvs_length]; show 0 + 8 ≤ _; omega)
  rw [this]
  congr 3

theorem Rd.blk {w : World} {v : Value} {q : List UInt8} (h : Rd w v q) : ∀ b, v.ownBlock = some b → q = [] ∨ b < w.heap.size := by
  intro b hb
  by_cases hq : q = []
  · exact .inl hq
  · obtain ⟨ao, cap, rfl⟩ := h.shape
    obtain ⟨b', o, rfl, -, -, -, hc⟩ := h.lits (List.length_pos_iff.2 hq)
    have e : b' = b := by simpa [Value.ownBlock] using hb
    subst e
    exact .inr (World.block_lt_of_cell? w _ (hc 0 (List.length_pos_iff.2 hq)))
theorem Rd.keptE {S : Nat → Prop} {w w' : World} {v : Value} {l : List UInt8} (h : Rd w v l) (f : Fr S w w') (hS : ∀ b, v.ownBlock = some b → l = [] ∨ ¬ S b) : Rd w' v l := by
  by_cases hl : l = []
  · subst hl
    rcases h with h | ⟨ad, cap, rfl, h1, h2, h3⟩
    · exact .inl h
    · exact .inr ⟨ad, cap, rfl, h1, h2, fun j hj => absurd hj (by simp)⟩
  · exact h.kept f (fun b hb => (hS b hb).resolve_left hl)

theorem write_nil (w : World) (v : Value) : Calls Tryd.prog 20 #[.pointer none, v] w fun e w' => e = .returned (.tuple #[]) ∧ w = w' := by
  go_enter Tryd.func20, Tryd.ntmps20
  go_wp2
  refine bodyPost_ret (results_none rfl _ _ _) rfl ?_
  exact ⟨rfl, rfl⟩

set_option maxHeartbeats 1000000 in
set_option maxRecDepth 100000 in
theorem write_any (w : World) (p : Nat) (s : St) (n : Nat) (r : List UInt8) (v : Value) (q : List UInt8) (T : Tb w) (h : HH w p s n r) (hv : Rd w v q) (hne : ∀ b, v.ownBlock = some b → q = [] ∨ b ≠ p) :
    Calls Tryd.prog 20 #[.pointer (some ⟨p, 0, none⟩), v] w fun e w' => e = .returned (.tuple #[]) ∧ HH w' p (feed s (r ++ q)).1 ((n + q.length) % 18446744073709551616) (feed s (r ++ q)).2 ∧ Fr (fun k => k = p) w w' := by
  obtain ⟨ao, cap, rfl⟩ := hv.shape
  have hp01 := h.choose_spec.1.ne T
  go_enter Tryd.func20, Tryd.ntmps20
  go_wp2_with fail
  go_loopw [1] (fun x w' => ∃ (s2 : St) (n2 : Nat) (pc2 q2 : List UInt8) (ao2 : Option Addr) (cap2 : Nat), x = .slice ao2 q2.length cap2 ∧ Rd w' (.slice ao2 q2.length cap2) q2 ∧ (∀ b, (Value.slice ao2 q2.length cap2).ownBlock = some b → q2 = [] ∨ b ≠ p) ∧ HAt w' p s2 n2 pc2 ∧ feed s2 (pc2.take (n2 % 64) ++ q2) = feed s (r ++ q) ∧ (n2 + q2.length) % 18446744073709551616 = (n + q.length) % 18446744073709551616 ∧ Fr (fun k => k = p) w w') (fun x _ => slLen x)
  case atStart =>
    obtain ⟨pc, h1, h2⟩ := h
    exact ⟨s, n, pc, q, ao, cap, rfl, hv, hne, h1, by rw [h2], rfl, Fr.refl _ _⟩
  case round =>
    obtain ⟨s2, n2, pc2, q2, ao2, cap2, rfl, hq, hqb, hH, hfeed, hnn, hf⟩ := hrel
    by_cases hq0 : q2 = []
    · subst hq0
      have hfin : HH wr p (feed s (r ++ q)).1 ((n + q.length) % 18446744073709551616) (feed s (r ++ q)).2 := by
        rw [List.append_nil, feed_few _ _ (by rw [List.length_take]; have := Nat.mod_lt n2 (show 0 < 64 by decide); omega)] at hfeed
        rw [← hfeed, ← hnn]
        have : (n2 + 0) % 18446744073709551616 = n2 := Nat.mod_eq_of_lt hH.fit
        rw [List.length_nil, this]
        exact ⟨pc2, hH, rfl⟩
      have HFIN := hide hfin
      clear hfin hq hqb hH hfeed hnn
      go_wp2_with fail
      go_end0
      exact ⟨rfl, unhide HFIN, hf⟩
    · have hql : 0 < q2.length := List.length_pos_iff.2 hq0
      obtain ⟨b, o, rfl, -, hnc, hcm, hcell⟩ := hq.lits hql
      have hk : n2 % 64 < 64 := Nat.mod_lt _ (by decide)
      have hst := feed_step s2 pc2 q2 (n2 % 64) hH.len hk hq0
      have hR := fun m => left_any (wr.drewN m) p s2 n2 pc2 (hH.kept (frD wr m (fun _ => False)) id)
      have hlc := hcs_length s2 n2 pc2
      have hpl := hH.len
      have hbp : b ≠ p := (hqb b rfl).resolve_left hq0
      have hmod : n2 % 64 = n2 % 64 := rfl
      generalize hkk : n2 % 64 = k at *
      have HKK := hide hkk
      have HST := hide hst
      have HH1 := hide hH
      have HQ := hide hq
      have HF := hide hf
      have HFEED := hide hfeed
      have HNN := hide hnn
      have HC := hide hcell
      have HPL := hide hpl
      have HLC := hide hlc
      clear hst hH hq hqb hfeed hnn hcell hf hkk hmod hpl hlc
      have b1 : (0 : Int) ≤ (k : Int) := by omega
      have b2 : (k : Int) ≤ 64 := by omega
      have b4 : (64 = k) = False := by simp; omega
      go_wp2_with fail
      refine wp_region_quietTail 7 (by kernel_rfl) (by kernel_rfl) ?_
      simp only [List.take_succ_cons, List.take_zero]
      have hR2 : ∀ m, Calls Tryd.prog 42 #[.pointer (some ⟨p, 0, none⟩)] (wr.drewN m) fun e w'' => e = .returned (.int .i64 (k : Int)) ∧ ∃ m, w'' = wr.drewN m := fun m => (hR m).mono (by rintro e w' ⟨rfl, rfl⟩; exact ⟨rfl, m, rfl⟩)
      repeat (go_big_quiet_step (exact hR2 _))
      refine wpQuiet_nil ?_
      intro _ hw'
      obtain ⟨nq, hw''⟩ := hw'
      subst hw''
      simp only [List.drop_succ_cons, List.drop_zero]
      refine wpList_copyG rfl _ _ rfl rfl p (9 + k) (64 - k) (64 - k) (hcs s2 n2 pc2) 79 _ q2 rfl rfl (((unhide HH1).kept (frD wr nq (fun _ => False)) id).heap) ((unhide HQ).kept (frD wr nq (fun _ => False)) (fun _ _ h => h)) (by omega) (by rw [unhide HLC, unhide HPL]; omega) ?_
      intro w3 h3 f3
      obtain ⟨st1, st2, st3, st4⟩ := unhide HST
      have hH0 := unhide HH1
      have hpl := unhide HPL
      have hlt : (q2.take (64 - k)).length = min q2.length (64 - k) := by rw [List.length_take, Nat.min_comm]
      have hput := hcs_put s2 n2 pc2 k (q2.take (64 - k)) (by rw [hlt]; omega)
      rw [hlt] at hput
      rw [hput] at h3
      have fr3 : Fr (fun b => b = p) wr w3 := (frD wr nq (fun b => b = p)).trans f3 (fun _ _ h => h)
      have hm0 : 0 < min q2.length (64 - k) := by omega
      have hm1 : min q2.length (64 - k) ≤ q2.length := by omega
      have hm2 : k + min q2.length (64 - k) ≤ 64 := by omega
      have hdrop := Rd.dropN (k := min q2.length (64 - k)) ((unhide HQ).kept fr3 (fun c hc e => hbp (by simp [Value.ownBlock] at hc; omega))) hm1
      generalize hmm : min q2.length (64 - k) = m at *
      have HMM := hide hmm
      generalize hpc3 : pc2.take k ++ q2.take (64 - k) ++ pc2.drop (k + m) = pc3 at *
      have HPC := hide hpc3
      have hH3 : HAt w3 p s2 n2 pc3 := ⟨h3, st1, hH0.fit⟩
      have c8 := hH3.num
      have z8 := hH3.frozen 8
      obtain ⟨n3, hn3⟩ : ∃ n3, n3 = (n2 + m) % 18446744073709551616 := ⟨_, rfl⟩
      have hn3l : n3 < 18446744073709551616 := by rw [hn3]; exact Nat.mod_lt _ (by decide)
      have hH4 := hH3.setN n3 hn3l
      have hL := left_any _ p s2 n3 pc3 hH4
      have hk3 : n3 % 64 = (k + m) % 64 := by have := unhide HKK; omega
      have e8 : IntKind.u64.wrap (((n2 : Nat) : Int) + ((m : Nat) : Int)) = ((n3 : Nat) : Int) := by
        simp only [IntKind.wrap, IntKind.bits, IntKind.signed]; simp; omega
      have e9 : IntKind.u64.wrap ((m : Nat) : Int) = ((m : Nat) : Int) := by
        simp only [IntKind.wrap, IntKind.bits, IntKind.signed]; simp; omega
      obtain ⟨a3, ha3⟩ : ∃ a3, (if cap2 = m then some (⟨b, o, none⟩ : Addr) else some ⟨b, o + m, none⟩) = a3 := ⟨_, rfl⟩
      rw [ha3] at hdrop
      have hown : ∀ c l1 c1, (Value.slice a3 l1 c1).ownBlock = some c → c ≠ p := by
        intro c l1 c1 hc
        rw [← ha3] at hc
        split at hc <;> (simp [Value.ownBlock] at hc; omega)
      generalize hkk3 : n3 % 64 = k3 at *
      have HK3 := hide hkk3
      have H4 := hide hH4
      have HL := hide hL
      have HD := hide hdrop
      have HOWN := hide hown
      have F3 := hide fr3
      have ST3 := hide st3
      have ST4 := hide st4
      have ST2 := hide st2
      have HK33 := hide hk3
      have HN3 := hide hn3
      have HM2 := hide hm2
      clear hput h3 f3 fr3 hH3 hH4 hL hkk3 hdrop hown hmm hpc3 hlt st1 st2 st3 st4 hk3 hn3 hn3l hm2 hH0 hpl
      have m1 : (0 : Int) ≤ (m : Int) := by omega
      have m2 : (m : Int) ≤ (q2.length : Int) := by omega
      by_cases hz : k3 = 0
      · subst hz
        go_wp2_with (go_at_call 42; refine (unhide HL).mono ?_; rintro e w' ⟨rfl, rfl⟩)
        have hT4 : Tb (w3.setCell ⟨p, 8, none⟩ (.int .u64 ((n3 : Nat) : Int))) := (T.kept ((unhide HF).trans (unhide F3) (fun _ _ h => h)) (fun e => hp01.1 e.symm) (fun e => hp01.2 e.symm)).kept ((Fr.refl (fun b => b = p) w3).setCell (p := ⟨p, 8, none⟩) (fun _ => rfl) _) (fun e => hp01.1 e.symm) (fun e => hp01.2 e.symm)
        have fr4 : Fr (fun b => b = p) w (w3.setCell ⟨p, 8, none⟩ (.int .u64 ((n3 : Nat) : Int))) := ((unhide HF).trans (unhide F3) (fun _ _ h => h)).setCell (p := ⟨p, 8, none⟩) (fun _ => rfl) _
        have hD4 := (unhide HD).kept ((Fr.refl (fun b => b = p) w3).setCell (p := ⟨p, 8, none⟩) (fun _ => rfl) (.int .u64 ((n3 : Nat) : Int))) (fun c hc => unhide HOWN c _ _ hc)
        have hH4 := unhide H4
        generalize w3.setCell ⟨p, 8, none⟩ (.int .u64 ((n3 : Nat) : Int)) = w4 at *
        have c0 : ∀ d os, (grow (redrawn w4 d) os).cell? ⟨p, 0, none⟩ = some (.int .u32 (N s2.a)) := fun d os => cell_regrown (hH4.word 0 (by omega)) d os
        have c1 : ∀ d os, (grow (redrawn w4 d) os).cell? ⟨p, 1, none⟩ = some (.int .u32 (N s2.b)) := fun d os => cell_regrown (hH4.word 1 (by omega)) d os
        have c2 : ∀ d os, (grow (redrawn w4 d) os).cell? ⟨p, 2, none⟩ = some (.int .u32 (N s2.c)) := fun d os => cell_regrown (hH4.word 2 (by omega)) d os
        have c3 : ∀ d os, (grow (redrawn w4 d) os).cell? ⟨p, 3, none⟩ = some (.int .u32 (N s2.d)) := fun d os => cell_regrown (hH4.word 3 (by omega)) d os
        have c4 : ∀ d os, (grow (redrawn w4 d) os).cell? ⟨p, 4, none⟩ = some (.int .u32 (N s2.e)) := fun d os => cell_regrown (hH4.word 4 (by omega)) d os
        have c5 : ∀ d os, (grow (redrawn w4 d) os).cell? ⟨p, 5, none⟩ = some (.int .u32 (N s2.f)) := fun d os => cell_regrown (hH4.word 5 (by omega)) d os
        have c6 : ∀ d os, (grow (redrawn w4 d) os).cell? ⟨p, 6, none⟩ = some (.int .u32 (N s2.g)) := fun d os => cell_regrown (hH4.word 6 (by omega)) d os
        have c7 : ∀ d os, (grow (redrawn w4 d) os).cell? ⟨p, 7, none⟩ = some (.int .u32 (N s2.h)) := fun d os => cell_regrown (hH4.word 7 (by omega)) d os
        have hcall : ∀ d os, Calls Tryd.prog 43 #[.agg #[.int .u32 (N s2.a), .int .u32 (N s2.b), .int .u32 (N s2.c), .int .u32 (N s2.d), .int .u32 (N s2.e), .int .u32 (N s2.f), .int .u32 (N s2.g), .int .u32 (N s2.h)], .pointer (some ⟨p, 9, none⟩)] (grow (redrawn w4 d) os) fun e w'' => e = .returned (.agg #[.int .u32 (N (stir s2 pc3).a), .int .u32 (N (stir s2 pc3).b), .int .u32 (N (stir s2 pc3).c), .int .u32 (N (stir s2 pc3).d), .int .u32 (N (stir s2 pc3).e), .int .u32 (N (stir s2 pc3).f), .int .u32 (N (stir s2 pc3).g), .int .u32 (N (stir s2 pc3).h)]) ∧ ∃ x : Regrown, w'' = grow (redrawn w4 x.d) x.os := fun d os =>
          reg_call (stirred_any _ s2 p 9 pc3 (hH4.kept (fr_reg w4 d os (fun _ => False)) id).piece (hT4.kept (fr_reg w4 d os (fun _ => False)) id id))
        have HT4 := hide hT4
        have HF4 := hide fr4
        have HD4 := hide hD4
        have HH4 := hide hH4
        clear hT4 fr4 hD4 hH4 c8 z8
        refine wp_region_quietTailC (C := fun w' => ∃ x : Regrown, w' = grow (redrawn w4 x.d) x.os) 9 (by kernel_rfl) (by kernel_rfl) (reg_drew w4) ?_
        simp only [List.take_succ_cons, List.take_zero]
        repeat (go_big_quiet_step (exact hcall _ _))
        refine wpQuiet_nil ?_
        intro _ hw'
        obtain ⟨⟨dq, osq⟩, hw''⟩ := hw'
        subst hw''
        simp only [List.drop_succ_cons, List.drop_zero]
        refine wpList_world ?_
        intro w5 hw5
        have f45 : Fr (fun _ => False) w4 w5 := by rw [hw5]; exact fr_reg w4 dq osq _
        have hH5 := (unhide HH4).kept f45 id
        have hD5 := (unhide HD4).kept f45 (fun _ _ h => h)
        have fr5 : Fr (fun b => b = p) w w5 := (unhide HF4).trans f45 (fun _ _ h => h.elim)
        have hth : w5.there p 0 (wvs (stir s2 pc3).l).toArray.size := hH5.there
        have hi2 : (Tryd.prog.info? 50).map (·.size) = some (wvs (stir s2 pc3).l).toArray.size := Tryd.s50
        have hone := wvs_one (stir s2 pc3).l
        have HH5 := hide hH5
        have HD5 := hide hD5
        have FR5 := hide fr5
        clear c0 c1 c2 c3 c4 c5 c6 c7 hcall hw5 f45 hH5 hD5 fr5
        go_wp2_with (refine wpList_store_mid0 rfl rfl 50 _ _ rfl p 0 (wvs (stir s2 pc3).l).toArray rfl rfl hth hi2 hone ?_)
        go_roundw
        case rel =>
          have hS := (unhide HH5).setS (stir s2 pc3)
          have f6 := setCells_frame p (wvs (stir s2 pc3).l) 0 w5
          have hD6 := (unhide HD5).kept f6 (fun c hc => unhide HOWN c _ _ hc)
          have hkm : k + m = 64 := by have := unhide HK33; have := unhide HM2; omega
          obtain ⟨g1, g2⟩ := unhide ST3 hkm
          have hl : q2.length - m = (q2.drop m).length := by simp
          rw [hl] at hD6 ⊢
          refine ⟨stir s2 pc3, n3, pc3, q2.drop m, a3, cap2 - m, rfl, hD6, fun c hc => .inr (unhide HOWN c _ _ hc), hS, ?_, ?_, (unhide FR5).trans f6 (fun _ _ h => h)⟩
          · rw [unhide HK3, List.take_zero, List.nil_append, ← g2]
            exact unhide HFEED
          · rw [← unhide HNN, unhide HN3]
            have : (q2.drop m).length = q2.length - m := by simp
            omega
        case measure => simp [slLen]; omega
      · have hz' : ((k3 : Int) == 0) = false := by simpa using hz
        go_wp2_with (go_at_call 42; refine (unhide HL).mono ?_; rintro e w' ⟨rfl, rfl⟩)
        go_roundw
        case rel =>
          have fr4 : Fr (fun b => b = p) w (w3.setCell ⟨p, 8, none⟩ (.int .u64 ((n3 : Nat) : Int))) := ((unhide HF).trans (unhide F3) (fun _ _ h => h)).setCell (p := ⟨p, 8, none⟩) (fun _ => rfl) _
          have hD4 := (unhide HD).kept ((Fr.refl (fun b => b = p) w3).setCell (p := ⟨p, 8, none⟩) (fun _ => rfl) (.int .u64 ((n3 : Nat) : Int))) (fun c hc => unhide HOWN c _ _ hc)
          have hkm : k + m < 64 := by have := unhide HK33; have := unhide HM2; omega
          obtain ⟨g1, g2⟩ := unhide ST4 hkm
          have hl : q2.length - m = (q2.drop m).length := by simp
          rw [hl] at hD4 ⊢
          refine ⟨s2, n3, pc3, q2.drop m, a3, cap2 - m, rfl, hD4, fun c hc => .inr (unhide HOWN c _ _ hc), unhide H4, ?_, ?_, fr4⟩
          · rw [unhide HK3, unhide HK33, Nat.mod_eq_of_lt hkm, unhide ST2, g1, g2, List.append_nil]
            exact unhide HFEED
          · rw [← unhide HNN, unhide HN3]
            have : (q2.drop m).length = q2.length - m := by simp
            omega
        case measure => simp [slLen]; omega
end Go.Proofs.YtlicmlioilkfdaaDoor
