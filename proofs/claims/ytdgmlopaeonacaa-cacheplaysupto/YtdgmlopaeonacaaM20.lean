/-
  The document's cache: Dirties; Same of two alike lists.
  Two lists of dirty blocks that are alike are the same.
  append(s, make([]byte, k)...): zeros behind what is owned.
-/
import Derived.Test.YtdgmlopaeonacaaM19
import Derived.Lib.AppendZerosOnto
namespace Go.Proofs.Ytdgmlopaeonacaa
set_option linter.unusedVariables false
set_option linter.unusedSimpArgs false
open Go.RowKit
set_option linter.unusedVariables false
set_option linter.unusedSimpArgs false

attribute [local go_sem ↓] Go.wp_at_zero Go.wp_at_succ

theorem fa94_3 (b o : Nat) (W : World) : (Instr.fieldAt 94 (.pointer (some ⟨b, o, none⟩)) 3).run Try.prog W = .ok (.pointer (some ⟨b, o + 3, none⟩)) W := by simp [go_sem]
theorem fa94_4 (b o : Nat) (W : World) : (Instr.fieldAt 94 (.pointer (some ⟨b, o, none⟩)) 4).run Try.prog W = .ok (.pointer (some ⟨b, o + 4, none⟩)) W := by simp [go_sem]
theorem fa94_5 (b o : Nat) (W : World) : (Instr.fieldAt 94 (.pointer (some ⟨b, o, none⟩)) 5).run Try.prog W = .ok (.pointer (some ⟨b, o + 5, none⟩)) W := by simp [go_sem]
theorem ld95 (W : World) (a : Addr) (u : Value) (h : W.cell? a = some u) : (Instr.loadAt 95 (.pointer (some a))).run Try.prog W = .ok u W := by simp [go_sem, h]
section
variable {ρ : Operand → Value} {o : Oper} {w w2 : World}
theorem x_idx54 {x y : Operand} {g k n c : Nat} (ho : o.op = .indexAddr 54 x y) (hx : ρ x = .slice (some ⟨g, 0, none⟩) n c) (hy : ρ y = .int .i64 (k : Int)) (hk : k < n) : (execOp ρ o).run Try.prog w = .ok (.value (.pointer (some ⟨g, k, none⟩))) w := by
  simp [execOp, ho, hx, hy, go_sem, hk]
theorem x_build58 {a b c d : Operand} {v1 v4 : Int} {v2 v3 : Int} (ho : o.op = .build 58 #[(0, a), (1, b), (2, c), (3, d)]) (ha : ρ a = .int .i64 v1) (hb : ρ b = .int .u64 v2) (hc : ρ c = .int .u64 v3) (hd : ρ d = .int .i64 v4) : (execOp ρ o).run Try.prog w = .ok (.value (.agg #[.int .i64 v1, .int .u64 v2, .int .u64 v3, .int .i64 v4])) w := by
  simp [execOp, ho, ha, hb, hc, hd, go_sem]
theorem x_bs45 {x : Operand} {v1 v4 : Int} {v2 v3 : Int} (ho : o.op = .buildSlice 45 1 #[(0, x)]) (hx : ρ x = .agg #[.int .i64 v1, .int .u64 v2, .int .u64 v3, .int .i64 v4]) : (execOp ρ o).run Try.prog w = .ok (.value (.slice (some ⟨w.heap.size, 0, none⟩) 1 1)) (w.alloc (.cells #[.int .i64 v1, .int .u64 v2, .int .u64 v3, .int .i64 v4] 58)) := by
  simp [execOp, ho, hx, go_sem]
theorem x_app45 {x y : Operand} {a b v : Value} (ho : o.op = .call { callee := .builtin .append, args := #[x, y], argTypes := #[45, 45] }) (hty : o.type = 45) (hx : ρ x = a) (hy : ρ y = b) (hr : (Builtin.append_ #[45, 45] 45 #[a, b]).run Try.prog w = .ok v w2) : (execOp ρ o).run Try.prog w = .ok (.value v) w2 := by
  simp only [execOp, ho, hty, resolve, invoke, builtin, Sem.run_bind, Sem.run_pure, Result.andThen_ok, List.map_toArray, List.map_cons, List.map_nil, hx, hy, hr]
end
theorem sr_kept4 {w1 w2 : World} {v : Value} {n : Nat} {news : List Value} (h : Sr w1 4 v n news) (f : Fr (fun _ => False) w1 w2) : Sr w2 4 v n news := by
  rcases h with h | ⟨ad, c, rfl, h1, h2⟩
  · exact .inl h
  · exact .inr ⟨ad, c, rfl, h1, fun j u hu => by
      have := h2 j u hu
      rw [f.cell (World.block_lt_of_cell? w1 _ this) id]; exact this⟩
theorem app_new2 {w0 w4 w' : World} {v0 v9 : Value} (f : Fr (fun _ => False) w0 w4) (hs : Fr (fun _ => False) w4 w') (hn : v9.ownBlock = v0.ownBlock ∨ v9.ownBlock = some w'.heap.size) (hb : ∀ k, v0.ownBlock = some k → w0.heap.size ≤ k) : ∀ k, v9.ownBlock = some k → w0.heap.size ≤ k :=
  app_new (Nat.le_trans f.size hs.size) hn hb
section
variable (w : World) (q g : Nat) (lv : Value) (R : List (Nat × Pl)) (c : Ca)

set_option maxRecDepth 100000 in
set_option maxHeartbeats 4000000 in
theorem ddirties_any [Av] (hR : R.length ≤ 4096) (hbn : (R.map fun y => y.2.b).Nodup) (H : DAt w q g lv R c) : Calls Try.prog 16 #[ptr q] w fun e w' => (∃ ao cc, e = .returned (.slice ao (srtL (R.map Prod.snd)).length cc) ∧ w'.ownsRow 0 58 4 (.slice ao (srtL (R.map Prod.snd)).length cc) (srtL (R.map Prod.snd)).length (dCs (srtL (R.map Prod.snd)))) ∧ Fr (fun _ => False) w w' := by
  have HRS := hide (rising_any w q g lv R c hR hbn H)
  rw [← srt_map R]
  obtain ⟨SS, hS⟩ : ∃ SS, SS = srtP (dty R) := ⟨_, rfl⟩
  have hSR : ∀ y ∈ SS, y ∈ R ∧ y.2.dirty = true := fun y hy => by rw [hS] at hy; exact List.mem_filter.1 ((srtP_perm _).mem_iff.1 hy)
  have hSl : SS.length ≤ R.length := by rw [hS, (srtP_perm _).length_eq]; exact List.length_filter_le _ _
  rw [← hS] at HRS ⊢
  obtain ⟨S, hSS⟩ : ∃ S, S = SS.map Prod.snd := ⟨_, rfl⟩
  obtain ⟨N, hN⟩ : ∃ N, N = SS.length := ⟨_, rfl⟩
  have hNS : S.length = N := by rw [hSS, hN]; simp
  rw [← hSS]
  rw [hNS]
  have HNS := hide hNS
  have HNN := hide hN
  have HSS := hide hSS
  have HD := hide H
  have HSR := hide hSR
  have hN6 : N ≤ 4096 := by omega
  clear H hS hSR hSl hN hNS hSS hbn hR
  obtain ⟨inf, hi0, hz0, hz1, hz2⟩ := info_parts Try.info58
  unfold ptr at *
  go_enter Try.func16, Try.ntmps16
  go_wp2_with fail
  refine (unhide HRS).mono ?_
  rintro e w1 ⟨⟨v, rfl, hO, hkb⟩, f1⟩
  obtain ⟨lo, cc, hv⟩ : ∃ lo cc, v = .slice lo N cc := by
    rcases hO with ⟨h1, h2⟩ | ⟨gl, cap, h1, -⟩
    · exact ⟨none, 0, by rw [h2, unhide HNN, h1]; rfl⟩
    · exact ⟨_, _, by rw [h1, ← unhide HNN]⟩
  subst hv
  have HOV := hide hO
  have F1 := hide f1
  clear hO hkb f1 HRS
  go_wp2_with fail
  go_loopw [3, 5] (fun y z W => ∃ (i : Nat) (ao : Option Addr) (ac : Nat), i ≤ N ∧ z = .int .i64 (i : Int) ∧ y = .slice ao i ac ∧ W.ownsRow 0 58 4 (.slice ao i ac) i (dCs (S.take i)) ∧ (∀ b, (Value.slice ao i ac).ownBlock = some b → w1.heap.size ≤ b) ∧ Fr (fun _ => False) w1 W) (fun _ z _ => N - (intOf z).toNat)
  case atStart => exact ⟨0, none, 0, by omega, rfl, rfl, owns_nil4 _, fun b hb => by simp [Value.ownBlock] at hb, Fr.refl _ _⟩
  case round =>
    obtain ⟨i, ao, ac, hi, rfl, rfl, hO, hnew, hf⟩ := hrel
    have HO := hide hO
    have HNW := hide hnew
    have HF := hide hf
    by_cases hlt : i < N
    · have hiS : i < SS.length := by rw [← unhide HNN]; exact hlt
      obtain ⟨gl, cap, hov, hcap, hoc⟩ := (unhide HOV).resolve_left (fun e => by have := e.1; rw [this] at hiS; simp at hiS)
      simp only [Value.slice.injEq] at hov
      obtain ⟨rfl, -, rfl⟩ := hov
      have yc := hoc i hiS
      obtain ⟨y, hy⟩ : ∃ y, y = SS[i] := ⟨_, rfl⟩
      rw [← hy] at yc
      have hyS : y ∈ SS := by rw [hy]; exact List.getElem_mem hiS
      obtain ⟨hyR, hyd⟩ := unhide HSR y hyS
      have f0 := (unhide F1).trans hf (fun _ _ e => e)
      obtain ⟨pv, hp⟩ := ((unhide HD).kept0 f0).pl y hyR
      have HP := hide hp
      have HFZ : Hid (fz y.2 = (y.2.first : Int)) := hide (by unfold fz; rw [hyd]; rfl)
      have HLZ : Hid (lz y.2 = (y.2.last : Int)) := hide (by unfold lz; rw [hyd]; rfl)
      have yc := (hf.cell (World.block_lt_of_cell? _ _ yc) id).trans yc
      have HTK : Hid (dCs (S.take (i + 1)) = dCs (S.take i) ++ dC y.2) := hide (by
        have hi2 : i < S.length := by rw [unhide HNS]; exact hlt
        have e : S.take (i + 1) = S.take i ++ [S[i]] := by rw [List.take_add_one, List.getElem?_eq_getElem hi2]; rfl
        have e2 : S[i] = y.2 := by rw [hy]; have := unhide HSS; subst this; simp
        rw [e, dCs_app, e2])
      unfold ptr at yc
      clear hO hnew hf hoc hcap hp hy hyS hyR hyd f0 hiS
      go_wp2_with fail
      refine wp_nameK ?_
      intro a0 hA
      have h3 : a0.tmps.getD 3 undef = .slice ao i ac := by rw [hA]; rfl
      have h4 : a0.tmps.getD 4 undef = .slice (some ⟨gl, 0, none⟩) N cc := by rw [hA]; rfl
      have h5 : a0.tmps.getD 5 undef = .int .i64 (i : Int) := by rw [hA]; rfl
      have hsz : a0.tmps.size = 47 := by rw [hA]; rfl
      have hdf : a0.defers = [] := by rw [hA]
      have HA0 := hide hA
      clear hA
      refine wp_region_kinds4 (fun j => (Value.slice ao i ac).ownBlock = some j) (by kernel_rfl) (by kernel_rfl) (by decide +kernel) (by rw [hsz]; decide +kernel) [.eq (.slice ao i ac), .eq (.slice (some ⟨gl, 0, none⟩) N cc), .eq (.int .i64 (i : Int)), .eq (.pointer (some ⟨gl, i, none⟩)), .eq (.pointer (some ⟨y.1, 0, none⟩)), .eq (.pointer (some ⟨y.1, 0, none⟩)), .eq (.pointer (some ⟨y.1, 0, none⟩)), .eq (.int .i64 y.2.b), .eq (.slice (some ⟨gl, 0, none⟩) N cc), .eq (.int .i64 (i : Int)), .eq (.pointer (some ⟨gl, i, none⟩)), .eq (.pointer (some ⟨y.1, 0, none⟩)), .eq (.pointer (some ⟨y.1, 0, none⟩)), .eq (.pointer (some ⟨y.1, 3, none⟩)), .eq (.int .u64 (y.2.first : Int)), .eq (.slice (some ⟨gl, 0, none⟩) N cc), .eq (.int .i64 (i : Int)), .eq (.pointer (some ⟨gl, i, none⟩)), .eq (.pointer (some ⟨y.1, 0, none⟩)), .eq (.pointer (some ⟨y.1, 0, none⟩)), .eq (.pointer (some ⟨y.1, 4, none⟩)), .eq (.int .u64 (y.2.last : Int)), .eq (.slice (some ⟨gl, 0, none⟩) N cc), .eq (.int .i64 (i : Int)), .eq (.pointer (some ⟨gl, i, none⟩)), .eq (.pointer (some ⟨y.1, 0, none⟩)), .eq (.pointer (some ⟨y.1, 0, none⟩)), .eq (.pointer (some ⟨y.1, 5, none⟩)), .eq (.int .i64 y.2.pins), .eq (.agg #[.int .i64 y.2.b, .int .u64 (y.2.first : Int), .int .u64 (y.2.last : Int), .int .i64 y.2.pins]), (.st 0 (fun v W => Sr W 4 v 1 (dC y.2)) (fun v w1 w2 h f => sr_kept4 h f)), (.st 1 (fun v W => W.ownsRow 0 58 4 v (i + 1) (dCs (S.take i) ++ dC y.2) ∧ ∀ j, v.ownBlock = some j → w1.heap.size ≤ j) (fun v w1 w2 ⟨h1, h2⟩ f => ⟨owns_kept h1 f (fun _ _ e => e), h2⟩)), (.st 1 (fun v W => W.ownsRow 0 58 4 v (i + 1) (dCs (S.take i) ++ dC y.2) ∧ ∀ j, v.ownBlock = some j → w1.heap.size ≤ j) (fun v w1 w2 ⟨h1, h2⟩ f => ⟨owns_kept h1 f (fun _ _ e => e), h2⟩))] [31] (by decide) (by decide) (onepath) (fun k W => (k ≤ 0 → Fr (fun _ => False) wr W) ∧ (k = 1 → Fr (fun j => (Value.slice ao i ac).ownBlock = some j) wr W)) ⟨fun _ => (Fr.refl _ _).drew, fun e => by omega⟩ ?steps ?done
      case steps =>
        refine ⟨?_, ?_⟩
        · intro a' w' k' hb hf hs hc hq hg hd hu
          exact .inl ⟨wantedN rfl, k_val (.slice ao i ac) (by decide) hs (x_move rfl ((hu 32 3 rfl (waits (by kernel_rfl))).trans h3)) rfl⟩
        refine ⟨?_, ?_⟩
        · intro a' w' k' hb hf hs hc hq hg hd hu
          exact .inl ⟨wantedN rfl, k_val (.slice (some ⟨gl, 0, none⟩) N cc) (by decide) hs (x_move rfl ((hb.old 4 (by decide +kernel)).trans h4)) rfl⟩
        refine ⟨?_, ?_⟩
        · intro a' w' k' hb hf hs hc hq hg hd hu
          exact .inl ⟨wantedN rfl, k_val (.int .i64 (i : Int)) (by decide) hs (x_move rfl ((hb.old 5 (by decide +kernel)).trans h5)) rfl⟩
        refine ⟨?_, ?_⟩
        · intro a' w' k' hb hf hs hc hq hg hd hu
          exact .inl ⟨wantedN rfl, k_val (.pointer (some ⟨gl, i, none⟩)) (by decide) hs (x_idx54 rfl (hd 1 (by kernel_rfl) 15 rfl) (hd 2 (by kernel_rfl) 16 rfl) hlt) rfl⟩
        refine ⟨?_, ?_⟩
        · intro a' w' k' hb hf hs hc hq hg hd hu
          have hF0 : Fr (fun _ => False) wr w' := hs.1 (by have := hq 0 31 rfl (waits (by kernel_rfl)); omega); exact .inl ⟨wantedN rfl, k_val (.pointer (some ⟨y.1, 0, none⟩)) (by decide) hs (x_load1 ld95 rfl (hd 3 (by kernel_rfl) 17 rfl) ((hF0.cell (World.block_lt_of_cell? _ _ yc) id).trans yc)) rfl⟩
        refine ⟨?_, ?_⟩
        · intro a' w' k' hb hf hs hc hq hg hd hu
          exact .inl ⟨wantedN rfl, k_val (.pointer (some ⟨y.1, 0, none⟩)) (by decide) hs (x_nilCheck rfl (hd 4 (by kernel_rfl) 18 rfl)) rfl⟩
        refine ⟨?_, ?_⟩
        · intro a' w' k' hb hf hs hc hq hg hd hu
          exact .inl ⟨wantedN rfl, k_val (.pointer (some ⟨y.1, 0, none⟩)) (by decide) hs (x_field (of := 0) (off := 0) (fa94_0 y.1 0) rfl (hd 5 (by kernel_rfl) 19 rfl)) rfl⟩
        refine ⟨?_, ?_⟩
        · intro a' w' k' hb hf hs hc hq hg hd hu
          have hF0 : Fr (fun _ => False) wr w' := hs.1 (by have := hq 0 31 rfl (waits (by kernel_rfl)); omega); exact .inl ⟨wantedN rfl, k_val (.int .i64 y.2.b) (by decide) hs (x_load1 ld3 rfl (hd 6 (by kernel_rfl) 20 rfl) ((unhide HP).kept hF0 id (fun _ e => e.elim)).cells.1) rfl⟩
        refine ⟨?_, ?_⟩
        · intro a' w' k' hb hf hs hc hq hg hd hu
          exact .inl ⟨wantedN rfl, k_val (.slice (some ⟨gl, 0, none⟩) N cc) (by decide) hs (x_move rfl ((hb.old 4 (by decide +kernel)).trans h4)) rfl⟩
        refine ⟨?_, ?_⟩
        · intro a' w' k' hb hf hs hc hq hg hd hu
          exact .inl ⟨wantedN rfl, k_val (.int .i64 (i : Int)) (by decide) hs (x_move rfl ((hb.old 5 (by decide +kernel)).trans h5)) rfl⟩
        refine ⟨?_, ?_⟩
        · intro a' w' k' hb hf hs hc hq hg hd hu
          exact .inl ⟨wantedN rfl, k_val (.pointer (some ⟨gl, i, none⟩)) (by decide) hs (x_idx54 rfl (hd 8 (by kernel_rfl) 22 rfl) (hd 9 (by kernel_rfl) 23 rfl) hlt) rfl⟩
        refine ⟨?_, ?_⟩
        · intro a' w' k' hb hf hs hc hq hg hd hu
          have hF0 : Fr (fun _ => False) wr w' := hs.1 (by have := hq 0 31 rfl (waits (by kernel_rfl)); omega); exact .inl ⟨wantedN rfl, k_val (.pointer (some ⟨y.1, 0, none⟩)) (by decide) hs (x_load1 ld95 rfl (hd 10 (by kernel_rfl) 24 rfl) ((hF0.cell (World.block_lt_of_cell? _ _ yc) id).trans yc)) rfl⟩
        refine ⟨?_, ?_⟩
        · intro a' w' k' hb hf hs hc hq hg hd hu
          exact .inl ⟨wantedN rfl, k_val (.pointer (some ⟨y.1, 0, none⟩)) (by decide) hs (x_nilCheck rfl (hd 11 (by kernel_rfl) 25 rfl)) rfl⟩
        refine ⟨?_, ?_⟩
        · intro a' w' k' hb hf hs hc hq hg hd hu
          exact .inl ⟨wantedN rfl, k_val (.pointer (some ⟨y.1, 3, none⟩)) (by decide) hs (x_field (of := 0) (off := 3) (fa94_3 y.1 0) rfl (hd 12 (by kernel_rfl) 26 rfl)) rfl⟩
        refine ⟨?_, ?_⟩
        · intro a' w' k' hb hf hs hc hq hg hd hu
          have hF0 : Fr (fun _ => False) wr w' := hs.1 (by have := hq 0 31 rfl (waits (by kernel_rfl)); omega); have hcz := ((unhide HP).kept hF0 id (fun _ e => e.elim)).cells.2.2.2.1; rw [unhide HFZ] at hcz; exact .inl ⟨wantedN rfl, k_val (.int .u64 (y.2.first : Int)) (by decide) hs (x_load1 ld38 rfl (hd 13 (by kernel_rfl) 27 rfl) hcz) rfl⟩
        refine ⟨?_, ?_⟩
        · intro a' w' k' hb hf hs hc hq hg hd hu
          exact .inl ⟨wantedN rfl, k_val (.slice (some ⟨gl, 0, none⟩) N cc) (by decide) hs (x_move rfl ((hb.old 4 (by decide +kernel)).trans h4)) rfl⟩
        refine ⟨?_, ?_⟩
        · intro a' w' k' hb hf hs hc hq hg hd hu
          exact .inl ⟨wantedN rfl, k_val (.int .i64 (i : Int)) (by decide) hs (x_move rfl ((hb.old 5 (by decide +kernel)).trans h5)) rfl⟩
        refine ⟨?_, ?_⟩
        · intro a' w' k' hb hf hs hc hq hg hd hu
          exact .inl ⟨wantedN rfl, k_val (.pointer (some ⟨gl, i, none⟩)) (by decide) hs (x_idx54 rfl (hd 15 (by kernel_rfl) 29 rfl) (hd 16 (by kernel_rfl) 30 rfl) hlt) rfl⟩
        refine ⟨?_, ?_⟩
        · intro a' w' k' hb hf hs hc hq hg hd hu
          have hF0 : Fr (fun _ => False) wr w' := hs.1 (by have := hq 0 31 rfl (waits (by kernel_rfl)); omega); exact .inl ⟨wantedN rfl, k_val (.pointer (some ⟨y.1, 0, none⟩)) (by decide) hs (x_load1 ld95 rfl (hd 17 (by kernel_rfl) 31 rfl) ((hF0.cell (World.block_lt_of_cell? _ _ yc) id).trans yc)) rfl⟩
        refine ⟨?_, ?_⟩
        · intro a' w' k' hb hf hs hc hq hg hd hu
          exact .inl ⟨wantedN rfl, k_val (.pointer (some ⟨y.1, 0, none⟩)) (by decide) hs (x_nilCheck rfl (hd 18 (by kernel_rfl) 32 rfl)) rfl⟩
        refine ⟨?_, ?_⟩
        · intro a' w' k' hb hf hs hc hq hg hd hu
          exact .inl ⟨wantedN rfl, k_val (.pointer (some ⟨y.1, 4, none⟩)) (by decide) hs (x_field (of := 0) (off := 4) (fa94_4 y.1 0) rfl (hd 19 (by kernel_rfl) 33 rfl)) rfl⟩
        refine ⟨?_, ?_⟩
        · intro a' w' k' hb hf hs hc hq hg hd hu
          have hF0 : Fr (fun _ => False) wr w' := hs.1 (by have := hq 0 31 rfl (waits (by kernel_rfl)); omega); have hcz := ((unhide HP).kept hF0 id (fun _ e => e.elim)).cells.2.2.2.2.1; rw [unhide HLZ] at hcz; exact .inl ⟨wantedN rfl, k_val (.int .u64 (y.2.last : Int)) (by decide) hs (x_load1 ld38 rfl (hd 20 (by kernel_rfl) 34 rfl) hcz) rfl⟩
        refine ⟨?_, ?_⟩
        · intro a' w' k' hb hf hs hc hq hg hd hu
          exact .inl ⟨wantedN rfl, k_val (.slice (some ⟨gl, 0, none⟩) N cc) (by decide) hs (x_move rfl ((hb.old 4 (by decide +kernel)).trans h4)) rfl⟩
        refine ⟨?_, ?_⟩
        · intro a' w' k' hb hf hs hc hq hg hd hu
          exact .inl ⟨wantedN rfl, k_val (.int .i64 (i : Int)) (by decide) hs (x_move rfl ((hb.old 5 (by decide +kernel)).trans h5)) rfl⟩
        refine ⟨?_, ?_⟩
        · intro a' w' k' hb hf hs hc hq hg hd hu
          exact .inl ⟨wantedN rfl, k_val (.pointer (some ⟨gl, i, none⟩)) (by decide) hs (x_idx54 rfl (hd 22 (by kernel_rfl) 36 rfl) (hd 23 (by kernel_rfl) 37 rfl) hlt) rfl⟩
        refine ⟨?_, ?_⟩
        · intro a' w' k' hb hf hs hc hq hg hd hu
          have hF0 : Fr (fun _ => False) wr w' := hs.1 (by have := hq 0 31 rfl (waits (by kernel_rfl)); omega); exact .inl ⟨wantedN rfl, k_val (.pointer (some ⟨y.1, 0, none⟩)) (by decide) hs (x_load1 ld95 rfl (hd 24 (by kernel_rfl) 38 rfl) ((hF0.cell (World.block_lt_of_cell? _ _ yc) id).trans yc)) rfl⟩
        refine ⟨?_, ?_⟩
        · intro a' w' k' hb hf hs hc hq hg hd hu
          exact .inl ⟨wantedN rfl, k_val (.pointer (some ⟨y.1, 0, none⟩)) (by decide) hs (x_nilCheck rfl (hd 25 (by kernel_rfl) 39 rfl)) rfl⟩
        refine ⟨?_, ?_⟩
        · intro a' w' k' hb hf hs hc hq hg hd hu
          exact .inl ⟨wantedN rfl, k_val (.pointer (some ⟨y.1, 5, none⟩)) (by decide) hs (x_field (of := 0) (off := 5) (fa94_5 y.1 0) rfl (hd 26 (by kernel_rfl) 40 rfl)) rfl⟩
        refine ⟨?_, ?_⟩
        · intro a' w' k' hb hf hs hc hq hg hd hu
          have hF0 : Fr (fun _ => False) wr w' := hs.1 (by have := hq 0 31 rfl (waits (by kernel_rfl)); omega); exact .inl ⟨wantedN rfl, k_val (.int .i64 y.2.pins) (by decide) hs (x_load1 ld3 rfl (hd 27 (by kernel_rfl) 41 rfl) ((unhide HP).kept hF0 id (fun _ e => e.elim)).cells.2.2.2.2.2) rfl⟩
        refine ⟨?_, ?_⟩
        · intro a' w' k' hb hf hs hc hq hg hd hu
          exact .inl ⟨wantedN rfl, k_val (.agg #[.int .i64 y.2.b, .int .u64 (y.2.first : Int), .int .u64 (y.2.last : Int), .int .i64 y.2.pins]) (by decide) hs (x_build58 rfl (hd 7 (by kernel_rfl) 21 rfl) (hd 14 (by kernel_rfl) 28 rfl) (hd 21 (by kernel_rfl) 35 rfl) (hd 28 (by kernel_rfl) 42 rfl)) rfl⟩
        refine ⟨?_, ?_⟩
        · intro a' w' k' hb hf hs hc hq hg hd hu
          obtain rfl : k' = 0 := Nat.le_zero.1 (hq 0 31 rfl (waits (by kernel_rfl))); have hF0 : Fr (fun _ => False) wr w' := hs.1 (by omega); exact .inl ⟨wantedN rfl, k_new _ (w'.alloc (.cells #[.int .i64 y.2.b, .int .u64 (y.2.first : Int), .int .u64 (y.2.last : Int), .int .i64 y.2.pins] 58)) (by decide) ⟨fun _ => hF0.trans ((Fr.refl (fun _ => False) _).alloc _) (fun _ _ h => h), fun e => by omega⟩ ((Fr.refl _ _).alloc _) (x_bs45 rfl (hd 29 (by kernel_rfl) 43 rfl)) ⟨Nat.zero_le _, fun _ => four_cells _ _⟩⟩
        refine ⟨?_, ?_⟩
        · intro a' w' k' hb hf hs hc hq hg hd hu
          obtain rfl := hc 0 rfl; have hF0 : Fr (fun _ => False) wr w' := hs.1 (by omega); have hh := hd 30 (by kernel_rfl) 44 rfl; obtain ⟨v9, w9, hr9, ho9, hg9, hn9⟩ := run_app (P := Try.prog) w' 45 45 58 inf _ 4 32 Try.underlying45 hi0 hz0 hz1 hz2 rfl (by decide) _ i _ (owns_kept (unhide HO) hF0 (fun _ _ e => e)) _ 1 _ (hh.2 rfl) (fun u hu => by simp [dC] at hu; rcases hu with rfl | rfl | rfl | rfl <;> rfl) (by omega) (by simp only [maxLen]; omega); exact .inl ⟨wantedN rfl, k_chain v9 w9 (by decide) ⟨fun e => by omega, fun _ => (hF0.mono (fun _ _ e => e.elim)).trans ((Fr.refl (fun k => (Value.slice ao i ac).ownBlock = some k) w').grown hg9 (fun k _ e => e)) (fun _ _ e => e)⟩ ((Fr.refl (fun k => (Value.slice ao i ac).ownBlock = some k) w').grown hg9 (fun k _ e => e)) (x_app45 rfl rfl (hd 0 (by kernel_rfl) 14 rfl) rfl hr9) ⟨Nat.le_refl _, fun _ => ⟨ho9, app_new2 (unhide HF) hF0 hn9 (unhide HNW)⟩⟩⟩
        refine ⟨?_, ?_⟩
        · intro a' w' k' hb hf hs hc hq hg hd hu
          have hh := (hd 31 (by kernel_rfl) 45 rfl); exact .inl ⟨wantedN rfl, k_val _ (by decide) hs (x_assign rfl rfl) hh⟩
        exact trivial
      case done =>
        intro a' w6 hb hf hs hall
        have hdf' : a'.defers = [] := by rw [hb.defers]; exact hdf
        have hS6 := hs.2 rfl
        have h12 := hall 32 (by decide) 3 rfl
        obtain ⟨ho6, hn6⟩ := h12.2 rfl
        obtain ⟨v3, hv3⟩ : ∃ v, a'.tmps.getD 3 undef = v := ⟨_, rfl⟩
        obtain ⟨v14, hv14⟩ : ∃ v, a'.tmps.getD 14 undef = v := ⟨_, rfl⟩
        obtain ⟨v15, hv15⟩ : ∃ v, a'.tmps.getD 15 undef = v := ⟨_, rfl⟩
        obtain ⟨v16, hv16⟩ : ∃ v, a'.tmps.getD 16 undef = v := ⟨_, rfl⟩
        obtain ⟨v17, hv17⟩ : ∃ v, a'.tmps.getD 17 undef = v := ⟨_, rfl⟩
        obtain ⟨v18, hv18⟩ : ∃ v, a'.tmps.getD 18 undef = v := ⟨_, rfl⟩
        obtain ⟨v19, hv19⟩ : ∃ v, a'.tmps.getD 19 undef = v := ⟨_, rfl⟩
        obtain ⟨v20, hv20⟩ : ∃ v, a'.tmps.getD 20 undef = v := ⟨_, rfl⟩
        obtain ⟨v21, hv21⟩ : ∃ v, a'.tmps.getD 21 undef = v := ⟨_, rfl⟩
        obtain ⟨v22, hv22⟩ : ∃ v, a'.tmps.getD 22 undef = v := ⟨_, rfl⟩
        obtain ⟨v23, hv23⟩ : ∃ v, a'.tmps.getD 23 undef = v := ⟨_, rfl⟩
        obtain ⟨v24, hv24⟩ : ∃ v, a'.tmps.getD 24 undef = v := ⟨_, rfl⟩
        obtain ⟨v25, hv25⟩ : ∃ v, a'.tmps.getD 25 undef = v := ⟨_, rfl⟩
        obtain ⟨v26, hv26⟩ : ∃ v, a'.tmps.getD 26 undef = v := ⟨_, rfl⟩
        obtain ⟨v27, hv27⟩ : ∃ v, a'.tmps.getD 27 undef = v := ⟨_, rfl⟩
        obtain ⟨v28, hv28⟩ : ∃ v, a'.tmps.getD 28 undef = v := ⟨_, rfl⟩
        obtain ⟨v29, hv29⟩ : ∃ v, a'.tmps.getD 29 undef = v := ⟨_, rfl⟩
        obtain ⟨v30, hv30⟩ : ∃ v, a'.tmps.getD 30 undef = v := ⟨_, rfl⟩
        obtain ⟨v31, hv31⟩ : ∃ v, a'.tmps.getD 31 undef = v := ⟨_, rfl⟩
        obtain ⟨v32, hv32⟩ : ∃ v, a'.tmps.getD 32 undef = v := ⟨_, rfl⟩
        obtain ⟨v33, hv33⟩ : ∃ v, a'.tmps.getD 33 undef = v := ⟨_, rfl⟩
        obtain ⟨v34, hv34⟩ : ∃ v, a'.tmps.getD 34 undef = v := ⟨_, rfl⟩
        obtain ⟨v35, hv35⟩ : ∃ v, a'.tmps.getD 35 undef = v := ⟨_, rfl⟩
        obtain ⟨v36, hv36⟩ : ∃ v, a'.tmps.getD 36 undef = v := ⟨_, rfl⟩
        obtain ⟨v37, hv37⟩ : ∃ v, a'.tmps.getD 37 undef = v := ⟨_, rfl⟩
        obtain ⟨v38, hv38⟩ : ∃ v, a'.tmps.getD 38 undef = v := ⟨_, rfl⟩
        obtain ⟨v39, hv39⟩ : ∃ v, a'.tmps.getD 39 undef = v := ⟨_, rfl⟩
        obtain ⟨v40, hv40⟩ : ∃ v, a'.tmps.getD 40 undef = v := ⟨_, rfl⟩
        obtain ⟨v41, hv41⟩ : ∃ v, a'.tmps.getD 41 undef = v := ⟨_, rfl⟩
        obtain ⟨v42, hv42⟩ : ∃ v, a'.tmps.getD 42 undef = v := ⟨_, rfl⟩
        obtain ⟨v43, hv43⟩ : ∃ v, a'.tmps.getD 43 undef = v := ⟨_, rfl⟩
        obtain ⟨v44, hv44⟩ : ∃ v, a'.tmps.getD 44 undef = v := ⟨_, rfl⟩
        obtain ⟨v45, hv45⟩ : ∃ v, a'.tmps.getD 45 undef = v := ⟨_, rfl⟩
        have hfr := frame_eq (a := a') (vs := [.pointer (some ⟨q, 0, none⟩), undef, .slice none 0 0, v3, .slice (some ⟨gl, 0, none⟩) N cc, .int .i64 (i : Int), .pointer (some ⟨q, 0, none⟩), .slice (some ⟨gl, 0, none⟩) N cc, a0.tmps.getD 8 undef, a0.tmps.getD 9 undef, a0.tmps.getD 10 undef, a0.tmps.getD 11 undef, a0.tmps.getD 12 undef, a0.tmps.getD 13 undef, v14, v15, v16, v17, v18, v19, v20, v21, v22, v23, v24, v25, v26, v27, v28, v29, v30, v31, v32, v33, v34, v35, v36, v37, v38, v39, v40, v41, v42, v43, v44, v45, undef]) (by rw [hb.size, hsz]; rfl) hdf' ⟨((hb.old 0 (by decide +kernel)).trans (by rw [unhide HA0]; rfl)), ((hb.old 1 (by decide +kernel)).trans (by rw [unhide HA0]; rfl)), ((hb.old 2 (by decide +kernel)).trans (by rw [unhide HA0]; rfl)), hv3, ((hb.old 4 (by decide +kernel)).trans h4), ((hb.old 5 (by decide +kernel)).trans h5), ((hb.old 6 (by decide +kernel)).trans (by rw [unhide HA0]; rfl)), ((hb.old 7 (by decide +kernel)).trans (by rw [unhide HA0]; rfl)), (hb.old 8 (by decide +kernel)), (hb.old 9 (by decide +kernel)), (hb.old 10 (by decide +kernel)), (hb.old 11 (by decide +kernel)), (hb.old 12 (by decide +kernel)), (hb.old 13 (by decide +kernel)), hv14, hv15, hv16, hv17, hv18, hv19, hv20, hv21, hv22, hv23, hv24, hv25, hv26, hv27, hv28, hv29, hv30, hv31, hv32, hv33, hv34, hv35, hv36, hv37, hv38, hv39, hv40, hv41, hv42, hv43, hv44, hv45, ((hb.old 46 (by decide +kernel)).trans (by rw [unhide HA0]; rfl)), trivial⟩
        rw [hv3] at ho6 hn6
        obtain ⟨ao3, c3, rfl⟩ := owns_shape ho6
        have HO6 : Hid (w6.ownsRow 0 58 4 (.slice ao3 (i + 1) c3) (i + 1) (dCs (S.take (i + 1)))) := hide (by rw [unhide HTK]; exact ho6)
        have HN6 := hide hn6
        have HF6 : Hid (Fr (fun _ => False) w1 w6) := hide ((unhide HF).trans hS6 (fun k hk e => by have := unhide HNW k e; omega))
        clear hall hb hf hs h12 hS6 hv3 ho6 hn6 hv14 hv15 hv16 hv17 hv18 hv19 hv20 hv21 hv22 hv23 hv24 hv25 hv26 hv27 hv28 hv29 hv30 hv31 hv32 hv33 hv34 hv35 hv36 hv37 hv38 hv39 hv40 hv41 hv42 hv43 hv44 hv45
        subst hfr
        clear HA0 h3 h4 h5 hsz hdf hdf'
        apply_assumption
        go_wp2_with fail
        go_roundw
        case rel => exact ⟨i + 1, ao3, c3, by omega, by go_num, rfl, unhide HO6, unhide HN6, unhide HF6⟩
        case measure => simp [intOf]; omega
    · have hie : N = i := by omega
      subst hie
      clear hO hnew hf
      go_wp2_with fail
      go_ret
      have hO := unhide HO
      rw [show S.take N = S from by rw [← unhide HNS]; exact List.take_length] at hO
      exact ⟨⟨ao, ac, rfl, hO⟩, (unhide F1).trans (unhide HF) (fun _ _ e => e)⟩
end
end Go.Proofs.Ytdgmlopaeonacaa

namespace Go.Proofs.Ytdgmlopaeonacaa
set_option linter.unusedVariables false
set_option linter.unusedSimpArgs false
open Go.RowKit
set_option linter.unusedVariables false
set_option linter.unusedSimpArgs false

attribute [local go_sem ↓] Go.wp_at_zero Go.wp_at_succ

theorem dCs_get : ∀ (S : List Pl) (i t : Nat) (x : Pl), S[i]? = some x → t < 4 → (dCs S)[i * 4 + t]? = (dC x)[t]?
  | [], i, t, x, h, _ => by simp at h
  | y :: S, 0, t, x, h, ht => by
    simp at h
    subst h
    have e : dCs (y :: S) = dC y ++ dCs S := by simp [dCs]
    rw [e, Nat.zero_mul, Nat.zero_add, List.getElem?_append_left (by simp [dC]; omega)]
  | y :: S, i + 1, t, x, h, ht => by
    have e : dCs (y :: S) = dC y ++ dCs S := by simp [dCs]
    rw [e, List.getElem?_append_right (by simp [dC]; omega)]
    have := dCs_get S i t x (by simpa using h) ht
    rw [← this]
    congr 1
    simp [dC]; omega
theorem dirty_cells {w : World} {ao : Option Addr} {N cc : Nat} {S : List Pl} (h : w.ownsRow 0 58 4 (.slice ao N cc) N (dCs S)) {i : Nat} {x : Pl} (hx : S[i]? = some x) (hN : S.length = N) : ∃ g, ao = some ⟨g, 0, none⟩ ∧ N ≤ cc ∧ w.cell? ⟨g, i * 4, none⟩ = some (.int .i64 x.b) ∧ w.cell? ⟨g, i * 4 + 1, none⟩ = some (.int .u64 (x.first : Int)) ∧ w.cell? ⟨g, i * 4 + 2, none⟩ = some (.int .u64 (x.last : Int)) ∧ w.cell? ⟨g, i * 4 + 3, none⟩ = some (.int .i64 x.pins) := by
  have hi := (List.getElem?_eq_some_iff.1 hx).1
  have h1 := h
  rcases h.2 with ⟨hv, h0⟩ | ⟨g, cap, cur, hv, hb, hg, hnc, hcm, hcs, htake⟩
  · omega
  · simp only [Value.slice.injEq] at hv
    obtain ⟨rfl, -, rfl⟩ := hv
    have c : ∀ t, t < 4 → w.cell? ⟨g, i * 4 + t, none⟩ = (dC x)[t]? := fun t ht => by
      rw [World.ownsRow.cellAt h1 (i * 4 + t) (by omega)]
      exact dCs_get S i t x hx ht
    exact ⟨g, rfl, hnc, c 0 (by omega), c 1 (by omega), c 2 (by omega), c 3 (by omega)⟩

set_option maxRecDepth 100000 in
set_option maxHeartbeats 2000000 in
theorem same_ok (w : World) (ao1 ao2 : Option Addr) (N c1 c2 : Nat) (S : List Pl) (hN : S.length = N) (hN6 : N ≤ 100000) (h1 : w.ownsRow 0 58 4 (.slice ao1 N c1) N (dCs S)) (h2 : w.ownsRow 0 58 4 (.slice ao2 N c2) N (dCs S)) : Calls Try.prog 20 #[.slice ao1 N c1, .slice ao2 N c2] w fun e w' => e = .returned (.bool true) ∧ Fr (fun _ => False) w w' := by
  have HN := hide hN
  have H1 := hide h1
  have H2 := hide h2
  clear hN h1 h2
  go_enter Try.func20, Try.ntmps20
  go_wp2_with fail
  go_loopw [5] (fun z W => ∃ (i n : Nat), i ≤ N ∧ z = .int .i64 (i : Int) ∧ Hid (W = w.drewN n)) (fun z _ => N - (intOf z).toNat)
  case atStart => exact ⟨0, 0, by omega, rfl, hide rfl⟩
  case round =>
    obtain ⟨i, n, hi, rfl, hW⟩ := hrel
    have HWK := hW
    have f0 : Fr (fun _ => False) w wr := by rw [unhide hW]; exact Fr.ofDrewN _ _
    clear hW
    by_cases hlt : i < N
    · obtain ⟨x, hx⟩ : ∃ x, S[i]? = some x := ⟨_, List.getElem?_eq_getElem (by rw [unhide HN]; exact hlt)⟩
      obtain ⟨g1, rfl, hc1, a0, a1, a2, a3⟩ := dirty_cells (owns_kept (unhide H1) f0 (fun _ _ e => e)) hx (unhide HN)
      obtain ⟨g2, rfl, hc2, b0, b1, b2, b3⟩ := dirty_cells (owns_kept (unhide H2) f0 (fun _ _ e => e)) hx (unhide HN)
      have k1 : i < c1 := by omega
      have k2 : i < c2 := by omega
      clear hx f0
      go_wp2_with fail
      go_quiet (fail)
      go_wp2_with fail
      go_roundw
      case rel => exact ⟨i + 1, _, by omega, by go_num, hide (by rw [unhide HWK, World.drewN_drewN])⟩
      case measure => simp [intOf]; omega
    · have hie : N = i := by omega
      have F0 := hide f0
      subst hie
      clear f0
      go_wp2_with fail
      go_ret
      exact ⟨rfl, unhide F0⟩
end Go.Proofs.Ytdgmlopaeonacaa

namespace Go.Proofs.Ytdgmlopaeonacaa
set_option linter.unusedVariables false
set_option linter.unusedSimpArgs false
open Go.RowKit Go.Lib
set_option linter.unusedVariables false
set_option linter.unusedSimpArgs false

theorem zeros_u8 (k : Nat) : Builtin.zeroCells (Value.int .u8 0).cells k = (bvs (List.replicate k 0)).toArray := by
  apply Array.ext
  · simp [Builtin.zeroCells, bvs, Value.cells]
  · intro i h1 h2
    simp [Builtin.zeroCells, bvs, Value.cells, Nat.mod_one]
theorem app0 (w : World) {g n cap : Nat} {l : List UInt8} (hn : l.length = n) (ho : w.ownsRow 0 5 1 (.slice (some ⟨g, 0, none⟩) n cap) n (bvs l)) (k : Nat) (hk : n + k ≤ 100000) : ∃ v w', (Builtin.append_ #[37, 3] 37 #[.slice (some ⟨g, 0, none⟩) n cap, .int .i64 (k : Int)]).run Try.prog w = .ok v w' ∧ w'.ownsRow 0 5 1 v (n + k) (bvs (l ++ List.replicate k 0)) ∧ w.grownBy w' (some g) ∧ (v.ownBlock = some g ∨ v.ownBlock = some w.heap.size) := by
  obtain ⟨inf, hi0, hz0, hz1, hz2⟩ := info_parts Try.info5
  have hlen : (bvs (l ++ List.replicate k 0)).length = (n + k) * 1 := by rw [bvs_length]; simp; omega
  have hxl : (bvs l).length = n := by rw [bvs_length]; exact hn
  have hw : IntKind.i64.wrap (k : Int) = k := by rw [IntKind.wrap_i64]; omega
  rcases ho.2 with ⟨h, -⟩ | ⟨g', cap', cur, h, hbg, hg, hnc, hcm, hcs, htake⟩
  · simp at h
  · simp only [Value.slice.injEq, Option.some.injEq, Addr.mk.injEq, and_true, true_and] at h
    obtain ⟨rfl, rfl⟩ := h
    have hcs' : cur.size = cap := by simpa using hcs
    by_cases hroom : n + k ≤ cap
    · have hst := run_storeCells_at Try.prog g n 5 (bvs (List.replicate k 0)) 0 cur w hg (by rw [bvs_length]; simp; omega) (bvs_one _)
      simp only [Nat.add_zero, bvs_length, List.length_replicate] at hst
      refine ⟨.slice (some ⟨g, 0, none⟩) (n + k) cap, w.setRow g (cur.toList.take n ++ bvs (List.replicate k 0) ++ cur.toList.drop (n + k)).toArray, ?_, ⟨hlen, .inr ⟨g, cap, _, rfl, hbg, setRow_heap w g cur _ 5 _ hg, hroom, hcm, ?_, ?_⟩⟩, ⟨rfl, rfl, rfl, by simp, fun j _ hj => setRow_other w g j _ (fun e => hj (by simp [e]))⟩, .inl rfl⟩
      · by_cases hk0 : k = 0
        · subst hk0
          have e : w.setRow g (cur.toList.take n ++ bvs (List.replicate 0 0) ++ cur.toList.drop (n + 0)).toArray = w := by
            have : (cur.toList.take n ++ bvs (List.replicate 0 0) ++ cur.toList.drop (n + 0)).toArray = cur := by simp [bvs]
            rw [this]; exact setRow_self w g cur 5 (0, 0) hg
          rw [e]
          simp [Builtin.append_, run_underlying Try.underlying37, run_underlying Try.underlying3, sizeOf, typeInfo, hi0, hz1, asInt, asIntOf, IntKind.wrap_i64, hnc, storeCells]
        · have h48 : ¬ (281474976710656 < (k : Int) * (inf.bytes : Int)) := by rw [hz2]; omega
          have hneg : ¬ ((k : Int) < 0) := by omega
          simp [Builtin.append_, run_underlying Try.underlying37, run_underlying Try.underlying3, sizeOf, typeInfo, zeroValue, hi0, hz0, hz1, asInt, asIntOf, hw, hroom, hneg, h48, hk0, zeros_u8, Addr.add_lit, hst]
      · simp only [List.size_toArray, List.length_append, List.length_take, List.length_drop, Array.length_toList, bvs_length, List.length_replicate]
        omega
      · have ht' : cur.toList.take n = bvs l := by simpa using htake
        rw [ht', ← bvs_append, ← hlen]
        exact List.take_left
    · have hold : (Builtin.firstCells inf.size n (.slice (some ⟨g, 0, none⟩) n cap)).run Try.prog w.drew = .ok (bvs l).toArray w.drew := by
        have := run_loadCells_list (P := Try.prog) w.drew ⟨g, 0, none⟩ (bvs l) (fun j v hv => ho.cells (g := g) rfl j v hv)
        simp only [Builtin.firstCells, hz1, Nat.mul_one]
        rw [hxl] at this
        exact this
      have hr := run_append_grow_zeros (P := Try.prog) w 37 3 37 5 inf _ .i64 .i64 Try.underlying37 Try.underlying3 hi0 hz0 (some ⟨g, 0, none⟩) n cap (bvs l) hold k (by omega) (by rw [hz1]; decide) (by omega) (by omega) (by rw [hz2]; omega) (by rw [hz2]; exact growslice_fits (by omega) (by omega))
      rw [zeros_u8, zeros_u8] at hr
      have hge := grownCap_ge w (n + k) cap 5
      have hcm2 : grownCap w (n + k) cap 5 ≤ maxLen := grownCap_le_maxLen w (n + k) cap 5 (by simp only [maxLen]; omega)
      refine ⟨_, _, hr, ⟨hlen, .inr ⟨w.heap.size, _, _, rfl, Nat.zero_le _, heap_alloc_new w.drew _, hge, hcm2, ?_, ?_⟩⟩, ⟨rfl, rfl, rfl, by simp, fun j hj _ => Below.heap_alloc w.drew _ j hj⟩, .inr rfl⟩
      · simp only [Array.size_append, List.size_toArray, bvs_length, List.length_replicate]
        omega
      · simp only [Array.toList_append, List.append_assoc]
        rw [← List.append_assoc, ← bvs_append, ← hlen]
        exact List.take_left
theorem wpList_app0 {w : World} {ops : Array Oper} {rest : List Oper} {o : Oper} {a : Act} {Q : Exit → Act → World → Prop} (hgd : o.guard = none) (hty : o.type = 37) (s x : Operand) (ho : o.op = .call { callee := .builtin .append, args := #[s, x], argTypes := #[37, 3] }) {g n cap k : Nat} {l : List UInt8} (hn : l.length = n) (hs : a.eval s = .slice (some ⟨g, 0, none⟩) n cap) {kz : Int} (hx : a.eval x = .int .i64 kz) (hkz : kz = (k : Int)) (hown : w.ownsRow 0 5 1 (.slice (some ⟨g, 0, none⟩) n cap) n (bvs l)) (hk : n + k ≤ 100000)
    (h : ∀ ao c w', w'.ownsRow 0 5 1 (.slice ao (n + k) c) (n + k) (bvs (l ++ List.replicate k 0)) → w.grownBy w' (some g) → ((Value.slice ao (n + k) c).ownBlock = some g ∨ (Value.slice ao (n + k) c).ownBlock = some w.heap.size) → wpList Try.prog ops Q rest (a.put o.dst (.slice ao (n + k) c)) w') : wpList Try.prog ops Q (o :: rest) a w := by
  subst hkz
  refine wpList_plain hgd fun K hK => ?_
  obtain ⟨v', w', hr, h2, h3, h4⟩ := app0 w hn hown k hk
  unfold Oper.wp execOp
  simp only [ho, hty, resolve, invoke, builtin, Sem.run_bind, Sem.run_pure, Result.andThen_ok, List.map_toArray, List.map_cons, List.map_nil, hs, hx, hr]
  obtain ⟨ao, c, rfl⟩ := owns_shape h2
  exact hK _ _ (h ao c w' h2 h3 h4)
end Go.Proofs.Ytdgmlopaeonacaa
