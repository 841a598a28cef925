/-
  The laws' home is copied.
-/
import Derived.Test.YtdgmlopaeonacaaM21
namespace Go.Proofs.Ytdgmlopaeonacaa
set_option linter.unusedVariables false
set_option linter.unusedSimpArgs false
open Go.RowKit
attribute [local instance] avNo
set_option linter.unusedVariables false
set_option linter.unusedSimpArgs false

attribute [local go_sem ↓] Go.wp_at_zero Go.wp_at_succ

theorem fa51_1 (b o : Nat) (W : World) : (Instr.fieldAt 51 (.pointer (some ⟨b, o, none⟩)) 1).run Try.prog W = .ok (.pointer (some ⟨b, o + 1, none⟩)) W := by simp [go_sem]
theorem fa51_2 (b o : Nat) (W : World) : (Instr.fieldAt 51 (.pointer (some ⟨b, o, none⟩)) 2).run Try.prog W = .ok (.pointer (some ⟨b, o + 2, none⟩)) W := by simp [go_sem]
theorem fa51_3 (b o : Nat) (W : World) : (Instr.fieldAt 51 (.pointer (some ⟨b, o, none⟩)) 3).run Try.prog W = .ok (.pointer (some ⟨b, o + 3, none⟩)) W := by simp [go_sem]
theorem fa51_4 (b o : Nat) (W : World) : (Instr.fieldAt 51 (.pointer (some ⟨b, o, none⟩)) 4).run Try.prog W = .ok (.pointer (some ⟨b, o + 4, none⟩)) W := by simp [go_sem]
theorem ld49 (W : World) (a : Addr) (u : Value) (h : W.cell? a = some u) : (Instr.loadAt 49 (.pointer (some a))).run Try.prog W = .ok u W := by simp [go_sem, h]
theorem nopaths {l : List Oper} : ∀ k i j, ([] : List Nat)[k]? = some i → ([] : List Nat)[k + 1]? = some j → Path l j i := by
  intro k i j hi; simp at hi
theorem own03 {w : World} {b : Nat} (h : w.heap[b]? = some (.cells #[] 3 (0, 0))) : w.ownsRow 0 3 1 (.slice (some ⟨b, 0, none⟩) 0 0) 0 [] :=
  ⟨rfl, .inr ⟨b, 0, #[], rfl, Nat.zero_le _, h, Nat.le_refl _, Nat.zero_le _, rfl, rfl⟩⟩
section
variable {ρ : Operand → Value} {o : Oper} {w w2 : World}
theorem x_bs49 (ho : o.op = .buildSlice 49 0 #[]) : (execOp ρ o).run Try.prog w = .ok (.value (.slice (some ⟨w.heap.size, 0, none⟩) 0 0)) (w.alloc (.cells #[] 3)) := by
  simp [execOp, ho, go_sem]
theorem x_app49 {x y : Operand} {a b v : Value} (ho : o.op = .call { callee := .builtin .append, args := #[x, y], argTypes := #[49, 49] }) (hty : o.type = 49) (hx : ρ x = a) (hy : ρ y = b) (hr : (Builtin.append_ #[49, 49] 49 #[a, b]).run Try.prog w = .ok v w2) : (execOp ρ o).run Try.prog w = .ok (.value v) w2 := by
  simp only [execOp, ho, hty, resolve, invoke, builtin, Sem.run_bind, Sem.run_pure, Result.andThen_ok, List.map_toArray, List.map_cons, List.map_nil, hx, hy, hr]
theorem x_build51 {a b c d : Operand} {v1 v2 v3 : Int} {ao : Option Addr} {n k : Nat} (ho : o.op = .build 51 #[(2, a), (3, b), (4, c), (1, d)]) (ha : ρ a = .int .i64 v1) (hb : ρ b = .int .i64 v2) (hc : ρ c = .int .i64 v3) (hd : ρ d = .slice ao n k) : (execOp ρ o).run Try.prog w = .ok (.value (.agg #[.slice none 0 0, .slice ao n k, .int .i64 v1, .int .i64 v2, .int .i64 v3])) w := by
  simp [execOp, ho, ha, hb, hc, hd, go_sem]
theorem x_box51 {x : Operand} {v1 v2 v3 : Int} {ao : Option Addr} {n k : Nat} (ho : o.op = .box 51 x) (hx : ρ x = .agg #[.slice none 0 0, .slice ao n k, .int .i64 v1, .int .i64 v2, .int .i64 v3]) : (execOp ρ o).run Try.prog w = .ok (.value (.pointer (some ⟨w.heap.size, 0, none⟩))) (w.alloc (.cells #[.slice none 0 0, .slice ao n k, .int .i64 v1, .int .i64 v2, .int .i64 v3] 51)) := by
  simp [execOp, ho, hx, go_sem]
theorem x_idx48 {x y : Operand} {g k n c : Nat} (ho : o.op = .indexAddr 48 x y) (hx : ρ x = .slice (some ⟨g, 0, none⟩) n c) (hy : ρ y = .int .i64 (k : Int)) (hk : k < n) : (execOp ρ o).run Try.prog w = .ok (.value (.pointer (some ⟨g, k, none⟩))) w := by
  simp [execOp, ho, hx, hy, go_sem, hk]
end
theorem app37_first {wr : World} (w : World) (b : Nat) (hb : w.heap[b]? = some (.cells #[] 5 (0, 0))) {x : Value} {d : List UInt8} (hx : Rd w x d) (hd : d.length = 384) (hw : wr.heap.size ≤ w.heap.size) (hb2 : wr.heap.size ≤ b) : ∃ v w', (Builtin.append_ #[37, 37] 37 #[.slice (some ⟨b, 0, none⟩) 0 0, x]).run Try.prog w = .ok v w' ∧ (∃ b cb, v = .slice (some ⟨b, 0, none⟩) 384 cb ∧ RA w' b cb d ∧ wr.heap.size ≤ b) ∧ Fr (fun _ => False) w w' := by
  obtain ⟨inf, hi0, hz0, hz1, hz2⟩ := info_parts Try.info5
  have hown : w.ownsRow 0 5 1 (.slice (some ⟨b, 0, none⟩) 0 0) 0 [] := ⟨rfl, .inr ⟨b, 0, #[], rfl, Nat.zero_le _, hb, Nat.le_refl _, Nat.zero_le _, rfl, rfl⟩⟩
  have hx' := hx.sr
  rw [hd] at hx'
  rcases hx' with ⟨rfl, h0, -⟩ | ⟨ad, c, rfl, hl, hc⟩
  · omega
  · have hx'' : Sr w 1 (.slice (some ad) 384 c) 384 (bvs d) := .inr ⟨ad, c, rfl, hl, hc⟩
    obtain ⟨v, w', hr, ho, hg, hn⟩ := run_app (P := Try.prog) w 37 37 5 inf _ 1 1 Try.underlying37 hi0 hz0 hz1 hz2 rfl (by decide) _ 0 [] hown _ 384 (bvs d) hx'' (bvs_one _) (by decide) (by decide)
    have hr2 := run_append_grow (P := Try.prog) w 37 37 5 inf _ Try.underlying37 hi0 hz0 ⟨b, 0, none⟩ 0 0 [] (by rw [hz1]; rfl) (fun j u hu => by simp at hu) ad 384 c (bvs d) (by rw [hz1]; exact hl) hc (by omega) (by decide) (by rw [hz2]; exact growslice_fits (by omega) (by decide))
    rw [hr] at hr2
    simp only [Result.ok.injEq] at hr2
    obtain ⟨rfl, rfl⟩ := hr2
    have hR := Rd.of_owns (l := d) (base := 0) (by rw [hd]; exact ho)
    rcases ho.2 with ⟨e, -⟩ | ⟨g5, cap5, cur5, e, -, hg5, hnc, -⟩
    · simp at e
    · simp only [Value.slice.injEq, Option.some.injEq, Addr.mk.injEq, and_true] at e
      obtain ⟨e1, -, e3⟩ := e
      refine ⟨_, _, hr, ⟨w.heap.size, _, rfl, ⟨?_, hR, ?_⟩, hw⟩, ((Fr.refl _ _).drew).alloc _⟩
      · rw [e3]; simpa using hnc
      · rw [e1]; exact knd_cells hg5
/-- A list of rows that has one row more. -/
def APG (wr : World) (dv : Value) (vs : List Value) (j : Nat) (Di : List UInt8) (v : Value) (W : World) : Prop := ∃ b cb, W.ownsRow 0 37 1 v (j + 1) (vs ++ [.slice (some ⟨b, 0, none⟩) 384 cb]) ∧ RA W b cb Di ∧ wr.heap.size ≤ b ∧ (∀ k, v.ownBlock = some k → dv.ownBlock = some k ∨ wr.heap.size ≤ k) ∧ Fr (fun k => dv.ownBlock = some k) wr W
theorem APG.kept {wr w1 w2 : World} {dv v : Value} {vs : List Value} {j : Nat} {Di : List UInt8} (h : APG wr dv vs j Di v w1) (f : Fr (fun _ => False) w1 w2) : APG wr dv vs j Di v w2 := by
  obtain ⟨b, cb, h1, h2, h3, h4, h5⟩ := h
  exact ⟨b, cb, owns_kept h1 f (fun _ _ h => h), h2.kept f id, h3, h4, h5.trans f (fun _ _ e => e.elim)⟩
theorem apg_mk {wr w' w9 : World} {dv v9 : Value} {vs : List Value} {j b cb : Nat} {Di : List UInt8} (hs : Fr (fun _ => False) wr w') (ho : w9.ownsRow 0 37 1 v9 (j + 1) (vs ++ [.slice (some ⟨b, 0, none⟩) 384 cb])) (hg : w'.grownBy w9 dv.ownBlock) (hn : v9.ownBlock = dv.ownBlock ∨ v9.ownBlock = some w'.heap.size) (hB : RA w' b cb Di) (hb : wr.heap.size ≤ b) (hl : ∀ k, dv.ownBlock = some k → k < wr.heap.size) : APG wr dv vs j Di v9 w9 := by
  have f9 : Fr (fun k => dv.ownBlock = some k) w' w9 := (Fr.refl _ _).grown hg (fun k _ e => e)
  refine ⟨b, cb, ho, hB.kept f9 (fun e => by have := hl b e; omega), hb, fun k hk => ?_, (hs.mono (fun _ _ e => e.elim)).trans f9 (fun _ _ e => e)⟩
  rcases hn with e | e
  · rw [e] at hk; exact .inl hk
  · rw [e] at hk; simp at hk; have := hs.size; right; omega
theorem apg_one {wr W : World} {dv v : Value} {vs : List Value} {jj : Nat} {Di : List UInt8} (h : APG wr dv vs jj Di v W) : ∃ ao n c, v = .slice ao n c := by
  obtain ⟨b, cb, h1, -⟩ := h
  obtain ⟨ao, c, e⟩ := owns_shape h1
  exact ⟨ao, _, c, e⟩
/-- So far copied. -/
def tk (m : Hm) (i : Nat) : Hm := { m with D := m.D.take i }
def NHG (wr : World) (g : Nat) (dv lg : Value) (m : Hm) (i : Nat) (W : World) : Prop := ∃ dv' vs', HAtG W g dv' lg vs' (tk m i) ∧ (∀ k, dv'.ownBlock = some k → dv.ownBlock = some k ∨ wr.heap.size ≤ k) ∧ Fr (fun k => k = g ∨ dv.ownBlock = some k) wr W
theorem apg_store {wr W : World} {g i : Nat} {dv lg v : Value} {vs : List Value} {m : Hm} {Di : List UInt8} (H : HAtG wr g dv lg vs (tk m i)) (hl : ∀ k, dv.ownBlock = some k → k < wr.heap.size) (hA : APG wr dv vs i Di v W) (hDi : m.D[i]? = some Di) (hi2 : i < m.D.length) (hok : m.Ok) : NHG wr g dv lg m (i + 1) (W.setCell ⟨g, 0, none⟩ v) ∧ W.cell? ⟨g, 0, none⟩ = some dv ∧ W.frozen? ⟨g, 0, none⟩ = false := by
  obtain ⟨b, cb, h1, h2, h3, h4, h5⟩ := hA
  have hh : ¬ dv.ownBlock = some g := fun e => by have := knd_owns H.data e; rw [knd_cells H.heap] at this; exact absurd this (by decide)
  have hW := (h5.block g (lt_of_heap H.heap) hh).trans H.heap
  have f2 : Fr (fun k => k = g) W (W.setCell ⟨g, 0, none⟩ v) := (Fr.refl (fun k => k = g) W).setCell (p := ⟨g, 0, none⟩) (fun _ => rfl) _
  have hvh : v.ownBlock ≠ some g := fun e => by
    have := knd_owns h1 e
    rw [knd_cells hW] at this
    exact absurd this (by decide)
  have hlen : (tk m i).D.length = i := by simp [tk]; omega
  have hvl : vs.length = i := by have := H.data.1; rw [hlen] at this; simpa using this
  have hBk : ∀ x cx d, RA W x cx d → RA (W.setCell ⟨g, 0, none⟩ v) x cx d := fun x cx d hb => hb.kept f2 (fun e => by
    have := hb.2.2
    rw [show x = g from e, knd_cells hW] at this
    exact absurd this (by decide))
  have hlg : ∀ k, lg.ownBlock = some k → ¬ dv.ownBlock = some k := fun k hk e => by
    have a := knd_owns H.log hk
    have c := knd_owns H.data e
    rw [a] at c; exact absurd c (by decide)
  have hDeq : (tk m (i + 1)).D = (tk m i).D ++ [Di] := by
    unfold tk; dsimp only; rw [List.take_add_one, hDi]; rfl
  refine ⟨⟨v, vs ++ [.slice (some ⟨b, 0, none⟩) 384 cb], ⟨?_, ?_, fun j hj => ?_, ?_, ?_, fun _ _ b _ => avNo_z b, fun b e => absurd e (avNo_z b)⟩, h4, (h5.mono (fun _ _ e => .inr e)).trans f2 (fun _ _ e => .inl e)⟩, ?_, frozen_of_heap hW 0⟩
  · rw [heap_setCell_same W g 0 _ 51 v hW]; rfl
  · have := owns_kept h1 f2 (fun k hk e => hvh (by rw [← show k = g from e]; exact hk))
    rw [hDeq, List.length_append, hlen]; exact this
  · have hj2 : j < i + 1 := by rw [hDeq, List.length_append, hlen] at hj; simpa using hj
    by_cases hji : j < i
    · obtain ⟨x, cx, hx, hB⟩ := H.rd j (by rw [hlen]; exact hji)
      refine ⟨x, cx, by rw [List.getElem?_append_left (by omega)]; exact hx, ?_⟩
      have : (tk m (i + 1)).D[j]'hj = (tk m i).D[j]'(by rw [hlen]; exact hji) := by simp [tk]
      rw [this]
      exact hBk _ _ _ (hB.kept h5 (fun e => by have := knd_owns H.data e; rw [hB.2.2] at this; exact absurd this (by decide)))
    · obtain rfl : j = i := by omega
      refine ⟨b, cb, by rw [List.getElem?_append_right (by omega), hvl]; simp, ?_⟩
      have : (tk m (j + 1)).D[j]'hj = Di := by
        have e := (List.getElem?_eq_some_iff.1 hDi).2
        simp [tk, e]
      rw [this]
      exact hBk _ _ _ h2
  · exact owns_kept (owns_kept H.log h5 hlg) f2 (fun k hk e => by have a := knd_owns H.log hk; rw [show k = g from e, knd_cells H.heap] at a; exact absurd a (by decide))
  · refine ⟨?_, fun d hd => ?_, H.ok.log, H.ok.bad, H.ok.long, H.ok.few⟩
    · have := hok.len; simp [tk]; omega
    · rw [hDeq] at hd
      rcases List.mem_append.1 hd with h | h
      · exact H.ok.all d h
      · rw [List.mem_singleton.1 h]; exact hok.all Di (List.mem_of_getElem? hDi)
  · rw [cell_of_heap hW]; rfl
section
variable (w : World) (h : Nat) (dv : Value) (vs : List Value) (m : Hm)
set_option maxRecDepth 100000 in
set_option maxHeartbeats 4000000 in
theorem copy_any (H : HAt w h dv (.slice none 0 0) vs m) (hm : m.log = []) (hD : m.D.length ≤ 100) : Calls Try.prog 9 #[ptr h] w fun e w' => (∃ g dv2 lg2 vs2, e = .returned (ptr g) ∧ HAtG w' g dv2 lg2 vs2 m ∧ w.heap.size ≤ g ∧ (∀ k, dv2.ownBlock = some k → w.heap.size ≤ k) ∧ (∀ k, lg2.ownBlock = some k → w.heap.size ≤ k)) ∧ Fr (fun _ => False) w w' := by
  obtain ⟨inf, hi0, hz0, hz1, hz2⟩ := info_parts Try.info3
  obtain ⟨inf7, hj0, hy0, hy1, hy2⟩ := info_parts Try.info37
  have HH := hide H
  have HM := hide hm
  obtain ⟨da, dc, hdv⟩ := H.shape
  obtain ⟨N, hN⟩ : ∃ N, N = m.D.length := ⟨_, rfl⟩
  have g0 := cell_of_heap H.heap 0
  simp at g0
  rw [← hN] at hdv hD
  have HN := hide hN
  clear H hm hN
  unfold ptr at *
  go_enter Try.func9, Try.ntmps9
  go_wp2_with fail
  refine wp_nameK ?_
  intro a0 hA
  have h0 : a0.tmps.getD 0 undef = .pointer (some ⟨h, 0, none⟩) := by rw [hA]; rfl
  have hsz : a0.tmps.size = 53 := by rw [hA]; rfl
  have hdf : a0.defers = [] := by rw [hA]
  have HA0 := hide hA
  clear hA
  refine wp_region_kinds (fun _ => False) (by kernel_rfl) (by kernel_rfl) (by decide +kernel) (by rw [hsz]; decide +kernel) [.eq (.pointer (some ⟨h, 0, none⟩)), .eq (.pointer (some ⟨h, 0, none⟩)), .eq (.pointer (some ⟨h, 2, none⟩)), .eq (.int .i64 (m.calls : Int)), .eq (.pointer (some ⟨h, 0, none⟩)), .eq (.pointer (some ⟨h, 0, none⟩)), .eq (.pointer (some ⟨h, 3, none⟩)), .eq (.int .i64 (m.bad : Int)), .eq (.pointer (some ⟨h, 0, none⟩)), .eq (.pointer (some ⟨h, 0, none⟩)), .eq (.pointer (some ⟨h, 4, none⟩)), .eq (.int .i64 (m.long : Int)), (.pr (fun v W => ∃ b, v = .slice (some ⟨b, 0, none⟩) 0 0 ∧ W.heap[b]? = some (.cells #[] 3 (0, 0)) ∧ w.heap.size ≤ b) (fun v w1 w2 ⟨b, h1, h2, h3⟩ f => ⟨b, h1, by rw [f.block b (lt_of_heap h2) id]; exact h2, h3⟩)), .eq (.pointer (some ⟨h, 0, none⟩)), .eq (.pointer (some ⟨h, 0, none⟩)), .eq (.pointer (some ⟨h, 1, none⟩)), .eq (.slice none 0 0), (.pr (fun v W => ∃ b, v = .slice (some ⟨b, 0, none⟩) 0 0 ∧ W.heap[b]? = some (.cells #[] 3 (0, 0)) ∧ w.heap.size ≤ b) (fun v w1 w2 ⟨b, h1, h2, h3⟩ f => ⟨b, h1, by rw [f.block b (lt_of_heap h2) id]; exact h2, h3⟩)), (.pr (fun v W => ∃ b, v = .agg #[.slice none 0 0, .slice (some ⟨b, 0, none⟩) 0 0, .int .i64 (m.calls : Int), .int .i64 (m.bad : Int), .int .i64 (m.long : Int)] ∧ W.heap[b]? = some (.cells #[] 3 (0, 0)) ∧ w.heap.size ≤ b) (fun v w1 w2 ⟨b, h1, h2, h3⟩ f => ⟨b, h1, by rw [f.block b (lt_of_heap h2) id]; exact h2, h3⟩)), (.pr (fun v W => ∃ g b, v = .pointer (some ⟨g, 0, none⟩) ∧ W.heap[g]? = some (.cells #[.slice none 0 0, .slice (some ⟨b, 0, none⟩) 0 0, .int .i64 (m.calls : Int), .int .i64 (m.bad : Int), .int .i64 (m.long : Int)] 51 (0, 0)) ∧ W.heap[b]? = some (.cells #[] 3 (0, 0)) ∧ w.heap.size ≤ b ∧ w.heap.size ≤ g) (fun v w1 w2 ⟨g, b, h0, h1, h2, h3, h4⟩ f => ⟨g, b, h0, by rw [f.block g (lt_of_heap h1) id]; exact h1, by rw [f.block b (lt_of_heap h2) id]; exact h2, h3, h4⟩)), (.pr (fun v W => ∃ g b, v = .pointer (some ⟨g, 0, none⟩) ∧ W.heap[g]? = some (.cells #[.slice none 0 0, .slice (some ⟨b, 0, none⟩) 0 0, .int .i64 (m.calls : Int), .int .i64 (m.bad : Int), .int .i64 (m.long : Int)] 51 (0, 0)) ∧ W.heap[b]? = some (.cells #[] 3 (0, 0)) ∧ w.heap.size ≤ b ∧ w.heap.size ≤ g) (fun v w1 w2 ⟨g, b, h0, h1, h2, h3, h4⟩ f => ⟨g, b, h0, by rw [f.block g (lt_of_heap h1) id]; exact h1, by rw [f.block b (lt_of_heap h2) id]; exact h2, h3, h4⟩))] [] (by decide) (by decide) (nopaths) (fun _ _ => True) trivial ?steps ?done
  case steps =>
    refine ⟨?_, ?_⟩
    · intro a' w' k' hb hf hs hc hq hg hd
      exact ⟨wantedN rfl, k_val (.pointer (some ⟨h, 0, none⟩)) (by decide) hs (x_move rfl ((hb.old 0 (by decide +kernel)).trans h0)) rfl⟩
    refine ⟨?_, ?_⟩
    · intro a' w' k' hb hf hs hc hq hg hd
      exact ⟨wantedN rfl, k_val (.pointer (some ⟨h, 0, none⟩)) (by decide) hs (x_nilCheck rfl (hd 0 (by kernel_rfl) 5 rfl)) rfl⟩
    refine ⟨?_, ?_⟩
    · intro a' w' k' hb hf hs hc hq hg hd
      exact ⟨wantedN rfl, k_val (.pointer (some ⟨h, 2, none⟩)) (by decide) hs (x_field (of := 0) (off := 2) (fa51_2 h 0) rfl (hd 1 (by kernel_rfl) 6 rfl)) rfl⟩
    refine ⟨?_, ?_⟩
    · intro a' w' k' hb hf hs hc hq hg hd
      have hcz := cell_of_heap ((unhide HH).kept0 hf).heap 2; simp at hcz; exact ⟨wantedN rfl, k_val (.int .i64 (m.calls : Int)) (by decide) hs (x_load1 ld3 rfl (hd 2 (by kernel_rfl) 7 rfl) hcz) rfl⟩
    refine ⟨?_, ?_⟩
    · intro a' w' k' hb hf hs hc hq hg hd
      exact ⟨wantedN rfl, k_val (.pointer (some ⟨h, 0, none⟩)) (by decide) hs (x_move rfl ((hb.old 0 (by decide +kernel)).trans h0)) rfl⟩
    refine ⟨?_, ?_⟩
    · intro a' w' k' hb hf hs hc hq hg hd
      exact ⟨wantedN rfl, k_val (.pointer (some ⟨h, 0, none⟩)) (by decide) hs (x_nilCheck rfl (hd 4 (by kernel_rfl) 9 rfl)) rfl⟩
    refine ⟨?_, ?_⟩
    · intro a' w' k' hb hf hs hc hq hg hd
      exact ⟨wantedN rfl, k_val (.pointer (some ⟨h, 3, none⟩)) (by decide) hs (x_field (of := 0) (off := 3) (fa51_3 h 0) rfl (hd 5 (by kernel_rfl) 10 rfl)) rfl⟩
    refine ⟨?_, ?_⟩
    · intro a' w' k' hb hf hs hc hq hg hd
      have hcz := cell_of_heap ((unhide HH).kept0 hf).heap 3; simp at hcz; exact ⟨wantedN rfl, k_val (.int .i64 (m.bad : Int)) (by decide) hs (x_load1 ld3 rfl (hd 6 (by kernel_rfl) 11 rfl) hcz) rfl⟩
    refine ⟨?_, ?_⟩
    · intro a' w' k' hb hf hs hc hq hg hd
      exact ⟨wantedN rfl, k_val (.pointer (some ⟨h, 0, none⟩)) (by decide) hs (x_move rfl ((hb.old 0 (by decide +kernel)).trans h0)) rfl⟩
    refine ⟨?_, ?_⟩
    · intro a' w' k' hb hf hs hc hq hg hd
      exact ⟨wantedN rfl, k_val (.pointer (some ⟨h, 0, none⟩)) (by decide) hs (x_nilCheck rfl (hd 8 (by kernel_rfl) 13 rfl)) rfl⟩
    refine ⟨?_, ?_⟩
    · intro a' w' k' hb hf hs hc hq hg hd
      exact ⟨wantedN rfl, k_val (.pointer (some ⟨h, 4, none⟩)) (by decide) hs (x_field (of := 0) (off := 4) (fa51_4 h 0) rfl (hd 9 (by kernel_rfl) 14 rfl)) rfl⟩
    refine ⟨?_, ?_⟩
    · intro a' w' k' hb hf hs hc hq hg hd
      have hcz := cell_of_heap ((unhide HH).kept0 hf).heap 4; simp at hcz; exact ⟨wantedN rfl, k_val (.int .i64 (m.long : Int)) (by decide) hs (x_load1 ld3 rfl (hd 10 (by kernel_rfl) 15 rfl) hcz) rfl⟩
    refine ⟨?_, ?_⟩
    · intro a' w' k' hb hf hs hc hq hg hd
      have hf0 : Fr (fun _ => False) w w' := hf; exact ⟨wantedN rfl, k_new _ (w'.alloc (.cells #[] 3)) (by decide) trivial ((Fr.refl _ _).alloc _) (x_bs49 rfl) ⟨_, rfl, heap_alloc_new _ _, hf0.size⟩⟩
    refine ⟨?_, ?_⟩
    · intro a' w' k' hb hf hs hc hq hg hd
      exact ⟨wantedN rfl, k_val (.pointer (some ⟨h, 0, none⟩)) (by decide) hs (x_move rfl ((hb.old 0 (by decide +kernel)).trans h0)) rfl⟩
    refine ⟨?_, ?_⟩
    · intro a' w' k' hb hf hs hc hq hg hd
      exact ⟨wantedN rfl, k_val (.pointer (some ⟨h, 0, none⟩)) (by decide) hs (x_nilCheck rfl (hd 13 (by kernel_rfl) 18 rfl)) rfl⟩
    refine ⟨?_, ?_⟩
    · intro a' w' k' hb hf hs hc hq hg hd
      exact ⟨wantedN rfl, k_val (.pointer (some ⟨h, 1, none⟩)) (by decide) hs (x_field (of := 0) (off := 1) (fa51_1 h 0) rfl (hd 14 (by kernel_rfl) 19 rfl)) rfl⟩
    refine ⟨?_, ?_⟩
    · intro a' w' k' hb hf hs hc hq hg hd
      have hcz := cell_of_heap ((unhide HH).kept0 hf).heap 1; simp at hcz; exact ⟨wantedN rfl, k_val (.slice none 0 0) (by decide) hs (x_load1 ld49 rfl (hd 15 (by kernel_rfl) 20 rfl) hcz) rfl⟩
    refine ⟨?_, ?_⟩
    · intro a' w' k' hb hf hs hc hq hg hd
      obtain ⟨b7, e7, h7, h8⟩ := (hd 12 (by kernel_rfl) 17 rfl); exact ⟨wantedN rfl, k_val _ (by decide) hs (x_app49 rfl rfl e7 (hd 16 (by kernel_rfl) 21 rfl) (run_append_owned_none w' 0 49 49 3 inf 1 Try.underlying49 hi0 _ 0 [] (own03 h7))) ⟨b7, rfl, h7, h8⟩⟩
    refine ⟨?_, ?_⟩
    · intro a' w' k' hb hf hs hc hq hg hd
      obtain ⟨b7, e7, h7, h8⟩ := (hd 17 (by kernel_rfl) 22 rfl); exact ⟨wantedN rfl, k_val _ (by decide) hs (x_build51 rfl (hd 3 (by kernel_rfl) 8 rfl) (hd 7 (by kernel_rfl) 12 rfl) (hd 11 (by kernel_rfl) 16 rfl) e7) ⟨b7, rfl, h7, h8⟩⟩
    refine ⟨?_, ?_⟩
    · intro a' w' k' hb hf hs hc hq hg hd
      obtain ⟨b7, e7, h7, h8⟩ := (hd 18 (by kernel_rfl) 23 rfl); have hf0 : Fr (fun _ => False) w w' := hf; exact ⟨wantedN rfl, k_new _ (w'.alloc (.cells #[.slice none 0 0, .slice (some ⟨b7, 0, none⟩) 0 0, .int .i64 (m.calls : Int), .int .i64 (m.bad : Int), .int .i64 (m.long : Int)] 51)) (by decide) trivial ((Fr.refl _ _).alloc _) (x_box51 rfl e7) ⟨_, b7, rfl, heap_alloc_new _ _, by rw [Below.heap_alloc _ _ _ (lt_of_heap h7)]; exact h7, h8, hf0.size⟩⟩
    refine ⟨?_, ?_⟩
    · intro a' w' k' hb hf hs hc hq hg hd
      have hh := (hd 19 (by kernel_rfl) 24 rfl); exact ⟨wantedN rfl, k_val _ (by decide) hs (x_assign rfl rfl) hh⟩
    exact trivial
  case done =>
    intro a' w1 hb hf hs hall
    have hdf' : a'.defers = [] := by rw [hb.defers]; exact hdf
    obtain ⟨g, lb, e3, hg1, hb1, hlb, hgg⟩ := hall 20 (by decide) 3 rfl
    obtain ⟨v3, hv3⟩ : ∃ v, a'.tmps.getD 3 undef = v := ⟨_, rfl⟩
    obtain ⟨v5, hv5⟩ : ∃ v, a'.tmps.getD 5 undef = v := ⟨_, rfl⟩
    obtain ⟨v6, hv6⟩ : ∃ v, a'.tmps.getD 6 undef = v := ⟨_, rfl⟩
    obtain ⟨v7, hv7⟩ : ∃ v, a'.tmps.getD 7 undef = v := ⟨_, rfl⟩
    obtain ⟨v8, hv8⟩ : ∃ v, a'.tmps.getD 8 undef = v := ⟨_, rfl⟩
    obtain ⟨v9, hv9⟩ : ∃ v, a'.tmps.getD 9 undef = v := ⟨_, rfl⟩
    obtain ⟨v10, hv10⟩ : ∃ v, a'.tmps.getD 10 undef = v := ⟨_, rfl⟩
    obtain ⟨v11, hv11⟩ : ∃ v, a'.tmps.getD 11 undef = v := ⟨_, rfl⟩
    obtain ⟨v12, hv12⟩ : ∃ v, a'.tmps.getD 12 undef = v := ⟨_, rfl⟩
    obtain ⟨v13, hv13⟩ : ∃ v, a'.tmps.getD 13 undef = v := ⟨_, rfl⟩
    obtain ⟨v14, hv14⟩ : ∃ v, a'.tmps.getD 14 undef = v := ⟨_, rfl⟩
    obtain ⟨v15, hv15⟩ : ∃ v, a'.tmps.getD 15 undef = v := ⟨_, rfl⟩
    obtain ⟨v16, hv16⟩ : ∃ v, a'.tmps.getD 16 undef = v := ⟨_, rfl⟩
    obtain ⟨v17, hv17⟩ : ∃ v, a'.tmps.getD 17 undef = v := ⟨_, rfl⟩
    obtain ⟨v18, hv18⟩ : ∃ v, a'.tmps.getD 18 undef = v := ⟨_, rfl⟩
    obtain ⟨v19, hv19⟩ : ∃ v, a'.tmps.getD 19 undef = v := ⟨_, rfl⟩
    obtain ⟨v20, hv20⟩ : ∃ v, a'.tmps.getD 20 undef = v := ⟨_, rfl⟩
    obtain ⟨v21, hv21⟩ : ∃ v, a'.tmps.getD 21 undef = v := ⟨_, rfl⟩
    obtain ⟨v22, hv22⟩ : ∃ v, a'.tmps.getD 22 undef = v := ⟨_, rfl⟩
    obtain ⟨v23, hv23⟩ : ∃ v, a'.tmps.getD 23 undef = v := ⟨_, rfl⟩
    obtain ⟨v24, hv24⟩ : ∃ v, a'.tmps.getD 24 undef = v := ⟨_, rfl⟩
    have hfr := frame_eq (a := a') (vs := [.pointer (some ⟨h, 0, none⟩), undef, .pointer none, v3, undef, v5, v6, v7, v8, v9, v10, v11, v12, v13, v14, v15, v16, v17, v18, v19, v20, v21, v22, v23, v24, undef, undef, undef, undef, undef, undef, undef, undef, undef, undef, undef, undef, undef, undef, undef, undef, undef, undef, undef, undef, undef, undef, undef, undef, undef, undef, undef, undef]) (by rw [hb.size, hsz]; rfl) hdf' ⟨((hb.old 0 (by decide +kernel)).trans h0), ((hb.old 1 (by decide +kernel)).trans (by rw [unhide HA0]; rfl)), ((hb.old 2 (by decide +kernel)).trans (by rw [unhide HA0]; rfl)), hv3, ((hb.old 4 (by decide +kernel)).trans (by rw [unhide HA0]; rfl)), hv5, hv6, hv7, hv8, hv9, hv10, hv11, hv12, hv13, hv14, hv15, hv16, hv17, hv18, hv19, hv20, hv21, hv22, hv23, hv24, ((hb.old 25 (by decide +kernel)).trans (by rw [unhide HA0]; rfl)), ((hb.old 26 (by decide +kernel)).trans (by rw [unhide HA0]; rfl)), ((hb.old 27 (by decide +kernel)).trans (by rw [unhide HA0]; rfl)), ((hb.old 28 (by decide +kernel)).trans (by rw [unhide HA0]; rfl)), ((hb.old 29 (by decide +kernel)).trans (by rw [unhide HA0]; rfl)), ((hb.old 30 (by decide +kernel)).trans (by rw [unhide HA0]; rfl)), ((hb.old 31 (by decide +kernel)).trans (by rw [unhide HA0]; rfl)), ((hb.old 32 (by decide +kernel)).trans (by rw [unhide HA0]; rfl)), ((hb.old 33 (by decide +kernel)).trans (by rw [unhide HA0]; rfl)), ((hb.old 34 (by decide +kernel)).trans (by rw [unhide HA0]; rfl)), ((hb.old 35 (by decide +kernel)).trans (by rw [unhide HA0]; rfl)), ((hb.old 36 (by decide +kernel)).trans (by rw [unhide HA0]; rfl)), ((hb.old 37 (by decide +kernel)).trans (by rw [unhide HA0]; rfl)), ((hb.old 38 (by decide +kernel)).trans (by rw [unhide HA0]; rfl)), ((hb.old 39 (by decide +kernel)).trans (by rw [unhide HA0]; rfl)), ((hb.old 40 (by decide +kernel)).trans (by rw [unhide HA0]; rfl)), ((hb.old 41 (by decide +kernel)).trans (by rw [unhide HA0]; rfl)), ((hb.old 42 (by decide +kernel)).trans (by rw [unhide HA0]; rfl)), ((hb.old 43 (by decide +kernel)).trans (by rw [unhide HA0]; rfl)), ((hb.old 44 (by decide +kernel)).trans (by rw [unhide HA0]; rfl)), ((hb.old 45 (by decide +kernel)).trans (by rw [unhide HA0]; rfl)), ((hb.old 46 (by decide +kernel)).trans (by rw [unhide HA0]; rfl)), ((hb.old 47 (by decide +kernel)).trans (by rw [unhide HA0]; rfl)), ((hb.old 48 (by decide +kernel)).trans (by rw [unhide HA0]; rfl)), ((hb.old 49 (by decide +kernel)).trans (by rw [unhide HA0]; rfl)), ((hb.old 50 (by decide +kernel)).trans (by rw [unhide HA0]; rfl)), ((hb.old 51 (by decide +kernel)).trans (by rw [unhide HA0]; rfl)), ((hb.old 52 (by decide +kernel)).trans (by rw [unhide HA0]; rfl)), trivial⟩
    rw [hv3] at e3
    have F1 : Hid (Fr (fun _ => False) w w1) := hide hf
    clear hall hb hf hs hv3 hv5 hv6 hv7 hv8 hv9 hv10 hv11 hv12 hv13 hv14 hv15 hv16 hv17 hv18 hv19 hv20 hv21 hv22 hv23 hv24
    subst e3
    subst hfr
    clear HA0 h0 hsz hdf hdf'
    apply_assumption
    have hH := unhide HH
    have HI0 : Hid (HAtG w1 g (.slice none 0 0) (.slice (some ⟨lb, 0, none⟩) 0 0) [] (tk m 0)) := hide ⟨hg1, by rw [show (tk m 0).D.length = 0 by simp [tk]]; exact owns_nilE _ 37, fun j hj => by simp [tk] at hj, by
      have : (tk m 0).log = [] := unhide HM
      rw [this]; exact own03 hb1, ⟨by simp [tk], fun d hd => by simp [tk] at hd, hH.ok.log, hH.ok.bad, hH.ok.long, hH.ok.few⟩, fun _ _ b _ => avNo_z b, fun b e => absurd e (avNo_z b)⟩
    clear hH hg1 hb1
    go_wp2_with fail
    go_loopw [4] (fun z W => ∃ (i : Nat) (dv2 : Value) (vs2 : List Value), i ≤ N ∧ z = .int .i64 (i : Int) ∧ HAtG W g dv2 (.slice (some ⟨lb, 0, none⟩) 0 0) vs2 (tk m i) ∧ (∀ k, dv2.ownBlock = some k → w.heap.size ≤ k) ∧ Fr (fun _ => False) w W) (fun z _ => N - (intOf z).toNat)
    case atStart => exact ⟨0, _, _, by omega, rfl, unhide HI0, fun k hk => by simp [Value.ownBlock] at hk, unhide F1⟩
    case round =>
      obtain ⟨i, dv2, vs2, hi, rfl, hG, hdn, hf⟩ := hrel
      have HG := hide hG
      have HDN := hide hdn
      have HFW := hide hf
      have hHr := (unhide HH).kept0 hf
      have e0 := cell_of_heap hHr.heap 0
      simp at e0
      subst hdv
      by_cases hlt : i < N
      · have hiD : i < m.D.length := by have := unhide HN; omega
        obtain ⟨Di, hDi⟩ : ∃ Di, m.D[i]? = some Di := ⟨_, List.getElem?_eq_getElem hiD⟩
        obtain ⟨dg, dc', cur, e, hnc, hcm, hg5, hcs, hcells⟩ := owns_at hHr.data (by omega)
        have e' := e
        simp only [Value.slice.injEq] at e'
        obtain ⟨rfl, -, rfl⟩ := e'
        obtain ⟨rb, hrb, hRB⟩ := hHr.rd i hiD
        have rc := (hcells i hiD).trans hrb
        have hDi2 : m.D[i] = Di := (List.getElem?_eq_some_iff.1 hDi).2
        rw [hDi2] at hRB
        have hdl : Di.length = 384 := hHr.ok.all Di (List.mem_of_getElem? hDi)
        have hRD := hRB.rd (by rw [hdl]; decide)
        rw [hdl] at hRD
        have HRD := hide hRD
        have HDL := hide hdl
        have HDI := hide hDi
        have hlen : (tk m i).D.length = i := by simp [tk]; omega
        have HDA : Hid (wr.ownsRow 0 37 1 dv2 i vs2) := hide (by have := hG.data; rw [hlen] at this; exact this)
        have HBL : Hid (∀ k, dv2.ownBlock = some k → k < wr.heap.size) := hide (fun k hk => knd_lt (by rw [knd_owns hG.data hk]; decide))
        clear hG hdn hf hHr hiD hDi hnc hcm hg5 hcs hcells hrb hRB hDi2 hdl hRD hlen e g0
        go_wp2_with fail
        refine wp_nameK ?_
        intro a0 hA
        have h0 : a0.tmps.getD 0 undef = .pointer (some ⟨h, 0, none⟩) := by rw [hA]; rfl
        have h3 : a0.tmps.getD 3 undef = .pointer (some ⟨g, 0, none⟩) := by rw [hA]; rfl
        have h4 : a0.tmps.getD 4 undef = .int .i64 (i : Int) := by rw [hA]; rfl
        have hsz : a0.tmps.size = 53 := by rw [hA]; rfl
        have hdf : a0.defers = [] := by rw [hA]
        have HA0 := hide hA
        clear hA
        refine wp_region_kinds (fun k => k = g ∨ dv2.ownBlock = some k) (by kernel_rfl) (by kernel_rfl) (by decide +kernel) (by rw [hsz]; decide +kernel) [.eq (.pointer (some ⟨g, 0, none⟩)), .eq (.pointer (some ⟨g, 0, none⟩)), .eq (.pointer (some ⟨g, 0, none⟩)), .eq (.pointer (some ⟨g, 0, none⟩)), .eq (dv2), (.st 0 (fun v W => ∃ b, v = .slice (some ⟨b, 0, none⟩) 0 0 ∧ W.heap[b]? = some (.cells #[] 5 (0, 0)) ∧ wr.heap.size ≤ b) (fun v w1 w2 ⟨b, h1, h2, h3⟩ f => ⟨b, h1, by rw [f.block b (lt_of_heap h2) id]; exact h2, h3⟩)), .eq (.pointer (some ⟨h, 0, none⟩)), .eq (.pointer (some ⟨h, 0, none⟩)), .eq (.pointer (some ⟨h, 0, none⟩)), .eq (.slice (some ⟨dg, 0, none⟩) N dc), .eq (.int .i64 (i : Int)), .eq (.pointer (some ⟨dg, i, none⟩)), .eq (.slice (some ⟨rb, 0, none⟩) 384 384), (.st 0 (fun v W => ∃ b cb, v = .slice (some ⟨b, 0, none⟩) 384 cb ∧ RA W b cb Di ∧ wr.heap.size ≤ b) (fun v w1 w2 ⟨b, cb, h1, h2, h3⟩ f => ⟨b, cb, h1, h2.kept f id, h3⟩)), (.st 0 (fun v W => ∃ b cb, Sr W 1 v 1 [.slice (some ⟨b, 0, none⟩) 384 cb] ∧ RA W b cb Di ∧ wr.heap.size ≤ b) (fun v w1 w2 ⟨b, cb, h1, h2, h3⟩ f => ⟨b, cb, sr_kept h1 f, h2.kept f id, h3⟩)), (.st 1 (fun v W => APG wr dv2 vs2 i Di v W) (fun v w1 w2 hv f => hv.kept f)), .eq (.pointer (some ⟨g, 0, none⟩)), .eq (.pointer (some ⟨g, 0, none⟩)), .any] [15, 18] (by decide) (by decide) (twopath (waits (by kernel_rfl))) (fun k W => (k ≤ 0 → Fr (fun _ => False) wr W) ∧ (k = 2 → NHG wr g dv2 (.slice (some ⟨lb, 0, none⟩) 0 0) m (i + 1) W)) ⟨fun _ => (Fr.refl _ _).drew, fun e => by omega⟩ ?steps ?done
        case steps =>
          refine ⟨?_, ?_⟩
          · intro a' w' k' hb hf hs hc hq hg hd
            exact ⟨wantedN rfl, k_val (.pointer (some ⟨g, 0, none⟩)) (by decide) hs (x_move rfl ((hb.old 3 (by decide +kernel)).trans h3)) rfl⟩
          refine ⟨?_, ?_⟩
          · intro a' w' k' hb hf hs hc hq hg hd
            exact ⟨wantedN rfl, k_val (.pointer (some ⟨g, 0, none⟩)) (by decide) hs (x_move rfl ((hb.old 3 (by decide +kernel)).trans h3)) rfl⟩
          refine ⟨?_, ?_⟩
          · intro a' w' k' hb hf hs hc hq hg hd
            exact ⟨wantedN rfl, k_val (.pointer (some ⟨g, 0, none⟩)) (by decide) hs (x_nilCheck rfl (hd 1 (by kernel_rfl) 35 rfl)) rfl⟩
          refine ⟨?_, ?_⟩
          · intro a' w' k' hb hf hs hc hq hg hd
            exact ⟨wantedN rfl, k_val (.pointer (some ⟨g, 0, none⟩)) (by decide) hs (x_field (of := 0) (off := 0) (fa51_0 g 0) rfl (hd 2 (by kernel_rfl) 36 rfl)) rfl⟩
          refine ⟨?_, ?_⟩
          · intro a' w' k' hb hf hs hc hq hg hd
            have hF0 : Fr (fun _ => False) wr w' := hs.1 (by have := hq 0 15 rfl (waits (by kernel_rfl)); omega); have hcz := cell_of_heap (((unhide HG).kept0 hF0).heap) 0; simp at hcz; exact ⟨wantedN rfl, k_val (dv2) (by decide) hs (x_load1 ld48 rfl (hd 3 (by kernel_rfl) 37 rfl) hcz) rfl⟩
          refine ⟨?_, ?_⟩
          · intro a' w' k' hb hf hs hc hq hg hd
            obtain rfl : k' = 0 := Nat.le_zero.1 (hq 0 15 rfl (waits (by kernel_rfl))); have hF0 : Fr (fun _ => False) wr w' := hs.1 (by omega); exact ⟨wantedN rfl, k_new _ (w'.alloc (.cells #[] 5)) (by decide) ⟨fun _ => hF0.trans ((Fr.refl (fun _ => False) _).alloc _) (fun _ _ h => h), fun e => by omega⟩ ((Fr.refl _ _).alloc _) (x_bs0 rfl) ⟨Nat.zero_le _, fun _ => ⟨_, rfl, heap_alloc_new _ _, hF0.size⟩⟩⟩
          refine ⟨?_, ?_⟩
          · intro a' w' k' hb hf hs hc hq hg hd
            exact ⟨wantedN rfl, k_val (.pointer (some ⟨h, 0, none⟩)) (by decide) hs (x_move rfl ((hb.old 0 (by decide +kernel)).trans h0)) rfl⟩
          refine ⟨?_, ?_⟩
          · intro a' w' k' hb hf hs hc hq hg hd
            exact ⟨wantedN rfl, k_val (.pointer (some ⟨h, 0, none⟩)) (by decide) hs (x_nilCheck rfl (hd 6 (by kernel_rfl) 40 rfl)) rfl⟩
          refine ⟨?_, ?_⟩
          · intro a' w' k' hb hf hs hc hq hg hd
            exact ⟨wantedN rfl, k_val (.pointer (some ⟨h, 0, none⟩)) (by decide) hs (x_field (of := 0) (off := 0) (fa51_0 h 0) rfl (hd 7 (by kernel_rfl) 41 rfl)) rfl⟩
          refine ⟨?_, ?_⟩
          · intro a' w' k' hb hf hs hc hq hg hd
            have hF0 : Fr (fun _ => False) wr w' := hs.1 (by have := hq 0 15 rfl (waits (by kernel_rfl)); omega); have hcz := cell_of_heap (((unhide HH).kept0 ((unhide HFW).trans hF0 (fun _ _ e => e))).heap) 0; simp at hcz; exact ⟨wantedN rfl, k_val (.slice (some ⟨dg, 0, none⟩) N dc) (by decide) hs (x_load1 ld48 rfl (hd 8 (by kernel_rfl) 42 rfl) hcz) rfl⟩
          refine ⟨?_, ?_⟩
          · intro a' w' k' hb hf hs hc hq hg hd
            exact ⟨wantedN rfl, k_val (.int .i64 (i : Int)) (by decide) hs (x_move rfl ((hb.old 4 (by decide +kernel)).trans h4)) rfl⟩
          refine ⟨?_, ?_⟩
          · intro a' w' k' hb hf hs hc hq hg hd
            exact ⟨wantedN rfl, k_val (.pointer (some ⟨dg, i, none⟩)) (by decide) hs (x_idx48 rfl (hd 9 (by kernel_rfl) 43 rfl) (hd 10 (by kernel_rfl) 44 rfl) hlt) rfl⟩
          refine ⟨?_, ?_⟩
          · intro a' w' k' hb hf hs hc hq hg hd
            have hF0 : Fr (fun _ => False) wr w' := hs.1 (by have := hq 0 15 rfl (waits (by kernel_rfl)); omega); exact ⟨wantedN rfl, k_val (.slice (some ⟨rb, 0, none⟩) 384 384) (by decide) hs (x_load1 ld37 rfl (hd 11 (by kernel_rfl) 45 rfl) ((hF0.cell (World.block_lt_of_cell? _ _ rc) id).trans rc)) rfl⟩
          refine ⟨?_, ?_⟩
          · intro a' w' k' hb hf hs hc hq hg hd
            obtain rfl : k' = 0 := Nat.le_zero.1 (hq 0 15 rfl (waits (by kernel_rfl))); have hF0 : Fr (fun _ => False) wr w' := hs.1 (by omega); have hh := hd 5 (by kernel_rfl) 39 rfl; obtain ⟨b7, e7, h7, h8⟩ := hh.2 rfl; obtain ⟨v9, w9, hr9, hR9, hf9⟩ := app37_first w' b7 h7 ((unhide HRD).kept hF0 (fun _ _ e => e)) (unhide HDL) (Nat.le_trans hF0.size (Nat.le_refl _)) h8; exact ⟨wantedN rfl, k_new v9 w9 (by decide) ⟨fun _ => hF0.trans hf9 (fun _ _ h => h), fun e => by omega⟩ hf9 (x_app37 rfl rfl e7 (hd 12 (by kernel_rfl) 46 rfl) hr9) ⟨Nat.zero_le _, fun _ => hR9⟩⟩
          refine ⟨?_, ?_⟩
          · intro a' w' k' hb hf hs hc hq hg hd
            obtain rfl : k' = 0 := Nat.le_zero.1 (hq 0 15 rfl (waits (by kernel_rfl))); have hF0 : Fr (fun _ => False) wr w' := hs.1 (by omega); have hh := hd 13 (by kernel_rfl) 47 rfl; obtain ⟨b7, cb7, e7, h7, h8⟩ := hh.2 rfl; exact ⟨wantedN rfl, k_new _ (w'.alloc (.cells #[.slice (some ⟨b7, 0, none⟩) 384 cb7] 37)) (by decide) ⟨fun _ => hF0.trans ((Fr.refl (fun _ => False) _).alloc _) (fun _ _ h => h), fun e => by omega⟩ ((Fr.refl _ _).alloc _) (x_bs rfl e7 ⟨_, _, _, rfl⟩) ⟨Nat.zero_le _, fun _ => ⟨b7, cb7, one_cellV _ _ _, h7.kept ((Fr.refl (fun _ => False) _).alloc _) id, h8⟩⟩⟩
          refine ⟨?_, ?_⟩
          · intro a' w' k' hb hf hs hc hq hg hd
            obtain rfl := hc 0 rfl; have hF0 : Fr (fun _ => False) wr w' := hs.1 (by omega); have hh := hd 14 (by kernel_rfl) 48 rfl; obtain ⟨b7, cb7, hS7, hB7, hb7⟩ := hh.2 rfl; obtain ⟨v9, w9, hr9, ho9, hg9, hn9⟩ := run_app (P := Try.prog) w' 48 48 37 inf7 _ 1 24 Try.underlying48 hj0 hy0 hy1 hy2 rfl (by decide) dv2 i vs2 (owns_kept (unhide HDA) hF0 (fun _ _ h => h)) _ 1 _ hS7 (fun u hu => by simp at hu; subst hu; rfl) (by omega) (by simp only [maxLen]; omega); exact ⟨wantedN rfl, k_chain v9 w9 (by decide) ⟨fun e => by omega, fun e => by omega⟩ (ap_fr1 hg9) (x_app rfl rfl (hd 4 (by kernel_rfl) 38 rfl) rfl hr9) ⟨Nat.le_refl _, fun _ => apg_mk hF0 ho9 hg9 hn9 hB7 hb7 (unhide HBL)⟩⟩
          refine ⟨?_, ?_⟩
          · intro a' w' k' hb hf hs hc hq hg hd
            exact ⟨wantedN rfl, k_val (.pointer (some ⟨g, 0, none⟩)) (by decide) hs (x_nilCheck rfl (hd 0 (by kernel_rfl) 34 rfl)) rfl⟩
          refine ⟨?_, ?_⟩
          · intro a' w' k' hb hf hs hc hq hg hd
            exact ⟨wantedN rfl, k_val (.pointer (some ⟨g, 0, none⟩)) (by decide) hs (x_field (of := 0) (off := 0) (fa51_0 g 0) rfl (hd 16 (by kernel_rfl) 50 rfl)) rfl⟩
          refine ⟨?_, ?_⟩
          · intro a' w' k' hb hf hs hc hq hg hd
            obtain rfl := hc 1 rfl; have hh := hd 15 (by kernel_rfl) 49 rfl; have hA := hh.2 rfl; obtain ⟨hnh, hcx, hzx⟩ := apg_store (unhide HG) (unhide HBL) hA (unhide HDI) (by have := unhide HN; omega) (unhide HH).ok; exact ⟨wantedN rfl, k_store _ (by decide) ⟨fun e => by omega, fun _ => hnh⟩ (((Fr.refl (fun k => k = g) w').setCell (p := ⟨g, 0, none⟩) (fun _ => rfl) _).mono (fun _ _ e => .inl e)) (x_store48 rfl (hd 17 (by kernel_rfl) 51 rfl) rfl hcx hzx (apg_one hA)) trivial⟩
          exact trivial
        case done =>
          intro a' w6 hb hf hs hall
          have hdf' : a'.defers = [] := by rw [hb.defers]; exact hdf
          obtain ⟨v34, hv34⟩ : ∃ v, a'.tmps.getD 34 undef = v := ⟨_, rfl⟩
          obtain ⟨v35, hv35⟩ : ∃ v, a'.tmps.getD 35 undef = v := ⟨_, rfl⟩
          obtain ⟨v36, hv36⟩ : ∃ v, a'.tmps.getD 36 undef = v := ⟨_, rfl⟩
          obtain ⟨v37, hv37⟩ : ∃ v, a'.tmps.getD 37 undef = v := ⟨_, rfl⟩
          obtain ⟨v38, hv38⟩ : ∃ v, a'.tmps.getD 38 undef = v := ⟨_, rfl⟩
          obtain ⟨v39, hv39⟩ : ∃ v, a'.tmps.getD 39 undef = v := ⟨_, rfl⟩
          obtain ⟨v40, hv40⟩ : ∃ v, a'.tmps.getD 40 undef = v := ⟨_, rfl⟩
          obtain ⟨v41, hv41⟩ : ∃ v, a'.tmps.getD 41 undef = v := ⟨_, rfl⟩
          obtain ⟨v42, hv42⟩ : ∃ v, a'.tmps.getD 42 undef = v := ⟨_, rfl⟩
          obtain ⟨v43, hv43⟩ : ∃ v, a'.tmps.getD 43 undef = v := ⟨_, rfl⟩
          obtain ⟨v44, hv44⟩ : ∃ v, a'.tmps.getD 44 undef = v := ⟨_, rfl⟩
          obtain ⟨v45, hv45⟩ : ∃ v, a'.tmps.getD 45 undef = v := ⟨_, rfl⟩
          obtain ⟨v46, hv46⟩ : ∃ v, a'.tmps.getD 46 undef = v := ⟨_, rfl⟩
          obtain ⟨v47, hv47⟩ : ∃ v, a'.tmps.getD 47 undef = v := ⟨_, rfl⟩
          obtain ⟨v48, hv48⟩ : ∃ v, a'.tmps.getD 48 undef = v := ⟨_, rfl⟩
          obtain ⟨v49, hv49⟩ : ∃ v, a'.tmps.getD 49 undef = v := ⟨_, rfl⟩
          obtain ⟨v50, hv50⟩ : ∃ v, a'.tmps.getD 50 undef = v := ⟨_, rfl⟩
          obtain ⟨v51, hv51⟩ : ∃ v, a'.tmps.getD 51 undef = v := ⟨_, rfl⟩
          have hfr := frame_eq (a := a') (vs := [.pointer (some ⟨h, 0, none⟩), undef, .pointer none, .pointer (some ⟨g, 0, none⟩), .int .i64 (i : Int), v5, v6, v7, v8, v9, v10, v11, v12, v13, v14, v15, v16, v17, v18, v19, v20, v21, v22, v23, v24, a0.tmps.getD 25 undef, a0.tmps.getD 26 undef, a0.tmps.getD 27 undef, a0.tmps.getD 28 undef, a0.tmps.getD 29 undef, a0.tmps.getD 30 undef, a0.tmps.getD 31 undef, a0.tmps.getD 32 undef, a0.tmps.getD 33 undef, v34, v35, v36, v37, v38, v39, v40, v41, v42, v43, v44, v45, v46, v47, v48, v49, v50, v51, undef]) (by rw [hb.size, hsz]; rfl) hdf' ⟨((hb.old 0 (by decide +kernel)).trans h0), ((hb.old 1 (by decide +kernel)).trans (by rw [unhide HA0]; rfl)), ((hb.old 2 (by decide +kernel)).trans (by rw [unhide HA0]; rfl)), ((hb.old 3 (by decide +kernel)).trans h3), ((hb.old 4 (by decide +kernel)).trans h4), ((hb.old 5 (by decide +kernel)).trans (by rw [unhide HA0]; rfl)), ((hb.old 6 (by decide +kernel)).trans (by rw [unhide HA0]; rfl)), ((hb.old 7 (by decide +kernel)).trans (by rw [unhide HA0]; rfl)), ((hb.old 8 (by decide +kernel)).trans (by rw [unhide HA0]; rfl)), ((hb.old 9 (by decide +kernel)).trans (by rw [unhide HA0]; rfl)), ((hb.old 10 (by decide +kernel)).trans (by rw [unhide HA0]; rfl)), ((hb.old 11 (by decide +kernel)).trans (by rw [unhide HA0]; rfl)), ((hb.old 12 (by decide +kernel)).trans (by rw [unhide HA0]; rfl)), ((hb.old 13 (by decide +kernel)).trans (by rw [unhide HA0]; rfl)), ((hb.old 14 (by decide +kernel)).trans (by rw [unhide HA0]; rfl)), ((hb.old 15 (by decide +kernel)).trans (by rw [unhide HA0]; rfl)), ((hb.old 16 (by decide +kernel)).trans (by rw [unhide HA0]; rfl)), ((hb.old 17 (by decide +kernel)).trans (by rw [unhide HA0]; rfl)), ((hb.old 18 (by decide +kernel)).trans (by rw [unhide HA0]; rfl)), ((hb.old 19 (by decide +kernel)).trans (by rw [unhide HA0]; rfl)), ((hb.old 20 (by decide +kernel)).trans (by rw [unhide HA0]; rfl)), ((hb.old 21 (by decide +kernel)).trans (by rw [unhide HA0]; rfl)), ((hb.old 22 (by decide +kernel)).trans (by rw [unhide HA0]; rfl)), ((hb.old 23 (by decide +kernel)).trans (by rw [unhide HA0]; rfl)), ((hb.old 24 (by decide +kernel)).trans (by rw [unhide HA0]; rfl)), (hb.old 25 (by decide +kernel)), (hb.old 26 (by decide +kernel)), (hb.old 27 (by decide +kernel)), (hb.old 28 (by decide +kernel)), (hb.old 29 (by decide +kernel)), (hb.old 30 (by decide +kernel)), (hb.old 31 (by decide +kernel)), (hb.old 32 (by decide +kernel)), (hb.old 33 (by decide +kernel)), hv34, hv35, hv36, hv37, hv38, hv39, hv40, hv41, hv42, hv43, hv44, hv45, hv46, hv47, hv48, hv49, hv50, hv51, ((hb.old 52 (by decide +kernel)).trans (by rw [unhide HA0]; rfl)), trivial⟩
          obtain ⟨dv3, vs3, hG3, hd3, f3⟩ := hs.2 rfl
          have HG3 := hide hG3
          have HD3 : Hid (∀ k, dv3.ownBlock = some k → w.heap.size ≤ k) := hide (fun k hk => by rcases hd3 k hk with e | e; exact unhide HDN k e; have := (unhide HFW).size; omega)
          have HF3 : Hid (Fr (fun _ => False) w w6) := hide ((unhide HFW).trans f3 (fun k hk e => by rcases e with e | e; have := hgg; omega; have := unhide HDN k e; omega))
          clear hall hb hf hs hG3 hd3 f3 hv34 hv35 hv36 hv37 hv38 hv39 hv40 hv41 hv42 hv43 hv44 hv45 hv46 hv47 hv48 hv49 hv50 hv51
          subst hfr
          clear HA0 h0 h3 h4 hsz hdf hdf'
          apply_assumption
          go_wp2_with fail
          go_roundw
          case rel => exact ⟨i + 1, dv3, vs3, by omega, by go_num, unhide HG3, unhide HD3, unhide HF3⟩
          case measure => simp [intOf]; omega
      · have hie : N = i := by omega
        have HT : Hid (tk m i = m) := hide (by unfold tk; rw [← hie, unhide HN, List.take_length])
        subst hie
        clear hG hdn hf hHr g0
        go_wp2_with fail
        go_ret
        exact ⟨⟨g, dv2, _, vs2, rfl, by rw [← unhide HT]; exact unhide HG, hgg, unhide HDN, fun k hk => by simp [Value.ownBlock] at hk; omega⟩, unhide HFW⟩
end
end Go.Proofs.Ytdgmlopaeonacaa
