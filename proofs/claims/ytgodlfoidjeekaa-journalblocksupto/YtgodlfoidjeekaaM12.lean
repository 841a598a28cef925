/-
  Puts in new memory: Own.
  There and back, plainly: what was laid is read again, and what can be read is laid as it was.
  JournalBack.
  The document's GetEntry.
  The document's GetEntry.
  The document's GetTx.
-/
import Derived.Test.YtgodlfoidjeekaaM09
import Derived.Test.YtgodlfoidjeekaaM10
import Derived.Test.YtgodlfoidjeekaaM11
namespace Go.Proofs.Ytgodlfoidjeekaa
set_option linter.unusedVariables false
set_option linter.unusedSimpArgs false
open Go.RowKit
set_option linter.unusedVariables false
set_option linter.unusedSimpArgs false

attribute [local go_sem ↓] Go.wp_at_zero Go.wp_at_succ

/-- The cells of puts. -/
def pc (ts : List (Int × Value × List UInt8)) : List Value := ts.flatMap fun t => [.int .i64 t.1, t.2.1]
theorem pc_more (ts : List (Int × Value × List UInt8)) (t : Int × Value × List UInt8) : pc (ts ++ [t]) = pc ts ++ [.int .i64 t.1, t.2.1] := by simp [pc]
theorem pc_get (ts : List (Int × Value × List UInt8)) : ∀ j (h : j < ts.length), (pc ts)[j * 2]? = some (.int .i64 (ts[j]).1) ∧ (pc ts)[j * 2 + 1]? = some (ts[j]).2.1 := by
  induction ts with
  | nil => intro j h; simp at h
  | cons a r ih =>
    intro j h
    have e : pc (a :: r) = .int .i64 a.1 :: a.2.1 :: pc r := by simp [pc]
    rw [e]
    cases j with
    | zero => simp
    | succ j =>
      have := ih j (by simpa using h)
      rw [show (j + 1) * 2 = j * 2 + 1 + 1 by omega]
      simpa using this
theorem own_ge {M : Nat} {w : World} {e size : Nat} {v : Value} {n : Nat} {xs : List Value} (h : w.ownsRow M e size v n xs) : ∀ b, v.ownBlock = some b → M ≤ b ∧ b < w.heap.size ∧ ∃ cs, w.heap[b]? = some (.cells cs e (0, 0)) := by
  intro b e
  obtain ⟨h1, h2 | ⟨g, cap, cur, h3, h4, h5, h6⟩⟩ := h
  · rw [h2.1] at e; simp [Value.ownBlock] at e
  · rw [h3] at e
    simp [Value.ownBlock] at e
    subst e
    exact ⟨h4, lt_of_heap h5, _, h5⟩
theorem own_low {M N : Nat} {w : World} {e size : Nat} {v : Value} {n : Nat} {xs : List Value} (h : w.ownsRow M e size v n xs) (hN : ∀ b, v.ownBlock = some b → N ≤ b) : w.ownsRow N e size v n xs := by
  obtain ⟨h1, h2 | ⟨g, cap, cur, h3, h4, h5, h6⟩⟩ := h
  · exact ⟨h1, .inl h2⟩
  · exact ⟨h1, .inr ⟨g, cap, cur, h3, hN g (by rw [h3]; rfl), h5, h6⟩⟩
theorem own_keptM {M : Nat} {w w' : World} {e size : Nat} {v : Value} {n : Nat} {xs : List Value} {S : Nat → Prop} (h : w.ownsRow M e size v n xs) (f : Fr S w w') (hs : ∀ b, v.ownBlock = some b → ¬ S b) : w'.ownsRow M e size v n xs :=
  own_low (owns_kept (own_low h (fun _ _ => Nat.zero_le _)) f hs) (fun b e => (own_ge h b e).1)
theorem pc_length (ts : List (Int × Value × List UInt8)) : (pc ts).length = ts.length * 2 := by
  induction ts with
  | nil => rfl
  | cons a r ih =>
    have e : pc (a :: r) = .int .i64 a.1 :: a.2.1 :: pc r := by simp [pc]
    rw [e, List.length_cons, List.length_cons, List.length_cons, ih]
    omega
/-- Puts in memory of their own, from M on. -/
def PO (M : Nat) (w : World) (v : Value) (ps : List (Int × List UInt8)) : Prop := ∃ ts : List (Int × Value × List UInt8), ts.map (fun t => (t.1, t.2.2)) = ps ∧ w.ownsRow M 94 2 v ps.length (pc ts) ∧ ∀ t ∈ ts, Ob M w t.2.1 t.2.2
theorem PO.nil (M : Nat) (w : World) : PO M w (.slice none 0 0) [] := ⟨[], rfl, World.ownsRow_nil _ _ _ _, fun t h => by simp at h⟩
theorem PO.shape {M : Nat} {w : World} {v : Value} {ps : List (Int × List UInt8)} (h : PO M w v ps) : ∃ ao c, v = .slice ao ps.length c := by
  obtain ⟨ts, -, h, -⟩ := h
  exact owns_shape h
theorem ob_keptS {M : Nat} {w w' : World} {v : Value} {l : List UInt8} {S : Nat → Prop} (h : Ob M w v l) (f : Fr S w w') (hs : ∀ b, v.ownBlock = some b → ¬ S b) : Ob M w' v l := own_keptM h f hs
theorem PO.kept {M : Nat} {w w' : World} {v : Value} {ps : List (Int × List UInt8)} (h : PO M w v ps) (f : Fr (fun _ => False) w w') : PO M w' v ps := by
  obtain ⟨ts, h1, h2, h3⟩ := h
  exact ⟨ts, h1, own_keptM h2 f (fun _ _ e => e), fun t ht => ob_keptS (h3 t ht) f (fun _ _ e => e)⟩
theorem PO.rdp {M : Nat} {w : World} {v : Value} {ps : List (Int × List UInt8)} (h : PO M w v ps) : RdP w v ps := by
  obtain ⟨ts, h1, h2, h3⟩ := h
  rcases id h2.2 with ⟨hv, hn⟩ | ⟨g, cap, cur, rfl, hb, hg, hnc, hcm, hcs, htake⟩
  · exact .inl ⟨⟨none, 0, hv⟩, List.eq_nil_of_length_eq_zero hn⟩
  · refine .inr ⟨g, 0, cap, rfl, hnc, hcm, fun j hj => ?_⟩
    subst h1
    have hj' : j < ts.length := by simpa using hj
    have hl := pc_length ts
    obtain ⟨g1, g2⟩ := pc_get ts j hj'
    have c1 := World.ownsRow.cellAt h2 (j * 2) (by simp; omega)
    have c2 := World.ownsRow.cellAt h2 (j * 2 + 1) (by simp; omega)
    rw [Nat.zero_add]
    refine ⟨?_, (ts[j]).2.1, c2.trans g2, ?_⟩
    · rw [c1, g1]; simp
    · have := Rd.of_owns (h3 _ (List.getElem_mem hj'))
      simpa using this
section
variable {ρ : Operand → Value} {o : Oper} {w : World} {x y : Operand} {ao : Option Addr} {B of n c : Nat}
theorem x_idx28i {i : Nat} (hi : i < n) (ho : o.op = .indexAddr 28 x y) (hx : ρ x = .slice (some ⟨B, of, none⟩) n c) (hy : ρ y = .int .i64 (i : Int)) : (execOp ρ o).run Try.prog w = .ok (.value (.pointer (some ⟨B, of + i * 2, none⟩))) w := by
  obtain ⟨inf, hi0, hz0, hz1, hz2⟩ := info_parts Try.info94
  simp [execOp, ho, hx, hy, go_sem, hi]
theorem fa94_1' (b o : Nat) (W : World) : (Instr.fieldAt 94 (.pointer (some ⟨b, o, none⟩)) 1).run Try.prog W = .ok (.pointer (some ⟨b, o + 1, none⟩)) W := by simp [go_sem]
theorem x_bs230 (ho : o.op = .buildSlice 23 0 #[]) : (execOp ρ o).run Try.prog w = .ok (.value (.slice (some ⟨w.heap.size, 0, none⟩) 0 0)) (w.alloc (.cells #[] 5)) := by
  simp [execOp, ho, go_sem]
theorem x_app23 {a b v : Value} {w2 : World} (ho : o.op = .call { callee := .builtin .append, args := #[x, y], argTypes := #[23, 23] }) (hty : o.type = 23) (hx : ρ x = a) (hy : ρ y = b) (hr : (Builtin.append_ #[23, 23] 23 #[a, b]).run Try.prog w = .ok v w2) : (execOp ρ o).run Try.prog w = .ok (.value v) w2 := by
  simp only [execOp, ho, hty, resolve, invoke, builtin, Sem.run_bind, Sem.run_pure, Result.andThen_ok, List.map_toArray, List.map_cons, List.map_nil, hx, hy, hr]
theorem x_app28 {a b v : Value} {w2 : World} (ho : o.op = .call { callee := .builtin .append, args := #[x, y], argTypes := #[28, 28] }) (hty : o.type = 28) (hx : ρ x = a) (hy : ρ y = b) (hr : (Builtin.append_ #[28, 28] 28 #[a, b]).run Try.prog w = .ok v w2) : (execOp ρ o).run Try.prog w = .ok (.value v) w2 := by
  simp only [execOp, ho, hty, resolve, invoke, builtin, Sem.run_bind, Sem.run_pure, Result.andThen_ok, List.map_toArray, List.map_cons, List.map_nil, hx, hy, hr]
theorem x_build94 {a : Int} {k : Nat} (ho : o.op = .build 94 #[(0, x), (1, y)]) (hx : ρ x = .int .i64 a) (hy : ρ y = .slice ao n k) : (execOp ρ o).run Try.prog w = .ok (.value (.agg #[.int .i64 a, .slice ao n k])) w := by
  simp [execOp, ho, hx, hy, go_sem]
theorem x_bs28 {a : Int} {k : Nat} (ho : o.op = .buildSlice 28 1 #[(0, x)]) (hx : ρ x = .agg #[.int .i64 a, .slice ao n k]) : (execOp ρ o).run Try.prog w = .ok (.value (.slice (some ⟨w.heap.size, 0, none⟩) 1 1)) (w.alloc (.cells #[.int .i64 a, .slice ao n k] 94)) := by
  simp [execOp, ho, hx, go_sem]
end
set_option maxHeartbeats 4000000 in
set_option maxRecDepth 100000 in
theorem go5 {W : World} {B o n cap i M : Nat} {z : Int} {x lv : Value} {d : List UInt8} {qs : List (Int × List UInt8)} {u1 u2 u5 u6 u7 u8 u9 u10 u11 u12 u13 u14 u15 u16 u17 u18 u19 u20 u21 u22 u23 u24 u25 u26 u27 : Value} {Q : Exit → Act → World → Prop} (hi : i < n) (c0 : W.cell? ⟨B, o + i * 2, none⟩ = some (.int .i64 z)) (c1 : W.cell? ⟨B, o + i * 2 + 1, none⟩ = some x) (rx : Rd W x d) (dl : d.length ≤ 100000000) (hp : PO M W lv qs) (ql : qs.length ≤ 100000000) (hm : M ≤ W.heap.size) (hn : lv.ownBlock ≠ some B)
    (hQ : ∀ (y3 y11 y12 y13 y14 y15 y16 y17 y18 y19 y20 y21 y22 y23 y24 y25 y26 : Value) (W' : World), (PO M W' y3 (qs ++ [(z, d)]) ∧ Fr (fun k => lv.ownBlock = some k) W W') → Q .normal ⟨#[.slice (some ⟨B, o, none⟩) n cap, u1, u2, y3, .int .i64 (i : Int), u5, u6, u7, u8, u9, u10, y11, y12, y13, y14, y15, y16, y17, y18, y19, y20, y21, y22, y23, y24, y25, y26, u27], []⟩ W') : (rgF Try.f16 5).wp Try.prog Q ⟨#[.slice (some ⟨B, o, none⟩) n cap, u1, u2, lv, .int .i64 (i : Int), u5, u6, u7, u8, u9, u10, u11, u12, u13, u14, u15, u16, u17, u18, u19, u20, u21, u22, u23, u24, u25, u26, u27], []⟩ W := by
  have HQ := hide hQ
  clear hQ
  have HI := hide hi
  have C0 := hide c0
  have C1 := hide c1
  have RX := hide rx
  have DL := hide dl
  have HP := hide hp
  have QL := hide ql
  have HM := hide hm
  have HN := hide (show ¬ (lv.ownBlock = some B ∨ W.heap.size ≤ B) from fun e => by
    have h1 := World.block_lt_of_cell? W _ c0
    simp at h1
    rcases e with e | e
    · exact hn e
    · omega)
  clear hi c0 c1 rx dl hp ql hm hn
  conv => arg 2; whnf
  refine wp_nameK ?_
  intro a0 hA
  have h0 : a0.tmps.getD 0 undef = .slice (some ⟨B, o, none⟩) n cap := by rw [hA]; rfl
  have h3 : a0.tmps.getD 3 undef = lv := by rw [hA]; rfl
  have h4 : a0.tmps.getD 4 undef = .int .i64 (i : Int) := by rw [hA]; rfl
  have hsz : a0.tmps.size = 28 := by rw [hA]; rfl
  have hdf : a0.defers = [] := by rw [hA]
  have HA0 := hide hA
  clear hA
  refine wp_region_kinds4 (fun k => lv.ownBlock = some k ∨ W.heap.size ≤ k) (by kernel_rfl) (by kernel_rfl) (by decide +kernel) (by rw [hsz]; decide +kernel) [.eq (lv), .eq (.slice (some ⟨B, o, none⟩) n cap), .eq (.int .i64 (i : Int)), .eq (.pointer (some ⟨B, o + i * 2, none⟩)), .eq (.pointer (some ⟨B, o + i * 2, none⟩)), .eq (.int .i64 z), .st 0 (fun v w => ∃ b, v = .slice (some ⟨b, 0, none⟩) 0 0 ∧ W.heap.size ≤ b ∧ w.heap[b]? = some (.cells #[] 5 (0, 0))) (fun v w1 w2 h f => by obtain ⟨b, e, g, h⟩ := h; exact ⟨b, e, g, (f.block b (lt_of_heap h) id).trans h⟩), .eq (.slice (some ⟨B, o, none⟩) n cap), .eq (.int .i64 (i : Int)), .eq (.pointer (some ⟨B, o + i * 2, none⟩)), .eq (.pointer (some ⟨B, o + i * 2 + 1, none⟩)), .eq (x), .st 1 (fun v w => ∃ ao c, v = .slice ao d.length c ∧ Ob W.heap.size w v d) (fun v w1 w2 h f => by obtain ⟨ao, c, e, h⟩ := h; exact ⟨ao, c, e, ob_keptS h f (fun _ _ e => e)⟩), .st 1 (fun v w => ∃ ao c, v = .agg #[.int .i64 z, .slice ao d.length c] ∧ Ob W.heap.size w (.slice ao d.length c) d) (fun v w1 w2 h f => by obtain ⟨ao, c, e, h⟩ := h; exact ⟨ao, c, e, ob_keptS h f (fun _ _ e => e)⟩), .st 1 (fun v w => ∃ b ao c, v = .slice (some ⟨b, 0, none⟩) 1 1 ∧ w.heap[b]? = some (.cells #[.int .i64 z, .slice ao d.length c] 94 (0, 0)) ∧ Ob W.heap.size w (.slice ao d.length c) d) (fun v w1 w2 h f => by obtain ⟨b, ao, c, e, g, h⟩ := h; exact ⟨b, ao, c, e, (f.block b (lt_of_heap g) id).trans g, ob_keptS h f (fun _ _ e => e)⟩), .st 2 (fun v w => PO M w v (qs ++ [(z, d)])) (fun v w1 w2 h f => h.kept f), .st 2 (fun v w => PO M w v (qs ++ [(z, d)])) (fun v w1 w2 h f => h.kept f)] [12, 15] (by decide) (by decide) (chain_paths _ [[12]] (by kernel_rfl)) (fun k w => match k with | 0 => Fr (fun _ => False) W w | 1 => Fr (fun _ => False) W w | _ => Fr (fun k => lv.ownBlock = some k) W w) (Fr.refl _ _).drew ?steps ?done
  case steps =>
    refine ⟨?_, ?_⟩
    · intro a' w' k' hb hf hs hc hq hg hd hu
      exact ⟨wantedN rfl, k_val (lv) (by decide) hs (x_move rfl ((hu 16 3 rfl (.inr (waits (by kernel_rfl)))).trans h3)) rfl⟩
    refine ⟨?_, ?_⟩
    · intro a' w' k' hb hf hs hc hq hg hd hu
      exact ⟨wantedN rfl, k_val (.slice (some ⟨B, o, none⟩) n cap) (by decide) hs (x_move rfl ((hb.old 0 (by decide +kernel)).trans h0)) rfl⟩
    refine ⟨?_, ?_⟩
    · intro a' w' k' hb hf hs hc hq hg hd hu
      exact ⟨wantedN rfl, k_val (.int .i64 (i : Int)) (by decide) hs (x_move rfl ((hb.old 4 (by decide +kernel)).trans h4)) rfl⟩
    refine ⟨?_, ?_⟩
    · intro a' w' k' hb hf hs hc hq hg hd hu
      exact ⟨wantedN rfl, k_val (.pointer (some ⟨B, o + i * 2, none⟩)) (by decide) hs (x_idx28i (unhide HI) rfl (hd 1 (by kernel_rfl) 12 rfl) (hd 2 (by kernel_rfl) 13 rfl)) rfl⟩
    refine ⟨?_, ?_⟩
    · intro a' w' k' hb hf hs hc hq hg hd hu
      exact ⟨wantedN rfl, k_val (.pointer (some ⟨B, o + i * 2, none⟩)) (by decide) hs (x_field (of := o + i * 2) (off := 0) (fa94_0 B (o + i * 2)) rfl (hd 3 (by kernel_rfl) 14 rfl)) rfl⟩
    refine ⟨?_, ?_⟩
    · intro a' w' k' hb hf hs hc hq hg hd hu
      exact ⟨wantedN rfl, k_val (.int .i64 z) (by decide) hs (x_load1 ld3 rfl (hd 4 (by kernel_rfl) 15 rfl) ((Fr.cell hf (a := ⟨B, o + i * 2, none⟩) (World.block_lt_of_cell? W _ (unhide C0)) (unhide HN)).trans (unhide C0))) rfl⟩
    refine ⟨?_, ?_⟩
    · intro a' w' k' hb hf hs hc hq hg hd hu
      obtain rfl : k' = 0 := Nat.le_zero.1 (hq 0 12 rfl (waits (by kernel_rfl))); exact ⟨wantedN rfl, k_new _ _ (by decide) (Fr.trans (show Fr (fun _ => False) W w' from hs) ((Fr.refl _ _).alloc _) (fun _ _ e => e)) ((Fr.refl _ _).alloc _) (x_bs230 rfl) ⟨Nat.le_refl _, fun _ => ⟨_, rfl, hf.size, heap_alloc_new w' _⟩⟩⟩
    refine ⟨?_, ?_⟩
    · intro a' w' k' hb hf hs hc hq hg hd hu
      exact ⟨wantedN rfl, k_val (.slice (some ⟨B, o, none⟩) n cap) (by decide) hs (x_move rfl ((hb.old 0 (by decide +kernel)).trans h0)) rfl⟩
    refine ⟨?_, ?_⟩
    · intro a' w' k' hb hf hs hc hq hg hd hu
      exact ⟨wantedN rfl, k_val (.int .i64 (i : Int)) (by decide) hs (x_move rfl ((hb.old 4 (by decide +kernel)).trans h4)) rfl⟩
    refine ⟨?_, ?_⟩
    · intro a' w' k' hb hf hs hc hq hg hd hu
      exact ⟨wantedN rfl, k_val (.pointer (some ⟨B, o + i * 2, none⟩)) (by decide) hs (x_idx28i (unhide HI) rfl (hd 7 (by kernel_rfl) 18 rfl) (hd 8 (by kernel_rfl) 19 rfl)) rfl⟩
    refine ⟨?_, ?_⟩
    · intro a' w' k' hb hf hs hc hq hg hd hu
      exact ⟨wantedN rfl, k_val (.pointer (some ⟨B, o + i * 2 + 1, none⟩)) (by decide) hs (x_field (of := o + i * 2) (off := 1) (fa94_1' B (o + i * 2)) rfl (hd 9 (by kernel_rfl) 20 rfl)) rfl⟩
    refine ⟨?_, ?_⟩
    · intro a' w' k' hb hf hs hc hq hg hd hu
      exact ⟨wantedN rfl, k_val x (by decide) hs (x_load1 ld23 rfl (hd 10 (by kernel_rfl) 21 rfl) ((Fr.cell hf (a := ⟨B, o + i * 2 + 1, none⟩) (World.block_lt_of_cell? W _ (unhide C1)) (unhide HN)).trans (unhide C1))) rfl⟩
    refine ⟨?_, ?_⟩
    · intro a' w' k' hb hf hs hc hq hg hd hu
      obtain rfl := hc 0 rfl
      obtain ⟨-, h9⟩ := (hd 6 (by kernel_rfl) 17 rfl)
      obtain ⟨b9, e9, n9, h9⟩ := h9 rfl
      have hs' : Fr (fun _ => False) W w' := hs
      have o9 : w'.ownsRow 0 5 1 (.slice (some ⟨b9, 0, none⟩) 0 0) 0 [] := ⟨rfl, .inr ⟨b9, 0, #[], rfl, Nat.zero_le _, h9, Nat.le_refl _, Nat.zero_le _, rfl, rfl⟩⟩
      obtain ⟨inf, hi0, hz0, hz1, hz2⟩ := info_parts Try.info5
      obtain ⟨v2, w2, hr2, ho2, hg2, hn2⟩ := run_app (P := Try.prog) w' 23 23 5 inf _ 1 1 Try.underlying23 hi0 hz0 hz1 hz2 rfl (by decide) _ 0 [] o9 x d.length (bvs d) (((unhide RX).kept hs' (fun _ _ e => e)).sr) (bvs_one _) (by have := unhide DL; omega) (by have := unhide DL; simp only [maxLen]; omega)
      simp only [Nat.zero_add, List.nil_append] at ho2
      obtain ⟨ao2, c2, rfl⟩ := owns_shape ho2
      have fg : Fr (fun _ => False) W w2 := hs'.grown hg2 (fun k hk e => by simp [Value.ownBlock] at e; omega)
      have hsz := hs'.size
      exact ⟨wantedN rfl, k_chain _ w2 (by decide) fg ((Fr.refl _ _).grown hg2 (fun k _ e => .inr (by simp [Value.ownBlock] at e; omega))) (x_app23 rfl rfl e9 (hd 11 (by kernel_rfl) 22 rfl) hr2) ⟨Nat.le_refl _, fun _ => ⟨_, _, rfl, own_low ho2 (fun b hb => by
        rcases hn2 with e | e
        · rw [e] at hb; simp [Value.ownBlock] at hb; omega
        · rw [e] at hb; simp at hb; omega)⟩⟩⟩
    refine ⟨?_, ?_⟩
    · intro a' w' k' hb hf hs hc hq hg hd hu
      have k1 := hq 1 15 rfl (waits (by kernel_rfl))
      obtain ⟨l1, h9⟩ := (hd 12 (by kernel_rfl) 23 rfl)
      obtain rfl : k' = 1 := by omega
      obtain ⟨ao, c, e9, h9⟩ := h9 rfl
      rw [e9] at h9
      exact ⟨wantedN rfl, k_val _ (by decide) hs (x_build94 rfl (hd 5 (by kernel_rfl) 16 rfl) e9) ⟨Nat.le_refl _, fun _ => ⟨_, _, rfl, h9⟩⟩⟩
    refine ⟨?_, ?_⟩
    · intro a' w' k' hb hf hs hc hq hg hd hu
      have k1 := hq 1 15 rfl (waits (by kernel_rfl))
      obtain ⟨l1, h9⟩ := (hd 13 (by kernel_rfl) 24 rfl)
      obtain rfl : k' = 1 := by omega
      obtain ⟨ao, c, e9, h9⟩ := h9 rfl
      exact ⟨wantedN rfl, k_new _ _ (by decide) (Fr.trans (show Fr (fun _ => False) W w' from hs) ((Fr.refl _ _).alloc _) (fun _ _ e => e)) ((Fr.refl _ _).alloc _) (x_bs28 rfl e9) ⟨Nat.le_refl _, fun _ => ⟨_, _, _, rfl, heap_alloc_new w' _, ob_keptS h9 ((Fr.refl (fun _ => False) _).alloc _) (fun _ _ e => e)⟩⟩⟩
    refine ⟨?_, ?_⟩
    · intro a' w' k' hb hf hs hc hq hg hd hu
      obtain rfl := hc 1 rfl
      obtain ⟨-, h9⟩ := (hd 14 (by kernel_rfl) 25 rfl)
      obtain ⟨b9, ao, c, e9, h9, o9⟩ := h9 rfl
      have hs' : Fr (fun _ => False) W w' := hs
      obtain ⟨ts, p1, p2, p3⟩ := (unhide HP).kept hs'
      obtain ⟨inf, hi0, hz0, hz1, hz2⟩ := info_parts Try.info94
      have hsr : Sr w' 2 (.slice (some ⟨b9, 0, none⟩) 1 1) 1 [.int .i64 z, .slice ao d.length c] := .inr ⟨_, _, rfl, rfl, fun j u hu => by
        rw [Addr.add_lit, Nat.zero_add, cell_of_heap h9]
        simpa using hu⟩
      obtain ⟨v2, w2, hr2, ho2, hg2, hn2⟩ := run_app (P := Try.prog) w' 28 28 94 inf _ 2 32 Try.underlying28 hi0 hz0 hz1 hz2 rfl (by decide) lv qs.length _ (own_low p2 (fun _ _ => Nat.zero_le _)) _ 1 _ hsr (fun u hu => by simp at hu; rcases hu with rfl | rfl <;> rfl) (by have := unhide QL; omega) (by have := unhide QL; simp only [maxLen]; omega)
      have fg : Fr (fun k => lv.ownBlock = some k) W w2 := (hs'.mono (fun _ _ h => h.elim)).grown hg2 (fun k _ e => e)
      have f2 : Fr (fun k => lv.ownBlock = some k) w' w2 := (Fr.refl _ _).grown hg2 (fun k _ e => e)
      have hsz := hs'.size
      have hM := unhide HM
      have ht : ∀ (v : Value) (l : List UInt8), Ob 0 w' v l → Ob 0 w2 v l := fun v l h => ob_keptS h f2 (fun b hb e => by
        obtain ⟨-, -, cs, hb1⟩ := own_ge h b hb
        obtain ⟨-, -, cs2, hb2⟩ := own_ge p2 b e
        rw [hb1] at hb2
        simp at hb2)
      have hO : Ob M w2 (.slice ao d.length c) d := own_low (ht _ _ (own_low o9 (fun _ _ => Nat.zero_le _))) (fun b hb => by have := (own_ge o9 b hb).1; omega)
      have hP : PO M w2 v2 (qs ++ [(z, d)]) := ⟨ts ++ [(z, .slice ao d.length c, d)], by rw [List.map_append, p1]; rfl, by
        rw [pc_more, List.length_append]
        exact own_low ho2 (fun b hb => by
          rcases hn2 with e | e
          · rw [e] at hb; exact (own_ge p2 b hb).1
          · rw [e] at hb; simp at hb; omega), fun t ht' => by
        rcases List.mem_append.1 ht' with e | e
        · exact own_low (ht _ _ (own_low (p3 t e) (fun _ _ => Nat.zero_le _))) (fun b hb => (own_ge (p3 t e) b hb).1)
        · simp at e; subst e; exact hO⟩
      exact ⟨wantedN rfl, k_chain _ w2 (by decide) fg ((Fr.refl _ _).grown hg2 (fun k _ e => .inl e)) (x_app28 rfl rfl (hd 0 (by kernel_rfl) 11 rfl) e9 hr2) ⟨Nat.le_refl _, fun _ => hP⟩⟩
    refine ⟨?_, ?_⟩
    · intro a' w' k' hb hf hs hc hq hg hd hu
      have hh := (hd 15 (by kernel_rfl) 26 rfl); exact ⟨wantedN rfl, k_val _ (by decide) hs (x_assign rfl rfl) hh⟩
    exact trivial
  case done =>
    intro a' w' hb hf hs hall
    have hslots : Slots a' 0 [.slice (some ⟨B, o, none⟩) n cap, u1, u2, a'.tmps.getD 3 undef, .int .i64 (i : Int), u5, u6, u7, u8, u9, u10, a'.tmps.getD 11 undef, a'.tmps.getD 12 undef, a'.tmps.getD 13 undef, a'.tmps.getD 14 undef, a'.tmps.getD 15 undef, a'.tmps.getD 16 undef, a'.tmps.getD 17 undef, a'.tmps.getD 18 undef, a'.tmps.getD 19 undef, a'.tmps.getD 20 undef, a'.tmps.getD 21 undef, a'.tmps.getD 22 undef, a'.tmps.getD 23 undef, a'.tmps.getD 24 undef, a'.tmps.getD 25 undef, a'.tmps.getD 26 undef, u27] := ⟨(hb.old 0 (by decide +kernel)).trans (by rw [unhide HA0]; rfl), (hb.old 1 (by decide +kernel)).trans (by rw [unhide HA0]; rfl), (hb.old 2 (by decide +kernel)).trans (by rw [unhide HA0]; rfl), rfl, (hb.old 4 (by decide +kernel)).trans (by rw [unhide HA0]; rfl), (hb.old 5 (by decide +kernel)).trans (by rw [unhide HA0]; rfl), (hb.old 6 (by decide +kernel)).trans (by rw [unhide HA0]; rfl), (hb.old 7 (by decide +kernel)).trans (by rw [unhide HA0]; rfl), (hb.old 8 (by decide +kernel)).trans (by rw [unhide HA0]; rfl), (hb.old 9 (by decide +kernel)).trans (by rw [unhide HA0]; rfl), (hb.old 10 (by decide +kernel)).trans (by rw [unhide HA0]; rfl), rfl, rfl, rfl, rfl, rfl, rfl, rfl, rfl, rfl, rfl, rfl, rfl, rfl, rfl, rfl, rfl, (hb.old 27 (by decide +kernel)).trans (by rw [unhide HA0]; rfl), trivial⟩
    have hfr := frame_eq (a := a') (by rw [hb.size, hsz]; rfl) (by rw [hb.defers, hdf]) hslots
    rw [hfr]
    exact unhide HQ (a'.tmps.getD 3 undef) (a'.tmps.getD 11 undef) (a'.tmps.getD 12 undef) (a'.tmps.getD 13 undef) (a'.tmps.getD 14 undef) (a'.tmps.getD 15 undef) (a'.tmps.getD 16 undef) (a'.tmps.getD 17 undef) (a'.tmps.getD 18 undef) (a'.tmps.getD 19 undef) (a'.tmps.getD 20 undef) (a'.tmps.getD 21 undef) (a'.tmps.getD 22 undef) (a'.tmps.getD 23 undef) (a'.tmps.getD 24 undef) (a'.tmps.getD 25 undef) (a'.tmps.getD 26 undef) w' ⟨(hall 16 (by decide) 3 rfl).2 rfl, hs⟩
set_option maxHeartbeats 4000000 in
set_option maxRecDepth 100000 in
theorem own_any (w : World) (v : Value) (ps : List (Int × List UInt8)) (h : RdP w v ps) (hl : ps.length ≤ 100000000) (hd : ∀ p ∈ ps, p.2.length ≤ 100000000) :
    Calls Try.prog 16 #[v] w fun e w' => ∃ r, e = .returned r ∧ PO w.heap.size w' r ps ∧ Fr (fun _ => False) w w' := by
  have HH := hide h
  have HD := hide hd
  obtain ⟨ao, cap, rfl⟩ := h.shape
  clear h hd
  go_enter Try.func16, Try.ntmps16
  go_wp2_with fail
  go_loopw [3, 4] (fun x y W => ∃ i : Nat, i ≤ ps.length ∧ y = .int .i64 (i : Int) ∧ PO w.heap.size W x (ps.take i) ∧ Fr (fun _ => False) w W) (fun _ y _ => ps.length - (intOf y).toNat)
  case atStart => exact ⟨0, Nat.zero_le _, rfl, PO.nil _ _, Fr.refl _ _⟩
  case round =>
    obtain ⟨i, hi, rfl, hP, hF⟩ := hrel
    have HP := hide hP
    have HF := hide hF
    clear hP hF
    by_cases hlt : i < ps.length
    · obtain ⟨B, o, cap', x, y1, q1, c0, c1, r1⟩ := RdP.get (unhide HH) (unhide HF) i hlt
      simp at y1
      obtain ⟨rfl, rfl⟩ := y1
      have C0 := hide c0
      have C1 := hide c1
      have R1 := hide r1
      have HB := hide (show B < w.heap.size by
        obtain ⟨B', o', cap2, x', y2, -, a0, -⟩ := RdP.get (unhide HH) (Fr.refl _ w) i hlt
        simp at y2
        obtain ⟨⟨rfl, rfl⟩, rfl⟩ := y2
        exact World.block_lt_of_cell? w _ a0)
      clear c0 c1 r1 q1
      go_upto_region 5 with fail
      refine go5 (i := i) hlt (unhide C0) (unhide C1) (unhide R1) (unhide HD _ (List.getElem_mem hlt)) (unhide HP) (by simp; omega) (unhide HF).size (fun e => by
        obtain ⟨ts, -, p2, -⟩ := unhide HP
        have := (own_ge p2 B e).1
        have := unhide HB
        omega) ?_
      intros
      rename_i W' hW
      have HP1 := hide hW.1
      have HF1 := hide (Fr.trans (unhide HF) hW.2 (fun b hb e => by
        obtain ⟨ts, -, p2, -⟩ := unhide HP
        have := (own_ge p2 b e).1
        omega))
      have e9 := List.take_succ_eq_append_getElem hlt
      clear hW HP HF C0 C1 R1
      go_wp2_with fail
      go_roundw
      case rel => exact ⟨i + 1, by omega, by go_num, by rw [e9]; exact unhide HP1, unhide HF1⟩
      case measure => simp [intOf]; omega
    · have e9 : ps.take i = ps := List.take_of_length_le (by omega)
      rw [e9] at HP
      go_wp2_with fail
      go_ret
      exact ⟨_, rfl, unhide HP, unhide HF⟩
end Go.Proofs.Ytgodlfoidjeekaa

namespace Go.Proofs.Ytgodlfoidjeekaa
set_option linter.unusedVariables false
set_option linter.unusedSimpArgs false
open Go.RowKit
set_option linter.unusedVariables false
set_option linter.unusedSimpArgs false

theorem be_go (k : Nat) : ∀ n a, (be k n).foldl (fun a (c : UInt8) => a * 256 + c.toNat) a = a * 256 ^ k + n % 256 ^ k := by
  induction k with
  | zero => intro n a; simp [be, Nat.mod_one]
  | succ k ih =>
    intro n a
    show (be k n).foldl _ (a * 256 + (UInt8.ofNat (n / 256 ^ k)).toNat) = _
    rw [ih, UInt8.toNat_ofNat', show (2 : Nat) ^ 8 = 256 from rfl]
    have e : n % 256 ^ (k + 1) = n % 256 ^ k + 256 ^ k * (n / 256 ^ k % 256) := by rw [Nat.pow_succ, Nat.mod_mul]
    rw [e, Nat.pow_succ, Nat.add_mul, Nat.mul_assoc a 256, Nat.mul_comm 256, Nat.mul_comm (n / 256 ^ k % 256), Nat.add_assoc, Nat.add_comm (n % 256 ^ k)]
theorem val_be {k n : Nat} (h : n < 256 ^ k) : val (be k n) = n := by
  unfold val
  rw [be_go, Nat.zero_mul, Nat.zero_add, Nat.mod_eq_of_lt h]
theorem be_mod (k : Nat) : ∀ a m, be k (a * 256 ^ k + m) = be k m := by
  induction k with
  | zero => intro a m; rfl
  | succ k ih =>
    intro a m
    have e : a * 256 ^ (k + 1) = (a * 256) * 256 ^ k := by rw [Nat.pow_succ, Nat.mul_assoc, Nat.mul_comm 256]
    show UInt8.ofNat ((a * 256 ^ (k + 1) + m) / 256 ^ k) :: be k (a * 256 ^ (k + 1) + m) = UInt8.ofNat (m / 256 ^ k) :: be k m
    rw [e, ih]
    congr 1
    rw [Nat.mul_comm, Nat.mul_add_div (Nat.pow_pos (by decide))]
    apply UInt8.toNat_inj.1
    rw [UInt8.toNat_ofNat', UInt8.toNat_ofNat']
    omega
theorem val_cons (c : UInt8) (r : List UInt8) : val (c :: r) = c.toNat * 256 ^ r.length + val r := by
  have h : ∀ (r : List UInt8) a, r.foldl (fun a (c : UInt8) => a * 256 + c.toNat) a = a * 256 ^ r.length + r.foldl (fun a (c : UInt8) => a * 256 + c.toNat) 0 := by
    intro r
    induction r with
    | nil => intro a; simp
    | cons x r ih =>
      intro a
      simp only [List.foldl_cons, List.length_cons, Nat.pow_succ, Nat.zero_mul, Nat.zero_add]
      rw [ih (a * 256 + x.toNat), ih x.toNat, Nat.add_mul, Nat.mul_assoc, Nat.mul_comm 256]
      omega
  unfold val
  rw [List.foldl_cons, Nat.zero_mul, Nat.zero_add, h]
theorem be_val (l : List UInt8) : be l.length (val l) = l := by
  induction l with
  | nil => rfl
  | cons c r ih =>
    have hlt := val_lt r
    rw [val_cons]
    show UInt8.ofNat ((c.toNat * 256 ^ r.length + val r) / 256 ^ r.length) :: be r.length (c.toNat * 256 ^ r.length + val r) = c :: r
    rw [be_mod, ih]
    congr 1
    rw [Nat.mul_comm, Nat.mul_add_div (Nat.pow_pos (by decide)), Nat.div_eq_of_lt hlt, Nat.add_zero]
    exact UInt8.ofNat_toNat
theorem wi_of {l : List Nat} (h : wiB l = true) : ∀ n ∈ l, n ≤ 4611686018427387904 := by
  unfold wiB at h
  rw [List.all_eq_true] at h
  exact fun n hn => of_decide_eq_true (h n hn)
theorem cb_of {b s p l : Nat} {pt ps : Int} {n : Nat} (h : cbB b s p l pt ps n = true) : (b ≤ 4611686018427387904 ∧ s ≤ 4611686018427387904 ∧ p ≤ 4611686018427387904 ∧ l ≤ 4611686018427387904) ∧ (0 ≤ pt ∧ pt < ps ∧ ps ≤ 100) ∧ n ≤ 336 := by
  unfold cbB at h
  simp only [Bool.and_eq_true, decide_eq_true_eq] at h
  obtain ⟨⟨⟨⟨⟨⟨⟨⟨⟨h1, h2⟩, h3⟩, h4⟩, h5⟩, h6⟩, h7⟩, h8⟩, h9⟩, h10⟩ := h
  have hw := wi_of h4
  exact ⟨⟨hw _ (by simp), hw _ (by simp), hw _ (by simp), hw _ (by simp)⟩, ⟨h7, h8, h6⟩, h10⟩
theorem v8 {n : Nat} (h : n ≤ 4611686018427387904) : val (be 8 n) = n := val_be (by simp only [Nat.reducePow]; omega)
theorem v2 {n : Nat} (h : n ≤ 336) : val (be 2 n) = n := val_be (by simp only [Nat.reducePow]; omega)
set_option maxRecDepth 100000 in
theorem gl_enB (b s p l pt ps n : Nat) (L : List UInt8) : gl (enB b s p l pt ps n L) 0 = val (be 8 b) ∧ gl (enB b s p l pt ps n L) 1 = val (be 8 s) ∧ gl (enB b s p l pt ps n L) 2 = val (be 8 p) ∧ gl (enB b s p l pt ps n L) 3 = val (be 8 l) ∧ gm (enB b s p l pt ps n L) 0 = val (be 2 pt) ∧ gm (enB b s p l pt ps n L) 1 = val (be 2 ps) ∧ gm (enB b s p l pt ps n L) 2 = val (be 2 n) :=
  ⟨rfl, rfl, rfl, rfl, rfl, rfl, rfl⟩
set_option maxRecDepth 100000 in
theorem drop_enB (b s p l pt ps n : Nat) (L : List UInt8) : (enB b s p l pt ps n L).drop 48 = L ++ List.replicate (336 - L.length) 0 := rfl
theorem enG_enB {b s p l pt ps : Nat} {L : List UInt8} (h : cbB b s p l pt ps L.length = true) : enG (enB b s p l pt ps L.length L) = some ⟨b, s, p, l, pt, ps, L⟩ := by
  obtain ⟨⟨a1, a2, a3, a4⟩, ⟨b1, b2, b3⟩, c1⟩ := cb_of h
  obtain ⟨g0, g1, g2, g3, m0, m1, m2⟩ := gl_enB b s p l pt ps L.length L
  rw [v8 a1] at g0
  rw [v8 a2] at g1
  rw [v8 a3] at g2
  rw [v8 a4] at g3
  rw [v2 (by omega)] at m0 m1
  rw [v2 c1] at m2
  have q : gq (enB b s p l pt ps L.length L) = L.length := by unfold gq; rw [m2]; omega
  have P : gP (enB b s p l pt ps L.length L) = L := by
    unfold gP
    rw [q, drop_enB, List.take_left']
    rfl
  unfold enG
  rw [g0, g1, g2, g3, m0, m1, q, P, if_pos ⟨enB_length c1, h, rfl⟩]
theorem sb_of {g b p l x y : Nat} (h : sbB g b p l x y = true) : g ≤ 4611686018427387904 ∧ b ≤ 4611686018427387904 ∧ p ≤ 4611686018427387904 ∧ l ≤ 4611686018427387904 ∧ x ≤ 4611686018427387904 ∧ y ≤ 4611686018427387904 := by
  unfold sbB at h
  simp only [Bool.and_eq_true] at h
  have hw := wi_of h.2
  exact ⟨hw _ (by simp), hw _ (by simp), hw _ (by simp), hw _ (by simp), hw _ (by simp), hw _ (by simp)⟩
set_option maxRecDepth 100000 in
theorem sn_suB (g b p l x y : Nat) : sn (suB g b p l x y) 0 = val (be 8 g) ∧ sn (suB g b p l x y) 1 = val (be 8 b) ∧ sn (suB g b p l x y) 2 = val (be 8 p) ∧ sn (suB g b p l x y) 3 = val (be 8 l) ∧ sn (suB g b p l x y) 4 = val (be 8 x) ∧ sn (suB g b p l x y) 5 = val (be 8 y) :=
  ⟨rfl, rfl, rfl, rfl, rfl, rfl⟩
theorem suG_suB {g b p l x y : Nat} (h : sbB g b p l x y = true) : suG (suB g b p l x y) = some ⟨g, b, p, l, x, y⟩ := by
  obtain ⟨a0, a1, a2, a3, a4, a5⟩ := sb_of h
  obtain ⟨g0, g1, g2, g3, g4, g5⟩ := sn_suB g b p l x y
  rw [v8 a0] at g0
  rw [v8 a1] at g1
  rw [v8 a2] at g2
  rw [v8 a3] at g3
  rw [v8 a4] at g4
  rw [v8 a5] at g5
  unfold suG
  rw [g0, g1, g2, g3, g4, g5, if_pos ⟨suB_length _ _ _ _ _ _, h, rfl⟩]
theorem pt_of {ps : List (Int × List UInt8)} (h : ptB ps = true) : (1 ≤ ps.length ∧ ps.length ≤ 64) ∧ ∀ p ∈ ps, 0 ≤ p.1 ∧ p.1 ≤ 2147483647 ∧ p.2.length = 384 := by
  unfold ptB at h
  simp only [Bool.and_eq_true, ctB, decide_eq_true_eq, List.all_eq_true] at h
  obtain ⟨⟨h1, h2⟩, h3⟩ := h
  refine ⟨⟨by omega, by omega⟩, fun p hp => ?_⟩
  have := h3 p hp
  unfold pOk at this
  simp only [Bool.and_eq_true, decide_eq_true_eq] at this
  exact ⟨this.1.1, this.1.2, this.2⟩
theorem pbs_at (ps : List (Int × List UInt8)) : (∀ p ∈ ps, p.2.length = 384) → ∀ j (h : j < ps.length), ((pbs ps).drop (j * 388)).take 388 = be 4 (ps[j]).1.toNat ++ (ps[j]).2 := by
  induction ps with
  | nil => intro _ j h; simp at h
  | cons a r ih =>
    intro hp j h
    have e : pbs (a :: r) = (be 4 a.1.toNat ++ a.2) ++ pbs r := by simp [pbs, lay]
    have hl : (be 4 a.1.toNat ++ a.2).length = 388 := by rw [List.length_append, be_length, hp a (by simp)]
    rw [e]
    cases j with
    | zero =>
      rw [Nat.zero_mul, List.drop_zero]
      exact List.take_left' hl
    | succ j =>
      have := ih (fun p h => hp p (by simp [h])) j (by simpa using h)
      have e2 : ((be 4 a.1.toNat ++ a.2) ++ pbs r).drop ((j + 1) * 388) = (pbs r).drop (j * 388) := by
        rw [show (j + 1) * 388 = (be 4 a.1.toNat ++ a.2).length + j * 388 by rw [hl]; omega, List.drop_length_add_append]
      rw [e2]
      simpa using this
theorem gt_ptL {ps : List (Int × List UInt8)} (h : ptB ps = true) : gtB (ptL ps) = true ∧ gtL (ptL ps) = ps ∧ gtN (ptL ps) = ps.length := by
  obtain ⟨⟨n1, n2⟩, hp⟩ := pt_of h
  have hall : ps.all pOk = true := by
    unfold ptB at h
    simp only [Bool.and_eq_true] at h
    exact h.2
  have e0 : ptL ps = be 4 ps.length ++ pbs ps := by simp [ptL, lay]
  have hN : gtN (ptL ps) = ps.length := by
    unfold gtN
    rw [e0, List.take_left' (be_length _ _)]
    exact val_be (by simp only [Nat.reducePow]; omega)
  have hlen : (ptL ps).length = 4 + ps.length * 388 := by rw [e0, List.length_append, be_length, pbs_length hall]; omega
  have hP : ∀ j (h : j < ps.length), gtP (ptL ps) j = be 4 (ps[j]).1.toNat ++ (ps[j]).2 := fun j hj => by
    unfold gtP
    rw [e0, show 4 + j * 388 = (be 4 ps.length).length + j * 388 by rw [be_length], List.drop_length_add_append]
    exact pbs_at ps (fun p h => (hp p h).2.2) j hj
  have hZ : ∀ j (h : j < ps.length), (gtZ (ptL ps) j : Int) = (ps[j]).1 := fun j hj => by
    unfold gtZ
    obtain ⟨q1, q2, -⟩ := hp _ (List.getElem_mem hj)
    rw [hP j hj, List.take_left' (be_length _ _), val_be (by simp only [Nat.reducePow]; omega)]
    omega
  have hD : ∀ j (h : j < ps.length), (gtP (ptL ps) j).drop 4 = (ps[j]).2 := fun j hj => by
    rw [hP j hj]
    exact List.drop_left' (be_length _ _)
  refine ⟨?_, ?_, hN⟩
  · refine gtB_of (by rw [hN]; simp [ctB]; omega) (by rw [hlen, hN]) (fun i hi => ?_)
    rw [hN] at hi
    have := hZ i hi
    have := (hp _ (List.getElem_mem hi)).2.1
    omega
  · unfold gtL
    rw [hN]
    refine List.ext_getElem (by simp) fun j h1 h2 => ?_
    have h3 : j < ps.length := by simpa using h2
    simp only [List.getElem_map, List.getElem_range]
    rw [hZ j h3, hD j h3]
theorem gt_of {l : List UInt8} (h : gtB l = true) : (1 ≤ gtN l ∧ gtN l ≤ 64) ∧ l.length = 4 + gtN l * 388 ∧ ∀ i, i < gtN l → gtZ l i ≤ 2147483647 := by
  unfold gtB at h
  simp only [Bool.and_eq_true, ctB, decide_eq_true_eq, List.all_eq_true, List.mem_range] at h
  obtain ⟨⟨⟨h1, h2, h3⟩, h4⟩, h5⟩ := h
  exact ⟨⟨by omega, by omega⟩, h4, h5⟩
theorem gtL_length (l : List UInt8) : (gtL l).length = gtN l := by simp [gtL]
theorem gtL_get {l : List UInt8} {j : Nat} (h : j < (gtL l).length) : (gtL l)[j] = ((gtZ l j : Int), (gtP l j).drop 4) := by simp [gtL]
theorem pt_gtL {l : List UInt8} (h : gtB l = true) : ptB (gtL l) = true ∧ ptL (gtL l) = l := by
  obtain ⟨⟨n1, n2⟩, hl, hz⟩ := gt_of h
  have hPl : ∀ j, j < gtN l → (gtP l j).length = 388 := fun j hj => gtP_length hl hj
  have hall : (gtL l).all pOk = true := by
    rw [List.all_eq_true]
    intro p hp
    obtain ⟨j, hj, rfl⟩ := List.getElem_of_mem hp
    have hj' : j < gtN l := by rwa [gtL_length] at hj
    rw [gtL_get]
    unfold pOk
    simp only [Bool.and_eq_true, decide_eq_true_eq]
    refine ⟨⟨by omega, by have := hz j hj'; omega⟩, by rw [List.length_drop, hPl j hj']⟩
  refine ⟨?_, ?_⟩
  · unfold ptB
    rw [hall, gtL_length, Bool.and_true]
    simp [ctB]
    omega
  · have hb : ∀ m, m ≤ gtN l → pbs ((gtL l).take m) = (l.drop 4).take (m * 388) := by
      intro m
      induction m with
      | zero => intro _; simp [pbs]
      | succ m ih =>
        intro hm
        have hm' : m < (gtL l).length := by rw [gtL_length]; omega
        rw [pbs_take hm', ih (by omega), gtL_get]
        have hq := hPl m (by omega)
        have e1 : lay 4 [((gtZ l m : Nat) : Int).toNat] ++ (gtP l m).drop 4 = gtP l m := by
          have e2 : lay 4 [((gtZ l m : Nat) : Int).toNat] = (gtP l m).take 4 := by
            have e3 : ((gtP l m).take 4).length = 4 := by rw [List.length_take, hq]; rfl
            have := be_val ((gtP l m).take 4)
            rw [e3] at this
            simp only [lay, List.flatMap_cons, List.flatMap_nil, List.append_nil, Int.toNat_natCast]
            exact this
          rw [e2, List.take_append_drop]
        show _ ++ (lay 4 [((gtZ l m : Nat) : Int).toNat] ++ (gtP l m).drop 4) = _
        rw [e1]
        unfold gtP
        rw [show (m + 1) * 388 = m * 388 + 388 by omega, List.take_add, List.drop_drop]
    have := hb (gtN l) (Nat.le_refl _)
    rw [List.take_of_length_le (by rw [gtL_length]; omega), List.take_of_length_le (by rw [List.length_drop]; omega)] at this
    unfold ptL
    rw [this, gtL_length]
    have e3 : (l.take 4).length = 4 := by rw [List.length_take]; omega
    have e4 := be_val (l.take 4)
    rw [e3] at e4
    have e5 : lay 4 [gtN l] = l.take 4 := by
      simp only [lay, List.flatMap_cons, List.flatMap_nil, List.append_nil]
      exact e4
    rw [e5, List.take_append_drop]
/-- What was read, as puts. -/
theorem PAt.rdp {M : Nat} {w : World} {G : Nat} {l : List UInt8} (h : PAt M w G (gtN l) (gtN l) l) (hg : gtB l = true) : RdP w (.slice (some ⟨G, 0, none⟩) (gtN l) (gtN l)) (gtL l) := by
  obtain ⟨⟨n1, n2⟩, hl, hz⟩ := gt_of hg
  obtain ⟨cs, h1, h2, h3⟩ := h
  refine .inr ⟨G, 0, gtN l, by rw [gtL_length], by rw [gtL_length]; exact Nat.le_refl _, by simp only [maxLen]; omega, fun j hj => ?_⟩
  have hj' : j < gtN l := by rwa [gtL_length] at hj
  obtain ⟨c0, x, c1, ho⟩ := h3 j hj'
  rw [gtL_get, Nat.zero_add]
  exact ⟨(cell_of_heap h1 _).trans c0, x, (cell_of_heap h1 _).trans c1, ho.rd⟩
end Go.Proofs.Ytgodlfoidjeekaa

namespace Go.Proofs.Ytgodlfoidjeekaa
set_option linter.unusedVariables false
set_option linter.unusedSimpArgs false
open Go.RowKit
set_option linter.unusedVariables false
set_option linter.unusedSimpArgs false

attribute [local go_sem ↓] Go.wp_at_zero Go.wp_at_succ

/-- What follows region n. -/
def sqr (n : Nat) : Code → Option Code
  | .seq (.region id ops d) y => if id = n then some y else sqr n y
  | .seq x y => match sqr n x with
    | some c => some c
    | none => sqr n y
  | .loop c => sqr n c
  | .block _ c => sqr n c
  | .scope c => sqr n c
  | .cond _ x y => match sqr n x with
    | some c => some c
    | none => sqr n y
  | _ => none
noncomputable def sqF (f : Func) (n : Nat) : Code := ((f.body.bind (sqr n)).getD .skip)
/-- What came in: an entry, a superblock, a transaction, bytes, a number. -/
structure Pa where
  b : Nat
  s : Nat
  p : Nat
  l : Nat
  pt : Int
  ps : Int
  L : List UInt8
  g : Nat
  gb : Nat
  gp : Nat
  gl : Nat
  gx : Nat
  gy : Nat
  T : List (Int × List UInt8)
  B : List UInt8
  n : Int
def Pa.vs (x : Pa) (u v z : Value) : List Value := [.int .u64 (x.b : Int), .int .u64 (x.s : Int), .int .u64 (x.p : Int), .int .u64 (x.l : Int), .int .i64 x.pt, .int .i64 x.ps, u, .int .u64 (x.g : Int), .int .u64 (x.gb : Int), .int .u64 (x.gp : Int), .int .u64 (x.gl : Int), .int .u64 (x.gx : Int), .int .u64 (x.gy : Int), v, z, .int .i64 x.n]
structure PaAt (w : World) (k : Nat) (x : Pa) (u v z : Value) : Prop where
  heap : w.heap[k]? = some (.cells (x.vs u v z).toArray 30 (0, 0))
  rL : Rd w u x.L
  rT : RdP w v x.T
  rB : Rd w z x.B
theorem PaAt.kept {w w' : World} {k : Nat} {x : Pa} {u v z : Value} (h : PaAt w k x u v z) (f : Fr (fun _ => False) w w') : PaAt w' k x u v z :=
  ⟨(f.block _ (lt_of_heap h.heap) id).trans h.heap, h.rL.kept f (fun _ _ e => e), rdp_kept h.rT f, h.rB.kept f (fun _ _ e => e)⟩
theorem PaAt.cell {w : World} {k : Nat} {x : Pa} {u v z : Value} (h : PaAt w k x u v z) (j : Nat) : w.cell? ⟨k, j, none⟩ = (x.vs u v z)[j]? := by
  rw [cell_of_heap h.heap]; simp
theorem drew_fr {S : Nat → Prop} (w : World) : Fr S w w.drew := (Fr.refl _ _).drew
structure PaB (x : Pa) : Prop where
  b0 : x.b < 18446744073709551616
  hL : x.L.length ≤ 1048576
  hB : x.B.length ≤ 1048576
  hT : x.T.length ≤ 100000
  hD : ∀ p ∈ x.T, p.2.length ≤ 1048576
set_option maxHeartbeats 4000000 in
set_option maxRecDepth 100000 in
theorem jb18 {w0 W : World} {au av az : Option Addr} {nu nv nz ku kv kz : Nat} {x : Pa} {k : Nat} {u0 u3 u4 u5 u6 u7 u8 u9 u10 u11 u12 u13 u14 u15 u16 u17 u18 u19 u20 u21 u22 u23 u24 u25 u26 u27 u28 u29 u30 u31 u32 u33 u34 u35 u36 u37 u38 u39 u40 u41 u42 u43 u44 u45 u46 u47 u48 u49 u50 u51 u52 u53 u54 u55 u56 u57 u58 u59 u60 u61 u62 u63 u64 u65 u66 u67 u68 u69 u70 u71 u72 u73 u74 u75 u76 u77 u78 u79 u80 u81 u82 u83 u84 u85 u86 u87 u88 u89 u90 u91 u92 u93 u94 u95 u96 u97 u98 u99 u100 u101 u102 u103 u104 u105 u106 u107 u108 u109 u110 u111 u112 u113 u114 u115 u116 u117 u118 u119 u120 u121 u122 u123 u124 u125 u126 u127 u128 u129 u130 u131 u132 u133 u134 u135 : Value} (hP : PaAt W k x (.slice au nu ku) (.slice av nv kv) (.slice az nz kz)) (hX : PaB x) (hF : Fr (fun _ => False) w0 W)  : (rgF Try.f4 18).wp Try.prog (Exit.then ((sqF Try.f4 18).wp Try.prog (bodyPost Try.prog Try.f4 (fun e w9 => e = .returned (.bool true) ∧ Fr (fun _ => False) w0 w9))) (bodyPost Try.prog Try.f4 (fun e w9 => e = .returned (.bool true) ∧ Fr (fun _ => False) w0 w9))) ⟨#[u0, .pointer (some ⟨k, 0, none⟩), .bool false, u3, u4, u5, u6, u7, u8, u9, u10, u11, u12, u13, u14, u15, u16, u17, u18, u19, u20, u21, u22, u23, u24, u25, u26, u27, u28, u29, u30, u31, u32, u33, u34, u35, u36, u37, u38, u39, u40, u41, u42, u43, u44, u45, u46, u47, u48, u49, u50, u51, u52, u53, u54, u55, u56, u57, u58, u59, u60, u61, u62, u63, u64, u65, u66, u67, u68, u69, u70, u71, u72, u73, u74, u75, u76, u77, u78, u79, u80, u81, u82, u83, u84, u85, u86, u87, u88, u89, u90, u91, u92, u93, u94, u95, u96, u97, u98, u99, u100, u101, u102, u103, u104, u105, u106, u107, u108, u109, u110, u111, u112, u113, u114, u115, u116, u117, u118, u119, u120, u121, u122, u123, u124, u125, u126, u127, u128, u129, u130, u131, u132, u133, u134, u135], []⟩ W := by
  have HP := hide hP
  have HX := hide hX
  have HF := hide hF
  clear hP hX hF
  conv => arg 2; whnf
  conv => arg 3; arg 1; arg 2; whnf
  have c14 := ((unhide HP).kept ((Fr.refl (fun _ => False) W).alloc (.cells #[] 5))).cell 14
  simp [Pa.vs] at c14
  have RB := hide (unhide HP).rB
  have HL := hide ((unhide HX).hB)
  have HZ := hide (unhide HP)
  clear HP HX
  go_wp2_with (at_builtin; refine wl_cln rfl (.tmp 109) (.tmp 111) rfl rfl rfl (unhide RB) (unhide HL) ?_)
  intro ao c w1 h1
  have HF1 := hide ((unhide HF).trans h1.fr (fun _ _ e => e))
  have HP1 := hide ((unhide HZ).kept h1.fr)
  have R1 := hide h1.rd
  clear h1 c14 HF HZ RB HL
  by_cases hg : gtB x.B = true
  · obtain ⟨hpt, hpl⟩ := pt_gtL hg
    obtain ⟨⟨n1, n2⟩, -, -⟩ := gt_of hg
    go_wp2_with fail
    refine (getTx_any w1 _ x.B (unhide R1)).mono ?_
    rintro e w2 ⟨r, c2, rfl, hG⟩
    unfold Gt at hG
    rw [if_pos hg] at hG
    obtain ⟨rfl, ⟨G, rfl, hG1, hG2⟩, f2⟩ := hG
    have RP := hide (hG2.rdp hg)
    have HF2 := hide ((unhide HF1).trans f2 (fun _ _ e => e))
    have HP2 := hide ((unhide HP1).kept f2)
    have HPT := hide hpt
    have HPL := hide hpl
    have hln : (gtL x.B).length ≤ 100000 := by rw [gtL_length]; omega
    have HLN := hide hln
    clear hG1 hG2 f2 HF1 HP1 R1 hg hpt hpl n1 n2 hln
    go_wp2_with (go_at_call 18; refine (num_any _ _).mono ?_; rintro e w9 ⟨rfl, rfl⟩)
    refine (putTx_any w2 _ (gtL x.B) (unhide RP) (unhide HLN)).mono ?_
    rintro e w3 ⟨r, c3, rfl, hp⟩
    unfold Pt at hp
    rw [if_pos (unhide HPT), unhide HPL] at hp
    obtain ⟨rfl, hN⟩ := hp
    obtain ⟨ao3, cc3, rfl⟩ := hN.shape
    have k1 := conv_rd (P := Try.prog) hN.rd 23 9 5 Try.underlying23 Try.underlying5 Try.underlying9
    have HP3 := (unhide HP2).kept hN.fr
    have k2 := conv_rd (P := Try.prog) HP3.rB 23 9 5 Try.underlying23 Try.underlying5 Try.underlying9
    have c14 := HP3.cell 14
    simp [Pa.vs] at c14
    have HF := hide ((unhide HF2).trans hN.fr (fun _ _ e => e))
    clear hN HP3 HP2 HF2 RP HPT HPL HLN
    generalize str x.B = sx at *
    go_wp2_with (go_at_call 18; refine (num_any _ _).mono ?_; rintro e w9 ⟨rfl, rfl⟩)
    refine (live_any _).mono ?_
    rintro e w9 ⟨rfl, f9⟩
    go_wp2_with fail
    go_ret
    exact ⟨rfl, (unhide HF).trans f9 (fun _ _ e => e)⟩
  · go_wp2_with fail
    refine (getTx_any w1 _ x.B (unhide R1)).mono ?_
    rintro e w2 ⟨r, c2, rfl, hG⟩
    unfold Gt at hG
    rw [if_neg hg] at hG
    obtain ⟨rfl, rfl, f2⟩ := hG
    have HF := hide ((unhide HF1).trans f2 (fun _ _ e => e))
    clear f2 HF1 HP1 R1 hg
    go_wp2_with (go_at_call 18; refine (num_any _ _).mono ?_; rintro e w9 ⟨rfl, rfl⟩)
    refine (live_any _).mono ?_
    rintro e w9 ⟨rfl, f9⟩
    go_wp2_with fail
    go_ret
    exact ⟨rfl, (unhide HF).trans f9 (fun _ _ e => e)⟩
set_option maxHeartbeats 4000000 in
set_option maxRecDepth 100000 in
theorem jb13 {w0 W : World} {au av az : Option Addr} {nu nv nz ku kv kz : Nat} {x : Pa} {k : Nat} {u0 u3 u4 u5 u6 u7 u8 u9 u10 u11 u12 u13 u14 u15 u16 u17 u18 u19 u20 u21 u22 u23 u24 u25 u26 u27 u28 u29 u30 u31 u32 u33 u34 u35 u36 u37 u38 u39 u40 u41 u42 u43 u44 u45 u46 u47 u48 u49 u50 u51 u52 u53 u54 u55 u56 u57 u58 u59 u60 u61 u62 u63 u64 u65 u66 u67 u68 u69 u70 u71 u72 u73 u74 u75 u76 u77 u78 u79 u80 u81 u82 u83 u84 u85 u86 u87 u88 u89 u90 u91 u92 u93 u94 u95 u96 u97 u98 u99 u100 u101 u102 u103 u104 u105 u106 u107 u108 u109 u110 u111 u112 u113 u114 u115 u116 u117 u118 u119 u120 u121 u122 u123 u124 u125 u126 u127 u128 u129 u130 u131 u132 u133 u134 u135 : Value} (hP : PaAt W k x (.slice au nu ku) (.slice av nv kv) (.slice az nz kz)) (hX : PaB x) (hF : Fr (fun _ => False) w0 W)  : (rgF Try.f4 13).wp Try.prog (Exit.then ((sqF Try.f4 13).wp Try.prog (bodyPost Try.prog Try.f4 (fun e w9 => e = .returned (.bool true) ∧ Fr (fun _ => False) w0 w9))) (bodyPost Try.prog Try.f4 (fun e w9 => e = .returned (.bool true) ∧ Fr (fun _ => False) w0 w9))) ⟨#[u0, .pointer (some ⟨k, 0, none⟩), .bool false, u3, u4, u5, u6, u7, u8, u9, u10, u11, u12, u13, u14, u15, u16, u17, u18, u19, u20, u21, u22, u23, u24, u25, u26, u27, u28, u29, u30, u31, u32, u33, u34, u35, u36, u37, u38, u39, u40, u41, u42, u43, u44, u45, u46, u47, u48, u49, u50, u51, u52, u53, u54, u55, u56, u57, u58, u59, u60, u61, u62, u63, u64, u65, u66, u67, u68, u69, u70, u71, u72, u73, u74, u75, u76, u77, u78, u79, u80, u81, u82, u83, u84, u85, u86, u87, u88, u89, u90, u91, u92, u93, u94, u95, u96, u97, u98, u99, u100, u101, u102, u103, u104, u105, u106, u107, u108, u109, u110, u111, u112, u113, u114, u115, u116, u117, u118, u119, u120, u121, u122, u123, u124, u125, u126, u127, u128, u129, u130, u131, u132, u133, u134, u135], []⟩ W := by
  have HP := hide hP
  have HX := hide hX
  have HF := hide hF
  clear hP hX hF
  conv => arg 2; whnf
  conv => arg 3; arg 1; arg 2; whnf
  have c13 := (unhide HP).cell 13
  simp [Pa.vs] at c13
  go_wp2_with fail
  refine (own_any W _ x.T (unhide HP).rT (by have := (unhide HX).hT; omega) (fun p h => by have := (unhide HX).hD p h; omega)).mono ?_
  rintro e w1 ⟨r, rfl, hO, f1⟩
  obtain ⟨ro, rc, rfl⟩ := hO.shape
  have RO := hide hO.rdp
  have HP1 := hide ((unhide HP).kept f1)
  have HF1 := hide ((unhide HF).trans f1 (fun _ _ e => e))
  clear hO f1 HP HF c13
  go_wp2_with fail
  refine (putTx_any w1 _ x.T (unhide RO) (unhide HX).hT).mono ?_
  rintro e w2 ⟨r, c2, rfl, hp⟩
  unfold Pt at hp
  by_cases hpt : ptB x.T = true
  · rw [if_pos hpt] at hp
    obtain ⟨rfl, hN⟩ := hp
    obtain ⟨ao2, cc2, rfl⟩ := hN.shape
    have HP2 := hide ((unhide HP1).kept hN.fr)
    have HF2 := hide ((unhide HF1).trans hN.fr (fun _ _ e => e))
    have R2 := hide hN.rd
    have HPT := hide hpt
    clear hN HP1 HF1 RO hpt
    go_wp2_with (go_at_call 18; refine (num_any _ _).mono ?_; rintro e w9 ⟨rfl, rfl⟩)
    refine (getTx_any w2 _ (ptL x.T) (unhide R2)).mono ?_
    rintro e w3 ⟨r, c3, rfl, hG⟩
    obtain ⟨g1, g2, g3⟩ := gt_ptL (unhide HPT)
    obtain ⟨⟨m1, m2⟩, -⟩ := pt_of (unhide HPT)
    unfold Gt at hG
    rw [if_pos g1] at hG
    obtain ⟨rfl, ⟨G, rfl, hG1, hG2⟩, f3⟩ := hG
    have hR := hG2.rdp g1
    rw [g2] at hR
    have RG := hide hR
    have HP3 := hide ((unhide HP2).kept f3)
    have HF3 := hide ((unhide HF2).trans f3 (fun _ _ e => e))
    have hall : x.T.all pOk = true := by
      have := unhide HPT
      unfold ptB at this
      simp only [Bool.and_eq_true] at this
      exact this.2
    have hlen : (ptL x.T).length = 4 + x.T.length * 388 := by
      rw [show ptL x.T = be 4 x.T.length ++ pbs x.T by simp [ptL, lay], List.length_append, be_length, pbs_length hall]; omega
    have hnd : needX (x.T.length : Int) = (((x.T.length * 388 + 339) / 336 : Nat) : Int) := by
      unfold needX
      rw [if_pos (by simp [ctB]; omega)]
      omega
    have hnv : nv = x.T.length := by
      obtain ⟨ao, cc, e⟩ := (unhide HP3).rT.shape
      simp at e
      exact e.2.1
    have c13 := (unhide HP3).cell 13
    simp [Pa.vs] at c13
    have HML := hide hlen
    have HN := hide hnd
    have HNV := hide hnv
    have HG3 := hide g3
    clear hG1 hG2 f3 HF2 HP2 R2 g1 g2 g3 hR hall hlen hnd hnv
    rw [unhide HML]
    rw [unhide HG3] at RG ⊢
    have q1 : (4 + x.T.length * 388 + 335) / 336 = (x.T.length * 388 + 339) / 336 := by congr 1; omega
    have hq : ((((4 + x.T.length * 388 : Nat) : Int) + 336 - 1) / 336 : Int) = (((x.T.length * 388 + 339) / 336 : Nat) : Int) := by omega
    have hSM := fun w9 (f9 : w3 = w9) => same_any w9 (.slice (some ⟨G, 0, none⟩) x.T.length x.T.length) (.slice av nv kv) x.T x.T (by rw [← f9]; exact unhide RG) (by rw [← f9]; exact (unhide HP3).rT) (unhide HX).hT
    go_wp2_with (go_at_call 18; refine (num_any _ _).mono ?_; rintro e w9 ⟨rfl, rfl⟩)
    refine (hSM _ rfl).mono ?_
    rintro e w4 ⟨he, f4⟩
    obtain rfl : e = .returned (.bool true) := by simpa using he
    clear he
    have HP4 := hide ((unhide HP3).kept f4)
    have HF4 := hide ((unhide HF3).trans f4 (fun _ _ e => e))
    have c13' := (unhide HP4).cell 13
    simp [Pa.vs] at c13'
    have hne := need_any w4 (x.T.length : Int)
    rw [unhide HN] at hne
    rw [unhide HNV] at *
    clear hSM f4 HP3 HF3 RG c13
    go_wp2_with (go_at_call 18; refine (num_any _ _).mono ?_; rintro e w9 ⟨rfl, rfl⟩)
    refine hne.mono ?_
    rintro e w9 ⟨rfl, rfl⟩
    have n2' : x.T.length ≤ 64 := m2
    clear hne
    generalize x.T.length = nT at *
    obtain ⟨M, hM⟩ : ∃ M, M = 4 + nT * 388 := ⟨_, rfl⟩
    have hM2 : M ≤ 100000 := by omega
    rw [← hM] at hq ⊢
    have q2 : IntKind.i64.wrap ((M : Int) + 336) = ((M + 336 : Nat) : Int) := by have := wrapI (M + 336) (by omega); exact_mod_cast this
    have q3 : IntKind.i64.wrap (((M + 336 : Nat) : Int) - 1) = ((M + 335 : Nat) : Int) := by
      have h1 : (((M + 336 : Nat) : Int) - 1) = ((M + 335 : Nat) : Int) := by omega
      rw [h1]
      have := wrapI (M + 335) (by omega); exact_mod_cast this
    have q4 : Int.tdiv ((M + 335 : Nat) : Int) 336 = (((nT * 388 + 339) / 336 : Nat) : Int) := by
      rw [Int.tdiv_eq_ediv_of_nonneg (by omega)]
      omega
    have q5 : IntKind.i64.wrap (((nT * 388 + 339) / 336 : Nat) : Int) = (((nT * 388 + 339) / 336 : Nat) : Int) := by
      have := wrapI ((nT * 388 + 339) / 336) (by omega); exact_mod_cast this
    generalize (nT * 388 + 339) / 336 = nQ at *
    go_upto_region 18 with (go_at_call 18; refine (num_any _ _).mono ?_; rintro e w9 ⟨rfl, rfl⟩)
    refine wp_mono (jb18 (unhide HP4) (unhide HX) (unhide HF4)) ?_
    intro e a9 w9 h9
    cases e
    case normal => apply_assumption; exact h9
    all_goals exact h9
  · rw [if_neg hpt] at hp
    obtain ⟨rfl, rfl, f2⟩ := hp
    have HP2 := hide ((unhide HP1).kept f2)
    have HF2 := hide ((unhide HF1).trans f2 (fun _ _ e => e))
    clear f2 HP1 HF1 RO hpt
    go_upto_region 18 with (go_at_call 18; refine (num_any _ _).mono ?_; rintro e w9 ⟨rfl, rfl⟩)
    refine wp_mono (jb18 (unhide HP2) (unhide HX) (unhide HF2)) ?_
    intro e a9 w9 h9
    cases e
    case normal => apply_assumption; exact h9
    all_goals exact h9
set_option maxHeartbeats 4000000 in
set_option maxRecDepth 100000 in
theorem jb8 {w0 W : World} {au av az : Option Addr} {nu nv nz ku kv kz : Nat} {x : Pa} {k : Nat} {u0 u3 u4 u5 u6 u7 u8 u9 u10 u11 u12 u13 u14 u15 u16 u17 u18 u19 u20 u21 u22 u23 u24 u25 u26 u27 u28 u29 u30 u31 u32 u33 u34 u35 u36 u37 u38 u39 u40 u41 u42 u43 u44 u45 u46 u47 u48 u49 u50 u51 u52 u53 u54 u55 u56 u57 u58 u59 u60 u61 u62 u63 u64 u65 u66 u67 u68 u69 u70 u71 u72 u73 u74 u75 u76 u77 u78 u79 u80 u81 u82 u83 u84 u85 u86 u87 u88 u89 u90 u91 u92 u93 u94 u95 u96 u97 u98 u99 u100 u101 u102 u103 u104 u105 u106 u107 u108 u109 u110 u111 u112 u113 u114 u115 u116 u117 u118 u119 u120 u121 u122 u123 u124 u125 u126 u127 u128 u129 u130 u131 u132 u133 u134 u135 : Value} (hP : PaAt W k x (.slice au nu ku) (.slice av nv kv) (.slice az nz kz)) (hX : PaB x) (hF : Fr (fun _ => False) w0 W)  : (rgF Try.f4 8).wp Try.prog (Exit.then ((sqF Try.f4 8).wp Try.prog (bodyPost Try.prog Try.f4 (fun e w9 => e = .returned (.bool true) ∧ Fr (fun _ => False) w0 w9))) (bodyPost Try.prog Try.f4 (fun e w9 => e = .returned (.bool true) ∧ Fr (fun _ => False) w0 w9))) ⟨#[u0, .pointer (some ⟨k, 0, none⟩), .bool false, u3, u4, u5, u6, u7, u8, u9, u10, u11, u12, u13, u14, u15, u16, u17, u18, u19, u20, u21, u22, u23, u24, u25, u26, u27, u28, u29, u30, u31, u32, u33, u34, u35, u36, u37, u38, u39, u40, u41, u42, u43, u44, u45, u46, u47, u48, u49, u50, u51, u52, u53, u54, u55, u56, u57, u58, u59, u60, u61, u62, u63, u64, u65, u66, u67, u68, u69, u70, u71, u72, u73, u74, u75, u76, u77, u78, u79, u80, u81, u82, u83, u84, u85, u86, u87, u88, u89, u90, u91, u92, u93, u94, u95, u96, u97, u98, u99, u100, u101, u102, u103, u104, u105, u106, u107, u108, u109, u110, u111, u112, u113, u114, u115, u116, u117, u118, u119, u120, u121, u122, u123, u124, u125, u126, u127, u128, u129, u130, u131, u132, u133, u134, u135], []⟩ W := by
  have HP := hide hP
  have HX := hide hX
  have HF := hide hF
  clear hP hX hF
  conv => arg 2; whnf
  conv => arg 3; arg 1; arg 2; whnf
  have c7 := (unhide HP).cell 7
  have c8 := (unhide HP).cell 8
  have c9 := (unhide HP).cell 9
  have c10 := (unhide HP).cell 10
  have c11 := (unhide HP).cell 11
  have c12 := (unhide HP).cell 12
  simp [Pa.vs] at c7 c8 c9 c10 c11 c12
  by_cases hsb : sbB x.g x.gb x.gp x.gl x.gx x.gy = true
  · go_wp2_with fail
    refine (putSuper_ok W x.g x.gb x.gp x.gl x.gx x.gy hsb).mono ?_
    rintro e w1 ⟨q, rfl, hb, hq, f1⟩
    have R1 := hide (rd384 hb)
    have HP1 := hide ((unhide HP).kept f1)
    have HF1 := hide ((unhide HF).trans f1 (fun _ _ e => e))
    have HS := hide hsb
    clear hb hq f1 HP HF c7 c8 c9 c10 c11 c12 hsb
    go_wp2_with (go_at_call 18; refine (num_any _ _).mono ?_; rintro e w9 ⟨rfl, rfl⟩)
    refine (getSuper_any w1 _ _ (unhide R1)).mono ?_
    rintro e w2 ⟨rfl, f2⟩
    have e1 : suR (suB x.g x.gb x.gp x.gl x.gx x.gy) = ⟨x.g, x.gb, x.gp, x.gl, x.gx, x.gy⟩ := by unfold suR; rw [suG_suB (unhide HS)]; rfl
    have e2 : suC (suB x.g x.gb x.gp x.gl x.gx x.gy) = 0 := by unfold suC; rw [suG_suB (unhide HS)]
    rw [e1, e2]
    unfold Su.v
    dsimp only
    have HP2 := hide ((unhide HP1).kept f2)
    have HF2 := hide ((unhide HF1).trans f2 (fun _ _ e => e))
    clear R1 HP1 HF1 f2 e1 e2 HS
    go_upto_region 11 with fail
    have HA := hide (heap_alloc_new w2 (.cells #[.int .u64 (x.g : Int), .int .u64 (x.gb : Int), .int .u64 (x.gp : Int), .int .u64 (x.gl : Int), .int .u64 (x.gx : Int), .int .u64 (x.gy : Int)] 27))
    have fA : Fr (fun _ => False) w2 (w2.alloc (.cells #[.int .u64 (x.g : Int), .int .u64 (x.gb : Int), .int .u64 (x.gp : Int), .int .u64 (x.gl : Int), .int .u64 (x.gx : Int), .int .u64 (x.gy : Int)] 27)) := (Fr.refl _ _).alloc _
    have HP3 := hide ((unhide HP2).kept fA)
    have HF3 := hide ((unhide HF2).trans fA (fun _ _ e => e))
    clear fA HP2 HF2
    refine wp_world ?_
    intro w3 hw3
    rw [← hw3] at HA HP3 HF3
    obtain ⟨b, hb⟩ : ∃ b, b = w2.heap.size := ⟨_, rfl⟩
    rw [← hb] at HA ⊢
    clear hw3 hb
    have c7 := (unhide HP3).cell 7
    have d0 := cell_of_heap (unhide HA) 0
    have c8 := (unhide HP3).cell 8
    have d1 := cell_of_heap (unhide HA) 1
    have c9 := (unhide HP3).cell 9
    have d2 := cell_of_heap (unhide HA) 2
    have c10 := (unhide HP3).cell 10
    have d3 := cell_of_heap (unhide HA) 3
    have c11 := (unhide HP3).cell 11
    have d4 := cell_of_heap (unhide HA) 4
    have c12 := (unhide HP3).cell 12
    have d5 := cell_of_heap (unhide HA) 5
    simp [Pa.vs] at c7 c8 c9 c10 c11 c12 d0 d1 d2 d3 d4 d5
    go_upto_region 13 with (go_at_call 18; refine (num_any _ _).mono ?_; rintro e w9 ⟨rfl, rfl⟩)
    refine wp_mono (jb13 (unhide HP3) (unhide HX) (unhide HF3)) ?_
    intro e a9 w9 h9
    cases e
    case normal => apply_assumption; exact h9
    all_goals exact h9
  · simp only [Bool.not_eq_true] at hsb
    go_wp2_with fail
    refine (putSuper_no W x.g x.gb x.gp x.gl x.gx x.gy hsb).mono ?_
    rintro e w1 ⟨rfl, f1⟩
    have HP1 := hide ((unhide HP).kept f1)
    have HF1 := hide ((unhide HF).trans f1 (fun _ _ e => e))
    clear f1 HP HF c7 c8 c9 c10 c11 c12 hsb
    go_upto_region 13 with (go_at_call 18; refine (num_any _ _).mono ?_; rintro e w9 ⟨rfl, rfl⟩)
    refine wp_mono (jb13 (unhide HP1) (unhide HX) (unhide HF1)) ?_
    intro e a9 w9 h9
    cases e
    case normal => apply_assumption; exact h9
    all_goals exact h9
set_option maxHeartbeats 4000000 in
set_option maxRecDepth 100000 in
theorem jb3 {w0 W : World} {au av az : Option Addr} {nu nv nz ku kv kz : Nat} {x : Pa} {k : Nat} {u0 u3 u4 u5 u6 u7 u8 u9 u10 u11 u12 u13 u14 u15 u16 u17 u18 u19 u20 u21 u22 u23 u24 u25 u26 u27 u28 u29 u30 u31 u32 u33 u34 u35 u36 u37 u38 u39 u40 u41 u42 u43 u44 u45 u46 u47 u48 u49 u50 u51 u52 u53 u54 u55 u56 u57 u58 u59 u60 u61 u62 u63 u64 u65 u66 u67 u68 u69 u70 u71 u72 u73 u74 u75 u76 u77 u78 u79 u80 u81 u82 u83 u84 u85 u86 u87 u88 u89 u90 u91 u92 u93 u94 u95 u96 u97 u98 u99 u100 u101 u102 u103 u104 u105 u106 u107 u108 u109 u110 u111 u112 u113 u114 u115 u116 u117 u118 u119 u120 u121 u122 u123 u124 u125 u126 u127 u128 u129 u130 u131 u132 u133 u134 u135 : Value} (hP : PaAt W k x (.slice au nu ku) (.slice av nv kv) (.slice az nz kz)) (hX : PaB x) (hF : Fr (fun _ => False) w0 W)  : (rgF Try.f4 3).wp Try.prog (Exit.then ((sqF Try.f4 3).wp Try.prog (bodyPost Try.prog Try.f4 (fun e w9 => e = .returned (.bool true) ∧ Fr (fun _ => False) w0 w9))) (bodyPost Try.prog Try.f4 (fun e w9 => e = .returned (.bool true) ∧ Fr (fun _ => False) w0 w9))) ⟨#[u0, .pointer (some ⟨k, 0, none⟩), .bool false, u3, u4, u5, u6, u7, u8, u9, u10, u11, u12, u13, u14, u15, u16, u17, u18, u19, u20, u21, u22, u23, u24, u25, u26, u27, u28, u29, u30, u31, u32, u33, u34, u35, u36, u37, u38, u39, u40, u41, u42, u43, u44, u45, u46, u47, u48, u49, u50, u51, u52, u53, u54, u55, u56, u57, u58, u59, u60, u61, u62, u63, u64, u65, u66, u67, u68, u69, u70, u71, u72, u73, u74, u75, u76, u77, u78, u79, u80, u81, u82, u83, u84, u85, u86, u87, u88, u89, u90, u91, u92, u93, u94, u95, u96, u97, u98, u99, u100, u101, u102, u103, u104, u105, u106, u107, u108, u109, u110, u111, u112, u113, u114, u115, u116, u117, u118, u119, u120, u121, u122, u123, u124, u125, u126, u127, u128, u129, u130, u131, u132, u133, u134, u135], []⟩ W := by
  have HP := hide hP
  have HX := hide hX
  have HF := hide hF
  clear hP hX hF
  conv => arg 2; whnf
  conv => arg 3; arg 1; arg 2; whnf
  have c0 := (unhide HP).cell 0
  have c1 := (unhide HP).cell 1
  have c2 := (unhide HP).cell 2
  have c3 := (unhide HP).cell 3
  have c4 := (unhide HP).cell 4
  have c5 := (unhide HP).cell 5
  have c6 := (unhide HP).cell 6
  simp [Pa.vs] at c0 c1 c2 c3 c4 c5 c6
  have hnu : nu = x.L.length := by
    obtain ⟨ao, cc, e⟩ := (unhide HP).rL.shape
    simp at e
    exact e.2.1
  subst hnu
  rcases hcb : cbB x.b x.s x.p x.l x.pt x.ps x.L.length with _ | _
  · go_wp2_with fail
    refine (putEntry_no W x.b x.s x.p x.l x.pt x.ps au x.L.length ku hcb).mono ?_
    rintro e w1 ⟨rfl, f1⟩
    have HP1 := hide ((unhide HP).kept f1)
    have HF1 := hide ((unhide HF).trans f1 (fun _ _ e => e))
    clear f1 HP HF c0 c1 c2 c3 c4 c5 c6 hcb
    go_upto_region 8 with (go_at_call 18; refine (num_any _ _).mono ?_; rintro e w9 ⟨rfl, rfl⟩)
    refine wp_mono (jb8 (unhide HP1) (unhide HX) (unhide HF1)) ?_
    intro e a9 w9 h9
    cases e
    case normal => apply_assumption; exact h9
    all_goals exact h9
  · obtain ⟨-, ⟨b1, b2, b3⟩, c1'⟩ := cb_of hcb
    obtain ⟨m, hm⟩ : ∃ m : Nat, x.pt = (m : Int) := ⟨x.pt.toNat, by omega⟩
    obtain ⟨m2, hm2⟩ : ∃ m : Nat, x.ps = (m : Int) := ⟨x.ps.toNat, by omega⟩
    rw [hm, hm2] at hcb
    have hp := putEntry_ok W x.b x.s x.p x.l m m2 au x.L.length ku x.L (unhide HP).rL rfl hcb
    rw [← hm, ← hm2] at hp
    have HCB := hide hcb
    have HM := hide hm
    have HM2 := hide hm2
    have HL := hide c1'
    clear hcb hm hm2 b1 b2 b3 c1'
    go_wp2_with fail
    refine hp.mono ?_
    rintro e w1 ⟨q, rfl, hb, hq, f1⟩
    have R1 := hide (rdEn hb (unhide HL))
    have HP1 := hide ((unhide HP).kept f1)
    have HF1 := hide ((unhide HF).trans f1 (fun _ _ e => e))
    clear hp hb hq f1 HP HF c0 c1 c2 c3 c4 c5 c6
    go_wp2_with (go_at_call 18; refine (num_any _ _).mono ?_; rintro e w9 ⟨rfl, rfl⟩)
    refine (getEntry_any w1 _ _ (unhide R1)).mono ?_
    rintro e w2 ⟨u, rfl, hO, f2⟩
    have e1 : enR (enB x.b x.s x.p x.l m m2 x.L.length x.L) = ⟨x.b, x.s, x.p, x.l, m, m2, x.L⟩ := by unfold enR; rw [enG_enB (unhide HCB)]; rfl
    have e2 : enC (enB x.b x.s x.p x.l m m2 x.L.length x.L) = 0 := by unfold enC; rw [enG_enB (unhide HCB)]
    rw [e1] at hO
    rw [e1, e2]
    obtain ⟨uo, uc, rfl⟩ := hO.shape
    unfold En.c
    dsimp only
    rw [← unhide HM, ← unhide HM2]
    have HP2 := hide ((unhide HP1).kept f2)
    have HF2 := hide ((unhide HF1).trans f2 (fun _ _ e => e))
    have RO := hide hO.rd
    clear R1 HP1 HF1 f2 e1 e2 hO HCB HM HM2
    go_upto_region 6 with fail
    have HA := hide (heap_alloc_new w2 (.cells #[.int .u64 (x.b : Int), .int .u64 (x.s : Int), .int .u64 (x.p : Int), .int .u64 (x.l : Int), .int .i64 x.pt, .int .i64 x.ps, .slice uo x.L.length uc] 25))
    have fA : Fr (fun _ => False) w2 (w2.alloc (.cells #[.int .u64 (x.b : Int), .int .u64 (x.s : Int), .int .u64 (x.p : Int), .int .u64 (x.l : Int), .int .i64 x.pt, .int .i64 x.ps, .slice uo x.L.length uc] 25)) := (Fr.refl _ _).alloc _
    have HP3 := hide ((unhide HP2).kept fA)
    have HF3 := hide ((unhide HF2).trans fA (fun _ _ e => e))
    have RO3 := hide ((unhide RO).kept fA (fun _ _ e => e))
    clear fA HP2 HF2 RO
    refine wp_world ?_
    intro w3 hw3
    rw [← hw3] at HA HP3 HF3 RO3
    obtain ⟨b, hb⟩ : ∃ b, b = w2.heap.size := ⟨_, rfl⟩
    rw [← hb] at HA ⊢
    clear hw3 hb
    have c0 := (unhide HP3).cell 0
    have d0 := cell_of_heap (unhide HA) 0
    have c1 := (unhide HP3).cell 1
    have d1 := cell_of_heap (unhide HA) 1
    have c2 := (unhide HP3).cell 2
    have d2 := cell_of_heap (unhide HA) 2
    have c3 := (unhide HP3).cell 3
    have d3 := cell_of_heap (unhide HA) 3
    have c4 := (unhide HP3).cell 4
    have d4 := cell_of_heap (unhide HA) 4
    have c5 := (unhide HP3).cell 5
    have d5 := cell_of_heap (unhide HA) 5
    have c6 := (unhide HP3).cell 6
    have d6 := cell_of_heap (unhide HA) 6
    simp [Pa.vs] at c0 c1 c2 c3 c4 c5 c6 d0 d1 d2 d3 d4 d5 d6
    go_wp2_with (go_at_call 18; refine (num_any _ _).mono ?_; rintro e w9 ⟨rfl, rfl⟩)
    refine (sameEntry_any w3 (x.b : Int) (x.s : Int) (x.p : Int) (x.l : Int) x.pt x.ps (x.b : Int) (x.s : Int) (x.p : Int) (x.l : Int) x.pt x.ps uo au uc ku x.L x.L (unhide RO3) (unhide HP3).rL).mono ?_
    rintro e w4 ⟨he, f4⟩
    obtain rfl : e = .returned (.bool true) := by simpa using he
    clear he
    have HP4 := hide ((unhide HP3).kept f4)
    have HF4 := hide ((unhide HF3).trans f4 (fun _ _ e => e))
    clear f4 HP3 HF3 RO3 HA c0 c1 c2 c3 c4 c5 c6 d0 d1 d2 d3 d4 d5 d6
    go_upto_region 8 with (go_at_call 18; refine (num_any _ _).mono ?_; rintro e w9 ⟨rfl, rfl⟩)
    refine wp_mono (jb8 (unhide HP4) (unhide HX) (unhide HF4)) ?_
    intro e a9 w9 h9
    cases e
    case normal => apply_assumption; exact h9
    all_goals exact h9
set_option maxHeartbeats 4000000 in
set_option maxRecDepth 100000 in
theorem journalBack_any (w : World) {au av az : Option Addr} {nu nv nz ku kv kz : Nat} {x : Pa}  (hL : Rd w (.slice au nu ku) x.L) (hT : RdP w (.slice av nv kv) x.T) (hB : Rd w (.slice az nz kz) x.B) (b0 : x.b < 18446744073709551616) (bL : x.L.length ≤ 1048576) (bB : x.B.length ≤ 1048576) (bT : x.T.length ≤ 1048576) (bD : ∀ p ∈ x.T, p.2.length ≤ 1048576) :
    Calls Try.prog 4 #[.agg (x.vs (.slice au nu ku) (.slice av nv kv) (.slice az nz kz)).toArray] w fun e w' => e = .returned (.bool true) ∧ Fr (fun _ => False) w w' := by
  have HA := hide (heap_alloc_new w (.cells (x.vs (.slice au nu ku) (.slice av nv kv) (.slice az nz kz)).toArray 30))
  have fA : Fr (fun _ => False) w (w.alloc (.cells (x.vs (.slice au nu ku) (.slice av nv kv) (.slice az nz kz)).toArray 30)) := (Fr.refl _ _).alloc _
  have hP : PaAt (w.alloc (.cells (x.vs (.slice au nu ku) (.slice av nv kv) (.slice az nz kz)).toArray 30)) w.heap.size x (.slice au nu ku) (.slice av nv kv) (.slice az nz kz) := ⟨unhide HA, hL.kept fA (fun _ _ e => e), rdp_kept hT fA, hB.kept fA (fun _ _ e => e)⟩
  have hnu : nu = x.L.length := by
    obtain ⟨ao, cc, e⟩ := hL.shape
    simp at e
    exact e.2.1
  have hnz : nz = x.B.length := by
    obtain ⟨ao, cc, e⟩ := hB.shape
    simp at e
    exact e.2.1
  have hnv : nv = x.T.length := by
    obtain ⟨ao, cc, e⟩ := hT.shape
    simp at e
    exact e.2.1
  subst hnu hnz hnv
  have HP := hide hP
  have FA := hide fA
  unfold Pa.vs at *
  clear hL hT hB fA hP HA
  go_enter Try.func4, Try.ntmps4
  go_upto_region 1 with fail
  refine wp_world ?_
  intro w1 hw1
  rw [← hw1] at HP FA
  obtain ⟨b, hb⟩ : ∃ b, b = w.heap.size := ⟨_, rfl⟩
  rw [← hb] at HP ⊢
  clear hw1 hb
  have c0 := (unhide HP).cell 0
  have c1 := (unhide HP).cell 1
  have c2 := (unhide HP).cell 2
  have c3 := (unhide HP).cell 3
  have c4 := (unhide HP).cell 4
  have c5 := (unhide HP).cell 5
  have c6 := (unhide HP).cell 6
  have c7 := (unhide HP).cell 7
  have c8 := (unhide HP).cell 8
  have c9 := (unhide HP).cell 9
  have c10 := (unhide HP).cell 10
  have c11 := (unhide HP).cell 11
  have c12 := (unhide HP).cell 12
  have c13 := (unhide HP).cell 13
  have c14 := (unhide HP).cell 14
  have c15 := (unhide HP).cell 15
  simp [Pa.vs] at c0 c1 c2 c3 c4 c5 c6 c7 c8 c9 c10 c11 c12 c13 c14 c15
  go_wp2_with fail
  refine (heavy_any w1 _ _ _ _ _ _ _ _ _ _ _ _ _ (.slice av x.T.length kv) au az x.L.length ku x.B.length kz x.T (unhide HP).rT (by omega) (by omega) (by omega) (fun p h => by have := bD p h; omega)).mono ?_
  rintro e w2 ⟨rfl, f2⟩
  have HP2 := hide ((unhide HP).kept f2)
  have HF2 := hide ((unhide FA).trans f2 (fun _ _ e => e))
  clear f2 HP FA c0 c1 c2 c3 c4 c5 c6 c7 c8 c9 c10 c11 c12 c13 c14 c15
  rcases hv : hvB x.L.length x.B.length x.T with _ | _
  · have HX : Hid (PaB x) := hide ⟨b0, bL, bB, by
      unfold hvB at hv
      simp only [Bool.or_eq_false_iff, decide_eq_false_iff_not] at hv
      omega, bD⟩
    go_upto_region 3 with (go_at_call 18; refine (num_any _ _).mono ?_; rintro e w9 ⟨rfl, rfl⟩)
    refine wp_mono (jb3 (unhide HP2) (unhide HX) (unhide HF2)) ?_
    intro e a9 w9 h9
    cases e
    case normal => apply_assumption; exact h9
    all_goals exact h9
  · have HF := HF2
    go_wp2_with fail
    refine (live_any _).mono ?_
    rintro e w9 ⟨rfl, f9⟩
    go_wp2_with fail
    go_ret
    exact ⟨rfl, (unhide HF).trans f9 (fun _ _ e => e)⟩
end Go.Proofs.Ytgodlfoidjeekaa

namespace Go.Proofs.Ytgodlfoidjeekaa
set_option linter.unusedVariables false
set_option linter.unusedSimpArgs false
open Go.RowKit Go.Lib
set_option linter.unusedVariables false
set_option linter.unusedSimpArgs false

attribute [local go_sem ↓] Go.wp_at_zero Go.wp_at_succ

/-- append onto a row of none: what was there is as it was. -/
theorem run_app0 {P : Program} (w : World) (t ty e : TypeId) (i : TypeInfo) (z : Value) (size bytes : Nat) (ht : P.underlying t = some (.slice e)) (hi : P.info? e = some i) (hz : i.zero = some z)
    (hsize : i.size = size) (hby : i.bytes = bytes) (hzs : z.cells.size = size) (hsz : 0 < size)
    (g : Nat) (hg : w.heap[g]? = some (.cells #[] e (0, 0)))
    (x : Value) (m : Nat) (news : List Value) (hx : Sr w size x m news) (h1 : ∀ u ∈ news, u.oneCell' = true) (hbytes : m * bytes ≤ 140737488355328) (h63 : m ≤ maxLen) :
    ∃ v' w', (Builtin.append_ #[t, t] ty #[.slice (some ⟨g, 0, none⟩) 0 0, x]).run P w = .ok v' w' ∧ w'.ownsRow 0 e size v' m news ∧ Fr (fun _ => False) w w' ∧ (v'.ownBlock = some g ∨ v'.ownBlock = some w.heap.size) := by
  have hown : w.ownsRow 0 e size (.slice (some ⟨g, 0, none⟩) 0 0) 0 [] := ⟨by simp, .inr ⟨g, 0, #[], rfl, Nat.zero_le _, hg, Nat.le_refl _, Nat.zero_le _, by simp, by simp⟩⟩
  rcases hx with ⟨rfl, rfl, rfl⟩ | ⟨ad, c, rfl, hl, hc⟩
  · exact ⟨_, w, run_append_owned_none w 0 t ty e i size ht hi _ 0 [] hown, hown, Fr.refl _ _, .inl rfl⟩
  · subst hsize
    subst hby
    by_cases hm : m = 0
    · subst hm
      have hn : news = [] := List.eq_nil_of_length_eq_zero (by simpa using hl)
      subst hn
      have hr := run_append_room (P := P) w t ty e i ht hi g 0 0 #[] hg ad 0 c [] hl hc h1 (by omega) (by simp)
      refine ⟨_, _, hr, ⟨by simp, .inr ⟨g, 0, _, rfl, Nat.zero_le _, setRow_heap w g #[] _ e _ hg, by omega, Nat.zero_le _, by simp, by simp⟩⟩, ⟨rfl, rfl, rfl, by simp, fun k _ _ => ?_⟩, .inl rfl⟩
      by_cases e : k = g
      · subst e
        rw [hg, setRow_heap w k #[] _ _ _ hg]
        simp
      · exact setRow_other w g k _ e
    · have hr := run_append_grow (P := P) w t ty e i z ht hi hz ⟨g, 0, none⟩ 0 0 [] (by simp) (fun j u h => by simp at h) ad m c news hl hc (by omega) (by simp only [maxLen] at h63; omega) (growslice_fits (by omega) (by rw [Nat.zero_add]; exact hbytes))
      have hge := grownCap_ge w m 0 e
      have hcm : grownCap w m 0 e ≤ maxLen := grownCap_le_maxLen w m 0 e h63
      simp only [Nat.zero_add] at hr
      refine ⟨_, _, hr, ⟨hl, .inr ⟨w.heap.size, _, _, rfl, Nat.zero_le _, heap_alloc_new w.drew _, hge, hcm, ?_, ?_⟩⟩, (Fr.refl _ _).drew.alloc _, .inr rfl⟩
      · simp only [Array.size_append, List.size_toArray, size_zeroCells, hzs, hl, List.length_nil, Nat.zero_add, ← Nat.add_mul]
        congr 1
        omega
      · simp only [Array.toList_append, List.append_assoc, List.nil_append]
        rw [← hl]
        exact List.take_left
/-- A row of none. -/
def KV.row0 {N : Nat} : KV (RB N) := ⟨fun v w => ∃ b, v = .slice (some ⟨b, 0, none⟩) 0 0 ∧ N ≤ b ∧ Sh w b 5 0, fun v a b h f => by obtain ⟨x, e, hN, h⟩ := h; exact ⟨x, e, hN, f.rs.sh _ _ _ h⟩⟩
theorem ob_of0 {N : Nat} {w w' : World} {v : Value} {l : List UInt8} {b : Nat} (ho : w'.ownsRow 0 5 1 v l.length (bvs l)) (hb : v.ownBlock = some b ∨ v.ownBlock = some w.heap.size) (h1 : N ≤ b) (h2 : N ≤ w.heap.size) : Ob N w' v l :=
  own_low ho (fun k e => by rcases hb with h | h <;> (rw [h] at e; simp at e; omega))
set_option maxHeartbeats 8000000 in
set_option maxRecDepth 100000 in
theorem gr6 {W : World} {B0 o0 cap q : Nat} {l L : List UInt8} {u1 u2 u3 u5 u6 u7 u8 u9 u10 u11 u12 u13 u14 u15 u16 u17 u18 u19 u20 u21 u22 u23 u24 u25 u26 u27 u28 u29 u30 u31 u32 u33 u34 u35 u36 u37 u38 u39 u40 u41 u42 u43 u44 u45 u46 u47 u48 u49 u50 u51 u52 u53 u54 : Value} {Q : Exit → Act → World → Prop} (hl : l.length = 384) (hc0 : ∀ j (h : j < l.length), W.cell? ⟨B0, o0 + j, none⟩ = some (.int .u8 ((l[j].toNat : Nat) : Int))) (hB0 : B0 < W.heap.size) (hR0 : Rd W (.slice (some ⟨B0, o0 + 48, none⟩) (48 + q - 48) (cap - 48)) L) (hL : L.length ≤ 1000) (hm0 : nb l 36 2 < 65536) (hm1 : nb l 38 2 < 65536) (hq : q ≤ 336) (hnc : 384 ≤ cap) (hcap : cap ≤ maxLen)
    (hQ : ∀ (y18 y19 y20 y21 y22 y23 y24 y25 y26 y27 y28 y29 y30 y31 y32 y33 y34 y35 y36 y37 y38 : Value) (b : Nat) (u : Value) (W' : World), Fr (fun _ => False) W W' → W.heap.size ≤ b → W'.heap[b]? = some (.cells #[.int .u64 (nb l 4 8 : Int), .int .u64 (nb l 12 8 : Int), .int .u64 (nb l 20 8 : Int), .int .u64 (nb l 28 8 : Int), .int .i64 (nb l 36 2 : Int), .int .i64 (nb l 38 2 : Int), u] 25 (0, 0)) → Ob W.heap.size W' u L → Q .normal ⟨#[.slice (some ⟨B0, o0, none⟩) 384 cap, u1, u2, u3, .int .i64 (q : Int), .pointer (some ⟨b, 0, none⟩), u6, u7, u8, u9, u10, u11, u12, u13, u14, u15, u16, u17, y18, y19, y20, y21, y22, y23, y24, y25, y26, y27, y28, y29, y30, y31, y32, y33, y34, y35, y36, y37, y38, u39, u40, u41, u42, u43, u44, u45, u46, u47, u48, u49, u50, u51, u52, u53, u54], []⟩ W') : (rgF Try.f22 6).wp Try.prog Q ⟨#[.slice (some ⟨B0, o0, none⟩) 384 cap, u1, u2, u3, .int .i64 (q : Int), u5, u6, u7, u8, u9, u10, u11, u12, u13, u14, u15, u16, u17, u18, u19, u20, u21, u22, u23, u24, u25, u26, u27, u28, u29, u30, u31, u32, u33, u34, u35, u36, u37, u38, u39, u40, u41, u42, u43, u44, u45, u46, u47, u48, u49, u50, u51, u52, u53, u54], []⟩ W := by
  have HQ := hide hQ
  clear hQ
  have r0 := And.intro hB0 hR0
  conv => arg 2; whnf
  refine wp_nm ?_
  intro a0' hA0
  have s0 : a0'.tmps.getD 0 undef = .slice (some ⟨B0, o0, none⟩) 384 cap := by rw [hA0]; rfl
  have s4 : a0'.tmps.getD 4 undef = .int .i64 (q : Int) := by rw [hA0]; rfl
  have hsz : a0'.tmps.size = 55 := by rw [hA0]; rfl
  have hdf : a0'.defers = [] := by rw [hA0]
  refine wp_region_chainA (by kernel_rfl) (by kernel_rfl) (by decide +kernel) (by rw [hsz]; decide +kernel) (fun w w' => RB W.heap.size w w') (RB.of_fr (Fr.refl _ _).drew) (fun _ _ _ => RB.trans) (Tw [KV.eq (.slice (some ⟨B0, o0, none⟩) 384 cap), KV.eq (.int .u64 (nb l 4 8 : Int)), KV.eq (.slice (some ⟨B0, o0, none⟩) 384 cap), KV.eq (.int .u64 (nb l 12 8 : Int)), KV.eq (.slice (some ⟨B0, o0, none⟩) 384 cap), KV.eq (.int .u64 (nb l 20 8 : Int)), KV.eq (.slice (some ⟨B0, o0, none⟩) 384 cap), KV.eq (.int .u64 (nb l 28 8 : Int)), KV.eq (.slice (some ⟨B0, o0, none⟩) 384 cap), KV.eq (.int .u64 (nb l 36 2 : Int)), KV.eq (.int .i64 (nb l 36 2 : Int)), KV.eq (.slice (some ⟨B0, o0, none⟩) 384 cap), KV.eq (.int .u64 (nb l 38 2 : Int)), KV.eq (.int .i64 (nb l 38 2 : Int)), KV.row0, KV.eq (.slice (some ⟨B0, o0, none⟩) 384 cap), KV.eq (.int .i64 (q : Int)), KV.eq (.int .i64 ((48 + q : Nat) : Int)), KV.eq (.slice (some ⟨B0, o0 + 48, none⟩) (48 + q - 48) (cap - 48)), KV.ob L, KV.agE (nb l 4 8) (nb l 12 8) (nb l 20 8) (nb l 28 8) (nb l 36 2) (nb l 38 2) L, KV.boxB 25 7]) (Tw.mono _) [22] (by decide) (by decide) (fun k i j h1 h2 => ?cp) (StE (nb l 4 8) (nb l 12 8) (nb l 20 8) (nb l 28 8) (nb l 36 2) (nb l 38 2) L 5 W.heap.size) ?st0 ?steps ?done
  case cp =>
    match k, h1, h2 with
    | 0, h1, h2 => simp at h2
    | k + 1, h1, h2 => simp at h2
  case st0 => exact fun h => by omega
  case steps =>
    have HC : ∀ w', RB W.heap.size W w' → ∀ j (h : j < l.length), w'.cell? ⟨B0, o0 + j, none⟩ = some (.int .u8 ((l[j].toNat : Nat) : Int)) := fun w' f j h => by
      rw [f.rs.fr.cell (a := ⟨B0, o0 + j, none⟩) hB0 (fun e => by simp at e; omega)]
      exact hc0 j h
    refine ⟨?_, ?_⟩
    · intro a' w' k hb hR hst hck hle hd
      exact .inl ⟨wanted_none rfl, la_val _ _ (by decide) (x_move rfl ((hb.old 0 (by decide +kernel)).trans s0)) rfl (RB.of_fr (Fr.refl _ _)) (hst.put (by decide) (Fr.refl _ _))⟩
    refine ⟨?_, ?_⟩
    · intro a' w' k hb hR hst hck hle hd
      have e0 : a'.tmps.getD 18 undef = .slice (some ⟨B0, o0, none⟩) 384 cap := hd 0 (by kernel_rfl) 18 rfl
      exact .inl ⟨wanted_none rfl, la_call 60 _ (by decide) (e_call3 (x := .tmp 18) rfl rfl e0 rfl rfl (fun _ _ => by simp [go_sem])) ((rnumber_any w' B0 o0 384 cap l 4 8 8 4 rfl rfl hl.symm hnc hcap (by decide) (by decide) (by decide) (HC w' hR)).mono (by rintro e w2 ⟨rfl, rfl⟩; exact ⟨_, rfl, rfl, RB.of_fr (Fr.refl _ _), hst.put (by decide) (Fr.refl _ _)⟩))⟩
    refine ⟨?_, ?_⟩
    · intro a' w' k hb hR hst hck hle hd
      exact .inl ⟨wanted_none rfl, la_val _ _ (by decide) (x_move rfl ((hb.old 0 (by decide +kernel)).trans s0)) rfl (RB.of_fr (Fr.refl _ _)) (hst.put (by decide) (Fr.refl _ _))⟩
    refine ⟨?_, ?_⟩
    · intro a' w' k hb hR hst hck hle hd
      have e0 : a'.tmps.getD 20 undef = .slice (some ⟨B0, o0, none⟩) 384 cap := hd 2 (by kernel_rfl) 20 rfl
      exact .inl ⟨wanted_none rfl, la_call 60 _ (by decide) (e_call3 (x := .tmp 20) rfl rfl e0 rfl rfl (fun _ _ => by simp [go_sem])) ((rnumber_any w' B0 o0 384 cap l 12 8 8 12 rfl rfl hl.symm hnc hcap (by decide) (by decide) (by decide) (HC w' hR)).mono (by rintro e w2 ⟨rfl, rfl⟩; exact ⟨_, rfl, rfl, RB.of_fr (Fr.refl _ _), hst.put (by decide) (Fr.refl _ _)⟩))⟩
    refine ⟨?_, ?_⟩
    · intro a' w' k hb hR hst hck hle hd
      exact .inl ⟨wanted_none rfl, la_val _ _ (by decide) (x_move rfl ((hb.old 0 (by decide +kernel)).trans s0)) rfl (RB.of_fr (Fr.refl _ _)) (hst.put (by decide) (Fr.refl _ _))⟩
    refine ⟨?_, ?_⟩
    · intro a' w' k hb hR hst hck hle hd
      have e0 : a'.tmps.getD 22 undef = .slice (some ⟨B0, o0, none⟩) 384 cap := hd 4 (by kernel_rfl) 22 rfl
      exact .inl ⟨wanted_none rfl, la_call 60 _ (by decide) (e_call3 (x := .tmp 22) rfl rfl e0 rfl rfl (fun _ _ => by simp [go_sem])) ((rnumber_any w' B0 o0 384 cap l 20 8 8 20 rfl rfl hl.symm hnc hcap (by decide) (by decide) (by decide) (HC w' hR)).mono (by rintro e w2 ⟨rfl, rfl⟩; exact ⟨_, rfl, rfl, RB.of_fr (Fr.refl _ _), hst.put (by decide) (Fr.refl _ _)⟩))⟩
    refine ⟨?_, ?_⟩
    · intro a' w' k hb hR hst hck hle hd
      exact .inl ⟨wanted_none rfl, la_val _ _ (by decide) (x_move rfl ((hb.old 0 (by decide +kernel)).trans s0)) rfl (RB.of_fr (Fr.refl _ _)) (hst.put (by decide) (Fr.refl _ _))⟩
    refine ⟨?_, ?_⟩
    · intro a' w' k hb hR hst hck hle hd
      have e0 : a'.tmps.getD 24 undef = .slice (some ⟨B0, o0, none⟩) 384 cap := hd 6 (by kernel_rfl) 24 rfl
      exact .inl ⟨wanted_none rfl, la_call 60 _ (by decide) (e_call3 (x := .tmp 24) rfl rfl e0 rfl rfl (fun _ _ => by simp [go_sem])) ((rnumber_any w' B0 o0 384 cap l 28 8 8 28 rfl rfl hl.symm hnc hcap (by decide) (by decide) (by decide) (HC w' hR)).mono (by rintro e w2 ⟨rfl, rfl⟩; exact ⟨_, rfl, rfl, RB.of_fr (Fr.refl _ _), hst.put (by decide) (Fr.refl _ _)⟩))⟩
    refine ⟨?_, ?_⟩
    · intro a' w' k hb hR hst hck hle hd
      exact .inl ⟨wanted_none rfl, la_val _ _ (by decide) (x_move rfl ((hb.old 0 (by decide +kernel)).trans s0)) rfl (RB.of_fr (Fr.refl _ _)) (hst.put (by decide) (Fr.refl _ _))⟩
    refine ⟨?_, ?_⟩
    · intro a' w' k hb hR hst hck hle hd
      have e0 : a'.tmps.getD 26 undef = .slice (some ⟨B0, o0, none⟩) 384 cap := hd 8 (by kernel_rfl) 26 rfl
      exact .inl ⟨wanted_none rfl, la_call 60 _ (by decide) (e_call3 (x := .tmp 26) rfl rfl e0 rfl rfl (fun _ _ => by simp [go_sem])) ((rnumber_any w' B0 o0 384 cap l 36 2 2 36 rfl rfl hl.symm hnc hcap (by decide) (by decide) (by decide) (HC w' hR)).mono (by rintro e w2 ⟨rfl, rfl⟩; exact ⟨_, rfl, rfl, RB.of_fr (Fr.refl _ _), hst.put (by decide) (Fr.refl _ _)⟩))⟩
    refine ⟨?_, ?_⟩
    · intro a' w' k hb hR hst hck hle hd
      exact .inl ⟨wanted_none rfl, la_val _ _ (by decide) (x_conv rfl (hd 9 (by kernel_rfl) 27 rfl) (cv22 _ _ hm0)) rfl (RB.of_fr (Fr.refl _ _)) (hst.put (by decide) (Fr.refl _ _))⟩
    refine ⟨?_, ?_⟩
    · intro a' w' k hb hR hst hck hle hd
      exact .inl ⟨wanted_none rfl, la_val _ _ (by decide) (x_move rfl ((hb.old 0 (by decide +kernel)).trans s0)) rfl (RB.of_fr (Fr.refl _ _)) (hst.put (by decide) (Fr.refl _ _))⟩
    refine ⟨?_, ?_⟩
    · intro a' w' k hb hR hst hck hle hd
      have e0 : a'.tmps.getD 29 undef = .slice (some ⟨B0, o0, none⟩) 384 cap := hd 11 (by kernel_rfl) 29 rfl
      exact .inl ⟨wanted_none rfl, la_call 60 _ (by decide) (e_call3 (x := .tmp 29) rfl rfl e0 rfl rfl (fun _ _ => by simp [go_sem])) ((rnumber_any w' B0 o0 384 cap l 38 2 2 38 rfl rfl hl.symm hnc hcap (by decide) (by decide) (by decide) (HC w' hR)).mono (by rintro e w2 ⟨rfl, rfl⟩; exact ⟨_, rfl, rfl, RB.of_fr (Fr.refl _ _), hst.put (by decide) (Fr.refl _ _)⟩))⟩
    refine ⟨?_, ?_⟩
    · intro a' w' k hb hR hst hck hle hd
      exact .inl ⟨wanted_none rfl, la_val _ _ (by decide) (x_conv rfl (hd 12 (by kernel_rfl) 30 rfl) (cv22 _ _ hm1)) rfl (RB.of_fr (Fr.refl _ _)) (hst.put (by decide) (Fr.refl _ _))⟩
    refine ⟨?_, ?_⟩
    · intro a' w' k hb hR hst hck hle hd
      exact .inl ⟨wanted_none rfl, la_val _ _ (by decide) (x_bs230 rfl) ⟨_, rfl, hR.rs.fr.size, .of (heap_alloc_new w' _) rfl⟩ (RB.of_fr ((Fr.refl _ _).alloc _)) (hst.put (by decide) ((Fr.refl _ _).alloc _))⟩
    refine ⟨?_, ?_⟩
    · intro a' w' k hb hR hst hck hle hd
      exact .inl ⟨wanted_none rfl, la_val _ _ (by decide) (x_move rfl ((hb.old 0 (by decide +kernel)).trans s0)) rfl (RB.of_fr (Fr.refl _ _)) (hst.put (by decide) (Fr.refl _ _))⟩
    refine ⟨?_, ?_⟩
    · intro a' w' k hb hR hst hck hle hd
      exact .inl ⟨wanted_none rfl, la_val _ _ (by decide) (x_move rfl ((hb.old 4 (by decide +kernel)).trans s4)) rfl (RB.of_fr (Fr.refl _ _)) (hst.put (by decide) (Fr.refl _ _))⟩
    refine ⟨?_, ?_⟩
    · intro a' w' k hb hR hst hck hle hd
      have e0 : a'.tmps.getD 34 undef = .int .i64 (q : Int) := hd 16 (by kernel_rfl) 34 rfl
      exact .inl ⟨wanted_none rfl, la_val _ _ (by decide) (x_addI (x := .const (.int .i64 48)) (y := .tmp 34) rfl rfl e0 (by have := wrapI (48 + q) (by omega); exact_mod_cast this)) rfl (RB.of_fr (Fr.refl _ _)) (hst.put (by decide) (Fr.refl _ _))⟩
    refine ⟨?_, ?_⟩
    · intro a' w' k hb hR hst hck hle hd
      have e0 : a'.tmps.getD 33 undef = .slice (some ⟨B0, o0, none⟩) 384 cap := hd 15 (by kernel_rfl) 33 rfl
      have e1 : a'.tmps.getD 35 undef = .int .i64 ((48 + q : Nat) : Int) := hd 17 (by kernel_rfl) 35 rfl
      exact .inl ⟨wanted_none rfl, la_val _ _ (by decide) (x_slice23 (x := .tmp 33) (y := .const (.int .i64 48)) (z := .tmp 35) (lo := 48) (hi := 48 + q) rfl e0 rfl e1 (by omega) (by omega) hcap (by omega)) rfl (RB.of_fr (Fr.refl _ _)) (hst.put (by decide) (Fr.refl _ _))⟩
    refine ⟨?_, ?_⟩
    · intro a' w' k hb hR hst hck hle hd
      obtain ⟨g, e0, hgN, cs0, hg, hgs⟩ := hd 14 (by kernel_rfl) 32 rfl
      obtain rfl : cs0 = #[] := Array.eq_empty_of_size_eq_zero hgs
      have e1 : a'.tmps.getD 36 undef = .slice (some ⟨B0, o0 + 48, none⟩) (48 + q - 48) (cap - 48) := hd 18 (by kernel_rfl) 36 rfl
      obtain ⟨inf, hi0, hz0, hz1, hz2⟩ := info_parts Try.info5
      have hrd : Rd w' (.slice (some ⟨B0, o0 + 48, none⟩) (48 + q - 48) (cap - 48)) L := RB.rd r0 hR
      obtain ⟨v2, w2, hr2, ho2, hf2, hn2⟩ := run_app0 (P := Try.prog) w' 23 23 5 inf _ 1 1 Try.underlying23 hi0 hz0 hz1 hz2 rfl (by decide) g hg _ L.length (bvs L) hrd.sr (bvs_one _) (by omega) (by simp only [maxLen]; omega)
      exact .inl ⟨wanted_none rfl, la_val v2 w2 (by decide) (x_app23 rfl rfl e0 e1 hr2) (ob_of0 ho2 hn2 hgN hR.rs.fr.size) (RB.of_fr hf2) (hst.put (by decide) hf2)⟩
    refine ⟨?_, ?_⟩
    · intro a' w' k hb hR hst hck hle hd
      have e0 : a'.tmps.getD 19 undef = .int .u64 (nb l 4 8 : Int) := hd 1 (by kernel_rfl) 19 rfl
      have e1 : a'.tmps.getD 21 undef = .int .u64 (nb l 12 8 : Int) := hd 3 (by kernel_rfl) 21 rfl
      have e2 : a'.tmps.getD 23 undef = .int .u64 (nb l 20 8 : Int) := hd 5 (by kernel_rfl) 23 rfl
      have e3 : a'.tmps.getD 25 undef = .int .u64 (nb l 28 8 : Int) := hd 7 (by kernel_rfl) 25 rfl
      have e4 : a'.tmps.getD 28 undef = .int .i64 (nb l 36 2 : Int) := hd 10 (by kernel_rfl) 28 rfl
      have e5 : a'.tmps.getD 31 undef = .int .i64 (nb l 38 2 : Int) := hd 13 (by kernel_rfl) 31 rfl
      have e6 : Ob W.heap.size w' (a'.tmps.getD 37 undef) L := hd 19 (by kernel_rfl) 37 rfl
      obtain ⟨ao, kk, e7⟩ := e6.shape
      refine .inl ⟨wanted_none rfl, la_val _ _ (by decide) (x_build25 (x0 := .tmp 19) (x1 := .tmp 21) (x2 := .tmp 23) (x3 := .tmp 25) (x4 := .tmp 28) (x5 := .tmp 31) (x6 := .tmp 37) rfl e0 e1 e2 e3 e4 e5 e7) ⟨_, rfl, e7 ▸ e6⟩ (RB.of_fr (Fr.refl _ _)) (hst.put (by decide) (Fr.refl _ _))⟩
    refine ⟨?_, ?_⟩
    · intro a' w' k hb hR hst hck hle hd
      have hk : k ≤ 0 := hle 0 22 _ rfl rfl (by kernel_rfl)
      exact .inl ⟨wanted_none rfl, la_val _ _ (by decide) (x_alloc25 rfl) ⟨_, rfl, hR.rs.fr.size, .of (heap_alloc_new w' _) rfl⟩ (RB.of_fr ((Fr.refl _ _).alloc _)) (fun h => by omega)⟩
    refine ⟨?_, ?_⟩
    · intro a' w' k hb hR hst hck hle hd
      obtain rfl : 0 = k := hck 0 rfl
      obtain ⟨b, eb, hbN, hbM⟩ := hd 21 (by kernel_rfl) 5 rfl
      obtain ⟨v', ev, hv⟩ := hd 20 (by kernel_rfl) 38 rfl
      obtain ⟨ao, k, rfl⟩ := Ob.shape hv
      obtain ⟨cs, hh, hk⟩ := hbM
      have hR2 := RB.setRow (N := W.heap.size) (c := #[.int .u64 (nb l 4 8 : Int), .int .u64 (nb l 12 8 : Int), .int .u64 (nb l 20 8 : Int), .int .u64 (nb l 28 8 : Int), .int .i64 (nb l 36 2 : Int), .int .i64 (nb l 38 2 : Int), .slice ao L.length k]) hbN ⟨cs, hh, hk⟩ rfl (by decide)
      exact .inl ⟨wanted_none rfl, la_store _ (by decide) (x_storeR 25 7 (by kernel_rfl) (c := #[.int .u64 (nb l 4 8 : Int), .int .u64 (nb l 12 8 : Int), .int .u64 (nb l 20 8 : Int), .int .u64 (nb l 28 8 : Int), .int .i64 (nb l 36 2 : Int), .int .i64 (nb l 38 2 : Int), .slice ao L.length k]) rfl eb ev rfl (by simp [Value.oneCell']) ⟨cs, hh, hk⟩) trivial hR2 (fun _ => ⟨b, _, eb, hbN, setRow_at hh _, Ob.keep hv hR2⟩)⟩
    exact trivial
  case done =>
    intro a' w' hb hR hst hall
    obtain ⟨b, u, eb, hbN, hh, ho⟩ := hst (by decide)
    have f := hR.rs.old (Nat.le_refl _)
    have hfr := frame_eq (a := a') (vs := [.slice (some ⟨B0, o0, none⟩) 384 cap, u1, u2, u3, .int .i64 (q : Int), .pointer (some ⟨b, 0, none⟩), u6, u7, u8, u9, u10, u11, u12, u13, u14, u15, u16, u17, a'.tmps.getD 18 undef, a'.tmps.getD 19 undef, a'.tmps.getD 20 undef, a'.tmps.getD 21 undef, a'.tmps.getD 22 undef, a'.tmps.getD 23 undef, a'.tmps.getD 24 undef, a'.tmps.getD 25 undef, a'.tmps.getD 26 undef, a'.tmps.getD 27 undef, a'.tmps.getD 28 undef, a'.tmps.getD 29 undef, a'.tmps.getD 30 undef, a'.tmps.getD 31 undef, a'.tmps.getD 32 undef, a'.tmps.getD 33 undef, a'.tmps.getD 34 undef, a'.tmps.getD 35 undef, a'.tmps.getD 36 undef, a'.tmps.getD 37 undef, a'.tmps.getD 38 undef, u39, u40, u41, u42, u43, u44, u45, u46, u47, u48, u49, u50, u51, u52, u53, u54]) (by rw [hb.size, hsz]; rfl) (by rw [hb.defers, hdf]) ⟨(hb.old 0 (by decide +kernel)).trans (by rw [hA0]; rfl), (hb.old 1 (by decide +kernel)).trans (by rw [hA0]; rfl), (hb.old 2 (by decide +kernel)).trans (by rw [hA0]; rfl), (hb.old 3 (by decide +kernel)).trans (by rw [hA0]; rfl), (hb.old 4 (by decide +kernel)).trans (by rw [hA0]; rfl), eb, (hb.old 6 (by decide +kernel)).trans (by rw [hA0]; rfl), (hb.old 7 (by decide +kernel)).trans (by rw [hA0]; rfl), (hb.old 8 (by decide +kernel)).trans (by rw [hA0]; rfl), (hb.old 9 (by decide +kernel)).trans (by rw [hA0]; rfl), (hb.old 10 (by decide +kernel)).trans (by rw [hA0]; rfl), (hb.old 11 (by decide +kernel)).trans (by rw [hA0]; rfl), (hb.old 12 (by decide +kernel)).trans (by rw [hA0]; rfl), (hb.old 13 (by decide +kernel)).trans (by rw [hA0]; rfl), (hb.old 14 (by decide +kernel)).trans (by rw [hA0]; rfl), (hb.old 15 (by decide +kernel)).trans (by rw [hA0]; rfl), (hb.old 16 (by decide +kernel)).trans (by rw [hA0]; rfl), (hb.old 17 (by decide +kernel)).trans (by rw [hA0]; rfl), rfl, rfl, rfl, rfl, rfl, rfl, rfl, rfl, rfl, rfl, rfl, rfl, rfl, rfl, rfl, rfl, rfl, rfl, rfl, rfl, rfl, (hb.old 39 (by decide +kernel)).trans (by rw [hA0]; rfl), (hb.old 40 (by decide +kernel)).trans (by rw [hA0]; rfl), (hb.old 41 (by decide +kernel)).trans (by rw [hA0]; rfl), (hb.old 42 (by decide +kernel)).trans (by rw [hA0]; rfl), (hb.old 43 (by decide +kernel)).trans (by rw [hA0]; rfl), (hb.old 44 (by decide +kernel)).trans (by rw [hA0]; rfl), (hb.old 45 (by decide +kernel)).trans (by rw [hA0]; rfl), (hb.old 46 (by decide +kernel)).trans (by rw [hA0]; rfl), (hb.old 47 (by decide +kernel)).trans (by rw [hA0]; rfl), (hb.old 48 (by decide +kernel)).trans (by rw [hA0]; rfl), (hb.old 49 (by decide +kernel)).trans (by rw [hA0]; rfl), (hb.old 50 (by decide +kernel)).trans (by rw [hA0]; rfl), (hb.old 51 (by decide +kernel)).trans (by rw [hA0]; rfl), (hb.old 52 (by decide +kernel)).trans (by rw [hA0]; rfl), (hb.old 53 (by decide +kernel)).trans (by rw [hA0]; rfl), (hb.old 54 (by decide +kernel)).trans (by rw [hA0]; rfl), trivial⟩
    rw [hfr]
    exact unhide HQ _ _ _ _ _ _ _ _ _ _ _ _ _ _ _ _ _ _ _ _ _ b u w' f hbN hh ho
end Go.Proofs.Ytgodlfoidjeekaa

namespace Go.Proofs.Ytgodlfoidjeekaa
set_option linter.unusedVariables false
set_option linter.unusedSimpArgs false
open Go.RowKit Go.Lib
set_option linter.unusedVariables false
set_option linter.unusedSimpArgs false

attribute [local go_sem ↓] Go.wp_at_zero Go.wp_at_succ

theorem gl_nb (l : List UInt8) (c : Nat) (hc : c < 4) : gl l c = nb l (4 + 8 * c) 8 := by
  unfold gl nb
  rw [List.drop_take, List.take_take, List.drop_drop]
  congr 2
  · omega
  · congr 1; omega
theorem gm_nb (l : List UInt8) (c : Nat) (hc : c < 6) : gm l c = nb l (36 + 2 * c) 2 := by
  unfold gm nb
  rw [List.drop_take, List.take_take, List.drop_drop]
  congr 2
  · omega
  · congr 1; omega
set_option maxHeartbeats 8000000 in
set_option maxRecDepth 100000 in
theorem rgetEntry_len (w : World) (v : Value) (l : List UInt8) (h : Rd w v l) (hl : l.length ≠ 384) : Calls Try.prog 22 #[v] w fun e w' => e = .returned (.tuple #[.agg #[.int .u64 0, .int .u64 0, .int .u64 0, .int .u64 0, .int .i64 0, .int .i64 0, .slice none 0 0], .int .i64 81]) ∧ Fr (fun _ => False) w w' := by
  obtain ⟨ao, cap, rfl⟩ := h.shape
  clear h
  obtain ⟨n, hn⟩ : ∃ n, n = l.length := ⟨_, rfl⟩
  rw [← hn] at hl ⊢
  have d1 : ((n : Int) == 384) = false := by simp; omega
  have d2 : ¬ ((n : Int) = 384) := by omega
  clear hl hn
  go_enter Try.func22, Try.ntmps22
  go_wp2_with fail
  refine ret_ceR 25 7 _ Try.underlying25 (by kernel_rfl) w.heap.size #[.int .u64 0, .int .u64 0, .int .u64 0, .int .u64 0, .int .i64 0, .int .i64 0, .slice none 0 0] 25 rfl rfl rfl (heap_alloc_new w _) rfl ?_
  exact ⟨rfl, by repeat' (first | exact Fr.refl _ _ | apply Fr.alloc)⟩
set_option maxHeartbeats 8000000 in
set_option maxRecDepth 100000 in
theorem rgetEntry_big (w : World) (v : Value) (l : List UInt8) (h : Rd w v l) (hl : l.length = 384) (hb : 336 < gm l 2) : Calls Try.prog 22 #[v] w fun e w' => e = .returned (.tuple #[.agg #[.int .u64 0, .int .u64 0, .int .u64 0, .int .u64 0, .int .i64 0, .int .i64 0, .slice none 0 0], .int .i64 81]) ∧ Fr (fun _ => False) w w' := by
  obtain ⟨ao, cap, rfl⟩ := h.shape
  obtain ⟨B0, o0, rfl, -, hnc, hcm, hcell⟩ := h.lits (by omega)
  have hB0 : B0 < w.heap.size := World.block_lt_of_cell? w _ (hcell 0 (by omega))
  rw [hl] at h hnc ⊢
  have HL := hide hl
  have HR := hide h
  have H60 := hide (fun W (f : Fr (fun _ => False) w W) => rnumber_any W B0 o0 384 cap l 40 2 2 40 rfl rfl hl.symm hnc hcm (by decide) (by decide) (by decide) (fun j hj => by rw [f.cell hB0 id]; exact hcell j hj))
  have e40 : nb l 40 2 = gm l 2 := (gm_nb l 2 (by omega)).symm
  rw [e40] at H60
  have e2 : IntKind.i64.wrap (gm l 2 : Int) = (gm l 2 : Int) := by have := gm_lt l 2; simp [IntKind.wrap, IntKind.signed, IntKind.bits]; omega
  clear h hl hcm hcell hB0
  go_enter Try.func22, Try.ntmps22
  go_wp2_with (go_at_call 60; refine (unhide H60 _ ((Fr.refl _ _).alloc _)).mono ?_; rintro e w' ⟨rfl, rfl⟩)
  refine ret_ceR 25 7 _ Try.underlying25 (by kernel_rfl) w.heap.size #[.int .u64 0, .int .u64 0, .int .u64 0, .int .u64 0, .int .i64 0, .int .i64 0, .slice none 0 0] 25 rfl rfl rfl (heap_alloc_new w _) rfl ?_
  exact ⟨rfl, by repeat' (first | exact Fr.refl _ _ | apply Fr.alloc)⟩
set_option maxHeartbeats 8000000 in
set_option maxRecDepth 100000 in
theorem rgetEntry_no (w : World) (v : Value) (l : List UInt8) (h : Rd w v l) (hl : l.length = 384) (hb : gm l 2 ≤ 336) (hs : cbB (gl l 0) (gl l 1) (gl l 2) (gl l 3) (gm l 0) (gm l 1) (gq l) = false) : Calls Try.prog 22 #[v] w fun e w' => e = .returned (.tuple #[.agg #[.int .u64 0, .int .u64 0, .int .u64 0, .int .u64 0, .int .i64 0, .int .i64 0, .slice none 0 0], .int .i64 81]) ∧ Fr (fun _ => False) w w' := by
  obtain ⟨ao, cap, rfl⟩ := h.shape
  obtain ⟨B0, o0, rfl, -, hnc, hcm, hcell⟩ := h.lits (by omega)
  have hB0 : B0 < w.heap.size := World.block_lt_of_cell? w _ (hcell 0 (by omega))
  rw [hl] at h hnc ⊢
  have HL := hide hl
  have HR := hide h
  have H60 := hide (fun W (f : Fr (fun _ => False) w W) => rnumber_any W B0 o0 384 cap l 40 2 2 40 rfl rfl hl.symm hnc hcm (by decide) (by decide) (by decide) (fun j hj => by rw [f.cell hB0 id]; exact hcell j hj))
  have e40 : nb l 40 2 = gm l 2 := (gm_nb l 2 (by omega)).symm
  rw [e40] at H60
  have e2 : IntKind.i64.wrap (gm l 2 : Int) = (gm l 2 : Int) := by have := gm_lt l 2; simp [IntKind.wrap, IntKind.signed, IntKind.bits]; omega
  have hgq : gq l = gm l 2 := by unfold gq; omega
  rw [← hgq] at e2 H60
  have HQ3 := hide (show gq l ≤ 336 by omega)
  have hq3 : gq l ≤ 336 := unhide HQ3
  have HS := hide hs
  have HCM := hide hcm
  have HNC := hide hnc
  have HB0 := hide hB0
  have HC0 := hide hcell
  clear h hl hs hcm hcell hB0 hb hgq e40 hnc
  have FA : Hid (Fr (fun _ => False) w (w.alloc (.cells #[.int .u64 0, .int .u64 0, .int .u64 0, .int .u64 0, .int .i64 0, .int .i64 0, .slice none 0 0] 25))) := hide ((Fr.refl _ _).alloc _)
  have HZ3 := hide (heap_alloc_new w (.cells #[.int .u64 0, .int .u64 0, .int .u64 0, .int .u64 0, .int .i64 0, .int .i64 0, .slice none 0 0] 25))
  go_enter Try.func22, Try.ntmps22
  go_upto_region 6 with (go_at_call 60; refine (unhide H60 _ ((Fr.refl _ _).alloc _)).mono ?_; rintro e w' ⟨rfl, rfl⟩)
  refine wp_world ?_
  intro w3 hw3
  rw [← hw3] at HZ3 FA
  clear hw3 e2 H60
  have hw3 : w.heap.size ≤ w3.heap.size := (unhide FA).size
  refine gr6 (q := gq l) (L := gP l) (unhide HL) (fun j hj => by rw [(unhide FA).cell (a := ⟨B0, o0 + j, none⟩) (unhide HB0) id]; exact unhide HC0 j hj) (Nat.lt_of_lt_of_le (unhide HB0) hw3) (by rw [Nat.add_sub_cancel_left]; exact ((unhide HR).kept (unhide FA) (fun _ _ h => h)).mid2 48 (gq l) (by have := unhide HQ3; have := unhide HL; omega) (by have := unhide HL; omega) (cap - 48) rfl (o0 + 48) rfl) (by rw [gP_length (unhide HL)]; omega) (by rw [← gm_nb l 0 (by omega)]; exact gm_lt l 0) (by rw [← gm_nb l 1 (by omega)]; exact gm_lt l 1) hq3 (unhide HNC) (unhide HCM) ?_
  intro y18 y19 y20 y21 y22 y23 y24 y25 y26 y27 y28 y29 y30 y31 y32 y33 y34 y35 y36 y37 y38 b u w4 f4 hb hh ho
  rw [← gl_nb l 0 (by omega), ← gl_nb l 1 (by omega), ← gl_nb l 2 (by omega), ← gl_nb l 3 (by omega), ← gm_nb l 0 (by omega), ← gm_nb l 1 (by omega)] at hh
  have hz4 := (f4.block _ (lt_of_heap (unhide HZ3)) id).trans (unhide HZ3)
  have F4 := hide ((unhide FA).trans f4 (fun _ _ h => h))
  have HO := hide (ho.mono hw3)
  obtain ⟨ao, kk, rfl⟩ := ho.shape
  rw [gP_length (unhide HL)] at hh HO ho
  have HRD := hide ho.rd
  have hpw : w.heap.size < b := Nat.lt_of_lt_of_le (lt_of_heap (unhide HZ3)) hb
  clear f4 hb ho FA HZ3 hw3
  generalize hp : w.heap.size = p at *
  go_wp2_with (first | (refine wl_loadR 25 7 _ Try.underlying25 (by kernel_rfl) (.tmp 5) rfl rfl b rfl _ 25 hh rfl ?_) | (refine wl_storeR 25 7 (by kernel_rfl) _ _ rfl rfl p rfl _ rfl _ 25 hz5 rfl rfl (by simp [Value.oneCell']) ?_; intro w6 hw6; have hz6 := setRow_at hz5 #[.int .u64 0, .int .u64 0, .int .u64 0, .int .u64 0, .int .i64 0, .int .i64 0, .slice none 0 0]; rw [← hw6] at hz6; have F6 := hide ((unhide F5).trans (hw6 ▸ Fr.setRow_one w5 _ rfl : Fr (fun k => k = p) w5 w6) (fun k hk e => by omega));  clear hw6) | (go_at_call 12; refine (rputEntry_no w4 _ _ _ _ _ _ _ _ _ (unhide HS)).mono ?_; rintro e w5 ⟨rfl, f5⟩; have hz5 := (f5.block _ (lt_of_heap hz4) id).trans hz4; have F5 := hide ((unhide F4).trans f5 (fun _ _ h => h)); have LD5 := hide (ldk hh f5)))
  refine ret_ceR 25 7 _ Try.underlying25 (by kernel_rfl) p _ 25 rfl rfl rfl hz6 rfl ?_
  exact ⟨rfl, unhide F6⟩
set_option maxHeartbeats 8000000 in
set_option maxRecDepth 100000 in
theorem rgetEntry_ne (w : World) (v : Value) (l : List UInt8) (h : Rd w v l) (hl : l.length = 384) (hb : gm l 2 ≤ 336) (hs : cbB (gl l 0) (gl l 1) (gl l 2) (gl l 3) (gm l 0) (gm l 1) (gq l) = true) (hq : enB (gl l 0) (gl l 1) (gl l 2) (gl l 3) (gm l 0) (gm l 1) (gq l) (gP l) ≠ l) : Calls Try.prog 22 #[v] w fun e w' => e = .returned (.tuple #[.agg #[.int .u64 0, .int .u64 0, .int .u64 0, .int .u64 0, .int .i64 0, .int .i64 0, .slice none 0 0], .int .i64 81]) ∧ Fr (fun _ => False) w w' := by
  obtain ⟨ao, cap, rfl⟩ := h.shape
  obtain ⟨B0, o0, rfl, -, hnc, hcm, hcell⟩ := h.lits (by omega)
  have hB0 : B0 < w.heap.size := World.block_lt_of_cell? w _ (hcell 0 (by omega))
  rw [hl] at h hnc ⊢
  have HL := hide hl
  have HR := hide h
  have H60 := hide (fun W (f : Fr (fun _ => False) w W) => rnumber_any W B0 o0 384 cap l 40 2 2 40 rfl rfl hl.symm hnc hcm (by decide) (by decide) (by decide) (fun j hj => by rw [f.cell hB0 id]; exact hcell j hj))
  have e40 : nb l 40 2 = gm l 2 := (gm_nb l 2 (by omega)).symm
  rw [e40] at H60
  have e2 : IntKind.i64.wrap (gm l 2 : Int) = (gm l 2 : Int) := by have := gm_lt l 2; simp [IntKind.wrap, IntKind.signed, IntKind.bits]; omega
  have hgq : gq l = gm l 2 := by unfold gq; omega
  rw [← hgq] at e2 H60
  have HQ3 := hide (show gq l ≤ 336 by omega)
  have hq3 : gq l ≤ 336 := unhide HQ3
  have HS := hide hs
  have HCM := hide hcm
  have HNC := hide hnc
  have HB0 := hide hB0
  have HC0 := hide hcell
  clear h hl hs hcm hcell hB0 hb hgq e40 hnc
  have HQ := hide hq
  clear hq
  have FA : Hid (Fr (fun _ => False) w (w.alloc (.cells #[.int .u64 0, .int .u64 0, .int .u64 0, .int .u64 0, .int .i64 0, .int .i64 0, .slice none 0 0] 25))) := hide ((Fr.refl _ _).alloc _)
  have HZ3 := hide (heap_alloc_new w (.cells #[.int .u64 0, .int .u64 0, .int .u64 0, .int .u64 0, .int .i64 0, .int .i64 0, .slice none 0 0] 25))
  go_enter Try.func22, Try.ntmps22
  go_upto_region 6 with (go_at_call 60; refine (unhide H60 _ ((Fr.refl _ _).alloc _)).mono ?_; rintro e w' ⟨rfl, rfl⟩)
  refine wp_world ?_
  intro w3 hw3
  rw [← hw3] at HZ3 FA
  clear hw3 e2 H60
  have hw3 : w.heap.size ≤ w3.heap.size := (unhide FA).size
  refine gr6 (q := gq l) (L := gP l) (unhide HL) (fun j hj => by rw [(unhide FA).cell (a := ⟨B0, o0 + j, none⟩) (unhide HB0) id]; exact unhide HC0 j hj) (Nat.lt_of_lt_of_le (unhide HB0) hw3) (by rw [Nat.add_sub_cancel_left]; exact ((unhide HR).kept (unhide FA) (fun _ _ h => h)).mid2 48 (gq l) (by have := unhide HQ3; have := unhide HL; omega) (by have := unhide HL; omega) (cap - 48) rfl (o0 + 48) rfl) (by rw [gP_length (unhide HL)]; omega) (by rw [← gm_nb l 0 (by omega)]; exact gm_lt l 0) (by rw [← gm_nb l 1 (by omega)]; exact gm_lt l 1) hq3 (unhide HNC) (unhide HCM) ?_
  intro y18 y19 y20 y21 y22 y23 y24 y25 y26 y27 y28 y29 y30 y31 y32 y33 y34 y35 y36 y37 y38 b u w4 f4 hb hh ho
  rw [← gl_nb l 0 (by omega), ← gl_nb l 1 (by omega), ← gl_nb l 2 (by omega), ← gl_nb l 3 (by omega), ← gm_nb l 0 (by omega), ← gm_nb l 1 (by omega)] at hh
  have hz4 := (f4.block _ (lt_of_heap (unhide HZ3)) id).trans (unhide HZ3)
  have F4 := hide ((unhide FA).trans f4 (fun _ _ h => h))
  have HO := hide (ho.mono hw3)
  obtain ⟨ao, kk, rfl⟩ := ho.shape
  rw [gP_length (unhide HL)] at hh HO ho
  have HRD := hide ho.rd
  have hpw : w.heap.size < b := Nat.lt_of_lt_of_le (lt_of_heap (unhide HZ3)) hb
  clear f4 hb ho FA HZ3 hw3
  generalize hp : w.heap.size = p at *
  go_wp2_with (first | (refine wl_loadR 25 7 _ Try.underlying25 (by kernel_rfl) (.tmp 5) rfl rfl b rfl _ 25 hh rfl ?_) | (refine wl_storeR 25 7 (by kernel_rfl) _ _ rfl rfl p rfl _ rfl _ 25 hz5 rfl rfl (by simp [Value.oneCell']) ?_; intro w6 hw6; have hz6 := setRow_at hz5 #[.int .u64 0, .int .u64 0, .int .u64 0, .int .u64 0, .int .i64 0, .int .i64 0, .slice none 0 0]; rw [← hw6] at hz6; have F6 := hide ((unhide F5).trans (hw6 ▸ Fr.setRow_one w5 _ rfl : Fr (fun k => k = p) w5 w6) (fun k hk e => by omega));  clear hw6) | (go_at_call 12; refine (rputEntry_ok w4 _ _ _ _ _ _ _ _ _ (gP l) (unhide HRD) (gP_length (unhide HL)).symm (unhide HS)).mono ?_; rintro e w5 ⟨v4, rfl, hv4⟩; have f5 := hv4.fr; have hz5 := (f5.block _ (lt_of_heap hz4) id).trans hz4; have F5 := hide ((unhide F4).trans f5 (fun _ _ h => h)); have LD5 := hide (ldk hh f5); have hle := enB_length (b := gl l 0) (s := gl l 1) (p := gl l 2) (l := gl l 3) (pt := gm l 0) (ps := gm l 1) (n := gq l) (L := gP l) (by rw [gP_length (unhide HL)]; exact unhide HQ3); obtain ⟨a4, c4, rfl⟩ := hv4.shape; have k1 := conv_rd (P := Try.prog) hv4.rd 23 9 5 Try.underlying23 Try.underlying5 Try.underlying9; rw [hle] at k1; have HR4 := hide ((unhide HR).kept (unhide F5) (fun _ _ h => h)); have k2 := conv_rd (P := Try.prog) (unhide HR4) 23 9 5 Try.underlying23 Try.underlying5 Try.underlying9; rw [hle]; have he : ((str (enB (gl l 0) (gl l 1) (gl l 2) (gl l 3) (gm l 0) (gm l 1) (gq l) (gP l))).toList == (str l).toList) = false := (str_eq _ _).trans (decide_eq_false (unhide HQ)); have HO5 := hide ((unhide HO).kept f5); clear hv4 f5 hle) | (refine wl_loadR 25 7 _ Try.underlying25 (by kernel_rfl) (.tmp 5) rfl rfl b rfl _ 25 (unhide LD5) rfl ?_))
  refine ret_ceR 25 7 _ Try.underlying25 (by kernel_rfl) p _ 25 rfl rfl rfl hz6 rfl ?_
  exact ⟨rfl, unhide F6⟩
set_option maxHeartbeats 8000000 in
set_option maxRecDepth 100000 in
theorem rgetEntry_ok (w : World) (v : Value) (l : List UInt8) (h : Rd w v l) (hl : l.length = 384) (hb : gm l 2 ≤ 336) (hs : cbB (gl l 0) (gl l 1) (gl l 2) (gl l 3) (gm l 0) (gm l 1) (gq l) = true) (hq : enB (gl l 0) (gl l 1) (gl l 2) (gl l 3) (gm l 0) (gm l 1) (gq l) (gP l) = l) : Calls Try.prog 22 #[v] w fun e w' => ∃ u, e = .returned (.tuple #[.agg #[.int .u64 (gl l 0 : Int), .int .u64 (gl l 1 : Int), .int .u64 (gl l 2 : Int), .int .u64 (gl l 3 : Int), .int .i64 (gm l 0 : Int), .int .i64 (gm l 1 : Int), u], .int .i64 0]) ∧ Ob w.heap.size w' u (gP l) ∧ Fr (fun _ => False) w w' := by
  obtain ⟨ao, cap, rfl⟩ := h.shape
  obtain ⟨B0, o0, rfl, -, hnc, hcm, hcell⟩ := h.lits (by omega)
  have hB0 : B0 < w.heap.size := World.block_lt_of_cell? w _ (hcell 0 (by omega))
  rw [hl] at h hnc ⊢
  have HL := hide hl
  have HR := hide h
  have H60 := hide (fun W (f : Fr (fun _ => False) w W) => rnumber_any W B0 o0 384 cap l 40 2 2 40 rfl rfl hl.symm hnc hcm (by decide) (by decide) (by decide) (fun j hj => by rw [f.cell hB0 id]; exact hcell j hj))
  have e40 : nb l 40 2 = gm l 2 := (gm_nb l 2 (by omega)).symm
  rw [e40] at H60
  have e2 : IntKind.i64.wrap (gm l 2 : Int) = (gm l 2 : Int) := by have := gm_lt l 2; simp [IntKind.wrap, IntKind.signed, IntKind.bits]; omega
  have hgq : gq l = gm l 2 := by unfold gq; omega
  rw [← hgq] at e2 H60
  have HQ3 := hide (show gq l ≤ 336 by omega)
  have hq3 : gq l ≤ 336 := unhide HQ3
  have HS := hide hs
  have HCM := hide hcm
  have HNC := hide hnc
  have HB0 := hide hB0
  have HC0 := hide hcell
  clear h hl hs hcm hcell hB0 hb hgq e40 hnc
  have HQ := hide hq
  clear hq
  have FA : Hid (Fr (fun _ => False) w (w.alloc (.cells #[.int .u64 0, .int .u64 0, .int .u64 0, .int .u64 0, .int .i64 0, .int .i64 0, .slice none 0 0] 25))) := hide ((Fr.refl _ _).alloc _)
  have HZ3 := hide (heap_alloc_new w (.cells #[.int .u64 0, .int .u64 0, .int .u64 0, .int .u64 0, .int .i64 0, .int .i64 0, .slice none 0 0] 25))
  go_enter Try.func22, Try.ntmps22
  go_upto_region 6 with (go_at_call 60; refine (unhide H60 _ ((Fr.refl _ _).alloc _)).mono ?_; rintro e w' ⟨rfl, rfl⟩)
  refine wp_world ?_
  intro w3 hw3
  rw [← hw3] at HZ3 FA
  clear hw3 e2 H60
  have hw3 : w.heap.size ≤ w3.heap.size := (unhide FA).size
  refine gr6 (q := gq l) (L := gP l) (unhide HL) (fun j hj => by rw [(unhide FA).cell (a := ⟨B0, o0 + j, none⟩) (unhide HB0) id]; exact unhide HC0 j hj) (Nat.lt_of_lt_of_le (unhide HB0) hw3) (by rw [Nat.add_sub_cancel_left]; exact ((unhide HR).kept (unhide FA) (fun _ _ h => h)).mid2 48 (gq l) (by have := unhide HQ3; have := unhide HL; omega) (by have := unhide HL; omega) (cap - 48) rfl (o0 + 48) rfl) (by rw [gP_length (unhide HL)]; omega) (by rw [← gm_nb l 0 (by omega)]; exact gm_lt l 0) (by rw [← gm_nb l 1 (by omega)]; exact gm_lt l 1) hq3 (unhide HNC) (unhide HCM) ?_
  intro y18 y19 y20 y21 y22 y23 y24 y25 y26 y27 y28 y29 y30 y31 y32 y33 y34 y35 y36 y37 y38 b u w4 f4 hb hh ho
  rw [← gl_nb l 0 (by omega), ← gl_nb l 1 (by omega), ← gl_nb l 2 (by omega), ← gl_nb l 3 (by omega), ← gm_nb l 0 (by omega), ← gm_nb l 1 (by omega)] at hh
  have hz4 := (f4.block _ (lt_of_heap (unhide HZ3)) id).trans (unhide HZ3)
  have F4 := hide ((unhide FA).trans f4 (fun _ _ h => h))
  have HO := hide (ho.mono hw3)
  obtain ⟨ao, kk, rfl⟩ := ho.shape
  rw [gP_length (unhide HL)] at hh HO ho
  have HRD := hide ho.rd
  have hpw : w.heap.size < b := Nat.lt_of_lt_of_le (lt_of_heap (unhide HZ3)) hb
  clear f4 hb ho FA HZ3 hw3
  generalize hp : w.heap.size = p at *
  go_wp2_with (first | (refine wl_loadR 25 7 _ Try.underlying25 (by kernel_rfl) (.tmp 5) rfl rfl b rfl _ 25 hh rfl ?_) | (refine wl_storeR 25 7 (by kernel_rfl) _ _ rfl rfl p rfl _ rfl _ 25 hz5 rfl rfl (by simp [Value.oneCell']) ?_; intro w6 hw6; have hz6 := setRow_at hz5 #[.int .u64 (gl l 0 : Int), .int .u64 (gl l 1 : Int), .int .u64 (gl l 2 : Int), .int .u64 (gl l 3 : Int), .int .i64 (gm l 0 : Int), .int .i64 (gm l 1 : Int), .slice ao (gq l) kk]; rw [← hw6] at hz6; have F6 := hide ((unhide F5).trans (hw6 ▸ Fr.setRow_one w5 _ rfl : Fr (fun k => k = p) w5 w6) (fun k hk e => by omega)); have HO6 := hide ((unhide HO5).keep (hw6 ▸ RB.setRow (N := p) (Nat.le_refl _) (Sh.of hz5 rfl) rfl (by decide) : RB p w5 w6)); clear hw6) | (go_at_call 12; refine (rputEntry_ok w4 _ _ _ _ _ _ _ _ _ (gP l) (unhide HRD) (gP_length (unhide HL)).symm (unhide HS)).mono ?_; rintro e w5 ⟨v4, rfl, hv4⟩; rw [unhide HQ] at hv4; have f5 := hv4.fr; have hz5 := (f5.block _ (lt_of_heap hz4) id).trans hz4; have F5 := hide ((unhide F4).trans f5 (fun _ _ h => h)); have LD5 := hide (ldk hh f5); have hle := unhide HL; obtain ⟨a4, c4, rfl⟩ := hv4.shape; have k1 := conv_rd (P := Try.prog) hv4.rd 23 9 5 Try.underlying23 Try.underlying5 Try.underlying9; rw [hle] at k1; have HR4 := hide ((unhide HR).kept (unhide F5) (fun _ _ h => h)); have k2 := conv_rd (P := Try.prog) (unhide HR4) 23 9 5 Try.underlying23 Try.underlying5 Try.underlying9; rw [hle]; have HO5 := hide ((unhide HO).kept f5); clear hv4 f5 hle) | (refine wl_loadR 25 7 _ Try.underlying25 (by kernel_rfl) (.tmp 5) rfl rfl b rfl _ 25 (unhide LD5) rfl ?_))
  refine ret_ceR 25 7 _ Try.underlying25 (by kernel_rfl) p _ 25 rfl rfl rfl hz6 rfl ?_
  exact ⟨_, rfl, by rw [hp]; exact unhide HO6, unhide F6⟩
set_option maxHeartbeats 8000000 in
set_option maxRecDepth 100000 in
theorem rgetEntry_any (w : World) (v : Value) (l : List UInt8) (h : Rd w v l) : Calls Try.prog 22 #[v] w fun e w' => ∃ u, e = .returned (.tuple #[.agg ((enR l).c u), .int .i64 (enC l)]) ∧ Ob w.heap.size w' u (enR l).L ∧ Fr (fun _ => False) w w' := by
  have hno : enG l = none → ∀ (e : Ending) (w' : World), (e = .returned (.tuple #[.agg #[.int .u64 0, .int .u64 0, .int .u64 0, .int .u64 0, .int .i64 0, .int .i64 0, .slice none 0 0], .int .i64 81]) ∧ Fr (fun _ => False) w w') → ∃ u, e = .returned (.tuple #[.agg ((enR l).c u), .int .i64 (enC l)]) ∧ Ob w.heap.size w' u (enR l).L ∧ Fr (fun _ => False) w w' := fun hg e w' h => by
    have e1 : enR l = en0 := by unfold enR; rw [hg]; rfl
    have e2 : enC l = 81 := by unfold enC; rw [hg]
    rw [e1, e2]
    exact ⟨.slice none 0 0, h.1, ob_nil _ _, h.2⟩
  by_cases hl : l.length = 384
  case neg => exact (rgetEntry_len w v l h hl).mono (hno (by unfold enG; rw [if_neg (fun c => hl c.1)]))
  by_cases hb : gm l 2 ≤ 336
  case neg =>
    refine (rgetEntry_big w v l h hl (by omega)).mono (hno ?_)
    unfold enG
    rw [if_neg]
    rintro ⟨-, h2, h3⟩
    have h4 := (gl_enB (gl l 0) (gl l 1) (gl l 2) (gl l 3) (gm l 0) (gm l 1) (gq l) (gP l)).2.2.2.2.2.2
    rw [h3, v2 (by unfold gq; omega)] at h4
    unfold gq at h4
    omega
  rcases hs : cbB (gl l 0) (gl l 1) (gl l 2) (gl l 3) (gm l 0) (gm l 1) (gq l) with _ | _
  · exact (rgetEntry_no w v l h hl hb hs).mono (hno (by unfold enG; rw [if_neg (fun c => by rw [hs] at c; simp at c)]))
  by_cases hq : enB (gl l 0) (gl l 1) (gl l 2) (gl l 3) (gm l 0) (gm l 1) (gq l) (gP l) = l
  case neg => exact (rgetEntry_ne w v l h hl hb hs hq).mono (hno (by unfold enG; rw [if_neg (fun c => hq c.2.2)]))
  have hg : enG l = some ⟨gl l 0, gl l 1, gl l 2, gl l 3, gm l 0, gm l 1, gP l⟩ := by unfold enG; rw [if_pos ⟨hl, hs, hq⟩]
  have e1 : enR l = ⟨gl l 0, gl l 1, gl l 2, gl l 3, gm l 0, gm l 1, gP l⟩ := by unfold enR; rw [hg]; rfl
  have e2 : enC l = 0 := by unfold enC; rw [hg]
  rw [e1, e2]
  exact rgetEntry_ok w v l h hl hb hs hq
end Go.Proofs.Ytgodlfoidjeekaa

namespace Go.Proofs.Ytgodlfoidjeekaa
set_option linter.unusedVariables false
set_option linter.unusedSimpArgs false
open Go.RowKit
set_option linter.unusedVariables false
set_option linter.unusedSimpArgs false

attribute [local go_sem ↓] Go.wp_at_zero Go.wp_at_succ

theorem PO.push {M : Nat} {w w2 : World} {lv x v2 : Value} {qs : List (Int × List UInt8)} {z : Int} {d : List UInt8} {ts : List (Int × Value × List UInt8)} (p1 : ts.map (fun t => (t.1, t.2.2)) = qs) (p2 : w.ownsRow M 94 2 lv qs.length (pc ts)) (p3 : ∀ t ∈ ts, Ob M w t.2.1 t.2.2) (hO : Ob M w x d) (ho2 : w2.ownsRow 0 94 2 v2 (qs.length + 1) (pc ts ++ [.int .i64 z, x])) (f2 : Fr (fun k => lv.ownBlock = some k) w w2) (hn : ∀ b, v2.ownBlock = some b → lv.ownBlock = some b ∨ M ≤ b) : PO M w2 v2 (qs ++ [(z, d)]) := by
  have ht : ∀ (v : Value) (l : List UInt8), Ob M w v l → Ob M w2 v l := fun v l h => ob_keptS h f2 (fun b hb e => by
    obtain ⟨-, -, cs, hb1⟩ := own_ge h b hb
    obtain ⟨-, -, cs2, hb2⟩ := own_ge p2 b e
    rw [hb1] at hb2
    simp at hb2)
  refine ⟨ts ++ [(z, x, d)], by rw [List.map_append, p1]; rfl, ?_, fun t ht' => ?_⟩
  · rw [pc_more, List.length_append]
    exact own_low ho2 (fun b hb => by
      rcases hn b hb with e | e
      · exact (own_ge p2 b e).1
      · exact e)
  · rcases List.mem_append.1 ht' with e | e
    · exact ht _ _ (p3 t e)
    · simp at e; subst e; exact ht _ _ hO
/-- What the document's GetTx tells. -/
def Gr (l : List UInt8) (w : World) (r : Value) (c : Int) (w' : World) : Prop := Fr (fun _ => False) w w' ∧ (if gtB l = true then c = 0 ∧ PO w.heap.size w' r (gtL l) else c = 82 ∧ r = .slice none 0 0)
theorem gtN_nb (l : List UInt8) : nb l 0 4 = gtN l := by unfold nb gtN; rw [List.drop_zero]
theorem gtZ_nb (l : List UInt8) (i : Nat) : nb l (4 + i * 388) 4 = gtZ l i := by unfold nb gtZ gtP; rw [List.take_take]; rfl
theorem gtP_drop (l : List UInt8) (i : Nat) : ((l.drop (4 + i * 388 + 4)).take 384) = (gtP l i).drop 4 := by unfold gtP; rw [List.drop_take, List.drop_drop]
set_option maxHeartbeats 4000000 in
set_option maxRecDepth 100000 in
theorem rgetTx_any (w : World) (v : Value) (l : List UInt8) (h : Rd w v l) : Calls Try.prog 26 #[v] w fun e w' => ∃ r c, e = .returned (.tuple #[r, .int .i64 c]) ∧ Gr l w r c w' := by
  obtain ⟨ao, cap, rfl⟩ := h.shape
  have hno : gtB l = false → ∀ w', Fr (fun _ => False) w w' → Gr l w (.slice none 0 0) 82 w' := fun hb w' f => ⟨f, by rw [if_neg (by simp [hb])]; exact ⟨rfl, rfl⟩⟩
  by_cases h4 : l.length < 4
  · have hb : gtB l = false := by unfold gtB; rw [decide_eq_false (by omega)]; rfl
    have HB := hide (hno hb)
    have q1 : (l.length : Int) < 4 := by omega
    generalize l.length = n at *
    clear h hno hb
    go_enter Try.func26, Try.ntmps26
    go_wp2_with fail
    go_ret2
    exact ⟨_, _, rfl, unhide HB _ (Fr.refl _ _)⟩
  have HR := hide h
  obtain ⟨B0, o0, rfl, -, hnc, hcm, hcell⟩ := h.lits (by omega)
  have hB0 : B0 < w.heap.size := World.block_lt_of_cell? w _ (hcell 0 (by omega))
  have H60 := hide (fun W (f : Fr (fun _ => False) w W) (p : Nat) (pz : Int) (hp : pz = (p : Int)) (h1 : p + 4 ≤ l.length) (h2 : p ≤ 100000) => rnumber_any W B0 o0 l.length cap l p 4 4 pz rfl hp rfl hnc hcm h1 h2 (by decide) (fun j hj => by rw [f.cell hB0 id]; exact hcell j hj))
  have H0 := hide (rnumber_any w B0 o0 l.length cap l 0 4 4 0 rfl rfl rfl hnc hcm (by omega) (by decide) (by decide) hcell)
  rw [gtN_nb] at H0
  have HNC := hide hnc
  have HCM := hide hcm
  have HNO := hide hno
  have q1 : ¬ (l.length : Int) < 4 := by omega
  clear h hnc hcm hcell hno
  have hN := gtN_lt l
  obtain ⟨n, hn⟩ : ∃ n, n = gtN l := ⟨_, rfl⟩
  rw [← hn] at hN H0
  by_cases h64 : 64 < n
  · have hb : gtB l = false := by unfold gtB; rw [← hn]; simp [ctB]; omega
    have HB := hide (unhide HNO hb)
    have q2 : (64 : Int) < (n : Int) := by omega
    clear HR H60 HNC HCM HNO hb hB0
    go_enter Try.func26, Try.ntmps26
    go_wp2_with (go_at_call 60; refine (unhide H0).mono ?_; rintro e w' ⟨rfl, rfl⟩)
    go_ret2
    exact ⟨_, _, rfl, unhide HB _ (Fr.refl _ _)⟩
  have q2 : ¬ (64 : Int) < (n : Int) := by omega
  by_cases h1 : n < 1
  · have hb : gtB l = false := by unfold gtB; rw [← hn]; simp [ctB]; omega
    have HB := hide (unhide HNO hb)
    have q3 : (n : Int) < 1 := by omega
    clear HR H60 HNC HCM HNO hb hB0
    go_enter Try.func26, Try.ntmps26
    go_wp2_with (go_at_call 60; refine (unhide H0).mono ?_; rintro e w' ⟨rfl, rfl⟩)
    go_ret2
    exact ⟨_, _, rfl, unhide HB _ (Fr.refl _ _)⟩
  have q3 : ¬ (n : Int) < 1 := by omega
  have k1 : IntKind.i64.wrap (n : Int) = (n : Int) := wrapI n (by omega)
  have k2 : IntKind.i64.wrap (388 * (n : Int)) = ((388 * n : Nat) : Int) := by have := wrapI (388 * n) (by omega); exact_mod_cast this
  have k3 : IntKind.i64.wrap (4 + ((388 * n : Nat) : Int)) = ((4 + 388 * n : Nat) : Int) := by have := wrapI (4 + 388 * n) (by omega); exact_mod_cast this
  by_cases hl : l.length = 4 + 388 * n
  case neg =>
    have hb : gtB l = false := by unfold gtB; rw [← hn, decide_eq_false (show ¬ l.length = 4 + n * 388 by omega)]; simp
    have HB := hide (unhide HNO hb)
    have q4 : ¬ ((l.length : Int) = 4 + 388 * (n : Int)) := by omega
    have q5 : ((l.length : Int) == 4 + 388 * (n : Int)) = false := by simpa using q4
    have q6 : ((l.length : Int) != 4 + 388 * (n : Int)) = true := by simpa using q4
    clear HR H60 HNC HCM HNO hb hB0 hl hn
    generalize l.length = m at *
    go_enter Try.func26, Try.ntmps26
    go_wp2_with (go_at_call 60; refine (unhide H0).mono ?_; rintro e w' ⟨rfl, rfl⟩)
    go_ret2
    exact ⟨_, _, rfl, unhide HB _ (Fr.refl _ _)⟩
  have q4 : (l.length : Int) = ((4 + 388 * n : Nat) : Int) := by omega
  have HL := hide hl
  have HN := hide hn
  have hl9 : l.length = 4 + gtN l * 388 := by omega
  have HL9 := hide hl9
  rw [hl] at HR H0 H60 HNC q1 ⊢
  clear hl hn hl9 q4
  go_enter Try.func26, Try.ntmps26
  go_wp2_with (go_at_call 60; refine (unhide H0).mono ?_; rintro e w' ⟨rfl, rfl⟩)
  go_loopw [4, 5, 6] (fun x y u W => ∃ i : Nat, i ≤ n ∧ y = .int .i64 ((4 + i * 388 : Nat) : Int) ∧ PO w.heap.size W x ((gtL l).take i) ∧ (∀ j, j < i → gtZ l j ≤ 2147483647) ∧ Fr (fun _ => False) w W) (fun _ y _ _ => 4 + 388 * n - (intOf y).toNat)
  case atStart => exact ⟨0, Nat.zero_le _, rfl, PO.nil _ _, fun j h => by omega, Fr.refl _ _⟩
  case round =>
    obtain ⟨i, hi, rfl, hP, hz, hF⟩ := hrel
    have HP := hide hP
    have HF := hide hF
    have HZ := hide hz
    have hlq : (gtL l).length = n := by rw [gtL_length]; exact (unhide HN).symm
    have hti : ((gtL l).take i).length = i := by rw [List.length_take, hlq]; omega
    obtain ⟨xo, xc, rfl⟩ := hP.shape
    rw [hti] at HP ⊢
    clear hP hF hz
    by_cases hlt : i < n
    · have c1 : ((4 + i * 388 : Nat) : Int) < ((4 + 388 * n : Nat) : Int) := by omega
      have h6 := unhide H60 wr (unhide HF) (4 + i * 388) ((4 + i * 388 : Nat) : Int) rfl (by omega) (by omega)
      rw [gtZ_nb] at h6
      have H6 := hide h6
      have hzl := gtZ_lt l i
      have HG := hide (gtL_get (l := l) (j := i) (by omega))
      obtain ⟨z, hz⟩ : ∃ z, z = gtZ l i := ⟨_, rfl⟩
      rw [← hz] at H6 hzl HG
      clear h6
      by_cases hbig : 2147483647 < z
      · have c2 : (2147483647 : Int) < (z : Int) := by omega
        have hb : gtB l = false := gtB_bad (j := i) (by rw [← unhide HN]; exact hlt) (by omega)
        have HB := hide (unhide HNO hb)
        clear hb HNO HR H60 HNC HCM HP HZ hlq hti hzl HG hz hbig
        go_wp2_with (go_at_call 60; refine (unhide H6).mono ?_; rintro e w' ⟨rfl, rfl⟩)
        go_ret2
        exact ⟨_, _, rfl, unhide HB _ (unhide HF)⟩
      · have c2 : ¬ (2147483647 : Int) < (z : Int) := by omega
        have e0 : IntKind.i64.wrap (z : Int) = (z : Int) := wrapI z (by omega)
        have e1 : IntKind.i64.wrap (((4 + i * 388 : Nat) : Int) + 4) = ((4 + i * 388 + 4 : Nat) : Int) := by have := wrapI (4 + i * 388 + 4) (by omega); exact_mod_cast this
        have e2 : IntKind.i64.wrap (((4 + i * 388 + 4 : Nat) : Int) + 384) = ((4 + i * 388 + 4 + 384 : Nat) : Int) := by have := wrapI (4 + i * 388 + 4 + 384) (by omega); exact_mod_cast this
        have hRD := ((unhide HR).kept (unhide HF) (fun _ _ e => e)).mid (4 + i * 388 + 4) 384 (by have := unhide HL; omega) (by omega) (cap - (4 + i * 388 + 4)) rfl (o0 + (4 + i * 388 + 4)) rfl
        rw [gtP_drop] at hRD
        have hdl : ((gtP l i).drop 4).length = 384 := by rw [List.length_drop, gtP_length (unhide HL9) (by rw [← unhide HN]; exact hlt)]
        have HRD := hide hRD
        have HDL := hide hdl
        have HTK := hide (List.take_succ_eq_append_getElem (show i < (gtL l).length by omega))
        obtain ⟨d, hd⟩ : ∃ d, d = (gtP l i).drop 4 := ⟨_, rfl⟩
        rw [← hd] at HRD HDL HG
        rw [unhide HG] at HTK
        have g1 : 4 + i * 388 + 4 ≤ 4 + i * 388 + 4 + 384 := by omega
        have g2 : 4 + i * 388 + 4 + 384 ≤ cap := by have := unhide HNC; omega
        have HZ9 := hide (show gtZ l i ≤ 2147483647 by omega)
        have hEq : ∀ ao c, Value.slice ao (4 + i * 388 + 4 + 384 - (4 + i * 388 + 4)) c = Value.slice ao 384 c := fun _ _ => by rw [Nat.add_sub_cancel_left]
        clear hRD hdl hd hbig hz hlq HG
        go_wp2_with (first | (go_at_call 60; refine (unhide H6).mono ?_; rintro e w' ⟨rfl, rfl⟩) | (at_builtin; refine wl_cln rfl (.tmp 45) (.tmp 52) rfl rfl (hEq _ _) (unhide HRD) (by rw [unhide HDL]; decide) ?_))
        intro ao c w1 h1
        obtain ⟨ts, p1, p2, p3⟩ := (unhide HP).kept h1.fr
        rw [hti] at p2
        have fA : Fr (fun _ => False) w1 (w1.alloc (.cells #[.int .i64 (z : Int), .slice ao d.length c] 94)) := (Fr.refl _ _).alloc _
        have HO1 := hide (own_low (M := w.heap.size) (N := 0) (own_keptM p2 fA (fun _ _ e => e)) (fun _ _ => Nat.zero_le _))
        have HSR : Hid (Sr (w1.alloc (.cells #[.int .i64 (z : Int), .slice ao d.length c] 94)) 2 (.slice (some ⟨w1.heap.size, 0, none⟩) 1 1) 1 [.int .i64 (z : Int), .slice ao d.length c]) := hide (.inr ⟨_, _, rfl, rfl, cell_new w1 _ 94⟩)
        have HF1 := hide ((unhide HF).trans (h1.fr.trans fA (fun _ _ e => e)) (fun _ _ e => e))
        have HOb : Hid (Ob w.heap.size (w1.alloc (.cells #[.int .i64 (z : Int), .slice ao d.length c] 94)) (.slice ao d.length c) d) := hide (ob_keptS (own_low h1.own (fun b e => by have := h1.new b e; have := (unhide HF).size; omega)) fA (fun _ _ e => e))
        have P1 := hide p1
        have P2 := hide (own_keptM p2 fA (fun _ _ e => e))
        have P3 := hide (fun t ht => ob_keptS (p3 t ht) fA (fun _ _ e => e))
        obtain ⟨inf, hi0, hz0, hz1, hz2⟩ := info_parts Try.info94
        clear h1 p1 p2 p3 HP fA
        go_wp2_with (at_builtin; refine wpList_app rfl (.tmp 42) (.tmp 55) 28 rfl 94 inf _ 2 32 Try.underlying28 hi0 hz0 hz1 hz2 rfl (by decide) (.slice xo i xc) i _ rfl (.slice (some ⟨w1.heap.size, 0, none⟩) 1 1) rfl 1 [.int .i64 (z : Int), .slice ao d.length c] (unhide HO1) (unhide HSR) (fun u hu => by simp at hu; rcases hu with rfl | rfl <;> rfl) (by omega) (by simp only [maxLen]; omega) ?_)
        intro ao4 ac4 w4 o4 g4 p4
        have f4 : Fr (fun k => (Value.slice xo i xc).ownBlock = some k) (w1.alloc (.cells #[.int .i64 (z : Int), .slice ao d.length c] 94)) w4 := (Fr.refl _ _).grown g4 (fun k _ e => e)
        have hsz := (unhide HF1).size
        have hP4 := PO.push (unhide P1) (by rw [hti]; exact unhide P2) (unhide P3) (unhide HOb) (by rw [hti]; exact o4) f4 (fun b hb => by
          rcases p4 with e | ⟨k', e, hk'⟩
          · rw [e] at hb; exact .inl hb
          · rw [e] at hb; simp only [Option.some.injEq] at hb; subst hb; right; simp at hsz; omega)
        rw [← unhide HTK] at hP4
        have HP4 := hide hP4
        have HF4 := hide ((unhide HF1).trans f4 (fun k hk e => by have := ((own_ge (unhide P2)) k e).1; omega))
        have hzi : ∀ j, j < i + 1 → gtZ l j ≤ 2147483647 := fun j hj => by
          rcases Nat.lt_or_ge j i with h | h
          · exact unhide HZ j h
          · obtain rfl : j = i := by omega
            exact unhide HZ9
        have HZI := hide hzi
        clear o4 g4 p4 f4 hP4 hsz HO1 HSR HF1 HOb P1 P2 P3 HTK HZ hzi
        go_wp2_with fail
        go_roundw
        case rel => exact ⟨i + 1, by omega, by go_num, unhide HP4, unhide HZI, unhide HF4⟩
        case measure => simp [intOf]; omega
    · have hin : i = n := by omega
      have e9 : (gtL l).take i = gtL l := List.take_of_length_le (by omega)
      rw [e9] at HP
      have hb : gtB l = true := gtB_of (by rw [← unhide HN]; simp [ctB]; omega) (unhide HL9) (fun j hj => unhide HZ j (by rw [hin, unhide HN]; exact hj))
      have HB := hide hb
      have c1 : ¬ ((4 + i * 388 : Nat) : Int) < ((4 + 388 * n : Nat) : Int) := by omega
      clear e9 hb HNO HR H60 HNC HCM HZ hlq hti hin
      go_wp2_with fail
      go_ret2
      exact ⟨_, _, rfl, unhide HF, by rw [if_pos (unhide HB)]; exact ⟨rfl, unhide HP⟩⟩
end Go.Proofs.Ytgodlfoidjeekaa
