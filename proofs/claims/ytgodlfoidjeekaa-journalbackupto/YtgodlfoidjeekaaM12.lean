/-
  Puts in new memory: Own.
  There and back, plainly: what was laid is read again, and what can be read is laid as it was.
  JournalBack.
  How arguments come in: bytes, puts; and what a bound on their bulk says.
  Parts that came in.
-/
import Derived.Test.YtgodlfoidjeekaaM09
import Derived.Test.YtgodlfoidjeekaaM10
import Derived.Test.YtgodlfoidjeekaaM11
import Derived.Test.YtgodlfoidjeekaaM07
import Derived.Test.YtgodlfoidjeekaaRows
import Derived.ProofKit
import Derived.OpenShut
import Derived.ChangeOld
import Derived.Below
import Derived.Deep.Slices
namespace Go.Proofs.Ytgodlfoidjeekaa
set_option linter.unusedVariables false
set_option linter.unusedSimpArgs false
open Go.RowKit
set_option linter.unusedVariables false
set_option linter.unusedSimpArgs false

attribute [local go_sem ↓] Go.wp_at_zero Go.wp_at_succ

/-- The cells of puts. -/
def pc (ts : List (Int × Value × List UInt8)) : List Value := ts.flatMap fun t => [.int .i64 t.1, t.2.1]
theorem pc_more (ts : List (Int × Value × List UInt8)) (t : Int × Value × List UInt8) : pc (ts ++ [t]) = pc ts ++ [.int .i64 t.1, t.2.1] := by simp [pc]
theorem pc_get (ts : List (Int × Value × List UInt8)) : ∀ j (h : j < ts.length), (pc ts)[j * 2]? = some (.int .i64 (ts[j]).1) ∧ (pc ts)[j * 2 + 1]? = some (ts[j]).2.1 := by
  induction ts with
  | nil => intro j h; simp at h
  | cons a r ih =>
    intro j h
    have e : pc (a :: r) = .int .i64 a.1 :: a.2.1 :: pc r := by simp [pc]
    rw [e]
    cases j with
    | zero => simp
    | succ j =>
      have := ih j (by simpa using h)
      rw [show (j + 1) * 2 = j * 2 + 1 + 1 by omega]
      simpa using this
theorem own_ge {M : Nat} {w : World} {e size : Nat} {v : Value} {n : Nat} {xs : List Value} (h : w.ownsRow M e size v n xs) : ∀ b, v.ownBlock = some b → M ≤ b ∧ b < w.heap.size ∧ ∃ cs, w.heap[b]? = some (.cells cs e (0, 0)) := by
  intro b e
  obtain ⟨h1, h2 | ⟨g, cap, cur, h3, h4, h5, h6⟩⟩ := h
  · rw [h2.1] at e; simp [Value.ownBlock] at e
  · rw [h3] at e
    simp [Value.ownBlock] at e
    subst e
    exact ⟨h4, lt_of_heap h5, _, h5⟩
theorem own_low {M N : Nat} {w : World} {e size : Nat} {v : Value} {n : Nat} {xs : List Value} (h : w.ownsRow M e size v n xs) (hN : ∀ b, v.ownBlock = some b → N ≤ b) : w.ownsRow N e size v n xs := by
  obtain ⟨h1, h2 | ⟨g, cap, cur, h3, h4, h5, h6⟩⟩ := h
  · exact ⟨h1, .inl h2⟩
  · exact ⟨h1, .inr ⟨g, cap, cur, h3, hN g (by rw [h3]; rfl), h5, h6⟩⟩
theorem own_keptM {M : Nat} {w w' : World} {e size : Nat} {v : Value} {n : Nat} {xs : List Value} {S : Nat → Prop} (h : w.ownsRow M e size v n xs) (f : Fr S w w') (hs : ∀ b, v.ownBlock = some b → ¬ S b) : w'.ownsRow M e size v n xs :=
  own_low (owns_kept (own_low h (fun _ _ => Nat.zero_le _)) f hs) (fun b e => (own_ge h b e).1)
theorem pc_length (ts : List (Int × Value × List UInt8)) : (pc ts).length = ts.length * 2 := by
  induction ts with
  | nil => rfl
  | cons a r ih =>
    have e : pc (a :: r) = .int .i64 a.1 :: a.2.1 :: pc r := by simp [pc]
    rw [e, List.length_cons, List.length_cons, List.length_cons, ih]
    omega
/-- Puts in memory of their own, from M on. -/
def PO (M : Nat) (w : World) (v : Value) (ps : List (Int × List UInt8)) : Prop := ∃ ts : List (Int × Value × List UInt8), ts.map (fun t => (t.1, t.2.2)) = ps ∧ w.ownsRow M 94 2 v ps.length (pc ts) ∧ ∀ t ∈ ts, Ob M w t.2.1 t.2.2
theorem PO.nil (M : Nat) (w : World) : PO M w (.slice none 0 0) [] := ⟨[], rfl, World.ownsRow_nil _ _ _ _, fun t h => by simp at h⟩
theorem PO.shape {M : Nat} {w : World} {v : Value} {ps : List (Int × List UInt8)} (h : PO M w v ps) : ∃ ao c, v = .slice ao ps.length c := by
  obtain ⟨ts, -, h, -⟩ := h
  exact owns_shape h
theorem ob_keptS {M : Nat} {w w' : World} {v : Value} {l : List UInt8} {S : Nat → Prop} (h : Ob M w v l) (f : Fr S w w') (hs : ∀ b, v.ownBlock = some b → ¬ S b) : Ob M w' v l := own_keptM h f hs
theorem PO.kept {M : Nat} {w w' : World} {v : Value} {ps : List (Int × List UInt8)} (h : PO M w v ps) (f : Fr (fun _ => False) w w') : PO M w' v ps := by
  obtain ⟨ts, h1, h2, h3⟩ := h
  exact ⟨ts, h1, own_keptM h2 f (fun _ _ e => e), fun t ht => ob_keptS (h3 t ht) f (fun _ _ e => e)⟩
theorem PO.rdp {M : Nat} {w : World} {v : Value} {ps : List (Int × List UInt8)} (h : PO M w v ps) : RdP w v ps := by
  obtain ⟨ts, h1, h2, h3⟩ := h
  rcases id h2.2 with ⟨hv, hn⟩ | ⟨g, cap, cur, rfl, hb, hg, hnc, hcm, hcs, htake⟩
  · exact .inl ⟨⟨none, 0, hv⟩, List.eq_nil_of_length_eq_zero hn⟩
  · refine .inr ⟨g, 0, cap, rfl, hnc, hcm, fun j hj => ?_⟩
    subst h1
    have hj' : j < ts.length := by simpa using hj
    have hl := pc_length ts
    obtain ⟨g1, g2⟩ := pc_get ts j hj'
    have c1 := World.ownsRow.cellAt h2 (j * 2) (by simp; omega)
    have c2 := World.ownsRow.cellAt h2 (j * 2 + 1) (by simp; omega)
    rw [Nat.zero_add]
    refine ⟨?_, (ts[j]).2.1, c2.trans g2, ?_⟩
    · rw [c1, g1]; simp
    · have := Rd.of_owns (h3 _ (List.getElem_mem hj'))
      simpa using this
section
variable {ρ : Operand → Value} {o : Oper} {w : World} {x y : Operand} {ao : Option Addr} {B of n c : Nat}
theorem x_idx28i {i : Nat} (hi : i < n) (ho : o.op = .indexAddr 28 x y) (hx : ρ x = .slice (some ⟨B, of, none⟩) n c) (hy : ρ y = .int .i64 (i : Int)) : (execOp ρ o).run Try.prog w = .ok (.value (.pointer (some ⟨B, of + i * 2, none⟩))) w := by
  obtain ⟨inf, hi0, hz0, hz1, hz2⟩ := info_parts Try.info94
  simp [execOp, ho, hx, hy, go_sem, hi]
theorem fa94_1' (b o : Nat) (W : World) : (Instr.fieldAt 94 (.pointer (some ⟨b, o, none⟩)) 1).run Try.prog W = .ok (.pointer (some ⟨b, o + 1, none⟩)) W := by simp [go_sem]
theorem x_bs230 (ho : o.op = .buildSlice 23 0 #[]) : (execOp ρ o).run Try.prog w = .ok (.value (.slice (some ⟨w.heap.size, 0, none⟩) 0 0)) (w.alloc (.cells #[] 5)) := by
  simp [execOp, ho, go_sem]
theorem x_app23 {a b v : Value} {w2 : World} (ho : o.op = .call { callee := .builtin .append, args := #[x, y], argTypes := #[23, 23] }) (hty : o.type = 23) (hx : ρ x = a) (hy : ρ y = b) (hr : (Builtin.append_ #[23, 23] 23 #[a, b]).run Try.prog w = .ok v w2) : (execOp ρ o).run Try.prog w = .ok (.value v) w2 := by
  simp only [execOp, ho, hty, resolve, invoke, builtin, Sem.run_bind, Sem.run_pure, Result.andThen_ok, List.map_toArray, List.map_cons, List.map_nil, hx, hy, hr]
theorem x_app28 {a b v : Value} {w2 : World} (ho : o.op = .call { callee := .builtin .append, args := #[x, y], argTypes := #[28, 28] }) (hty : o.type = 28) (hx : ρ x = a) (hy : ρ y = b) (hr : (Builtin.append_ #[28, 28] 28 #[a, b]).run Try.prog w = .ok v w2) : (execOp ρ o).run Try.prog w = .ok (.value v) w2 := by
  simp only [execOp, ho, hty, resolve, invoke, builtin, Sem.run_bind, Sem.run_pure, Result.andThen_ok, List.map_toArray, List.map_cons, List.map_nil, hx, hy, hr]
theorem x_build94 {a : Int} {k : Nat} (ho : o.op = .build 94 #[(0, x), (1, y)]) (hx : ρ x = .int .i64 a) (hy : ρ y = .slice ao n k) : (execOp ρ o).run Try.prog w = .ok (.value (.agg #[.int .i64 a, .slice ao n k])) w := by
  simp [execOp, ho, hx, hy, go_sem]
theorem x_bs28 {a : Int} {k : Nat} (ho : o.op = .buildSlice 28 1 #[(0, x)]) (hx : ρ x = .agg #[.int .i64 a, .slice ao n k]) : (execOp ρ o).run Try.prog w = .ok (.value (.slice (some ⟨w.heap.size, 0, none⟩) 1 1)) (w.alloc (.cells #[.int .i64 a, .slice ao n k] 94)) := by
  simp [execOp, ho, hx, go_sem]
end
set_option maxHeartbeats 4000000 in
set_option maxRecDepth 100000 in
theorem go5 {W : World} {B o n cap i M : Nat} {z : Int} {x lv : Value} {d : List UInt8} {qs : List (Int × List UInt8)} {u1 u2 u5 u6 u7 u8 u9 u10 u11 u12 u13 u14 u15 u16 u17 u18 u19 u20 u21 u22 u23 u24 u25 u26 u27 : Value} {Q : Exit → Act → World → Prop} (hi : i < n) (c0 : W.cell? ⟨B, o + i * 2, none⟩ = some (.int .i64 z)) (c1 : W.cell? ⟨B, o + i * 2 + 1, none⟩ = some x) (rx : Rd W x d) (dl : d.length ≤ 100000000) (hp : PO M W lv qs) (ql : qs.length ≤ 100000000) (hm : M ≤ W.heap.size) (hn : lv.ownBlock ≠ some B)
    (hQ : ∀ (y3 y11 y12 y13 y14 y15 y16 y17 y18 y19 y20 y21 y22 y23 y24 y25 y26 : Value) (W' : World), (PO M W' y3 (qs ++ [(z, d)]) ∧ Fr (fun k => lv.ownBlock = some k) W W') → Q .normal ⟨#[.slice (some ⟨B, o, none⟩) n cap, u1, u2, y3, .int .i64 (i : Int), u5, u6, u7, u8, u9, u10, y11, y12, y13, y14, y15, y16, y17, y18, y19, y20, y21, y22, y23, y24, y25, y26, u27], []⟩ W') : (rgF Try.f16 5).wp Try.prog Q ⟨#[.slice (some ⟨B, o, none⟩) n cap, u1, u2, lv, .int .i64 (i : Int), u5, u6, u7, u8, u9, u10, u11, u12, u13, u14, u15, u16, u17, u18, u19, u20, u21, u22, u23, u24, u25, u26, u27], []⟩ W := by
  have HQ := hide hQ
  clear hQ
  have HI := hide hi
  have C0 := hide c0
  have C1 := hide c1
  have RX := hide rx
  have DL := hide dl
  have HP := hide hp
  have QL := hide ql
  have HM := hide hm
  have HN := hide (show ¬ (lv.ownBlock = some B ∨ W.heap.size ≤ B) from fun e => by
    have h1 := World.block_lt_of_cell? W _ c0
    simp at h1
    rcases e with e | e
    · exact hn e
    · omega)
  clear hi c0 c1 rx dl hp ql hm hn
  conv => arg 2; whnf
  refine wp_nameK ?_
  intro a0 hA
  have h0 : a0.tmps.getD 0 undef = .slice (some ⟨B, o, none⟩) n cap := by rw [hA]; rfl
  have h3 : a0.tmps.getD 3 undef = lv := by rw [hA]; rfl
  have h4 : a0.tmps.getD 4 undef = .int .i64 (i : Int) := by rw [hA]; rfl
  have hsz : a0.tmps.size = 28 := by rw [hA]; rfl
  have hdf : a0.defers = [] := by rw [hA]
  have HA0 := hide hA
  clear hA
  refine wp_region_kinds4 (fun k => lv.ownBlock = some k ∨ W.heap.size ≤ k) (by kernel_rfl) (by kernel_rfl) (by decide +kernel) (by rw [hsz]; decide +kernel) [.eq (lv), .eq (.slice (some ⟨B, o, none⟩) n cap), .eq (.int .i64 (i : Int)), .eq (.pointer (some ⟨B, o + i * 2, none⟩)), .eq (.pointer (some ⟨B, o + i * 2, none⟩)), .eq (.int .i64 z), .st 0 (fun v w => ∃ b, v = .slice (some ⟨b, 0, none⟩) 0 0 ∧ W.heap.size ≤ b ∧ w.heap[b]? = some (.cells #[] 5 (0, 0))) (fun v w1 w2 h f => by obtain ⟨b, e, g, h⟩ := h; exact ⟨b, e, g, (f.block b (lt_of_heap h) id).trans h⟩), .eq (.slice (some ⟨B, o, none⟩) n cap), .eq (.int .i64 (i : Int)), .eq (.pointer (some ⟨B, o + i * 2, none⟩)), .eq (.pointer (some ⟨B, o + i * 2 + 1, none⟩)), .eq (x), .st 1 (fun v w => ∃ ao c, v = .slice ao d.length c ∧ Ob W.heap.size w v d) (fun v w1 w2 h f => by obtain ⟨ao, c, e, h⟩ := h; exact ⟨ao, c, e, ob_keptS h f (fun _ _ e => e)⟩), .st 1 (fun v w => ∃ ao c, v = .agg #[.int .i64 z, .slice ao d.length c] ∧ Ob W.heap.size w (.slice ao d.length c) d) (fun v w1 w2 h f => by obtain ⟨ao, c, e, h⟩ := h; exact ⟨ao, c, e, ob_keptS h f (fun _ _ e => e)⟩), .st 1 (fun v w => ∃ b ao c, v = .slice (some ⟨b, 0, none⟩) 1 1 ∧ w.heap[b]? = some (.cells #[.int .i64 z, .slice ao d.length c] 94 (0, 0)) ∧ Ob W.heap.size w (.slice ao d.length c) d) (fun v w1 w2 h f => by obtain ⟨b, ao, c, e, g, h⟩ := h; exact ⟨b, ao, c, e, (f.block b (lt_of_heap g) id).trans g, ob_keptS h f (fun _ _ e => e)⟩), .st 2 (fun v w => PO M w v (qs ++ [(z, d)])) (fun v w1 w2 h f => h.kept f), .st 2 (fun v w => PO M w v (qs ++ [(z, d)])) (fun v w1 w2 h f => h.kept f)] [12, 15] (by decide) (by decide) (chain_paths _ [[12]] (by kernel_rfl)) (fun k w => match k with | 0 => Fr (fun _ => False) W w | 1 => Fr (fun _ => False) W w | _ => Fr (fun k => lv.ownBlock = some k) W w) (Fr.refl _ _).drew ?steps ?done
  case steps =>
    refine ⟨?_, ?_⟩
    · intro a' w' k' hb hf hs hc hq hg hd hu
      exact ⟨wantedN rfl, k_val (lv) (by decide) hs (x_move rfl ((hu 16 3 rfl (.inr (waits (by kernel_rfl)))).trans h3)) rfl⟩
    refine ⟨?_, ?_⟩
    · intro a' w' k' hb hf hs hc hq hg hd hu
      exact ⟨wantedN rfl, k_val (.slice (some ⟨B, o, none⟩) n cap) (by decide) hs (x_move rfl ((hb.old 0 (by decide +kernel)).trans h0)) rfl⟩
    refine ⟨?_, ?_⟩
    · intro a' w' k' hb hf hs hc hq hg hd hu
      exact ⟨wantedN rfl, k_val (.int .i64 (i : Int)) (by decide) hs (x_move rfl ((hb.old 4 (by decide +kernel)).trans h4)) rfl⟩
    refine ⟨?_, ?_⟩
    · intro a' w' k' hb hf hs hc hq hg hd hu
      exact ⟨wantedN rfl, k_val (.pointer (some ⟨B, o + i * 2, none⟩)) (by decide) hs (x_idx28i (unhide HI) rfl (hd 1 (by kernel_rfl) 12 rfl) (hd 2 (by kernel_rfl) 13 rfl)) rfl⟩
    refine ⟨?_, ?_⟩
    · intro a' w' k' hb hf hs hc hq hg hd hu
      exact ⟨wantedN rfl, k_val (.pointer (some ⟨B, o + i * 2, none⟩)) (by decide) hs (x_field (of := o + i * 2) (off := 0) (fa94_0 B (o + i * 2)) rfl (hd 3 (by kernel_rfl) 14 rfl)) rfl⟩
    refine ⟨?_, ?_⟩
    · intro a' w' k' hb hf hs hc hq hg hd hu
      exact ⟨wantedN rfl, k_val (.int .i64 z) (by decide) hs (x_load1 ld3 rfl (hd 4 (by kernel_rfl) 15 rfl) ((Fr.cell hf (a := ⟨B, o + i * 2, none⟩) (World.block_lt_of_cell? W _ (unhide C0)) (unhide HN)).trans (unhide C0))) rfl⟩
    refine ⟨?_, ?_⟩
    · intro a' w' k' hb hf hs hc hq hg hd hu
      obtain rfl : k' = 0 := Nat.le_zero.1 (hq 0 12 rfl (waits (by kernel_rfl))); exact ⟨wantedN rfl, k_new _ _ (by decide) (Fr.trans (show Fr (fun _ => False) W w' from hs) ((Fr.refl _ _).alloc _) (fun _ _ e => e)) ((Fr.refl _ _).alloc _) (x_bs230 rfl) ⟨Nat.le_refl _, fun _ => ⟨_, rfl, hf.size, heap_alloc_new w' _⟩⟩⟩
    refine ⟨?_, ?_⟩
    · intro a' w' k' hb hf hs hc hq hg hd hu
      exact ⟨wantedN rfl, k_val (.slice (some ⟨B, o, none⟩) n cap) (by decide) hs (x_move rfl ((hb.old 0 (by decide +kernel)).trans h0)) rfl⟩
    refine ⟨?_, ?_⟩
    · intro a' w' k' hb hf hs hc hq hg hd hu
      exact ⟨wantedN rfl, k_val (.int .i64 (i : Int)) (by decide) hs (x_move rfl ((hb.old 4 (by decide +kernel)).trans h4)) rfl⟩
    refine ⟨?_, ?_⟩
    · intro a' w' k' hb hf hs hc hq hg hd hu
      exact ⟨wantedN rfl, k_val (.pointer (some ⟨B, o + i * 2, none⟩)) (by decide) hs (x_idx28i (unhide HI) rfl (hd 7 (by kernel_rfl) 18 rfl) (hd 8 (by kernel_rfl) 19 rfl)) rfl⟩
    refine ⟨?_, ?_⟩
    · intro a' w' k' hb hf hs hc hq hg hd hu
      exact ⟨wantedN rfl, k_val (.pointer (some ⟨B, o + i * 2 + 1, none⟩)) (by decide) hs (x_field (of := o + i * 2) (off := 1) (fa94_1' B (o + i * 2)) rfl (hd 9 (by kernel_rfl) 20 rfl)) rfl⟩
    refine ⟨?_, ?_⟩
    · intro a' w' k' hb hf hs hc hq hg hd hu
      exact ⟨wantedN rfl, k_val x (by decide) hs (x_load1 ld23 rfl (hd 10 (by kernel_rfl) 21 rfl) ((Fr.cell hf (a := ⟨B, o + i * 2 + 1, none⟩) (World.block_lt_of_cell? W _ (unhide C1)) (unhide HN)).trans (unhide C1))) rfl⟩
    refine ⟨?_, ?_⟩
    · intro a' w' k' hb hf hs hc hq hg hd hu
      obtain rfl := hc 0 rfl
      obtain ⟨-, h9⟩ := (hd 6 (by kernel_rfl) 17 rfl)
      obtain ⟨b9, e9, n9, h9⟩ := h9 rfl
      have hs' : Fr (fun _ => False) W w' := hs
      have o9 : w'.ownsRow 0 5 1 (.slice (some ⟨b9, 0, none⟩) 0 0) 0 [] := ⟨rfl, .inr ⟨b9, 0, #[], rfl, Nat.zero_le _, h9, Nat.le_refl _, Nat.zero_le _, rfl, rfl⟩⟩
      obtain ⟨inf, hi0, hz0, hz1, hz2⟩ := info_parts Try.info5
      obtain ⟨v2, w2, hr2, ho2, hg2, hn2⟩ := run_app (P := Try.prog) w' 23 23 5 inf _ 1 1 Try.underlying23 hi0 hz0 hz1 hz2 rfl (by decide) _ 0 [] o9 x d.length (bvs d) (((unhide RX).kept hs' (fun _ _ e => e)).sr) (bvs_one _) (by have := unhide DL; omega) (by have := unhide DL; simp only [maxLen]; omega)
      simp only [Nat.zero_add, List.nil_append] at ho2
      obtain ⟨ao2, c2, rfl⟩ := owns_shape ho2
      have fg : Fr (fun _ => False) W w2 := hs'.grown hg2 (fun k hk e => by simp [Value.ownBlock] at e; omega)
      have hsz := hs'.size
      exact ⟨wantedN rfl, k_chain _ w2 (by decide) fg ((Fr.refl _ _).grown hg2 (fun k _ e => .inr (by simp [Value.ownBlock] at e; omega))) (x_app23 rfl rfl e9 (hd 11 (by kernel_rfl) 22 rfl) hr2) ⟨Nat.le_refl _, fun _ => ⟨_, _, rfl, own_low ho2 (fun b hb => by
        rcases hn2 with e | e
        · rw [e] at hb; simp [Value.ownBlock] at hb; omega
        · rw [e] at hb; simp at hb; omega)⟩⟩⟩
    refine ⟨?_, ?_⟩
    · intro a' w' k' hb hf hs hc hq hg hd hu
      have k1 := hq 1 15 rfl (waits (by kernel_rfl))
      obtain ⟨l1, h9⟩ := (hd 12 (by kernel_rfl) 23 rfl)
      obtain rfl : k' = 1 := by omega
      obtain ⟨ao, c, e9, h9⟩ := h9 rfl
      rw [e9] at h9
      exact ⟨wantedN rfl, k_val _ (by decide) hs (x_build94 rfl (hd 5 (by kernel_rfl) 16 rfl) e9) ⟨Nat.le_refl _, fun _ => ⟨_, _, rfl, h9⟩⟩⟩
    refine ⟨?_, ?_⟩
    · intro a' w' k' hb hf hs hc hq hg hd hu
      have k1 := hq 1 15 rfl (waits (by kernel_rfl))
      obtain ⟨l1, h9⟩ := (hd 13 (by kernel_rfl) 24 rfl)
      obtain rfl : k' = 1 := by omega
      obtain ⟨ao, c, e9, h9⟩ := h9 rfl
      exact ⟨wantedN rfl, k_new _ _ (by decide) (Fr.trans (show Fr (fun _ => False) W w' from hs) ((Fr.refl _ _).alloc _) (fun _ _ e => e)) ((Fr.refl _ _).alloc _) (x_bs28 rfl e9) ⟨Nat.le_refl _, fun _ => ⟨_, _, _, rfl, heap_alloc_new w' _, ob_keptS h9 ((Fr.refl (fun _ => False) _).alloc _) (fun _ _ e => e)⟩⟩⟩
    refine ⟨?_, ?_⟩
    · intro a' w' k' hb hf hs hc hq hg hd hu
      obtain rfl := hc 1 rfl
      obtain ⟨-, h9⟩ := (hd 14 (by kernel_rfl) 25 rfl)
      obtain ⟨b9, ao, c, e9, h9, o9⟩ := h9 rfl
      have hs' : Fr (fun _ => False) W w' := hs
      obtain ⟨ts, p1, p2, p3⟩ := (unhide HP).kept hs'
      obtain ⟨inf, hi0, hz0, hz1, hz2⟩ := info_parts Try.info94
      have hsr : Sr w' 2 (.slice (some ⟨b9, 0, none⟩) 1 1) 1 [.int .i64 z, .slice ao d.length c] := .inr ⟨_, _, rfl, rfl, fun j u hu => by
        rw [Addr.add_lit, Nat.zero_add, cell_of_heap h9]
        simpa using hu⟩
      obtain ⟨v2, w2, hr2, ho2, hg2, hn2⟩ := run_app (P := Try.prog) w' 28 28 94 inf _ 2 32 Try.underlying28 hi0 hz0 hz1 hz2 rfl (by decide) lv qs.length _ (own_low p2 (fun _ _ => Nat.zero_le _)) _ 1 _ hsr (fun u hu => by simp at hu; rcases hu with rfl | rfl <;> rfl) (by have := unhide QL; omega) (by have := unhide QL; simp only [maxLen]; omega)
      have fg : Fr (fun k => lv.ownBlock = some k) W w2 := (hs'.mono (fun _ _ h => h.elim)).grown hg2 (fun k _ e => e)
      have f2 : Fr (fun k => lv.ownBlock = some k) w' w2 := (Fr.refl _ _).grown hg2 (fun k _ e => e)
      have hsz := hs'.size
      have hM := unhide HM
      have ht : ∀ (v : Value) (l : List UInt8), Ob 0 w' v l → Ob 0 w2 v l := fun v l h => ob_keptS h f2 (fun b hb e => by
        obtain ⟨-, -, cs, hb1⟩ := own_ge h b hb
        obtain ⟨-, -, cs2, hb2⟩ := own_ge p2 b e
        rw [hb1] at hb2
        simp at hb2)
      have hO : Ob M w2 (.slice ao d.length c) d := own_low (ht _ _ (own_low o9 (fun _ _ => Nat.zero_le _))) (fun b hb => by have := (own_ge o9 b hb).1; omega)
      have hP : PO M w2 v2 (qs ++ [(z, d)]) := ⟨ts ++ [(z, .slice ao d.length c, d)], by rw [List.map_append, p1]; rfl, by
        rw [pc_more, List.length_append]
        exact own_low ho2 (fun b hb => by
          rcases hn2 with e | e
          · rw [e] at hb; exact (own_ge p2 b hb).1
          · rw [e] at hb; simp at hb; omega), fun t ht' => by
        rcases List.mem_append.1 ht' with e | e
        · exact own_low (ht _ _ (own_low (p3 t e) (fun _ _ => Nat.zero_le _))) (fun b hb => (own_ge (p3 t e) b hb).1)
        · simp at e; subst e; exact hO⟩
      exact ⟨wantedN rfl, k_chain _ w2 (by decide) fg ((Fr.refl _ _).grown hg2 (fun k _ e => .inl e)) (x_app28 rfl rfl (hd 0 (by kernel_rfl) 11 rfl) e9 hr2) ⟨Nat.le_refl _, fun _ => hP⟩⟩
    refine ⟨?_, ?_⟩
    · intro a' w' k' hb hf hs hc hq hg hd hu
      have hh := (hd 15 (by kernel_rfl) 26 rfl); exact ⟨wantedN rfl, k_val _ (by decide) hs (x_assign rfl rfl) hh⟩
    exact trivial
  case done =>
    intro a' w' hb hf hs hall
    have hslots : Slots a' 0 [.slice (some ⟨B, o, none⟩) n cap, u1, u2, a'.tmps.getD 3 undef, .int .i64 (i : Int), u5, u6, u7, u8, u9, u10, a'.tmps.getD 11 undef, a'.tmps.getD 12 undef, a'.tmps.getD 13 undef, a'.tmps.getD 14 undef, a'.tmps.getD 15 undef, a'.tmps.getD 16 undef, a'.tmps.getD 17 undef, a'.tmps.getD 18 undef, a'.tmps.getD 19 undef, a'.tmps.getD 20 undef, a'.tmps.getD 21 undef, a'.tmps.getD 22 undef, a'.tmps.getD 23 undef, a'.tmps.getD 24 undef, a'.tmps.getD 25 undef, a'.tmps.getD 26 undef, u27] := ⟨(hb.old 0 (by decide +kernel)).trans (by rw [unhide HA0]; rfl), (hb.old 1 (by decide +kernel)).trans (by rw [unhide HA0]; rfl), (hb.old 2 (by decide +kernel)).trans (by rw [unhide HA0]; rfl), rfl, (hb.old 4 (by decide +kernel)).trans (by rw [unhide HA0]; rfl), (hb.old 5 (by decide +kernel)).trans (by rw [unhide HA0]; rfl), (hb.old 6 (by decide +kernel)).trans (by rw [unhide HA0]; rfl), (hb.old 7 (by decide +kernel)).trans (by rw [unhide HA0]; rfl), (hb.old 8 (by decide +kernel)).trans (by rw [unhide HA0]; rfl), (hb.old 9 (by decide +kernel)).trans (by rw [unhide HA0]; rfl), (hb.old 10 (by decide +kernel)).trans (by rw [unhide HA0]; rfl), rfl, rfl, rfl, rfl, rfl, rfl, rfl, rfl, rfl, rfl, rfl, rfl, rfl, rfl, rfl, rfl, (hb.old 27 (by decide +kernel)).trans (by rw [unhide HA0]; rfl), trivial⟩
    have hfr := frame_eq (a := a') (by rw [hb.size, hsz]; rfl) (by rw [hb.defers, hdf]) hslots
    rw [hfr]
    exact unhide HQ (a'.tmps.getD 3 undef) (a'.tmps.getD 11 undef) (a'.tmps.getD 12 undef) (a'.tmps.getD 13 undef) (a'.tmps.getD 14 undef) (a'.tmps.getD 15 undef) (a'.tmps.getD 16 undef) (a'.tmps.getD 17 undef) (a'.tmps.getD 18 undef) (a'.tmps.getD 19 undef) (a'.tmps.getD 20 undef) (a'.tmps.getD 21 undef) (a'.tmps.getD 22 undef) (a'.tmps.getD 23 undef) (a'.tmps.getD 24 undef) (a'.tmps.getD 25 undef) (a'.tmps.getD 26 undef) w' ⟨(hall 16 (by decide) 3 rfl).2 rfl, hs⟩
set_option maxHeartbeats 4000000 in
set_option maxRecDepth 100000 in
theorem own_any (w : World) (v : Value) (ps : List (Int × List UInt8)) (h : RdP w v ps) (hl : ps.length ≤ 100000000) (hd : ∀ p ∈ ps, p.2.length ≤ 100000000) :
    Calls Try.prog 16 #[v] w fun e w' => ∃ r, e = .returned r ∧ PO w.heap.size w' r ps ∧ Fr (fun _ => False) w w' := by
  have HH := hide h
  have HD := hide hd
  obtain ⟨ao, cap, rfl⟩ := h.shape
  clear h hd
  go_enter Try.func16, Try.ntmps16
  go_wp2_with fail
  go_loopw [3, 4] (fun x y W => ∃ i : Nat, i ≤ ps.length ∧ y = .int .i64 (i : Int) ∧ PO w.heap.size W x (ps.take i) ∧ Fr (fun _ => False) w W) (fun _ y _ => ps.length - (intOf y).toNat)
  case atStart => exact ⟨0, Nat.zero_le _, rfl, PO.nil _ _, Fr.refl _ _⟩
  case round =>
    obtain ⟨i, hi, rfl, hP, hF⟩ := hrel
    have HP := hide hP
    have HF := hide hF
    clear hP hF
    by_cases hlt : i < ps.length
    · obtain ⟨B, o, cap', x, y1, q1, c0, c1, r1⟩ := RdP.get (unhide HH) (unhide HF) i hlt
      simp at y1
      obtain ⟨rfl, rfl⟩ := y1
      have C0 := hide c0
      have C1 := hide c1
      have R1 := hide r1
      have HB := hide (show B < w.heap.size by
        obtain ⟨B', o', cap2, x', y2, -, a0, -⟩ := RdP.get (unhide HH) (Fr.refl _ w) i hlt
        simp at y2
        obtain ⟨⟨rfl, rfl⟩, rfl⟩ := y2
        exact World.block_lt_of_cell? w _ a0)
      clear c0 c1 r1 q1
      go_upto_region 5 with fail
      refine go5 (i := i) hlt (unhide C0) (unhide C1) (unhide R1) (unhide HD _ (List.getElem_mem hlt)) (unhide HP) (by simp; omega) (unhide HF).size (fun e => by
        obtain ⟨ts, -, p2, -⟩ := unhide HP
        have := (own_ge p2 B e).1
        have := unhide HB
        omega) ?_
      intros
      rename_i W' hW
      have HP1 := hide hW.1
      have HF1 := hide (Fr.trans (unhide HF) hW.2 (fun b hb e => by
        obtain ⟨ts, -, p2, -⟩ := unhide HP
        have := (own_ge p2 b e).1
        omega))
      have e9 := List.take_succ_eq_append_getElem hlt
      clear hW HP HF C0 C1 R1
      go_wp2_with fail
      go_roundw
      case rel => exact ⟨i + 1, by omega, by go_num, by rw [e9]; exact unhide HP1, unhide HF1⟩
      case measure => simp [intOf]; omega
    · have e9 : ps.take i = ps := List.take_of_length_le (by omega)
      rw [e9] at HP
      go_wp2_with fail
      go_ret
      exact ⟨_, rfl, unhide HP, unhide HF⟩
end Go.Proofs.Ytgodlfoidjeekaa

namespace Go.Proofs.Ytgodlfoidjeekaa
set_option linter.unusedVariables false
set_option linter.unusedSimpArgs false
open Go.RowKit
set_option linter.unusedVariables false
set_option linter.unusedSimpArgs false

theorem be_go (k : Nat) : ∀ n a, (be k n).foldl (fun a (c : UInt8) => a * 256 + c.toNat) a = a * 256 ^ k + n % 256 ^ k := by
  induction k with
  | zero => intro n a; simp [be, Nat.mod_one]
  | succ k ih =>
    intro n a
    show (be k n).foldl _ (a * 256 + (UInt8.ofNat (n / 256 ^ k)).toNat) = _
    rw [ih, UInt8.toNat_ofNat', show (2 : Nat) ^ 8 = 256 from rfl]
    have e : n % 256 ^ (k + 1) = n % 256 ^ k + 256 ^ k * (n / 256 ^ k % 256) := by rw [Nat.pow_succ, Nat.mod_mul]
    rw [e, Nat.pow_succ, Nat.add_mul, Nat.mul_assoc a 256, Nat.mul_comm 256, Nat.mul_comm (n / 256 ^ k % 256), Nat.add_assoc, Nat.add_comm (n % 256 ^ k)]
theorem val_be {k n : Nat} (h : n < 256 ^ k) : val (be k n) = n := by
  unfold val
  rw [be_go, Nat.zero_mul, Nat.zero_add, Nat.mod_eq_of_lt h]
theorem be_mod (k : Nat) : ∀ a m, be k (a * 256 ^ k + m) = be k m := by
  induction k with
  | zero => intro a m; rfl
  | succ k ih =>
    intro a m
    have e : a * 256 ^ (k + 1) = (a * 256) * 256 ^ k := by rw [Nat.pow_succ, Nat.mul_assoc, Nat.mul_comm 256]
    show UInt8.ofNat ((a * 256 ^ (k + 1) + m) / 256 ^ k) :: be k (a * 256 ^ (k + 1) + m) = UInt8.ofNat (m / 256 ^ k) :: be k m
    rw [e, ih]
    congr 1
    rw [Nat.mul_comm, Nat.mul_add_div (Nat.pow_pos (by decide))]
    apply UInt8.toNat_inj.1
    rw [UInt8.toNat_ofNat', UInt8.toNat_ofNat']
    omega
theorem val_cons (c : UInt8) (r : List UInt8) : val (c :: r) = c.toNat * 256 ^ r.length + val r := by
  have h : ∀ (r : List UInt8) a, r.foldl (fun a (c : UInt8) => a * 256 + c.toNat) a = a * 256 ^ r.length + r.foldl (fun a (c : UInt8) => a * 256 + c.toNat) 0 := by
    intro r
    induction r with
    | nil => intro a; simp
    | cons x r ih =>
      intro a
      simp only [List.foldl_cons, List.length_cons, Nat.pow_succ, Nat.zero_mul, Nat.zero_add]
      rw [ih (a * 256 + x.toNat), ih x.toNat, Nat.add_mul, Nat.mul_assoc, Nat.mul_comm 256]
      omega
  unfold val
  rw [List.foldl_cons, Nat.zero_mul, Nat.zero_add, h]
theorem be_val (l : List UInt8) : be l.length (val l) = l := by
  induction l with
  | nil => rfl
  | cons c r ih =>
    have hlt := val_lt r
    rw [val_cons]
    show UInt8.ofNat ((c.toNat * 256 ^ r.length + val r) / 256 ^ r.length) :: be r.length (c.toNat * 256 ^ r.length + val r) = c :: r
    rw [be_mod, ih]
    congr 1
    rw [Nat.mul_comm, Nat.mul_add_div (Nat.pow_pos (by decide)), Nat.div_eq_of_lt hlt, Nat.add_zero]
    exact UInt8.ofNat_toNat
theorem wi_of {l : List Nat} (h : wiB l = true) : ∀ n ∈ l, n ≤ 4611686018427387904 := by
  unfold wiB at h
  rw [List.all_eq_true] at h
  exact fun n hn => of_decide_eq_true (h n hn)
theorem cb_of {b s p l : Nat} {pt ps : Int} {n : Nat} (h : cbB b s p l pt ps n = true) : (b ≤ 4611686018427387904 ∧ s ≤ 4611686018427387904 ∧ p ≤ 4611686018427387904 ∧ l ≤ 4611686018427387904) ∧ (0 ≤ pt ∧ pt < ps ∧ ps ≤ 100) ∧ n ≤ 336 := by
  unfold cbB at h
  simp only [Bool.and_eq_true, decide_eq_true_eq] at h
  obtain ⟨⟨⟨⟨⟨⟨⟨⟨⟨h1, h2⟩, h3⟩, h4⟩, h5⟩, h6⟩, h7⟩, h8⟩, h9⟩, h10⟩ := h
  have hw := wi_of h4
  exact ⟨⟨hw _ (by simp), hw _ (by simp), hw _ (by simp), hw _ (by simp)⟩, ⟨h7, h8, h6⟩, h10⟩
theorem v8 {n : Nat} (h : n ≤ 4611686018427387904) : val (be 8 n) = n := val_be (by simp only [Nat.reducePow]; omega)
theorem v2 {n : Nat} (h : n ≤ 336) : val (be 2 n) = n := val_be (by simp only [Nat.reducePow]; omega)
set_option maxRecDepth 100000 in
theorem gl_enB (b s p l pt ps n : Nat) (L : List UInt8) : gl (enB b s p l pt ps n L) 0 = val (be 8 b) ∧ gl (enB b s p l pt ps n L) 1 = val (be 8 s) ∧ gl (enB b s p l pt ps n L) 2 = val (be 8 p) ∧ gl (enB b s p l pt ps n L) 3 = val (be 8 l) ∧ gm (enB b s p l pt ps n L) 0 = val (be 2 pt) ∧ gm (enB b s p l pt ps n L) 1 = val (be 2 ps) ∧ gm (enB b s p l pt ps n L) 2 = val (be 2 n) :=
  ⟨rfl, rfl, rfl, rfl, rfl, rfl, rfl⟩
set_option maxRecDepth 100000 in
theorem drop_enB (b s p l pt ps n : Nat) (L : List UInt8) : (enB b s p l pt ps n L).drop 48 = L ++ List.replicate (336 - L.length) 0 := rfl
theorem enG_enB {b s p l pt ps : Nat} {L : List UInt8} (h : cbB b s p l pt ps L.length = true) : enG (enB b s p l pt ps L.length L) = some ⟨b, s, p, l, pt, ps, L⟩ := by
  obtain ⟨⟨a1, a2, a3, a4⟩, ⟨b1, b2, b3⟩, c1⟩ := cb_of h
  obtain ⟨g0, g1, g2, g3, m0, m1, m2⟩ := gl_enB b s p l pt ps L.length L
  rw [v8 a1] at g0
  rw [v8 a2] at g1
  rw [v8 a3] at g2
  rw [v8 a4] at g3
  rw [v2 (by omega)] at m0 m1
  rw [v2 c1] at m2
  have q : gq (enB b s p l pt ps L.length L) = L.length := by unfold gq; rw [m2]; omega
  have P : gP (enB b s p l pt ps L.length L) = L := by
    unfold gP
    rw [q, drop_enB, List.take_left']
    rfl
  unfold enG
  rw [g0, g1, g2, g3, m0, m1, q, P, if_pos ⟨enB_length c1, h, rfl⟩]
theorem sb_of {g b p l x y : Nat} (h : sbB g b p l x y = true) : g ≤ 4611686018427387904 ∧ b ≤ 4611686018427387904 ∧ p ≤ 4611686018427387904 ∧ l ≤ 4611686018427387904 ∧ x ≤ 4611686018427387904 ∧ y ≤ 4611686018427387904 := by
  unfold sbB at h
  simp only [Bool.and_eq_true] at h
  have hw := wi_of h.2
  exact ⟨hw _ (by simp), hw _ (by simp), hw _ (by simp), hw _ (by simp), hw _ (by simp), hw _ (by simp)⟩
set_option maxRecDepth 100000 in
theorem sn_suB (g b p l x y : Nat) : sn (suB g b p l x y) 0 = val (be 8 g) ∧ sn (suB g b p l x y) 1 = val (be 8 b) ∧ sn (suB g b p l x y) 2 = val (be 8 p) ∧ sn (suB g b p l x y) 3 = val (be 8 l) ∧ sn (suB g b p l x y) 4 = val (be 8 x) ∧ sn (suB g b p l x y) 5 = val (be 8 y) :=
  ⟨rfl, rfl, rfl, rfl, rfl, rfl⟩
theorem suG_suB {g b p l x y : Nat} (h : sbB g b p l x y = true) : suG (suB g b p l x y) = some ⟨g, b, p, l, x, y⟩ := by
  obtain ⟨a0, a1, a2, a3, a4, a5⟩ := sb_of h
  obtain ⟨g0, g1, g2, g3, g4, g5⟩ := sn_suB g b p l x y
  rw [v8 a0] at g0
  rw [v8 a1] at g1
  rw [v8 a2] at g2
  rw [v8 a3] at g3
  rw [v8 a4] at g4
  rw [v8 a5] at g5
  unfold suG
  rw [g0, g1, g2, g3, g4, g5, if_pos ⟨suB_length _ _ _ _ _ _, h, rfl⟩]
theorem pt_of {ps : List (Int × List UInt8)} (h : ptB ps = true) : (1 ≤ ps.length ∧ ps.length ≤ 64) ∧ ∀ p ∈ ps, 0 ≤ p.1 ∧ p.1 ≤ 2147483647 ∧ p.2.length = 384 := by
  unfold ptB at h
  simp only [Bool.and_eq_true, ctB, decide_eq_true_eq, List.all_eq_true] at h
  obtain ⟨⟨h1, h2⟩, h3⟩ := h
  refine ⟨⟨by omega, by omega⟩, fun p hp => ?_⟩
  have := h3 p hp
  unfold pOk at this
  simp only [Bool.and_eq_true, decide_eq_true_eq] at this
  exact ⟨this.1.1, this.1.2, this.2⟩
theorem pbs_at (ps : List (Int × List UInt8)) : (∀ p ∈ ps, p.2.length = 384) → ∀ j (h : j < ps.length), ((pbs ps).drop (j * 388)).take 388 = be 4 (ps[j]).1.toNat ++ (ps[j]).2 := by
  induction ps with
  | nil => intro _ j h; simp at h
  | cons a r ih =>
    intro hp j h
    have e : pbs (a :: r) = (be 4 a.1.toNat ++ a.2) ++ pbs r := by simp [pbs, lay]
    have hl : (be 4 a.1.toNat ++ a.2).length = 388 := by rw [List.length_append, be_length, hp a (by simp)]
    rw [e]
    cases j with
    | zero =>
      rw [Nat.zero_mul, List.drop_zero]
      exact List.take_left' hl
    | succ j =>
      have := ih (fun p h => hp p (by simp [h])) j (by simpa using h)
      have e2 : ((be 4 a.1.toNat ++ a.2) ++ pbs r).drop ((j + 1) * 388) = (pbs r).drop (j * 388) := by
        rw [show (j + 1) * 388 = (be 4 a.1.toNat ++ a.2).length + j * 388 by rw [hl]; omega, List.drop_length_add_append]
      rw [e2]
      simpa using this
theorem gt_ptL {ps : List (Int × List UInt8)} (h : ptB ps = true) : gtB (ptL ps) = true ∧ gtL (ptL ps) = ps ∧ gtN (ptL ps) = ps.length := by
  obtain ⟨⟨n1, n2⟩, hp⟩ := pt_of h
  have hall : ps.all pOk = true := by
    unfold ptB at h
    simp only [Bool.and_eq_true] at h
    exact h.2
  have e0 : ptL ps = be 4 ps.length ++ pbs ps := by simp [ptL, lay]
  have hN : gtN (ptL ps) = ps.length := by
    unfold gtN
    rw [e0, List.take_left' (be_length _ _)]
    exact val_be (by simp only [Nat.reducePow]; omega)
  have hlen : (ptL ps).length = 4 + ps.length * 388 := by rw [e0, List.length_append, be_length, pbs_length hall]; omega
  have hP : ∀ j (h : j < ps.length), gtP (ptL ps) j = be 4 (ps[j]).1.toNat ++ (ps[j]).2 := fun j hj => by
    unfold gtP
    rw [e0, show 4 + j * 388 = (be 4 ps.length).length + j * 388 by rw [be_length], List.drop_length_add_append]
    exact pbs_at ps (fun p h => (hp p h).2.2) j hj
  have hZ : ∀ j (h : j < ps.length), (gtZ (ptL ps) j : Int) = (ps[j]).1 := fun j hj => by
    unfold gtZ
    obtain ⟨q1, q2, -⟩ := hp _ (List.getElem_mem hj)
    rw [hP j hj, List.take_left' (be_length _ _), val_be (by simp only [Nat.reducePow]; omega)]
    omega
  have hD : ∀ j (h : j < ps.length), (gtP (ptL ps) j).drop 4 = (ps[j]).2 := fun j hj => by
    rw [hP j hj]
    exact List.drop_left' (be_length _ _)
  refine ⟨?_, ?_, hN⟩
  · refine gtB_of (by rw [hN]; simp [ctB]; omega) (by rw [hlen, hN]) (fun i hi => ?_)
    rw [hN] at hi
    have := hZ i hi
    have := (hp _ (List.getElem_mem hi)).2.1
    omega
  · unfold gtL
    rw [hN]
    refine List.ext_getElem (by simp) fun j h1 h2 => ?_
    have h3 : j < ps.length := by simpa using h2
    simp only [List.getElem_map, List.getElem_range]
    rw [hZ j h3, hD j h3]
theorem gt_of {l : List UInt8} (h : gtB l = true) : (1 ≤ gtN l ∧ gtN l ≤ 64) ∧ l.length = 4 + gtN l * 388 ∧ ∀ i, i < gtN l → gtZ l i ≤ 2147483647 := by
  unfold gtB at h
  simp only [Bool.and_eq_true, ctB, decide_eq_true_eq, List.all_eq_true, List.mem_range] at h
  obtain ⟨⟨⟨h1, h2, h3⟩, h4⟩, h5⟩ := h
  exact ⟨⟨by omega, by omega⟩, h4, h5⟩
theorem gtL_length (l : List UInt8) : (gtL l).length = gtN l := by simp [gtL]
theorem gtL_get {l : List UInt8} {j : Nat} (h : j < (gtL l).length) : (gtL l)[j] = ((gtZ l j : Int), (gtP l j).drop 4) := by simp [gtL]
theorem pt_gtL {l : List UInt8} (h : gtB l = true) : ptB (gtL l) = true ∧ ptL (gtL l) = l := by
  obtain ⟨⟨n1, n2⟩, hl, hz⟩ := gt_of h
  have hPl : ∀ j, j < gtN l → (gtP l j).length = 388 := fun j hj => gtP_length hl hj
  have hall : (gtL l).all pOk = true := by
    rw [List.all_eq_true]
    intro p hp
    obtain ⟨j, hj, rfl⟩ := List.getElem_of_mem hp
    have hj' : j < gtN l := by rwa [gtL_length] at hj
    rw [gtL_get]
    unfold pOk
    simp only [Bool.and_eq_true, decide_eq_true_eq]
    refine ⟨⟨by omega, by have := hz j hj'; omega⟩, by rw [List.length_drop, hPl j hj']⟩
  refine ⟨?_, ?_⟩
  · unfold ptB
    rw [hall, gtL_length, Bool.and_true]
    simp [ctB]
    omega
  · have hb : ∀ m, m ≤ gtN l → pbs ((gtL l).take m) = (l.drop 4).take (m * 388) := by
      intro m
      induction m with
      | zero => intro _; simp [pbs]
      | succ m ih =>
        intro hm
        have hm' : m < (gtL l).length := by rw [gtL_length]; omega
        rw [pbs_take hm', ih (by omega), gtL_get]
        have hq := hPl m (by omega)
        have e1 : lay 4 [((gtZ l m : Nat) : Int).toNat] ++ (gtP l m).drop 4 = gtP l m := by
          have e2 : lay 4 [((gtZ l m : Nat) : Int).toNat] = (gtP l m).take 4 := by
            have e3 : ((gtP l m).take 4).length = 4 := by rw [List.length_take, hq]; rfl
            have := be_val ((gtP l m).take 4)
            rw [e3] at this
            simp only [lay, List.flatMap_cons, List.flatMap_nil, List.append_nil, Int.toNat_natCast]
            exact this
          rw [e2, List.take_append_drop]
        show _ ++ (lay 4 [((gtZ l m : Nat) : Int).toNat] ++ (gtP l m).drop 4) = _
        rw [e1]
        unfold gtP
        rw [show (m + 1) * 388 = m * 388 + 388 by omega, List.take_add, List.drop_drop]
    have := hb (gtN l) (Nat.le_refl _)
    rw [List.take_of_length_le (by rw [gtL_length]; omega), List.take_of_length_le (by rw [List.length_drop]; omega)] at this
    unfold ptL
    rw [this, gtL_length]
    have e3 : (l.take 4).length = 4 := by rw [List.length_take]; omega
    have e4 := be_val (l.take 4)
    rw [e3] at e4
    have e5 : lay 4 [gtN l] = l.take 4 := by
      simp only [lay, List.flatMap_cons, List.flatMap_nil, List.append_nil]
      exact e4
    rw [e5, List.take_append_drop]
/-- What was read, as puts. -/
theorem PAt.rdp {M : Nat} {w : World} {G : Nat} {l : List UInt8} (h : PAt M w G (gtN l) (gtN l) l) (hg : gtB l = true) : RdP w (.slice (some ⟨G, 0, none⟩) (gtN l) (gtN l)) (gtL l) := by
  obtain ⟨⟨n1, n2⟩, hl, hz⟩ := gt_of hg
  obtain ⟨cs, h1, h2, h3⟩ := h
  refine .inr ⟨G, 0, gtN l, by rw [gtL_length], by rw [gtL_length]; exact Nat.le_refl _, by simp only [maxLen]; omega, fun j hj => ?_⟩
  have hj' : j < gtN l := by rwa [gtL_length] at hj
  obtain ⟨c0, x, c1, ho⟩ := h3 j hj'
  rw [gtL_get, Nat.zero_add]
  exact ⟨(cell_of_heap h1 _).trans c0, x, (cell_of_heap h1 _).trans c1, ho.rd⟩
end Go.Proofs.Ytgodlfoidjeekaa

namespace Go.Proofs.Ytgodlfoidjeekaa
set_option linter.unusedVariables false
set_option linter.unusedSimpArgs false
open Go.RowKit
set_option linter.unusedVariables false
set_option linter.unusedSimpArgs false

attribute [local go_sem ↓] Go.wp_at_zero Go.wp_at_succ

/-- What follows region n. -/
def sqr (n : Nat) : Code → Option Code
  | .seq (.region id ops d) y => if id = n then some y else sqr n y
  | .seq x y => match sqr n x with
    | some c => some c
    | none => sqr n y
  | .loop c => sqr n c
  | .block _ c => sqr n c
  | .scope c => sqr n c
  | .cond _ x y => match sqr n x with
    | some c => some c
    | none => sqr n y
  | _ => none
noncomputable def sqF (f : Func) (n : Nat) : Code := ((f.body.bind (sqr n)).getD .skip)
/-- What came in: an entry, a superblock, a transaction, bytes, a number. -/
structure Pa where
  b : Nat
  s : Nat
  p : Nat
  l : Nat
  pt : Int
  ps : Int
  L : List UInt8
  g : Nat
  gb : Nat
  gp : Nat
  gl : Nat
  gx : Nat
  gy : Nat
  T : List (Int × List UInt8)
  B : List UInt8
  n : Int
def Pa.vs (x : Pa) (u v z : Value) : List Value := [.int .u64 (x.b : Int), .int .u64 (x.s : Int), .int .u64 (x.p : Int), .int .u64 (x.l : Int), .int .i64 x.pt, .int .i64 x.ps, u, .int .u64 (x.g : Int), .int .u64 (x.gb : Int), .int .u64 (x.gp : Int), .int .u64 (x.gl : Int), .int .u64 (x.gx : Int), .int .u64 (x.gy : Int), v, z, .int .i64 x.n]
structure PaAt (w : World) (k : Nat) (x : Pa) (u v z : Value) : Prop where
  heap : w.heap[k]? = some (.cells (x.vs u v z).toArray 30 (0, 0))
  rL : Rd w u x.L
  rT : RdP w v x.T
  rB : Rd w z x.B
theorem PaAt.kept {w w' : World} {k : Nat} {x : Pa} {u v z : Value} (h : PaAt w k x u v z) (f : Fr (fun _ => False) w w') : PaAt w' k x u v z :=
  ⟨(f.block _ (lt_of_heap h.heap) id).trans h.heap, h.rL.kept f (fun _ _ e => e), rdp_kept h.rT f, h.rB.kept f (fun _ _ e => e)⟩
theorem PaAt.cell {w : World} {k : Nat} {x : Pa} {u v z : Value} (h : PaAt w k x u v z) (j : Nat) : w.cell? ⟨k, j, none⟩ = (x.vs u v z)[j]? := by
  rw [cell_of_heap h.heap]; simp
theorem drew_fr {S : Nat → Prop} (w : World) : Fr S w w.drew := (Fr.refl _ _).drew
structure PaB (x : Pa) : Prop where
  b0 : x.b < 18446744073709551616
  hL : x.L.length ≤ 1048576
  hB : x.B.length ≤ 1048576
  hT : x.T.length ≤ 100000
  hD : ∀ p ∈ x.T, p.2.length ≤ 1048576
set_option maxHeartbeats 4000000 in
set_option maxRecDepth 100000 in
theorem jb18 {w0 W : World} {au av az : Option Addr} {nu nv nz ku kv kz : Nat} {x : Pa} {k : Nat} {u0 u3 u4 u5 u6 u7 u8 u9 u10 u11 u12 u13 u14 u15 u16 u17 u18 u19 u20 u21 u22 u23 u24 u25 u26 u27 u28 u29 u30 u31 u32 u33 u34 u35 u36 u37 u38 u39 u40 u41 u42 u43 u44 u45 u46 u47 u48 u49 u50 u51 u52 u53 u54 u55 u56 u57 u58 u59 u60 u61 u62 u63 u64 u65 u66 u67 u68 u69 u70 u71 u72 u73 u74 u75 u76 u77 u78 u79 u80 u81 u82 u83 u84 u85 u86 u87 u88 u89 u90 u91 u92 u93 u94 u95 u96 u97 u98 u99 u100 u101 u102 u103 u104 u105 u106 u107 u108 u109 u110 u111 u112 u113 u114 u115 u116 u117 u118 u119 u120 u121 u122 u123 u124 u125 u126 u127 u128 u129 u130 u131 u132 u133 u134 u135 : Value} (hP : PaAt W k x (.slice au nu ku) (.slice av nv kv) (.slice az nz kz)) (hX : PaB x) (hF : Fr (fun _ => False) w0 W)  : (rgF Try.f4 18).wp Try.prog (Exit.then ((sqF Try.f4 18).wp Try.prog (bodyPost Try.prog Try.f4 (fun e w9 => e = .returned (.bool true) ∧ Fr (fun _ => False) w0 w9))) (bodyPost Try.prog Try.f4 (fun e w9 => e = .returned (.bool true) ∧ Fr (fun _ => False) w0 w9))) ⟨#[u0, .pointer (some ⟨k, 0, none⟩), .bool false, u3, u4, u5, u6, u7, u8, u9, u10, u11, u12, u13, u14, u15, u16, u17, u18, u19, u20, u21, u22, u23, u24, u25, u26, u27, u28, u29, u30, u31, u32, u33, u34, u35, u36, u37, u38, u39, u40, u41, u42, u43, u44, u45, u46, u47, u48, u49, u50, u51, u52, u53, u54, u55, u56, u57, u58, u59, u60, u61, u62, u63, u64, u65, u66, u67, u68, u69, u70, u71, u72, u73, u74, u75, u76, u77, u78, u79, u80, u81, u82, u83, u84, u85, u86, u87, u88, u89, u90, u91, u92, u93, u94, u95, u96, u97, u98, u99, u100, u101, u102, u103, u104, u105, u106, u107, u108, u109, u110, u111, u112, u113, u114, u115, u116, u117, u118, u119, u120, u121, u122, u123, u124, u125, u126, u127, u128, u129, u130, u131, u132, u133, u134, u135], []⟩ W := by
  have HP := hide hP
  have HX := hide hX
  have HF := hide hF
  clear hP hX hF
  conv => arg 2; whnf
  conv => arg 3; arg 1; arg 2; whnf
  have c14 := ((unhide HP).kept ((Fr.refl (fun _ => False) W).alloc (.cells #[] 5))).cell 14
  simp [Pa.vs] at c14
  have RB := hide (unhide HP).rB
  have HL := hide ((unhide HX).hB)
  have HZ := hide (unhide HP)
  clear HP HX
  go_wp2_with (at_builtin; refine wl_cln rfl (.tmp 109) (.tmp 111) rfl rfl rfl (unhide RB) (unhide HL) ?_)
  intro ao c w1 h1
  have HF1 := hide ((unhide HF).trans h1.fr (fun _ _ e => e))
  have HP1 := hide ((unhide HZ).kept h1.fr)
  have R1 := hide h1.rd
  clear h1 c14 HF HZ RB HL
  by_cases hg : gtB x.B = true
  · obtain ⟨hpt, hpl⟩ := pt_gtL hg
    obtain ⟨⟨n1, n2⟩, -, -⟩ := gt_of hg
    go_wp2_with fail
    refine (getTx_any w1 _ x.B (unhide R1)).mono ?_
    rintro e w2 ⟨r, c2, rfl, hG⟩
    unfold Gt at hG
    rw [if_pos hg] at hG
    obtain ⟨rfl, ⟨G, rfl, hG1, hG2⟩, f2⟩ := hG
    have RP := hide (hG2.rdp hg)
    have HF2 := hide ((unhide HF1).trans f2 (fun _ _ e => e))
    have HP2 := hide ((unhide HP1).kept f2)
    have HPT := hide hpt
    have HPL := hide hpl
    have hln : (gtL x.B).length ≤ 100000 := by rw [gtL_length]; omega
    have HLN := hide hln
    clear hG1 hG2 f2 HF1 HP1 R1 hg hpt hpl n1 n2 hln
    go_wp2_with (go_at_call 18; refine (num_any _ _).mono ?_; rintro e w9 ⟨rfl, rfl⟩)
    refine (putTx_any w2 _ (gtL x.B) (unhide RP) (unhide HLN)).mono ?_
    rintro e w3 ⟨r, c3, rfl, hp⟩
    unfold Pt at hp
    rw [if_pos (unhide HPT), unhide HPL] at hp
    obtain ⟨rfl, hN⟩ := hp
    obtain ⟨ao3, cc3, rfl⟩ := hN.shape
    have k1 := conv_rd (P := Try.prog) hN.rd 23 9 5 Try.underlying23 Try.underlying5 Try.underlying9
    have HP3 := (unhide HP2).kept hN.fr
    have k2 := conv_rd (P := Try.prog) HP3.rB 23 9 5 Try.underlying23 Try.underlying5 Try.underlying9
    have c14 := HP3.cell 14
    simp [Pa.vs] at c14
    have HF := hide ((unhide HF2).trans hN.fr (fun _ _ e => e))
    clear hN HP3 HP2 HF2 RP HPT HPL HLN
    generalize str x.B = sx at *
    go_wp2_with (go_at_call 18; refine (num_any _ _).mono ?_; rintro e w9 ⟨rfl, rfl⟩)
    refine (live_any _).mono ?_
    rintro e w9 ⟨rfl, f9⟩
    go_wp2_with fail
    go_ret
    exact ⟨rfl, (unhide HF).trans f9 (fun _ _ e => e)⟩
  · go_wp2_with fail
    refine (getTx_any w1 _ x.B (unhide R1)).mono ?_
    rintro e w2 ⟨r, c2, rfl, hG⟩
    unfold Gt at hG
    rw [if_neg hg] at hG
    obtain ⟨rfl, rfl, f2⟩ := hG
    have HF := hide ((unhide HF1).trans f2 (fun _ _ e => e))
    clear f2 HF1 HP1 R1 hg
    go_wp2_with (go_at_call 18; refine (num_any _ _).mono ?_; rintro e w9 ⟨rfl, rfl⟩)
    refine (live_any _).mono ?_
    rintro e w9 ⟨rfl, f9⟩
    go_wp2_with fail
    go_ret
    exact ⟨rfl, (unhide HF).trans f9 (fun _ _ e => e)⟩
set_option maxHeartbeats 4000000 in
set_option maxRecDepth 100000 in
theorem jb13 {w0 W : World} {au av az : Option Addr} {nu nv nz ku kv kz : Nat} {x : Pa} {k : Nat} {u0 u3 u4 u5 u6 u7 u8 u9 u10 u11 u12 u13 u14 u15 u16 u17 u18 u19 u20 u21 u22 u23 u24 u25 u26 u27 u28 u29 u30 u31 u32 u33 u34 u35 u36 u37 u38 u39 u40 u41 u42 u43 u44 u45 u46 u47 u48 u49 u50 u51 u52 u53 u54 u55 u56 u57 u58 u59 u60 u61 u62 u63 u64 u65 u66 u67 u68 u69 u70 u71 u72 u73 u74 u75 u76 u77 u78 u79 u80 u81 u82 u83 u84 u85 u86 u87 u88 u89 u90 u91 u92 u93 u94 u95 u96 u97 u98 u99 u100 u101 u102 u103 u104 u105 u106 u107 u108 u109 u110 u111 u112 u113 u114 u115 u116 u117 u118 u119 u120 u121 u122 u123 u124 u125 u126 u127 u128 u129 u130 u131 u132 u133 u134 u135 : Value} (hP : PaAt W k x (.slice au nu ku) (.slice av nv kv) (.slice az nz kz)) (hX : PaB x) (hF : Fr (fun _ => False) w0 W)  : (rgF Try.f4 13).wp Try.prog (Exit.then ((sqF Try.f4 13).wp Try.prog (bodyPost Try.prog Try.f4 (fun e w9 => e = .returned (.bool true) ∧ Fr (fun _ => False) w0 w9))) (bodyPost Try.prog Try.f4 (fun e w9 => e = .returned (.bool true) ∧ Fr (fun _ => False) w0 w9))) ⟨#[u0, .pointer (some ⟨k, 0, none⟩), .bool false, u3, u4, u5, u6, u7, u8, u9, u10, u11, u12, u13, u14, u15, u16, u17, u18, u19, u20, u21, u22, u23, u24, u25, u26, u27, u28, u29, u30, u31, u32, u33, u34, u35, u36, u37, u38, u39, u40, u41, u42, u43, u44, u45, u46, u47, u48, u49, u50, u51, u52, u53, u54, u55, u56, u57, u58, u59, u60, u61, u62, u63, u64, u65, u66, u67, u68, u69, u70, u71, u72, u73, u74, u75, u76, u77, u78, u79, u80, u81, u82, u83, u84, u85, u86, u87, u88, u89, u90, u91, u92, u93, u94, u95, u96, u97, u98, u99, u100, u101, u102, u103, u104, u105, u106, u107, u108, u109, u110, u111, u112, u113, u114, u115, u116, u117, u118, u119, u120, u121, u122, u123, u124, u125, u126, u127, u128, u129, u130, u131, u132, u133, u134, u135], []⟩ W := by
  have HP := hide hP
  have HX := hide hX
  have HF := hide hF
  clear hP hX hF
  conv => arg 2; whnf
  conv => arg 3; arg 1; arg 2; whnf
  have c13 := (unhide HP).cell 13
  simp [Pa.vs] at c13
  go_wp2_with fail
  refine (own_any W _ x.T (unhide HP).rT (by have := (unhide HX).hT; omega) (fun p h => by have := (unhide HX).hD p h; omega)).mono ?_
  rintro e w1 ⟨r, rfl, hO, f1⟩
  obtain ⟨ro, rc, rfl⟩ := hO.shape
  have RO := hide hO.rdp
  have HP1 := hide ((unhide HP).kept f1)
  have HF1 := hide ((unhide HF).trans f1 (fun _ _ e => e))
  clear hO f1 HP HF c13
  go_wp2_with fail
  refine (putTx_any w1 _ x.T (unhide RO) (unhide HX).hT).mono ?_
  rintro e w2 ⟨r, c2, rfl, hp⟩
  unfold Pt at hp
  by_cases hpt : ptB x.T = true
  · rw [if_pos hpt] at hp
    obtain ⟨rfl, hN⟩ := hp
    obtain ⟨ao2, cc2, rfl⟩ := hN.shape
    have HP2 := hide ((unhide HP1).kept hN.fr)
    have HF2 := hide ((unhide HF1).trans hN.fr (fun _ _ e => e))
    have R2 := hide hN.rd
    have HPT := hide hpt
    clear hN HP1 HF1 RO hpt
    go_wp2_with (go_at_call 18; refine (num_any _ _).mono ?_; rintro e w9 ⟨rfl, rfl⟩)
    refine (getTx_any w2 _ (ptL x.T) (unhide R2)).mono ?_
    rintro e w3 ⟨r, c3, rfl, hG⟩
    obtain ⟨g1, g2, g3⟩ := gt_ptL (unhide HPT)
    obtain ⟨⟨m1, m2⟩, -⟩ := pt_of (unhide HPT)
    unfold Gt at hG
    rw [if_pos g1] at hG
    obtain ⟨rfl, ⟨G, rfl, hG1, hG2⟩, f3⟩ := hG
    have hR := hG2.rdp g1
    rw [g2] at hR
    have RG := hide hR
    have HP3 := hide ((unhide HP2).kept f3)
    have HF3 := hide ((unhide HF2).trans f3 (fun _ _ e => e))
    have hall : x.T.all pOk = true := by
      have := unhide HPT
      unfold ptB at this
      simp only [Bool.and_eq_true] at this
      exact this.2
    have hlen : (ptL x.T).length = 4 + x.T.length * 388 := by
      rw [show ptL x.T = be 4 x.T.length ++ pbs x.T by simp [ptL, lay], List.length_append, be_length, pbs_length hall]; omega
    have hnd : needX (x.T.length : Int) = (((x.T.length * 388 + 339) / 336 : Nat) : Int) := by
      unfold needX
      rw [if_pos (by simp [ctB]; omega)]
      omega
    have hnv : nv = x.T.length := by
      obtain ⟨ao, cc, e⟩ := (unhide HP3).rT.shape
      simp at e
      exact e.2.1
    have c13 := (unhide HP3).cell 13
    simp [Pa.vs] at c13
    have HML := hide hlen
    have HN := hide hnd
    have HNV := hide hnv
    have HG3 := hide g3
    clear hG1 hG2 f3 HF2 HP2 R2 g1 g2 g3 hR hall hlen hnd hnv
    rw [unhide HML]
    rw [unhide HG3] at RG ⊢
    have q1 : (4 + x.T.length * 388 + 335) / 336 = (x.T.length * 388 + 339) / 336 := by congr 1; omega
    have hq : ((((4 + x.T.length * 388 : Nat) : Int) + 336 - 1) / 336 : Int) = (((x.T.length * 388 + 339) / 336 : Nat) : Int) := by omega
    have hSM := fun w9 (f9 : w3 = w9) => same_any w9 (.slice (some ⟨G, 0, none⟩) x.T.length x.T.length) (.slice av nv kv) x.T x.T (by rw [← f9]; exact unhide RG) (by rw [← f9]; exact (unhide HP3).rT) (unhide HX).hT
    go_wp2_with (go_at_call 18; refine (num_any _ _).mono ?_; rintro e w9 ⟨rfl, rfl⟩)
    refine (hSM _ rfl).mono ?_
    rintro e w4 ⟨he, f4⟩
    obtain rfl : e = .returned (.bool true) := by simpa using he
    clear he
    have HP4 := hide ((unhide HP3).kept f4)
    have HF4 := hide ((unhide HF3).trans f4 (fun _ _ e => e))
    have c13' := (unhide HP4).cell 13
    simp [Pa.vs] at c13'
    have hne := need_any w4 (x.T.length : Int)
    rw [unhide HN] at hne
    rw [unhide HNV] at *
    clear hSM f4 HP3 HF3 RG c13
    go_wp2_with (go_at_call 18; refine (num_any _ _).mono ?_; rintro e w9 ⟨rfl, rfl⟩)
    refine hne.mono ?_
    rintro e w9 ⟨rfl, rfl⟩
    have n2' : x.T.length ≤ 64 := m2
    clear hne
    generalize x.T.length = nT at *
    obtain ⟨M, hM⟩ : ∃ M, M = 4 + nT * 388 := ⟨_, rfl⟩
    have hM2 : M ≤ 100000 := by omega
    rw [← hM] at hq ⊢
    have q2 : IntKind.i64.wrap ((M : Int) + 336) = ((M + 336 : Nat) : Int) := by have := wrapI (M + 336) (by omega); exact_mod_cast this
    have q3 : IntKind.i64.wrap (((M + 336 : Nat) : Int) - 1) = ((M + 335 : Nat) : Int) := by
      have h1 : (((M + 336 : Nat) : Int) - 1) = ((M + 335 : Nat) : Int) := by omega
      rw [h1]
      have := wrapI (M + 335) (by omega); exact_mod_cast this
    have q4 : Int.tdiv ((M + 335 : Nat) : Int) 336 = (((nT * 388 + 339) / 336 : Nat) : Int) := by
      rw [Int.tdiv_eq_ediv_of_nonneg (by omega)]
      omega
    have q5 : IntKind.i64.wrap (((nT * 388 + 339) / 336 : Nat) : Int) = (((nT * 388 + 339) / 336 : Nat) : Int) := by
      have := wrapI ((nT * 388 + 339) / 336) (by omega); exact_mod_cast this
    generalize (nT * 388 + 339) / 336 = nQ at *
    go_upto_region 18 with (go_at_call 18; refine (num_any _ _).mono ?_; rintro e w9 ⟨rfl, rfl⟩)
    refine wp_mono (jb18 (unhide HP4) (unhide HX) (unhide HF4)) ?_
    intro e a9 w9 h9
    cases e
    case normal => apply_assumption; exact h9
    all_goals exact h9
  · rw [if_neg hpt] at hp
    obtain ⟨rfl, rfl, f2⟩ := hp
    have HP2 := hide ((unhide HP1).kept f2)
    have HF2 := hide ((unhide HF1).trans f2 (fun _ _ e => e))
    clear f2 HP1 HF1 RO hpt
    go_upto_region 18 with (go_at_call 18; refine (num_any _ _).mono ?_; rintro e w9 ⟨rfl, rfl⟩)
    refine wp_mono (jb18 (unhide HP2) (unhide HX) (unhide HF2)) ?_
    intro e a9 w9 h9
    cases e
    case normal => apply_assumption; exact h9
    all_goals exact h9
set_option maxHeartbeats 4000000 in
set_option maxRecDepth 100000 in
theorem jb8 {w0 W : World} {au av az : Option Addr} {nu nv nz ku kv kz : Nat} {x : Pa} {k : Nat} {u0 u3 u4 u5 u6 u7 u8 u9 u10 u11 u12 u13 u14 u15 u16 u17 u18 u19 u20 u21 u22 u23 u24 u25 u26 u27 u28 u29 u30 u31 u32 u33 u34 u35 u36 u37 u38 u39 u40 u41 u42 u43 u44 u45 u46 u47 u48 u49 u50 u51 u52 u53 u54 u55 u56 u57 u58 u59 u60 u61 u62 u63 u64 u65 u66 u67 u68 u69 u70 u71 u72 u73 u74 u75 u76 u77 u78 u79 u80 u81 u82 u83 u84 u85 u86 u87 u88 u89 u90 u91 u92 u93 u94 u95 u96 u97 u98 u99 u100 u101 u102 u103 u104 u105 u106 u107 u108 u109 u110 u111 u112 u113 u114 u115 u116 u117 u118 u119 u120 u121 u122 u123 u124 u125 u126 u127 u128 u129 u130 u131 u132 u133 u134 u135 : Value} (hP : PaAt W k x (.slice au nu ku) (.slice av nv kv) (.slice az nz kz)) (hX : PaB x) (hF : Fr (fun _ => False) w0 W)  : (rgF Try.f4 8).wp Try.prog (Exit.then ((sqF Try.f4 8).wp Try.prog (bodyPost Try.prog Try.f4 (fun e w9 => e = .returned (.bool true) ∧ Fr (fun _ => False) w0 w9))) (bodyPost Try.prog Try.f4 (fun e w9 => e = .returned (.bool true) ∧ Fr (fun _ => False) w0 w9))) ⟨#[u0, .pointer (some ⟨k, 0, none⟩), .bool false, u3, u4, u5, u6, u7, u8, u9, u10, u11, u12, u13, u14, u15, u16, u17, u18, u19, u20, u21, u22, u23, u24, u25, u26, u27, u28, u29, u30, u31, u32, u33, u34, u35, u36, u37, u38, u39, u40, u41, u42, u43, u44, u45, u46, u47, u48, u49, u50, u51, u52, u53, u54, u55, u56, u57, u58, u59, u60, u61, u62, u63, u64, u65, u66, u67, u68, u69, u70, u71, u72, u73, u74, u75, u76, u77, u78, u79, u80, u81, u82, u83, u84, u85, u86, u87, u88, u89, u90, u91, u92, u93, u94, u95, u96, u97, u98, u99, u100, u101, u102, u103, u104, u105, u106, u107, u108, u109, u110, u111, u112, u113, u114, u115, u116, u117, u118, u119, u120, u121, u122, u123, u124, u125, u126, u127, u128, u129, u130, u131, u132, u133, u134, u135], []⟩ W := by
  have HP := hide hP
  have HX := hide hX
  have HF := hide hF
  clear hP hX hF
  conv => arg 2; whnf
  conv => arg 3; arg 1; arg 2; whnf
  have c7 := (unhide HP).cell 7
  have c8 := (unhide HP).cell 8
  have c9 := (unhide HP).cell 9
  have c10 := (unhide HP).cell 10
  have c11 := (unhide HP).cell 11
  have c12 := (unhide HP).cell 12
  simp [Pa.vs] at c7 c8 c9 c10 c11 c12
  by_cases hsb : sbB x.g x.gb x.gp x.gl x.gx x.gy = true
  · go_wp2_with fail
    refine (putSuper_ok W x.g x.gb x.gp x.gl x.gx x.gy hsb).mono ?_
    rintro e w1 ⟨q, rfl, hb, hq, f1⟩
    have R1 := hide (rd384 hb)
    have HP1 := hide ((unhide HP).kept f1)
    have HF1 := hide ((unhide HF).trans f1 (fun _ _ e => e))
    have HS := hide hsb
    clear hb hq f1 HP HF c7 c8 c9 c10 c11 c12 hsb
    go_wp2_with (go_at_call 18; refine (num_any _ _).mono ?_; rintro e w9 ⟨rfl, rfl⟩)
    refine (getSuper_any w1 _ _ (unhide R1)).mono ?_
    rintro e w2 ⟨rfl, f2⟩
    have e1 : suR (suB x.g x.gb x.gp x.gl x.gx x.gy) = ⟨x.g, x.gb, x.gp, x.gl, x.gx, x.gy⟩ := by unfold suR; rw [suG_suB (unhide HS)]; rfl
    have e2 : suC (suB x.g x.gb x.gp x.gl x.gx x.gy) = 0 := by unfold suC; rw [suG_suB (unhide HS)]
    rw [e1, e2]
    unfold Su.v
    dsimp only
    have HP2 := hide ((unhide HP1).kept f2)
    have HF2 := hide ((unhide HF1).trans f2 (fun _ _ e => e))
    clear R1 HP1 HF1 f2 e1 e2 HS
    go_upto_region 11 with fail
    have HA := hide (heap_alloc_new w2 (.cells #[.int .u64 (x.g : Int), .int .u64 (x.gb : Int), .int .u64 (x.gp : Int), .int .u64 (x.gl : Int), .int .u64 (x.gx : Int), .int .u64 (x.gy : Int)] 27))
    have fA : Fr (fun _ => False) w2 (w2.alloc (.cells #[.int .u64 (x.g : Int), .int .u64 (x.gb : Int), .int .u64 (x.gp : Int), .int .u64 (x.gl : Int), .int .u64 (x.gx : Int), .int .u64 (x.gy : Int)] 27)) := (Fr.refl _ _).alloc _
    have HP3 := hide ((unhide HP2).kept fA)
    have HF3 := hide ((unhide HF2).trans fA (fun _ _ e => e))
    clear fA HP2 HF2
    refine wp_world ?_
    intro w3 hw3
    rw [← hw3] at HA HP3 HF3
    obtain ⟨b, hb⟩ : ∃ b, b = w2.heap.size := ⟨_, rfl⟩
    rw [← hb] at HA ⊢
    clear hw3 hb
    have c7 := (unhide HP3).cell 7
    have d0 := cell_of_heap (unhide HA) 0
    have c8 := (unhide HP3).cell 8
    have d1 := cell_of_heap (unhide HA) 1
    have c9 := (unhide HP3).cell 9
    have d2 := cell_of_heap (unhide HA) 2
    have c10 := (unhide HP3).cell 10
    have d3 := cell_of_heap (unhide HA) 3
    have c11 := (unhide HP3).cell 11
    have d4 := cell_of_heap (unhide HA) 4
    have c12 := (unhide HP3).cell 12
    have d5 := cell_of_heap (unhide HA) 5
    simp [Pa.vs] at c7 c8 c9 c10 c11 c12 d0 d1 d2 d3 d4 d5
    go_upto_region 13 with (go_at_call 18; refine (num_any _ _).mono ?_; rintro e w9 ⟨rfl, rfl⟩)
    refine wp_mono (jb13 (unhide HP3) (unhide HX) (unhide HF3)) ?_
    intro e a9 w9 h9
    cases e
    case normal => apply_assumption; exact h9
    all_goals exact h9
  · simp only [Bool.not_eq_true] at hsb
    go_wp2_with fail
    refine (putSuper_no W x.g x.gb x.gp x.gl x.gx x.gy hsb).mono ?_
    rintro e w1 ⟨rfl, f1⟩
    have HP1 := hide ((unhide HP).kept f1)
    have HF1 := hide ((unhide HF).trans f1 (fun _ _ e => e))
    clear f1 HP HF c7 c8 c9 c10 c11 c12 hsb
    go_upto_region 13 with (go_at_call 18; refine (num_any _ _).mono ?_; rintro e w9 ⟨rfl, rfl⟩)
    refine wp_mono (jb13 (unhide HP1) (unhide HX) (unhide HF1)) ?_
    intro e a9 w9 h9
    cases e
    case normal => apply_assumption; exact h9
    all_goals exact h9
set_option maxHeartbeats 4000000 in
set_option maxRecDepth 100000 in
theorem jb3 {w0 W : World} {au av az : Option Addr} {nu nv nz ku kv kz : Nat} {x : Pa} {k : Nat} {u0 u3 u4 u5 u6 u7 u8 u9 u10 u11 u12 u13 u14 u15 u16 u17 u18 u19 u20 u21 u22 u23 u24 u25 u26 u27 u28 u29 u30 u31 u32 u33 u34 u35 u36 u37 u38 u39 u40 u41 u42 u43 u44 u45 u46 u47 u48 u49 u50 u51 u52 u53 u54 u55 u56 u57 u58 u59 u60 u61 u62 u63 u64 u65 u66 u67 u68 u69 u70 u71 u72 u73 u74 u75 u76 u77 u78 u79 u80 u81 u82 u83 u84 u85 u86 u87 u88 u89 u90 u91 u92 u93 u94 u95 u96 u97 u98 u99 u100 u101 u102 u103 u104 u105 u106 u107 u108 u109 u110 u111 u112 u113 u114 u115 u116 u117 u118 u119 u120 u121 u122 u123 u124 u125 u126 u127 u128 u129 u130 u131 u132 u133 u134 u135 : Value} (hP : PaAt W k x (.slice au nu ku) (.slice av nv kv) (.slice az nz kz)) (hX : PaB x) (hF : Fr (fun _ => False) w0 W)  : (rgF Try.f4 3).wp Try.prog (Exit.then ((sqF Try.f4 3).wp Try.prog (bodyPost Try.prog Try.f4 (fun e w9 => e = .returned (.bool true) ∧ Fr (fun _ => False) w0 w9))) (bodyPost Try.prog Try.f4 (fun e w9 => e = .returned (.bool true) ∧ Fr (fun _ => False) w0 w9))) ⟨#[u0, .pointer (some ⟨k, 0, none⟩), .bool false, u3, u4, u5, u6, u7, u8, u9, u10, u11, u12, u13, u14, u15, u16, u17, u18, u19, u20, u21, u22, u23, u24, u25, u26, u27, u28, u29, u30, u31, u32, u33, u34, u35, u36, u37, u38, u39, u40, u41, u42, u43, u44, u45, u46, u47, u48, u49, u50, u51, u52, u53, u54, u55, u56, u57, u58, u59, u60, u61, u62, u63, u64, u65, u66, u67, u68, u69, u70, u71, u72, u73, u74, u75, u76, u77, u78, u79, u80, u81, u82, u83, u84, u85, u86, u87, u88, u89, u90, u91, u92, u93, u94, u95, u96, u97, u98, u99, u100, u101, u102, u103, u104, u105, u106, u107, u108, u109, u110, u111, u112, u113, u114, u115, u116, u117, u118, u119, u120, u121, u122, u123, u124, u125, u126, u127, u128, u129, u130, u131, u132, u133, u134, u135], []⟩ W := by
  have HP := hide hP
  have HX := hide hX
  have HF := hide hF
  clear hP hX hF
  conv => arg 2; whnf
  conv => arg 3; arg 1; arg 2; whnf
  have c0 := (unhide HP).cell 0
  have c1 := (unhide HP).cell 1
  have c2 := (unhide HP).cell 2
  have c3 := (unhide HP).cell 3
  have c4 := (unhide HP).cell 4
  have c5 := (unhide HP).cell 5
  have c6 := (unhide HP).cell 6
  simp [Pa.vs] at c0 c1 c2 c3 c4 c5 c6
  have hnu : nu = x.L.length := by
    obtain ⟨ao, cc, e⟩ := (unhide HP).rL.shape
    simp at e
    exact e.2.1
  subst hnu
  rcases hcb : cbB x.b x.s x.p x.l x.pt x.ps x.L.length with _ | _
  · go_wp2_with fail
    refine (putEntry_no W x.b x.s x.p x.l x.pt x.ps au x.L.length ku hcb).mono ?_
    rintro e w1 ⟨rfl, f1⟩
    have HP1 := hide ((unhide HP).kept f1)
    have HF1 := hide ((unhide HF).trans f1 (fun _ _ e => e))
    clear f1 HP HF c0 c1 c2 c3 c4 c5 c6 hcb
    go_upto_region 8 with (go_at_call 18; refine (num_any _ _).mono ?_; rintro e w9 ⟨rfl, rfl⟩)
    refine wp_mono (jb8 (unhide HP1) (unhide HX) (unhide HF1)) ?_
    intro e a9 w9 h9
    cases e
    case normal => apply_assumption; exact h9
    all_goals exact h9
  · obtain ⟨-, ⟨b1, b2, b3⟩, c1'⟩ := cb_of hcb
    obtain ⟨m, hm⟩ : ∃ m : Nat, x.pt = (m : Int) := ⟨x.pt.toNat, by omega⟩
    obtain ⟨m2, hm2⟩ : ∃ m : Nat, x.ps = (m : Int) := ⟨x.ps.toNat, by omega⟩
    rw [hm, hm2] at hcb
    have hp := putEntry_ok W x.b x.s x.p x.l m m2 au x.L.length ku x.L (unhide HP).rL rfl hcb
    rw [← hm, ← hm2] at hp
    have HCB := hide hcb
    have HM := hide hm
    have HM2 := hide hm2
    have HL := hide c1'
    clear hcb hm hm2 b1 b2 b3 c1'
    go_wp2_with fail
    refine hp.mono ?_
    rintro e w1 ⟨q, rfl, hb, hq, f1⟩
    have R1 := hide (rdEn hb (unhide HL))
    have HP1 := hide ((unhide HP).kept f1)
    have HF1 := hide ((unhide HF).trans f1 (fun _ _ e => e))
    clear hp hb hq f1 HP HF c0 c1 c2 c3 c4 c5 c6
    go_wp2_with (go_at_call 18; refine (num_any _ _).mono ?_; rintro e w9 ⟨rfl, rfl⟩)
    refine (getEntry_any w1 _ _ (unhide R1)).mono ?_
    rintro e w2 ⟨u, rfl, hO, f2⟩
    have e1 : enR (enB x.b x.s x.p x.l m m2 x.L.length x.L) = ⟨x.b, x.s, x.p, x.l, m, m2, x.L⟩ := by unfold enR; rw [enG_enB (unhide HCB)]; rfl
    have e2 : enC (enB x.b x.s x.p x.l m m2 x.L.length x.L) = 0 := by unfold enC; rw [enG_enB (unhide HCB)]
    rw [e1] at hO
    rw [e1, e2]
    obtain ⟨uo, uc, rfl⟩ := hO.shape
    unfold En.c
    dsimp only
    rw [← unhide HM, ← unhide HM2]
    have HP2 := hide ((unhide HP1).kept f2)
    have HF2 := hide ((unhide HF1).trans f2 (fun _ _ e => e))
    have RO := hide hO.rd
    clear R1 HP1 HF1 f2 e1 e2 hO HCB HM HM2
    go_upto_region 6 with fail
    have HA := hide (heap_alloc_new w2 (.cells #[.int .u64 (x.b : Int), .int .u64 (x.s : Int), .int .u64 (x.p : Int), .int .u64 (x.l : Int), .int .i64 x.pt, .int .i64 x.ps, .slice uo x.L.length uc] 25))
    have fA : Fr (fun _ => False) w2 (w2.alloc (.cells #[.int .u64 (x.b : Int), .int .u64 (x.s : Int), .int .u64 (x.p : Int), .int .u64 (x.l : Int), .int .i64 x.pt, .int .i64 x.ps, .slice uo x.L.length uc] 25)) := (Fr.refl _ _).alloc _
    have HP3 := hide ((unhide HP2).kept fA)
    have HF3 := hide ((unhide HF2).trans fA (fun _ _ e => e))
    have RO3 := hide ((unhide RO).kept fA (fun _ _ e => e))
    clear fA HP2 HF2 RO
    refine wp_world ?_
    intro w3 hw3
    rw [← hw3] at HA HP3 HF3 RO3
    obtain ⟨b, hb⟩ : ∃ b, b = w2.heap.size := ⟨_, rfl⟩
    rw [← hb] at HA ⊢
    clear hw3 hb
    have c0 := (unhide HP3).cell 0
    have d0 := cell_of_heap (unhide HA) 0
    have c1 := (unhide HP3).cell 1
    have d1 := cell_of_heap (unhide HA) 1
    have c2 := (unhide HP3).cell 2
    have d2 := cell_of_heap (unhide HA) 2
    have c3 := (unhide HP3).cell 3
    have d3 := cell_of_heap (unhide HA) 3
    have c4 := (unhide HP3).cell 4
    have d4 := cell_of_heap (unhide HA) 4
    have c5 := (unhide HP3).cell 5
    have d5 := cell_of_heap (unhide HA) 5
    have c6 := (unhide HP3).cell 6
    have d6 := cell_of_heap (unhide HA) 6
    simp [Pa.vs] at c0 c1 c2 c3 c4 c5 c6 d0 d1 d2 d3 d4 d5 d6
    go_wp2_with (go_at_call 18; refine (num_any _ _).mono ?_; rintro e w9 ⟨rfl, rfl⟩)
    refine (sameEntry_any w3 (x.b : Int) (x.s : Int) (x.p : Int) (x.l : Int) x.pt x.ps (x.b : Int) (x.s : Int) (x.p : Int) (x.l : Int) x.pt x.ps uo au uc ku x.L x.L (unhide RO3) (unhide HP3).rL).mono ?_
    rintro e w4 ⟨he, f4⟩
    obtain rfl : e = .returned (.bool true) := by simpa using he
    clear he
    have HP4 := hide ((unhide HP3).kept f4)
    have HF4 := hide ((unhide HF3).trans f4 (fun _ _ e => e))
    clear f4 HP3 HF3 RO3 HA c0 c1 c2 c3 c4 c5 c6 d0 d1 d2 d3 d4 d5 d6
    go_upto_region 8 with (go_at_call 18; refine (num_any _ _).mono ?_; rintro e w9 ⟨rfl, rfl⟩)
    refine wp_mono (jb8 (unhide HP4) (unhide HX) (unhide HF4)) ?_
    intro e a9 w9 h9
    cases e
    case normal => apply_assumption; exact h9
    all_goals exact h9
set_option maxHeartbeats 4000000 in
set_option maxRecDepth 100000 in
theorem journalBack_any (w : World) {au av az : Option Addr} {nu nv nz ku kv kz : Nat} {x : Pa}  (hL : Rd w (.slice au nu ku) x.L) (hT : RdP w (.slice av nv kv) x.T) (hB : Rd w (.slice az nz kz) x.B) (b0 : x.b < 18446744073709551616) (bL : x.L.length ≤ 1048576) (bB : x.B.length ≤ 1048576) (bT : x.T.length ≤ 1048576) (bD : ∀ p ∈ x.T, p.2.length ≤ 1048576) :
    Calls Try.prog 4 #[.agg (x.vs (.slice au nu ku) (.slice av nv kv) (.slice az nz kz)).toArray] w fun e w' => e = .returned (.bool true) ∧ Fr (fun _ => False) w w' := by
  have HA := hide (heap_alloc_new w (.cells (x.vs (.slice au nu ku) (.slice av nv kv) (.slice az nz kz)).toArray 30))
  have fA : Fr (fun _ => False) w (w.alloc (.cells (x.vs (.slice au nu ku) (.slice av nv kv) (.slice az nz kz)).toArray 30)) := (Fr.refl _ _).alloc _
  have hP : PaAt (w.alloc (.cells (x.vs (.slice au nu ku) (.slice av nv kv) (.slice az nz kz)).toArray 30)) w.heap.size x (.slice au nu ku) (.slice av nv kv) (.slice az nz kz) := ⟨unhide HA, hL.kept fA (fun _ _ e => e), rdp_kept hT fA, hB.kept fA (fun _ _ e => e)⟩
  have hnu : nu = x.L.length := by
    obtain ⟨ao, cc, e⟩ := hL.shape
    simp at e
    exact e.2.1
  have hnz : nz = x.B.length := by
    obtain ⟨ao, cc, e⟩ := hB.shape
    simp at e
    exact e.2.1
  have hnv : nv = x.T.length := by
    obtain ⟨ao, cc, e⟩ := hT.shape
    simp at e
    exact e.2.1
  subst hnu hnz hnv
  have HP := hide hP
  have FA := hide fA
  unfold Pa.vs at *
  clear hL hT hB fA hP HA
  go_enter Try.func4, Try.ntmps4
  go_upto_region 1 with fail
  refine wp_world ?_
  intro w1 hw1
  rw [← hw1] at HP FA
  obtain ⟨b, hb⟩ : ∃ b, b = w.heap.size := ⟨_, rfl⟩
  rw [← hb] at HP ⊢
  clear hw1 hb
  have c0 := (unhide HP).cell 0
  have c1 := (unhide HP).cell 1
  have c2 := (unhide HP).cell 2
  have c3 := (unhide HP).cell 3
  have c4 := (unhide HP).cell 4
  have c5 := (unhide HP).cell 5
  have c6 := (unhide HP).cell 6
  have c7 := (unhide HP).cell 7
  have c8 := (unhide HP).cell 8
  have c9 := (unhide HP).cell 9
  have c10 := (unhide HP).cell 10
  have c11 := (unhide HP).cell 11
  have c12 := (unhide HP).cell 12
  have c13 := (unhide HP).cell 13
  have c14 := (unhide HP).cell 14
  have c15 := (unhide HP).cell 15
  simp [Pa.vs] at c0 c1 c2 c3 c4 c5 c6 c7 c8 c9 c10 c11 c12 c13 c14 c15
  go_wp2_with fail
  refine (heavy_any w1 _ _ _ _ _ _ _ _ _ _ _ _ _ (.slice av x.T.length kv) au az x.L.length ku x.B.length kz x.T (unhide HP).rT (by omega) (by omega) (by omega) (fun p h => by have := bD p h; omega)).mono ?_
  rintro e w2 ⟨rfl, f2⟩
  have HP2 := hide ((unhide HP).kept f2)
  have HF2 := hide ((unhide FA).trans f2 (fun _ _ e => e))
  clear f2 HP FA c0 c1 c2 c3 c4 c5 c6 c7 c8 c9 c10 c11 c12 c13 c14 c15
  rcases hv : hvB x.L.length x.B.length x.T with _ | _
  · have HX : Hid (PaB x) := hide ⟨b0, bL, bB, by
      unfold hvB at hv
      simp only [Bool.or_eq_false_iff, decide_eq_false_iff_not] at hv
      omega, bD⟩
    go_upto_region 3 with (go_at_call 18; refine (num_any _ _).mono ?_; rintro e w9 ⟨rfl, rfl⟩)
    refine wp_mono (jb3 (unhide HP2) (unhide HX) (unhide HF2)) ?_
    intro e a9 w9 h9
    cases e
    case normal => apply_assumption; exact h9
    all_goals exact h9
  · have HF := HF2
    go_wp2_with fail
    refine (live_any _).mono ?_
    rintro e w9 ⟨rfl, f9⟩
    go_wp2_with fail
    go_ret
    exact ⟨rfl, (unhide HF).trans f9 (fun _ _ e => e)⟩
end Go.Proofs.Ytgodlfoidjeekaa

namespace Go.Proofs.Ytgodlfoidjeekaa
set_option linter.unusedVariables false
set_option linter.unusedSimpArgs false
open Go.RowKit Go.ChangeShapes Go.WideShapes Go.ChangeAt Go.Deep
set_option linter.unusedVariables false

theorem bulk_one {H : Type} (d : DataW H) : 1 ≤ Rows.uptoBulk d := by
  cases d with
  | lit l => cases l <;> simp [Rows.uptoBulk]
  | nil => simp [Rows.uptoBulk]
  | ptr d => simp [Rows.uptoBulk]
  | slice elems spare => simp [Rows.uptoBulk]
  | agg parts => simp [Rows.uptoBulk]
  | iface t d => simp [Rows.uptoBulk]
  | map entries => simp [Rows.uptoBulk]
  | held h => simp [Rows.uptoBulk]

theorem bulk_mem {H : Type} {l : List (DataW H)} {d : DataW H} (h : d ∈ l) : Rows.uptoBulk d ≤ Rows.uptoBulkAll l := by
  induction l with
  | nil => simp at h
  | cons x r ih =>
    simp only [Rows.uptoBulkAll]
    rcases List.mem_cons.1 h with rfl | h
    · omega
    · have := ih h; omega

theorem bulk_length {H : Type} (l : List (DataW H)) : l.length ≤ Rows.uptoBulkAll l := by
  induction l with
  | nil => simp
  | cons x r ih => have := bulk_one x; simp only [Rows.uptoBulkAll, List.length_cons]; omega

theorem byte_nat (x : Int) (h : 0 ≤ x) (h2 : x < 256) : (((UInt8.ofNat x.toNat).toNat : Nat) : Int) = x := by
  rw [UInt8.toNat_ofNat']; omega
theorem bd64 {n : Int} (h : (Lit.int .u64 n).wf = true) : 0 ≤ n ∧ n < 18446744073709551616 := by
  have := bounds_u64 h; omega
theorem bdi {n : Int} (h : (Lit.int .i64 n).wf = true) : -9223372036854775808 ≤ n ∧ n < 9223372036854775808 := by
  have := bounds_i64 h; omega

section
variable {H : Type} {enc : TypeId × Value → H} {W : World} {fuel : Nat} {d : DataW H} {pl : List MemPlace} {spare : Nat → Bool} {held : Bool}

/-- A []byte that came in. -/
theorem open_rd {v : Value} (h : DataW.trod enc Try.prog W 0 spare held fuel 23 [v] = some (d, pl)) : ∃ l, Rd W v l ∧ l.length ≤ Rows.uptoBulk d := by
  rcases open_ints Try.underlying23 Try.underlying5 (by kernel_rfl) h with ⟨hcs, hx⟩ | ⟨a, len, cap, zs, hcs, _, hl, hm, hz, hx, hcell, hwz⟩
  · simp at hcs
    subst hcs
    exact ⟨[], Rd.nil _, by simp⟩
  · simp at hcs
    subst hcs
    simp only [Prod.mk.injEq] at hx
    have hzl : len ≤ zs.length := by rw [hz]; split <;> omega
    have hlen : ((zs.take len).map fun n => UInt8.ofNat n.toNat).length = len := by simp; omega
    refine ⟨(zs.take len).map fun n => UInt8.ofNat n.toNat, .inr ⟨a, cap, by rw [hlen], by rw [hlen]; exact hl, hm, fun j hj => ?_⟩, ?_⟩
    · rw [hlen] at hj
      rw [hcell j (by omega)]
      have hb := bounds_u8 (hwz _ (List.getElem_mem (show j < zs.length by omega)))
      have e : zs.getD j 0 = zs[j]'(by omega) := by simp [List.getD, show j < zs.length by omega]
      rw [e]
      simp only [List.getElem_map, List.getElem_take]
      rw [byte_nat _ hb.1 (by omega)]
    · rw [hlen, hx.1]
      simp only [Rows.uptoBulk]
      have := bulk_length (H := H) (lits IntKind.u8 (zs.take len))
      have e : (lits (H := H) IntKind.u8 (zs.take len)).length = len := by simp [lits]; omega
      omega

set_option maxRecDepth 100000 in
/-- A Put that came in. -/
theorem open_put {cs : List Value} (h : DataW.trod enc Try.prog W 0 spare held fuel 94 cs = some (d, pl)) (hb : Rows.uptoBulk d ≤ 1048576) : ∃ s : Int × Value × List UInt8, cs = [.int .i64 s.1, s.2.1] ∧ Rd W s.2.1 s.2.2 ∧ s.2.2.length ≤ 1048576 := by
  obtain ⟨xs, n, rfl, hx, hlen, hxl, hf⟩ := DataW.trod_struct Try.underlying94 h
  have hc2 : Try.prog.cellsOf 94 = 2 := by kernel_rfl
  rw [hc2] at hlen
  simp only [Prod.mk.injEq] at hx
  have hxl2 : xs.length = 2 := hxl
  match cs, hlen with
  | [c0, c1], _ =>
    match xs, hxl2 with
    | [x0, x1], _ =>
      have b : ∀ x ∈ [x0, x1], Rows.uptoBulk x.1 ≤ 1048576 := fun x hx' => by
        have := bulk_mem (List.mem_map.2 ⟨x, hx', rfl⟩ : x.1 ∈ [x0, x1].map (·.1))
        rw [hx.1] at hb
        simp only [Rows.uptoBulk] at hb
        omega
      have k3 : Try.prog.cellsOf 3 = 1 := by kernel_rfl
      have k23 : Try.prog.cellsOf 23 = 1 := by kernel_rfl
      have f0 : DataW.trod enc Try.prog W 0 spare held n 3 (([c0, c1].drop 0).take (Try.prog.cellsOf 3)) = some x0 := hf 0 _ rfl
      rw [k3] at f0
      have f1 : DataW.trod enc Try.prog W 0 spare held n 23 (([c0, c1].drop 1).take (Try.prog.cellsOf 23)) = some x1 := hf 1 _ rfl
      rw [k23] at f1
      obtain ⟨n0, e0, -, w0⟩ := DataW.trod_int Try.underlying3 f0
      obtain ⟨l1, r1, z1⟩ := open_rd f1
      obtain rfl : c0 = .int .i64 n0 := by simpa using e0
      exact ⟨(n0, c1, l1), rfl, r1, Nat.le_trans z1 (b x1 (by simp))⟩

/-- A []Put that came in. -/
theorem open_puts {v : Value} (h : DataW.trod enc Try.prog W 0 spare held fuel 28 [v] = some (d, pl)) (hb : Rows.uptoBulk d ≤ 1048576) : ∃ ps, RdP W v ps ∧ ps.length ≤ 1048576 ∧ ∀ p ∈ ps, p.2.length ≤ 1048576 := by
  rcases open_slice Try.underlying28 h with ⟨hcs, hx⟩ | ⟨a, len, cap, m, n, D, Pl, hcs, _, hl, hm, hmm, hx, hcell⟩
  · simp at hcs
    subst hcs
    exact ⟨[], .inl ⟨⟨_, _, rfl⟩, rfl⟩, by simp, by simp⟩
  · simp at hcs
    subst hcs
    simp only [Prod.mk.injEq] at hx
    have hlm : len ≤ m := by rw [hmm]; split <;> omega
    have hbulk : Rows.uptoBulkAll ((List.range len).map D) ≤ 1048576 := by
      rw [hx.1] at hb
      simp only [Rows.uptoBulk] at hb
      omega
    have hlen : len ≤ 1048576 := by
      have := bulk_length ((List.range len).map D)
      simp only [List.length_map, List.length_range] at this
      omega
    have hc2 : Try.prog.cellsOf 94 = 2 := by kernel_rfl
    rw [hc2] at hcell
    have hch : ∀ i, i < len → ∃ s : Int × Value × List UInt8, W.cells? 0 (a.add (i * 2)) 2 = some [.int .i64 s.1, s.2.1] ∧ Rd W s.2.1 s.2.2 ∧ s.2.2.length ≤ 1048576 := fun i hi => by
      obtain ⟨cs', h1, h2⟩ := hcell i (by omega)
      obtain ⟨s, rfl, hs⟩ := open_put h2 (Nat.le_trans (bulk_mem (List.mem_map.2 ⟨i, List.mem_range.2 hi, rfl⟩ : D i ∈ (List.range len).map D)) hbulk)
      exact ⟨s, h1, hs⟩
    obtain ⟨L, hL⟩ := choose_lt (α := Int × Value × List UInt8) hch
    have key : ∀ j (hj : j < len), W.cell? (a.add (j * 2)) = some (.int .i64 (L j).1) ∧ W.cell? (a.add (j * 2 + 1)) = some (L j).2.1 := fun j hj => by
      have hc := World.cells?_some (hL j hj).1
      have h0 := hc.2.2 0 (by decide)
      have h1 := hc.2.2 1 (by decide)
      rw [add_add] at h0 h1
      exact ⟨h0, h1⟩
    refine ⟨(List.range len).map fun j => ((L j).1, (L j).2.2), ?_, by simpa using hlen, fun p hp => ?_⟩
    · rcases Nat.eq_zero_or_pos len with e | e
      · subst e
        exact .inl ⟨⟨_, _, rfl⟩, rfl⟩
      · obtain ⟨b, off, spot⟩ := a
        have hspot : spot = none := by simpa [Addr.add] using World.cell?_spot (key 0 e).1
        subst hspot
        refine .inr ⟨b, off, cap, by simp, by simpa using hl, hm, fun j hj => ?_⟩
        have hj' : j < len := by simpa using hj
        have e : ((List.range len).map fun j => ((L j).1, (L j).2.2))[j]'hj = ((L j).1, (L j).2.2) := by simp
        rw [e]
        obtain ⟨k0, k1⟩ := key j hj'
        rw [Addr.add_lit] at k0 k1
        exact ⟨k0, _, k1, (hL j hj').2.1⟩
    · obtain ⟨j, hj, rfl⟩ := List.mem_map.1 hp
      exact (hL j (List.mem_range.1 hj)).2.2
end
end Go.Proofs.Ytgodlfoidjeekaa

namespace Go.Proofs.Ytgodlfoidjeekaa
set_option linter.unusedVariables false
set_option linter.unusedSimpArgs false
open Go.RowKit Go.ChangeShapes Go.WideShapes Go.ChangeAt Go.Deep
set_option linter.unusedVariables false

/-- How Parts come in. -/
structure Pa.In (x : Pa) : Prop where
  b0 : x.b < 18446744073709551616
  bL : x.L.length ≤ 1048576
  bB : x.B.length ≤ 1048576
  bT : x.T.length ≤ 1048576
  bD : ∀ p ∈ x.T, p.2.length ≤ 1048576
  bE : x.s < 18446744073709551616 ∧ x.p < 18446744073709551616 ∧ x.l < 18446744073709551616
  bI : (-9223372036854775808 ≤ x.pt ∧ x.pt < 9223372036854775808) ∧ (-9223372036854775808 ≤ x.ps ∧ x.ps < 9223372036854775808) ∧ (-9223372036854775808 ≤ x.n ∧ x.n < 9223372036854775808)
  bS : x.g < 18446744073709551616 ∧ x.gb < 18446744073709551616 ∧ x.gp < 18446744073709551616 ∧ x.gl < 18446744073709551616 ∧ x.gx < 18446744073709551616 ∧ x.gy < 18446744073709551616
theorem cells30 : Try.prog.cellsOf 30 = 16 := by kernel_rfl
theorem cells25 : Try.prog.cellsOf 25 = 7 := by kernel_rfl
theorem cells27 : Try.prog.cellsOf 27 = 6 := by kernel_rfl
theorem toN {n : Int} (h : 0 ≤ n ∧ n < 18446744073709551616) : ∃ m : Nat, n = (m : Int) ∧ m < 18446744073709551616 := ⟨n.toNat, by omega, by omega⟩
section
variable {H : Type} {enc : TypeId × Value → H} {W : World} {fuel : Nat} {d : DataW H} {pl : List MemPlace} {sp : Nat → Bool} {held : Bool}
theorem open_u {c : Value} {y : DataW H × List MemPlace} (e : DataW.trod enc Try.prog W 0 sp held fuel 22 [c] = some y) : ∃ m : Nat, c = .int .u64 (m : Int) ∧ m < 18446744073709551616 := by
  obtain ⟨a, h, -, w⟩ := DataW.trod_int Try.underlying22 e
  obtain ⟨m, rfl, hm⟩ := toN (bd64 w)
  exact ⟨m, by simpa using h, hm⟩
theorem open_i {c : Value} {y : DataW H × List MemPlace} (e : DataW.trod enc Try.prog W 0 sp held fuel 3 [c] = some y) : ∃ a : Int, c = .int .i64 a ∧ -9223372036854775808 ≤ a ∧ a < 9223372036854775808 := by
  obtain ⟨a, h, -, w⟩ := DataW.trod_int Try.underlying3 e
  have := bdi w
  exact ⟨a, by simpa using h, by omega, by omega⟩
set_option maxRecDepth 100000 in
theorem open_entry {c0 c1 c2 c3 c4 c5 c6 : Value} {y : DataW H × List MemPlace} (hf : DataW.trod enc Try.prog W 0 sp held fuel 25 [c0, c1, c2, c3, c4, c5, c6] = some y) (hb : Rows.uptoBulk y.1 ≤ 1048576) :
    ∃ (b s p l : Nat) (pt ps : Int) (L : List UInt8), c0 = .int .u64 (b : Int) ∧ c1 = .int .u64 (s : Int) ∧ c2 = .int .u64 (p : Int) ∧ c3 = .int .u64 (l : Int) ∧ c4 = .int .i64 pt ∧ c5 = .int .i64 ps ∧ Rd W c6 L ∧ L.length ≤ 1048576 ∧ (b < 18446744073709551616 ∧ s < 18446744073709551616 ∧ p < 18446744073709551616 ∧ l < 18446744073709551616) ∧ (-9223372036854775808 ≤ pt ∧ pt < 9223372036854775808) ∧ (-9223372036854775808 ≤ ps ∧ ps < 9223372036854775808) := by
  obtain ⟨xs, k, _, hx, hl, hlen, hfl⟩ := DataW.trod_struct Try.underlying25 hf
  match xs, hlen with
  | [y0, y1, y2, y3, y4, y5, y6], _ =>
    have bb : Rows.uptoBulk y6.1 ≤ 1048576 := by
      have := bulk_mem (List.mem_map.2 ⟨y6, by simp, rfl⟩ : y6.1 ∈ [y0, y1, y2, y3, y4, y5, y6].map (·.1))
      rw [hx] at hb
      simp only [Rows.uptoBulk] at hb
      omega
    have k22 : Try.prog.cellsOf 22 = 1 := by kernel_rfl
    have k3 : Try.prog.cellsOf 3 = 1 := by kernel_rfl
    have k23 : Try.prog.cellsOf 23 = 1 := by kernel_rfl
    have e0 : DataW.trod enc Try.prog W 0 sp held k 22 ((([c0, c1, c2, c3, c4, c5, c6] : List Value).drop 0).take (Try.prog.cellsOf 22)) = some y0 := hfl 0 _ rfl
    have e1 : DataW.trod enc Try.prog W 0 sp held k 22 ((([c0, c1, c2, c3, c4, c5, c6] : List Value).drop 1).take (Try.prog.cellsOf 22)) = some y1 := hfl 1 _ rfl
    have e2 : DataW.trod enc Try.prog W 0 sp held k 22 ((([c0, c1, c2, c3, c4, c5, c6] : List Value).drop 2).take (Try.prog.cellsOf 22)) = some y2 := hfl 2 _ rfl
    have e3 : DataW.trod enc Try.prog W 0 sp held k 22 ((([c0, c1, c2, c3, c4, c5, c6] : List Value).drop 3).take (Try.prog.cellsOf 22)) = some y3 := hfl 3 _ rfl
    have e4 : DataW.trod enc Try.prog W 0 sp held k 3 ((([c0, c1, c2, c3, c4, c5, c6] : List Value).drop 4).take (Try.prog.cellsOf 3)) = some y4 := hfl 4 _ rfl
    have e5 : DataW.trod enc Try.prog W 0 sp held k 3 ((([c0, c1, c2, c3, c4, c5, c6] : List Value).drop 5).take (Try.prog.cellsOf 3)) = some y5 := hfl 5 _ rfl
    have e6 : DataW.trod enc Try.prog W 0 sp held k 23 ((([c0, c1, c2, c3, c4, c5, c6] : List Value).drop 6).take (Try.prog.cellsOf 23)) = some y6 := hfl 6 _ rfl
    rw [k22] at e0 e1 e2 e3
    rw [k3] at e4 e5
    rw [k23] at e6
    obtain ⟨m0, h0, n0⟩ := open_u e0
    obtain ⟨m1, h1, n1⟩ := open_u e1
    obtain ⟨m2, h2, n2⟩ := open_u e2
    obtain ⟨m3, h3, n3⟩ := open_u e3
    obtain ⟨m4, h4, n4⟩ := open_i e4
    obtain ⟨m5, h5, n5⟩ := open_i e5
    obtain ⟨L, rd, z⟩ := open_rd (d := y6.1) (pl := y6.2) e6
    exact ⟨m0, m1, m2, m3, m4, m5, L, h0, h1, h2, h3, h4, h5, rd, Nat.le_trans z bb, ⟨n0, n1, n2, n3⟩, n4, n5⟩
set_option maxRecDepth 100000 in
theorem open_super {c0 c1 c2 c3 c4 c5 : Value} {y : DataW H × List MemPlace} (hf : DataW.trod enc Try.prog W 0 sp held fuel 27 [c0, c1, c2, c3, c4, c5] = some y) :
    ∃ (b s p l x z : Nat), c0 = .int .u64 (b : Int) ∧ c1 = .int .u64 (s : Int) ∧ c2 = .int .u64 (p : Int) ∧ c3 = .int .u64 (l : Int) ∧ c4 = .int .u64 (x : Int) ∧ c5 = .int .u64 (z : Int) ∧ (b < 18446744073709551616 ∧ s < 18446744073709551616 ∧ p < 18446744073709551616 ∧ l < 18446744073709551616 ∧ x < 18446744073709551616 ∧ z < 18446744073709551616) := by
  obtain ⟨xs, k, _, hx, hl, hlen, hfl⟩ := DataW.trod_struct Try.underlying27 hf
  match xs, hlen with
  | [y0, y1, y2, y3, y4, y5], _ =>
    have k22 : Try.prog.cellsOf 22 = 1 := by kernel_rfl
    have e0 : DataW.trod enc Try.prog W 0 sp held k 22 ((([c0, c1, c2, c3, c4, c5] : List Value).drop 0).take (Try.prog.cellsOf 22)) = some y0 := hfl 0 _ rfl
    have e1 : DataW.trod enc Try.prog W 0 sp held k 22 ((([c0, c1, c2, c3, c4, c5] : List Value).drop 1).take (Try.prog.cellsOf 22)) = some y1 := hfl 1 _ rfl
    have e2 : DataW.trod enc Try.prog W 0 sp held k 22 ((([c0, c1, c2, c3, c4, c5] : List Value).drop 2).take (Try.prog.cellsOf 22)) = some y2 := hfl 2 _ rfl
    have e3 : DataW.trod enc Try.prog W 0 sp held k 22 ((([c0, c1, c2, c3, c4, c5] : List Value).drop 3).take (Try.prog.cellsOf 22)) = some y3 := hfl 3 _ rfl
    have e4 : DataW.trod enc Try.prog W 0 sp held k 22 ((([c0, c1, c2, c3, c4, c5] : List Value).drop 4).take (Try.prog.cellsOf 22)) = some y4 := hfl 4 _ rfl
    have e5 : DataW.trod enc Try.prog W 0 sp held k 22 ((([c0, c1, c2, c3, c4, c5] : List Value).drop 5).take (Try.prog.cellsOf 22)) = some y5 := hfl 5 _ rfl
    rw [k22] at e0 e1 e2 e3 e4 e5
    obtain ⟨m0, h0, n0⟩ := open_u e0
    obtain ⟨m1, h1, n1⟩ := open_u e1
    obtain ⟨m2, h2, n2⟩ := open_u e2
    obtain ⟨m3, h3, n3⟩ := open_u e3
    obtain ⟨m4, h4, n4⟩ := open_u e4
    obtain ⟨m5, h5, n5⟩ := open_u e5
    exact ⟨m0, m1, m2, m3, m4, m5, h0, h1, h2, h3, h4, h5, n0, n1, n2, n3, n4, n5⟩
set_option maxRecDepth 100000 in
set_option maxHeartbeats 2000000 in
/-- Parts that came in. -/
theorem open_parts {b0 : Nat} {v : Value} {d : DataW H} {ps : List MemPlace} (hval : Value.okWide Try.prog W .any b0 30 v) (hd : DataW.Trod enc Try.prog W 0 sp held 30 v d ps) (hb : Rows.uptoBulk d ≤ 1048576) :
    ∃ (x : Pa) (u t z : Value), v = .agg (x.vs u t z).toArray ∧ Rd W u x.L ∧ RdP W t x.T ∧ Rd W z x.B ∧ x.In := by
  obtain ⟨cs, rfl, hcs⟩ := okWide_struct Try.underlying30 hval
  rw [cells30] at hcs
  obtain ⟨fuel, hf⟩ := hd
  obtain ⟨xs, k, _, hx, hl, hlen, hfl⟩ := DataW.trod_struct Try.underlying30 hf
  obtain ⟨c0, c1, c2, c3, c4, c5, c6, c7, c8, c9, c10, c11, c12, c13, c14, c15, rfl⟩ : ∃ c0 c1 c2 c3 c4 c5 c6 c7 c8 c9 c10 c11 c12 c13 c14 c15, cs = #[c0, c1, c2, c3, c4, c5, c6, c7, c8, c9, c10, c11, c12, c13, c14, c15] := by
    rcases cs with ⟨l⟩
    match l, hcs with
    | [c0, c1, c2, c3, c4, c5, c6, c7, c8, c9, c10, c11, c12, c13, c14, c15], _ => exact ⟨c0, c1, c2, c3, c4, c5, c6, c7, c8, c9, c10, c11, c12, c13, c14, c15, rfl⟩
  match xs, hlen with
  | [y0, y1, y2, y3, y4], _ =>
    simp only [Prod.mk.injEq] at hx
    have bb : ∀ y ∈ [y0, y1, y2, y3, y4], Rows.uptoBulk y.1 ≤ 1048576 := fun y hy => by
      have := bulk_mem (List.mem_map.2 ⟨y, hy, rfl⟩ : y.1 ∈ [y0, y1, y2, y3, y4].map (·.1))
      rw [hx.1] at hb
      simp only [Rows.uptoBulk] at hb
      omega
    have k28 : Try.prog.cellsOf 28 = 1 := by kernel_rfl
    have k3 : Try.prog.cellsOf 3 = 1 := by kernel_rfl
    have k23 : Try.prog.cellsOf 23 = 1 := by kernel_rfl
    have e0 : DataW.trod enc Try.prog W 0 sp held k 25 ((([c0, c1, c2, c3, c4, c5, c6, c7, c8, c9, c10, c11, c12, c13, c14, c15] : List Value).drop 0).take (Try.prog.cellsOf 25)) = some y0 := hfl 0 _ rfl
    have e1 : DataW.trod enc Try.prog W 0 sp held k 27 ((([c0, c1, c2, c3, c4, c5, c6, c7, c8, c9, c10, c11, c12, c13, c14, c15] : List Value).drop 7).take (Try.prog.cellsOf 27)) = some y1 := hfl 1 _ rfl
    have e2 : DataW.trod enc Try.prog W 0 sp held k 28 ((([c0, c1, c2, c3, c4, c5, c6, c7, c8, c9, c10, c11, c12, c13, c14, c15] : List Value).drop 13).take (Try.prog.cellsOf 28)) = some y2 := hfl 2 _ rfl
    have e3 : DataW.trod enc Try.prog W 0 sp held k 23 ((([c0, c1, c2, c3, c4, c5, c6, c7, c8, c9, c10, c11, c12, c13, c14, c15] : List Value).drop 14).take (Try.prog.cellsOf 23)) = some y3 := hfl 3 _ rfl
    have e4 : DataW.trod enc Try.prog W 0 sp held k 3 ((([c0, c1, c2, c3, c4, c5, c6, c7, c8, c9, c10, c11, c12, c13, c14, c15] : List Value).drop 15).take (Try.prog.cellsOf 3)) = some y4 := hfl 4 _ rfl
    rw [cells25] at e0
    rw [cells27] at e1
    rw [k28] at e2
    rw [k23] at e3
    rw [k3] at e4
    obtain ⟨b, s, p, l, pt, ps', L, rfl, rfl, rfl, rfl, rfl, rfl, rL, zL, ⟨a0, a1, a2, a3⟩, ap, aq⟩ := open_entry e0 (bb y0 (by simp))
    obtain ⟨g, gb, gp, gl, gx, gy, rfl, rfl, rfl, rfl, rfl, rfl, hg⟩ := open_super e1
    obtain ⟨T, rT, zT, zD⟩ := open_puts (d := y2.1) (pl := y2.2) e2 (bb y2 (by simp))
    obtain ⟨B, rB, zB⟩ := open_rd (d := y3.1) (pl := y3.2) e3
    obtain ⟨n, rfl, hn⟩ := open_i e4
    exact ⟨⟨b, s, p, l, pt, ps', L, g, gb, gp, gl, gx, gy, T, B, n⟩, c6, c13, c14, rfl, rL, rT, rB, ⟨a0, zL, Nat.le_trans zB (bb y3 (by simp)), zT, zD, ⟨a1, a2, a3⟩, ⟨ap, aq, hn⟩, hg⟩⟩
end
end Go.Proofs.Ytgodlfoidjeekaa
