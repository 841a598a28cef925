/-
  The walk of package disk's Write where it answers.
-/
import Derived.Test.YtdhendcogjhgfaaD14
import Derived.Test.YtdhendcogjhgfaaCx
import Derived.Great.BuildSlice
namespace Go.Proofs.Ytdhendcogjhgfaa
open Go.RowKit
set_option linter.unusedVariables false

attribute [local go_sem ↓] Go.wp_at_zero Go.wp_at_succ

theorem Try.s95 : (Try.prog.info? 95).map (·.size) = some 513 := by kernel_rfl

theorem Try.u95 : ∃ d, Try.prog.underlying 95 = some d ∧ d.isRow = true := by
  have h : (Try.prog.underlying 95).map (fun d => d.isRow) = some true := by kernel_rfl
  cases e : Try.prog.underlying 95 with
  | none => rw [e] at h; simp at h
  | some d => exact ⟨d, rfl, by rw [e] at h; simpa using h⟩

theorem zero95_run : ∃ zs : Array Value, (∀ W : World, (zeroValue 95).run Try.prog W = .ok (.agg zs) W) ∧ zs.toList = Value.int .i64 0 :: List.replicate 512 (Value.int .u8 0) := by
  obtain ⟨i, z, hi, hz0, hz1, hz2, hz3⟩ := info_zero Try.size95 Try.zero95
  have hzs : z.cells.size = 513 := by rw [← Array.length_toList, hz3, List.length_cons, List.length_replicate]
  obtain ⟨zs, rfl⟩ : ∃ zs, z = .agg zs := by
    cases z <;> first | exact ⟨_, rfl⟩ | (exfalso; simp [Value.cells] at hzs)
  exact ⟨zs, fun W => by simp [zeroValue, typeInfo, hi, hz0], hz3⟩

theorem wpList_storeN {P : Program} {ops : Array Oper} {rest : List Oper} {op : Oper} {a : Act} {w : World} {Q : Exit → Act → World → Prop} (hgd : op.guard = none) (hdst : op.dst = none) (ty : TypeId) (x y : Operand) (ho : op.op = .store ty x y)
    (b o : Nat) (cells : Array Value) (hx : a.eval x = .pointer (some ⟨b, o, none⟩)) (hy : a.eval y = .agg cells)
    (ht : w.there b o cells.size) (hi : (P.info? ty).map (·.size) = some cells.size) (h1 : cells.all (·.oneCell') = true)
    (h : ∀ w2, Hid (w2 = w.setCells b o cells.toList) → wpList P ops Q rest a w2) : wpList P ops Q (op :: rest) a w :=
  wpList_store_mid hgd ty x y ho b o cells hx hy ht hi h1 (by rw [hdst]; exact h _ (hide rfl))

/-- The cells of a write. -/
def wrZ (a : Int) : List Value := .int .i64 a :: List.replicate 512 (Value.int .u8 0)
theorem wrZ_len (a : Int) : (wrZ a).length = 513 := by unfold wrZ; rw [List.length_cons, List.length_replicate]
theorem wrZ_one (a : Int) : ∀ v ∈ wrZ a, v.oneCell' = true := by
  intro v hv
  rcases List.mem_cons.1 hv with rfl | hv
  · rfl
  · rw [(List.mem_replicate.1 hv).2]; rfl

section
variable {ρ : Operand → Value} {o : Oper} {w : World}
theorem x_app {P : Program} {t : TypeId} {s x : Operand} {v xv v' : Value} {w2 : World} (ho : o.op = .call { callee := .builtin .append, args := #[s, x], argTypes := #[t, t] }) (hs : ρ s = v) (hx : ρ x = xv) (hr : (Builtin.append_ #[t, t] o.type #[v, xv]).run P w = .ok v' w2) : (execOp ρ o).run P w = .ok (.value v') w2 := by
  unfold execOp
  simp only [ho, resolve, invoke, builtin, Sem.run_bind, Sem.run_pure, Result.andThen_ok, List.map_toArray, List.map_cons, List.map_nil, hs, hx, hr]

theorem x_load95 {x : Operand} {b of : Nat} {cs : List Value} (ho : o.op = .load 95 x) (hx : ρ x = .pointer (some ⟨b, of, none⟩)) (hl : cs.length = 513) (hc : w.rangeAt b of cs) : (execOp ρ o).run Try.prog w = .ok (.value (.agg cs.toArray)) w := by
  obtain ⟨d, hu, hd⟩ := Try.u95
  have := run_loadAt_mid (P := Try.prog) w b of 95 cs d hc hu hd (by rw [hl]; exact Try.s95)
  simp [execOp, ho, hx, this]

theorem Try.u76 : Try.prog.underlying 76 = some (.slice 95) := by kernel_rfl

theorem x_build95 {x : Operand} {cs : List Value} (hl : cs.length = 513) (ho : o.op = .buildSlice 76 1 #[(0, x)]) (hx : ρ x = .agg cs.toArray) : (execOp ρ o).run Try.prog w = .ok (.value (.slice (some ⟨w.heap.size, 0, none⟩) 1 1)) (w.alloc (.cells cs.toArray 95)) := by
  obtain ⟨ie, z, hie, hz, hs, hby, hzl⟩ := info_zero Try.size95 Try.zero95
  have hzs : z.cells.size = 513 := by rw [← Array.length_toList, hzl, List.length_cons, List.length_replicate]
  have := run_buildSlice (P := Try.prog) w 76 95 1 #[(0, .agg cs.toArray)] cs.toArray ie z Try.u76 hie hz (by rw [hs]; decide) (by rw [hs]; decide) (by
    simp only [Instr.fill, hs, Value.cells]
    simp only [Nat.zero_mul, Nat.zero_add, Nat.one_mul, Array.size_map, Array.size_range]
    rw [if_neg (by simp [hl])]
    refine congrArg some ?_
    apply Array.ext'
    have h2 := fold_set cs 0 ((Array.range 513).map (z.cells[· % z.cells.size]!)) (by simp [hl])
    rw [List.take_zero, List.nil_append, List.drop_of_length_le (by simp [hl]), List.append_nil] at h2
    rw [← Array.foldl_toList, Array.toList_zipIdx]
    exact h2)
  simp [execOp, ho, hx, this]

theorem st76 (W : World) (a : Addr) (old : Value) (ao : Option Addr) (n c : Nat) (h : W.cell? a = some old) (hz : W.frozen? a = false) : (Instr.storeAt 76 (.pointer (some a)) (.slice ao n c)).run Try.prog W = .ok () (W.setCell a (.slice ao n c)) := by simp [go_sem, h, hz]
theorem x_store {t : TypeId} {x y : Operand} {pv v : Value} {w2 : World} (ho : o.op = .store t x y) (hx : ρ x = pv) (hy : ρ y = v) (hr : (Instr.storeAt t pv v).run Try.prog w = .ok () w2) : (execOp ρ o).run Try.prog w = .ok .skip w2 := by
  simp [execOp, ho, hx, hy, hr]
end

section
variable (w : World) (p gs : Nat) (qv : Value) (d : Dk)

set_option maxHeartbeats 1000000 in
set_option maxRecDepth 100000 in
theorem write_ok (a : Int) (lv : Value) (l : List UInt8) (h : KAt w p gs qv d) (hl : Rd w lv l) (he : wrE d a l = 0) : Calls Try.prog 27 #[.pointer (some ⟨p, 0, none⟩), .int .i64 a, lv] w fun e w' => e = .returned (.int .i64 0) ∧ KSt w w' p gs qv (wrD d a l) := by
  have HH := hide (has_any w p gs qv d a h)
  have c0 := cell_of_heap h.heap 0
  have c2 := cell_of_heap h.heap 2
  have c3 := cell_of_heap h.heap 3
  simp at c0 c2 c3
  obtain ⟨lo, lc, rfl⟩ := hl.shape
  obtain ⟨qo, qc, rfl⟩ := owns_shape h.queue
  have hd : hasB d a = true ∧ l.length = d.size ∧ d.off = false ∧ d.Q.length < 4096 := by
    unfold wrE at he
    split at he
    · rename_i h1
      split at he
      · rename_i h2
        split at he
        · simp at he
        · rename_i h3
          split at he
          · simp at he
          · exact ⟨h1, h2, by simpa using h3, by omega⟩
      · simp at he
    · simp at he
  obtain ⟨h1, h2, h3, h4⟩ := hd
  rw [h1] at HH
  rw [h3] at c3
  rw [h2]
  have b2 : decide ((4096 : Int) ≤ (d.Q.length : Int)) = false := by simp; omega
  obtain ⟨zs, hzv, hzl⟩ := zero95_run
  have hzs : zs = (wrZ 0).toArray := by
    have e : zs.toList = wrZ 0 := hzl
    rw [← e]
  subst hzs
  have hset : ∀ v, (wrZ 0).toArray.setIfInBounds 0 (.int .i64 v) = (wrZ v).toArray := fun v => by unfold wrZ; rw [List.setIfInBounds_toArray, List.set_cons_zero]
  have hth : (w.alloc (.cells (wrZ 0).toArray 95)).there w.heap.size 0 (wrZ a).toArray.size := by
    intro j hj
    rw [List.size_toArray, wrZ_len] at hj
    refine ⟨?_, frozen_of_heap (heap_alloc_new w _) _⟩
    rw [Nat.zero_add, cell_of_heap (heap_alloc_new w _), List.getElem?_toArray, List.getElem?_eq_getElem (by rw [wrZ_len]; exact hj)]
    rfl
  have hi95 : (Try.prog.info? 95).map (·.size) = some (wrZ a).toArray.size := by rw [List.size_toArray, wrZ_len]; exact Try.s95
  have hone : (wrZ a).toArray.all (·.oneCell') = true := all_oneCell_toArray (wrZ_one a)
  have hne0 : (wrZ 0 = []) ↔ False := by unfold wrZ; exact ⟨fun h => (List.cons_ne_nil _ _ h).elim, False.elim⟩
  have H := hide h
  have HL := hide hl
  have HE := hide he
  clear h hl he hzl
  go_enter Try.func27, Try.ntmps27
  go_wp2_with (first | go_at_call 54; refine (unhide HH).mono ?_; rintro e w' ⟨rfl, rfl⟩ | (refine wpList_storeN rfl rfl 95 _ _ rfl w.heap.size 0 (wrZ a).toArray rfl rfl hth hi95 hone ?_))
  intro w2 hw2
  replace hw2 := unhide hw2
  obtain ⟨i, rfl, hi⟩ := hasB_iff.1 h1
  have hB2 : w2.heap[w.heap.size]? = some (.cells (wrZ (i : Int)).toArray 95 (0, 0)) := by
    rw [hw2]
    have := setCells_heap w.heap.size 95 (wrZ (i : Int)) 0 (w.alloc (.cells (wrZ 0).toArray 95)) (wrZ 0) (heap_alloc_new w _) (by rw [wrZ_len, wrZ_len]; omega)
    rw [this, List.take_zero, List.nil_append, List.drop_of_length_le (by rw [wrZ_len, wrZ_len]; omega), List.append_nil]
  have f2 : Fr (fun _ => False) w w2 := by rw [hw2]; exact ((Fr.refl _ _).alloc _).trans (setCells_fr _ _ _ _) (fun k hk e => by omega)
  obtain ⟨hs8, hs5⟩ := (unhide H).ok.size
  have hplt := lt_of_heap (unhide H).heap
  obtain ⟨lb, lof, rfl, -, hlc1, hlc2, hlc3⟩ := ((unhide HL).kept f2 (fun _ _ h => h)).lits (by omega)
  have hcp := run_copy_row (P := Try.prog) w2 36 36 3 5 w.heap.size 1 512 512 ⟨lb, lof, none⟩ d.size lc (wrZ (i : Int)).toArray 95 (bvs l) Try.underlying36 (by kernel_rfl) hB2 (by rw [bvs_length, h2]; exact (Nat.min_eq_left hs5).symm)
    (fun j v hv => by
      have hj : j < l.length := by
        have := (List.getElem?_eq_some_iff.1 hv).1
        rwa [bvs_length] at this
      rw [Addr.add_lit, hlc3 j hj]
      rw [bvs_get _ j hj] at hv
      exact hv) (by rw [bvs_length, List.size_toArray, wrZ_len]; omega) (bvs_one _)
  rw [bvs_length, h2] at hcp
  obtain ⟨w3, hw3⟩ : ∃ w3, w3 = w2.setRow w.heap.size (List.take 1 (wrZ (i : Int)).toArray.toList ++ bvs l ++ List.drop (1 + d.size) (wrZ (i : Int)).toArray.toList).toArray := ⟨_, rfl⟩
  rw [← hw3] at hcp
  have hB3 : w3.heap[w.heap.size]? = some (.cells (wrC (i, l)).toArray 95 (0, 0)) := by
    rw [hw3, setRow_heap w2 _ _ _ _ _ hB2]
    have e : List.take 1 (wrZ (i : Int)).toArray.toList ++ bvs l ++ List.drop (1 + d.size) (wrZ (i : Int)).toArray.toList = wrC (i, l) := by
      unfold wrZ wrC pad
      rw [bvs_append, bvs_zero, ← h2, Nat.add_comm 1 l.length, List.drop_succ_cons, List.drop_replicate]
      rfl
    rw [e]
  have f3 : Fr (fun _ => False) w w3 := f2.trans (T := fun b => b = w.heap.size) (by rw [hw3]; exact ⟨rfl, rfl, rfl, by simp, fun k hk hs => setRow_other w2 _ k _ hs⟩) (fun k hk e => by omega)
  have hwl : (wrC (i, l)).length = 513 := wrC_length (by rw [h2]; exact hs5)
  obtain ⟨cs, hcs⟩ : ∃ cs, cs = wrC (i, l) := ⟨_, rfl⟩
  have HCS := hide hcs
  rw [← hcs] at hB3 hwl
  have hrng : w3.rangeAt w.heap.size 0 cs := by
    intro j v hv
    rw [Nat.zero_add, cell_of_heap hB3]
    simpa using hv
  have hone2 : ∀ v ∈ cs, v.oneCell' = true := by
    intro v hv
    rw [hcs] at hv
    rcases List.mem_cons.1 hv with rfl | hv
    · rfl
    · exact bvs_one _ v hv
  have hK3 := (unhide H).kept f3 id id (fun _ _ h => h)
  have y2 := cell_of_heap hK3.heap 2
  have z2 := frozen_of_heap hK3.heap 2
  simp at y2
  have HK3 := hide hK3
  have F3 := hide f3
  have HB3 := hide hB3
  clear hcs hw3 hw2 f2 f3 hB2 hlc3 hK3 hth hi95 hone hset hne0 hB3
  go_wp2_with fail
  refine wp_nameK ?_
  intro a0 hA0
  have h0 : a0.tmps.getD 0 undef = .pointer (some ⟨p, 0, none⟩) := by rw [hA0]; rfl
  have h7 : a0.tmps.getD 7 undef = .pointer (some ⟨w.heap.size, 0, none⟩) := by rw [hA0]; rfl
  have hsz : a0.tmps.size = 52 := by rw [hA0]; rfl
  have hdf : a0.defers = [] := by rw [hA0]
  clear hA0
  have hqlt : ∀ k, (Value.slice qo d.Q.length qc).ownBlock = some k → k < w.heap.size := by
    intro k hk
    rcases (unhide H).queue.2 with ⟨hv, -⟩ | ⟨g, cap, cur, hv, -, hg, -⟩
    · rw [hv] at hk; simp [Value.ownBlock] at hk
    · rw [hv] at hk; simp [Value.ownBlock] at hk; subst hk; exact lt_of_heap hg
  have hqne : ∀ k, (Value.slice qo d.Q.length qc).ownBlock = some k → k ≠ p ∧ k ≠ gs := by
    intro k hk
    rcases (unhide H).queue.2 with ⟨hv, -⟩ | ⟨g, cap, cur, hv, -, hg, -⟩
    · rw [hv] at hk; simp [Value.ownBlock] at hk
    · rw [hv] at hk
      simp [Value.ownBlock] at hk
      subst hk
      refine ⟨fun e => ?_, fun e => ?_⟩
      · subst e; have := (unhide H).heap; rw [hg] at this; simp at this
      · subst e; have := (unhide H).secs; rw [hg] at this; simp at this
  have hglt := lt_of_heap (unhide H).secs
  have hpgs := (unhide H).ne
  have hw3 : w.heap.size < w3.heap.size := lt_of_heap (unhide HB3)
  obtain ⟨inf, zv, hi0, hz0, hz1, hz2, hz3⟩ := info_zero Try.size95 Try.zero95
  have hzs : zv.cells.size = 513 := by rw [← Array.length_toList, hz3, List.length_cons, List.length_replicate]
  clear hz3
  refine wp_region_kinds (fun k => k = p ∨ (Value.slice qo d.Q.length qc).ownBlock = some k) (by kernel_rfl) (by kernel_rfl) (by decide +kernel) (by rw [hsz]; decide +kernel)
    [.eq (.pointer (some ⟨p, 0, none⟩)), .eq (.pointer (some ⟨p, 0, none⟩)), .eq (.pointer (some ⟨p, 0, none⟩)), .eq (.pointer (some ⟨p, 2, none⟩)), .eq (.slice qo d.Q.length qc), .eq (.agg cs.toArray),
      .pr (fun v W => ∃ g, v = .slice (some ⟨g, 0, none⟩) 1 1 ∧ w.heap.size ≤ g ∧ W.heap[g]? = some (.cells cs.toArray 95 (0, 0))) (by
        rintro v w1 w2 ⟨g, rfl, hg, hh⟩ f
        refine ⟨g, rfl, hg, ?_⟩
        rw [f.block g (lt_of_heap hh) (fun e => by rcases e with e | e; (omega); (have := hqlt g e; omega))]
        exact hh),
      .st 1 (fun v W => ∃ ao cap, v = .slice ao (d.Q.length + 1) cap ∧ W.ownsRow 0 95 513 (.slice ao (d.Q.length + 1) cap) (d.Q.length + 1) (wrF d.Q ++ cs) ∧ ∀ b, (Value.slice ao (d.Q.length + 1) cap).ownBlock = some b → (Value.slice qo d.Q.length qc).ownBlock = some b ∨ w.heap.size ≤ b) (by
        rintro v w1 w2 ⟨ao, cap, rfl, ho, hb⟩ f
        exact ⟨ao, cap, rfl, owns_kept ho f (fun _ _ h => h), hb⟩),
      .eq (.pointer (some ⟨p, 0, none⟩)), .eq (.pointer (some ⟨p, 2, none⟩))]
    [7, 10] (by decide) (by decide) (chain_paths _ [[7]] (by kernel_rfl))
    (fun k W => match k with
      | 0 => KAt W p gs (.slice qo d.Q.length qc) d ∧ W.heap[w.heap.size]? = some (.cells cs.toArray 95 (0, 0))
      | 1 => W.heap[p]? = w.heap[p]? ∧ W.heap[gs]? = w.heap[gs]?
      | _ => ∃ qv', KAt W p gs qv' { d with Q := d.Q ++ [(i, l)] } ∧ ∀ b, qv'.ownBlock = some b → (Value.slice qo d.Q.length qc).ownBlock = some b ∨ w.heap.size ≤ b)
    ⟨(unhide HK3).kept ((Fr.refl (fun _ => False) w3).drew) id id (fun _ _ h => h), unhide HB3⟩ ?steps ?done
  case steps =>
    refine ⟨?_, ?_⟩
    · intro a' w' k' hb hf hs hc hq hg hd
      exact ⟨wantedN rfl, k_val (.pointer (some ⟨p, 0, none⟩)) (by decide) hs (x_move rfl ((hb.old 0 (by decide +kernel)).trans h0)) rfl⟩
    refine ⟨?_, ?_⟩
    · intro a' w' k' hb hf hs hc hq hg hd
      exact ⟨wantedN rfl, k_val (.pointer (some ⟨p, 0, none⟩)) (by decide) hs (x_move rfl ((hb.old 0 (by decide +kernel)).trans h0)) rfl⟩
    refine ⟨?_, ?_⟩
    · intro a' w' k' hb hf hs hc hq hg hd
      exact ⟨wantedN rfl, k_val (.pointer (some ⟨p, 0, none⟩)) (by decide) hs (x_nilCheck rfl (hd 1 (by kernel_rfl) 43 rfl)) rfl⟩
    refine ⟨?_, ?_⟩
    · intro a' w' k' hb hf hs hc hq hg hd
      exact ⟨wantedN rfl, k_val (.pointer (some ⟨p, 2, none⟩)) (by decide) hs (x_field (fa78_2 p) rfl (hd 2 (by kernel_rfl) 44 rfl)) rfl⟩
    refine ⟨?_, ?_⟩
    · intro a' w' k' hb hf hs hc hq hg hd
      obtain rfl : k' = 0 := Nat.le_zero.1 (hq 0 7 rfl (.one (i := 7) rfl (by kernel_rfl)))
      have y := cell_of_heap hs.1.heap 2
      simp at y
      exact ⟨wantedN rfl, k_val (.slice qo d.Q.length qc) (by decide) hs (x_load1 ld76 rfl (hd 3 (by kernel_rfl) 45 rfl) y) rfl⟩
    refine ⟨?_, ?_⟩
    · intro a' w' k' hb hf hs hc hq hg hd
      obtain rfl : k' = 0 := Nat.le_zero.1 (hq 0 7 rfl (.step (i := 7) (m := 6) rfl (by kernel_rfl) (.one (i := 6) rfl (by kernel_rfl))))
      exact ⟨wantedN rfl, k_val (.agg cs.toArray) (by decide) hs (x_load95 rfl ((hb.old 7 (by decide +kernel)).trans h7) hwl (fun j v hv => by rw [Nat.zero_add, cell_of_heap hs.2]; simpa using hv)) rfl⟩
    refine ⟨?_, ?_⟩
    · intro a' w' k' hb hf hs hc hq hg hd
      obtain rfl : k' = 0 := Nat.le_zero.1 (hq 0 7 rfl (.one (i := 7) rfl (by kernel_rfl)))
      have fa : Fr (fun _ => False) w' (w'.alloc (.cells cs.toArray 95)) := (Fr.refl _ _).alloc _
      exact ⟨wantedN rfl, k_new _ _ (by decide) ⟨hs.1.kept fa id id (fun _ _ h => h), by rw [fa.block _ (lt_of_heap hs.2) id]; exact hs.2⟩ fa (x_build95 hwl rfl (hd 5 (by kernel_rfl) 47 rfl)) ⟨w'.heap.size, rfl, by have := hf.size; omega, heap_alloc_new _ _⟩⟩
    refine ⟨?_, ?_⟩
    · intro a' w' k' hb hf hs hc hq hg hd
      obtain rfl := hc 0 rfl
      obtain ⟨g, hg, hgN, hgh⟩ := hd 6 (by kernel_rfl) 48 rfl
      obtain ⟨v2, w2, hr2, ho2, hg2, hn2⟩ := run_app (P := Try.prog) w' 76 76 95 inf zv 513 520 Try.u76 hi0 hz0 hz1 hz2 hzs (by decide) (.slice qo d.Q.length qc) d.Q.length (wrF d.Q) hs.1.queue (.slice (some ⟨g, 0, none⟩) 1 1) 1 cs
        (.inr ⟨_, _, rfl, by rw [hwl], fun j u hu => by rw [Addr.add_lit, Nat.zero_add, cell_of_heap hgh]; simpa using hu⟩) hone2 (by omega) (by simp only [maxLen]; omega)
      obtain ⟨ao2, cap2, rfl⟩ := owns_shape ho2
      have f2 : Fr (fun k => (Value.slice qo d.Q.length qc).ownBlock = some k) w' w2 := (Fr.refl _ _).grown hg2 (fun k _ e => e)
      exact ⟨wantedN rfl, k_chain _ w2 (by decide) ⟨by rw [f2.block p (lt_of_heap hs.1.heap) (fun e => (hqne p e).1 rfl), hs.1.heap, (unhide H).heap], by rw [f2.block gs (lt_of_heap hs.1.secs) (fun e => (hqne gs e).2 rfl), hs.1.secs, (unhide H).secs]⟩ (f2.mono (fun _ _ e => .inr e)) (x_app rfl (hd 4 (by kernel_rfl) 46 rfl) hg hr2) ⟨Nat.le_refl 1, fun _ => ⟨ao2, cap2, rfl, ho2, fun b hb2 => by
        rcases hn2 with e | e
        · rw [e] at hb2; exact .inl hb2
        · rw [e] at hb2; right; have := hf.size; simp at hb2; omega⟩⟩⟩
    refine ⟨?_, ?_⟩
    · intro a' w' k' hb hf hs hc hq hg hd
      exact ⟨wantedN rfl, k_val (.pointer (some ⟨p, 0, none⟩)) (by decide) hs (x_nilCheck rfl (hd 0 (by kernel_rfl) 42 rfl)) rfl⟩
    refine ⟨?_, ?_⟩
    · intro a' w' k' hb hf hs hc hq hg hd
      exact ⟨wantedN rfl, k_val (.pointer (some ⟨p, 2, none⟩)) (by decide) hs (x_field (fa78_2 p) rfl (hd 8 (by kernel_rfl) 50 rfl)) rfl⟩
    refine ⟨?_, ?_⟩
    · intro a' w' k' hb hf hs hc hq hg hd
      obtain rfl := hc 1 rfl
      obtain ⟨ao2, cap2, hv2, ho2, hn2⟩ := (hd 7 (by kernel_rfl) 49 rfl).2 rfl
      have hp' : w'.heap[p]? = _ := hs.1.trans (unhide H).heap
      have hgs' : w'.heap[gs]? = _ := hs.2.trans (unhide H).secs
      have y := cell_of_heap hp' 2
      simp at y
      have fs : Fr (fun k => k = p) w' (w'.setCell ⟨p, 2, none⟩ (.slice ao2 (d.Q.length + 1) cap2)) := (Fr.refl (fun k => k = p) w').setCell (p := ⟨p, 2, none⟩) (fun _ => rfl) _
      refine ⟨wantedN rfl, k_store _ (by decide) ⟨.slice ao2 (d.Q.length + 1) cap2, ⟨?_, ?_, ?_, ?_⟩, hn2⟩ (fs.mono (fun _ _ e => .inl e)) (x_store rfl (hd 9 (by kernel_rfl) 51 rfl) hv2 (st76 w' _ _ ao2 _ cap2 y (frozen_of_heap hp' 2))) trivial⟩
      · rw [heap_setCell_same w' p 2 _ 78 _ hp']; rfl
      · rw [fs.block gs (lt_of_heap hgs') (fun e => hpgs e.symm), hgs']
      · have e1 : wrF (d.Q ++ [(i, l)]) = wrF d.Q ++ cs := by unfold wrF; rw [List.map_append, List.flatten_append, unhide HCS]; simp
        have e2 : (d.Q ++ [(i, l)]).length = d.Q.length + 1 := by simp
        show (w'.setCell _ _).ownsRow 0 95 513 _ (d.Q ++ [(i, l)]).length (wrF (d.Q ++ [(i, l)]))
        rw [e1, e2]
        exact owns_kept ho2 fs (fun b hb2 e => by subst e; rcases hn2 _ hb2 with e | e; exact (hqne _ e).1 rfl; omega)
      · have hok := (unhide H).ok
        refine ⟨hok.size, hok.len, hok.sec, fun q hq => ?_, by simp; omega, hok.few, hok.lay⟩
        rcases List.mem_append.1 hq with hq | hq
        · exact hok.wr q hq
        · simp at hq; subst hq; exact ⟨h2, hi⟩
    exact trivial
  case done =>
    intro a' w' hb hf hs hall
    have hdf' : a'.defers = [] := by rw [hb.defers]; exact hdf
    have hfin : KSt w w' p gs (.slice qo d.Q.length qc) (wrD d (i : Int) l) := by
      have e0 : wrE d (i : Int) l = 0 := unhide HE
      unfold wrD
      rw [if_pos e0, Int.toNat_natCast]
      exact ⟨hs, ((unhide F3).mono (fun _ _ h => h.elim)).trans hf (fun k _ e => by rcases e with e | e; exact .inl e; exact .inr (.inr e))⟩
    have HFIN := hide hfin
    have hsz' : 6 < a'.tmps.size := by rw [hb.size, hsz]; omega
    clear hall hs hfin hb hf hcp c0 c2 c3
    apply_assumption
    go_wp2_with fail
    exact bodyPost_ret (v := .int .i64 0) (by simp [results, Try.results27, go_sem, hsz']) rfl ⟨rfl, unhide HFIN⟩
end
end Go.Proofs.Ytdhendcogjhgfaa
