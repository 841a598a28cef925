/-
  The walk of the laws' act: Lose and Turn.
-/
import Derived.Test.YtdhendcogjhgfaaL2
import Derived.Test.YtdhendcogjhgfaaFullWalk
namespace Go.Proofs.Ytdhendcogjhgfaa
open Go.RowKit
set_option linter.unusedVariables false

attribute [local go_sem ↓] Go.wp_at_zero Go.wp_at_succ

theorem Mq.toS {w w' : World} {p gs : Nat} {q q' : Value} {p2 sg hg : Nat} {q2 q2' : Value} {N : Nat} (m : Mq w w' p gs q p2 sg hg q2 q' q2') (hN : N ≤ w.heap.size) : Fr (fun k => KB p gs q k ∨ RB p2 sg hg q2 k ∨ N ≤ k) w w' :=
  m.f.mono (fun k _ e => e.elim .inl (fun e => .inr (.inl e)))
theorem Mq.toS2 {w1 w w' : World} {p gs : Nat} {q q' q'' : Value} {p2 sg hg : Nat} {q2 q2' q2'' : Value} (n : Mq w w' p gs q' p2 sg hg q2' q'' q2'') (m : Mq w1 w p gs q p2 sg hg q2 q' q2') : Fr (fun k => KB p gs q k ∨ RB p2 sg hg q2 k ∨ w1.heap.size ≤ k) w w' :=
  n.f.mono (fun k _ e => by
    rcases e with e | e
    · rcases m.k k e with e | e
      · exact .inl e
      · exact .inr (.inr e)
    · rcases m.r k e with e | e
      · exact .inr (.inl e)
      · exact .inr (.inr e))
theorem ld35 (W : World) (a : Addr) (u : Value) (h : W.cell? a = some u) : (Instr.loadAt 35 (.pointer (some a))).run Try.prog W = .ok u W := by simp [go_sem, h]
theorem fa39_1 (b : Nat) (W : World) : (Instr.fieldAt 39 (.pointer (some ⟨b, 0, none⟩)) 1).run Try.prog W = .ok (.pointer (some ⟨b, 0 + 1, none⟩)) W := by simp [go_sem]
theorem fa39_2 (b : Nat) (W : World) : (Instr.fieldAt 39 (.pointer (some ⟨b, 0, none⟩)) 2).run Try.prog W = .ok (.pointer (some ⟨b, 0 + 2, none⟩)) W := by simp [go_sem]
theorem fa39_3 (b : Nat) (W : World) : (Instr.fieldAt 39 (.pointer (some ⟨b, 0, none⟩)) 3).run Try.prog W = .ok (.pointer (some ⟨b, 0 + 3, none⟩)) W := by simp [go_sem]
theorem fa39_4 (b : Nat) (W : World) : (Instr.fieldAt 39 (.pointer (some ⟨b, 0, none⟩)) 4).run Try.prog W = .ok (.pointer (some ⟨b, 0 + 4, none⟩)) W := by simp [go_sem]
theorem fa39_5 (b : Nat) (W : World) : (Instr.fieldAt 39 (.pointer (some ⟨b, 0, none⟩)) 5).run Try.prog W = .ok (.pointer (some ⟨b, 0 + 5, none⟩)) W := by simp [go_sem]
theorem cf31 (args : Array Value) (W : World) : Sem.run Try.prog (callFunc 31 args) W = .ok (.enter 31 args) W := by simp [go_sem]
theorem cf32 (args : Array Value) (W : World) : Sem.run Try.prog (callFunc 32 args) W = .ok (.enter 32 args) W := by simp [go_sem]
theorem cf33 (args : Array Value) (W : World) : Sem.run Try.prog (callFunc 33 args) W = .ok (.enter 33 args) W := by simp [go_sem]
theorem cf46 (args : Array Value) (W : World) : Sem.run Try.prog (callFunc 46 args) W = .ok (.enter 46 args) W := by simp [go_sem]
theorem cf41 (args : Array Value) (W : World) : Sem.run Try.prog (callFunc 41 args) W = .ok (.enter 41 args) W := by simp [go_sem]
section
variable {ρ : Operand → Value} {o : Oper} {w : World}
theorem e_call4 {k : Nat} {x y z q : Operand} {t : Array TypeId} {u v r s : Value} (ho : o.op = .call { callee := .value (.func k), args := #[x, y, z, q], argTypes := t }) (hf : ρ (.func k) = .func (.func k) #[] #[]) (hx : ρ x = u) (hy : ρ y = v) (hz : ρ z = r) (hq : ρ q = s) (hk : ∀ args W, Sem.run Try.prog (callFunc k args) W = .ok (.enter k args) W) : (execOp ρ o).run Try.prog w = .ok (.enter k #[u, v, r, s]) w := by
  have hk' := hk #[u, v, r, s] w
  simp [execOp, ho, hf, hx, hy, hz, hq, go_sem, hk']
end

section
variable (w0 w : World) (p gs : Nat) (q : Value) (p2 sg hg : Nat) (q2 : Value) (d : Dk) (k a b : Int) (m : Nat) (dv kv : Value) (D : List UInt8) (K : List Int)

set_option maxHeartbeats 1000000 in
set_option maxRecDepth 100000 in
theorem act_lose (i : AcI w0 w p gs q p2 sg hg q2 d m dv kv D K) : Calls Try.prog 15 #[.pointer (some ⟨p, 0, none⟩), .pointer (some ⟨p2, 0, none⟩), .agg #[.int .i64 6, .int .i64 a, .int .i64 b, .int .u32 (m : Int), dv, kv]] w fun r w' => r = .returned (.tuple #[.pointer (some ⟨p, 0, none⟩), .bool true]) ∧ AcO w0 w p gs q p2 sg hg q2 w' (loD d a) := by
  have hm := i.hm
  have f1 : Fr (fun _ => False) w (w.alloc (Obj.cells #[.int .i64 6, .int .i64 a, .int .i64 b, .int .u32 (m : Int), dv, kv] 39)) := (Fr.refl _ _).alloc _
  have hb1 : (w.alloc (Obj.cells #[.int .i64 6, .int .i64 a, .int .i64 b, .int .u32 (m : Int), dv, kv] 39)).heap[w.heap.size]? = some (.cells #[.int .i64 6, .int .i64 a, .int .i64 b, .int .u32 (m : Int), dv, kv] 39 (0, 0)) := heap_alloc_new w _
  have H1 := hide (i.h.fr f1)
  have M1 := hide (Mq.ofFr (p := p) (gs := gs) (q := q) (p2 := p2) (sg := sg) (hg := hg) (q2 := q2) f1)
  have HA := hide (Ap.new i.h (Nat.le_refl w.heap.size) (lt_of_heap hb1))
  have HB := hide hb1
  clear i f1 hb1
  go_enter Try.func15, Try.ntmps15
  go_wp2_with fail
  refine wp_world ?_
  intro w1 hw1
  rw [← hw1] at H1 M1 HA HB
  have x1 := cell_of_heap (unhide HB) 1
  have x2 := cell_of_heap (unhide HB) 2
  have x3 := cell_of_heap (unhide HB) 3
  simp at x1 x2 x3
  have hbl : w.heap.size < w1.heap.size := lt_of_heap (unhide HB)
  have hw1s : w.heap.size ≤ w1.heap.size := Nat.le_of_lt hbl
  have hbn : ¬ (KB p gs q w.heap.size ∨ RB p2 sg hg q2 w.heap.size ∨ w1.heap.size ≤ w.heap.size) := fun e => by
    rcases e with e | e | e
    · exact (unhide HA).2.1 e
    · exact (unhide HA).2.2 e
    · omega
  clear hw1
  refine wp_nameK ?_
  intro a0 hA
  have h0 : a0.tmps.getD 0 undef = .pointer (some ⟨p, 0, none⟩) := by rw [hA]; rfl
  have h1 : a0.tmps.getD 1 undef = .pointer (some ⟨p2, 0, none⟩) := by rw [hA]; rfl
  have h5 : a0.tmps.getD 5 undef = .pointer (some ⟨w.heap.size, 0, none⟩) := by rw [hA]; rfl
  have hsz : a0.tmps.size = 138 := by rw [hA]; rfl
  have hdf : a0.defers = [] := by rw [hA]
  clear hA
  refine wp_region_kinds (fun k => KB p gs q k ∨ RB p2 sg hg q2 k ∨ w1.heap.size ≤ k) (by kernel_rfl) (by kernel_rfl) (by decide +kernel) (by rw [hsz]; decide +kernel) [.eq (.pointer (some ⟨p, 0, none⟩)), .eq (.pointer (some ⟨p, 0, none⟩)), .eq (.pointer (some ⟨w.heap.size, 0 + 1, none⟩)), .eq (.int .i64 a), .eq (.int .i64 (reE d a true)), .eq (.int .i64 (reE d a true)), .eq (.pointer (some ⟨p2, 0, none⟩)), .eq (.pointer (some ⟨w.heap.size, 0 + 1, none⟩)), .eq (.int .i64 a), .eq (.int .i64 (reE d a true)), .eq (.bool true), .eq (.pointer (some ⟨p, 0, none⟩)), .eq (.bool true)] [4, 9] (by decide) (by decide) (paths2 (waits (by kernel_rfl))) (fun k W => match k with
      | 0 => Pq w0 W p gs q p2 sg hg q2 d d ∧ Mq w1 W p gs q p2 sg hg q2 q q2
      | 1 => ∃ q', Pq w0 W p gs q' p2 sg hg q2 (loD d a) d ∧ Mq w1 W p gs q p2 sg hg q2 q' q2
      | _ => ∃ q' q2', Pq w0 W p gs q' p2 sg hg q2' (loD d a) (loD d a) ∧ Mq w1 W p gs q p2 sg hg q2 q' q2') ⟨(unhide H1).fr ((Fr.refl _ _).drew), Mq.ofFr ((Fr.refl _ _).drew)⟩ ?steps ?done
  case steps =>
    refine ⟨?_, ?_⟩
    · intro a' w' k' hb hf hs hc hq hg hd
      exact ⟨wantedN rfl, k_val (.pointer (some ⟨p, 0, none⟩)) (by decide) hs (x_move rfl ((hb.old 0 (by decide +kernel)).trans h0)) rfl⟩
    refine ⟨?_, ?_⟩
    · intro a' w' k' hb hf hs hc hq hg hd
      exact ⟨wantedN rfl, k_val (.pointer (some ⟨p, 0, none⟩)) (by decide) hs (x_move rfl ((hb.old 0 (by decide +kernel)).trans h0)) rfl⟩
    refine ⟨?_, ?_⟩
    · intro a' w' k' hb hf hs hc hq hg hd
      exact ⟨wantedN rfl, k_val (.pointer (some ⟨w.heap.size, 0 + 1, none⟩)) (by decide) hs (x_field (fa39_1 w.heap.size) rfl ((hb.old 5 (by decide +kernel)).trans h5)) rfl⟩
    refine ⟨?_, ?_⟩
    · intro a' w' k' hb hf hs hc hq hg hd
      exact ⟨wantedN rfl, k_val (.int .i64 a) (by decide) hs (x_load1 ld3 rfl (hd 2 (by kernel_rfl) 82 rfl) ((hf.cell (a := ⟨w.heap.size, 1, none⟩) hbl hbn).trans x1)) rfl⟩
    refine ⟨?_, ?_⟩
    · intro a' w' k' hb hf hs hc hq hg hd
      obtain rfl := hc 0 rfl; obtain ⟨h7, m7⟩ := hs; exact ⟨wantedN rfl, k_callC 33 _ (by decide) (e_call2 rfl rfl (hd 1 (by kernel_rfl) 81 rfl) (hd 3 (by kernel_rfl) 83 rfl) cf33) ((lop_any a h7).mono (by rintro e w7 ⟨rfl, q8, h8, m8⟩; exact ⟨_, rfl, rfl, m8.toS (by have := hf.size; omega), q8, h8, m7.trans m8⟩))⟩
    refine ⟨?_, ?_⟩
    · intro a' w' k' hb hf hs hc hq hg hd
      exact ⟨wantedN rfl, k_call 14 _ (by decide) (e_call1 rfl rfl (hd 4 (by kernel_rfl) 84 rfl) cf14) ((num_any _ _).mono (by rintro e w7 ⟨rfl, rfl⟩; exact ⟨_, rfl, rfl, Fr.refl _ _, hs⟩))⟩
    refine ⟨?_, ?_⟩
    · intro a' w' k' hb hf hs hc hq hg hd
      exact ⟨wantedN rfl, k_val (.pointer (some ⟨p2, 0, none⟩)) (by decide) hs (x_move rfl ((hb.old 1 (by decide +kernel)).trans h1)) rfl⟩
    refine ⟨?_, ?_⟩
    · intro a' w' k' hb hf hs hc hq hg hd
      exact ⟨wantedN rfl, k_val (.pointer (some ⟨w.heap.size, 0 + 1, none⟩)) (by decide) hs (x_field (fa39_1 w.heap.size) rfl ((hb.old 5 (by decide +kernel)).trans h5)) rfl⟩
    refine ⟨?_, ?_⟩
    · intro a' w' k' hb hf hs hc hq hg hd
      exact ⟨wantedN rfl, k_val (.int .i64 a) (by decide) hs (x_load1 ld3 rfl (hd 7 (by kernel_rfl) 87 rfl) ((hf.cell (a := ⟨w.heap.size, 1, none⟩) hbl hbn).trans x1)) rfl⟩
    refine ⟨?_, ?_⟩
    · intro a' w' k' hb hf hs hc hq hg hd
      obtain rfl := hc 1 rfl; obtain ⟨q7, h7, m7⟩ := hs; exact ⟨wantedN rfl, k_callC 46 _ (by decide) (e_call2 rfl rfl (hd 6 (by kernel_rfl) 86 rfl) (hd 8 (by kernel_rfl) 88 rfl) cf46) ((lor_any a h7).mono (by rintro e w7 ⟨rfl, q8, h8, m8⟩; exact ⟨_, rfl, rfl, m8.toS2 m7, q7, q8, h8, m7.trans m8⟩))⟩
    refine ⟨?_, ?_⟩
    · intro a' w' k' hb hf hs hc hq hg hd
      exact ⟨wantedN rfl, k_val (.bool true) (by decide) hs (x_eqI Try.underlying3 rfl (hd 5 (by kernel_rfl) 85 rfl) (hd 9 (by kernel_rfl) 89 rfl) (by first | rfl | decide | simp)) rfl⟩
    refine ⟨?_, ?_⟩
    · intro a' w' k' hb hf hs hc hq hg hd
      exact ⟨wantedN rfl, k_val (.pointer (some ⟨p, 0, none⟩)) (by decide) hs (x_assign rfl (hd 0 (by kernel_rfl) 80 rfl)) rfl⟩
    refine ⟨?_, ?_⟩
    · intro a' w' k' hb hf hs hc hq hg hd
      exact ⟨wantedN rfl, k_val (.bool true) (by decide) hs (x_assign rfl (hd 10 (by kernel_rfl) 90 rfl)) rfl⟩
    exact trivial
  case done =>
    intro a' w' hb hf hs hall
    have h6 : a'.tmps.getD 6 undef = .pointer (some ⟨p, 0, none⟩) := hall 11 (by decide) 6 rfl
    have h7 : a'.tmps.getD 7 undef = .bool true := hall 12 (by decide) 7 rfl
    have hdf' : a'.defers = [] := by rw [hb.defers]; exact hdf
    have hr : bodyPost Try.prog Try.f15 (fun r w' => r = Ending.returned (Value.tuple #[.pointer (some ⟨p, 0, none⟩), .bool true]) ∧ AcO w0 w p gs q p2 sg hg q2 w' (loD d a)) .ret a' w' :=
      bodyPost_ret (v := .tuple #[.pointer (some ⟨p, 0, none⟩), .bool true]) (by
        have h6' : a'.tmps[6]?.getD undef = .pointer (some ⟨p, 0, none⟩) := by simpa using h6
        have h7' : a'.tmps[7]?.getD undef = .bool true := by simpa using h7
        simp [results, Try.results15, go_sem, h6', h7']) hdf' ⟨rfl, by obtain ⟨q8, q9, h8, m8⟩ := hs; exact ⟨q8, q9, h8, (unhide M1).trans m8⟩⟩
    clear hall hb
    apply_assumption
    exact wp_ret hr

set_option maxHeartbeats 1000000 in
set_option maxRecDepth 100000 in
theorem act_turn (i : AcI w0 w p gs q p2 sg hg q2 d m dv kv D K) : Calls Try.prog 15 #[.pointer (some ⟨p, 0, none⟩), .pointer (some ⟨p2, 0, none⟩), .agg #[.int .i64 7, .int .i64 a, .int .i64 b, .int .u32 (m : Int), dv, kv]] w fun r w' => r = .returned (.tuple #[.pointer (some ⟨p, 0, none⟩), .bool true]) ∧ AcO w0 w p gs q p2 sg hg q2 w' (tuD d a b m) := by
  have hm := i.hm
  have f1 : Fr (fun _ => False) w (w.alloc (Obj.cells #[.int .i64 7, .int .i64 a, .int .i64 b, .int .u32 (m : Int), dv, kv] 39)) := (Fr.refl _ _).alloc _
  have hb1 : (w.alloc (Obj.cells #[.int .i64 7, .int .i64 a, .int .i64 b, .int .u32 (m : Int), dv, kv] 39)).heap[w.heap.size]? = some (.cells #[.int .i64 7, .int .i64 a, .int .i64 b, .int .u32 (m : Int), dv, kv] 39 (0, 0)) := heap_alloc_new w _
  have H1 := hide (i.h.fr f1)
  have M1 := hide (Mq.ofFr (p := p) (gs := gs) (q := q) (p2 := p2) (sg := sg) (hg := hg) (q2 := q2) f1)
  have HA := hide (Ap.new i.h (Nat.le_refl w.heap.size) (lt_of_heap hb1))
  have HB := hide hb1
  clear i f1 hb1
  go_enter Try.func15, Try.ntmps15
  go_wp2_with fail
  refine wp_world ?_
  intro w1 hw1
  rw [← hw1] at H1 M1 HA HB
  have x1 := cell_of_heap (unhide HB) 1
  have x2 := cell_of_heap (unhide HB) 2
  have x3 := cell_of_heap (unhide HB) 3
  simp at x1 x2 x3
  have hbl : w.heap.size < w1.heap.size := lt_of_heap (unhide HB)
  have hw1s : w.heap.size ≤ w1.heap.size := Nat.le_of_lt hbl
  have hbn : ¬ (KB p gs q w.heap.size ∨ RB p2 sg hg q2 w.heap.size ∨ w1.heap.size ≤ w.heap.size) := fun e => by
    rcases e with e | e | e
    · exact (unhide HA).2.1 e
    · exact (unhide HA).2.2 e
    · omega
  clear hw1
  refine wp_nameK ?_
  intro a0 hA
  have h0 : a0.tmps.getD 0 undef = .pointer (some ⟨p, 0, none⟩) := by rw [hA]; rfl
  have h1 : a0.tmps.getD 1 undef = .pointer (some ⟨p2, 0, none⟩) := by rw [hA]; rfl
  have h5 : a0.tmps.getD 5 undef = .pointer (some ⟨w.heap.size, 0, none⟩) := by rw [hA]; rfl
  have hsz : a0.tmps.size = 138 := by rw [hA]; rfl
  have hdf : a0.defers = [] := by rw [hA]
  clear hA
  refine wp_region_kinds (fun k => KB p gs q k ∨ RB p2 sg hg q2 k ∨ w1.heap.size ≤ k) (by kernel_rfl) (by kernel_rfl) (by decide +kernel) (by rw [hsz]; decide +kernel) [.eq (.pointer (some ⟨p, 0, none⟩)), .eq (.pointer (some ⟨p, 0, none⟩)), .eq (.pointer (some ⟨w.heap.size, 0 + 1, none⟩)), .eq (.int .i64 a), .eq (.pointer (some ⟨w.heap.size, 0 + 2, none⟩)), .eq (.int .i64 b), .eq (.pointer (some ⟨w.heap.size, 0 + 3, none⟩)), .eq (.int .u32 (m : Int)), .eq (.int .i64 (tuE d a b m)), .eq (.int .i64 (tuE d a b m)), .eq (.pointer (some ⟨p2, 0, none⟩)), .eq (.pointer (some ⟨w.heap.size, 0 + 1, none⟩)), .eq (.int .i64 a), .eq (.pointer (some ⟨w.heap.size, 0 + 2, none⟩)), .eq (.int .i64 b), .eq (.pointer (some ⟨w.heap.size, 0 + 3, none⟩)), .eq (.int .u32 (m : Int)), .eq (.int .i64 (tuE d a b m)), .eq (.bool true), .eq (.pointer (some ⟨p, 0, none⟩)), .eq (.bool true)] [8, 17] (by decide) (by decide) (paths2 (waits (by kernel_rfl))) (fun k W => match k with
      | 0 => Pq w0 W p gs q p2 sg hg q2 d d ∧ Mq w1 W p gs q p2 sg hg q2 q q2
      | 1 => ∃ q', Pq w0 W p gs q' p2 sg hg q2 (tuD d a b m) d ∧ Mq w1 W p gs q p2 sg hg q2 q' q2
      | _ => ∃ q' q2', Pq w0 W p gs q' p2 sg hg q2' (tuD d a b m) (tuD d a b m) ∧ Mq w1 W p gs q p2 sg hg q2 q' q2') ⟨(unhide H1).fr ((Fr.refl _ _).drew), Mq.ofFr ((Fr.refl _ _).drew)⟩ ?steps ?done
  case steps =>
    refine ⟨?_, ?_⟩
    · intro a' w' k' hb hf hs hc hq hg hd
      exact ⟨wantedN rfl, k_val (.pointer (some ⟨p, 0, none⟩)) (by decide) hs (x_move rfl ((hb.old 0 (by decide +kernel)).trans h0)) rfl⟩
    refine ⟨?_, ?_⟩
    · intro a' w' k' hb hf hs hc hq hg hd
      exact ⟨wantedN rfl, k_val (.pointer (some ⟨p, 0, none⟩)) (by decide) hs (x_move rfl ((hb.old 0 (by decide +kernel)).trans h0)) rfl⟩
    refine ⟨?_, ?_⟩
    · intro a' w' k' hb hf hs hc hq hg hd
      exact ⟨wantedN rfl, k_val (.pointer (some ⟨w.heap.size, 0 + 1, none⟩)) (by decide) hs (x_field (fa39_1 w.heap.size) rfl ((hb.old 5 (by decide +kernel)).trans h5)) rfl⟩
    refine ⟨?_, ?_⟩
    · intro a' w' k' hb hf hs hc hq hg hd
      exact ⟨wantedN rfl, k_val (.int .i64 a) (by decide) hs (x_load1 ld3 rfl (hd 2 (by kernel_rfl) 95 rfl) ((hf.cell (a := ⟨w.heap.size, 1, none⟩) hbl hbn).trans x1)) rfl⟩
    refine ⟨?_, ?_⟩
    · intro a' w' k' hb hf hs hc hq hg hd
      exact ⟨wantedN rfl, k_val (.pointer (some ⟨w.heap.size, 0 + 2, none⟩)) (by decide) hs (x_field (fa39_2 w.heap.size) rfl ((hb.old 5 (by decide +kernel)).trans h5)) rfl⟩
    refine ⟨?_, ?_⟩
    · intro a' w' k' hb hf hs hc hq hg hd
      exact ⟨wantedN rfl, k_val (.int .i64 b) (by decide) hs (x_load1 ld3 rfl (hd 4 (by kernel_rfl) 97 rfl) ((hf.cell (a := ⟨w.heap.size, 2, none⟩) hbl hbn).trans x2)) rfl⟩
    refine ⟨?_, ?_⟩
    · intro a' w' k' hb hf hs hc hq hg hd
      exact ⟨wantedN rfl, k_val (.pointer (some ⟨w.heap.size, 0 + 3, none⟩)) (by decide) hs (x_field (fa39_3 w.heap.size) rfl ((hb.old 5 (by decide +kernel)).trans h5)) rfl⟩
    refine ⟨?_, ?_⟩
    · intro a' w' k' hb hf hs hc hq hg hd
      exact ⟨wantedN rfl, k_val (.int .u32 (m : Int)) (by decide) hs (x_load1 ld35 rfl (hd 6 (by kernel_rfl) 99 rfl) ((hf.cell (a := ⟨w.heap.size, 3, none⟩) hbl hbn).trans x3)) rfl⟩
    refine ⟨?_, ?_⟩
    · intro a' w' k' hb hf hs hc hq hg hd
      obtain rfl := hc 0 rfl; obtain ⟨h7, m7⟩ := hs; exact ⟨wantedN rfl, k_callC 31 _ (by decide) (e_call4 rfl rfl (hd 1 (by kernel_rfl) 94 rfl) (hd 3 (by kernel_rfl) 96 rfl) (hd 5 (by kernel_rfl) 98 rfl) (hd 7 (by kernel_rfl) 100 rfl) cf31) ((tup_any a b m hm h7).mono (by rintro e w7 ⟨rfl, q8, h8, m8⟩; exact ⟨_, rfl, rfl, m8.toS (by have := hf.size; omega), q8, h8, m7.trans m8⟩))⟩
    refine ⟨?_, ?_⟩
    · intro a' w' k' hb hf hs hc hq hg hd
      exact ⟨wantedN rfl, k_call 14 _ (by decide) (e_call1 rfl rfl (hd 8 (by kernel_rfl) 101 rfl) cf14) ((num_any _ _).mono (by rintro e w7 ⟨rfl, rfl⟩; exact ⟨_, rfl, rfl, Fr.refl _ _, hs⟩))⟩
    refine ⟨?_, ?_⟩
    · intro a' w' k' hb hf hs hc hq hg hd
      exact ⟨wantedN rfl, k_val (.pointer (some ⟨p2, 0, none⟩)) (by decide) hs (x_move rfl ((hb.old 1 (by decide +kernel)).trans h1)) rfl⟩
    refine ⟨?_, ?_⟩
    · intro a' w' k' hb hf hs hc hq hg hd
      exact ⟨wantedN rfl, k_val (.pointer (some ⟨w.heap.size, 0 + 1, none⟩)) (by decide) hs (x_field (fa39_1 w.heap.size) rfl ((hb.old 5 (by decide +kernel)).trans h5)) rfl⟩
    refine ⟨?_, ?_⟩
    · intro a' w' k' hb hf hs hc hq hg hd
      exact ⟨wantedN rfl, k_val (.int .i64 a) (by decide) hs (x_load1 ld3 rfl (hd 11 (by kernel_rfl) 104 rfl) ((hf.cell (a := ⟨w.heap.size, 1, none⟩) hbl hbn).trans x1)) rfl⟩
    refine ⟨?_, ?_⟩
    · intro a' w' k' hb hf hs hc hq hg hd
      exact ⟨wantedN rfl, k_val (.pointer (some ⟨w.heap.size, 0 + 2, none⟩)) (by decide) hs (x_field (fa39_2 w.heap.size) rfl ((hb.old 5 (by decide +kernel)).trans h5)) rfl⟩
    refine ⟨?_, ?_⟩
    · intro a' w' k' hb hf hs hc hq hg hd
      exact ⟨wantedN rfl, k_val (.int .i64 b) (by decide) hs (x_load1 ld3 rfl (hd 13 (by kernel_rfl) 106 rfl) ((hf.cell (a := ⟨w.heap.size, 2, none⟩) hbl hbn).trans x2)) rfl⟩
    refine ⟨?_, ?_⟩
    · intro a' w' k' hb hf hs hc hq hg hd
      exact ⟨wantedN rfl, k_val (.pointer (some ⟨w.heap.size, 0 + 3, none⟩)) (by decide) hs (x_field (fa39_3 w.heap.size) rfl ((hb.old 5 (by decide +kernel)).trans h5)) rfl⟩
    refine ⟨?_, ?_⟩
    · intro a' w' k' hb hf hs hc hq hg hd
      exact ⟨wantedN rfl, k_val (.int .u32 (m : Int)) (by decide) hs (x_load1 ld35 rfl (hd 15 (by kernel_rfl) 108 rfl) ((hf.cell (a := ⟨w.heap.size, 3, none⟩) hbl hbn).trans x3)) rfl⟩
    refine ⟨?_, ?_⟩
    · intro a' w' k' hb hf hs hc hq hg hd
      obtain rfl := hc 1 rfl; obtain ⟨q7, h7, m7⟩ := hs; exact ⟨wantedN rfl, k_callC 32 _ (by decide) (e_call4 rfl rfl (hd 10 (by kernel_rfl) 103 rfl) (hd 12 (by kernel_rfl) 105 rfl) (hd 14 (by kernel_rfl) 107 rfl) (hd 16 (by kernel_rfl) 109 rfl) cf32) ((tur_any a b m hm h7).mono (by rintro e w7 ⟨rfl, q8, h8, m8⟩; exact ⟨_, rfl, rfl, m8.toS2 m7, q7, q8, h8, m7.trans m8⟩))⟩
    refine ⟨?_, ?_⟩
    · intro a' w' k' hb hf hs hc hq hg hd
      exact ⟨wantedN rfl, k_val (.bool true) (by decide) hs (x_eqI Try.underlying3 rfl (hd 9 (by kernel_rfl) 102 rfl) (hd 17 (by kernel_rfl) 110 rfl) (by first | rfl | decide | simp)) rfl⟩
    refine ⟨?_, ?_⟩
    · intro a' w' k' hb hf hs hc hq hg hd
      exact ⟨wantedN rfl, k_val (.pointer (some ⟨p, 0, none⟩)) (by decide) hs (x_assign rfl (hd 0 (by kernel_rfl) 93 rfl)) rfl⟩
    refine ⟨?_, ?_⟩
    · intro a' w' k' hb hf hs hc hq hg hd
      exact ⟨wantedN rfl, k_val (.bool true) (by decide) hs (x_assign rfl (hd 18 (by kernel_rfl) 111 rfl)) rfl⟩
    exact trivial
  case done =>
    intro a' w' hb hf hs hall
    have h6 : a'.tmps.getD 6 undef = .pointer (some ⟨p, 0, none⟩) := hall 19 (by decide) 6 rfl
    have h7 : a'.tmps.getD 7 undef = .bool true := hall 20 (by decide) 7 rfl
    have hdf' : a'.defers = [] := by rw [hb.defers]; exact hdf
    have hr : bodyPost Try.prog Try.f15 (fun r w' => r = Ending.returned (Value.tuple #[.pointer (some ⟨p, 0, none⟩), .bool true]) ∧ AcO w0 w p gs q p2 sg hg q2 w' (tuD d a b m)) .ret a' w' :=
      bodyPost_ret (v := .tuple #[.pointer (some ⟨p, 0, none⟩), .bool true]) (by
        have h6' : a'.tmps[6]?.getD undef = .pointer (some ⟨p, 0, none⟩) := by simpa using h6
        have h7' : a'.tmps[7]?.getD undef = .bool true := by simpa using h7
        simp [results, Try.results15, go_sem, h6', h7']) hdf' ⟨rfl, by obtain ⟨q8, q9, h8, m8⟩ := hs; exact ⟨q8, q9, h8, (unhide M1).trans m8⟩⟩
    clear hall hb
    apply_assumption
    exact wp_ret hr
end
end Go.Proofs.Ytdhendcogjhgfaa

