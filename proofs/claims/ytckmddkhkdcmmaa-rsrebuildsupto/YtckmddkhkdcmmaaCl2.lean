/-
  Kinds of operations for matrices in memory; the document's matrix under way.
-/
import Derived.Test.YtckmddkhkdcmmaaCl1
import Derived.Test.YtckmddkhkdcmmaaRs14
import Derived.Deep.MidRow
namespace Go.Proofs.Ytckmddkhkdcmmaa
open Go.RowKit
set_option linter.unusedVariables false
set_option linter.unusedSimpArgs false

section
variable {ρ : Operand → Value} {o : Oper} {w : World}
theorem ex_f24_0 {x : Operand} {p : Nat} (ho : o.op = .fieldAddr 24 x 0) (hx : ρ x = .pointer (some ⟨p, 0, none⟩)) : (execOp ρ o).run Try.prog w = .ok (.value (.pointer (some ⟨p, 0, none⟩))) w := by
  simp [execOp, ho, hx, go_sem]
theorem ex_f24_1 {x : Operand} {p : Nat} (ho : o.op = .fieldAddr 24 x 1) (hx : ρ x = .pointer (some ⟨p, 0, none⟩)) : (execOp ρ o).run Try.prog w = .ok (.value (.pointer (some ⟨p, 1, none⟩))) w := by
  simp [execOp, ho, hx, go_sem]
theorem ex_f24_2 {x : Operand} {p : Nat} (ho : o.op = .fieldAddr 24 x 2) (hx : ρ x = .pointer (some ⟨p, 0, none⟩)) : (execOp ρ o).run Try.prog w = .ok (.value (.pointer (some ⟨p, 2, none⟩))) w := by
  simp [execOp, ho, hx, go_sem]
theorem ex_load24 {x : Operand} {b of : Nat} {u v z : Value} (ho : o.op = .load 24 x) (hx : ρ x = .pointer (some ⟨b, of, none⟩)) (hc : w.rangeAt b of [u, v, z]) : (execOp ρ o).run Try.prog w = .ok (.value (.agg #[u, v, z])) w := by
  obtain ⟨d, hd, hr⟩ := Try.u24
  have := run_loadAt_mid (P := Try.prog) w b of 24 [u, v, z] d hc hd hr info24_size
  simp [execOp, ho, hx, this]
theorem ex_mulN {x y : Operand} {a b : Nat} (ho : o.op = .binOp .mul 3 x y 3) (hx : ρ x = .int .i64 ((a : Nat) : Int)) (hy : ρ y = .int .i64 ((b : Nat) : Int)) (h : a * b ≤ 1000000) : (execOp ρ o).run Try.prog w = .ok (.value (.int .i64 ((a * b : Nat) : Int))) w := by
  have h1 : IntKind.i64.wrap ((a : Int) * (b : Int)) = ((a * b : Nat) : Int) := by
    have e : (a : Int) * (b : Int) = ((a * b : Nat) : Int) := by simp
    rw [e, IntKind.wrap_i64]; omega
  simp [execOp, ho, hx, hy, go_sem, h1]
theorem ex_addN {x y : Operand} {a b : Nat} (ho : o.op = .binOp .add 3 x y 3) (hx : ρ x = .int .i64 ((a : Nat) : Int)) (hy : ρ y = .int .i64 ((b : Nat) : Int)) (h : a + b ≤ 1000000) : (execOp ρ o).run Try.prog w = .ok (.value (.int .i64 ((a + b : Nat) : Int))) w := by
  have h1 : IntKind.i64.wrap ((a : Int) + (b : Int)) = ((a + b : Nat) : Int) := by
    rw [IntKind.wrap_i64]; omega
  simp [execOp, ho, hx, hy, go_sem, h1]
theorem ex_idx0 {x y : Operand} {b n c k : Nat} (ho : o.op = .indexAddr 22 x y) (hx : ρ x = .slice (some ⟨b, 0, none⟩) n c) (hy : ρ y = .int .i64 ((k : Nat) : Int)) (hk : k < n) : (execOp ρ o).run Try.prog w = .ok (.value (.pointer (some ⟨b, k, none⟩))) w := by
  have := ex_index22 (ρ := ρ) (w := w) ho hx hy hk
  rwa [Nat.zero_add] at this
theorem en_call3 {k : Nat} {x y z : Operand} {t : Array TypeId} {u v p : Value} (ho : o.op = .call { callee := .value (.func k), args := #[x, y, z], argTypes := t }) (hf : ρ (.func k) = .func (.func k) #[] #[]) (hx : ρ x = u) (hy : ρ y = v) (hz : ρ z = p) (hk : ∀ args W, Sem.run Try.prog (callFunc k args) W = .ok (.enter k args) W) : (execOp ρ o).run Try.prog w = .ok (.enter k #[u, v, p]) w := by
  have hk' := hk #[u, v, p] w
  simp [execOp, ho, hf, hx, hy, hz, go_sem, hk']
end
theorem cfv73 (args : Array Value) (W : World) : Sem.run Try.prog (callFunc 73 args) W = .ok (.enter 73 args) W := by simp [go_sem]
theorem cfw72 (args : Array Value) (W : World) : Sem.run Try.prog (callFunc 72 args) W = .ok (.enter 72 args) W := by simp [go_sem]

/-- A matrix in memory: its head at M, its cells at q. -/
structure XAt (w : World) (M q rows cols cap : Nat) (f : Nat → Nat → UInt8) : Prop where
  head : w.heap[M]? = some (.cells #[.int .i64 ((rows : Nat) : Int), .int .i64 ((cols : Nat) : Int), .slice (some ⟨q, 0, none⟩) (rows * cols) cap] 24 (0, 0))
  own : w.ownsRow 0 5 1 (.slice (some ⟨q, 0, none⟩) (rows * cols) cap) (rows * cols) (bvs (fl cols f (rows * cols)))

section
variable {w : World} {M q rows cols cap : Nat} {f : Nat → Nat → UInt8}
theorem XAt.lt (h : XAt w M q rows cols cap f) : M < w.heap.size := lt_of_heap h.head
theorem XAt.ty (h : XAt w M q rows cols cap f) : TyAt w q 5 := owns_ty h.own rfl
theorem XAt.ne (h : XAt w M q rows cols cap f) : M ≠ q := TyAt.ne (show TyAt w M 24 from ⟨_, h.head⟩) h.ty (by decide)
theorem XAt.cell (h : XAt w M q rows cols cap f) (r c : Nat) (hr : r < rows) (hc : c < cols) : w.cell? ⟨q, r * cols + c, none⟩ = some (.int .u8 (((f r c).toNat : Nat) : Int)) ∧ w.frozen? ⟨q, r * cols + c, none⟩ = false ∧ q < w.heap.size := by
  have hlt := flat_lt hr hc
  rcases h.own.2 with ⟨hv, hn⟩ | ⟨g, cap', cur, hv, -, hg, -, -, -, htake⟩
  · simp at hv
  · simp only [Value.slice.injEq, Option.some.injEq, Addr.mk.injEq] at hv
    obtain ⟨⟨rfl, -, -⟩, -, rfl⟩ := hv
    refine ⟨?_, frozen_of_heap hg _, lt_of_heap hg⟩
    rw [cell_of_heap hg, ← Array.getElem?_toList]
    have e : (bvs (fl cols f (rows * cols)))[r * cols + c]? = cur.toList[r * cols + c]? := by
      rw [← htake, List.getElem?_take_of_lt (by omega)]
    rw [← e, bvs_get _ _ (by rw [fl_length]; exact hlt), fl_at f hr hc]
theorem XAt.kept {S : Nat → Prop} {w' : World} (h : XAt w M q rows cols cap f) (k : Fr S w w') (h1 : ¬ S M) (h2 : ¬ S q) : XAt w' M q rows cols cap f :=
  ⟨by rw [k.block M h.lt h1]; exact h.head, owns_kept h.own k (fun b hb => by simp [Value.ownBlock] at hb; subst hb; exact h2)⟩
theorem XAt.keptF {w' : World} (h : XAt w M q rows cols cap f) (k : Fr (fun _ => False) w w') : XAt w' M q rows cols cap f := h.kept k id id
theorem XAt.congr {g : Nat → Nat → UInt8} (h : XAt w M q rows cols cap f) (hc : 0 < cols) (e : ∀ r c, r < rows → c < cols → f r c = g r c) : XAt w M q rows cols cap g :=
  ⟨h.head, by rw [← fl_congr hc e]; exact h.own⟩
theorem XAt.set (h : XAt w M q rows cols cap f) (r c : Nat) (x : UInt8) (hr : r < rows) (hc : c < cols) : XAt (w.setCell ⟨q, r * cols + c, none⟩ (.int .u8 ((x.toNat : Nat) : Int))) M q rows cols cap (upd f r c x) := by
  have hlt := flat_lt hr hc
  have hne := h.ne
  refine ⟨?_, ?_⟩
  · have f1 : Fr (fun k => k = q) w (w.setCell ⟨q, r * cols + c, none⟩ (.int .u8 ((x.toNat : Nat) : Int))) := (Fr.refl (fun k => k = q) w).setCell (p := ⟨q, r * cols + c, none⟩) (fun _ => rfl) _
    rw [f1.block M h.lt hne]; exact h.head
  · rcases h.own with ⟨h1, h2⟩
    rcases h2 with ⟨hv, hn⟩ | ⟨g, cap', cur, hv, hb, hg, h3, h4, h5, htake⟩
    · simp at hv
    · simp only [Value.slice.injEq, Option.some.injEq, Addr.mk.injEq] at hv
      obtain ⟨⟨rfl, -, -⟩, -, rfl⟩ := hv
      refine ⟨by simp [bvs_length, fl_length], .inr ⟨q, cap, _, rfl, hb, heap_setCell_same w q _ _ 5 _ hg, h3, h4, by simpa using h5, ?_⟩⟩
      rw [Array.toList_setIfInBounds, List.take_set, htake, ← fl_set cols f (rows * cols) r c x hc]
      unfold bvs
      rw [List.map_set]
/-- What every later world knows of it. -/
theorem XAt.facts (h : XAt w M q rows cols cap f) : ∀ W, Fr (fun _ => False) w W → W.cell? ⟨M, 0, none⟩ = some (.int .i64 ((rows : Nat) : Int)) ∧ W.cell? ⟨M, 1, none⟩ = some (.int .i64 ((cols : Nat) : Int)) ∧ W.cell? ⟨M, 2, none⟩ = some (.slice (some ⟨q, 0, none⟩) (rows * cols) cap) ∧ W.rangeAt M 0 [.int .i64 ((rows : Nat) : Int), .int .i64 ((cols : Nat) : Int), .slice (some ⟨q, 0, none⟩) (rows * cols) cap] := by
  intro W k
  have h2 := (h.keptF k).head
  refine ⟨by rw [cell_of_heap h2]; rfl, by rw [cell_of_heap h2]; rfl, by rw [cell_of_heap h2]; rfl, fun j v hv => ?_⟩
  rw [Nat.zero_add, cell_of_heap h2]
  simpa using hv
end
end Go.Proofs.Ytckmddkhkdcmmaa
