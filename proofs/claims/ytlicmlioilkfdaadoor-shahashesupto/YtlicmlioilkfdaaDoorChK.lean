/-
  The kinds of operations in a region with a chain of calls, each value known.
-/
import Derived.Test.YtlicmlioilkfdaaDoorCh
import Derived.Test.YtlicmlioilkfdaaDoorFree2
import Derived.Test.YtlicmlioilkfdaaDoorAg
namespace Go.Proofs.YtlicmlioilkfdaaDoor
open Go.RowKit
set_option linter.unusedVariables false
set_option linter.unusedSimpArgs false

/-- The values that the operations leave. -/
def Tv (vs : List Value) (i : Nat) (v : Value) (_ : World) : Prop := ∀ u, vs[i]? = some u → v = u

theorem Tv.mono (R : World → World → Prop) (vs : List Value) (i : Nat) (v : Value) (w1 w2 : World) (h : Tv vs i v w1) (_ : R w1 w2) : Tv vs i v w2 := h

section
variable {P : Program} {o : Oper} {a : Act} {w : World} {Q : Exit → Act → World → Prop} {S : Nat → Prop} {St : Nat → World → Prop} {T : Nat → Value → World → Prop} {calls : List Nat} {i k : Nat}

theorem left_val (v : Value) (hi : i ∉ calls) (hs : St k w) (h : (execOp a.eval o).run P w = .ok (.value v) w) (hT : T i v w) : o.wp P a w (Left (fun w w' => Fr S w w') St T calls i o k a w) Q := by
  unfold Oper.wp
  rw [h, Oper.upon_value]
  exact ⟨v, rfl, hT, Fr.refl _ _, by rw [if_neg hi]; exact hs⟩

theorem left_call (f : Nat) (args : Array Value) (h : (execOp a.eval o).run P w = .ok (.enter f args) w)
    (hc : Calls P f args w fun e w' => ∃ v, e = .returned v ∧ T i v w' ∧ Fr S w w' ∧ St (if i ∈ calls then k + 1 else k) w') : o.wp P a w (Left (fun w w' => Fr S w w') St T calls i o k a w) Q := by
  unfold Oper.wp
  rw [h, Oper.upon_enter]
  refine hc.mono ?_
  rintro e w' ⟨v, rfl, hT, f, hs⟩
  exact ⟨v, rfl, hT, f, hs⟩

/-- An operation that writes. -/
theorem left_store (x y : Operand) (ty : TypeId) (ho : o.op = .store ty x y) (hi : i ∈ calls) (b of : Nat) (cells : Array Value) (hx : a.eval x = .pointer (some ⟨b, of, none⟩)) (hy : a.eval y = .agg cells)
    (ht : w.there b of cells.size) (hn : (P.info? ty).map (·.size) = some cells.size) (h1 : cells.all (·.oneCell') = true) (hT : T i undef (w.setCells b of cells.toList)) (hb : S b) (hs : St (k + 1) (w.setCells b of cells.toList)) :
    o.wp P a w (Left (fun w w' => Fr S w w') St T calls i o k a w) Q :=
  wp_store_mid ty x y ho b of cells hx hy ht hn h1 ⟨undef, rfl, hT, (setCells_frame b cells.toList of w).mono (fun k _ e => by rw [e]; exact hb), by rw [if_pos hi]; exact hs⟩

theorem wantedT {l : List Oper} {j d : Nat} (hg : o.guard = some (j, true)) (hd : (l[j]?).bind (·.dst) = some d) (hlt : d < a.tmps.size) (hv : a.tmps.getD d undef = .bool true) : Region.wanted o (yielded l.toArray a.tmps) = true := by
  have h1 : a.tmps[d]? = some (.bool true) := by
    rw [Array.getD_eq_getD_getElem?, Array.getElem?_eq_getElem hlt] at hv
    rw [Array.getElem?_eq_getElem hlt]
    simpa using hv
  simp [Region.wanted, hg, yielded, hd, h1]
theorem wantedF {l : List Oper} {j d : Nat} (hg : o.guard = some (j, false)) (hd : (l[j]?).bind (·.dst) = some d) (hlt : d < a.tmps.size) (hv : a.tmps.getD d undef = .bool false) : Region.wanted o (yielded l.toArray a.tmps) = true := by
  have h1 : a.tmps[d]? = some (.bool false) := by
    rw [Array.getD_eq_getD_getElem?, Array.getElem?_eq_getElem hlt] at hv
    rw [Array.getElem?_eq_getElem hlt]
    simpa using hv
  simp [Region.wanted, hg, yielded, hd, h1]
end

section
variable {ρ : Operand → Value} {o : Oper} {w : World}
theorem xk_move {x : Operand} {v : Value} (ho : o.op = .move x) (hx : ρ x = v) : (execOp ρ o).run Tryd.prog w = .ok (.value v) w := by
  subst hx; simp [execOp, ho]
theorem xk_assign {x : Operand} {v : Value} (ho : o.op = .assign x) (hx : ρ x = v) : (execOp ρ o).run Tryd.prog w = .ok (.value v) w := by
  subst hx; simp [execOp, ho]
theorem xk_slice {x y : Operand} {b of L cap m : Nat} (ho : o.op = .slice 59 x none (some y) none) (hx : ρ x = .slice (some ⟨b, of, none⟩) L cap) (hy : ρ y = .int .i64 ((m : Nat) : Int)) (hm : m ≤ cap) : (execOp ρ o).run Tryd.prog w = .ok (.value (.slice (some ⟨b, of, none⟩) m cap)) w := by
  have h1 : ((m : Nat) : Int) ≤ ((cap : Nat) : Int) := by omega
  simp [execOp, ho, hx, hy, go_sem, h1, hm]
theorem xk_index {x y : Operand} {b of L cap m : Nat} (ho : o.op = .indexAddr 59 x y) (hx : ρ x = .slice (some ⟨b, of, none⟩) L cap) (hy : ρ y = .int .i64 ((m : Nat) : Int)) (hm : m < L) : (execOp ρ o).run Tryd.prog w = .ok (.value (.pointer (some ⟨b, of + m * 32, none⟩))) w := by
  have h1 : ((m : Nat) : Int) < ((L : Nat) : Int) := by omega
  simp [execOp, ho, hx, hy, go_sem, h1, hm]
theorem xk_sub {x y : Operand} {a b c : Nat} (ho : o.op = .binOp .sub 3 x y 3) (hx : ρ x = .int .i64 ((a : Nat) : Int)) (hy : ρ y = .int .i64 ((b : Nat) : Int)) (hb : b ≤ a) (ha : a ≤ 1048576) (hc : a - b = c) : (execOp ρ o).run Tryd.prog w = .ok (.value (.int .i64 ((c : Nat) : Int))) w := by
  have h1 : IntKind.i64.wrap (((a : Nat) : Int) - ((b : Nat) : Int)) = ((c : Nat) : Int) := by rw [IntKind.wrap_i64]; omega
  simp [execOp, ho, hx, hy, go_sem, h1]
theorem en_call4 {k : Nat} {x y z t : Operand} {ty : Array TypeId} {u v p q : Value} (ho : o.op = .call { callee := .value (.func k), args := #[x, y, z, t], argTypes := ty }) (hf : ρ (.func k) = .func (.func k) #[] #[]) (hx : ρ x = u) (hy : ρ y = v) (hz : ρ z = p) (ht : ρ t = q) (hk : ∀ args W, Sem.run Tryd.prog (callFunc k args) W = .ok (.enter k args) W) : (execOp ρ o).run Tryd.prog w = .ok (.enter k #[u, v, p, q]) w := by
  have hk' := hk #[u, v, p, q] w
  simp [execOp, ho, hf, hx, hy, hz, ht, go_sem, hk']
end
theorem wp_nameK {P : Program} {C : Code} {Q : Exit → Act → World → Prop} {a : Act} {w : World} (h : ∀ a0, a0 = a → C.wp P Q a0 w) : C.wp P Q a w := h a rfl
theorem cfk57 (args : Array Value) (W : World) : Sem.run Tryd.prog (callFunc 57 args) W = .ok (.enter 57 args) W := by simp [go_sem]
theorem cfk59 (args : Array Value) (W : World) : Sem.run Tryd.prog (callFunc 59 args) W = .ok (.enter 59 args) W := by simp [go_sem]
theorem cfk61 (args : Array Value) (W : World) : Sem.run Tryd.prog (callFunc 61 args) W = .ok (.enter 61 args) W := by simp [go_sem]
theorem cfk62 (args : Array Value) (W : World) : Sem.run Tryd.prog (callFunc 62 args) W = .ok (.enter 62 args) W := by simp [go_sem]
end Go.Proofs.YtlicmlioilkfdaaDoor
