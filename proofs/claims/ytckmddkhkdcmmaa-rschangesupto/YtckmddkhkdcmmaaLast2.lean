/-
  More kinds of operations, over a frame of which only some slots are known: loads, addresses, sums.
-/
import Derived.Test.YtckmddkhkdcmmaaLast
import Derived.Test.YtckmddkhkdcmmaaEl
namespace Go.Proofs.Ytckmddkhkdcmmaa
open Go.RowKit
set_option linter.unusedVariables false

theorem wp_name' {P : Program} {C : Code} {Q : Exit → Act → World → Prop} {a : Act} {w : World} (h : ∀ a0, a0 = a → C.wp P Q a0 w) : C.wp P Q a w := h a rfl

section
variable {o : Oper} {w : World} {ρ : Operand → Value}

theorem ex_load5 {x : Operand} {ad : Addr} {v : Value} (ho : o.op = .load 5 x) (hx : ρ x = .pointer (some ad)) (hc : w.cell? ad = some v) : (execOp ρ o).run Try.prog w = .ok (.value v) w := by
  simp [execOp, ho, hx, hc, go_sem]
theorem ex_load22 {x : Operand} {ad : Addr} {v : Value} (ho : o.op = .load 22 x) (hx : ρ x = .pointer (some ad)) (hc : w.cell? ad = some v) : (execOp ρ o).run Try.prog w = .ok (.value v) w := by
  simp [execOp, ho, hx, hc, go_sem]
theorem ex_load3 {x : Operand} {ad : Addr} {v : Value} (ho : o.op = .load 3 x) (hx : ρ x = .pointer (some ad)) (hc : w.cell? ad = some v) : (execOp ρ o).run Try.prog w = .ok (.value v) w := by
  simp [execOp, ho, hx, hc, go_sem]
theorem ex_index22 {x y : Operand} {b of n c k : Nat} (ho : o.op = .indexAddr 22 x y) (hx : ρ x = .slice (some ⟨b, of, none⟩) n c) (hy : ρ y = .int .i64 (k : Int)) (hk : k < n) : (execOp ρ o).run Try.prog w = .ok (.value (.pointer (some ⟨b, of + k, none⟩))) w := by
  simp [execOp, ho, hx, hy, go_sem, hk]
theorem ex_index65 {x y : Operand} {b of n c k : Nat} (ho : o.op = .indexAddr 65 x y) (hx : ρ x = .slice (some ⟨b, of, none⟩) n c) (hy : ρ y = .int .i64 (k : Int)) (hk : k < n) : (execOp ρ o).run Try.prog w = .ok (.value (.pointer (some ⟨b, of + k, none⟩))) w := by
  simp [execOp, ho, hx, hy, go_sem, hk]
theorem ex_xor5 {x y : Operand} {a b : UInt8} (ho : o.op = .binOp .xor 5 x y 5) (hx : ρ x = .int .u8 ((a.toNat : Nat) : Int)) (hy : ρ y = .int .u8 ((b.toNat : Nat) : Int)) : (execOp ρ o).run Try.prog w = .ok (.value (.int .u8 (((a ^^^ b).toNat : Nat) : Int))) w := by
  have h := xorV a b
  simp only [execOp, ho]
  simp [hx, hy, go_sem, h]
theorem ex_nil {x : Operand} {ad : Addr} (ho : o.op = .nilCheck x) (hx : ρ x = .pointer (some ad)) : (execOp ρ o).run Try.prog w = .ok (.value (.pointer (some ad))) w := by
  simp [execOp, ho, hx, go_sem]
theorem ex_store5 {x y : Operand} {b i : Nat} {n : Int} {old : Value} (ho : o.op = .store 5 x y) (hx : ρ x = .pointer (some ⟨b, i, none⟩)) (hy : ρ y = .int .u8 n) (hc : w.cell? ⟨b, i, none⟩ = some old) (hf : w.frozen? ⟨b, i, none⟩ = false) : (execOp ρ o).run Try.prog w = .ok .skip (w.setCell ⟨b, i, none⟩ (.int .u8 n)) := by
  simp [execOp, ho, hx, hy, go_sem, hc, hf]
theorem wp_store5 {a : Act} {K : Act → World → Prop} {Q : Exit → Act → World → Prop} {x y : Operand} {b i : Nat} {n : Int} {old : Value} (ho : o.op = .store 5 x y) (hx : a.eval x = .pointer (some ⟨b, i, none⟩)) (hy : a.eval y = .int .u8 n) (hc : w.cell? ⟨b, i, none⟩ = some old) (hf : w.frozen? ⟨b, i, none⟩ = false) (h : K (a.put o.dst undef) (w.setCell ⟨b, i, none⟩ (.int .u8 n))) : o.wp Try.prog a w K Q := by
  unfold Oper.wp
  rw [ex_store5 ho hx hy hc hf, Oper.upon_skip]
  exact h
end

/-- The frame's slots, one by one. -/
def Slots (a : Act) : Nat → List Value → Prop
  | _, [] => True
  | i, v :: vs => a.tmps.getD i undef = v ∧ Slots a (i + 1) vs

theorem Slots.get {a : Act} {vs : List Value} {k : Nat} (h : Slots a k vs) (i : Nat) (hi : i < vs.length) : a.tmps.getD (k + i) undef = vs[i] := by
  induction vs generalizing k i with
  | nil => simp at hi
  | cons v vs ih =>
    cases i with
    | zero => exact h.1
    | succ i =>
      have := ih h.2 i (by simpa using hi)
      rw [show k + 1 + i = k + (i + 1) by omega] at this
      simpa using this

/-- A frame of which every slot is known is that frame. -/
theorem frame_eq {a : Act} {vs : List Value} (hs : a.tmps.size = vs.length) (hd : a.defers = []) (h : Slots a 0 vs) : a = { tmps := vs.toArray, defers := [] } := by
  obtain ⟨tm, df⟩ := a
  simp only at hs hd
  subst hd
  congr 1
  apply Array.ext
  · simpa using hs
  · intro i h1 h2
    have := h.get i (by simpa using h2)
    rw [Nat.zero_add] at this
    simp [h1] at this
    simpa using this

end Go.Proofs.Ytckmddkhkdcmmaa
