/-
  Parts of bytes; kinds of operations for the law ShaPieces.
-/
import Derived.Test.YtlicmlioilkfdaaDoorP4
import Derived.Test.YtlicmlioilkfdaaDoorTw
import Derived.DataElems
namespace Go.Proofs.YtlicmlioilkfdaaDoor
open Go.RowKit
set_option linter.unusedVariables false
set_option linter.unusedSimpArgs false

theorem Tryd.uu22 : Tryd.prog.underlying 22 = some (.slice (Tryd.prog.elem 22)) := by kernel_rfl
theorem Tryd.sz5 (W : World) : (sizeOf (Tryd.prog.elem 22)).run Tryd.prog W = .ok 1 W := by
  have h : Tryd.prog.elem 22 = 5 := by kernel_rfl
  obtain ⟨i, hi, -, hz1, -⟩ := info_parts Tryd.info5
  rw [h]
  simp [sizeOf, typeInfo, hi, hz1]

theorem rd_part {w : World} {a : Option Addr} {cap : Nat} {q : List UInt8} (hv : Rd w (.slice a q.length cap) q) (lo hi : Nat) (h1 : lo ≤ hi) (h2 : hi ≤ q.length) :
    ∃ ao c, sliced a lo hi cap 1 = .slice ao (hi - lo) c ∧ Rd w (.slice ao (hi - lo) c) ((q.drop lo).take (hi - lo)) ∧ hi ≤ cap := by
  rcases hv with ⟨hs, rfl⟩ | ⟨ad, c, hs, hc1, hc2, hc3⟩
  · simp at hs
    obtain ⟨rfl, rfl⟩ := hs
    simp at h2
    subst h2
    obtain rfl : lo = 0 := by omega
    exact ⟨none, 0, by simp [sliced], by simpa using Rd.nil w, by omega⟩
  · simp at hs
    obtain ⟨rfl, rfl⟩ := hs
    refine ⟨_, _, rfl, ?_, by omega⟩
    have hl : ((q.drop lo).take (hi - lo)).length = hi - lo := by simp; omega
    have key : ∀ j (hj : j < ((q.drop lo).take (hi - lo)).length), w.cell? (ad.add (lo * 1 + j)) = some (.int .u8 ((((q.drop lo).take (hi - lo))[j].toNat : Nat) : Int)) := fun j hj => by
      rw [Nat.mul_one, hc3 (lo + j) (by omega)]
      simp
    by_cases e : cap = lo
    · simp only [if_pos e]
      refine .inr ⟨ad, _, by rw [hl], by rw [hl]; omega, by omega, fun j hj => ?_⟩
      omega
    · simp only [if_neg e, Option.map_some]
      refine .inr ⟨ad.add (lo * 1), _, by rw [hl], by rw [hl]; omega, by omega, fun j hj => ?_⟩
      have e2 : (ad.add (lo * 1)).add j = ad.add (lo * 1 + j) := Addr.add_add _ _ _
      rw [e2]
      exact key j hj

theorem cut_lh {w : World} {a : Option Addr} {cap : Nat} {q : List UInt8} (hv : Rd w (.slice a q.length cap) q) (lo hi : Nat) (h1 : lo ≤ hi) (h2 : hi ≤ q.length) :
    ∃ ao c, (∀ W, (Instr.sliceAt 22 (.slice a q.length cap) (some (.int .i64 (lo : Int))) (some (.int .i64 (hi : Int))) none).run Tryd.prog W = .ok (.slice ao (hi - lo) c) W) ∧ Rd w (.slice ao (hi - lo) c) ((q.drop lo).take (hi - lo)) := by
  obtain ⟨ao, c, e, h, hc⟩ := rd_part hv lo hi h1 h2
  refine ⟨ao, c, fun W => ?_, h⟩
  rw [run_sliceAt_slice _ _ _ _ _ _ Tryd.uu22, run_slice_lh _ _ _ _ _ Tryd.uu22 _ _ _ _ (by omega) (by omega) (by omega), Tryd.sz5]
  simp [Result.andThen, e]

theorem cut_h {w : World} {a : Option Addr} {cap : Nat} {q : List UInt8} (hv : Rd w (.slice a q.length cap) q) (hi : Nat) (h2 : hi ≤ q.length) :
    ∃ ao c, (∀ W, (Instr.sliceAt 22 (.slice a q.length cap) none (some (.int .i64 (hi : Int))) none).run Tryd.prog W = .ok (.slice ao hi c) W) ∧ Rd w (.slice ao hi c) (q.take hi) := by
  obtain ⟨ao, c, e, h, hc⟩ := rd_part hv 0 hi (by omega) h2
  refine ⟨ao, c, fun W => ?_, by simpa using h⟩
  rw [run_sliceAt_slice _ _ _ _ _ _ Tryd.uu22, run_slice_h _ _ _ _ _ Tryd.uu22 _ _ (by omega) (by omega), Tryd.sz5]
  simp [Result.andThen, e]

theorem cut_l {w : World} {a : Option Addr} {cap : Nat} {q : List UInt8} (hv : Rd w (.slice a q.length cap) q) (lo : Nat) (h2 : lo ≤ q.length) :
    ∃ ao c, (∀ W, (Instr.sliceAt 22 (.slice a q.length cap) (some (.int .i64 (lo : Int))) none none).run Tryd.prog W = .ok (.slice ao (q.length - lo) c) W) ∧ Rd w (.slice ao (q.length - lo) c) (q.drop lo) := by
  obtain ⟨ao, c, e, h, hc⟩ := rd_part hv lo q.length h2 (Nat.le_refl _)
  refine ⟨ao, c, fun W => ?_, ?_⟩
  · rw [run_sliceAt_slice _ _ _ _ _ _ Tryd.uu22, run_slice_l _ _ _ _ _ Tryd.uu22 _ _ (by omega) (by omega), Tryd.sz5]
    simp [Result.andThen, e]
  · rwa [List.take_of_length_le (by simp)] at h

theorem at_slice {v r : Value} {lo hi : Option Value} (h : ∀ W, (Instr.sliceAt 22 v lo hi none).run Tryd.prog W = .ok r W) : ∀ W, (Instr.slice 22 v lo hi none).run Tryd.prog W = .ok r W := fun W => by
  have := h W
  rwa [run_sliceAt_slice _ _ _ _ _ _ Tryd.uu22] at this

section
variable {ρ : Operand → Value} {o : Oper} {w : World}
theorem ex_slLH {x l h : Operand} {v r : Value} {lo hi : Int} (ho : o.op = .slice 22 x (some l) (some h) none) (hx : ρ x = v) (hl : ρ l = .int .i64 lo) (hh : ρ h = .int .i64 hi) (hr : ∀ W, (Instr.sliceAt 22 v (some (.int .i64 lo)) (some (.int .i64 hi)) none).run Tryd.prog W = .ok r W) : (execOp ρ o).run Tryd.prog w = .ok (.value r) w := by
  subst hx; simp [execOp, ho, hl, hh, hr]
theorem ex_slH {x h : Operand} {v r : Value} {hi : Int} (ho : o.op = .slice 22 x none (some h) none) (hx : ρ x = v) (hh : ρ h = .int .i64 hi) (hr : ∀ W, (Instr.sliceAt 22 v none (some (.int .i64 hi)) none).run Tryd.prog W = .ok r W) : (execOp ρ o).run Tryd.prog w = .ok (.value r) w := by
  subst hx; simp [execOp, ho, hh, hr]
theorem ex_slL {x l : Operand} {v r : Value} {lo : Int} (ho : o.op = .slice 22 x (some l) none none) (hx : ρ x = v) (hl : ρ l = .int .i64 lo) (hr : ∀ W, (Instr.sliceAt 22 v (some (.int .i64 lo)) none none).run Tryd.prog W = .ok r W) : (execOp ρ o).run Tryd.prog w = .ok (.value r) w := by
  subst hx; simp [execOp, ho, hl, hr]
theorem len22 {W : World} {v : Value} {q : List UInt8} (hv : Rd W v q) : ∀ w, (Builtin.len_ #[22] 3 #[v]).run Tryd.prog w = .ok (.int .i64 ((q.length : Nat) : Int)) w := by
  obtain ⟨ao, cap, rfl⟩ := hv.shape
  intro w
  simp [go_sem]
theorem ex_neI {t : TypeId} {x y : Operand} {k : IntKind} {n : Int} (ht : Tryd.prog.underlying t = some (.int k)) (ho : o.op = .binOp .neq t x y t) (hx : ρ x = .int k n) (hy : ρ y = .int k n) : (execOp ρ o).run Tryd.prog w = .ok (.value (.bool false)) w := by
  simp [execOp, ho, hx, hy, go_sem]
theorem ex_eqP {x y : Operand} {ad : Addr} (ho : o.op = .binOp .eql 33 x y 33) (hx : ρ x = .pointer (some ad)) (hy : ρ y = .pointer none) : (execOp ρ o).run Tryd.prog w = .ok (.value (.bool false)) w := by
  simp [execOp, ho, hx, hy, go_sem]
theorem ex_pickF {c x y : Operand} {v : Value} (ho : o.op = .pick c x y) (hc : ρ c = .bool false) (hy : ρ y = v) : (execOp ρ o).run Tryd.prog w = .ok (.value v) w := by
  subst hy; simp [execOp, ho, hc, go_sem]
theorem cfvL10 (args : Array Value) (W : World) : Sem.run Tryd.prog (callFunc 10 args) W = .ok (.enter 10 args) W := by simp [go_sem]
theorem cfv11 (args : Array Value) (W : World) : Sem.run Tryd.prog (callFunc 11 args) W = .ok (.enter 11 args) W := by simp [go_sem]
theorem ex_len22 {x : Operand} {v : Value} {q : List UInt8} {W : World} (ho : o.op = .call { callee := .builtin .len, args := #[x], argTypes := #[22] }) (hx : ρ x = v) (hv : Rd W v q) : (execOp ρ o).run Tryd.prog w = .ok (.value (.int .i64 ((q.length : Nat) : Int))) w := by
  obtain ⟨ao, cap, rfl⟩ := hv.shape
  simp [execOp, ho, hx, go_sem]
end
end Go.Proofs.YtlicmlioilkfdaaDoor
