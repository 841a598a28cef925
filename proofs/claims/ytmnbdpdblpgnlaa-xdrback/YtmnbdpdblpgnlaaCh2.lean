/-
  The kinds of operations, over a frame of which only some slots are known, in a region with a chain of calls.
-/
import Derived.Test.YtmnbdpdblpgnlaaCh
import Derived.Test.YtmnbdpdblpgnlaaGet2
import Derived.Test.YtmnbdpdblpgnlaaSame
namespace Go.Proofs.Ytmnbdpdblpgnlaa
open Go.RowKit
set_option linter.unusedVariables false
set_option linter.unusedSimpArgs false

/-- What an operation leaves: this value; bytes that read so; values that read so. -/
inductive Kd where
  | eq (u : Value)
  | by_ (l : List UInt8)
  | li (n : Nat) (xs : List Value)

/-- It lasts while only the block rp turns. -/
def Kd.holds (rp : Nat) : Kd → Value → World → Prop
  | .eq u, v, _ => v = u
  | .by_ l, v, w => Rd w v l ∧ ∀ k, v.ownBlock = some k → ¬ k = rp
  | .li n xs, v, w => (∃ ao cap, v = .slice ao n cap) ∧ RdV w v xs ∧ ∀ k, v.ownBlock = some k → ¬ k = rp

def Tk (rp : Nat) (ks : List Kd) (i : Nat) (v : Value) (w : World) : Prop := match ks[i]? with
  | some k => k.holds rp v w
  | none => True

theorem Tk.mono (rp : Nat) (ks : List Kd) (i : Nat) (v : Value) (w1 w2 : World) (h : Tk rp ks i v w1) (f : Fr (fun k => k = rp) w1 w2) : Tk rp ks i v w2 := by
  unfold Tk at *
  split
  · rename_i k hk
    rw [hk] at h
    cases k with
    | eq u => exact h
    | by_ l => exact ⟨h.1.kept f h.2, h.2⟩
    | li n xs => exact ⟨h.1, h.2.1.kept f h.2.2, h.2.2⟩
  · trivial

section
variable {P : Program} {o : Oper} {a : Act} {w : World} {Q : Exit → Act → World → Prop} {rp : Nat} {St : Nat → World → Prop} {T : Nat → Value → World → Prop} {calls : List Nat} {i k : Nat}

theorem left_val (v : Value) (hi : i ∉ calls) (hs : St k w) (h : (execOp a.eval o).run P w = .ok (.value v) w) (hT : T i v w) : o.wp P a w (Left (fun w w' => Fr (fun k => k = rp) w w') St T calls i o k a w) Q := by
  unfold Oper.wp
  rw [h, Oper.upon_value]
  exact ⟨v, rfl, hT, Fr.refl _ _, by rw [if_neg hi]; exact hs⟩

theorem left_call (f : Nat) (args : Array Value) (h : (execOp a.eval o).run Try.prog w = .ok (.enter f args) w)
    (hc : Calls Try.prog f args w fun e w' => ∃ v, e = .returned v ∧ T i v w' ∧ Fr (fun k => k = rp) w w' ∧ St (if i ∈ calls then k + 1 else k) w') : o.wp Try.prog a w (Left (fun w w' => Fr (fun k => k = rp) w w') St T calls i o k a w) Q := by
  unfold Oper.wp
  rw [h, Oper.upon_enter]
  refine hc.mono ?_
  rintro e w' ⟨v, rfl, hT, f, hs⟩
  exact ⟨v, rfl, hT, f, hs⟩

theorem wantedT {l : List Oper} {j d : Nat} (hg : o.guard = some (j, true)) (hd : (l[j]?).bind (·.dst) = some d) (hlt : d < a.tmps.size) (hv : a.tmps.getD d undef = .bool true) : Region.wanted o (yielded l.toArray a.tmps) = true := by
  have h1 : a.tmps[d]? = some (.bool true) := by
    rw [Array.getD_eq_getD_getElem?, Array.getElem?_eq_getElem hlt] at hv
    rw [Array.getElem?_eq_getElem hlt]
    simpa using hv
  simp [Region.wanted, hg, yielded, hd, h1]
theorem wantedF {l : List Oper} {j d : Nat} (hg : o.guard = some (j, false)) (hd : (l[j]?).bind (·.dst) = some d) (hlt : d < a.tmps.size) (hv : a.tmps.getD d undef = .bool false) : Region.wanted o (yielded l.toArray a.tmps) = true := by
  have h1 : a.tmps[d]? = some (.bool false) := by
    rw [Array.getD_eq_getD_getElem?, Array.getElem?_eq_getElem hlt] at hv
    rw [Array.getElem?_eq_getElem hlt]
    simpa using hv
  simp [Region.wanted, hg, yielded, hd, h1]
theorem wantedN {l : List Oper} (hg : o.guard = none) : Region.wanted o (yielded l.toArray a.tmps) = true := by simp [Region.wanted, hg]
end

section
variable {ρ : Operand → Value} {o : Oper} {w : World}
theorem ex_move {x : Operand} {v : Value} (ho : o.op = .move x) (hx : ρ x = v) : (execOp ρ o).run Try.prog w = .ok (.value v) w := by
  subst hx; simp [execOp, ho]
theorem ex_assign {x : Operand} {v : Value} (ho : o.op = .assign x) (hx : ρ x = v) : (execOp ρ o).run Try.prog w = .ok (.value v) w := by
  subst hx; simp [execOp, ho]
theorem ex_pickF {c x y : Operand} {v : Value} (ho : o.op = .pick c x y) (hc : ρ c = .bool false) (hy : ρ y = v) : (execOp ρ o).run Try.prog w = .ok (.value v) w := by
  subst hy; simp [execOp, ho, hc, go_sem]
theorem ex_pickT {c x y : Operand} {v : Value} (ho : o.op = .pick c x y) (hc : ρ c = .bool true) (hx : ρ x = v) : (execOp ρ o).run Try.prog w = .ok (.value v) w := by
  subst hx; simp [execOp, ho, hc, go_sem]
theorem ex_conv {s t : TypeId} {x : Operand} {v u : Value} (ho : o.op = .convert s t x) (hx : ρ x = v) (hc : (convert s t v).run Try.prog w = .ok u w) : (execOp ρ o).run Try.prog w = .ok (.value u) w := by
  subst hx; simp [execOp, ho, hc]
theorem ex_eqP {t : TypeId} {x : Operand} {a : Addr} {e : TypeId} (ht : Try.prog.underlying t = some (.pointer e)) (ho : o.op = .binOp .eql t x (.const (.pointer none)) t) (hx : ρ x = .pointer (some a)) (hc : ρ (.const (.pointer none)) = .pointer none) : (execOp ρ o).run Try.prog w = .ok (.value (.bool false)) w := by
  simp [execOp, ho, hx, hc, go_sem, ht]
theorem ex_neI {t : TypeId} {x y : Operand} {k : IntKind} {n : Int} (ht : Try.prog.underlying t = some (.int k)) (ho : o.op = .binOp .neq t x y t) (hx : ρ x = .int k n) (hy : ρ y = .int k n) : (execOp ρ o).run Try.prog w = .ok (.value (.bool false)) w := by
  simp [execOp, ho, hx, hy, go_sem]
theorem ex_neB {x y : Operand} {b : Bool} (ho : o.op = .binOp .neq 4 x y 4) (hx : ρ x = .bool b) (hy : ρ y = .bool b) : (execOp ρ o).run Try.prog w = .ok (.value (.bool false)) w := by
  simp [execOp, ho, hx, hy, go_sem]
theorem ex_neS {x y : Operand} {s : ByteArray} (ho : o.op = .binOp .neq 9 x y 9) (hx : ρ x = .string s) (hy : ρ y = .string s) : (execOp ρ o).run Try.prog w = .ok (.value (.bool false)) w := by
  simp [execOp, ho, hx, hy, go_sem]
theorem ex_len {t e : TypeId} {x : Operand} {ao : Option Addr} {n c : Nat} (ht : Try.prog.underlying t = some (.slice e)) (ho : o.op = .call { callee := .builtin .len, args := #[x], argTypes := #[t] }) (hx : ρ x = .slice ao n c) : (execOp ρ o).run Try.prog w = .ok (.value (.int .i64 (n : Int))) w := by
  simp [execOp, ho, hx, go_sem, ht, Builtin.len_, run_underlying ht, Builtin.lenOf]
theorem ex_lenS {t : TypeId} {x : Operand} {s : ByteArray} (ht : Try.prog.underlying t = some .string) (ho : o.op = .call { callee := .builtin .len, args := #[x], argTypes := #[t] }) (hx : ρ x = .string s) : (execOp ρ o).run Try.prog w = .ok (.value (.int .i64 (s.size : Int))) w := by
  simp [execOp, ho, hx, go_sem, ht, Builtin.len_, run_underlying ht, Builtin.lenOf]
theorem ex_rem {x y : Operand} {n : Int} (h0 : n.tmod 4 = 0) (ho : o.op = .binOp .rem 3 x y 3) (hx : ρ x = .int .i64 n) (hy : ρ y = .int .i64 4) : (execOp ρ o).run Try.prog w = .ok (.value (.int .i64 0)) w := by
  simp [execOp, ho, hx, hy, go_sem, h0]
theorem ex_notT {x : Operand} (ho : o.op = .unOp .not 4 x) (hx : ρ x = .bool true) : (execOp ρ o).run Try.prog w = .ok (.value (.bool false)) w := by
  simp [execOp, ho, hx, go_sem]
theorem ex_load52 {x : Operand} {a : Addr} {n : Int} (ho : o.op = .load 52 x) (hx : ρ x = .pointer (some a)) (hc : w.cell? a = some (.int .u32 n)) (hs : a.spot = none) : (execOp ρ o).run Try.prog w = .ok (.value (.int .u32 n)) w := by
  simp [execOp, ho, hx, go_sem, hc]
theorem en_call1 {k : Nat} {x : Operand} {t : Array TypeId} {u : Value} (ho : o.op = .call { callee := .value (.func k), args := #[x], argTypes := t }) (hf : ρ (.func k) = .func (.func k) #[] #[]) (hx : ρ x = u) (hk : ∀ args W, Sem.run Try.prog (callFunc k args) W = .ok (.enter k args) W) : (execOp ρ o).run Try.prog w = .ok (.enter k #[u]) w := by
  have hk' := hk #[u] w
  simp [execOp, ho, hf, hx, go_sem, hk']
theorem en_call2 {k : Nat} {x y : Operand} {t : Array TypeId} {u v : Value} (ho : o.op = .call { callee := .value (.func k), args := #[x, y], argTypes := t }) (hf : ρ (.func k) = .func (.func k) #[] #[]) (hx : ρ x = u) (hy : ρ y = v) (hk : ∀ args W, Sem.run Try.prog (callFunc k args) W = .ok (.enter k args) W) : (execOp ρ o).run Try.prog w = .ok (.enter k #[u, v]) w := by
  have hk' := hk #[u, v] w
  simp [execOp, ho, hf, hx, hy, go_sem, hk']
theorem en_call3 {k : Nat} {x y z : Operand} {t : Array TypeId} {u v p : Value} (ho : o.op = .call { callee := .value (.func k), args := #[x, y, z], argTypes := t }) (hf : ρ (.func k) = .func (.func k) #[] #[]) (hx : ρ x = u) (hy : ρ y = v) (hz : ρ z = p) (hk : ∀ args W, Sem.run Try.prog (callFunc k args) W = .ok (.enter k args) W) : (execOp ρ o).run Try.prog w = .ok (.enter k #[u, v, p]) w := by
  have hk' := hk #[u, v, p] w
  simp [execOp, ho, hf, hx, hy, hz, go_sem, hk']
end

end Go.Proofs.Ytmnbdpdblpgnlaa
