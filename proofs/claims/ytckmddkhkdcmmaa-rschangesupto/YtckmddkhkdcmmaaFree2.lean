/-
  The kinds of operations, over a frame of which only some slots are known.
-/
import Derived.Test.YtckmddkhkdcmmaaFree
import Derived.Test.YtckmddkhkdcmmaaMk
namespace Go.Proofs.Ytckmddkhkdcmmaa
open Go.RowKit
set_option linter.unusedVariables false

/-- What an operation leaves: this value, or a slice that reads so. -/
inductive Kd where
  | eq (u : Value)
  | sl (n : Nat) (l : List UInt8)

def Kd.holds : Kd → Value → World → Prop
  | .eq u, v, _ => v = u
  | .sl n l, v, w => ∃ ao cap, v = .slice ao n cap ∧ Rd w (.slice ao n cap) l

theorem Kd.mono (k : Kd) {v : Value} {w1 w2 : World} (h : k.holds v w1) (f : Fr (fun _ => False) w1 w2) : k.holds v w2 := by
  cases k with
  | eq u => exact h
  | sl n l =>
    obtain ⟨ao, cap, rfl, R⟩ := h
    exact ⟨ao, cap, rfl, R.kept f (fun _ _ h => h)⟩

def Tk (ks : List Kd) (i : Nat) (v : Value) (w : World) : Prop := match ks[i]? with
  | some k => k.holds v w
  | none => True

theorem Tk.mono (ks : List Kd) (i : Nat) (v : Value) (w1 w2 : World) (h : Tk ks i v w1) (f : Fr (fun _ => False) w1 w2) : Tk ks i v w2 := by
  unfold Tk at *
  split
  · rename_i k hk; rw [hk] at h; exact k.mono h f
  · trivial

section
variable {P : Program} {o : Oper} {a : Act} {w : World} {Q : Exit → Act → World → Prop}

theorem ex_val {i : Nat} {T : Nat → Value → World → Prop} (v : Value) (h : (execOp a.eval o).run P w = .ok (.value v) w) (hT : T i v w) : o.wp P a w (fun a'' w'' => ∃ v, a'' = a.put o.dst v ∧ T i v w'' ∧ Fr (fun _ => False) w w'') Q := by
  unfold Oper.wp
  rw [h, Oper.upon_value]
  exact ⟨v, rfl, hT, Fr.refl _ _⟩

theorem ex_move {ρ : Operand → Value} {x : Operand} {v : Value} (ho : o.op = .move x) (hx : ρ x = v) : (execOp ρ o).run P w = .ok (.value v) w := by
  subst hx; simp [execOp, ho]
theorem ex_assign {ρ : Operand → Value} {x : Operand} {v : Value} (ho : o.op = .assign x) (hx : ρ x = v) : (execOp ρ o).run P w = .ok (.value v) w := by
  subst hx; simp [execOp, ho]
theorem ex_pick {ρ : Operand → Value} {c x y : Operand} {v : Value} (ho : o.op = .pick c x y) (hc : ρ c = .bool true) (hx : ρ x = v) : (execOp ρ o).run P w = .ok (.value v) w := by
  subst hx; simp [execOp, ho, hc, go_sem]
theorem ex_conv {ρ : Operand → Value} {s t : TypeId} {x : Operand} {v u : Value} (ho : o.op = .convert s t x) (hx : ρ x = v) (hc : (convert s t v).run P w = .ok u w) : (execOp ρ o).run P w = .ok (.value u) w := by
  subst hx; simp [execOp, ho, hc]
theorem wanted_of {l : List Oper} {j d : Nat} (hg : o.guard = some (j, true)) (hd : (l[j]?).bind (·.dst) = some d) (hlt : d < a.tmps.size) (hv : a.tmps.getD d undef = .bool true) : Region.wanted o (yielded l.toArray a.tmps) = true := by
  have h1 : a.tmps[d]? = some (.bool true) := by
    rw [Array.getD_eq_getD_getElem?, Array.getElem?_eq_getElem hlt] at hv
    rw [Array.getElem?_eq_getElem hlt]
    simpa using hv
  simp [Region.wanted, hg, yielded, hd, h1]
theorem wanted_none {l : List Oper} (hg : o.guard = none) : Region.wanted o (yielded l.toArray a.tmps) = true := by simp [Region.wanted, hg]
end

theorem ex_eqI {ρ : Operand → Value} {o : Oper} {w : World} {t : TypeId} {x y : Operand} {k : IntKind} {n : Int} (ht : Try.prog.underlying t = some (.int k)) (ho : o.op = .binOp .eql t x y t) (hx : ρ x = .int k n) (hy : ρ y = .int k n) : (execOp ρ o).run Try.prog w = .ok (.value (.bool true)) w := by
  simp [execOp, ho, hx, hy, go_sem]
theorem ex_eqS {ρ : Operand → Value} {o : Oper} {w : World} {x y : Operand} {s : ByteArray} (ho : o.op = .binOp .eql 9 x y 9) (hx : ρ x = .string s) (hy : ρ y = .string s) : (execOp ρ o).run Try.prog w = .ok (.value (.bool true)) w := by
  simp [execOp, ho, hx, hy, go_sem]

theorem ex_call {o : Oper} {a : Act} {w : World} {Q : Exit → Act → World → Prop} {i : Nat} {T : Nat → Value → World → Prop} (k : Nat) (args : Array Value) (h : (execOp a.eval o).run Try.prog w = .ok (.enter k args) w)
    (hc : Calls Try.prog k args w fun e w' => (∃ v, e = .returned v ∧ T i v w') ∧ Fr (fun _ => False) w w') : o.wp Try.prog a w (fun a'' w'' => ∃ v, a'' = a.put o.dst v ∧ T i v w'' ∧ Fr (fun _ => False) w w'') Q := by
  unfold Oper.wp
  rw [h, Oper.upon_enter]
  refine hc.mono ?_
  rintro e w' ⟨⟨v, rfl, hT⟩, f⟩
  exact ⟨v, rfl, hT, f⟩

theorem en_call2 {ρ : Operand → Value} {o : Oper} {w : World} {k : Nat} {x y : Operand} {t : Array TypeId} {u v : Value} (ho : o.op = .call { callee := .value (.func k), args := #[x, y], argTypes := t }) (hf : ρ (.func k) = .func (.func k) #[] #[]) (hx : ρ x = u) (hy : ρ y = v) (hk : ∀ args W, Sem.run Try.prog (callFunc k args) W = .ok (.enter k args) W) : (execOp ρ o).run Try.prog w = .ok (.enter k #[u, v]) w := by
  have hk' := hk #[u, v] w
  simp [execOp, ho, hf, hx, hy, go_sem, hk']
theorem en_call1 {ρ : Operand → Value} {o : Oper} {w : World} {k : Nat} {x : Operand} {t : Array TypeId} {u : Value} (ho : o.op = .call { callee := .value (.func k), args := #[x], argTypes := t }) (hf : ρ (.func k) = .func (.func k) #[] #[]) (hx : ρ x = u) (hk : ∀ args W, Sem.run Try.prog (callFunc k args) W = .ok (.enter k args) W) : (execOp ρ o).run Try.prog w = .ok (.enter k #[u]) w := by
  have hk' := hk #[u] w
  simp [execOp, ho, hf, hx, go_sem, hk']
theorem en_call0 {ρ : Operand → Value} {o : Oper} {w : World} {k : Nat} {t : Array TypeId} (ho : o.op = .call { callee := .value (.func k), args := #[], argTypes := t }) (hf : ρ (.func k) = .func (.func k) #[] #[]) (hk : ∀ args W, Sem.run Try.prog (callFunc k args) W = .ok (.enter k args) W) : (execOp ρ o).run Try.prog w = .ok (.enter k #[]) w := by
  have hk' := hk #[] w
  simp [execOp, ho, hf, go_sem, hk']

end Go.Proofs.Ytckmddkhkdcmmaa
