/-
  Regions that draw their order: the kinds of values and of operations, over one rule (Cg2).
  The rule once more, where some operations are not wanted (their guard is off): each operation is shown once.
  Small facts, of no program: draws, texts of bytes, frames.
  A block at hand, plainly and in memory.
-/
import Derived.Test.YtdgmlopaeonacaaM02
import Derived.Test.YtdgmlopaeonacaaM01
import Derived.Laws.BytesArg
import Derived.Lib.ConvBytes
namespace Go.Proofs.Ytdgmlopaeonacaa
set_option linter.unusedVariables false
set_option linter.unusedSimpArgs false
open Go.RowKit
set_option linter.unusedVariables false
set_option linter.unusedSimpArgs false

/-- What an operation leaves: this value; something that lasts; something that holds at one stage. -/
inductive Kd (S : Nat → Prop) where
  | eq (u : Value)
  | pr (f : Value → World → Prop) (h : ∀ v w1 w2, f v w1 → Fr S w1 w2 → f v w2)
  | st (m : Nat) (f : Value → World → Prop) (h : ∀ v w1 w2, f v w1 → Fr (fun _ => False) w1 w2 → f v w2)
  | any

def Kd.holds {S : Nat → Prop} : Kd S → Nat → Value → World → Prop
  | .eq u, _, v, _ => v = u
  | .pr f _, _, v, w => f v w
  | .st m f _, k, v, w => m ≤ k ∧ (k = m → f v w)
  | .any, _, _, _ => True

def Tk {S : Nat → Prop} (ks : List (Kd S)) (k i : Nat) (v : Value) (w : World) : Prop := match ks[i]? with
  | some x => x.holds k v w
  | none => True

theorem Tk.mono {S : Nat → Prop} (ks : List (Kd S)) (k i : Nat) (v : Value) (w1 w2 : World) (h : Tk ks k i v w1) (f : Fr (fun _ => False) w1 w2) : Tk ks k i v w2 := by
  unfold Tk at *
  split
  · rename_i x hx
    rw [hx] at h
    cases x with
    | eq u => exact h
    | pr g hg => exact hg _ _ _ h (f.mono (fun _ _ h => h.elim))
    | st m g hg => exact ⟨h.1, fun e => hg _ _ _ (h.2 e) f⟩
    | any => trivial
  · trivial

theorem Tk.monoC {S : Nat → Prop} (ks : List (Kd S)) (k i : Nat) (v : Value) (w1 w2 : World) (h : Tk ks k i v w1) (f : Fr S w1 w2) : Tk ks (k + 1) i v w2 := by
  unfold Tk at *
  split
  · rename_i x hx
    rw [hx] at h
    cases x with
    | eq u => exact h
    | pr g hg => exact hg _ _ _ h f
    | st m g hg => exact ⟨Nat.le_succ_of_le h.1, fun e => absurd h.1 (by omega)⟩
    | any => trivial
  · trivial

/-- THE RULE, over these kinds. -/
theorem wp_region_kinds {P : Program} {Q : Exit → Act → World → Prop} (S : Nat → Prop) {id : Nat} {l : List Oper} {a : Act} {w : World} (hm : P.follows .mixedOrders = true) (hB : backB l 0 = true) (nd : (dsts l).Nodup) (hd : ∀ d ∈ dsts l, d < a.tmps.size)
    (ks : List (Kd S)) (calls : List Nat) (cn : calls.Nodup) (cl : ∀ i ∈ calls, i < l.length) (cp : ∀ k i j, calls[k]? = some i → calls[k + 1]? = some j → Path l j i) (St : Nat → World → Prop) (st0 : St 0 w.drew)
    (steps : Steps2 P Q l (fun w w' => Fr S w w') (fun w w' => Fr (fun _ => False) w w') (fun w w' => Fr S w w') St (Tk ks) calls a w 0 l)
    (done : ∀ a' w', Base l a a' → Fr S w w' → St calls.length w' → (∀ j, j < l.length → Held l (Tk ks calls.length) a' w' j) → Q .normal a' w') : (Code.region id l.toArray true).wp P Q a w :=
  wp_region_chain2 hm hB nd hd _ _ _ (Fr.refl _ _).drew (fun _ _ _ h k => h.trans k (fun _ _ h => h)) (fun _ _ h => h.mono (fun _ _ h => h.elim)) (fun _ _ h => h) (Tk ks) (Tk.mono ks) (Tk.monoC ks) calls cn cl cp St st0 steps done

/-- Which operations wait for operation j, themselves or through others. -/
def reachL (j : Nat) : List Oper → List Bool → List Bool
  | [], acc => acc
  | o :: r, acc => reachL j r (acc ++ [o.after.any fun e => Region.binds .any e && (e.on == j || acc.getD e.on false)])

theorem reachL_path {l : List Oper} {j : Nat} : ∀ (r : List Oper) (acc : List Bool), l.drop acc.length = r → (∀ k, acc.getD k false = true → Path l k j) → ∀ k, (reachL j r acc).getD k false = true → Path l k j := by
  intro r
  induction r with
  | nil => intro acc _ h k hk; exact h k hk
  | cons o r ih =>
    intro acc hd h k hk
    have ho : l[acc.length]? = some o := by
      have := congrArg (fun x => x[0]?) hd
      simpa using this
    refine ih _ ?_ ?_ k hk
    · have := congrArg List.tail hd
      simpa using this
    · intro k hk
      rcases Nat.lt_trichotomy k acc.length with h1 | h1 | h1
      · refine h k ?_
        simpa [List.getD, List.getElem?_append_left h1] using hk
      · subst h1
        simp only [List.getD, List.getElem?_append_right (Nat.le_refl _), Nat.sub_self, List.getElem?_cons_zero, Option.getD_some] at hk
        rw [← Array.any_toList, List.any_eq_true] at hk
        obtain ⟨e, he', hb⟩ := hk
        simp only [Bool.and_eq_true, Bool.or_eq_true, beq_iff_eq] at hb
        have hdep : depB o e.on = true := by
          unfold depB
          rw [← Array.any_toList, List.any_eq_true]
          exact ⟨e, he', by simp [hb.1]⟩
        rcases hb.2 with h2 | h2
        · rw [h2] at hdep
          exact .one ho hdep
        · exact .step ho hdep (h _ h2)
      · rw [List.getD, List.getElem?_eq_none (by simp; omega)] at hk
        simp at hk

/-- Operation i waits for operation j. -/
theorem waits {l : List Oper} {i j : Nat} (h : (reachL j l []).getD i false = true) : Path l i j :=
  reachL_path l [] (by simp) (fun k hk => by simp at hk) i h

section
variable {P : Program} {o : Oper} {a : Act} {w : World} {Q : Exit → Act → World → Prop} {S : Nat → Prop} {St : Nat → World → Prop} {T : Nat → Nat → Value → World → Prop} {calls : List Nat} {i k : Nat}

theorem k_val (v : Value) (hi : i ∉ calls) (hs : St k w) (h : (execOp a.eval o).run P w = .ok (.value v) w) (hT : T k i v w) : o.wp P a w (Left2 (fun w w' => Fr (fun _ => False) w w') (fun w w' => Fr S w w') St T calls i o k a w) Q := by
  unfold Oper.wp
  rw [h, Oper.upon_value]
  exact ⟨v, rfl, by rw [if_neg hi]; exact hT, fun _ => Fr.refl _ _, fun h => absurd h hi, by rw [if_neg hi]; exact hs⟩
theorem k_new (v : Value) (w2 : World) (hi : i ∉ calls) (hs : St k w2) (f : Fr (fun _ => False) w w2) (h : (execOp a.eval o).run P w = .ok (.value v) w2) (hT : T k i v w2) : o.wp P a w (Left2 (fun w w' => Fr (fun _ => False) w w') (fun w w' => Fr S w w') St T calls i o k a w) Q := by
  unfold Oper.wp
  rw [h, Oper.upon_value]
  exact ⟨v, rfl, by rw [if_neg hi]; exact hT, fun _ => f, fun h => absurd h hi, by rw [if_neg hi]; exact hs⟩
theorem k_chain (v : Value) (w2 : World) (hi : i ∈ calls) (hs : St (k + 1) w2) (f : Fr S w w2) (h : (execOp a.eval o).run P w = .ok (.value v) w2) (hT : T (k + 1) i v w2) : o.wp P a w (Left2 (fun w w' => Fr (fun _ => False) w w') (fun w w' => Fr S w w') St T calls i o k a w) Q := by
  unfold Oper.wp
  rw [h, Oper.upon_value]
  exact ⟨v, rfl, by rw [if_pos hi]; exact hT, fun h => absurd hi h, fun _ => f, by rw [if_pos hi]; exact hs⟩
theorem k_store (w2 : World) (hi : i ∈ calls) (hs : St (k + 1) w2) (f : Fr S w w2) (h : (execOp a.eval o).run P w = .ok .skip w2) (hT : T (k + 1) i undef w2) : o.wp P a w (Left2 (fun w w' => Fr (fun _ => False) w w') (fun w w' => Fr S w w') St T calls i o k a w) Q := by
  unfold Oper.wp
  rw [h, Oper.upon_skip]
  exact ⟨undef, rfl, by rw [if_pos hi]; exact hT, fun h => absurd hi h, fun _ => f, by rw [if_pos hi]; exact hs⟩
theorem k_call (f : Nat) (args : Array Value) (hi : i ∉ calls) (h : (execOp a.eval o).run P w = .ok (.enter f args) w)
    (hc : Calls P f args w fun e w' => ∃ v, e = .returned v ∧ T k i v w' ∧ Fr (fun _ => False) w w' ∧ St k w') : o.wp P a w (Left2 (fun w w' => Fr (fun _ => False) w w') (fun w w' => Fr S w w') St T calls i o k a w) Q := by
  unfold Oper.wp
  rw [h, Oper.upon_enter]
  refine hc.mono ?_
  rintro e w' ⟨v, rfl, hT, f, hs⟩
  exact ⟨v, rfl, by rw [if_neg hi]; exact hT, fun _ => f, fun h => absurd h hi, by rw [if_neg hi]; exact hs⟩
theorem k_callC (f : Nat) (args : Array Value) (hi : i ∈ calls) (h : (execOp a.eval o).run P w = .ok (.enter f args) w)
    (hc : Calls P f args w fun e w' => ∃ v, e = .returned v ∧ T (k + 1) i v w' ∧ Fr S w w' ∧ St (k + 1) w') : o.wp P a w (Left2 (fun w w' => Fr (fun _ => False) w w') (fun w w' => Fr S w w') St T calls i o k a w) Q := by
  unfold Oper.wp
  rw [h, Oper.upon_enter]
  refine hc.mono ?_
  rintro e w' ⟨v, rfl, hT, f, hs⟩
  exact ⟨v, rfl, by rw [if_pos hi]; exact hT, fun h => absurd hi h, fun _ => f, by rw [if_pos hi]; exact hs⟩

theorem wantedT {l : List Oper} {j d : Nat} (hg : o.guard = some (j, true)) (hd : (l[j]?).bind (·.dst) = some d) (hlt : d < a.tmps.size) (hv : a.tmps.getD d undef = .bool true) : Region.wanted o (yielded l.toArray a.tmps) = true := by
  have h1 : a.tmps[d]? = some (.bool true) := by
    rw [Array.getD_eq_getD_getElem?, Array.getElem?_eq_getElem hlt] at hv
    rw [Array.getElem?_eq_getElem hlt]
    simpa using hv
  simp [Region.wanted, hg, yielded, hd, h1]
theorem wantedF {l : List Oper} {j d : Nat} (hg : o.guard = some (j, false)) (hd : (l[j]?).bind (·.dst) = some d) (hlt : d < a.tmps.size) (hv : a.tmps.getD d undef = .bool false) : Region.wanted o (yielded l.toArray a.tmps) = true := by
  have h1 : a.tmps[d]? = some (.bool false) := by
    rw [Array.getD_eq_getD_getElem?, Array.getElem?_eq_getElem hlt] at hv
    rw [Array.getElem?_eq_getElem hlt]
    simpa using hv
  simp [Region.wanted, hg, yielded, hd, h1]
theorem wantedN {l : List Oper} (hg : o.guard = none) : Region.wanted o (yielded l.toArray a.tmps) = true := by simp [Region.wanted, hg]
end

section
variable {P : Program} {ρ : Operand → Value} {o : Oper} {w : World}
theorem x_move {x : Operand} {v : Value} (ho : o.op = .move x) (hx : ρ x = v) : (execOp ρ o).run P w = .ok (.value v) w := by
  subst hx; simp [execOp, ho]
theorem x_assign {x : Operand} {v : Value} (ho : o.op = .assign x) (hx : ρ x = v) : (execOp ρ o).run P w = .ok (.value v) w := by
  subst hx; simp [execOp, ho]
theorem x_pickT {c x y : Operand} {v : Value} (ho : o.op = .pick c x y) (hc : ρ c = .bool true) (hx : ρ x = v) : (execOp ρ o).run P w = .ok (.value v) w := by
  subst hx; simp [execOp, ho, hc, go_sem]
theorem x_pickF {c x y : Operand} {v : Value} (ho : o.op = .pick c x y) (hc : ρ c = .bool false) (hx : ρ y = v) : (execOp ρ o).run P w = .ok (.value v) w := by
  subst hx; simp [execOp, ho, hc, go_sem]
theorem x_conv {s t : TypeId} {x : Operand} {v u : Value} (ho : o.op = .convert s t x) (hx : ρ x = v) (hc : (convert s t v).run P w = .ok u w) : (execOp ρ o).run P w = .ok (.value u) w := by
  subst hx; simp [execOp, ho, hc]
theorem x_nilCheck {x : Operand} {b : Addr} (ho : o.op = .nilCheck x) (hx : ρ x = .pointer (some b)) : (execOp ρ o).run P w = .ok (.value (.pointer (some b))) w := by
  simp [execOp, ho, hx, go_sem]
end

section
variable {ρ : Operand → Value} {o : Oper} {w : World}
theorem x_load1 {x : Operand} {t : TypeId} {b of : Nat} {v : Value} (ht : ∀ W a u, World.cell? W a = some u → (Instr.loadAt t (.pointer (some a))).run Try.prog W = .ok u W) (ho : o.op = .load t x) (hx : ρ x = .pointer (some ⟨b, of, none⟩)) (hc : w.cell? ⟨b, of, none⟩ = some v) : (execOp ρ o).run Try.prog w = .ok (.value v) w := by
  have := ht w _ _ hc
  simp [execOp, ho, hx, this]
theorem x_field {t n : Nat} {x : Operand} {b of off : Nat} (hf : ∀ W, (Instr.fieldAt t (.pointer (some ⟨b, of, none⟩)) n).run Try.prog W = .ok (.pointer (some ⟨b, of + off, none⟩)) W) (ho : o.op = .fieldAddr t x n) (hx : ρ x = .pointer (some ⟨b, of, none⟩)) : (execOp ρ o).run Try.prog w = .ok (.value (.pointer (some ⟨b, of + off, none⟩))) w := by
  have := hf w
  simp [execOp, ho, hx, this]
theorem x_eqI {t : TypeId} {x y : Operand} {k : IntKind} {n m : Int} {b : Bool} (ht : Try.prog.underlying t = some (.int k)) (ho : o.op = .binOp .eql t x y t) (hx : ρ x = .int k n) (hy : ρ y = .int k m) (hb : (n == m) = b) : (execOp ρ o).run Try.prog w = .ok (.value (.bool b)) w := by
  subst hb; simp [execOp, ho, hx, hy, go_sem]
theorem x_eqS {x y : Operand} {s : ByteArray} (ho : o.op = .binOp .eql 9 x y 9) (hx : ρ x = .string s) (hy : ρ y = .string s) : (execOp ρ o).run Try.prog w = .ok (.value (.bool true)) w := by
  simp [execOp, ho, hx, hy, go_sem]
theorem e_call1 {k : Nat} {x : Operand} {t : Array TypeId} {u : Value} (ho : o.op = .call { callee := .value (.func k), args := #[x], argTypes := t }) (hf : ρ (.func k) = .func (.func k) #[] #[]) (hx : ρ x = u) (hk : ∀ args W, Sem.run Try.prog (callFunc k args) W = .ok (.enter k args) W) : (execOp ρ o).run Try.prog w = .ok (.enter k #[u]) w := by
  have hk' := hk #[u] w
  simp [execOp, ho, hf, hx, go_sem, hk']
theorem e_call2 {k : Nat} {x y : Operand} {t : Array TypeId} {u v : Value} (ho : o.op = .call { callee := .value (.func k), args := #[x, y], argTypes := t }) (hf : ρ (.func k) = .func (.func k) #[] #[]) (hx : ρ x = u) (hy : ρ y = v) (hk : ∀ args W, Sem.run Try.prog (callFunc k args) W = .ok (.enter k args) W) : (execOp ρ o).run Try.prog w = .ok (.enter k #[u, v]) w := by
  have hk' := hk #[u, v] w
  simp [execOp, ho, hf, hx, hy, go_sem, hk']
theorem e_call3 {k : Nat} {x y z : Operand} {t : Array TypeId} {u v q : Value} (ho : o.op = .call { callee := .value (.func k), args := #[x, y, z], argTypes := t }) (hf : ρ (.func k) = .func (.func k) #[] #[]) (hx : ρ x = u) (hy : ρ y = v) (hz : ρ z = q) (hk : ∀ args W, Sem.run Try.prog (callFunc k args) W = .ok (.enter k args) W) : (execOp ρ o).run Try.prog w = .ok (.enter k #[u, v, q]) w := by
  have hk' := hk #[u, v, q] w
  simp [execOp, ho, hf, hx, hy, hz, go_sem, hk']
end

theorem ld3 (W : World) (a : Addr) (u : Value) (h : W.cell? a = some u) : (Instr.loadAt 3 (.pointer (some a))).run Try.prog W = .ok u W := by simp [go_sem, h]
theorem ld4 (W : World) (a : Addr) (u : Value) (h : W.cell? a = some u) : (Instr.loadAt 4 (.pointer (some a))).run Try.prog W = .ok u W := by simp [go_sem, h]
theorem ld5 (W : World) (a : Addr) (u : Value) (h : W.cell? a = some u) : (Instr.loadAt 5 (.pointer (some a))).run Try.prog W = .ok u W := by simp [go_sem, h]

theorem wp_nameK {P : Program} {C : Code} {Q : Exit → Act → World → Prop} {a : Act} {w : World} (h : ∀ a0, a0 = a → C.wp P Q a0 w) : C.wp P Q a w := h a rfl

end Go.Proofs.Ytdgmlopaeonacaa

namespace Go.Proofs.Ytdgmlopaeonacaa
set_option linter.unusedVariables false
set_option linter.unusedSimpArgs false
open Go.RowKit
set_option linter.unusedVariables false
set_option linter.unusedSimpArgs false

section
variable {P : Program} {ops : Array Oper} {Q : Exit → Act → World → Prop}

/-- An operation, shown once: it is wanted, and does this, or it is not wanted. -/
def Step3 (P : Program) (Q : Exit → Act → World → Prop) (l : List Oper) (RO R Rc : World → World → Prop) (St : Nat → World → Prop) (T : Nat → Nat → Value → World → Prop) (calls : List Nat) (a : Act) (w : World) (i : Nat) (o : Oper) : Prop :=
  ∀ a' w' k, Base l a a' → RO w w' → St k w' → (∀ m, calls[m]? = some i → m = k) → (∀ m j, calls[m]? = some j → Path l j i → k ≤ m) → (∀ m j, calls[m]? = some j → Path l i j → m < k) → (∀ j, depB o j = true → Held l (T k) a' w' j) →
    (Region.wanted o (yielded l.toArray a'.tmps) = true ∧ o.wp P a' w' (Left2 R Rc St T calls i o k a' w') Q) ∨ (Region.wanted o (yielded l.toArray a'.tmps) = false ∧ i ∉ calls ∧ T k i undef w' ∧ R w' w')

def Steps3 (P : Program) (Q : Exit → Act → World → Prop) (l : List Oper) (RO R Rc : World → World → Prop) (St : Nat → World → Prop) (T : Nat → Nat → Value → World → Prop) (calls : List Nat) (a : Act) (w : World) : Nat → List Oper → Prop
  | _, [] => True
  | i, o :: r => Step3 P Q l RO R Rc St T calls a w i o ∧ Steps3 P Q l RO R Rc St T calls a w (i + 1) r

theorem Steps3.get {l : List Oper} {RO R Rc : World → World → Prop} {St : Nat → World → Prop} {T : Nat → Nat → Value → World → Prop} {calls : List Nat} {a : Act} {w : World} {k : Nat} {r : List Oper} (h : Steps3 P Q l RO R Rc St T calls a w k r) {i : Nat} {o : Oper} (ho : r[i]? = some o) : Step3 P Q l RO R Rc St T calls a w (k + i) o := by
  induction r generalizing k i with
  | nil => simp at ho
  | cons x r ih =>
    cases i with
    | zero => simp at ho; subst ho; exact h.1
    | succ i =>
      simp at ho
      have := ih h.2 ho
      rwa [show k + 1 + i = k + (i + 1) by omega] at this

/-- THE RULE. -/
theorem wp_region_chain3 {id : Nat} {l : List Oper} {a : Act} {w : World} (hm : P.follows .mixedOrders = true) (hB : backB l 0 = true) (nd : (dsts l).Nodup) (hd : ∀ d ∈ dsts l, d < a.tmps.size)
    (RO R Rc : World → World → Prop) (Rdrew : RO w w.drew) (Rtrans : ∀ a b c, RO a b → RO b c → RO a c) (r1 : ∀ a b, R a b → RO a b) (r2 : ∀ a b, Rc a b → RO a b)
    (T : Nat → Nat → Value → World → Prop) (mono : ∀ k i v w1 w2, T k i v w1 → R w1 w2 → T k i v w2) (monoC : ∀ k i v w1 w2, T k i v w1 → Rc w1 w2 → T (k + 1) i v w2)
    (calls : List Nat) (cn : calls.Nodup) (cl : ∀ i ∈ calls, i < l.length) (cp : ∀ k i j, calls[k]? = some i → calls[k + 1]? = some j → Path l j i) (St : Nat → World → Prop) (st0 : St 0 w.drew)
    (steps : Steps3 P Q l RO R Rc St T calls a w 0 l)
    (done : ∀ a' w', Base l a a' → RO w w' → St calls.length w' → (∀ j, j < l.length → Held l (T calls.length) a' w' j) → Q .normal a' w') : (Code.region id l.toArray true).wp P Q a w := by
  refine wp_region_any hm ?_
  have hsz : l.toArray.size = l.length := by simp
  rw [hsz]
  let I : Array Bool → Act → World → Prop := fun listed a' w' => listed.size = l.length ∧ Base l a a' ∧ RO w w' ∧ Shut l listed ∧
    ∃ k, (∀ j, listed.getD j false = true → Held l (T k) a' w' j) ∧ k ≤ calls.length ∧ St k w' ∧ ∀ m i, calls[m]? = some i → (listed.getD i false = true ↔ m < k)
  refine wpAny_inv I ?_ ?_ _ _ _ _ ?_ ?_
  · intro listed a' w' i ⟨h1, h2, h3, hS, k, h4, hk, hst, hck⟩ hi
    obtain ⟨h5, o, ho, h6⟩ := mem_ready.1 hi
    have ho' : l[i]? = some o := by simpa using ho
    have hil : i < l.length := (List.getElem?_eq_some_iff.1 ho').1
    have hdep : ∀ j, depB o j = true → listed.getD j false = true := fun j hj => by
      unfold depB at hj
      rw [← Array.any_toList, List.any_eq_true] at hj
      obtain ⟨e, he', hb⟩ := hj
      have he : e ∈ o.after := by simpa using he'
      simp only [Bool.and_eq_true, beq_iff_eq] at hb
      rw [← hb.2]
      exact h6 e he hb.1
    have hni : listed.getD i false = false := by
      have hlt : i < listed.size := by omega
      simp [hlt] at h5 ⊢
      exact h5
    have hmk : ∀ m, calls[m]? = some i → m = k := fun m hm' => by
      have h7 : ¬ m < k := fun h => by rw [(hck m i hm').2 h] at hni; simp at hni
      rcases Nat.eq_zero_or_pos m with e | e
      · omega
      · obtain ⟨m', rfl⟩ : ∃ m', m = m' + 1 := ⟨m - 1, by omega⟩
        have hlt : m' < calls.length := by have := (List.getElem?_eq_some_iff.1 hm').1; omega
        have hp := cp m' _ i (List.getElem?_eq_getElem hlt) hm'
        have := hp.listed hS (fun o2 ho2 j hj => by rw [ho'] at ho2; simp at ho2; subst ho2; exact hdep j hj)
        have := (hck m' _ (List.getElem?_eq_getElem hlt)).1 this
        omega
    have hle : ∀ m j, calls[m]? = some j → Path l j i → k ≤ m := fun m j hmj hp => by
      rcases Nat.lt_or_ge m k with h | h
      · have hj := (hck m j hmj).2 h
        have := hp.listed hS (fun o2 ho2 x hx => hS j o2 ho2 hj x hx)
        rw [this] at hni
        simp at hni
      · exact h
    have hge : ∀ m j, calls[m]? = some j → Path l i j → m < k := fun m j hmj hp =>
      (hck m j hmj).1 (hp.listed hS (fun o2 ho2 x hx => by rw [ho'] at ho2; simp at ho2; subst ho2; exact hdep x hx))
    have hst' := steps.get ho'
    rw [Nat.zero_add] at hst'
    have hstep := hst' a' w' k h2 h3 hst hmk hle hge (fun j hj => h4 _ (hdep j hj))
    suffices fin : ∀ a'' w'', Left2 R Rc St T calls i o k a' w' a'' w'' → I (listed.setIfInBounds i true) a'' w'' by
      unfold wpOp
      rcases hstep with ⟨hw, hwp⟩ | ⟨hw, hic, hT, hR⟩
      · simp only [ho, hw, if_true]
        exact .inl (Oper.wp_mono fin hwp)
      · simp only [ho, hw]
        exact fin _ _ ⟨undef, rfl, by rw [if_neg hic]; exact hT, fun _ => hR, fun h => absurd h hic, by rw [if_neg hic]; exact hst⟩
    rintro a'' w'' ⟨v, rfl, hT, hf, hfc, hsk⟩
    have hRO : RO w' w'' := by
      by_cases hic : i ∈ calls
      · exact r2 _ _ (hfc hic)
      · exact r1 _ _ (hf hic)
    have hold : ∀ j v, T k j v w' → T (if i ∈ calls then k + 1 else k) j v w'' := fun j v h => by
      by_cases hic : i ∈ calls
      · rw [if_pos hic]; exact monoC _ _ _ _ _ h (hfc hic)
      · rw [if_neg hic]; exact mono _ _ _ _ _ h (hf hic)
    refine ⟨by simp [h1], ⟨?_, ?_, fun s hs => ?_⟩, Rtrans _ _ _ h3 hRO, ?_, (if i ∈ calls then k + 1 else k), fun j hj d hdj => ?_, ?_⟩
    · cases hdst : o.dst with
      | none => exact h2.size
      | some d => simp [Act.put, h2.size]
    · cases hdst : o.dst with
      | none => exact h2.defers
      | some d => exact h2.defers
    · cases hdst : o.dst with
      | none => exact h2.old s hs
      | some d =>
        rw [put_getD (fun e => hs (by rw [← e]; exact mem_dsts ho' hdst))]
        exact h2.old s hs
    · intro i2 o2 ho2 hl2 j hj
      have grow : ∀ x, listed.getD x false = true → (listed.setIfInBounds i true).getD x false = true := fun x hx => by
        by_cases e : i = x
        · subst e
          have hlt : i < listed.size := by omega
          simp [hlt]
        · rw [getD_set_ne false e]; exact hx
      by_cases e : i = i2
      · subst e
        rw [ho'] at ho2
        simp at ho2
        subst ho2
        exact grow j (hdep j hj)
      · rw [getD_set_ne false e] at hl2
        exact grow j (hS i2 o2 ho2 hl2 j hj)
    · obtain ⟨oj, hoj, hdj'⟩ : ∃ oj, l[j]? = some oj ∧ oj.dst = some d := by
        cases hc : l[j]? with
        | none => rw [hc] at hdj; simp at hdj
        | some oj => rw [hc] at hdj; exact ⟨oj, rfl, by simpa using hdj⟩
      by_cases e : i = j
      · subst e
        rw [ho'] at hoj
        simp at hoj
        subst hoj
        rw [hdj', put_self (by rw [h2.size]; exact hd d (mem_dsts ho' hdj'))]
        exact hT
      · rw [getD_set_ne false e] at hj
        have hold' := hold _ _ (h4 j hj d hdj)
        cases hdst : o.dst with
        | none => exact hold'
        | some d' =>
          rw [put_getD (fun e2 => e (dsts_inj nd ho' hoj (by rw [hdst, e2]) hdj'))]
          exact hold'
    · by_cases hic : i ∈ calls
      · obtain ⟨m, hm'⟩ := List.getElem?_of_mem hic
        have hmk' := hmk m hm'
        subst hmk'
        rw [if_pos hic] at hsk ⊢
        have hml : m < calls.length := (List.getElem?_eq_some_iff.1 hm').1
        refine ⟨by omega, hsk, fun m2 i2 hm2 => ?_⟩
        by_cases e : i = i2
        · subst e
          have hlt : i < listed.size := by omega
          have : m2 = m := (List.getElem?_inj (List.getElem?_eq_some_iff.1 hm2).1 cn).1 (hm2.trans hm'.symm)
          subst this
          simp [hlt]
        · rw [getD_set_ne false e, hck m2 i2 hm2]
          constructor
          · intro h; omega
          · intro h
            rcases Nat.lt_or_ge m2 m with h' | h'
            · exact h'
            · have : m2 = m := by omega
              subst this
              rw [hm2] at hm'
              simp at hm'
              exact absurd hm'.symm e
      · rw [if_neg hic] at hsk ⊢
        refine ⟨hk, hsk, fun m2 i2 hm2 => ?_⟩
        rw [getD_set_ne false (fun e => hic (by subst e; exact List.mem_of_getElem? hm2)), hck m2 i2 hm2]
  · intro listed a' w' ⟨h1, h2, h3, hS, k, h4, hk, hst, hck⟩ hr
    have hall := all_listed hB h1 hr
    have hke : k = calls.length := by
      rcases Nat.lt_or_ge k calls.length with h | h
      · have := (hck k _ (List.getElem?_eq_getElem h)).1 (hall _ (cl _ (List.getElem_mem h)))
        omega
      · omega
    subst hke
    exact done a' w' h2 h3 hst (fun j hj => h4 j (hall j hj))
  · simp [lefts]
  · have none : ∀ j, ¬ (Array.replicate l.length false).getD j false = true := fun j hj => by
      simp only [Array.getD_eq_getD_getElem?, Array.getElem?_replicate] at hj
      split at hj <;> simp at hj
    exact ⟨by simp, ⟨rfl, rfl, fun _ _ => rfl⟩, Rdrew, fun i o _ hl => (none i hl).elim, 0, fun j hj => (none j hj).elim, Nat.zero_le _, st0, fun m i _ => ⟨fun h => (none i h).elim, fun h => by omega⟩⟩
end

/-- THE RULE, over the kinds. -/
theorem wp_region_kinds3 {P : Program} {Q : Exit → Act → World → Prop} (S : Nat → Prop) {id : Nat} {l : List Oper} {a : Act} {w : World} (hm : P.follows .mixedOrders = true) (hB : backB l 0 = true) (nd : (dsts l).Nodup) (hd : ∀ d ∈ dsts l, d < a.tmps.size)
    (ks : List (Kd S)) (calls : List Nat) (cn : calls.Nodup) (cl : ∀ i ∈ calls, i < l.length) (cp : ∀ k i j, calls[k]? = some i → calls[k + 1]? = some j → Path l j i) (St : Nat → World → Prop) (st0 : St 0 w.drew)
    (steps : Steps3 P Q l (fun w w' => Fr S w w') (fun w w' => Fr (fun _ => False) w w') (fun w w' => Fr S w w') St (Tk ks) calls a w 0 l)
    (done : ∀ a' w', Base l a a' → Fr S w w' → St calls.length w' → (∀ j, j < l.length → Held l (Tk ks calls.length) a' w' j) → Q .normal a' w') : (Code.region id l.toArray true).wp P Q a w :=
  wp_region_chain3 hm hB nd hd _ _ _ (Fr.refl _ _).drew (fun _ _ _ h k => h.trans k (fun _ _ h => h)) (fun _ _ h => h.mono (fun _ _ h => h.elim)) (fun _ _ h => h) (Tk ks) (Tk.mono ks) (Tk.monoC ks) calls cn cl cp St st0 steps done

section
variable {P : Program} {o : Oper} {a : Act} {w : World} {S : Nat → Prop} {T : Nat → Nat → Value → World → Prop} {calls : List Nat} {i k : Nat}
theorem offT {l : List Oper} {j d : Nat} (hg : o.guard = some (j, true)) (hd : (l[j]?).bind (·.dst) = some d) (hlt : d < a.tmps.size) (hv : a.tmps.getD d undef = .bool false) : Region.wanted o (yielded l.toArray a.tmps) = false := by
  have h1 : a.tmps[d]? = some (.bool false) := by
    rw [Array.getD_eq_getD_getElem?, Array.getElem?_eq_getElem hlt] at hv
    rw [Array.getElem?_eq_getElem hlt]
    simpa using hv
  simp [Region.wanted, hg, yielded, hd, h1]
theorem offF {l : List Oper} {j d : Nat} (hg : o.guard = some (j, false)) (hd : (l[j]?).bind (·.dst) = some d) (hlt : d < a.tmps.size) (hv : a.tmps.getD d undef = .bool true) : Region.wanted o (yielded l.toArray a.tmps) = false := by
  have h1 : a.tmps[d]? = some (.bool true) := by
    rw [Array.getD_eq_getD_getElem?, Array.getElem?_eq_getElem hlt] at hv
    rw [Array.getElem?_eq_getElem hlt]
    simpa using hv
  simp [Region.wanted, hg, yielded, hd, h1]
theorem offU {l : List Oper} {j d : Nat} {b : Bool} (hg : o.guard = some (j, b)) (hd : (l[j]?).bind (·.dst) = some d) (hv : a.tmps.getD d undef = undef) : Region.wanted o (yielded l.toArray a.tmps) = false := by
  have h1 : a.tmps[d]? = none ∨ a.tmps[d]? = some undef := by
    rw [Array.getD_eq_getD_getElem?] at hv
    cases h : a.tmps[d]? with
    | none => exact .inl rfl
    | some v => rw [h] at hv; right; simpa using hv
  rcases h1 with h1 | h1 <;> simp [Region.wanted, hg, yielded, hd, h1, undef]
end
end Go.Proofs.Ytdgmlopaeonacaa

namespace Go.Proofs.Ytdgmlopaeonacaa
set_option linter.unusedVariables false
set_option linter.unusedSimpArgs false
open Go.RowKit
set_option linter.unusedVariables false

attribute [local go_sem ↓] Go.wp_at_zero Go.wp_at_succ

theorem Fr.drewN {S : Nat → Prop} {a w : World} (h : Fr S a w) (n : Nat) : Fr S a (w.drewN n) := by
  induction n with
  | zero => exact h
  | succ n ih => exact ih.drew
theorem Fr.ofDrewN {S : Nat → Prop} (w : World) (n : Nat) : Fr S w (w.drewN n) := (Fr.refl S w).drewN n
theorem wp_world {P : Program} {C : Code} {Q : Exit → Act → World → Prop} {a : Act} {w : World} (h : ∀ w2, w2 = w → C.wp P Q a w2) : C.wp P Q a w := h w rfl

/-- A text of bytes. -/
def str (l : List UInt8) : ByteArray := ⟨l.toArray⟩

theorem str_data (l : List UInt8) : (str l).data.toList = l := by simp [str]
theorem str_size (l : List UInt8) : (str l).size = l.length := by simp [str, ByteArray.size]

theorem conv_rd {P : Program} {w : World} {v : Value} {l : List UInt8} (h : Rd w v l) (src dst e : TypeId) (hs : P.underlying src = some (.slice e)) (he : P.underlying e = some (.int .u8)) (hd : P.underlying dst = some .string) :
    (convert src dst v).run P w = .ok (.string (str l)) w := by
  obtain ⟨ao, cap, rfl⟩ := h.shape
  by_cases hl : l.length = 0
  · obtain rfl := List.eq_nil_of_length_eq_zero hl
    rw [run_convert_bytes_string w src dst e _ _ _ hs he hd]
    cases ao with
    | none => simp [Conv.bytesToString, str]; rfl
    | some ad =>
      have e2 : (loadCells ad 0).run P w = .ok (([] : List Int).map (Value.int .u8)).toArray w := by simp [loadCells, loadCellsFrom]
      exact (run_bytesToString w ad 0 cap [] e2).trans rfl
  · obtain ⟨b, o, rfl, _, _, _, h3⟩ := h.lits (by omega)
    rw [run_convert_bytes_arg w src e hs he b o l.length cap (l.map fun b => (b.toNat : Int)) (by simp) ?_ dst hd]
    · rw [show strOfNums (l.map fun b => (b.toNat : Int)) = str l from ?_]
      unfold strOfNums str
      rw [List.map_map]
      congr 2
      have : ((fun n : Int => UInt8.ofNat n.toNat) ∘ fun b : UInt8 => (b.toNat : Int)) = id := by
        funext b; simp
      rw [this, List.map_id]
    · intro i hi
      rw [h3 i hi]
      simp [List.getD, hi]

theorem str_inj {a b : List UInt8} (h : str a = str b) : a = b := by
  have := congrArg (fun s => s.data.toList) h
  simpa [str] using this


def Slots (a : Act) : Nat → List Value → Prop
  | _, [] => True
  | i, v :: vs => a.tmps.getD i undef = v ∧ Slots a (i + 1) vs

theorem Slots.get {a : Act} {vs : List Value} {k : Nat} (h : Slots a k vs) (i : Nat) (hi : i < vs.length) : a.tmps.getD (k + i) undef = vs[i] := by
  induction vs generalizing k i with
  | nil => simp at hi
  | cons v vs ih =>
    cases i with
    | zero => exact h.1
    | succ i =>
      have := ih h.2 i (by simpa using hi)
      rw [show k + (i + 1) = k + 1 + i by omega]
      simpa using this

theorem frame_eq {a : Act} {vs : List Value} (hs : a.tmps.size = vs.length) (hd : a.defers = []) (h : Slots a 0 vs) : a = { tmps := vs.toArray, defers := [] } := by
  obtain ⟨t, df⟩ := a
  simp only at hs hd
  subst hd
  congr 1
  apply Array.ext
  · simpa using hs
  · intro i h1 h2
    have := h.get i (by omega)
    rw [Nat.zero_add] at this
    simpa [h1] using this

end Go.Proofs.Ytdgmlopaeonacaa

namespace Go.Proofs.Ytdgmlopaeonacaa
set_option linter.unusedVariables false
set_option linter.unusedSimpArgs false
open Go.RowKit
set_option linter.unusedVariables false

attribute [local go_sem ↓] Go.wp_at_zero Go.wp_at_succ

/-- A block that is at hand, plainly. -/
structure Pl where
  b : Int
  first : Nat
  last : Nat
  pins : Int
  dirty : Bool
  P : List UInt8

def ptr (a : Nat) : Value := .pointer (some ⟨a, 0, none⟩)
/-- Its cells: who is older, who is newer. -/
def nodeC (o n : Value) (x : Pl) : List Value := o :: n :: .int .i64 x.b :: .int .u64 (x.first : Int) :: .int .u64 (x.last : Int) :: .int .i64 x.pins :: .bool x.dirty :: bvs x.P
def NAt (w : World) (a : Nat) (o n : Value) (x : Pl) : Prop := w.heap[a]? = some (.cells (nodeC o n x).toArray 91 (0, 0))
def zeroP (b : Int) : Pl := ⟨b, 0, 0, 0, false, List.replicate 384 0⟩

theorem zero91 : Try.zeroCells91 = (nodeC (.pointer none) (.pointer none) (zeroP 0)).toArray := by kernel_rfl

theorem NAt.kept {S : Nat → Prop} {w w' : World} {a : Nat} {o n : Value} {x : Pl} (h : NAt w a o n x) (f : Fr S w w') (hs : ¬ S a) : NAt w' a o n x := by
  unfold NAt at *
  rw [f.block a (lt_of_heap h) hs]; exact h
theorem NAt.set0 {w : World} {a : Nat} {o n : Value} {x : Pl} (h : NAt w a o n x) (v : Value) : NAt (w.setCell ⟨a, 0, none⟩ v) a v n x := by
  have := heap_setCell_same w a 0 _ 91 v h
  unfold NAt
  rw [this, List.setIfInBounds_toArray]; rfl
theorem NAt.set1 {w : World} {a : Nat} {o n : Value} {x : Pl} (h : NAt w a o n x) (v : Value) : NAt (w.setCell ⟨a, 1, none⟩ v) a o v x := by
  have := heap_setCell_same w a 1 _ 91 v h
  unfold NAt
  rw [this, List.setIfInBounds_toArray]; rfl
theorem NAt.other {w : World} {a : Nat} {o n : Value} {x : Pl} (h : NAt w a o n x) {b : Nat} (hb : a ≠ b) (i : Nat) (v : Value) : NAt (w.setCell ⟨b, i, none⟩ v) a o n x := by
  unfold NAt at *
  rw [Below.heap_setCell _ _ _ _ hb]; exact h
theorem NAt.c0 {w : World} {a : Nat} {o n : Value} {x : Pl} (h : NAt w a o n x) : w.cell? ⟨a, 0, none⟩ = some o := by rw [cell_of_heap h]; rfl
theorem NAt.c1 {w : World} {a : Nat} {o n : Value} {x : Pl} (h : NAt w a o n x) : w.cell? ⟨a, 1, none⟩ = some n := by rw [cell_of_heap h]; rfl
theorem NAt.c2 {w : World} {a : Nat} {o n : Value} {x : Pl} (h : NAt w a o n x) : w.cell? ⟨a, 2, none⟩ = some (.int .i64 x.b) := by rw [cell_of_heap h]; rfl
theorem NAt.c3 {w : World} {a : Nat} {o n : Value} {x : Pl} (h : NAt w a o n x) : w.cell? ⟨a, 3, none⟩ = some (.int .u64 (x.first : Int)) := by rw [cell_of_heap h]; rfl
theorem NAt.c4 {w : World} {a : Nat} {o n : Value} {x : Pl} (h : NAt w a o n x) : w.cell? ⟨a, 4, none⟩ = some (.int .u64 (x.last : Int)) := by rw [cell_of_heap h]; rfl
theorem NAt.c5 {w : World} {a : Nat} {o n : Value} {x : Pl} (h : NAt w a o n x) : w.cell? ⟨a, 5, none⟩ = some (.int .i64 x.pins) := by rw [cell_of_heap h]; rfl
theorem NAt.c6 {w : World} {a : Nat} {o n : Value} {x : Pl} (h : NAt w a o n x) : w.cell? ⟨a, 6, none⟩ = some (.bool x.dirty) := by rw [cell_of_heap h]; rfl

theorem newRing_any (w : World) : Calls Try.prog 30 #[] w fun e w' => e = .returned (ptr w.heap.size) ∧ NAt w' w.heap.size (ptr w.heap.size) (ptr w.heap.size) (zeroP 0) ∧ Fr (fun _ => False) w w' := by
  go_enter Try.func30, Try.ntmps30
  go_wp2_with fail
  go_ret
  refine ⟨rfl, ?_, (Fr.refl _ _).alloc _⟩
  unfold NAt
  rw [heap_alloc_new, zero91]
  simp [nodeC, ptr]

theorem unlink_any (w : World) (a p n : Nat) (x : Pl) (h : NAt w a (ptr p) (ptr n) x) (hp : ∃ o y, NAt w p o (ptr a) y) (hn : ∃ m y, NAt w n (ptr a) m y) (hap : a ≠ p) (han : a ≠ n) : Calls Try.prog 66 #[ptr a] w fun e w' => e = .returned (.tuple #[]) ∧
    (∀ k o m y, NAt w k o m y → k ≠ a → NAt w' k (if k = n then ptr p else o) (if k = p then ptr n else m) y) ∧ NAt w' a (.pointer none) (.pointer none) x ∧ Fr (fun k => k = p ∨ k = n ∨ k = a) w w' := by
  have c0 := h.c0
  have c1 := h.c1
  obtain ⟨op, yp, hp⟩ := hp
  obtain ⟨mn, yn, hn⟩ := hn
  have d1 := hp.c1
  have z1 := frozen_of_heap hp 1
  unfold ptr at c0 c1 d1 ⊢
  have H := hide h
  have HP := hide hp
  have HN := hide hn
  clear h hp hn
  go_enter Try.func66, Try.ntmps66
  go_wp2_with fail
  refine wp_region_quietTail 13 (by kernel_rfl) (by kernel_rfl) ?_
  simp only [List.take_succ_cons, List.take_zero]
  repeat (go_big_quiet_step (fail))
  refine wpQuiet_nil ?_
  intro _ hw'
  obtain ⟨nq, hw''⟩ := hw'
  subst hw''
  simp only [List.drop_succ_cons, List.drop_zero]
  go_wp2_with fail
  refine wp_world ?_
  intro w1 hw1
  have fd : Fr (fun _ => False) w (w.drewN nq) := Fr.ofDrewN _ _
  have K1 : Hid (∀ k o m y, NAt w k o m y → NAt w1 k o (if k = p then ptr n else m) y) := hide (fun k o m y hk => by
    rw [hw1]
    by_cases e : k = p
    · subst e; rw [if_pos rfl]; exact (hk.kept fd id).set1 _
    · rw [if_neg e]; exact (hk.kept fd id).other e _ _)
  have F1 : Hid (Fr (fun k => k = p ∨ k = n ∨ k = a) w w1) := hide (by
    rw [hw1]; exact (fd.mono (fun _ _ h => h.elim)).setCell (p := ⟨p, 1, none⟩) (fun _ => .inl rfl) _)
  have h1 := unhide K1 _ _ _ _ (unhide H)
  rw [if_neg hap] at h1
  have hn1 := unhide K1 _ _ _ _ (unhide HN)
  have c0 := h1.c0
  have c1 := h1.c1
  have d0 := hn1.c0
  have z0 := frozen_of_heap hn1 0
  have y0 := frozen_of_heap h1 0
  have y1 := frozen_of_heap h1 1
  unfold ptr at c0 c1 d0
  have H1 := hide h1
  clear hw1 fd H HP HN z1 d1 h1 hn1
  refine wp_region_quietTail 13 (by kernel_rfl) (by kernel_rfl) ?_
  simp only [List.take_succ_cons, List.take_zero]
  repeat (go_big_quiet_step (fail))
  refine wpQuiet_nil ?_
  intro _ hw'
  obtain ⟨nr, hw''⟩ := hw'
  subst hw''
  simp only [List.drop_succ_cons, List.drop_zero]
  go_wp2_with fail
  go_end0
  have fd : Fr (fun _ => False) w1 (w1.drewN nr) := Fr.ofDrewN _ _
  refine ⟨rfl, fun k o m y hk hka => ?_, ?_, ?_⟩
  · have h2 := (unhide K1 k o m y hk).kept fd id
    refine ((NAt.other ?_ hka _ _).other hka _ _)
    by_cases e : k = n
    · subst e; rw [if_pos rfl]; exact h2.set0 _
    · rw [if_neg e]; exact h2.other e _ _
  · exact ((((unhide H1).kept fd id).other han _ _).set0 _).set1 _
  · exact ((((unhide F1).trans fd (fun _ _ h => h.elim)).setCell (p := ⟨n, 0, none⟩) (fun _ => .inr (.inl rfl)) _).setCell (p := ⟨a, 0, none⟩) (fun _ => .inr (.inr rfl)) _).setCell (p := ⟨a, 1, none⟩) (fun _ => .inr (.inr rfl)) _

/-- A block goes ahead of another one, whose older one is p. -/
theorem linkAhead_any (w : World) (a u p : Nat) (x : Pl) (o m : Value) (h : NAt w a o m x) (hu : ∃ m' y, NAt w u (ptr p) m' y) (hp : ∃ o' y, NAt w p o' (ptr u) y) (hau : a ≠ u) (hap : a ≠ p) : Calls Try.prog 65 #[ptr a, ptr u] w fun e w' => e = .returned (.tuple #[]) ∧
    (∀ k o m y, NAt w k o m y → k ≠ a → NAt w' k (if k = u then ptr a else o) (if k = p then ptr a else m) y) ∧ NAt w' a (ptr p) (ptr u) x ∧ Fr (fun k => k = p ∨ k = u ∨ k = a) w w' := by
  obtain ⟨mu, yu, hu⟩ := hu
  obtain ⟨op, yp, hp⟩ := hp
  have c0 := h.c0
  have c1 := h.c1
  have d0 := hu.c0
  have e1 := hp.c1
  have d1 := hu.c1
  have e0 := hp.c0
  have x0 := frozen_of_heap h 0
  have x1 := frozen_of_heap h 1
  have y0 := frozen_of_heap hu 0
  have z1 := frozen_of_heap hp 1
  unfold ptr at d0 e1 ⊢
  have H := hide h
  have HU := hide hu
  have HP := hide hp
  clear h hu hp
  go_enter Try.func65, Try.ntmps65
  go_wp2_with fail
  go_end0
  refine ⟨rfl, fun k o m y hk hka => ?_, ?_, ?_⟩
  · have h2 := (hk.other hka 0 (.pointer (some ⟨p, 0, none⟩))).other hka 1 (.pointer (some ⟨u, 0, none⟩))
    have h3 : NAt (((w.setCell ⟨a, 0, none⟩ (.pointer (some ⟨p, 0, none⟩))).setCell ⟨a, 1, none⟩ (.pointer (some ⟨u, 0, none⟩))).setCell ⟨p, 1, none⟩ (.pointer (some ⟨a, 0, none⟩))) k o (if k = p then .pointer (some ⟨a, 0, none⟩) else m) y := by
      by_cases e : k = p
      · subst e; rw [if_pos rfl]; exact h2.set1 _
      · rw [if_neg e]; exact h2.other e _ _
    by_cases e : k = u
    · subst e; rw [if_pos rfl]; exact h3.set0 _
    · rw [if_neg e]; exact h3.other e _ _
  · exact ((((unhide H).set0 _).set1 _).other hap _ _).other hau _ _
  · exact ((((Fr.refl _ _).setCell (p := ⟨a, 0, none⟩) (fun _ => .inr (.inr rfl)) _).setCell (p := ⟨a, 1, none⟩) (fun _ => .inr (.inr rfl)) _).setCell (p := ⟨p, 1, none⟩) (fun _ => .inl rfl) _).setCell (p := ⟨u, 0, none⟩) (fun _ => .inr (.inl rfl)) _
end Go.Proofs.Ytdgmlopaeonacaa
