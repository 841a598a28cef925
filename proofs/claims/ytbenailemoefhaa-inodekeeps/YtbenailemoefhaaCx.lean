/-
  Regions that draw their order: the kinds of values and of operations, over one rule (Cg2).
-/
import Derived.Test.YtbenailemoefhaaCg2
import Derived.Test.YtbenailemoefhaaDm
namespace Go.Proofs.Ytbenailemoefhaa
open Go.RowKit
set_option linter.unusedVariables false
set_option linter.unusedSimpArgs false

/-- What an operation leaves: this value; something that lasts; something that holds at one stage. -/
inductive Kd (S : Nat → Prop) where
  | eq (u : Value)
  | pr (f : Value → World → Prop) (h : ∀ v w1 w2, f v w1 → Fr S w1 w2 → f v w2)
  | st (m : Nat) (f : Value → World → Prop) (h : ∀ v w1 w2, f v w1 → Fr (fun _ => False) w1 w2 → f v w2)
  | any

def Kd.holds {S : Nat → Prop} : Kd S → Nat → Value → World → Prop
  | .eq u, _, v, _ => v = u
  | .pr f _, _, v, w => f v w
  | .st m f _, k, v, w => m ≤ k ∧ (k = m → f v w)
  | .any, _, _, _ => True

def Tk {S : Nat → Prop} (ks : List (Kd S)) (k i : Nat) (v : Value) (w : World) : Prop := match ks[i]? with
  | some x => x.holds k v w
  | none => True

theorem Tk.mono {S : Nat → Prop} (ks : List (Kd S)) (k i : Nat) (v : Value) (w1 w2 : World) (h : Tk ks k i v w1) (f : Fr (fun _ => False) w1 w2) : Tk ks k i v w2 := by
  unfold Tk at *
  split
  · rename_i x hx
    rw [hx] at h
    cases x with
    | eq u => exact h
    | pr g hg => exact hg _ _ _ h (f.mono (fun _ _ h => h.elim))
    | st m g hg => exact ⟨h.1, fun e => hg _ _ _ (h.2 e) f⟩
    | any => trivial
  · trivial

theorem Tk.monoC {S : Nat → Prop} (ks : List (Kd S)) (k i : Nat) (v : Value) (w1 w2 : World) (h : Tk ks k i v w1) (f : Fr S w1 w2) : Tk ks (k + 1) i v w2 := by
  unfold Tk at *
  split
  · rename_i x hx
    rw [hx] at h
    cases x with
    | eq u => exact h
    | pr g hg => exact hg _ _ _ h f
    | st m g hg => exact ⟨Nat.le_succ_of_le h.1, fun e => absurd h.1 (by omega)⟩
    | any => trivial
  · trivial

/-- THE RULE, over these kinds. -/
theorem wp_region_kinds {P : Program} {Q : Exit → Act → World → Prop} (S : Nat → Prop) {id : Nat} {l : List Oper} {a : Act} {w : World} (hm : P.follows .mixedOrders = true) (hB : backB l 0 = true) (nd : (dsts l).Nodup) (hd : ∀ d ∈ dsts l, d < a.tmps.size)
    (ks : List (Kd S)) (calls : List Nat) (cn : calls.Nodup) (cl : ∀ i ∈ calls, i < l.length) (cp : ∀ k i j, calls[k]? = some i → calls[k + 1]? = some j → Path l j i) (St : Nat → World → Prop) (st0 : St 0 w.drew)
    (steps : Steps2 P Q l (fun w w' => Fr S w w') (fun w w' => Fr (fun _ => False) w w') (fun w w' => Fr S w w') St (Tk ks) calls a w 0 l)
    (done : ∀ a' w', Base l a a' → Fr S w w' → St calls.length w' → (∀ j, j < l.length → Held l (Tk ks calls.length) a' w' j) → Q .normal a' w') : (Code.region id l.toArray true).wp P Q a w :=
  wp_region_chain2 hm hB nd hd _ _ _ (Fr.refl _ _).drew (fun _ _ _ h k => h.trans k (fun _ _ h => h)) (fun _ _ h => h.mono (fun _ _ h => h.elim)) (fun _ _ h => h) (Tk ks) (Tk.mono ks) (Tk.monoC ks) calls cn cl cp St st0 steps done

/-- Which operations wait for operation j, themselves or through others. -/
def reachL (j : Nat) : List Oper → List Bool → List Bool
  | [], acc => acc
  | o :: r, acc => reachL j r (acc ++ [o.after.any fun e => Region.binds .any e && (e.on == j || acc.getD e.on false)])

theorem reachL_path {l : List Oper} {j : Nat} : ∀ (r : List Oper) (acc : List Bool), l.drop acc.length = r → (∀ k, acc.getD k false = true → Path l k j) → ∀ k, (reachL j r acc).getD k false = true → Path l k j := by
  intro r
  induction r with
  | nil => intro acc _ h k hk; exact h k hk
  | cons o r ih =>
    intro acc hd h k hk
    have ho : l[acc.length]? = some o := by
      have := congrArg (fun x => x[0]?) hd
      simpa using this
    refine ih _ ?_ ?_ k hk
    · have := congrArg List.tail hd
      simpa using this
    · intro k hk
      rcases Nat.lt_trichotomy k acc.length with h1 | h1 | h1
      · refine h k ?_
        simpa [List.getD, List.getElem?_append_left h1] using hk
      · subst h1
        simp only [List.getD, List.getElem?_append_right (Nat.le_refl _), Nat.sub_self, List.getElem?_cons_zero, Option.getD_some] at hk
        rw [← Array.any_toList, List.any_eq_true] at hk
        obtain ⟨e, he', hb⟩ := hk
        simp only [Bool.and_eq_true, Bool.or_eq_true, beq_iff_eq] at hb
        have hdep : depB o e.on = true := by
          unfold depB
          rw [← Array.any_toList, List.any_eq_true]
          exact ⟨e, he', by simp [hb.1]⟩
        rcases hb.2 with h2 | h2
        · rw [h2] at hdep
          exact .one ho hdep
        · exact .step ho hdep (h _ h2)
      · rw [List.getD, List.getElem?_eq_none (by simp; omega)] at hk
        simp at hk

/-- Operation i waits for operation j. -/
theorem waits {l : List Oper} {i j : Nat} (h : (reachL j l []).getD i false = true) : Path l i j :=
  reachL_path l [] (by simp) (fun k hk => by simp at hk) i h

section
variable {P : Program} {o : Oper} {a : Act} {w : World} {Q : Exit → Act → World → Prop} {S : Nat → Prop} {St : Nat → World → Prop} {T : Nat → Nat → Value → World → Prop} {calls : List Nat} {i k : Nat}

theorem k_val (v : Value) (hi : i ∉ calls) (hs : St k w) (h : (execOp a.eval o).run P w = .ok (.value v) w) (hT : T k i v w) : o.wp P a w (Left2 (fun w w' => Fr (fun _ => False) w w') (fun w w' => Fr S w w') St T calls i o k a w) Q := by
  unfold Oper.wp
  rw [h, Oper.upon_value]
  exact ⟨v, rfl, by rw [if_neg hi]; exact hT, fun _ => Fr.refl _ _, fun h => absurd h hi, by rw [if_neg hi]; exact hs⟩
theorem k_new (v : Value) (w2 : World) (hi : i ∉ calls) (hs : St k w2) (f : Fr (fun _ => False) w w2) (h : (execOp a.eval o).run P w = .ok (.value v) w2) (hT : T k i v w2) : o.wp P a w (Left2 (fun w w' => Fr (fun _ => False) w w') (fun w w' => Fr S w w') St T calls i o k a w) Q := by
  unfold Oper.wp
  rw [h, Oper.upon_value]
  exact ⟨v, rfl, by rw [if_neg hi]; exact hT, fun _ => f, fun h => absurd h hi, by rw [if_neg hi]; exact hs⟩
theorem k_chain (v : Value) (w2 : World) (hi : i ∈ calls) (hs : St (k + 1) w2) (f : Fr S w w2) (h : (execOp a.eval o).run P w = .ok (.value v) w2) (hT : T (k + 1) i v w2) : o.wp P a w (Left2 (fun w w' => Fr (fun _ => False) w w') (fun w w' => Fr S w w') St T calls i o k a w) Q := by
  unfold Oper.wp
  rw [h, Oper.upon_value]
  exact ⟨v, rfl, by rw [if_pos hi]; exact hT, fun h => absurd hi h, fun _ => f, by rw [if_pos hi]; exact hs⟩
theorem k_store (w2 : World) (hi : i ∈ calls) (hs : St (k + 1) w2) (f : Fr S w w2) (h : (execOp a.eval o).run P w = .ok .skip w2) (hT : T (k + 1) i undef w2) : o.wp P a w (Left2 (fun w w' => Fr (fun _ => False) w w') (fun w w' => Fr S w w') St T calls i o k a w) Q := by
  unfold Oper.wp
  rw [h, Oper.upon_skip]
  exact ⟨undef, rfl, by rw [if_pos hi]; exact hT, fun h => absurd hi h, fun _ => f, by rw [if_pos hi]; exact hs⟩
theorem k_call (f : Nat) (args : Array Value) (hi : i ∉ calls) (h : (execOp a.eval o).run P w = .ok (.enter f args) w)
    (hc : Calls P f args w fun e w' => ∃ v, e = .returned v ∧ T k i v w' ∧ Fr (fun _ => False) w w' ∧ St k w') : o.wp P a w (Left2 (fun w w' => Fr (fun _ => False) w w') (fun w w' => Fr S w w') St T calls i o k a w) Q := by
  unfold Oper.wp
  rw [h, Oper.upon_enter]
  refine hc.mono ?_
  rintro e w' ⟨v, rfl, hT, f, hs⟩
  exact ⟨v, rfl, by rw [if_neg hi]; exact hT, fun _ => f, fun h => absurd h hi, by rw [if_neg hi]; exact hs⟩
theorem k_callC (f : Nat) (args : Array Value) (hi : i ∈ calls) (h : (execOp a.eval o).run P w = .ok (.enter f args) w)
    (hc : Calls P f args w fun e w' => ∃ v, e = .returned v ∧ T (k + 1) i v w' ∧ Fr S w w' ∧ St (k + 1) w') : o.wp P a w (Left2 (fun w w' => Fr (fun _ => False) w w') (fun w w' => Fr S w w') St T calls i o k a w) Q := by
  unfold Oper.wp
  rw [h, Oper.upon_enter]
  refine hc.mono ?_
  rintro e w' ⟨v, rfl, hT, f, hs⟩
  exact ⟨v, rfl, by rw [if_pos hi]; exact hT, fun h => absurd hi h, fun _ => f, by rw [if_pos hi]; exact hs⟩

theorem wantedT {l : List Oper} {j d : Nat} (hg : o.guard = some (j, true)) (hd : (l[j]?).bind (·.dst) = some d) (hlt : d < a.tmps.size) (hv : a.tmps.getD d undef = .bool true) : Region.wanted o (yielded l.toArray a.tmps) = true := by
  have h1 : a.tmps[d]? = some (.bool true) := by
    rw [Array.getD_eq_getD_getElem?, Array.getElem?_eq_getElem hlt] at hv
    rw [Array.getElem?_eq_getElem hlt]
    simpa using hv
  simp [Region.wanted, hg, yielded, hd, h1]
theorem wantedF {l : List Oper} {j d : Nat} (hg : o.guard = some (j, false)) (hd : (l[j]?).bind (·.dst) = some d) (hlt : d < a.tmps.size) (hv : a.tmps.getD d undef = .bool false) : Region.wanted o (yielded l.toArray a.tmps) = true := by
  have h1 : a.tmps[d]? = some (.bool false) := by
    rw [Array.getD_eq_getD_getElem?, Array.getElem?_eq_getElem hlt] at hv
    rw [Array.getElem?_eq_getElem hlt]
    simpa using hv
  simp [Region.wanted, hg, yielded, hd, h1]
theorem wantedN {l : List Oper} (hg : o.guard = none) : Region.wanted o (yielded l.toArray a.tmps) = true := by simp [Region.wanted, hg]
end

section
variable {P : Program} {ρ : Operand → Value} {o : Oper} {w : World}
theorem x_move {x : Operand} {v : Value} (ho : o.op = .move x) (hx : ρ x = v) : (execOp ρ o).run P w = .ok (.value v) w := by
  subst hx; simp [execOp, ho]
theorem x_assign {x : Operand} {v : Value} (ho : o.op = .assign x) (hx : ρ x = v) : (execOp ρ o).run P w = .ok (.value v) w := by
  subst hx; simp [execOp, ho]
theorem x_pickT {c x y : Operand} {v : Value} (ho : o.op = .pick c x y) (hc : ρ c = .bool true) (hx : ρ x = v) : (execOp ρ o).run P w = .ok (.value v) w := by
  subst hx; simp [execOp, ho, hc, go_sem]
theorem x_pickF {c x y : Operand} {v : Value} (ho : o.op = .pick c x y) (hc : ρ c = .bool false) (hx : ρ y = v) : (execOp ρ o).run P w = .ok (.value v) w := by
  subst hx; simp [execOp, ho, hc, go_sem]
theorem x_conv {s t : TypeId} {x : Operand} {v u : Value} (ho : o.op = .convert s t x) (hx : ρ x = v) (hc : (convert s t v).run P w = .ok u w) : (execOp ρ o).run P w = .ok (.value u) w := by
  subst hx; simp [execOp, ho, hc]
theorem x_nilCheck {x : Operand} {b : Addr} (ho : o.op = .nilCheck x) (hx : ρ x = .pointer (some b)) : (execOp ρ o).run P w = .ok (.value (.pointer (some b))) w := by
  simp [execOp, ho, hx, go_sem]
end

section
variable {ρ : Operand → Value} {o : Oper} {w : World}
theorem x_load1 {x : Operand} {t : TypeId} {b of : Nat} {v : Value} (ht : ∀ W a u, World.cell? W a = some u → (Instr.loadAt t (.pointer (some a))).run Try.prog W = .ok u W) (ho : o.op = .load t x) (hx : ρ x = .pointer (some ⟨b, of, none⟩)) (hc : w.cell? ⟨b, of, none⟩ = some v) : (execOp ρ o).run Try.prog w = .ok (.value v) w := by
  have := ht w _ _ hc
  simp [execOp, ho, hx, this]
theorem x_field {t n : Nat} {x : Operand} {b of off : Nat} (hf : ∀ W, (Instr.fieldAt t (.pointer (some ⟨b, of, none⟩)) n).run Try.prog W = .ok (.pointer (some ⟨b, of + off, none⟩)) W) (ho : o.op = .fieldAddr t x n) (hx : ρ x = .pointer (some ⟨b, of, none⟩)) : (execOp ρ o).run Try.prog w = .ok (.value (.pointer (some ⟨b, of + off, none⟩))) w := by
  have := hf w
  simp [execOp, ho, hx, this]
theorem x_eqI {t : TypeId} {x y : Operand} {k : IntKind} {n m : Int} {b : Bool} (ht : Try.prog.underlying t = some (.int k)) (ho : o.op = .binOp .eql t x y t) (hx : ρ x = .int k n) (hy : ρ y = .int k m) (hb : (n == m) = b) : (execOp ρ o).run Try.prog w = .ok (.value (.bool b)) w := by
  subst hb; simp [execOp, ho, hx, hy, go_sem]
theorem x_eqS {x y : Operand} {s : ByteArray} (ho : o.op = .binOp .eql 9 x y 9) (hx : ρ x = .string s) (hy : ρ y = .string s) : (execOp ρ o).run Try.prog w = .ok (.value (.bool true)) w := by
  simp [execOp, ho, hx, hy, go_sem]
theorem e_call1 {k : Nat} {x : Operand} {t : Array TypeId} {u : Value} (ho : o.op = .call { callee := .value (.func k), args := #[x], argTypes := t }) (hf : ρ (.func k) = .func (.func k) #[] #[]) (hx : ρ x = u) (hk : ∀ args W, Sem.run Try.prog (callFunc k args) W = .ok (.enter k args) W) : (execOp ρ o).run Try.prog w = .ok (.enter k #[u]) w := by
  have hk' := hk #[u] w
  simp [execOp, ho, hf, hx, go_sem, hk']
theorem e_call2 {k : Nat} {x y : Operand} {t : Array TypeId} {u v : Value} (ho : o.op = .call { callee := .value (.func k), args := #[x, y], argTypes := t }) (hf : ρ (.func k) = .func (.func k) #[] #[]) (hx : ρ x = u) (hy : ρ y = v) (hk : ∀ args W, Sem.run Try.prog (callFunc k args) W = .ok (.enter k args) W) : (execOp ρ o).run Try.prog w = .ok (.enter k #[u, v]) w := by
  have hk' := hk #[u, v] w
  simp [execOp, ho, hf, hx, hy, go_sem, hk']
theorem e_call3 {k : Nat} {x y z : Operand} {t : Array TypeId} {u v q : Value} (ho : o.op = .call { callee := .value (.func k), args := #[x, y, z], argTypes := t }) (hf : ρ (.func k) = .func (.func k) #[] #[]) (hx : ρ x = u) (hy : ρ y = v) (hz : ρ z = q) (hk : ∀ args W, Sem.run Try.prog (callFunc k args) W = .ok (.enter k args) W) : (execOp ρ o).run Try.prog w = .ok (.enter k #[u, v, q]) w := by
  have hk' := hk #[u, v, q] w
  simp [execOp, ho, hf, hx, hy, hz, go_sem, hk']
end

theorem ld3 (W : World) (a : Addr) (u : Value) (h : W.cell? a = some u) : (Instr.loadAt 3 (.pointer (some a))).run Try.prog W = .ok u W := by simp [go_sem, h]
theorem ld4 (W : World) (a : Addr) (u : Value) (h : W.cell? a = some u) : (Instr.loadAt 4 (.pointer (some a))).run Try.prog W = .ok u W := by simp [go_sem, h]
theorem ld5 (W : World) (a : Addr) (u : Value) (h : W.cell? a = some u) : (Instr.loadAt 5 (.pointer (some a))).run Try.prog W = .ok u W := by simp [go_sem, h]

theorem wp_nameK {P : Program} {C : Code} {Q : Exit → Act → World → Prop} {a : Act} {w : World} (h : ∀ a0, a0 = a → C.wp P Q a0 w) : C.wp P Q a w := h a rfl

end Go.Proofs.Ytbenailemoefhaa
