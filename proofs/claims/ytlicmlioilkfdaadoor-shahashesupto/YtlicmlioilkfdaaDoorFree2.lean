/-
  The kinds of operations in a region that draws its order, over a frame of which only some slots are known. Memory grows; of what is new, marks alone may turn.
-/
import Derived.Test.YtlicmlioilkfdaaDoorFree
import Derived.Test.YtlicmlioilkfdaaDoorEq
import Derived.Great.BuildSlice
import Derived.Lib.SlBytesConst
namespace Go.Proofs.YtlicmlioilkfdaaDoor
open Go.RowKit
set_option linter.unusedVariables false
set_option linter.unusedSimpArgs false

/-- What was there below N is as it was; all cells read as they did. -/
structure Cg (N : Nat) (w w' : World) : Prop where
  os : w'.os = w.os
  tape : w'.tape = w.tape
  output : w'.output = w.output
  size : w.heap.size ≤ w'.heap.size
  block : ∀ k, k < N → k < w.heap.size → w'.heap[k]? = w.heap[k]?
  cell : ∀ a v, w.cell? a = some v → w'.cell? a = some v

theorem Cg.of_fr {N : Nat} {w w' : World} (f : Fr (fun _ => False) w w') : Cg N w w' :=
  ⟨f.os, f.tape, f.output, f.size, fun k _ hk => f.block k hk id, fun a v h => by rw [f.cell (World.block_lt_of_cell? w a h) id]; exact h⟩
theorem Cg.drew {N : Nat} (w : World) : Cg N w w.drew := Cg.of_fr (Fr.refl _ _).drew
theorem Cg.trans {N : Nat} (a b c : World) (h : Cg N a b) (k : Cg N b c) : Cg N a c :=
  ⟨k.os.trans h.os, k.tape.trans h.tape, k.output.trans h.output, Nat.le_trans h.size k.size, fun i hi h2 => (k.block i hi (Nat.lt_of_lt_of_le h2 h.size)).trans (h.block i hi h2), fun x v hx => k.cell x v (h.cell x v hx)⟩
theorem Cg.fr {w w' : World} (h : Cg w.heap.size w w') : Fr (fun _ => False) w w' := ⟨h.os, h.tape, h.output, h.size, fun k hk _ => h.block k hk hk⟩

theorem Cg.tb {N : Nat} {w w' : World} (h : Cg N w w') (T : Tb w) : Tb w' := ⟨fun j hj => h.cell _ _ (T.r j hj), fun j hj => h.cell _ _ (T.q j hj)⟩
theorem Cg.rd {N : Nat} {w w' : World} (h : Cg N w w') {v : Value} {l : List UInt8} (R : Rd w v l) : Rd w' v l := by
  rcases R with R | ⟨ad, cap, rfl, h1, h2, h3⟩
  · exact .inl R
  · exact .inr ⟨ad, cap, rfl, h1, h2, fun j hj => h.cell _ _ (h3 j hj)⟩
theorem Cg.range {N : Nat} {w w' : World} (h : Cg N w w') {b o : Nat} {cs : List Value} (R : w.rangeAt b o cs) : w'.rangeAt b o cs := fun j v hv => h.cell _ _ (R j v hv)
theorem Cg.hh {N : Nat} {w w' : World} (h : Cg N w w') {p : Nat} {s : St} {n : Nat} {r : List UInt8} (R : HH w p s n r) (hp : p < N) : HH w' p s n r := by
  obtain ⟨pc, h1, h2⟩ := R
  exact ⟨pc, ⟨by rw [h.block p hp h1.lt]; exact h1.heap, h1.len, h1.fit⟩, h2⟩

/-- What an operation leaves: this value; a slice that reads so; a new one; a list of one digest. -/
inductive Kd where
  | eq (u : Value)
  | sl (n : Nat) (l : List UInt8)
  | nb (n : Nat) (l : List UInt8)
  | dl (D : List UInt8)

def Kd.holds (N : Nat) : Kd → Value → World → Prop
  | .eq u, v, _ => v = u
  | .sl n l, v, w => ∃ ao cap, v = .slice ao n cap ∧ Rd w (.slice ao n cap) l
  | .nb n l, v, w => ∃ b cap, v = .slice (some ⟨b, 0, none⟩) n cap ∧ N ≤ b ∧ b < w.heap.size ∧ Rd w (.slice (some ⟨b, 0, none⟩) n cap) l
  | .dl D, v, w => ∃ b o c, v = .slice (some ⟨b, o, none⟩) 1 c ∧ w.rangeAt b o (bvs D)

theorem Kd.mono {N : Nat} (k : Kd) {v : Value} {w1 w2 : World} (h : k.holds N v w1) (f : Cg N w1 w2) : k.holds N v w2 := by
  cases k with
  | eq u => exact h
  | sl n l =>
    obtain ⟨ao, cap, rfl, R⟩ := h
    exact ⟨ao, cap, rfl, f.rd R⟩
  | nb n l =>
    obtain ⟨b, cap, rfl, hN, hb, R⟩ := h
    exact ⟨b, cap, rfl, hN, Nat.lt_of_lt_of_le hb f.size, f.rd R⟩
  | dl D =>
    obtain ⟨b, o, c, rfl, R⟩ := h
    exact ⟨b, o, c, rfl, f.range R⟩

def Tk (N : Nat) (ks : List Kd) (i : Nat) (v : Value) (w : World) : Prop := match ks[i]? with
  | some k => k.holds N v w
  | none => True

theorem Tk.mono {N : Nat} (ks : List Kd) (i : Nat) (v : Value) (w1 w2 : World) (h : Tk N ks i v w1) (f : Cg N w1 w2) : Tk N ks i v w2 := by
  unfold Tk at *
  split
  · rename_i k hk; rw [hk] at h; exact k.mono h f
  · trivial

section
variable {P : Program} {o : Oper} {a : Act} {w : World} {Q : Exit → Act → World → Prop} {N : Nat}

theorem ex_new {i : Nat} {T : Nat → Value → World → Prop} (v : Value) (w2 : World) (h : (execOp a.eval o).run P w = .ok (.value v) w2) (hT : T i v w2) (hf : Cg N w w2) : o.wp P a w (fun a'' w'' => ∃ v, a'' = a.put o.dst v ∧ T i v w'' ∧ Cg N w w'') Q := by
  unfold Oper.wp
  rw [h, Oper.upon_value]
  exact ⟨v, rfl, hT, hf⟩

theorem ex_val {i : Nat} {T : Nat → Value → World → Prop} (v : Value) (h : (execOp a.eval o).run P w = .ok (.value v) w) (hT : T i v w) : o.wp P a w (fun a'' w'' => ∃ v, a'' = a.put o.dst v ∧ T i v w'' ∧ Cg N w w'') Q :=
  ex_new v w h hT (Cg.of_fr (Fr.refl _ _))

theorem ex_move {ρ : Operand → Value} {x : Operand} {v : Value} (ho : o.op = .move x) (hx : ρ x = v) : (execOp ρ o).run P w = .ok (.value v) w := by
  subst hx; simp [execOp, ho]
theorem ex_assign {ρ : Operand → Value} {x : Operand} {v : Value} (ho : o.op = .assign x) (hx : ρ x = v) : (execOp ρ o).run P w = .ok (.value v) w := by
  subst hx; simp [execOp, ho]
theorem ex_pick {ρ : Operand → Value} {c x y : Operand} {v : Value} (ho : o.op = .pick c x y) (hc : ρ c = .bool true) (hx : ρ x = v) : (execOp ρ o).run P w = .ok (.value v) w := by
  subst hx; simp [execOp, ho, hc, go_sem]
theorem ex_conv {ρ : Operand → Value} {s t : TypeId} {x : Operand} {v u : Value} (ho : o.op = .convert s t x) (hx : ρ x = v) (hc : (convert s t v).run P w = .ok u w) : (execOp ρ o).run P w = .ok (.value u) w := by
  subst hx; simp [execOp, ho, hc]
theorem wanted_of {l : List Oper} {j d : Nat} (hg : o.guard = some (j, true)) (hd : (l[j]?).bind (·.dst) = some d) (hlt : d < a.tmps.size) (hv : a.tmps.getD d undef = .bool true) : Region.wanted o (yielded l.toArray a.tmps) = true := by
  have h1 : a.tmps[d]? = some (.bool true) := by
    rw [Array.getD_eq_getD_getElem?, Array.getElem?_eq_getElem hlt] at hv
    rw [Array.getElem?_eq_getElem hlt]
    simpa using hv
  simp [Region.wanted, hg, yielded, hd, h1]
theorem wanted_none {l : List Oper} (hg : o.guard = none) : Region.wanted o (yielded l.toArray a.tmps) = true := by simp [Region.wanted, hg]

theorem ex_call {i : Nat} {T : Nat → Value → World → Prop} (k : Nat) (args : Array Value) (h : (execOp a.eval o).run P w = .ok (.enter k args) w)
    (hc : Calls P k args w fun e w' => (∃ v, e = .returned v ∧ T i v w') ∧ Fr (fun _ => False) w w') : o.wp P a w (fun a'' w'' => ∃ v, a'' = a.put o.dst v ∧ T i v w'' ∧ Cg N w w'') Q := by
  unfold Oper.wp
  rw [h, Oper.upon_enter]
  refine hc.mono ?_
  rintro e w' ⟨⟨v, rfl, hT⟩, f⟩
  exact ⟨v, rfl, hT, Cg.of_fr f⟩
end

section
variable {ρ : Operand → Value} {o : Oper} {w : World}
theorem ex_eqI {t : TypeId} {x y : Operand} {k : IntKind} {n : Int} (ht : Tryd.prog.underlying t = some (.int k)) (ho : o.op = .binOp .eql t x y t) (hx : ρ x = .int k n) (hy : ρ y = .int k n) : (execOp ρ o).run Tryd.prog w = .ok (.value (.bool true)) w := by
  simp [execOp, ho, hx, hy, go_sem]
theorem ex_eqS {x y : Operand} {s : ByteArray} (ho : o.op = .binOp .eql 9 x y 9) (hx : ρ x = .string s) (hy : ρ y = .string s) : (execOp ρ o).run Tryd.prog w = .ok (.value (.bool true)) w := by
  simp [execOp, ho, hx, hy, go_sem]

theorem en_call2 {k : Nat} {x y : Operand} {t : Array TypeId} {u v : Value} (ho : o.op = .call { callee := .value (.func k), args := #[x, y], argTypes := t }) (hf : ρ (.func k) = .func (.func k) #[] #[]) (hx : ρ x = u) (hy : ρ y = v) (hk : ∀ args W, Sem.run Tryd.prog (callFunc k args) W = .ok (.enter k args) W) : (execOp ρ o).run Tryd.prog w = .ok (.enter k #[u, v]) w := by
  have hk' := hk #[u, v] w
  simp [execOp, ho, hf, hx, hy, go_sem, hk']
theorem en_call1 {k : Nat} {x : Operand} {t : Array TypeId} {u : Value} (ho : o.op = .call { callee := .value (.func k), args := #[x], argTypes := t }) (hf : ρ (.func k) = .func (.func k) #[] #[]) (hx : ρ x = u) (hk : ∀ args W, Sem.run Tryd.prog (callFunc k args) W = .ok (.enter k args) W) : (execOp ρ o).run Tryd.prog w = .ok (.enter k #[u]) w := by
  have hk' := hk #[u] w
  simp [execOp, ho, hf, hx, go_sem, hk']
theorem en_call0 {k : Nat} {t : Array TypeId} (ho : o.op = .call { callee := .value (.func k), args := #[], argTypes := t }) (hf : ρ (.func k) = .func (.func k) #[] #[]) (hk : ∀ args W, Sem.run Tryd.prog (callFunc k args) W = .ok (.enter k args) W) : (execOp ρ o).run Tryd.prog w = .ok (.enter k #[]) w := by
  have hk' := hk #[] w
  simp [execOp, ho, hf, go_sem, hk']

theorem ex_load26 {x : Operand} {b of : Nat} {D : List UInt8} (ho : o.op = .load 26 x) (hx : ρ x = .pointer (some ⟨b, of, none⟩)) (hD : D.length = 32) (hc : w.rangeAt b of (bvs D)) : (execOp ρ o).run Tryd.prog w = .ok (.value (.agg (bvs D).toArray)) w := by
  have := run_loadAt_mid (P := Tryd.prog) w b of 26 (bvs D) _ hc Tryd.u26 rfl (by rw [bvs_length, hD]; exact Tryd.s26)
  simp [execOp, ho, hx, this]

theorem Tryd.ge26 : Tryd.prog.eqGuardType Tryd.prog.depth 26 = false := by kernel_rfl

theorem ex_eqD {x y : Operand} {D : List UInt8} (ho : o.op = .binOp .eql 26 x y 26) (hx : ρ x = .agg (bvs D).toArray) (hy : ρ y = .agg (bvs D).toArray) (hD : D.length = 32) : (execOp ρ o).run Tryd.prog w = .ok (.value (.bool true)) w := by
  have h := run_eqD w D hD
  simp [execOp, ho, hx, hy, eqGuard, Tryd.ge26, h]

/-- A literal of bytes is marked. -/
theorem conv_mark (w : World) (b n c : Nat) (hb : b < w.heap.size) (N : Nat) (hN : N ≤ b) : ∃ w2, (convert 22 22 (.slice (some ⟨b, 0, none⟩) n c)).run Tryd.prog w = .ok (.slice (some ⟨b, 0, none⟩) n c) w2 ∧ Cg N w w2 ∧ w2.heap.size = w.heap.size := by
  have hfr : ∀ k, Cg N w (w.freeze ⟨b, k, none⟩ 1) ∧ (w.freeze ⟨b, k, none⟩ 1).heap.size = w.heap.size := fun k => by
    unfold World.freeze
    rw [if_neg (by decide)]
    refine ⟨⟨rfl, rfl, rfl, by simp, fun i hi hl => by simp [Array.getElem?_modify, show b ≠ i by omega], fun x v hx => ?_⟩, by simp⟩
    unfold World.cell? at hx ⊢
    simp only [Array.getElem?_modify]
    by_cases e : b = x.block
    · rw [if_pos e]
      cases ho : w.heap[x.block]? with
      | none => rw [ho] at hx; simp at hx
      | some ob =>
        rw [ho] at hx
        cases ob with
        | cells c el fz => simpa using hx
        | _ => simp at hx
    · rw [if_neg e]; exact hx
  by_cases hsh : ∃ el n, w.shape? b = some (el, n)
  · obtain ⟨el, m, hsh⟩ := hsh
    refine ⟨w.freeze ⟨b, m, none⟩ 1, ?_, (hfr m).1, (hfr m).2⟩
    simp [convert, run_underlying Tryd.underlying22, run_underlying Tryd.underlying5, markStringish, hsh]
  · have hno : w.shape? b = none := by
      cases h : w.shape? b with
      | none => rfl
      | some x => exact absurd ⟨x.1, x.2, h⟩ hsh
    refine ⟨w, ?_, Cg.of_fr (Fr.refl _ _), rfl⟩
    simp [convert, run_underlying Tryd.underlying22, run_underlying Tryd.underlying5, markStringish, hno]

theorem Tryd.info26 : (Tryd.prog.info? 26).map (fun i => (i.zero.map (fun z => z.cells.size), i.size)) = some (some 32, 32) := by kernel_rfl
theorem Tryd.u59 : Tryd.prog.underlying 59 = some (.slice 26) := by kernel_rfl

theorem fold_put (cs : List Value) (k : Nat) (zs : Array Value) (h : k + cs.length ≤ zs.size) : (List.foldl (fun a (x : Value × Nat) => a.setIfInBounds x.2 x.1) zs (cs.zipIdx k)).toList = zs.toList.take k ++ cs ++ zs.toList.drop (k + cs.length) := by
  induction cs generalizing k zs with
  | nil => simp
  | cons c t ih =>
    rw [List.zipIdx_cons, List.foldl_cons, ih (k + 1) (zs.setIfInBounds k c) (by simp at h ⊢; omega)]
    have hk : k < zs.toList.length := by simp at h ⊢; omega
    rw [Array.toList_setIfInBounds, List.take_set, List.drop_set_of_lt (by omega), List.take_succ_eq_append_getElem hk, List.set_append_right _ _ (by simp; omega)]
    have e : k - (zs.toList.take k).length = 0 := by simp; omega
    rw [e, List.set_cons_zero, List.length_cons, show k + 1 + t.length = k + (t.length + 1) by omega]
    simp

theorem ex_build59 {x : Operand} {D : List UInt8} (hD : D.length = 32) (ho : o.op = .buildSlice 59 1 #[(0, x)]) (hx : ρ x = .agg (bvs D).toArray) : (execOp ρ o).run Tryd.prog w = .ok (.value (.slice (some ⟨w.heap.size, 0, none⟩) 1 1)) (w.alloc (.cells (bvs D).toArray 26)) := by
  obtain ⟨ie, z, hie, hz, hzs, hs⟩ : ∃ ie z, Tryd.prog.info? 26 = some ie ∧ ie.zero = some z ∧ z.cells.size = 32 ∧ ie.size = 32 := by
    have := Tryd.info26
    cases h : Tryd.prog.info? 26 with
    | none => rw [h] at this; simp at this
    | some ie =>
      rw [h] at this
      simp at this
      obtain ⟨⟨z, hz, hzs⟩, hs⟩ := this
      exact ⟨ie, z, rfl, hz, hzs, hs⟩
  have hbl : (bvs D).length = 32 := by rw [bvs_length]; exact hD
  have := run_buildSlice (P := Tryd.prog) w 59 26 1 #[(0, .agg (bvs D).toArray)] (bvs D).toArray ie z Tryd.u59 hie hz (by rw [hs]; decide) (by rw [hs]; decide) (by
    simp only [Instr.fill, hs, Value.cells]
    have h1 : ¬ ((bvs D).toArray.size ≠ 32) := by simp [hbl]
    simp only [Nat.zero_mul, Nat.zero_add, Nat.one_mul, Array.size_map, Array.size_range]
    rw [if_neg (by simp [hbl])]
    refine congrArg some ?_
    apply Array.ext'
    have h2 := fold_put (bvs D) 0 ((Array.range 32).map (z.cells[· % z.cells.size]!)) (by simp [hbl])
    rw [List.take_zero, List.nil_append, List.drop_of_length_le (by simp [hbl]), List.append_nil] at h2
    rw [← Array.foldl_toList, Array.toList_zipIdx]
    exact h2)
  simp [execOp, ho, hx, this]
end
end Go.Proofs.YtlicmlioilkfdaaDoor
