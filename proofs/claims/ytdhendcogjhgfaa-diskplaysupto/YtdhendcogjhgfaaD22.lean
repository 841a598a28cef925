/-
  Sectors and writes held against each other.
-/
import Derived.Test.YtdhendcogjhgfaaD21
import Derived.DeepKeys
namespace Go.Proofs.Ytdhendcogjhgfaa
open Go.RowKit
set_option linter.unusedVariables false

theorem Try.cells5 : Try.prog.cellsOf 5 = 1 := by kernel_rfl

theorem eqItems_bytes (w : World) (d : Nat) (A B : List UInt8) (hl : A.length = B.length) : ∀ is : List Nat, (∀ i ∈ is, i < A.length) → (Op.eqItems (d + 1) 5 1 (bvs A).toArray (bvs B).toArray is).run Try.prog w = .ok (is.all fun i => A.getD i 0 == B.getD i 0) w
  | [], _ => by simp [Op.eqItems]
  | i :: is, h => by
    have ih := eqItems_bytes w d A B hl is (fun j hj => h j (by simp [hj]))
    have hi : i < A.length := h i (by simp)
    have hi2 : i < B.length := by omega
    have hp : ∀ (D : List UInt8), i < D.length → (part 5 (bvs D).toArray (i * 1)).run Try.prog w = .ok (.int .u8 (((D.getD i 0).toNat : Nat) : Int)) w := fun D hD => by
      have hv : (bvs D).toArray[i]? = some (.int .u8 (((D.getD i 0).toNat : Nat) : Int)) := by
        rw [List.getElem?_toArray, bvs_get D i hD]
        simp [List.getD, hD]
      simp [part, isAgg, run_underlying Try.underlying5, hv]
    have he : (Op.equalIn (d + 1) 5 (.int .u8 (((A.getD i 0).toNat : Nat) : Int)) (.int .u8 (((B.getD i 0).toNat : Nat) : Int))).run Try.prog w = .ok (A.getD i 0 == B.getD i 0) w := by
      rw [run_equalIn_int w d 5 .u8 .u8 _ _ Try.underlying5]
      congr 1
      rw [Bool.eq_iff_iff, beq_iff_eq, beq_iff_eq]
      constructor
      · intro h
        exact UInt8.toNat_inj.1 (by omega)
      · intro h; rw [h]
    simp only [Op.eqItems, Sem.run_bind, hp A hi, hp B hi2, he, Result.andThen_ok, List.all_cons]
    cases hb : (A.getD i 0 == B.getD i 0)
    · simp
    · simpa using ih

theorem all_bytes (A B : List UInt8) (hl : A.length = B.length) : ((List.range A.length).all fun i => A.getD i 0 == B.getD i 0) = decide (A = B) := by
  rw [Bool.eq_iff_iff, decide_eq_true_eq, List.all_eq_true]
  constructor
  · intro h
    apply List.ext_getElem hl
    intro i h1 h2
    have := h i (by simpa using h1)
    simpa [List.getD, h1, h2] using this
  · rintro rfl i _
    simp

theorem Try.inf5 : ∃ i, Try.prog.info? 5 = some i := by
  obtain ⟨i, hi, -⟩ := info_parts Try.info5
  exact ⟨i, hi⟩

theorem equal_bytes (w : World) (d : Nat) (A B : List UInt8) (ha : A.length = 512) (hb : B.length = 512) : (Op.equalIn (d + 2) 89 (.agg (bvs A).toArray) (.agg (bvs B).toArray)).run Try.prog w = .ok (decide (A = B)) w := by
  obtain ⟨i, hi⟩ := Try.inf5
  rw [run_equalIn_array w (d + 1) _ _ Try.u89 hi]
  have := eqItems_bytes w d A B (by omega) (List.range 512) (fun i hi => by rw [ha]; simpa using hi)
  rw [Try.cells5, this, ← all_bytes A B (by omega), ha]

theorem Try.fl92 : (Try.prog.fieldsOf 92).toList.map (fun f => (f.name != "_", f.type, f.offset)) = [(true, 89, 0), (true, 90, 512)] := by kernel_rfl
theorem Try.fl95 : (Try.prog.fieldsOf 95).toList.map (fun f => (f.name != "_", f.type, f.offset)) = [(true, 3, 0), (true, 89, 1)] := by kernel_rfl
theorem Try.sh92 : Try.prog.stoodInHeld 92 = false := by kernel_rfl
theorem Try.sh95 : Try.prog.stoodInHeld 95 = false := by kernel_rfl
theorem Try.us92 : Try.prog.underlying 92 = some (.struct (Try.prog.fieldsOf 92)) := by kernel_rfl
theorem Try.us95 : Try.prog.underlying 95 = some (.struct (Try.prog.fieldsOf 95)) := by kernel_rfl
theorem Try.u90 : Try.prog.underlying 90 = some (.int .u8) := by kernel_rfl
theorem Try.g92 : Try.prog.eqGuardType Try.prog.depth 92 = false := by kernel_rfl
theorem Try.g95 : Try.prog.eqGuardType Try.prog.depth 95 = false := by kernel_rfl

theorem fields2 {fs : List Field} {t1 o1 t2 o2 : Nat} (h : fs.map (fun f => (f.name != "_", f.type, f.offset)) = [(true, t1, o1), (true, t2, o2)]) : ∃ f g, fs = [f, g] ∧ f.name ≠ "_" ∧ f.type = t1 ∧ f.offset = o1 ∧ g.name ≠ "_" ∧ g.type = t2 ∧ g.offset = o2 := by
  cases fs with
  | nil => simp at h
  | cons f r =>
    cases r with
    | nil => simp at h
    | cons g r2 =>
      cases r2 with
      | cons _ _ => simp at h
      | nil =>
        simp only [List.map_cons, List.map_nil, List.cons.injEq, Prod.mk.injEq, bne_iff_ne, and_true] at h
        obtain ⟨⟨h1, h2, h3⟩, h4, h5, h6⟩ := h
        exact ⟨f, g, rfl, h1, h2, h3, h4, h5, h6⟩

theorem part89 (w : World) (cs : Array Value) (off : Nat) (D : List UInt8) (h : cs.extract off (off + 512) = (bvs D).toArray) : (part 89 cs off).run Try.prog w = .ok (.agg (bvs D).toArray) w := by
  have hs : ∀ W : World, (sizeOf 89).run Try.prog W = .ok 512 W := fun W => by
    have := Try.s89
    cases e : Try.prog.info? 89 with
    | none => rw [e] at this; simp at this
    | some i => rw [e] at this; simp at this; simp [sizeOf, typeInfo, e, this]
  have ha : ∀ W : World, (isAgg 89).run Try.prog W = .ok true W := fun W => by simp [isAgg, run_underlying Try.u89]
  simp [part, ha, hs, h]

theorem pad_inj {a b : List UInt8} (h : a.length = b.length) (e : pad a = pad b) : a = b := by
  unfold pad at e
  rw [h] at e
  exact List.append_cancel_right e

theorem equal_sec (w : World) (d : Nat) (s t : List UInt8 × UInt8) (hs : s.1.length ≤ 512) (ht : s.1.length = t.1.length) : (Op.equalIn (d + 3) 92 (.agg (secC s).toArray) (.agg (secC t).toArray)).run Try.prog w = .ok (decide (s = t)) w := by
  have hps := pad_length hs
  have hpt : (pad t.1).length = 512 := pad_length (by omega)
  rw [run_equalIn_struct w (d + 2) 92 _ _ Try.us92 Try.sh92]
  obtain ⟨f, g, hfs, hf1, hf2, hf3, hg1, hg2, hg3⟩ := fields2 Try.fl92
  rw [hfs]
  have e1 : ∀ (s : List UInt8 × UInt8), (pad s.1).length = 512 → (secC s).toArray.extract 0 (0 + 512) = (bvs (pad s.1)).toArray := fun s h => by
    unfold secC
    rw [List.extract_toArray, List.extract_eq_take_drop]
    simp only [List.drop_zero, Nat.sub_zero, Nat.zero_add]
    rw [List.take_append_of_le_length (by rw [bvs_length]; omega), List.take_of_length_le (by rw [bvs_length]; omega)]
  have e2 : ∀ (s : List UInt8 × UInt8), (pad s.1).length = 512 → (part 90 (secC s).toArray 512).run Try.prog w = .ok (.int .u8 ((s.2.toNat : Nat) : Int)) w := fun s h => by
    have : (secC s).toArray[512]? = some (.int .u8 ((s.2.toNat : Nat) : Int)) := by
      unfold secC
      rw [List.getElem?_toArray, List.getElem?_append_right (by rw [bvs_length]; omega), bvs_length, h]
      rfl
    simp [part, isAgg, run_underlying Try.u90, this]
  have p1 : (part 89 (secC s).toArray 0).run Try.prog w = .ok (.agg (bvs (pad s.1)).toArray) w := part89 w _ 0 _ (e1 s hps)
  have p2 : (part 89 (secC t).toArray 0).run Try.prog w = .ok (.agg (bvs (pad t.1)).toArray) w := part89 w _ 0 _ (e1 t hpt)
  have p3 := equal_bytes w d _ _ hps hpt
  have p4 := e2 s hps
  have p5 := e2 t hpt
  have p6 := run_equalIn_int (P := Try.prog) w (d + 1) 90 .u8 .u8 ((s.2.toNat : Nat) : Int) ((t.2.toNat : Nat) : Int) Try.u90
  clear e1 e2
  simp only [Op.eqFields, hf1, hg1, ne_eq, not_false_eq_true, if_true, hf2, hf3, hg2, hg3, Sem.run_bind]
  rw [p1, Result.andThen_ok, p2, Result.andThen_ok, p3, Result.andThen_ok, Sem.run_ite]
  clear p1 p2 p3
  by_cases h1 : pad s.1 = pad t.1
  · have h1' := pad_inj ht h1
    rw [decide_eq_true h1, if_neg (by decide)]
    simp only [Sem.run_bind]
    rw [p4, Result.andThen_ok, p5, Result.andThen_ok, p6, Result.andThen_ok, Sem.run_ite]
    by_cases h2 : s.2 = t.2
    · have : (((s.2.toNat : Nat) : Int) == ((t.2.toNat : Nat) : Int)) = true := by rw [h2]; exact beq_self_eq_true _
      rw [this, decide_eq_true (Prod.ext h1' h2), if_neg (by decide)]
      rfl
    · have : (((s.2.toNat : Nat) : Int) == ((t.2.toNat : Nat) : Int)) = false := by
        rw [beq_eq_false_iff_ne]
        intro e
        exact h2 (UInt8.toNat_inj.1 (by omega))
      rw [this, decide_eq_false (fun e => h2 (by rw [e])), if_pos (by decide)]
      rfl
  · rw [decide_eq_false h1, decide_eq_false (fun e => h1 (by rw [e])), if_pos (by decide)]
    rfl

theorem equal_wr (w : World) (d : Nat) (s t : Nat × List UInt8) (hs : s.2.length ≤ 512) (ht : s.2.length = t.2.length) : (Op.equalIn (d + 3) 95 (.agg (wrC s).toArray) (.agg (wrC t).toArray)).run Try.prog w = .ok (decide (s = t)) w := by
  have hps := pad_length hs
  have hpt : (pad t.2).length = 512 := pad_length (by omega)
  rw [run_equalIn_struct w (d + 2) 95 _ _ Try.us95 Try.sh95]
  obtain ⟨f, g, hfs, hf1, hf2, hf3, hg1, hg2, hg3⟩ := fields2 Try.fl95
  rw [hfs]
  have e1 : ∀ (s : Nat × List UInt8), (pad s.2).length = 512 → (wrC s).toArray.extract 1 (1 + 512) = (bvs (pad s.2)).toArray := fun s h => by
    unfold wrC
    rw [List.extract_toArray, List.extract_eq_take_drop, List.drop_succ_cons, List.drop_zero, show 1 + 512 - 1 = 512 from rfl, List.take_of_length_le (by rw [bvs_length]; omega)]
  have e2 : ∀ (s : Nat × List UInt8), (part 3 (wrC s).toArray 0).run Try.prog w = .ok (.int .i64 (s.1 : Int)) w := fun s => by
    have : (wrC s).toArray[0]? = some (.int .i64 (s.1 : Int)) := by unfold wrC; rfl
    simp [part, isAgg, run_underlying Try.underlying3, this]
  have p1 : (part 89 (wrC s).toArray 1).run Try.prog w = .ok (.agg (bvs (pad s.2)).toArray) w := part89 w _ 1 _ (e1 s hps)
  have p2 : (part 89 (wrC t).toArray 1).run Try.prog w = .ok (.agg (bvs (pad t.2)).toArray) w := part89 w _ 1 _ (e1 t hpt)
  have p3 := equal_bytes w d _ _ hps hpt
  have p4 := e2 s
  have p5 := e2 t
  have p6 := run_equalIn_int (P := Try.prog) w (d + 1) 3 .i64 .i64 ((s.1 : Nat) : Int) ((t.1 : Nat) : Int) Try.underlying3
  clear e1 e2
  simp only [Op.eqFields, hf1, hg1, ne_eq, not_false_eq_true, if_true, hf2, hf3, hg2, hg3, Sem.run_bind]
  rw [p4, Result.andThen_ok, p5, Result.andThen_ok, p6, Result.andThen_ok, Sem.run_ite]
  clear p4 p5 p6
  by_cases h2 : s.1 = t.1
  · have hb : (((s.1 : Nat) : Int) == ((t.1 : Nat) : Int)) = true := by rw [h2]; exact beq_self_eq_true _
    rw [hb, if_neg (by decide)]
    simp only [Sem.run_bind]
    rw [p1, Result.andThen_ok, p2, Result.andThen_ok, p3, Result.andThen_ok, Sem.run_ite]
    by_cases h1 : pad s.2 = pad t.2
    · have h1' := pad_inj ht h1
      rw [decide_eq_true h1, decide_eq_true (Prod.ext h2 h1'), if_neg (by decide)]
      rfl
    · rw [decide_eq_false h1, decide_eq_false (fun e => h1 (by rw [e])), if_pos (by decide)]
      rfl
  · have hb : (((s.1 : Nat) : Int) == ((t.1 : Nat) : Int)) = false := by
      rw [beq_eq_false_iff_ne]
      intro e
      exact h2 (by omega)
    rw [hb, decide_eq_false (fun e => h2 (by rw [e])), if_pos (by decide)]
    rfl

section
variable {ρ : Operand → Value} {o : Oper} {w : World}
theorem x_neSec {x y : Operand} {s t : List UInt8 × UInt8} (hs : s.1.length ≤ 512) (ht : s.1.length = t.1.length) (ho : o.op = .binOp .neq 92 x y 92) (hx : ρ x = .agg (secC s).toArray) (hy : ρ y = .agg (secC t).toArray) : (execOp ρ o).run Try.prog w = .ok (.value (.bool (!decide (s = t)))) w := by
  have h1 : (binOp .neq 92 (.agg (secC s).toArray) (.agg (secC t).toArray)).run Try.prog w = .ok (.bool (!decide (s = t))) w := by
    rw [run_neq_struct, equal_sec w 9997 s t hs ht]
    rfl
  simp [execOp, ho, hx, hy, eqGuard, h1]
theorem x_neWr {x y : Operand} {s t : Nat × List UInt8} (hs : s.2.length ≤ 512) (ht : s.2.length = t.2.length) (ho : o.op = .binOp .neq 95 x y 95) (hx : ρ x = .agg (wrC s).toArray) (hy : ρ y = .agg (wrC t).toArray) : (execOp ρ o).run Try.prog w = .ok (.value (.bool (!decide (s = t)))) w := by
  have h1 : (binOp .neq 95 (.agg (wrC s).toArray) (.agg (wrC t).toArray)).run Try.prog w = .ok (.bool (!decide (s = t))) w := by
    rw [run_neq_struct, equal_wr w 9997 s t hs ht]
    rfl
  simp [execOp, ho, hx, hy, eqGuard, h1]
theorem Try.ur92 : ∃ d, Try.prog.underlying 92 = some d ∧ d.isRow = true := ⟨_, Try.us92, rfl⟩
theorem x_load92 {x : Operand} {b of : Nat} {cs : List Value} (ho : o.op = .load 92 x) (hx : ρ x = .pointer (some ⟨b, of, none⟩)) (hl : cs.length = 513) (hc : w.rangeAt b of cs) : (execOp ρ o).run Try.prog w = .ok (.value (.agg cs.toArray)) w := by
  obtain ⟨d, hu, hd⟩ := Try.ur92
  have := run_loadAt_mid (P := Try.prog) w b of 92 cs d hc hu hd (by rw [hl]; exact Try.s92)
  simp [execOp, ho, hx, this]
end

theorem wpQuiet_val {P : Program} {ops : Array Oper} {C : World → Prop} {Q : Act → Prop} {o : Oper} {rest : List Oper} {a : Act} (hw : Region.wanted o (yielded ops a.tmps) = true) (v : Value) (h : ∀ w, C w → (execOp a.eval o).run P w = .ok (.value v) w) (k : wpQuiet P ops C Q rest (a.put o.dst v)) : wpQuiet P ops C Q (o :: rest) a := by
  refine wpQuiet_step (fun K hK => ?_)
  rw [if_pos hw]
  refine ⟨v, fun w hC => ?_, hK _ k⟩
  unfold Oper.quietAt
  rw [h w hC]
  exact ⟨rfl, rfl⟩
end Go.Proofs.Ytdhendcogjhgfaa
