/-
  Kinds of operations of the law's own write.
-/
import Derived.Test.YtdgmlopaeonacaaF4
namespace Go.Proofs.Ytdgmlopaeonacaa
open Go.RowKit
set_option linter.unusedVariables false
set_option linter.unusedSimpArgs false

theorem fa40_1 (b o : Nat) (W : World) : (Instr.fieldAt 40 (.pointer (some ⟨b, o, none⟩)) 1).run Try.prog W = .ok (.pointer (some ⟨b, o + 1, none⟩)) W := by simp [go_sem]
theorem fa40_2 (b o : Nat) (W : World) : (Instr.fieldAt 40 (.pointer (some ⟨b, o, none⟩)) 2).run Try.prog W = .ok (.pointer (some ⟨b, o + 2, none⟩)) W := by simp [go_sem]
theorem fa40_3 (b o : Nat) (W : World) : (Instr.fieldAt 40 (.pointer (some ⟨b, o, none⟩)) 3).run Try.prog W = .ok (.pointer (some ⟨b, o + 3, none⟩)) W := by simp [go_sem]
theorem ld37 (W : World) (a : Addr) (u : Value) (h : W.cell? a = some u) : (Instr.loadAt 37 (.pointer (some a))).run Try.prog W = .ok u W := by simp [go_sem, h]
section
variable {ρ : Operand → Value} {o : Oper} {w w2 : World}
theorem x_bs0 (ho : o.op = .buildSlice 37 0 #[]) : (execOp ρ o).run Try.prog w = .ok (.value (.slice (some ⟨w.heap.size, 0, none⟩) 0 0)) (w.alloc (.cells #[] 5)) := by
  simp [execOp, ho, go_sem]
theorem x_app37 {x y : Operand} {a b v : Value} (ho : o.op = .call { callee := .builtin .append, args := #[x, y], argTypes := #[37, 37] }) (hty : o.type = 37) (hx : ρ x = a) (hy : ρ y = b) (hr : (Builtin.append_ #[37, 37] 37 #[a, b]).run Try.prog w = .ok v w2) : (execOp ρ o).run Try.prog w = .ok (.value v) w2 := by
  simp only [execOp, ho, hty, resolve, invoke, builtin, Sem.run_bind, Sem.run_pure, Result.andThen_ok, List.map_toArray, List.map_cons, List.map_nil, hx, hy, hr]
theorem e_call4 {k : Nat} {x y z s : Operand} {t : Array TypeId} {u v q r : Value} (ho : o.op = .call { callee := .value (.func k), args := #[x, y, z, s], argTypes := t }) (hf : ρ (.func k) = .func (.func k) #[] #[]) (hx : ρ x = u) (hy : ρ y = v) (hz : ρ z = q) (hs : ρ s = r) (hk : ∀ args W, Sem.run Try.prog (callFunc k args) W = .ok (.enter k args) W) : (execOp ρ o).run Try.prog w = .ok (.enter k #[u, v, q, r]) w := by
  have hk' := hk #[u, v, q, r] w
  simp [execOp, ho, hf, hx, hy, hz, hs, go_sem, hk']
theorem x_len37 {x : Operand} {ao : Option Addr} {n c : Nat} (ho : o.op = .call { callee := .builtin .len, args := #[x], argTypes := #[37] }) (hx : ρ x = .slice ao n c) : (execOp ρ o).run Try.prog w = .ok (.value (.int .i64 (n : Int))) w := by
  simp [execOp, ho, hx, go_sem]
theorem x_subI {x y : Operand} {a b c : Int} (ho : o.op = .binOp .sub 3 x y 3) (hx : ρ x = .int .i64 a) (hy : ρ y = .int .i64 b) (hc : IntKind.i64.wrap (a - b) = c) : (execOp ρ o).run Try.prog w = .ok (.value (.int .i64 c)) w := by
  subst hc; simp [execOp, ho, hx, hy, go_sem]
theorem x_make37 {x y : Operand} {v : Value} {n : Nat} (ho : o.op = .makeSlice 37 x y) (hx : ρ x = .int .i64 (n : Int)) (hy : ρ y = .int .i64 (n : Int)) (hr : (Instr.makeSlice 37 (.int .i64 (n : Int)) (.int .i64 (n : Int))).run Try.prog w = .ok v w2) : (execOp ρ o).run Try.prog w = .ok (.value v) w2 := by
  simp [execOp, ho, hx, hy, hr]
theorem str_app (a b : List UInt8) : str a ++ str b = str (a ++ b) := by
  apply ByteArray.ext
  simp [str, ByteArray.data_append]
theorem x_addS {x y : Operand} {a b : List UInt8} (ho : o.op = .binOp .add 9 x y 9) (hx : ρ x = .string (str a)) (hy : ρ y = .string (str b)) (hl : a.length + b.length ≤ 100000) : (execOp ρ o).run Try.prog w = .ok (.value (.string (str (a ++ b)))) w := by
  simp [execOp, ho, hx, hy, go_sem, str_app]
  rw [str_size, str_size]; omega
theorem x_idx60 {x y : Operand} {g k n c : Nat} (ho : o.op = .indexAddr 60 x y) (hx : ρ x = .slice (some ⟨g, 0, none⟩) n c) (hy : ρ y = .int .i64 (k : Int)) (hk : k < n) : (execOp ρ o).run Try.prog w = .ok (.value (.pointer (some ⟨g, k, none⟩))) w := by
  simp [execOp, ho, hx, hy, go_sem, hk]
theorem x_store9 {x y : Operand} {b k : Nat} {s : ByteArray} {d : Value} (ho : o.op = .store 9 x y) (hx : ρ x = .pointer (some ⟨b, k, none⟩)) (hy : ρ y = .string s) (hc : w.cell? ⟨b, k, none⟩ = some d) (hz : w.frozen? ⟨b, k, none⟩ = false) : (execOp ρ o).run Try.prog w = .ok .skip (w.setCell ⟨b, k, none⟩ (.string s)) := by
  simp [execOp, ho, hx, hy, go_sem, hc, hz]
end
theorem own0 (w : World) : (w.alloc (.cells #[] 5)).ownsRow 0 5 1 (.slice (some ⟨w.heap.size, 0, none⟩) 0 0) 0 [] :=
  ⟨rfl, .inr ⟨w.heap.size, 0, #[], rfl, Nat.zero_le _, heap_alloc_new _ _, Nat.le_refl _, Nat.zero_le _, rfl, rfl⟩⟩
theorem AAt.far {w : World} {g : Nat} {kd kb kn : Int} {pv : Value} {ch : Nat} (h : AAt w g kd kb pv ch kn) : ¬ (Kz w g ∨ w.heap.size ≤ g) := by
  rintro (e | e)
  · unfold Kz at e; unfold AAt at h; rw [knd_cells h] at e; revert e; decide
  · have := lt_of_heap h; omega
theorem AAt.cellsF {w W : World} {g : Nat} {kd kb kn : Int} {pv : Value} {ch : Nat} (h : AAt w g kd kb pv ch kn) (f : Fr (fun k => Kz w k ∨ w.heap.size ≤ k) w W) : W.cell? ⟨g, 1, none⟩ = some (.int .i64 kb) ∧ W.cell? ⟨g, 2, none⟩ = some pv ∧ W.cell? ⟨g, 3, none⟩ = some (.int .u64 (ch : Int)) :=
  have c := (h.kept f h.far).cells
  ⟨c.2.1, c.2.2.1, c.2.2.2.1⟩
theorem own0_blk {w4 w : World} {k : Nat} (f : Fr (fun _ => False) w4 w) (h : (Value.slice (some ⟨w.heap.size, 0, none⟩) 0 0).ownBlock = some k) : w4.heap.size ≤ k := by
  simp [Value.ownBlock] at h
  have := f.size
  omega
theorem knd_fr {w1 w2 : World} {k n : Nat} (f : Fr (fun _ => False) w1 w2) (h : knd w1 k = n) (hn : n ≠ 1001) : knd w2 k = n := by
  have hl : k < w1.heap.size := knd_lt (by rw [h]; exact hn)
  unfold knd at *
  rw [f.block k hl id]
  exact h
theorem app37 (w : World) (v0 : Value) (ho : w.ownsRow 0 5 1 v0 0 []) {x : Value} {P : List UInt8} (hx : Rd w x P) (hP : P.length ≤ 1048576) : ∃ v w', (Builtin.append_ #[37, 37] 37 #[v0, x]).run Try.prog w = .ok v w' ∧ w'.ownsRow 0 5 1 v P.length (bvs P) ∧ w.grownBy w' v0.ownBlock ∧ (v.ownBlock = v0.ownBlock ∨ v.ownBlock = some w.heap.size) := by
  obtain ⟨inf, hi0, hz0, hz1, hz2⟩ := info_parts Try.info5
  obtain ⟨v, w', h1, h2, h3, h4⟩ := run_app (P := Try.prog) w 37 37 5 inf _ 1 1 Try.underlying37 hi0 hz0 hz1 hz2 rfl (by decide) v0 0 [] ho x P.length (bvs P) hx.sr (bvs_one P) (by omega) (by simp only [maxLen]; omega)
  rw [Nat.zero_add, List.nil_append] at h2
  exact ⟨v, w', h1, h2, h3, h4⟩
section
variable {w4 w' w9 : World} {v0 : Value}
theorem app_st (hs : Fr (fun _ => False) w4 w') (hg : w'.grownBy w9 v0.ownBlock) (hb : ∀ k, v0.ownBlock = some k → w4.heap.size ≤ k) : Fr (fun _ => False) w4 w9 :=
  hs.trans ((Fr.refl (fun k => v0.ownBlock = some k) w').grown hg (fun k _ e => e)) (fun k hk e => by have := hb k e; omega)
theorem app_fr (hs : Fr (fun _ => False) w4 w') (hg : w'.grownBy w9 v0.ownBlock) (hb : ∀ k, v0.ownBlock = some k → w4.heap.size ≤ k) : Fr (fun k => Kz w4 k ∨ w4.heap.size ≤ k) w' w9 :=
  ((Fr.refl (fun k => v0.ownBlock = some k) w').grown hg (fun k _ e => e)).mono (fun k _ e => .inr (hb k e))
theorem kz_fr (hs : Fr (fun _ => False) w4 w') (h : Fr (Kz w') w' w9) : Fr (fun k => Kz w4 k ∨ w4.heap.size ≤ k) w' w9 :=
  h.mono (fun k _ e => by
    by_cases hk : k < w4.heap.size
    · left; unfold Kz knd at *; rw [hs.block k hk id] at e; exact e
    · right; omega)
theorem kz_fr2 (hs : Fr (fun _ => False) w4 w') (h : Fr (Kz w') w' w9) : Fr (Kz w4) w4 w9 :=
  (hs.mono (fun _ _ e => e.elim)).trans h (fun k hk e => by unfold Kz knd at *; rw [hs.block k hk id] at e; exact e)
end
theorem rd_rep {W : World} {b dd : Nat} (h : BAt W b (List.replicate dd 0)) (hd : dd ≤ 384) : Rd W (.slice (some ⟨b, 0, none⟩) dd dd) (List.replicate dd 0) := by
  have := h.rd (by simp only [List.length_replicate, maxLen]; omega)
  rwa [List.length_replicate] at this
theorem rd_w {w w5 W : World} {gw : Nat} {v : Value} {P : List UInt8} (hr : Rd w v P) (f1 : Fr (fun _ => False) w w5) (hg : w.heap.size ≤ gw) (f2 : Fr (fun k => k = gw) w5 W) : Rd W v P :=
  hr.kept (f1.trans f2 (fun i hi e => by omega)) (fun _ _ e => e)
theorem AAt.cellsG {w W : World} {g gw : Nat} {kd kb kn : Int} {pv : Value} {ch : Nat} {want : List (List UInt8)} (h : AAt w g kd kb pv ch kn) (hs : SAt w gw want) (f : Fr (fun k => k = gw) w W) : AAt W g kd kb pv ch kn :=
  h.kept f (fun e => by unfold AAt at h; unfold SAt at hs; rw [e, hs] at h; simp at h)
theorem x_addP {ρ : Operand → Value} {o : Oper} {w : World} {x y : Operand} {P : List UInt8} {dd : Nat} (ho : o.op = .binOp .add 9 x y 9) (hx : ρ x = .string (str P)) (hy : ρ y = .string (str (List.replicate dd 0))) (hd : dd = 384 - P.length) (hP : P.length ≤ 384) : (execOp ρ o).run Try.prog w = .ok (.value (.string (str (pad P)))) w := by
  have := x_addS (w := w) ho hx hy (by rw [List.length_replicate]; omega)
  rw [this, hd]; rfl
theorem wrap_sub {pn dd : Nat} (h : dd = 384 - pn) (hp : pn ≤ 384) : IntKind.i64.wrap (384 - (pn : Int)) = (dd : Int) := by
  rw [show (384 : Int) - (pn : Int) = (dd : Int) by omega]
  rw [IntKind.wrap_i64]; omega
end Go.Proofs.Ytdgmlopaeonacaa
