/-
  Kinds of operations for the law's tells.
-/
import Derived.Test.YtbpajilglfabbaaG2
namespace Go.Proofs.Ytbpajilglfabbaa
open Go.RowKit
set_option linter.unusedVariables false
set_option linter.unusedSimpArgs false

section
variable {ρ : Operand → Value} {o : Oper} {w : World}
theorem x_neI {t : TypeId} {x y : Operand} {k : IntKind} {n m : Int} {b : Bool} (ht : Try.prog.underlying t = some (.int k)) (ho : o.op = .binOp .neq t x y t) (hx : ρ x = .int k n) (hy : ρ y = .int k m) (hb : (n != m) = b) : (execOp ρ o).run Try.prog w = .ok (.value (.bool b)) w := by
  subst hb; simp [execOp, ho, hx, hy, go_sem]
theorem x_neS {x y : Operand} {s : ByteArray} (ho : o.op = .binOp .neq 9 x y 9) (hx : ρ x = .string s) (hy : ρ y = .string s) : (execOp ρ o).run Try.prog w = .ok (.value (.bool false)) w := by
  simp [execOp, ho, hx, hy, go_sem]
theorem x_not {x : Operand} {b : Bool} (ho : o.op = .unOp .not 4 x) (hx : ρ x = .bool b) : (execOp ρ o).run Try.prog w = .ok (.value (.bool (!b))) w := by
  simp [execOp, ho, hx, go_sem]
end
theorem cf18 (args : Array Value) (W : World) : Sem.run Try.prog (callFunc 18 args) W = .ok (.enter 18 args) W := by simp [go_sem]
theorem cf38 (args : Array Value) (W : World) : Sem.run Try.prog (callFunc 38 args) W = .ok (.enter 38 args) W := by simp [go_sem]
theorem cf53 (args : Array Value) (W : World) : Sem.run Try.prog (callFunc 53 args) W = .ok (.enter 53 args) W := by simp [go_sem]
theorem cf54 (args : Array Value) (W : World) : Sem.run Try.prog (callFunc 54 args) W = .ok (.enter 54 args) W := by simp [go_sem]
theorem cf55 (args : Array Value) (W : World) : Sem.run Try.prog (callFunc 55 args) W = .ok (.enter 55 args) W := by simp [go_sem]
theorem cf56 (args : Array Value) (W : World) : Sem.run Try.prog (callFunc 56 args) W = .ok (.enter 56 args) W := by simp [go_sem]
theorem fa68_0 (b : Nat) (W : World) : (Instr.fieldAt 68 (.pointer (some ⟨b, 0, none⟩)) 0).run Try.prog W = .ok (.pointer (some ⟨b, 0 + 0, none⟩)) W := by simp [go_sem]
theorem fa68_1 (b : Nat) (W : World) : (Instr.fieldAt 68 (.pointer (some ⟨b, 0, none⟩)) 1).run Try.prog W = .ok (.pointer (some ⟨b, 0 + 1, none⟩)) W := by simp [go_sem]
theorem fa68_2 (b : Nat) (W : World) : (Instr.fieldAt 68 (.pointer (some ⟨b, 0, none⟩)) 2).run Try.prog W = .ok (.pointer (some ⟨b, 0 + 2, none⟩)) W := by simp [go_sem]
theorem fa68_3 (b : Nat) (W : World) : (Instr.fieldAt 68 (.pointer (some ⟨b, 0, none⟩)) 3).run Try.prog W = .ok (.pointer (some ⟨b, 0 + 3, none⟩)) W := by simp [go_sem]
theorem fa68_4 (b : Nat) (W : World) : (Instr.fieldAt 68 (.pointer (some ⟨b, 0, none⟩)) 4).run Try.prog W = .ok (.pointer (some ⟨b, 0 + 4, none⟩)) W := by simp [go_sem]
theorem ld51 (W : World) (a : Addr) (u : Value) (h : W.cell? a = some u) : (Instr.loadAt 51 (.pointer (some a))).run Try.prog W = .ok u W := by simp [go_sem, h]

def kNv (l : List Nat) : Kd (fun _ => False) := .pr (fun v W => RdV W v (ivs l)) (fun _ _ _ h f => h.kept f (fun _ _ h => h))
def kNq (w0 : World) (l : List (Nat × Nat)) : Kd (fun _ => False) := .pr (fun v W => Nq w0 W v l) (fun _ _ _ h f => h.kept f (fun _ _ h => h))

theorem rbitmap_rd (w : World) (p : Nat) (Y : Lr) (M : Rc) (H : RA w p Y M) : Calls Try.prog 54 #[ptr p] w fun e w' => ∃ v, e = .returned v ∧ Rd w' v (bm M.s) ∧ Fr (fun _ => False) w w' := by
  refine (rbitmap_any w p Y M H).mono ?_
  rintro e w' ⟨⟨q, N, rfl, hN, hB, -⟩, f⟩
  have hl : (bm M.s).length ≤ maxLen := by rw [bm_length]; have := H.n2; simp only [maxLen]; omega
  refine ⟨_, rfl, ?_, f⟩
  rw [hN]
  exact hB.rd hl
theorem taken_nv (w : World) (p : Nat) (X : Ly) (K : Kc) (M : Rc) (H : KA w p X K) (A : Ab K M) : Calls Try.prog 24 #[ptr p] w fun e w' => ∃ v, e = .returned v ∧ Nw w w' v M.t ∧ Fr (fun _ => False) w w' := by
  refine (taken_any w p X K H A.inj2).mono ?_
  rintro e w' ⟨⟨x, rfl, hx⟩, f⟩
  rw [A.taken] at hx
  exact ⟨_, rfl, hx, f⟩
theorem given_nv (w : World) (p : Nat) (X : Ly) (K : Kc) (M : Rc) (H : KA w p X K) (A : Ab K M) : Calls Try.prog 25 #[ptr p] w fun e w' => ∃ v, e = .returned v ∧ Nw w w' v M.g ∧ Fr (fun _ => False) w w' := by
  refine (given_any w p X K H A.inj3).mono ?_
  rintro e w' ⟨⟨x, rfl, hx⟩, f⟩
  rw [A.given] at hx
  exact ⟨_, rfl, hx, f⟩
theorem RA.rdT {w : World} {p : Nat} {Y : Lr} {M : Rc} (H : RA w p Y M) : RdV w Y.tv (ivs M.t) := RdV.of_owns (base := 0) (e := 3) (by rw [ivs_length]; exact H.tO)
theorem RA.rdG {w : World} {p : Nat} {Y : Lr} {M : Rc} (H : RA w p Y M) : RdV w Y.gv (ivs M.g) := RdV.of_owns (base := 0) (e := 3) (by rw [ivs_length]; exact H.gO)
theorem ints_eq (w : World) (v u : Value) (l : List Nat) (h1 : RdV w v (ivs l)) (h2 : RdV w u (ivs l)) : Calls Try.prog 38 #[v, u] w fun e w' => e = .returned (.bool true) ∧ ∃ n, w' = w.drewN n := by
  have := ints_any w v u l l h1 h2
  rwa [decide_eq_true (show l = l from rfl)] at this

/-- What was told, ready to be spoilt: each in a block of its own. -/
structure Q4 (w0 W : World) (tv gv : Value) (tn gn mq mn : Nat) (rv : Value) (rl : Nat) : Prop where
  t : ∃ xs, W.ownsRow 0 3 1 tv tn xs
  g : ∃ xs, W.ownsRow 0 3 1 gv gn xs
  m : ∃ l, BAt W mq l ∧ l.length = mn
  r : ∃ xs, W.ownsRow 0 50 2 rv rl xs
  f : Fr (fun _ => False) w0 W
  bt : ∀ b, tv.ownBlock = some b → w0.heap.size ≤ b
  bg : ∀ b, gv.ownBlock = some b → w0.heap.size ≤ b
  bm : w0.heap.size ≤ mq
  br : ∀ b, rv.ownBlock = some b → w0.heap.size ≤ b
  tg : ∀ b, tv.ownBlock = some b → gv.ownBlock ≠ some b

theorem owns_tyK {w : World} {e : TypeId} {size : Nat} {v : Value} {n : Nat} {xs : List Value} (h : w.ownsRow 0 e size v n xs) {k : Nat} (hk : v.ownBlock = some k) : ∃ cs, w.heap[k]? = some (.cells cs e (0, 0)) := by
  rcases h.2 with ⟨hv, -⟩ | ⟨g, cap, cur, hv, hb, hg, r⟩
  · rw [hv] at hk; simp [Value.ownBlock] at hk
  · rw [hv] at hk
    simp [Value.ownBlock] at hk
    subst hk
    exact ⟨cur, hg⟩
/-- The cell of a row that is owned. -/
theorem owns_at {w : World} {e : TypeId} {ao : Option Addr} {n c : Nat} {xs : List Value} (h : w.ownsRow 0 e 1 (.slice ao n c) n xs) {i : Nat} (hi : i < n) : ∃ g y, ao = some ⟨g, 0, none⟩ ∧ n ≤ c ∧ w.cell? ⟨g, i, none⟩ = some y ∧ w.frozen? ⟨g, i, none⟩ = false := by
  rcases h.2 with ⟨hv, h0⟩ | ⟨g, cap, cur, hv, hb, hg, hnc, hcm, hcs, htake⟩
  · omega
  · simp only [Value.slice.injEq] at hv
    obtain ⟨rfl, -, rfl⟩ := hv
    have hlt : i < cur.size := by omega
    exact ⟨g, cur[i], rfl, hnc, by rw [cell_of_heap hg]; simp [hlt], frozen_of_heap hg i⟩

section
variable {w0 W : World} {tv gv : Value} {tn gn mq mn : Nat} {rv : Value} {rl : Nat}
theorem Q4.setT (h : Q4 w0 W tv gv tn gn mq mn rv rl) {g c i : Nat} (hv : tv = .slice (some ⟨g, 0, none⟩) tn c) (hi : i < tn) (u : Value) : Q4 w0 (W.setCell ⟨g, i, none⟩ u) tv gv tn gn mq mn rv rl := by
  obtain ⟨xt, ht⟩ := h.t
  obtain ⟨xg, hg⟩ := h.g
  obtain ⟨lm, hm, hml⟩ := h.m
  obtain ⟨xr, hr⟩ := h.r
  have fg : Fr (fun k => k = g) W (W.setCell ⟨g, i, none⟩ u) := Fr.setCell (S := fun k => k = g) (Fr.refl _ _) (p := ⟨g, i, none⟩) (fun _ => rfl) _
  have ob : tv.ownBlock = some g := by rw [hv]; rfl
  obtain ⟨ct, hct⟩ := owns_tyK ht ob
  refine { h with
    t := ⟨_, by rw [hv] at ht ⊢; exact owns_setK ht i (by omega) u⟩
    g := ⟨xg, owns_kept hg fg (fun k hk e => h.tg g ob (by rw [hk, e]))⟩
    m := ⟨lm, hm.kept fg (fun e => by unfold BAt at hm; rw [e, hct] at hm; simp at hm), hml⟩
    r := ⟨xr, owns_kept hr fg (fun k hk e => by obtain ⟨cs, hcs⟩ := owns_tyK hr hk; rw [e, hct] at hcs; simp at hcs)⟩
    f := h.f.trans fg (fun k hk e => by have := h.bt g ob; omega) }
theorem Q4.setG (h : Q4 w0 W tv gv tn gn mq mn rv rl) {g c i : Nat} (hv : gv = .slice (some ⟨g, 0, none⟩) gn c) (hi : i < gn) (u : Value) : Q4 w0 (W.setCell ⟨g, i, none⟩ u) tv gv tn gn mq mn rv rl := by
  obtain ⟨xt, ht⟩ := h.t
  obtain ⟨xg, hg⟩ := h.g
  obtain ⟨lm, hm, hml⟩ := h.m
  obtain ⟨xr, hr⟩ := h.r
  have fg : Fr (fun k => k = g) W (W.setCell ⟨g, i, none⟩ u) := Fr.setCell (S := fun k => k = g) (Fr.refl _ _) (p := ⟨g, i, none⟩) (fun _ => rfl) _
  have ob : gv.ownBlock = some g := by rw [hv]; rfl
  obtain ⟨ct, hct⟩ := owns_tyK hg ob
  refine { h with
    g := ⟨_, by rw [hv] at hg ⊢; exact owns_setK hg i (by omega) u⟩
    t := ⟨xt, owns_kept ht fg (fun k hk e => h.tg k hk (by rw [e]; exact ob))⟩
    m := ⟨lm, hm.kept fg (fun e => by unfold BAt at hm; rw [e, hct] at hm; simp at hm), hml⟩
    r := ⟨xr, owns_kept hr fg (fun k hk e => by obtain ⟨cs, hcs⟩ := owns_tyK hr hk; rw [e, hct] at hcs; simp at hcs)⟩
    f := h.f.trans fg (fun k hk e => by have := h.bg g ob; omega) }
theorem Q4.setM (h : Q4 w0 W tv gv tn gn mq mn rv rl) (i : Nat) (u : UInt8) : Q4 w0 (W.setCell ⟨mq, i, none⟩ (.int .u8 ((u.toNat : Nat) : Int))) tv gv tn gn mq mn rv rl := by
  obtain ⟨xt, ht⟩ := h.t
  obtain ⟨xg, hg⟩ := h.g
  obtain ⟨lm, hm, hml⟩ := h.m
  obtain ⟨xr, hr⟩ := h.r
  have fg : Fr (fun k => k = mq) W (W.setCell ⟨mq, i, none⟩ (.int .u8 ((u.toNat : Nat) : Int))) := Fr.setCell (S := fun k => k = mq) (Fr.refl _ _) (p := ⟨mq, i, none⟩) (fun _ => rfl) _
  have hm' := hm
  unfold BAt at hm'
  refine { h with
    m := ⟨_, hm.set i u, by simpa using hml⟩
    t := ⟨xt, owns_kept ht fg (fun k hk e => by obtain ⟨cs, hcs⟩ := owns_tyK ht hk; rw [e, hm'] at hcs; simp at hcs)⟩
    g := ⟨xg, owns_kept hg fg (fun k hk e => by obtain ⟨cs, hcs⟩ := owns_tyK hg hk; rw [e, hm'] at hcs; simp at hcs)⟩
    r := ⟨xr, owns_kept hr fg (fun k hk e => by obtain ⟨cs, hcs⟩ := owns_tyK hr hk; rw [e, hm'] at hcs; simp at hcs)⟩
    f := h.f.trans fg (fun k hk e => by have := h.bm; omega) }
theorem Q4.setR (h : Q4 w0 W tv gv tn gn mq mn rv rl) {g c i : Nat} (hv : rv = .slice (some ⟨g, 0, none⟩) rl c) (hi : i < rl * 2) (u : Value) : Q4 w0 (W.setCell ⟨g, i, none⟩ u) tv gv tn gn mq mn rv rl := by
  obtain ⟨xt, ht⟩ := h.t
  obtain ⟨xg, hg⟩ := h.g
  obtain ⟨lm, hm, hml⟩ := h.m
  obtain ⟨xr, hr⟩ := h.r
  have fg : Fr (fun k => k = g) W (W.setCell ⟨g, i, none⟩ u) := Fr.setCell (S := fun k => k = g) (Fr.refl _ _) (p := ⟨g, i, none⟩) (fun _ => rfl) _
  have ob : rv.ownBlock = some g := by rw [hv]; rfl
  obtain ⟨ct, hct⟩ := owns_tyK hr ob
  refine { h with
    r := ⟨_, by rw [hv] at hr ⊢; exact owns_setK hr i hi u⟩
    t := ⟨xt, owns_kept ht fg (fun k hk e => by obtain ⟨cs, hcs⟩ := owns_tyK ht hk; rw [e, hct] at hcs; simp at hcs)⟩
    g := ⟨xg, owns_kept hg fg (fun k hk e => by obtain ⟨cs, hcs⟩ := owns_tyK hg hk; rw [e, hct] at hcs; simp at hcs)⟩
    m := ⟨lm, hm.kept fg (fun e => by unfold BAt at hm; rw [e, hct] at hm; simp at hm), hml⟩
    f := h.f.trans fg (fun k hk e => by have := h.br g ob; omega) }
end
end Go.Proofs.Ytbpajilglfabbaa
