/-
  Rows that grow by append, and copies made by it.
-/
import Derived.Test.YtckmddkhkdcmmaaInv
import Derived.Test.YtckmddkhkdcmmaaPoly
import Derived.Deep.RegionWith
import Derived.Deep.DeepCutAuto
import Derived.Deep.CutBlock
namespace Go.Proofs.Ytckmddkhkdcmmaa
open Go.RowKit
set_option linter.unusedVariables false

attribute [local go_sem ↓] Go.wp_at_zero Go.wp_at_succ

theorem owns_new {w : World} {b : Nat} (hb : w.heap[b]? = some (.cells #[] 5 (0, 0))) : w.ownsRow 0 5 1 (.slice (some ⟨b, 0, none⟩) 0 0) 0 [] :=
  ⟨rfl, .inr ⟨b, 0, #[], rfl, Nat.zero_le _, hb, Nat.le_refl _, by simp [maxLen], rfl, rfl⟩⟩

/-- append([]byte{}, x...): a copy. -/
theorem wp_clone {w : World} {o : Oper} {a : Act} {K : Act → World → Prop} {Q : Exit → Act → World → Prop} (s x : Operand)
    (ho : o.op = .call { callee := .builtin .append, args := #[s, x], argTypes := #[22, 22] }) (b : Nat) (hs : a.eval s = .slice (some ⟨b, 0, none⟩) 0 0) (hb : w.heap[b]? = some (.cells #[] 5 (0, 0)))
    (xv : Value) (l : List UInt8) (hxv : a.eval x = xv) (hx : Rd w xv l) (hl : l.length ≤ 100000)
    (h : ∀ ao cap w', Rd w' (.slice ao l.length cap) l → Fr (fun k => k = b) w w' → (∀ k, (Value.slice ao l.length cap).ownBlock = some k → k = b ∨ w.heap.size ≤ k) → K (a.put o.dst (.slice ao l.length cap)) w') : o.wp Try.prog a w K Q := by
  obtain ⟨i, hi, hz0, hz1, hz2⟩ := info_parts Try.info5
  refine wp_app s x 22 ho 5 i _ 1 1 Try.underlying22 hi hz0 hz1 hz2 rfl (by decide) _ 0 [] hs _ hxv l.length (bvs l) (owns_new hb) hx.sr (bvs_one _) (by omega) (by simp only [maxLen]; omega) ?_
  intro ao cap w' ho' hg hpl
  simp only [Nat.zero_add, List.nil_append] at ho' hpl ⊢
  refine h ao cap w' (Rd.of_owns ho') ⟨hg.os, hg.tape, hg.output, hg.size, fun k hk hs => hg.block k hk (fun e => hs (by simpa [Value.ownBlock] using e))⟩ (fun k hk => ?_)
  rcases hpl with e | ⟨k', e, hk'⟩
  · rw [e] at hk; simp [Value.ownBlock] at hk; exact .inl hk.symm
  · rw [e] at hk; simp at hk; exact .inr (by omega)

theorem wpList_clone {w : World} {ops : Array Oper} {rest : List Oper} {o : Oper} {a : Act} {Q : Exit → Act → World → Prop} (hgd : o.guard = none) (s x : Operand)
    (ho : o.op = .call { callee := .builtin .append, args := #[s, x], argTypes := #[22, 22] }) (b : Nat) (hs : a.eval s = .slice (some ⟨b, 0, none⟩) 0 0) (hb : w.heap[b]? = some (.cells #[] 5 (0, 0)))
    (xv : Value) (l : List UInt8) (hxv : a.eval x = xv) (hx : Rd w xv l) (hl : l.length ≤ 100000)
    (h : ∀ ao cap w', Rd w' (.slice ao l.length cap) l → Fr (fun k => k = b) w w' → (∀ k, (Value.slice ao l.length cap).ownBlock = some k → k = b ∨ w.heap.size ≤ k) → wpList Try.prog ops Q rest (a.put o.dst (.slice ao l.length cap)) w') : wpList Try.prog ops Q (o :: rest) a w :=
  wpList_plain hgd fun _ hK => wp_clone s x ho b hs hb xv l hxv hx hl fun ao cap w' h1 h2 h3 => hK _ _ (h ao cap w' h1 h2 h3)

theorem step_clone {w : World} {ops : Array Oper} {o : Oper} {a : Act} {K : Act → World → Prop} {Q : Exit → Act → World → Prop} {E : Prop} (hgd : o.guard = none) (s x : Operand)
    (ho : o.op = .call { callee := .builtin .append, args := #[s, x], argTypes := #[22, 22] }) (b : Nat) (hs : a.eval s = .slice (some ⟨b, 0, none⟩) 0 0) (hb : w.heap[b]? = some (.cells #[] 5 (0, 0)))
    (xv : Value) (l : List UInt8) (hxv : a.eval x = xv) (hx : Rd w xv l) (hl : l.length ≤ 100000)
    (h : ∀ ao cap w', Rd w' (.slice ao l.length cap) l → Fr (fun k => k = b) w w' → (∀ k, (Value.slice ao l.length cap).ownBlock = some k → k = b ∨ w.heap.size ≤ k) → K (a.put o.dst (.slice ao l.length cap)) w') :
    if Region.wanted o (yielded ops a.tmps) = true then Oper.wp Try.prog o a w K Q else E := by
  have hw : Region.wanted o (yielded ops a.tmps) = true := by simp [Region.wanted, hgd]
  rw [if_pos hw]
  exact wp_clone s x ho b hs hb xv l hxv hx hl h
theorem Rd.ilt {w : World} {b o : Nat} {l : List UInt8} (h : ∀ j (h : j < l.length), w.cell? ⟨b, o + j, none⟩ = some (.int .u8 ((l[j]).toNat : Int))) (hl : 0 < l.length) : b < w.heap.size := by
  have := World.block_lt_of_cell? w _ (h 0 hl)
  exact this

theorem owns_kept {S : Nat → Prop} {w w' : World} {e : TypeId} {size : Nat} {v : Value} {n : Nat} {xs : List Value} (h : w.ownsRow 0 e size v n xs) (f : Fr S w w') (hS : ∀ k, v.ownBlock = some k → ¬ S k) : w'.ownsRow 0 e size v n xs := by
  refine ⟨h.1, ?_⟩
  rcases h.2 with h4 | ⟨g, cap, cur, rfl, hb, hg, r⟩
  · exact .inl h4
  · exact .inr ⟨g, cap, cur, rfl, hb, by rw [f.block g (lt_of_heap hg) (hS g rfl)]; exact hg, r⟩

theorem owns_nil (w : World) : w.ownsRow 0 5 1 (.slice none 0 0) 0 [] := ⟨rfl, .inl ⟨rfl, rfl⟩⟩

theorem one_cell (w : World) (v : UInt8) : Sr (w.alloc (Obj.cells #[.int .u8 ((v.toNat : Nat) : Int)] 5)) 1 (.slice (some ⟨w.heap.size, 0, none⟩) 1 1) 1 (bvs [v]) := by
  refine .inr ⟨_, _, rfl, by simp [bvs], fun j u hu => ?_⟩
  rw [Addr.add_lit, Nat.zero_add, cell_of_heap (heap_alloc_new w _)]
  simpa [bvs] using hu

set_option maxHeartbeats 8000000 in

theorem Rd.gt {w : World} {b o n cap : Nat} {l : List UInt8} (h : ∀ j (h : j < l.length), w.cell? ⟨b, o + j, none⟩ = some (.int .u8 ((l[j]).toNat : Int))) (j : Nat) (hj : j < l.length) : w.cell? ⟨b, o + j, none⟩ = some (.int .u8 (((gt l j).toNat : Nat) : Int)) := by
  rw [h j hj]
  unfold Ytckmddkhkdcmmaa.gt
  rw [List.getElem?_eq_getElem hj]
  rfl

end Go.Proofs.Ytckmddkhkdcmmaa
