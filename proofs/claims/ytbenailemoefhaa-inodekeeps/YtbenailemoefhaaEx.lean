/-
  A world with blocks more, that nobody looks into: as a word that a walk can go on with.
-/
import Derived.Test.YtbenailemoefhaaBx
namespace Go.Proofs.Ytbenailemoefhaa
open Go.RowKit
set_option linter.unusedVariables false

/-- The blocks of w, then those of e; all else as in e. -/
def ext (w e : World) : World := { e with heap := w.heap ++ e.heap }
/-- Of e what is no memory is as in w. -/
def Like (w e : World) : Prop := e.os = w.os ∧ e.tape = w.tape ∧ e.output = w.output

theorem ext_of {w w' : World} (f : Fr (fun _ => False) w w') : ∃ e, w' = ext w e ∧ Like w e := by
  refine ⟨{ w' with heap := w'.heap.extract w.heap.size w'.heap.size }, ?_, f.os, f.tape, f.output⟩
  have : w.heap ++ w'.heap.extract w.heap.size w'.heap.size = w'.heap := by
    apply Array.ext_getElem?
    intro k
    by_cases hk : k < w.heap.size
    · rw [Array.getElem?_append_left hk, f.block k hk (fun e => e)]
    · rw [Array.getElem?_append_right (by omega), Array.getElem?_extract]
      by_cases h2 : k < w'.heap.size
      · rw [if_pos (by omega)]; congr 1; omega
      · rw [if_neg (by omega)]; symm; simp; omega
  unfold ext
  dsimp only
  rw [this]
theorem Fr.ext {S : Nat → Prop} {a w e : World} (f : Fr S a w) (h : Like w e) : Fr S a (ext w e) := by
  obtain ⟨h1, h2, h3⟩ := h
  refine ⟨h1.trans f.os, h2.trans f.tape, h3.trans f.output, ?_, fun k hk hs => ?_⟩
  · have := f.size
    unfold Ytbenailemoefhaa.ext; simp; omega
  · rw [← f.block k hk hs]
    unfold Ytbenailemoefhaa.ext
    exact Array.getElem?_append_left (by have := f.size; omega)
@[go_sem, simp] theorem ext_size (w e : World) : (ext w e).heap.size = w.heap.size + e.heap.size := by unfold ext; simp
theorem ext_heap (w e : World) (n : Nat) (hn : n < w.heap.size) : (ext w e).heap[n]? = w.heap[n]? := Array.getElem?_append_left hn
@[go_sem] theorem ext_cell (w e : World) (n i : Nat) (hn : n < w.heap.size) : (ext w e).cell? ⟨n, i, none⟩ = w.cell? ⟨n, i, none⟩ := World.cell?_of_block (w := w) (ext_heap w e n hn)
@[go_sem] theorem ext_frozen (w e : World) (n i : Nat) (hn : n < w.heap.size) : (ext w e).frozen? ⟨n, i, none⟩ = w.frozen? ⟨n, i, none⟩ := World.frozen?_of_block (w := w) (ext_heap w e n hn)
@[go_sem] theorem ext_setCell (w e : World) (n i : Nat) (v : Value) (hn : n < w.heap.size) : (ext w e).setCell ⟨n, i, none⟩ v = ext (w.setCell ⟨n, i, none⟩ v) e := by
  unfold World.setCell ext
  congr 1
  apply Array.ext_getElem?
  intro k
  by_cases hk : k < w.heap.size
  · rw [Array.getElem?_append_left (by simpa using hk), Array.getElem?_modify, Array.getElem?_modify, Array.getElem?_append_left hk]
  · rw [Array.getElem?_append_right (by simp; omega), Array.getElem?_modify, Array.getElem?_append_right (by omega), if_neg (by dsimp; omega), Array.size_modify]
theorem Like.fr {w w2 e : World} (h : Like w e) (f : w2.os = w.os ∧ w2.tape = w.tape ∧ w2.output = w.output) : Like w2 e := ⟨h.1.trans f.1.symm, h.2.1.trans f.2.1.symm, h.2.2.trans f.2.2.symm⟩
/-- Behind a call that makes blocks alone. -/
theorem mono_ext {P : Program} {n : Nat} {vs : Array Value} {w : World} {R : Ending → Prop} {Q : Ending → World → Prop} (h : Calls P n vs w fun e w' => R e ∧ Fr (fun _ => False) w w') (k : ∀ e E, R e → Like w E → Q e (ext w E)) : Calls P n vs w Q := by
  refine h.mono ?_
  rintro e w' ⟨hr, f⟩
  obtain ⟨E, rfl, hE⟩ := ext_of f
  exact k e E hr hE
@[go_sem] theorem ext_ext (w a b : World) : ext (ext w a) b = ext w (ext a b) := by
  unfold ext
  simp [Array.append_assoc]
theorem Like.ext {w a b : World} (h1 : Like w a) (h2 : Like (ext w a) b) : Like w (ext a b) := ⟨h2.1.trans h1.1, h2.2.1.trans h1.2.1, h2.2.2.trans h1.2.2⟩
/-- A statement, what it leaves, and what follows. -/
theorem wp_cut {P : Program} {x y : Code} {Q : Exit → Act → World → Prop} {a : Act} {w : World} (K : Act → World → Prop) (h1 : x.wp P (Exit.then K Q) a w) (h2 : ∀ a w, K a w → y.wp P Q a w) : (Code.seq x y).wp P Q a w :=
  wp_seq (Code.wp_mono (fun e a w h => by cases e <;> first | exact h | exact h2 _ _ h) h1)
/-- A frame of which some slots are told. -/
theorem mkF {a : Act} {F : (Nat → Value) → Act} (h : a = F (fun i => a.tmps.getD i undef)) : ∃ f, a = F f := ⟨_, h⟩
end Go.Proofs.Ytbenailemoefhaa
