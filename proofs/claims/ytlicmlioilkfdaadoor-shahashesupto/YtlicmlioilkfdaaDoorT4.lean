/-
  Trees: Root, on both sides.
-/
import Derived.Test.YtlicmlioilkfdaaDoorT3
namespace Go.Proofs.YtlicmlioilkfdaaDoor
open Go.RowKit
set_option linter.unusedVariables false
set_option linter.unusedSimpArgs false

attribute [local go_sem ↓] Go.wp_at_zero Go.wp_at_succ

abbrev Dg := List UInt8

/-- A list of digests that can be read. -/
def DRd (w : World) (v : Value) (ls : List Dg) : Prop :=
  (∀ d ∈ ls, d.length = 32) ∧ ((∃ ao cap, v = .slice ao 0 cap ∧ ls = []) ∨
  ∃ b o cap, v = .slice (some ⟨b, o, none⟩) ls.length cap ∧ ls.length ≤ cap ∧ cap ≤ maxLen ∧ ∀ j (h : j < ls.length), w.rangeAt b (o + 32 * j) (bvs ls[j]))

theorem DRd.shape {w : World} {v : Value} {ls : List Dg} (h : DRd w v ls) : ∃ ao cap, v = .slice ao ls.length cap := by
  rcases h.2 with ⟨ao, cap, rfl, rfl⟩ | ⟨b, o, cap, rfl, -⟩
  · exact ⟨ao, cap, rfl⟩
  · exact ⟨_, cap, rfl⟩

theorem DRd.lits {w : World} {ao : Option Addr} {n cap : Nat} {ls : List Dg} (h : DRd w (.slice ao n cap) ls) (hl : 0 < ls.length) : ∃ b o, ao = some ⟨b, o, none⟩ ∧ n = ls.length ∧ n ≤ cap ∧ cap ≤ maxLen ∧ b < w.heap.size ∧ ∀ j (h : j < ls.length), w.rangeAt b (o + 32 * j) (bvs ls[j]) := by
  obtain ⟨h0, h | ⟨b, o, cap', hv, h1, h2, h3⟩⟩ := h
  · obtain ⟨_, _, -, rfl⟩ := h; simp at hl
  · simp only [Value.slice.injEq] at hv
    obtain ⟨rfl, rfl, rfl⟩ := hv
    have hd : ls[0].length = 32 := h0 _ (List.getElem_mem hl)
    refine ⟨b, o, rfl, rfl, h1, h2, ?_, h3⟩
    exact World.block_lt_of_cell? w ⟨b, o + 32 * 0 + 0, none⟩ (h3 0 hl 0 _ (bvs_get _ 0 (by omega)))

theorem rangeAt_kept {S : Nat → Prop} {w w' : World} {b o : Nat} {cs : List Value} (h : w.rangeAt b o cs) (f : Fr S w w') (hb : b < w.heap.size) (hS : ¬ S b) : w'.rangeAt b o cs := fun j v hv => by
  rw [f.cell (a := ⟨b, o + j, none⟩) hb hS]; exact h j v hv

theorem DRd.keptE {S : Nat → Prop} {w w' : World} {v : Value} {ls : List Dg} (h : DRd w v ls) (f : Fr S w w') (hS : ∀ b, v.ownBlock = some b → ls = [] ∨ ¬ S b) : DRd w' v ls := by
  by_cases hl : ls = []
  · subst hl
    refine ⟨h.1, ?_⟩
    rcases h.2 with h | ⟨b, o, cap, rfl, h1, h2, h3⟩
    · exact .inl h
    · exact .inr ⟨b, o, cap, rfl, h1, h2, fun j hj => absurd hj (by simp)⟩
  · obtain ⟨ao, cap, rfl⟩ := h.shape
    obtain ⟨b, o, rfl, -, h1, h2, hb, h3⟩ := h.lits (List.length_pos_iff.2 hl)
    refine ⟨h.1, .inr ⟨b, o, cap, rfl, h1, h2, fun j hj => rangeAt_kept (h3 j hj) f hb ((hS b rfl).resolve_left hl)⟩⟩
theorem DRd.kept {w w' : World} {v : Value} {ls : List Dg} (h : DRd w v ls) (f : Fr (fun _ => False) w w') : DRd w' v ls := h.keptE f (fun _ _ => .inr id)

theorem DRd.take {w : World} {b o n cap : Nat} {ls : List Dg} (h : DRd w (.slice (some ⟨b, o, none⟩) n cap) ls) (hl : 0 < ls.length) (k : Nat) (hk : k ≤ ls.length) : DRd w (.slice (some ⟨b, o, none⟩) k cap) (ls.take k) := by
  obtain ⟨b', o', e, -, h1, h2, hb, h3⟩ := h.lits hl
  simp only [Option.some.injEq, Addr.mk.injEq] at e
  obtain ⟨rfl, rfl, -⟩ := e
  have hlk : (ls.take k).length = k := by simp; omega
  have hn : n = ls.length := by
    obtain ⟨_, _, hv⟩ := h.shape
    simp at hv; exact hv.2.1
  refine ⟨fun d hd => h.1 d (List.mem_of_mem_take hd), .inr ⟨b, o, cap, by rw [hlk], by omega, h2, fun j hj => ?_⟩⟩
  rw [List.getElem_take]
  exact h3 j (by simp at hj; omega)

theorem DRd.drop {w : World} {b o n cap : Nat} {ls : List Dg} (h : DRd w (.slice (some ⟨b, o, none⟩) n cap) ls) (k : Nat) (hk : k < ls.length) : DRd w (.slice (some ⟨b, o + 32 * k, none⟩) (n - k) (cap - k)) (ls.drop k) := by
  obtain ⟨b', o', e, hn, h1, h2, hb, h3⟩ := h.lits (by omega)
  simp only [Option.some.injEq, Addr.mk.injEq] at e
  obtain ⟨rfl, rfl, -⟩ := e
  refine ⟨fun d hd => h.1 d (List.mem_of_mem_drop hd), .inr ⟨b, o + 32 * k, cap - k, by rw [List.length_drop, hn], by simp; omega, by omega, fun j hj => ?_⟩⟩
  rw [List.getElem_drop]
  have := h3 (k + j) (by simp at hj; omega)
  rwa [show o + 32 * k + 32 * j = o + 32 * (k + j) by omega]

/-- The root of a tree. -/
def root (ls : List Dg) : Dg :=
  if h : ls.length = 0 then sha []
  else if h1 : ls.length = 1 then ls.getD 0 []
  else jn (root (ls.take (hf ls.length))) (root (ls.drop (hf ls.length)))
termination_by ls.length
decreasing_by
  all_goals have hb := hf_bounds ls.length (by omega)
  · simp; omega
  · simp; omega

theorem root_nil : root [] = sha [] := by rw [root]; simp
theorem root_one (d : Dg) : root [d] = d := by rw [root]; simp
theorem root_more (ls : List Dg) (h : 2 ≤ ls.length) : root ls = jn (root (ls.take (hf ls.length))) (root (ls.drop (hf ls.length))) := by
  rw [root, dif_neg (by omega), dif_neg (by omega)]
theorem root_length (ls : List Dg) (h : ∀ d ∈ ls, d.length = 32) : (root ls).length = 32 := by
  by_cases h0 : ls.length = 0
  · obtain rfl := List.eq_nil_of_length_eq_zero h0
    rw [root_nil]; rfl
  · by_cases h1 : ls.length = 1
    · match ls, h1 with
      | [d], _ => rw [root_one]; exact h d (by simp)
    · rw [root_more ls (by omega)]; rfl
end Go.Proofs.YtlicmlioilkfdaaDoor
