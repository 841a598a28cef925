/-
  The walk of package disk's Replace.
-/
import Derived.Test.YtdhendcogjhgfaaD23
namespace Go.Proofs.Ytdhendcogjhgfaa
open Go.RowKit
set_option linter.unusedVariables false

attribute [local go_sem ↓] Go.wp_at_zero Go.wp_at_succ

/-- A disk in another's place. -/
def rpD (d : Dk) : Dk := { d with S := List.replicate d.S.length (List.replicate d.size 0, 0), Q := [], off := false }

theorem zeroCells_u8 {cs : Array Value} (h : cs.toList = List.replicate 513 (Value.int .u8 0)) (s : Nat) : (Builtin.zeroCells cs s).toList = List.replicate (s * 513) (Value.int .u8 0) := by
  have hs : cs.size = 513 := by rw [← Array.length_toList, h, List.length_replicate]
  have hz : ∀ k (hk : k < cs.size), cs[k] = Value.int .u8 0 := by
    intro k hk
    have : cs.toList[k]'(by simpa using hk) = Value.int .u8 0 := by simp only [h, List.getElem_replicate]
    simpa using this
  apply List.ext_getElem
  · rw [Array.length_toList, size_zeroCells, hs, List.length_replicate]
  · intro j h1 h2
    rw [List.getElem_replicate]
    have hm : j % cs.size < cs.size := Nat.mod_lt _ (by omega)
    simp [Builtin.zeroCells, hm, hz]

section
variable (w : World) (p gs : Nat) (qv : Value) (d : Dk)

set_option maxHeartbeats 1000000 in
set_option maxRecDepth 100000 in
theorem replace_any (h : KAt w p gs qv d) : Calls Try.prog 37 #[.pointer (some ⟨p, 0, none⟩)] w fun e w' => e = .returned (.tuple #[]) ∧ KSt w w' p gs qv (rpD d) := by
  have c1 := cell_of_heap h.heap 1
  have c2 := cell_of_heap h.heap 2
  have c3 := cell_of_heap h.heap 3
  have z2 := frozen_of_heap h.heap 2
  have z3 := frozen_of_heap h.heap 3
  simp at c1 c2 c3
  have hne := h.ne
  have hln := h.ok.len
  have hlay := h.ok.lay
  have hfl := secF_len h.ok
  have h1 := heap_setCell_same w p 3 _ 78 (.bool false) h.heap
  have h2 := heap_setCell_same _ p 2 _ 78 (.slice none 0 0) h1
  obtain ⟨w2, hw2⟩ : ∃ w2, w2 = (w.setCell ⟨p, 3, none⟩ (.bool false)).setCell ⟨p, 2, none⟩ (.slice none 0 0) := ⟨_, rfl⟩
  rw [← hw2] at h2
  have f2 : Fr (fun k => k = p) w w2 := by rw [hw2]; exact ((Fr.refl (fun k => k = p) w).setCell (p := ⟨p, 3, none⟩) (fun _ => rfl) _).setCell (p := ⟨p, 2, none⟩) (fun _ => rfl) _
  have hg2 : w2.heap[gs]? = _ := (f2.block gs (lt_of_heap h.secs) (fun e => hne e.symm)).trans h.secs
  obtain ⟨inf, zv, hi0, hz0, hz1, hz2, hz3⟩ := info_zero Try.size92 Try.zero92
  have hzv : ∀ W : World, (zeroValue 92).run Try.prog W = .ok zv W := fun W => by simp [zeroValue, typeInfo, hi0, hz0]
  have hone : ∀ v ∈ List.replicate (d.S.length * 513) (Value.int .u8 0), v.oneCell' = true := fun v hv => by rw [(List.mem_replicate.1 hv).2]; rfl
  have hst := run_storeCells_cells (P := Try.prog) gs 0 (List.replicate (d.S.length * 513) (Value.int .u8 0)) 0 w2
    (fun j hj => by
      rw [cell_of_heap hg2, List.getElem?_toArray, List.getElem?_eq_getElem (by rw [List.length_append, hfl]; simp at hj; omega)]
      rfl) (fun j hj => frozen_of_heap hg2 _) hone
  obtain ⟨w3, hw3⟩ : ∃ w3, w3 = w2.setCells gs 0 (List.replicate (d.S.length * 513) (Value.int .u8 0)) := ⟨_, rfl⟩
  rw [← hw3] at hst
  have hcl : (Builtin.clear_ #[75] 0 #[.slice (some ⟨gs, 0, none⟩) d.S.length d.cap]).run Try.prog w2 = .ok (.tuple #[]) w3 := by
    have hn0 : d.S.length ≠ 0 := by omega
    obtain ⟨m, hm⟩ : ∃ m, d.S.length = m + 1 := ⟨d.S.length - 1, by omega⟩
    have hzc := zeroCells_u8 (cs := zv.cells) hz3 d.S.length
    rw [hm] at hst hzc ⊢
    simp only [Builtin.clear_]
    simp only [List.getElem?_toArray, List.getElem?_cons_zero, Sem.run_bind, run_underlying Try.underlying75, Result.andThen_ok, hzv, hzc, Sem.run_pure]
    rw [hst]
    rfl
  have hK : KSt w w3 p gs qv (rpD d) := by
    have f23 : Fr (fun k => k = gs) w2 w3 := by rw [hw3]; exact setCells_fr _ _ _ _
    have hg3 := setCells_heap gs 92 (List.replicate (d.S.length * 513) (Value.int .u8 0)) 0 w2 (secF d.S ++ d.rest) hg2 (by rw [List.length_append, hfl, List.length_replicate]; omega)
    rw [← hw3, List.take_zero, List.nil_append, List.length_replicate, Nat.zero_add, List.drop_append_of_le_length (by omega), List.drop_of_length_le (by omega), List.nil_append] at hg3
    refine ⟨⟨.slice none 0 0, ⟨?_, ?_, ⟨by simp [rpD, wrF], .inl ⟨rfl, rfl⟩⟩, ⟨h.ok.size, by simpa [rpD] using h.ok.len, fun x hx => ?_, fun q hq => by simp [rpD] at hq, by simp [rpD], h.ok.few, by simpa [rpD] using h.ok.lay⟩⟩, fun b hb => by simp [Value.ownBlock] at hb⟩, (f2.mono (fun _ _ e => .inl e)).trans f23 (fun _ _ e => .inr (.inl e))⟩
    · rw [f23.block p (lt_of_heap h2) hne, h2]
      simp [rpD]
    · rw [hg3]
      show _ = some (Obj.cells (secF (List.replicate d.S.length (List.replicate d.size 0, 0)) ++ d.rest).toArray 92 (0, 0))
      rw [secF_zero _ h.ok.size.2]
    · have := (List.mem_replicate.1 hx).2
      subst this
      simp [rpD]
  have HK := hide hK
  have c12 : w2.cell? ⟨p, 1, none⟩ = some (.slice (some ⟨gs, 0, none⟩) d.S.length d.cap) := by
    rw [cell_of_heap h2]; rfl
  have n1 : ¬ (p = gs) := hne
  have n2 : ¬ (gs = p) := fun e => hne e.symm
  clear hK hst hw3 hone hz3 hzv hg2 h1 h2 f2 h hne hlay hfl
  go_enter Try.func37, Try.ntmps37
  rw [hw2] at hcl
  clear hw2 c12
  go_wp2_with fail
  go_end0
  exact ⟨rfl, unhide HK⟩
end
end Go.Proofs.Ytdhendcogjhgfaa
