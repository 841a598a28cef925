/-
  How a list of digests comes in.
-/
import Derived.Test.YtlicmlioilkfdaaDoorAd
import Derived.Test.YtlicmlioilkfdaaDoorT4
import Derived.Test.YtlicmlioilkfdaaDoorFree2
namespace Go.Proofs.YtlicmlioilkfdaaDoor
open Go.RowKit Go.ChangeShapes Go.WideShapes Go.ChangeAt Go.Deep
set_option linter.unusedVariables false
set_option linter.unusedSimpArgs false

section
variable {H : Type} {enc : TypeId × Value → H} {W : World} {fuel : Nat} {d : DataW H} {pl : List MemPlace} {spare : Nat → Bool} {held : Bool}

theorem open_digs {v : Value} (h : DataW.trod enc Tryd.prog W 0 spare held fuel 59 [v] = some (d, pl)) : ∃ ls, DRd W v ls ∧ (v = .slice none 0 0 ∨ ∃ ad n c, v = .slice (some ad) n c) := by
  rcases open_slice Tryd.u59 h with ⟨hcs, hx⟩ | ⟨a, len, cap, m, n, D, Pl, hcs, _, hl, hm, hmm, hx, hcell⟩
  · simp at hcs
    subst hcs
    exact ⟨[], ⟨by simp, .inl ⟨_, _, rfl, rfl⟩⟩, .inl rfl⟩
  · simp at hcs
    subst hcs
    have hlm : len ≤ m := by rw [hmm]; split <;> omega
    rw [Tryd.c26] at hcell
    have hch : ∀ i, i < len → ∃ l : List UInt8, W.cells? 0 (a.add (i * 32)) 32 = some (bvs l) ∧ l.length = 32 := fun i hi => by
      obtain ⟨cs', h1, h2⟩ := hcell i (by omega)
      obtain ⟨l, rfl, hl32⟩ := open_dig h2
      exact ⟨l, h1, hl32⟩
    obtain ⟨L, hsp⟩ := choose_lt (α := List UInt8) hch
    refine ⟨(List.range len).map L, ?_, .inr ⟨_, _, _, rfl⟩⟩
    refine ⟨fun x hx' => ?_, ?_⟩
    · obtain ⟨i, hi, rfl⟩ := List.mem_map.1 hx'
      exact (hsp i (List.mem_range.1 hi)).2
    · by_cases h0 : len = 0
      · subst h0
        exact .inl ⟨_, _, rfl, rfl⟩
      · obtain ⟨b, off, spot⟩ := a
        have hc0 := (World.cells?_some (hsp 0 (by omega)).1).2.2 0 (by omega)
        have hg0 := bvs_get (L 0) 0 (by rw [(hsp 0 (by omega)).2]; omega)
        rw [hg0] at hc0
        have hspot : spot = none := by simpa [Addr.add] using World.cell?_spot hc0
        subst hspot
        refine .inr ⟨b, off, cap, by simp, by simpa using hl, hm, fun j hj => ?_⟩
        have hj' : j < len := by simpa using hj
        intro t u hu
        have ht : t < 32 := by
          have := (List.getElem?_eq_some_iff.1 hu).1
          simp only [List.getElem_map, List.getElem_range] at this
          rwa [bvs_length, (hsp j hj').2] at this
        have h3 := (World.cells?_some (hsp j hj').1).2.2 t ht
        simp only [List.getElem_map, List.getElem_range] at hu
        rw [hu, add_add, Addr.add_lit] at h3
        rwa [show off + 32 * j + t = off + (j * 32 + t) by omega]
end
end Go.Proofs.YtlicmlioilkfdaaDoor
