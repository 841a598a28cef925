/-
  How []int comes in; the law ShaPieces as the card's shell calls it.
-/
import Derived.Test.YtlicmlioilkfdaaDoorP6
import Derived.Test.YtlicmlioilkfdaaDoorArg
namespace Go.Proofs.YtlicmlioilkfdaaDoor
open Go.RowKit Go.ChangeShapes Go.WideShapes Go.ChangeAt Go.Deep
set_option linter.unusedVariables false
set_option linter.unusedSimpArgs false

theorem Tryd.u71 : Tryd.prog.underlying 71 = some (.slice 3) := by kernel_rfl

section
variable {H : Type} {enc : TypeId × Value → H} {W : World} {fuel : Nat} {d : DataW H} {pl : List MemPlace} {spare : Nat → Bool} {held : Bool}

/-- A []int that came in. -/
theorem open_rdi {v : Value} (h : DataW.trod enc Tryd.prog W 0 spare held fuel 71 [v] = some (d, pl)) : ∃ l : List Int, RdV W v (l.map (Value.int .i64)) ∧ (∀ x ∈ l, -9223372036854775808 ≤ x ∧ x ≤ 9223372036854775807) := by
  rcases open_ints Tryd.u71 Tryd.underlying3 (by kernel_rfl) h with ⟨hcs, hx⟩ | ⟨a, len, cap, zs, hcs, _, hl, hm, hz, hx, hcell, hwz⟩
  · simp at hcs
    subst hcs
    exact ⟨[], .inl ⟨rfl, rfl⟩, by simp⟩
  · simp at hcs
    subst hcs
    have hzl : len ≤ zs.length := by rw [hz]; split <;> omega
    have hlen : ((zs.take len).map (Value.int .i64)).length = len := by simp; omega
    refine ⟨zs.take len, .inr ⟨a, cap, by rw [hlen], by rw [hlen]; exact hl, hm, fun j hj => ?_⟩, fun x hx => ?_⟩
    · rw [hlen] at hj
      rw [hcell j (by omega)]
      have e : zs.getD j 0 = zs[j]'(by omega) := by simp [List.getD, show j < zs.length by omega]
      rw [e]
      simp
    · have := bounds_i64 (hwz _ (List.mem_of_mem_take hx)); omega
end

theorem shaPieces_in (w : World) (T : Tb w) (a0 : Option Addr) (len0 cap0 : Nat) (q : List UInt8) (hv : Rd w (.slice a0 len0 cap0) q) (cv : Value) (cs : List Int) (hc : RdV w cv (cs.map (Value.int .i64))) (hcb : ∀ x ∈ cs, -9223372036854775808 ≤ x ∧ x ≤ 9223372036854775807) (lv : Value) (ls : List Dg) (hl : DRd w lv ls) (hn : lv = .slice none 0 0 ∨ ∃ ad n c, lv = .slice (some ad) n c) (i : Int) (wi : (Lit.int .i64 i).wf = true) :
    Calls Tryd.prog 7 #[.slice a0 len0 cap0, cv, lv, .int .i64 i] w fun e w' => e = .returned (.bool true) ∧ Fr (fun _ => False) w w' := shaPieces_any w T _ q hv cv cs hc hcb lv ls hl i

#print axioms shaPieces_in
end Go.Proofs.YtlicmlioilkfdaaDoor
