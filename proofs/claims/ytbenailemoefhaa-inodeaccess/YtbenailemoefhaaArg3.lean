/-
  An Asks that came in.
-/
import Derived.Test.YtbenailemoefhaaArg2
import Derived.Test.YtbenailemoefhaaCa
import Derived.Deep.Slices
namespace Go.Proofs.Ytbenailemoefhaa
open Go.ChangeShapes Go.WideShapes Go.ChangeAt Go.RowKit Go.Deep
set_option linter.unusedVariables false
set_option linter.unusedSimpArgs false

attribute [local go_sem ↓] Go.wp_at_zero Go.wp_at_succ

theorem cells68 : Try.prog.cellsOf 68 = 18 := by kernel_rfl
theorem open_rdg {H : Type} {enc : TypeId × Value → H} {W : World} {sp : Nat → Bool} {held : Bool} {fuel : Nat} {d : DataW H} {pl : List MemPlace} {v : Value} (h : DataW.trod enc Try.prog W 0 sp held fuel 66 [v] = some (d, pl)) : ∃ l : List Int, RdV W v (gvs l) := by
  rcases open_ints Try.underlying66 Try.underlying23 (by kernel_rfl) h with ⟨hcs, hx⟩ | ⟨a, len, cap, zs, hcs, _, hl, hm, hz, hx, hcell, hwz⟩
  · simp at hcs
    subst hcs
    exact ⟨[], .inl ⟨rfl, rfl⟩⟩
  · simp at hcs
    subst hcs
    have hzl : len ≤ zs.length := by rw [hz]; split <;> omega
    have hlen : (gvs (zs.take len)).length = len := by simp [gvs]; omega
    refine ⟨zs.take len, .inr ⟨a, cap, by rw [hlen], by rw [hlen]; exact hl, hm, fun j hj => ?_⟩⟩
    rw [hlen] at hj
    rw [hcell j (by omega)]
    have e : zs.getD j 0 = zs[j]'(by omega) := by simp [List.getD, show j < zs.length by omega]
    rw [e]
    simp [gvs]
set_option maxRecDepth 100000 in
theorem open_an {H : Type} {enc : TypeId × Value → H} {W : World} {b0 : Nat} {sp : Nat → Bool} {held : Bool} {v : Value} {d : DataW H} {ps : List MemPlace} (hval : Value.okWide Try.prog W .any b0 68 v) (hd : DataW.Trod enc Try.prog W 0 sp held 68 v d ps) :
    ∃ z : An, v = z.v ∧ z.x.Ok ∧ ∃ gids : List Int, RdV W z.g (gvs gids) := by
  obtain ⟨cs, rfl, hcs⟩ := okWide_struct Try.underlying68 hval
  rw [cells68] at hcs
  obtain ⟨fuel, hf⟩ := hd
  obtain ⟨xs, k, _, hx, hl, hlen, hfl⟩ := DataW.trod_struct Try.underlying68 hf
  obtain ⟨c0, c1, c2, c3, c4, c5, c6, c7, c8, c9, c10, c11, c12, c13, c14, c15, c16, c17, rfl⟩ : ∃ c0 c1 c2 c3 c4 c5 c6 c7 c8 c9 c10 c11 c12 c13 c14 c15 c16 c17, cs = #[c0, c1, c2, c3, c4, c5, c6, c7, c8, c9, c10, c11, c12, c13, c14, c15, c16, c17] := by
    rcases cs with ⟨l⟩
    match l, hcs with
    | [c0, c1, c2, c3, c4, c5, c6, c7, c8, c9, c10, c11, c12, c13, c14, c15, c16, c17], _ => exact ⟨c0, c1, c2, c3, c4, c5, c6, c7, c8, c9, c10, c11, c12, c13, c14, c15, c16, c17, rfl⟩
  match xs, hlen with
  | [y0, y1, y2, y3, y4], _ =>
    have k23 : Try.prog.cellsOf 23 = 1 := by kernel_rfl
    have k66 : Try.prog.cellsOf 66 = 1 := by kernel_rfl
    have e0 : DataW.trod enc Try.prog W 0 sp held k 25 ((([c0, c1, c2, c3, c4, c5, c6, c7, c8, c9, c10, c11, c12, c13, c14, c15, c16, c17] : List Value).drop 0).take (Try.prog.cellsOf 25)) = some y0 := hfl 0 _ rfl
    rw [cells25] at e0
    obtain ⟨x, hxx, hok, -⟩ := in_list e0
    have e1 : DataW.trod enc Try.prog W 0 sp held k 23 ((([c0, c1, c2, c3, c4, c5, c6, c7, c8, c9, c10, c11, c12, c13, c14, c15, c16, c17] : List Value).drop 14).take (Try.prog.cellsOf 23)) = some y1 := hfl 1 _ rfl
    rw [k23] at e1
    obtain ⟨a1, h1, -, w1⟩ := DataW.trod_int Try.underlying23 e1
    have e2 : DataW.trod enc Try.prog W 0 sp held k 66 ((([c0, c1, c2, c3, c4, c5, c6, c7, c8, c9, c10, c11, c12, c13, c14, c15, c16, c17] : List Value).drop 15).take (Try.prog.cellsOf 66)) = some y2 := hfl 2 _ rfl
    rw [k66] at e2
    obtain ⟨gids, hg⟩ := open_rdg (v := c15) (d := y2.1) (pl := y2.2) e2
    have e3 : DataW.trod enc Try.prog W 0 sp held k 23 ((([c0, c1, c2, c3, c4, c5, c6, c7, c8, c9, c10, c11, c12, c13, c14, c15, c16, c17] : List Value).drop 16).take (Try.prog.cellsOf 23)) = some y3 := hfl 3 _ rfl
    rw [k23] at e3
    obtain ⟨a3, h3, -, w3⟩ := DataW.trod_int Try.underlying23 e3
    have e4 : DataW.trod enc Try.prog W 0 sp held k 23 ((([c0, c1, c2, c3, c4, c5, c6, c7, c8, c9, c10, c11, c12, c13, c14, c15, c16, c17] : List Value).drop 17).take (Try.prog.cellsOf 23)) = some y4 := hfl 4 _ rfl
    rw [k23] at e4
    obtain ⟨a4, h4, -, w4⟩ := DataW.trod_int Try.underlying23 e4
    obtain rfl : c14 = .int .u32 a1 := by simpa using h1
    obtain rfl : c16 = .int .u32 a3 := by simpa using h3
    obtain rfl : c17 = .int .u32 a4 := by simpa using h4
    simp only [In.cs, List.cons.injEq, and_true] at hxx
    obtain ⟨rfl, rfl, rfl, rfl, rfl, rfl, rfl, rfl, rfl, rfl, rfl, rfl, rfl, rfl⟩ := hxx
    exact ⟨⟨x, a1, c15, a3, a4⟩, rfl, hok, gids, hg⟩
end Go.Proofs.Ytbenailemoefhaa
