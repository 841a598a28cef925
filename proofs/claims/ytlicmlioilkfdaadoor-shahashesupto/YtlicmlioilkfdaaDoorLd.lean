/-
  What the tie gives the walks: the two tables; a start that meets it.
-/
import Derived.Test.YtlicmlioilkfdaaDoorSt
import Derived.Test.YtlicmlioilkfdaaDoorRows
import Derived.LaidMore
import Derived.ProofKit
import Derived.OpenShut
import Derived.Stop.Joined
namespace Go.Proofs.YtlicmlioilkfdaaDoor
open Go.ChangeShapes Go.WideShapes Go.ChangeAt Go.RowKit
set_option linter.unusedVariables false
set_option linter.unusedSimpArgs false

def lds : List (String × DataW Unit) := [("granary/sha.quads", Rows.laid_granary_sha_quads), ("granary/sha.rounds", Rows.laid_granary_sha_rounds)]

theorem Tryd.own : ownKnob Tryd.prog.godebug = none := by kernel_rfl
theorem Tryd.g0 : Tryd.prog.globalNamed "granary/sha.quads" = some 0 := by kernel_rfl
theorem Tryd.g1 : Tryd.prog.globalNamed "granary/sha.rounds" = some 1 := by kernel_rfl
theorem Tryd.t0 : (Tryd.prog.globals[0]?).map (·.type) = some 76 := by kernel_rfl
theorem Tryd.t1 : (Tryd.prog.globals[1]?).map (·.type) = some 98 := by kernel_rfl
theorem Tryd.u76 : Tryd.prog.underlying 76 = some (.array 16 23) := by kernel_rfl
theorem Tryd.c23 : Tryd.prog.cellsOf 23 = 1 := by kernel_rfl

/-- A table of words, read off its datum. -/
theorem table_of {W : World} {nm : String} {g t n fuel : Nat} {cs : Array Value} {p : List MemPlace} {l : List Wd} (hg : Tryd.prog.globalNamed nm = some g) (hv : W.var? Tryd.prog nm = some cs)
    (ht : Tryd.prog.underlying t = some (.array n 23)) (h : DataW.trod (fun _ => ()) Tryd.prog W 0 (fun _ => true) false fuel t cs.toList = some (.agg (l.map fun x => .lit (.int .u32 (N x))), p)) (j : Nat) (hj : j < n) :
    W.cell? ⟨g, j, none⟩ = some (.int .u32 (N (l.getD j 0))) := by
  obtain ⟨xs, m, rfl, hx, hlen, hn, hel⟩ := DataW.trod_array ht h
  simp only [Prod.mk.injEq, DataW.agg.injEq] at hx
  have hj' := hel j hj
  rw [Tryd.c23, Nat.mul_one] at hj'
  have hxj : xs[j]? = some (xs[j]'(by omega)) := by simp [show j < xs.length by omega]
  rw [hxj] at hj'
  obtain ⟨k, e1, e2, -⟩ := DataW.trod_int Tryd.u23 hj'
  have hlj : (l.map fun x => DataW.lit (H := Unit) (.int .u32 (N x)))[j]? = (xs.map (·.1))[j]? := by rw [hx.1]
  rw [List.getElem?_map, List.getElem?_map, hxj] at hlj
  cases hl : l[j]? with
  | none => rw [hl] at hlj; cases hlj
  | some x =>
    rw [hl] at hlj
    simp only [Option.map_some, Option.some.injEq] at hlj
    rw [e2] at hlj
    have hk : k = N x := by simpa using hlj.symm
    rw [World.var?_cell hg hv j]
    have : (cs.toList.drop j).take 1 = [.int .u32 k] := e1
    have h2 : cs.toList[j]? = some (.int .u32 k) := by
      have := congrArg (fun q : List Value => q[0]?) this
      simpa [List.getElem?_take, List.getElem?_drop] using this
    have h3 : cs[j]? = some (.int .u32 k) := by simpa using h2
    rw [h3, hk]
    simp [hl]

theorem quads_is : (Rows.laid_granary_sha_quads : DataW Unit) = .agg (QL.map fun x => .lit (.int .u32 (N x))) := by
  unfold Rows.laid_granary_sha_quads QL N; rfl
theorem rounds_is : (Rows.laid_granary_sha_rounds : DataW Unit) = .agg (KL.map fun x => .lit (.int .u32 (N x))) := by
  unfold Rows.laid_granary_sha_rounds KL N; rfl

theorem of_laid {W : World} (h : laidMetH Tryd.prog lds W) : Tb W := by
  rw [MakeChecks.laidMetH_plain _ _ _ (by kernel_rfl)] at h
  obtain ⟨ps, ⟨g0, t0, cs0, f0, p0, q0, hg0, ht0, hv0, hd0, ⟨g1, t1, cs1, f1, p1, q1, hg1, ht1, hv1, hd1, _, _⟩, _⟩, _, _⟩ := h
  obtain rfl := Option.some.inj (Tryd.g0.symm.trans hg0)
  obtain rfl := Option.some.inj (Tryd.g1.symm.trans hg1)
  obtain rfl := Option.some.inj (Tryd.t0.symm.trans ht0)
  obtain rfl := Option.some.inj (Tryd.t1.symm.trans ht1)
  rw [quads_is] at hd0
  rw [rounds_is] at hd1
  exact ⟨fun j hj => table_of hg1 hv1 Tryd.u98 hd1 j hj, fun j hj => table_of hg0 hv0 Tryd.u76 hd0 j hj⟩

theorem door_met (os : Os) (args : Array Value) : laidMetH Tryd.prog lds ((World.doorLaid Tryd.prog 400 os).forCall (fun _ _ => 0) ⟨#[], args, []⟩).memory :=
  laidMetH_of_parts3 (fuel := 8) (laidMet_of_run' 8 (by kernel_rfl) (by kernel_rfl)) (by kernel_rfl) (by kernel_rfl)
end Go.Proofs.YtlicmlioilkfdaaDoor
