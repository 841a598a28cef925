/-
  Digests held against each other.
-/
import Derived.Test.YtlicmlioilkfdaaDoorV1
import Derived.DeepKeys
namespace Go.Proofs.YtlicmlioilkfdaaDoor
open Go.RowKit
set_option linter.unusedVariables false
set_option linter.unusedSimpArgs false

theorem Tryd.cells5 : Tryd.prog.cellsOf 5 = 1 := by kernel_rfl

theorem eqItems_same (w : World) (d : Nat) (D : List UInt8) : ∀ is : List Nat, (∀ i ∈ is, i < D.length) → (Op.eqItems (d + 1) 5 1 (bvs D).toArray (bvs D).toArray is).run Tryd.prog w = .ok true w
  | [], _ => by simp [Op.eqItems]
  | i :: is, h => by
    have ih := eqItems_same w d D is (fun j hj => h j (by simp [hj]))
    have hi : i < D.length := h i (by simp)
    have hp : (part 5 (bvs D).toArray (i * 1)).run Tryd.prog w = .ok (.int .u8 ((D[i].toNat : Nat) : Int)) w := by
      have hv : (bvs D).toArray[i]? = some (.int .u8 ((D[i].toNat : Nat) : Int)) := by rw [List.getElem?_toArray]; exact bvs_get D i hi
      simp [part, isAgg, run_underlying Tryd.underlying5, hv]
    have he : (Op.equalIn (d + 1) 5 (.int .u8 ((D[i].toNat : Nat) : Int)) (.int .u8 ((D[i].toNat : Nat) : Int))).run Tryd.prog w = .ok true w := by
      simp [Op.equalIn, run_underlying Tryd.underlying5]
    simp only [Op.eqItems, Sem.run_bind, hp, he, Result.andThen_ok]
    simpa using ih

theorem equal_same (w : World) (d : Nat) (D : List UInt8) (hD : D.length = 32) : (Op.equalIn (d + 2) 26 (.agg (bvs D).toArray) (.agg (bvs D).toArray)).run Tryd.prog w = .ok true w := by
  obtain ⟨i, hi, -⟩ := info_parts Tryd.info5
  rw [run_equalIn_array w (d + 1) _ _ Tryd.u26 hi]
  have := eqItems_same w d D (List.range 32) (fun i hi => by rw [hD]; simpa using hi)
  rw [Tryd.cells5]
  exact this

theorem run_eqD (w : World) (D : List UInt8) (hD : D.length = 32) : (binOp .eql 26 (.agg (bvs D).toArray) (.agg (bvs D).toArray)).run Tryd.prog w = .ok (.bool true) w := by
  rw [run_eql_struct, equal_same w 9998 D hD]
  rfl
theorem run_neD (w : World) (D : List UInt8) (hD : D.length = 32) : (binOp .neq 26 (.agg (bvs D).toArray) (.agg (bvs D).toArray)).run Tryd.prog w = .ok (.bool false) w := by
  rw [run_neq_struct, equal_same w 9998 D hD]
  rfl
end Go.Proofs.YtlicmlioilkfdaaDoor
