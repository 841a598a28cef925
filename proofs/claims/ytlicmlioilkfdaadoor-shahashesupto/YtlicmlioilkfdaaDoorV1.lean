/-
  Root of one digest; num.
-/
import Derived.Test.YtlicmlioilkfdaaDoorX2
namespace Go.Proofs.YtlicmlioilkfdaaDoor
open Go.RowKit
set_option linter.unusedVariables false
set_option linter.unusedSimpArgs false

attribute [local go_sem ↓] Go.wp_at_zero Go.wp_at_succ

theorem rootOne_any (w : World) (b o c : Nat) (D : List UInt8) (hD : D.length = 32) (h : w.rangeAt b o (bvs D)) : Calls Tryd.prog 38 #[.slice (some ⟨b, o, none⟩) 1 c] w fun e w' => e = .returned (.agg (bvs D).toArray) ∧ Fr (fun _ => False) w w' := by
  have hb : b < w.heap.size := World.block_lt_of_cell? w ⟨b, o + 0, none⟩ (h 0 _ (bvs_get D 0 (by omega)))
  have hrng : ∀ ob, (w.alloc ob).rangeAt b o (bvs D) := fun ob j v hv => by
    rw [((Fr.refl (fun _ => False) w).alloc ob).cell (a := ⟨b, o + j, none⟩) hb id]; exact h j v hv
  have hszD : (bvs D).toArray.size = 32 := by simpa [bvs_length] using hD
  have hi : (Tryd.prog.info? 26).map (·.size) = some (bvs D).length := by rw [bvs_length, hD]; exact Tryd.s26
  have hi2 : (Tryd.prog.info? 26).map (·.size) = some (bvs D).toArray.size := by rw [hszD]; exact Tryd.s26
  have hone := bvs_oneA D
  have hth : ∀ cs : Array Value, cs.size = 32 → (w.alloc (.cells cs 26)).there w.heap.size 0 (bvs D).toArray.size := fun cs hcs => by rw [hszD]; exact (ZAt.new w cs 26 32 hcs).there
  have hres : ∀ cs : Array Value, cs.size = 32 → ((w.alloc (.cells cs 26)).setCells w.heap.size 0 (bvs D)).heap[w.heap.size]? = some (.cells (bvs D).toArray 26 (0, 0)) := fun cs hcs => (ZAt.new w cs 26 32 hcs).putB D hD
  have fin : ∀ cs : Array Value, Fr (fun _ => False) w ((w.alloc (.cells cs 26)).setCells w.heap.size 0 (bvs D)) := fun cs => ((Fr.refl _ _).alloc _).trans (setCells_frame _ _ _ _) (fun i hi e => by omega)
  have HR := hide hres
  have HF := hide fin
  clear h hszD hD hres fin
  go_enter Tryd.func38, Tryd.ntmps38
  go_wp2_with (first | refine wpList_load_mid rfl 26 _ rfl b o rfl (bvs D) _ (hrng _) Tryd.u26 rfl hi ?_ | refine wpList_store_mid0 rfl rfl 26 _ _ rfl w.heap.size 0 (bvs D).toArray rfl rfl (hth _ rfl) hi2 hone ?_)
  refine bodyPost_ret (ret_agg rfl _ _ w.heap.size 0 _ _ rfl (bat_range (unhide HR _ rfl)) Tryd.u26 rfl hi) rfl ?_
  exact ⟨rfl, unhide HF _⟩

theorem num_any (w : World) (n : Int) : Calls Tryd.prog 25 #[.int .i64 n] w fun e w' => e = .returned (.int .i64 n) ∧ w = w' := by
  go_enter Tryd.func25, Tryd.ntmps25
  go_wp2
  go_ret
  exact ⟨rfl, rfl⟩

/-- The published digests and sums. -/
theorem abc_sum : hexL (sha [97, 98, 99]) = [98, 97, 55, 56, 49, 54, 98, 102, 56, 102, 48, 49, 99, 102, 101, 97, 52, 49, 52, 49, 52, 48, 100, 101, 53, 100, 97, 101, 50, 50, 50, 51, 98, 48, 48, 51, 54, 49, 97, 51, 57, 54, 49, 55, 55, 97, 57, 99, 98, 52, 49, 48, 102, 102, 54, 49, 102, 50, 48, 48, 49, 53, 97, 100] := by decide +kernel
theorem crc_nine : N (crc [49, 50, 51, 52, 53, 54, 55, 56, 57]) = 3808858755 := by decide +kernel
theorem prs_x : prs [120] = (List.replicate 32 0, 50, 0) := by decide +kernel
end Go.Proofs.YtlicmlioilkfdaaDoor
