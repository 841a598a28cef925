/-
  The walk of the document's Hex.
-/
import Derived.Test.YtlicmlioilkfdaaDoorX3
namespace Go.Proofs.YtlicmlioilkfdaaDoor
open Go.RowKit
set_option linter.unusedVariables false
set_option linter.unusedSimpArgs false

attribute [local go_sem ↓] Go.wp_at_zero Go.wp_at_succ

theorem run_sliceD (w : World) (n : Nat) (hn : n < 16) : Sem.run Tryd.prog (Instr.slice 9 (.string { data := #[48, 49, 50, 51, 52, 53, 54, 55, 56, 57, 97, 98, 99, 100, 101, 102] }) (some (.int .u8 ((n : Nat) : Int))) (some (.int .u8 (((n : Nat) : Int) + 1))) none) w = .ok (.string (str [dg n])) w := by
  have := run_slice_string (P := Tryd.prog) w 9 { data := #[48, 49, 50, 51, 52, 53, 54, 55, 56, 57, 97, 98, 99, 100, 101, 102] } .u8 .u8 ((n : Nat) : Int) (((n : Nat) : Int) + 1) Tryd.u9 (by omega) (by omega) (by show (n : Int) + 1 ≤ 16; omega)
  rw [this]
  have h : ∀ j : Fin 16, (ByteArray.extract { data := #[48, 49, 50, 51, 52, 53, 54, 55, 56, 57, 97, 98, 99, 100, 101, 102] } ((j.val : Nat) : Int).toNat (((j.val : Nat) : Int) + 1).toNat) = str [dg j.val] := by decide +kernel
  rw [h ⟨n, hn⟩]

theorem str_app (a b : List UInt8) : str a ++ str b = str (a ++ b) := by
  apply ByteArray.ext
  simp [str, ByteArray.data_append]

set_option maxHeartbeats 1000000 in
set_option maxRecDepth 100000 in
theorem rhex_any (w : World) (d : List UInt8) (hd : d.length = 32) : Calls Tryd.prog 33 #[.agg (bvs d).toArray] w fun e w' => e = .returned (.string (str (hexL d))) ∧ Fr (fun _ => False) w w' := by
  have HD := hide hd
  clear hd
  go_enter Tryd.func33, Tryd.ntmps33
  go_wp2_with fail
  go_loopw [3, 4] (fun x y w' => ∃ i : Nat, i ≤ 32 ∧ y = .int .i64 (i : Int) ∧ x = .string (str ((d.take i).flatMap hexB)) ∧ w'.heap[w.heap.size]? = some (.cells (bvs d).toArray 26 (0, 0)) ∧ Fr (fun _ => False) w w') (fun _ y _ => 32 - (intOf y).toNat)
  case atStart => exact ⟨0, by omega, rfl, rfl, heap_alloc_new w _, (Fr.refl _ _).alloc _⟩
  case round =>
    obtain ⟨i, hi32, rfl, rfl, hB, hF⟩ := hrel
    by_cases hlt : i < 32
    · have hdl := unhide HD
      have hc : wr.cell? ⟨w.heap.size, i, none⟩ = some (.int .u8 (((d[i]'(by omega)).toNat : Nat) : Int)) := by
        rw [cell_of_heap hB, List.getElem?_toArray, bvs_get d i (by omega)]
      have hstep : (d.take (i + 1)).flatMap hexB = (d.take i).flatMap hexB ++ hexB (d[i]'(by omega)) := by
        rw [List.take_succ_eq_append_getElem (by omega), List.flatMap_append]; simp
      have hlen : ((d.take i).flatMap hexB).length = 2 * i := by
        rw [List.length_flatMap]
        have : (d.take i).map (fun a => (hexB a).length) = List.replicate i 2 := by
          apply List.ext_getElem
          · simp; omega
          · intro j h1 h2; simp [hexB]
        rw [this]
        simp
        omega
      generalize d[i]'(by omega) = x at *
      have hx := x.toNat_lt
      have e1 : ((x.toNat : Nat) : Int) / 16 = ((x.toNat / 16 : Nat) : Int) := by omega
      have e2 : ((x.toNat : Nat) : Int) % 16 = ((x.toNat % 16 : Nat) : Int) := by omega
      have e3 : ((x.toNat : Nat) : Int).tmod 16 = ((x.toNat % 16 : Nat) : Int) := by rw [Int.tmod_eq_emod_of_nonneg (by omega)]; omega
      have e4 : IntKind.u8.wrap (((x.toNat / 16 : Nat)) : Int) = ((x.toNat / 16 : Nat) : Int) := by
        simp only [IntKind.wrap, IntKind.bits, IntKind.signed]; simp; omega
      have e5 : IntKind.u8.wrap ((((x.toNat / 16 : Nat)) : Int) + 1) = ((x.toNat / 16 : Nat) : Int) + 1 := by
        simp only [IntKind.wrap, IntKind.bits, IntKind.signed]; simp; omega
      have e6 : IntKind.u8.wrap ((((x.toNat % 16 : Nat)) : Int) + 1) = ((x.toNat % 16 : Nat) : Int) + 1 := by
        simp only [IntKind.wrap, IntKind.bits, IntKind.signed]; simp; omega
      have r1 := fun W => run_sliceD W (x.toNat / 16) (by omega)
      have r2 := fun W => run_sliceD W (x.toNat % 16) (by omega)
      have l1 : x.toNat / 16 < 16 := by omega
      have l2 : x.toNat % 16 < 16 := by omega
      have hfin : str ((d.take i).flatMap hexB) ++ str [dg (x.toNat / 16)] ++ str [dg (x.toNat % 16)] = str ((d.take (i + 1)).flatMap hexB) := by
        rw [str_app, str_app, hstep, List.append_assoc]; rfl
      have hsz : (str ((d.take i).flatMap hexB)).size = 2 * i := by rw [str_size, hlen]
      have hA : ¬ 9223372036854775807 < 2 * i + 1 := by omega
      have hA2 : ¬ 9223372036854775807 < 2 * i + 1 + 1 := by omega
      have HS := hide hstep
      have hB2 : wr.drew.drew.heap[w.heap.size]? = some (.cells (bvs d).toArray 26 (0, 0)) := hB
      have HB := hide hB2
      have HF := hide ((hF.drew).drew)
      have hT : str ((d.take (i + 1)).flatMap hexB) = str ((d.take (i + 1)).flatMap hexB) := rfl
      clear hB hB2 hF hstep hlen hdl
      generalize hT' : str ((d.take (i + 1)).flatMap hexB) = t' at *
      have HT' := hide hT'
      clear hT hT'
      generalize str ((d.take i).flatMap hexB) = t at *
      have hs1 : (str [dg (x.toNat / 16)]).size = 1 := rfl
      have hs2 : (str [dg (x.toNat % 16)]).size = 1 := rfl
      generalize str [dg (x.toNat / 16)] = y1 at *
      generalize str [dg (x.toNat % 16)] = y2 at *
      generalize x.toNat / 16 = n1 at *
      generalize x.toNat % 16 = n2 at *
      go_wp2_with fail
      go_region_held3 (fun W => W.cell? ⟨w.heap.size, i, none⟩ = some (.int .u8 ((x.toNat : Nat) : Int))) (go_keep) (fail)
      go_wp2_with fail
      go_region_held3 (fun _ => True) (trivial) (fail)
      go_wp2_with fail
      refine ⟨⟨i + 1, by omega, by go_num, by rw [unhide HT'], unhide HB, unhide HF⟩, by simp [intOf]; omega⟩
    · have : i = 32 := by omega
      subst this
      have hdl := unhide HD
      rw [List.take_of_length_le (by omega)]
      have hx : d.flatMap hexB = hexL d := rfl
      rw [hx]
      have HF := hide hF
      clear hB hF hdl hx
      go_wp2_with fail
      go_ret
      exact ⟨rfl, unhide HF⟩
end Go.Proofs.YtlicmlioilkfdaaDoor
