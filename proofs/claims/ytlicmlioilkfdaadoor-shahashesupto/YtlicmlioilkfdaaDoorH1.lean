/-
  A Hash in memory; New, left, Len.
-/
import Derived.Test.YtlicmlioilkfdaaDoorSt
namespace Go.Proofs.YtlicmlioilkfdaaDoor
open Go.RowKit
set_option linter.unusedVariables false
set_option linter.unusedSimpArgs false

attribute [local go_sem ↓] Go.wp_at_zero Go.wp_at_succ

/-- A Hash's cells. -/
def hcs (s : St) (n : Nat) (pc : List UInt8) : List Value := wvs s.l ++ (Value.int .u64 ((n : Nat) : Int) :: bvs pc)

/-- A Hash lies at block p: its state, its length, its piece. -/
structure HAt (w : World) (p : Nat) (s : St) (n : Nat) (pc : List UInt8) : Prop where
  heap : w.heap[p]? = some (.cells (hcs s n pc).toArray 79 (0, 0))
  len : pc.length = 64
  fit : n < 18446744073709551616

theorem hcs_length (s : St) (n : Nat) (pc : List UInt8) : (hcs s n pc).length = 9 + pc.length := by
  simp [hcs, wvs_length, bvs_length, St.l]; omega

theorem hcs_word (s : St) (n : Nat) (pc : List UInt8) (j : Nat) (hj : j < 8) : (hcs s n pc)[j]? = some (.int .u32 (N (s.l.getD j 0))) := by
  unfold hcs
  rw [List.getElem?_append_left (by rw [wvs_length]; exact hj)]
  exact wvs_get _ _ hj
theorem hcs_n (s : St) (n : Nat) (pc : List UInt8) : (hcs s n pc)[8]? = some (.int .u64 ((n : Nat) : Int)) := by
  unfold hcs
  rw [List.getElem?_append_right (by rw [wvs_length]; exact Nat.le_refl 8), wvs_length]
  rfl
theorem hcs_byte (s : St) (n : Nat) (pc : List UInt8) (j : Nat) (hj : j < pc.length) : (hcs s n pc)[9 + j]? = some (.int .u8 ((((pc.getD j 0).toNat : Nat)) : Int)) := by
  unfold hcs
  rw [List.getElem?_append_right (by rw [wvs_length]; show 8 ≤ _; omega), wvs_length]
  show (_ :: bvs pc)[9 + j - 8]? = _
  rw [show 9 + j - 8 = j + 1 by omega, List.getElem?_cons_succ, bvs_get _ _ hj]
  simp [hj]

section
variable {w : World} {p : Nat} {s : St} {n : Nat} {pc : List UInt8}

theorem HAt.kept {S : Nat → Prop} {w' : World} (h : HAt w p s n pc) (f : Fr S w w') (hs : ¬ S p) : HAt w' p s n pc :=
  ⟨by rw [f.block p (lt_of_heap h.heap) hs]; exact h.heap, h.len, h.fit⟩
theorem HAt.word (h : HAt w p s n pc) (j : Nat) (hj : j < 8) : w.cell? ⟨p, j, none⟩ = some (.int .u32 (N (s.l.getD j 0))) := by
  rw [cell_of_heap h.heap, List.getElem?_toArray]; exact hcs_word s n pc j hj
theorem HAt.num (h : HAt w p s n pc) : w.cell? ⟨p, 8, none⟩ = some (.int .u64 ((n : Nat) : Int)) := by
  rw [cell_of_heap h.heap, List.getElem?_toArray]; exact hcs_n s n pc
theorem HAt.byte (h : HAt w p s n pc) (j : Nat) (hj : j < 64) : w.cell? ⟨p, 9 + j, none⟩ = some (.int .u8 ((((pc.getD j 0).toNat : Nat)) : Int)) := by
  rw [cell_of_heap h.heap, List.getElem?_toArray]; exact hcs_byte s n pc j (by rw [h.len]; exact hj)
theorem HAt.frozen (h : HAt w p s n pc) (j : Nat) : w.frozen? ⟨p, j, none⟩ = false := frozen_of_heap h.heap j
theorem HAt.piece (h : HAt w p s n pc) : PAt w p 9 pc := ⟨h.len, fun j hj => h.byte j hj⟩
theorem HAt.lt (h : HAt w p s n pc) : p < w.heap.size := lt_of_heap h.heap
/-- It is none of the tables. -/
theorem HAt.ne (h : HAt w p s n pc) (T : Tb w) : p ≠ 0 ∧ p ≠ 1 := by
  have h8 := h.num
  constructor
  · rintro rfl
    rw [T.q 8 (by omega)] at h8
    simp at h8
  · rintro rfl
    rw [T.r 8 (by omega)] at h8
    simp at h8
theorem HAt.setN (h : HAt w p s n pc) (m : Nat) (hm : m < 18446744073709551616) : HAt (w.setCell ⟨p, 8, none⟩ (.int .u64 ((m : Nat) : Int))) p s m pc := by
  refine ⟨?_, h.len, hm⟩
  rw [heap_setCell_same w p 8 _ 79 _ h.heap, List.setIfInBounds_toArray]
  rfl
end

theorem left_any (w : World) (p : Nat) (s : St) (n : Nat) (pc : List UInt8) (h : HAt w p s n pc) : Calls Tryd.prog 42 #[.pointer (some ⟨p, 0, none⟩)] w fun e w' => e = .returned (.int .i64 ((n % 64 : Nat) : Int)) ∧ w = w' := by
  have c := h.num
  have hf := h.fit
  have e1 : ((n : Nat) : Int).tmod 64 = ((n % 64 : Nat) : Int) := by
    rw [Int.tmod_eq_emod_of_nonneg (by omega)]; omega
  have hlt : n % 64 < 64 := Nat.mod_lt _ (by decide)
  generalize hm : n % 64 = m at *
  have HM := hide hm
  clear h hm
  go_enter Tryd.func42, Tryd.ntmps42
  go_wp2
  go_ret
  exact ⟨rfl, rfl⟩

theorem len_any (w : World) (p : Nat) (s : St) (n : Nat) (pc : List UInt8) (h : HAt w p s n pc) : Calls Tryd.prog 29 #[.pointer (some ⟨p, 0, none⟩)] w fun e w' => e = .returned (.int .u64 ((n : Nat) : Int)) ∧ w = w' := by
  have c := h.num
  clear h
  go_enter Tryd.func29, Tryd.ntmps29
  go_wp2
  go_ret
  exact ⟨rfl, rfl⟩

theorem new_cells : ((((((((Tryd.zeroCells79.setIfInBounds 0 (Value.int IntKind.u32 1779033703)).setIfInBounds 1 (Value.int IntKind.u32 3144134277)).setIfInBounds 2 (Value.int IntKind.u32 1013904242)).setIfInBounds 3 (Value.int IntKind.u32 2773480762)).setIfInBounds 4 (Value.int IntKind.u32 1359893119)).setIfInBounds 5 (Value.int IntKind.u32 2600822924)).setIfInBounds 6 (Value.int IntKind.u32 528734635)).setIfInBounds 7 (Value.int IntKind.u32 1541459225)) = (hcs s0 0 (List.replicate 64 0)).toArray := by kernel_rfl

set_option maxRecDepth 100000 in
theorem new_any (w : World) : Calls Tryd.prog 18 #[] w fun e w' => e = .returned (.pointer (some ⟨w.heap.size, 0, none⟩)) ∧ HAt w' w.heap.size s0 0 (List.replicate 64 0) ∧ Fr (fun _ => False) w w' := by
  go_enter Tryd.func18, Tryd.ntmps18
  go_wp2
  go_ret
  refine ⟨rfl, ⟨?_, rfl, by decide⟩, (Fr.refl _ _).alloc _⟩
  rw [heap_alloc_new, new_cells]
end Go.Proofs.YtlicmlioilkfdaaDoor
