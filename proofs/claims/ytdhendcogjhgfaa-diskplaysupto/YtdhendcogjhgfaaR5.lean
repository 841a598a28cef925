/-
  The walk of the document's New.
-/
import Derived.Test.YtdhendcogjhgfaaR4
namespace Go.Proofs.Ytdhendcogjhgfaa
open Go.RowKit
set_option linter.unusedVariables false

attribute [local go_sem ↓] Go.wp_at_zero Go.wp_at_succ

theorem Try.info9 : (Try.prog.info? 9).map (fun i => (i.zero, i.size, i.bytes)) = some (some (.string ByteArray.empty), 1, 16) := by kernel_rfl
theorem Try.u79 : Try.prog.underlying 79 = some (.slice 9) := by kernel_rfl

theorem made_one (z : Value) (n : Nat) (hz : z.cells = #[z]) : madeCells z.cells (n * 1) = (List.replicate n z).toArray := by
  rw [hz]
  apply Array.ext
  · simp [size_madeCells]
  · intro i h1 h2
    simp [madeCells, Nat.mod_one]

theorem run_makeS (n : Nat) (hn : n ≤ 100000) (w : World) : (Instr.makeSlice 79 (.int .i64 (n : Int)) (.int .i64 (n : Int))).run Try.prog w = .ok (.slice (some ⟨w.heap.size, 0, none⟩) n n) (w.alloc (.cells (List.replicate n (.string ByteArray.empty)).toArray 9)) := by
  obtain ⟨i, hi, hz0, hz1, hz2⟩ := info_parts Try.info9
  have := run_make (P := Try.prog) w 79 9 i _ Try.u79 hi hz0 .i64 .i64 (n : Int) (n : Int) (by omega) (Int.le_refl _) (by rw [hz2]; omega) (by omega)
  rw [this, hz1, Int.toNat_natCast, made_one _ n rfl]
theorem run_makeI (n : Nat) (hn : n ≤ 100000) (w : World) : (Instr.makeSlice 37 (.int .i64 (n : Int)) (.int .i64 (n : Int))).run Try.prog w = .ok (.slice (some ⟨w.heap.size, 0, none⟩) n n) (w.alloc (.cells (List.replicate n (.int .i64 0)).toArray 3)) := by
  obtain ⟨i, hi, hz0, hz1, hz2⟩ := info_parts Try.info3
  have := run_make (P := Try.prog) w 37 3 i _ Try.underlying37 hi hz0 .i64 .i64 (n : Int) (n : Int) (by omega) (Int.le_refl _) (by rw [hz2]; omega) (by omega)
  rw [this, hz1, Int.toNat_natCast, made_one _ n rfl]

theorem three_alloc (w : World) (a b c : Obj) : (((w.alloc a).alloc b).alloc c).heap[w.heap.size]? = some a ∧ (((w.alloc a).alloc b).alloc c).heap[w.heap.size + 1]? = some b ∧ (((w.alloc a).alloc b).alloc c).heap[w.heap.size + 2]? = some c := by
  refine ⟨?_, ?_, ?_⟩
  · rw [Below.heap_alloc _ _ _ (by simp; omega), Below.heap_alloc _ _ _ (by simp)]; exact heap_alloc_new w a
  · rw [Below.heap_alloc _ _ _ (by simp)]
    have := heap_alloc_new (w.alloc a) b
    simpa using this
  · have := heap_alloc_new ((w.alloc a).alloc b) c
    simpa using this

set_option maxHeartbeats 1000000 in
theorem rnew_ok (w : World) (s z : Nat) (hs : 1 ≤ s ∧ s ≤ 65536) (hz : 8 ≤ z ∧ z ≤ 512) : Calls Try.prog 13 #[.int .i64 (s : Int), .int .i64 (z : Int)] w fun e w' => (∃ p sg hg, e = .returned (.tuple #[.pointer (some ⟨p, 0, none⟩), .int .i64 0]) ∧ w.heap.size ≤ p ∧ w.heap.size ≤ sg ∧ w.heap.size ≤ hg ∧ RAt w' p sg hg (.slice none 0 0) (newD s z)) ∧ Fr (fun _ => False) w w' := by
  have b1 : decide ((s : Int) < 1) = false := by simp; omega
  have b2 : decide ((65536 : Int) < (s : Int)) = false := by simp; omega
  have b3 : decide ((z : Int) < 8) = false := by simp; omega
  have b4 : decide ((512 : Int) < (z : Int)) = false := by simp; omega
  have k1 := run_makeS s (by omega)
  have k2 := run_makeI s (by omega)
  go_enter Try.func13, Try.ntmps13
  go_wp2_with fail
  go_region_held3 (fun _ => True) (trivial) (fail)
  · apply_assumption
    go_wp2_with fail
    refine (rzeros_any _ z (by omega)).mono ?_
    rintro e w1 ⟨rfl, f1⟩
    have T := three_alloc w (.cells (Array.replicate s (.string ByteArray.empty)) 9) (.cells (Array.replicate s (.int .i64 0)) 3) (.cells #[.slice (some ⟨w.heap.size, 0, none⟩) s s, .slice (some ⟨w.heap.size + 1, 0, none⟩) s s, .slice none 0 0, .bool false, .int .i64 0, .int .i64 (z : Int)] 81)
    have f0 : Fr (fun _ => False) w w1 := ((((Fr.refl (fun _ => False) w).alloc _).alloc _).alloc _).drew.trans f1 (fun _ _ h => h)
    have hs1 : w1.heap[w.heap.size]? = _ := (f1.block (w.heap.size) (by simp <;> omega) id).trans T.1
    have hh1 : w1.heap[w.heap.size + 1]? = _ := (f1.block (w.heap.size + 1) (by simp <;> omega) id).trans T.2.1
    have hp1 : w1.heap[w.heap.size + 1 + 1]? = _ := (f1.block (w.heap.size + 1 + 1) (by simp) id).trans T.2.2
    have q0 := cell_of_heap hp1 0
    simp at q0
    generalize hzz : str (List.replicate z 0) = zz
    have HZ := hide hzz
    have HS1 := hide hs1
    have HH1 := hide hh1
    have HP1 := hide hp1
    have HF0 := hide f0
    clear T f1 f0 hs1 hh1 hp1 hzz k1 k2
    go_wp2_with fail
    go_loopw [8] (fun x w' => ∃ i : Nat, i ≤ s ∧ x = .int .i64 (i : Int) ∧ w'.heap[w.heap.size]? = some (.cells (List.replicate i (Value.string zz) ++ List.replicate (s - i) (Value.string ByteArray.empty)).toArray 9 (0, 0)) ∧ Fr (fun k => k = w.heap.size) w1 w') (fun x _ => s - (intOf x).toNat)
    case atStart => exact ⟨0, by omega, rfl, by rw [unhide HS1]; simp, Fr.refl _ _⟩
    case round =>
      obtain ⟨i, hi, rfl, hS, hf⟩ := hrel
      have r0 : wr.cell? ⟨w.heap.size + 1 + 1, 0, none⟩ = some (.slice (some ⟨w.heap.size, 0, none⟩) s s) := (hf.cell (a := ⟨w.heap.size + 1 + 1, 0, none⟩) (lt_of_heap (unhide HP1)) (by first | omega | (simp <;> omega))).trans q0
      by_cases hlt : i < s
      · have y := cell_of_heap hS i
        rw [List.getElem?_toArray, List.getElem?_append_right (by simp), List.length_replicate, Nat.sub_self, show s - i = (s - (i + 1)) + 1 by omega, List.replicate_succ, List.getElem?_cons_zero] at y
        have yz := frozen_of_heap hS i
        have hset := heap_setCell_same wr (w.heap.size) i _ 9 (.string zz) hS
        rw [List.setIfInBounds_toArray, List.set_append_right _ _ (by simp), List.length_replicate, Nat.sub_self, show s - i = (s - (i + 1)) + 1 by omega, List.replicate_succ, List.set_cons_zero, show List.replicate i (Value.string zz) ++ Value.string zz :: List.replicate (s - (i + 1)) (Value.string ByteArray.empty) = List.replicate (i + 1) (Value.string zz) ++ List.replicate (s - (i + 1)) (Value.string ByteArray.empty) by rw [List.replicate_succ', List.append_assoc]; rfl] at hset
        have HSET := hide hset
        have HF := hide hf
        clear hS hf hset
        go_wp2_with fail
        go_roundw
        case rel => exact ⟨i + 1, by omega, by go_num, unhide HSET, (unhide HF).setCell (p := ⟨w.heap.size, i, none⟩) (fun _ => rfl) _⟩
        case measure => simp [intOf]; omega
      · have hie : i = s := by omega
        subst hie
        have HS := hide hS
        have HF := hide hf
        clear hS hf
        go_wp2_with fail
        go_ret2
        have hS := unhide HS
        have hf := unhide HF
        rw [Nat.sub_self, List.replicate_zero, List.append_nil] at hS
        refine ⟨⟨w.heap.size + 1 + 1, w.heap.size, w.heap.size + 1, rfl, by omega, by omega, by omega, ⟨?_, ?_, ?_, ⟨by simp [newD, quL, sF], .inl ⟨rfl, rfl⟩⟩, newD_ok hs hz⟩⟩, (unhide HF0).trans hf (fun k hk e => by omega)⟩
        · rw [hf.block _ (lt_of_heap (unhide HP1)) (by first | omega | (simp <;> omega)), unhide HP1]
          simp [newD]
        · rw [hS]
          simp [newD, stV, unhide HZ]
        · rw [hf.block _ (lt_of_heap (unhide HH1)) (by first | omega | (simp <;> omega)), unhide HH1]
          simp [newD, huV]
  · apply_assumption
    go_wp2_with fail
    refine (rzeros_any _ z (by omega)).mono ?_
    rintro e w1 ⟨rfl, f1⟩
    have T := three_alloc w (.cells (Array.replicate s (.int .i64 0)) 3) (.cells (Array.replicate s (.string ByteArray.empty)) 9) (.cells #[.slice (some ⟨w.heap.size + 1, 0, none⟩) s s, .slice (some ⟨w.heap.size, 0, none⟩) s s, .slice none 0 0, .bool false, .int .i64 0, .int .i64 (z : Int)] 81)
    have f0 : Fr (fun _ => False) w w1 := ((((Fr.refl (fun _ => False) w).alloc _).alloc _).alloc _).drew.trans f1 (fun _ _ h => h)
    have hs1 : w1.heap[w.heap.size + 1]? = _ := (f1.block (w.heap.size + 1) (by simp <;> omega) id).trans T.2.1
    have hh1 : w1.heap[w.heap.size]? = _ := (f1.block (w.heap.size) (by simp <;> omega) id).trans T.1
    have hp1 : w1.heap[w.heap.size + 1 + 1]? = _ := (f1.block (w.heap.size + 1 + 1) (by simp) id).trans T.2.2
    have q0 := cell_of_heap hp1 0
    simp at q0
    generalize hzz : str (List.replicate z 0) = zz
    have HZ := hide hzz
    have HS1 := hide hs1
    have HH1 := hide hh1
    have HP1 := hide hp1
    have HF0 := hide f0
    clear T f1 f0 hs1 hh1 hp1 hzz k1 k2
    go_wp2_with fail
    go_loopw [8] (fun x w' => ∃ i : Nat, i ≤ s ∧ x = .int .i64 (i : Int) ∧ w'.heap[w.heap.size + 1]? = some (.cells (List.replicate i (Value.string zz) ++ List.replicate (s - i) (Value.string ByteArray.empty)).toArray 9 (0, 0)) ∧ Fr (fun k => k = w.heap.size + 1) w1 w') (fun x _ => s - (intOf x).toNat)
    case atStart => exact ⟨0, by omega, rfl, by rw [unhide HS1]; simp, Fr.refl _ _⟩
    case round =>
      obtain ⟨i, hi, rfl, hS, hf⟩ := hrel
      have r0 : wr.cell? ⟨w.heap.size + 1 + 1, 0, none⟩ = some (.slice (some ⟨w.heap.size + 1, 0, none⟩) s s) := (hf.cell (a := ⟨w.heap.size + 1 + 1, 0, none⟩) (lt_of_heap (unhide HP1)) (by first | omega | (simp <;> omega))).trans q0
      by_cases hlt : i < s
      · have y := cell_of_heap hS i
        rw [List.getElem?_toArray, List.getElem?_append_right (by simp), List.length_replicate, Nat.sub_self, show s - i = (s - (i + 1)) + 1 by omega, List.replicate_succ, List.getElem?_cons_zero] at y
        have yz := frozen_of_heap hS i
        have hset := heap_setCell_same wr (w.heap.size + 1) i _ 9 (.string zz) hS
        rw [List.setIfInBounds_toArray, List.set_append_right _ _ (by simp), List.length_replicate, Nat.sub_self, show s - i = (s - (i + 1)) + 1 by omega, List.replicate_succ, List.set_cons_zero, show List.replicate i (Value.string zz) ++ Value.string zz :: List.replicate (s - (i + 1)) (Value.string ByteArray.empty) = List.replicate (i + 1) (Value.string zz) ++ List.replicate (s - (i + 1)) (Value.string ByteArray.empty) by rw [List.replicate_succ', List.append_assoc]; rfl] at hset
        have HSET := hide hset
        have HF := hide hf
        clear hS hf hset
        go_wp2_with fail
        go_roundw
        case rel => exact ⟨i + 1, by omega, by go_num, unhide HSET, (unhide HF).setCell (p := ⟨w.heap.size + 1, i, none⟩) (fun _ => rfl) _⟩
        case measure => simp [intOf]; omega
      · have hie : i = s := by omega
        subst hie
        have HS := hide hS
        have HF := hide hf
        clear hS hf
        go_wp2_with fail
        go_ret2
        have hS := unhide HS
        have hf := unhide HF
        rw [Nat.sub_self, List.replicate_zero, List.append_nil] at hS
        refine ⟨⟨w.heap.size + 1 + 1, w.heap.size + 1, w.heap.size, rfl, by omega, by omega, by omega, ⟨?_, ?_, ?_, ⟨by simp [newD, quL, sF], .inl ⟨rfl, rfl⟩⟩, newD_ok hs hz⟩⟩, (unhide HF0).trans hf (fun k hk e => by omega)⟩
        · rw [hf.block _ (lt_of_heap (unhide HP1)) (by first | omega | (simp <;> omega)), unhide HP1]
          simp [newD]
        · rw [hS]
          simp [newD, stV, unhide HZ]
        · rw [hf.block _ (lt_of_heap (unhide HH1)) (by first | omega | (simp <;> omega)), unhide HH1]
          simp [newD, huV]

set_option maxHeartbeats 1000000 in
theorem rnew_no (w : World) (s z : Int) (h : ¬ (1 ≤ s ∧ s ≤ 65536 ∧ 8 ≤ z ∧ z ≤ 512)) : Calls Try.prog 13 #[.int .i64 s, .int .i64 z] w fun e w' => e = .returned (.tuple #[.pointer none, .int .i64 2]) ∧ w = w' := by
  by_cases h1 : s < 1
  · have b1 : decide (s < 1) = true := by simpa using h1
    go_enter Try.func13, Try.ntmps13
    go_wp2_with fail
    go_ret2
    exact ⟨rfl, rfl⟩
  · have b1 : decide (s < 1) = false := by simpa using h1
    by_cases h2 : 65536 < s
    · have b2 : decide (65536 < s) = true := by simpa using h2
      go_enter Try.func13, Try.ntmps13
      go_wp2_with fail
      go_ret2
      exact ⟨rfl, rfl⟩
    · have b2 : decide (65536 < s) = false := by simpa using h2
      by_cases h3 : z < 8
      · have b3 : decide (z < 8) = true := by simpa using h3
        go_enter Try.func13, Try.ntmps13
        go_wp2_with fail
        go_ret2
        exact ⟨rfl, rfl⟩
      · have b3 : decide (z < 8) = false := by simpa using h3
        have h4 : 512 < z := by omega
        have b4 : decide (512 < z) = true := by simpa using h4
        go_enter Try.func13, Try.ntmps13
        go_wp2_with fail
        go_ret2
        exact ⟨rfl, rfl⟩

end Go.Proofs.Ytdhendcogjhgfaa
