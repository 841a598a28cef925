/-
  The walk of the document's Row.
-/
import Derived.Test.YtckmddkhkdcmmaaRs10
namespace Go.Proofs.Ytckmddkhkdcmmaa
open Go.RowKit
set_option linter.unusedVariables false

attribute [local go_sem ↓] Go.wp_at_zero Go.wp_at_succ

theorem rowL_same {k i j : Nat} (h : j < k) (h0 : co k i j = 0) : (rowL k i).take (j + 1) ++ List.replicate (k - (j + 1)) 0 = (rowL k i).take j ++ List.replicate (k - j) 0 := by
  have hl : ((rowL k i).take j).length = j := by rw [List.length_take, rowL_length]; omega
  rw [List.take_succ_eq_append_getElem (by rw [rowL_length]; exact h), rowL_get, h0, show k - j = (k - (j + 1)) + 1 by omega, List.replicate_succ]
  simp

set_option maxHeartbeats 2000000 in
theorem rRow_ok (w : World) (p k m i : Nat) (hD : DAt w p k m) (hk : 1 ≤ k ∧ k ≤ 16) (hm : m ≤ 8) (hi : i < k + m) : Calls Try.prog 42 #[.pointer (some ⟨p, 0, none⟩), .int .i64 (i : Int)] w fun e w' => (∃ q, e = .returned (.slice (some ⟨q, 0, none⟩) k k) ∧ w.heap.size ≤ q ∧ BAt w' q (rowL k i)) ∧ Fr (fun _ => False) w w' := by
  have hplt := lt_of_heap hD
  have c0 := cell_of_heap hD 0
  have c1 := cell_of_heap hD 1
  simp at c0 c1
  have HD := hide hD
  clear hD
  have b1 : decide ((i : Int) < 0) = false := by simp
  have b2 : decide ((k : Int) + (m : Int) ≤ (i : Int)) = false := by simp; omega
  have hmk := run_make5 k (by omega)
  go_enter Try.func42, Try.ntmps42
  go_wp2_with fail
  go_quiet (fail)
  generalize hw1 : w.drewN nq = w1 at *
  have f1 : Fr (fun _ => False) w w1 := by rw [← hw1]; exact Fr.ofDrewN _ _
  have d0 : w1.cell? ⟨p, 0, none⟩ = some (.int .i64 (k : Int)) := by rw [f1.cell (a := ⟨p, 0, none⟩) hplt id]; exact c0
  have hmk1 := hmk w1
  have HB1 := hide (bat_new w1 (List.replicate k 0))
  have HF1 := hide (f1.alloc (Obj.cells (bvs (List.replicate k 0)).toArray 5))
  have hs1 := f1.size
  clear hw1 f1 hmk
  generalize w1.alloc (Obj.cells (bvs (List.replicate k 0)).toArray 5) = w2 at *
  go_wp2_with fail
  clear hmk1
  go_loopw [6] (fun x w' => ∃ j : Nat, j ≤ k ∧ x = .int .i64 (j : Int) ∧ BAt w' w1.heap.size ((rowL k i).take j ++ List.replicate (k - j) 0) ∧ Fr (fun _ => False) w w') (fun x _ => k - (intOf x).toNat)
  case atStart => exact ⟨0, by omega, rfl, by simpa using unhide HB1, unhide HF1⟩
  case round =>
    obtain ⟨j, hj, rfl, hB, hf⟩ := hrel
    have d0r : wr.cell? ⟨p, 0, none⟩ = some (.int .i64 (k : Int)) := by rw [hf.cell (a := ⟨p, 0, none⟩) hplt id]; exact c0
    have hpr : p < wr.heap.size := Nat.lt_of_lt_of_le hplt hf.size
    by_cases hjl : j < k
    · have hl : j < ((rowL k i).take j ++ List.replicate (k - j) 0).length := by rw [List.length_append, List.length_take, rowL_length, List.length_replicate]; omega
      have HB := hide hB
      have Hf := hide hf
      by_cases hik : i < k
      · have g1 : decide ((i : Int) < (k : Int)) = true := by simp; omega
        have g2 : decide ((k : Int) ≤ (i : Int)) = false := by simp; omega
        by_cases hij : i = j
        · subst hij
          have c := hB.cell i hl
          have z := hB.frozen i
          generalize ((rowL k i).take i ++ List.replicate (k - i) 0)[i] = old at c
          have hne : ∀ u, (wr.setCell ⟨w1.heap.size, i, none⟩ u).cell? ⟨p, 0, none⟩ = some (.int .i64 (k : Int)) := fun u => by
            rw [← d0r]
            exact ((Fr.refl (fun b => b = w1.heap.size) wr).setCell (p := ⟨w1.heap.size, i, none⟩) (fun _ => rfl) u).cell (a := ⟨p, 0, none⟩) hpr (by show ¬ p = w1.heap.size; omega)
          have hst := rowL_step (k := k) (i := i) hjl
          rw [show co k i i = 1 by unfold co; rw [if_pos hik, if_pos rfl]] at hst
          have HST := hide hst
          clear hB hf hl hst
          go_wp2_with fail
          go_roundw
          case rel =>
            refine ⟨i + 1, by omega, by go_num, ?_, (unhide Hf).setCell (fun h => absurd h (by simp; omega)) _⟩
            rw [← unhide HST]
            exact (unhide HB).set i 1
          case measure => simp [intOf]; omega
        · have g3 : ((i : Int) == (j : Int)) = false := by simp; omega
          have hst := rowL_same (k := k) (i := i) hjl (by unfold co; rw [if_pos hik, if_neg hij])
          have HST := hide hst
          clear hB hf hl hst
          go_wp2_with fail
          go_roundw
          case rel => exact ⟨j + 1, by omega, by go_num, by rw [unhide HST]; exact unhide HB, unhide Hf⟩
          case measure => simp [intOf]; omega
      · have g1 : decide ((i : Int) < (k : Int)) = false := by simp; omega
        have g2 : decide ((k : Int) ≤ (i : Int)) = true := by simp; omega
        have hw1 := byteV (show i < 256 by omega)
        have hw2 := byteV (show j < 256 by omega)
        have hco := co_inv hik hjl (by omega)
        have HI := hide (rinv_any wr (UInt8.ofNat i ^^^ UInt8.ofNat j))
        rw [hco.1, hco.2] at HI
        have hx := xorV (UInt8.ofNat i) (UInt8.ofNat j)
        have c := hB.cell j hl
        have z := hB.frozen j
        generalize ((rowL k i).take j ++ List.replicate (k - j) 0)[j] = old at c
        have HST := hide (rowL_step (k := k) (i := i) hjl)
        generalize co k i j = cc at *
        generalize UInt8.ofNat i = bi at *
        generalize UInt8.ofNat j = bj at *
        clear hB hf hl hco
        go_wp2_with fail
        refine (unhide HI).mono ?_
        rintro e w' ⟨rfl, rfl⟩
        go_wp2_with fail
        go_roundw
        case rel =>
          refine ⟨j + 1, by omega, by go_num, ?_, (unhide Hf).setCell (fun h => absurd h (by simp; omega)) _⟩
          rw [← unhide HST]
          exact (unhide HB).set j _
        case measure => simp [intOf]; omega
    · have hje : j = k := by omega
      subst hje
      have HB := hide hB
      have Hf := hide hf
      clear hB hf
      go_wp2_with fail
      go_ret
      have hB := unhide HB
      rw [Nat.sub_self, List.replicate_zero, List.append_nil, List.take_of_length_le (by rw [rowL_length]; omega)] at hB
      exact ⟨⟨_, rfl, hs1, hB⟩, unhide Hf⟩

theorem rRow_no (w : World) (p k m : Nat) (i : Int) (hD : DAt w p k m) (hk : 1 ≤ k ∧ k ≤ 16) (hm : m ≤ 8) (hi : ¬ (0 ≤ i ∧ i < (k + m : Nat))) : Calls Try.prog 42 #[.pointer (some ⟨p, 0, none⟩), .int .i64 i] w fun e w' => e = .returned (.slice none 0 0) ∧ Fr (fun _ => False) w w' := by
  have c0 := cell_of_heap hD 0
  have c1 := cell_of_heap hD 1
  simp at c0 c1
  clear hD
  by_cases hn : i < 0
  · have b1 : decide (i < 0) = true := by simpa using hn
    clear hi
    go_enter Try.func42, Try.ntmps42
    go_wp2_with fail
    go_quiet (fail)
    go_wp2_with fail
    go_ret
    exact ⟨rfl, Fr.ofDrewN _ _⟩
  · have b1 : decide (i < 0) = false := by simpa using hn
    have b2 : decide ((k : Int) + (m : Int) ≤ i) = true := by simp; omega
    clear hi
    go_enter Try.func42, Try.ntmps42
    go_wp2_with fail
    go_quiet (fail)
    go_wp2_with fail
    go_ret
    exact ⟨rfl, Fr.ofDrewN _ _⟩

theorem rRow_any (w : World) (p k m : Nat) (i : Int) (hD : DAt w p k m) (hk : 1 ≤ k ∧ k ≤ 16) (hm : m ≤ 8) : Calls Try.prog 42 #[.pointer (some ⟨p, 0, none⟩), .int .i64 i] w fun e w' => (∃ ao cap, e = .returned (.slice ao (rowX k m i).length cap) ∧ Rd w' (.slice ao (rowX k m i).length cap) (rowX k m i)) ∧ Fr (fun _ => False) w w' := by
  unfold rowX
  by_cases h : 0 ≤ i ∧ i < (k + m : Nat)
  · rw [if_pos h]
    obtain ⟨j, rfl⟩ : ∃ j : Nat, i = (j : Int) := ⟨i.toNat, by omega⟩
    refine (rRow_ok w p k m j hD hk hm (by omega)).mono ?_
    rintro e w' ⟨⟨q, rfl, -, hB⟩, f⟩
    have := hB.rd (by rw [rowL_length]; simp only [maxLen]; omega)
    rw [Int.toNat_natCast]
    rw [rowL_length] at this ⊢
    exact ⟨⟨_, _, rfl, this⟩, f⟩
  · rw [if_neg h]
    refine (rRow_no w p k m i hD hk hm h).mono ?_
    rintro e w' ⟨rfl, f⟩
    exact ⟨⟨none, 0, rfl, Rd.nil _⟩, f⟩

end Go.Proofs.Ytckmddkhkdcmmaa
