/-
  The walks of package rs's Row, of the document's New and Row, and of the laws' both.
-/
import Derived.Test.YtckmddkhkdcmmaaRs2
namespace Go.Proofs.Ytckmddkhkdcmmaa
open Go.RowKit
set_option linter.unusedVariables false

attribute [local go_sem ↓] Go.wp_at_zero Go.wp_at_succ

/-- What Row answers. -/
def rowX (k m : Nat) (i : Int) : List UInt8 := if 0 ≤ i ∧ i < (k + m : Nat) then rowL k i.toNat else []

theorem Row_nil (w : World) (i : Int) : Calls Try.prog 41 #[.pointer none, .int .i64 i] w fun e w' => e = .returned (.slice none 0 0) ∧ ∃ j, w' = w.drewN j := by
  go_enter Try.func41, Try.ntmps41
  go_wp2_with fail
  go_quiet (fail)
  go_wp2_with fail
  go_ret
  exact ⟨rfl, _, rfl⟩

set_option maxHeartbeats 400000 in
theorem Row_any (w : World) (p k m : Nat) (i : Int) (h : CAt w p k m) : Calls Try.prog 41 #[.pointer (some ⟨p, 0, none⟩), .int .i64 i] w fun e w' => (∃ ao cap, e = .returned (.slice ao (rowX k m i).length cap) ∧ Rd w' (.slice ao (rowX k m i).length cap) (rowX k m i)) ∧ Fr (fun _ => False) w w' := by
  obtain ⟨q, h1, -⟩ := h.ex
  have hk := h.hk
  have hm := h.hm
  have c0 := cell_of_heap h1 0
  have c1 := cell_of_heap h1 1
  simp at c0 c1
  have H := hide h
  clear h1 h
  by_cases hn : i < 0
  · have e : rowX k m i = [] := by unfold rowX; rw [if_neg (by omega)]
    rw [e]
    have b1 : decide (i < 0) = true := by simpa using hn
    go_enter Try.func41, Try.ntmps41
    go_wp2_with fail
    go_quiet (fail)
    go_wp2_with fail
    go_ret
    exact ⟨⟨none, 0, rfl, Rd.nil _⟩, Fr.ofDrewN _ _⟩
  · have b1 : decide (i < 0) = false := by simpa using hn
    obtain ⟨j, rfl⟩ : ∃ j : Nat, i = (j : Int) := ⟨i.toNat, by omega⟩
    by_cases hge : k + m ≤ j
    · have e : rowX k m (j : Int) = [] := by unfold rowX; rw [if_neg (by omega)]
      rw [e]
      have b2 : decide ((k : Int) + (m : Int) ≤ (j : Int)) = true := by simp; omega
      go_enter Try.func41, Try.ntmps41
      go_wp2_with fail
      go_quiet (fail)
      go_wp2_with fail
      go_ret
      exact ⟨⟨none, 0, rfl, Rd.nil _⟩, Fr.ofDrewN _ _⟩
    · have e : rowX k m (j : Int) = rowL k j := by unfold rowX; rw [if_pos (by omega)]; rfl
      rw [e]
      have b2 : decide ((k : Int) + (m : Int) ≤ (j : Int)) = false := by simp; omega
      have HR := hide (fun W (f : Fr (fun _ => False) w W) => row_any W p k m j ((unhide H).kept f (fun _ _ h => h)) (by omega))
      clear e
      go_enter Try.func41, Try.ntmps41
      go_wp2_with fail
      go_quiet (fail)
      go_wp2_with fail
      refine (unhide HR _ (Fr.ofDrewN _ _)).mono ?_
      rintro e w2 ⟨⟨q, rfl, hR, hq⟩, f2⟩
      have F2 := hide ((Fr.ofDrewN (S := fun _ => False) w _).trans f2 (fun _ _ h => h))
      have hR' := hR
      rw [← rowL_length k j] at hR'
      go_wp2_with fail
      refine (copyOf_any w2 _ _ hR (by rw [rowL_length]; omega)).mono ?_
      rintro e w3 ⟨rfl, hB, f3⟩
      go_wp2_with fail
      go_ret
      exact ⟨⟨_, _, rfl, hB.rd (by rw [rowL_length]; simp only [maxLen]; omega)⟩, (unhide F2).trans f3 (fun _ _ h => h)⟩

/-- The document's code at block p. -/
def DAt (w : World) (p k m : Nat) : Prop := w.heap[p]? = some (.cells #[.int .i64 (k : Int), .int .i64 (m : Int)] 120 (0, 0))

theorem DAt.kept {S : Nat → Prop} {w w' : World} {p k m : Nat} (h : DAt w p k m) (f : Fr S w w') (hs : ¬ S p) : DAt w' p k m := by
  unfold DAt at *
  rw [f.block p (lt_of_heap h) hs]; exact h

theorem rnew_no (w : World) (k m : Int) (h : okB k m = false) : Calls Try.prog 89 #[.int .i64 k, .int .i64 m] w fun e w' => e = .returned (.tuple #[.pointer none, .int .i64 2]) ∧ w = w' := by
  have h' : ¬ (1 ≤ k ∧ k ≤ 16 ∧ 0 ≤ m ∧ m ≤ 8) := by simpa [okB] using h
  by_cases h1 : k < 1
  · have b1 : decide (k < 1) = true := by simpa using h1
    go_enter Try.func89, Try.ntmps89
    go_wp2
    go_ret2
    exact ⟨rfl, rfl⟩
  · have b1 : decide (k < 1) = false := by simpa using h1
    by_cases h2 : 16 < k
    · have b2 : decide (16 < k) = true := by simpa using h2
      go_enter Try.func89, Try.ntmps89
      go_wp2
      go_ret2
      exact ⟨rfl, rfl⟩
    · have b2 : decide (16 < k) = false := by simpa using h2
      by_cases h3 : m < 0
      · have b3 : decide (m < 0) = true := by simpa using h3
        go_enter Try.func89, Try.ntmps89
        go_wp2
        go_ret2
        exact ⟨rfl, rfl⟩
      · have b3 : decide (m < 0) = false := by simpa using h3
        have h4 : 8 < m := by omega
        have b4 : decide (8 < m) = true := by simpa using h4
        go_enter Try.func89, Try.ntmps89
        go_wp2
        go_ret2
        exact ⟨rfl, rfl⟩

theorem rnewc_ok (w : World) (k m : Nat) (hk : 1 ≤ k ∧ k ≤ 16) (hm : m ≤ 8) : Calls Try.prog 89 #[.int .i64 (k : Int), .int .i64 (m : Int)] w fun e w' => e = .returned (.tuple #[.pointer (some ⟨w.heap.size, 0, none⟩), .int .i64 0]) ∧ DAt w' w.heap.size k m ∧ Fr (fun _ => False) w w' := by
  go_enter Try.func89, Try.ntmps89
  go_wp2
  go_ret2
  exact ⟨rfl, heap_alloc_new w _, (Fr.refl _ _).alloc _⟩

theorem num3_any (w : World) (n : Int) : Calls Try.prog 48 #[.int .i64 n] w fun e w' => e = .returned (.int .i64 n) ∧ w = w' := by
  go_enter Try.func48, Try.ntmps48
  go_wp2
  go_ret
  exact ⟨rfl, rfl⟩

theorem both_no (w : World) (k m : Int) (h : okB k m = false) : Calls Try.prog 37 #[.int .i64 k, .int .i64 m] w fun e w' => e = .returned (.tuple #[.pointer none, .pointer none, .bool true]) ∧ w = w' := by
  have H1 := hide (new_no w k m h)
  have H2 := hide (rnew_no w k m h)
  clear h
  go_enter Try.func37, Try.ntmps37
  go_wp2_with fail
  refine (unhide H1).mono ?_
  rintro e w1 ⟨rfl, rfl⟩
  go_wp2_with fail
  refine (unhide H2).mono ?_
  rintro e w1 ⟨rfl, rfl⟩
  go_wp2_with (go_at_call 48; refine (num3_any _ _).mono ?_; rintro e w' ⟨rfl, rfl⟩)
  go_ret3
  exact ⟨rfl, rfl⟩

theorem both_ok (w : World) (k m : Nat) (hk : 1 ≤ k ∧ k ≤ 16) (hm : m ≤ 8) : Calls Try.prog 37 #[.int .i64 (k : Int), .int .i64 (m : Int)] w fun e w' => (∃ p q, e = .returned (.tuple #[.pointer (some ⟨p, 0, none⟩), .pointer (some ⟨q, 0, none⟩), .bool true]) ∧ w.heap.size ≤ p ∧ w.heap.size ≤ q ∧ CAt w' p k m ∧ DAt w' q k m) ∧ Fr (fun _ => False) w w' := by
  go_enter Try.func37, Try.ntmps37
  go_wp2_with fail
  refine (new_ok w k m hk hm).mono ?_
  rintro e w1 ⟨⟨p, rfl, hp, hC⟩, f1⟩
  go_wp2_with fail
  refine (rnewc_ok w1 k m hk hm).mono ?_
  rintro e w2 ⟨rfl, hD, f2⟩
  go_wp2_with (go_at_call 48; refine (num3_any _ _).mono ?_; rintro e w' ⟨rfl, rfl⟩)
  go_ret3
  exact ⟨⟨p, _, rfl, hp, f1.size, hC.kept f2 (fun _ _ h => h), hD⟩, f1.trans f2 (fun _ _ h => h)⟩

end Go.Proofs.Ytckmddkhkdcmmaa
