/-
  The walk of AllocSizes: how many blocks there may be.
-/
import Derived.Test.YtbpajilglfabbaaB5
namespace Go.Proofs.Ytbpajilglfabbaa
open Go.RowKit
set_option linter.unusedVariables false

attribute [local go_sem ↓] Go.wp_at_zero Go.wp_at_succ

theorem take_last (n : Nat) (h : 1 ≤ n) : (kc0 n).take ((n : Int) - 1) = ((kc0 n).set (n - 1) 2, (n : Int) - 1, 0) := by
  have e1 : inB (kc0 n).s.length ((n : Int) - 1) = true := by simp [inB, kc0]; omega
  have e2 : (kc0 n).r < fr (kc0 n).s := by simp [kc0, fr]; omega
  have e3 : ((n : Int) - 1).toNat = n - 1 := by omega
  have e4 : pk (kc0 n).s (n - 1) = n - 1 := by
    unfold pk
    have h0 : (kc0 n).s[n - 1]? = some 0 := by simp [kc0, List.getElem?_replicate]; omega
    rw [nx_is (b := n - 1) (Nat.le_refl _) h0 (fun j h1 h2 => by omega)]
  unfold Kc.take
  rw [if_pos e1, if_pos e2, e3, e4]
  congr 2
  omega
theorem fr_last (n : Nat) (h : 1 ≤ n) : fr ((kc0 n).set (n - 1) 2).s = n - 1 := by
  show fr ((List.replicate n 0).set (n - 1) 2) = n - 1
  have h0 : (List.replicate n (0 : UInt8))[n - 1]? = some 0 := by simp [List.getElem?_replicate]; omega
  rw [fr_set h0, fr_zero]
  simp

set_option maxRecDepth 100000 in
set_option maxHeartbeats 4000000 in
theorem allocSizes_any (w : World) (n : Int) : Calls Try.prog 4 #[.int .i64 n] w fun e w' => e = .returned (.bool true) ∧ Fr (fun _ => False) w w' := by
  by_cases h0 : n < 1 ∨ 65536 < n
  · have HN := hide (new_no w n h0)
    have HL := hide (live_any w)
    have hb : (decide (1 ≤ n) = false) ∨ (decide (1 ≤ n) = true ∧ decide (n ≤ 65536) = false) := by
      by_cases h1 : n < 1
      · left; simp; omega
      · right; constructor <;> simp <;> omega
    clear h0
    rcases hb with hb | ⟨hb1, hb2⟩
    · go_enter Try.func4, Try.ntmps4
      go_wp2_with fail
      refine (unhide HN).mono ?_
      rintro e w' ⟨rfl, rfl⟩
      go_wp2_with (go_at_call 13; refine (num_any _ _).mono ?_; rintro e w' ⟨rfl, rfl⟩)
      refine (unhide HL).mono ?_
      rintro e w1 ⟨rfl, f1⟩
      have HF := hide f1
      clear f1
      go_wp2_with fail
      go_ret
      exact ⟨rfl, unhide HF⟩
    · go_enter Try.func4, Try.ntmps4
      go_wp2_with fail
      refine (unhide HN).mono ?_
      rintro e w' ⟨rfl, rfl⟩
      go_wp2_with (go_at_call 13; refine (num_any _ _).mono ?_; rintro e w' ⟨rfl, rfl⟩)
      refine (unhide HL).mono ?_
      rintro e w1 ⟨rfl, f1⟩
      have HF := hide f1
      clear f1
      go_wp2_with fail
      go_ret
      exact ⟨rfl, unhide HF⟩
  · obtain ⟨k, rfl⟩ : ∃ k : Nat, n = (k : Int) := ⟨n.toNat, by omega⟩
    have hk1 : 1 ≤ k := by omega
    have hk2 : k ≤ 65536 := by omega
    have HN := hide (new_ok w k hk1 hk2)
    have HTL := hide (take_last k hk1)
    have HFL := hide (fr_last k hk1)
    have b1 : decide (1 ≤ (k : Int)) = true := by simp; omega
    have b2 : decide ((k : Int) ≤ 65536) = true := by simp; omega
    clear h0
    go_enter Try.func4, Try.ntmps4
    go_wp2_with fail
    refine (unhide HN).mono ?_
    rintro e w0 ⟨⟨p, X, rfl, hK0, hnew⟩, f0⟩
    have HBL : Hid (∀ W W', Fr (Bl p X) W W' → Fr (fun _ => False) w W → Fr (fun _ => False) w W') := hide (fun W W' f g => g.trans f (fun k hk e => by have := hnew k e; omega))
    have HF0 := hide f0
    have H1 := take_any w0 p X _ hK0 ((k : Int) - 1) (by simp [kc0])
    rw [unhide HTL] at H1
    have HC1 := hide H1
    clear H1 hK0 f0 hnew
    unfold ptr at *
    go_wp2_with (go_at_call 13; refine (num_any _ _).mono ?_; rintro e w' ⟨rfl, rfl⟩)
    refine (unhide HC1).mono ?_
    rintro e w1 ⟨rfl, hK1, f1⟩
    have HF1 := hide (unhide HBL _ _ f1 (unhide HF0))
    have HB := hide (blocks_any w1 p X _ hK1)
    have HFr := hide (free_any w1 p X _ hK1)
    have HBM := hide (bitmap_any w1 p X _ hK1)
    have el : ((kc0 k).set (k - 1) 2).s.length = k := by simp [Kc.set, kc0]
    rw [el] at HB
    rw [unhide HFL] at HFr
    have ebm : (bm ((kc0 k).set (k - 1) 2).s).length = (k + 7) / 8 := by rw [bm_length, el]
    have HEB := hide ebm
    have e5 : (((k - 1 : Nat) : Nat) : Int) = (k : Int) - 1 := by omega
    rw [e5] at HFr
    clear hK1 f1 HC1 HF0 el ebm e5
    unfold ptr at *
    go_wp2_with (first | (go_at_call 13; refine (num_any _ _).mono ?_; rintro e w' ⟨rfl, rfl⟩) | (go_at_call 18; refine (unhide HB).mono ?_; rintro e w' ⟨rfl, rfl⟩) | (go_at_call 19; refine (unhide HFr).mono ?_; rintro e w' ⟨rfl, rfl⟩))
    refine (unhide HBM).mono ?_
    rintro e w2 ⟨⟨q, N, rfl, hN, hBA, -⟩, f2⟩
    rw [unhide HEB] at hN
    have hNe : ((N : Int) == ((k : Int) + 7) / 8) = true := by simp; omega
    have HF2 := hide ((unhide HF1).trans f2 (fun _ _ h => h))
    have HL := hide (live_any w2)
    clear hBA f2 hN
    go_wp2_with fail
    refine (unhide HL).mono ?_
    rintro e w3 ⟨rfl, f3⟩
    have HF3 := hide ((unhide HF2).trans f3 (fun _ _ h => h))
    clear f3
    go_wp2_with fail
    go_ret
    exact ⟨rfl, unhide HF3⟩
end Go.Proofs.Ytbpajilglfabbaa
