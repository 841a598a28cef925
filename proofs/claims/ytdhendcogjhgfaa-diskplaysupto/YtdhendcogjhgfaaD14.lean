/-
  The walk of the laws' full.
-/
import Derived.Test.YtdhendcogjhgfaaD13
namespace Go.Proofs.Ytdhendcogjhgfaa
open Go.RowKit
set_option linter.unusedVariables false

attribute [local go_sem ↓] Go.wp_at_zero Go.wp_at_succ

theorem fill_step (n k : Nat) (c : UInt8) (h : k < n) : (List.replicate k c ++ List.replicate (n - k) 0).set k c = List.replicate (k + 1) c ++ List.replicate (n - (k + 1)) 0 := by
  rw [List.set_append_right _ _ (by simp), List.length_replicate, Nat.sub_self, show n - k = (n - (k + 1)) + 1 by omega, List.replicate_succ, List.set_cons_zero, List.replicate_succ']
  simp

set_option maxHeartbeats 1000000 in
theorem full_any (w : World) (n : Nat) (c : UInt8) (hn : n ≤ 100000) : Calls Try.prog 28 #[.int .i64 (n : Int), .int .u8 ((c.toNat : Nat) : Int)] w fun e w' => e = .returned (.slice (some ⟨w.heap.size, 0, none⟩) n n) ∧ BAt w' w.heap.size (List.replicate n c) ∧ Fr (fun _ => False) w w' := by
  obtain ⟨w1, hmk, hB1, hf1⟩ := mk_any w n hn
  have HB1 := hide hB1
  have HF1 := hide hf1
  clear hB1 hf1
  go_enter Try.func28, Try.ntmps28
  go_wp2_with fail
  clear hmk
  go_loopw [6] (fun y w' => ∃ k : Nat, k ≤ n ∧ y = .int .i64 (k : Int) ∧ BAt w' w.heap.size (List.replicate k c ++ List.replicate (n - k) 0) ∧ Fr (fun _ => False) w w') (fun y _ => n - (intOf y).toNat)
  case atStart => exact ⟨0, by omega, rfl, by simpa using unhide HB1, unhide HF1⟩
  case round =>
    obtain ⟨k, hk, rfl, hB, hf⟩ := hrel
    by_cases hlt : k < n
    · have yb := hB.cell k (by simp; omega)
      have zb := hB.frozen k
      have HST := hide (fill_step n k c hlt)
      generalize (List.replicate k c ++ List.replicate (n - k) 0)[k]'(by simp; omega) = ob at yb
      have HB := hide hB
      have Hf := hide hf
      clear hB hf
      go_wp2_with fail
      go_roundw
      case rel => exact ⟨k + 1, by omega, by go_num, by rw [← unhide HST]; exact (unhide HB).set k c, (unhide Hf).setCell (fun h => absurd h (by simp)) _⟩
      case measure => simp [intOf]; omega
    · have hke : k = n := by omega
      subst hke
      rw [Nat.sub_self, List.replicate_zero, List.append_nil] at hB
      have HB := hide hB
      have Hf := hide hf
      clear hB hf
      go_wp2_with fail
      go_ret
      exact ⟨rfl, unhide HB, unhide Hf⟩

end Go.Proofs.Ytdhendcogjhgfaa
