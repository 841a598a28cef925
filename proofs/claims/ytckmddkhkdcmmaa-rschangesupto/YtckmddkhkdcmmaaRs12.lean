/-
  The walks of the laws' huge, and of package rs's functions at a nil Code.
-/
import Derived.Test.YtckmddkhkdcmmaaRs11
namespace Go.Proofs.Ytckmddkhkdcmmaa
open Go.RowKit
set_option linter.unusedVariables false

attribute [local go_sem ↓] Go.wp_at_zero Go.wp_at_succ

/-- How many bytes the first i have. -/
def sumL (ls : List (List UInt8)) (i : Nat) : Nat := ((ls.take i).map List.length).sum

theorem sumL_succ {ls : List (List UInt8)} {i : Nat} (h : i < ls.length) : sumL ls (i + 1) = sumL ls i + (ls[i]).length := by
  unfold sumL
  rw [List.take_succ_eq_append_getElem h, List.map_append, List.sum_append]
  simp

theorem sumL_le {ls : List (List UInt8)} {B : Nat} (hb : ∀ l ∈ ls, l.length ≤ B) (i : Nat) (hi : i ≤ ls.length) : sumL ls i ≤ i * B := by
  induction i with
  | zero => simp [sumL]
  | succ i ih =>
    rw [sumL_succ (by omega), Nat.succ_mul]
    have := ih (by omega)
    have := hb _ (List.getElem_mem (show i < ls.length by omega))
    omega

def hugeB (ls : List (List UInt8)) : Bool := decide (30 < ls.length) || decide (9000 < sumL ls (min ls.length 31))

theorem mem_sum {l : List Nat} {x : Nat} (h : x ∈ l) : x ≤ l.sum := by
  induction l with
  | nil => simp at h
  | cons y t ih =>
    rw [List.sum_cons]
    rcases List.mem_cons.1 h with rfl | h
    · omega
    · have := ih h; omega

theorem hugeB_no {ls : List (List UInt8)} (h : hugeB ls = false) : ls.length ≤ 30 ∧ ∀ l ∈ ls, l.length ≤ 9000 := by
  unfold hugeB at h
  rw [Bool.or_eq_false_iff] at h
  have h1 : ls.length ≤ 30 := by simpa using h.1
  have h2 : sumL ls (min ls.length 31) ≤ 9000 := by simpa using h.2
  rw [show min ls.length 31 = ls.length by omega] at h2
  refine ⟨h1, fun l hl => ?_⟩
  unfold sumL at h2
  rw [List.take_length] at h2
  have := mem_sum (List.mem_map.2 ⟨l, hl, rfl⟩ : l.length ∈ ls.map List.length)
  omega

set_option maxHeartbeats 1000000 in
theorem huge_any (w : World) (v : Value) (ls : List (List UInt8)) (h : RdL w v ls) (hl : ls.length ≤ 1048576) (hb : ∀ l ∈ ls, l.length ≤ 1048576) :
    Calls Try.prog 43 #[v] w fun e w' => e = .returned (.bool (hugeB ls)) ∧ w = w' := by
  have H := hide h
  obtain ⟨ao, ac, rfl⟩ := h.shape
  have HB := hide hb
  clear h hb
  go_enter Try.func43, Try.ntmps43
  go_wp2_with fail
  go_loopw [3, 4] (fun s x w' => ∃ i : Nat, i ≤ ls.length ∧ i ≤ 31 ∧ x = .int .i64 (i : Int) ∧ s = .int .i64 ((sumL ls i : Nat) : Int) ∧ w = w') (fun _ x _ => 31 - (intOf x).toNat)
  case atStart => exact ⟨0, by omega, by omega, rfl, rfl, rfl⟩
  case round =>
    obtain ⟨i, hi, hi2, rfl, rfl, rfl⟩ := hrel
    have hs1 : sumL ls i ≤ 31 * 1048576 := Nat.le_trans (sumL_le (unhide HB) i hi) (Nat.mul_le_mul_right _ hi2)
    by_cases hlt : i < ls.length ∧ i ≤ 30
    · obtain ⟨b, o, xo, xc, rfl, c1, -⟩ := (unhide H).get i hlt.1
      have g1 : decide ((i : Int) < (ls.length : Int)) = true := by simp; omega
      have g2 : decide ((i : Int) ≤ 30) = true := by simp; omega
      have hsu := sumL_succ hlt.1
      have hle := unhide HB _ (List.getElem_mem hlt.1)
      have HS := hide hsu
      generalize (ls[i]).length = li at *
      generalize sumL ls i = si at *
      have g3 : i < ls.length := hlt.1
      have g4 : i ≤ 30 := hlt.2
      clear hsu hlt
      go_wp2_with fail
      go_roundw
      case rel => exact ⟨i + 1, by omega, by omega, by go_num, by rw [unhide HS]; go_num, trivial⟩
      case measure => simp [intOf]; omega
    · have he : sumL ls i = sumL ls (min ls.length 31) ∨ 30 < ls.length := by
        by_cases h30 : 30 < ls.length
        · exact .inr h30
        · exact .inl (by rw [show min ls.length 31 = i by omega])
      have hend : hugeB ls = (decide ((30 : Int) < (ls.length : Int)) || decide ((9000 : Int) < ((sumL ls i : Nat) : Int))) := by
        unfold hugeB
        by_cases h30 : 30 < ls.length
        · have a1 : decide (30 < ls.length) = true := by simpa using h30
          have a2 : decide ((30 : Int) < (ls.length : Int)) = true := by simp; omega
          rw [a1, a2]; rfl
        · rw [he.resolve_right h30]
          have a1 : decide (30 < ls.length) = false := by simpa using h30
          have a2 : decide ((30 : Int) < (ls.length : Int)) = false := by simp; omega
          rw [a1, a2]
          generalize sumL ls (min ls.length 31) = s
          by_cases h9 : 9000 < s
          · have a3 : decide (9000 < s) = true := by simpa using h9
            have a4 : decide ((9000 : Int) < (s : Int)) = true := by simp; omega
            rw [a3, a4]
          · have a3 : decide (9000 < s) = false := by simpa using h9
            have a4 : decide ((9000 : Int) < (s : Int)) = false := by simp; omega
            rw [a3, a4]
      have HE := hide hend
      generalize sumL ls i = si at *
      clear he hend
      by_cases h1 : i < ls.length
      · have g2 : decide ((i : Int) ≤ 30) = false := by simp; omega
        have g3 : decide ((30 : Int) < (ls.length : Int)) = true := by simp; omega
        clear hlt
        go_wp2_with fail
        go_ret
        exact ⟨by rw [unhide HE, g3]; rfl, rfl⟩
      · by_cases h30 : 30 < ls.length
        · have g3 : decide ((30 : Int) < (ls.length : Int)) = true := by simp; omega
          clear hlt
          go_wp2_with fail
          go_ret
          exact ⟨by rw [unhide HE, g3]; rfl, rfl⟩
        · have g3 : decide ((30 : Int) < (ls.length : Int)) = false := by simp; omega
          clear hlt
          go_wp2_with fail
          go_ret
          exact ⟨by rw [unhide HE, g3]; rfl, rfl⟩

theorem check_nil (w : World) (ao : Option Addr) (n c : Nat) : Calls Try.prog 49 #[.pointer none, .slice ao n c] w fun e w' => e = .returned (.tuple #[.bool false, .int .i64 7]) ∧ w = w' := by
  go_enter Try.func49, Try.ntmps49
  go_wp2_with fail
  go_ret2
  exact ⟨rfl, rfl⟩

set_option maxRecDepth 100000 in
theorem update_nil (w : World) (ao bo co : Option Addr) (n c n' c' n2 c2 : Nat) (i : Int) : Calls Try.prog 54 #[.pointer none, .slice ao n c, .int .i64 i, .slice bo n' c', .slice co n2 c2] w fun e w' => e = .returned (.tuple #[.slice none 0 0, .int .i64 7]) ∧ w = w' := by
  go_enter Try.func54, Try.ntmps54
  go_wp2_with fail
  go_ret2
  exact ⟨rfl, rfl⟩

theorem split_nil (w : World) (ao : Option Addr) (n c : Nat) : Calls Try.prog 56 #[.pointer none, .slice ao n c] w fun e w' => e = .returned (.tuple #[.slice none 0 0, .int .i64 7]) ∧ w = w' := by
  go_enter Try.func56, Try.ntmps56
  go_wp2_with fail
  go_ret2
  exact ⟨rfl, rfl⟩

theorem join_nil (w : World) (ao : Option Addr) (n c : Nat) (i : Int) : Calls Try.prog 58 #[.pointer none, .slice ao n c, .int .i64 i] w fun e w' => e = .returned (.tuple #[.slice none 0 0, .int .i64 7]) ∧ w = w' := by
  go_enter Try.func58, Try.ntmps58
  go_wp2_with fail
  go_ret2
  exact ⟨rfl, rfl⟩

end Go.Proofs.Ytckmddkhkdcmmaa
