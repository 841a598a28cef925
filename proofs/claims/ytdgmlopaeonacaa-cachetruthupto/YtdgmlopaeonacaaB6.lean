/-
  The walk of the document's Ints.
-/
import Derived.Test.YtdgmlopaeonacaaB5
namespace Go.Proofs.Ytdgmlopaeonacaa
open Go.RowKit
set_option linter.unusedVariables false

attribute [local go_sem ↓] Go.wp_at_zero Go.wp_at_succ

set_option maxHeartbeats 1000000 in
theorem ints_any (w : World) (v u : Value) (ls ms : List Int) (h1 : RdV w v (ls.map (Value.int .i64))) (h2 : RdV w u (ms.map (Value.int .i64))) :
    Calls Try.prog 17 #[v, u] w fun e w' => e = .returned (.bool (decide (ls = ms))) ∧ ∃ n, w' = w.drewN n := by
  have H1 := hide h1
  have H2 := hide h2
  obtain ⟨ao, ac, rfl⟩ := h1.shape
  obtain ⟨bo, bc, rfl⟩ := h2.shape
  have hl1 := h1.len
  have hl2 := h2.len
  unfold maxLen at hl1 hl2
  rw [List.length_map] at hl1 hl2
  rw [List.length_map, List.length_map] at *
  clear h1 h2
  by_cases he : ls.length = ms.length
  · rw [← he] at H2 ⊢
    have HE := hide he
    clear he
    obtain ⟨n, hn⟩ : ∃ n, n = ls.length := ⟨_, rfl⟩
    rw [← hn] at H1 H2 hl1 ⊢
    have HN := hide hn
    clear hn hl2
    go_enter Try.func17, Try.ntmps17
    go_wp2_with fail
    go_loopw [5] (fun x w' => ∃ i : Nat, i ≤ n ∧ x = .int .i64 (i : Int) ∧ ls.take i = ms.take i ∧ ∃ k, w' = w.drewN k) (fun x _ => n - (intOf x).toNat)
    case atStart => exact ⟨0, by omega, rfl, by simp, 0, rfl⟩
    case round =>
      obtain ⟨i, hi, rfl, ht, kk, rfl⟩ := hrel
      by_cases hlt : i < n
      · have i1 : i < ls.length := by have := unhide HN; omega
        have i2 : i < ms.length := by have := unhide HN; have := unhide HE; omega
        obtain ⟨b1, o1, rfl, -, x1, y1, c1⟩ := (unhide H1).lits (by rw [List.length_map]; omega)
        obtain ⟨b2, o2, rfl, -, x2, y2, c2⟩ := (unhide H2).lits (by rw [List.length_map]; omega)
        have k1 := c1 i (by rw [List.length_map]; exact i1)
        have k2 := c2 i (by rw [List.length_map]; exact i2)
        rw [List.getElem_map] at k1 k2
        have HT := hide ht
        have T1 := hide (List.take_succ_eq_append_getElem i1)
        have T2 := hide (List.take_succ_eq_append_getElem i2)
        have HG := hide (show ls = ms → ls[i] = ms[i] by rintro rfl; rfl)
        generalize ls[i] = li at *
        generalize ms[i] = mi at *
        clear ht c1 c2 x1 x2
        by_cases hd : li = mi
        · have hb : (li != mi) = false := by simpa using hd
          have HD := hide hd
          clear hd
          go_wp2_with fail
          go_quiet (fail)
          go_wp2_with fail
          go_roundw
          case rel => exact ⟨i + 1, by omega, by go_num, by rw [unhide T1, unhide T2, unhide HT, unhide HD], _, rfl⟩
          case measure => simp [intOf]; omega
        · have hb : (li != mi) = true := by simpa using hd
          have HD := hide hd
          clear hd
          go_wp2_with fail
          go_quiet (fail)
          go_wp2_with fail
          go_ret
          have e : decide (ls = ms) = false := by
            simp only [decide_eq_false_iff_not]
            exact fun e => unhide HD (unhide HG e)
          rw [e]
          exact ⟨rfl, _, World.drewN_drewN _ _ _⟩
      · have hie : i = n := by omega
        subst hie
        have HT := hide ht
        clear ht
        go_wp2_with fail
        go_ret
        have e : decide (ls = ms) = true := by
          have h := unhide HT
          have hN := unhide HN
          have hE := unhide HE
          rw [List.take_of_length_le (by omega), List.take_of_length_le (by omega)] at h
          simpa using h
        rw [e]
        exact ⟨rfl, _, rfl⟩
  · have hb : ((ls.length : Int) != (ms.length : Int)) = true := by simp; omega
    have e : decide (ls = ms) = false := by
      simp only [decide_eq_false_iff_not]
      rintro rfl; exact he rfl
    rw [e]
    clear he H1 H2
    go_enter Try.func17, Try.ntmps17
    go_wp2_with fail
    go_ret
    exact ⟨rfl, 0, rfl⟩

end Go.Proofs.Ytdgmlopaeonacaa
