/-
  What everybody is granted: the permissions, and what each grants.
-/
import Derived.Test.YtbenailemoefhaaC3
import Derived.Deep.DeepCutAuto
import Derived.Deep.CutBlock
namespace Go.Proofs.Ytbenailemoefhaa
open Go.RowKit Go.Lib
set_option linter.unusedVariables false
set_option linter.unusedSimpArgs false

attribute [local go_sem ↓] Go.wp_at_zero Go.wp_at_succ

def gvs (l : List Int) : List Value := l.map fun n => Value.int .u32 n
set_option maxRecDepth 100000 in
set_option maxHeartbeats 2000000 in
theorem index_any (w : World) (v : Value) (l : List Int) (d : Int) (h : RdV w v (gvs l)) (hl : l.length ≤ 100000) : Calls Try.prog 62 #[v, .int .u32 d] w fun e w' => (∃ r : Int, e = .returned (.int .i64 r) ∧ decide (0 ≤ r) = decide (d ∈ l)) ∧ w' = w := by
  obtain ⟨ao, cap, rfl⟩ := h.shape
  have H := hide h
  obtain ⟨L, hL⟩ : ∃ L, L = l.length := ⟨_, rfl⟩
  have hLn : (gvs l).length = L := by rw [hL]; simp [gvs]
  rw [hLn] at H ⊢
  have HL := hide hL
  rw [← hL] at hl
  clear h hL hLn
  go_enter Try.func62, Try.ntmps62
  go_wp2_with fail
  go_loopw [8] (fun y W => ∃ j : Nat, j ≤ L ∧ y = .int .i64 (j : Int) ∧ (∀ i, i < j → l[i]? ≠ some d) ∧ W = w) (fun y _ => L - (intOf y).toNat)
  case atStart => exact ⟨0, by omega, rfl, fun i hi => by omega, rfl⟩
  case round =>
    obtain ⟨j, hj, rfl, hno, rfl⟩ := hrel
    have HNO := hide hno
    clear hno
    by_cases hlt : j < L
    · have j1 : j < l.length := by have := unhide HL; omega
      obtain ⟨bb, oo, rfl, -, hnc, hcm, hc⟩ := (unhide H).lits (by simp [gvs]; omega)
      have y0 := hc j (by simp [gvs]; omega)
      rw [show (gvs l)[j]'(by simp [gvs]; omega) = Value.int .u32 l[j] by simp [gvs]] at y0
      have hjc : j < cap := by omega
      have HJ : Hid (l[j]? = some l[j]) := hide (List.getElem?_eq_getElem j1)
      generalize l[j] = q at *
      clear hc j1
      rcases heq : (d == q) with _ | _
      · have HNO2 : Hid (∀ i, i < j + 1 → l[i]? ≠ some d) := hide (fun i hi => by
          rcases Nat.lt_succ_iff_lt_or_eq.1 hi with h | h
          · exact unhide HNO i h
          · rw [h, unhide HJ]
            intro e
            simp at e heq
            exact heq e.symm)
        clear HNO HJ
        go_wp2_with fail
        go_roundw
        case rel => exact ⟨j + 1, by omega, by go_num, unhide HNO2, by trivial⟩
        case measure => simp [intOf]; omega
      · have hmem : d ∈ l := by
          rw [List.mem_iff_getElem?]
          exact ⟨j, by rw [unhide HJ]; simp at heq; rw [heq]⟩
        have HM : Hid (decide (0 ≤ (j : Int)) = decide (d ∈ l)) := hide (by simp [hmem])
        clear HNO HJ hmem
        go_wp2_with fail
        go_ret
        exact ⟨⟨_, rfl, unhide HM⟩, rfl⟩
    · obtain rfl : j = L := by omega
      have HM : Hid (decide (0 ≤ (-1 : Int)) = decide (d ∈ l)) := hide (by
        have hm : d ∉ l := fun hm => by
          rw [List.mem_iff_getElem?] at hm
          obtain ⟨i, hi⟩ := hm
          have hil := (List.getElem?_eq_some_iff.1 hi).1
          exact unhide HNO i (by have := unhide HL; omega) hi
        simp [hm])
      clear HNO
      go_wp2_with fail
      go_ret
      exact ⟨⟨_, rfl, unhide HM⟩, rfl⟩
theorem contains_any (w : World) (v : Value) (l : List Int) (d : Int) (h : RdV w v (gvs l)) (hl : l.length ≤ 100000) : Calls Try.prog 60 #[v, .int .u32 d] w fun e w' => e = .returned (.bool (decide (d ∈ l))) ∧ w' = w := by
  have H := hide (index_any w v l d h hl)
  clear h hl
  generalize decide (d ∈ l) = c at *
  go_enter Try.func60, Try.ntmps60
  go_wp2_with fail
  refine (unhide H).mono ?_
  rintro e w' ⟨⟨r, rfl, hr⟩, hw⟩
  have hw2 := hw.symm
  subst hw2
  clear H hw
  go_wp2_with fail
  go_ret
  exact ⟨rfl, rfl⟩
/-- What one permission grants. -/
def grV (p : Int) (dir : Bool) : Int := if p = 4 then 1 else if p = 2 then (if dir then 28 else 12) else if p = 1 then (if dir then 2 else 32) else 0
set_option maxHeartbeats 2000000 in
theorem grant_any (p : Int) (dir : Bool) (w : World) : Calls Try.prog 56 #[.int .u32 p, .bool dir] w fun e w' => e = .returned (.int .u32 (grV p dir)) ∧ w = w' := by
  have HV : Hid (grV p dir = if p = 4 then 1 else if p = 2 then (if dir then 28 else 12) else if p = 1 then (if dir then 2 else 32) else 0) := hide rfl
  generalize grV p dir = g at *
  by_cases h4 : p = 4
  · subst h4
    have hg : g = 1 := unhide HV
    subst hg
    go_enter Try.func56, Try.ntmps56
    go_wp2_with fail
    go_ret
    exact ⟨rfl, rfl⟩
  by_cases h2 : p = 2
  · subst h2
    rcases dir with _ | _
    · have hg : g = 12 := unhide HV
      subst hg
      go_enter Try.func56, Try.ntmps56
      go_wp2_with fail
      go_ret
      exact ⟨rfl, rfl⟩
    · have hg : g = 28 := unhide HV
      subst hg
      go_enter Try.func56, Try.ntmps56
      go_wp2_with fail
      go_ret
      exact ⟨rfl, rfl⟩
  by_cases h1 : p = 1
  · subst h1
    rcases dir with _ | _
    · have hg : g = 32 := unhide HV
      subst hg
      go_enter Try.func56, Try.ntmps56
      go_wp2_with fail
      go_ret
      exact ⟨rfl, rfl⟩
    · have hg : g = 2 := unhide HV
      subst hg
      go_enter Try.func56, Try.ntmps56
      go_wp2_with fail
      go_ret
      exact ⟨rfl, rfl⟩
  have hg : g = 0 := by rw [unhide HV, if_neg h4, if_neg h2, if_neg h1]
  subst hg
  have b4 : (p == 4) = false := by simpa using h4
  have b2 : (p == 2) = false := by simpa using h2
  have b1 : (p == 1) = false := by simpa using h1
  clear HV h4 h2 h1
  go_enter Try.func56, Try.ntmps56
  go_wp2_with fail
  go_ret
  exact ⟨rfl, rfl⟩
/-- The three bits that count. -/
def prm (x : In) (uid : Int) (gids : List Int) : Int := if uid = 0 then 7 else if uid = x.u then x.m / 64 % 8 else if x.d ∈ gids.take 16 then x.m / 8 % 8 else x.m % 8
end Go.Proofs.Ytbenailemoefhaa
