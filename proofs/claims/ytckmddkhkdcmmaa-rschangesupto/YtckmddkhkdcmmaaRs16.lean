/-
  The walk of the document's even; Mix, plainly.
-/
import Derived.Test.YtckmddkhkdcmmaaRs14
import Derived.Deep.RegionHeld3
namespace Go.Proofs.Ytckmddkhkdcmmaa
open Go.RowKit
set_option linter.unusedVariables false

attribute [local go_sem ↓] Go.wp_at_zero Go.wp_at_succ

set_option maxHeartbeats 1000000 in
theorem even_any (w : World) (v : Value) (ls : List (List UInt8)) (count : Int) (h : RdL w v ls) (hl : ls.length ≤ 100000) :
    Calls Try.prog 95 #[v, .int .i64 count] w fun e w' => e = .returned (.bool (oneL ls count).2) ∧ Fr (fun _ => False) w w' := by
  obtain ⟨ao, cap, rfl⟩ := h.shape
  by_cases hc : (ls.length : Int) = count
  · subst hc
    have H := hide h
    clear h
    go_enter Try.func95, Try.ntmps95
    go_wp2_with fail
    go_loopw [5] (fun x w' => ∃ i : Nat, i ≤ ls.length ∧ x = .int .i64 (i : Int) ∧ (∀ j (hj : j < ls.length), j < i → (ls[j]).length = (ls.headD []).length) ∧ Fr (fun _ => False) w w') (fun x _ => ls.length - (intOf x).toNat)
    case atStart => exact ⟨0, by omega, rfl, fun j hj h => by omega, Fr.refl _ _⟩
    case round =>
      obtain ⟨i, hi, rfl, hall, hf⟩ := hrel
      by_cases hlt : i < ls.length
      · obtain ⟨b, o, xo, xc, rfl, c0, -⟩ := ((unhide H).kept hf).get 0 (by omega)
        obtain ⟨b', o', yo, yc, e, c1, -⟩ := ((unhide H).kept hf).get i hlt
        simp only [Option.some.injEq, Addr.mk.injEq] at e
        obtain ⟨rfl, rfl, -⟩ := e
        rw [Nat.add_zero] at c0
        have hhd : (ls.headD []).length = (ls[0]'(by omega)).length := by
          cases ls with
          | nil => simp at hlt
          | cons a t => rfl
        obtain ⟨l0, hl0⟩ : ∃ l0, l0 = (ls[0]'(by omega)).length := ⟨_, rfl⟩
        obtain ⟨li, hli⟩ : ∃ li, li = (ls[i]).length := ⟨_, rfl⟩
        rw [← hl0] at c0 hhd
        rw [← hli] at c1
        have HA := hide hall
        have HHD := hide hhd
        have HLI := hide hli
        have Hf := hide hf
        clear hall hhd hli hl0 hf
        by_cases he : li = l0
        · have bb : ((li : Int) != (l0 : Int)) = false := by simp; omega
          go_wp2_with fail
          go_quiet (fail)
          go_wp2_with fail
          go_roundw
          case rel =>
            refine ⟨i + 1, by omega, by go_num, fun j hj h => ?_, (unhide Hf).drewN _⟩
            by_cases e : j = i
            · subst e; rw [unhide HHD, ← unhide HLI]; exact he
            · exact unhide HA j hj (by omega)
          case measure => simp [intOf]; omega
        · have bb : ((li : Int) != (l0 : Int)) = true := by simp; omega
          go_wp2_with fail
          go_quiet (fail)
          go_wp2_with fail
          go_ret
          have e : (oneL ls (ls.length : Int)).2 = false := by
            unfold oneL
            rw [if_neg]
            intro h
            have := h.2 _ (List.getElem_mem hlt)
            rw [unhide HHD, ← unhide HLI] at this
            exact he this
          rw [e]
          exact ⟨rfl, (unhide Hf).drewN _⟩
      · have HA := hide hall
        have Hf := hide hf
        clear hall hf
        go_wp2_with fail
        go_ret
        have e : (oneL ls (ls.length : Int)).2 = true := by
          unfold oneL
          rw [if_pos]
          refine ⟨rfl, fun l hl => ?_⟩
          obtain ⟨j, hj, rfl⟩ := List.getElem_of_mem hl
          exact unhide HA j hj (by omega)
        rw [e]
        exact ⟨rfl, unhide Hf⟩
  · have e : (oneL ls count).2 = false := by unfold oneL; rw [if_neg (fun h => hc h.1)]
    rw [e]
    have bb : ((ls.length : Int) != count) = true := by simpa using hc
    clear h e hc
    go_enter Try.func95, Try.ntmps95
    go_wp2_with fail
    go_ret
    exact ⟨rfl, Fr.refl _ _⟩

/-- Mix under way: j whole shards, and t bytes of the next one. -/
def mixP (r : Nat → UInt8) (ls : List (List UInt8)) (j n t : Nat) : List UInt8 := (List.range n).map (fun s => if s < t then sg (j + 1) (fun c => mul (r c) (cel ls c s)) else sg j (fun c => mul (r c) (cel ls c s)))
theorem mixP_length (r : Nat → UInt8) (ls : List (List UInt8)) (j n t : Nat) : (mixP r ls j n t).length = n := by simp [mixP]
theorem mixP_zero (r : Nat → UInt8) (ls : List (List UInt8)) (j n : Nat) : mixP r ls j n 0 = mixL r ls j n := by simp [mixP, mixL]
theorem mixP_all (r : Nat → UInt8) (ls : List (List UInt8)) (j n : Nat) : mixP r ls j n n = mixL r ls (j + 1) n := by
  unfold mixP mixL
  refine List.map_congr_left (fun s hs => ?_)
  rw [if_pos (List.mem_range.1 hs)]
theorem mixP_get (r : Nat → UInt8) (ls : List (List UInt8)) (j n t s : Nat) (h : s < (mixP r ls j n t).length) : (mixP r ls j n t)[s] = if s < t then sg (j + 1) (fun c => mul (r c) (cel ls c s)) else sg j (fun c => mul (r c) (cel ls c s)) := by simp [mixP]
theorem mixP_step (r : Nat → UInt8) (ls : List (List UInt8)) (j n t : Nat) (ht : t < n) : (mixP r ls j n t).set t ((mixP r ls j n t)[t]'(by rw [mixP_length]; exact ht) ^^^ mul (r j) (cel ls j t)) = mixP r ls j n (t + 1) := by
  apply List.ext_getElem
  · simp [mixP_length]
  · intro s h1 h2
    simp only [List.getElem_set, mixP_get]
    by_cases e : t = s
    · subst e
      rw [if_pos rfl, if_neg (by omega), if_pos (by omega)]
      rfl
    · rw [if_neg e]
      by_cases hs : s < t
      · rw [if_pos hs, if_pos (by omega)]
      · rw [if_neg hs, if_neg (by omega)]

end Go.Proofs.Ytckmddkhkdcmmaa
