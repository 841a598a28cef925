/-
  The walks of package gf's tables: newField, mul, div, pow over them, and what is exported of elements.
-/
import Derived.Test.YtckmddkhkdcmmaaEl
import Derived.BigRegion
namespace Go.Proofs.Ytckmddkhkdcmmaa
open Go.RowKit
set_option linter.unusedVariables false

attribute [local go_sem ↓] Go.wp_at_zero Go.wp_at_succ

/-- The first k powers and their logarithms lie in these cells. -/
def Tab (k : Nat) (cs : Array Value) : Prop :=
  cs.size = 766 ∧ (∀ i, i < k → cs[i]? = some (.int .u8 (((E i).toNat : Nat) : Int))) ∧ (∀ i, i < k → cs[i + 255]? = some (.int .u8 (((E i).toNat : Nat) : Int))) ∧
    ∀ i, i < k → cs[510 + (E i).toNat]? = some (.int .u8 (i : Int))

theorem E_inj {i j : Nat} (hi : i < 255) (hj : j < 255) (h : E i = E j) : i = j := by
  have := L_E i
  rw [h, L_E, Nat.mod_eq_of_lt hi, Nat.mod_eq_of_lt hj] at this
  exact this.symm

theorem Tab.step {k : Nat} {cs : Array Value} (h : Tab k cs) (hk : k < 255) :
    Tab (k + 1) (((cs.setIfInBounds k (.int .u8 (((E k).toNat : Nat) : Int))).setIfInBounds (k + 255) (.int .u8 (((E k).toNat : Nat) : Int))).setIfInBounds (510 + (E k).toNat) (.int .u8 (k : Int))) := by
  obtain ⟨h0, h1, h2, h3⟩ := h
  have hE := (E k).toNat_lt
  refine ⟨by simp [h0], fun i hi => ?_, fun i hi => ?_, fun i hi => ?_⟩
  · rw [Array.getElem?_setIfInBounds_ne (by omega), Array.getElem?_setIfInBounds_ne (by omega)]
    by_cases e : i = k
    · subst e; rw [Array.getElem?_setIfInBounds_self_of_lt (by omega)]
    · rw [Array.getElem?_setIfInBounds_ne (by omega)]; exact h1 i (by omega)
  · rw [Array.getElem?_setIfInBounds_ne (by omega)]
    by_cases e : i = k
    · subst e; rw [Array.getElem?_setIfInBounds_self_of_lt (by simp [h0]; omega)]
    · rw [Array.getElem?_setIfInBounds_ne (by omega), Array.getElem?_setIfInBounds_ne (by omega)]; exact h2 i (by omega)
  · by_cases e : i = k
    · subst e; rw [Array.getElem?_setIfInBounds_self_of_lt (by simp [h0]; omega)]
    · have hn : (E k).toNat ≠ (E i).toNat := fun h => e (E_inj (by omega) (by omega) (UInt8.toNat_inj.1 h.symm))
      have hE2 := (E i).toNat_lt
      rw [Array.getElem?_setIfInBounds_ne (by omega), Array.getElem?_setIfInBounds_ne (by omega), Array.getElem?_setIfInBounds_ne (by omega)]
      exact h3 i (by omega)

theorem zero_size : Try.zeroCells139.size = 766 := by kernel_rfl

/-- A field lies at block p. -/
def FAt (w : World) (p : Nat) : Prop := ∃ cs, w.heap[p]? = some (.cells cs 139 (0, 0)) ∧ Tab 255 cs

theorem FAt.kept {S : Nat → Prop} {w w' : World} {p : Nat} (h : FAt w p) (f : Fr S w w') (hs : ¬ S p) : FAt w' p := by
  obtain ⟨cs, h1, h2⟩ := h
  exact ⟨cs, by rw [f.block p (lt_of_heap h1) hs]; exact h1, h2⟩

theorem FAt.exp {w : World} {p : Nat} (h : FAt w p) (n : Nat) (hn : n < 510) : w.cell? ⟨p, n, none⟩ = some (.int .u8 (((E n).toNat : Nat) : Int)) := by
  obtain ⟨cs, h1, h0, h2, h3, h4⟩ := h
  rw [cell_of_heap h1]
  by_cases e : n < 255
  · exact h2 n e
  · have := h3 (n - 255) (by omega)
    rw [Nat.sub_add_cancel (by omega), show E (n - 255) = E n by rw [← E_over, Nat.sub_add_cancel (by omega)]] at this
    exact this

theorem FAt.log {w : World} {p : Nat} (h : FAt w p) {b : UInt8} (hb : b ≠ 0) : w.cell? ⟨p, 510 + b.toNat, none⟩ = some (.int .u8 ((L b : Nat) : Int)) := by
  obtain ⟨cs, h1, h0, h2, h3, h4⟩ := h
  rw [cell_of_heap h1]
  have := h4 (L b) (L_lt hb)
  rwa [E_L hb] at this

set_option maxHeartbeats 1000000 in
set_option maxRecDepth 100000 in
theorem newField_any (w : World) : Calls Try.prog 65 #[] w fun e w' => e = .returned (.pointer (some ⟨w.heap.size, 0, none⟩)) ∧ FAt w' w.heap.size ∧ Fr (fun _ => False) w w' := by
  go_enter Try.func65, Try.ntmps65
  go_wp2_with fail
  go_loopw [2, 5] (fun x n w' => ∃ k : Nat, k ≤ 255 ∧ n = .int .i64 (k : Int) ∧ x = .int .u8 (((E k).toNat : Nat) : Int) ∧ (∃ cs, w'.heap[w.heap.size]? = some (.cells cs 139 (0, 0)) ∧ Tab k cs) ∧ Fr (fun _ => False) w w') (fun _ n _ => 255 - (intOf n).toNat)
  case atStart => exact ⟨0, by omega, rfl, rfl, ⟨_, heap_alloc_new w _, zero_size, fun i h => by omega, fun i h => by omega, fun i h => by omega⟩, (Fr.refl _ _).alloc _⟩
  case round =>
    obtain ⟨k, hk, rfl, rfl, ⟨cs, hp, ht⟩, hf⟩ := hrel
    by_cases hlt : k < 255
    · have hsz := ht.1
      have hlt' := lt_of_heap hp
      have hz := frozen_of_heap hp
      have hE := (E k).toNat_lt
      have hex : ∀ j, j < 766 → ∃ v, wr.cell? ⟨w.heap.size, j, none⟩ = some v := fun j hj => ⟨cs[j]'(by omega), by rw [cell_of_heap hp, Array.getElem?_eq_getElem (by omega)]⟩
      obtain ⟨v1, c1⟩ := hex k (by omega)
      obtain ⟨v2, c2⟩ := hex (k + 255) (by omega)
      obtain ⟨v3, c3⟩ := hex (510 + (E k).toNat) (by omega)
      clear hex
      have H1 := hide hp
      have H2 := hide ht
      have H3 := hide hf
      have H4 := hide hsz
      clear hp ht hf hsz
      generalize hB : w.heap.size = p at *
      have HB := hide hB
      clear hB
      have b1 : (0 : Int) ≤ (k : Int) := by omega
      have b2 : (k : Int) < 510 := by omega
      have b3 : (0 : Int) ≤ (k : Int) + 255 := by omega
      have b4 : (k : Int) + 255 < 510 := by omega
      go_wp2_with fail
      go_region
      have hcv : ((E k).toNat : Int) < 256 := by omega
      go_wp2_with (go_at_call 104; refine (double_any _ (E k)).mono ?_; rintro e w' ⟨rfl, rfl⟩)
      go_roundw
      case rel =>
        have f : Fr (fun _ => False) w (((wr.setCell ⟨p, k, none⟩ (.int .u8 (((E k).toNat : Nat) : Int))).setCell ⟨p, k + 255, none⟩ (.int .u8 (((E k).toNat : Nat) : Int))).setCell ⟨p, 510 + (E k).toNat, none⟩ (.int .u8 (k : Int))) := by
          have hb := unhide HB
          exact (((unhide H3).setCell (fun h => absurd h (by simp; omega)) _).setCell (fun h => absurd h (by simp; omega)) _).setCell (fun h => absurd h (by simp; omega)) _
        refine ⟨k + 1, by omega, by go_num, rfl, ⟨_, ?_, (unhide H2).step hlt⟩, f.drew⟩
        exact heap_setCell_same _ p _ _ 139 _ (heap_setCell_same _ p _ _ 139 _ (heap_setCell_same wr p _ _ 139 _ (unhide H1)))
      case measure => simp [intOf]; omega
    · have : k = 255 := by omega
      subst this
      go_wp2_with fail
      go_ret
      exact ⟨rfl, ⟨cs, hp, ht⟩, hf⟩

theorem fmul_any (w : World) (p : Nat) (a b : UInt8) (h : FAt w p) : Calls Try.prog 68 #[.pointer (some ⟨p, 0, none⟩), .int .u8 (a.toNat : Int), .int .u8 (b.toNat : Int)] w fun e w' => e = .returned (.int .u8 ((mul a b).toNat : Int)) ∧ ∃ n, w' = w.drewN n := by
  have ha' := a.toNat_lt
  have hb' := b.toNat_lt
  by_cases ha : a = 0
  · subst ha
    rw [zero_mul]
    clear h
    go_enter Try.func68, Try.ntmps68
    go_wp2
    go_ret
    exact ⟨rfl, 0, rfl⟩
  · have na : (((a.toNat : Nat) : Int) == 0) = false := by simpa using fun e => ha (natB.1 e)
    by_cases hb : b = 0
    · subst hb
      rw [mul_zero]
      clear h
      go_enter Try.func68, Try.ntmps68
      go_wp2
      go_ret
      exact ⟨rfl, 0, rfl⟩
    · have nb : (((b.toNat : Nat) : Int) == 0) = false := by simpa using fun e => hb (natB.1 e)
      have l1 := L_lt ha
      have l2 := L_lt hb
      have c1 := h.log ha
      have c2 := h.log hb
      have c3 := h.exp (L a + L b) (by omega)
      rw [mul_logs ha hb]
      have b1 : (0 : Int) ≤ (L a : Int) + (L b : Int) := by omega
      have b2 : (L a : Int) + (L b : Int) < 510 := by omega
      clear h
      generalize L a = la at *
      generalize L b = lb at *
      go_enter Try.func68, Try.ntmps68
      go_wp2_with fail
      go_quiet (fail)
      go_wp2_with fail
      go_ret
      exact ⟨rfl, _, rfl⟩

theorem fdiv_any (w : World) (p : Nat) (a b : UInt8) (hb : b ≠ 0) (h : FAt w p) : Calls Try.prog 107 #[.pointer (some ⟨p, 0, none⟩), .int .u8 (a.toNat : Int), .int .u8 (b.toNat : Int)] w fun e w' => e = .returned (.int .u8 ((div a b).toNat : Int)) ∧ ∃ n, w' = w.drewN n := by
  have ha' := a.toNat_lt
  have hb' := b.toNat_lt
  by_cases ha : a = 0
  · subst ha
    have e : div 0 b = 0 := rfl
    rw [e]
    clear h
    go_enter Try.func107, Try.ntmps107
    go_wp2
    go_ret
    exact ⟨rfl, 0, rfl⟩
  · have na : (((a.toNat : Nat) : Int) == 0) = false := by simpa using fun e => ha (natB.1 e)
    have l1 := L_lt ha
    have l2 := L_lt hb
    have c1 := h.log ha
    have c2 := h.log hb
    have c3 := h.exp (L a + 255 - L b) (by omega)
    have e : div a b = E (L a + 255 - L b) := by unfold div; rw [if_neg ha]
    rw [e]
    have b1 : (0 : Int) ≤ (L a : Int) + 255 - (L b : Int) := by omega
    have b2 : (L a : Int) + 255 - (L b : Int) < 510 := by omega
    have b3 : ((L a : Int) + 255 - (L b : Int)).toNat = L a + 255 - L b := by omega
    clear h
    generalize L a = la at *
    generalize L b = lb at *
    go_enter Try.func107, Try.ntmps107
    go_wp2_with fail
    go_quiet (fail)
    go_wp2_with fail
    go_ret
    exact ⟨rfl, _, rfl⟩
end Go.Proofs.Ytckmddkhkdcmmaa
