/-
  The walks of package gf's tables: newField, mul, div, pow over them, and what is exported of elements.
  The walks of package gf's powers, quotients and logarithms, and of the document's own.
  The walks of the document's own elements.
  The walks of package gf's matrices: sides, cells, filling.
-/
import Derived.Test.YtckmddkhkdcmmaaM01
import Derived.BigRegion
import Derived.WalkMore
import Derived.Deep.LoopGhost
namespace Go.Proofs.Ytckmddkhkdcmmaa
set_option linter.unusedVariables false
set_option linter.unusedSimpArgs false
open Go.RowKit
set_option linter.unusedVariables false

attribute [local go_sem ↓] Go.wp_at_zero Go.wp_at_succ

/-- The first k powers and their logarithms lie in these cells. -/
def Tab (k : Nat) (cs : Array Value) : Prop :=
  cs.size = 766 ∧ (∀ i, i < k → cs[i]? = some (.int .u8 (((E i).toNat : Nat) : Int))) ∧ (∀ i, i < k → cs[i + 255]? = some (.int .u8 (((E i).toNat : Nat) : Int))) ∧
    ∀ i, i < k → cs[510 + (E i).toNat]? = some (.int .u8 (i : Int))

theorem E_inj {i j : Nat} (hi : i < 255) (hj : j < 255) (h : E i = E j) : i = j := by
  have := L_E i
  rw [h, L_E, Nat.mod_eq_of_lt hi, Nat.mod_eq_of_lt hj] at this
  exact this.symm

theorem Tab.step {k : Nat} {cs : Array Value} (h : Tab k cs) (hk : k < 255) :
    Tab (k + 1) (((cs.setIfInBounds k (.int .u8 (((E k).toNat : Nat) : Int))).setIfInBounds (k + 255) (.int .u8 (((E k).toNat : Nat) : Int))).setIfInBounds (510 + (E k).toNat) (.int .u8 (k : Int))) := by
  obtain ⟨h0, h1, h2, h3⟩ := h
  have hE := (E k).toNat_lt
  refine ⟨by simp [h0], fun i hi => ?_, fun i hi => ?_, fun i hi => ?_⟩
  · rw [Array.getElem?_setIfInBounds_ne (by omega), Array.getElem?_setIfInBounds_ne (by omega)]
    by_cases e : i = k
    · subst e; rw [Array.getElem?_setIfInBounds_self_of_lt (by omega)]
    · rw [Array.getElem?_setIfInBounds_ne (by omega)]; exact h1 i (by omega)
  · rw [Array.getElem?_setIfInBounds_ne (by omega)]
    by_cases e : i = k
    · subst e; rw [Array.getElem?_setIfInBounds_self_of_lt (by simp [h0]; omega)]
    · rw [Array.getElem?_setIfInBounds_ne (by omega), Array.getElem?_setIfInBounds_ne (by omega)]; exact h2 i (by omega)
  · by_cases e : i = k
    · subst e; rw [Array.getElem?_setIfInBounds_self_of_lt (by simp [h0]; omega)]
    · have hn : (E k).toNat ≠ (E i).toNat := fun h => e (E_inj (by omega) (by omega) (UInt8.toNat_inj.1 h.symm))
      have hE2 := (E i).toNat_lt
      rw [Array.getElem?_setIfInBounds_ne (by omega), Array.getElem?_setIfInBounds_ne (by omega), Array.getElem?_setIfInBounds_ne (by omega)]
      exact h3 i (by omega)

theorem zero_size : Try.zeroCells139.size = 766 := by kernel_rfl

/-- A field lies at block p. -/
def FAt (w : World) (p : Nat) : Prop := ∃ cs, w.heap[p]? = some (.cells cs 139 (0, 0)) ∧ Tab 255 cs

theorem FAt.kept {S : Nat → Prop} {w w' : World} {p : Nat} (h : FAt w p) (f : Fr S w w') (hs : ¬ S p) : FAt w' p := by
  obtain ⟨cs, h1, h2⟩ := h
  exact ⟨cs, by rw [f.block p (lt_of_heap h1) hs]; exact h1, h2⟩

theorem FAt.exp {w : World} {p : Nat} (h : FAt w p) (n : Nat) (hn : n < 510) : w.cell? ⟨p, n, none⟩ = some (.int .u8 (((E n).toNat : Nat) : Int)) := by
  obtain ⟨cs, h1, h0, h2, h3, h4⟩ := h
  rw [cell_of_heap h1]
  by_cases e : n < 255
  · exact h2 n e
  · have := h3 (n - 255) (by omega)
    rw [Nat.sub_add_cancel (by omega), show E (n - 255) = E n by rw [← E_over, Nat.sub_add_cancel (by omega)]] at this
    exact this

theorem FAt.log {w : World} {p : Nat} (h : FAt w p) {b : UInt8} (hb : b ≠ 0) : w.cell? ⟨p, 510 + b.toNat, none⟩ = some (.int .u8 ((L b : Nat) : Int)) := by
  obtain ⟨cs, h1, h0, h2, h3, h4⟩ := h
  rw [cell_of_heap h1]
  have := h4 (L b) (L_lt hb)
  rwa [E_L hb] at this

set_option maxHeartbeats 1000000 in
set_option maxRecDepth 100000 in
theorem newField_any (w : World) : Calls Try.prog 65 #[] w fun e w' => e = .returned (.pointer (some ⟨w.heap.size, 0, none⟩)) ∧ FAt w' w.heap.size ∧ Fr (fun _ => False) w w' := by
  go_enter Try.func65, Try.ntmps65
  go_wp2_with fail
  go_loopw [2, 5] (fun x n w' => ∃ k : Nat, k ≤ 255 ∧ n = .int .i64 (k : Int) ∧ x = .int .u8 (((E k).toNat : Nat) : Int) ∧ (∃ cs, w'.heap[w.heap.size]? = some (.cells cs 139 (0, 0)) ∧ Tab k cs) ∧ Fr (fun _ => False) w w') (fun _ n _ => 255 - (intOf n).toNat)
  case atStart => exact ⟨0, by omega, rfl, rfl, ⟨_, heap_alloc_new w _, zero_size, fun i h => by omega, fun i h => by omega, fun i h => by omega⟩, (Fr.refl _ _).alloc _⟩
  case round =>
    obtain ⟨k, hk, rfl, rfl, ⟨cs, hp, ht⟩, hf⟩ := hrel
    by_cases hlt : k < 255
    · have hsz := ht.1
      have hlt' := lt_of_heap hp
      have hz := frozen_of_heap hp
      have hE := (E k).toNat_lt
      have hex : ∀ j, j < 766 → ∃ v, wr.cell? ⟨w.heap.size, j, none⟩ = some v := fun j hj => ⟨cs[j]'(by omega), by rw [cell_of_heap hp, Array.getElem?_eq_getElem (by omega)]⟩
      obtain ⟨v1, c1⟩ := hex k (by omega)
      obtain ⟨v2, c2⟩ := hex (k + 255) (by omega)
      obtain ⟨v3, c3⟩ := hex (510 + (E k).toNat) (by omega)
      clear hex
      have H1 := hide hp
      have H2 := hide ht
      have H3 := hide hf
      have H4 := hide hsz
      clear hp ht hf hsz
      generalize hB : w.heap.size = p at *
      have HB := hide hB
      clear hB
      have b1 : (0 : Int) ≤ (k : Int) := by omega
      have b2 : (k : Int) < 510 := by omega
      have b3 : (0 : Int) ≤ (k : Int) + 255 := by omega
      have b4 : (k : Int) + 255 < 510 := by omega
      go_wp2_with fail
      go_region
      have hcv : ((E k).toNat : Int) < 256 := by omega
      go_wp2_with (go_at_call 104; refine (double_any _ (E k)).mono ?_; rintro e w' ⟨rfl, rfl⟩)
      go_roundw
      case rel =>
        have f : Fr (fun _ => False) w (((wr.setCell ⟨p, k, none⟩ (.int .u8 (((E k).toNat : Nat) : Int))).setCell ⟨p, k + 255, none⟩ (.int .u8 (((E k).toNat : Nat) : Int))).setCell ⟨p, 510 + (E k).toNat, none⟩ (.int .u8 (k : Int))) := by
          have hb := unhide HB
          exact (((unhide H3).setCell (fun h => absurd h (by simp; omega)) _).setCell (fun h => absurd h (by simp; omega)) _).setCell (fun h => absurd h (by simp; omega)) _
        refine ⟨k + 1, by omega, by go_num, rfl, ⟨_, ?_, (unhide H2).step hlt⟩, f.drew⟩
        exact heap_setCell_same _ p _ _ 139 _ (heap_setCell_same _ p _ _ 139 _ (heap_setCell_same wr p _ _ 139 _ (unhide H1)))
      case measure => simp [intOf]; omega
    · have : k = 255 := by omega
      subst this
      go_wp2_with fail
      go_ret
      exact ⟨rfl, ⟨cs, hp, ht⟩, hf⟩

theorem fmul_any (w : World) (p : Nat) (a b : UInt8) (h : FAt w p) : Calls Try.prog 68 #[.pointer (some ⟨p, 0, none⟩), .int .u8 (a.toNat : Int), .int .u8 (b.toNat : Int)] w fun e w' => e = .returned (.int .u8 ((mul a b).toNat : Int)) ∧ ∃ n, w' = w.drewN n := by
  have ha' := a.toNat_lt
  have hb' := b.toNat_lt
  by_cases ha : a = 0
  · subst ha
    rw [zero_mul]
    clear h
    go_enter Try.func68, Try.ntmps68
    go_wp2
    go_ret
    exact ⟨rfl, 0, rfl⟩
  · have na : (((a.toNat : Nat) : Int) == 0) = false := by simpa using fun e => ha (natB.1 e)
    by_cases hb : b = 0
    · subst hb
      rw [mul_zero]
      clear h
      go_enter Try.func68, Try.ntmps68
      go_wp2
      go_ret
      exact ⟨rfl, 0, rfl⟩
    · have nb : (((b.toNat : Nat) : Int) == 0) = false := by simpa using fun e => hb (natB.1 e)
      have l1 := L_lt ha
      have l2 := L_lt hb
      have c1 := h.log ha
      have c2 := h.log hb
      have c3 := h.exp (L a + L b) (by omega)
      rw [mul_logs ha hb]
      have b1 : (0 : Int) ≤ (L a : Int) + (L b : Int) := by omega
      have b2 : (L a : Int) + (L b : Int) < 510 := by omega
      clear h
      generalize L a = la at *
      generalize L b = lb at *
      go_enter Try.func68, Try.ntmps68
      go_wp2_with fail
      go_quiet (fail)
      go_wp2_with fail
      go_ret
      exact ⟨rfl, _, rfl⟩

theorem fdiv_any (w : World) (p : Nat) (a b : UInt8) (hb : b ≠ 0) (h : FAt w p) : Calls Try.prog 107 #[.pointer (some ⟨p, 0, none⟩), .int .u8 (a.toNat : Int), .int .u8 (b.toNat : Int)] w fun e w' => e = .returned (.int .u8 ((div a b).toNat : Int)) ∧ ∃ n, w' = w.drewN n := by
  have ha' := a.toNat_lt
  have hb' := b.toNat_lt
  by_cases ha : a = 0
  · subst ha
    have e : div 0 b = 0 := rfl
    rw [e]
    clear h
    go_enter Try.func107, Try.ntmps107
    go_wp2
    go_ret
    exact ⟨rfl, 0, rfl⟩
  · have na : (((a.toNat : Nat) : Int) == 0) = false := by simpa using fun e => ha (natB.1 e)
    have l1 := L_lt ha
    have l2 := L_lt hb
    have c1 := h.log ha
    have c2 := h.log hb
    have c3 := h.exp (L a + 255 - L b) (by omega)
    have e : div a b = E (L a + 255 - L b) := by unfold div; rw [if_neg ha]
    rw [e]
    have b1 : (0 : Int) ≤ (L a : Int) + 255 - (L b : Int) := by omega
    have b2 : (L a : Int) + 255 - (L b : Int) < 510 := by omega
    have b3 : ((L a : Int) + 255 - (L b : Int)).toNat = L a + 255 - L b := by omega
    clear h
    generalize L a = la at *
    generalize L b = lb at *
    go_enter Try.func107, Try.ntmps107
    go_wp2_with fail
    go_quiet (fail)
    go_wp2_with fail
    go_ret
    exact ⟨rfl, _, rfl⟩
end Go.Proofs.Ytckmddkhkdcmmaa

namespace Go.Proofs.Ytckmddkhkdcmmaa
set_option linter.unusedVariables false
set_option linter.unusedSimpArgs false
open Go.RowKit
set_option linter.unusedVariables false

attribute [local go_sem ↓] Go.wp_at_zero Go.wp_at_succ

theorem tmod_facts (n : Int) : -255 < n.tmod 255 ∧ n.tmod 255 < 255 ∧ (0 ≤ n.tmod 255 → n % 255 = n.tmod 255) ∧ (n.tmod 255 < 0 → n % 255 = n.tmod 255 + 255) := by
  have h := Int.tmod_eq_emod (a := n) (b := 255)
  split at h <;> omega

theorem Fr.drewN {S : Nat → Prop} {a w : World} (h : Fr S a w) (n : Nat) : Fr S a (w.drewN n) := by
  induction n generalizing w with
  | zero => exact h
  | succ n ih => exact (ih h).drew

theorem Fr.ofDrewN {S : Nat → Prop} (w : World) (n : Nat) : Fr S w (w.drewN n) := (Fr.refl S w).drewN n

set_option maxHeartbeats 400000 in
theorem fpow_any (w : World) (p : Nat) (a : UInt8) (n : Int) (hn : -9223372036854775808 ≤ n ∧ n ≤ 9223372036854775807) (h : FAt w p) : Calls Try.prog 87 #[.pointer (some ⟨p, 0, none⟩), .int .u8 (a.toNat : Int), .int .i64 n] w fun e w' => e = .returned (.int .u8 ((pw a n).toNat : Int)) ∧ ∃ k, w' = w.drewN k := by
  have ha' := a.toNat_lt
  by_cases h0 : n = 0
  · subst h0
    have e : pw a 0 = 1 := rfl
    rw [e]
    clear h
    go_enter Try.func87, Try.ntmps87
    go_wp2
    go_ret
    exact ⟨rfl, 0, rfl⟩
  · have n0 : (n == 0) = false := by simpa using h0
    by_cases ha : a = 0
    · subst ha
      have e : pw 0 n = 0 := by unfold pw; rw [if_neg h0, if_pos rfl]
      rw [e]
      clear h
      go_enter Try.func87, Try.ntmps87
      go_wp2
      go_ret
      exact ⟨rfl, 0, rfl⟩
    · have na : (((a.toNat : Nat) : Int) == 0) = false := by simpa using fun e => ha (natB.1 e)
      have l1 := L_lt ha
      have c1 := h.log ha
      obtain ⟨t1, t2, t3, t4⟩ := tmod_facts n
      have m1 : 0 ≤ n % 255 := by omega
      have m2 : n % 255 < 255 := by omega
      have hm : L a * (n % 255).toNat ≤ 254 * 254 := Nat.mul_le_mul (by omega) (by omega)
      have c3 := h.exp (L a * (n % 255).toNat % 255) (by omega)
      rw [E_mod] at c3
      rw [pw_ne ha]
      have b0 : ((L a * (n % 255).toNat % 255 : Nat) : Int) = (L a : Int) * (n % 255) % 255 := by
        rw [Int.natCast_emod, Int.natCast_mul, Int.toNat_of_nonneg m1]; rfl
      have b1 : 0 ≤ (L a : Int) * (n % 255) := by rw [← Int.toNat_of_nonneg m1, ← Int.natCast_mul]; omega
      have b2 : (L a : Int) * (n % 255) ≤ 64516 := by rw [← Int.toNat_of_nonneg m1, ← Int.natCast_mul]; omega
      have b3 : ((L a : Int) * (n % 255) % 255).toNat = L a * (n % 255).toNat % 255 := by omega
      clear h hm b0
      generalize E (L a * (n % 255).toNat) = res at *
      generalize L a * (n % 255).toNat % 255 = idx at *
      generalize hr : n % 255 = r at *
      generalize L a = la at *
      have HR := hide hr
      clear hr
      by_cases ht : n.tmod 255 < 0
      · have t5 : n.tmod 255 + 255 = r := (t4 ht).symm
        clear t3 t4
        go_enter Try.func87, Try.ntmps87
        go_wp2_with fail
        go_quiet (fail)
        go_wp2_with fail
        go_ret
        exact ⟨rfl, _, rfl⟩
      · have t5 : n.tmod 255 = r := (t3 (by omega)).symm
        clear t3 t4 t1 t2 ht
        go_enter Try.func87, Try.ntmps87
        go_wp2_with fail
        go_quiet (fail)
        go_wp2_with fail
        go_ret
        exact ⟨rfl, _, rfl⟩

theorem div_ok (w : World) (a b : UInt8) (hb : b ≠ 0) : Calls Try.prog 103 #[.int .u8 (a.toNat : Int), .int .u8 (b.toNat : Int)] w fun e w' => e = .returned (.tuple #[.int .u8 ((div a b).toNat : Int), .int .i64 0]) ∧ Fr (fun _ => False) w w' := by
  have nb : (((b.toNat : Nat) : Int) == 0) = false := by simpa using fun e => hb (natB.1 e)
  go_enter Try.func103, Try.ntmps103
  go_wp2_with fail
  refine (newField_any w).mono ?_
  rintro e w1 ⟨rfl, h1, f1⟩
  go_wp2_with fail
  refine (fdiv_any w1 _ a b hb h1).mono ?_
  rintro e w2 ⟨rfl, n, rfl⟩
  go_wp2_with fail
  go_ret2
  exact ⟨rfl, f1.drewN n⟩

theorem div_no (w : World) (a : UInt8) : Calls Try.prog 103 #[.int .u8 (a.toNat : Int), .int .u8 0] w fun e w' => e = .returned (.tuple #[.int .u8 0, .int .i64 20]) ∧ w = w' := by
  go_enter Try.func103, Try.ntmps103
  go_wp2
  go_ret2
  exact ⟨rfl, rfl⟩

/-- What a quotient and its error are. -/
def dv (a b : UInt8) : UInt8 × Int := if b = 0 then (0, 20) else (div a b, 0)

theorem div_any (w : World) (a b : UInt8) : Calls Try.prog 103 #[.int .u8 (a.toNat : Int), .int .u8 (b.toNat : Int)] w fun e w' => e = .returned (.tuple #[.int .u8 ((dv a b).1.toNat : Int), .int .i64 (dv a b).2]) ∧ Fr (fun _ => False) w w' := by
  unfold dv
  by_cases hb : b = 0
  · subst hb
    rw [if_pos rfl]
    refine (div_no w a).mono ?_
    rintro e w' ⟨rfl, rfl⟩
    exact ⟨rfl, Fr.refl _ _⟩
  · rw [if_neg hb]
    exact div_ok w a b hb

theorem inv_any (w : World) (a : UInt8) : Calls Try.prog 62 #[.int .u8 (a.toNat : Int)] w fun e w' => e = .returned (.tuple #[.int .u8 ((dv 1 a).1.toNat : Int), .int .i64 (dv 1 a).2]) ∧ Fr (fun _ => False) w w' := by
  go_enter Try.func62, Try.ntmps62
  go_wp2_with (go_at_call 103; refine (div_any w 1 a).mono ?_; rintro e w' ⟨rfl, f⟩)
  go_ret2
  exact ⟨rfl, f⟩

theorem pow_any (w : World) (a : UInt8) (n : Int) (hn : -9223372036854775808 ≤ n ∧ n ≤ 9223372036854775807) : Calls Try.prog 64 #[.int .u8 (a.toNat : Int), .int .i64 n] w fun e w' => e = .returned (.int .u8 ((pw a n).toNat : Int)) ∧ Fr (fun _ => False) w w' := by
  go_enter Try.func64, Try.ntmps64
  go_wp2_with fail
  refine (newField_any w).mono ?_
  rintro e w1 ⟨rfl, h1, f1⟩
  go_wp2_with fail
  refine (fpow_any w1 _ a n hn h1).mono ?_
  rintro e w2 ⟨rfl, n, rfl⟩
  go_wp2_with fail
  go_ret
  exact ⟨rfl, f1.drewN n⟩

/-- What a logarithm and its error are. -/
def lg (a : UInt8) : Int × Int := if a = 0 then (0, 20) else ((L a : Int), 0)

end Go.Proofs.Ytckmddkhkdcmmaa

namespace Go.Proofs.Ytckmddkhkdcmmaa
set_option linter.unusedVariables false
set_option linter.unusedSimpArgs false
open Go.RowKit
set_option linter.unusedVariables false

attribute [local go_sem ↓] Go.wp_at_zero Go.wp_at_succ

def shn : Nat → UInt8 → UInt8
  | 0, b => b
  | k + 1, b => shn k b >>> 1

theorem xorN (a b : Nat) (ha : a < 512) (hb : b < 512) : bits BinOp.xor IntKind.i64 (a : Int) (b : Int) = ((a ^^^ b : Nat) : Int) := by
  show IntKind.i64.wrap ((BitVec.ofInt 64 (a : Int) ^^^ BitVec.ofInt 64 (b : Int)).toNat : Int) = _
  rw [BitVec.ofInt_natCast, BitVec.ofInt_natCast, BitVec.toNat_xor, BitVec.toNat_ofNat, BitVec.toNat_ofNat, Nat.mod_eq_of_lt (by omega), Nat.mod_eq_of_lt (by omega)]
  have := Nat.xor_lt_two_pow (n := 9) (x := a) (y := b) (by omega) (by omega)
  generalize a ^^^ b = c at *
  simp only [IntKind.wrap, IntKind.bits, IntKind.signed]
  simp
  omega

theorem bitK (b : UInt8) (k : Nat) (hk : k < 8) : (bits BinOp.and IntKind.u8 ((b.toNat : Nat) : Int) ((2 : Int) ^ k % 256) != 0) = decide (shn k b &&& 1 = 1) :=
  all256 (P := fun b => ∀ k, k < 8 → (bits BinOp.and IntKind.u8 ((b.toNat : Nat) : Int) ((2 : Int) ^ k % 256) != 0) = decide (shn k b &&& 1 = 1)) (by decide +kernel) b k hk

theorem xt_up (X : UInt8) : (255 : Int) < 2 * ((X.toNat : Nat) : Int) → bits BinOp.xor IntKind.i64 (2 * ((X.toNat : Nat) : Int)) 285 = (((xt X).toNat : Nat) : Int) :=
  all256 (P := fun X => (255 : Int) < 2 * ((X.toNat : Nat) : Int) → bits BinOp.xor IntKind.i64 (2 * ((X.toNat : Nat) : Int)) 285 = (((xt X).toNat : Nat) : Int)) (by decide +kernel) X
theorem xt_lo (X : UInt8) : 2 * ((X.toNat : Nat) : Int) ≤ 255 → 2 * ((X.toNat : Nat) : Int) = (((xt X).toNat : Nat) : Int) :=
  all256 (P := fun X => 2 * ((X.toNat : Nat) : Int) ≤ 255 → 2 * ((X.toNat : Nat) : Int) = (((xt X).toNat : Nat) : Int)) (by decide +kernel) X

theorem xorB (S X : UInt8) : bits BinOp.xor IntKind.i64 ((S.toNat : Nat) : Int) ((X.toNat : Nat) : Int) = (((S ^^^ X).toNat : Nat) : Int) := by
  have h1 := S.toNat_lt
  have h2 := X.toNat_lt
  rw [xorN _ _ (by omega) (by omega), UInt8.toNat_xor]

theorem rmul_fin {m : UInt8} {k : Nat} (hk : k < 8) {b S X : UInt8} (hm : m = S ^^^ gm (8 - k) X (shn k b)) : m = (if shn k b &&& 1 = 1 then S ^^^ X else S) ^^^ gm (8 - (k + 1)) (xt X) (shn (k + 1) b) := by
  rw [hm, show 8 - k = (8 - (k + 1)) + 1 by omega, gm_step]
  rfl

theorem wrap_b (a : UInt8) : wrap64 ((a.toNat : Nat) : Int) = ((a.toNat : Nat) : Int) := all256 (P := fun a => wrap64 ((a.toNat : Nat) : Int) = ((a.toNat : Nat) : Int)) (by decide +kernel) a

theorem rmul_any (w : World) (a b : UInt8) : Calls Try.prog 72 #[.int .u8 (a.toNat : Int), .int .u8 (b.toNat : Int)] w fun e w' => e = .returned (.int .u8 ((mul a b).toNat : Int)) ∧ w = w' := by
  go_enter Try.func72, Try.ntmps72
  go_wp2_with fail
  go_loopw [5, 6, 7] (fun s x i w' => ∃ (S X : UInt8) (k : Nat), k ≤ 8 ∧ i = .int .i64 (k : Int) ∧ s = .int .i64 ((S.toNat : Nat) : Int) ∧ x = .int .i64 ((X.toNat : Nat) : Int) ∧ mul a b = S ^^^ gm (8 - k) X (shn k b) ∧ w = w') (fun _ _ i _ => 8 - (intOf i).toNat)
  case atStart => exact ⟨0, a, 0, by omega, rfl, rfl, by rw [wrap_b], by rw [UInt8.zero_xor]; rfl, rfl⟩
  case round =>
    obtain ⟨S, X, k, hk, rfl, rfl, rfl, hm, rfl⟩ := hrel
    by_cases hlt : k < 8
    · have hX := X.toNat_lt
      have H := hide hm
      clear hm
      go_wp2_with fail
      all_goals
        rename_i h2 h1 h0
        rw [bitK b k hlt] at h1
        have hfin := rmul_fin hlt (unhide H)
        refine ⟨?_, by simp [intOf]; omega⟩
      · rw [if_pos (by simpa using h1)] at hfin
        exact ⟨_, xt X, k + 1, by omega, by go_num, by rw [xorB], by rw [xt_up X h0], hfin, trivial⟩
      · rw [if_pos (by simpa using h1)] at hfin
        exact ⟨_, xt X, k + 1, by omega, by go_num, by rw [xorB], by rw [xt_lo X h0], hfin, trivial⟩
      · rw [if_neg (by simpa using h1)] at hfin
        exact ⟨_, xt X, k + 1, by omega, by go_num, rfl, by rw [xt_up X h0], hfin, trivial⟩
      · rw [if_neg (by simpa using h1)] at hfin
        exact ⟨_, xt X, k + 1, by omega, by go_num, rfl, by rw [xt_lo X h0], hfin, trivial⟩
    · have hk8 : k = 8 := by omega
      subst hk8
      have hS := S.toNat_lt
      go_wp2_with fail
      go_ret
      have e : mul a b = S := by rw [hm]; show S ^^^ gm 0 X _ = S; simp [gm]
      exact ⟨by rw [e]; rfl, rfl⟩

theorem rpower_any (w : World) (a : UInt8) (n : Nat) (hn : n ≤ 255) : Calls Try.prog 112 #[.int .u8 (a.toNat : Int), .int .i64 (n : Int)] w fun e w' => e = .returned (.int .u8 ((gpow a n).toNat : Int)) ∧ w = w' := by
  go_enter Try.func112, Try.ntmps112
  go_wp2_with fail
  go_loopw [5, 6] (fun s i w' => ∃ (k : Nat), k ≤ n ∧ i = .int .i64 (k : Int) ∧ s = .int .u8 (((gpow a k).toNat : Nat) : Int) ∧ w = w') (fun _ i _ => n - (intOf i).toNat)
  case atStart => exact ⟨0, by omega, rfl, rfl, rfl⟩
  case round =>
    obtain ⟨k, hk, rfl, rfl, rfl⟩ := hrel
    by_cases hlt : k < n
    · go_wp2_with (go_at_call 72; refine (rmul_any _ _ _).mono ?_; rintro e w' ⟨rfl, rfl⟩)
      go_roundw
      case rel => exact ⟨k + 1, by omega, by go_num, rfl, trivial⟩
      case measure => simp [intOf]; omega
    · have : k = n := by omega
      subst this
      go_wp2_with fail
      go_ret
      exact ⟨rfl, rfl⟩

theorem dv_one {a : UInt8} (ha : a ≠ 0) : dv 1 a = (gpow a 254, 0) := by unfold dv; rw [if_neg ha, gpow_254 ha]

theorem rinv_any (w : World) (a : UInt8) : Calls Try.prog 92 #[.int .u8 (a.toNat : Int)] w fun e w' => e = .returned (.tuple #[.int .u8 ((dv 1 a).1.toNat : Int), .int .i64 (dv 1 a).2]) ∧ w = w' := by
  by_cases ha : a = 0
  · subst ha
    go_enter Try.func92, Try.ntmps92
    go_wp2
    go_ret2
    exact ⟨rfl, rfl⟩
  · have na : (((a.toNat : Nat) : Int) == 0) = false := by simpa using fun e => ha (natB.1 e)
    rw [dv_one ha]
    go_enter Try.func92, Try.ntmps92
    go_wp2_with (go_at_call 112; refine (rpower_any w a 254 (by omega)).mono ?_; rintro e w' ⟨rfl, rfl⟩)
    go_ret2
    exact ⟨rfl, rfl⟩

theorem dv_mul (a b : UInt8) : dv a b = (mul a (dv 1 b).1, (dv 1 b).2) := by
  unfold dv
  by_cases hb : b = 0
  · rw [if_pos hb, if_pos hb, mul_zero]
  · rw [if_neg hb, if_neg hb, div_as_mul hb]

theorem xt_mul (a : UInt8) : mul a 2 = xt a := by
  have : (2 : UInt8) = E 1 := rfl
  rw [this, mul_E]; rfl

end Go.Proofs.Ytckmddkhkdcmmaa

namespace Go.Proofs.Ytckmddkhkdcmmaa
set_option linter.unusedVariables false
set_option linter.unusedSimpArgs false
open Go.RowKit
set_option linter.unusedVariables false

attribute [local go_sem ↓] Go.wp_at_zero Go.wp_at_succ

/-- Is a number a side? -/
def sideB (n : Int) : Bool := decide (1 ≤ n ∧ n ≤ 64)

theorem isSide_any (w : World) (n : Int) : Calls Try.prog 79 #[.int .i64 n] w fun e w' => e = .returned (.bool (sideB n)) ∧ w = w' := by
  by_cases h1 : 1 ≤ n
  · by_cases h2 : n ≤ 64
    · have e : sideB n = true := by unfold sideB; simp [h1, h2]
      rw [e]
      go_enter Try.func79, Try.ntmps79
      go_wp2
      go_ret
      exact ⟨rfl, rfl⟩
    · have e : sideB n = false := by unfold sideB; simp [h1, h2]
      rw [e]
      have h2' : decide (n ≤ 64) = false := by simpa using h2
      go_enter Try.func79, Try.ntmps79
      go_wp2
      go_ret
      exact ⟨rfl, rfl⟩
  · have e : sideB n = false := by unfold sideB; simp [h1]
    rw [e]
    have h2' : decide (1 ≤ n) = false := by simpa using h1
    go_enter Try.func79, Try.ntmps79
    go_wp2
    go_ret
    exact ⟨rfl, rfl⟩

/-- What Check tells. -/
def chk (r c : Int) (l : Nat) : Int := if sideB r = true ∧ sideB c = true then (if (l : Int) = r * c then 0 else 23) else 2

theorem side_le {n : Int} (h : sideB n = true) : 1 ≤ n ∧ n ≤ 64 := by simpa [sideB] using h

set_option maxHeartbeats 400000 in
theorem check_any (w : World) (r c : Int) (ao : Option Addr) (l cap : Nat) : Calls Try.prog 23 #[.agg #[.int .i64 r, .int .i64 c, .slice ao l cap]] w fun e w' => e = .returned (.int .i64 (chk r c l)) ∧ Fr (fun _ => False) w w' := by
  by_cases h1 : sideB r = true
  · by_cases h2 : sideB c = true
    · have r1 := side_le h1
      have r2 := side_le h2
      have hp : 1 ≤ r * c := by have := Int.mul_le_mul r1.1 r2.1 (by omega) (by omega); omega
      have hq : r * c ≤ 4096 := by have := Int.mul_le_mul r1.2 r2.2 (by omega) (by omega); omega
      by_cases h3 : (l : Int) = r * c
      · have e : chk r c l = 0 := by unfold chk; rw [if_pos ⟨h1, h2⟩, if_pos h3]
        rw [e]
        have hb : ((l : Int) != r * c) = false := by simpa using h3
        have H3 := hide h3
        clear h3 e
        go_enter Try.func23, Try.ntmps23
        go_wp2_with (go_at_call 79; refine (isSide_any _ _).mono ?_; rintro e w' ⟨rfl, rfl⟩)
        go_ret
        exact ⟨rfl, (Fr.refl _ _).alloc _⟩
      · have e : chk r c l = 23 := by unfold chk; rw [if_pos ⟨h1, h2⟩, if_neg h3]
        rw [e]
        have hb : ((l : Int) != r * c) = true := by simpa using h3
        clear h3 e
        go_enter Try.func23, Try.ntmps23
        go_wp2_with (go_at_call 79; refine (isSide_any _ _).mono ?_; rintro e w' ⟨rfl, rfl⟩)
        go_ret
        exact ⟨rfl, (Fr.refl _ _).alloc _⟩
    · have e : chk r c l = 2 := by unfold chk; rw [if_neg (fun h => h2 h.2)]
      rw [e]
      have h2' : sideB c = false := by simpa using h2
      clear h2 e
      go_enter Try.func23, Try.ntmps23
      go_wp2_with (go_at_call 79; refine (isSide_any _ _).mono ?_; rintro e w' ⟨rfl, rfl⟩)
      go_ret
      exact ⟨rfl, (Fr.refl _ _).alloc _⟩
  · have e : chk r c l = 2 := by unfold chk; rw [if_neg (fun h => h1 h.1)]
    rw [e]
    have h1' : sideB r = false := by simpa using h1
    clear h1 e
    go_enter Try.func23, Try.ntmps23
    go_wp2_with (go_at_call 79; refine (isSide_any _ _).mono ?_; rintro e w' ⟨rfl, rfl⟩)
    go_ret
    exact ⟨rfl, (Fr.refl _ _).alloc _⟩

theorem at_any (w : World) (R : Int) (r c cols : Nat) (v : Value) (l : List UInt8) (hv : Rd w v l) (hr : r ≤ 64) (hc : c ≤ 64) (hcols : cols ≤ 64) (hi : r * cols + c < l.length) :
    Calls Try.prog 69 #[.agg #[.int .i64 R, .int .i64 (cols : Int), v], .int .i64 (r : Int), .int .i64 (c : Int)] w fun e w' => e = .returned (.int .u8 (((l[r * cols + c]).toNat : Nat) : Int)) ∧ Fr (fun _ => False) w w' := by
  have hv2 := hv.kept ((Fr.refl (fun _ => False) w).alloc (Obj.cells #[.int .i64 R, .int .i64 (cols : Int), v] 24)) (fun _ _ h => h)
  obtain ⟨ao, cap, rfl⟩ := hv.shape
  obtain ⟨b, o, rfl, -, hcap, hcm, hcell⟩ := hv2.lits (by omega)
  have hk := hcell (r * cols + c) hi
  have e1 : ((r : Int) * (cols : Int) + (c : Int)) = ((r * cols + c : Nat) : Int) := by simp
  have p1 : r * cols ≤ 64 * 64 := Nat.mul_le_mul hr hcols
  have q1 : (0 : Int) ≤ (r : Int) * (cols : Int) := by rw [← Int.natCast_mul]; omega
  have q2 : (r : Int) * (cols : Int) ≤ 4096 := by rw [← Int.natCast_mul]; omega
  unfold maxLen at hcm
  have b1 : (0 : Int) ≤ (r : Int) * (cols : Int) + (c : Int) := by omega
  have b2 : (r : Int) * (cols : Int) + (c : Int) < (l.length : Int) := by rw [e1]; omega
  have b3 : ((r : Int) * (cols : Int) + (c : Int)).toNat = r * cols + c := by rw [e1]; rfl
  clear hcell hv2 hv e1
  go_enter Try.func69, Try.ntmps69
  go_wp2
  go_ret
  exact ⟨rfl, (Fr.refl _ _).alloc _⟩

/-- Bytes lie at block p, from its first cell on. -/
def BAt (w : World) (p : Nat) (l : List UInt8) : Prop := w.heap[p]? = some (.cells (bvs l).toArray 5 (0, 0))

theorem BAt.kept {S : Nat → Prop} {w w' : World} {p : Nat} {l : List UInt8} (h : BAt w p l) (f : Fr S w w') (hs : ¬ S p) : BAt w' p l := by
  unfold BAt at *
  rw [f.block p (lt_of_heap h) hs]; exact h

theorem BAt.cell {w : World} {p : Nat} {l : List UInt8} (h : BAt w p l) (j : Nat) (hj : j < l.length) : w.cell? ⟨p, j, none⟩ = some (.int .u8 (((l[j]).toNat : Nat) : Int)) := by
  rw [cell_of_heap h]
  simpa using bvs_get l j hj

theorem BAt.frozen {w : World} {p : Nat} {l : List UInt8} (h : BAt w p l) (j : Nat) : w.frozen? ⟨p, j, none⟩ = false := frozen_of_heap h j

theorem bvs_set (l : List UInt8) (i : Nat) (b : UInt8) : (bvs l).toArray.setIfInBounds i (.int .u8 ((b.toNat : Nat) : Int)) = (bvs (l.set i b)).toArray := by
  rw [List.setIfInBounds_toArray]
  simp [bvs, List.map_set]

theorem BAt.set {w : World} {p : Nat} {l : List UInt8} (h : BAt w p l) (i : Nat) (b : UInt8) : BAt (w.setCell ⟨p, i, none⟩ (.int .u8 ((b.toNat : Nat) : Int))) p (l.set i b) := by
  unfold BAt at *
  rw [← bvs_set]
  exact heap_setCell_same w p i _ 5 _ h

theorem BAt.rd {w : World} {p : Nat} {l : List UInt8} (h : BAt w p l) (hl : l.length ≤ maxLen) : Rd w (.slice (some ⟨p, 0, none⟩) l.length l.length) l :=
  Rd.lit rfl (Nat.le_refl _) hl fun j hj => by rw [Nat.zero_add]; exact h.cell j hj

theorem made_bytes (n : Nat) : madeCells (Value.int .u8 0).cells (n * 1) = (bvs (List.replicate n 0)).toArray := by
  apply Array.ext
  · simp [bvs, size_madeCells]
  · intro i h1 h2
    simp [bvs, madeCells, Value.cells, Nat.mod_one]

theorem Try.info5 : (Try.prog.info? 5).map (fun i => (i.zero, i.size, i.bytes)) = some (some (.int .u8 0), 1, 1) := by kernel_rfl

theorem run_make5 (n : Nat) (hn : n ≤ 140737488355328) (w : World) : (Instr.makeSlice 22 (.int .i64 (n : Int)) (.int .i64 (n : Int))).run Try.prog w = .ok (.slice (some ⟨w.heap.size, 0, none⟩) n n) (w.alloc (.cells (bvs (List.replicate n 0)).toArray 5)) := by
  obtain ⟨i, hi, hz0, hz1, hz2⟩ := info_parts Try.info5
  have := run_make (P := Try.prog) w 22 5 i _ Try.underlying22 hi hz0 .i64 .i64 (n : Int) (n : Int) (by omega) (Int.le_refl _) (by rw [hz2]; omega) (by omega)
  rw [this, hz1, Int.toNat_natCast, made_bytes]

/-- The first k cells of a matrix, row by row. -/
def fl (cols : Nat) (cell : Nat → Nat → UInt8) (k : Nat) : List UInt8 := (List.range k).map fun j => cell (j / cols) (j % cols)

theorem fl_length (cols : Nat) (cell : Nat → Nat → UInt8) (k : Nat) : (fl cols cell k).length = k := by simp [fl]
theorem fl_get (cols : Nat) (cell : Nat → Nat → UInt8) (k j : Nat) (h : j < (fl cols cell k).length) : (fl cols cell k)[j] = cell (j / cols) (j % cols) := by simp [fl]

theorem fl_step (cols : Nat) (cell : Nat → Nat → UInt8) (n k : Nat) (h : k < n) : (fl cols cell k ++ List.replicate (n - k) 0).set k (cell (k / cols) (k % cols)) = fl cols cell (k + 1) ++ List.replicate (n - (k + 1)) 0 := by
  rw [List.set_append_right _ _ (by rw [fl_length]; omega), fl_length, Nat.sub_self, show n - k = (n - (k + 1)) + 1 by omega, List.replicate_succ, List.set_cons_zero]
  simp [fl, List.range_succ]

/-- The state of filling: k cells are laid. -/
def FB (w w' : World) (n cols : Nat) (cell : Nat → Nat → UInt8) (k : Nat) : Prop :=
  BAt w' (w.heap.size + 1) (fl cols cell k ++ List.replicate (n - k) 0) ∧ w'.heap[w.heap.size]? = some (.cells #[.int .i64 0, .int .i64 0, .slice none 0 0] 24 (0, 0)) ∧ Fr (fun _ => False) w w'

theorem FB.kept {w w' w2 : World} {n cols k : Nat} {cell : Nat → Nat → UInt8} (h : FB w w' n cols cell k) (f : Fr (fun _ => False) w' w2) : FB w w2 n cols cell k :=
  ⟨h.1.kept f id, by rw [f.block _ (lt_of_heap h.2.1) id]; exact h.2.1, h.2.2.trans f (fun _ _ h => h)⟩

theorem FB.put {w w' : World} {n cols k : Nat} {cell : Nat → Nat → UInt8} (h : FB w w' n cols cell k) (hk : k < n) : FB w (w'.setCell ⟨w.heap.size + 1, k, none⟩ (.int .u8 (((cell (k / cols) (k % cols)).toNat : Nat) : Int))) n cols cell (k + 1) := by
  refine ⟨?_, ?_, h.2.2.setCell (fun e => by simp at e; omega) _⟩
  · rw [← fl_step _ _ _ _ hk]; exact h.1.set k _
  · rw [Below.heap_setCell _ _ _ _ (by simp)]; exact h.2.1

theorem fr_three (w : World) (p : Nat) (a b c : Value) : Fr (fun k => k = p) w (((w.setCell ⟨p, 0, none⟩ a).setCell ⟨p, 1, none⟩ b).setCell ⟨p, 2, none⟩ c) :=
  (((Fr.refl (fun k => k = p) w).setCell (p := ⟨p, 0, none⟩) (fun _ => rfl) a).setCell (p := ⟨p, 1, none⟩) (fun _ => rfl) b).setCell (p := ⟨p, 2, none⟩) (fun _ => rfl) c

theorem mul_step {r c rows cols : Nat} (hr : r < rows) (hc : c < cols) : r * cols + c < rows * cols := by
  have : (r + 1) * cols ≤ rows * cols := Nat.mul_le_mul_right _ hr
  rw [Nat.succ_mul] at this
  omega

set_option maxHeartbeats 1000000 in
set_option maxRecDepth 100000 in
theorem filled_any (w : World) (rows cols : Nat) (K : Nat) (caps : Array Value) (cell : Nat → Nat → UInt8) (h1 : 1 ≤ rows ∧ rows ≤ 64) (h2 : 1 ≤ cols ∧ cols ≤ 64)
    (hcf : ∀ args W, Sem.run Try.prog (callFunc K args) W = .ok (.enter K args) W)
    (hcl : ∀ W, Fr (fun _ => False) w W → ∀ r c : Nat, r < rows → c < cols → Calls Try.prog K (#[.int .i64 (r : Int), .int .i64 (c : Int)] ++ caps) W fun e W' => e = .returned (.int .u8 (((cell r c).toNat : Nat) : Int)) ∧ Fr (fun _ => False) W W') :
    Calls Try.prog 66 #[.int .i64 (rows : Int), .int .i64 (cols : Int), .func (.func K) #[] caps] w fun e w' =>
      e = .returned (.agg #[.int .i64 (rows : Int), .int .i64 (cols : Int), .slice (some ⟨w.heap.size + 1, 0, none⟩) (rows * cols) (rows * cols)]) ∧ BAt w' (w.heap.size + 1) (fl cols cell (rows * cols)) ∧ Fr (fun _ => False) w w' := by
  obtain ⟨n, hn⟩ : ∃ n, n = rows * cols := ⟨_, rfl⟩
  have hN : (rows : Int) * (cols : Int) = (n : Int) := by rw [hn]; simp
  have hn1 : n ≤ 4096 := by rw [hn]; exact Nat.mul_le_mul h1.2 h2.2
  have hmk := run_make5 n (by omega)
  have HN := hide hn
  rw [← hn]
  have HCL := hide hcl
  have HCF := hide hcf
  clear hn hcl hcf
  go_enter Try.func66, Try.ntmps66
  go_wp2_with fail
  clear hmk
  go_loopw [15] (fun i w' => ∃ r : Nat, r ≤ rows ∧ i = .int .i64 (r : Int) ∧ FB w w' n cols cell (r * cols)) (fun i _ => rows - (intOf i).toNat)
  case atStart =>
    refine ⟨0, by omega, rfl, ?_, ?_, ((Fr.refl _ _).alloc _).alloc _⟩
    · have := heap_alloc_new (w.alloc (Obj.cells #[Value.int IntKind.i64 0, Value.int IntKind.i64 0, Value.slice none 0 0] 24)) (Obj.cells (bvs (List.replicate n 0)).toArray 5)
      simpa [BAt, fl] using this
    · rw [Below.heap_alloc _ _ _ (by simp)]
      exact heap_alloc_new w _
  case round =>
    obtain ⟨r, hr, rfl, hFB⟩ := hrel
    by_cases hlt : r < rows
    · have HFB := hide hFB
      clear hFB
      go_wp2_with fail
      go_loopw [19] (fun i w' => ∃ c : Nat, c ≤ cols ∧ i = .int .i64 (c : Int) ∧ FB w w' n cols cell (r * cols + c)) (fun i _ => cols - (intOf i).toNat)
      case atStart => exact ⟨0, by omega, rfl, unhide HFB⟩
      case round =>
        clear HFB
        obtain ⟨c, hc, rfl, hFB⟩ := hrel
        by_cases hlt2 : c < cols
        · have q1 : (0 : Int) ≤ (r : Int) * (cols : Int) := by rw [← Int.natCast_mul]; omega
          have q2 : (r : Int) * (cols : Int) ≤ 4096 := by rw [← Int.natCast_mul]; have := Nat.mul_le_mul (show r ≤ 64 by omega) h2.2; omega
          have hkn : r * cols + c < n := by rw [unhide HN]; exact mul_step hlt hlt2
          have b1 : (0 : Int) ≤ (r : Int) * (cols : Int) + (c : Int) := by omega
          have b2 : (r : Int) * (cols : Int) + (c : Int) < (n : Int) := by rw [← Int.natCast_mul]; omega
          have b3 : ((r : Int) * (cols : Int) + (c : Int)).toNat = r * cols + c := by rw [← Int.natCast_mul]; omega
          have hd1 : (r * cols + c) / cols = r := by rw [Nat.mul_comm, Nat.mul_add_div (by omega), Nat.div_eq_of_lt hlt2]; omega
          have hd2 : (r * cols + c) % cols = c := by rw [Nat.mul_comm, Nat.mul_add_mod, Nat.mod_eq_of_lt hlt2]
          have D1 := hide hd1
          have D2 := hide hd2
          have hcf := unhide HCF
          have HF := hide hFB
          have HC := hide (unhide HCL wr hFB.2.2 r c hlt hlt2)
          clear hd1 hd2 hFB
          go_wp2_with fail
          refine (unhide HC).mono ?_
          rintro e w2 ⟨rfl, f2⟩
          have HF2 := hide ((unhide HF).kept f2)
          have cq := (unhide HF2).1.cell (r * cols + c) (by rw [List.length_append, fl_length, List.length_replicate]; omega)
          have fq := (unhide HF2).1.frozen (r * cols + c)
          generalize (fl cols cell (r * cols + c) ++ List.replicate (n - (r * cols + c)) 0)[r * cols + c]'(by rw [List.length_append, fl_length, List.length_replicate]; omega) = old at cq
          clear hcf f2
          go_wp2_with fail
          go_roundw
          case rel =>
            have := (unhide HF2).put hkn
            rw [unhide D1, unhide D2] at this
            exact ⟨c + 1, by omega, by go_num, this⟩
          case measure => simp [intOf]; omega
        · have hce : c = cols := by omega
          subst hce
          have HF := hide hFB
          clear hFB
          go_wp2_with fail
          go_roundw
          case rel => exact ⟨r + 1, by omega, by go_num, by rw [Nat.succ_mul]; exact unhide HF⟩
          case measure => simp [intOf]; omega
    · have hre : r = rows := by omega
      subst hre
      have HF := hide hFB
      have hp := hFB.2.1
      have c0 := cell_of_heap hp 0
      have c1 := cell_of_heap hp 1
      have c2 := cell_of_heap hp 2
      have z0 := frozen_of_heap hp
      simp at c0 c1 c2
      clear hFB hp
      go_wp2_with fail
      have hF := unhide HF
      have f3 : Fr (fun k => k = w.heap.size) wr (((wr.setCell ⟨w.heap.size, 0, none⟩ (.int .i64 (r : Int))).setCell ⟨w.heap.size, 1, none⟩ (.int .i64 (cols : Int))).setCell ⟨w.heap.size, 2, none⟩ (.slice (some ⟨w.heap.size + 1, 0, none⟩) n n)) :=
        fr_three wr _ _ _ _
      refine bodyPost_ret (v := .agg #[.int .i64 (r : Int), .int .i64 (cols : Int), .slice (some ⟨w.heap.size + 1, 0, none⟩) n n]) (by simp [results, Try.results66, go_sem, c0, c1, c2]) rfl ⟨rfl, ?_, hF.2.2.trans f3 (fun i hi h => by omega)⟩
      have hB := hF.1.kept f3 (by omega)
      rw [← unhide HN, Nat.sub_self, List.replicate_zero, List.append_nil] at hB
      exact hB

theorem cf74 (args : Array Value) (W : World) : Sem.run Try.prog (callFunc 75 args) W = .ok (.enter 75 args) W := by simp [go_sem]
theorem cf84 (args : Array Value) (W : World) : Sem.run Try.prog (callFunc 85 args) W = .ok (.enter 85 args) W := by simp [go_sem]

theorem one_any (w : World) (r c : Int) : Calls Try.prog 75 #[.int .i64 r, .int .i64 c] w fun e w' => e = .returned (.int .u8 (((if r = c then 1 else 0 : UInt8).toNat : Nat) : Int)) ∧ w = w' := by
  by_cases h : r = c
  · have hb : (r == c) = true := by simpa using h
    rw [if_pos h]
    clear h
    go_enter Try.func75, Try.ntmps75
    go_wp2
    go_ret
    exact ⟨rfl, rfl⟩
  · have hb : (r == c) = false := by simpa using h
    rw [if_neg h]
    clear h
    go_enter Try.func75, Try.ntmps75
    go_wp2
    go_ret
    exact ⟨rfl, rfl⟩

end Go.Proofs.Ytckmddkhkdcmmaa
