/-
  The walks of package gf's powers, quotients and logarithms, and of the document's own.
-/
import Derived.Test.YtckmddkhkdcmmaaTab
namespace Go.Proofs.Ytckmddkhkdcmmaa
open Go.RowKit
set_option linter.unusedVariables false

attribute [local go_sem ↓] Go.wp_at_zero Go.wp_at_succ

theorem tmod_facts (n : Int) : -255 < n.tmod 255 ∧ n.tmod 255 < 255 ∧ (0 ≤ n.tmod 255 → n % 255 = n.tmod 255) ∧ (n.tmod 255 < 0 → n % 255 = n.tmod 255 + 255) := by
  have h := Int.tmod_eq_emod (a := n) (b := 255)
  split at h <;> omega

theorem Fr.drewN {S : Nat → Prop} {a w : World} (h : Fr S a w) (n : Nat) : Fr S a (w.drewN n) := by
  induction n generalizing w with
  | zero => exact h
  | succ n ih => exact (ih h).drew

theorem Fr.ofDrewN {S : Nat → Prop} (w : World) (n : Nat) : Fr S w (w.drewN n) := (Fr.refl S w).drewN n

set_option maxHeartbeats 400000 in
theorem fpow_any (w : World) (p : Nat) (a : UInt8) (n : Int) (hn : -9223372036854775808 ≤ n ∧ n ≤ 9223372036854775807) (h : FAt w p) : Calls Try.prog 87 #[.pointer (some ⟨p, 0, none⟩), .int .u8 (a.toNat : Int), .int .i64 n] w fun e w' => e = .returned (.int .u8 ((pw a n).toNat : Int)) ∧ ∃ k, w' = w.drewN k := by
  have ha' := a.toNat_lt
  by_cases h0 : n = 0
  · subst h0
    have e : pw a 0 = 1 := rfl
    rw [e]
    clear h
    go_enter Try.func87, Try.ntmps87
    go_wp2
    go_ret
    exact ⟨rfl, 0, rfl⟩
  · have n0 : (n == 0) = false := by simpa using h0
    by_cases ha : a = 0
    · subst ha
      have e : pw 0 n = 0 := by unfold pw; rw [if_neg h0, if_pos rfl]
      rw [e]
      clear h
      go_enter Try.func87, Try.ntmps87
      go_wp2
      go_ret
      exact ⟨rfl, 0, rfl⟩
    · have na : (((a.toNat : Nat) : Int) == 0) = false := by simpa using fun e => ha (natB.1 e)
      have l1 := L_lt ha
      have c1 := h.log ha
      obtain ⟨t1, t2, t3, t4⟩ := tmod_facts n
      have m1 : 0 ≤ n % 255 := by omega
      have m2 : n % 255 < 255 := by omega
      have hm : L a * (n % 255).toNat ≤ 254 * 254 := Nat.mul_le_mul (by omega) (by omega)
      have c3 := h.exp (L a * (n % 255).toNat % 255) (by omega)
      rw [E_mod] at c3
      rw [pw_ne ha]
      have b0 : ((L a * (n % 255).toNat % 255 : Nat) : Int) = (L a : Int) * (n % 255) % 255 := by
        rw [Int.natCast_emod, Int.natCast_mul, Int.toNat_of_nonneg m1]; rfl
      have b1 : 0 ≤ (L a : Int) * (n % 255) := by rw [← Int.toNat_of_nonneg m1, ← Int.natCast_mul]; omega
      have b2 : (L a : Int) * (n % 255) ≤ 64516 := by rw [← Int.toNat_of_nonneg m1, ← Int.natCast_mul]; omega
      have b3 : ((L a : Int) * (n % 255) % 255).toNat = L a * (n % 255).toNat % 255 := by omega
      clear h hm b0
      generalize E (L a * (n % 255).toNat) = res at *
      generalize L a * (n % 255).toNat % 255 = idx at *
      generalize hr : n % 255 = r at *
      generalize L a = la at *
      have HR := hide hr
      clear hr
      by_cases ht : n.tmod 255 < 0
      · have t5 : n.tmod 255 + 255 = r := (t4 ht).symm
        clear t3 t4
        go_enter Try.func87, Try.ntmps87
        go_wp2_with fail
        go_quiet (fail)
        go_wp2_with fail
        go_ret
        exact ⟨rfl, _, rfl⟩
      · have t5 : n.tmod 255 = r := (t3 (by omega)).symm
        clear t3 t4 t1 t2 ht
        go_enter Try.func87, Try.ntmps87
        go_wp2_with fail
        go_quiet (fail)
        go_wp2_with fail
        go_ret
        exact ⟨rfl, _, rfl⟩

theorem div_ok (w : World) (a b : UInt8) (hb : b ≠ 0) : Calls Try.prog 103 #[.int .u8 (a.toNat : Int), .int .u8 (b.toNat : Int)] w fun e w' => e = .returned (.tuple #[.int .u8 ((div a b).toNat : Int), .int .i64 0]) ∧ Fr (fun _ => False) w w' := by
  have nb : (((b.toNat : Nat) : Int) == 0) = false := by simpa using fun e => hb (natB.1 e)
  go_enter Try.func103, Try.ntmps103
  go_wp2_with fail
  refine (newField_any w).mono ?_
  rintro e w1 ⟨rfl, h1, f1⟩
  go_wp2_with fail
  refine (fdiv_any w1 _ a b hb h1).mono ?_
  rintro e w2 ⟨rfl, n, rfl⟩
  go_wp2_with fail
  go_ret2
  exact ⟨rfl, f1.drewN n⟩

theorem div_no (w : World) (a : UInt8) : Calls Try.prog 103 #[.int .u8 (a.toNat : Int), .int .u8 0] w fun e w' => e = .returned (.tuple #[.int .u8 0, .int .i64 20]) ∧ w = w' := by
  go_enter Try.func103, Try.ntmps103
  go_wp2
  go_ret2
  exact ⟨rfl, rfl⟩

/-- What a quotient and its error are. -/
def dv (a b : UInt8) : UInt8 × Int := if b = 0 then (0, 20) else (div a b, 0)

theorem div_any (w : World) (a b : UInt8) : Calls Try.prog 103 #[.int .u8 (a.toNat : Int), .int .u8 (b.toNat : Int)] w fun e w' => e = .returned (.tuple #[.int .u8 ((dv a b).1.toNat : Int), .int .i64 (dv a b).2]) ∧ Fr (fun _ => False) w w' := by
  unfold dv
  by_cases hb : b = 0
  · subst hb
    rw [if_pos rfl]
    refine (div_no w a).mono ?_
    rintro e w' ⟨rfl, rfl⟩
    exact ⟨rfl, Fr.refl _ _⟩
  · rw [if_neg hb]
    exact div_ok w a b hb

theorem inv_any (w : World) (a : UInt8) : Calls Try.prog 62 #[.int .u8 (a.toNat : Int)] w fun e w' => e = .returned (.tuple #[.int .u8 ((dv 1 a).1.toNat : Int), .int .i64 (dv 1 a).2]) ∧ Fr (fun _ => False) w w' := by
  go_enter Try.func62, Try.ntmps62
  go_wp2_with (go_at_call 103; refine (div_any w 1 a).mono ?_; rintro e w' ⟨rfl, f⟩)
  go_ret2
  exact ⟨rfl, f⟩

theorem pow_any (w : World) (a : UInt8) (n : Int) (hn : -9223372036854775808 ≤ n ∧ n ≤ 9223372036854775807) : Calls Try.prog 64 #[.int .u8 (a.toNat : Int), .int .i64 n] w fun e w' => e = .returned (.int .u8 ((pw a n).toNat : Int)) ∧ Fr (fun _ => False) w w' := by
  go_enter Try.func64, Try.ntmps64
  go_wp2_with fail
  refine (newField_any w).mono ?_
  rintro e w1 ⟨rfl, h1, f1⟩
  go_wp2_with fail
  refine (fpow_any w1 _ a n hn h1).mono ?_
  rintro e w2 ⟨rfl, n, rfl⟩
  go_wp2_with fail
  go_ret
  exact ⟨rfl, f1.drewN n⟩

/-- What a logarithm and its error are. -/
def lg (a : UInt8) : Int × Int := if a = 0 then (0, 20) else ((L a : Int), 0)

end Go.Proofs.Ytckmddkhkdcmmaa
