/-
  The document's Apply.
-/
import Derived.Test.YtbenailemoefhaaA6
import Derived.Test.YtbenailemoefhaaA7
namespace Go.Proofs.Ytbenailemoefhaa
open Go.RowKit
set_option linter.unusedVariables false
set_option linter.unusedSimpArgs false

attribute [local go_sem ↓] Go.wp_at_zero Go.wp_at_succ

/-- Is a bit set, of a number from 0 to 255? -/
def rh (h b : Int) : Bool := decide (h / b % 2 = 1)
theorem rhas_any (h b : Int) (w : World) (h0 : 0 ≤ h) (h1 : h ≤ 255) (hb : 0 < b) (hb2 : b ≤ 128) : Calls Try.prog 53 #[.int .i64 h, .int .i64 b] w fun e w' => e = .returned (.bool (rh h b)) ∧ w' = w := by
  unfold rh
  have e1 : h.tdiv b = h / b := Int.tdiv_eq_ediv_of_nonneg h0
  have e2 : 0 ≤ h / b := Int.ediv_nonneg h0 (by omega)
  have e3 : (h / b).tmod 2 = h / b % 2 := Int.tmod_eq_emod_of_nonneg e2
  have e4 : h / b ≤ 255 := Int.le_trans (Int.ediv_le_self _ h0) h1
  generalize h / b = q at *
  go_enter Try.func53, Try.ntmps53
  go_wp2_with fail
  go_ret
  exact ⟨by simp [BEq.beq], rfl⟩
theorem hb_tab : (List.range 256).all (fun k => (hb (k : Int) 1 == rh (k : Int) 1) && (hb (k : Int) 2 == rh (k : Int) 2) && (hb (k : Int) 4 == rh (k : Int) 4) && (hb (k : Int) 8 == rh (k : Int) 8) && (hb (k : Int) 16 == rh (k : Int) 16) && (hb (k : Int) 32 == rh (k : Int) 32) && (hb (k : Int) 64 == rh (k : Int) 64) && (hb (k : Int) 128 == rh (k : Int) 128) && (hb (k : Int) 80 == (rh (k : Int) 16 && rh (k : Int) 64)) && (hb (k : Int) 160 == (rh (k : Int) 32 && rh (k : Int) 128)) && (bits .andNot .i64 (k : Int) 255 == 0)) = true := by kernel_rfl
theorem hb_rh {h : Int} (h0 : 0 ≤ h) (h1 : h ≤ 255) : hb h 1 = rh h 1 ∧ hb h 2 = rh h 2 ∧ hb h 4 = rh h 4 ∧ hb h 8 = rh h 8 ∧ hb h 16 = rh h 16 ∧ hb h 32 = rh h 32 ∧ hb h 64 = rh h 64 ∧ hb h 128 = rh h 128 ∧ hb h 80 = (rh h 16 && rh h 64) ∧ hb h 160 = (rh h 32 && rh h 128) ∧ bits .andNot .i64 h 255 = 0 := by
  obtain ⟨k, rfl⟩ := Int.eq_ofNat_of_zero_le h0
  have := List.all_eq_true.1 hb_tab k (List.mem_range.2 (by omega))
  simp only [Bool.and_eq_true, beq_iff_eq] at this
  obtain ⟨⟨⟨⟨⟨⟨⟨⟨⟨⟨a, b⟩, c⟩, d⟩, e⟩, f⟩, g⟩, i⟩, j⟩, l⟩, m⟩ := this
  exact ⟨a, b, c, d, e, f, g, i, j, l, m⟩
theorem andNot_no {h : Int} (h0 : -9223372036854775808 ≤ h) (h1 : h ≤ 9223372036854775807) (hn : h < 0 ∨ 255 < h) : bits .andNot .i64 h 255 ≠ 0 := by
  intro e
  have e2 : IntKind.i64.wrap ((BitVec.ofInt 64 h &&& ~~~ BitVec.ofInt 64 255).toNat : Int) = 0 := e
  have hx : (BitVec.ofInt 64 h &&& ~~~ BitVec.ofInt 64 255).toNat = 0 := by
    have hlt := (BitVec.ofInt 64 h &&& ~~~ BitVec.ofInt 64 255).isLt
    generalize (BitVec.ofInt 64 h &&& ~~~ BitVec.ofInt 64 255).toNat = v at *
    simp [IntKind.wrap, IntKind.bits, IntKind.signed] at e2
    omega
  have hz : BitVec.ofInt 64 h &&& ~~~ BitVec.ofInt 64 255 = 0#64 := BitVec.eq_of_toNat_eq (by simpa using hx)
  have hy : BitVec.ofInt 64 h = BitVec.ofInt 64 h &&& 255#64 := by
    apply BitVec.eq_of_getLsbD_eq
    intro i hi
    have h2 := congrArg (fun v => v.getLsbD i) hz
    simp at h2 ⊢
    intro h3
    have ht : ∀ j : Fin 64, (18446744073709551360#64).getLsbD j.1 = false → (255#64).getLsbD j.1 = true := by decide
    exact ht ⟨i, hi⟩ (h2 h3)
  have hn2 : (BitVec.ofInt 64 h).toNat ≤ 255 := by rw [hy, BitVec.toNat_and]; exact Nat.and_le_right
  have : (BitVec.ofInt 64 h).toNat = (h % 18446744073709551616).toNat := by simp [BitVec.toNat_ofInt]
  omega
end Go.Proofs.Ytbenailemoefhaa
