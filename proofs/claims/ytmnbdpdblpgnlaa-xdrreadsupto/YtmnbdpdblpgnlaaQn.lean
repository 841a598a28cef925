/-
  What the readers tell, once more, as calls that only draw.
-/
import Derived.Test.YtmnbdpdblpgnlaaQr
namespace Go.Proofs.Ytmnbdpdblpgnlaa
open Go.RowKit
set_option linter.unusedVariables false

attribute [local go_sem ↓] Go.wp_at_zero Go.wp_at_succ

/-- The same world, but for what was drawn. -/
def Qn (w w' : World) : Prop := ∃ n, w' = w.drewN n
theorem Qn.refl (w : World) : Qn w w := ⟨0, rfl⟩
theorem Qn.drewN (w : World) (n : Nat) : Qn w (w.drewN n) := ⟨n, rfl⟩
theorem Qn.trans {a b c : World} (h : Qn a b) (k : Qn b c) : Qn a c := by
  obtain ⟨n, rfl⟩ := h
  obtain ⟨m, rfl⟩ := k
  exact ⟨_, World.drewN_drewN _ _ _⟩
theorem Qn.qt {w w' : World} (h : Qn w w') : Qt w w' := by
  obtain ⟨n, rfl⟩ := h
  exact Qt.drewN _ _

theorem left_anyN (w : World) (p : Nat) (a n : Nat) (ao : Option Addr) (cap : Nat) (h0 : w.cell? ⟨p, 0, none⟩ = some (.slice ao n cap)) (h : w.cell? ⟨p, 1, none⟩ = some (.int .i64 (a : Int))) (ha : a ≤ n) (hn : n ≤ maxLen) :
    Calls Try.prog 20 #[.pointer (some ⟨p, 0, none⟩)] w fun e w' => e = .returned (.int .i64 ((n : Int) - (a : Int))) ∧ Qn w w' := by
  unfold maxLen at hn
  go_enter Try.func20, Try.ntmps20
  go_wp2
  go_quiet (fail)
  go_wp2
  go_ret
  exact ⟨rfl, Qn.drewN _ _⟩

theorem rwhy_okN (w : World) (p : Nat) (c2 : w.cell? ⟨p, 2, none⟩ = some (.int .i64 0)) : Calls Try.prog 18 #[.pointer (some ⟨p, 0, none⟩)] w fun e w' => e = .returned (.tuple #[.int .i64 0, .int .i64 0]) ∧ Qn w w' := by
  go_enter Try.func18, Try.ntmps18
  go_wp2
  go_ret2
  exact ⟨rfl, Qn.refl _⟩

theorem rwhy_erN (w : World) (p : Nat) (a E : Int) (c1 : w.cell? ⟨p, 1, none⟩ = some (.int .i64 a)) (c2 : w.cell? ⟨p, 2, none⟩ = some (.int .i64 E)) (hE : E ≠ 0) : Calls Try.prog 18 #[.pointer (some ⟨p, 0, none⟩)] w fun e w' => e = .returned (.tuple #[.int .i64 E, .int .i64 a]) ∧ Qn w w' := by
  have hb : (E == 0) = false := by simpa using hE
  go_enter Try.func18, Try.ntmps18
  go_wp2
  go_quiet (fail)
  go_wp2
  go_ret2
  exact ⟨rfl, Qn.drewN _ _⟩

theorem rwhy_anyN (w : World) (p : Nat) (q : Option Nat) (D : List UInt8) (a : Nat) (E : Int) (h : RAt w p q D a E) : Calls Try.prog 18 #[.pointer (some ⟨p, 0, none⟩)] w fun e w' => e = .returned (.tuple #[.int .i64 E, .int .i64 (if E = 0 then 0 else (a : Int))]) ∧ Qn w w' := by
  obtain ⟨v, h1, _⟩ := h
  by_cases hE : E = 0
  · subst hE
    exact rwhy_okN w p (RAt.cell2 h1)
  · rw [if_neg hE]
    exact rwhy_erN w p a E (RAt.cell1 h1) (RAt.cell2 h1) hE

theorem rdone_anyN (w : World) (p : Nat) (q : Option Nat) (D : List UInt8) (a : Nat) (E : Int) (h : RAt w p q D a E) (hD : D.length ≤ maxLen) : Calls Try.prog 22 #[.pointer (some ⟨p, 0, none⟩)] w fun e w' => e = .returned (.int .i64 (rdone D a E)) ∧ Qn w w' := by
  unfold rdone
  obtain ⟨v, h1, _, h3, hal⟩ := id h
  obtain ⟨ao, cap, rfl⟩ := owns_shape h3
  have HW := hide (rwhy_anyN w p q D a E h)
  by_cases hE : E = 0
  · subst hE
    have c0 := RAt.cell0 h1
    have c1 := RAt.cell1 h1
    clear h1 h3 h
    have HL := hide (left_anyN (n := D.length) (ao := ao) (cap := cap) (a := a) (p := p))
    rw [if_neg (show ¬ ((0 : Int) ≠ 0) by simp)]
    by_cases hlt : a < D.length
    · rw [if_pos hlt]
      have hlt' : (0 : Int) < (D.length : Int) - (a : Int) := by omega
      go_enter Try.func22, Try.ntmps22
      go_wp2_with fail
      refine (unhide HW).mono ?_
      rintro e w1 ⟨rfl, q1⟩
      have d0 : w1.cell? ⟨p, 0, none⟩ = some (.slice ao D.length cap) := by rw [World.cell?_of_block (w := w) (by rw [q1.qt.heap])]; exact c0
      have d1 : w1.cell? ⟨p, 1, none⟩ = some (.int .i64 (a : Int)) := by rw [World.cell?_of_block (w := w) (by rw [q1.qt.heap])]; exact c1
      go_wp2_with fail
      refine (unhide HL w1 d0 d1 hal hD).mono ?_
      rintro e w2 ⟨rfl, q2⟩
      go_wp2
      go_ret
      exact ⟨rfl, q1.trans q2⟩
    · rw [if_neg hlt]
      have hlt' : ¬ (0 : Int) < (D.length : Int) - (a : Int) := by omega
      go_enter Try.func22, Try.ntmps22
      go_wp2_with fail
      refine (unhide HW).mono ?_
      rintro e w1 ⟨rfl, q1⟩
      have d0 : w1.cell? ⟨p, 0, none⟩ = some (.slice ao D.length cap) := by rw [World.cell?_of_block (w := w) (by rw [q1.qt.heap])]; exact c0
      have d1 : w1.cell? ⟨p, 1, none⟩ = some (.int .i64 (a : Int)) := by rw [World.cell?_of_block (w := w) (by rw [q1.qt.heap])]; exact c1
      go_wp2_with fail
      refine (unhide HL w1 d0 d1 hal hD).mono ?_
      rintro e w2 ⟨rfl, q2⟩
      go_wp2
      go_ret
      exact ⟨rfl, q1.trans q2⟩
  · rw [if_pos hE]
    clear h1 h3 h
    have hb : (E != 0) = true := by simpa using hE
    go_enter Try.func22, Try.ntmps22
    go_wp2_with fail
    refine (unhide HW).mono ?_
    rintro e w1 ⟨rfl, q1⟩
    go_wp2
    go_ret
    exact ⟨rfl, q1⟩

theorem qleft_anyN (w : World) (p : Nat) (a n : Nat) (ao : Option Addr) (cap : Nat) (h0 : w.cell? ⟨p, 0, none⟩ = some (.slice ao n cap)) (h : w.cell? ⟨p, 1, none⟩ = some (.int .i64 (a : Int))) (ha : a ≤ n) (hn : n ≤ maxLen) :
    Calls Try.prog 21 #[.pointer (some ⟨p, 0, none⟩)] w fun e w' => e = .returned (.int .i64 ((n : Int) - (a : Int))) ∧ Qn w w' := by
  unfold maxLen at hn
  go_enter Try.func21, Try.ntmps21
  go_wp2
  go_quiet (fail)
  go_wp2
  go_ret
  exact ⟨rfl, Qn.drewN _ _⟩

theorem qdone_anyN (w : World) (p : Nat) (q : Option Nat) (D : List UInt8) (a : Nat) (E : Int) (h : QAt w p q D a E) (hD : D.length ≤ maxLen) : Calls Try.prog 23 #[.pointer (some ⟨p, 0, none⟩)] w fun e w' => e = .returned (.int .i64 (rdone D a E)) ∧ Qn w w' := by
  unfold rdone
  obtain ⟨v, h1, _, h3, hal⟩ := id h
  obtain ⟨ao, cap, rfl⟩ := owns_shape h3
  have c0 := QAt.cell0 h1
  have c1 := QAt.cell1 h1
  have c2 := QAt.cell2 h1
  clear h1 h3 h
  by_cases hE : E = 0
  · subst hE
    rw [if_neg (by simp)]
    have HL := hide (qleft_anyN w p a D.length ao cap c0 c1 hal hD)
    by_cases hlt : a < D.length
    · rw [if_pos hlt]
      have hlt' : (0 : Int) < (D.length : Int) - (a : Int) := by omega
      go_enter Try.func23, Try.ntmps23
      go_wp2_with fail
      refine (unhide HL).mono ?_
      rintro e w1 ⟨rfl, q1⟩
      go_wp2
      go_ret
      exact ⟨rfl, q1⟩
    · rw [if_neg hlt]
      have hlt' : ¬ (0 : Int) < (D.length : Int) - (a : Int) := by omega
      go_enter Try.func23, Try.ntmps23
      go_wp2_with fail
      refine (unhide HL).mono ?_
      rintro e w1 ⟨rfl, q1⟩
      have d2 : w1.cell? ⟨p, 2, none⟩ = some (.int .i64 0) := by rw [World.cell?_of_block (w := w) (by rw [q1.qt.heap])]; exact c2
      go_wp2
      go_ret
      exact ⟨rfl, q1⟩
  · rw [if_pos hE]
    have hb : (E == 0) = false := by simpa using hE
    go_enter Try.func23, Try.ntmps23
    go_wp2
    go_ret
    exact ⟨rfl, Qn.refl _⟩

end Go.Proofs.Ytmnbdpdblpgnlaa
