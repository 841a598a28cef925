/-
  The walk of package disk's Write.
-/
import Derived.Test.YtdhendcogjhgfaaD9
namespace Go.Proofs.Ytdhendcogjhgfaa
open Go.RowKit
set_option linter.unusedVariables false

attribute [local go_sem ↓] Go.wp_at_zero Go.wp_at_succ

/-- Why a write is refused. -/
def wrE (d : Dk) (a : Int) (l : List UInt8) : Int :=
  if hasB d a = true then (if l.length = d.size then (if d.off = true then 41 else if 4096 ≤ d.Q.length then 6 else 0) else 40) else 2
/-- A write waits. -/
def wrD (d : Dk) (a : Int) (l : List UInt8) : Dk := if wrE d a l = 0 then { d with Q := d.Q ++ [(a.toNat, l)] } else d

section
variable (w : World) (p gs : Nat) (qv : Value) (d : Dk)

set_option maxHeartbeats 1000000 in
set_option maxRecDepth 100000 in
theorem write_no (a : Int) (lv : Value) (l : List UInt8) (h : KAt w p gs qv d) (hl : Rd w lv l) (he : wrE d a l ≠ 0) : Calls Try.prog 27 #[.pointer (some ⟨p, 0, none⟩), .int .i64 a, lv] w fun e w' => e = .returned (.int .i64 (wrE d a l)) ∧ w = w' := by
  have HH := hide (has_any w p gs qv d a h)
  have c0 := cell_of_heap h.heap 0
  have c2 := cell_of_heap h.heap 2
  have c3 := cell_of_heap h.heap 3
  simp at c0 c2 c3
  obtain ⟨lo, lc, rfl⟩ := hl.shape
  obtain ⟨qo, qc, rfl⟩ := owns_shape h.queue
  unfold wrE at he ⊢
  generalize hasB d a = hb at *
  have hok := h.ok
  clear h hl
  rcases hb with _ | _
  · simp only [Bool.false_eq_true, if_false]
    clear he
    go_enter Try.func27, Try.ntmps27
    go_wp2_with (go_at_call 54; refine (unhide HH).mono ?_; rintro e w' ⟨rfl, rfl⟩)
    go_ret
    exact ⟨rfl, rfl⟩
  · simp only [if_true] at he ⊢
    by_cases hs : l.length = d.size
    · rw [if_pos hs] at he ⊢
      have b1 : ((l.length : Int) != (d.size : Int)) = false := by simp; omega
      generalize d.off = of at *
      rcases of with _ | _
      · simp only [Bool.false_eq_true, if_false] at he ⊢
        have h4 : 4096 ≤ d.Q.length := by
          rcases Nat.lt_or_ge d.Q.length 4096 with h5 | h5
          · rw [if_neg (by omega)] at he; exact absurd rfl he
          · exact h5
        rw [if_pos h4]
        have b2 : decide (4096 ≤ d.Q.length) = true := by simpa using h4
        rw [hs]
        clear he hs b1
        go_enter Try.func27, Try.ntmps27
        go_wp2_with (go_at_call 54; refine (unhide HH).mono ?_; rintro e w' ⟨rfl, rfl⟩)
        go_ret
        exact ⟨rfl, rfl⟩
      · simp only [if_true]
        rw [hs]
        clear he hs b1
        go_enter Try.func27, Try.ntmps27
        go_wp2_with (go_at_call 54; refine (unhide HH).mono ?_; rintro e w' ⟨rfl, rfl⟩)
        go_ret
        exact ⟨rfl, rfl⟩
    · rw [if_neg hs]
      have b1 : ((l.length : Int) != (d.size : Int)) = true := by simp; omega
      clear he
      go_enter Try.func27, Try.ntmps27
      go_wp2_with (go_at_call 54; refine (unhide HH).mono ?_; rintro e w' ⟨rfl, rfl⟩)
      go_ret
      exact ⟨rfl, rfl⟩
end

end Go.Proofs.Ytdhendcogjhgfaa
