/-
  The walks of package disk: has, told, waiting, New.
-/
import Derived.Test.YtdhendcogjhgfaaD1
namespace Go.Proofs.Ytdhendcogjhgfaa
open Go.RowKit
set_option linter.unusedVariables false

attribute [local go_sem ↓] Go.wp_at_zero Go.wp_at_succ

/-- Is there such a sector? -/
def hasB (d : Dk) (a : Int) : Bool := decide (0 ≤ a) && decide (a < (d.S.length : Int))

section
variable (w : World) (p gs : Nat) (qv : Value) (d : Dk)

theorem has_any (a : Int) (h : KAt w p gs qv d) : Calls Try.prog 54 #[.pointer (some ⟨p, 0, none⟩), .int .i64 a] w fun e w' => e = .returned (.bool (hasB d a)) ∧ w = w' := by
  have HS := hide (sectors_any w p gs qv d h)
  clear h
  unfold hasB
  by_cases h0 : 0 ≤ a
  · have b1 : decide (0 ≤ a) = true := by simpa using h0
    rw [b1]
    go_enter Try.func54, Try.ntmps54
    go_wp2_with (go_at_call 39; refine (unhide HS).mono ?_; rintro e w' ⟨rfl, rfl⟩)
    go_ret
    exact ⟨rfl, rfl⟩
  · have b1 : decide (0 ≤ a) = false := by simpa using h0
    rw [b1]
    go_enter Try.func54, Try.ntmps54
    go_wp2_with fail
    go_ret
    exact ⟨rfl, rfl⟩

theorem has_nil (a : Int) : Calls Try.prog 54 #[.pointer none, .int .i64 a] w fun e w' => e = .returned (.bool false) ∧ w = w' := by
  by_cases h0 : 0 ≤ a
  · have b1 : decide (0 ≤ a) = true := by simpa using h0
    have b2 : decide (a < 0) = false := by simp; omega
    go_enter Try.func54, Try.ntmps54
    go_wp2_with (go_at_call 39; refine (sectors_nil _).mono ?_; rintro e w' ⟨rfl, rfl⟩)
    go_ret
    exact ⟨rfl, rfl⟩
  · have b1 : decide (0 ≤ a) = false := by simpa using h0
    go_enter Try.func54, Try.ntmps54
    go_wp2_with fail
    go_ret
    exact ⟨rfl, rfl⟩

set_option maxHeartbeats 1000000 in
theorem told_any (g o : Nat) (l : List UInt8) (h : KAt w p gs qv d) (hl : l.length = 512) (hr : Rd w (.slice (some ⟨g, o, none⟩) 512 512) l) :
    Calls Try.prog 55 #[.pointer (some ⟨p, 0, none⟩), .pointer (some ⟨g, o, none⟩)] w fun e w' => e = .returned (.slice (some ⟨w.heap.size, 0, none⟩) d.size d.size) ∧ BAt w' w.heap.size (l.take d.size) ∧ Fr (fun _ => False) w w' := by
  have hz := h.ok.size
  have c0 := cell_of_heap h.heap 0
  simp at c0
  obtain ⟨w1, hmk, hB1, hf1⟩ := mk_any w d.size (by omega)
  obtain ⟨w2, hcp, hB2, hf2⟩ := copy_min w1 w.heap.size 0 d.size d.size (some ⟨w.heap.size, 0, none⟩) (List.replicate d.size 0) _ l (fun _ => rfl) hB1 (hr.kept hf1 (fun _ _ h => h)) (by simp)
  have e1 : (List.replicate d.size (0 : UInt8)).take 0 ++ l.take d.size ++ (List.replicate d.size (0 : UInt8)).drop (0 + min l.length d.size) = l.take d.size := by
    rw [hl, show min 512 d.size = d.size by omega]; simp
  rw [e1] at hB2
  have HB2 := hide hB2
  have HF2 := hide (hf1.trans hf2 (fun b hb h => by omega))
  clear h hr hB1 hf1 hB2 hf2 e1
  go_enter Try.func55, Try.ntmps55
  go_wp2_with fail
  go_ret
  exact ⟨rfl, unhide HB2, unhide HF2⟩
end

end Go.Proofs.Ytdhendcogjhgfaa
