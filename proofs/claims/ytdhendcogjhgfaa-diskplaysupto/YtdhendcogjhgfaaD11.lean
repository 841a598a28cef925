/-
  The walks of package disk's Same at nil.
-/
import Derived.Test.YtdhendcogjhgfaaD10
namespace Go.Proofs.Ytdhendcogjhgfaa
open Go.RowKit
set_option linter.unusedVariables false

attribute [local go_sem ↓] Go.wp_at_zero Go.wp_at_succ

/-- nil held against a pointer, nil at the left. -/
theorem eql_nil_left (W : World) (a : Addr) : (binOp .eql 25 (.pointer none) (.pointer (some a))).run Try.prog W = .ok (.bool false) W := by
  have h1 : ∀ n, (Op.equalIn (n + 1) 25 (.pointer none) (.pointer (some a))).run Try.prog W = .ok false W := fun n => by simp [Op.equalIn, run_underlying Try.underlying25]
  have h2 : (Op.equal 25 (.pointer none) (.pointer (some a))).run Try.prog W = .ok false W := h1 9999
  simp only [binOp]
  simp [h2]

section
variable (w : World)

set_option maxRecDepth 100000 in
theorem same_nils : Calls Try.prog 18 #[.pointer none, .pointer none] w fun e w' => e = .returned (.bool true) ∧ w = w' := by
  go_enter Try.func18, Try.ntmps18
  go_wp2_with fail
  go_ret
  exact ⟨rfl, rfl⟩

set_option maxRecDepth 100000 in
theorem same_nil1 (p : Nat) : Calls Try.prog 18 #[.pointer none, .pointer (some ⟨p, 0, none⟩)] w fun e w' => e = .returned (.bool false) ∧ w = w' := by
  have hq := fun W => eql_nil_left W ⟨p, 0, none⟩
  go_enter Try.func18, Try.ntmps18
  go_wp2_with fail
  go_ret
  exact ⟨rfl, rfl⟩

set_option maxRecDepth 100000 in
theorem same_nil2 (p : Nat) : Calls Try.prog 18 #[.pointer (some ⟨p, 0, none⟩), .pointer none] w fun e w' => e = .returned (.bool false) ∧ w = w' := by
  go_enter Try.func18, Try.ntmps18
  go_wp2_with fail
  go_ret
  exact ⟨rfl, rfl⟩

end

end Go.Proofs.Ytdhendcogjhgfaa
