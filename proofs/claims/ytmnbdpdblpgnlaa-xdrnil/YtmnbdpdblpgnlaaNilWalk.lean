/-
  The walk of the law XdrNil: what a nil Writer and a nil Reader answer.
-/
import Derived.Test.YtmnbdpdblpgnlaaLive
import Derived.WalkMore
import Derived.Deep.LoopGhost
namespace Go.Proofs.Ytmnbdpdblpgnlaa
open Go.RowKit
set_option linter.unusedVariables false

attribute [local go_sem ↓] Go.wp_at_zero Go.wp_at_succ

theorem int_nil (w : World) (n : Int) : Calls Try.prog 25 #[.pointer none, .int .i32 n] w fun e w' => e = .returned (.tuple #[]) ∧ w = w' := by
  go_enter Try.func25, Try.ntmps25
  go_wp2_with (go_at_call 24; refine (uint_nil _ _).mono ?_; rintro e w' ⟨rfl, rfl⟩)
  go_end0
  exact ⟨rfl, rfl⟩

theorem hyper_nil (w : World) (n : Int) : Calls Try.prog 26 #[.pointer none, .int .u64 n] w fun e w' => e = .returned (.tuple #[]) ∧ w = w' := by
  go_enter Try.func26, Try.ntmps26
  go_wp2_with (go_at_call 24; refine (uint_nil _ _).mono ?_; rintro e w' ⟨rfl, rfl⟩)
  go_end0
  exact ⟨rfl, rfl⟩

theorem bool_nil (w : World) (b : Bool) : Calls Try.prog 27 #[.pointer none, .bool b] w fun e w' => e = .returned (.tuple #[]) ∧ w = w' := by
  cases b
  · go_enter Try.func27, Try.ntmps27
    go_wp2_with (go_at_call 24; refine (uint_nil _ _).mono ?_; rintro e w' ⟨rfl, rfl⟩)
    go_end0
    exact ⟨rfl, rfl⟩
  · go_enter Try.func27, Try.ntmps27
    go_wp2_with (go_at_call 24; refine (uint_nil _ _).mono ?_; rintro e w' ⟨rfl, rfl⟩)
    exact bodyPost_ret (results_none rfl _ _ _) rfl ⟨rfl, rfl⟩

theorem putList_nil (w : World) (ao : Option Addr) (n cap : Nat) (most : Int) (f : Value) : Calls Try.prog 30 #[.pointer none, .slice ao n cap, .int .i64 most, f] w fun e w' => e = .returned (.tuple #[]) ∧ w = w' := by
  go_enter Try.func30, Try.ntmps30
  go_wp2_with fail
  go_step3
  go_wp2_with (go_at_call 69; refine (wlength_nil _ _ _).mono ?_; rintro e w' ⟨rfl, rfl⟩)
  rw [Exit.noGoto_ret]
  exact bodyPost_ret (results_none rfl _ _ _) rfl ⟨rfl, rfl⟩

theorem putChain_nil (w : World) (b : Nat) (t : ByteArray) (f : Value) (h : w.cell? ⟨b, 0, none⟩ = some (.string t)) : Calls Try.prog 32 #[.pointer none, .slice (some ⟨b, 0, none⟩) 1 1, f] w fun e w' => e = .returned (.tuple #[]) ∧ w = w' := by
  go_enter Try.func32, Try.ntmps32
  go_wp2_with fail
  go_step3
  go_wp2_with fail
  go_step3
  go_wp2_with fail
  go_loop [10] (fun i => i = .int .i64 0) (fun _ => 0)
  case atStart => rfl
  case round =>
    subst hrel
    go_wp2_with (first | (go_at_call 27; refine (bool_nil _ _).mono ?_; rintro e w' ⟨rfl, rfl⟩) | (go_at_call 67; refine (stuck_nil _).mono ?_; rintro e w' ⟨rfl, rfl⟩))
    rw [Exit.noGoto_normal]
    go_end0
    exact ⟨rfl, rfl⟩

theorem putOption_nil (w : World) (x f : Value) : Calls Try.prog 34 #[.pointer none, x, f] w fun e w' => e = .returned (.tuple #[]) ∧ w = w' := by
  go_enter Try.func34, Try.ntmps34
  go_wp2_with (go_at_call 67; refine (stuck_nil _).mono ?_; rintro e w' ⟨rfl, rfl⟩)
  exact bodyPost_ret (results_none rfl _ _ _) rfl ⟨rfl, rfl⟩

theorem list_nil (w : World) (most : Int) (f : Value) : Calls Try.prog 42 #[.pointer none, .int .i64 most, f] w fun e w' => e = .returned (.slice none 0 0) ∧ w = w' := by
  go_enter Try.func42, Try.ntmps42
  go_wp2_with fail
  go_step3
  go_wp2_with fail
  go_step3
  go_wp2_with (go_at_call 74; refine (rlength_nil _ _).mono ?_; rintro e w' ⟨rfl, rfl⟩)
  go_loop [7, 12] (fun l i => l = .slice none 0 0 ∧ i = .int .u32 0) (fun _ _ => 0)
  case atStart => exact ⟨rfl, rfl⟩
  case round =>
    obtain ⟨rfl, rfl⟩ := hrel
    go_wp2_with fail
    go_ret
    exact ⟨rfl, rfl⟩

theorem chain_nil (w : World) (most : Int) (f : Value) : Calls Try.prog 45 #[.pointer none, .int .i64 most, f] w fun e w' => e = .returned (.slice none 0 0) ∧ w = w' := by
  go_enter Try.func45, Try.ntmps45
  go_wp2_with fail
  go_step3
  go_wp2_with fail
  go_step3
  go_wp2_with fail
  go_loop [7] (fun l => l = .slice none 0 0) (fun _ => 0)
  case atStart => rfl
  case round =>
    subst hrel
    go_wp2_with (first | (go_at_call 19; refine (at_nil _).mono ?_; rintro e w' ⟨rfl, rfl⟩) | (go_at_call 38; refine (rbool_nil _).mono ?_; rintro e w' ⟨rfl, rfl⟩) | (go_at_call 75; refine (rstuck_nil _).mono ?_; rintro e w' ⟨rfl, rfl⟩))
    rw [Exit.noGoto_ret]
    go_ret
    exact ⟨rfl, rfl⟩

theorem option_nil (w : World) (f : Value) : Calls Try.prog 47 #[.pointer none, f] w fun e w' => e = .returned (.pointer none) ∧ w = w' := by
  go_enter Try.func47, Try.ntmps47
  go_wp2_with (go_at_call 38; refine (rbool_nil _).mono ?_; rintro e w' ⟨rfl, rfl⟩)
  go_ret
  exact ⟨rfl, rfl⟩

set_option maxHeartbeats 2000000 in
set_option maxRecDepth 100000 in
theorem xdrNil_big (w : World) (ao : Option Addr) (n cap : Nat) (k : Int) (hn : (60000 : Int) < (n : Int)) : Calls Try.prog 7 #[.slice ao n cap, .int .i64 k] w fun e w' => e = .returned (.bool true) ∧ Fr (fun _ => False) w w' := by
  go_enter Try.func7, Try.ntmps7
  go_wp2_with fail
  refine (live_any w).mono ?_
  rintro e w1 ⟨rfl, f1⟩
  go_wp2_with fail
  go_ret
  exact ⟨rfl, f1⟩

set_option maxHeartbeats 2000000 in
set_option maxRecDepth 100000 in
theorem xdrNil_small (w : World) (x : Value) (l : List UInt8) (k : Int) (hx : Rd w x l) (hn : (l.length : Int) ≤ 60000) : Calls Try.prog 7 #[x, .int .i64 k] w fun e w' => e = .returned (.bool true) ∧ Fr (fun _ => False) w w' := by
  have kc := conv_rd (P := Try.prog) hx 28 9 5 Try.underlying28 Try.underlying5 Try.underlying9
  obtain ⟨ao, cap, rfl⟩ := hx.shape
  have HX := hide hx
  clear hx
  go_enter Try.func7, Try.ntmps7
  go_wp2_with (first | (go_at_call 24; refine (uint_nil _ _).mono ?_; rintro e w' ⟨rfl, rfl⟩) | (go_at_call 25; refine (int_nil _ _).mono ?_; rintro e w' ⟨rfl, rfl⟩) | (go_at_call 26; refine (hyper_nil _ _).mono ?_; rintro e w' ⟨rfl, rfl⟩) | (go_at_call 27; refine (bool_nil _ _).mono ?_; rintro e w' ⟨rfl, rfl⟩) | (go_at_call 29; refine (fixed_nil _ _).mono ?_; rintro e w' ⟨rfl, rfl⟩) | (go_at_call 50; refine (opaque_nil _ _ _ _ (unhide HX)).mono ?_; rintro e w' ⟨rfl, rfl⟩))
  refine (text_nil w _ _ (by rw [str_size]; simp only [maxLen]; omega)).mono ?_
  rintro e w1 ⟨rfl, f1⟩
  go_wp2_with (go_at_call 30; refine (putList_nil _ _ _ _ _ _).mono ?_; rintro e w' ⟨rfl, rfl⟩)
  refine (putChain_nil _ _ { data := #[97] } _ ?_).mono ?_
  · simp
  rintro e w2 ⟨rfl, rfl⟩
  have f2 := (f1.alloc (Obj.cells #[Value.int IntKind.u32 1] 52)).alloc (Obj.cells #[Value.string { data := #[97] }] 9)
  generalize (w1.alloc (Obj.cells #[Value.int IntKind.u32 1] 52)).alloc (Obj.cells #[Value.string { data := #[97] }] 9) = w3 at *
  have es : str [] = { data := #[] } := rfl
  have kt := fun (W : World) (n : Int) => rtext_nil W n
  rw [es] at kt
  have KT := hide kt
  clear kt es kc HX
  go_wp2_with (first | (go_at_call 34; refine (putOption_nil _ _ _).mono ?_; rintro e w' ⟨rfl, rfl⟩) | (go_at_call 18; refine (rwhy_nil _).mono ?_; rintro e w' ⟨rfl, rfl⟩) | (go_at_call 14; refine (why_nil _).mono ?_; rintro e w' ⟨rfl, rfl⟩) | (go_at_call 13; refine (num_any _ _).mono ?_; rintro e w' ⟨rfl, rfl⟩) | (go_at_call 12; refine (wbytes_nil _).mono ?_; rintro e w' ⟨rfl, rfl⟩) | (go_at_call 35; refine (ruint_nil _).mono ?_; rintro e w' ⟨rfl, rfl⟩) | (go_at_call 36; refine (rint_nil _).mono ?_; rintro e w' ⟨rfl, rfl⟩) | (go_at_call 37; refine (rhyper_nil _).mono ?_; rintro e w' ⟨rfl, rfl⟩) | (go_at_call 38; refine (rbool_nil _).mono ?_; rintro e w' ⟨rfl, rfl⟩) | (go_at_call 51; refine (renum_nil _ _ (by omega)).mono ?_; rintro e w' ⟨rfl, rfl⟩) | (go_at_call 40; refine (rfixed_nil _ _).mono ?_; rintro e w' ⟨rfl, rfl⟩) | (go_at_call 52; refine (ropaque_nil _ _).mono ?_; rintro e w' ⟨rfl, rfl⟩) | (go_at_call 39; refine (unhide KT _ _).mono ?_; rintro e w' ⟨rfl, rfl⟩) | (go_at_call 19; refine (at_nil _).mono ?_; rintro e w' ⟨rfl, rfl⟩) | (go_at_call 20; refine (left_nil _).mono ?_; rintro e w' ⟨rfl, rfl⟩) | (go_at_call 22; refine (rdone_nil _).mono ?_; rintro e w' ⟨rfl, rfl⟩) | (go_at_call 42; refine (list_nil _ _ _).mono ?_; rintro e w' ⟨rfl, rfl⟩) | (go_at_call 45; refine (chain_nil _ _ _).mono ?_; rintro e w' ⟨rfl, rfl⟩) | (go_at_call 47; refine (option_nil _ _).mono ?_; rintro e w' ⟨rfl, rfl⟩))
  refine (live_any _).mono ?_
  rintro e w4 ⟨rfl, f4⟩
  go_wp2_with fail
  go_ret
  exact ⟨rfl, f2.trans f4 (fun _ _ h => h)⟩

#print axioms xdrNil_small
#print axioms xdrNil_big
end Go.Proofs.Ytmnbdpdblpgnlaa
