/-
  The proof of RsChanges, over arguments of a bounded bulk.
-/
import Derived.Test.YtckmddkhkdcmmaaCn5
import Derived.Test.YtckmddkhkdcmmaaArg
import Derived.WalkKit
import Derived.JoinedCond
namespace Go.Proofs.Ytckmddkhkdcmmaa.rsChanges
open Go.ChangeShapes Go.WideShapes Go.ChangeAt Go.RowKit
set_option linter.unusedVariables false

theorem own : ownKnob Try.prog.godebug = none := by kernel_rfl
theorem laidOut : laidOutB Try.prog = true := by kernel_rfl

theorem walk (a0 : Int) (a1 : Int) (a2 : Option Addr) (len2 cap2 : Nat) (l2 : List UInt8) (a3 : Option Addr) (len3 cap3 : Nat) (l3 : List UInt8) (a4 : Int) (a5 : Option Addr) (len5 cap5 : Nat) (l5 : List Int) (w : World) (w0 : (Lit.int .i64 a0).wf = true) (w1 : (Lit.int .i64 a1).wf = true) (r2 : Rd w (.slice a2 len2 cap2) l2) (b2 : l2.length ≤ 1048576) (r3 : Rd w (.slice a3 len3 cap3) l3) (b3 : l3.length ≤ 1048576) (w4 : (Lit.int .i64 a4).wf = true) (r5 : RdV w (.slice a5 len5 cap5) (l5.map (Value.int .i64))) (b5 : l5.length ≤ 1048576) (c5 : ∀ x ∈ l5, -9223372036854775808 ≤ x ∧ x ≤ 9223372036854775807) :
    Calls Try.prog 12 #[.int .i64 a0, .int .i64 a1, .slice a2 len2 cap2, .slice a3 len3 cap3, .int .i64 a4, .slice a5 len5 cap5] w fun e w' => e = .returned (.bool true) ∧ Below w.heap.size w w' := by
  rcases h : okB a0 a1 with _ | _
  · refine (chgWalk_no w _ _ _ l2 l3 l5 a4 a0 a1 h r2 r3 r5 b2 b3 b5).mono ?_
    rintro e w' ⟨rfl, f⟩
    exact ⟨rfl, f.below (Nat.le_refl _) (fun _ _ h => h)⟩
  · obtain ⟨k, m, rfl, rfl, hk, hm⟩ : ∃ k' m' : Nat, a0 = (k' : Int) ∧ a1 = (m' : Int) ∧ (1 ≤ k' ∧ k' ≤ 16) ∧ m' ≤ 8 := by
      have h' : 1 ≤ a0 ∧ a0 ≤ 16 ∧ 0 ≤ a1 ∧ a1 ≤ 8 := by simpa [okB] using h
      exact ⟨a0.toNat, a1.toNat, by omega, by omega, by omega, by omega⟩
    by_cases hbad : 9000 < l2.length ∨ l3.length < l2.length ∨ 9000 < l3.length ∨ 30 < l5.length ∨ a4 < 0
    · refine (chgWalk_huge w _ _ _ l2 l3 l5 a4 k m hk hm r2 r3 r5 b2 b3 b5 hbad).mono ?_
      rintro e w' ⟨rfl, f⟩
      exact ⟨rfl, f.below (Nat.le_refl _) (fun _ _ h => h)⟩
    · have h4 := bounds_i64 w4
      refine (chgWalk_ok w _ _ _ l2 l3 l5 a4 k m hk hm r2 r3 r5 c5 (by omega) (by omega) (by omega) (by omega) (by omega) (by omega)).mono ?_
      rintro e w' ⟨rfl, f⟩
      exact ⟨rfl, f.below (Nat.le_refl _) (fun _ _ h => h)⟩

set_option maxRecDepth 100000 in
theorem lifted (os : Os) (started : os.Started) (H : Type) (enc : TypeId × Value → H) (F : Stop.Interp) :
    ReturnsInHanded {} Try.checked os 12 .any ((Rows.OpenSpec.upto Rows.rsChangesSpec).pre6 enc Try.prog Try.f12 Rows.rsChangesUptoRow.domain false) (((Rows.OpenSpec.upto Rows.rsChangesSpec).at F).post enc Try.prog Try.f12 false true false false) := by
  refine returnsInHanded_of_cond (C := Try.checked) (s := Rows.OpenSpec.upto Rows.rsChangesSpec) (k := Rows.uptoSmall) rfl own started (by kernel_rfl) Try.func12
    (OpenSpec.witness (enc := enc) (C := Try.checked) (s := Rows.OpenSpec.upto Rows.rsChangesSpec) (k := Rows.uptoSmall) rfl false ⟨#[], #[.int .i64 0, .int .i64 0, .slice none 0 0, .slice none 0 0, .int .i64 0, .slice none 0 0], []⟩ 8 (by kernel_rfl) (by kernel_rfl) (by kernel_rfl)
      (x := ([.lit (.int .i64 0), .lit (.int .i64 0), .nil, .nil, .lit (.int .i64 0), .nil], [], [])) (by kernel_rfl) rfl (by kernel_rfl)) ?_
  intro W base args ds gs before hval0 hW _ hk _
  have hval : ∀ (j : Nat) t v, Try.f12.params[j]? = some t → args[j]? = some v → Value.okWide Try.prog W .any base t v := hval0
  have hW' := hW
  obtain ⟨p, q, hA0, hV, rfl, hfz, hnd⟩ := hW
  have hA : DataW.TrodAll enc Try.prog W 0 (fun _ => true) true Try.f12.params.toList args.toList ds p := hA0
  rw [Try.params12] at hA hval
  obtain ⟨v0, vs0, d0, ds0, p0, q0, hargs, rfl, rfl, h0, q_0⟩ := trodAll_cons hA
  obtain ⟨v1, vs1, d1, ds1, p1, q1, rfl, rfl, rfl, h1, q_1⟩ := trodAll_cons q_0
  obtain ⟨v2, vs2, d2, ds2, p2, q2, rfl, rfl, rfl, h2, q_2⟩ := trodAll_cons q_1
  obtain ⟨v3, vs3, d3, ds3, p3, q3, rfl, rfl, rfl, h3, q_3⟩ := trodAll_cons q_2
  obtain ⟨v4, vs4, d4, ds4, p4, q4, rfl, rfl, rfl, h4, q_4⟩ := trodAll_cons q_3
  obtain ⟨v5, vs5, d5, ds5, p5, q5, rfl, rfl, rfl, h5, q_5⟩ := trodAll_cons q_4
  obtain ⟨rfl, rfl, rfl⟩ := trodAll_nil q_5
  obtain rfl : args = #[v0, v1, v2, v3, v4, v5] := by cases args; simp_all
  obtain ⟨rfl, rfl⟩ := trodVars_none hV
  simp only [List.append_nil] at hW' hk
  have hbk : Rows.uptoBulkAll [d0, d1, d2, d3, d4, d5] ≤ 1048576 := of_decide_eq_true hk
  have hb0 := Nat.le_trans (bulk_mem (show d0 ∈ [d0, d1, d2, d3, d4, d5] by simp)) hbk
  have hb1 := Nat.le_trans (bulk_mem (show d1 ∈ [d0, d1, d2, d3, d4, d5] by simp)) hbk
  have hb2 := Nat.le_trans (bulk_mem (show d2 ∈ [d0, d1, d2, d3, d4, d5] by simp)) hbk
  have hb3 := Nat.le_trans (bulk_mem (show d3 ∈ [d0, d1, d2, d3, d4, d5] by simp)) hbk
  have hb4 := Nat.le_trans (bulk_mem (show d4 ∈ [d0, d1, d2, d3, d4, d5] by simp)) hbk
  have hb5 := Nat.le_trans (bulk_mem (show d5 ∈ [d0, d1, d2, d3, d4, d5] by simp)) hbk
  clear hk hbk
  obtain ⟨a0, rfl, rfl, rfl, w0⟩ := open_int Try.underlying3 (hval 0 3 v0 rfl rfl) h0
  obtain ⟨a1, rfl, rfl, rfl, w1⟩ := open_int Try.underlying3 (hval 1 3 v1 rfl rfl) h1
  obtain ⟨a2, len2, cap2, rfl⟩ := okWide_slice Try.underlying22 (hval 2 22 v2 rfl rfl)
  have k2 := h2
  have lt2 : ∀ x ∈ p2, x.block < W.heap.size := by obtain ⟨m, hm⟩ := k2; exact DataW.trod_lt m _ _ _ hm
  obtain ⟨fuel2, hf2⟩ := h2
  obtain ⟨l2, r2, b2⟩ := open_rd hf2
  obtain ⟨a3, len3, cap3, rfl⟩ := okWide_slice Try.underlying22 (hval 3 22 v3 rfl rfl)
  have k3 := h3
  have lt3 : ∀ x ∈ p3, x.block < W.heap.size := by obtain ⟨m, hm⟩ := k3; exact DataW.trod_lt m _ _ _ hm
  obtain ⟨fuel3, hf3⟩ := h3
  obtain ⟨l3, r3, b3⟩ := open_rd hf3
  obtain ⟨a4, rfl, rfl, rfl, w4⟩ := open_int Try.underlying3 (hval 4 3 v4 rfl rfl) h4
  obtain ⟨a5, len5, cap5, rfl⟩ := okWide_slice Try.underlying25 (hval 5 25 v5 rfl rfl)
  have k5 := h5
  have lt5 : ∀ x ∈ p5, x.block < W.heap.size := by obtain ⟨m, hm⟩ := k5; exact DataW.trod_lt m _ _ _ hm
  obtain ⟨fuel5, hf5⟩ := h5
  obtain ⟨l5, r5, c5, b5⟩ := open_rdi hf5
  clear hA0 hval0
  refine (walk a0 a1 a2 len2 cap2 l2 a3 len3 cap3 l3 a4 a5 len5 cap5 l5 W w0 w1 r2 (Nat.le_trans b2 hb2) r3 (Nat.le_trans b3 hb3) w4 r5 (Nat.le_trans b5 hb5) c5).mono fun e W' ⟨he, bel⟩ => ?_
  subst he
  exact ⟨_, rfl, _, _, _, [], _, [], hW', trodAll_mk1 (shut_bool Try.underlying4 _), (trodAll_cons_mk (shut_int Try.underlying3 w0) (trodAll_cons_mk (shut_int Try.underlying3 w1) (trodAll_cons_mk (Below.trod laidOut (by kernel_rfl) (of_decide_eq_true (by kernel_rfl)) k2 bel lt2) (trodAll_cons_mk (Below.trod laidOut (by kernel_rfl) (of_decide_eq_true (by kernel_rfl)) k3 bel lt3) (trodAll_cons_mk (shut_int Try.underlying3 w4) (trodAll_cons_mk (Below.trod laidOut (by kernel_rfl) (of_decide_eq_true (by kernel_rfl)) k5 bel lt5) trodAll_mk0)))))), rfl, bel.frame _, fun h => by cases h⟩

theorem proved : Rows.RsChangesUptoSaid :=
  OpenClaim.holds_of_cond 12 Try.f12 rfl rfl rfl rfl rfl rfl rfl ⟨rfl, rfl, rfl, rfl, rfl⟩ rfl rfl rfl rfl rfl (by kernel_rfl) Try.func12 (by kernel_rfl)
    (of_decide_eq_true (by kernel_rfl)) (by unfold Func.isWrapper; first | (rw [if_pos (by decide +kernel)]; kernel_rfl) | (rw [if_neg (by decide +kernel)]; exact ⟨rfl, rfl⟩))
    (fun os started H enc _ F => lifted os started H enc F)
end Go.Proofs.Ytckmddkhkdcmmaa.rsChanges

namespace Go.Proofs.Ytckmddkhkdcmmaa
theorem rsChangesUpto_holds : Rows.RsChangesUptoSaid := rsChanges.proved
#print axioms rsChangesUpto_holds
end Go.Proofs.Ytckmddkhkdcmmaa
