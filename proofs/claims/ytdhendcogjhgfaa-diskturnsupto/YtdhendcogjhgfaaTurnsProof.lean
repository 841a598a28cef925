/-
  DiskTurns holds where what it reads is of bounded bulk: a turned sector alone is another, and a second injury is refused.
-/
import Derived.Test.YtdhendcogjhgfaaTurnsWalk
import Derived.Test.YtdhendcogjhgfaaArg
import Derived.WalkKit
import Derived.JoinedCond
namespace Go.Proofs.Ytdhendcogjhgfaa.diskTurns
open Go.ChangeShapes Go.WideShapes Go.ChangeAt Go.RowKit
set_option linter.unusedVariables false

theorem own : ownKnob Try.prog.godebug = none := by kernel_rfl
theorem laidOut : laidOutB Try.prog = true := by kernel_rfl
theorem cellsT : Try.prog.cellsOf 67 = 5 := by kernel_rfl

set_option maxRecDepth 100000 in
/-- The struct that came in. -/
theorem open_arg {H : Type} {enc : TypeId × Value → H} {W : World} {b0 : Nat} {sp : Nat → Bool} {held : Bool} {v : Value} {d : DataW H} {ps : List MemPlace} (hval : Value.okWide Try.prog W .any b0 67 v) (hd : DataW.Trod enc Try.prog W 0 sp held 67 v d ps) (hb : Rows.uptoBulk d ≤ 1048576) :
    ∃ a0 a2 a3 a4 v' l, v = .agg #[.int .i64 a0, v', .int .i64 a2, .int .i64 a3, .int .u32 a4] ∧ RdS W v' l ∧ (Lit.int .i64 a0).wf = true ∧ (Lit.int .i64 a2).wf = true ∧ (Lit.int .i64 a3).wf = true ∧ (Lit.int .u32 a4).wf = true := by
  obtain ⟨cs, rfl, hcs⟩ := okWide_struct Try.underlying67 hval
  rw [cellsT] at hcs
  obtain ⟨fuel, hf⟩ := hd
  obtain ⟨xs, k, _, hx, hl, hlen, hfl⟩ := DataW.trod_struct Try.underlying67 hf
  simp only [Prod.mk.injEq] at hx
  obtain ⟨c0, c1, c2, c3, c4, rfl⟩ : ∃ c0 c1 c2 c3 c4, cs = #[c0, c1, c2, c3, c4] := by
    rcases cs with ⟨l⟩
    match l, hcs with
    | [c0, c1, c2, c3, c4], _ => exact ⟨c0, c1, c2, c3, c4, rfl⟩
  match xs, hlen with
  | [y0, y1, y2, y3, y4], _ =>
    have b : ∀ x ∈ [y0, y1, y2, y3, y4], Rows.uptoBulk x.1 ≤ 1048576 := fun x hx' => by
      have := bulk_mem (List.mem_map.2 ⟨x, hx', rfl⟩ : x.1 ∈ [y0, y1, y2, y3, y4].map (·.1))
      rw [hx.1] at hb
      simp only [Rows.uptoBulk] at hb
      omega
    have k0 : Try.prog.cellsOf 3 = 1 := by kernel_rfl
    have e0 : DataW.trod enc Try.prog W 0 sp held k 3 ((([c0, c1, c2, c3, c4] : List Value).drop 0).take (Try.prog.cellsOf 3)) = some y0 := hfl 0 _ rfl
    rw [k0] at e0
    obtain ⟨a0, h0, -, w0⟩ := DataW.trod_int Try.underlying3 e0
    have k1 : Try.prog.cellsOf 22 = 1 := by kernel_rfl
    have e1 : DataW.trod enc Try.prog W 0 sp held k 22 ((([c0, c1, c2, c3, c4] : List Value).drop 1).take (Try.prog.cellsOf 22)) = some y1 := hfl 1 _ rfl
    rw [k1] at e1
    obtain ⟨l, r⟩ := open_steps e1 (b y1 (by simp))
    have k2 : Try.prog.cellsOf 3 = 1 := by kernel_rfl
    have e2 : DataW.trod enc Try.prog W 0 sp held k 3 ((([c0, c1, c2, c3, c4] : List Value).drop 2).take (Try.prog.cellsOf 3)) = some y2 := hfl 2 _ rfl
    rw [k2] at e2
    obtain ⟨a2, h2, -, w2⟩ := DataW.trod_int Try.underlying3 e2
    have k3 : Try.prog.cellsOf 3 = 1 := by kernel_rfl
    have e3 : DataW.trod enc Try.prog W 0 sp held k 3 ((([c0, c1, c2, c3, c4] : List Value).drop 3).take (Try.prog.cellsOf 3)) = some y3 := hfl 3 _ rfl
    rw [k3] at e3
    obtain ⟨a3, h3, -, w3⟩ := DataW.trod_int Try.underlying3 e3
    have k4 : Try.prog.cellsOf 35 = 1 := by kernel_rfl
    have e4 : DataW.trod enc Try.prog W 0 sp held k 35 ((([c0, c1, c2, c3, c4] : List Value).drop 4).take (Try.prog.cellsOf 35)) = some y4 := hfl 4 _ rfl
    rw [k4] at e4
    obtain ⟨a4, h4, -, w4⟩ := DataW.trod_int Try.underlying35 e4
    obtain rfl : c0 = .int .i64 a0 := by simpa using h0
    obtain rfl : c2 = .int .i64 a2 := by simpa using h2
    obtain rfl : c3 = .int .i64 a3 := by simpa using h3
    obtain rfl : c4 = .int .u32 a4 := by simpa using h4
    exact ⟨a0, a2, a3, a4, c1, l, rfl, r, w0, w2, w3, w4⟩

theorem walk (a0 a2 a3 a4 : Int) (v : Value) (l : List Sp) (w : World) (r : RdS w v l) (w0 : (Lit.int .i64 a0).wf = true) (w2 : (Lit.int .i64 a2).wf = true) (w3 : (Lit.int .i64 a3).wf = true) (w4 : (Lit.int .u32 a4).wf = true) :
    Calls Try.prog 7 #[.agg #[.int .i64 a0, v, .int .i64 a2, .int .i64 a3, .int .u32 a4]] w fun e w' => e = .returned (.bool true) ∧ Below w.heap.size w w' := by
  have hb := bounds_u32 w4
  obtain ⟨m, rfl⟩ : ∃ m : Nat, a4 = (m : Int) := ⟨a4.toNat, by omega⟩
  exact (diskTurns_any w a0 a2 a3 m (by omega) v l r).mono fun e w' ⟨h1, h2⟩ => ⟨h1, h2.below (Nat.le_refl _) (fun _ _ h => h)⟩


set_option maxRecDepth 100000 in
theorem lifted (os : Os) (started : os.Started) (H : Type) (enc : TypeId × Value → H) (F : Stop.Interp) :
    ReturnsInHanded {} Try.checked os 7 .any ((Rows.OpenSpec.upto Rows.diskTurnsSpec).pre6 enc Try.prog Try.f7 Rows.diskTurnsUptoRow.domain false) (((Rows.OpenSpec.upto Rows.diskTurnsSpec).at F).post enc Try.prog Try.f7 false true false false) := by
  refine returnsInHanded_of_cond (C := Try.checked) (s := Rows.OpenSpec.upto Rows.diskTurnsSpec) (k := Rows.uptoSmall) rfl own started (by kernel_rfl) Try.func7
    (OpenSpec.witness (enc := enc) (C := Try.checked) (s := Rows.OpenSpec.upto Rows.diskTurnsSpec) (k := Rows.uptoSmall) rfl false ⟨#[], #[.agg #[.int .i64 0, .slice none 0 0, .int .i64 0, .int .i64 0, .int .u32 0]], []⟩ 8 (by kernel_rfl) (by kernel_rfl) (by kernel_rfl)
      (x := ([.agg [.lit (.int .i64 0), .nil, .lit (.int .i64 0), .lit (.int .i64 0), .lit (.int .u32 0)]], [], [])) (by kernel_rfl) rfl (by kernel_rfl)) ?_
  intro W base args ds gs before hval0 hW _ hk _
  have hval : ∀ (j : Nat) t v, Try.f7.params[j]? = some t → args[j]? = some v → Value.okWide Try.prog W .any base t v := hval0
  have hW' := hW
  obtain ⟨p, q, hA0, hV, rfl, hfz, hnd⟩ := hW
  have hA : DataW.TrodAll enc Try.prog W 0 (fun _ => true) true Try.f7.params.toList args.toList ds p := hA0
  rw [Try.params7] at hA hval
  obtain ⟨v0, vs0, d0, ds0, p0, q0, hargs, rfl, rfl, h0, q_0⟩ := trodAll_cons hA
  obtain ⟨rfl, rfl, rfl⟩ := trodAll_nil q_0
  obtain rfl : args = #[v0] := by cases args; simp_all
  obtain ⟨rfl, rfl⟩ := trodVars_none hV
  simp only [List.append_nil] at hW' hk
  have hbk : Rows.uptoBulkAll [d0] ≤ 1048576 := of_decide_eq_true hk
  have hb0 := Nat.le_trans (bulk_mem (show d0 ∈ [d0] by simp)) hbk
  clear hk hbk
  have k0 := h0
  have lt0 : ∀ x ∈ p0, x.block < W.heap.size := by obtain ⟨m, hm⟩ := k0; exact DataW.trod_lt m _ _ _ hm
  obtain ⟨a0, a2, a3, a4, v, l, rfl, r, w0, w2, w3, w4⟩ := open_arg (hval 0 67 v0 rfl rfl) h0 hb0
  clear hA0 hval0
  refine (walk a0 a2 a3 a4 v l W r w0 w2 w3 w4).mono fun e W' ⟨he, bel⟩ => ?_
  subst he
  exact ⟨_, rfl, _, _, _, [], _, [], hW', trodAll_mk1 (shut_bool Try.underlying4 _), (trodAll_cons_mk (Below.trod laidOut (by kernel_rfl) (of_decide_eq_true (by kernel_rfl)) k0 bel lt0) trodAll_mk0), rfl, bel.frame _, fun h => by cases h⟩

theorem proved : Rows.DiskTurnsUptoSaid :=
  OpenClaim.holds_of_cond 7 Try.f7 rfl rfl rfl rfl rfl rfl rfl ⟨rfl, rfl, rfl, rfl, rfl⟩ rfl rfl rfl rfl rfl (by kernel_rfl) Try.func7 (by kernel_rfl)
    (of_decide_eq_true (by kernel_rfl)) (by unfold Func.isWrapper; first | (rw [if_pos (by decide +kernel)]; kernel_rfl) | (rw [if_neg (by decide +kernel)]; exact ⟨rfl, rfl⟩))
    (fun os started H enc _ F => lifted os started H enc F)
end Go.Proofs.Ytdhendcogjhgfaa.diskTurns

namespace Go.Proofs.Ytdhendcogjhgfaa
theorem diskTurnsUpto_holds : Rows.DiskTurnsUptoSaid := diskTurns.proved
#print axioms diskTurnsUpto_holds
end Go.Proofs.Ytdhendcogjhgfaa
