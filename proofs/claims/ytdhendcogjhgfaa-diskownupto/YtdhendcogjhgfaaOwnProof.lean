/-
  DiskOwn holds where what it reads is of bounded bulk: one reads one's own writes, and a stable write heals its sector alone.
-/
import Derived.Test.YtdhendcogjhgfaaOwnWalk
import Derived.Test.YtdhendcogjhgfaaArg
import Derived.WalkKit
import Derived.JoinedCond
namespace Go.Proofs.Ytdhendcogjhgfaa.diskOwn
open Go.ChangeShapes Go.WideShapes Go.ChangeAt Go.RowKit
set_option linter.unusedVariables false

theorem own : ownKnob Try.prog.godebug = none := by kernel_rfl
theorem laidOut : laidOutB Try.prog = true := by kernel_rfl
theorem cellsT : Try.prog.cellsOf 58 = 4 := by kernel_rfl

set_option maxRecDepth 100000 in
/-- The struct that came in. -/
theorem open_arg {H : Type} {enc : TypeId × Value → H} {W : World} {b0 : Nat} {sp : Nat → Bool} {held : Bool} {v : Value} {d : DataW H} {ps : List MemPlace} (hval : Value.okWide Try.prog W .any b0 58 v) (hd : DataW.Trod enc Try.prog W 0 sp held 58 v d ps) (hb : Rows.uptoBulk d ≤ 1048576) :
    ∃ a0 a2 a3 v' l, v = .agg #[.int .i64 a0, v', .int .i64 a2, .int .u8 a3] ∧ RdS W v' l ∧ (Lit.int .i64 a0).wf = true ∧ (Lit.int .i64 a2).wf = true ∧ (Lit.int .u8 a3).wf = true := by
  obtain ⟨cs, rfl, hcs⟩ := okWide_struct Try.underlying58 hval
  rw [cellsT] at hcs
  obtain ⟨fuel, hf⟩ := hd
  obtain ⟨xs, k, _, hx, hl, hlen, hfl⟩ := DataW.trod_struct Try.underlying58 hf
  simp only [Prod.mk.injEq] at hx
  obtain ⟨c0, c1, c2, c3, rfl⟩ : ∃ c0 c1 c2 c3, cs = #[c0, c1, c2, c3] := by
    rcases cs with ⟨l⟩
    match l, hcs with
    | [c0, c1, c2, c3], _ => exact ⟨c0, c1, c2, c3, rfl⟩
  match xs, hlen with
  | [y0, y1, y2, y3], _ =>
    have b : ∀ x ∈ [y0, y1, y2, y3], Rows.uptoBulk x.1 ≤ 1048576 := fun x hx' => by
      have := bulk_mem (List.mem_map.2 ⟨x, hx', rfl⟩ : x.1 ∈ [y0, y1, y2, y3].map (·.1))
      rw [hx.1] at hb
      simp only [Rows.uptoBulk] at hb
      omega
    have k0 : Try.prog.cellsOf 3 = 1 := by kernel_rfl
    have e0 : DataW.trod enc Try.prog W 0 sp held k 3 ((([c0, c1, c2, c3] : List Value).drop 0).take (Try.prog.cellsOf 3)) = some y0 := hfl 0 _ rfl
    rw [k0] at e0
    obtain ⟨a0, h0, -, w0⟩ := DataW.trod_int Try.underlying3 e0
    have k1 : Try.prog.cellsOf 22 = 1 := by kernel_rfl
    have e1 : DataW.trod enc Try.prog W 0 sp held k 22 ((([c0, c1, c2, c3] : List Value).drop 1).take (Try.prog.cellsOf 22)) = some y1 := hfl 1 _ rfl
    rw [k1] at e1
    obtain ⟨l, r⟩ := open_steps e1 (b y1 (by simp))
    have k2 : Try.prog.cellsOf 3 = 1 := by kernel_rfl
    have e2 : DataW.trod enc Try.prog W 0 sp held k 3 ((([c0, c1, c2, c3] : List Value).drop 2).take (Try.prog.cellsOf 3)) = some y2 := hfl 2 _ rfl
    rw [k2] at e2
    obtain ⟨a2, h2, -, w2⟩ := DataW.trod_int Try.underlying3 e2
    have k3 : Try.prog.cellsOf 5 = 1 := by kernel_rfl
    have e3 : DataW.trod enc Try.prog W 0 sp held k 5 ((([c0, c1, c2, c3] : List Value).drop 3).take (Try.prog.cellsOf 5)) = some y3 := hfl 3 _ rfl
    rw [k3] at e3
    obtain ⟨a3, h3, -, w3⟩ := DataW.trod_int Try.underlying5 e3
    obtain rfl : c0 = .int .i64 a0 := by simpa using h0
    obtain rfl : c2 = .int .i64 a2 := by simpa using h2
    obtain rfl : c3 = .int .u8 a3 := by simpa using h3
    exact ⟨a0, a2, a3, c1, l, rfl, r, w0, w2, w3⟩

theorem walk (a0 a2 a3 : Int) (v : Value) (l : List Sp) (w : World) (r : RdS w v l) (w0 : (Lit.int .i64 a0).wf = true) (w2 : (Lit.int .i64 a2).wf = true) (w3 : (Lit.int .u8 a3).wf = true) :
    Calls Try.prog 6 #[.agg #[.int .i64 a0, v, .int .i64 a2, .int .u8 a3]] w fun e w' => e = .returned (.bool true) ∧ Below w.heap.size w w' := by
  have hb := bounds_u8 w3
  obtain ⟨c, rfl⟩ : ∃ c : UInt8, a3 = ((c.toNat : Nat) : Int) := ⟨UInt8.ofNat a3.toNat, (byte_nat a3 hb.1 (by omega)).symm⟩
  exact (diskOwn_any w a0 a2 c v l r).mono fun e w' ⟨h1, h2⟩ => ⟨h1, h2.below (Nat.le_refl _) (fun _ _ h => h)⟩


set_option maxRecDepth 100000 in
theorem lifted (os : Os) (started : os.Started) (H : Type) (enc : TypeId × Value → H) (F : Stop.Interp) :
    ReturnsInHanded {} Try.checked os 6 .any ((Rows.OpenSpec.upto Rows.diskOwnSpec).pre6 enc Try.prog Try.f6 Rows.diskOwnUptoRow.domain false) (((Rows.OpenSpec.upto Rows.diskOwnSpec).at F).post enc Try.prog Try.f6 false true false false) := by
  refine returnsInHanded_of_cond (C := Try.checked) (s := Rows.OpenSpec.upto Rows.diskOwnSpec) (k := Rows.uptoSmall) rfl own started (by kernel_rfl) Try.func6
    (OpenSpec.witness (enc := enc) (C := Try.checked) (s := Rows.OpenSpec.upto Rows.diskOwnSpec) (k := Rows.uptoSmall) rfl false ⟨#[], #[.agg #[.int .i64 0, .slice none 0 0, .int .i64 0, .int .u8 0]], []⟩ 8 (by kernel_rfl) (by kernel_rfl) (by kernel_rfl)
      (x := ([.agg [.lit (.int .i64 0), .nil, .lit (.int .i64 0), .lit (.int .u8 0)]], [], [])) (by kernel_rfl) rfl (by kernel_rfl)) ?_
  intro W base args ds gs before hval0 hW _ hk _
  have hval : ∀ (j : Nat) t v, Try.f6.params[j]? = some t → args[j]? = some v → Value.okWide Try.prog W .any base t v := hval0
  have hW' := hW
  obtain ⟨p, q, hA0, hV, rfl, hfz, hnd⟩ := hW
  have hA : DataW.TrodAll enc Try.prog W 0 (fun _ => true) true Try.f6.params.toList args.toList ds p := hA0
  rw [Try.params6] at hA hval
  obtain ⟨v0, vs0, d0, ds0, p0, q0, hargs, rfl, rfl, h0, q_0⟩ := trodAll_cons hA
  obtain ⟨rfl, rfl, rfl⟩ := trodAll_nil q_0
  obtain rfl : args = #[v0] := by cases args; simp_all
  obtain ⟨rfl, rfl⟩ := trodVars_none hV
  simp only [List.append_nil] at hW' hk
  have hbk : Rows.uptoBulkAll [d0] ≤ 1048576 := of_decide_eq_true hk
  have hb0 := Nat.le_trans (bulk_mem (show d0 ∈ [d0] by simp)) hbk
  clear hk hbk
  have k0 := h0
  have lt0 : ∀ x ∈ p0, x.block < W.heap.size := by obtain ⟨m, hm⟩ := k0; exact DataW.trod_lt m _ _ _ hm
  obtain ⟨a0, a2, a3, v, l, rfl, r, w0, w2, w3⟩ := open_arg (hval 0 58 v0 rfl rfl) h0 hb0
  clear hA0 hval0
  refine (walk a0 a2 a3 v l W r w0 w2 w3).mono fun e W' ⟨he, bel⟩ => ?_
  subst he
  exact ⟨_, rfl, _, _, _, [], _, [], hW', trodAll_mk1 (shut_bool Try.underlying4 _), (trodAll_cons_mk (Below.trod laidOut (by kernel_rfl) (of_decide_eq_true (by kernel_rfl)) k0 bel lt0) trodAll_mk0), rfl, bel.frame _, fun h => by cases h⟩

theorem proved : Rows.DiskOwnUptoSaid :=
  OpenClaim.holds_of_cond 6 Try.f6 rfl rfl rfl rfl rfl rfl rfl ⟨rfl, rfl, rfl, rfl, rfl⟩ rfl rfl rfl rfl rfl (by kernel_rfl) Try.func6 (by kernel_rfl)
    (of_decide_eq_true (by kernel_rfl)) (by unfold Func.isWrapper; first | (rw [if_pos (by decide +kernel)]; kernel_rfl) | (rw [if_neg (by decide +kernel)]; exact ⟨rfl, rfl⟩))
    (fun os started H enc _ F => lifted os started H enc F)
end Go.Proofs.Ytdhendcogjhgfaa.diskOwn

namespace Go.Proofs.Ytdhendcogjhgfaa
theorem diskOwnUpto_holds : Rows.DiskOwnUptoSaid := diskOwn.proved
#print axioms diskOwnUpto_holds
end Go.Proofs.Ytdhendcogjhgfaa
