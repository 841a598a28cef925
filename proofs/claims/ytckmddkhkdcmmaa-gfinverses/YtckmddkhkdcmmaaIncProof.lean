/-
  Proved: 'granarylaw02.GfInverses' returns true, for every two matrices.
  No condition: the statement is GfInversesSaid itself.
-/
import Derived.Test.YtckmddkhkdcmmaaM30
import Derived.Test.YtckmddkhkdcmmaaM31
import Derived.Test.YtckmddkhkdcmmaaRows
import Derived.WalkKit
import Derived.ProofKit
import Derived.OpenShut
import Derived.ChangeOld
import Derived.Below
namespace Go.Proofs.Ytckmddkhkdcmmaa.gfInverses
set_option linter.unusedVariables false
set_option linter.unusedSimpArgs false
open Go.ChangeShapes Go.WideShapes Go.ChangeAt Go.RowKit
set_option linter.unusedVariables false

theorem own : ownKnob Try.prog.godebug = none := by kernel_rfl
theorem laidOut : laidOutB Try.prog = true := by kernel_rfl
theorem cells24 : Try.prog.cellsOf 24 = 3 := by kernel_rfl

set_option maxRecDepth 100000 in
/-- A matrix that came in. -/
theorem mat_in {H : Type} {enc : TypeId × Value → H} {W : World} {sp : Nat → Bool} {held : Bool} {fuel : Nat} {c0 c1 c2 : Value} {y : DataW H × List MemPlace} (hf : DataW.trod enc Try.prog W 0 sp held fuel 24 [c0, c1, c2] = some y) :
    ∃ (r c : Int) (o : Option Addr) (k : Nat) (l : List UInt8), c0 = .int .i64 r ∧ c1 = .int .i64 c ∧ c2 = .slice o l.length k ∧ Rd W (.slice o l.length k) l := by
  obtain ⟨xs, k, _, hx, hl, hlen, hfl⟩ := DataW.trod_struct Try.underlying24 hf
  match xs, hlen with
  | [y0, y1, y2], _ =>
    have k3 : Try.prog.cellsOf 3 = 1 := by kernel_rfl
    have k22 : Try.prog.cellsOf 22 = 1 := by kernel_rfl
    have e0 : DataW.trod enc Try.prog W 0 sp held k 3 ((([c0, c1, c2] : List Value).drop 0).take (Try.prog.cellsOf 3)) = some y0 := hfl 0 _ rfl
    rw [k3] at e0
    obtain ⟨r, h0, -, w0⟩ := DataW.trod_int Try.underlying3 e0
    have e1 : DataW.trod enc Try.prog W 0 sp held k 3 ((([c0, c1, c2] : List Value).drop 1).take (Try.prog.cellsOf 3)) = some y1 := hfl 1 _ rfl
    rw [k3] at e1
    obtain ⟨c, h1, -, w1⟩ := DataW.trod_int Try.underlying3 e1
    have e2 : DataW.trod enc Try.prog W 0 sp held k 22 ((([c0, c1, c2] : List Value).drop 2).take (Try.prog.cellsOf 22)) = some y2 := hfl 2 _ rfl
    rw [k22] at e2
    obtain ⟨l, rd, -⟩ := open_rd (d := y2.1) (pl := y2.2) e2
    obtain ⟨o, q, e⟩ := rd.shape
    refine ⟨r, c, o, q, l, by simpa using h0, by simpa using h1, e, ?_⟩
    rw [← e]
    exact rd
set_option maxRecDepth 100000 in
theorem open_mat {H : Type} {enc : TypeId × Value → H} {W : World} {b0 : Nat} {sp : Nat → Bool} {held : Bool} {v : Value} {d : DataW H} {ps : List MemPlace} (hval : Value.okWide Try.prog W .any b0 24 v) (hd : DataW.Trod enc Try.prog W 0 sp held 24 v d ps) :
    ∃ (r c : Int) (o : Option Addr) (k : Nat) (l : List UInt8), v = .agg #[.int .i64 r, .int .i64 c, .slice o l.length k] ∧ Rd W (.slice o l.length k) l := by
  obtain ⟨cs, rfl, hcs⟩ := okWide_struct Try.underlying24 hval
  rw [cells24] at hcs
  obtain ⟨fuel, hf⟩ := hd
  obtain ⟨c0, c1, c2, rfl⟩ : ∃ c0 c1 c2, cs = #[c0, c1, c2] := by
    rcases cs with ⟨l⟩
    match l, hcs with
    | [c0, c1, c2], _ => exact ⟨c0, c1, c2, rfl⟩
  obtain ⟨r, c, o, k, l, h0, h1, h2, rd⟩ := mat_in hf
  subst h0 h1 h2
  exact ⟨r, c, o, k, l, rfl, rd⟩

theorem walk (r c : Int) (ao : Option Addr) (ka : Nat) (la : List UInt8) (r2 c2 : Int) (bo : Option Addr) (kb : Nat) (lb : List UInt8) (w : World) (ha : Rd w (.slice ao la.length ka) la) (hb : Rd w (.slice bo lb.length kb) lb) :
    Calls Try.prog 5 #[.agg #[.int .i64 r, .int .i64 c, .slice ao la.length ka], .agg #[.int .i64 r2, .int .i64 c2, .slice bo lb.length kb]] w fun e w' => e = .returned (.bool true) ∧ Below w.heap.size w w' := by
  refine Calls.mono ?_ (fun e w' (h : e = .returned (.bool true) ∧ Fr (fun _ => False) w w') => ⟨h.1, h.2.below (Nat.le_refl _) (fun _ _ h => h)⟩)
  obtain ⟨na, hna⟩ : ∃ n, n = la.length := ⟨_, rfl⟩
  obtain ⟨nb, hnb⟩ : ∃ n, n = lb.length := ⟨_, rfl⟩
  rw [← hna] at ha ⊢
  rw [← hnb] at hb ⊢
  by_cases h1 : wdB r c na = true
  · exact gi_live1 w r c r2 c2 ao bo na ka nb kb h1
  · simp only [Bool.not_eq_true] at h1
    by_cases h2 : wdB r2 c2 nb = true
    · exact gi_live2 w r c r2 c2 ao bo na ka nb kb h1 h2
    · simp only [Bool.not_eq_true] at h2
      by_cases h3 : chk r c na = 0
      · by_cases h4 : chk r2 c2 nb = 0
        · obtain ⟨a1, a2, rfl, rfl, q1, q2, q3⟩ := chk_pos h3
          obtain ⟨b1, b2, rfl, rfl, q4, q5, q6⟩ := chk_pos h4
          exact gi_ok w a1 a2 b1 b2 ao bo na ka nb kb la lb ha hb hna hnb h1 h2 h3 h4 (hna ▸ q3) (hnb ▸ q6) q1 q2 q4 q5
        · exact gi_live4 w r c r2 c2 ao bo na ka nb kb h1 h2 h3 (by simpa using h4)
      · exact gi_live3 w r c r2 c2 ao bo na ka nb kb h1 h2 (by simpa using h3)

set_option maxRecDepth 100000 in
theorem lifted (os : Os) (started : os.Started) (H : Type) (enc : TypeId × Value → H) :
    ReturnsInHanded {} Try.checked os 5 .any (Rows.gfInversesSpec.pre6 enc Try.prog Try.f5 Rows.gfInversesRow.domain false) (Rows.gfInversesSpec.post enc Try.prog Try.f5 false true false false) := by
  refine returnsInHanded_of_change (C := Try.checked) own started (by kernel_rfl) Try.func5
    (ChangeSpec.witness6 (enc := enc) (C := Try.checked) false ⟨#[], #[.agg #[.int .i64 0, .int .i64 0, .slice none 0 0], .agg #[.int .i64 0, .int .i64 0, .slice none 0 0]], []⟩ 8 (by kernel_rfl) (by kernel_rfl) (by kernel_rfl) (by kernel_rfl)) ?_
  intro W base args ds gs before hval0 hW hcnd _
  have hval : ∀ (j : Nat) t v, Try.f5.params[j]? = some t → args[j]? = some v → Value.okWide Try.prog W .any base t v := hval0
  have hW' := hW
  obtain ⟨p, q, hA0, hV, rfl, hfz, hnd⟩ := hW
  have hA : DataW.TrodAll enc Try.prog W 0 (fun _ => true) true Try.f5.params.toList args.toList ds p := hA0
  rw [Try.params5] at hA hval
  obtain ⟨v0, vs0, d0, ds0, p0, q0, hargs, rfl, rfl, h0, r0⟩ := trodAll_cons hA
  obtain ⟨v1, vs1, d1, ds1, p1, q1, rfl, rfl, rfl, h1, r1⟩ := trodAll_cons r0
  obtain ⟨rfl, rfl, rfl⟩ := trodAll_nil r1
  obtain rfl : args = #[v0, v1] := by cases args; simp_all
  obtain ⟨rfl, rfl⟩ := trodVars_none hV
  have k0 := h0
  have lt0 : ∀ x ∈ p0, x.block < W.heap.size := by obtain ⟨m, hm⟩ := k0; exact DataW.trod_lt m _ _ _ hm
  have k1 := h1
  have lt1 : ∀ x ∈ p1, x.block < W.heap.size := by obtain ⟨m, hm⟩ := k1; exact DataW.trod_lt m _ _ _ hm
  obtain ⟨r, c, ao, ka, la, rfl, w1⟩ := open_mat (hval 0 24 v0 rfl rfl) h0
  obtain ⟨r2, c2, bo, kb, lb, rfl, w2⟩ := open_mat (hval 1 24 v1 rfl rfl) h1
  clear hA0 hval0
  refine (walk r c ao ka la r2 c2 bo kb lb W w1 w2).mono fun e W' ⟨he, bel⟩ => ?_
  subst he
  exact ⟨_, rfl, _, _, _, [], _, [], hW', trodAll_mk1 (shut_bool Try.underlying4 _), (trodAll_cons_mk (Below.trod laidOut (by kernel_rfl) (of_decide_eq_true (by kernel_rfl)) k0 bel lt0) (trodAll_cons_mk (Below.trod laidOut (by kernel_rfl) (of_decide_eq_true (by kernel_rfl)) k1 bel lt1) trodAll_mk0)), rfl, bel.frame _, fun h => by cases h⟩

theorem over : Rows.gfInversesRow.holds Try.pinned (OpenSpec.ofChange Rows.gfInversesSpec) :=
  OpenClaim.holds_of_wide 5 Try.f5 rfl rfl rfl rfl rfl rfl rfl ⟨rfl, rfl, rfl, rfl, rfl⟩ rfl rfl rfl rfl rfl (by kernel_rfl) Try.func5 (by kernel_rfl)
    (of_decide_eq_true (by kernel_rfl)) (by unfold Func.isWrapper; first | (rw [if_pos (by decide +kernel)]; kernel_rfl) | (rw [if_neg (by decide +kernel)]; exact ⟨rfl, rfl⟩))
    (fun os started H enc _ => lifted os started H enc)

theorem proved : Rows.GfInversesSaid := over
end Go.Proofs.Ytckmddkhkdcmmaa.gfInverses

namespace Go.Proofs.Ytckmddkhkdcmmaa
set_option linter.unusedVariables false
set_option linter.unusedSimpArgs false
theorem gfInverses_holds : Rows.GfInversesSaid := gfInverses.proved
#print axioms gfInverses_holds
end Go.Proofs.Ytckmddkhkdcmmaa
