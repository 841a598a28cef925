/-
  Proved: 'granarylaw02.GfMatrices' returns true, for every two matrices, numbers and bytes.
  No condition: the statement is GfMatricesSaid itself.
-/
import Derived.Test.YtckmddkhkdcmmaaM31
import Derived.Test.YtckmddkhkdcmmaaM32
import Derived.Test.YtckmddkhkdcmmaaRows
import Derived.WalkKit
import Derived.ProofKit
import Derived.OpenShut
import Derived.ChangeOld
import Derived.Below
namespace Go.Proofs.Ytckmddkhkdcmmaa.gfMatrices
set_option linter.unusedVariables false
set_option linter.unusedSimpArgs false
open Go.ChangeShapes Go.WideShapes Go.ChangeAt Go.RowKit
set_option linter.unusedVariables false

theorem own : ownKnob Try.prog.godebug = none := by kernel_rfl
theorem laidOut : laidOutB Try.prog = true := by kernel_rfl
theorem cells24 : Try.prog.cellsOf 24 = 3 := by kernel_rfl
theorem cells27 : Try.prog.cellsOf 27 = 8 := by kernel_rfl

set_option maxRecDepth 100000 in
/-- A matrix that came in. -/
theorem mat_in {H : Type} {enc : TypeId × Value → H} {W : World} {sp : Nat → Bool} {held : Bool} {fuel : Nat} {c0 c1 c2 : Value} {y : DataW H × List MemPlace} (hf : DataW.trod enc Try.prog W 0 sp held fuel 24 [c0, c1, c2] = some y) :
    ∃ (r c : Int) (o : Option Addr) (k : Nat) (l : List UInt8), c0 = .int .i64 r ∧ c1 = .int .i64 c ∧ c2 = .slice o l.length k ∧ Rd W (.slice o l.length k) l := by
  obtain ⟨xs, k, _, hx, hl, hlen, hfl⟩ := DataW.trod_struct Try.underlying24 hf
  match xs, hlen with
  | [y0, y1, y2], _ =>
    have k3 : Try.prog.cellsOf 3 = 1 := by kernel_rfl
    have k22 : Try.prog.cellsOf 22 = 1 := by kernel_rfl
    have e0 : DataW.trod enc Try.prog W 0 sp held k 3 ((([c0, c1, c2] : List Value).drop 0).take (Try.prog.cellsOf 3)) = some y0 := hfl 0 _ rfl
    rw [k3] at e0
    obtain ⟨r, h0, -, w0⟩ := DataW.trod_int Try.underlying3 e0
    have e1 : DataW.trod enc Try.prog W 0 sp held k 3 ((([c0, c1, c2] : List Value).drop 1).take (Try.prog.cellsOf 3)) = some y1 := hfl 1 _ rfl
    rw [k3] at e1
    obtain ⟨c, h1, -, w1⟩ := DataW.trod_int Try.underlying3 e1
    have e2 : DataW.trod enc Try.prog W 0 sp held k 22 ((([c0, c1, c2] : List Value).drop 2).take (Try.prog.cellsOf 22)) = some y2 := hfl 2 _ rfl
    rw [k22] at e2
    obtain ⟨l, rd, -⟩ := open_rd (d := y2.1) (pl := y2.2) e2
    obtain ⟨o, q, e⟩ := rd.shape
    refine ⟨r, c, o, q, l, by simpa using h0, by simpa using h1, e, ?_⟩
    rw [← e]
    exact rd
set_option maxRecDepth 100000 in
theorem open_lots {H : Type} {enc : TypeId × Value → H} {W : World} {b0 : Nat} {sp : Nat → Bool} {held : Bool} {v : Value} {d : DataW H} {ps : List MemPlace} (hval : Value.okWide Try.prog W .any b0 27 v) (hd : DataW.Trod enc Try.prog W 0 sp held 27 v d ps) :
    ∃ (r c r2 c2 : Int) (ao bo wo yo : Option Addr) (na ca nb cb nw cw ny cy : Nat) (la lb ly : List UInt8) (xs : List Int), v = .agg #[.int .i64 r, .int .i64 c, .slice ao na ca, .int .i64 r2, .int .i64 c2, .slice bo nb cb, .slice wo nw cw, .slice yo ny cy] ∧ Rd W (.slice ao na ca) la ∧ Rd W (.slice bo nb cb) lb ∧ RdV W (.slice wo nw cw) (ivs xs) ∧ Rd W (.slice yo ny cy) ly ∧ na = la.length ∧ nb = lb.length ∧ nw = xs.length ∧ ny = ly.length := by
  obtain ⟨cs, rfl, hcs⟩ := okWide_struct Try.underlying27 hval
  rw [cells27] at hcs
  obtain ⟨fuel, hf⟩ := hd
  obtain ⟨xs, k, _, hx, hl, hlen, hfl⟩ := DataW.trod_struct Try.underlying27 hf
  obtain ⟨c0, c1, c2, c3, c4, c5, c6, c7, rfl⟩ : ∃ c0 c1 c2 c3 c4 c5 c6 c7, cs = #[c0, c1, c2, c3, c4, c5, c6, c7] := by
    rcases cs with ⟨l⟩
    match l, hcs with
    | [c0, c1, c2, c3, c4, c5, c6, c7], _ => exact ⟨c0, c1, c2, c3, c4, c5, c6, c7, rfl⟩
  match xs, hlen with
  | [y0, y1, y2, y3], _ =>
    have k25 : Try.prog.cellsOf 25 = 1 := by kernel_rfl
    have k22 : Try.prog.cellsOf 22 = 1 := by kernel_rfl
    have e0 : DataW.trod enc Try.prog W 0 sp held k 24 ((([c0, c1, c2, c3, c4, c5, c6, c7] : List Value).drop 0).take (Try.prog.cellsOf 24)) = some y0 := hfl 0 _ rfl
    rw [cells24] at e0
    obtain ⟨r, c, ao, ca, la, h0, h1, h2, rA⟩ := mat_in e0
    have e1 : DataW.trod enc Try.prog W 0 sp held k 24 ((([c0, c1, c2, c3, c4, c5, c6, c7] : List Value).drop 3).take (Try.prog.cellsOf 24)) = some y1 := hfl 1 _ rfl
    rw [cells24] at e1
    obtain ⟨r2, c2', bo, cb, lb, h3, h4, h5, rB⟩ := mat_in e1
    have e2 : DataW.trod enc Try.prog W 0 sp held k 25 ((([c0, c1, c2, c3, c4, c5, c6, c7] : List Value).drop 6).take (Try.prog.cellsOf 25)) = some y2 := hfl 2 _ rfl
    rw [k25] at e2
    obtain ⟨zs, rW, -, -⟩ := open_rdi (d := y2.1) (pl := y2.2) e2
    have e3 : DataW.trod enc Try.prog W 0 sp held k 22 ((([c0, c1, c2, c3, c4, c5, c6, c7] : List Value).drop 7).take (Try.prog.cellsOf 22)) = some y3 := hfl 3 _ rfl
    rw [k22] at e3
    obtain ⟨ly, rY, -⟩ := open_rd (d := y3.1) (pl := y3.2) e3
    obtain ⟨wo, cw, h6⟩ := rW.shape
    obtain ⟨yo, cy, h7⟩ := rY.shape
    rw [List.length_map] at h6
    subst h0 h1 h2 h3 h4 h5 h6 h7
    exact ⟨r, c, r2, c2', ao, bo, wo, yo, _, ca, _, cb, _, cw, _, cy, la, lb, ly, zs, rfl, rA, rB, rW, rY, rfl, rfl, rfl, rfl⟩

theorem walk (r c r2 c2 : Int) (ao bo wo yo : Option Addr) (na ca nb cb nw cw ny cy : Nat) (la lb ly : List UInt8) (xs : List Int) (w : World) (ha : Rd w (.slice ao na ca) la) (hb : Rd w (.slice bo nb cb) lb) (hw : RdV w (.slice wo nw cw) (ivs xs)) (hy : Rd w (.slice yo ny cy) ly) (hna : na = la.length) (hnb : nb = lb.length) (hnw : nw = xs.length) (hny : ny = ly.length) :
    Calls Try.prog 3 #[.agg #[.int .i64 r, .int .i64 c, .slice ao na ca, .int .i64 r2, .int .i64 c2, .slice bo nb cb, .slice wo nw cw, .slice yo ny cy]] w fun e w' => e = .returned (.bool true) ∧ Below w.heap.size w w' := by
  refine Calls.mono ?_ (fun e w' (h : e = .returned (.bool true) ∧ Fr (fun _ => False) w w') => ⟨h.1, h.2.below (Nat.le_refl _) (fun _ _ h => h)⟩)
  by_cases h1 : wdB r c na = true
  · exact gm_live1 w r c r2 c2 ao bo wo yo na ca nb cb nw cw ny cy la lb ly xs h1
  · simp only [Bool.not_eq_true] at h1
    by_cases h2 : wdB r2 c2 nb = true
    · exact gm_live2 w r c r2 c2 ao bo wo yo na ca nb cb nw cw ny cy la lb ly xs h1 h2
    · simp only [Bool.not_eq_true] at h2
      by_cases h3 : (100 : Int) < ((nw : Nat) : Int)
      · exact gm_live3 w r c r2 c2 ao bo wo yo na ca nb cb nw cw ny cy la lb ly xs h1 h2 h3
      · by_cases h4 : (4000 : Int) < ((ny : Nat) : Int)
        · exact gm_live4 w r c r2 c2 ao bo wo yo na ca nb cb nw cw ny cy la lb ly xs h1 h2 h3 h4
        · exact gm_ok w r c r2 c2 ao bo wo yo na ca nb cb nw cw ny cy la lb ly xs ha hb hw hy hna hnb hnw hny h1 h2 h3 h4

set_option maxRecDepth 100000 in
theorem lifted (os : Os) (started : os.Started) (H : Type) (enc : TypeId × Value → H) :
    ReturnsInHanded {} Try.checked os 3 .any (Rows.gfMatricesSpec.pre6 enc Try.prog Try.f3 Rows.gfMatricesRow.domain false) (Rows.gfMatricesSpec.post enc Try.prog Try.f3 false true false false) := by
  refine returnsInHanded_of_change (C := Try.checked) own started (by kernel_rfl) Try.func3
    (ChangeSpec.witness6 (enc := enc) (C := Try.checked) false ⟨#[], #[.agg #[.int .i64 0, .int .i64 0, .slice none 0 0, .int .i64 0, .int .i64 0, .slice none 0 0, .slice none 0 0, .slice none 0 0]], []⟩ 8 (by kernel_rfl) (by kernel_rfl) (by kernel_rfl) (by kernel_rfl)) ?_
  intro W base args ds gs before hval0 hW hcnd _
  have hval : ∀ (j : Nat) t v, Try.f3.params[j]? = some t → args[j]? = some v → Value.okWide Try.prog W .any base t v := hval0
  have hW' := hW
  obtain ⟨p, q, hA0, hV, rfl, hfz, hnd⟩ := hW
  have hA : DataW.TrodAll enc Try.prog W 0 (fun _ => true) true Try.f3.params.toList args.toList ds p := hA0
  rw [Try.params3] at hA hval
  obtain ⟨v0, vs0, d0, ds0, p0, q0, hargs, rfl, rfl, h0, r0⟩ := trodAll_cons hA
  obtain ⟨rfl, rfl, rfl⟩ := trodAll_nil r0
  obtain rfl : args = #[v0] := by cases args; simp_all
  obtain ⟨rfl, rfl⟩ := trodVars_none hV
  have k0 := h0
  have lt0 : ∀ x ∈ p0, x.block < W.heap.size := by obtain ⟨m, hm⟩ := k0; exact DataW.trod_lt m _ _ _ hm
  obtain ⟨r, c, r2, c2, ao, bo, wo, yo, na, ca, nb, cb, nw, cw, ny, cy, la, lb, ly, xs, rfl, w1, w2, w3, w4, w5, w6, w7, w8⟩ := open_lots (hval 0 27 v0 rfl rfl) h0
  clear hA0 hval0
  refine (walk r c r2 c2 ao bo wo yo na ca nb cb nw cw ny cy la lb ly xs W w1 w2 w3 w4 w5 w6 w7 w8).mono fun e W' ⟨he, bel⟩ => ?_
  subst he
  exact ⟨_, rfl, _, _, _, [], _, [], hW', trodAll_mk1 (shut_bool Try.underlying4 _), (trodAll_cons_mk (Below.trod laidOut (by kernel_rfl) (of_decide_eq_true (by kernel_rfl)) k0 bel lt0) trodAll_mk0), rfl, bel.frame _, fun h => by cases h⟩

theorem over : Rows.gfMatricesRow.holds Try.pinned (OpenSpec.ofChange Rows.gfMatricesSpec) :=
  OpenClaim.holds_of_wide 3 Try.f3 rfl rfl rfl rfl rfl rfl rfl ⟨rfl, rfl, rfl, rfl, rfl⟩ rfl rfl rfl rfl rfl (by kernel_rfl) Try.func3 (by kernel_rfl)
    (of_decide_eq_true (by kernel_rfl)) (by unfold Func.isWrapper; first | (rw [if_pos (by decide +kernel)]; kernel_rfl) | (rw [if_neg (by decide +kernel)]; exact ⟨rfl, rfl⟩))
    (fun os started H enc _ => lifted os started H enc)

theorem proved : Rows.GfMatricesSaid := over
end Go.Proofs.Ytckmddkhkdcmmaa.gfMatrices

namespace Go.Proofs.Ytckmddkhkdcmmaa
set_option linter.unusedVariables false
set_option linter.unusedSimpArgs false
theorem gfMatrices_holds : Rows.GfMatricesSaid := gfMatrices.proved
#print axioms gfMatrices_holds
end Go.Proofs.Ytckmddkhkdcmmaa
