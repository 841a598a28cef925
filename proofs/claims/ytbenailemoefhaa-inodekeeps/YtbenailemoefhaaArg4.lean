/-
  What is to be set, that came in.
-/
import Derived.Test.YtbenailemoefhaaArg2
namespace Go.Proofs.Ytbenailemoefhaa
open Go.ChangeShapes Go.WideShapes Go.ChangeAt Go.RowKit
set_option linter.unusedVariables false
set_option linter.unusedSimpArgs false

set_option maxRecDepth 100000 in
theorem open_sa2 {H : Type} {enc : TypeId × Value → H} {W : World} {b0 : Nat} {sp : Nat → Bool} {held : Bool} {v : Value} {d : DataW H} {ps : List MemPlace} (hval : Value.okWide Try.prog W .any b0 52 v) (hd : DataW.Trod enc Try.prog W 0 sp held 52 v d ps) :
    ∃ x : Sa, v = x.v ∧ (-9223372036854775808 ≤ x.h ∧ x.h < 9223372036854775808) ∧ (0 ≤ x.m ∧ x.m < 4294967296) := by
  obtain ⟨cs, rfl, hcs⟩ := okWide_struct Try.underlying52 hval
  rw [cells52] at hcs
  obtain ⟨fuel, hf⟩ := hd
  obtain ⟨xs, k, _, hx, hl, hlen, hfl⟩ := DataW.trod_struct Try.underlying52 hf
  obtain ⟨c0, c1, c2, c3, c4, c5, c6, rfl⟩ : ∃ c0 c1 c2 c3 c4 c5 c6, cs = #[c0, c1, c2, c3, c4, c5, c6] := by
    rcases cs with ⟨l⟩
    match l, hcs with
    | [c0, c1, c2, c3, c4, c5, c6], _ => exact ⟨c0, c1, c2, c3, c4, c5, c6, rfl⟩
  match xs, hlen with
  | [y0, y1, y2, y3, y4, y5, y6], _ =>
    have k22 : Try.prog.cellsOf 22 = 1 := by kernel_rfl
    have k23 : Try.prog.cellsOf 23 = 1 := by kernel_rfl
    have k3 : Try.prog.cellsOf 3 = 1 := by kernel_rfl
    have k9 : Try.prog.cellsOf 9 = 1 := by kernel_rfl
    have e0 : DataW.trod enc Try.prog W 0 sp held k 3 ((([c0, c1, c2, c3, c4, c5, c6] : List Value).drop 0).take (Try.prog.cellsOf 3)) = some y0 := hfl 0 _ rfl
    rw [k3] at e0
    obtain ⟨a0, h0, -, w0⟩ := DataW.trod_int Try.underlying3 e0
    have e1 : DataW.trod enc Try.prog W 0 sp held k 23 ((([c0, c1, c2, c3, c4, c5, c6] : List Value).drop 1).take (Try.prog.cellsOf 23)) = some y1 := hfl 1 _ rfl
    rw [k23] at e1
    obtain ⟨a1, h1, -, w1⟩ := DataW.trod_int Try.underlying23 e1
    have e2 : DataW.trod enc Try.prog W 0 sp held k 23 ((([c0, c1, c2, c3, c4, c5, c6] : List Value).drop 2).take (Try.prog.cellsOf 23)) = some y2 := hfl 2 _ rfl
    rw [k23] at e2
    obtain ⟨a2, h2, -, w2⟩ := DataW.trod_int Try.underlying23 e2
    have e3 : DataW.trod enc Try.prog W 0 sp held k 23 ((([c0, c1, c2, c3, c4, c5, c6] : List Value).drop 3).take (Try.prog.cellsOf 23)) = some y3 := hfl 3 _ rfl
    rw [k23] at e3
    obtain ⟨a3, h3, -, w3⟩ := DataW.trod_int Try.underlying23 e3
    have e4 : DataW.trod enc Try.prog W 0 sp held k 22 ((([c0, c1, c2, c3, c4, c5, c6] : List Value).drop 4).take (Try.prog.cellsOf 22)) = some y4 := hfl 4 _ rfl
    rw [k22] at e4
    obtain ⟨a4, h4, -, w4⟩ := DataW.trod_int Try.underlying22 e4
    have e5 : DataW.trod enc Try.prog W 0 sp held k 22 ((([c0, c1, c2, c3, c4, c5, c6] : List Value).drop 5).take (Try.prog.cellsOf 22)) = some y5 := hfl 5 _ rfl
    rw [k22] at e5
    obtain ⟨a5, h5, -, w5⟩ := DataW.trod_int Try.underlying22 e5
    have e6 : DataW.trod enc Try.prog W 0 sp held k 22 ((([c0, c1, c2, c3, c4, c5, c6] : List Value).drop 6).take (Try.prog.cellsOf 22)) = some y6 := hfl 6 _ rfl
    rw [k22] at e6
    obtain ⟨a6, h6, -, w6⟩ := DataW.trod_int Try.underlying22 e6
    obtain rfl : c0 = .int .i64 a0 := by simpa using h0
    obtain rfl : c1 = .int .u32 a1 := by simpa using h1
    obtain rfl : c2 = .int .u32 a2 := by simpa using h2
    obtain rfl : c3 = .int .u32 a3 := by simpa using h3
    obtain rfl : c4 = .int .u64 a4 := by simpa using h4
    obtain rfl : c5 = .int .u64 a5 := by simpa using h5
    obtain rfl : c6 = .int .u64 a6 := by simpa using h6
    exact ⟨⟨a0, a1, a2, a3, a4, a5, a6⟩, rfl, bdi w0, bd32 w1⟩
end Go.Proofs.Ytbenailemoefhaa
