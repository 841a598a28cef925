/-
  A Change that came in.
-/
import Derived.Test.YtbenailemoefhaaArg
import Derived.Test.YtbenailemoefhaaCf
namespace Go.Proofs.Ytbenailemoefhaa
open Go.ChangeShapes Go.WideShapes Go.ChangeAt Go.RowKit
set_option linter.unusedVariables false
set_option linter.unusedSimpArgs false

set_option maxRecDepth 100000 in
theorem in_list {H : Type} {enc : TypeId × Value → H} {W : World} {sp : Nat → Bool} {held : Bool} {fuel : Nat} {c0 c1 c2 c3 c4 c5 c6 c7 c8 c9 c10 c11 c12 c13 : Value} {y : DataW H × List MemPlace} (hf : DataW.trod enc Try.prog W 0 sp held fuel 25 [c0, c1, c2, c3, c4, c5, c6, c7, c8, c9, c10, c11, c12, c13] = some y) :
    ∃ x : In, [c0, c1, c2, c3, c4, c5, c6, c7, c8, c9, c10, c11, c12, c13] = x.cs.toList ∧ x.Ok ∧ x.t.size ≤ maxLen := by
  obtain ⟨xs, k, _, hx, hl, hlen, hfl⟩ := DataW.trod_struct Try.underlying25 hf
  match xs, hlen with
  | [y0, y1, y2, y3, y4, y5, y6, y7, y8, y9, y10, y11, y12, y13], _ =>
    have k22 : Try.prog.cellsOf 22 = 1 := by kernel_rfl
    have k23 : Try.prog.cellsOf 23 = 1 := by kernel_rfl
    have k3 : Try.prog.cellsOf 3 = 1 := by kernel_rfl
    have k9 : Try.prog.cellsOf 9 = 1 := by kernel_rfl
    have e0 : DataW.trod enc Try.prog W 0 sp held k 22 ((([c0, c1, c2, c3, c4, c5, c6, c7, c8, c9, c10, c11, c12, c13] : List Value).drop 0).take (Try.prog.cellsOf 22)) = some y0 := hfl 0 _ rfl
    rw [k22] at e0
    obtain ⟨a0, h0, -, w0⟩ := DataW.trod_int Try.underlying22 e0
    have e1 : DataW.trod enc Try.prog W 0 sp held k 23 ((([c0, c1, c2, c3, c4, c5, c6, c7, c8, c9, c10, c11, c12, c13] : List Value).drop 1).take (Try.prog.cellsOf 23)) = some y1 := hfl 1 _ rfl
    rw [k23] at e1
    obtain ⟨a1, h1, -, w1⟩ := DataW.trod_int Try.underlying23 e1
    have e2 : DataW.trod enc Try.prog W 0 sp held k 3 ((([c0, c1, c2, c3, c4, c5, c6, c7, c8, c9, c10, c11, c12, c13] : List Value).drop 2).take (Try.prog.cellsOf 3)) = some y2 := hfl 2 _ rfl
    rw [k3] at e2
    obtain ⟨a2, h2, -, w2⟩ := DataW.trod_int Try.underlying3 e2
    have e3 : DataW.trod enc Try.prog W 0 sp held k 23 ((([c0, c1, c2, c3, c4, c5, c6, c7, c8, c9, c10, c11, c12, c13] : List Value).drop 3).take (Try.prog.cellsOf 23)) = some y3 := hfl 3 _ rfl
    rw [k23] at e3
    obtain ⟨a3, h3, -, w3⟩ := DataW.trod_int Try.underlying23 e3
    have e4 : DataW.trod enc Try.prog W 0 sp held k 23 ((([c0, c1, c2, c3, c4, c5, c6, c7, c8, c9, c10, c11, c12, c13] : List Value).drop 4).take (Try.prog.cellsOf 23)) = some y4 := hfl 4 _ rfl
    rw [k23] at e4
    obtain ⟨a4, h4, -, w4⟩ := DataW.trod_int Try.underlying23 e4
    have e5 : DataW.trod enc Try.prog W 0 sp held k 23 ((([c0, c1, c2, c3, c4, c5, c6, c7, c8, c9, c10, c11, c12, c13] : List Value).drop 5).take (Try.prog.cellsOf 23)) = some y5 := hfl 5 _ rfl
    rw [k23] at e5
    obtain ⟨a5, h5, -, w5⟩ := DataW.trod_int Try.underlying23 e5
    have e6 : DataW.trod enc Try.prog W 0 sp held k 23 ((([c0, c1, c2, c3, c4, c5, c6, c7, c8, c9, c10, c11, c12, c13] : List Value).drop 6).take (Try.prog.cellsOf 23)) = some y6 := hfl 6 _ rfl
    rw [k23] at e6
    obtain ⟨a6, h6, -, w6⟩ := DataW.trod_int Try.underlying23 e6
    have e7 : DataW.trod enc Try.prog W 0 sp held k 22 ((([c0, c1, c2, c3, c4, c5, c6, c7, c8, c9, c10, c11, c12, c13] : List Value).drop 7).take (Try.prog.cellsOf 22)) = some y7 := hfl 7 _ rfl
    rw [k22] at e7
    obtain ⟨a7, h7, -, w7⟩ := DataW.trod_int Try.underlying22 e7
    have e8 : DataW.trod enc Try.prog W 0 sp held k 22 ((([c0, c1, c2, c3, c4, c5, c6, c7, c8, c9, c10, c11, c12, c13] : List Value).drop 8).take (Try.prog.cellsOf 22)) = some y8 := hfl 8 _ rfl
    rw [k22] at e8
    obtain ⟨a8, h8, -, w8⟩ := DataW.trod_int Try.underlying22 e8
    have e9 : DataW.trod enc Try.prog W 0 sp held k 22 ((([c0, c1, c2, c3, c4, c5, c6, c7, c8, c9, c10, c11, c12, c13] : List Value).drop 9).take (Try.prog.cellsOf 22)) = some y9 := hfl 9 _ rfl
    rw [k22] at e9
    obtain ⟨a9, h9, -, w9⟩ := DataW.trod_int Try.underlying22 e9
    have e10 : DataW.trod enc Try.prog W 0 sp held k 22 ((([c0, c1, c2, c3, c4, c5, c6, c7, c8, c9, c10, c11, c12, c13] : List Value).drop 10).take (Try.prog.cellsOf 22)) = some y10 := hfl 10 _ rfl
    rw [k22] at e10
    obtain ⟨a10, h10, -, w10⟩ := DataW.trod_int Try.underlying22 e10
    have e11 : DataW.trod enc Try.prog W 0 sp held k 22 ((([c0, c1, c2, c3, c4, c5, c6, c7, c8, c9, c10, c11, c12, c13] : List Value).drop 11).take (Try.prog.cellsOf 22)) = some y11 := hfl 11 _ rfl
    rw [k22] at e11
    obtain ⟨a11, h11, -, w11⟩ := DataW.trod_int Try.underlying22 e11
    have e12 : DataW.trod enc Try.prog W 0 sp held k 22 ((([c0, c1, c2, c3, c4, c5, c6, c7, c8, c9, c10, c11, c12, c13] : List Value).drop 12).take (Try.prog.cellsOf 22)) = some y12 := hfl 12 _ rfl
    rw [k22] at e12
    obtain ⟨a12, h12, -, w12⟩ := DataW.trod_int Try.underlying22 e12
    have e13 : DataW.trod enc Try.prog W 0 sp held k 9 ((([c0, c1, c2, c3, c4, c5, c6, c7, c8, c9, c10, c11, c12, c13] : List Value).drop 13).take (Try.prog.cellsOf 9)) = some y13 := hfl 13 _ rfl
    rw [k9] at e13
    obtain ⟨a13, h13, -, w13⟩ := DataW.trod_string Try.underlying9 e13
    obtain rfl : c0 = .int .u64 a0 := by simpa using h0
    obtain rfl : c1 = .int .u32 a1 := by simpa using h1
    obtain rfl : c2 = .int .i64 a2 := by simpa using h2
    obtain rfl : c3 = .int .u32 a3 := by simpa using h3
    obtain rfl : c4 = .int .u32 a4 := by simpa using h4
    obtain rfl : c5 = .int .u32 a5 := by simpa using h5
    obtain rfl : c6 = .int .u32 a6 := by simpa using h6
    obtain rfl : c7 = .int .u64 a7 := by simpa using h7
    obtain rfl : c8 = .int .u64 a8 := by simpa using h8
    obtain rfl : c9 = .int .u64 a9 := by simpa using h9
    obtain rfl : c10 = .int .u64 a10 := by simpa using h10
    obtain rfl : c11 = .int .u64 a11 := by simpa using h11
    obtain rfl : c12 = .int .u64 a12 := by simpa using h12
    obtain rfl : c13 = .string a13 := by simpa using h13
    exact ⟨⟨a0, a1, a2, a3, a4, a5, a6, a7, a8, a9, a10, a11, a12, a13⟩, rfl, ⟨bd64 w0, bd32 w1, bdi w2, bd32 w3, bd32 w4, bd32 w5, bd32 w6, bd64 w7, bd64 w8, bd64 w9, bd64 w10, bd64 w11, bd64 w12⟩, w13⟩
theorem cells59 : Try.prog.cellsOf 59 = 18 := by kernel_rfl
set_option maxRecDepth 100000 in
theorem open_cn {H : Type} {enc : TypeId × Value → H} {W : World} {b0 : Nat} {sp : Nat → Bool} {held : Bool} {v : Value} {d : DataW H} {ps : List MemPlace} (hval : Value.okWide Try.prog W .any b0 59 v) (hd : DataW.Trod enc Try.prog W 0 sp held 59 v d ps) :
    ∃ z : Cn, v = z.v ∧ z.x.Ok ∧ (-9223372036854775808 ≤ z.b ∧ z.b < 9223372036854775808) := by
  obtain ⟨cs, rfl, hcs⟩ := okWide_struct Try.underlying59 hval
  rw [cells59] at hcs
  obtain ⟨fuel, hf⟩ := hd
  obtain ⟨xs, k, _, hx, hl, hlen, hfl⟩ := DataW.trod_struct Try.underlying59 hf
  obtain ⟨c0, c1, c2, c3, c4, c5, c6, c7, c8, c9, c10, c11, c12, c13, c14, c15, c16, c17, rfl⟩ : ∃ c0 c1 c2 c3 c4 c5 c6 c7 c8 c9 c10 c11 c12 c13 c14 c15 c16 c17, cs = #[c0, c1, c2, c3, c4, c5, c6, c7, c8, c9, c10, c11, c12, c13, c14, c15, c16, c17] := by
    rcases cs with ⟨l⟩
    match l, hcs with
    | [c0, c1, c2, c3, c4, c5, c6, c7, c8, c9, c10, c11, c12, c13, c14, c15, c16, c17], _ => exact ⟨c0, c1, c2, c3, c4, c5, c6, c7, c8, c9, c10, c11, c12, c13, c14, c15, c16, c17, rfl⟩
  match xs, hlen with
  | [y0, y1, y2, y3, y4], _ =>
    have k22 : Try.prog.cellsOf 22 = 1 := by kernel_rfl
    have k3 : Try.prog.cellsOf 3 = 1 := by kernel_rfl
    have e0 : DataW.trod enc Try.prog W 0 sp held k 25 ((([c0, c1, c2, c3, c4, c5, c6, c7, c8, c9, c10, c11, c12, c13, c14, c15, c16, c17] : List Value).drop 0).take (Try.prog.cellsOf 25)) = some y0 := hfl 0 _ rfl
    rw [cells25] at e0
    obtain ⟨x, hxx, hok, -⟩ := in_list e0
    have e1 : DataW.trod enc Try.prog W 0 sp held k 3 ((([c0, c1, c2, c3, c4, c5, c6, c7, c8, c9, c10, c11, c12, c13, c14, c15, c16, c17] : List Value).drop 14).take (Try.prog.cellsOf 3)) = some y1 := hfl 1 _ rfl
    rw [k3] at e1
    obtain ⟨a1, h1, -, w1⟩ := DataW.trod_int Try.underlying3 e1
    have e2 : DataW.trod enc Try.prog W 0 sp held k 3 ((([c0, c1, c2, c3, c4, c5, c6, c7, c8, c9, c10, c11, c12, c13, c14, c15, c16, c17] : List Value).drop 15).take (Try.prog.cellsOf 3)) = some y2 := hfl 2 _ rfl
    rw [k3] at e2
    obtain ⟨a2, h2, -, w2⟩ := DataW.trod_int Try.underlying3 e2
    have e3 : DataW.trod enc Try.prog W 0 sp held k 22 ((([c0, c1, c2, c3, c4, c5, c6, c7, c8, c9, c10, c11, c12, c13, c14, c15, c16, c17] : List Value).drop 16).take (Try.prog.cellsOf 22)) = some y3 := hfl 3 _ rfl
    rw [k22] at e3
    obtain ⟨a3, h3, -, w3⟩ := DataW.trod_int Try.underlying22 e3
    have e4 : DataW.trod enc Try.prog W 0 sp held k 22 ((([c0, c1, c2, c3, c4, c5, c6, c7, c8, c9, c10, c11, c12, c13, c14, c15, c16, c17] : List Value).drop 17).take (Try.prog.cellsOf 22)) = some y4 := hfl 4 _ rfl
    rw [k22] at e4
    obtain ⟨a4, h4, -, w4⟩ := DataW.trod_int Try.underlying22 e4
    obtain rfl : c14 = .int .i64 a1 := by simpa using h1
    obtain rfl : c15 = .int .i64 a2 := by simpa using h2
    obtain rfl : c16 = .int .u64 a3 := by simpa using h3
    obtain rfl : c17 = .int .u64 a4 := by simpa using h4
    simp only [In.cs, List.cons.injEq, and_true] at hxx
    obtain ⟨rfl, rfl, rfl, rfl, rfl, rfl, rfl, rfl, rfl, rfl, rfl, rfl, rfl, rfl⟩ := hxx
    exact ⟨⟨x, a1, a2, a3, a4⟩, rfl, hok, bdi w2⟩
end Go.Proofs.Ytbenailemoefhaa
