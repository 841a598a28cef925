/-
  How acts come in.
-/
import Derived.Test.YtbpajilglfabbaaD4
import Derived.Test.YtbpajilglfabbaaRows
import Derived.ProofKit
import Derived.OpenShut
import Derived.ChangeOld
import Derived.Below
import Derived.Deep.Slices
namespace Go.Proofs.Ytbpajilglfabbaa
open Go.RowKit Go.ChangeShapes Go.WideShapes Go.ChangeAt Go.Deep
set_option linter.unusedVariables false

section
variable {H : Type} {enc : TypeId × Value → H} {W : World} {spare : Nat → Bool} {held : Bool} {fuel : Nat} {d : DataW H} {pl : List MemPlace}

set_option maxRecDepth 100000 in
/-- An Act that came in. -/
theorem open_act {cs : List Value} (h : DataW.trod enc Try.prog W 0 spare held fuel 36 cs = some (d, pl)) : ∃ s : Int × Int, cs = [.int .i64 s.1, .int .i64 s.2] := by
  obtain ⟨xs, n, rfl, hx, hlen, hxl, hf⟩ := DataW.trod_struct Try.underlying36 h
  have hc2 : Try.prog.cellsOf 36 = 2 := by kernel_rfl
  rw [hc2] at hlen
  have hxl2 : xs.length = 2 := hxl
  match cs, hlen with
  | [c0, c1], _ =>
    match xs, hxl2 with
    | [x0, x1], _ =>
      have k3 : Try.prog.cellsOf 3 = 1 := by kernel_rfl
      have f0 : DataW.trod enc Try.prog W 0 spare held n 3 (([c0, c1].drop 0).take (Try.prog.cellsOf 3)) = some x0 := hf 0 _ rfl
      rw [k3] at f0
      have f1 : DataW.trod enc Try.prog W 0 spare held n 3 (([c0, c1].drop 1).take (Try.prog.cellsOf 3)) = some x1 := hf 1 _ rfl
      rw [k3] at f1
      obtain ⟨n0, e0, -, w0⟩ := DataW.trod_int Try.underlying3 f0
      obtain ⟨n1, e1, -, w1⟩ := DataW.trod_int Try.underlying3 f1
      obtain rfl : c0 = .int .i64 n0 := by simpa using e0
      obtain rfl : c1 = .int .i64 n1 := by simpa using e1
      exact ⟨(n0, n1), rfl⟩

set_option maxRecDepth 100000 in
/-- A []Act that came in. -/
theorem open_acts {v : Value} (h : DataW.trod enc Try.prog W 0 spare held fuel 23 [v] = some (d, pl)) : ∃ l, RdA W v l := by
  rcases open_slice Try.underlying23 h with ⟨hcs, hx⟩ | ⟨a, len, cap, m, n, D, Pl, hcs, _, hl, hm, hmm, hx, hcell⟩
  · simp at hcs
    subst hcs
    exact ⟨[], .inl ⟨rfl, rfl⟩⟩
  · simp at hcs
    subst hcs
    have hlm : len ≤ m := by rw [hmm]; split <;> omega
    have hc2 : Try.prog.cellsOf 36 = 2 := by kernel_rfl
    rw [hc2] at hcell
    have hch : ∀ i, i < len → ∃ s : Int × Int, W.cells? 0 (a.add (i * 2)) 2 = some [.int .i64 s.1, .int .i64 s.2] ∧ True := fun i hi => by
      obtain ⟨cs', h1, h2⟩ := hcell i (by omega)
      obtain ⟨s, rfl⟩ := open_act h2
      exact ⟨s, h1, trivial⟩
    obtain ⟨L, hL⟩ := choose_lt (α := Int × Int) hch
    refine ⟨(List.range len).map L, .inr ⟨a, cap, by simp, by simpa using hl, hm, fun j hj => ?_⟩⟩
    have hj' : j < len := by simpa using hj
    have e : ((List.range len).map L)[j]'hj = L j := by simp
    rw [e]
    have hc := World.cells?_some (hL j hj').1
    have h0 := hc.2.2 0 (by decide)
    have h1 := hc.2.2 1 (by decide)
    rw [add_add] at h0 h1
    exact ⟨h0, h1⟩
end

theorem cells60 : Try.prog.cellsOf 60 = 4 := by kernel_rfl
set_option maxRecDepth 100000 in
/-- An Ahead that came in. -/
theorem open_ahead {H : Type} {enc : TypeId × Value → H} {W : World} {b0 : Nat} {sp : Nat → Bool} {held : Bool} {v : Value} {d : DataW H} {ps : List MemPlace} (hval : Value.okWide Try.prog W .any b0 60 v) (hd : DataW.Trod enc Try.prog W 0 sp held 60 v d ps) :
    ∃ a0 a2 a3 v' l, v = .agg #[.int .i64 a0, v', .int .i64 a2, .int .i64 a3] ∧ RdA W v' l := by
  obtain ⟨cs, rfl, hcs⟩ := okWide_struct Try.underlying60 hval
  rw [cells60] at hcs
  obtain ⟨fuel, hf⟩ := hd
  obtain ⟨xs, k, _, hx, hl, hlen, hfl⟩ := DataW.trod_struct Try.underlying60 hf
  obtain ⟨c0, c1, c2, c3, rfl⟩ : ∃ c0 c1 c2 c3, cs = #[c0, c1, c2, c3] := by
    rcases cs with ⟨l⟩
    match l, hcs with
    | [c0, c1, c2, c3], _ => exact ⟨c0, c1, c2, c3, rfl⟩
  match xs, hlen with
  | [y0, y1, y2, y3], _ =>
    have k0 : Try.prog.cellsOf 3 = 1 := by kernel_rfl
    have e0 : DataW.trod enc Try.prog W 0 sp held k 3 ((([c0, c1, c2, c3] : List Value).drop 0).take (Try.prog.cellsOf 3)) = some y0 := hfl 0 _ rfl
    rw [k0] at e0
    obtain ⟨a0, h0, -, w0⟩ := DataW.trod_int Try.underlying3 e0
    have k1 : Try.prog.cellsOf 23 = 1 := by kernel_rfl
    have e1 : DataW.trod enc Try.prog W 0 sp held k 23 ((([c0, c1, c2, c3] : List Value).drop 1).take (Try.prog.cellsOf 23)) = some y1 := hfl 1 _ rfl
    rw [k1] at e1
    obtain ⟨l, r⟩ := open_acts e1
    have e2 : DataW.trod enc Try.prog W 0 sp held k 3 ((([c0, c1, c2, c3] : List Value).drop 2).take (Try.prog.cellsOf 3)) = some y2 := hfl 2 _ rfl
    rw [k0] at e2
    obtain ⟨a2, h2, -, w2⟩ := DataW.trod_int Try.underlying3 e2
    have e3 : DataW.trod enc Try.prog W 0 sp held k 3 ((([c0, c1, c2, c3] : List Value).drop 3).take (Try.prog.cellsOf 3)) = some y3 := hfl 3 _ rfl
    rw [k0] at e3
    obtain ⟨a3, h3, -, w3⟩ := DataW.trod_int Try.underlying3 e3
    obtain rfl : c0 = .int .i64 a0 := by simpa using h0
    obtain rfl : c2 = .int .i64 a2 := by simpa using h2
    obtain rfl : c3 = .int .i64 a3 := by simpa using h3
    exact ⟨a0, a2, a3, c1, l, rfl, r⟩
end Go.Proofs.Ytbpajilglfabbaa
