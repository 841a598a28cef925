/-
  How a digest and a text come in.
-/
import Derived.Test.YtlicmlioilkfdaaDoorArg
import Derived.Test.YtlicmlioilkfdaaDoorX1
import Derived.Test.YtlicmlioilkfdaaDoorLd
namespace Go.Proofs.YtlicmlioilkfdaaDoor
open Go.RowKit Go.ChangeShapes Go.WideShapes Go.ChangeAt Go.Deep
set_option linter.unusedVariables false
set_option linter.unusedSimpArgs false

theorem Tryd.c5 : Tryd.prog.cellsOf 5 = 1 := by kernel_rfl
theorem Tryd.c26 : Tryd.prog.cellsOf 26 = 32 := by kernel_rfl

section
variable {H : Type} {enc : TypeId × Value → H} {W : World} {fuel : Nat} {d : DataW H} {pl : List MemPlace} {spare : Nat → Bool} {held : Bool}

/-- A digest that came in. -/
theorem open_dig {cs : List Value} (h : DataW.trod enc Tryd.prog W 0 spare held fuel 26 cs = some (d, pl)) : ∃ l : List UInt8, cs = bvs l ∧ l.length = 32 := by
  obtain ⟨xs, m, rfl, hx, hlen, hn, hel⟩ := DataW.trod_array Tryd.u26 h
  rw [Tryd.c26] at hlen
  have hj : ∀ j, j < 32 → ∃ b : UInt8, cs[j]? = some (.int .u8 ((b.toNat : Nat) : Int)) := by
    intro j hj
    have h1 := hel j hj
    rw [Tryd.c5, Nat.mul_one] at h1
    have hxj : xs[j]? = some (xs[j]'(by omega)) := by simp [show j < xs.length by omega]
    rw [hxj] at h1
    obtain ⟨k, e1, e2, hw⟩ := DataW.trod_int Tryd.underlying5 h1
    have hb := bounds_u8 hw
    refine ⟨UInt8.ofNat k.toNat, ?_⟩
    rw [byte_nat k hb.1 (by omega)]
    have := congrArg (fun q : List Value => q[0]?) e1
    simpa [List.getElem?_take, List.getElem?_drop] using this
  have hk : ∀ n, n ≤ 32 → ∃ l : List UInt8, cs.take n = bvs l ∧ l.length = n := by
    intro n
    induction n with
    | zero => intro _; exact ⟨[], by simp [bvs], rfl⟩
    | succ n ih =>
      intro hn
      obtain ⟨l, h1, h2⟩ := ih (by omega)
      obtain ⟨b, hb⟩ := hj n (by omega)
      refine ⟨l ++ [b], ?_, by simp [h2]⟩
      rw [List.take_add_one, hb, h1, bvs_append]
      rfl
  obtain ⟨l, h1, h2⟩ := hk 32 (by omega)
  rw [List.take_of_length_le (by omega)] at h1
  exact ⟨l, h1, h2⟩
end

theorem str_of (s : ByteArray) : str s.data.toList = s := by
  apply ByteArray.ext
  simp [str]
end Go.Proofs.YtlicmlioilkfdaaDoor
