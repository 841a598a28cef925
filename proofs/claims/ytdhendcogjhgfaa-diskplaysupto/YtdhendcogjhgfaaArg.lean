/-
  How arguments come in: bytes, numbers, acts; and what a bound on their bulk says.
-/
import Derived.Test.YtdhendcogjhgfaaL5
import Derived.Test.YtdhendcogjhgfaaRows
import Derived.ProofKit
import Derived.OpenShut
import Derived.ChangeOld
import Derived.Below
import Derived.Deep.Slices
namespace Go.Proofs.Ytdhendcogjhgfaa
open Go.RowKit Go.ChangeShapes Go.WideShapes Go.ChangeAt Go.Deep
set_option linter.unusedVariables false

theorem bulk_one {H : Type} (d : DataW H) : 1 ≤ Rows.uptoBulk d := by
  cases d with
  | lit l => cases l <;> simp [Rows.uptoBulk]
  | nil => simp [Rows.uptoBulk]
  | ptr d => simp [Rows.uptoBulk]
  | slice elems spare => simp [Rows.uptoBulk]
  | agg parts => simp [Rows.uptoBulk]
  | iface t d => simp [Rows.uptoBulk]
  | map entries => simp [Rows.uptoBulk]
  | held h => simp [Rows.uptoBulk]

theorem bulk_mem {H : Type} {l : List (DataW H)} {d : DataW H} (h : d ∈ l) : Rows.uptoBulk d ≤ Rows.uptoBulkAll l := by
  induction l with
  | nil => simp at h
  | cons x r ih =>
    simp only [Rows.uptoBulkAll]
    rcases List.mem_cons.1 h with rfl | h
    · omega
    · have := ih h; omega

theorem bulk_length {H : Type} (l : List (DataW H)) : l.length ≤ Rows.uptoBulkAll l := by
  induction l with
  | nil => simp
  | cons x r ih => have := bulk_one x; simp only [Rows.uptoBulkAll, List.length_cons]; omega

theorem byte_nat (x : Int) (h : 0 ≤ x) (h2 : x < 256) : (((UInt8.ofNat x.toNat).toNat : Nat) : Int) = x := by
  rw [UInt8.toNat_ofNat']; omega

section
variable {H : Type} {enc : TypeId × Value → H} {W : World} {fuel : Nat} {d : DataW H} {pl : List MemPlace} {spare : Nat → Bool} {held : Bool}

/-- A []byte that came in. -/
theorem open_rd {v : Value} (h : DataW.trod enc Try.prog W 0 spare held fuel 36 [v] = some (d, pl)) : ∃ l, Rd W v l ∧ l.length ≤ Rows.uptoBulk d := by
  rcases open_ints Try.underlying36 Try.underlying5 (by kernel_rfl) h with ⟨hcs, hx⟩ | ⟨a, len, cap, zs, hcs, _, hl, hm, hz, hx, hcell, hwz⟩
  · simp at hcs
    subst hcs
    exact ⟨[], Rd.nil _, by simp⟩
  · simp at hcs
    subst hcs
    simp only [Prod.mk.injEq] at hx
    have hzl : len ≤ zs.length := by rw [hz]; split <;> omega
    have hlen : ((zs.take len).map fun n => UInt8.ofNat n.toNat).length = len := by simp; omega
    refine ⟨(zs.take len).map fun n => UInt8.ofNat n.toNat, .inr ⟨a, cap, by rw [hlen], by rw [hlen]; exact hl, hm, fun j hj => ?_⟩, ?_⟩
    · rw [hlen] at hj
      rw [hcell j (by omega)]
      have hb := bounds_u8 (hwz _ (List.getElem_mem (show j < zs.length by omega)))
      have e : zs.getD j 0 = zs[j]'(by omega) := by simp [List.getD, show j < zs.length by omega]
      rw [e]
      simp only [List.getElem_map, List.getElem_take]
      rw [byte_nat _ hb.1 (by omega)]
    · rw [hlen, hx.1]
      simp only [Rows.uptoBulk]
      have := bulk_length (H := H) (lits IntKind.u8 (zs.take len))
      have e : (lits (H := H) IntKind.u8 (zs.take len)).length = len := by simp [lits]; omega
      omega

/-- A []int that came in. -/
theorem open_rdi {v : Value} (h : DataW.trod enc Try.prog W 0 spare held fuel 37 [v] = some (d, pl)) : ∃ l : List Int, RdV W v (l.map (Value.int .i64)) ∧ (∀ x ∈ l, -9223372036854775808 ≤ x ∧ x ≤ 9223372036854775807) ∧ l.length ≤ Rows.uptoBulk d := by
  rcases open_ints Try.underlying37 Try.underlying3 (by kernel_rfl) h with ⟨hcs, hx⟩ | ⟨a, len, cap, zs, hcs, _, hl, hm, hz, hx, hcell, hwz⟩
  · simp at hcs
    subst hcs
    exact ⟨[], .inl ⟨rfl, rfl⟩, by simp, by simp⟩
  · simp at hcs
    subst hcs
    simp only [Prod.mk.injEq] at hx
    have hzl : len ≤ zs.length := by rw [hz]; split <;> omega
    have hlen : ((zs.take len).map (Value.int .i64)).length = len := by simp; omega
    refine ⟨zs.take len, .inr ⟨a, cap, by rw [hlen], by rw [hlen]; exact hl, hm, fun j hj => ?_⟩, fun x hx => ?_, ?_⟩
    · rw [hlen] at hj
      rw [hcell j (by omega)]
      have e : zs.getD j 0 = zs[j]'(by omega) := by simp [List.getD, show j < zs.length by omega]
      rw [e]
      simp
    · have := bounds_i64 (hwz _ (List.mem_of_mem_take hx)); omega
    · rw [hx.1]
      simp only [Rows.uptoBulk]
      have := bulk_length (H := H) (lits IntKind.i64 (zs.take len))
      have e : (lits (H := H) IntKind.i64 (zs.take len)).length = (zs.take len).length := by simp [lits]
      omega

set_option maxRecDepth 100000 in
/-- An Act that came in. -/
theorem open_step {cs : List Value} (h : DataW.trod enc Try.prog W 0 spare held fuel 39 cs = some (d, pl)) (hb : Rows.uptoBulk d ≤ 1048576) : ∃ s : Sp, cs = s.cells ∧ s.Ok W := by
  obtain ⟨xs, n, rfl, hx, hlen, hxl, hf⟩ := DataW.trod_struct Try.underlying39 h
  have hc6 : Try.prog.cellsOf 39 = 6 := by kernel_rfl
  rw [hc6] at hlen
  simp only [Prod.mk.injEq] at hx
  have hxl6 : xs.length = 6 := hxl
  match cs, hlen with
  | [c0, c1, c2, c3, c4, c5], _ =>
    match xs, hxl6 with
    | [x0, x1, x2, x3, x4, x5], _ =>
      have b : ∀ x ∈ [x0, x1, x2, x3, x4, x5], Rows.uptoBulk x.1 ≤ 1048576 := fun x hx' => by
        have := bulk_mem (List.mem_map.2 ⟨x, hx', rfl⟩ : x.1 ∈ [x0, x1, x2, x3, x4, x5].map (·.1))
        rw [hx.1] at hb
        simp only [Rows.uptoBulk] at hb
        omega
      have k3 : Try.prog.cellsOf 3 = 1 := by kernel_rfl
      have k35 : Try.prog.cellsOf 35 = 1 := by kernel_rfl
      have k36 : Try.prog.cellsOf 36 = 1 := by kernel_rfl
      have k37 : Try.prog.cellsOf 37 = 1 := by kernel_rfl
      have f0 : DataW.trod enc Try.prog W 0 spare held n 3 (([c0, c1, c2, c3, c4, c5].drop 0).take (Try.prog.cellsOf 3)) = some x0 := hf 0 _ rfl
      rw [k3] at f0
      have f1 : DataW.trod enc Try.prog W 0 spare held n 3 (([c0, c1, c2, c3, c4, c5].drop 1).take (Try.prog.cellsOf 3)) = some x1 := hf 1 _ rfl
      rw [k3] at f1
      have f2 : DataW.trod enc Try.prog W 0 spare held n 3 (([c0, c1, c2, c3, c4, c5].drop 2).take (Try.prog.cellsOf 3)) = some x2 := hf 2 _ rfl
      rw [k3] at f2
      have f3 : DataW.trod enc Try.prog W 0 spare held n 35 (([c0, c1, c2, c3, c4, c5].drop 3).take (Try.prog.cellsOf 35)) = some x3 := hf 3 _ rfl
      rw [k35] at f3
      have f4 : DataW.trod enc Try.prog W 0 spare held n 36 (([c0, c1, c2, c3, c4, c5].drop 4).take (Try.prog.cellsOf 36)) = some x4 := hf 4 _ rfl
      rw [k36] at f4
      have f5 : DataW.trod enc Try.prog W 0 spare held n 37 (([c0, c1, c2, c3, c4, c5].drop 5).take (Try.prog.cellsOf 37)) = some x5 := hf 5 _ rfl
      rw [k37] at f5
      obtain ⟨n0, e0, -, w0⟩ := DataW.trod_int Try.underlying3 f0
      obtain ⟨n1, e1, -, w1⟩ := DataW.trod_int Try.underlying3 f1
      obtain ⟨n2, e2, -, w2⟩ := DataW.trod_int Try.underlying3 f2
      obtain ⟨n3, e3, -, w3⟩ := DataW.trod_int Try.underlying35 f3
      have hm3 := bounds_u32 w3
      obtain ⟨l4, r4, z4⟩ := open_rd f4
      obtain ⟨l5, r5, -, z5⟩ := open_rdi f5
      obtain rfl : c0 = .int .i64 n0 := by simpa using e0
      obtain rfl : c1 = .int .i64 n1 := by simpa using e1
      obtain rfl : c2 = .int .i64 n2 := by simpa using e2
      obtain rfl : c3 = .int .u32 n3 := by simpa using e3
      have B4 := b x4 (by simp)
      have B5 := b x5 (by simp)
      have hn3 : ((n3.toNat : Nat) : Int) = n3 := by omega
      exact ⟨⟨n0, n1, n2, n3.toNat, c4, c5, l4, l5⟩, by simp only [Sp.cells]; rw [hn3], ⟨by dsimp only; omega, r4, r5, Nat.le_trans z4 B4, Nat.le_trans z5 B5⟩⟩

/-- A []Act that came in. -/
theorem open_steps {v : Value} (h : DataW.trod enc Try.prog W 0 spare held fuel 22 [v] = some (d, pl)) (hb : Rows.uptoBulk d ≤ 1048576) : ∃ ss, RdS W v ss := by
  rcases open_slice Try.underlying22 h with ⟨hcs, hx⟩ | ⟨a, len, cap, m, n, D, Pl, hcs, _, hl, hm, hmm, hx, hcell⟩
  · simp at hcs
    subst hcs
    exact ⟨[], .inl ⟨rfl, rfl⟩⟩
  · simp at hcs
    subst hcs
    simp only [Prod.mk.injEq] at hx
    have hlm : len ≤ m := by rw [hmm]; split <;> omega
    have hbulk : Rows.uptoBulkAll ((List.range len).map D) ≤ 1048576 := by
      rw [hx.1] at hb
      simp only [Rows.uptoBulk] at hb
      omega
    have hc6 : Try.prog.cellsOf 39 = 6 := by kernel_rfl
    rw [hc6] at hcell
    have hch : ∀ i, i < len → ∃ s : Sp, W.cells? 0 (a.add (i * 6)) 6 = some s.cells ∧ s.Ok W := fun i hi => by
      obtain ⟨cs', h1, h2⟩ := hcell i (by omega)
      obtain ⟨s, rfl, hs⟩ := open_step h2 (Nat.le_trans (bulk_mem (List.mem_map.2 ⟨i, List.mem_range.2 hi, rfl⟩ : D i ∈ (List.range len).map D)) hbulk)
      exact ⟨s, h1, hs⟩
    obtain ⟨L, hL⟩ := choose_lt (α := Sp) hch
    refine ⟨(List.range len).map L, .inr ⟨a, cap, by simp, by simpa using hl, hm, fun j hj => ?_⟩⟩
    have hj' : j < len := by simpa using hj
    have e : ((List.range len).map L)[j]'hj = L j := by simp
    rw [e]
    refine ⟨fun i hi => ?_, (hL j hj').2⟩
    have hc := World.cells?_some (hL j hj').1
    have hci := hc.2.2 i hi
    rw [add_add] at hci
    rw [hci]
    exact List.getElem?_eq_getElem (by simpa [Sp.cells] using hi)
end

end Go.Proofs.Ytdhendcogjhgfaa
