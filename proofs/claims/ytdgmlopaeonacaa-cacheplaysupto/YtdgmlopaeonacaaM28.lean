/-
  How acts come in.
-/
import Derived.Test.YtdgmlopaeonacaaM12
import Derived.Test.YtdgmlopaeonacaaRows
import Derived.ProofKit
import Derived.OpenShut
import Derived.ChangeOld
import Derived.Below
import Derived.Deep.Slices
namespace Go.Proofs.Ytdgmlopaeonacaa
set_option linter.unusedVariables false
set_option linter.unusedSimpArgs false
open Go.RowKit Go.ChangeShapes Go.WideShapes Go.ChangeAt Go.Deep
set_option linter.unusedVariables false

theorem bulk_one {H : Type} (d : DataW H) : 1 ≤ Rows.uptoBulk d := by
  cases d with
  | lit l => cases l <;> simp [Rows.uptoBulk]
  | nil => simp [Rows.uptoBulk]
  | ptr d => simp [Rows.uptoBulk]
  | slice elems spare => simp [Rows.uptoBulk]
  | agg parts => simp [Rows.uptoBulk]
  | iface t d => simp [Rows.uptoBulk]
  | map entries => simp [Rows.uptoBulk]
  | held h => simp [Rows.uptoBulk]

theorem bulk_mem {H : Type} {l : List (DataW H)} {d : DataW H} (h : d ∈ l) : Rows.uptoBulk d ≤ Rows.uptoBulkAll l := by
  induction l with
  | nil => simp at h
  | cons x r ih =>
    simp only [Rows.uptoBulkAll]
    rcases List.mem_cons.1 h with rfl | h
    · omega
    · have := ih h; omega

theorem bulk_length {H : Type} (l : List (DataW H)) : l.length ≤ Rows.uptoBulkAll l := by
  induction l with
  | nil => simp
  | cons x r ih => have := bulk_one x; simp only [Rows.uptoBulkAll, List.length_cons]; omega

theorem byte_nat (x : Int) (h : 0 ≤ x) (h2 : x < 256) : (((UInt8.ofNat x.toNat).toNat : Nat) : Int) = x := by
  rw [UInt8.toNat_ofNat']; omega

section
variable {H : Type} {enc : TypeId × Value → H} {W : World} {fuel : Nat} {d : DataW H} {pl : List MemPlace} {spare : Nat → Bool} {held : Bool}

instance : Inhabited Ac := ⟨⟨0, 0, .bool false, [], 0, 0⟩⟩
/-- A []byte that came in. -/
theorem open_rd {v : Value} (h : DataW.trod enc Try.prog W 0 spare held fuel 37 [v] = some (d, pl)) : ∃ l, Rd W v l ∧ l.length ≤ Rows.uptoBulk d := by
  rcases open_ints Try.underlying37 Try.underlying5 (by kernel_rfl) h with ⟨hcs, hx⟩ | ⟨a, len, cap, zs, hcs, _, hl, hm, hz, hx, hcell, hwz⟩
  · simp at hcs
    subst hcs
    exact ⟨[], Rd.nil _, by simp⟩
  · simp at hcs
    subst hcs
    simp only [Prod.mk.injEq] at hx
    have hzl : len ≤ zs.length := by rw [hz]; split <;> omega
    have hlen : ((zs.take len).map fun n => UInt8.ofNat n.toNat).length = len := by simp; omega
    refine ⟨(zs.take len).map fun n => UInt8.ofNat n.toNat, .inr ⟨a, cap, by rw [hlen], by rw [hlen]; exact hl, hm, fun j hj => ?_⟩, ?_⟩
    · rw [hlen] at hj
      rw [hcell j (by omega)]
      have hb := bounds_u8 (hwz _ (List.getElem_mem (show j < zs.length by omega)))
      have e : zs.getD j 0 = zs[j]'(by omega) := by simp [List.getD, show j < zs.length by omega]
      rw [e]
      simp only [List.getElem_map, List.getElem_take]
      rw [byte_nat _ hb.1 (by omega)]
    · rw [hlen, hx.1]
      simp only [Rows.uptoBulk]
      have := bulk_length (H := H) (lits IntKind.u8 (zs.take len))
      have e : (lits (H := H) IntKind.u8 (zs.take len)).length = len := by simp [lits]; omega
      omega

set_option maxRecDepth 100000 in
/-- An Act that came in. -/
theorem open_act {cs : List Value} (h : DataW.trod enc Try.prog W 0 spare held fuel 40 cs = some (d, pl)) (hb : Rows.uptoBulk d ≤ 1048576) : ∃ s : Ac, cs = s.cells ∧ s.Ok W := by
  obtain ⟨xs, n, rfl, hx, hlen, hxl, hf⟩ := DataW.trod_struct Try.underlying40 h
  have hc5 : Try.prog.cellsOf 40 = 5 := by kernel_rfl
  rw [hc5] at hlen
  simp only [Prod.mk.injEq] at hx
  have hxl5 : xs.length = 5 := hxl
  match cs, hlen with
  | [c0, c1, c2, c3, c4], _ =>
    match xs, hxl5 with
    | [x0, x1, x2, x3, x4], _ =>
      have b : ∀ x ∈ [x0, x1, x2, x3, x4], Rows.uptoBulk x.1 ≤ 1048576 := fun x hx' => by
        have := bulk_mem (List.mem_map.2 ⟨x, hx', rfl⟩ : x.1 ∈ [x0, x1, x2, x3, x4].map (·.1))
        rw [hx.1] at hb
        simp only [Rows.uptoBulk] at hb
        omega
      have k3 : Try.prog.cellsOf 3 = 1 := by kernel_rfl
      have k37 : Try.prog.cellsOf 37 = 1 := by kernel_rfl
      have k38 : Try.prog.cellsOf 38 = 1 := by kernel_rfl
      have f0 : DataW.trod enc Try.prog W 0 spare held n 3 (([c0, c1, c2, c3, c4].drop 0).take (Try.prog.cellsOf 3)) = some x0 := hf 0 _ rfl
      rw [k3] at f0
      have f1 : DataW.trod enc Try.prog W 0 spare held n 3 (([c0, c1, c2, c3, c4].drop 1).take (Try.prog.cellsOf 3)) = some x1 := hf 1 _ rfl
      rw [k3] at f1
      have f2 : DataW.trod enc Try.prog W 0 spare held n 37 (([c0, c1, c2, c3, c4].drop 2).take (Try.prog.cellsOf 37)) = some x2 := hf 2 _ rfl
      rw [k37] at f2
      have f3 : DataW.trod enc Try.prog W 0 spare held n 38 (([c0, c1, c2, c3, c4].drop 3).take (Try.prog.cellsOf 38)) = some x3 := hf 3 _ rfl
      rw [k38] at f3
      have f4 : DataW.trod enc Try.prog W 0 spare held n 3 (([c0, c1, c2, c3, c4].drop 4).take (Try.prog.cellsOf 3)) = some x4 := hf 4 _ rfl
      rw [k3] at f4
      obtain ⟨n0, e0, -, w0⟩ := DataW.trod_int Try.underlying3 f0
      obtain ⟨n1, e1, -, w1⟩ := DataW.trod_int Try.underlying3 f1
      obtain ⟨l2, r2, z2⟩ := open_rd f2
      obtain ⟨n3, e3, -, w3⟩ := DataW.trod_int Try.underlying38 f3
      have hm3 := bounds_u64 w3
      obtain ⟨n4, e4, -, w4⟩ := DataW.trod_int Try.underlying3 f4
      obtain rfl : c0 = .int .i64 n0 := by simpa using e0
      obtain rfl : c1 = .int .i64 n1 := by simpa using e1
      obtain rfl : c3 = .int .u64 n3 := by simpa using e3
      obtain rfl : c4 = .int .i64 n4 := by simpa using e4
      have hn3 : ((n3.toNat : Nat) : Int) = n3 := by omega
      exact ⟨⟨n0, n1, c2, l2, n3.toNat, n4⟩, by simp only [Ac.cells]; rw [hn3], ⟨r2, by dsimp only; omega, Nat.le_trans z2 (b x2 (by simp))⟩⟩

set_option maxRecDepth 100000 in
/-- A []Act that came in. -/
theorem open_acts {v : Value} (h : DataW.trod enc Try.prog W 0 spare held fuel 22 [v] = some (d, pl)) (hb : Rows.uptoBulk d ≤ 1048576) : ∃ l, RdC W v l := by
  rcases open_slice Try.underlying22 h with ⟨hcs, hx⟩ | ⟨a, len, cap, m, n, D, Pl, hcs, _, hl, hm, hmm, hx, hcell⟩
  · simp at hcs
    subst hcs
    exact ⟨[], .inl ⟨rfl, rfl⟩, by simp⟩
  · simp at hcs
    subst hcs
    simp only [Prod.mk.injEq] at hx
    have hlm : len ≤ m := by rw [hmm]; split <;> omega
    have hbulk : Rows.uptoBulkAll ((List.range len).map D) ≤ 1048576 := by
      rw [hx.1] at hb
      simp only [Rows.uptoBulk] at hb
      omega
    have hc5 : Try.prog.cellsOf 40 = 5 := by kernel_rfl
    rw [hc5] at hcell
    have hch : ∀ i, i < len → ∃ s : Ac, W.cells? 0 (a.add (i * 5)) 5 = some s.cells ∧ s.Ok W := fun i hi => by
      obtain ⟨cs', h1, h2⟩ := hcell i (by omega)
      obtain ⟨s, rfl, hs⟩ := open_act h2 (Nat.le_trans (bulk_mem (List.mem_map.2 ⟨i, List.mem_range.2 hi, rfl⟩ : D i ∈ (List.range len).map D)) hbulk)
      exact ⟨s, h1, hs⟩
    obtain ⟨L, hL⟩ := choose_lt (α := Ac) hch
    refine ⟨(List.range len).map L, .inr ⟨a, cap, by simp, by simpa using hl, hm, fun j hj t u hu => ?_⟩, fun s hs => ?_⟩
    · have hj' : j < len := by simpa using hj
      have e : ((List.range len).map L)[j]'hj = L j := by simp
      rw [e] at hu
      have hc := World.cells?_some (hL j hj').1
      have ht : t < 5 := by have := (List.getElem?_eq_some_iff.1 hu).1; simpa [Ac.cells] using this
      have hci := hc.2.2 t ht
      rw [add_add] at hci
      rw [hci]
      exact hu
    · obtain ⟨j, hj, rfl⟩ := List.mem_map.1 hs
      exact (hL j (List.mem_range.1 hj)).2
end
end Go.Proofs.Ytdgmlopaeonacaa
