/-
  How arguments come in: bytes, lists of bytes, numbers, truths; and what a bound on their bulk says.
-/
import Derived.Test.YtckmddkhkdcmmaaM14
import Derived.Test.YtckmddkhkdcmmaaRows
import Derived.ProofKit
import Derived.OpenShut
import Derived.ChangeOld
import Derived.Below
import Derived.Deep.Slices
namespace Go.Proofs.Ytckmddkhkdcmmaa
set_option linter.unusedVariables false
set_option linter.unusedSimpArgs false
open Go.RowKit Go.ChangeShapes Go.WideShapes Go.ChangeAt Go.Deep
set_option linter.unusedVariables false

theorem bulk_one {H : Type} (d : DataW H) : 1 ≤ Rows.uptoBulk d := by
  cases d with
  | lit l => cases l <;> simp [Rows.uptoBulk]
  | nil => simp [Rows.uptoBulk]
  | ptr d => simp [Rows.uptoBulk]
  | slice elems spare => simp [Rows.uptoBulk]
  | agg parts => simp [Rows.uptoBulk]
  | iface t d => simp [Rows.uptoBulk]
  | map entries => simp [Rows.uptoBulk]
  | held h => simp [Rows.uptoBulk]

theorem bulk_mem {H : Type} {l : List (DataW H)} {d : DataW H} (h : d ∈ l) : Rows.uptoBulk d ≤ Rows.uptoBulkAll l := by
  induction l with
  | nil => simp at h
  | cons x r ih =>
    simp only [Rows.uptoBulkAll]
    rcases List.mem_cons.1 h with rfl | h
    · omega
    · have := ih h; omega

theorem bulk_length {H : Type} (l : List (DataW H)) : l.length ≤ Rows.uptoBulkAll l := by
  induction l with
  | nil => simp
  | cons x r ih => have := bulk_one x; simp only [Rows.uptoBulkAll, List.length_cons]; omega

theorem byte_nat (x : Int) (h : 0 ≤ x) (h2 : x < 256) : (((UInt8.ofNat x.toNat).toNat : Nat) : Int) = x := by
  rw [UInt8.toNat_ofNat']; omega

section
variable {H : Type} {enc : TypeId × Value → H} {W : World} {fuel : Nat} {d : DataW H} {pl : List MemPlace} {spare : Nat → Bool} {held : Bool}

/-- A []byte that came in. -/
theorem open_rd {v : Value} (h : DataW.trod enc Try.prog W 0 spare held fuel 22 [v] = some (d, pl)) : ∃ l, Rd W v l ∧ l.length ≤ Rows.uptoBulk d := by
  rcases open_ints Try.underlying22 Try.underlying5 (by kernel_rfl) h with ⟨hcs, hx⟩ | ⟨a, len, cap, zs, hcs, _, hl, hm, hz, hx, hcell, hwz⟩
  · simp at hcs
    subst hcs
    exact ⟨[], Rd.nil _, by simp⟩
  · simp at hcs
    subst hcs
    simp only [Prod.mk.injEq] at hx
    have hzl : len ≤ zs.length := by rw [hz]; split <;> omega
    have hlen : ((zs.take len).map fun n => UInt8.ofNat n.toNat).length = len := by simp; omega
    refine ⟨(zs.take len).map fun n => UInt8.ofNat n.toNat, .inr ⟨a, cap, by rw [hlen], by rw [hlen]; exact hl, hm, fun j hj => ?_⟩, ?_⟩
    · rw [hlen] at hj
      rw [hcell j (by omega)]
      have hb := bounds_u8 (hwz _ (List.getElem_mem (show j < zs.length by omega)))
      have e : zs.getD j 0 = zs[j]'(by omega) := by simp [List.getD, show j < zs.length by omega]
      rw [e]
      simp only [List.getElem_map, List.getElem_take]
      rw [byte_nat _ hb.1 (by omega)]
    · rw [hlen, hx.1]
      simp only [Rows.uptoBulk]
      have := bulk_length (H := H) (lits IntKind.u8 (zs.take len))
      have e : (lits (H := H) IntKind.u8 (zs.take len)).length = len := by simp [lits]; omega
      omega

/-- A []int that came in. -/
theorem open_rdi {v : Value} (h : DataW.trod enc Try.prog W 0 spare held fuel 25 [v] = some (d, pl)) : ∃ l : List Int, RdV W v (l.map (Value.int .i64)) ∧ (∀ x ∈ l, -9223372036854775808 ≤ x ∧ x ≤ 9223372036854775807) ∧ l.length ≤ Rows.uptoBulk d := by
  rcases open_ints Try.underlying25 Try.underlying3 (by kernel_rfl) h with ⟨hcs, hx⟩ | ⟨a, len, cap, zs, hcs, _, hl, hm, hz, hx, hcell, hwz⟩
  · simp at hcs
    subst hcs
    exact ⟨[], .inl ⟨rfl, rfl⟩, by simp, by simp⟩
  · simp at hcs
    subst hcs
    simp only [Prod.mk.injEq] at hx
    have hzl : len ≤ zs.length := by rw [hz]; split <;> omega
    have hlen : ((zs.take len).map (Value.int .i64)).length = len := by simp; omega
    refine ⟨zs.take len, .inr ⟨a, cap, by rw [hlen], by rw [hlen]; exact hl, hm, fun j hj => ?_⟩, fun x hx => ?_, ?_⟩
    · rw [hlen] at hj
      rw [hcell j (by omega)]
      have e : zs.getD j 0 = zs[j]'(by omega) := by simp [List.getD, show j < zs.length by omega]
      rw [e]
      simp
    · have := bounds_i64 (hwz _ (List.mem_of_mem_take hx)); omega
    · rw [hx.1]
      simp only [Rows.uptoBulk]
      have := bulk_length (H := H) (lits IntKind.i64 (zs.take len))
      have e : (lits (H := H) IntKind.i64 (zs.take len)).length = (zs.take len).length := by simp [lits]
      omega

/-- A [][]byte that came in. -/
theorem open_rdl {v : Value} (h : DataW.trod enc Try.prog W 0 spare held fuel 65 [v] = some (d, pl)) : ∃ ls, RdL W v ls ∧ ls.length ≤ Rows.uptoBulk d ∧ ∀ l ∈ ls, l.length ≤ Rows.uptoBulk d := by
  rcases open_slice1 Try.underlying65 (by kernel_rfl) h with ⟨hcs, hx⟩ | ⟨a, len, cap, m, n, V, D, Pl, hcs, _, hl, hm, hmm, hx, hcell⟩
  · simp at hcs
    subst hcs
    exact ⟨[], ⟨[], .inl ⟨rfl, rfl⟩, rfl, fun i x l hx => by simp at hx⟩, by simp, by simp⟩
  · simp at hcs
    subst hcs
    simp only [Prod.mk.injEq] at hx
    have hlm : len ≤ m := by rw [hmm]; split <;> omega
    have hch : ∀ i, i < len → ∃ l, Rd W (V i) l ∧ l.length ≤ Rows.uptoBulk (D i) := fun i hi => open_rd (hcell i (by omega)).2
    obtain ⟨L, hL⟩ := choose_lt hch
    have hbulk : Rows.uptoBulkAll ((List.range len).map D) ≤ Rows.uptoBulk d := by rw [hx.1]; simp only [Rows.uptoBulk]; omega
    refine ⟨(List.range len).map L, ⟨(List.range len).map V, .inr ⟨a, cap, by simp, by simpa using hl, hm, fun j hj => ?_⟩, by simp, fun i x l hx hl' => ?_⟩, ?_, fun l hl' => ?_⟩
    · have hj' : j < len := by simpa using hj
      rw [(hcell j (by omega)).1]
      simp
    · have hi : i < len := by have := (List.getElem?_eq_some_iff.1 hx).1; simpa using this
      simp [List.getElem?_map, List.getElem?_range hi] at hx hl'
      subst hx hl'
      exact (hL i hi).1
    · have := bulk_length ((List.range len).map D)
      simp at this ⊢
      omega
    · obtain ⟨i, hi, rfl⟩ := List.mem_map.1 hl'
      have h1 := (hL i (List.mem_range.1 hi)).2
      have h2 := bulk_mem (List.mem_map.2 ⟨i, hi, rfl⟩ : D i ∈ (List.range len).map D)
      omega

/-- A []bool that came in. -/
theorem open_rdb {v : Value} (h : DataW.trod enc Try.prog W 0 spare held fuel 79 [v] = some (d, pl)) : ∃ l : List Bool, RdV W v (l.map Value.bool) ∧ l.length ≤ Rows.uptoBulk d := by
  rcases open_slice1 Try.underlying79 (by kernel_rfl) h with ⟨hcs, hx⟩ | ⟨a, len, cap, m, n, V, D, Pl, hcs, _, hl, hm, hmm, hx, hcell⟩
  · simp at hcs
    subst hcs
    exact ⟨[], .inl ⟨rfl, rfl⟩, by simp⟩
  · simp at hcs
    subst hcs
    simp only [Prod.mk.injEq] at hx
    have hlm : len ≤ m := by rw [hmm]; split <;> omega
    have hch : ∀ i, i < len → ∃ b : Bool, V i = .bool b := fun i hi => by
      obtain ⟨b, hb, -⟩ := DataW.trod_bool Try.underlying4 (hcell i (by omega)).2
      simp at hb
      exact ⟨b, hb⟩
    obtain ⟨L, hL⟩ := choose_lt hch
    refine ⟨(List.range len).map L, .inr ⟨a, cap, by simp, by simpa using hl, hm, fun j hj => ?_⟩, ?_⟩
    · have hj' : j < len := by simpa using hj
      rw [(hcell j (by omega)).1, hL j hj']
      simp
    · rw [hx.1]
      simp only [Rows.uptoBulk]
      have := bulk_length ((List.range len).map D)
      simp at this ⊢
      omega
end

end Go.Proofs.Ytckmddkhkdcmmaa
