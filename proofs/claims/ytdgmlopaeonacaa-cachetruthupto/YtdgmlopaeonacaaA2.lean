/-
  A block's bytes: fill.
-/
import Derived.Test.YtdgmlopaeonacaaA1
import Derived.Lib.SliceRun
namespace Go.Proofs.Ytdgmlopaeonacaa
open Go.RowKit
set_option linter.unusedVariables false

attribute [local go_sem ↓] Go.wp_at_zero Go.wp_at_succ

theorem nodeC_length (o n : Value) (x : Pl) : (nodeC o n x).length = 7 + x.P.length := by simp [nodeC, bvs_length]; omega
theorem nodeC_put (o n : Value) (x : Pl) (k : Nat) (l : List UInt8) : (nodeC o n x).take (7 + k) ++ bvs l ++ (nodeC o n x).drop (7 + k + l.length) = nodeC o n { x with P := x.P.take k ++ l ++ x.P.drop (k + l.length) } := by
  have e1 : 7 + k = k + 7 := by omega
  have e2 : 7 + k + l.length = (k + l.length) + 7 := by omega
  rw [e2, e1]
  simp [nodeC, bvs, List.map_take, List.map_drop]

/-- What is written into a block's bytes. -/
theorem node_row {w : World} {a : Nat} {o n : Value} {x : Pl} (h : NAt w a o n x) (k : Nat) (l : List UInt8) : NAt (w.setRow a ((nodeC o n x).toArray.toList.take (7 + k) ++ bvs l ++ (nodeC o n x).toArray.toList.drop (7 + k + (bvs l).length)).toArray) a o n { x with P := x.P.take k ++ l ++ x.P.drop (k + l.length) } ∧ Fr (fun b => b = a) w (w.setRow a ((nodeC o n x).toArray.toList.take (7 + k) ++ bvs l ++ (nodeC o n x).toArray.toList.drop (7 + k + (bvs l).length)).toArray) := by
  refine ⟨?_, rfl, rfl, rfl, by simp, fun k hk hs => setRow_other w a k _ hs⟩
  unfold NAt
  rw [setRow_heap w a _ _ _ _ h, bvs_length, List.toList_toArray, nodeC_put]

theorem copy_node (w : World) (a : Nat) (o n : Value) (x : Pl) (h : NAt w a o n x) (hx : x.P.length = 384) (v : Value) (l : List UInt8) (hv : Rd w v l) (hl : l.length ≤ 384) :
    ∃ w', (Builtin.copy_ #[37, 37] 3 #[.slice (some ⟨a, 7, none⟩) 384 384, v]).run Try.prog w = .ok (.int .i64 (l.length : Int)) w' ∧ NAt w' a o n { x with P := l ++ x.P.drop l.length } ∧ Fr (fun b => b = a) w w' := by
  obtain ⟨ao, cap, rfl⟩ := hv.shape
  by_cases h0 : 0 < l.length
  · obtain ⟨b, so, rfl, -, h1, h2, h3⟩ := hv.lits h0
    have := run_copy_row (P := Try.prog) w 37 37 3 5 a 7 384 384 ⟨b, so, none⟩ l.length cap _ 91 (bvs l) Try.underlying37 (by kernel_rfl) h (by rw [bvs_length]; exact (Nat.min_eq_left hl).symm)
      (fun j u hu => by
        have hj : j < l.length := by
          have := (List.getElem?_eq_some_iff.1 hu).1
          rwa [bvs_length] at this
        rw [Addr.add_lit, h3 j hj]
        rw [bvs_get _ j hj] at hu
        exact hu) (by rw [bvs_length, List.size_toArray, nodeC_length]; omega) (bvs_one _)
    have hr := node_row h 0 l
    rw [Nat.add_zero] at hr
    refine ⟨_, by rw [this, bvs_length]; rfl, ?_, hr.2⟩
    have := hr.1
    simpa using this
  · obtain rfl := List.eq_nil_of_length_eq_zero (show l.length = 0 by omega)
    refine ⟨w, ?_, by simpa using h, Fr.refl _ _⟩
    have := run_copy_none (P := Try.prog) w 37 37 3 5 (some ⟨a, 7, none⟩) ao 384 384 0 cap Try.underlying37 (by kernel_rfl) (by simp)
    rw [show (Value.int .i64 ((([] : List UInt8).length : Nat) : Int)) = goInt 0 from rfl]
    simpa using this

theorem zero5 (w : World) : (zeroValue 5).run Try.prog w = .ok (.int .u8 0) w := by simp [go_sem]

theorem clear_node (w : World) (a : Nat) (o n : Value) (x : Pl) (h : NAt w a o n x) (hx : x.P.length = 384) (k m : Nat) (hm : 0 < m) (hk : k + m = 384) :
    ∃ w', (Builtin.clear_ #[37] 0 #[.slice (some ⟨a, 7 + k, none⟩) m m]).run Try.prog w = .ok (.tuple #[]) w' ∧ NAt w' a o n { x with P := x.P.take k ++ List.replicate m 0 } ∧ Fr (fun b => b = a) w w' := by
  have hc : ∀ j, j < m → (w.cell? ⟨a, 7 + k + j, none⟩).isSome = true := fun j hj => by
    rw [cell_of_heap h, Array.getElem?_eq_getElem (by rw [List.size_toArray, nodeC_length]; omega)]; rfl
  have := Lib.run_clear_slice (P := Try.prog) w 37 5 0 (.int .u8 0) Try.underlying37 zero5 rfl rfl a (7 + k) m m hm hc (fun j hj => frozen_of_heap h _)
  have hs := run_storeCells_at Try.prog a (7 + k) 91 (List.replicate m (Value.int .u8 0)) 0 _ w h (by rw [List.size_toArray, nodeC_length, List.length_replicate]; omega) (by intro v hv; rw [List.eq_of_mem_replicate hv]; rfl)
  have hs2 := run_storeCells_cells (P := Try.prog) a (7 + k) (List.replicate m (Value.int .u8 0)) 0 w (by simpa using hc) (by intro j _; exact frozen_of_heap h _) (by intro v hv; rw [List.eq_of_mem_replicate hv]; rfl)
  rw [hs] at hs2
  simp only [Result.ok.injEq, true_and, Nat.add_zero] at hs2
  rw [← hs2] at this
  have hb : List.replicate m (Value.int .u8 0) = bvs (List.replicate m 0) := by simp [bvs]
  rw [hb] at this
  have hr := node_row h k (List.replicate m 0)
  refine ⟨_, this, ?_, hr.2⟩
  have h1 := hr.1
  have e : x.P.drop (k + (List.replicate m (0 : UInt8)).length) = [] := by rw [List.length_replicate, List.drop_of_length_le (by omega)]
  rw [e, List.append_nil] at h1
  exact h1

theorem slice89 (w : World) (a k : Nat) (h1 : k ≤ 384) (h2 : ¬ 384 = k) : (Instr.sliceAt 89 (.pointer (some ⟨a, 7, none⟩)) (some (.int .i64 (k : Int))) none none).run Try.prog w = .ok (.slice (some ⟨a, 7 + k, none⟩) (384 - k) (384 - k)) w := by
  simp [Instr.sliceAt, Instr.slice, Instr.sliceBounds, Instr.sliceBound, asIntOf, go_sem, h1, h2]
theorem clear_none (w : World) (ao : Option Addr) (c : Nat) : (Builtin.clear_ #[37] 0 #[.slice ao 0 c]).run Try.prog w = .ok (.tuple #[]) w := by
  cases ao <;> simp [Builtin.clear_, go_sem]

/-- Bytes, and zeros behind them. -/
def pad (l : List UInt8) : List UInt8 := l ++ List.replicate (384 - l.length) 0
theorem pad_length {l : List UInt8} (h : l.length ≤ 384) : (pad l).length = 384 := by simp [pad]; omega

set_option maxRecDepth 100000 in
theorem fill_any (w : World) (a : Nat) (o n : Value) (x : Pl) (h : NAt w a o n x) (hx : x.P.length = 384) (v : Value) (l : List UInt8) (hv : Rd w v l) (hl : l.length ≤ 384) : Calls Try.prog 47 #[ptr a, v] w fun e w' => e = .returned (.tuple #[]) ∧ NAt w' a o n { x with P := pad l } ∧ Fr (fun b => b = a) w w' := by
  obtain ⟨w1, hr, h1, f1⟩ := copy_node w a o n x h hx v l hv hl
  have H1 := hide h1
  have F1 := hide f1
  obtain ⟨k, hk⟩ : ∃ k, k = l.length := ⟨_, rfl⟩
  by_cases hm : l.length < 384
  · obtain ⟨w2, hr2, h2, f2⟩ := clear_node w1 a o n _ h1 (by simp; omega) k (384 - k) (by omega) (by omega)
    have H2 := hide h2
    have F2 := hide f2
    rw [← hk] at hr
    have HK := hide hk
    have hsl := slice89 w1 a k (by omega) (by omega)
    clear h1 f1 h2 f2 hk hm hx hl hv h
    unfold ptr
    go_enter Try.func47, Try.ntmps47
    go_wp2_with fail
    go_end0
    refine ⟨rfl, ?_, (unhide F1).trans (unhide F2) (fun _ _ h => h)⟩
    have h2 := unhide H2
    unfold pad
    rw [unhide HK, List.take_left] at h2
    exact h2
  · obtain rfl : k = 384 := by omega
    have hl2 : l.length = 384 := by omega
    rw [hl2] at hr
    have e : { x with P := l ++ x.P.drop l.length } = ({ x with P := pad l } : Pl) := by
      rw [List.drop_of_length_le (by omega)]; simp [pad, hl2]
    rw [e] at H1
    have hcl := clear_none w1 (some ⟨a, 7, none⟩) 0
    clear h1 f1 hk hm hx hl hv h hl2 e
    unfold ptr
    go_enter Try.func47, Try.ntmps47
    go_wp2_with fail
    go_end0
    exact ⟨rfl, unhide H1, unhide F1⟩
end Go.Proofs.Ytdgmlopaeonacaa
