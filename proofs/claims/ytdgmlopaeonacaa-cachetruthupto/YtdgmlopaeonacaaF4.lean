/-
  Kinds of operations of the law's walk.
-/
import Derived.Test.YtdgmlopaeonacaaF3
namespace Go.Proofs.Ytdgmlopaeonacaa
open Go.RowKit
set_option linter.unusedVariables false
set_option linter.unusedSimpArgs false

theorem Try.info38 : (Try.prog.info? 38).map (fun i => (i.zero, i.size, i.bytes)) = some (some (.int .u64 0), 1, 8) := by kernel_rfl
theorem Try.info9 : (Try.prog.info? 9).map (fun i => (i.zero, i.size, i.bytes)) = some (some (.string (str [])), 1, 16) := by kernel_rfl
theorem made_c (n : Nat) : madeCells (Value.int .u64 0).cells (n * 1) = (cvs (List.replicate n 0)).toArray := by
  apply Array.ext
  · simp [cvs, size_madeCells]
  · intro i h1 h2
    simp [cvs, madeCells, Value.cells, Nat.mod_one]
theorem made_s (n : Nat) : madeCells (Value.string (str [])).cells (n * 1) = (svs (List.replicate n [])).toArray := by
  apply Array.ext
  · simp [svs, size_madeCells]
  · intro i h1 h2
    simp [svs, madeCells, Value.cells, Nat.mod_one]
theorem run_make61 (n : Nat) (hn : n ≤ 65536) (w : World) : (Instr.makeSlice 61 (.int .i64 (n : Int)) (.int .i64 (n : Int))).run Try.prog w = .ok (.slice (some ⟨w.heap.size, 0, none⟩) n n) (w.alloc (.cells (cvs (List.replicate n 0)).toArray 38)) := by
  obtain ⟨i, hi, hz0, hz1, hz2⟩ := info_parts Try.info38
  have := run_make (P := Try.prog) w 61 38 i _ Try.underlying61 hi hz0 .i64 .i64 (n : Int) (n : Int) (by omega) (Int.le_refl _) (by rw [hz2]; omega) (by omega)
  rw [this, hz1, Int.toNat_natCast, made_c]
theorem run_make60 (n : Nat) (hn : n ≤ 65536) (w : World) : (Instr.makeSlice 60 (.int .i64 (n : Int)) (.int .i64 (n : Int))).run Try.prog w = .ok (.slice (some ⟨w.heap.size, 0, none⟩) n n) (w.alloc (.cells (svs (List.replicate n [])).toArray 9)) := by
  obtain ⟨i, hi, hz0, hz1, hz2⟩ := info_parts Try.info9
  have := run_make (P := Try.prog) w 60 9 i _ Try.underlying60 hi hz0 .i64 .i64 (n : Int) (n : Int) (by omega) (Int.le_refl _) (by rw [hz2]; omega) (by omega)
  rw [this, hz1, Int.toNat_natCast, made_s]
/-- What the law copies ahead of the acts. -/
def wnt (n i : Nat) : List (List UInt8) := List.replicate i z384 ++ List.replicate (n - i) []
theorem wnt_set {n i : Nat} (h : i < n) : (wnt n i).set i z384 = wnt n (i + 1) := by
  unfold wnt
  obtain ⟨k, hk⟩ : ∃ k, n - i = k + 1 := ⟨n - i - 1, by omega⟩
  rw [hk, show n - (i + 1) = k by omega, List.set_append_right _ _ (by simp), List.replicate_succ' (n := i)]
  simp [List.replicate_succ]
theorem wnt_get {n i : Nat} (h : i < n) : (wnt n i)[i]? = some [] := by
  unfold wnt
  rw [List.getElem?_append_right (by simp), List.length_replicate, Nat.sub_self, List.getElem?_replicate, if_pos (by omega)]
theorem wpQuiet_val {P : Program} {ops : Array Oper} {C : World → Prop} {Q : Act → Prop} {o : Oper} {rest : List Oper} {a : Act} (hw : Region.wanted o (yielded ops a.tmps) = true) (v : Value) (h : ∀ w, C w → (execOp a.eval o).run P w = .ok (.value v) w) (k : wpQuiet P ops C Q rest (a.put o.dst v)) : wpQuiet P ops C Q (o :: rest) a := by
  refine wpQuiet_step (fun K hK => ?_)
  rw [if_pos hw]
  refine ⟨v, fun w hC => ?_, hK _ k⟩
  unfold Oper.quietAt
  rw [h w hC]
  exact ⟨rfl, rfl⟩
theorem num_same (w : World) (n : Int) : Calls Try.prog 12 #[.int .i64 n] w fun e w' => e = .returned (.int .i64 n) ∧ w' = w := (num_any w n).mono fun e w' h => ⟨h.1, h.2.symm⟩
end Go.Proofs.Ytdgmlopaeonacaa
