/-
  The walk of New.
-/
import Derived.Test.YtbpajilglfabbaaA7
namespace Go.Proofs.Ytbpajilglfabbaa
open Go.RowKit
set_option linter.unusedVariables false

attribute [local go_sem ↓] Go.wp_at_zero Go.wp_at_succ

theorem Try.info73 : (Try.prog.info? 73).map (fun i => (i.zero, i.size, i.bytes)) = some (some (.int .u64 0), 1, 8) := by kernel_rfl

theorem made_uint (n : Nat) : madeCells (Value.int .u64 0).cells (n * 1) = (uvs (List.replicate n 0)).toArray := by
  apply Array.ext
  · simp [uvs, size_madeCells]
  · intro i h1 h2
    simp [uvs, madeCells, Value.cells, Nat.mod_one]
theorem run_make73 (n : Nat) (hn : n ≤ 65536) (w : World) : (Instr.makeSlice 72 (.int .i64 (n : Int)) (.int .i64 (n : Int))).run Try.prog w = .ok (.slice (some ⟨w.heap.size, 0, none⟩) n n) (w.alloc (.cells (uvs (List.replicate n 0)).toArray 73)) := by
  obtain ⟨i, hi, hz0, hz1, hz2⟩ := info_parts Try.info73
  have := run_make (P := Try.prog) w 72 73 i _ Try.underlying72 hi hz0 .i64 .i64 (n : Int) (n : Int) (by omega) (Int.le_refl _) (by rw [hz2]; omega) (by omega)
  rw [this, hz1, Int.toNat_natCast, made_uint]

theorem fr_zero (n : Nat) : fr (List.replicate n 0) = n := by simp [fr]

/-- A new allocator, plainly. -/
def kc0 (n : Nat) : Kc := ⟨List.replicate n 0, List.replicate n 0, 0, 0, 0⟩

theorem heap3 (w : World) (a b c : Obj) : (((w.alloc a).alloc b).alloc c).heap[w.heap.size]? = some a ∧ (((w.alloc a).alloc b).alloc c).heap[w.heap.size + 1]? = some b ∧ (((w.alloc a).alloc b).alloc c).heap[w.heap.size + 1 + 1]? = some c ∧ Fr (fun _ => False) w (((w.alloc a).alloc b).alloc c) := by
  have s1 : (w.alloc a).heap.size = w.heap.size + 1 := by simp
  have s2 : ((w.alloc a).alloc b).heap.size = w.heap.size + 1 + 1 := by simp
  have h1 := heap_alloc_new w a
  have h2 := heap_alloc_new (w.alloc a) b
  have h3 := heap_alloc_new ((w.alloc a).alloc b) c
  rw [s1] at h2
  rw [s2] at h3
  refine ⟨?_, ?_, h3, (((Fr.refl _ _).alloc a).alloc b).alloc c⟩
  · rw [Below.heap_alloc _ _ _ (by omega), Below.heap_alloc _ _ _ (by omega)]; exact h1
  · rw [Below.heap_alloc _ _ _ (by omega)]; exact h2

section
variable (w : World)

theorem new_mk (n : Nat) (h1 : 1 ≤ n) (h2 : n ≤ 65536) (p q u : Nat) (w' : World) (hp : w'.heap[p]? = some (.cells #[.slice (some ⟨q, 0, none⟩) n n, .slice (some ⟨u, 0, none⟩) n n, .int .u64 0, .int .i64 (n : Int), .int .i64 0, .int .i64 0] 75 (0, 0)))
    (hq : w'.heap[q]? = some (.cells (bvs (List.replicate n 0)).toArray 5 (0, 0))) (hu : w'.heap[u]? = some (.cells (uvs (List.replicate n 0)).toArray 73 (0, 0))) : KA w' p ⟨q, u, [], []⟩ (kc0 n) :=
  ⟨by rw [hp]; simp [hdC, kc0, fr_zero], by rw [hq]; simp [kc0], by rw [hu]; simp [kc0], by simp [kc0], by simp [kc0]; omega, by simp [kc0]; omega, by simp [kc0, maxLen]; omega, by simp [kc0, maxLen]; omega, by simp [kc0], by simp [kc0], by simp [kc0]⟩

set_option maxHeartbeats 1000000 in
set_option maxRecDepth 100000 in
theorem new_ok (n : Nat) (h1 : 1 ≤ n) (h2 : n ≤ 65536) : Calls Try.prog 16 #[.int .i64 (n : Int)] w fun e w' => (∃ p X, e = .returned (.tuple #[ptr p, .int .i64 0]) ∧ KA w' p X (kc0 n) ∧ ∀ k, Bl p X k → w.heap.size ≤ k) ∧ Fr (fun _ => False) w w' := by
  have b1 : decide ((n : Int) < 1) = false := by simp; omega
  have b2 : decide ((65536 : Int) < (n : Int)) = false := by simp; omega
  have m1 := run_make5 n (by omega)
  have m2 := run_make73 n h2
  have HM := hide (fun p q u w' => new_mk n h1 h2 p q u w')
  obtain ⟨z1, hz1⟩ : ∃ z, z = (bvs (List.replicate n 0)).toArray := ⟨_, rfl⟩
  obtain ⟨z2, hz2⟩ : ∃ z, z = (uvs (List.replicate n 0)).toArray := ⟨_, rfl⟩
  rw [← hz1] at m1 HM
  rw [← hz2] at m2 HM
  clear hz1 hz2
  have H1 := hide h1
  have H2 := hide h2
  clear h1 h2
  go_enter Try.func16, Try.ntmps16
  go_wp2_with fail
  go_region_with (fail)
  · go_wp2_with fail
    go_ret2
    obtain ⟨g1, g2, g3, f3⟩ := heap3 w _ _ _
    exact ⟨⟨w.heap.size + 1 + 1, ⟨_, _, [], []⟩, rfl, unhide HM _ _ _ _ g3 g1 g2, by rintro k (rfl | rfl | rfl) <;> (try dsimp only) <;> omega⟩, f3.drew⟩
  · go_wp2_with fail
    go_ret2
    obtain ⟨g1, g2, g3, f3⟩ := heap3 w _ _ _
    exact ⟨⟨w.heap.size + 1 + 1, ⟨_, _, [], []⟩, rfl, unhide HM _ _ _ _ g3 g2 g1, by rintro k (rfl | rfl | rfl) <;> (try dsimp only) <;> omega⟩, f3.drew⟩

theorem new_no (n : Int) (h : n < 1 ∨ 65536 < n) : Calls Try.prog 16 #[.int .i64 n] w fun e w' => e = .returned (.tuple #[.pointer none, .int .i64 2]) ∧ w = w' := by
  by_cases h1 : n < 1
  · have b1 : decide (n < 1) = true := by simpa using h1
    clear h h1
    go_enter Try.func16, Try.ntmps16
    go_wp2_with fail
    go_ret2
    exact ⟨rfl, rfl⟩
  · have b1 : decide (n < 1) = false := by simpa using h1
    have b2 : decide (65536 < n) = true := by simp; omega
    clear h h1
    go_enter Try.func16, Try.ntmps16
    go_wp2_with fail
    go_ret2
    exact ⟨rfl, rfl⟩
end
end Go.Proofs.Ytbpajilglfabbaa
