/-
  The walk of package disk's New.
-/
import Derived.Test.YtdhendcogjhgfaaD3
namespace Go.Proofs.Ytdhendcogjhgfaa
open Go.RowKit
set_option linter.unusedVariables false

attribute [local go_sem ↓] Go.wp_at_zero Go.wp_at_succ

theorem Try.size92 : (Try.prog.info? 92).map (fun i => (i.size, i.bytes)) = some (513, 513) := by kernel_rfl
theorem Try.size95 : (Try.prog.info? 95).map (fun i => (i.size, i.bytes)) = some (513, 520) := by kernel_rfl
theorem Try.zero92 : ((Try.prog.info? 92).bind (fun i => i.zero)).map (fun z => z.cells.toList) = some (List.replicate 513 (Value.int .u8 0)) := by kernel_rfl
theorem Try.zero95 : ((Try.prog.info? 95).bind (fun i => i.zero)).map (fun z => z.cells.toList) = some (Value.int .i64 0 :: List.replicate 512 (Value.int .u8 0)) := by kernel_rfl

theorem info_zero {P : Program} {t : TypeId} {n b : Nat} {cs : List Value} (h1 : (P.info? t).map (fun i => (i.size, i.bytes)) = some (n, b)) (h2 : ((P.info? t).bind (fun i => i.zero)).map (fun z => z.cells.toList) = some cs) : ∃ i z, P.info? t = some i ∧ i.zero = some z ∧ i.size = n ∧ i.bytes = b ∧ z.cells.toList = cs := by
  cases e : P.info? t with
  | none => rw [e] at h1; simp at h1
  | some i =>
    rw [e] at h1 h2
    simp at h1
    simp only [Option.bind_some] at h2
    cases e2 : i.zero with
    | none => rw [e2] at h2; simp at h2
    | some z =>
      rw [e2] at h2
      simp at h2
      exact ⟨i, z, rfl, e2, h1.1, h1.2, by simpa using h2⟩

theorem bvs_zero (n : Nat) : bvs (List.replicate n 0) = List.replicate n (Value.int .u8 0) := by simp [bvs]
theorem pad_zero {z : Nat} (h : z ≤ 512) : pad (List.replicate z 0) = List.replicate 512 0 := by
  unfold pad
  rw [List.length_replicate, List.replicate_append_replicate]
  congr 1
  omega
theorem secC_zero {z : Nat} (h : z ≤ 512) : secC (List.replicate z 0, 0) = List.replicate 513 (Value.int .u8 0) := by
  unfold secC
  rw [pad_zero h, bvs_zero]
  show List.replicate 512 (Value.int .u8 0) ++ [Value.int .u8 0] = _
  rw [show [Value.int .u8 0] = List.replicate 1 (Value.int .u8 0) from rfl, List.replicate_append_replicate]
theorem secF_zero (s : Nat) {z : Nat} (h : z ≤ 512) : secF (List.replicate s (List.replicate z 0, 0)) = List.replicate (s * 513) (Value.int .u8 0) := by
  unfold secF
  rw [List.map_replicate, secC_zero h, List.flatten_replicate_replicate]
theorem made_zero {cs : Array Value} (h : cs.toList = List.replicate 513 (Value.int .u8 0)) (s : Nat) : (madeCells cs (s * 513)).toList = List.replicate (s * 513) (Value.int .u8 0) := by
  have hs : cs.size = 513 := by rw [← Array.length_toList, h, List.length_replicate]
  apply List.ext_getElem
  · simp [size_madeCells]
  · intro j h1 h2
    rw [List.getElem_replicate]
    have hz : ∀ k (hk : k < cs.size), cs[k] = Value.int .u8 0 := by
      intro k hk
      have : cs.toList[k]'(by simpa using hk) = Value.int .u8 0 := by simp only [h, List.getElem_replicate]
      simpa using this
    have hm : j % cs.size < cs.size := Nat.mod_lt _ (by omega)
    simp [madeCells, hm, hz]

/-- A new disk. -/
def newD (s z : Nat) : Dk := ⟨z, List.replicate s (List.replicate z 0, 0), [], false, 0, s, []⟩

theorem newD_ok {s z : Nat} (hs : 1 ≤ s ∧ s ≤ 65536) (hz : 8 ≤ z ∧ z ≤ 512) : (newD s z).Ok :=
  ⟨hz, by simpa [newD] using hs, fun x hx => by
    have := (List.mem_replicate.1 hx).2
    subst this
    simp [newD], fun q hq => by simp [newD] at hq, by simp [newD], by simp [newD], by simp [newD, maxLen]; omega⟩

set_option maxHeartbeats 1000000 in
set_option maxRecDepth 100000 in
theorem new_ok (w : World) (s z : Nat) (hs : 1 ≤ s ∧ s ≤ 65536) (hz : 8 ≤ z ∧ z ≤ 512) : Calls Try.prog 12 #[.int .i64 (s : Int), .int .i64 (z : Int)] w fun e w' => (∃ p gs, e = .returned (.tuple #[.pointer (some ⟨p, 0, none⟩), .int .i64 0]) ∧ w.heap.size ≤ p ∧ w.heap.size ≤ gs ∧ KAt w' p gs (.slice none 0 0) (newD s z)) ∧ Fr (fun _ => False) w w' := by
  obtain ⟨i, zv, hi, hz0, hz1, hz2, hz3⟩ := info_zero Try.size92 Try.zero92
  obtain ⟨w1, hmk, ho, hg⟩ := run_make_full (P := Try.prog) (w := w) 0 75 92 i zv 513 Try.underlying75 hi hz0 hz1 .i64 .i64 s (by rw [hz2]; omega) (by simp only [maxLen]; omega) (Nat.zero_le _)
  rw [made_zero hz3] at ho
  have hh : w1.heap[w.heap.size]? = some (.cells (List.replicate (s * 513) (Value.int .u8 0)).toArray 92 (0, 0)) := by
    rcases ho.2 with ⟨hv, -⟩ | ⟨g, cap, cur, hv, -, h1, -, -, h2, h3⟩
    · simp at hv
    · simp only [Value.slice.injEq, Option.some.injEq, Addr.mk.injEq] at hv
      obtain ⟨⟨rfl, -, -⟩, -, rfl⟩ := hv
      rw [h1]
      have : cur.toList.length = s * 513 := by simpa using h2
      rw [List.take_of_length_le (by omega)] at h3
      rw [← h3]
  have HH := hide hh
  have HF := hide (show Fr (fun _ => False) w w1 from (Fr.refl _ _).grown hg (fun k hk e => by simp at e))
  have b1 : decide ((s : Int) < 1) = false := by simp; omega
  have b2 : decide ((65536 : Int) < (s : Int)) = false := by simp; omega
  have b3 : decide ((z : Int) < 8) = false := by simp; omega
  have b4 : decide ((512 : Int) < (z : Int)) = false := by simp; omega
  clear ho hg hh
  go_enter Try.func12, Try.ntmps12
  go_wp2_with fail
  go_ret2
  have hsl : w.heap.size < w1.heap.size := lt_of_heap (unhide HH)
  refine ⟨⟨_, w.heap.size, rfl, by omega, Nat.le_refl _, ?_⟩, (unhide HF).alloc _⟩
  refine ⟨?_, ?_, ⟨by simp [newD, wrF], .inl ⟨rfl, rfl⟩⟩, newD_ok hs hz⟩
  · rw [heap_alloc_new]
    simp [newD]
  · rw [Below.heap_alloc _ _ _ hsl, unhide HH]
    show _ = some (Obj.cells (secF (List.replicate s (List.replicate z 0, 0)) ++ []).toArray 92 (0, 0))
    rw [List.append_nil, secF_zero s hz.2]

theorem new_no (w : World) (s z : Int) (h : ¬ (1 ≤ s ∧ s ≤ 65536 ∧ 8 ≤ z ∧ z ≤ 512)) : Calls Try.prog 12 #[.int .i64 s, .int .i64 z] w fun e w' => e = .returned (.tuple #[.pointer none, .int .i64 2]) ∧ w = w' := by
  by_cases h1 : s < 1
  · have b1 : decide (s < 1) = true := by simpa using h1
    go_enter Try.func12, Try.ntmps12
    go_wp2_with fail
    go_ret2
    exact ⟨rfl, rfl⟩
  · have b1 : decide (s < 1) = false := by simpa using h1
    by_cases h2 : 65536 < s
    · have b2 : decide (65536 < s) = true := by simpa using h2
      go_enter Try.func12, Try.ntmps12
      go_wp2_with fail
      go_ret2
      exact ⟨rfl, rfl⟩
    · have b2 : decide (65536 < s) = false := by simpa using h2
      by_cases h3 : z < 8
      · have b3 : decide (z < 8) = true := by simpa using h3
        go_enter Try.func12, Try.ntmps12
        go_wp2_with fail
        go_ret2
        exact ⟨rfl, rfl⟩
      · have b3 : decide (z < 8) = false := by simpa using h3
        have h4 : 512 < z := by omega
        have b4 : decide (512 < z) = true := by simpa using h4
        go_enter Try.func12, Try.ntmps12
        go_wp2_with fail
        go_ret2
        exact ⟨rfl, rfl⟩

end Go.Proofs.Ytdhendcogjhgfaa
