/-
  The walks of package rs: the rows of some shards.
-/
import Derived.Test.YtckmddkhkdcmmaaRs6
namespace Go.Proofs.Ytckmddkhkdcmmaa
open Go.RowKit
set_option linter.unusedVariables false

attribute [local go_sem ↓] Go.wp_at_zero Go.wp_at_succ

theorem fl_rowG (k i : Nat) (cell : Nat → Nat → UInt8) (hk : 1 ≤ k) : fl k cell ((i + 1) * k) = fl k cell (i * k) ++ (List.range k).map (cell i) := by
  apply List.ext_getElem
  · simp [fl_length, Nat.succ_mul]
  · intro j h1 h2
    rw [fl_length, Nat.succ_mul] at h1
    rw [fl_get]
    by_cases h : j < i * k
    · rw [List.getElem_append_left (by rw [fl_length]; exact h), fl_get]
    · rw [List.getElem_append_right (by rw [fl_length]; omega)]
      obtain ⟨c, rfl⟩ : ∃ c, j = i * k + c := ⟨j - i * k, by omega⟩
      have hc : c < k := by omega
      have e : i * k + c - (fl k cell (i * k)).length = c := by rw [fl_length]; omega
      simp only [e, List.getElem_map, List.getElem_range]
      rw [Nat.mul_comm i k, Nat.mul_add_div (by omega), Nat.div_eq_of_lt hc, Nat.mul_add_mod, Nat.mod_eq_of_lt hc, Nat.add_zero]

theorem fl_copyG (k i n : Nat) (cell : Nat → Nat → UInt8) (row : List UInt8) (hrow : row = (List.range k).map (cell i)) (hk : 1 ≤ k) (hi : (i + 1) * k ≤ n) :
    (fl k cell (i * k) ++ List.replicate (n - i * k) 0).take (i * k) ++ row ++ (fl k cell (i * k) ++ List.replicate (n - i * k) 0).drop (i * k + row.length) = fl k cell ((i + 1) * k) ++ List.replicate (n - (i + 1) * k) 0 := by
  rw [Nat.succ_mul] at hi
  have hl : row.length = k := by rw [hrow]; simp
  rw [fl_rowG k i cell hk, hl, ← hrow, List.take_append_of_le_length (by rw [fl_length]; omega), List.take_of_length_le (by rw [fl_length]; omega), List.drop_append, fl_length, List.drop_of_length_le (by rw [fl_length]; omega), List.nil_append, List.drop_replicate, Nat.succ_mul]
  congr 2
  omega

theorem fr_cells3 (w : World) (p : Nat) (a b c : Value) : Fr (fun k => k = p) w (((w.setCell ⟨p, 0, none⟩ a).setCell ⟨p, 1, none⟩ b).setCell ⟨p, 2, none⟩ c) := fr_three w p a b c

set_option maxHeartbeats 2000000 in
set_option maxRecDepth 100000 in
theorem rows_any (w : World) (p k m : Nat) (wv : Value) (which : List Nat) (hC : CAt w p k m) (hR : RdV w wv (ints which)) (hlen : which.length = k) (hb : ∀ i ∈ which, i < k + m) :
    Calls Try.prog 113 #[.pointer (some ⟨p, 0, none⟩), wv] w fun e w' => (∃ q, e = .returned (.agg #[.int .i64 (k : Int), .int .i64 (k : Int), .slice (some ⟨q, 0, none⟩) (k * k) (k * k)]) ∧ BAt w' q (cw k which)) ∧ Fr (fun _ => False) w w' := by
  have hk := hC.hk
  have hm := hC.hm
  obtain ⟨q, h1, -⟩ := hC.ex
  have hplt := lt_of_heap h1
  have c0 := cell_of_heap h1 0
  simp at c0
  obtain ⟨wo, wc, rfl⟩ := hR.shape
  have hwl : (ints which).length = k := by simp [ints, hlen]
  rw [hwl] at hR ⊢
  obtain ⟨n, hn⟩ : ∃ n, n = k * k := ⟨_, rfl⟩
  have hn1 : n ≤ 16 * 16 := by rw [hn]; exact Nat.mul_le_mul hk.2 hk.2
  have eN : (k : Int) * (k : Int) = (n : Int) := by rw [hn]; simp
  have b4 : IntKind.i64.wrap (n : Int) = (n : Int) := by rw [IntKind.wrap_i64]; omega
  have hmk := run_make5 n (by omega)
  rw [← hn]
  have HN := hide hn
  have HC := hide hC
  have HR := hide hR
  have HLN := hide hlen
  have HBd := hide hb
  clear hC h1 hR hwl hn hlen hb
  go_enter Try.func113, Try.ntmps113
  go_wp2_with fail
  go_region
  clear hmk
  have HF1 := hide ((((Fr.refl (fun _ => False) w).alloc (Obj.cells #[Value.int IntKind.i64 0, Value.int IntKind.i64 0, Value.slice none 0 0] 24)).alloc (Obj.cells (bvs (List.replicate n 0)).toArray 5)).drew)
  have HB1 := hide (show BAt ((w.alloc (Obj.cells #[Value.int IntKind.i64 0, Value.int IntKind.i64 0, Value.slice none 0 0] 24)).alloc (Obj.cells (bvs (List.replicate n 0)).toArray 5)).drew (w.heap.size + 1) (List.replicate n 0) from by
    have := bat_new (w.alloc (Obj.cells #[Value.int IntKind.i64 0, Value.int IntKind.i64 0, Value.slice none 0 0] 24)) (List.replicate n 0)
    rw [show (w.alloc (Obj.cells #[Value.int IntKind.i64 0, Value.int IntKind.i64 0, Value.slice none 0 0] 24)).heap.size = w.heap.size + 1 by simp] at this
    exact this)
  have HX1 := hide (show ((w.alloc (Obj.cells #[Value.int IntKind.i64 0, Value.int IntKind.i64 0, Value.slice none 0 0] 24)).alloc (Obj.cells (bvs (List.replicate n 0)).toArray 5)).drew.heap[w.heap.size]? = some (.cells #[Value.int IntKind.i64 0, Value.int IntKind.i64 0, Value.slice none 0 0] 24 (0, 0)) from by
    show ((w.alloc (Obj.cells #[Value.int IntKind.i64 0, Value.int IntKind.i64 0, Value.slice none 0 0] 24)).alloc (Obj.cells (bvs (List.replicate n 0)).toArray 5)).heap[w.heap.size]? = _
    rw [Below.heap_alloc _ _ _ (by simp)]
    exact heap_alloc_new w _)
  generalize ((w.alloc (Obj.cells #[Value.int IntKind.i64 0, Value.int IntKind.i64 0, Value.slice none 0 0] 24)).alloc (Obj.cells (bvs (List.replicate n 0)).toArray 5)).drew = w1 at *
  go_wp2_with fail
  go_loopw [20] (fun x w' => ∃ i : Nat, i ≤ k ∧ x = .int .i64 (i : Int) ∧ BAt w' (w.heap.size + 1) (fl k (fun r c => co k (which[r]?.getD 0) c) (i * k) ++ List.replicate (n - i * k) 0) ∧ w'.heap[w.heap.size]? = some (.cells #[Value.int IntKind.i64 0, Value.int IntKind.i64 0, Value.slice none 0 0] 24 (0, 0)) ∧ Fr (fun _ => False) w w') (fun x _ => k - (intOf x).toNat)
  case atStart => exact ⟨0, by omega, rfl, by simpa [fl] using unhide HB1, unhide HX1, unhide HF1⟩
  case round =>
    obtain ⟨i, hi, rfl, hB, hX, hf⟩ := hrel
    have c0' : wr.cell? ⟨p, 0, none⟩ = some (.int .i64 (k : Int)) := by rw [hf.cell (a := ⟨p, 0, none⟩) hplt id]; exact c0
    by_cases hlt : i < k
    · have hle : (i + 1) * k ≤ n := by rw [unhide HN]; exact Nat.mul_le_mul_right _ hlt
      have hiw : i < which.length := by rw [unhide HLN]; exact hlt
      obtain ⟨wb, wof, rfl, -, -, -, hcw⟩ := ((unhide HR).kept hf (fun _ _ h => h)).lits (by simp [ints]; omega)
      have c1 := hcw i (by simpa [ints] using hiw)
      have ew : (ints which)[i]'(by simpa [ints] using hiw) = .int .i64 ((which[i] : Nat) : Int) := by simp [ints]
      rw [ew] at c1
      have hwi := unhide HBd _ (List.getElem_mem hiw)
      have egd : which[i]?.getD 0 = which[i] := by rw [List.getElem?_eq_getElem hiw]; rfl
      generalize which[i] = wi at *
      have HRO := hide (rowOf_any wr (w.heap.size + 1) 0 i k n n (by omega) hk hle)
      rw [Nat.zero_add] at HRO
      have HRW := hide (row_any wr p k m wi ((unhide HC).kept hf (fun _ _ h => h)) hwi)
      have HB := hide hB
      have HX := hide hX
      have Hf := hide hf
      have HE := hide egd
      clear hB hX hf hcw ew egd
      go_wp2_with fail
      refine (unhide HRO).mono ?_
      rintro e w2 ⟨rfl, rfl⟩
      go_wp2_with fail
      refine (unhide HRW).mono ?_
      rintro e w2 ⟨⟨q2, rfl, hR2, -⟩, f2⟩
      have hB2 := (unhide HB).kept f2 id
      obtain ⟨w3, hcp, hB3, hf3⟩ := copy_any w2 (w.heap.size + 1) (i * k) k k _ _ _ hB2 hR2 (by rw [rowL_length]; omega) (by rw [List.length_append, fl_length, List.length_replicate]; rw [Nat.succ_mul] at hle; omega)
      rw [fl_copyG k i n _ _ (by rw [unhide HE]; rfl) hk.1 hle] at hB3
      have F3 : Fr (fun b => b = w.heap.size + 1) wr w3 := (f2.mono (fun _ _ h => h.elim)).trans hf3 (fun _ _ h => h)
      have HB3 := hide hB3
      have HF3 := hide F3
      clear hR2 f2 hB2 hB3 hf3 F3
      go_wp2_with fail
      clear hcp
      go_roundw
      case rel =>
        refine ⟨i + 1, by omega, by go_num, unhide HB3, ?_, (unhide Hf).trans (unhide HF3) (fun b hb h => by omega)⟩
        rw [(unhide HF3).block _ (lt_of_heap (unhide HX)) (by omega)]
        exact unhide HX
      case measure => simp [intOf]; omega
    · have hie : i = k := by omega
      subst hie
      have x0 := cell_of_heap hX 0
      have x1 := cell_of_heap hX 1
      have x2 := cell_of_heap hX 2
      have z0 := frozen_of_heap hX
      simp at x0 x1 x2
      have HB := hide hB
      have HX := hide hX
      have Hf := hide hf
      clear hB hX hf
      go_wp2_with fail
      go_region
      go_wp2_with fail
      have f3 : Fr (fun b => b = w.heap.size) wr (((wr.setCell ⟨w.heap.size, 0, none⟩ (.int .i64 (i : Int))).setCell ⟨w.heap.size, 1, none⟩ (.int .i64 (i : Int))).setCell ⟨w.heap.size, 2, none⟩ (.slice (some ⟨w.heap.size + 1, 0, none⟩) n n)).drew := (fr_three wr _ _ _ _).drew
      refine bodyPost_ret (v := .agg #[.int .i64 (i : Int), .int .i64 (i : Int), .slice (some ⟨w.heap.size + 1, 0, none⟩) n n]) (by simp [results, Try.results113, go_sem, x0, x1, x2]) rfl ⟨⟨_, rfl, ?_⟩, (unhide Hf).trans f3 (fun b hb h => by omega)⟩
      have h0 := unhide HB
      rw [show n - i * i = 0 by rw [unhide HN]; omega, List.replicate_zero, List.append_nil] at h0
      exact h0.kept f3 (by omega)

end Go.Proofs.Ytckmddkhkdcmmaa
