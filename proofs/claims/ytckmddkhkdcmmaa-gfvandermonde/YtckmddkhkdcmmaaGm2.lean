/-
  The walk of gf's Rows, where it answers.
-/
import Derived.Test.YtckmddkhkdcmmaaGm1
namespace Go.Proofs.Ytckmddkhkdcmmaa
open Go.RowKit
set_option linter.unusedVariables false
set_option linter.unusedSimpArgs false

attribute [local go_sem ↓] Go.wp_at_zero Go.wp_at_succ

/-- Numbers of a slice of ints. -/
def nvs (xs : List Nat) : List Value := xs.map fun (x : Nat) => Value.int .i64 (x : Int)
theorem nvs_length (xs : List Nat) : (nvs xs).length = xs.length := by simp [nvs]

theorem cf80 (args : Array Value) (W : World) : Sem.run Try.prog (callFunc 80 args) W = .ok (.enter 80 args) W := by simp [go_sem]
theorem cf82 (args : Array Value) (W : World) : Sem.run Try.prog (callFunc 82 args) W = .ok (.enter 82 args) W := by simp [go_sem]

theorem none_any (w : World) (bA rows x : Nat) (cv vv : Value) (hA : w.heap[bA]? = some (.cells #[.int .i64 (rows : Int), cv, vv] 24 (0, 0))) (hx : x < rows) :
    Calls Try.prog 80 #[.int .i64 (x : Int), .pointer (some ⟨bA, 0, none⟩)] w fun e w' => e = .returned (.bool false) ∧ w = w' := by
  have a0 := cell_of_heap hA 0
  simp at a0
  have b1 : ¬ ((x : Int) < 0) := by omega
  have b2 : ¬ ((rows : Int) ≤ (x : Int)) := by omega
  clear hA
  go_enter Try.func80, Try.ntmps80
  go_wp2_with fail
  go_ret
  exact ⟨rfl, rfl⟩

set_option maxHeartbeats 1000000 in
set_option maxRecDepth 100000 in
theorem indexFunc_no (w : World) (bA rows : Nat) (cv vv wv : Value) (xs : List Nat) (hA : w.heap[bA]? = some (.cells #[.int .i64 (rows : Int), cv, vv] 24 (0, 0))) (hw : RdV w wv (nvs xs)) (hx : ∀ x ∈ xs, x < rows) (hl : xs.length ≤ 100000) :
    Calls Try.prog 109 #[wv, .func (.func 80) #[] #[.pointer (some ⟨bA, 0, none⟩)]] w fun e w' => e = .returned (.int .i64 (-1)) ∧ w = w' := by
  have HW := hide hw
  have HX := hide hx
  have HA := hide hA
  obtain ⟨wo, wc, rfl⟩ := hw.shape
  rw [nvs_length] at HW ⊢
  have HCF := hide cf80
  obtain ⟨n, hn⟩ : ∃ n, n = xs.length := ⟨_, rfl⟩
  have HN := hide hn
  rw [← hn] at hl HW ⊢
  clear hw hx hA hn
  go_enter Try.func109, Try.ntmps109
  go_wp2_with fail
  go_loopw [5, 8] (fun _ y w' => ∃ i : Nat, i ≤ n ∧ y = .int .i64 (i : Int) ∧ w' = w) (fun _ y _ => n - (intOf y).toNat)
  case atStart => exact ⟨0, Nat.zero_le _, rfl, rfl⟩
  case round =>
    obtain ⟨i, hi, rfl, rfl⟩ := hrel
    by_cases hlt : i < n
    · have hix : i < xs.length := by have := unhide HN; omega
      obtain ⟨b, o, rfl, -, -, -, hc⟩ := (unhide HW).lits (by rw [nvs_length]; omega)
      have c0 := hc i (by rw [nvs_length]; exact hix)
      have e0 : (nvs xs)[i]'(by rw [nvs_length]; exact hix) = .int .i64 ((xs[i] : Nat) : Int) := by simp [nvs]
      rw [e0] at c0
      have hxr := unhide HX xs[i] (List.getElem_mem _)
      have HN80 := hide (none_any wr bA rows xs[i] cv vv (unhide HA) hxr)
      generalize xs[i] = x at *
      have hcf := unhide HCF
      clear hc e0
      go_wp2_with (go_at_call 80; refine (unhide HN80).mono ?_; rintro e w2 ⟨rfl, rfl⟩)
      go_roundw
      case rel => exact ⟨i + 1, by omega, by go_num, trivial⟩
      case measure => simp [intOf]; omega
    · obtain rfl : i = n := by omega
      go_wp2_with fail
      go_ret
      exact ⟨rfl, rfl⟩

theorem containsFunc_no (w : World) (bA rows : Nat) (cv vv wv : Value) (xs : List Nat) (hA : w.heap[bA]? = some (.cells #[.int .i64 (rows : Int), cv, vv] 24 (0, 0))) (hw : RdV w wv (nvs xs)) (hx : ∀ x ∈ xs, x < rows) (hl : xs.length ≤ 100000) :
    Calls Try.prog 81 #[wv, .func (.func 80) #[] #[.pointer (some ⟨bA, 0, none⟩)]] w fun e w' => e = .returned (.bool false) ∧ w = w' := by
  have HI := hide (indexFunc_no w bA rows cv vv wv xs hA hw hx hl)
  obtain ⟨wo, wc, rfl⟩ := hw.shape
  clear hA hw hx
  go_enter Try.func81, Try.ntmps81
  go_wp2_with (go_at_call 109; refine (unhide HI).mono ?_; rintro e w2 ⟨rfl, rfl⟩)
  go_ret
  exact ⟨rfl, rfl⟩

set_option maxHeartbeats 1000000 in
set_option maxRecDepth 100000 in
theorem rows1_any (w : World) (bA bW rows cols : Nat) (va wv : Value) (la : List UInt8) (xs : List Nat) (r c : Nat) (hA : w.heap[bA]? = some (.cells #[.int .i64 (rows : Int), .int .i64 (cols : Int), va] 24 (0, 0))) (hW : w.heap[bW]? = some (.cells #[wv] 25 (0, 0))) (ha : Rd w va la) (hw : RdV w wv (nvs xs)) (hla : la.length = rows * cols)
    (h1 : 1 ≤ rows ∧ rows ≤ 64) (h2 : 1 ≤ cols ∧ cols ≤ 64) (hx : ∀ x ∈ xs, x < rows) (hr : r < xs.length) (hc : c < cols) :
    Calls Try.prog 82 #[.int .i64 (r : Int), .int .i64 (c : Int), .pointer (some ⟨bA, 0, none⟩), .pointer (some ⟨bW, 0, none⟩)] w fun e w' => e = .returned (.int .u8 (((mc la cols (xs[r]?.getD 0) c).toNat : Nat) : Int)) ∧ Fr (fun _ => False) w w' := by
  obtain ⟨wo, wc, rfl⟩ := hw.shape
  rw [nvs_length] at hW hw
  obtain ⟨b, o, rfl, -, -, -, hcs⟩ := hw.lits (by rw [nvs_length]; omega)
  have d0 := hcs r (by rw [nvs_length]; exact hr)
  have e0 : (nvs xs)[r]'(by rw [nvs_length]; exact hr) = .int .i64 ((xs[r] : Nat) : Int) := by simp [nvs]
  rw [e0] at d0
  have hxr := hx xs[r] (List.getElem_mem _)
  have exr : xs[r]?.getD 0 = xs[r] := by rw [List.getElem?_eq_getElem hr]; rfl
  rw [exr]
  generalize xs[r] = x at *
  have hblt := World.block_lt_of_cell? w _ d0
  simp only at hblt
  have hlt : x * cols + c < la.length := by rw [hla]; exact mul_step hxr hc
  have HAt := hide (show ∀ W, Fr (fun _ => False) w W → Calls Try.prog 69 #[.agg #[.int .i64 (rows : Int), .int .i64 (cols : Int), va], .int .i64 (x : Int), .int .i64 (c : Int)] W fun e w' => e = .returned (.int .u8 (((mc la cols x c).toNat : Nat) : Int)) ∧ Fr (fun _ => False) w w' from fun W f => by
    refine (at_any W rows x c cols va la (ha.kept f (fun _ _ h => h)) (by omega) (by omega) h2.2 hlt).mono ?_
    rintro e w' ⟨rfl, f'⟩
    exact ⟨by unfold mc; rw [List.getElem?_eq_getElem hlt]; rfl, f.trans f' (fun _ _ h => h)⟩)
  have HC := hide (show ∀ W, Fr (fun _ => False) w W → W.cell? ⟨bA, 0, none⟩ = some (.int .i64 (rows : Int)) ∧ W.cell? ⟨bA, 1, none⟩ = some (.int .i64 (cols : Int)) ∧ W.cell? ⟨bA, 2, none⟩ = some va ∧ W.cell? ⟨bW, 0, none⟩ = some (.slice (some ⟨b, o, none⟩) xs.length wc) ∧ W.cell? ⟨b, o + r, none⟩ = some (.int .i64 (x : Int)) from fun W f => by
    have hA' := (f.block _ (lt_of_heap hA) id).trans hA
    have hW' := (f.block _ (lt_of_heap hW) id).trans hW
    have a0 := cell_of_heap hA' 0
    have a1 := cell_of_heap hA' 1
    have a2 := cell_of_heap hA' 2
    have b0 := cell_of_heap hW' 0
    simp at a0 a1 a2 b0
    exact ⟨a0, a1, a2, b0, (f.cell (a := ⟨b, o + r, none⟩) hblt id).trans d0⟩)
  obtain ⟨a0, a1, a2, b0, -⟩ := unhide HC w (Fr.refl _ _)
  obtain ⟨ao, ac, rfl⟩ := ha.shape
  have hri : (r : Int) < (xs.length : Int) := by omega
  clear hA hW hcs e0 ha hw hla hx exr
  go_enter Try.func82, Try.ntmps82
  go_wp2_with fail
  go_region_held3 (fun W => W.cell? ⟨bA, 0, none⟩ = some (.int .i64 (rows : Int)) ∧ W.cell? ⟨bA, 1, none⟩ = some (.int .i64 (cols : Int)) ∧ W.cell? ⟨bA, 2, none⟩ = some (.slice ao la.length ac) ∧ W.cell? ⟨bW, 0, none⟩ = some (.slice (some ⟨b, o, none⟩) xs.length wc) ∧ W.cell? ⟨b, o + r, none⟩ = some (.int .i64 (x : Int))) (go_keep) ((go_at_call 69; refine (unhide HAt _ (by first | exact Fr.ofDrewN _ 1 | exact Fr.ofDrewN _ _)).mono ?_; rintro e w2 ⟨rfl, F2⟩; obtain ⟨s0, s1, s2, s3, s4⟩ := unhide HC w2 F2))
  all_goals
    have HF2 := hide F2
    clear F2 s0 s1 s2 s3 s4
    go_wp2_with fail
    go_ret
    exact ⟨rfl, by first | exact unhide HF2 | exact (unhide HF2).drew⟩

/-- The rows that are asked for. -/
def rwsL (cols : Nat) (la : List UInt8) (xs : List Nat) : List UInt8 := fl cols (fun r c => mc la cols (xs[r]?.getD 0) c) (xs.length * cols)
theorem rwsL_length (cols : Nat) (la : List UInt8) (xs : List Nat) : (rwsL cols la xs).length = xs.length * cols := fl_length _ _ _

set_option maxHeartbeats 2000000 in
set_option maxRecDepth 100000 in
theorem rows_ok (w : World) (rows cols : Nat) (va wv : Value) (la : List UInt8) (xs : List Nat) (ha : Rd w va la) (hw : RdV w wv (nvs xs)) (hla : la.length = rows * cols) (h1 : 1 ≤ rows ∧ rows ≤ 64) (h2 : 1 ≤ cols ∧ cols ≤ 64) (h3 : 1 ≤ xs.length ∧ xs.length ≤ 64) (hx : ∀ x ∈ xs, x < rows) :
    Calls Try.prog 25 #[.agg #[.int .i64 (rows : Int), .int .i64 (cols : Int), va], wv] w fun e w' => (∃ q, e = .returned (.tuple #[.agg #[.int .i64 (xs.length : Int), .int .i64 (cols : Int), .slice (some ⟨q, 0, none⟩) (xs.length * cols) (xs.length * cols)], .int .i64 0]) ∧ BAt w' q (rwsL cols la xs)) ∧ Fr (fun _ => False) w w' := by
  have hck1 := chk_ok h1 h2 hla
  obtain ⟨ao, ac, rfl⟩ := ha.shape
  have HW := hide hw
  obtain ⟨wo, wc, rfl⟩ := hw.shape
  rw [nvs_length] at HW ⊢
  have HA := hide ha
  have HLA := hide hla
  have HC1 := hide hck1
  have HX := hide hx
  have hsd : sideB (xs.length : Int) = true := by unfold sideB; simp; omega
  have HSD := hide hsd
  clear ha hla hck1 hw hx hsd
  go_enter Try.func25, Try.ntmps25
  go_wp2_with fail
  refine (check_any _ _ _ _ _ _).mono ?_
  rintro e w1 ⟨rfl, f1⟩
  rw [unhide HC1]
  have T := three_allocs w #[.int .i64 (rows : Int), .int .i64 (cols : Int), .slice ao la.length ac] #[.slice wo xs.length wc] #[.int .i64 0, .int .i64 0, .slice none 0 0] 25
  have ta := (f1.block _ (lt_of_heap T.1) id).trans T.1
  have tb := (f1.block _ (lt_of_heap T.2.1) id).trans T.2.1
  have tc := (f1.block _ (lt_of_heap T.2.2) id).trans T.2.2
  have F1 := ((((Fr.refl (fun _ => False) w).alloc _).alloc _).alloc _).trans f1 (fun _ _ h => h)
  have a1 := cell_of_heap ta 1
  have b0 := cell_of_heap tb 0
  simp at a1 b0
  have HTA := hide ta
  have HTB := hide tb
  have HTC := hide tc
  have HF1 := hide F1
  have hva := (unhide HA).kept F1 (fun _ _ h => h)
  have hvw := (unhide HW).kept F1 (fun _ _ h => h)
  have HCN := hide (containsFunc_no w1 w.heap.size rows _ _ _ xs ta hvw (unhide HX) (by omega))
  have HFi := hide (filled_any w1 xs.length cols 82 #[.pointer (some ⟨w.heap.size, 0, none⟩), .pointer (some ⟨w.heap.size + 1, 0, none⟩)] (fun r c => mc la cols (xs[r]?.getD 0) c) h3 h2 cf82 (fun W q i j hi hj =>
    rows1_any W w.heap.size (w.heap.size + 1) rows cols _ _ la xs i j ((q.block _ (lt_of_heap ta) id).trans ta) ((q.block _ (lt_of_heap tb) id).trans tb) (hva.kept q (fun _ _ h => h)) (hvw.kept q (fun _ _ h => h)) (unhide HLA) h1 h2 (unhide HX) hi hj))
  have hta := lt_of_heap ta
  have htb := lt_of_heap tb
  clear T f1 ta tb tc F1 hva hvw
  go_wp2_with (first
    | (go_at_call 79; refine (isSide_any _ _).mono ?_; rintro e w' ⟨rfl, rfl⟩; rw [unhide HSD])
    | (go_at_call 81; refine (unhide HCN).mono ?_; rintro e w' ⟨rfl, rfl⟩))
  refine (unhide HFi).mono ?_
  rintro e w5 ⟨rfl, B5, f5⟩
  have hp := (f5.block _ (lt_of_heap (unhide HTC)) id).trans (unhide HTC)
  have c0 := cell_of_heap hp 0
  have c1 := cell_of_heap hp 1
  have c2 := cell_of_heap hp 2
  have z0 := frozen_of_heap hp
  simp at c0 c1 c2
  have HB5 := hide B5
  have HF5 := hide ((unhide HF1).trans f5 (fun _ _ h => h))
  obtain ⟨q, hq⟩ : ∃ q, q = w1.heap.size + 1 := ⟨_, rfl⟩
  rw [← hq] at HB5 ⊢
  have hlt := lt_of_heap hp
  have hqs : w.heap.size + 2 < q := by have := lt_of_heap (unhide HTC); omega
  clear B5 f5 hp hq HFi
  go_wp2_with fail
  have f6 := fr_three w5 (w.heap.size + 2) (.int .i64 (xs.length : Int)) (.int .i64 (cols : Int)) (.slice (some ⟨q, 0, none⟩) (xs.length * cols) (xs.length * cols))
  refine bodyPost_ret (v := .tuple #[.agg #[.int .i64 (xs.length : Int), .int .i64 (cols : Int), .slice (some ⟨q, 0, none⟩) (xs.length * cols) (xs.length * cols)], .int .i64 0]) (by simp [results, Try.results25, go_sem, c0, c1, c2]) rfl ⟨⟨q, rfl, (unhide HB5).kept f6 (by omega)⟩, (unhide HF5).trans f6 (fun i hi h => by omega)⟩
end Go.Proofs.Ytckmddkhkdcmmaa
