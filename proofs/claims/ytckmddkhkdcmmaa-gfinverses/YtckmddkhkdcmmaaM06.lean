/-
  The walk of gf's Rows, where it answers.
  Refusals of gf; Turn.
  gf's Rows where it refuses, and Solve.
-/
import Derived.Test.YtckmddkhkdcmmaaM05
namespace Go.Proofs.Ytckmddkhkdcmmaa
set_option linter.unusedVariables false
set_option linter.unusedSimpArgs false
open Go.RowKit
set_option linter.unusedVariables false
set_option linter.unusedSimpArgs false

attribute [local go_sem ↓] Go.wp_at_zero Go.wp_at_succ

/-- Numbers of a slice of ints. -/
def nvs (xs : List Nat) : List Value := xs.map fun (x : Nat) => Value.int .i64 (x : Int)
theorem nvs_length (xs : List Nat) : (nvs xs).length = xs.length := by simp [nvs]

theorem cf80 (args : Array Value) (W : World) : Sem.run Try.prog (callFunc 80 args) W = .ok (.enter 80 args) W := by simp [go_sem]
theorem cf82 (args : Array Value) (W : World) : Sem.run Try.prog (callFunc 82 args) W = .ok (.enter 82 args) W := by simp [go_sem]

theorem none_any (w : World) (bA rows x : Nat) (cv vv : Value) (hA : w.heap[bA]? = some (.cells #[.int .i64 (rows : Int), cv, vv] 24 (0, 0))) (hx : x < rows) :
    Calls Try.prog 80 #[.int .i64 (x : Int), .pointer (some ⟨bA, 0, none⟩)] w fun e w' => e = .returned (.bool false) ∧ w = w' := by
  have a0 := cell_of_heap hA 0
  simp at a0
  have b1 : ¬ ((x : Int) < 0) := by omega
  have b2 : ¬ ((rows : Int) ≤ (x : Int)) := by omega
  clear hA
  go_enter Try.func80, Try.ntmps80
  go_wp2_with fail
  go_ret
  exact ⟨rfl, rfl⟩

set_option maxHeartbeats 1000000 in
set_option maxRecDepth 100000 in
theorem indexFunc_no (w : World) (bA rows : Nat) (cv vv wv : Value) (xs : List Nat) (hA : w.heap[bA]? = some (.cells #[.int .i64 (rows : Int), cv, vv] 24 (0, 0))) (hw : RdV w wv (nvs xs)) (hx : ∀ x ∈ xs, x < rows) (hl : xs.length ≤ 100000) :
    Calls Try.prog 109 #[wv, .func (.func 80) #[] #[.pointer (some ⟨bA, 0, none⟩)]] w fun e w' => e = .returned (.int .i64 (-1)) ∧ w = w' := by
  have HW := hide hw
  have HX := hide hx
  have HA := hide hA
  obtain ⟨wo, wc, rfl⟩ := hw.shape
  rw [nvs_length] at HW ⊢
  have HCF := hide cf80
  obtain ⟨n, hn⟩ : ∃ n, n = xs.length := ⟨_, rfl⟩
  have HN := hide hn
  rw [← hn] at hl HW ⊢
  clear hw hx hA hn
  go_enter Try.func109, Try.ntmps109
  go_wp2_with fail
  go_loopw [5, 8] (fun _ y w' => ∃ i : Nat, i ≤ n ∧ y = .int .i64 (i : Int) ∧ w' = w) (fun _ y _ => n - (intOf y).toNat)
  case atStart => exact ⟨0, Nat.zero_le _, rfl, rfl⟩
  case round =>
    obtain ⟨i, hi, rfl, rfl⟩ := hrel
    by_cases hlt : i < n
    · have hix : i < xs.length := by have := unhide HN; omega
      obtain ⟨b, o, rfl, -, -, -, hc⟩ := (unhide HW).lits (by rw [nvs_length]; omega)
      have c0 := hc i (by rw [nvs_length]; exact hix)
      have e0 : (nvs xs)[i]'(by rw [nvs_length]; exact hix) = .int .i64 ((xs[i] : Nat) : Int) := by simp [nvs]
      rw [e0] at c0
      have hxr := unhide HX xs[i] (List.getElem_mem _)
      have HN80 := hide (none_any wr bA rows xs[i] cv vv (unhide HA) hxr)
      generalize xs[i] = x at *
      have hcf := unhide HCF
      clear hc e0
      go_wp2_with (go_at_call 80; refine (unhide HN80).mono ?_; rintro e w2 ⟨rfl, rfl⟩)
      go_roundw
      case rel => exact ⟨i + 1, by omega, by go_num, trivial⟩
      case measure => simp [intOf]; omega
    · obtain rfl : i = n := by omega
      go_wp2_with fail
      go_ret
      exact ⟨rfl, rfl⟩

theorem containsFunc_no (w : World) (bA rows : Nat) (cv vv wv : Value) (xs : List Nat) (hA : w.heap[bA]? = some (.cells #[.int .i64 (rows : Int), cv, vv] 24 (0, 0))) (hw : RdV w wv (nvs xs)) (hx : ∀ x ∈ xs, x < rows) (hl : xs.length ≤ 100000) :
    Calls Try.prog 81 #[wv, .func (.func 80) #[] #[.pointer (some ⟨bA, 0, none⟩)]] w fun e w' => e = .returned (.bool false) ∧ w = w' := by
  have HI := hide (indexFunc_no w bA rows cv vv wv xs hA hw hx hl)
  obtain ⟨wo, wc, rfl⟩ := hw.shape
  clear hA hw hx
  go_enter Try.func81, Try.ntmps81
  go_wp2_with (go_at_call 109; refine (unhide HI).mono ?_; rintro e w2 ⟨rfl, rfl⟩)
  go_ret
  exact ⟨rfl, rfl⟩

set_option maxHeartbeats 1000000 in
set_option maxRecDepth 100000 in
theorem rows1_any (w : World) (bA bW rows cols : Nat) (va wv : Value) (la : List UInt8) (xs : List Nat) (r c : Nat) (hA : w.heap[bA]? = some (.cells #[.int .i64 (rows : Int), .int .i64 (cols : Int), va] 24 (0, 0))) (hW : w.heap[bW]? = some (.cells #[wv] 25 (0, 0))) (ha : Rd w va la) (hw : RdV w wv (nvs xs)) (hla : la.length = rows * cols)
    (h1 : 1 ≤ rows ∧ rows ≤ 64) (h2 : 1 ≤ cols ∧ cols ≤ 64) (hx : ∀ x ∈ xs, x < rows) (hr : r < xs.length) (hc : c < cols) :
    Calls Try.prog 82 #[.int .i64 (r : Int), .int .i64 (c : Int), .pointer (some ⟨bA, 0, none⟩), .pointer (some ⟨bW, 0, none⟩)] w fun e w' => e = .returned (.int .u8 (((mc la cols (xs[r]?.getD 0) c).toNat : Nat) : Int)) ∧ Fr (fun _ => False) w w' := by
  obtain ⟨wo, wc, rfl⟩ := hw.shape
  rw [nvs_length] at hW hw
  obtain ⟨b, o, rfl, -, -, -, hcs⟩ := hw.lits (by rw [nvs_length]; omega)
  have d0 := hcs r (by rw [nvs_length]; exact hr)
  have e0 : (nvs xs)[r]'(by rw [nvs_length]; exact hr) = .int .i64 ((xs[r] : Nat) : Int) := by simp [nvs]
  rw [e0] at d0
  have hxr := hx xs[r] (List.getElem_mem _)
  have exr : xs[r]?.getD 0 = xs[r] := by rw [List.getElem?_eq_getElem hr]; rfl
  rw [exr]
  generalize xs[r] = x at *
  have hblt := World.block_lt_of_cell? w _ d0
  simp only at hblt
  have hlt : x * cols + c < la.length := by rw [hla]; exact mul_step hxr hc
  have HAt := hide (show ∀ W, Fr (fun _ => False) w W → Calls Try.prog 69 #[.agg #[.int .i64 (rows : Int), .int .i64 (cols : Int), va], .int .i64 (x : Int), .int .i64 (c : Int)] W fun e w' => e = .returned (.int .u8 (((mc la cols x c).toNat : Nat) : Int)) ∧ Fr (fun _ => False) w w' from fun W f => by
    refine (at_any W rows x c cols va la (ha.kept f (fun _ _ h => h)) (by omega) (by omega) h2.2 hlt).mono ?_
    rintro e w' ⟨rfl, f'⟩
    exact ⟨by unfold mc; rw [List.getElem?_eq_getElem hlt]; rfl, f.trans f' (fun _ _ h => h)⟩)
  have HC := hide (show ∀ W, Fr (fun _ => False) w W → W.cell? ⟨bA, 0, none⟩ = some (.int .i64 (rows : Int)) ∧ W.cell? ⟨bA, 1, none⟩ = some (.int .i64 (cols : Int)) ∧ W.cell? ⟨bA, 2, none⟩ = some va ∧ W.cell? ⟨bW, 0, none⟩ = some (.slice (some ⟨b, o, none⟩) xs.length wc) ∧ W.cell? ⟨b, o + r, none⟩ = some (.int .i64 (x : Int)) from fun W f => by
    have hA' := (f.block _ (lt_of_heap hA) id).trans hA
    have hW' := (f.block _ (lt_of_heap hW) id).trans hW
    have a0 := cell_of_heap hA' 0
    have a1 := cell_of_heap hA' 1
    have a2 := cell_of_heap hA' 2
    have b0 := cell_of_heap hW' 0
    simp at a0 a1 a2 b0
    exact ⟨a0, a1, a2, b0, (f.cell (a := ⟨b, o + r, none⟩) hblt id).trans d0⟩)
  obtain ⟨a0, a1, a2, b0, -⟩ := unhide HC w (Fr.refl _ _)
  obtain ⟨ao, ac, rfl⟩ := ha.shape
  have hri : (r : Int) < (xs.length : Int) := by omega
  clear hA hW hcs e0 ha hw hla hx exr
  go_enter Try.func82, Try.ntmps82
  go_wp2_with fail
  go_region_held3 (fun W => W.cell? ⟨bA, 0, none⟩ = some (.int .i64 (rows : Int)) ∧ W.cell? ⟨bA, 1, none⟩ = some (.int .i64 (cols : Int)) ∧ W.cell? ⟨bA, 2, none⟩ = some (.slice ao la.length ac) ∧ W.cell? ⟨bW, 0, none⟩ = some (.slice (some ⟨b, o, none⟩) xs.length wc) ∧ W.cell? ⟨b, o + r, none⟩ = some (.int .i64 (x : Int))) (go_keep) ((go_at_call 69; refine (unhide HAt _ (by first | exact Fr.ofDrewN _ 1 | exact Fr.ofDrewN _ _)).mono ?_; rintro e w2 ⟨rfl, F2⟩; obtain ⟨s0, s1, s2, s3, s4⟩ := unhide HC w2 F2))
  all_goals
    have HF2 := hide F2
    clear F2 s0 s1 s2 s3 s4
    go_wp2_with fail
    go_ret
    exact ⟨rfl, by first | exact unhide HF2 | exact (unhide HF2).drew⟩

/-- The rows that are asked for. -/
def rwsL (cols : Nat) (la : List UInt8) (xs : List Nat) : List UInt8 := fl cols (fun r c => mc la cols (xs[r]?.getD 0) c) (xs.length * cols)
theorem rwsL_length (cols : Nat) (la : List UInt8) (xs : List Nat) : (rwsL cols la xs).length = xs.length * cols := fl_length _ _ _

set_option maxHeartbeats 2000000 in
set_option maxRecDepth 100000 in
theorem rows_ok (w : World) (rows cols : Nat) (va wv : Value) (la : List UInt8) (xs : List Nat) (ha : Rd w va la) (hw : RdV w wv (nvs xs)) (hla : la.length = rows * cols) (h1 : 1 ≤ rows ∧ rows ≤ 64) (h2 : 1 ≤ cols ∧ cols ≤ 64) (h3 : 1 ≤ xs.length ∧ xs.length ≤ 64) (hx : ∀ x ∈ xs, x < rows) :
    Calls Try.prog 25 #[.agg #[.int .i64 (rows : Int), .int .i64 (cols : Int), va], wv] w fun e w' => (∃ q, e = .returned (.tuple #[.agg #[.int .i64 (xs.length : Int), .int .i64 (cols : Int), .slice (some ⟨q, 0, none⟩) (xs.length * cols) (xs.length * cols)], .int .i64 0]) ∧ BAt w' q (rwsL cols la xs)) ∧ Fr (fun _ => False) w w' := by
  have hck1 := chk_ok h1 h2 hla
  obtain ⟨ao, ac, rfl⟩ := ha.shape
  have HW := hide hw
  obtain ⟨wo, wc, rfl⟩ := hw.shape
  rw [nvs_length] at HW ⊢
  have HA := hide ha
  have HLA := hide hla
  have HC1 := hide hck1
  have HX := hide hx
  have hsd : sideB (xs.length : Int) = true := by unfold sideB; simp; omega
  have HSD := hide hsd
  clear ha hla hck1 hw hx hsd
  go_enter Try.func25, Try.ntmps25
  go_wp2_with fail
  refine (check_any _ _ _ _ _ _).mono ?_
  rintro e w1 ⟨rfl, f1⟩
  rw [unhide HC1]
  have T := three_allocs w #[.int .i64 (rows : Int), .int .i64 (cols : Int), .slice ao la.length ac] #[.slice wo xs.length wc] #[.int .i64 0, .int .i64 0, .slice none 0 0] 25
  have ta := (f1.block _ (lt_of_heap T.1) id).trans T.1
  have tb := (f1.block _ (lt_of_heap T.2.1) id).trans T.2.1
  have tc := (f1.block _ (lt_of_heap T.2.2) id).trans T.2.2
  have F1 := ((((Fr.refl (fun _ => False) w).alloc _).alloc _).alloc _).trans f1 (fun _ _ h => h)
  have a1 := cell_of_heap ta 1
  have b0 := cell_of_heap tb 0
  simp at a1 b0
  have HTA := hide ta
  have HTB := hide tb
  have HTC := hide tc
  have HF1 := hide F1
  have hva := (unhide HA).kept F1 (fun _ _ h => h)
  have hvw := (unhide HW).kept F1 (fun _ _ h => h)
  have HCN := hide (containsFunc_no w1 w.heap.size rows _ _ _ xs ta hvw (unhide HX) (by omega))
  have HFi := hide (filled_any w1 xs.length cols 82 #[.pointer (some ⟨w.heap.size, 0, none⟩), .pointer (some ⟨w.heap.size + 1, 0, none⟩)] (fun r c => mc la cols (xs[r]?.getD 0) c) h3 h2 cf82 (fun W q i j hi hj =>
    rows1_any W w.heap.size (w.heap.size + 1) rows cols _ _ la xs i j ((q.block _ (lt_of_heap ta) id).trans ta) ((q.block _ (lt_of_heap tb) id).trans tb) (hva.kept q (fun _ _ h => h)) (hvw.kept q (fun _ _ h => h)) (unhide HLA) h1 h2 (unhide HX) hi hj))
  have hta := lt_of_heap ta
  have htb := lt_of_heap tb
  clear T f1 ta tb tc F1 hva hvw
  go_wp2_with (first
    | (go_at_call 79; refine (isSide_any _ _).mono ?_; rintro e w' ⟨rfl, rfl⟩; rw [unhide HSD])
    | (go_at_call 81; refine (unhide HCN).mono ?_; rintro e w' ⟨rfl, rfl⟩))
  refine (unhide HFi).mono ?_
  rintro e w5 ⟨rfl, B5, f5⟩
  have hp := (f5.block _ (lt_of_heap (unhide HTC)) id).trans (unhide HTC)
  have c0 := cell_of_heap hp 0
  have c1 := cell_of_heap hp 1
  have c2 := cell_of_heap hp 2
  have z0 := frozen_of_heap hp
  simp at c0 c1 c2
  have HB5 := hide B5
  have HF5 := hide ((unhide HF1).trans f5 (fun _ _ h => h))
  obtain ⟨q, hq⟩ : ∃ q, q = w1.heap.size + 1 := ⟨_, rfl⟩
  rw [← hq] at HB5 ⊢
  have hlt := lt_of_heap hp
  have hqs : w.heap.size + 2 < q := by have := lt_of_heap (unhide HTC); omega
  clear B5 f5 hp hq HFi
  go_wp2_with fail
  have f6 := fr_three w5 (w.heap.size + 2) (.int .i64 (xs.length : Int)) (.int .i64 (cols : Int)) (.slice (some ⟨q, 0, none⟩) (xs.length * cols) (xs.length * cols))
  refine bodyPost_ret (v := .tuple #[.agg #[.int .i64 (xs.length : Int), .int .i64 (cols : Int), .slice (some ⟨q, 0, none⟩) (xs.length * cols) (xs.length * cols)], .int .i64 0]) (by simp [results, Try.results25, go_sem, c0, c1, c2]) rfl ⟨⟨q, rfl, (unhide HB5).kept f6 (by omega)⟩, (unhide HF5).trans f6 (fun i hi h => by omega)⟩
end Go.Proofs.Ytckmddkhkdcmmaa

namespace Go.Proofs.Ytckmddkhkdcmmaa
set_option linter.unusedVariables false
set_option linter.unusedSimpArgs false
open Go.RowKit Go.Lib
set_option linter.unusedVariables false
set_option linter.unusedSimpArgs false

attribute [local go_sem ↓] Go.wp_at_zero Go.wp_at_succ

@[reducible] def zV : Value := .agg #[.int .i64 0, .int .i64 0, .slice none 0 0]
theorem one_alloc3 (w : World) (A B : Array Value) (C : Array Value) (tb : TypeId) : True := trivial
set_option maxHeartbeats 2000000 in
set_option maxRecDepth 100000 in
theorem product_no1 (w : World) (r c r2 c2 : Int) (va vb : Value) (l l2 : List UInt8) (ha : Rd w va l) (hb : Rd w vb l2) (h1 : chk r c l.length ≠ 0) :
    Calls Try.prog 17 #[.agg #[.int .i64 r, .int .i64 c, va], .agg #[.int .i64 r2, .int .i64 c2, vb]] w fun e w' => e = .returned (.tuple #[zV, .int .i64 (chk r c l.length)]) ∧ Fr (fun _ => False) w w' := by
  obtain ⟨ao, cap, rfl⟩ := ha.shape
  obtain ⟨bo, bcap, rfl⟩ := hb.shape
  clear ha hb
  have H1 := hide h1
  clear h1
  go_enter Try.func17, Try.ntmps17
  go_wp2_with fail
  refine (check_any _ _ _ _ _ _).mono ?_
  rintro e w1 ⟨rfl, f1⟩
  have T := three_allocs w #[.int .i64 r, .int .i64 c, .slice ao l.length cap] #[.int .i64 r2, .int .i64 c2, .slice bo l2.length bcap] #[.int .i64 0, .int .i64 0, .slice none 0 0] 24
  have HA := hide ((f1.block _ (lt_of_heap T.1) id).trans T.1)
  have HB := hide ((f1.block _ (lt_of_heap T.2.1) id).trans T.2.1)
  have HR := hide ((f1.block _ (lt_of_heap T.2.2) id).trans T.2.2)
  have F1 := hide (((((Fr.refl (fun _ => False) w).alloc _).alloc _).alloc _).trans f1 (fun _ _ h => h))
  clear T f1
  have hne : (chk r c l.length != 0) = true := by simpa using unhide H1
  have hlt := lt_of_heap (unhide HR)
  have k0 := cell_of_heap (unhide HR) 0
  have k1 := cell_of_heap (unhide HR) 1
  have k2 := cell_of_heap (unhide HR) 2
  have z0 := frozen_of_heap (unhide HR)
  simp at k0 k1 k2
  go_wp2_with fail
  have f3 := fr_three w1 (w.heap.size + 1 + 1) (.int .i64 0) (.int .i64 0) (.slice none 0 0)
  refine bodyPost_ret (v := .tuple #[.agg #[.int .i64 0, .int .i64 0, .slice none 0 0], .int .i64 (chk r c l.length)]) (by simp [results, Try.results17, go_sem, k0, k1, k2]) rfl ⟨rfl, (unhide F1).trans f3 (fun i hi h => by omega)⟩
set_option maxHeartbeats 2000000 in
set_option maxRecDepth 100000 in
theorem product_no2 (w : World) (r c r2 c2 : Int) (va vb : Value) (l l2 : List UInt8) (ha : Rd w va l) (hb : Rd w vb l2) (h1 : chk r c l.length = 0) (h2 : chk r2 c2 l2.length ≠ 0) :
    Calls Try.prog 17 #[.agg #[.int .i64 r, .int .i64 c, va], .agg #[.int .i64 r2, .int .i64 c2, vb]] w fun e w' => e = .returned (.tuple #[zV, .int .i64 (chk r2 c2 l2.length)]) ∧ Fr (fun _ => False) w w' := by
  obtain ⟨ao, cap, rfl⟩ := ha.shape
  obtain ⟨bo, bcap, rfl⟩ := hb.shape
  clear ha hb
  have H1 := hide h1
  clear h1
  have H2 := hide h2
  clear h2
  go_enter Try.func17, Try.ntmps17
  go_wp2_with fail
  refine (check_any _ _ _ _ _ _).mono ?_
  rintro e w1 ⟨rfl, f1⟩
  have T := three_allocs w #[.int .i64 r, .int .i64 c, .slice ao l.length cap] #[.int .i64 r2, .int .i64 c2, .slice bo l2.length bcap] #[.int .i64 0, .int .i64 0, .slice none 0 0] 24
  have HA := hide ((f1.block _ (lt_of_heap T.1) id).trans T.1)
  have HB := hide ((f1.block _ (lt_of_heap T.2.1) id).trans T.2.1)
  have HR := hide ((f1.block _ (lt_of_heap T.2.2) id).trans T.2.2)
  have F1 := hide (((((Fr.refl (fun _ => False) w).alloc _).alloc _).alloc _).trans f1 (fun _ _ h => h))
  clear T f1
  rw [unhide H1]
  have b0 := cell_of_heap (unhide HB) 0
  have b1 := cell_of_heap (unhide HB) 1
  have b2 := cell_of_heap (unhide HB) 2
  simp at b0 b1 b2
  go_wp2_with fail
  refine (check_any _ _ _ _ _ _).mono ?_
  rintro e w2 ⟨rfl, f2⟩
  clear b0 b1 b2
  have HA := hide ((f2.block _ (lt_of_heap (unhide HA)) id).trans (unhide HA))
  have HB := hide ((f2.block _ (lt_of_heap (unhide HB)) id).trans (unhide HB))
  have HR := hide ((f2.block _ (lt_of_heap (unhide HR)) id).trans (unhide HR))
  have F2 := hide ((unhide F1).trans f2 (fun _ _ h => h))
  clear f2 F1
  have hne : (chk r2 c2 l2.length != 0) = true := by simpa using unhide H2
  have hlt := lt_of_heap (unhide HR)
  have k0 := cell_of_heap (unhide HR) 0
  have k1 := cell_of_heap (unhide HR) 1
  have k2 := cell_of_heap (unhide HR) 2
  have z0 := frozen_of_heap (unhide HR)
  simp at k0 k1 k2
  go_wp2_with fail
  have f3 := fr_three w2 (w.heap.size + 1 + 1) (.int .i64 0) (.int .i64 0) (.slice none 0 0)
  refine bodyPost_ret (v := .tuple #[.agg #[.int .i64 0, .int .i64 0, .slice none 0 0], .int .i64 (chk r2 c2 l2.length)]) (by simp [results, Try.results17, go_sem, k0, k1, k2]) rfl ⟨rfl, (unhide F2).trans f3 (fun i hi h => by omega)⟩
set_option maxHeartbeats 2000000 in
set_option maxRecDepth 100000 in
theorem product_no3 (w : World) (r c r2 c2 : Int) (va vb : Value) (l l2 : List UInt8) (ha : Rd w va l) (hb : Rd w vb l2) (h1 : chk r c l.length = 0) (h2 : chk r2 c2 l2.length = 0) (h3 : c ≠ r2) :
    Calls Try.prog 17 #[.agg #[.int .i64 r, .int .i64 c, va], .agg #[.int .i64 r2, .int .i64 c2, vb]] w fun e w' => e = .returned (.tuple #[zV, .int .i64 23]) ∧ Fr (fun _ => False) w w' := by
  obtain ⟨ao, cap, rfl⟩ := ha.shape
  obtain ⟨bo, bcap, rfl⟩ := hb.shape
  clear ha hb
  have H1 := hide h1
  clear h1
  have H2 := hide h2
  clear h2
  have H3 : Hid ((c != r2) = true) := hide (by simpa using h3)
  clear h3
  go_enter Try.func17, Try.ntmps17
  go_wp2_with fail
  refine (check_any _ _ _ _ _ _).mono ?_
  rintro e w1 ⟨rfl, f1⟩
  have T := three_allocs w #[.int .i64 r, .int .i64 c, .slice ao l.length cap] #[.int .i64 r2, .int .i64 c2, .slice bo l2.length bcap] #[.int .i64 0, .int .i64 0, .slice none 0 0] 24
  have HA := hide ((f1.block _ (lt_of_heap T.1) id).trans T.1)
  have HB := hide ((f1.block _ (lt_of_heap T.2.1) id).trans T.2.1)
  have HR := hide ((f1.block _ (lt_of_heap T.2.2) id).trans T.2.2)
  have F1 := hide (((((Fr.refl (fun _ => False) w).alloc _).alloc _).alloc _).trans f1 (fun _ _ h => h))
  clear T f1
  rw [unhide H1]
  have b0 := cell_of_heap (unhide HB) 0
  have b1 := cell_of_heap (unhide HB) 1
  have b2 := cell_of_heap (unhide HB) 2
  simp at b0 b1 b2
  go_wp2_with fail
  refine (check_any _ _ _ _ _ _).mono ?_
  rintro e w2 ⟨rfl, f2⟩
  clear b0 b1 b2
  have HA := hide ((f2.block _ (lt_of_heap (unhide HA)) id).trans (unhide HA))
  have HB := hide ((f2.block _ (lt_of_heap (unhide HB)) id).trans (unhide HB))
  have HR := hide ((f2.block _ (lt_of_heap (unhide HR)) id).trans (unhide HR))
  have F2 := hide ((unhide F1).trans f2 (fun _ _ h => h))
  clear f2 F1
  rw [unhide H2]
  have a1 := cell_of_heap (unhide HA) 1
  have b0 := cell_of_heap (unhide HB) 0
  simp at a1 b0
  have hne := unhide H3
  have hlt := lt_of_heap (unhide HR)
  have k0 := cell_of_heap (unhide HR) 0
  have k1 := cell_of_heap (unhide HR) 1
  have k2 := cell_of_heap (unhide HR) 2
  have z0 := frozen_of_heap (unhide HR)
  simp at k0 k1 k2
  go_wp2_with fail
  have f3 := fr_three w2 (w.heap.size + 1 + 1) (.int .i64 0) (.int .i64 0) (.slice none 0 0)
  refine bodyPost_ret (v := .tuple #[.agg #[.int .i64 0, .int .i64 0, .slice none 0 0], .int .i64 23]) (by simp [results, Try.results17, go_sem, k0, k1, k2]) rfl ⟨rfl, (unhide F2).trans f3 (fun i hi h => by omega)⟩
set_option maxHeartbeats 2000000 in
set_option maxRecDepth 100000 in
theorem turn_no (w : World) (r c : Int) (v : Value) (l : List UInt8) (hv : Rd w v l) (h1 : chk r c l.length ≠ 0) :
    Calls Try.prog 27 #[.agg #[.int .i64 r, .int .i64 c, v]] w fun e w' => e = .returned (.tuple #[zV, .int .i64 (chk r c l.length)]) ∧ Fr (fun _ => False) w w' := by
  obtain ⟨ao, cap, rfl⟩ := hv.shape
  clear hv
  have H1 : Hid ((chk r c l.length != 0) = true) := hide (by simpa using h1)
  clear h1
  go_enter Try.func27, Try.ntmps27
  go_wp2_with fail
  refine (check_any _ _ _ _ _ _).mono ?_
  rintro e w1 ⟨rfl, f1⟩
  have T := two_allocs w #[.int .i64 r, .int .i64 c, .slice ao l.length cap] #[.int .i64 0, .int .i64 0, .slice none 0 0]
  have HR := hide ((f1.block _ (lt_of_heap T.2) id).trans T.2)
  have F1 := hide ((((Fr.refl (fun _ => False) w).alloc _).alloc _).trans f1 (fun _ _ h => h))
  clear T f1
  have hne := unhide H1
  have hlt := lt_of_heap (unhide HR)
  have k0 := cell_of_heap (unhide HR) 0
  have k1 := cell_of_heap (unhide HR) 1
  have k2 := cell_of_heap (unhide HR) 2
  have z0 := frozen_of_heap (unhide HR)
  simp at k0 k1 k2
  go_wp2_with fail
  have f3 := fr_three w1 (w.heap.size + 1) (.int .i64 0) (.int .i64 0) (.slice none 0 0)
  refine bodyPost_ret (v := .tuple #[.agg #[.int .i64 0, .int .i64 0, .slice none 0 0], .int .i64 (chk r c l.length)]) (by simp [results, Try.results27, go_sem, k0, k1, k2]) rfl ⟨rfl, (unhide F1).trans f3 (fun i hi h => by omega)⟩
set_option maxHeartbeats 2000000 in
set_option maxRecDepth 100000 in
theorem rank_no (w : World) (r c : Int) (v : Value) (l : List UInt8) (hv : Rd w v l) (h1 : chk r c l.length ≠ 0) :
    Calls Try.prog 29 #[.agg #[.int .i64 r, .int .i64 c, v]] w fun e w' => e = .returned (.tuple #[.int .i64 0, .int .i64 (chk r c l.length)]) ∧ Fr (fun _ => False) w w' := by
  obtain ⟨ao, cap, rfl⟩ := hv.shape
  clear hv
  have H1 : Hid ((chk r c l.length != 0) = true) := hide (by simpa using h1)
  clear h1
  go_enter Try.func29, Try.ntmps29
  go_wp2_with fail
  refine (check_any _ _ _ _ _ _).mono ?_
  rintro e w1 ⟨rfl, f1⟩
  have F1 := hide (((Fr.refl (fun _ => False) w).alloc _).trans f1 (fun _ _ h => h))
  clear f1
  have hne := unhide H1
  go_wp2_with fail
  refine bodyPost_ret (v := .tuple #[.int .i64 0, .int .i64 (chk r c l.length)]) (by simp [results, Try.results29, go_sem]) rfl ⟨rfl, unhide F1⟩
set_option maxHeartbeats 2000000 in
set_option maxRecDepth 100000 in
theorem make_no (w : World) (r c : Int) (v : Value) (l : List UInt8) (hv : Rd w v l) (h1 : chk r c l.length ≠ 0) :
    Calls Try.prog 33 #[.int .i64 r, .int .i64 c, v] w fun e w' => e = .returned (.tuple #[zV, .int .i64 (chk r c l.length)]) ∧ Fr (fun _ => False) w w' := by
  obtain ⟨ao, cap, rfl⟩ := hv.shape
  clear hv
  have H1 : Hid ((chk r c l.length != 0) = true) := hide (by simpa using h1)
  clear h1
  go_enter Try.func33, Try.ntmps33
  go_wp2_with fail
  refine (check_any _ _ _ _ _ _).mono ?_
  rintro e w1 ⟨rfl, f1⟩
  have T := two_allocs w #[.int .i64 0, .int .i64 0, .slice none 0 0] #[.int .i64 r, .int .i64 c, .slice ao l.length cap]
  have HR := hide ((f1.block _ (lt_of_heap T.1) id).trans T.1)
  have F1 := hide ((((Fr.refl (fun _ => False) w).alloc _).alloc _).trans f1 (fun _ _ h => h))
  clear T f1
  have hne := unhide H1
  have hlt := lt_of_heap (unhide HR)
  have k0 := cell_of_heap (unhide HR) 0
  have k1 := cell_of_heap (unhide HR) 1
  have k2 := cell_of_heap (unhide HR) 2
  have z0 := frozen_of_heap (unhide HR)
  simp at k0 k1 k2
  go_wp2_with fail
  have f3 := fr_three w1 (w.heap.size) (.int .i64 0) (.int .i64 0) (.slice none 0 0)
  refine bodyPost_ret (v := .tuple #[.agg #[.int .i64 0, .int .i64 0, .slice none 0 0], .int .i64 (chk r c l.length)]) (by simp [results, Try.results33, go_sem, k0, k1, k2]) rfl ⟨rfl, (unhide F1).trans f3 (fun i hi h => by omega)⟩
theorem cf83 (args : Array Value) (W : World) : Sem.run Try.prog (callFunc 83 args) W = .ok (.enter 83 args) W := by simp [go_sem]
theorem turn1_any (w : World) (b : Nat) (R : Int) (r c cols : Nat) (v : Value) (l : List UInt8) (hb : w.heap[b]? = some (.cells #[.int .i64 R, .int .i64 (cols : Int), v] 24 (0, 0))) (hv : Rd w v l) (hr : r ≤ 64) (hc : c ≤ 64) (hcols : cols ≤ 64) (hi : c * cols + r < l.length) :
    Calls Try.prog 83 #[.int .i64 (r : Int), .int .i64 (c : Int), .pointer (some ⟨b, 0, none⟩)] w fun e w' => e = .returned (.int .u8 (((l[c * cols + r]).toNat : Nat) : Int)) ∧ Fr (fun _ => False) w w' := by
  have c0 := cell_of_heap hb 0
  have c1 := cell_of_heap hb 1
  have c2 := cell_of_heap hb 2
  simp at c0 c1 c2
  have HA := hide (at_any w R c r cols v l hv hc hr hcols hi)
  clear hb hv
  go_enter Try.func83, Try.ntmps83
  go_wp2_with (go_at_call 69; refine (unhide HA).mono ?_; rintro e w' ⟨rfl, f⟩)
  go_ret
  exact ⟨rfl, f⟩
/-- A matrix, turned. -/
def tuL (rows cols : Nat) (l : List UInt8) : List UInt8 := fl rows (fun r c => mc l cols c r) (cols * rows)
theorem tuL_length (rows cols : Nat) (l : List UInt8) : (tuL rows cols l).length = cols * rows := fl_length _ _ _
set_option maxHeartbeats 2000000 in
set_option maxRecDepth 100000 in
theorem turn_ok (w : World) (rows cols : Nat) (v : Value) (l : List UInt8) (hv : Rd w v l) (hl : l.length = rows * cols) (h1 : 1 ≤ rows ∧ rows ≤ 64) (h2 : 1 ≤ cols ∧ cols ≤ 64) :
    Calls Try.prog 27 #[.agg #[.int .i64 (rows : Int), .int .i64 (cols : Int), v]] w fun e w' => (∃ q, e = .returned (.tuple #[.agg #[.int .i64 (cols : Int), .int .i64 (rows : Int), .slice (some ⟨q, 0, none⟩) (cols * rows) (cols * rows)], .int .i64 0]) ∧ BAt w' q (tuL rows cols l) ∧ w.heap.size ≤ q) ∧ Fr (fun _ => False) w w' := by
  have hck := chk_ok h1 h2 hl
  obtain ⟨ao, cap, rfl⟩ := hv.shape
  have HV := hide hv
  have HL := hide hl
  have HCK := hide hck
  clear hv hl hck
  go_enter Try.func27, Try.ntmps27
  go_wp2_with fail
  refine (check_any _ _ _ _ _ _).mono ?_
  rintro e w1 ⟨rfl, f1⟩
  rw [unhide HCK]
  have T := two_allocs w #[.int .i64 (rows : Int), .int .i64 (cols : Int), .slice ao l.length cap] #[.int .i64 0, .int .i64 0, .slice none 0 0]
  have hb1 := (f1.block _ (lt_of_heap T.1) id).trans T.1
  have ha1 := (f1.block _ (lt_of_heap T.2) id).trans T.2
  have F1 : Fr (fun _ => False) w w1 := (((Fr.refl (fun _ => False) w).alloc _).alloc _).trans f1 (fun _ _ h => h)
  have hv1 := (unhide HV).kept F1 (fun _ _ h => h)
  have HF := hide (filled_any w1 cols rows 83 #[.pointer (some ⟨w.heap.size, 0, none⟩)] (fun r c => mc l cols c r) h2 h1 cf83 (fun W q r c hr hc => by
    have hi : c * cols + r < l.length := by rw [unhide HL]; exact mul_step hc hr
    have := turn1_any W (w.heap.size) rows r c cols _ l ((q.block _ (lt_of_heap hb1) id).trans hb1) (hv1.kept q (fun _ _ h => h)) (by omega) (by omega) h2.2 hi
    have e9 : mc l cols c r = l[c * cols + r] := by unfold mc; rw [List.getElem?_eq_getElem hi]; rfl
    rw [e9]
    exact this))
  have HF1 := hide F1
  have HA1 := hide ha1
  have x0 := cell_of_heap hb1 0
  have x1 := cell_of_heap hb1 1
  simp at x0 x1
  clear f1 F1 hb1 ha1 hv1 T
  go_wp2_with fail
  refine (unhide HF).mono ?_
  rintro e w2 ⟨rfl, hB2, f2⟩
  have ha2 := (f2.block _ (lt_of_heap (unhide HA1)) id).trans (unhide HA1)
  have c0 := cell_of_heap ha2 0
  have c1 := cell_of_heap ha2 1
  have c2 := cell_of_heap ha2 2
  have z0 := frozen_of_heap ha2
  simp at c0 c1 c2
  have HB2 := hide hB2
  have F2 := hide ((unhide HF1).trans f2 (fun _ _ h => h))
  have hsz := (unhide HF1).size
  have hlt := lt_of_heap ha2
  have hlt1 := lt_of_heap (unhide HA1)
  clear hB2 f2 ha2 HF x0 x1
  go_wp2_with fail
  have f3 := fr_three w2 (w.heap.size + 1) (.int .i64 (cols : Int)) (.int .i64 (rows : Int)) (.slice (some ⟨w1.heap.size + 1, 0, none⟩) (cols * rows) (cols * rows))
  refine bodyPost_ret (v := .tuple #[.agg #[.int .i64 (cols : Int), .int .i64 (rows : Int), .slice (some ⟨w1.heap.size + 1, 0, none⟩) (cols * rows) (cols * rows)], .int .i64 0]) (by simp [results, Try.results27, go_sem, c0, c1, c2]) rfl ⟨⟨_, rfl, ?_, by omega⟩, (unhide F2).trans f3 (fun i hi h => by omega)⟩
  exact (unhide HB2).kept f3 (by omega)
end Go.Proofs.Ytckmddkhkdcmmaa

namespace Go.Proofs.Ytckmddkhkdcmmaa
set_option linter.unusedVariables false
set_option linter.unusedSimpArgs false
open Go.RowKit Go.Lib
set_option linter.unusedVariables false
set_option linter.unusedSimpArgs false

attribute [local go_sem ↓] Go.wp_at_zero Go.wp_at_succ

/-- Ints of a slice. -/
def ivs (xs : List Int) : List Value := xs.map fun (x : Int) => Value.int .i64 x
theorem ivs_length (xs : List Int) : (ivs xs).length = xs.length := by simp [ivs]
theorem ivs_get (xs : List Int) (i : Nat) (h : i < xs.length) : (ivs xs)[i]'(by rw [ivs_length]; exact h) = .int .i64 xs[i] := by simp [ivs]
/-- No row of so many. -/
def offB (rows : Nat) (x : Int) : Bool := decide (x < 0 ∨ (rows : Int) ≤ x)

theorem none_x (w : World) (bA rows : Nat) (x : Int) (cv vv : Value) (hA : w.heap[bA]? = some (.cells #[.int .i64 (rows : Int), cv, vv] 24 (0, 0))) :
    Calls Try.prog 80 #[.int .i64 x, .pointer (some ⟨bA, 0, none⟩)] w fun e w' => e = .returned (.bool (offB rows x)) ∧ w = w' := by
  have a0 := cell_of_heap hA 0
  simp at a0
  clear hA
  unfold offB
  by_cases b1 : x < 0
  · have e : decide (x < 0 ∨ (rows : Int) ≤ x) = true := by simp [b1]
    rw [e]
    go_enter Try.func80, Try.ntmps80
    go_wp2_with fail
    go_ret
    exact ⟨rfl, rfl⟩
  · by_cases b2 : (rows : Int) ≤ x
    · have e : decide (x < 0 ∨ (rows : Int) ≤ x) = true := by simp [b2]
      rw [e]
      go_enter Try.func80, Try.ntmps80
      go_wp2_with fail
      go_ret
      exact ⟨rfl, rfl⟩
    · have e : decide (x < 0 ∨ (rows : Int) ≤ x) = false := by simp [b1, b2]
      rw [e]
      go_enter Try.func80, Try.ntmps80
      go_wp2_with fail
      go_ret
      exact ⟨rfl, rfl⟩

set_option maxHeartbeats 2000000 in
set_option maxRecDepth 100000 in
theorem indexFunc_yes (w : World) (bA rows : Nat) (cv vv wv : Value) (xs : List Int) (k : Nat) (hk : k < xs.length) (hA : w.heap[bA]? = some (.cells #[.int .i64 (rows : Int), cv, vv] 24 (0, 0))) (hw : RdV w wv (ivs xs)) (hb : offB rows xs[k] = true) (hx : ∀ j (h : j < k), offB rows xs[j] = false) (hl : xs.length ≤ 100000) :
    Calls Try.prog 109 #[wv, .func (.func 80) #[] #[.pointer (some ⟨bA, 0, none⟩)]] w fun e w' => e = .returned (.int .i64 (k : Int)) ∧ w = w' := by
  have HW := hide hw
  have HX := hide hx
  have HB := hide hb
  have HA := hide hA
  obtain ⟨wo, wc, rfl⟩ := hw.shape
  rw [ivs_length] at HW ⊢
  have HCF := hide cf80
  obtain ⟨n, hn⟩ : ∃ n, n = xs.length := ⟨_, rfl⟩
  have HN := hide hn
  have hkn : k < n := by omega
  rw [← hn] at hl HW ⊢
  clear hw hx hA hn hb
  go_enter Try.func109, Try.ntmps109
  go_wp2_with fail
  go_loopw [5, 8] (fun _ y w' => ∃ i : Nat, i ≤ k ∧ y = .int .i64 (i : Int) ∧ w' = w) (fun _ y _ => n - (intOf y).toNat)
  case atStart => exact ⟨0, Nat.zero_le _, rfl, rfl⟩
  case round =>
    obtain ⟨i, hi, rfl, rfl⟩ := hrel
    have hix : i < xs.length := by have := unhide HN; omega
    have hin : i < n := by omega
    obtain ⟨b, o, rfl, -, -, -, hc⟩ := (unhide HW).lits (by rw [ivs_length]; omega)
    have c0 := hc i (by rw [ivs_length]; exact hix)
    rw [ivs_get xs i hix] at c0
    have hcf := unhide HCF
    have HN80 := hide (none_x wr bA rows xs[i] cv vv (unhide HA))
    by_cases hlt : i < k
    · rw [unhide HX i hlt] at HN80
      generalize xs[i] = x at *
      clear hc
      go_wp2_with (go_at_call 80; refine (unhide HN80).mono ?_; rintro e w2 ⟨rfl, rfl⟩)
      go_roundw
      case rel => exact ⟨i + 1, by omega, by go_num, trivial⟩
      case measure => simp [intOf]; omega
    · obtain rfl : k = i := by omega
      rw [unhide HB] at HN80
      clear HX HB
      generalize xs[k] = x at *
      clear hc
      go_wp2_with (go_at_call 80; refine (unhide HN80).mono ?_; rintro e w2 ⟨rfl, rfl⟩)
      go_ret
      exact ⟨rfl, rfl⟩

theorem containsFunc_yes (w : World) (bA rows : Nat) (cv vv wv : Value) (xs : List Int) (hA : w.heap[bA]? = some (.cells #[.int .i64 (rows : Int), cv, vv] 24 (0, 0))) (hw : RdV w wv (ivs xs)) (hb : xs.any (offB rows) = true) (hl : xs.length ≤ 100000) :
    Calls Try.prog 81 #[wv, .func (.func 80) #[] #[.pointer (some ⟨bA, 0, none⟩)]] w fun e w' => e = .returned (.bool true) ∧ w = w' := by
  obtain ⟨k, hk, h1, h2⟩ : ∃ k, ∃ h : k < xs.length, offB rows xs[k] = true ∧ ∀ j (h : j < k), offB rows xs[j] = false := by
    have h : xs.findIdx (offB rows) < xs.length := by
      rw [List.findIdx_lt_length]
      simpa [List.any_eq_true] using hb
    exact ⟨_, h, List.findIdx_getElem, fun j hj => by simpa using List.not_of_lt_findIdx hj⟩
  have HI := hide (indexFunc_yes w bA rows cv vv wv xs k hk hA hw h1 h2 hl)
  obtain ⟨wo, wc, rfl⟩ := hw.shape
  clear hA hw hb h1 h2
  go_enter Try.func81, Try.ntmps81
  go_wp2_with (go_at_call 109; refine (unhide HI).mono ?_; rintro e w2 ⟨rfl, rfl⟩)
  go_ret
  exact ⟨rfl, rfl⟩

set_option maxHeartbeats 2000000 in
set_option maxRecDepth 100000 in
theorem rows_no1 (w : World) (r c : Int) (va wv : Value) (l : List UInt8) (xs : List Int) (ha : Rd w va l) (hw : RdV w wv (ivs xs)) (h1 : chk r c l.length ≠ 0) :
    Calls Try.prog 25 #[.agg #[.int .i64 r, .int .i64 c, va], wv] w fun e w' => e = .returned (.tuple #[zV, .int .i64 (chk r c l.length)]) ∧ Fr (fun _ => False) w w' := by
  obtain ⟨ao, ac, rfl⟩ := ha.shape
  have HW := hide hw
  obtain ⟨wo, wc, rfl⟩ := hw.shape
  rw [ivs_length] at HW ⊢
  have H1 : Hid ((chk r c l.length != 0) = true) := hide (by simpa using h1)
  clear h1
  clear ha hw
  go_enter Try.func25, Try.ntmps25
  go_wp2_with fail
  refine (check_any _ _ _ _ _ _).mono ?_
  rintro e w1 ⟨rfl, f1⟩
  have T := three_allocs w #[.int .i64 r, .int .i64 c, .slice ao l.length ac] #[.slice wo xs.length wc] #[.int .i64 0, .int .i64 0, .slice none 0 0] 25
  have HTA := hide ((f1.block _ (lt_of_heap T.1) id).trans T.1)
  have HTB := hide ((f1.block _ (lt_of_heap T.2.1) id).trans T.2.1)
  have HR := hide ((f1.block _ (lt_of_heap T.2.2) id).trans T.2.2)
  have F1 := hide (((((Fr.refl (fun _ => False) w).alloc _).alloc _).alloc _).trans f1 (fun _ _ h => h))
  clear T f1
  have hne := unhide H1
  have hlt := lt_of_heap (unhide HR)
  have k0 := cell_of_heap (unhide HR) 0
  have k1 := cell_of_heap (unhide HR) 1
  have k2 := cell_of_heap (unhide HR) 2
  have z0 := frozen_of_heap (unhide HR)
  simp at k0 k1 k2
  go_wp2_with fail
  have f3 := fr_three w1 (w.heap.size + 2) (.int .i64 0) (.int .i64 0) (.slice none 0 0)
  refine bodyPost_ret (v := .tuple #[.agg #[.int .i64 0, .int .i64 0, .slice none 0 0], .int .i64 (chk r c l.length)]) (by simp [results, Try.results25, go_sem, k0, k1, k2]) rfl ⟨rfl, (unhide F1).trans f3 (fun i hi h => by omega)⟩
set_option maxHeartbeats 2000000 in
set_option maxRecDepth 100000 in
theorem rows_no2 (w : World) (r c : Int) (va wv : Value) (l : List UInt8) (xs : List Int) (ha : Rd w va l) (hw : RdV w wv (ivs xs)) (h1 : chk r c l.length = 0) (h2 : sideB (xs.length : Int) = false) :
    Calls Try.prog 25 #[.agg #[.int .i64 r, .int .i64 c, va], wv] w fun e w' => e = .returned (.tuple #[zV, .int .i64 (2)]) ∧ Fr (fun _ => False) w w' := by
  obtain ⟨ao, ac, rfl⟩ := ha.shape
  have HW := hide hw
  obtain ⟨wo, wc, rfl⟩ := hw.shape
  rw [ivs_length] at HW ⊢
  have H1 := hide h1
  have H2 := hide h2
  clear h1 h2
  clear ha hw
  go_enter Try.func25, Try.ntmps25
  go_wp2_with fail
  refine (check_any _ _ _ _ _ _).mono ?_
  rintro e w1 ⟨rfl, f1⟩
  have T := three_allocs w #[.int .i64 r, .int .i64 c, .slice ao l.length ac] #[.slice wo xs.length wc] #[.int .i64 0, .int .i64 0, .slice none 0 0] 25
  have HTA := hide ((f1.block _ (lt_of_heap T.1) id).trans T.1)
  have HTB := hide ((f1.block _ (lt_of_heap T.2.1) id).trans T.2.1)
  have HR := hide ((f1.block _ (lt_of_heap T.2.2) id).trans T.2.2)
  have F1 := hide (((((Fr.refl (fun _ => False) w).alloc _).alloc _).alloc _).trans f1 (fun _ _ h => h))
  clear T f1
  rw [unhide H1]
  have b0 := cell_of_heap (unhide HTB) 0
  simp at b0
  have htb := lt_of_heap (unhide HTB)
  have hlt := lt_of_heap (unhide HR)
  have k0 := cell_of_heap (unhide HR) 0
  have k1 := cell_of_heap (unhide HR) 1
  have k2 := cell_of_heap (unhide HR) 2
  have z0 := frozen_of_heap (unhide HR)
  simp at k0 k1 k2
  go_wp2_with (go_at_call 79; refine (isSide_any _ _).mono ?_; rintro e w' ⟨rfl, rfl⟩; rw [unhide H2])
  have f3 := fr_three w1 (w.heap.size + 2) (.int .i64 0) (.int .i64 0) (.slice none 0 0)
  refine bodyPost_ret (v := .tuple #[.agg #[.int .i64 0, .int .i64 0, .slice none 0 0], .int .i64 (2)]) (by simp [results, Try.results25, go_sem, k0, k1, k2]) rfl ⟨rfl, (unhide F1).trans f3 (fun i hi h => by omega)⟩
set_option maxHeartbeats 2000000 in
set_option maxRecDepth 100000 in
theorem rows_no3 (w : World) (r c : Int) (va wv : Value) (l : List UInt8) (xs : List Int) (ha : Rd w va l) (hw : RdV w wv (ivs xs)) (h1 : chk r c l.length = 0) (h2 : sideB (xs.length : Int) = true) (h3 : xs.any (offB r.toNat) = true) :
    Calls Try.prog 25 #[.agg #[.int .i64 r, .int .i64 c, va], wv] w fun e w' => e = .returned (.tuple #[zV, .int .i64 (2)]) ∧ Fr (fun _ => False) w w' := by
  obtain ⟨ao, ac, rfl⟩ := ha.shape
  have HW := hide hw
  obtain ⟨wo, wc, rfl⟩ := hw.shape
  rw [ivs_length] at HW ⊢
  have H1 := hide h1
  have H2 := hide h2
  have H3 := hide h3
  obtain ⟨ra, hra⟩ : ∃ ra : Nat, r = (ra : Int) := by
    unfold chk at h1
    by_cases h : sideB r = true ∧ sideB c = true
    · have := side_le h.1
      exact ⟨r.toNat, by omega⟩
    · rw [if_neg h] at h1; omega
  subst hra
  have hl64 := side_le h2
  clear h1 h2 h3
  clear ha hw
  go_enter Try.func25, Try.ntmps25
  go_wp2_with fail
  refine (check_any _ _ _ _ _ _).mono ?_
  rintro e w1 ⟨rfl, f1⟩
  have T := three_allocs w #[.int .i64 (ra : Int), .int .i64 c, .slice ao l.length ac] #[.slice wo xs.length wc] #[.int .i64 0, .int .i64 0, .slice none 0 0] 25
  have HTA := hide ((f1.block _ (lt_of_heap T.1) id).trans T.1)
  have HTB := hide ((f1.block _ (lt_of_heap T.2.1) id).trans T.2.1)
  have HR := hide ((f1.block _ (lt_of_heap T.2.2) id).trans T.2.2)
  have F1 := hide (((((Fr.refl (fun _ => False) w).alloc _).alloc _).alloc _).trans f1 (fun _ _ h => h))
  clear T f1
  rw [unhide H1]
  have HCN := hide (containsFunc_yes w1 w.heap.size ra _ _ _ xs (unhide HTA) ((unhide HW).kept (unhide F1) (fun _ _ h => h)) (by simpa using unhide H3) (by omega))
  have b0 := cell_of_heap (unhide HTB) 0
  simp at b0
  have htb := lt_of_heap (unhide HTB)
  have hlt := lt_of_heap (unhide HR)
  have k0 := cell_of_heap (unhide HR) 0
  have k1 := cell_of_heap (unhide HR) 1
  have k2 := cell_of_heap (unhide HR) 2
  have z0 := frozen_of_heap (unhide HR)
  simp at k0 k1 k2
  go_wp2_with (first
    | (go_at_call 79; refine (isSide_any _ _).mono ?_; rintro e w' ⟨rfl, rfl⟩; rw [unhide H2])
    | (go_at_call 81; refine (unhide HCN).mono ?_; rintro e w' ⟨rfl, rfl⟩))
  have f3 := fr_three w1 (w.heap.size + 2) (.int .i64 0) (.int .i64 0) (.slice none 0 0)
  refine bodyPost_ret (v := .tuple #[.agg #[.int .i64 0, .int .i64 0, .slice none 0 0], .int .i64 (2)]) (by simp [results, Try.results25, go_sem, k0, k1, k2]) rfl ⟨rfl, (unhide F1).trans f3 (fun i hi h => by omega)⟩
end Go.Proofs.Ytckmddkhkdcmmaa
