/-
  The law's own 'live': a product, an inverse, a matrix and its inverse.
-/
import Derived.Test.YtckmddkhkdcmmaaInv
namespace Go.Proofs.Ytckmddkhkdcmmaa
open Go.RowKit
set_option linter.unusedVariables false

attribute [local go_sem ↓] Go.wp_at_zero Go.wp_at_succ

theorem live_1 : dv 1 2 = (142, 0) := by decide +kernel
theorem live_2 : dv 1 0 = (0, 20) := by decide +kernel
theorem live_3 : (invR 2 [1, 0, 1, 1]).2 = 2 := by decide +kernel
theorem live_4 : invL 2 [1, 0, 1, 1] = [1, 0, 1, 1] := by decide +kernel
theorem live_5 : (invR 2 [1, 1, 1, 1]).2 = 1 := by decide +kernel
theorem live_6 : mul 2 128 = 29 := by decide +kernel
theorem live_7 : mul 3 7 = 9 := by decide +kernel
theorem live_8 : pw 2 (-1) = 142 := by decide +kernel

theorem rd_four (w : World) (a b c d : UInt8) : Rd (w.alloc (Obj.cells #[Value.int IntKind.u8 ((a.toNat : Nat) : Int), Value.int IntKind.u8 ((b.toNat : Nat) : Int), Value.int IntKind.u8 ((c.toNat : Nat) : Int), Value.int IntKind.u8 ((d.toNat : Nat) : Int)] 5)) (.slice (some ⟨w.heap.size, 0, none⟩) 4 4) [a, b, c, d] := by
  refine Rd.lit rfl (by decide) (by simp [maxLen]) fun j hj => ?_
  rw [Nat.zero_add, cell_of_heap (heap_alloc_new w _)]
  rcases j with _ | _ | _ | _ | j
  · rfl
  · rfl
  · rfl
  · rfl
  · simp at hj; omega

set_option maxRecDepth 100000 in
theorem inv_ok2 (w : World) (v : Value) (h : Rd w v [1, 0, 1, 1]) : Calls Try.prog 19 #[.agg #[.int .i64 2, .int .i64 2, v]] w fun e w' => (∃ ao cap, e = .returned (.tuple #[.agg #[.int .i64 2, .int .i64 2, .slice ao 4 cap], .int .i64 0]) ∧ Rd w' (.slice ao 4 cap) [1, 0, 1, 1]) ∧ Fr (fun _ => False) w w' := by
  refine (inverse_sq w 2 v [1, 0, 1, 1] h rfl (by omega)).mono ?_
  rintro e w' ⟨⟨val, rfl, M, -⟩, f⟩
  have hn : ¬ (invR 2 [1, 0, 1, 1]).2 < 2 := by rw [live_3]; omega
  rw [if_neg hn, live_4] at M
  rw [if_neg hn]
  obtain ⟨v', rfl, R⟩ := M
  obtain ⟨ao, cap, rfl⟩ := R.shape
  exact ⟨⟨ao, cap, rfl, R⟩, f⟩

set_option maxRecDepth 100000 in
theorem inv_flat2 (w : World) (v : Value) (h : Rd w v [1, 1, 1, 1]) : Calls Try.prog 19 #[.agg #[.int .i64 2, .int .i64 2, v]] w fun e w' => (∃ ao cap, e = .returned (.tuple #[.agg #[.int .i64 0, .int .i64 0, .slice ao 0 cap], .int .i64 22])) ∧ Fr (fun _ => False) w w' := by
  refine (inverse_sq w 2 v [1, 1, 1, 1] h rfl (by omega)).mono ?_
  rintro e w' ⟨⟨val, rfl, M, -⟩, f⟩
  have hn : (invR 2 [1, 1, 1, 1]).2 < 2 := by rw [live_5]; omega
  rw [if_pos hn] at M
  rw [if_pos hn]
  obtain ⟨v', rfl, R⟩ := M
  obtain ⟨ao, cap, rfl⟩ := R.shape
  exact ⟨⟨ao, cap, rfl⟩, f⟩

set_option maxRecDepth 100000 in
theorem make_2 (w : World) (v : Value) (h : Rd w v [1, 0, 1, 1]) : Calls Try.prog 33 #[.int .i64 2, .int .i64 2, v] w fun e w' => (∃ ao cap, e = .returned (.tuple #[.agg #[.int .i64 2, .int .i64 2, .slice ao 4 cap], .int .i64 0]) ∧ Rd w' (.slice ao 4 cap) [1, 0, 1, 1]) ∧ Fr (fun _ => False) w w' := by
  refine (make_ok w 2 2 v [1, 0, 1, 1] h rfl (by omega) (by omega)).mono ?_
  rintro e w' ⟨⟨val, rfl, M, -⟩, f⟩
  obtain ⟨v', rfl, R⟩ := M
  obtain ⟨ao, cap, rfl⟩ := R.shape
  exact ⟨⟨ao, cap, rfl, R⟩, f⟩

set_option maxHeartbeats 2000000 in
set_option maxRecDepth 100000 in
theorem live_any (w : World) : Calls Try.prog 15 #[] w fun e w' => e = .returned (.bool true) ∧ Fr (fun _ => False) w w' := by
  go_enter Try.func15, Try.ntmps15
  go_wp2_with fail
  have HI := hide (inv_any w 2)
  rw [live_1] at HI
  refine (unhide HI).mono ?_
  rintro e w1 ⟨rfl, f1⟩
  have F1 := hide f1
  clear f1 HI
  go_wp2_with fail
  have HI := hide (inv_any w1 0)
  rw [live_2] at HI
  refine (unhide HI).mono ?_
  rintro e w2 ⟨rfl, f2⟩
  have F2 := hide ((unhide F1).trans f2 (fun _ _ h => h))
  clear f2 HI F1
  go_wp2_with fail
  refine (make_2 _ _ (rd_four w2 1 0 1 1)).mono ?_
  rintro e w3 ⟨⟨ao3, cap3, rfl, R3⟩, f3⟩
  have F3 := hide (((unhide F2).alloc _).trans f3 (fun _ _ h => h))
  have HR3 := hide R3
  clear f3 F2 R3
  go_wp2_with fail
  have q3 : Fr (fun _ => False) w3 (w3.alloc (Obj.cells #[Value.int IntKind.i64 2, Value.int IntKind.i64 2, Value.slice ao3 4 cap3] 24)) := (Fr.refl _ _).alloc _
  have hp3 := heap_alloc_new w3 (Obj.cells #[Value.int IntKind.i64 2, Value.int IntKind.i64 2, Value.slice ao3 4 cap3] 24)
  refine (inv_ok2 _ _ ((unhide HR3).kept q3 (fun _ _ h => h))).mono ?_
  rintro e w4 ⟨⟨ao4, cap4, rfl, R4⟩, f4⟩
  have hp4 := (f4.block _ (lt_of_heap hp3) id).trans hp3
  have Q4 := hide (q3.trans f4 (fun _ _ h => h))
  have F4 := hide ((unhide F3).trans (unhide Q4) (fun _ _ h => h))
  have HR4 := hide R4
  have HP4 := hide hp4
  clear q3 f4 R4 hp3 hp4 F3
  go_wp2_with fail
  have q5 : Fr (fun _ => False) w4 ((w4.alloc (Obj.cells #[Value.int IntKind.i64 2, Value.int IntKind.i64 2, Value.slice ao4 4 cap4] 24)).alloc (Obj.cells #[Value.int IntKind.u8 1, Value.int IntKind.u8 1, Value.int IntKind.u8 1, Value.int IntKind.u8 1] 5)) := ((Fr.refl _ _).alloc _).alloc _
  have hp5 : ((w4.alloc (Obj.cells #[Value.int IntKind.i64 2, Value.int IntKind.i64 2, Value.slice ao4 4 cap4] 24)).alloc (Obj.cells #[Value.int IntKind.u8 1, Value.int IntKind.u8 1, Value.int IntKind.u8 1, Value.int IntKind.u8 1] 5)).heap[w4.heap.size]? = some (.cells #[Value.int IntKind.i64 2, Value.int IntKind.i64 2, Value.slice ao4 4 cap4] 24 (0, 0)) := by
    rw [Below.heap_alloc _ _ _ (by simp)]; exact heap_alloc_new w4 _
  have r5 := rd_four (w4.alloc (Obj.cells #[Value.int IntKind.i64 2, Value.int IntKind.i64 2, Value.slice ao4 4 cap4] 24)) 1 1 1 1
  have hsz4 : (w4.alloc (Obj.cells #[Value.int IntKind.i64 2, Value.int IntKind.i64 2, Value.slice ao4 4 cap4] 24)).heap.size = w4.heap.size + 1 := by simp
  rw [hsz4] at r5
  refine (inv_flat2 _ _ r5).mono ?_
  rintro e w5 ⟨⟨ao5, cap5, rfl⟩, f5⟩
  have Q5 := q5.trans f5 (fun _ _ h => h)
  have hp6 := (f5.block _ (lt_of_heap hp5) id).trans hp5
  have hp7 := (Q5.block _ (lt_of_heap (unhide HP4)) id).trans (unhide HP4)
  have R6 := hide (((unhide HR3).kept (unhide Q4) (fun _ _ h => h)).kept Q5 (fun _ _ h => h))
  have R7 := hide ((unhide HR4).kept Q5 (fun _ _ h => h))
  have F5 := hide ((unhide F4).trans Q5 (fun _ _ h => h))
  have HP6 := hide hp6
  have HP7 := hide hp7
  clear q5 f5 Q5 hp5 hp6 hp7 r5 hsz4 F4 HP4 HR3 HR4 Q4
  go_wp2_with fail
  have fA : Fr (fun _ => False) w5 (w5.alloc (Obj.cells #[Value.int IntKind.i64 0, Value.int IntKind.i64 0, Value.slice ao5 0 cap5] 24)) := (Fr.refl _ _).alloc _
  have F6 := hide ((unhide F5).trans fA (fun _ _ h => h))
  have p6 := (fA.block _ (lt_of_heap (unhide HP6)) id).trans (unhide HP6)
  have p7 := (fA.block _ (lt_of_heap (unhide HP7)) id).trans (unhide HP7)
  have R8 := hide ((unhide R6).kept fA (fun _ _ h => h))
  have R9 := hide ((unhide R7).kept fA (fun _ _ h => h))
  have x0 := cell_of_heap p6 0
  have x1 := cell_of_heap p6 1
  have x2 := cell_of_heap p6 2
  have y0 := cell_of_heap p7 0
  have y1 := cell_of_heap p7 1
  have y2 := cell_of_heap p7 2
  simp only [List.getElem?_toArray, List.getElem?_cons_zero, List.getElem?_cons_succ] at x0 x1 x2 y0 y1 y2
  clear p6 p7 HP6 HP7 R6 R7 fA F5
  generalize w5.alloc (Obj.cells #[Value.int IntKind.i64 0, Value.int IntKind.i64 0, Value.slice ao5 0 cap5] 24) = w6 at *
  refine (mul_any w6 2 128).mono ?_
  rintro e w7 ⟨rfl, rfl⟩
  rw [live_6]
  go_wp2_with fail
  refine (mul_any w6 3 7).mono ?_
  rintro e w7 ⟨rfl, rfl⟩
  rw [live_7]
  have HSm := hide (same_any w6 2 2 2 2 (.slice ao3 4 cap3) (.slice ao4 4 cap4) [1, 0, 1, 1] [1, 0, 1, 1] (unhide R8) (unhide R9))
  have hdec : decide ((2 : Int) = 2 ∧ (2 : Int) = 2 ∧ ([1, 0, 1, 1] : List UInt8) = [1, 0, 1, 1]) = true := by decide
  rw [hdec] at HSm
  clear hdec
  go_wp2_with (first | (go_at_call 22; refine (num_any _ _).mono ?_; rintro e w' ⟨rfl, rfl⟩) | (go_at_call 34; refine (unhide HSm).mono ?_; rintro e w8 ⟨rfl, f8⟩))
  have HPw := hide (pow_any w8 2 (-1) (by omega))
  rw [live_8] at HPw
  refine (unhide HPw).mono ?_
  rintro e w9 ⟨rfl, f9⟩
  have F9 := hide (((unhide F6).trans f8 (fun _ _ h => h)).trans f9 (fun _ _ h => h))
  clear f8 f9 x0 x1 x2 y0 y1 y2
  go_wp2_with fail
  go_ret
  exact ⟨rfl, unhide F9⟩

end Go.Proofs.Ytckmddkhkdcmmaa
