/-
  The law's own 'live': a number and a text, there and back; a truth value that is none.
-/
import Derived.Test.YtmnbdpdblpgnlaaRd3
namespace Go.Proofs.Ytmnbdpdblpgnlaa
open Go.RowKit
set_option linter.unusedVariables false

attribute [local go_sem ↓] Go.wp_at_zero Go.wp_at_succ

def liveD : List UInt8 := [0, 0, 1, 2, 0, 0, 0, 2, 97, 98, 0, 0]

theorem live_b1 : lay 0 [] (be32 258) = [0, 0, 1, 2] := by decide +kernel
theorem live_b2 : wopq [0, 0, 1, 2] 0 [97, 98] 9 = (liveD, 0) := by decide +kernel
theorem live_r1 : ru liveD 0 0 = (258, 4, 0) := by decide +kernel
theorem live_r2 : rcnt liveD 4 0 9 = ([97, 98], 12, 0) := by decide +kernel
theorem live_r3 : rdone liveD 12 0 = 0 := by decide +kernel
theorem live_r4 : rbool [0, 0, 0, 2] 0 0 = (false, 0, 10) := by decide +kernel

theorem rd_four (w : World) : Rd (w.alloc (Obj.cells #[Value.int IntKind.u8 0, Value.int IntKind.u8 0, Value.int IntKind.u8 0, Value.int IntKind.u8 2] 5)) (.slice (some ⟨w.heap.size, 0, none⟩) 4 4) [0, 0, 0, 2] := by
  refine Rd.lit rfl (by decide) (by simp [maxLen]) fun j hj => ?_
  rw [Nat.zero_add, cell_of_heap (heap_alloc_new w _)]
  rcases j with _ | _ | _ | _ | j
  · rfl
  · rfl
  · rfl
  · rfl
  · simp at hj; omega

set_option maxHeartbeats 1000000 in
set_option maxRecDepth 100000 in
theorem live_any (w : World) : Calls Try.prog 9 #[] w fun e w' => e = .returned (.bool true) ∧ Fr (fun _ => False) w w' := by
  go_enter Try.func9, Try.ntmps9
  go_wp2_with fail
  refine (newWriter_any w).mono ?_
  rintro e w1 ⟨rfl, a1, f1, z1⟩
  go_wp2_with fail
  refine (uint_any _ _ _ _ _ _ a1 (by omega) (by simp)).mono ?_
  rintro e w2 ⟨rfl, q2, a2, s2⟩
  rw [live_b1] at a2
  go_wp2_with fail
  refine (text_any _ _ _ _ _ _ _ a2 (by decide) (by simp [ByteArray.size])).mono ?_
  rintro e w3 ⟨rfl, q3, a3, s3⟩
  have a3' : WAt w3 w.heap.size q3 liveD 0 := by
    have e : wopq [0, 0, 1, 2] 0 ({ data := #[97, 98] } : ByteArray).data.toList 9 = (liveD, 0) := live_b2
    rw [e] at a3
    exact a3
  clear a3
  go_wp2_with fail
  refine (wbytes_any _ _ _ _ _ a3' (by decide)).mono ?_
  rintro e w4 ⟨v4, rfl, o4, f4, n4⟩
  have HR := hide (newReader_any w4 v4 liveD (Rd.of_owns o4) (by decide))
  obtain ⟨ao4, cap4, rfl⟩ := owns_shape o4
  go_wp2_with fail
  refine (unhide HR).mono ?_
  rintro e w5 ⟨rp, rq, rfl, r5, np5, nq5, f5⟩
  have a5 := (a3'.kept f4 id (fun _ _ h => h)).kept f5 id (fun _ _ h => h)
  have F5 := hide ((f1.trans s2.1 (fun i hi h => (h.elim (fun e => by omega) (fun e => by simp at e)))).trans s3.1 (fun i hi h => (h.elim (fun e => by omega) (fun e => by have := s2.2 i (by omega) e; simp at this))))
  have z4 : w.heap.size ≤ rp := Nat.le_trans ((unhide F5).trans f4 (fun _ _ h => h)).size np5
  have F5' := hide (((unhide F5).trans f4 (fun _ _ h => h)).trans f5 (fun _ _ h => h))
  clear a1 a2 a3' f1 s2 s3 o4 f4 n4 HR F5
  go_wp2_with fail
  refine (wbytes_any _ _ _ _ _ a5 (by decide)).mono ?_
  rintro e w6 ⟨v6, rfl, o6, f6, n6⟩
  have r6 := r5.kept f6 id (fun _ _ h => h)
  have kc : (convert 28 9 v6).run Try.prog w6 = .ok (.string { data := #[0, 0, 1, 2, 0, 0, 0, 2, 97, 98, 0, 0] }) w6 := conv_rd (P := Try.prog) (Rd.of_owns o6) 28 9 5 Try.underlying28 Try.underlying5 Try.underlying9
  obtain ⟨ao6, cap6, rfl⟩ := owns_shape o6
  have R1 := hide (ruint_any _ _ _ _ _ _ r6 (by decide))
  rw [live_r1] at R1
  clear o6 n6 r5 r6 a5
  go_wp2_with fail
  refine (unhide R1).mono ?_
  rintro e w7 ⟨rfl, r7, f7⟩
  have R2 := hide (rtext_any _ _ _ _ _ _ 9 r7 (by decide))
  rw [live_r2] at R2
  clear r7 R1 kc
  go_wp2_with fail
  refine (unhide R2).mono ?_
  rintro e w8 ⟨rfl, r8, f8⟩
  have R3 := hide (rdone_any _ _ _ _ _ _ r8 (by decide))
  rw [live_r3] at R3
  have es : str [97, 98] = { data := #[97, 98] } := rfl
  dsimp only
  rw [es]
  clear r8 R2 es
  go_wp2_with fail
  refine (unhide R3).mono ?_
  rintro e w9 ⟨rfl, q9⟩
  go_wp2_with (go_at_call 13; refine (num_any _ _).mono ?_; rintro e w' ⟨rfl, rfl⟩)
  refine (newReader_any _ _ _ (rd_four w9) (by decide)).mono ?_
  rintro e w10 ⟨tp, tq, rfl, r10, np10, nq10, f10⟩
  have R4 := hide (rbool_any _ _ _ _ _ _ r10 (by decide))
  rw [live_r4] at R4
  clear r10 R3
  go_wp2_with fail
  refine (unhide R4).mono ?_
  rintro e w11 ⟨rfl, r11, f11⟩
  have R5 := hide (rwhy_any _ _ _ _ _ _ r11)
  clear r11 R4
  go_wp2_with fail
  refine (unhide R5).mono ?_
  rintro e w12 ⟨rfl, q12⟩
  go_wp2_with (go_at_call 13; refine (num_any _ _).mono ?_; rintro e w' ⟨rfl, rfl⟩)
  go_ret
  refine ⟨rfl, ?_⟩
  have g6 := (unhide F5').trans f6 (fun _ _ h => h)
  have g9 : Fr (fun _ => False) w w9 := ((g6.trans f7 (fun i hi h => by omega)).trans f8 (fun i hi h => by omega)).trans (q9.fr _) (fun _ _ h => h)
  have g10 := (g9.alloc (Obj.cells #[Value.int IntKind.u8 0, Value.int IntKind.u8 0, Value.int IntKind.u8 0, Value.int IntKind.u8 2] 5)).trans f10 (fun _ _ h => h)
  have hz := g9.size
  have hz2 : w9.heap.size < tp := by simp at np10; omega
  exact (g10.trans f11 (fun i hi h => by omega)).trans (q12.fr _) (fun _ _ h => h)

#print axioms live_any
end Go.Proofs.Ytmnbdpdblpgnlaa
