/-
  The walk of the document's own Powers, and of the law GfMakes.
-/
import Derived.Test.YtbbgfbjchlefeaaPows
namespace Go.Proofs.Ytbbgfbjchlefeaa
open Go.RowKit
set_option linter.unusedVariables false

attribute [local go_sem ↓] Go.wp_at_zero Go.wp_at_succ

theorem rpow_atn {r c : Nat} (hr : r ≤ 64) (hc : c ≤ 64) (w : World) : Calls Try.prog 23 #[.int .u8 (r : Int), .int .i64 (c : Int)] w fun e w' => e = .returned (.int .u8 (((pwC r c).toNat : Nat) : Int)) ∧ w = w' := by
  have := rpow_any w (UInt8.ofNat r) (c : Int) (by omega)
  rw [byte_nat r hr] at this
  exact this

set_option maxHeartbeats 2000000 in
set_option maxRecDepth 100000 in
theorem rpowers_ok (w : World) (r c : Nat) (h1 : 1 ≤ r ∧ r ≤ 64) (h2 : 1 ≤ c ∧ c ≤ 64) : Calls Try.prog 56 #[.int .i64 (r : Int), .int .i64 (c : Int)] w fun e w' => (∃ ao l cap, e = .returned (.tuple #[.agg #[.int .i64 (r : Int), .int .i64 (c : Int), .slice ao l cap], .int .i64 0]) ∧ Rd w' (.slice ao l cap) (fl c pwC (r * c))) ∧ Fr (fun _ => False) w w' := by
  have d1 : decide ((r : Int) < 1) = false := by simp; omega
  have d2 : decide (64 < (r : Int)) = false := by simp; omega
  have d3 : decide ((c : Int) < 1) = false := by simp; omega
  have d4 : decide (64 < (c : Int)) = false := by simp; omega
  have HN := hide (rnew_any (w.alloc (Obj.cells #[.int .i64 0, .int .i64 0, .slice none 0 0] 53)) r c (by omega) (by omega))
  have hsz : (w.alloc (Obj.cells #[.int .i64 0, .int .i64 0, .slice none 0 0] 53)).heap.size = w.heap.size + 1 := by simp
  rw [hsz] at HN
  have hk2 : r * c ≤ 64 * 64 := Nat.mul_le_mul (by omega) (by omega)
  obtain ⟨n, hn⟩ : ∃ n, n = r * c := ⟨_, rfl⟩
  rw [← hn] at HN hk2 ⊢
  have HKK := hide hn
  clear hsz hn
  go_enter Try.func56, Try.ntmps56
  go_wp2_with fail
  refine (unhide HN).mono ?_
  rintro e w1 ⟨rfl, B1, f1⟩
  have hp0 := heap_alloc_new w (Obj.cells #[.int .i64 0, .int .i64 0, .slice none 0 0] 53)
  have hp1 := (f1.block _ (lt_of_heap hp0) id).trans hp0
  have F1 := ((Fr.refl (fun _ => False) w).alloc (Obj.cells #[.int .i64 0, .int .i64 0, .slice none 0 0] 53)).trans f1 (fun _ _ h => h)
  have hb1 := lt_of_heap B1
  have fA : Fr (fun _ => False) w1 (w1.alloc (Obj.cells #[.int .i64 (r : Int), .int .i64 (c : Int), .slice (some ⟨w.heap.size + 1 + 1, 0, none⟩) n n] 53)) := (Fr.refl _ _).alloc _
  have hm := heap_alloc_new w1 (Obj.cells #[.int .i64 (r : Int), .int .i64 (c : Int), .slice (some ⟨w.heap.size + 1 + 1, 0, none⟩) n n] 53)
  have hp2 := (fA.block _ (lt_of_heap hp1) id).trans hp1
  have B2 := B1.kept fA id
  have F2 := F1.trans fA (fun _ _ h => h)
  have HM := hide hm
  have HP := hide hp2
  have HB := hide B2
  have HF := hide F2
  clear B1 f1 hp0 hp1 F1 fA hm hp2 B2 F2
  go_wp2_with fail
  generalize hW2 : w1.alloc (Obj.cells #[.int .i64 (r : Int), .int .i64 (c : Int), .slice (some ⟨w.heap.size + 1 + 1, 0, none⟩) n n] 53) = w2 at *
  clear hW2
  go_loopw [7] (fun i w' => ∃ j : Nat, j ≤ r ∧ i = .int .i64 (j : Int) ∧ BAt w' (w.heap.size + 1 + 1) (fl c pwC (j * c) ++ List.replicate (n - j * c) 0) ∧ Fr (fun x => x = w.heap.size + 1 + 1) w2 w') (fun i _ => r - (intOf i).toNat)
  case atStart => exact ⟨0, by omega, rfl, by simpa [fl] using unhide HB, Fr.refl _ _⟩
  case round =>
    obtain ⟨j, hj, rfl, hB, hf⟩ := hrel
    by_cases hlt : j < r
    · have HB2 := hide hB
      have Hf := hide hf
      clear hB hf
      go_wp2_with fail
      go_loopw [8] (fun i w' => ∃ k : Nat, k ≤ c ∧ i = .int .i64 (k : Int) ∧ BAt w' (w.heap.size + 1 + 1) (fl c pwC (j * c + k) ++ List.replicate (n - (j * c + k)) 0) ∧ Fr (fun x => x = w.heap.size + 1 + 1) w2 w') (fun i _ => c - (intOf i).toNat)
      case atStart => exact ⟨0, by omega, rfl, unhide HB2, unhide Hf⟩
      case round =>
        clear HB2 Hf
        obtain ⟨k, hk, rfl, hB, hf⟩ := hrel
        by_cases hlt2 : k < c
        · have hm := (hf.block _ (lt_of_heap (unhide HM)) (by omega)).trans (unhide HM)
          have c2 := cell_of_heap hm 2
          simp at c2
          have hix : j * c + k < n := by rw [unhide HKK]; exact mul_step hlt hlt2
          have hd1 : (j * c + k) / c = j := by rw [Nat.mul_comm, Nat.mul_add_div (by omega), Nat.div_eq_of_lt hlt2]; omega
          have hd2 : (j * c + k) % c = k := by rw [Nat.mul_comm, Nat.mul_add_mod, Nat.mod_eq_of_lt hlt2]
          have hst := fl_step c pwC n (j * c + k) hix
          rw [hd1, hd2] at hst
          have HS := hide hst
          have hlen : (fl c pwC (j * c + k) ++ List.replicate (n - (j * c + k)) 0).length = n := by rw [List.length_append, fl_length, List.length_replicate]; omega
          have cq := hB.cell (j * c + k) (by omega)
          have fq := hB.frozen (j * c + k)
          generalize (fl c pwC (j * c + k) ++ List.replicate (n - (j * c + k)) 0)[j * c + k]'(by omega) = old at cq
          obtain ⟨jc, hjc⟩ : ∃ jc, j * c = jc := ⟨_, rfl⟩
          obtain ⟨ij, hij⟩ : ∃ ij, jc + k = ij := ⟨_, rfl⟩
          have e1 : (j : Int) * (c : Int) = (jc : Int) := by rw [← hjc]; simp
          have e2 : (jc : Int) + (k : Int) = (ij : Int) := by omega
          rw [hjc, hij] at cq fq hix
          have e3 : IntKind.i64.wrap (ij : Int) = (ij : Int) := by rw [IntKind.wrap_i64]; omega
          have e4 : IntKind.i64.wrap (jc : Int) = (jc : Int) := by rw [IntKind.wrap_i64]; omega
          have e5 : IntKind.u8.wrap (j : Int) = (j : Int) := by simp only [IntKind.wrap, IntKind.bits, IntKind.signed]; simp; omega
          have HB2 := hide hB
          have Hf := hide hf
          have HJ := hide (show j * c + k = ij by omega)
          have HC := hide (fun W => rpow_atn (show j ≤ 64 by omega) (show k ≤ 64 by omega) W)
          clear hB hf hm hst hlen hjc hij hd1 hd2
          go_wp2_with fail
          go_region_with ((go_at_call 23; refine (unhide HC _).mono ?_; rintro e w3 ⟨rfl, rfl⟩))
          all_goals
            go_wp2_with fail
            go_roundw
            case rel =>
              refine ⟨k + 1, by omega, by go_num, ?_, ((unhide Hf).drewN 1).setCell (fun _ => rfl) _⟩
              have h3 := BAt.set (w := wr.drewN 1) (unhide HB2) ij (pwC j k)
              have h4 := unhide HS
              rw [unhide HJ] at h4 h3
              rw [h4] at h3
              rw [← Nat.add_assoc, unhide HJ]
              exact h3
            case measure => simp [intOf]; omega
        · have hke : k = c := by omega
          subst hke
          have HB2 := hide hB
          have Hf := hide hf
          clear hB hf
          go_wp2_with fail
          go_roundw
          case rel => exact ⟨j + 1, by omega, by go_num, by rw [Nat.succ_mul]; exact unhide HB2, unhide Hf⟩
          case measure => simp [intOf]; omega
    · have hje : j = r := by omega
      subst hje
      have hm := (hf.block _ (lt_of_heap (unhide HM)) (by omega)).trans (unhide HM)
      have c0 := cell_of_heap hm 0
      have c1 := cell_of_heap hm 1
      have c2 := cell_of_heap hm 2
      have hp := (hf.block _ (lt_of_heap (unhide HP)) (by omega)).trans (unhide HP)
      have g0 := cell_of_heap hp 0
      have g1 := cell_of_heap hp 1
      have g2 := cell_of_heap hp 2
      have z0 := frozen_of_heap hp
      simp at c0 c1 c2 g0 g1 g2
      have HB2 := hide hB
      have Hf := hide hf
      clear hB hf hm hp
      go_wp2_with fail
      have f3 := fr_three wr w.heap.size (.int .i64 (j : Int)) (.int .i64 (c : Int)) (.slice (some ⟨w.heap.size + 1 + 1, 0, none⟩) n n)
      refine bodyPost_ret (v := .tuple #[.agg #[.int .i64 (j : Int), .int .i64 (c : Int), .slice (some ⟨w.heap.size + 1 + 1, 0, none⟩) n n], .int .i64 0]) (by simp [results, Try.results56, go_sem, g0, g1, g2]) rfl ⟨⟨_, _, _, rfl, ?_⟩, ((unhide HF).trans (unhide Hf) (fun i hi h => by omega)).trans f3 (fun i hi h => by omega)⟩
      have hB := (unhide HB2).kept f3 (by omega)
      rw [← unhide HKK, Nat.sub_self, List.replicate_zero, List.append_nil] at hB
      have hl : (fl c pwC n).length = n := fl_length _ _ _
      have := hB.rd (by rw [hl]; unfold maxLen; omega)
      rw [hl] at this
      exact this

set_option maxHeartbeats 400000 in
theorem rpowers_any (w : World) (rows cols : Int) : Calls Try.prog 56 #[.int .i64 rows, .int .i64 cols] w fun e w' => (∃ ao l cap, e = .returned (.tuple #[.agg #[.int .i64 (pmR rows cols), .int .i64 (pmC rows cols), .slice ao l cap], .int .i64 (pmE rows cols)]) ∧ Rd w' (.slice ao l cap) (pmL rows cols)) ∧ Fr (fun _ => False) w w' := by
  by_cases h : okB rows cols = true
  · obtain ⟨h1, h2⟩ : sideB rows = true ∧ sideB cols = true := by simpa [okB] using h
    have s1 := side_le h1
    have s2 := side_le h2
    obtain ⟨r, rfl⟩ : ∃ k : Nat, rows = (k : Int) := ⟨rows.toNat, by omega⟩
    obtain ⟨c, rfl⟩ : ∃ k : Nat, cols = (k : Int) := ⟨cols.toNat, by omega⟩
    have e1 : pmR (r : Int) (c : Int) = (r : Int) := by unfold pmR; rw [if_pos h]
    have e2 : pmC (r : Int) (c : Int) = (c : Int) := by unfold pmC; rw [if_pos h]
    have e3 : pmE (r : Int) (c : Int) = 0 := by unfold pmE; rw [if_pos h]
    have e4 : pmL (r : Int) (c : Int) = fl c pwC (r * c) := by unfold pmL; rw [if_pos h]; rfl
    rw [e1, e2, e3, e4]
    exact rpowers_ok w r c (by omega) (by omega)
  · have e1 : pmR rows cols = 0 := by unfold pmR; rw [if_neg h]
    have e2 : pmC rows cols = 0 := by unfold pmC; rw [if_neg h]
    have e3 : pmE rows cols = 2 := by unfold pmE; rw [if_neg h]
    have e4 : pmL rows cols = [] := by unfold pmL; rw [if_neg h]
    rw [e1, e2, e3, e4]
    have hn : ¬ ((1 ≤ rows ∧ rows ≤ 64) ∧ (1 ≤ cols ∧ cols ≤ 64)) := by simpa [okB, sideB] using h
    have f := (Fr.refl (fun _ => False) w).alloc (Obj.cells #[.int .i64 0, .int .i64 0, .slice none 0 0] 53)
    have F := hide f
    have HNN := hide hn
    clear e1 e2 e3 e4 f h hn
    by_cases h1 : rows < 1
    · go_enter Try.func56, Try.ntmps56
      go_wp2_with fail
      refine bodyPost_ret (v := .tuple #[.agg #[.int .i64 0, .int .i64 0, .slice none 0 0], .int .i64 2]) (by simp [results, Try.results56, go_sem]) rfl ⟨⟨_, _, _, rfl, Rd.nil _⟩, unhide F⟩
    · have d1 : decide (rows < 1) = false := by simpa using h1
      by_cases h2 : 64 < rows
      · go_enter Try.func56, Try.ntmps56
        go_wp2_with fail
        refine bodyPost_ret (v := .tuple #[.agg #[.int .i64 0, .int .i64 0, .slice none 0 0], .int .i64 2]) (by simp [results, Try.results56, go_sem]) rfl ⟨⟨_, _, _, rfl, Rd.nil _⟩, unhide F⟩
      · have d2 : decide (64 < rows) = false := by simpa using h2
        by_cases h3 : cols < 1
        · go_enter Try.func56, Try.ntmps56
          go_wp2_with fail
          refine bodyPost_ret (v := .tuple #[.agg #[.int .i64 0, .int .i64 0, .slice none 0 0], .int .i64 2]) (by simp [results, Try.results56, go_sem]) rfl ⟨⟨_, _, _, rfl, Rd.nil _⟩, unhide F⟩
        · have d3 : decide (cols < 1) = false := by simpa using h3
          have h4 : 64 < cols := by have := unhide HNN; omega
          go_enter Try.func56, Try.ntmps56
          go_wp2_with fail
          refine bodyPost_ret (v := .tuple #[.agg #[.int .i64 0, .int .i64 0, .slice none 0 0], .int .i64 2]) (by simp [results, Try.results56, go_sem]) rfl ⟨⟨_, _, _, rfl, Rd.nil _⟩, unhide F⟩

/-- The law's own 'same', of equal answers. -/
theorem lsame_any (w : World) (R C E : Int) (ao1 ao2 : Option Addr) (n1 n2 cap1 cap2 : Nat) (l : List UInt8) (h1 : Rd w (.slice ao1 n1 cap1) l) (h2 : Rd w (.slice ao2 n2 cap2) l) :
    Calls Try.prog 40 #[.agg #[.int .i64 R, .int .i64 C, .slice ao1 n1 cap1], .int .i64 E, .agg #[.int .i64 R, .int .i64 C, .slice ao2 n2 cap2], .int .i64 E] w fun e w' => e = .returned (.bool true) ∧ Fr (fun _ => False) w w' := by
  have f := ((Fr.refl (fun _ => False) w).alloc (Obj.cells #[.int .i64 R, .int .i64 C, .slice ao1 n1 cap1] 53)).alloc (Obj.cells #[.int .i64 R, .int .i64 C, .slice ao2 n2 cap2] 53)
  have HS := hide (same_any _ R C R C _ _ l l (h1.kept f (fun _ _ h => h)) (h2.kept f (fun _ _ h => h)))
  have hd : decide (R = R ∧ C = C ∧ l = l) = true := by simp
  rw [hd] at HS
  have F := hide f
  clear h1 h2 f hd
  go_enter Try.func40, Try.ntmps40
  go_wp2_with fail
  refine (unhide HS).mono ?_
  rintro e w1 ⟨rfl, f1⟩
  go_wp2_with fail
  refine (num_any _ _).mono ?_
  rintro e w2 ⟨rfl, rfl⟩
  go_wp2_with fail
  go_ret
  exact ⟨rfl, (unhide F).trans f1 (fun _ _ h => h)⟩

set_option maxHeartbeats 2000000 in
set_option maxRecDepth 100000 in
theorem makes_any (w : World) (rows cols : Int) : Calls Try.prog 9 #[.int .i64 rows, .int .i64 cols] w fun e w' => e = .returned (.bool true) ∧ Fr (fun _ => False) w w' := by
  have C1 := hide (fun W => identity_any W rows)
  have C2 := hide (fun W => ridentity_any W rows)
  have C3 := hide (fun W => gpowers_any W rows cols)
  have C4 := hide (fun W => rpowers_any W rows cols)
  generalize idS rows = S1 at *
  generalize idE rows = E1 at *
  generalize idL rows = l1 at *
  generalize pmR rows cols = R2 at *
  generalize pmC rows cols = S2 at *
  generalize pmE rows cols = E2 at *
  generalize pmL rows cols = l2 at *
  go_enter Try.func9, Try.ntmps9
  go_wp2_with fail
  refine (unhide C1 _).mono ?_
  rintro e w1 ⟨⟨ao1, n1, cap1, rfl, R1⟩, f1⟩
  have q1 : Fr (fun _ => False) w1 (w1.alloc (Obj.cells #[.int .i64 S1, .int .i64 S1, .slice ao1 n1 cap1] 53)) := (Fr.refl _ _).alloc _
  have h1 := heap_alloc_new w1 (Obj.cells #[.int .i64 S1, .int .i64 S1, .slice ao1 n1 cap1] 53)
  have HR1 := hide (R1.kept q1 (fun _ _ h => h))
  have F1 := hide (f1.trans q1 (fun _ _ h => h))
  have H1 := hide h1
  clear R1 f1 q1 h1
  go_wp2_with fail
  refine (unhide C2 _).mono ?_
  rintro e w2 ⟨⟨ao2, n2, cap2, rfl, R2'⟩, f2⟩
  have q2 : Fr (fun _ => False) w2 (w2.alloc (Obj.cells #[.int .i64 S1, .int .i64 S1, .slice ao2 n2 cap2] 53)) := (Fr.refl _ _).alloc _
  have h2 := heap_alloc_new w2 (Obj.cells #[.int .i64 S1, .int .i64 S1, .slice ao2 n2 cap2] 53)
  have g2 := f2.trans q2 (fun _ _ h => h)
  have HR1' := hide ((unhide HR1).kept g2 (fun _ _ h => h))
  have HR2 := hide (R2'.kept q2 (fun _ _ h => h))
  have F2 := hide ((unhide F1).trans g2 (fun _ _ h => h))
  have H1' := hide ((g2.block _ (lt_of_heap (unhide H1)) id).trans (unhide H1))
  have H2 := hide h2
  clear R2' f2 q2 h2 g2 F1 H1 HR1
  go_wp2_with fail
  refine (unhide C3 _).mono ?_
  rintro e w3 ⟨⟨ao3, n3, cap3, rfl, R3⟩, f3⟩
  have q3 : Fr (fun _ => False) w3 (w3.alloc (Obj.cells #[.int .i64 R2, .int .i64 S2, .slice ao3 n3 cap3] 53)) := (Fr.refl _ _).alloc _
  have h3 := heap_alloc_new w3 (Obj.cells #[.int .i64 R2, .int .i64 S2, .slice ao3 n3 cap3] 53)
  have g3 := f3.trans q3 (fun _ _ h => h)
  have HR1 := hide ((unhide HR1').kept g3 (fun _ _ h => h))
  have HR2' := hide ((unhide HR2).kept g3 (fun _ _ h => h))
  have HR3 := hide (R3.kept q3 (fun _ _ h => h))
  have F3 := hide ((unhide F2).trans g3 (fun _ _ h => h))
  have H1 := hide ((g3.block _ (lt_of_heap (unhide H1')) id).trans (unhide H1'))
  have H2' := hide ((g3.block _ (lt_of_heap (unhide H2)) id).trans (unhide H2))
  have H3 := hide h3
  clear R3 f3 q3 h3 g3 F2 H1' H2 HR1' HR2
  go_wp2_with fail
  refine (unhide C4 _).mono ?_
  rintro e w4 ⟨⟨ao4, n4, cap4, rfl, R4⟩, f4⟩
  have q4 : Fr (fun _ => False) w4 (w4.alloc (Obj.cells #[.int .i64 R2, .int .i64 S2, .slice ao4 n4 cap4] 53)) := (Fr.refl _ _).alloc _
  have h4 := heap_alloc_new w4 (Obj.cells #[.int .i64 R2, .int .i64 S2, .slice ao4 n4 cap4] 53)
  have g4 := f4.trans q4 (fun _ _ h => h)
  have r1 := (unhide HR1).kept g4 (fun _ _ h => h)
  have r2 := (unhide HR2').kept g4 (fun _ _ h => h)
  have r3 := (unhide HR3).kept g4 (fun _ _ h => h)
  have r4 := R4.kept q4 (fun _ _ h => h)
  have F4 := hide ((unhide F3).trans g4 (fun _ _ h => h))
  have k1 := (g4.block _ (lt_of_heap (unhide H1)) id).trans (unhide H1)
  have k2 := (g4.block _ (lt_of_heap (unhide H2')) id).trans (unhide H2')
  have k3 := (g4.block _ (lt_of_heap (unhide H3)) id).trans (unhide H3)
  have sz1 := lt_of_heap k1
  have sz2 := lt_of_heap k2
  have sz3 := lt_of_heap k3
  have HS1 := hide (lsame_any (w4.alloc (Obj.cells #[.int .i64 R2, .int .i64 S2, .slice ao4 n4 cap4] 53)) S1 S1 E1 ao1 ao2 n1 n2 cap1 cap2 l1 r1 r2)
  have HS2 := hide (fun W (q : Fr (fun _ => False) (w4.alloc (Obj.cells #[.int .i64 R2, .int .i64 S2, .slice ao4 n4 cap4] 53)) W) => lsame_any W R2 S2 E2 ao3 ao4 n3 n4 cap3 cap4 l2 (r3.kept q (fun _ _ h => h)) (r4.kept q (fun _ _ h => h)))
  have K3 := hide k3
  have K4 := hide h4
  have a0 := cell_of_heap k1 0
  have a1 := cell_of_heap k1 1
  have a2 := cell_of_heap k1 2
  have b0 := cell_of_heap k2 0
  have b1 := cell_of_heap k2 1
  have b2 := cell_of_heap k2 2
  simp only [List.getElem?_toArray, List.getElem?_cons_zero, List.getElem?_cons_succ] at a0 a1 a2 b0 b1 b2
  clear R4 f4 q4 h4 g4 F3 H1 H2' H3 HR1 HR2' HR3 r1 r2 r3 r4 k1 k2 k3 C1 C2 C3 C4
  go_wp2_with fail
  refine (unhide HS1).mono ?_
  rintro e w5 ⟨rfl, f5⟩
  have k3 := (f5.block _ (lt_of_heap (unhide K3)) id).trans (unhide K3)
  have k4 := (f5.block _ (lt_of_heap (unhide K4)) id).trans (unhide K4)
  have d0 := cell_of_heap k3 0
  have d1 := cell_of_heap k3 1
  have d2 := cell_of_heap k3 2
  have e0 := cell_of_heap k4 0
  have e1 := cell_of_heap k4 1
  have e2 := cell_of_heap k4 2
  simp only [List.getElem?_toArray, List.getElem?_cons_zero, List.getElem?_cons_succ] at d0 d1 d2 e0 e1 e2
  have HS3 := hide (unhide HS2 w5 f5)
  have F5 := hide ((unhide F4).trans f5 (fun _ _ h => h))
  clear k3 k4 f5 HS2 a0 a1 a2 b0 b1 b2 F4
  go_wp2_with fail
  refine (unhide HS3).mono ?_
  rintro e w6 ⟨rfl, f6⟩
  have F6 := hide ((unhide F5).trans f6 (fun _ _ h => h))
  clear f6 d0 d1 d2 e0 e1 e2 F5
  go_wp2_with fail
  refine (live_any _).mono ?_
  rintro e w7 ⟨rfl, f7⟩
  go_wp2_with fail
  go_ret
  exact ⟨rfl, (unhide F6).trans f7 (fun _ _ h => h)⟩

#print axioms makes_any
end Go.Proofs.Ytbbgfbjchlefeaa
