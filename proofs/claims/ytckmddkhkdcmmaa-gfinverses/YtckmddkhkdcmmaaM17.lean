/-
  The walks of package gf's Identity and Powers, and of the document's own.
-/
import Derived.Test.YtckmddkhkdcmmaaM04
namespace Go.Proofs.Ytckmddkhkdcmmaa
set_option linter.unusedVariables false
set_option linter.unusedSimpArgs false
open Go.RowKit
set_option linter.unusedVariables false

attribute [local go_sem ↓] Go.wp_at_zero Go.wp_at_succ

/-- A matrix of zeros, by the document. -/
theorem rnew_any (w : World) (rows cols : Nat) (h1 : rows ≤ 64) (h2 : cols ≤ 64) :
    Calls Try.prog 71 #[.int .i64 (rows : Int), .int .i64 (cols : Int)] w fun e w' =>
      e = .returned (.agg #[.int .i64 (rows : Int), .int .i64 (cols : Int), .slice (some ⟨w.heap.size + 1, 0, none⟩) (rows * cols) (rows * cols)]) ∧ BAt w' (w.heap.size + 1) (List.replicate (rows * cols) 0) ∧ Fr (fun _ => False) w w' := by
  obtain ⟨n, hn⟩ : ∃ n, n = rows * cols := ⟨_, rfl⟩
  have hN : (rows : Int) * (cols : Int) = (n : Int) := by rw [hn]; simp
  have hn1 : n ≤ 4096 := by rw [hn]; exact Nat.mul_le_mul h1 h2
  have hmk := run_make5 n (by omega)
  rw [← hn]
  clear hn
  go_enter Try.func71, Try.ntmps71
  go_wp2_with fail
  have f := ((Fr.refl (fun _ => False) w).alloc (Obj.cells #[.int .i64 (rows : Int), .int .i64 (cols : Int), .slice (some ⟨w.heap.size + 1, 0, none⟩) n n] 24)).alloc (Obj.cells (bvs (List.replicate n 0)).toArray 5)
  have hB : BAt ((w.alloc (Obj.cells #[.int .i64 (rows : Int), .int .i64 (cols : Int), .slice (some ⟨w.heap.size + 1, 0, none⟩) n n] 24)).alloc (Obj.cells (bvs (List.replicate n 0)).toArray 5)) (w.heap.size + 1) (List.replicate n 0) := by
    have := heap_alloc_new (w.alloc (Obj.cells #[.int .i64 (rows : Int), .int .i64 (cols : Int), .slice (some ⟨w.heap.size + 1, 0, none⟩) n n] 24)) (Obj.cells (bvs (List.replicate n 0)).toArray 5)
    simpa [BAt] using this
  refine bodyPost_ret (v := .agg #[.int .i64 (rows : Int), .int .i64 (cols : Int), .slice (some ⟨w.heap.size + 1, 0, none⟩) n n]) (by simp [results, Try.results71, go_sem]) rfl ⟨rfl, hB, f⟩

/-- What an identity is: its side, its cells, the error. -/
def idS (n : Int) : Int := if sideB n = true then n else 0
def idL (n : Int) : List UInt8 := if sideB n = true then fl n.toNat eyeC (n.toNat * n.toNat) else []
def idE (n : Int) : Int := if sideB n = true then 0 else 2

/-- The identity under way: the first k ones are laid. -/
def eyeK (k r c : Nat) : UInt8 := if r = c ∧ r < k then 1 else 0

theorem eyeK_zero (n : Nat) : fl n (eyeK 0) (n * n) = List.replicate (n * n) 0 := by
  apply List.ext_getElem
  · simp [fl]
  · intro i h1 h2
    rw [fl_get]; simp [eyeK]

theorem eyeK_step (n k : Nat) (hk : k < n) : (fl n (eyeK k) (n * n)).set (k * n + k) 1 = fl n (eyeK (k + 1)) (n * n) := by
  apply List.ext_getElem
  · simp [fl]
  · intro i h1 h2
    rw [List.getElem_set, fl_get, fl_get]
    have hd := Nat.div_add_mod i n
    have hm := Nat.mod_lt i (show 0 < n by omega)
    by_cases e : k * n + k = i
    · rw [if_pos e]
      have e1 : i / n = k := by rw [← e, Nat.mul_comm, Nat.mul_add_div (by omega), Nat.div_eq_of_lt hk]; omega
      have e2 : i % n = k := by rw [← e, Nat.mul_comm, Nat.mul_add_mod, Nat.mod_eq_of_lt hk]
      simp [eyeK, e1, e2]
    · rw [if_neg e]
      unfold eyeK
      by_cases e1 : i / n = i % n
      · have e2 : i / n ≠ k := by
          intro e2
          rw [e2] at hd
          rw [← e1, e2, Nat.mul_comm] at hd
          exact e hd
        by_cases e3 : i / n < k
        · rw [if_pos ⟨e1, e3⟩, if_pos ⟨e1, by omega⟩]
        · rw [if_neg (fun h => e3 h.2), if_neg (fun h => e3 (by omega))]
      · rw [if_neg (fun h => e1 h.1), if_neg (fun h => e1 h.1)]

theorem eyeK_end (n : Nat) : fl n (eyeK n) (n * n) = fl n eyeC (n * n) := by
  apply List.ext_getElem
  · simp [fl]
  · intro i h1 h2
    rw [fl_get, fl_get]
    have hi : i < n * n := by simpa [fl] using h1
    have : i / n < n := Nat.div_lt_of_lt_mul hi
    unfold eyeK eyeC
    by_cases e : i / n = i % n
    · rw [if_pos ⟨e, this⟩, if_pos e]
    · rw [if_neg (fun h => e h.1), if_neg e]

set_option maxHeartbeats 1000000 in
theorem ridentity_any (w : World) (n : Int) : Calls Try.prog 36 #[.int .i64 n] w fun e w' => (∃ ao l cap, e = .returned (.tuple #[.agg #[.int .i64 (idS n), .int .i64 (idS n), .slice ao l cap], .int .i64 (idE n)]) ∧ Rd w' (.slice ao l cap) (idL n)) ∧ Fr (fun _ => False) w w' := by
  by_cases h : sideB n = true
  · have hs := side_le h
    obtain ⟨k, rfl⟩ : ∃ k : Nat, n = (k : Int) := ⟨n.toNat, by omega⟩
    have e1 : idS (k : Int) = (k : Int) := by unfold idS; rw [if_pos h]
    have e2 : idE (k : Int) = 0 := by unfold idE; rw [if_pos h]
    have e3 : idL (k : Int) = fl k eyeC (k * k) := by unfold idL; rw [if_pos h, Int.toNat_natCast]
    rw [e1, e2, e3]
    have d1 : decide ((k : Int) < 1) = false := by simp; omega
    have d2 : decide (64 < (k : Int)) = false := by simp; omega
    have HN := hide (rnew_any (w.alloc (Obj.cells #[.int .i64 0, .int .i64 0, .slice none 0 0] 24)) k k (by omega) (by omega))
    have hsz : (w.alloc (Obj.cells #[.int .i64 0, .int .i64 0, .slice none 0 0] 24)).heap.size = w.heap.size + 1 := by simp
    rw [hsz] at HN
    have hk2 : k * k ≤ 64 * 64 := Nat.mul_le_mul (by omega) (by omega)
    obtain ⟨kk, hkk⟩ : ∃ kk, kk = k * k := ⟨_, rfl⟩
    rw [← hkk] at HN ⊢
    have HKK := hide hkk
    rw [← hkk] at hk2
    clear e1 e2 e3 hsz hkk h
    go_enter Try.func36, Try.ntmps36
    go_wp2_with fail
    refine (unhide HN).mono ?_
    rintro e w1 ⟨rfl, B1, f1⟩
    have hp0 := heap_alloc_new w (Obj.cells #[.int .i64 0, .int .i64 0, .slice none 0 0] 24)
    have hp1 := (f1.block _ (lt_of_heap hp0) id).trans hp0
    have F1 := ((Fr.refl (fun _ => False) w).alloc (Obj.cells #[.int .i64 0, .int .i64 0, .slice none 0 0] 24)).trans f1 (fun _ _ h => h)
    have hb1 := lt_of_heap B1
    have fA : Fr (fun _ => False) w1 (w1.alloc (Obj.cells #[.int .i64 (k : Int), .int .i64 (k : Int), .slice (some ⟨w.heap.size + 1 + 1, 0, none⟩) kk kk] 24)) := (Fr.refl _ _).alloc _
    have hm := heap_alloc_new w1 (Obj.cells #[.int .i64 (k : Int), .int .i64 (k : Int), .slice (some ⟨w.heap.size + 1 + 1, 0, none⟩) kk kk] 24)
    have hp2 := (fA.block _ (lt_of_heap hp1) id).trans hp1
    have B2 := B1.kept fA id
    have F2 := F1.trans fA (fun _ _ h => h)
    have HM := hide hm
    have HP := hide hp2
    have HB := hide B2
    have HF := hide F2
    clear B1 f1 hp0 hp1 F1 fA hm hp2 B2 F2
    go_wp2_with fail
    generalize hW2 : w1.alloc (Obj.cells #[.int .i64 (k : Int), .int .i64 (k : Int), .slice (some ⟨w.heap.size + 1 + 1, 0, none⟩) kk kk] 24) = w2 at *
    clear hW2
    go_loopw [5] (fun i w' => ∃ j : Nat, j ≤ k ∧ i = .int .i64 (j : Int) ∧ BAt w' (w.heap.size + 1 + 1) (fl k (eyeK j) kk) ∧ Fr (fun x => x = w.heap.size + 1 + 1) w2 w') (fun i _ => k - (intOf i).toNat)
    case atStart => exact ⟨0, by omega, rfl, by rw [unhide HKK, eyeK_zero, ← unhide HKK]; exact unhide HB, Fr.refl _ _⟩
    case round =>
      obtain ⟨j, hj, rfl, hB, hf⟩ := hrel
      have hm := (hf.block _ (lt_of_heap (unhide HM)) (by omega)).trans (unhide HM)
      have c0 := cell_of_heap hm 0
      have c1 := cell_of_heap hm 1
      have c2 := cell_of_heap hm 2
      simp at c0 c1 c2
      by_cases hlt : j < k
      · obtain ⟨jk, hjk⟩ : ∃ jk, jk = j * k := ⟨_, rfl⟩
        have e1 : (j : Int) * (k : Int) = (jk : Int) := by rw [hjk]; simp
        have hix : jk + j < kk := by rw [hjk, unhide HKK]; exact mul_step hlt hlt
        have hfl : (fl k (eyeK j) kk).length = kk := fl_length _ _ _
        have cq := hB.cell (jk + j) (by omega)
        have fq := hB.frozen (jk + j)
        generalize (fl k (eyeK j) kk)[jk + j]'(by omega) = old at cq
        have HS : Hid ((fl k (eyeK j) kk).set (jk + j) 1 = fl k (eyeK (j + 1)) kk) := by
          rw [unhide HKK, hjk]; exact eyeK_step k j hlt
        have HB2 := hide hB
        have Hf := hide hf
        clear hB hf hm hjk hfl
        go_wp2_with fail
        go_roundw
        case rel =>
          refine ⟨j + 1, by omega, by go_num, ?_, (unhide Hf).setCell (fun _ => rfl) _⟩
          rw [← unhide HS]
          exact (unhide HB2).set _ 1
        case measure => simp [intOf]; omega
      · have hje : j = k := by omega
        subst hje
        have hp := (hf.block _ (lt_of_heap (unhide HP)) (by omega)).trans (unhide HP)
        have g0 := cell_of_heap hp 0
        have g1 := cell_of_heap hp 1
        have g2 := cell_of_heap hp 2
        have z0 := frozen_of_heap hp
        simp at g0 g1 g2
        have HB2 := hide hB
        have Hf := hide hf
        clear hB hf hm hp
        go_wp2_with fail
        have f3 := fr_three wr w.heap.size (.int .i64 (j : Int)) (.int .i64 (j : Int)) (.slice (some ⟨w.heap.size + 1 + 1, 0, none⟩) kk kk)
        refine bodyPost_ret (v := .tuple #[.agg #[.int .i64 (j : Int), .int .i64 (j : Int), .slice (some ⟨w.heap.size + 1 + 1, 0, none⟩) kk kk], .int .i64 0]) (by simp [results, Try.results36, go_sem, g0, g1, g2]) rfl ⟨⟨_, _, _, rfl, ?_⟩, ((unhide HF).trans (unhide Hf) (fun i hi h => by omega)).trans f3 (fun i hi h => by omega)⟩
        have hB := (unhide HB2).kept f3 (by omega)
        rw [unhide HKK, eyeK_end, ← unhide HKK] at hB
        have hl : (fl j eyeC kk).length = kk := fl_length _ _ _
        have := hB.rd (by rw [hl]; unfold maxLen; omega)
        rw [hl] at this
        exact this
  · have e1 : idS n = 0 := by unfold idS; rw [if_neg h]
    have e2 : idE n = 2 := by unfold idE; rw [if_neg h]
    have e3 : idL n = [] := by unfold idL; rw [if_neg h]
    rw [e1, e2, e3]
    clear e1 e2 e3
    have f := (Fr.refl (fun _ => False) w).alloc (Obj.cells #[.int .i64 0, .int .i64 0, .slice none 0 0] 24)
    have F := hide f
    clear f
    by_cases h1 : n < 1
    · clear h
      go_enter Try.func36, Try.ntmps36
      go_wp2_with fail
      refine bodyPost_ret (v := .tuple #[.agg #[.int .i64 0, .int .i64 0, .slice none 0 0], .int .i64 2]) (by simp [results, Try.results36, go_sem]) rfl ⟨⟨_, _, _, rfl, Rd.nil _⟩, unhide F⟩
    · have h2 : 64 < n := by
        have : ¬ (1 ≤ n ∧ n ≤ 64) := by simpa [sideB] using h
        omega
      have d1 : decide (n < 1) = false := by simpa using h1
      clear h
      go_enter Try.func36, Try.ntmps36
      go_wp2_with fail
      refine bodyPost_ret (v := .tuple #[.agg #[.int .i64 0, .int .i64 0, .slice none 0 0], .int .i64 2]) (by simp [results, Try.results36, go_sem]) rfl ⟨⟨_, _, _, rfl, Rd.nil _⟩, unhide F⟩

end Go.Proofs.Ytckmddkhkdcmmaa
