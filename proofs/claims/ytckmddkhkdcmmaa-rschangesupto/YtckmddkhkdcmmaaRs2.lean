/-
  The walks of package rs: coefficients, New, Data, Parity, Row.
-/
import Derived.Test.YtckmddkhkdcmmaaRs1
namespace Go.Proofs.Ytckmddkhkdcmmaa
open Go.RowKit
set_option linter.unusedVariables false

attribute [local go_sem ↓] Go.wp_at_zero Go.wp_at_succ

theorem co_inv {k i j : Nat} (h : ¬ i < k) (hj : j < k) (hi : i < 256) : (dv 1 (UInt8.ofNat i ^^^ UInt8.ofNat j)).1 = co k i j ∧ (dv 1 (UInt8.ofNat i ^^^ UInt8.ofNat j)).2 = 0 := by
  have hne : UInt8.ofNat i ^^^ UInt8.ofNat j ≠ 0 := by
    apply xor_ne
    intro e
    have := congrArg UInt8.toNat e
    rw [ofNat_toNat_lt hi, ofNat_toNat_lt (by omega)] at this
    omega
  unfold dv co
  rw [if_neg hne, if_neg h]
  exact ⟨rfl, rfl⟩

theorem byteV {i : Nat} (h : i < 256) : IntKind.u8.wrap (i : Int) = (((UInt8.ofNat i).toNat : Nat) : Int) := by
  rw [ofNat_toNat_lt h]
  have := wrap_u8 (UInt8.ofNat i)
  rwa [ofNat_toNat_lt h] at this

theorem rowL_data {k i : Nat} (h : i < k) : (List.replicate k (0 : UInt8)).set i 1 = rowL k i := by
  apply List.ext_getElem
  · simp [rowL]
  · intro j h1 h2
    rw [rowL_get, List.getElem_set]
    unfold co
    rw [if_pos h]
    simp

theorem rowL_step {k i j : Nat} (h : j < k) : ((rowL k i).take j ++ List.replicate (k - j) 0).set j (co k i j) = (rowL k i).take (j + 1) ++ List.replicate (k - (j + 1)) 0 := by
  have hl : ((rowL k i).take j).length = j := by rw [List.length_take, rowL_length]; omega
  rw [List.set_append_right _ _ (by omega), hl, Nat.sub_self, show k - j = (k - (j + 1)) + 1 by omega, List.replicate_succ, List.set_cons_zero, List.take_succ_eq_append_getElem (by rw [rowL_length]; exact h), rowL_get]
  simp

set_option maxHeartbeats 1000000 in
theorem coefficients_any (w : World) (i k : Nat) (hk : 1 ≤ k ∧ k ≤ 16) (hi : i ≤ 24) :
    Calls Try.prog 110 #[.int .i64 (i : Int), .int .i64 (k : Int)] w fun e w' => e = .returned (.slice (some ⟨w.heap.size, 0, none⟩) k k) ∧ BAt w' w.heap.size (rowL k i) ∧ Fr (fun _ => False) w w' := by
  obtain ⟨w1, hmk, hB1, hf1⟩ := mk_any w k (by omega)
  have HB := hide hB1
  have HF1 := hide hf1
  clear hB1 hf1
  by_cases hlt : i < k
  · have c1 := (unhide HB).cell i (by simpa using hlt)
    have z1 := (unhide HB).frozen i
    have HS := hide ((unhide HB).set i 1)
    rw [rowL_data hlt] at HS
    simp only [List.getElem_replicate] at c1
    go_enter Try.func110, Try.ntmps110
    go_wp2_with fail
    go_ret
    exact ⟨rfl, unhide HS, (unhide HF1).setCell (fun h => absurd h (by simp)) _⟩
  · go_enter Try.func110, Try.ntmps110
    go_wp2_with fail
    clear hmk
    go_loopw [17] (fun x w' => ∃ j : Nat, j ≤ k ∧ x = .int .i64 (j : Int) ∧ BAt w' w.heap.size ((rowL k i).take j ++ List.replicate (k - j) 0) ∧ Fr (fun _ => False) w w') (fun x _ => k - (intOf x).toNat)
    case atStart => exact ⟨0, by omega, rfl, by simpa using unhide HB, unhide HF1⟩
    case round =>
      clear HB
      obtain ⟨j, hj, rfl, hB, hf⟩ := hrel
      by_cases hjl : j < k
      · have hw1 := byteV (show i < 256 by omega)
        have hw2 := byteV (show j < 256 by omega)
        have hco := co_inv hlt hjl (by omega)
        have HI := hide (inv_any wr (UInt8.ofNat i ^^^ UInt8.ofNat j))
        rw [hco.1, hco.2] at HI
        have HB := hide hB
        have Hf := hide hf
        have hl : j < ((rowL k i).take j ++ List.replicate (k - j) 0).length := by rw [List.length_append, List.length_take, rowL_length, List.length_replicate]; omega
        have cq : ∀ W, Fr (fun _ => False) wr W → W.cell? ⟨w.heap.size, j, none⟩ = some (.int .u8 (((((rowL k i).take j ++ List.replicate (k - j) 0)[j]).toNat : Nat) : Int)) ∧ W.frozen? ⟨w.heap.size, j, none⟩ = false := fun W q => ⟨(hB.kept q id).cell j hl, (hB.kept q id).frozen j⟩
        generalize ((rowL k i).take j ++ List.replicate (k - j) 0)[j] = old at cq
        have HC := hide cq
        generalize UInt8.ofNat i = bi at *
        generalize UInt8.ofNat j = bj at *
        clear hB hf hco cq hl
        go_wp2_with (go_at_call 115; refine (add_any _ bi bj).mono ?_; rintro e w' ⟨rfl, rfl⟩)
        refine (unhide HI).mono ?_
        rintro e w2 ⟨rfl, f2⟩
        have q1 := (unhide HC w2 f2).1
        have q2 := (unhide HC w2 f2).2
        have F2 := hide f2
        clear f2
        go_wp2_with fail
        go_roundw
        case rel =>
          refine ⟨j + 1, by omega, by go_num, ?_, ((unhide Hf).trans (unhide F2) (fun _ _ h => h)).setCell (fun h => absurd h (by simp)) _⟩
          rw [← rowL_step hjl]
          exact ((unhide HB).kept (unhide F2) id).set j _
        case measure => simp [intOf]; omega
      · have hje : j = k := by omega
        subst hje
        have HB := hide hB
        have Hf := hide hf
        clear hB hf
        go_wp2_with fail
        go_ret
        have hB := unhide HB
        rw [Nat.sub_self, List.replicate_zero, List.append_nil, List.take_of_length_le (by rw [rowL_length]; omega)] at hB
        exact ⟨rfl, hB, unhide Hf⟩

/-- Are these a code's numbers? -/
def okB (k m : Int) : Bool := decide (1 ≤ k ∧ k ≤ 16 ∧ 0 ≤ m ∧ m ≤ 8)

theorem new_no (w : World) (k m : Int) (h : okB k m = false) : Calls Try.prog 88 #[.int .i64 k, .int .i64 m] w fun e w' => e = .returned (.tuple #[.pointer none, .int .i64 2]) ∧ w = w' := by
  have h' : ¬ (1 ≤ k ∧ k ≤ 16 ∧ 0 ≤ m ∧ m ≤ 8) := by simpa [okB] using h
  by_cases h1 : k < 1
  · have b1 : decide (k < 1) = true := by simpa using h1
    go_enter Try.func88, Try.ntmps88
    go_wp2
    go_ret2
    exact ⟨rfl, rfl⟩
  · have b1 : decide (k < 1) = false := by simpa using h1
    by_cases h2 : 16 < k
    · have b2 : decide (16 < k) = true := by simpa using h2
      go_enter Try.func88, Try.ntmps88
      go_wp2
      go_ret2
      exact ⟨rfl, rfl⟩
    · have b2 : decide (16 < k) = false := by simpa using h2
      by_cases h3 : m < 0
      · have b3 : decide (m < 0) = true := by simpa using h3
        go_enter Try.func88, Try.ntmps88
        go_wp2
        go_ret2
        exact ⟨rfl, rfl⟩
      · have b3 : decide (m < 0) = false := by simpa using h3
        have h4 : 8 < m := by omega
        have b4 : decide (8 < m) = true := by simpa using h4
        go_enter Try.func88, Try.ntmps88
        go_wp2
        go_ret2
        exact ⟨rfl, rfl⟩

theorem fl_row (k i : Nat) (hk : 1 ≤ k) : fl k (co k) ((i + 1) * k) = fl k (co k) (i * k) ++ rowL k i := by
  apply List.ext_getElem
  · rw [List.length_append, fl_length, fl_length, rowL_length, Nat.succ_mul]
  · intro j h1 h2
    rw [fl_length, Nat.succ_mul] at h1
    rw [fl_get]
    by_cases h : j < i * k
    · rw [List.getElem_append_left (by rw [fl_length]; exact h), fl_get]
    · rw [List.getElem_append_right (by rw [fl_length]; omega), rowL_get]
      obtain ⟨c, rfl⟩ : ∃ c, j = i * k + c := ⟨j - i * k, by omega⟩
      have hc : c < k := by omega
      have e : i * k + c - (fl k (co k) (i * k)).length = c := by rw [fl_length]; omega
      simp only [e]
      rw [Nat.mul_comm i k, Nat.mul_add_div (by omega), Nat.div_eq_of_lt hc, Nat.mul_add_mod, Nat.mod_eq_of_lt hc, Nat.add_zero]

theorem fl_copy (k i n : Nat) (hk : 1 ≤ k) (hi : (i + 1) * k ≤ n) :
    (fl k (co k) (i * k) ++ List.replicate (n - i * k) 0).take (i * k) ++ rowL k i ++ (fl k (co k) (i * k) ++ List.replicate (n - i * k) 0).drop (i * k + (rowL k i).length) = fl k (co k) ((i + 1) * k) ++ List.replicate (n - (i + 1) * k) 0 := by
  rw [Nat.succ_mul] at hi
  rw [fl_row k i hk, rowL_length, List.take_append_of_le_length (by rw [fl_length]; omega), List.take_of_length_le (by rw [fl_length]; omega), List.drop_append, fl_length, List.drop_of_length_le (by rw [fl_length]; omega), List.nil_append, List.drop_replicate, Nat.succ_mul]
  congr 2
  omega

set_option maxHeartbeats 1000000 in
set_option maxRecDepth 100000 in
theorem new_ok (w : World) (k m : Nat) (hk : 1 ≤ k ∧ k ≤ 16) (hm : m ≤ 8) : Calls Try.prog 88 #[.int .i64 (k : Int), .int .i64 (m : Int)] w fun e w' => (∃ p, e = .returned (.tuple #[.pointer (some ⟨p, 0, none⟩), .int .i64 0]) ∧ w.heap.size ≤ p ∧ CAt w' p k m) ∧ Fr (fun _ => False) w w' := by
  obtain ⟨n, hn⟩ : ∃ n, n = (k + m) * k := ⟨_, rfl⟩
  have hn1 : n ≤ 24 * 16 := by rw [hn]; exact Nat.mul_le_mul (by omega) hk.2
  have eN : ((k : Int) + (m : Int)) * (k : Int) = (n : Int) := by rw [hn]; simp
  obtain ⟨w1, hmk, hB1, hf1⟩ := mk_any w n (by omega)
  have hlt1 := lt_of_heap hB1
  have HB1 := hide hB1
  have HF1 := hide hf1
  have HN := hide hn
  clear hB1 hf1 hn
  go_enter Try.func88, Try.ntmps88
  go_wp2_with fail
  clear hmk eN
  go_loopw [35] (fun x w' => ∃ i : Nat, i ≤ k + m ∧ x = .int .i64 (i : Int) ∧ BAt w' w.heap.size (fl k (co k) (i * k) ++ List.replicate (n - i * k) 0) ∧ w'.heap[w1.heap.size]? = some (.cells #[.int .i64 (k : Int), .int .i64 (m : Int), .slice (some ⟨w.heap.size, 0, none⟩) n n] 117 (0, 0)) ∧ Fr (fun _ => False) w w') (fun x _ => k + m - (intOf x).toNat)
  case atStart =>
    refine ⟨0, by omega, rfl, ?_, heap_alloc_new w1 _, (unhide HF1).alloc _⟩
    have := (unhide HB1).kept ((Fr.refl (fun _ => False) w1).alloc (Obj.cells #[.int .i64 (k : Int), .int .i64 (m : Int), .slice (some ⟨w.heap.size, 0, none⟩) n n] 117)) id
    simpa [fl] using this
  case round =>
    obtain ⟨i, hi, rfl, hB, hp, hf⟩ := hrel
    by_cases hlt : i < k + m
    · have hle : (i + 1) * k ≤ n := by rw [unhide HN]; exact Nat.mul_le_mul_right _ hlt
      have HR := hide (row_raw wr w1.heap.size w.heap.size k m i n hp (by omega) hk hle (by omega))
      have HB := hide hB
      have HP := hide hp
      have Hf := hide hf
      clear hB hp hf
      go_wp2_with fail
      refine (unhide HR).mono ?_
      rintro e w2 ⟨rfl, j, rfl⟩
      go_wp2_with fail
      refine (coefficients_any _ i k hk (by omega)).mono ?_
      rintro e w3 ⟨rfl, hB3, hf3⟩
      have q3 : Fr (fun _ => False) wr w3 := (Fr.ofDrewN (S := fun _ => False) wr j).trans hf3 (fun _ _ h => h)
      have hB4 := (unhide HB).kept q3 id
      have hr3 : Rd w3 (.slice (some ⟨wr.heap.size, 0, none⟩) k k) (rowL k i) := by
        have := hB3.rd (by rw [rowL_length]; simp only [maxLen]; omega)
        rwa [rowL_length, show (wr.drewN j).heap.size = wr.heap.size by simp] at this
      obtain ⟨w4, hcp, hB5, hf5⟩ := copy_any w3 w.heap.size (i * k) k k _ _ _ hB4 hr3 (by rw [rowL_length]; omega) (by rw [List.length_append, fl_length, List.length_replicate]; rw [Nat.succ_mul] at hle; omega)
      rw [fl_copy k i n hk.1 hle] at hB5
      have q4 : Fr (fun b => b = w.heap.size) wr w4 := (q3.mono (fun _ _ h => h.elim)).trans hf5 (fun _ _ h => h)
      have HB5 := hide hB5
      have Q4 := hide q4
      clear hB3 hf3 q3 hB4 hr3 hB5 hf5 q4
      go_wp2_with fail
      clear hcp
      go_roundw
      case rel =>
        refine ⟨i + 1, by omega, by go_num, unhide HB5, ?_, (unhide Hf).trans (unhide Q4) (fun b hb h => by omega)⟩
        rw [(unhide Q4).block _ (lt_of_heap (unhide HP)) (by omega)]
        exact unhide HP
      case measure => simp [intOf]; omega
    · have hie : i = k + m := by omega
      subst hie
      have HB := hide hB
      have HP := hide hp
      have Hf := hide hf
      clear hB hp hf
      go_wp2_with fail
      go_ret2
      have hB := unhide HB
      have hp := unhide HP
      rw [← unhide HN, Nat.sub_self, List.replicate_zero, List.append_nil, unhide HN] at hB
      rw [unhide HN] at hp
      refine ⟨⟨w1.heap.size, rfl, by omega, ⟨_, hp, hB⟩, hk, hm⟩, unhide Hf⟩

theorem data_any (w : World) (p k m : Nat) (h : CAt w p k m) : Calls Try.prog 39 #[.pointer (some ⟨p, 0, none⟩)] w fun e w' => e = .returned (.int .i64 (k : Int)) ∧ w = w' := by
  obtain ⟨q, h1, -⟩ := h.ex
  have c0 := cell_of_heap h1 0
  simp at c0
  clear h h1
  go_enter Try.func39, Try.ntmps39
  go_wp2
  go_ret
  exact ⟨rfl, rfl⟩

theorem parity_any (w : World) (p k m : Nat) (h : CAt w p k m) : Calls Try.prog 40 #[.pointer (some ⟨p, 0, none⟩)] w fun e w' => e = .returned (.int .i64 (m : Int)) ∧ w = w' := by
  obtain ⟨q, h1, -⟩ := h.ex
  have c0 := cell_of_heap h1 1
  simp at c0
  clear h h1
  go_enter Try.func40, Try.ntmps40
  go_wp2
  go_ret
  exact ⟨rfl, rfl⟩

theorem data_nil (w : World) : Calls Try.prog 39 #[.pointer none] w fun e w' => e = .returned (.int .i64 0) ∧ w = w' := by
  go_enter Try.func39, Try.ntmps39
  go_wp2
  go_ret
  exact ⟨rfl, rfl⟩

theorem parity_nil (w : World) : Calls Try.prog 40 #[.pointer none] w fun e w' => e = .returned (.int .i64 0) ∧ w = w' := by
  go_enter Try.func40, Try.ntmps40
  go_wp2
  go_ret
  exact ⟨rfl, rfl⟩

end Go.Proofs.Ytckmddkhkdcmmaa
