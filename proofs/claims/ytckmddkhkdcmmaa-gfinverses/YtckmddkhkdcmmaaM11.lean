/-
  The walks of package rs: coefficients, New, Data, Parity, Row.
  The walks of package rs's Row, of the document's New and Row, and of the laws' both.
  The walks of package rs: lengths of shards, sums of shards; the document's Row.
-/
import Derived.Test.YtckmddkhkdcmmaaM10
namespace Go.Proofs.Ytckmddkhkdcmmaa
set_option linter.unusedVariables false
set_option linter.unusedSimpArgs false
open Go.RowKit
set_option linter.unusedVariables false

attribute [local go_sem ↓] Go.wp_at_zero Go.wp_at_succ

theorem co_inv {k i j : Nat} (h : ¬ i < k) (hj : j < k) (hi : i < 256) : (dv 1 (UInt8.ofNat i ^^^ UInt8.ofNat j)).1 = co k i j ∧ (dv 1 (UInt8.ofNat i ^^^ UInt8.ofNat j)).2 = 0 := by
  have hne : UInt8.ofNat i ^^^ UInt8.ofNat j ≠ 0 := by
    apply xor_ne
    intro e
    have := congrArg UInt8.toNat e
    rw [ofNat_toNat_lt hi, ofNat_toNat_lt (by omega)] at this
    omega
  unfold dv co
  rw [if_neg hne, if_neg h]
  exact ⟨rfl, rfl⟩

theorem byteV {i : Nat} (h : i < 256) : IntKind.u8.wrap (i : Int) = (((UInt8.ofNat i).toNat : Nat) : Int) := by
  rw [ofNat_toNat_lt h]
  have := wrap_u8 (UInt8.ofNat i)
  rwa [ofNat_toNat_lt h] at this

theorem rowL_data {k i : Nat} (h : i < k) : (List.replicate k (0 : UInt8)).set i 1 = rowL k i := by
  apply List.ext_getElem
  · simp [rowL]
  · intro j h1 h2
    rw [rowL_get, List.getElem_set]
    unfold co
    rw [if_pos h]
    simp

theorem rowL_step {k i j : Nat} (h : j < k) : ((rowL k i).take j ++ List.replicate (k - j) 0).set j (co k i j) = (rowL k i).take (j + 1) ++ List.replicate (k - (j + 1)) 0 := by
  have hl : ((rowL k i).take j).length = j := by rw [List.length_take, rowL_length]; omega
  rw [List.set_append_right _ _ (by omega), hl, Nat.sub_self, show k - j = (k - (j + 1)) + 1 by omega, List.replicate_succ, List.set_cons_zero, List.take_succ_eq_append_getElem (by rw [rowL_length]; exact h), rowL_get]
  simp

set_option maxHeartbeats 1000000 in
theorem coefficients_any (w : World) (i k : Nat) (hk : 1 ≤ k ∧ k ≤ 16) (hi : i ≤ 24) :
    Calls Try.prog 110 #[.int .i64 (i : Int), .int .i64 (k : Int)] w fun e w' => e = .returned (.slice (some ⟨w.heap.size, 0, none⟩) k k) ∧ BAt w' w.heap.size (rowL k i) ∧ Fr (fun _ => False) w w' := by
  obtain ⟨w1, hmk, hB1, hf1⟩ := mk_any w k (by omega)
  have HB := hide hB1
  have HF1 := hide hf1
  clear hB1 hf1
  by_cases hlt : i < k
  · have c1 := (unhide HB).cell i (by simpa using hlt)
    have z1 := (unhide HB).frozen i
    have HS := hide ((unhide HB).set i 1)
    rw [rowL_data hlt] at HS
    simp only [List.getElem_replicate] at c1
    go_enter Try.func110, Try.ntmps110
    go_wp2_with fail
    go_ret
    exact ⟨rfl, unhide HS, (unhide HF1).setCell (fun h => absurd h (by simp)) _⟩
  · go_enter Try.func110, Try.ntmps110
    go_wp2_with fail
    clear hmk
    go_loopw [17] (fun x w' => ∃ j : Nat, j ≤ k ∧ x = .int .i64 (j : Int) ∧ BAt w' w.heap.size ((rowL k i).take j ++ List.replicate (k - j) 0) ∧ Fr (fun _ => False) w w') (fun x _ => k - (intOf x).toNat)
    case atStart => exact ⟨0, by omega, rfl, by simpa using unhide HB, unhide HF1⟩
    case round =>
      clear HB
      obtain ⟨j, hj, rfl, hB, hf⟩ := hrel
      by_cases hjl : j < k
      · have hw1 := byteV (show i < 256 by omega)
        have hw2 := byteV (show j < 256 by omega)
        have hco := co_inv hlt hjl (by omega)
        have HI := hide (inv_any wr (UInt8.ofNat i ^^^ UInt8.ofNat j))
        rw [hco.1, hco.2] at HI
        have HB := hide hB
        have Hf := hide hf
        have hl : j < ((rowL k i).take j ++ List.replicate (k - j) 0).length := by rw [List.length_append, List.length_take, rowL_length, List.length_replicate]; omega
        have cq : ∀ W, Fr (fun _ => False) wr W → W.cell? ⟨w.heap.size, j, none⟩ = some (.int .u8 (((((rowL k i).take j ++ List.replicate (k - j) 0)[j]).toNat : Nat) : Int)) ∧ W.frozen? ⟨w.heap.size, j, none⟩ = false := fun W q => ⟨(hB.kept q id).cell j hl, (hB.kept q id).frozen j⟩
        generalize ((rowL k i).take j ++ List.replicate (k - j) 0)[j] = old at cq
        have HC := hide cq
        generalize UInt8.ofNat i = bi at *
        generalize UInt8.ofNat j = bj at *
        clear hB hf hco cq hl
        go_wp2_with (go_at_call 115; refine (add_any _ bi bj).mono ?_; rintro e w' ⟨rfl, rfl⟩)
        refine (unhide HI).mono ?_
        rintro e w2 ⟨rfl, f2⟩
        have q1 := (unhide HC w2 f2).1
        have q2 := (unhide HC w2 f2).2
        have F2 := hide f2
        clear f2
        go_wp2_with fail
        go_roundw
        case rel =>
          refine ⟨j + 1, by omega, by go_num, ?_, ((unhide Hf).trans (unhide F2) (fun _ _ h => h)).setCell (fun h => absurd h (by simp)) _⟩
          rw [← rowL_step hjl]
          exact ((unhide HB).kept (unhide F2) id).set j _
        case measure => simp [intOf]; omega
      · have hje : j = k := by omega
        subst hje
        have HB := hide hB
        have Hf := hide hf
        clear hB hf
        go_wp2_with fail
        go_ret
        have hB := unhide HB
        rw [Nat.sub_self, List.replicate_zero, List.append_nil, List.take_of_length_le (by rw [rowL_length]; omega)] at hB
        exact ⟨rfl, hB, unhide Hf⟩

/-- Are these a code's numbers? -/
def okB (k m : Int) : Bool := decide (1 ≤ k ∧ k ≤ 16 ∧ 0 ≤ m ∧ m ≤ 8)

theorem new_no (w : World) (k m : Int) (h : okB k m = false) : Calls Try.prog 88 #[.int .i64 k, .int .i64 m] w fun e w' => e = .returned (.tuple #[.pointer none, .int .i64 2]) ∧ w = w' := by
  have h' : ¬ (1 ≤ k ∧ k ≤ 16 ∧ 0 ≤ m ∧ m ≤ 8) := by simpa [okB] using h
  by_cases h1 : k < 1
  · have b1 : decide (k < 1) = true := by simpa using h1
    go_enter Try.func88, Try.ntmps88
    go_wp2
    go_ret2
    exact ⟨rfl, rfl⟩
  · have b1 : decide (k < 1) = false := by simpa using h1
    by_cases h2 : 16 < k
    · have b2 : decide (16 < k) = true := by simpa using h2
      go_enter Try.func88, Try.ntmps88
      go_wp2
      go_ret2
      exact ⟨rfl, rfl⟩
    · have b2 : decide (16 < k) = false := by simpa using h2
      by_cases h3 : m < 0
      · have b3 : decide (m < 0) = true := by simpa using h3
        go_enter Try.func88, Try.ntmps88
        go_wp2
        go_ret2
        exact ⟨rfl, rfl⟩
      · have b3 : decide (m < 0) = false := by simpa using h3
        have h4 : 8 < m := by omega
        have b4 : decide (8 < m) = true := by simpa using h4
        go_enter Try.func88, Try.ntmps88
        go_wp2
        go_ret2
        exact ⟨rfl, rfl⟩

theorem fl_row (k i : Nat) (hk : 1 ≤ k) : fl k (co k) ((i + 1) * k) = fl k (co k) (i * k) ++ rowL k i := by
  apply List.ext_getElem
  · rw [List.length_append, fl_length, fl_length, rowL_length, Nat.succ_mul]
  · intro j h1 h2
    rw [fl_length, Nat.succ_mul] at h1
    rw [fl_get]
    by_cases h : j < i * k
    · rw [List.getElem_append_left (by rw [fl_length]; exact h), fl_get]
    · rw [List.getElem_append_right (by rw [fl_length]; omega), rowL_get]
      obtain ⟨c, rfl⟩ : ∃ c, j = i * k + c := ⟨j - i * k, by omega⟩
      have hc : c < k := by omega
      have e : i * k + c - (fl k (co k) (i * k)).length = c := by rw [fl_length]; omega
      simp only [e]
      rw [Nat.mul_comm i k, Nat.mul_add_div (by omega), Nat.div_eq_of_lt hc, Nat.mul_add_mod, Nat.mod_eq_of_lt hc, Nat.add_zero]

theorem fl_copy (k i n : Nat) (hk : 1 ≤ k) (hi : (i + 1) * k ≤ n) :
    (fl k (co k) (i * k) ++ List.replicate (n - i * k) 0).take (i * k) ++ rowL k i ++ (fl k (co k) (i * k) ++ List.replicate (n - i * k) 0).drop (i * k + (rowL k i).length) = fl k (co k) ((i + 1) * k) ++ List.replicate (n - (i + 1) * k) 0 := by
  rw [Nat.succ_mul] at hi
  rw [fl_row k i hk, rowL_length, List.take_append_of_le_length (by rw [fl_length]; omega), List.take_of_length_le (by rw [fl_length]; omega), List.drop_append, fl_length, List.drop_of_length_le (by rw [fl_length]; omega), List.nil_append, List.drop_replicate, Nat.succ_mul]
  congr 2
  omega

set_option maxHeartbeats 1000000 in
set_option maxRecDepth 100000 in
theorem new_ok (w : World) (k m : Nat) (hk : 1 ≤ k ∧ k ≤ 16) (hm : m ≤ 8) : Calls Try.prog 88 #[.int .i64 (k : Int), .int .i64 (m : Int)] w fun e w' => (∃ p, e = .returned (.tuple #[.pointer (some ⟨p, 0, none⟩), .int .i64 0]) ∧ w.heap.size ≤ p ∧ CAt w' p k m) ∧ Fr (fun _ => False) w w' := by
  obtain ⟨n, hn⟩ : ∃ n, n = (k + m) * k := ⟨_, rfl⟩
  have hn1 : n ≤ 24 * 16 := by rw [hn]; exact Nat.mul_le_mul (by omega) hk.2
  have eN : ((k : Int) + (m : Int)) * (k : Int) = (n : Int) := by rw [hn]; simp
  obtain ⟨w1, hmk, hB1, hf1⟩ := mk_any w n (by omega)
  have hlt1 := lt_of_heap hB1
  have HB1 := hide hB1
  have HF1 := hide hf1
  have HN := hide hn
  clear hB1 hf1 hn
  go_enter Try.func88, Try.ntmps88
  go_wp2_with fail
  clear hmk eN
  go_loopw [35] (fun x w' => ∃ i : Nat, i ≤ k + m ∧ x = .int .i64 (i : Int) ∧ BAt w' w.heap.size (fl k (co k) (i * k) ++ List.replicate (n - i * k) 0) ∧ w'.heap[w1.heap.size]? = some (.cells #[.int .i64 (k : Int), .int .i64 (m : Int), .slice (some ⟨w.heap.size, 0, none⟩) n n] 117 (0, 0)) ∧ Fr (fun _ => False) w w') (fun x _ => k + m - (intOf x).toNat)
  case atStart =>
    refine ⟨0, by omega, rfl, ?_, heap_alloc_new w1 _, (unhide HF1).alloc _⟩
    have := (unhide HB1).kept ((Fr.refl (fun _ => False) w1).alloc (Obj.cells #[.int .i64 (k : Int), .int .i64 (m : Int), .slice (some ⟨w.heap.size, 0, none⟩) n n] 117)) id
    simpa [fl] using this
  case round =>
    obtain ⟨i, hi, rfl, hB, hp, hf⟩ := hrel
    by_cases hlt : i < k + m
    · have hle : (i + 1) * k ≤ n := by rw [unhide HN]; exact Nat.mul_le_mul_right _ hlt
      have HR := hide (row_raw wr w1.heap.size w.heap.size k m i n hp (by omega) hk hle (by omega))
      have HB := hide hB
      have HP := hide hp
      have Hf := hide hf
      clear hB hp hf
      go_wp2_with fail
      refine (unhide HR).mono ?_
      rintro e w2 ⟨rfl, j, rfl⟩
      go_wp2_with fail
      refine (coefficients_any _ i k hk (by omega)).mono ?_
      rintro e w3 ⟨rfl, hB3, hf3⟩
      have q3 : Fr (fun _ => False) wr w3 := (Fr.ofDrewN (S := fun _ => False) wr j).trans hf3 (fun _ _ h => h)
      have hB4 := (unhide HB).kept q3 id
      have hr3 : Rd w3 (.slice (some ⟨wr.heap.size, 0, none⟩) k k) (rowL k i) := by
        have := hB3.rd (by rw [rowL_length]; simp only [maxLen]; omega)
        rwa [rowL_length, show (wr.drewN j).heap.size = wr.heap.size by simp] at this
      obtain ⟨w4, hcp, hB5, hf5⟩ := copy_any w3 w.heap.size (i * k) k k _ _ _ hB4 hr3 (by rw [rowL_length]; omega) (by rw [List.length_append, fl_length, List.length_replicate]; rw [Nat.succ_mul] at hle; omega)
      rw [fl_copy k i n hk.1 hle] at hB5
      have q4 : Fr (fun b => b = w.heap.size) wr w4 := (q3.mono (fun _ _ h => h.elim)).trans hf5 (fun _ _ h => h)
      have HB5 := hide hB5
      have Q4 := hide q4
      clear hB3 hf3 q3 hB4 hr3 hB5 hf5 q4
      go_wp2_with fail
      clear hcp
      go_roundw
      case rel =>
        refine ⟨i + 1, by omega, by go_num, unhide HB5, ?_, (unhide Hf).trans (unhide Q4) (fun b hb h => by omega)⟩
        rw [(unhide Q4).block _ (lt_of_heap (unhide HP)) (by omega)]
        exact unhide HP
      case measure => simp [intOf]; omega
    · have hie : i = k + m := by omega
      subst hie
      have HB := hide hB
      have HP := hide hp
      have Hf := hide hf
      clear hB hp hf
      go_wp2_with fail
      go_ret2
      have hB := unhide HB
      have hp := unhide HP
      rw [← unhide HN, Nat.sub_self, List.replicate_zero, List.append_nil, unhide HN] at hB
      rw [unhide HN] at hp
      refine ⟨⟨w1.heap.size, rfl, by omega, ⟨_, hp, hB⟩, hk, hm⟩, unhide Hf⟩

theorem data_any (w : World) (p k m : Nat) (h : CAt w p k m) : Calls Try.prog 39 #[.pointer (some ⟨p, 0, none⟩)] w fun e w' => e = .returned (.int .i64 (k : Int)) ∧ w = w' := by
  obtain ⟨q, h1, -⟩ := h.ex
  have c0 := cell_of_heap h1 0
  simp at c0
  clear h h1
  go_enter Try.func39, Try.ntmps39
  go_wp2
  go_ret
  exact ⟨rfl, rfl⟩

theorem parity_any (w : World) (p k m : Nat) (h : CAt w p k m) : Calls Try.prog 40 #[.pointer (some ⟨p, 0, none⟩)] w fun e w' => e = .returned (.int .i64 (m : Int)) ∧ w = w' := by
  obtain ⟨q, h1, -⟩ := h.ex
  have c0 := cell_of_heap h1 1
  simp at c0
  clear h h1
  go_enter Try.func40, Try.ntmps40
  go_wp2
  go_ret
  exact ⟨rfl, rfl⟩

theorem data_nil (w : World) : Calls Try.prog 39 #[.pointer none] w fun e w' => e = .returned (.int .i64 0) ∧ w = w' := by
  go_enter Try.func39, Try.ntmps39
  go_wp2
  go_ret
  exact ⟨rfl, rfl⟩

theorem parity_nil (w : World) : Calls Try.prog 40 #[.pointer none] w fun e w' => e = .returned (.int .i64 0) ∧ w = w' := by
  go_enter Try.func40, Try.ntmps40
  go_wp2
  go_ret
  exact ⟨rfl, rfl⟩

end Go.Proofs.Ytckmddkhkdcmmaa

namespace Go.Proofs.Ytckmddkhkdcmmaa
set_option linter.unusedVariables false
set_option linter.unusedSimpArgs false
open Go.RowKit
set_option linter.unusedVariables false

attribute [local go_sem ↓] Go.wp_at_zero Go.wp_at_succ

/-- What Row answers. -/
def rowX (k m : Nat) (i : Int) : List UInt8 := if 0 ≤ i ∧ i < (k + m : Nat) then rowL k i.toNat else []

theorem Row_nil (w : World) (i : Int) : Calls Try.prog 41 #[.pointer none, .int .i64 i] w fun e w' => e = .returned (.slice none 0 0) ∧ ∃ j, w' = w.drewN j := by
  go_enter Try.func41, Try.ntmps41
  go_wp2_with fail
  go_quiet (fail)
  go_wp2_with fail
  go_ret
  exact ⟨rfl, _, rfl⟩

set_option maxHeartbeats 400000 in
theorem Row_any (w : World) (p k m : Nat) (i : Int) (h : CAt w p k m) : Calls Try.prog 41 #[.pointer (some ⟨p, 0, none⟩), .int .i64 i] w fun e w' => (∃ ao cap, e = .returned (.slice ao (rowX k m i).length cap) ∧ Rd w' (.slice ao (rowX k m i).length cap) (rowX k m i)) ∧ Fr (fun _ => False) w w' := by
  obtain ⟨q, h1, -⟩ := h.ex
  have hk := h.hk
  have hm := h.hm
  have c0 := cell_of_heap h1 0
  have c1 := cell_of_heap h1 1
  simp at c0 c1
  have H := hide h
  clear h1 h
  by_cases hn : i < 0
  · have e : rowX k m i = [] := by unfold rowX; rw [if_neg (by omega)]
    rw [e]
    have b1 : decide (i < 0) = true := by simpa using hn
    go_enter Try.func41, Try.ntmps41
    go_wp2_with fail
    go_quiet (fail)
    go_wp2_with fail
    go_ret
    exact ⟨⟨none, 0, rfl, Rd.nil _⟩, Fr.ofDrewN _ _⟩
  · have b1 : decide (i < 0) = false := by simpa using hn
    obtain ⟨j, rfl⟩ : ∃ j : Nat, i = (j : Int) := ⟨i.toNat, by omega⟩
    by_cases hge : k + m ≤ j
    · have e : rowX k m (j : Int) = [] := by unfold rowX; rw [if_neg (by omega)]
      rw [e]
      have b2 : decide ((k : Int) + (m : Int) ≤ (j : Int)) = true := by simp; omega
      go_enter Try.func41, Try.ntmps41
      go_wp2_with fail
      go_quiet (fail)
      go_wp2_with fail
      go_ret
      exact ⟨⟨none, 0, rfl, Rd.nil _⟩, Fr.ofDrewN _ _⟩
    · have e : rowX k m (j : Int) = rowL k j := by unfold rowX; rw [if_pos (by omega)]; rfl
      rw [e]
      have b2 : decide ((k : Int) + (m : Int) ≤ (j : Int)) = false := by simp; omega
      have HR := hide (fun W (f : Fr (fun _ => False) w W) => row_any W p k m j ((unhide H).kept f (fun _ _ h => h)) (by omega))
      clear e
      go_enter Try.func41, Try.ntmps41
      go_wp2_with fail
      go_quiet (fail)
      go_wp2_with fail
      refine (unhide HR _ (Fr.ofDrewN _ _)).mono ?_
      rintro e w2 ⟨⟨q, rfl, hR, hq⟩, f2⟩
      have F2 := hide ((Fr.ofDrewN (S := fun _ => False) w _).trans f2 (fun _ _ h => h))
      have hR' := hR
      rw [← rowL_length k j] at hR'
      go_wp2_with fail
      refine (copyOf_any w2 _ _ hR (by rw [rowL_length]; omega)).mono ?_
      rintro e w3 ⟨rfl, hB, f3⟩
      go_wp2_with fail
      go_ret
      exact ⟨⟨_, _, rfl, hB.rd (by rw [rowL_length]; simp only [maxLen]; omega)⟩, (unhide F2).trans f3 (fun _ _ h => h)⟩

/-- The document's code at block p. -/
def DAt (w : World) (p k m : Nat) : Prop := w.heap[p]? = some (.cells #[.int .i64 (k : Int), .int .i64 (m : Int)] 120 (0, 0))

theorem DAt.kept {S : Nat → Prop} {w w' : World} {p k m : Nat} (h : DAt w p k m) (f : Fr S w w') (hs : ¬ S p) : DAt w' p k m := by
  unfold DAt at *
  rw [f.block p (lt_of_heap h) hs]; exact h

theorem rnew_no (w : World) (k m : Int) (h : okB k m = false) : Calls Try.prog 89 #[.int .i64 k, .int .i64 m] w fun e w' => e = .returned (.tuple #[.pointer none, .int .i64 2]) ∧ w = w' := by
  have h' : ¬ (1 ≤ k ∧ k ≤ 16 ∧ 0 ≤ m ∧ m ≤ 8) := by simpa [okB] using h
  by_cases h1 : k < 1
  · have b1 : decide (k < 1) = true := by simpa using h1
    go_enter Try.func89, Try.ntmps89
    go_wp2
    go_ret2
    exact ⟨rfl, rfl⟩
  · have b1 : decide (k < 1) = false := by simpa using h1
    by_cases h2 : 16 < k
    · have b2 : decide (16 < k) = true := by simpa using h2
      go_enter Try.func89, Try.ntmps89
      go_wp2
      go_ret2
      exact ⟨rfl, rfl⟩
    · have b2 : decide (16 < k) = false := by simpa using h2
      by_cases h3 : m < 0
      · have b3 : decide (m < 0) = true := by simpa using h3
        go_enter Try.func89, Try.ntmps89
        go_wp2
        go_ret2
        exact ⟨rfl, rfl⟩
      · have b3 : decide (m < 0) = false := by simpa using h3
        have h4 : 8 < m := by omega
        have b4 : decide (8 < m) = true := by simpa using h4
        go_enter Try.func89, Try.ntmps89
        go_wp2
        go_ret2
        exact ⟨rfl, rfl⟩

theorem rnewc_ok (w : World) (k m : Nat) (hk : 1 ≤ k ∧ k ≤ 16) (hm : m ≤ 8) : Calls Try.prog 89 #[.int .i64 (k : Int), .int .i64 (m : Int)] w fun e w' => e = .returned (.tuple #[.pointer (some ⟨w.heap.size, 0, none⟩), .int .i64 0]) ∧ DAt w' w.heap.size k m ∧ Fr (fun _ => False) w w' := by
  go_enter Try.func89, Try.ntmps89
  go_wp2
  go_ret2
  exact ⟨rfl, heap_alloc_new w _, (Fr.refl _ _).alloc _⟩

theorem num3_any (w : World) (n : Int) : Calls Try.prog 48 #[.int .i64 n] w fun e w' => e = .returned (.int .i64 n) ∧ w = w' := by
  go_enter Try.func48, Try.ntmps48
  go_wp2
  go_ret
  exact ⟨rfl, rfl⟩

theorem both_no (w : World) (k m : Int) (h : okB k m = false) : Calls Try.prog 37 #[.int .i64 k, .int .i64 m] w fun e w' => e = .returned (.tuple #[.pointer none, .pointer none, .bool true]) ∧ w = w' := by
  have H1 := hide (new_no w k m h)
  have H2 := hide (rnew_no w k m h)
  clear h
  go_enter Try.func37, Try.ntmps37
  go_wp2_with fail
  refine (unhide H1).mono ?_
  rintro e w1 ⟨rfl, rfl⟩
  go_wp2_with fail
  refine (unhide H2).mono ?_
  rintro e w1 ⟨rfl, rfl⟩
  go_wp2_with (go_at_call 48; refine (num3_any _ _).mono ?_; rintro e w' ⟨rfl, rfl⟩)
  go_ret3
  exact ⟨rfl, rfl⟩

theorem both_ok (w : World) (k m : Nat) (hk : 1 ≤ k ∧ k ≤ 16) (hm : m ≤ 8) : Calls Try.prog 37 #[.int .i64 (k : Int), .int .i64 (m : Int)] w fun e w' => (∃ p q, e = .returned (.tuple #[.pointer (some ⟨p, 0, none⟩), .pointer (some ⟨q, 0, none⟩), .bool true]) ∧ w.heap.size ≤ p ∧ w.heap.size ≤ q ∧ CAt w' p k m ∧ DAt w' q k m) ∧ Fr (fun _ => False) w w' := by
  go_enter Try.func37, Try.ntmps37
  go_wp2_with fail
  refine (new_ok w k m hk hm).mono ?_
  rintro e w1 ⟨⟨p, rfl, hp, hC⟩, f1⟩
  go_wp2_with fail
  refine (rnewc_ok w1 k m hk hm).mono ?_
  rintro e w2 ⟨rfl, hD, f2⟩
  go_wp2_with (go_at_call 48; refine (num3_any _ _).mono ?_; rintro e w' ⟨rfl, rfl⟩)
  go_ret3
  exact ⟨⟨p, _, rfl, hp, f1.size, hC.kept f2 (fun _ _ h => h), hD⟩, f1.trans f2 (fun _ _ h => h)⟩

end Go.Proofs.Ytckmddkhkdcmmaa

namespace Go.Proofs.Ytckmddkhkdcmmaa
set_option linter.unusedVariables false
set_option linter.unusedSimpArgs false
open Go.RowKit
set_option linter.unusedVariables false

attribute [local go_sem ↓] Go.wp_at_zero Go.wp_at_succ

/-- A list of lists of bytes that can be read. -/
def RdL (w : World) (v : Value) (ls : List (List UInt8)) : Prop := ∃ vs : List Value, RdV w v vs ∧ vs.length = ls.length ∧ ∀ (i : Nat) (x : Value) (l : List UInt8), vs[i]? = some x → ls[i]? = some l → Rd w x l

theorem RdL.kept {w w' : World} {v : Value} {ls : List (List UInt8)} (h : RdL w v ls) (f : Fr (fun _ => False) w w') : RdL w' v ls := by
  obtain ⟨vs, h1, h2, h3⟩ := h
  exact ⟨vs, h1.kept f (fun _ _ h => h), h2, fun i x l hx hl => (h3 i x l hx hl).kept f (fun _ _ h => h)⟩

theorem RdL.shape {w : World} {v : Value} {ls : List (List UInt8)} (h : RdL w v ls) : ∃ ao cap, v = .slice ao ls.length cap := by
  obtain ⟨vs, h1, h2, h3⟩ := h
  rw [← h2]
  exact h1.shape

/-- One of them. -/
theorem RdL.get {w : World} {ao : Option Addr} {n cap : Nat} {ls : List (List UInt8)} (h : RdL w (.slice ao n cap) ls) (i : Nat) (hi : i < ls.length) :
    ∃ b o xo xc, ao = some ⟨b, o, none⟩ ∧ w.cell? ⟨b, o + i, none⟩ = some (.slice xo (ls[i]).length xc) ∧ Rd w (.slice xo (ls[i]).length xc) ls[i] := by
  obtain ⟨vs, h1, h2, h3⟩ := h
  obtain ⟨b, o, rfl, -, -, -, hc⟩ := h1.lits (by omega)
  have hr := h3 i (vs[i]'(by omega)) ls[i] (List.getElem?_eq_getElem _) (List.getElem?_eq_getElem _)
  obtain ⟨xo, xc, e⟩ := hr.shape
  exact ⟨b, o, xo, xc, rfl, by rw [hc i (by omega), e], by rw [← e]; exact hr⟩

/-- The length of all, and are they so many of one length? -/
def oneL (ls : List (List UInt8)) (count : Int) : Nat × Bool := if (ls.length : Int) = count ∧ ∀ l ∈ ls, l.length = (ls.headD []).length then ((ls.headD []).length, true) else (0, false)

set_option maxHeartbeats 400000 in
theorem oneLength_any (w : World) (v : Value) (ls : List (List UInt8)) (count : Int) (h : RdL w v ls) (hl : ls.length ≤ 100000) :
    Calls Try.prog 102 #[v, .int .i64 count] w fun e w' => e = .returned (.tuple #[.int .i64 ((oneL ls count).1 : Int), .bool (oneL ls count).2]) ∧ w = w' := by
  obtain ⟨ao, cap, rfl⟩ := h.shape
  by_cases hc : (ls.length : Int) = count
  · subst hc
    by_cases h0 : ls.length = 0
    · have he : ls = [] := List.eq_nil_of_length_eq_zero h0
      subst he
      have e : oneL [] (([] : List (List UInt8)).length : Int) = (0, true) := by unfold oneL; rw [if_pos ⟨rfl, fun l hl => by simp at hl⟩]; rfl
      rw [e]
      clear h e
      go_enter Try.func102, Try.ntmps102
      go_wp2
      go_ret2
      exact ⟨rfl, rfl⟩
    · obtain ⟨b, o, xo, xc, rfl, c0, -⟩ := h.get 0 (by omega)
      obtain ⟨n, hn⟩ : ∃ n, n = (ls[0]'(by omega)).length := ⟨_, rfl⟩
      have hhd : (ls.headD []).length = n := by
        rw [hn]
        cases ls with
        | nil => simp at h0
        | cons a t => rfl
      rw [← hn, Nat.add_zero] at c0
      have H := hide h
      have HN := hide hn
      have HH := hide hhd
      clear h hn hhd
      have b0 : ((ls.length : Int) == 0) = false := by
        simp only [beq_eq_false_iff_ne, ne_eq]; omega
      go_enter Try.func102, Try.ntmps102
      go_wp2_with fail
      go_loopw [21] (fun x w' => ∃ i : Nat, i ≤ ls.length ∧ x = .int .i64 (i : Int) ∧ (∀ j (hj : j < ls.length), j < i → (ls[j]).length = n) ∧ w = w') (fun x _ => ls.length - (intOf x).toNat)
      case atStart => exact ⟨0, by omega, rfl, fun j hj h => by omega, rfl⟩
      case round =>
        obtain ⟨i, hi, rfl, hall, rfl⟩ := hrel
        by_cases hlt : i < ls.length
        · obtain ⟨b', o', yo, yc, e, c1, -⟩ := (unhide H).get i hlt
          simp only [Option.some.injEq, Addr.mk.injEq] at e
          obtain ⟨rfl, rfl, -⟩ := e
          obtain ⟨li, hli⟩ : ∃ li, li = (ls[i]).length := ⟨_, rfl⟩
          rw [← hli] at c1
          have HA := hide hall
          have HL := hide hli
          clear hall hli
          by_cases he : li = n
          · have bb : ((li : Int) != (n : Int)) = false := by simp; omega
            subst he
            go_wp2_with fail
            go_roundw
            case rel =>
              refine ⟨i + 1, by omega, by go_num, fun j hj h => ?_, trivial⟩
              by_cases e : j = i
              · subst e; exact (unhide HL).symm
              · exact unhide HA j hj (by omega)
            case measure => simp [intOf]; omega
          · have bb : ((li : Int) != (n : Int)) = true := by simp; omega
            go_wp2_with fail
            go_ret2
            have e : oneL ls (ls.length : Int) = (0, false) := by
              unfold oneL
              rw [if_neg]
              intro h
              have := h.2 _ (List.getElem_mem hlt)
              rw [unhide HH, ← unhide HL] at this
              exact he this
            rw [e]
            exact ⟨rfl, rfl⟩
        · have HA := hide hall
          clear hall
          go_wp2_with fail
          go_ret2
          have e : oneL ls (ls.length : Int) = (n, true) := by
            unfold oneL
            rw [if_pos, unhide HH]
            refine ⟨rfl, fun l hl => ?_⟩
            obtain ⟨j, hj, rfl⟩ := List.getElem_of_mem hl
            rw [unhide HH]
            exact unhide HA j hj (by omega)
          rw [e]
          exact ⟨rfl, rfl⟩
  · have e : oneL ls count = (0, false) := by unfold oneL; rw [if_neg (fun h => hc h.1)]
    rw [e]
    have bb : ((ls.length : Int) != count) = true := by simpa using hc
    clear h e hc
    go_enter Try.func102, Try.ntmps102
    go_wp2
    go_ret2
    exact ⟨rfl, rfl⟩

/-- The length of all, and the error. -/
def shl (ls : List (List UInt8)) (count : Int) : Nat × Int := if (oneL ls count).2 = true then (if (oneL ls count).1 ≤ 4096 then ((oneL ls count).1, 0) else (0, 1)) else (0, 2)

theorem shardLength_any (w : World) (v : Value) (ls : List (List UInt8)) (count : Int) (h : RdL w v ls) (hl : ls.length ≤ 100000) :
    Calls Try.prog 93 #[v, .int .i64 count] w fun e w' => e = .returned (.tuple #[.int .i64 ((shl ls count).1 : Int), .int .i64 (shl ls count).2]) ∧ w = w' := by
  have H := hide (oneLength_any w v ls count h hl)
  obtain ⟨ao, cap, rfl⟩ := h.shape
  clear h
  unfold shl
  generalize oneL ls count = r at *
  obtain ⟨n, b⟩ := r
  cases b
  · simp only [Bool.false_eq_true, if_false]
    go_enter Try.func93, Try.ntmps93
    go_wp2_with fail
    refine (unhide H).mono ?_
    rintro e w' ⟨rfl, rfl⟩
    go_wp2_with fail
    go_ret2
    exact ⟨rfl, rfl⟩
  · simp only [if_true]
    by_cases hn : n ≤ 4096
    · rw [if_pos hn]
      have b1 : decide ((4096 : Int) < (n : Int)) = false := by simp; omega
      go_enter Try.func93, Try.ntmps93
      go_wp2_with fail
      refine (unhide H).mono ?_
      rintro e w' ⟨rfl, rfl⟩
      go_wp2_with fail
      go_ret2
      exact ⟨rfl, rfl⟩
    · rw [if_neg hn]
      have b1 : decide ((4096 : Int) < (n : Int)) = true := by simp; omega
      go_enter Try.func93, Try.ntmps93
      go_wp2_with fail
      refine (unhide H).mono ?_
      rintro e w' ⟨rfl, rfl⟩
      go_wp2_with fail
      go_ret2
      exact ⟨rfl, rfl⟩

theorem xadd_step (l x : List UInt8) (k : Nat) (h : k < l.length) (hx : x.length = l.length) : (List.zipWith (fun a y => a ^^^ y) (l.take k) (x.take k) ++ l.drop k).set k (l[k] ^^^ (x[k]'(by omega))) = List.zipWith (fun a y => a ^^^ y) (l.take (k + 1)) (x.take (k + 1)) ++ l.drop (k + 1) := by
  have hl : (List.zipWith (fun a y => a ^^^ y) (l.take k) (x.take k)).length = k := by simp; omega
  rw [List.set_append_right _ _ (by omega), hl, Nat.sub_self, List.drop_eq_getElem_cons h, List.set_cons_zero, List.take_succ_eq_append_getElem h, List.take_succ_eq_append_getElem (by omega : k < x.length), List.zipWith_append (by simp; omega)]
  simp

theorem addt_scl (c : UInt8) (l x : List UInt8) : List.zipWith (fun a y => a ^^^ y) l (scl c x) = addt c l x := by
  unfold scl addt
  rw [List.zipWith_map_right]

set_option maxHeartbeats 1000000 in
theorem rsAddTimes_any (w : World) (b : Nat) (l : List UInt8) (c : UInt8) (xv : Value) (x : List UInt8) (hl : BAt w b l) (hx : Rd w xv x) (hm : l.length ≤ 4096) (hxl : x.length = l.length) :
    Calls Try.prog 101 #[.slice (some ⟨b, 0, none⟩) l.length l.length, .int .u8 (c.toNat : Int), xv] w fun e w' => e = .returned (.tuple #[]) ∧ BAt w' b (addt c l x) ∧ Fr (fun k => k = b) w w' := by
  by_cases hc : c = 0
  · subst hc
    rw [addt_zero l x hxl]
    have HB := hide hl
    obtain ⟨xo, xc, rfl⟩ := hx.shape
    clear hx hl
    go_enter Try.func101, Try.ntmps101
    go_wp2_with fail
    exact bodyPost_ret (results_none rfl _ _ _) rfl ⟨rfl, unhide HB, Fr.refl _ _⟩
  · have hcb : (((c.toNat : Nat) : Int) == 0) = false := by simpa using fun e => hc (natB.1 e)
    have HS := hide (gscale_any w c xv x hx (by omega))
    rw [← addt_scl]
    have hsl : (scl c x).length = l.length := by simp [scl]; omega
    generalize scl c x = y at *
    have HB := hide hl
    have hlt := lt_of_heap hl
    have HXL := hide hxl
    obtain ⟨xo, xc, rfl⟩ := hx.shape
    rw [hxl] at HS ⊢
    clear hx hl hxl
    go_enter Try.func101, Try.ntmps101
    go_wp2_with fail
    refine (unhide HS).mono ?_
    rintro e w1 ⟨⟨ao, cap, rfl, hR, hRn⟩, f1⟩
    have hs1 := f1.size
    have HR := hide hR
    have HF1 := hide f1
    clear hR f1
    go_wp2_with fail
    go_loopw [14] (fun i w' => ∃ k : Nat, k ≤ l.length ∧ i = .int .i64 (k : Int) ∧ BAt w' b (List.zipWith (fun a y => a ^^^ y) (l.take k) (y.take k) ++ l.drop k) ∧ Fr (fun k => k = b) w1 w') (fun i _ => l.length - (intOf i).toNat)
    case atStart => exact ⟨0, by omega, rfl, by simpa using (unhide HB).kept (unhide HF1) id, Fr.refl _ _⟩
    case round =>
      obtain ⟨k, hk, rfl, hB, hf⟩ := hrel
      by_cases hlt : k < l.length
      · have hRk := (unhide HR).kept hf (fun k hk h => by have := hRn k hk; omega)
        obtain ⟨xb, xof, rfl, -, hcap, hcm, hcx⟩ := hRk.lits (by omega)
        unfold maxLen at hcm
        have hzl : (List.zipWith (fun a y => a ^^^ y) (l.take k) (y.take k) ++ l.drop k).length = l.length := by simp; omega
        have cy := hcx k (by omega)
        have cb := hB.cell k (by omega)
        have zb := hB.frozen k
        have hgk : (List.zipWith (fun a y => a ^^^ y) (l.take k) (y.take k) ++ l.drop k)[k]'(by omega) = l[k] := by
          have hl2 : (List.zipWith (fun a y => a ^^^ y) (l.take k) (y.take k)).length = k := by simp; omega
          rw [List.getElem_append_right (by omega)]
          simp [hl2]
        rw [hgk] at cb
        have HSt := hide (xadd_step l y k hlt (by omega))
        obtain ⟨yk, hyk⟩ : ∃ yk, yk = y[k]'(by omega) := ⟨_, rfl⟩
        rw [← hyk] at HSt cy
        generalize l[k] = lk at *
        have HB2 := hide hB
        have Hf2 := hide hf
        clear hB hf hRk hcx hzl hgk hyk
        go_wp2_with (go_at_call 115; refine (add_any _ lk yk).mono ?_; rintro e w' ⟨rfl, rfl⟩)
        go_roundw
        case rel =>
          refine ⟨k + 1, by omega, by go_num, ?_, (unhide Hf2).setCell (fun _ => rfl) _⟩
          rw [← unhide HSt, ← UInt8.toNat_xor]
          exact (unhide HB2).set k _
        case measure => simp [intOf]; omega
      · have hke : k = l.length := by omega
        subst hke
        have H1 := hide hB
        have H2 := hide hf
        clear hB hf
        go_wp2_with fail
        go_end0
        refine ⟨rfl, ?_, ((unhide HF1).mono (fun _ _ h => h.elim)).trans (unhide H2) (fun _ _ h => h)⟩
        have := unhide H1
        rwa [List.drop_length, List.append_nil, List.take_length, List.take_of_length_le (by omega)] at this

end Go.Proofs.Ytckmddkhkdcmmaa
