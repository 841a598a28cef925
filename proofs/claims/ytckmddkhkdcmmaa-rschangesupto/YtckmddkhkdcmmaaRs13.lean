/-
  The walks of bytes.Equal, and of package rs's Check.
-/
import Derived.Test.YtckmddkhkdcmmaaRs12
namespace Go.Proofs.Ytckmddkhkdcmmaa
open Go.RowKit
set_option linter.unusedVariables false

attribute [local go_sem ↓] Go.wp_at_zero Go.wp_at_succ

theorem equal_any (w : World) (v u : Value) (l m : List UInt8) (h1 : Rd w v l) (h2 : Rd w u m) : Calls Try.prog 97 #[v, u] w fun e w' => e = .returned (.bool (decide (l = m))) ∧ Fr (fun _ => False) w w' := by
  have k1 := conv_rd (P := Try.prog) h1 22 9 5 Try.underlying22 Try.underlying5 Try.underlying9
  have k2 := conv_rd (P := Try.prog) h2 22 9 5 Try.underlying22 Try.underlying5 Try.underlying9
  obtain ⟨ao1, cap1, rfl⟩ := h1.shape
  obtain ⟨ao2, cap2, rfl⟩ := h2.shape
  have hs := str_eq l m
  have HS := hide hs
  clear h1 h2 hs
  generalize str l = s1 at *
  generalize str m = s2 at *
  go_enter Try.func97, Try.ntmps97
  go_wp2_with fail
  go_ret
  exact ⟨by rw [← unhide HS]; rfl, Fr.refl _ _⟩

/-- What Check tells. -/
def chB (k m : Nat) (ls : List (List UInt8)) (n : Nat) : Bool := decide (ls.drop k = encL k m (ls.take k) n)

theorem encL_get {k m : Nat} {ls : List (List UInt8)} {n j : Nat} (h : j < m) : (encL k m ls n)[j]'(by rw [encL_length]; exact h) = mixL (co k (k + j)) ls k n := by simp [encL]

set_option maxHeartbeats 2000000 in
theorem check_no (w : World) (p k m : Nat) (v : Value) (ls : List (List UInt8)) (hC : CAt w p k m) (h : RdL w v ls) (hl : ls.length ≤ 100000) (he : (shl ls ((k + m : Nat) : Int)).2 ≠ 0) :
    Calls Try.prog 49 #[.pointer (some ⟨p, 0, none⟩), v] w fun e w' => e = .returned (.tuple #[.bool false, .int .i64 (shl ls ((k + m : Nat) : Int)).2]) ∧ Fr (fun _ => False) w w' := by
  obtain ⟨q, h1, -⟩ := hC.ex
  have hk := hC.hk
  have hm := hC.hm
  have c0 := cell_of_heap h1 0
  have c1 := cell_of_heap h1 1
  simp at c0 c1
  have HS := hide (fun j => (shardLength_any (w.drewN j) v ls ((k + m : Nat) : Int) (h.kept (Fr.ofDrewN w j)) hl).mono (fun e w' (h : e = _ ∧ w.drewN j = w') => show e = _ ∧ w' = w.drewN j from ⟨h.1, h.2.symm⟩))
  obtain ⟨vo, vc, rfl⟩ := h.shape
  clear h1 hC h
  generalize shl ls ((k + m : Nat) : Int) = r at *
  obtain ⟨n, e⟩ := r
  have b1 : (e != 0) = true := by simpa using he
  obtain ⟨a, ha⟩ : ∃ a, a = k + m := ⟨_, rfl⟩
  have ea : (k : Int) + (m : Int) = (a : Int) := by omega
  rw [← ha] at HS
  clear ha
  go_enter Try.func49, Try.ntmps49
  go_wp2_with fail
  go_quiet ((go_at_call 93; exact Calls.quiet_of_same (unhide HS _)))
  go_wp2_with fail
  go_ret2
  exact ⟨rfl, Fr.ofDrewN _ _⟩

set_option maxHeartbeats 4000000 in
set_option maxRecDepth 100000 in
theorem check_ok (w : World) (p k m : Nat) (v : Value) (ls : List (List UInt8)) (hC : CAt w p k m) (h : RdL w v ls) (he : (shl ls ((k + m : Nat) : Int)).2 = 0) :
    Calls Try.prog 49 #[.pointer (some ⟨p, 0, none⟩), v] w fun e w' => e = .returned (.tuple #[.bool (chB k m ls (shl ls ((k + m : Nat) : Int)).1), .int .i64 0]) ∧ Fr (fun _ => False) w w' := by
  obtain ⟨q, h1, -⟩ := hC.ex
  have hk := hC.hk
  have hm := hC.hm
  obtain ⟨hl1, hl2, hl3⟩ := shl_ok he
  have hll : ls.length = k + m := by omega
  have hplt := lt_of_heap h1
  have c0 := cell_of_heap h1 0
  have c1 := cell_of_heap h1 1
  simp at c0 c1
  have HS := hide (fun j => (shardLength_any (w.drewN j) v ls ((k + m : Nat) : Int) (h.kept (Fr.ofDrewN w j)) (by omega)).mono (fun e w' (h : e = _ ∧ w.drewN j = w') => show e = _ ∧ w' = w.drewN j from ⟨h.1, h.2.symm⟩))
  rw [he] at HS
  generalize (shl ls ((k + m : Nat) : Int)).1 = n at *
  have HL := hide h
  have HC := hide hC
  have HW := hide hl2
  have HLL := hide hll
  obtain ⟨vo, vc, rfl⟩ := h.shape
  have hvc : k ≤ vc := by
    obtain ⟨vs, hV, hvl, -⟩ := h
    obtain ⟨_, _, _, -, hcap, -, -⟩ := hV.lits (by omega)
    omega
  obtain ⟨a, ha⟩ : ∃ a, a = k + m := ⟨_, rfl⟩
  have ea : (k : Int) + (m : Int) = (a : Int) := by omega
  rw [← ha] at HS
  rw [hll, ← ha] at HS HL ⊢
  have HA := hide ha
  have hka : k ≤ a := by omega
  have ha24 : a ≤ 24 := by omega
  clear h1 hC h hl1 hl2 hll ha he
  go_enter Try.func49, Try.ntmps49
  go_wp2_with fail
  go_quiet ((go_at_call 93; exact Calls.quiet_of_same (unhide HS _)))
  go_wp2_with fail
  have HF0 := hide (Fr.ofDrewN (S := fun _ => False) w nq)
  generalize w.drewN nq = w1 at *
  clear HS
  go_loopw [9] (fun x w' => ∃ i : Nat, k ≤ i ∧ i ≤ a ∧ x = .int .i64 (i : Int) ∧ (ls.drop k).take (i - k) = (encL k m (ls.take k) n).take (i - k) ∧ Fr (fun _ => False) w w') (fun x _ => a - (intOf x).toNat)
  case atStart => exact ⟨k, by omega, by omega, rfl, by simp, unhide HF0⟩
  case round =>
    obtain ⟨i, hki, hi, rfl, ht, hf⟩ := hrel
    have d0 : wr.cell? ⟨p, 0, none⟩ = some (.int .i64 (k : Int)) := by rw [hf.cell (a := ⟨p, 0, none⟩) hplt id]; exact c0
    have d1 : wr.cell? ⟨p, 1, none⟩ = some (.int .i64 (m : Int)) := by rw [hf.cell (a := ⟨p, 1, none⟩) hplt id]; exact c1
    by_cases hlt : i < a
    · have g1 : decide ((i : Int) < (a : Int)) = true := by simp; omega
      have HT := hide ht
      have Hf := hide hf
      clear ht hf
      go_wp2_with fail
      go_quiet (fail)
      have HFq := hide ((unhide Hf).drewN nq)
      generalize wr.drewN nq = wq at *
      have hil : i < ls.length := by rw [unhide HLL, ← unhide HA]; exact hlt
      obtain ⟨sb, so, xo, xc, rfl, y1, hRx⟩ := ((unhide HL).kept (unhide HFq)).get i hil
      have hlen : (ls[i]).length = n := unhide HW _ (List.getElem_mem hil)
      rw [hlen] at y1 hRx
      have hLt := ((unhide HL).kept (unhide HFq)).takeN k (by rw [unhide HLL]; omega)
      have htl : (ls.take k).length = k := by rw [List.length_take, unhide HLL]; omega
      have hwt : ∀ l ∈ ls.take k, l.length = n := fun l hl => unhide HW l (List.mem_of_mem_take hl)
      have hsb := World.block_lt_of_cell? wq _ y1
      have HYC := hide (show ∀ W, Fr (fun _ => False) wq W → W.cell? ⟨sb, so + i, none⟩ = some (.slice xo n xc) from fun W f => (f.cell (a := ⟨sb, so + i, none⟩) hsb id).trans y1)
      have HRW := hide (fun W (f : Fr (fun _ => False) wq W) => row_any W p k m i ((unhide HC).kept ((unhide HFq).trans f (fun _ _ h => h)) (fun _ _ h => h)) (by rw [← unhide HA]; exact hlt))
      have HSU := hide (show ∀ W q2, Fr (fun _ => False) wq W → Rd W (.slice (some ⟨q2, i * k, none⟩) k k) (rowL k i) → Calls Try.prog 94 #[.slice (some ⟨q2, i * k, none⟩) k k, .slice (some ⟨sb, so, none⟩) k vc, .int .i64 (n : Int)] W fun e w' => (∃ g, e = .returned (.slice (some ⟨g, 0, none⟩) n n) ∧ Rd w' (.slice (some ⟨g, 0, none⟩) n n) (mixL (co k i) (ls.take k) k n)) ∧ Fr (fun _ => False) W w' from by
        intro W q2 f hR
        refine (sumOf_any W _ _ _ (ls.take k) n hR (hLt.kept f) (by rw [rowL_length, htl]; omega) (by rw [rowL_length]; omega) hwt hl3).mono ?_
        rintro e w' ⟨rfl, hB, f'⟩
        have hR' := hB.rd (by rw [mixL_length]; simp only [maxLen]; omega)
        rw [mixL_length, htl, mixL_congr (s := co k i) (fun j hj => by rw [gt_of (by rw [rowL_length]; exact hj), rowL_get])] at hR'
        exact ⟨⟨_, rfl, hR'⟩, f'⟩)
      have HEQ := hide (show ∀ W g, Fr (fun _ => False) wq W → Rd W (.slice (some ⟨g, 0, none⟩) n n) (mixL (co k i) (ls.take k) k n) → Calls Try.prog 97 #[.slice xo n xc, .slice (some ⟨g, 0, none⟩) n n] W fun e w' => e = .returned (.bool (decide (ls[i] = mixL (co k i) (ls.take k) k n))) ∧ Fr (fun _ => False) W w' from
        fun W g f hR => equal_any W _ _ _ _ (hRx.kept f (fun _ _ h => h)) hR)
      have hstep : ls[i] = mixL (co k i) (ls.take k) k n → (ls.drop k).take (i + 1 - k) = (encL k m (ls.take k) n).take (i + 1 - k) := by
        intro e
        have j1 : i - k < (ls.drop k).length := by rw [List.length_drop]; omega
        have j2 : i - k < (encL k m (ls.take k) n).length := by rw [encL_length]; have := unhide HA; omega
        rw [show i + 1 - k = (i - k) + 1 by omega, List.take_succ_eq_append_getElem j1, List.take_succ_eq_append_getElem j2, unhide HT, List.getElem_drop, encL_get (by have := unhide HA; omega)]
        simp only [show k + (i - k) = i by omega, e]
      have hbad : ls[i] ≠ mixL (co k i) (ls.take k) k n → chB k m ls n = false := by
        intro hne
        unfold chB
        simp only [decide_eq_false_iff_not]
        intro e
        apply hne
        have j1 : i - k < (ls.drop k).length := by rw [List.length_drop]; omega
        have e2 : (ls.drop k)[i - k]? = (encL k m (ls.take k) n)[i - k]? := by rw [e]
        rw [List.getElem?_eq_getElem j1, List.getElem?_eq_getElem (by rw [encL_length]; have := unhide HA; omega), Option.some.injEq, List.getElem_drop, encL_get (by have := unhide HA; omega)] at e2
        simpa only [show k + (i - k) = i by omega] using e2
      have HST := hide hstep
      have HBD := hide hbad
      generalize mixL (co k i) (ls.take k) k n = M at *
      generalize ls[i] = li at *
      clear hRx hLt htl hwt hstep hbad hlen
      by_cases hli : li = M
      · have HLI := hide hli
        have hde : decide (li = M) = true := by simpa using hli
        rw [hde] at HEQ
        clear hli hde
        go_wp2_with fail
        go_region_with ((first
          | (go_at_call 91; refine (unhide HRW _ (by first | exact Fr.ofDrewN _ 1 | exact Fr.ofDrewN _ _)).mono ?_; rintro e w2 ⟨⟨q2, rfl, hR2, -⟩, f2⟩; have F2 := (Fr.ofDrewN (S := fun _ => False) wq 1).trans f2 (fun _ _ h => h); have y2 := unhide HYC _ F2)
          | (go_at_call 94; refine (unhide HSU _ _ (by exact F2) (by exact hR2)).mono ?_; rintro e w3 ⟨⟨g3, rfl, hR3⟩, f3⟩; have F3 := F2.trans f3 (fun _ _ h => h); have y3 := unhide HYC _ F3)
          | (go_at_call 97; refine (unhide HEQ _ _ (by exact F3) (by exact hR3)).mono ?_; rintro e w4 ⟨rfl, f4⟩; have F4 := F3.trans f4 (fun _ _ h => h); have y4 := unhide HYC _ F4)))
        all_goals
          have HF4 := hide ((unhide HFq).trans F4 (fun _ _ h => h))
          clear hR2 f2 F2 hR3 f3 F3 f4 F4 y2 y3 y4
          go_wp2_with fail
          go_roundw
          case rel => exact ⟨i + 1, by omega, by omega, by go_num, unhide HST (unhide HLI), by first | exact unhide HF4 | exact (unhide HF4).drewN _⟩
          case measure => simp [intOf]; omega
      · have HLI := hide hli
        have hde : decide (li = M) = false := by simpa using hli
        rw [hde] at HEQ
        clear hli hde
        go_wp2_with fail
        go_region_with ((first
          | (go_at_call 91; refine (unhide HRW _ (by first | exact Fr.ofDrewN _ 1 | exact Fr.ofDrewN _ _)).mono ?_; rintro e w2 ⟨⟨q2, rfl, hR2, -⟩, f2⟩; have F2 := (Fr.ofDrewN (S := fun _ => False) wq 1).trans f2 (fun _ _ h => h); have y2 := unhide HYC _ F2)
          | (go_at_call 94; refine (unhide HSU _ _ (by exact F2) (by exact hR2)).mono ?_; rintro e w3 ⟨⟨g3, rfl, hR3⟩, f3⟩; have F3 := F2.trans f3 (fun _ _ h => h); have y3 := unhide HYC _ F3)
          | (go_at_call 97; refine (unhide HEQ _ _ (by exact F3) (by exact hR3)).mono ?_; rintro e w4 ⟨rfl, f4⟩; have F4 := F3.trans f4 (fun _ _ h => h); have y4 := unhide HYC _ F4)))
        all_goals
          have HF4 := hide ((unhide HFq).trans F4 (fun _ _ h => h))
          clear hR2 f2 F2 hR3 f3 F3 f4 F4 y2 y3 y4
          go_wp2_with fail
          go_ret2
          exact ⟨by rw [unhide HBD (unhide HLI)]; rfl, by first | exact unhide HF4 | exact (unhide HF4).drewN _⟩
    · have hia : i = a := by omega
      subst hia
      have g1 : decide ((i : Int) < (i : Int)) = false := by simp
      have HT := hide ht
      have Hf := hide hf
      clear ht hf
      go_wp2_with fail
      go_quiet (fail)
      go_wp2_with fail
      go_ret2
      have e : chB k m ls n = true := by
        unfold chB
        simp only [decide_eq_true_eq]
        have h := unhide HT
        have hA := unhide HA
        rwa [List.take_of_length_le (by rw [List.length_drop, unhide HLL]; omega), List.take_of_length_le (by rw [encL_length]; omega)] at h
      rw [e]
      exact ⟨rfl, (unhide Hf).drewN _⟩

end Go.Proofs.Ytckmddkhkdcmmaa
