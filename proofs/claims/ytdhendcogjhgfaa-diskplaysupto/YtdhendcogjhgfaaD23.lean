/-
  The walks of slices.Equal on sectors and on writes, and of package disk's Same.
-/
import Derived.Test.YtdhendcogjhgfaaD22
namespace Go.Proofs.Ytdhendcogjhgfaa
open Go.RowKit
set_option linter.unusedVariables false

attribute [local go_sem ↓] Go.wp_at_zero Go.wp_at_succ

theorem secl_of {S : List (List UInt8 × UInt8)} {z : Nat} (hz : z ≤ 512) (h : ∀ s ∈ S, s.1.length = z) : ∀ c ∈ S.map secC, c.length = 513 := by
  intro c hc
  obtain ⟨s, hs, rfl⟩ := List.mem_map.1 hc
  exact secC_length (by rw [h s hs]; exact hz)
theorem wrl_of {Q : List (Nat × List UInt8)} {z : Nat} (hz : z ≤ 512) (h : ∀ s ∈ Q, s.2.length = z) : ∀ c ∈ Q.map wrC, c.length = 513 := by
  intro c hc
  obtain ⟨s, hs, rfl⟩ := List.mem_map.1 hc
  exact wrC_length (by rw [h s hs]; exact hz)

/-- An element of a row of rows, as a range. -/
theorem range_of {w : World} {e g n cap : Nat} {L : List (List Value)} (hl : ∀ c ∈ L, c.length = 513) (h : w.ownsRow 0 e 513 (.slice (some ⟨g, 0, none⟩) n cap) n L.flatten) (i : Nat) (hi : i < L.length) : w.rangeAt g (i * 513) L[i] := by
  intro j v hv
  have hj : j < L[i].length := (List.getElem?_eq_some_iff.1 hv).1
  have hli := hl _ (List.getElem_mem hi)
  have hfl := flat_len hl
  have hle : (i + 1) * 513 ≤ L.length * 513 := Nat.mul_le_mul_right _ hi
  rw [owns_cells h _ (by omega), flat_get hl i j hi (by omega)]
  exact hv

set_option maxHeartbeats 1000000 in
set_option maxRecDepth 100000 in
theorem equal_secs (w : World) (v u : Value) (A B : List (List UInt8 × UInt8)) (z : Nat) (hz : z ≤ 512) (hA : ∀ s ∈ A, s.1.length = z) (hB : ∀ s ∈ B, s.1.length = z) (h1 : w.ownsRow 0 92 513 v A.length (secF A)) (h2 : w.ownsRow 0 92 513 u B.length (secF B)) (hl1 : A.length ≤ 1000000) (hl2 : B.length ≤ 1000000) :
    Calls Try.prog 49 #[v, u] w fun e w' => e = .returned (.bool (decide (A = B))) ∧ ∃ n, w' = w.drewN n := by
  have H1 := hide h1
  have H2 := hide h2
  have HA := hide hA
  have HB := hide hB
  obtain ⟨ao, ac, rfl⟩ := owns_shape h1
  obtain ⟨bo, bc, rfl⟩ := owns_shape h2
  clear h1 h2 hA hB
  by_cases he : A.length = B.length
  · rw [← he] at H2 ⊢
    have HE := hide he
    clear he hl2
    obtain ⟨n, hn⟩ : ∃ n, n = A.length := ⟨_, rfl⟩
    rw [← hn] at H1 H2 hl1 ⊢
    have HN := hide hn
    clear hn
    go_enter Try.func49, Try.ntmps49
    go_wp2_with fail
    go_loopw [13] (fun x w' => ∃ i : Nat, i ≤ n ∧ x = .int .i64 (i : Int) ∧ A.take i = B.take i ∧ ∃ k, w' = w.drewN k) (fun x _ => n - (intOf x).toNat)
    case atStart => exact ⟨0, by omega, rfl, by simp, 0, rfl⟩
    case round =>
      obtain ⟨i, hi, rfl, ht, kk, rfl⟩ := hrel
      by_cases hlt : i < n
      · have i1 : i < A.length := by have := unhide HN; omega
        have i2 : i < B.length := by have := unhide HN; have := unhide HE; omega
        obtain ⟨g1, cc1, hv1, x1, y1⟩ := owns_lit (unhide H1) (by omega)
        obtain ⟨g2, cc2, hv2, x2, y2⟩ := owns_lit (unhide H2) (by omega)
        simp only [Value.slice.injEq] at hv1 hv2
        obtain ⟨rfl, -, rfl⟩ := hv1
        obtain ⟨rfl, -, rfl⟩ := hv2
        have r1 := range_of (secl_of hz (unhide HA)) (unhide H1) i (by simpa using i1)
        have r2 := range_of (secl_of hz (unhide HB)) (unhide H2) i (by simpa using i2)
        rw [List.getElem_map] at r1 r2
        have l1 := unhide HA _ (List.getElem_mem i1)
        have l2 := unhide HB _ (List.getElem_mem i2)
        have HT := hide ht
        have T1 := hide (List.take_succ_eq_append_getElem i1)
        have T2 := hide (List.take_succ_eq_append_getElem i2)
        have HG := hide (show A = B → A[i] = B[i] by rintro rfl; rfl)
        generalize A[i] = s at *
        generalize B[i] = t at *
        have R1 := hide r1
        have R2 := hide r2
        have L1 := hide l1
        have L2 := hide l2
        have hic1 : i < ac := by omega
        have hic2 : i < bc := by omega
        clear ht r1 r2 l1 l2
        go_wp2_with fail
        refine wp_region_quiet_lit (by kernel_rfl) (by kernel_rfl) ?_
        go_big_quiet_step (fail)
        go_big_quiet_step (fail)
        go_big_quiet_step (fail)
        refine wpQuiet_val (by rfl) (.agg (secC s).toArray) (fun W hW => x_load92 rfl rfl (secC_length (by rw [unhide L1]; exact hz)) ?_) ?_
        · obtain ⟨nn, rfl⟩ := hW
          intro j v hv
          have := unhide R1 j v hv
          simpa using this
        simp only [Act.put, List.setIfInBounds_toArray, List.set_cons_zero, List.set_cons_succ]
        go_big_quiet_step (fail)
        go_big_quiet_step (fail)
        go_big_quiet_step (fail)
        refine wpQuiet_val (by rfl) (.agg (secC t).toArray) (fun W hW => x_load92 rfl rfl (secC_length (by rw [unhide L2]; exact hz)) ?_) ?_
        · obtain ⟨nn, rfl⟩ := hW
          intro j v hv
          have := unhide R2 j v hv
          simpa using this
        simp only [Act.put, List.setIfInBounds_toArray, List.set_cons_zero, List.set_cons_succ]
        refine wpQuiet_val (by rfl) (.bool (!decide (s = t))) (fun W hW => x_neSec (by rw [unhide L1]; exact hz) (by rw [unhide L1, unhide L2]) rfl rfl rfl) ?_
        simp only [Act.put, List.setIfInBounds_toArray, List.set_cons_zero, List.set_cons_succ]
        refine wpQuiet_nil ?_
        intro _ hw'
        obtain ⟨nq, hw''⟩ := hw'
        subst hw''
        generalize secC s = cs at *
        generalize secC t = ct at *
        by_cases hd : s = t
        · have hb : (!decide (s = t)) = false := by simpa using hd
          rw [hb]
          have HD := hide hd
          clear hd hb
          go_wp2_with fail
          go_roundw
          case rel => exact ⟨i + 1, by omega, by go_num, by rw [unhide T1, unhide T2, unhide HT, unhide HD], _, rfl⟩
          case measure => simp [intOf]; omega
        · have hb : (!decide (s = t)) = true := by simpa using hd
          rw [hb]
          have HD := hide hd
          clear hd hb
          go_wp2_with fail
          go_ret
          have e : decide (A = B) = false := by
            simp only [decide_eq_false_iff_not]
            exact fun e => unhide HD (unhide HG e)
          rw [e]
          exact ⟨rfl, _, World.drewN_drewN _ _ _⟩
      · have hie : i = n := by omega
        subst hie
        have HT := hide ht
        clear ht
        go_wp2_with fail
        go_ret
        have e : decide (A = B) = true := by
          have h := unhide HT
          have hN := unhide HN
          have hE := unhide HE
          rw [List.take_of_length_le (by omega), List.take_of_length_le (by omega)] at h
          simpa using h
        rw [e]
        exact ⟨rfl, _, rfl⟩
  · have hb : ((A.length : Int) != (B.length : Int)) = true := by simp; omega
    have e : decide (A = B) = false := by
      simp only [decide_eq_false_iff_not]
      rintro rfl; exact he rfl
    rw [e]
    clear he H1 H2 HA HB
    go_enter Try.func49, Try.ntmps49
    go_wp2_with fail
    go_ret
    exact ⟨rfl, 0, rfl⟩

set_option maxHeartbeats 1000000 in
set_option maxRecDepth 100000 in
theorem equal_wrs (w : World) (v u : Value) (A B : List (Nat × List UInt8)) (z : Nat) (hz : z ≤ 512) (hA : ∀ s ∈ A, s.2.length = z) (hB : ∀ s ∈ B, s.2.length = z) (h1 : w.ownsRow 0 95 513 v A.length (wrF A)) (h2 : w.ownsRow 0 95 513 u B.length (wrF B)) (hl1 : A.length ≤ 1000000) (hl2 : B.length ≤ 1000000) :
    Calls Try.prog 50 #[v, u] w fun e w' => e = .returned (.bool (decide (A = B))) ∧ ∃ n, w' = w.drewN n := by
  have H1 := hide h1
  have H2 := hide h2
  have HA := hide hA
  have HB := hide hB
  obtain ⟨ao, ac, rfl⟩ := owns_shape h1
  obtain ⟨bo, bc, rfl⟩ := owns_shape h2
  clear h1 h2 hA hB
  by_cases he : A.length = B.length
  · rw [← he] at H2 ⊢
    have HE := hide he
    clear he hl2
    obtain ⟨n, hn⟩ : ∃ n, n = A.length := ⟨_, rfl⟩
    rw [← hn] at H1 H2 hl1 ⊢
    have HN := hide hn
    clear hn
    go_enter Try.func50, Try.ntmps50
    go_wp2_with fail
    go_loopw [13] (fun x w' => ∃ i : Nat, i ≤ n ∧ x = .int .i64 (i : Int) ∧ A.take i = B.take i ∧ ∃ k, w' = w.drewN k) (fun x _ => n - (intOf x).toNat)
    case atStart => exact ⟨0, by omega, rfl, by simp, 0, rfl⟩
    case round =>
      obtain ⟨i, hi, rfl, ht, kk, rfl⟩ := hrel
      by_cases hlt : i < n
      · have i1 : i < A.length := by have := unhide HN; omega
        have i2 : i < B.length := by have := unhide HN; have := unhide HE; omega
        obtain ⟨g1, cc1, hv1, x1, y1⟩ := owns_lit (unhide H1) (by omega)
        obtain ⟨g2, cc2, hv2, x2, y2⟩ := owns_lit (unhide H2) (by omega)
        simp only [Value.slice.injEq] at hv1 hv2
        obtain ⟨rfl, -, rfl⟩ := hv1
        obtain ⟨rfl, -, rfl⟩ := hv2
        have r1 := range_of (wrl_of hz (unhide HA)) (unhide H1) i (by simpa using i1)
        have r2 := range_of (wrl_of hz (unhide HB)) (unhide H2) i (by simpa using i2)
        rw [List.getElem_map] at r1 r2
        have l1 := unhide HA _ (List.getElem_mem i1)
        have l2 := unhide HB _ (List.getElem_mem i2)
        have HT := hide ht
        have T1 := hide (List.take_succ_eq_append_getElem i1)
        have T2 := hide (List.take_succ_eq_append_getElem i2)
        have HG := hide (show A = B → A[i] = B[i] by rintro rfl; rfl)
        generalize A[i] = s at *
        generalize B[i] = t at *
        have R1 := hide r1
        have R2 := hide r2
        have L1 := hide l1
        have L2 := hide l2
        have hic1 : i < ac := by omega
        have hic2 : i < bc := by omega
        clear ht r1 r2 l1 l2
        go_wp2_with fail
        refine wp_region_quiet_lit (by kernel_rfl) (by kernel_rfl) ?_
        go_big_quiet_step (fail)
        go_big_quiet_step (fail)
        go_big_quiet_step (fail)
        refine wpQuiet_val (by rfl) (.agg (wrC s).toArray) (fun W hW => x_load95 rfl rfl (wrC_length (by rw [unhide L1]; exact hz)) ?_) ?_
        · obtain ⟨nn, rfl⟩ := hW
          intro j v hv
          have := unhide R1 j v hv
          simpa using this
        simp only [Act.put, List.setIfInBounds_toArray, List.set_cons_zero, List.set_cons_succ]
        go_big_quiet_step (fail)
        go_big_quiet_step (fail)
        go_big_quiet_step (fail)
        refine wpQuiet_val (by rfl) (.agg (wrC t).toArray) (fun W hW => x_load95 rfl rfl (wrC_length (by rw [unhide L2]; exact hz)) ?_) ?_
        · obtain ⟨nn, rfl⟩ := hW
          intro j v hv
          have := unhide R2 j v hv
          simpa using this
        simp only [Act.put, List.setIfInBounds_toArray, List.set_cons_zero, List.set_cons_succ]
        refine wpQuiet_val (by rfl) (.bool (!decide (s = t))) (fun W hW => x_neWr (by rw [unhide L1]; exact hz) (by rw [unhide L1, unhide L2]) rfl rfl rfl) ?_
        simp only [Act.put, List.setIfInBounds_toArray, List.set_cons_zero, List.set_cons_succ]
        refine wpQuiet_nil ?_
        intro _ hw'
        obtain ⟨nq, hw''⟩ := hw'
        subst hw''
        generalize wrC s = cs at *
        generalize wrC t = ct at *
        by_cases hd : s = t
        · have hb : (!decide (s = t)) = false := by simpa using hd
          rw [hb]
          have HD := hide hd
          clear hd hb
          go_wp2_with fail
          go_roundw
          case rel => exact ⟨i + 1, by omega, by go_num, by rw [unhide T1, unhide T2, unhide HT, unhide HD], _, rfl⟩
          case measure => simp [intOf]; omega
        · have hb : (!decide (s = t)) = true := by simpa using hd
          rw [hb]
          have HD := hide hd
          clear hd hb
          go_wp2_with fail
          go_ret
          have e : decide (A = B) = false := by
            simp only [decide_eq_false_iff_not]
            exact fun e => unhide HD (unhide HG e)
          rw [e]
          exact ⟨rfl, _, World.drewN_drewN _ _ _⟩
      · have hie : i = n := by omega
        subst hie
        have HT := hide ht
        clear ht
        go_wp2_with fail
        go_ret
        have e : decide (A = B) = true := by
          have h := unhide HT
          have hN := unhide HN
          have hE := unhide HE
          rw [List.take_of_length_le (by omega), List.take_of_length_le (by omega)] at h
          simpa using h
        rw [e]
        exact ⟨rfl, _, rfl⟩
  · have hb : ((A.length : Int) != (B.length : Int)) = true := by simp; omega
    have e : decide (A = B) = false := by
      simp only [decide_eq_false_iff_not]
      rintro rfl; exact he rfl
    rw [e]
    clear he H1 H2 HA HB
    go_enter Try.func50, Try.ntmps50
    go_wp2_with fail
    go_ret
    exact ⟨rfl, 0, rfl⟩


/-- Are two disks the same? -/
def smB (d e : Dk) : Bool := decide (d.size = e.size) && (d.off == e.off) && decide (d.S = e.S) && decide (d.Q = e.Q)

set_option maxHeartbeats 1000000 in
set_option maxRecDepth 100000 in
theorem same_any (w : World) (p gs : Nat) (qv : Value) (d : Dk) (p2 g2 : Nat) (q2 : Value) (e : Dk) (h : KAt w p gs qv d) (k : KAt w p2 g2 q2 e) : Calls Try.prog 18 #[.pointer (some ⟨p, 0, none⟩), .pointer (some ⟨p2, 0, none⟩)] w fun r w' => r = .returned (.bool (smB d e)) ∧ ∃ n, w' = w.drewN n := by
  have c0 := cell_of_heap h.heap 0
  have c1 := cell_of_heap h.heap 1
  have c2 := cell_of_heap h.heap 2
  have c3 := cell_of_heap h.heap 3
  have e0 := cell_of_heap k.heap 0
  have e1 := cell_of_heap k.heap 1
  have e2 := cell_of_heap k.heap 2
  have e3 := cell_of_heap k.heap 3
  simp at c0 c1 c2 c3 e0 e1 e2 e3
  have hz := h.ok.size
  have hln := h.ok.len
  have kln := k.ok.len
  have hrm := h.ok.room
  have krm := k.ok.room
  unfold smB
  by_cases hs : d.size = e.size
  · have HS := hide (fun j => equal_secs (w.drewN j) _ _ d.S e.S d.size hz.2 (fun s m => (h.ok.sec s m).1) (fun s m => by rw [(k.ok.sec s m).1, hs]) (owns_kept h.sown (Fr.ofDrewN (S := fun _ => False) w j) (fun _ _ h => h)) (owns_kept k.sown (Fr.ofDrewN (S := fun _ => False) w j) (fun _ _ h => h)) (by omega) (by omega))
    have HQ := hide (fun j => equal_wrs (w.drewN j) _ _ d.Q e.Q d.size hz.2 (fun s m => (h.ok.wr s m).1) (fun s m => by rw [(k.ok.wr s m).1, hs]) (owns_kept h.queue (Fr.ofDrewN (S := fun _ => False) w j) (fun _ _ h => h)) (owns_kept k.queue (Fr.ofDrewN (S := fun _ => False) w j) (fun _ _ h => h)) (by omega) (by omega))
    rw [← hs] at e0
    rw [decide_eq_true hs, Bool.true_and]
    obtain ⟨qo, qc, rfl⟩ := owns_shape h.queue
    obtain ⟨ro, rc, rfl⟩ := owns_shape k.queue
    clear h k hs
    generalize d.off = of1 at *
    generalize e.off = of2 at *
    by_cases ho : of1 = of2
    · subst ho
      have bo : (of1 == of1) = true := by simp
      rw [bo, Bool.true_and]
      rcases hb : decide (d.S = e.S) with _ | _
      · rw [hb] at HS
        rw [Bool.false_and]
        clear hb
        go_enter Try.func18, Try.ntmps18
        go_wp2_with fail
        go_quiet ((go_at_call 49; exact Calls.quiet_of (unhide HS _)))
        go_wp2_with fail
        go_ret
        exact ⟨rfl, _, rfl⟩
      · rw [hb] at HS
        rw [Bool.true_and]
        clear hb
        generalize decide (d.Q = e.Q) = qb at *
        go_enter Try.func18, Try.ntmps18
        go_wp2_with fail
        go_quiet ((first | (go_at_call 49; exact Calls.quiet_of (unhide HS _)) | (go_at_call 50; exact Calls.quiet_of (unhide HQ _))))
        go_wp2_with fail
        go_ret
        exact ⟨rfl, _, rfl⟩
    · have bo : (of1 == of2) = false := by simpa using ho
      rw [bo, Bool.false_and, Bool.false_and]
      clear ho HS HQ
      go_enter Try.func18, Try.ntmps18
      go_wp2_with fail
      go_quiet (fail)
      go_wp2_with fail
      go_ret
      exact ⟨rfl, _, rfl⟩
  · have bs : ((d.size : Int) == (e.size : Int)) = false := by simp; omega
    rw [decide_eq_false hs]
    simp only [Bool.false_and]
    obtain ⟨qo, qc, rfl⟩ := owns_shape h.queue
    obtain ⟨ro, rc, rfl⟩ := owns_shape k.queue
    clear h k hs
    go_enter Try.func18, Try.ntmps18
    go_wp2_with fail
    go_quiet (fail)
    go_wp2_with fail
    go_ret
    exact ⟨rfl, _, rfl⟩

end Go.Proofs.Ytdhendcogjhgfaa
