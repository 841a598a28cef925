/-
  The walk of AllocReserved: what is reserved is there.
-/
import Derived.Test.YtbpajilglfabbaaD4
namespace Go.Proofs.Ytbpajilglfabbaa
open Go.RowKit
set_option linter.unusedVariables false

attribute [local go_sem ↓] Go.wp_at_zero Go.wp_at_succ

theorem take_r (K : Kc) (a : Int) : (K.take a).1.r = K.r := by
  unfold Kc.take
  split
  · split <;> rfl
  · rfl
theorem take_ch1 (K : Kc) (a : Int) : (K.take a).1.ch ≤ K.ch + 1 := by
  unfold Kc.take
  split
  · split
    · exact Nat.le_refl _
    · exact Nat.le_succ _
  · exact Nat.le_succ _
theorem takeR_ch1 (K : Kc) (a : Int) : (K.takeR a).1.ch ≤ K.ch + 1 := by
  unfold Kc.takeR
  split
  · split
    · exact Nat.le_succ _
    · exact Nat.le_refl _
  · exact Nat.le_succ _
theorem takeR_ok (K : Kc) (i : Nat) (hi : i < K.s.length) (hr : 0 < K.r) : (K.takeR (i : Int)).2.2 = 0 ∧ (K.takeR (i : Int)).1.r = K.r - 1 := by
  have e1 : inB K.s.length (i : Int) = true := by simp [inB]; omega
  unfold Kc.takeR
  rw [if_pos e1, if_neg (by omega)]
  exact ⟨rfl, rfl⟩

/-- An allocator at work within a law. -/
structure Wk (w0 w : World) (p : Nat) (X : Ly) (n c : Nat) (K : Kc) : Prop where
  ka : KA w p X K
  ab : ∃ M, Ab K M
  nb : ∀ j, Bl p X j → w0.heap.size ≤ j
  fr : Fr (fun _ => False) w0 w
  len : K.s.length = n
  ch : K.ch ≤ c

theorem Wk.next {w0 w w' : World} {p : Nat} {X : Ly} {n c c' : Nat} {K K' : Kc} (H : Wk w0 w p X n c K) (h : KA w' p X K') (f : Fr (Bl p X) w w') (hab : ∀ M, Ab K M → ∃ M', Ab K' M') (hl : K'.s.length = K.s.length) (hc : K'.ch ≤ c') : Wk w0 w' p X n c' K' := by
  obtain ⟨M, hM⟩ := H.ab
  exact ⟨h, hab M hM, H.nb, H.fr.trans f (fun j hj hb => by have := H.nb j hb; omega), hl.trans H.len, hc⟩
theorem Wk.take {w0 w w' : World} {p : Nat} {X : Ly} {n c : Nat} {K : Kc} (H : Wk w0 w p X n c K) (a : Int) (h : KA w' p X (K.take a).1) (f : Fr (Bl p X) w w') : Wk w0 w' p X n (c + 1) (K.take a).1 :=
  H.next h f (fun M hM => ⟨_, (hM.take a).2⟩) (take_cn K a).2.2 (Nat.le_trans (take_ch1 K a) (Nat.succ_le_succ H.ch))
theorem Wk.takeR {w0 w w' : World} {p : Nat} {X : Ly} {n c : Nat} {K : Kc} (H : Wk w0 w p X n c K) (a : Int) (h : KA w' p X (K.takeR a).1) (f : Fr (Bl p X) w w') : Wk w0 w' p X n (c + 1) (K.takeR a).1 :=
  H.next h f (fun M hM => ⟨_, (hM.takeR a).2⟩) (takeR_cn K a).2.2 (Nat.le_trans (takeR_ch1 K a) (Nat.succ_le_succ H.ch))
theorem Wk.kept {w0 w w' : World} {p : Nat} {X : Ly} {n c : Nat} {K : Kc} (H : Wk w0 w p X n c K) (f : Fr (fun _ => False) w w') : Wk w0 w' p X n c K :=
  { H with ka := H.ka.kept f (fun _ _ h => h), fr := H.fr.trans f (fun _ _ h => h) }

set_option maxRecDepth 100000 in
set_option maxHeartbeats 4000000 in
theorem allocReserved_any (w : World) (nb n bt : Int) (v : Value) (l : List (Int × Int)) (hl : RdA w v l) : Calls Try.prog 8 #[.agg #[.int .i64 nb, v, .int .i64 n, .int .i64 bt]] w fun e w' => e = .returned (.bool true) ∧ Fr (fun _ => False) w w' := by
  obtain ⟨ao, cap, rfl⟩ := hl.shape
  have HL := hide hl
  obtain ⟨L, hL⟩ : ∃ L, L = l.length := ⟨_, rfl⟩
  rw [← hL] at HL ⊢
  have HLL := hide hL
  clear hl hL
  obtain ⟨w1, hw1⟩ : ∃ w1, w1 = w.alloc (.cells #[.int .i64 nb, .slice ao L cap, .int .i64 n, .int .i64 bt] 60) := ⟨_, rfl⟩
  have f1 : Fr (fun _ => False) w w1 := by rw [hw1]; exact (Fr.refl _ _).alloc _
  have HF1 := hide f1
  have HW1 := hide hw1
  have HLV : Hid (∀ W, Fr (fun _ => False) w W → Calls Try.prog 10 #[] W fun e w' => e = .returned (.bool true) ∧ Fr (fun _ => False) w w') := hide (fun W f => (live_any W).mono (fun e w' h => ⟨h.1, f.trans h.2 (fun _ _ h => h)⟩))
  have hbx : w1.heap[w.heap.size]? = some (.cells #[.int .i64 nb, .slice ao L cap, .int .i64 n, .int .i64 bt] 60 (0, 0)) := by rw [hw1]; exact heap_alloc_new w _
  have c0 : w1.cell? ⟨w.heap.size, 0, none⟩ = some (.int .i64 nb) := by rw [cell_of_heap hbx]; rfl
  have c1 : w1.cell? ⟨w.heap.size, 1, none⟩ = some (.slice ao L cap) := by rw [cell_of_heap hbx]; rfl
  have c2 : w1.cell? ⟨w.heap.size, 2, none⟩ = some (.int .i64 n) := by rw [cell_of_heap hbx]; rfl
  have c3 : w1.cell? ⟨w.heap.size, 3, none⟩ = some (.int .i64 bt) := by rw [cell_of_heap hbx]; rfl
  clear f1 hw1 hbx
  by_cases g0 : 80 < L
  · have b0 : decide ((80 : Int) < (L : Int)) = true := by simp; omega
    clear g0
    go_enter Try.func8, Try.ntmps8
    go_wp2_with fail
    rw [← unhide HW1]
    go_quiet (fail)
    go_wp2_with fail
    refine (unhide HLV _ ((unhide HF1).drewN _)).mono ?_
    rintro e w2 ⟨rfl, f2⟩
    have HF2 := hide f2
    clear f2
    go_wp2_with fail
    go_ret
    exact ⟨rfl, unhide HF2⟩
  have b0 : decide ((80 : Int) < (L : Int)) = false := by simp; omega
  by_cases g1 : 200 < nb
  · have b1 : decide (200 < nb) = true := by simp; omega
    clear g1 g0
    go_enter Try.func8, Try.ntmps8
    go_wp2_with fail
    rw [← unhide HW1]
    go_quiet (fail)
    go_wp2_with fail
    refine (unhide HLV _ ((unhide HF1).drewN _)).mono ?_
    rintro e w2 ⟨rfl, f2⟩
    have HF2 := hide f2
    clear f2
    go_wp2_with fail
    go_ret
    exact ⟨rfl, unhide HF2⟩
  have b1 : decide (200 < nb) = false := by simp; omega
  by_cases g2 : n < 0
  · have b2 : decide (n < 0) = true := by simp; omega
    clear g2 g0 g1
    go_enter Try.func8, Try.ntmps8
    go_wp2_with fail
    rw [← unhide HW1]
    go_quiet (fail)
    go_wp2_with fail
    refine (unhide HLV _ ((unhide HF1).drewN _)).mono ?_
    rintro e w2 ⟨rfl, f2⟩
    have HF2 := hide f2
    clear f2
    go_wp2_with fail
    go_ret
    exact ⟨rfl, unhide HF2⟩
  have b2 : decide (n < 0) = false := by simp; omega
  by_cases g3 : 200 < n
  · have b3 : decide (200 < n) = true := by simp; omega
    clear g3 g0 g1 g2
    go_enter Try.func8, Try.ntmps8
    go_wp2_with fail
    rw [← unhide HW1]
    go_quiet (fail)
    go_wp2_with fail
    refine (unhide HLV _ ((unhide HF1).drewN _)).mono ?_
    rintro e w2 ⟨rfl, f2⟩
    have HF2 := hide f2
    clear f2
    go_wp2_with fail
    go_ret
    exact ⟨rfl, unhide HF2⟩
  have b3 : decide (200 < n) = false := by simp; omega
  by_cases g4 : bt < 0
  · have b4 : decide (bt < 0) = true := by simp; omega
    clear g4 g0 g1 g2 g3
    go_enter Try.func8, Try.ntmps8
    go_wp2_with fail
    rw [← unhide HW1]
    go_quiet (fail)
    go_wp2_with fail
    refine (unhide HLV _ ((unhide HF1).drewN _)).mono ?_
    rintro e w2 ⟨rfl, f2⟩
    have HF2 := hide f2
    clear f2
    go_wp2_with fail
    go_ret
    exact ⟨rfl, unhide HF2⟩
  have b4 : decide (bt < 0) = false := by simp; omega
  by_cases g5 : 10 < bt
  · have b5 : decide (10 < bt) = true := by simp; omega
    clear g5 g0 g1 g2 g3 g4
    go_enter Try.func8, Try.ntmps8
    go_wp2_with fail
    rw [← unhide HW1]
    go_quiet (fail)
    go_wp2_with fail
    refine (unhide HLV _ ((unhide HF1).drewN _)).mono ?_
    rintro e w2 ⟨rfl, f2⟩
    have HF2 := hide f2
    clear f2
    go_wp2_with fail
    go_ret
    exact ⟨rfl, unhide HF2⟩
  have b5 : decide (10 < bt) = false := by simp; omega
  by_cases hn1 : nb < 1
  · have HB : Hid (∀ W, Calls Try.prog 21 #[.int .i64 nb, .slice ao L cap] W fun e w' => e = .returned (.pointer none) ∧ W = w') := hide (fun W => begun_no W nb _ (.inl hn1))
    have b6 : decide (nb < 1) = true := by simpa using hn1
    clear hn1 g0 g1 g2 g3 g4 g5
    go_enter Try.func8, Try.ntmps8
    go_wp2_with fail
    rw [← unhide HW1]
    go_quiet (fail)
    go_wp2_with fail
    refine (unhide HB _).mono ?_
    rintro e w' ⟨rfl, rfl⟩
    go_wp2_with fail
    refine (unhide HLV _ ((unhide HF1).drewN _)).mono ?_
    rintro e w2 ⟨rfl, f2⟩
    have HF2 := hide f2
    clear f2
    go_wp2_with fail
    go_ret
    exact ⟨rfl, unhide HF2⟩
  obtain ⟨m, rfl⟩ : ∃ m : Nat, nb = (m : Int) := ⟨nb.toNat, by omega⟩
  obtain ⟨q, rfl⟩ : ∃ q : Nat, n = (q : Int) := ⟨n.toNat, by omega⟩
  obtain ⟨t, rfl⟩ : ∃ t : Nat, bt = (t : Int) := ⟨bt.toNat, by omega⟩
  have hm1 : 1 ≤ m := by omega
  have hm2 : m ≤ 200 := by omega
  have hq : q ≤ 200 := by omega
  have ht : t ≤ 10 := by omega
  have HB : Hid (∀ W, Fr (fun _ => False) w W → Calls Try.prog 21 #[.int .i64 (m : Int), .slice ao L cap] W fun e w' => Bg W m e w') := hide (fun W f => by
    have h1 := (unhide HL).kept f
    have h2 := unhide HLL
    exact begun_ok W m hm1 (by omega) _ l h1 (by omega))
  clear g0 g1 g2 g3 g4 g5 hn1
  go_enter Try.func8, Try.ntmps8
  go_wp2_with fail
  rw [← unhide HW1]
  go_quiet (fail)
  go_wp2_with fail
  refine (unhide HB _ ((unhide HF1).drewN _)).mono ?_
  rintro e w2 ⟨p, X, K, M, rfl, hK, hM, hKl, hnew, f2, hch, hhh⟩
  have HWK : Hid (Wk w w2 p X m (100 * 200000) K) := hide ⟨hK, ⟨M, hM⟩, fun j hj => by
    have := hnew j hj
    have h3 := ((unhide HF1).drewN nq).size
    omega, ((unhide HF1).drewN nq).trans f2 (fun _ _ h => h), hKl, hch⟩
  have HRS := hide (reserve_any w2 p X K hK (q : Int))
  have HRF := hide hM.rf
  clear hK hM hKl hnew f2 hch hhh HB
  unfold ptr at *
  by_cases hroom : (fr K.s : Int) - (K.r : Int) < (q : Int)
  · have er : K.reserve (q : Int) = (K, 100) := by unfold Kc.reserve; rw [if_neg (by omega), if_pos hroom]
    rw [er] at HRS
    have b7 : decide ((fr K.s : Int) - (K.r : Int) < (q : Int)) = true := by simpa using hroom
    have hfl : fr K.s ≤ 65536 := by have := fr_le K.s; have := (unhide HWK).len; omega
    have hrl := unhide HRF
    clear er hroom
    go_wp2_with fail
    refine (unhide HRS).mono ?_
    rintro e w3 ⟨rfl, hK3, f3⟩
    have HW3 := hide ((unhide HWK).next hK3 f3 (fun M hM => ⟨M, hM⟩) rfl (unhide HWK).ch)
    have HFR := hide (free_any w3 p X K hK3)
    have HRE := hide (reserved_any w3 p X K hK3)
    clear hK3 f3 HRS HWK
    generalize fr K.s = f at *
    generalize K.r = r at *
    unfold ptr at *
    go_wp2_with (first | (go_at_call 13; refine (num_any _ _).mono ?_; rintro e w' ⟨rfl, rfl⟩) | (go_at_call 19; refine (unhide HFR).mono ?_; rintro e w' ⟨rfl, rfl⟩) | (go_at_call 27; refine (unhide HRE).mono ?_; rintro e w' ⟨rfl, rfl⟩))
    refine (unhide HLV _ (unhide HW3).fr).mono ?_
    rintro e w4 ⟨rfl, f4⟩
    have HF4 := hide f4
    clear f4
    go_wp2_with fail
    go_ret
    exact ⟨rfl, unhide HF4⟩
  have er : K.reserve (q : Int) = ({ K with r := K.r + q }, 0) := by unfold Kc.reserve; rw [if_neg (by omega), if_neg hroom, Int.toNat_natCast]
  rw [er] at HRS
  have hrl := unhide HRF
  have HAR : Hid (∀ M, Ab K M → ∃ M', Ab { K with r := K.r + q } M') := hide (fun M hM => ⟨_, hM.setR (K.r + q) (by omega)⟩)
  clear er hroom
  go_wp2_with fail
  refine (unhide HRS).mono ?_
  rintro e w3 ⟨rfl, hK3, f3⟩
  have HW3 := hide ((unhide HWK).next hK3 f3 (unhide HAR) rfl (unhide HWK).ch)
  obtain ⟨K3, hK3e⟩ : ∃ K3, K3 = ({ K with r := K.r + q } : Kc) := ⟨_, rfl⟩
  have hr3 : q ≤ K3.r := by rw [hK3e]; simp
  rw [← hK3e] at HW3
  have HR3 := hide hr3
  clear hK3 f3 HRS HWK hrl hK3e HAR HRF hr3
  go_wp2_with (go_at_call 13; refine (num_any _ _).mono ?_; rintro e w' ⟨rfl, rfl⟩)
  go_loopw [8] (fun y W => ∃ i : Nat, i ≤ q ∧ y = .int .i64 (i : Int) ∧ ∃ K, Wk w W p X m (100 * 200000 + 20 * i) K ∧ q ≤ K.r + i) (fun y _ => q - (intOf y).toNat)
  case atStart => exact ⟨0, by omega, rfl, K3, unhide HW3, by have := unhide HR3; omega⟩
  case round =>
    clear HW3 HR3
    obtain ⟨i, hi, rfl, K4, hW4, hr4⟩ := hrel
    have HW4 := hide hW4
    have HR4 := hide hr4
    by_cases hlt : i < q
    · have hmod : (i : Int) % (m : Int) = ((i % m : Nat) : Int) := by rw [Int.natCast_emod]
      obtain ⟨im, him⟩ : ∃ im, im = i % m := ⟨_, rfl⟩
      rw [← him] at hmod
      have himl : im < m := by rw [him]; exact Nat.mod_lt _ (by omega)
      clear hW4 hr4 him
      go_wp2_with fail
      go_loopw [9] (fun y W => ∃ j : Nat, j ≤ t ∧ y = .int .i64 (j : Int) ∧ ∃ K, Wk w W p X m (100 * 200000 + 20 * i + j) K ∧ q ≤ K.r + i) (fun y _ => t - (intOf y).toNat)
      case atStart => exact ⟨0, by omega, rfl, K4, unhide HW4, unhide HR4⟩
      case round =>
        clear HW4 HR4
        obtain ⟨j, hj, rfl, K5, hW5, hr5⟩ := hrel
        have HW5 := hide hW5
        have HR5 := hide hr5
        by_cases hjt : j < t
        · have HT := hide (take_any wr p X K5 hW5.ka ((im : Nat) : Int) (by have := hW5.ch; omega))
          clear hW5 hr5
          unfold ptr at *
          go_wp2_with fail
          refine (unhide HT).mono ?_
          rintro e w6 ⟨rfl, hK6, f6⟩
          have HW6 := hide ((unhide HW5).take (im : Int) hK6 f6)
          have HR6 : Hid (q ≤ (K5.take (im : Int)).1.r + i) := hide (by rw [take_r]; exact unhide HR5)
          generalize (K5.take (im : Int)).2.1 = x1 at *
          generalize (K5.take (im : Int)).2.2 = x2 at *
          generalize (K5.take (im : Int)).1 = K6 at *
          clear hK6 f6 HT HW5 HR5
          go_wp2_with fail
          go_roundw
          case rel => exact ⟨j + 1, by omega, by go_num, K6, unhide HW6, unhide HR6⟩
          case measure => simp [intOf]; omega
        · have hje : j = t := by omega
          subst hje
          have hlen := hW5.len
          obtain ⟨hz, hrr⟩ := takeR_ok K5 im (by omega) (by omega)
          obtain ⟨M5, hM5⟩ := hW5.ab
          have HT := hide (takeR_any wr p X K5 hW5.ka ((im : Nat) : Int) hM5.rf (by have := hW5.ch; omega))
          rw [hz] at HT
          have HRR := hide hrr
          clear hW5 hr5 hz hrr hlen hM5
          unfold ptr at *
          go_wp2_with fail
          refine (unhide HT).mono ?_
          rintro e w6 ⟨rfl, hK6, f6⟩
          have HW6 := hide ((unhide HW5).takeR (im : Int) hK6 f6)
          have HR6 : Hid (q ≤ (K5.takeR (im : Int)).1.r + (i + 1)) := hide (by rw [unhide HRR]; have := unhide HR5; omega)
          generalize (K5.takeR (im : Int)).2.1 = x1 at *
          generalize (K5.takeR (im : Int)).1 = K6 at *
          clear hK6 f6 HT HW5 HR5 HRR
          go_wp2_with (go_at_call 13; refine (num_any _ _).mono ?_; rintro e w' ⟨rfl, rfl⟩)
          go_roundw
          case rel =>
            have h6 := unhide HW6
            exact ⟨i + 1, by omega, by go_num, K6, { h6 with ch := Nat.le_trans h6.ch (by omega) }, unhide HR6⟩
          case measure => simp [intOf]; omega
    · have hie : i = q := by omega
      subst hie
      clear hW4 hr4
      go_wp2_with fail
      refine (unhide HLV _ (unhide HW4).fr).mono ?_
      rintro e w5 ⟨rfl, f5⟩
      have HF5 := hide f5
      clear f5
      go_wp2_with fail
      go_ret
      exact ⟨rfl, unhide HF5⟩
end Go.Proofs.Ytbpajilglfabbaa
