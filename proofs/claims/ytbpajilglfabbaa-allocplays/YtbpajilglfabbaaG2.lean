/-
  The document's Load; both allocators of one bitmap; the law's act where it copies.
-/
import Derived.Test.YtbpajilglfabbaaG1
namespace Go.Proofs.Ytbpajilglfabbaa
open Go.RowKit
set_option linter.unusedVariables false

attribute [local go_sem ↓] Go.wp_at_zero Go.wp_at_succ

theorem bits_no : ∀ x : Fin 256, ∀ k : Fin 8, (bits BinOp.and IntKind.u8 (((x.1 : Nat) : Int) / 2 ^ k.1) 1 == 0) = !(UInt8.ofNat x.1).toNat.testBit k.1 := by decide +kernel
theorem bit_no (x : UInt8) (k : Nat) (hk : k < 8) : (bits BinOp.and IntKind.u8 (((x.toNat : Nat) : Int) / 2 ^ k) 1 == 0) = !bit8 x k := by
  have := bits_no ⟨x.toNat, x.toNat_lt⟩ ⟨k, hk⟩
  simpa [bit8] using this

/-- The document's Load: its allocator. -/
def ldM (n : Int) (m : List UInt8) : Rc := ⟨setL (bitsL m (8 * m.length)) (List.replicate n.toNat 0) 1, [], [], 0, 0⟩
def ldR (k : Nat) (l : List Nat) : Rc := ⟨setL l (List.replicate k 0) 1, [], [], 0, 0⟩
theorem ldR_snoc (k : Nat) (l : List Nat) (i : Nat) : ldR k (l ++ [i]) = { ldR k l with s := (ldR k l).s.set i 1 } := by unfold ldR; rw [setL_snoc]
def RdEnd (w : World) (n : Int) (m : List UInt8) (e : Ending) (w' : World) : Prop :=
  ((ldE n m = 0 ∧ ∃ p Y, e = .returned (.tuple #[ptr p, .int .i64 0]) ∧ RA w' p Y (ldM n m) ∧ ∀ k, Rb p Y k → w.heap.size ≤ k) ∨ (ldE n m ≠ 0 ∧ e = .returned (.tuple #[.pointer none, .int .i64 (ldE n m)]))) ∧ Fr (fun _ => False) w w'

section
variable (w : World)

set_option maxRecDepth 100000 in
set_option maxHeartbeats 2000000 in
theorem rload_any (n : Int) (v : Value) (m : List UInt8) (hv : Rd w v m) : Calls Try.prog 12 #[.int .i64 n, v] w fun e w' => RdEnd w n m e w' := by
  by_cases h0 : n < 1 ∨ 65536 < n
  · have HN := hide (rnew_no w n h0)
    have e1 : ldE n m = 2 := by unfold ldE; rw [if_pos h0]
    have HE := hide e1
    clear h0 e1 hv
    go_enter Try.func12, Try.ntmps12
    go_wp2_with fail
    refine (unhide HN).mono ?_
    rintro e w' ⟨rfl, rfl⟩
    go_wp2_with fail
    go_ret2
    exact ⟨.inr ⟨by rw [unhide HE]; decide, by rw [unhide HE]; rfl⟩, Fr.refl _ _⟩
  · obtain ⟨k, rfl⟩ : ∃ k : Nat, n = (k : Int) := ⟨n.toNat, by omega⟩
    have hk1 : 1 ≤ k := by omega
    have hk2 : k ≤ 65536 := by omega
    have HN := hide (rnew_ok w k hk1 hk2)
    obtain ⟨ao, cc, rfl⟩ := hv.shape
    have HV := hide hv
    have hlm := hv.len
    obtain ⟨L, hL⟩ : ∃ L, L = m.length := ⟨_, rfl⟩
    rw [← hL] at HV hlm ⊢
    have HL := hide hL
    obtain ⟨B, hB⟩ : ∃ B, B = (k + 7) / 8 := ⟨_, rfl⟩
    have HB := hide hB
    have hdiv : ((k : Int) + 7) / 8 = (B : Int) := by omega
    by_cases hl : L = B
    · have hLE : ldE (k : Int) m = (if okL m k = true then 0 else 102) := by
        unfold ldE
        rw [if_neg h0, if_neg (by rw [Int.toNat_natCast]; omega), Int.toNat_natCast]
      have HLE := hide hLE
      have HK1 := hide hk1
      have hLs : L ≤ 8193 := by omega
      rw [← hl] at hdiv
      have HKB : Hid (k ≤ 65536) := hide hk2
      clear h0 hv hL hB hLE hk1 hlm hl
      unfold ptr at *
      go_enter Try.func12, Try.ntmps12
      go_wp2_with fail
      refine (unhide HN).mono ?_
      rintro e w1 ⟨⟨p, Y, rfl, hR, hnew⟩, f1⟩
      have HR := hide hR
      have HNEW := hide hnew
      have HF1 := hide f1
      clear hR hnew f1 HN
      go_wp2_with fail
      go_loopw [8] (fun x W => ∃ i : Nat, i ≤ 8 * L ∧ x = .int .i64 (i : Int) ∧ (∀ b ∈ bitsL m i, b < k) ∧ RA W p Y (ldR k (bitsL m i)) ∧ Fr (fun j => j = Y.q) w1 W) (fun x _ => 8 * L - (intOf x).toNat)
      case atStart => exact ⟨0, by omega, rfl, by simp [bitsL], unhide HR, Fr.refl _ _⟩
      case round =>
        obtain ⟨i, hi, rfl, hall, hRi, hF⟩ := hrel
        have HALL := hide hall
        have HRI := hide hRi
        have HF := hide hF
        have HFW : Hid (Fr (fun _ => False) w wr) := hide ((unhide HF1).trans hF (fun b hb e => by have := unhide HNEW Y.q (.inr (.inl rfl)); omega))
        by_cases hlt : i < 8 * L
        · have hil : i / 8 < m.length := by have := unhide HL; omega
          obtain ⟨vb, vo, rfl, -, q1, q2, q3⟩ := ((unhide HV).kept (unhide HFW) (fun _ _ h => h)).lits (by have := unhide HL; omega)
          have hc := q3 (i / 8) hil
          have hgb : gb m i = bit8 m[i / 8] (i % 8) := by unfold gb; simp [List.getD, hil]
          have hbn := bit_no m[i / 8] (i % 8) (by omega)
          rw [← hgb] at hbn
          have hx := (m[i / 8]).toNat_lt
          generalize (m[i / 8]).toNat = xb at *
          have i8 : i / 8 < L := by have := unhide HL; omega
          clear q3 hgb hil
          cases hbit : gb m i
          · rw [hbit] at hbn
            simp only [Bool.not_false] at hbn
            have HBN := hide (bitsL_no hbit)
            clear hbit hall hRi hF
            go_wp2_with fail
            go_roundw
            case rel => exact ⟨i + 1, by omega, by go_num, by rw [unhide HBN]; exact unhide HALL, by rw [unhide HBN]; exact unhide HRI, unhide HF⟩
            case measure => simp [intOf]; omega
          · rw [hbit] at hbn
            simp only [Bool.not_true] at hbn
            have HBY := hide (bitsL_yes hbit)
            by_cases hik : i < k
            · have bge : decide (k ≤ i) = false := by simp; omega
              have d0 := hRi.c0
              have el : (ldR k (bitsL m i)).s.length = k := by show (setL _ _ _).length = k; rw [setL_length]; simp
              rw [el] at d0
              obtain ⟨u, hu⟩ := get_ex (show i < (ldR k (bitsL m i)).s.length by rw [el]; exact hik)
              have du := hRi.state hu
              have zu := frozen_of_heap hRi.st i
              have HS := hide (hRi.setS i 1)
              have HIK := hide hik
              generalize u.toNat = un at *
              clear hbit hall hRi hF el hu
              go_wp2_with fail
              go_roundw
              case rel =>
                refine ⟨i + 1, by omega, by go_num, ?_, ?_, (unhide HF).setCell (p := ⟨Y.q, i, none⟩) (fun _ => rfl) _⟩
                · rw [unhide HBY]
                  intro b hb
                  rcases List.mem_append.1 hb with h | h
                  · exact unhide HALL b h
                  · simp at h; rw [h]; exact unhide HIK
                · rw [unhide HBY, ldR_snoc]; exact unhide HS
              case measure => simp [intOf]; omega
            · have bge : decide (k ≤ i) = true := by simp; omega
              have HE : Hid (ldE (k : Int) m = 102) := hide (by
                rw [unhide HLE, if_neg]
                intro h
                rw [okL_iff] at h
                exact hik (h i (mem_bitsL.2 ⟨by have := unhide HL; omega, hbit⟩)))
              clear hbit hall hRi hF
              go_wp2_with fail
              go_ret2
              exact ⟨.inr ⟨by rw [unhide HE]; decide, by rw [unhide HE]; rfl⟩, unhide HFW⟩
        · have hie : i = 8 * L := by omega
          have HE : Hid (ldE (k : Int) m = 0) := hide (by
            rw [unhide HLE, if_pos]
            rw [okL_iff, ← unhide HL, ← hie]
            exact unhide HALL)
          have HRE : Hid (RA wr p Y (ldM (k : Int) m)) := hide (by
            unfold ldM
            rw [Int.toNat_natCast, ← unhide HL, ← hie]
            exact unhide HRI)
          subst hie
          clear hall hRi hF hlt
          go_wp2_with fail
          go_ret2
          exact ⟨.inl ⟨unhide HE, p, Y, rfl, unhide HRE, unhide HNEW⟩, unhide HFW⟩
    · have hLE : ldE (k : Int) m = 102 := by
        unfold ldE
        rw [if_neg h0, if_pos (by rw [Int.toNat_natCast]; omega)]
      have HE := hide hLE
      have bne : ((L : Int) != (B : Int)) = true := by simp; omega
      clear h0 hv hL hB hLE hk1 hl
      unfold ptr at *
      go_enter Try.func12, Try.ntmps12
      go_wp2_with fail
      refine (unhide HN).mono ?_
      rintro e w1 ⟨⟨p, Y, rfl, hR, hnew⟩, f1⟩
      have HF1 := hide f1
      clear hR hnew f1
      go_wp2_with fail
      go_ret2
      exact ⟨.inr ⟨by rw [unhide HE]; decide, by rw [unhide HE]; rfl⟩, unhide HF1⟩
end

/-- Both allocators of one bitmap. -/
theorem Ab.load (n : Int) (m : List UInt8) (h : ldE n m = 0) : Ab (ldS n m) (ldM n m) := by
  obtain ⟨k, hk⟩ : ∃ k, k = n.toNat := ⟨_, rfl⟩
  have A := Ab.new k
  have hok : ∀ b ∈ bitsL m (8 * m.length), b < k := by
    unfold ldE at h
    split at h
    · exact absurd h (by decide)
    · split at h
      · exact absurd h (by decide)
      · split at h
        · rename_i h1; rw [hk]; exact (okL_iff _ _).1 h1
        · exact absurd h (by decide)
  have hl : ∀ b ∈ bitsL m (8 * m.length), b < (kc0 k).s.length := fun b hb => by simpa [kc0] using hok b hb
  obtain ⟨f1, f2⟩ := setL_facts (kc0 k) (bitsL m (8 * m.length)) 1 A.cl A.cb hl
  have hs : (ldS n m).s = setL (bitsL m (8 * m.length)) (List.replicate k 0) 1 := by unfold ldS; rw [Kc.setL_s, hk]; rfl
  have hg : ∀ (b : Nat) v, (ldS n m).s[b]? = some v → v = 0 ∨ v = 1 := fun b v hv => by
    rw [hs, setL_get] at hv
    split at hv
    · right; simpa using hv.symm
    · left
      rw [List.getElem?_replicate] at hv
      split at hv <;> simp at hv
      exact hv.symm
  have e : ldS n m = (kc0 k).setL (bitsL m (8 * m.length)) 1 := by unfold ldS; rw [hk]
  refine ⟨?_, ?_, ?_, by rw [e]; exact f1, List.Pairwise.nil, fun b => ⟨fun h => by simp [ldM] at h, fun h => ?_⟩, List.Pairwise.nil, fun b => ⟨fun h => by simp [ldM] at h, fun h => ?_⟩, by rw [e]; exact f2, ?_, fun _ b h => ?_, fun b v hv => ?_⟩
  · rw [hs]; unfold ldM; rw [hk]
  · rw [e, Kc.setL_r]; rfl
  · rw [e, Kc.setL_h]; rfl
  · rcases hg b 2 h with h | h <;> exact absurd h (by decide)
  · rcases hg b 3 h with h | h <;> exact absurd h (by decide)
  · rw [e, Kc.setL_r]; exact Nat.zero_le _
  · rcases hg b 4 h with h | h <;> exact absurd h (by decide)
  · rcases hg b v hv with rfl | rfl <;> decide

/-- What act leaves, whatever the act is. -/
def AF (w0 : World) (p' : Nat) (k : Nat) (e : Ending) (w' : World) : Prop :=
  ∃ q X' Y' K' M', e = .returned (.tuple #[ptr q, .bool true]) ∧ PA w0 w' q X' p' Y' K' M' (k + 1)

section
variable (w0 w : World) (p : Nat) (X : Ly) (p' : Nat) (Y : Lr) (K : Kc) (M : Rc) (k : Nat)
set_option maxRecDepth 100000 in
set_option maxHeartbeats 4000000 in
theorem act_copy (H : PA w0 w p X p' Y K M k) (hk : k ≤ 100000) (n : Int) : Calls Try.prog 14 #[ptr p, ptr p', .agg #[.int .i64 9, .int .i64 n]] w fun e w' => AF w0 p' k e w' := by
  obtain ⟨w1, hw1⟩ : ∃ w1, w1 = w.alloc (.cells #[.int .i64 9, .int .i64 n] 36) := ⟨_, rfl⟩
  have f1 : Fr (fun _ => False) w w1 := by rw [hw1]; exact (Fr.refl _ _).alloc _
  have H1 := H.kept f1
  obtain ⟨hb0, hb1, hb3, hb4, hb5⟩ := H.bd hk
  have hkb := H.kb
  have HCP := hide (copy_any w1 p X K H1.ka)
  have HW1 := hide hw1
  have HP := hide H1
  have HKB := hide hkb
  have HK100 := hide hk
  clear hw1 H H1 hb0 hb1 hb3 hb4 hb5 hkb f1 hk
  unfold ptr at *
  go_enter Try.func14, Try.ntmps14
  go_wp2_with fail
  rw [← unhide HW1]
  refine (unhide HCP).mono ?_
  rintro e w2 ⟨⟨q, X', rfl, hq, hnq⟩, f2⟩
  have HQ := hide hq
  have HNQ := hide hnq
  have HP2 := hide ((unhide HP).kept f2)
  have HAP : Hid (∀ j, Bl q X' j → ¬ Bl p X j) := hide (fun j h1 h2 => by have := hnq j h1; have := (unhide HP).ka.lt j h2; omega)
  obtain ⟨hb0, hb1, hb3, hb4, hb5⟩ := (unhide HP2).bd (unhide HK100)
  have HT := hide (take_any w2 p X K (unhide HP2).ka 0 hb1)
  have HT1 := hide (take_ch1 K 0)
  have HTB := hide hb0
  have HNB : Hid (∀ j, Bl q X' j → w0.heap.size ≤ j) := hide (fun j hj => Nat.le_trans (unhide HP).fr.size (hnq j hj))
  clear hq hnq f2 HCP hb0 hb1 hb3 hb4 hb5
  unfold ptr at *
  have hne : (binOp .eql 25 (.pointer (some ⟨q, 0, none⟩)) (.pointer none)).run Try.prog w2 = .ok (.bool false) w2 := eql_ptr w2 q
  go_wp2_with fail
  refine (unhide HT).mono ?_
  rintro e w3 ⟨rfl, hK3, f3⟩
  generalize (K.take 0).2.1 = x1 at *
  generalize (K.take 0).2.2 = x2 at *
  generalize (K.take 0).1 = K3 at *
  have HG := hide (give_any w3 p X K3 hK3 1 (by have := unhide HT1; have := unhide HTB; omega))
  have HG1 := hide (Nat.le_trans (Nat.succ_le_succ (unhide HT1)) (Nat.le_refl _))
  have HGC : Hid ((K3.give 1).1.ch ≤ K.ch + 2) := hide (by
    have h1 := unhide HT1
    have h2 : (K3.give 1).1.ch ≤ K3.ch + 1 := by
      unfold Kc.give
      split
      · split
        · exact Nat.le_refl _
        · split
          · exact Nat.le_refl _
          · exact Nat.le_succ _
      · exact Nat.le_succ _
    omega)
  have HF3 := hide f3
  clear hK3 f3 HT
  unfold ptr at *
  go_wp2_with fail
  refine (unhide HG).mono ?_
  rintro e w4 ⟨rfl, hK4, f4⟩
  generalize (K3.give 1).2 = x3 at *
  generalize (K3.give 1).1 = K4 at *
  have hbig : K.ch + 500000 < 4611686018427387904 := by have h1 := unhide HKB; have h2 := unhide HK100; omega
  have HC := hide (commit_any w4 p X K4 hK4 (by have := unhide HGC; omega))
  have HCC : Hid (K4.commit.ch ≤ K.ch + 200002) := hide (by have := (commit_cn K4 hK4.n2).1; have := unhide HGC; omega)
  have HBIG := hide hbig
  have HF4 := hide ((unhide HF3).trans f4 (fun _ _ h => h))
  clear hK4 f4 HG HF3 hbig HG1
  unfold ptr at *
  go_wp2_with fail
  refine (unhide HC).mono ?_
  rintro e w5 ⟨⟨x, y, rfl, hx, hy⟩, hK5, f5⟩
  obtain ⟨xo, xn, xc, rfl, -⟩ := hx.shape
  obtain ⟨yo, yn, yc, rfl, -⟩ := hy.shape
  generalize K4.commit = K5 at *
  have HLG := hide (letGo_any w5 p X K5 hK5 (by have h1 := unhide HCC; have h2 := unhide HBIG; omega))
  have HF5 := hide ((unhide HF4).trans f5 (fun _ _ h => h))
  clear hK5 f5 hx hy HC HF4
  unfold ptr at *
  go_wp2_with fail
  refine (unhide HLG).mono ?_
  rintro e w6 ⟨⟨u, rfl, hu⟩, hK6, f6⟩
  obtain ⟨uo, un, uc, rfl, -⟩ := hu.shape
  have HF6 := hide ((unhide HF5).trans f6 (fun _ _ h => h))
  clear hu hK6 f6 HLG HF5
  go_wp2_with fail
  go_ret2
  have P2 := unhide HP2
  have f26 := unhide HF6
  refine ⟨q, X', Y, K, M, rfl, ⟨(unhide HQ).kept f26 (fun j hj hb => unhide HAP j hj hb), P2.ra.kept f26 (fun j hj hb => apart P2.ka P2.ra hb hj), P2.ab, unhide HNB, P2.nr, P2.fr.trans f26 (fun j hj hb => by have := P2.nb j hb; omega), Nat.le_trans P2.kb (Nat.mul_le_mul_right _ (Nat.le_succ k)), Nat.le_succ_of_le P2.hb⟩⟩
theorem act_all (H : PA w0 w p X p' Y K M k) (hk : k ≤ 100000) (kd n : Int) : Calls Try.prog 14 #[ptr p, ptr p', .agg #[.int .i64 kd, .int .i64 n]] w fun e w' => AF w0 p' k e w' := by
  by_cases h9 : kd = 9
  · subst h9; exact act_copy w0 w p X p' Y K M k H hk n
  · refine (act_any w0 w p X p' Y K M k H hk kd n h9).mono ?_
    rintro e w' ⟨Y', K', M', h1, h2, -⟩
    exact ⟨p, X, Y', K', M', h1, h2⟩
end
end Go.Proofs.Ytbpajilglfabbaa
