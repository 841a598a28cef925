/-
  The walk of AllocOld: within a transaction nothing that was used at its beginning is handed out.
-/
import Derived.Test.YtbpajilglfabbaaE1
namespace Go.Proofs.Ytbpajilglfabbaa
open Go.RowKit
set_option linter.unusedVariables false

attribute [local go_sem ↓] Go.wp_at_zero Go.wp_at_succ

theorem give_ch1 (K : Kc) (a : Int) : (K.give a).1.ch ≤ K.ch + 1 := by
  unfold Kc.give
  split
  · split
    · exact Nat.le_refl _
    · split
      · exact Nat.le_refl _
      · exact Nat.le_succ _
  · exact Nat.le_succ _
theorem reserve_ch1 (K : Kc) (a : Int) : (K.reserve a).1.ch ≤ K.ch + 1 := by
  unfold Kc.reserve
  split
  · exact Nat.le_succ _
  · split <;> exact Nat.le_succ _
theorem Wk.give {w0 w w' : World} {p : Nat} {X : Ly} {n c : Nat} {K : Kc} (H : Wk w0 w p X n c K) (a : Int) (h : KA w' p X (K.give a).1) (f : Fr (Bl p X) w w') : Wk w0 w' p X n (c + 1) (K.give a).1 :=
  H.next h f (fun M hM => ⟨_, (hM.give a).2⟩) (give_cn K a).2.2 (Nat.le_trans (give_ch1 K a) (Nat.succ_le_succ H.ch))
theorem Wk.reserve {w0 w w' : World} {p : Nat} {X : Ly} {n c : Nat} {K : Kc} (H : Wk w0 w p X n c K) (a : Int) (h : KA w' p X (K.reserve a).1) (f : Fr (Bl p X) w w') : Wk w0 w' p X n (c + 1) (K.reserve a).1 :=
  H.next h f (fun M hM => ⟨_, (hM.reserve a).2⟩) (reserve_cn K a).2.2 (Nat.le_trans (reserve_ch1 K a) (Nat.succ_le_succ H.ch))

/-- A slice of bytes made within the law, that the allocator has no part of. -/
structure Bx (w0 w : World) (q N : Nat) (m : List UInt8) : Prop where
  at' : BAt w q m
  len : N = m.length
  new : w0.heap.size ≤ q
theorem Bx.kept {w0 w w' : World} {q N : Nat} {m : List UInt8} {S : Nat → Prop} (h : Bx w0 w q N m) (f : Fr S w w') (hs : ¬ S q) : Bx w0 w' q N m := { h with at' := h.at'.kept f hs }
theorem Bx.far {w0 w : World} {q N : Nat} {m : List UInt8} {p : Nat} {X : Ly} (hb : ∀ k, Bl p X k → k < q) : ¬ Bl p X q := fun h => Nat.lt_irrefl _ (hb q h)

set_option maxRecDepth 100000 in
set_option maxHeartbeats 8000000 in
theorem allocOld_any (w : World) (nb : Int) (v u : Value) (l m : List (Int × Int)) (hl : RdA w v l) (hm : RdA w u m) : Calls Try.prog 6 #[.int .i64 nb, v, u] w fun e w' => e = .returned (.bool true) ∧ Fr (fun _ => False) w w' := by
  obtain ⟨ao, cap, rfl⟩ := hl.shape
  obtain ⟨bo, bcap, rfl⟩ := hm.shape
  have HL := hide hl
  have HM := hide hm
  obtain ⟨L, hL⟩ : ∃ L, L = l.length := ⟨_, rfl⟩
  rw [← hL] at HL ⊢
  have HLL := hide hL
  obtain ⟨Lm, hLm⟩ : ∃ L, L = m.length := ⟨_, rfl⟩
  rw [← hLm] at HM ⊢
  have HLM := hide hLm
  clear hl hL hm hLm
  have HLV : Hid (∀ W, Fr (fun _ => False) w W → Calls Try.prog 10 #[] W fun e w' => e = .returned (.bool true) ∧ Fr (fun _ => False) w w') := hide (fun W f => (live_any W).mono (fun e w' h => ⟨h.1, f.trans h.2 (fun _ _ h => h)⟩))
  by_cases g0 : 80 < L
  · have b0 : decide ((80 : Int) < (L : Int)) = true := by simp; omega
    clear g0
    go_enter Try.func6, Try.ntmps6
    go_wp2_with fail
    refine (unhide HLV _ (Fr.refl _ _)).mono ?_
    rintro e w2 ⟨rfl, f2⟩
    have HF2 := hide f2
    clear f2
    go_wp2_with fail
    go_ret
    exact ⟨rfl, unhide HF2⟩
  have b0 : decide ((80 : Int) < (L : Int)) = false := by simp; omega
  by_cases g1 : 80 < Lm
  · have b1 : decide ((80 : Int) < (Lm : Int)) = true := by simp; omega
    clear g1 g0
    go_enter Try.func6, Try.ntmps6
    go_wp2_with fail
    refine (unhide HLV _ (Fr.refl _ _)).mono ?_
    rintro e w2 ⟨rfl, f2⟩
    have HF2 := hide f2
    clear f2
    go_wp2_with fail
    go_ret
    exact ⟨rfl, unhide HF2⟩
  have b1 : decide ((80 : Int) < (Lm : Int)) = false := by simp; omega
  by_cases g2 : 200 < nb
  · have b2 : decide (200 < nb) = true := by simp; omega
    clear g2 g0 g1
    go_enter Try.func6, Try.ntmps6
    go_wp2_with fail
    refine (unhide HLV _ (Fr.refl _ _)).mono ?_
    rintro e w2 ⟨rfl, f2⟩
    have HF2 := hide f2
    clear f2
    go_wp2_with fail
    go_ret
    exact ⟨rfl, unhide HF2⟩
  have b2 : decide (200 < nb) = false := by simp; omega
  by_cases hn1 : nb < 1
  · have HB : Hid (∀ W, Calls Try.prog 21 #[.int .i64 nb, .slice ao L cap] W fun e w' => e = .returned (.pointer none) ∧ W = w') := hide (fun W => begun_no W nb _ (.inl hn1))
    have b6 : decide (nb < 1) = true := by simpa using hn1
    clear hn1 g0 g1 g2
    go_enter Try.func6, Try.ntmps6
    go_wp2_with fail
    refine (unhide HB _).mono ?_
    rintro e w' ⟨rfl, rfl⟩
    go_wp2_with fail
    refine (unhide HLV _ (Fr.refl _ _)).mono ?_
    rintro e w2 ⟨rfl, f2⟩
    have HF2 := hide f2
    clear f2
    go_wp2_with fail
    go_ret
    exact ⟨rfl, unhide HF2⟩
  obtain ⟨n, rfl⟩ : ∃ n : Nat, nb = (n : Int) := ⟨nb.toNat, by omega⟩
  have hm1 : 1 ≤ n := by omega
  have hm2 : n ≤ 200 := by omega
  have hLm2 : Lm ≤ 80 := by omega
  have HB := hide (begun_ok w n hm1 (by omega) _ l (unhide HL) (by have := unhide HLL; omega))
  clear g0 g1 g2 hn1
  go_enter Try.func6, Try.ntmps6
  go_wp2_with fail
  refine (unhide HB).mono ?_
  rintro e w2 ⟨p, X, K, M, rfl, hK, hM, hKl, hnew, f2, hch, hhh⟩
  have HCM := hide (commit_any w2 p X K hK (by omega))
  have HW0 : Hid (∀ w3, KA w3 p X K.commit → Fr (Bl p X) w2 w3 → Wk w w3 p X n (101 * 200000) K.commit) := hide (fun w3 h f => (⟨hK, ⟨M, hM⟩, hnew, f2, hKl, hch⟩ : Wk w w2 p X n (100 * 200000) K).next h f (fun M hM => ⟨_, hM.commit⟩) (commit_cn K hK.n2).2.2 (by have := (commit_cn K hK.n2).1; omega))
  clear hK hM hKl hnew f2 hch hhh HB
  unfold ptr at *
  go_wp2_with fail
  refine (unhide HCM).mono ?_
  rintro e w3 ⟨⟨x, y, rfl, hx, hy⟩, hK3, f3⟩
  obtain ⟨xo, xn, xc, rfl, -⟩ := hx.shape
  obtain ⟨yo, yn, yc, rfl, -⟩ := hy.shape
  have HW3 := hide (unhide HW0 w3 hK3 f3)
  generalize K.commit = K1 at *
  have HBM := hide (bitmap_any w3 p X K1 hK3)
  clear hx hy hK3 f3 HCM HW0
  unfold ptr at *
  go_wp2_with fail
  refine (unhide HBM).mono ?_
  rintro e w4 ⟨⟨q, N, rfl, hN, hBA, hq⟩, f4⟩
  have HW4 := hide ((unhide HW3).kept f4)
  have hlen := (unhide HW3).len
  rw [bm_length, hlen] at hN
  have HQ : Hid (∀ j, Bl p X j → j ≠ q) := hide (fun j hj e => by have := (unhide HW3).ka.lt j hj; omega)
  have HQN : Hid (w.heap.size ≤ q) := hide (by have := (unhide HW3).fr.size; omega)
  have HB4 := hide hBA
  have bne : ((N : Int) != ((n : Int) + 7) / 8) = false := by simp; omega
  have hNb : N ≤ 26 := by omega
  have HNN := hide hN
  have HLEN := hide hlen
  clear hBA hq f4 hN hlen HBM HW3
  go_wp2_with fail
  go_loopw [9] (fun y W => ∃ i : Nat, i ≤ n ∧ y = .int .i64 (i : Int) ∧ BAt W q (olK K1.s i) ∧ Wk w W p X n (101 * 200000) K1) (fun y _ => n - (intOf y).toNat)
  case atStart => exact ⟨0, by omega, rfl, unhide HB4, unhide HW4⟩
  case round =>
    clear HB4 HW4
    obtain ⟨i, hi, rfl, hB, hW⟩ := hrel
    have HB := hide hB
    have HW := hide hW
    by_cases hlt : i < n
    · have i1 : i < K1.s.length := by have := unhide HLEN; omega
      obtain ⟨z, hz⟩ := get_ex i1
      have HST := hide (stateI_any wr p X K1 (i : Int) hW.ka)
      rw [stI_in hz] at HST
      have i8 : i / 8 < N := by have := unhide HNN; omega
      have hlen8 : (olK K1.s i).length = N := by rw [olK_length, unhide HLEN]; exact (unhide HNN).symm
      have he8 := eq8 z 4
      rw [show (((4 : UInt8).toNat : Nat) : Int) = 4 from rfl] at he8
      unfold ptr at *
      by_cases h4 : z = 4
      · subst h4
        have HOL : Hid (olK K1.s (i + 1) = sb (olK K1.s i) i) := hide (by show (if K1.s[i]? = some 4 then _ else _) = _; rw [if_pos hz])
        have hi8 : i / 8 < (olK K1.s i).length := by omega
        have hc := hB.cell (i / 8) hi8
        have hzf := hB.frozen (i / 8)
        have ho := bit_or (olK K1.s i)[i / 8] (i % 8) (by omega)
        have HBN : Hid (BAt (wr.setCell ⟨q, i / 8, none⟩ (.int .u8 (((or8 (olK K1.s i)[i / 8] (i % 8)).toNat : Nat) : Int))) q (sb (olK K1.s i) i)) := hide (by
          have := hB.set (i / 8) (or8 (olK K1.s i)[i / 8] (i % 8))
          have e : sb (olK K1.s i) i = (olK K1.s i).set (i / 8) (or8 (olK K1.s i)[i / 8] (i % 8)) := by unfold sb; simp [List.getD, hi8]
          rw [e]; exact this)
        have HWN : Hid (Wk w (wr.setCell ⟨q, i / 8, none⟩ (.int .u8 (((or8 (olK K1.s i)[i / 8] (i % 8)).toNat : Nat) : Int))) p X n (101 * 200000) K1) := hide (by
          have fq : Fr (fun k => k = q) wr (wr.setCell ⟨q, i / 8, none⟩ (.int .u8 (((or8 (olK K1.s i)[i / 8] (i % 8)).toNat : Nat) : Int))) := Fr.setCell (S := fun k => k = q) (Fr.refl _ _) (p := ⟨q, i / 8, none⟩) (fun _ => rfl) _
          exact { hW with ka := hW.ka.kept fq (fun j hj e => unhide HQ j hj e), fr := hW.fr.trans fq (fun j hj e => by have := unhide HQN; omega) })
        have hx := ((olK K1.s i)[i / 8]).toNat_lt
        generalize (or8 (olK K1.s i)[i / 8] (i % 8)).toNat = yb at *
        generalize ((olK K1.s i)[i / 8]).toNat = xb at *
        clear hB hW hz hlen8 hi8 i1 he8
        go_wp2_with fail
        refine (unhide HST).mono ?_
        rintro e w' ⟨rfl, rfl⟩
        go_wp2_with fail
        go_roundw
        case rel => exact ⟨i + 1, by omega, by go_num, by rw [unhide HOL]; exact unhide HBN, unhide HWN⟩
        case measure => simp [intOf]; omega
      · have HOL : Hid (olK K1.s (i + 1) = olK K1.s i) := hide (by show (if K1.s[i]? = some 4 then _ else _) = _; rw [if_neg (by rw [hz]; simpa using h4)])
        rw [show (z == 4) = false by simpa using h4] at he8
        generalize z.toNat = zn at *
        clear hB hW hz hlen8 i1 h4
        go_wp2_with fail
        refine (unhide HST).mono ?_
        rintro e w' ⟨rfl, rfl⟩
        go_wp2_with fail
        go_roundw
        case rel => exact ⟨i + 1, by omega, by go_num, by rw [unhide HOL]; exact unhide HB, unhide HW⟩
        case measure => simp [intOf]; omega
    · have hie : i = n := by omega
      have HOB : Hid (BAt wr q (olK K1.s K1.s.length)) := hide (by rw [unhide HLEN, ← hie]; exact hB)
      subst hie
      have HBM := hide (bitmap_any wr p X K1 hW.ka)
      clear hB hW HB
      unfold ptr at *
      go_wp2_with fail
      refine (unhide HBM).mono ?_
      rintro e w6 ⟨⟨q6, N6, rfl, hN6, hBA6, hq6⟩, f6⟩
      have HW6 := hide ((unhide HW).kept f6)
      have HO6 := hide ((unhide HOB).kept f6 id)
      have HQ6 : Hid (∀ j, Bl p X j → j ≠ q6) := hide (fun j hj e => by have := (unhide HW).ka.lt j hj; omega)
      have HB6 := hide hBA6
      have HN6 := hide hN6
      clear hBA6 hq6 f6 hN6 HBM HW HOB
      go_wp2_with fail
      go_loopw [11] (fun y W => ∃ j : Nat, j ≤ Lm ∧ y = .int .i64 (j : Int) ∧ BAt W q (olK K1.s K1.s.length) ∧ BAt W q6 (bm K1.s) ∧ ∃ K, Wk w W p X i (101 * 200000 + j) K ∧ Sm K1.s K.s) (fun y _ => Lm - (intOf y).toNat)
      case atStart => exact ⟨0, by omega, rfl, unhide HO6, unhide HB6, K1, unhide HW6, Sm.refl _⟩
      case round =>
        clear HO6 HB6 HW6
        obtain ⟨j, hj, rfl, hO, hB, K7, hW7, hS7⟩ := hrel
        have HO := hide hO
        have HB := hide hB
        have HW7 := hide hW7
        have HS7 := hide hS7
        by_cases hjl : j < Lm
        · have j1 : j < m.length := by have := unhide HLM; omega
          obtain ⟨mb, mo, rfl, -, hnc, hcm, hcc⟩ := ((unhide HM).kept hW7.fr).lits (by omega)
          obtain ⟨y0, y1⟩ := hcc j j1
          have hjc : j < bcap := by omega
          have hchb := hW7.ch
          obtain ⟨M7, hM7⟩ := hW7.ab
          have HMC : Hid (∀ W, Fr (Bl p X) wr W → W.cell? ⟨mb, mo + j * 2 + 1, none⟩ = W.cell? ⟨mb, mo + j * 2 + 1, none⟩) := hide (fun _ _ => rfl)
          have HTK := hide (take_any wr p X K7 hW7.ka m[j].2 (by omega))
          have HTR := hide (takeR_any wr p X K7 hW7.ka m[j].2 hM7.rf (by omega))
          have HGV := hide (give_any wr p X K7 hW7.ka m[j].2 (by omega))
          have HRS := hide (reserve_any wr p X K7 hW7.ka m[j].2)
          have HAT := hide (ans_take hS7 m[j].2)
          have HAR := hide (ans_takeR hS7 hM7.rf m[j].2)
          have HST := hide (hS7.take m[j].2)
          have HSR := hide (hS7.takeR hM7.rf m[j].2)
          have HSG := hide (hS7.give m[j].2)
          have HSV := hide (hS7.reserve m[j].2)
          have HMV : Hid (∀ w8, Fr (Bl p X) wr w8 → BAt w8 q (olK K1.s K1.s.length) ∧ BAt w8 q6 (bm K1.s)) := hide (fun w8 f8 => ⟨(unhide HO).kept f8 (fun h => unhide HQ q h rfl), (unhide HB).kept f8 (fun h => unhide HQ6 q6 h rfl)⟩)
          have HLO : Hid ((olK K1.s K1.s.length).length = N) := hide (by rw [olK_length, unhide HLEN]; exact (unhide HNN).symm)
          generalize m[j].1 = kd at *
          generalize m[j].2 = kn at *
          clear hO hB hW7 hS7 hcc j1 hchb hM7
          unfold ptr at *
          by_cases k1 : kd = 1
          · subst k1
            obtain ⟨xa, hxa⟩ : ∃ x, x = (K7.take kn).2.1 := ⟨_, rfl⟩
            obtain ⟨ea, hea⟩ : ∃ x, x = (K7.take kn).2.2 := ⟨_, rfl⟩
            have hA := unhide HAT
            rw [← hxa, ← hea] at hA HTK
            have HWN : Hid (∀ w8, KA w8 p X (K7.take kn).1 → Fr (Bl p X) wr w8 → Wk w w8 p X i (101 * 200000 + (j + 1)) (K7.take kn).1) := hide (fun w8 a b => (unhide HW7).take kn a b)
            generalize (K7.take kn).1 = K8 at *
            clear hxa hea
            rcases hA with hne | ⟨rfl, b, rfl, hb1, hb2, hb3⟩
            · have bne2 : (ea == 0) = false := by simpa using hne
              clear hne
              go_wp2_with fail
              refine (unhide HTK).mono ?_
              rintro e w8 ⟨rfl, hK8, f8⟩
              obtain ⟨hO8, hB8⟩ := unhide HMV w8 f8
              have HO8 := hide hO8
              have HB8 := hide hB8
              have HW8 := hide (unhide HWN w8 hK8 f8)
              clear hK8 f8 hO8 hB8
              go_wp2_with (go_at_call 13; refine (num_any _ _).mono ?_; rintro e w' ⟨rfl, rfl⟩)
              go_roundw
              case rel => exact ⟨j + 1, by omega, by go_num, unhide HO8, unhide HB8, K8, unhide HW8, unhide HST⟩
              case measure => simp [intOf]; omega
            · have hbi : b < i := by have := unhide HLEN; omega
              have b8 : b / 8 < N := by have := unhide HNN; omega
              have hgo := gb_old hb1 hb2 hb3
              have hle : b / 8 < (olK K1.s K1.s.length).length := by have := unhide HLO; omega
              have hgb : gb (olK K1.s K1.s.length) b = bit8 (olK K1.s K1.s.length)[b / 8] (b % 8) := by unfold gb; simp [List.getD, hle]
              have hbt := bit_and (olK K1.s K1.s.length)[b / 8] (b % 8) (by omega)
              rw [← hgb, hgo] at hbt
              have HCO : Hid (∀ w8, BAt w8 q (olK K1.s K1.s.length) → w8.cell? ⟨q, b / 8, none⟩ = some (.int .u8 ((((olK K1.s K1.s.length)[b / 8]).toNat : Nat) : Int))) := hide (fun w8 h => h.cell (b / 8) hle)
              have hxl := ((olK K1.s K1.s.length)[b / 8]).toNat_lt
              generalize ((olK K1.s K1.s.length)[b / 8]).toNat = xb at *
              have bge : decide (i ≤ b) = false := by simp; omega
              clear hgo hgb hle hb1 hb2 hb3
              go_wp2_with fail
              refine (unhide HTK).mono ?_
              rintro e w8 ⟨rfl, hK8, f8⟩
              obtain ⟨hO8, hB8⟩ := unhide HMV w8 f8
              have co := unhide HCO w8 hO8
              have HO8 := hide hO8
              have HB8 := hide hB8
              have HW8 := hide (unhide HWN w8 hK8 f8)
              clear hK8 f8 hO8 hB8
              go_wp2_with (go_at_call 13; refine (num_any _ _).mono ?_; rintro e w' ⟨rfl, rfl⟩)
              go_roundw
              case rel => exact ⟨j + 1, by omega, by go_num, unhide HO8, unhide HB8, K8, unhide HW8, unhide HST⟩
              case measure => simp [intOf]; omega
          by_cases k2 : kd = 2
          · subst k2
            obtain ⟨xa, hxa⟩ : ∃ x, x = (K7.takeR kn).2.1 := ⟨_, rfl⟩
            obtain ⟨ea, hea⟩ : ∃ x, x = (K7.takeR kn).2.2 := ⟨_, rfl⟩
            have hA := unhide HAR
            rw [← hxa, ← hea] at hA HTR
            have HWN : Hid (∀ w8, KA w8 p X (K7.takeR kn).1 → Fr (Bl p X) wr w8 → Wk w w8 p X i (101 * 200000 + (j + 1)) (K7.takeR kn).1) := hide (fun w8 a b => (unhide HW7).takeR kn a b)
            generalize (K7.takeR kn).1 = K8 at *
            clear hxa hea
            rcases hA with hne | ⟨rfl, b, rfl, hb1, hb2, hb3⟩
            · have bne2 : (ea == 0) = false := by simpa using hne
              clear hne
              go_wp2_with fail
              refine (unhide HTR).mono ?_
              rintro e w8 ⟨rfl, hK8, f8⟩
              obtain ⟨hO8, hB8⟩ := unhide HMV w8 f8
              have HO8 := hide hO8
              have HB8 := hide hB8
              have HW8 := hide (unhide HWN w8 hK8 f8)
              clear hK8 f8 hO8 hB8
              go_wp2_with (go_at_call 13; refine (num_any _ _).mono ?_; rintro e w' ⟨rfl, rfl⟩)
              go_roundw
              case rel => exact ⟨j + 1, by omega, by go_num, unhide HO8, unhide HB8, K8, unhide HW8, unhide HSR⟩
              case measure => simp [intOf]; omega
            · have hbi : b < i := by have := unhide HLEN; omega
              have b8 : b / 8 < N := by have := unhide HNN; omega
              have hgo := gb_old hb1 hb2 hb3
              have hle : b / 8 < (olK K1.s K1.s.length).length := by have := unhide HLO; omega
              have hgb : gb (olK K1.s K1.s.length) b = bit8 (olK K1.s K1.s.length)[b / 8] (b % 8) := by unfold gb; simp [List.getD, hle]
              have hbt := bit_and (olK K1.s K1.s.length)[b / 8] (b % 8) (by omega)
              rw [← hgb, hgo] at hbt
              have HCO : Hid (∀ w8, BAt w8 q (olK K1.s K1.s.length) → w8.cell? ⟨q, b / 8, none⟩ = some (.int .u8 ((((olK K1.s K1.s.length)[b / 8]).toNat : Nat) : Int))) := hide (fun w8 h => h.cell (b / 8) hle)
              have hxl := ((olK K1.s K1.s.length)[b / 8]).toNat_lt
              generalize ((olK K1.s K1.s.length)[b / 8]).toNat = xb at *
              have bge : decide (i ≤ b) = false := by simp; omega
              clear hgo hgb hle hb1 hb2 hb3
              go_wp2_with fail
              refine (unhide HTR).mono ?_
              rintro e w8 ⟨rfl, hK8, f8⟩
              obtain ⟨hO8, hB8⟩ := unhide HMV w8 f8
              have co := unhide HCO w8 hO8
              have HO8 := hide hO8
              have HB8 := hide hB8
              have HW8 := hide (unhide HWN w8 hK8 f8)
              clear hK8 f8 hO8 hB8
              go_wp2_with (go_at_call 13; refine (num_any _ _).mono ?_; rintro e w' ⟨rfl, rfl⟩)
              go_roundw
              case rel => exact ⟨j + 1, by omega, by go_num, unhide HO8, unhide HB8, K8, unhide HW8, unhide HSR⟩
              case measure => simp [intOf]; omega
          by_cases k3 : kd = 3
          · subst k3
            have HWN : Hid (∀ w8, KA w8 p X (K7.give kn).1 → Fr (Bl p X) wr w8 → Wk w w8 p X i (101 * 200000 + (j + 1)) (K7.give kn).1) := hide (fun w8 a b => (unhide HW7).give kn a b)
            generalize (K7.give kn).2 = ea at *
            generalize (K7.give kn).1 = K8 at *
            go_wp2_with fail
            refine (unhide HGV).mono ?_
            rintro e w8 ⟨rfl, hK8, f8⟩
            obtain ⟨hO8, hB8⟩ := unhide HMV w8 f8
            have HO8 := hide hO8
            have HB8 := hide hB8
            have HW8 := hide (unhide HWN w8 hK8 f8)
            clear hK8 f8 hO8 hB8
            go_wp2_with fail
            go_roundw
            case rel => exact ⟨j + 1, by omega, by go_num, unhide HO8, unhide HB8, K8, unhide HW8, unhide HSG⟩
            case measure => simp [intOf]; omega
          by_cases k5 : kd = 5
          · subst k5
            have HWN : Hid (∀ w8, KA w8 p X (K7.reserve kn).1 → Fr (Bl p X) wr w8 → Wk w w8 p X i (101 * 200000 + (j + 1)) (K7.reserve kn).1) := hide (fun w8 a b => (unhide HW7).reserve kn a b)
            generalize (K7.reserve kn).2 = ea at *
            generalize (K7.reserve kn).1 = K8 at *
            go_wp2_with fail
            refine (unhide HRS).mono ?_
            rintro e w8 ⟨rfl, hK8, f8⟩
            obtain ⟨hO8, hB8⟩ := unhide HMV w8 f8
            have HO8 := hide hO8
            have HB8 := hide hB8
            have HW8 := hide (unhide HWN w8 hK8 f8)
            clear hK8 f8 hO8 hB8
            go_wp2_with fail
            go_roundw
            case rel => exact ⟨j + 1, by omega, by go_num, unhide HO8, unhide HB8, K8, unhide HW8, unhide HSV⟩
            case measure => simp [intOf]; omega
          have z1 : (kd == 1) = false := by simpa using k1
          have z2 : (kd == 2) = false := by simpa using k2
          have z3 : (kd == 3) = false := by simpa using k3
          have z5 : (kd == 5) = false := by simpa using k5
          clear k1 k2 k3 k5
          go_wp2_with fail
          go_roundw
          case rel =>
            have h7 := unhide HW7
            exact ⟨j + 1, by omega, by go_num, unhide HO, unhide HB, K7, { h7 with ch := Nat.le_trans h7.ch (by omega) }, unhide HS7⟩
          case measure => simp [intOf]; omega
        · have hje : j = Lm := by omega
          subst hje
          have HBM : Hid (∀ W, Fr (fun _ => False) wr W → Calls Try.prog 20 #[.pointer (some ⟨p, 0, none⟩)] W fun e w' => (∃ q N, e = .returned (.slice (some ⟨q, 0, none⟩) N N) ∧ N = (bm K7.s).length ∧ BAt w' q (bm K7.s) ∧ W.heap.size ≤ q) ∧ Fr (fun _ => False) W w') := hide (fun W f => bitmap_any W p X K7 (hW7.ka.kept f (fun _ _ h => h)))
          rw [bm_congr hS7] at HBM
          have HCV : Hid (∀ W, Fr (fun _ => False) wr W → (convert 22 9 (.slice (some ⟨q6, 0, none⟩) N6 N6)).run Try.prog W = .ok (.string (str (bm K1.s))) W) := hide (fun W f => by
            have h := (hB.kept f id).rd (by rw [bm_length]; have := unhide HLEN; simp only [maxLen]; omega)
            rw [← unhide HN6] at h
            exact conv_rd h 22 9 5 Try.underlying22 Try.underlying5 Try.underlying9)
          have HCW : Hid (∀ W q8 N8, N8 = (bm K1.s).length → BAt W q8 (bm K1.s) → (convert 22 9 (.slice (some ⟨q8, 0, none⟩) N8 N8)).run Try.prog W = .ok (.string (str (bm K1.s))) W) := hide (fun W q8 N8 hN8 h8 => by
            have h := h8.rd (by rw [bm_length]; have := unhide HLEN; simp only [maxLen]; omega)
            rw [← hN8] at h
            exact conv_rd h 22 9 5 Try.underlying22 Try.underlying5 Try.underlying9)
          clear hO hB hW7 hS7
          generalize str (bm K1.s) = sv at *
          go_wp2_with fail
          have cv0 := unhide HCV wr.drew (Fr.refl _ _).drew
          go_region_with ((first | (go_at_call 20; refine (unhide HBM _ (by first | exact Fr.ofDrewN _ 1 | exact Fr.ofDrewN _ _)).mono ?_; rintro e w8 ⟨⟨q8, N8, rfl, hN8, hB8, hq8⟩, f8⟩; have f8' := ((Fr.ofDrewN _ 1).trans f8 (fun _ _ h => h) : Fr (fun _ => False) wr w8); have cv1 := unhide HCV w8 f8'; have cv2 := unhide HCW w8 q8 N8 hN8 hB8; clear hN8 hB8 hq8) | (go_at_call 10; refine (unhide HLV _ ((unhide HW7).fr.trans f8' (fun _ _ h => h))).mono ?_; rintro e w9 ⟨rfl, f9⟩)))
          all_goals
            have HF9 := hide f9
            clear f9
            go_wp2_with fail
            go_ret
            exact ⟨rfl, unhide HF9⟩
end Go.Proofs.Ytbpajilglfabbaa
