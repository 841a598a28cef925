/-
  The walk of AllocBack: a bitmap's allocator has the committed state; so has one that aborts.
-/
import Derived.Test.YtbpajilglfabbaaE2
namespace Go.Proofs.Ytbpajilglfabbaa
open Go.RowKit
set_option linter.unusedVariables false

attribute [local go_sem ↓] Go.wp_at_zero Go.wp_at_succ

theorem le4 {z : UInt8} (h : z.toNat ≤ 4) : z = 0 ∨ z = 1 ∨ z = 2 ∨ z = 3 ∨ z = 4 := by
  have h' : z.toNat = 0 ∨ z.toNat = 1 ∨ z.toNat = 2 ∨ z.toNat = 3 ∨ z.toNat = 4 := by omega
  rcases h' with h | h | h | h | h
  · exact .inl (UInt8.toNat_inj.1 h)
  · exact .inr (.inl (UInt8.toNat_inj.1 h))
  · exact .inr (.inr (.inl (UInt8.toNat_inj.1 h)))
  · exact .inr (.inr (.inr (.inl (UInt8.toNat_inj.1 h))))
  · exact .inr (.inr (.inr (.inr (UInt8.toNat_inj.1 h))))
theorem isU_of {s : List UInt8} {b : Nat} {z : UInt8} (h : s[b]? = some z) : isU s b = isU [z] 0 := by unfold isU; rw [h]; rfl

set_option maxRecDepth 100000 in
set_option maxHeartbeats 8000000 in
theorem allocBack_any (w : World) (nb : Int) (v : Value) (l : List (Int × Int)) (hl : RdA w v l) : Calls Try.prog 7 #[.int .i64 nb, v] w fun e w' => e = .returned (.bool true) ∧ Fr (fun _ => False) w w' := by
  obtain ⟨ao, cap, rfl⟩ := hl.shape
  have HL := hide hl
  obtain ⟨L, hL⟩ : ∃ L, L = l.length := ⟨_, rfl⟩
  rw [← hL] at HL ⊢
  have HLL := hide hL
  clear hl hL
  have HLV : Hid (∀ W, Fr (fun _ => False) w W → Calls Try.prog 10 #[] W fun e w' => e = .returned (.bool true) ∧ Fr (fun _ => False) w w') := hide (fun W f => (live_any W).mono (fun e w' h => ⟨h.1, f.trans h.2 (fun _ _ h => h)⟩))
  by_cases g0 : 80 < L
  · have b0 : decide ((80 : Int) < (L : Int)) = true := by simp; omega
    clear g0
    go_enter Try.func7, Try.ntmps7
    go_wp2_with fail
    refine (unhide HLV _ (Fr.refl _ _)).mono ?_
    rintro e w2 ⟨rfl, f2⟩
    have HF2 := hide f2
    clear f2
    go_wp2_with fail
    go_ret
    exact ⟨rfl, unhide HF2⟩
  have b0 : decide ((80 : Int) < (L : Int)) = false := by simp; omega
  by_cases g1 : 200 < nb
  · have b1 : decide (200 < nb) = true := by simp; omega
    clear g1 g0
    go_enter Try.func7, Try.ntmps7
    go_wp2_with fail
    refine (unhide HLV _ (Fr.refl _ _)).mono ?_
    rintro e w2 ⟨rfl, f2⟩
    have HF2 := hide f2
    clear f2
    go_wp2_with fail
    go_ret
    exact ⟨rfl, unhide HF2⟩
  have b1 : decide (200 < nb) = false := by simp; omega
  by_cases hn1 : nb < 1
  · have HB : Hid (∀ W, Calls Try.prog 21 #[.int .i64 nb, .slice ao L cap] W fun e w' => e = .returned (.pointer none) ∧ W = w') := hide (fun W => begun_no W nb _ (.inl hn1))
    have b6 : decide (nb < 1) = true := by simpa using hn1
    clear hn1 g0 g1
    go_enter Try.func7, Try.ntmps7
    go_wp2_with fail
    refine (unhide HB _).mono ?_
    rintro e w' ⟨rfl, rfl⟩
    go_wp2_with fail
    refine (unhide HLV _ (Fr.refl _ _)).mono ?_
    rintro e w2 ⟨rfl, f2⟩
    have HF2 := hide f2
    clear f2
    go_wp2_with fail
    go_ret
    exact ⟨rfl, unhide HF2⟩
  obtain ⟨n, rfl⟩ : ∃ n : Nat, nb = (n : Int) := ⟨nb.toNat, by omega⟩
  have hm1 : 1 ≤ n := by omega
  have hm2 : n ≤ 200 := by omega
  have HB := hide (begun_ok w n hm1 (by omega) _ l (unhide HL) (by have := unhide HLL; omega))
  clear g0 g1 hn1
  go_enter Try.func7, Try.ntmps7
  go_wp2_with fail
  refine (unhide HB).mono ?_
  rintro e w2 ⟨p, X, K, M, rfl, hK, hM, hKl, hnew, f2, hch, hhh⟩
  have HBM := hide (bitmap_any w2 p X K hK)
  have HK2 := hide hK
  have HM := hide hM
  have HKL := hide hKl
  have HNEW := hide hnew
  have HF2 := hide f2
  have HCH := hide hch
  clear hK hM hKl hnew f2 hch hhh HB
  unfold ptr at *
  go_wp2_with fail
  refine (unhide HBM).mono ?_
  rintro e w3 ⟨⟨q, N, rfl, hN, hBA, hq⟩, f3⟩
  have hrd := hBA.rd (by rw [bm_length, unhide HKL]; simp only [maxLen]; omega)
  rw [← hN] at hrd
  have HLD := hide (load_any w3 (n : Int) _ (bm K.s) hrd)
  have HF3 := hide f3
  clear hN hBA hq f3 hrd HBM
  go_wp2_with fail
  refine (unhide HLD).mono ?_
  rintro e w4 ⟨hld, f4⟩
  obtain ⟨le, lr, ll, lb⟩ := ld_back K.s n (unhide HKL) hm1 (by omega)
  rcases hld with ⟨-, p2, X2, rfl, hK2, hnew2⟩ | ⟨hne, -⟩
  rotate_left
  · exact absurd le hne
  obtain ⟨K2, hKe⟩ : ∃ K2, K2 = ldS (n : Int) (bm K.s) := ⟨_, rfl⟩
  rw [← hKe] at hK2 lr ll lb
  have HK4 := hide ((unhide HK2).kept ((unhide HF3).trans f4 (fun _ _ h => h)) (fun _ _ h => h))
  have HB4 := hide hK2
  have HLB := hide lb
  have HLL2 := hide ll
  have HF4 := hide (((unhide HF2).trans (unhide HF3) (fun _ _ h => h)).trans f4 (fun _ _ h => h))
  have HAP : Hid (∀ j, Bl p2 X2 j → ¬ Bl p X j) := hide (fun j h1 h2 => by
    have := hnew2 j h1
    have := (unhide HK2).lt j h2
    have := (unhide HF3).size
    omega)
  have HRS := hide (reserved_any w4 p2 X2 K2 hK2)
  rw [lr] at HRS
  clear hK2 hnew2 f4 le lr ll lb hKe HLD HF2 HF3 HK2
  unfold ptr at *
  go_wp2_with (first | (go_at_call 13; refine (num_any _ _).mono ?_; rintro e w' ⟨rfl, rfl⟩) | (go_at_call 27; refine (unhide HRS).mono ?_; rintro e w' ⟨rfl, rfl⟩))
  go_loopw [8] (fun y W => ∃ i : Nat, i ≤ n ∧ y = .int .i64 (i : Int) ∧ W = w4) (fun y _ => n - (intOf y).toNat)
  case atStart => exact ⟨0, by omega, rfl, rfl⟩
  case round =>
    obtain ⟨i, hi, rfl, rfl⟩ := hrel
    by_cases hlt : i < n
    · obtain ⟨z, hz⟩ := get_ex (show i < K.s.length by have := unhide HKL; omega)
      have hb := unhide HLB i hlt
      rw [isU_of hz] at hb
      have HSA := hide (stateI_any wr p X K (i : Int) (unhide HK4))
      rw [stI_in hz] at HSA
      have HSB := hide (stateI_any wr p2 X2 K2 (i : Int) (unhide HB4))
      rw [stI_in hb] at HSB
      have hle := (unhide HM).st i z hz
      unfold ptr at *
      clear hb
      rcases le4 hle with rfl | rfl | rfl | rfl | rfl
      all_goals
        clear hz hle
        go_wp2_with fail
        refine (unhide HSA).mono ?_
        rintro e w' ⟨rfl, rfl⟩
        go_wp2_with fail
        refine (unhide HSB).mono ?_
        rintro e w' ⟨rfl, rfl⟩
        go_wp2_with fail
        refine (unhide HSB).mono ?_
        rintro e w' ⟨rfl, rfl⟩
        go_wp2_with fail
        go_roundw
        case rel => exact ⟨i + 1, by omega, by go_num, trivial⟩
        case measure => simp [intOf]; omega
    · have hie : i = n := by omega
      subst hie
      have HAB := hide (abort_any wr p X K (unhide HK4) (by have := unhide HCH; omega))
      unfold ptr at *
      go_wp2_with fail
      refine (unhide HAB).mono ?_
      rintro e w5 ⟨rfl, hK5, f5⟩
      have HK5 := hide hK5
      have HB5 := hide ((unhide HB4).kept f5 (unhide HAP))
      have HF5 : Hid (Fr (fun _ => False) w w5) := hide ((unhide HF4).trans f5 (fun j hj e => by have := unhide HNEW j e; omega))
      have HM5 := hide (unhide HM).abort
      have HS5 := hide (abort_s K)
      clear hK5 f5 HK4 HB4 HF4 HAB
      go_wp2_with fail
      go_loopw [11] (fun y W => ∃ j : Nat, j ≤ i ∧ y = .int .i64 (j : Int) ∧ W = w5) (fun y _ => i - (intOf y).toNat)
      case atStart => exact ⟨0, by omega, rfl, rfl⟩
      case round =>
        obtain ⟨j, hj, rfl, rfl⟩ := hrel
        by_cases hjl : j < i
        · obtain ⟨z, hz⟩ := get_ex (show j < K.s.length by have := unhide HKL; omega)
          have hb := unhide HLB j hjl
          rw [isU_of hz] at hb
          have ha := abort_get hz
          rw [← unhide HS5] at ha
          have HSA := hide (stateI_any wr p X K.abort (j : Int) (unhide HK5))
          rw [stI_in ha] at HSA
          have HSB := hide (stateI_any wr p2 X2 K2 (j : Int) (unhide HB5))
          rw [stI_in hb] at HSB
          have hle := (unhide HM).st j z hz
          unfold ptr at *
          clear hb ha
          rcases le4 hle with rfl | rfl | rfl | rfl | rfl
          rotate_left 4
          · clear hz hle
            go_wp2_with fail
            refine (unhide HSA).mono ?_
            rintro e w' ⟨rfl, rfl⟩
            go_wp2_with fail
            refine (unhide HSB).mono ?_
            rintro e w' ⟨rfl, rfl⟩
            go_wp2_with fail
            refine (unhide HSA).mono ?_
            rintro e w' ⟨rfl, rfl⟩
            go_wp2_with fail
            refine (unhide HSB).mono ?_
            rintro e w' ⟨rfl, rfl⟩
            go_wp2_with fail
            go_roundw
            case rel => exact ⟨j + 1, by omega, by go_num, trivial⟩
            case measure => simp [intOf]; omega
          all_goals
            clear hz hle
            go_wp2_with fail
            refine (unhide HSA).mono ?_
            rintro e w' ⟨rfl, rfl⟩
            go_wp2_with fail
            refine (unhide HSB).mono ?_
            rintro e w' ⟨rfl, rfl⟩
            go_wp2_with fail
            go_roundw
            case rel => exact ⟨j + 1, by omega, by go_num, trivial⟩
            case measure => simp [intOf]; omega
        · have hje : j = i := by omega
          subst hje
          have hbm : bm K2.s = bm K.abort.s := by
            refine bm_ext ?_ (fun b => ?_)
            · rw [unhide HLL2, unhide HS5, rep_length, rep_length, unhide HKL]
            · by_cases hb : b < j
              · obtain ⟨z, hz⟩ := get_ex (show b < K.s.length by have := unhide HKL; omega)
                have h1 := unhide HLB b hb
                rw [isU_of hz] at h1
                have h2 := abort_get hz
                rw [← unhide HS5] at h2
                rw [isU_of h1, isU_of h2]
                rcases le4 ((unhide HM).st b z hz) with rfl | rfl | rfl | rfl | rfl <;> decide
              · have e1 : isU K2.s b = false := by
                  unfold isU; rw [List.getElem?_eq_none (by rw [unhide HLL2]; omega)]; rfl
                have e2 : isU K.abort.s b = false := by
                  unfold isU; rw [List.getElem?_eq_none (by rw [unhide HS5, rep_length, rep_length, unhide HKL]; omega)]; rfl
                rw [e1, e2]
          have HBM := hide hbm
          clear hbm
          go_wp2_with fail
          refine wp_nameK ?_
          intro a0 hA
          have h5 : a0.tmps.getD 5 undef = .pointer (some ⟨p, 0, none⟩) := by rw [hA]; rfl
          have h6 : a0.tmps.getD 6 undef = .pointer (some ⟨p2, 0, none⟩) := by rw [hA]; rfl
          have hsz : a0.tmps.size = 125 := by rw [hA]; rfl
          have hdf : a0.defers = [] := by rw [hA]
          clear hA
          refine wp_region_kinds (fun _ => False) (by kernel_rfl) (by kernel_rfl) (by decide +kernel) (by rw [hsz]; decide +kernel) [.eq (.pointer (some ⟨p, 0, none⟩)), kRb (bm K.abort.s), .eq (.string (str (bm K.abort.s))), .eq (.pointer (some ⟨p2, 0, none⟩)), kRb (bm K.abort.s), .eq (.string (str (bm K.abort.s))), .eq (.bool true), .eq (.bool true), .eq (.pointer (some ⟨p, 0, none⟩)), kLn 0, .eq (.int .i64 0), .eq (.bool true), .eq (.bool true), .eq (.bool true), .eq (.pointer (some ⟨p, 0, none⟩)), kLn 0, .eq (.int .i64 0), .eq (.bool true), .eq (.bool true), .eq (.bool true), .eq (.bool true), .eq (.bool true), .eq (.bool true)] [] (by decide) (by decide) (nopaths) (fun _ W => Fr (fun _ => False) wr W) (Fr.refl _ _).drew ?steps ?done
          case steps =>
            refine ⟨?_, ?_⟩
            · intro a' w' k' hb hf hs hc hq hg hd
              exact ⟨wantedN rfl, k_val (.pointer (some ⟨p, 0, none⟩)) (by decide) hs (x_move rfl ((hb.old 5 (by decide +kernel)).trans h5)) rfl⟩
            refine ⟨?_, ?_⟩
            · intro a' w' k' hb hf hs hc hq hg hd
              exact ⟨wantedN rfl, k_call 20 _ (by decide) (e_call1 rfl rfl (hd 0 (by kernel_rfl) 103 rfl) cf20) ((bitmap_rd _ p X _ ((unhide HK5).kept hs (fun _ _ h => h)) (bm K.abort.s) rfl).mono (by rintro e w7 ⟨v7, rfl, h7, f⟩; exact ⟨_, rfl, h7, f, Fr.trans hs f (fun _ _ h => h)⟩))⟩
            refine ⟨?_, ?_⟩
            · intro a' w' k' hb hf hs hc hq hg hd
              have hh : Rd w' _ _ := (hd 1 (by kernel_rfl) 104 rfl); exact ⟨wantedN rfl, k_val (.string (str (bm K.abort.s))) (by decide) hs (x_conv rfl rfl (conv_rd (P := Try.prog) hh 22 9 5 Try.underlying22 Try.underlying5 Try.underlying9)) rfl⟩
            refine ⟨?_, ?_⟩
            · intro a' w' k' hb hf hs hc hq hg hd
              exact ⟨wantedN rfl, k_val (.pointer (some ⟨p2, 0, none⟩)) (by decide) hs (x_move rfl ((hb.old 6 (by decide +kernel)).trans h6)) rfl⟩
            refine ⟨?_, ?_⟩
            · intro a' w' k' hb hf hs hc hq hg hd
              exact ⟨wantedN rfl, k_call 20 _ (by decide) (e_call1 rfl rfl (hd 3 (by kernel_rfl) 106 rfl) cf20) ((bitmap_rd _ p2 X2 _ ((unhide HB5).kept hs (fun _ _ h => h)) (bm K.abort.s) (unhide HBM)).mono (by rintro e w7 ⟨v7, rfl, h7, f⟩; exact ⟨_, rfl, h7, f, Fr.trans hs f (fun _ _ h => h)⟩))⟩
            refine ⟨?_, ?_⟩
            · intro a' w' k' hb hf hs hc hq hg hd
              have hh : Rd w' _ _ := (hd 4 (by kernel_rfl) 107 rfl); exact ⟨wantedN rfl, k_val (.string (str (bm K.abort.s))) (by decide) hs (x_conv rfl rfl (conv_rd (P := Try.prog) hh 22 9 5 Try.underlying22 Try.underlying5 Try.underlying9)) rfl⟩
            refine ⟨?_, ?_⟩
            · intro a' w' k' hb hf hs hc hq hg hd
              exact ⟨wantedN rfl, k_val (.bool true) (by decide) hs (x_eqS rfl (hd 2 (by kernel_rfl) 105 rfl) (hd 5 (by kernel_rfl) 108 rfl)) rfl⟩
            refine ⟨?_, ?_⟩
            · intro a' w' k' hb hf hs hc hq hg hd
              exact ⟨wantedN rfl, k_val (.bool true) (by decide) hs (x_move rfl (hd 6 (by kernel_rfl) 109 rfl)) rfl⟩
            refine ⟨?_, ?_⟩
            · intro a' w' k' hb hf hs hc hq hg hd
              exact ⟨wantedT (d := 110) rfl rfl (by rw [hb.size, hsz]; omega) (hd 7 (by kernel_rfl) 110 rfl), k_val (.pointer (some ⟨p, 0, none⟩)) (by decide) hs (x_move rfl ((hb.old 5 (by decide +kernel)).trans h5)) rfl⟩
            refine ⟨?_, ?_⟩
            · intro a' w' k' hb hf hs hc hq hg hd
              exact ⟨wantedT (d := 110) rfl rfl (by rw [hb.size, hsz]; omega) (hd 7 (by kernel_rfl) 110 rfl), k_call 24 _ (by decide) (e_call1 rfl rfl (hd 8 (by kernel_rfl) 111 rfl) cf24) ((taken_ln _ p X _ _ ((unhide HK5).kept hs (fun _ _ h => h)) (unhide HM5) 0 rfl).mono (by rintro e w7 ⟨v7, rfl, h7, f⟩; exact ⟨_, rfl, h7, f, Fr.trans hs f (fun _ _ h => h)⟩))⟩
            refine ⟨?_, ?_⟩
            · intro a' w' k' hb hf hs hc hq hg hd
              obtain ⟨ao7, c7, hh⟩ : ∃ ao c, a'.tmps.getD 112 undef = .slice ao 0 c := (hd 9 (by kernel_rfl) 112 rfl); exact ⟨wantedT (d := 110) rfl rfl (by rw [hb.size, hsz]; omega) (hd 7 (by kernel_rfl) 110 rfl), k_val (.int .i64 0) (by decide) hs (x_len51 (n := 0) rfl hh) rfl⟩
            refine ⟨?_, ?_⟩
            · intro a' w' k' hb hf hs hc hq hg hd
              exact ⟨wantedT (d := 110) rfl rfl (by rw [hb.size, hsz]; omega) (hd 7 (by kernel_rfl) 110 rfl), k_val (.bool true) (by decide) hs (x_eqI Try.underlying3 rfl (hd 10 (by kernel_rfl) 113 rfl) rfl (by first | rfl | decide | simp)) rfl⟩
            refine ⟨?_, ?_⟩
            · intro a' w' k' hb hf hs hc hq hg hd
              exact ⟨wantedN rfl, k_val (.bool true) (by decide) hs (x_pickT rfl (hd 7 (by kernel_rfl) 110 rfl) (hd 11 (by kernel_rfl) 114 rfl)) rfl⟩
            refine ⟨?_, ?_⟩
            · intro a' w' k' hb hf hs hc hq hg hd
              exact ⟨wantedN rfl, k_val (.bool true) (by decide) hs (x_move rfl (hd 12 (by kernel_rfl) 115 rfl)) rfl⟩
            refine ⟨?_, ?_⟩
            · intro a' w' k' hb hf hs hc hq hg hd
              exact ⟨wantedT (d := 116) rfl rfl (by rw [hb.size, hsz]; omega) (hd 13 (by kernel_rfl) 116 rfl), k_val (.pointer (some ⟨p, 0, none⟩)) (by decide) hs (x_move rfl ((hb.old 5 (by decide +kernel)).trans h5)) rfl⟩
            refine ⟨?_, ?_⟩
            · intro a' w' k' hb hf hs hc hq hg hd
              exact ⟨wantedT (d := 116) rfl rfl (by rw [hb.size, hsz]; omega) (hd 13 (by kernel_rfl) 116 rfl), k_call 25 _ (by decide) (e_call1 rfl rfl (hd 14 (by kernel_rfl) 117 rfl) cf25) ((given_ln _ p X _ _ ((unhide HK5).kept hs (fun _ _ h => h)) (unhide HM5) 0 rfl).mono (by rintro e w7 ⟨v7, rfl, h7, f⟩; exact ⟨_, rfl, h7, f, Fr.trans hs f (fun _ _ h => h)⟩))⟩
            refine ⟨?_, ?_⟩
            · intro a' w' k' hb hf hs hc hq hg hd
              obtain ⟨ao7, c7, hh⟩ : ∃ ao c, a'.tmps.getD 118 undef = .slice ao 0 c := (hd 15 (by kernel_rfl) 118 rfl); exact ⟨wantedT (d := 116) rfl rfl (by rw [hb.size, hsz]; omega) (hd 13 (by kernel_rfl) 116 rfl), k_val (.int .i64 0) (by decide) hs (x_len51 (n := 0) rfl hh) rfl⟩
            refine ⟨?_, ?_⟩
            · intro a' w' k' hb hf hs hc hq hg hd
              exact ⟨wantedT (d := 116) rfl rfl (by rw [hb.size, hsz]; omega) (hd 13 (by kernel_rfl) 116 rfl), k_val (.bool true) (by decide) hs (x_eqI Try.underlying3 rfl (hd 16 (by kernel_rfl) 119 rfl) rfl (by first | rfl | decide | simp)) rfl⟩
            refine ⟨?_, ?_⟩
            · intro a' w' k' hb hf hs hc hq hg hd
              exact ⟨wantedN rfl, k_val (.bool true) (by decide) hs (x_pickT rfl (hd 13 (by kernel_rfl) 116 rfl) (hd 17 (by kernel_rfl) 120 rfl)) rfl⟩
            refine ⟨?_, ?_⟩
            · intro a' w' k' hb hf hs hc hq hg hd
              exact ⟨wantedN rfl, k_val (.bool true) (by decide) hs (x_move rfl (hd 18 (by kernel_rfl) 121 rfl)) rfl⟩
            refine ⟨?_, ?_⟩
            · intro a' w' k' hb hf hs hc hq hg hd
              exact ⟨wantedT (d := 122) rfl rfl (by rw [hb.size, hsz]; omega) (hd 19 (by kernel_rfl) 122 rfl), k_call 10 _ (by decide) (e_call0 rfl rfl cf10) ((live_any _).mono (by rintro e w7 ⟨rfl, f⟩; exact ⟨_, rfl, rfl, f, Fr.trans hs f (fun _ _ h => h)⟩))⟩
            refine ⟨?_, ?_⟩
            · intro a' w' k' hb hf hs hc hq hg hd
              exact ⟨wantedN rfl, k_val (.bool true) (by decide) hs (x_pickT rfl (hd 19 (by kernel_rfl) 122 rfl) (hd 20 (by kernel_rfl) 123 rfl)) rfl⟩
            refine ⟨?_, ?_⟩
            · intro a' w' k' hb hf hs hc hq hg hd
              exact ⟨wantedN rfl, k_val (.bool true) (by decide) hs (x_assign rfl (hd 21 (by kernel_rfl) 124 rfl)) rfl⟩
            exact trivial
          case done =>
            intro a' w' hb hf hs hall
            have hres : a'.tmps.getD 4 undef = .bool true := hall 22 (by decide) 4 rfl
            have hdf' : a'.defers = [] := by rw [hb.defers]; exact hdf
            have hF : Fr (fun _ => False) w w' := (unhide HF5).trans hf (fun _ _ h => h)
            have hr : bodyPost Try.prog Try.f7 (fun e w' => e = Ending.returned (Value.bool true) ∧ Fr (fun x => False) w w') .ret a' w' :=
              bodyPost_ret (v := .bool true) (by
                have h6' : a'.tmps[4]?.getD undef = .bool true := by simpa using hres
                simp [results, Try.results7, go_sem, h6']) hdf' ⟨rfl, hF⟩
            clear hall hb
            apply_assumption
            exact wp_ret hr
end Go.Proofs.Ytbpajilglfabbaa
