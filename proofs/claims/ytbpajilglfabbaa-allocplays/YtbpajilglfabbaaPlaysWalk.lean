/-
  The walk of AllocPlays: whatever is asked, in whatever order, the allocator tells what the document's does.
-/
import Derived.Test.YtbpajilglfabbaaTells
namespace Go.Proofs.Ytbpajilglfabbaa
open Go.RowKit
set_option linter.unusedVariables false
set_option linter.unusedSimpArgs false

attribute [local go_sem ↓] Go.wp_at_zero Go.wp_at_succ

/-- A row of bytes of one's own, to be spoilt. -/
structure Sp (w0 W : World) (n : Nat) (v : Value) : Prop where
  o : ∃ xs, W.ownsRow 0 5 1 v n xs
  b : ∀ k, v.ownBlock = some k → w0.heap.size ≤ k
  f : Fr (fun _ => False) w0 W
theorem Sp.kept {w0 W W' : World} {n : Nat} {v : Value} (h : Sp w0 W n v) (f : Fr (fun _ => False) W W') : Sp w0 W' n v := by
  obtain ⟨xs, ho⟩ := h.o
  exact ⟨⟨xs, owns_kept ho f (fun _ _ h => h)⟩, h.b, h.f.trans f (fun _ _ h => h)⟩
theorem Sp.set {w0 W : World} {n g c : Nat} (h : Sp w0 W n (.slice (some ⟨g, 0, none⟩) n c)) {i : Nat} (hi : i < n) (u : Value) : Sp w0 (W.setCell ⟨g, i, none⟩ u) n (.slice (some ⟨g, 0, none⟩) n c) := by
  obtain ⟨xs, ho⟩ := h.o
  have fg : Fr (fun k => k = g) W (W.setCell ⟨g, i, none⟩ u) := Fr.setCell (S := fun k => k = g) (Fr.refl _ _) (p := ⟨g, i, none⟩) (fun _ => rfl) _
  exact ⟨⟨_, owns_setK ho i (by omega) u⟩, h.b, h.f.trans fg (fun j hj e => by have := h.b g rfl; omega)⟩
theorem PA.off {w0 W : World} {p : Nat} {X : Ly} {p' : Nat} {Y : Lr} {K : Kc} {M : Rc} {k : Nat} (H : PA w0 W p X p' Y K M k) {g i : Nat} (hg : w0.heap.size ≤ g) (h1 : ∀ j, Bl p X j → j ≠ g) (h2 : ∀ j, Rb p' Y j → j ≠ g) (u : Value) : PA w0 (W.setCell ⟨g, i, none⟩ u) p X p' Y K M k := by
  have fg : Fr (fun k => k = g) W (W.setCell ⟨g, i, none⟩ u) := Fr.setCell (S := fun k => k = g) (Fr.refl _ _) (p := ⟨g, i, none⟩) (fun _ => rfl) _
  exact { H with ka := H.ka.kept fg (fun j hj e => h1 j hj e), ra := H.ra.kept fg (fun j hj e => h2 j hj e), fr := H.fr.trans fg (fun j hj e => by omega) }

set_option maxRecDepth 100000 in
set_option maxHeartbeats 8000000 in
theorem allocPlays_any (w : World) (nb : Int) (v u : Value) (m : List UInt8) (l : List (Int × Int)) (hm : Rd w v m) (hl : RdA w u l) : Calls Try.prog 3 #[.int .i64 nb, v, u] w fun e w' => e = .returned (.bool true) ∧ Fr (fun _ => False) w w' := by
  obtain ⟨inf, hi0, hz0, hz1, hz2⟩ := info_parts Try.info5
  obtain ⟨ao, cap, rfl⟩ := hl.shape
  have HL := hide hl
  obtain ⟨L, hL⟩ : ∃ L, L = l.length := ⟨_, rfl⟩
  rw [← hL] at HL ⊢
  have HLL := hide hL
  obtain ⟨mo, mc, rfl⟩ := hm.shape
  have HM := hide hm
  obtain ⟨n, hn⟩ : ∃ n, n = m.length := ⟨_, rfl⟩
  rw [← hn] at HM ⊢
  have HN := hide hn
  have HSR : Hid (Sr (w.alloc (.cells #[] 5)) 1 (.slice mo n mc) n (bvs m)) := hide (by
    have h := ((unhide HM).kept ((Fr.refl (fun _ => False) w).alloc (.cells #[] 5)) (fun _ _ h => h)).sr
    rwa [← hn] at h)
  clear hl hL hm hn
  have HLV : Hid (∀ W, Fr (fun _ => False) w W → Calls Try.prog 10 #[] W fun e w' => e = .returned (.bool true) ∧ Fr (fun _ => False) w w') := hide (fun W f => (live_any W).mono (fun e w' h => ⟨h.1, f.trans h.2 (fun _ _ h => h)⟩))
  by_cases g0 : 80 < L
  · have b0 : decide ((80 : Int) < (L : Int)) = true := by simp; omega
    clear g0
    go_enter Try.func3, Try.ntmps3
    go_wp2_with fail
    refine (unhide HLV _ (Fr.refl _ _)).mono ?_
    rintro e w2 ⟨rfl, f2⟩
    have HF2 := hide f2
    clear f2
    go_wp2_with fail
    go_ret
    exact ⟨rfl, unhide HF2⟩
  have b0 : decide ((80 : Int) < (L : Int)) = false := by simp; omega
  by_cases g1 : 1000 < n
  · have b1 : decide ((1000 : Int) < (n : Int)) = true := by simp; omega
    clear g1 g0
    go_enter Try.func3, Try.ntmps3
    go_wp2_with fail
    refine (unhide HLV _ (Fr.refl _ _)).mono ?_
    rintro e w2 ⟨rfl, f2⟩
    have HF2 := hide f2
    clear f2
    go_wp2_with fail
    go_ret
    exact ⟨rfl, unhide HF2⟩
  have b1 : decide ((1000 : Int) < (n : Int)) = false := by simp; omega
  by_cases g2 : 200 < nb
  · have b2 : decide (200 < nb) = true := by simpa using g2
    by_cases g3 : nb ≤ 65536
    · have b3 : decide (nb ≤ 65536) = true := by simpa using g3
      clear g0 g1 g2 g3
      go_enter Try.func3, Try.ntmps3
      go_wp2_with fail
      refine (unhide HLV _ (Fr.refl _ _)).mono ?_
      rintro e w2 ⟨rfl, f2⟩
      have HF2 := hide f2
      clear f2
      go_wp2_with fail
      go_ret
      exact ⟨rfl, unhide HF2⟩
    have b3 : decide (nb ≤ 65536) = false := by simpa using g3
    clear g2 g3
    go_enter Try.func3, Try.ntmps3
    go_wp2_with (at_builtin; refine wpList_app rfl (.tmp 33) (.tmp 34) 22 rfl 5 inf _ 1 1 Try.underlying22 hi0 hz0 hz1 hz2 rfl (by decide) (.slice (some ⟨w.heap.size, 0, none⟩) 0 0) 0 [] rfl (.slice mo n mc) rfl n (bvs m) (clone_new 5 (heap_alloc_new _ _)) (unhide HSR) (bvs_one m) (by omega) (by simp only [maxLen]; omega) ?_)
    intro bo bc w2 o2 g2 p2
    have F2 := hide (((Fr.refl (fun _ => False) w).alloc (.cells #[] 5)).grown g2 (fun k hk e => by simp [Value.ownBlock] at e; omega))
    have HSP : Hid (Sp w w2 n (.slice bo n bc)) := hide ⟨⟨_, o2⟩, (by
      intro b hb
      rcases p2 with e | ⟨k, e, hk⟩
      · rw [hb] at e; simp [Value.ownBlock] at e; omega
      · rw [hb] at e; simp at e; (try simp at hk); omega), unhide F2⟩
    have HLT : Hid (∀ b, (Value.slice bo n bc).ownBlock = some b → b < w2.heap.size) := hide (fun b hb => by
      obtain ⟨cs, hcs⟩ := owns_ty o2 hb
      exact lt_of_heap hcs)
    have HLD := hide (load_any w2 nb (.slice bo n bc) m (Rd.of_owns (base := 0) (by rw [← unhide HN]; exact o2)))
    clear o2 g2 p2 HSR
    go_wp2_with fail
    refine (unhide HLD).mono ?_
    rintro e w3 ⟨h3, f3⟩
    have HF3 := hide ((unhide F2).trans f3 (fun _ _ h => h))
    have HSP3 := hide ((unhide HSP).kept f3)
    have HSZ : Hid (w2.heap.size ≤ w3.heap.size) := hide f3.size
    have HRD := hide (rload_any w3 nb (.slice mo n mc) m ((unhide HM).kept (unhide HF3) (fun _ _ h => h)))
    clear HLD HSP f3
    rcases h3 with ⟨he, p, X, rfl, hK, hnw⟩ | ⟨he, rfl⟩
    · have HE := hide he
      have HK := hide hK
      have HNW := hide hnw
      clear he hK hnw
      unfold ptr at *
      go_wp2_with fail
      refine (unhide HRD).mono ?_
      rintro e w4 ⟨h4, f4⟩
      obtain ⟨-, p', Y, rfl, hR, hnr⟩ := h4.resolve_right (fun h => h.1 (unhide HE))
      have HP4 : Hid (PA w w4 p X p' Y (ldS nb m) (ldM nb m) 1) := hide ⟨(unhide HK).kept f4 (fun _ _ h => h), hR, Ab.load nb m (unhide HE), fun j hj => Nat.le_trans (unhide F2).size (unhide HNW j hj), fun j hj => Nat.le_trans (unhide HF3).size (hnr j hj), (unhide HF3).trans f4 (fun _ _ h => h), (by
        unfold ldS
        rw [Kc.setL_ch]
        have := bitsL_length m (8 * m.length)
        have := unhide HN
        simp [kc0]; omega), (by unfold ldS; rw [Kc.setL_h]; simp [kc0])⟩
      have HSP4 := hide ((unhide HSP3).kept f4)
      have HGB : Hid (∀ b, (Value.slice bo n bc).ownBlock = some b → (∀ j, Bl p X j → j ≠ b) ∧ ∀ j, Rb p' Y j → j ≠ b) := hide (fun b hb => ⟨fun j hj e => by have h1 := unhide HLT b hb; have h2 := unhide HNW j hj; omega, fun j hj e => by have h1 := unhide HLT b hb; have h2 := hnr j hj; have h3 := unhide HSZ; omega⟩)
      clear hR hnr f4 HRD HK HNW HE HSP3 HLT HSZ HF3 F2
      unfold ptr at *
      go_wp2_with (go_at_call 13; refine (num_any _ _).mono ?_; rintro e w' ⟨rfl, rfl⟩)
      refine (live_any _).mono ?_
      rintro e w5 ⟨rfl, f5⟩
      have HP5 := hide ((unhide HP4).kept f5)
      have HSP5 := hide ((unhide HSP4).kept f5)
      clear f5 HP4 HSP4
      go_wp2_with fail
      go_loopw [12] (fun y W => ∃ i : Nat, i ≤ n ∧ y = .int .i64 (i : Int) ∧ Sp w W n (.slice bo n bc) ∧ PA w W p X p' Y (ldS nb m) (ldM nb m) 1) (fun y _ => n - (intOf y).toNat)
      case atStart => exact ⟨0, by omega, rfl, unhide HSP5, unhide HP5⟩
      case round =>
        clear HSP5 HP5
        obtain ⟨i, hi, rfl, hS, hP⟩ := hrel
        have HS := hide hS
        have HP := hide hP
        by_cases hlt : i < n
        · obtain ⟨xs, hO⟩ := hS.o
          obtain ⟨gg, yy, rfl, hcc, hce, hzf⟩ := owns_at hO hlt
          have HSN := hide (hS.set hlt (.int .u8 255))
          have HPN := hide (hP.off (i := i) (hS.b gg rfl) (unhide HGB gg rfl).1 (unhide HGB gg rfl).2 (.int .u8 255))
          clear hS hO hP
          go_wp2_with fail
          go_roundw
          case rel => exact ⟨i + 1, by omega, by go_num, unhide HSN, unhide HPN⟩
          case measure => simp [intOf]; omega
        · have hie : n = i := by omega
          clear hS hi hlt hP
          subst hie
          go_wp2_with fail
          have HP6 := HP
          clear HP HS HGB
          go_loopw [8, 13] (fun x y W => ∃ i : Nat, i ≤ L ∧ y = .int .i64 (i : Int) ∧ ∃ q X' Y' K' M', x = ptr q ∧ PA w W q X' p' Y' K' M' (i + 1)) (fun _ y _ => L - (intOf y).toNat)
          case atStart => exact ⟨0, by omega, rfl, p, X, Y, _, _, rfl, unhide HP6⟩
          case round =>
            clear HP6
            obtain ⟨i, hi, rfl, q, X', Y', K', M', rfl, hP⟩ := hrel
            have HP := hide hP
            by_cases hlt : i < L
            · have i1 : i < l.length := by have := unhide HLL; omega
              obtain ⟨b, o, rfl, -, hnc, hcm, hc⟩ := ((unhide HL).kept hP.fr).lits (by omega)
              obtain ⟨y0, y1⟩ := hc i i1
              have HA := hide (act_all w wr q X' p' Y' K' M' (i + 1) hP (by omega) l[i].1 l[i].2)
              have hic : i < cap := by omega
              generalize l[i].1 = kd at *
              generalize l[i].2 = kn at *
              clear hP hc i1
              unfold ptr at *
              go_wp2_with fail
              refine (unhide HA).mono ?_
              rintro e w7 ⟨q7, X7, Y7, K7, M7, rfl, hP7⟩
              have HP7 := hide hP7
              have HT := hide (tells_any w w7 q7 X7 p' Y7 K7 M7 (i + 1 + 1) hP7)
              clear hP7 HA HP
              unfold ptr at *
              go_wp2_with fail
              refine (unhide HT).mono ?_
              rintro e w8 ⟨rfl, f8⟩
              have HP8 := hide ((unhide HP7).kept f8)
              clear f8 HT HP7
              go_wp2_with fail
              go_roundw
              case rel => exact ⟨i + 1, by omega, by go_num, q7, X7, Y7, K7, M7, rfl, unhide HP8⟩
              case measure => simp [intOf]; omega
            · have hie : L = i := by omega
              have HT := hide (tells_any w wr q X' p' Y' K' M' (i + 1) hP)
              have HF9 := hide hP.fr
              clear hP hlt
              subst hie
              unfold ptr at *
              go_wp2_with fail
              refine (unhide HT).mono ?_
              rintro e w8 ⟨rfl, f8⟩
              have HF8 := hide ((unhide HF9).trans f8 (fun _ _ h => h))
              clear f8 HT
              go_wp2_with fail
              go_ret
              exact ⟨rfl, unhide HF8⟩
    · have HE := hide he
      clear he
      go_wp2_with fail
      refine (unhide HRD).mono ?_
      rintro e w4 ⟨h4, f4⟩
      rcases h4 with ⟨he2, -⟩ | ⟨-, rfl⟩
      · exact absurd he2 (unhide HE)
      have HSP4 := hide ((unhide HSP3).kept f4)
      clear f4 HRD HE HSP3 HLT HSZ HF3 F2
      generalize ldE nb m = er at *
      go_wp2_with (go_at_call 13; refine (num_any _ _).mono ?_; rintro e w' ⟨rfl, rfl⟩)
      refine (live_any _).mono ?_
      rintro e w5 ⟨rfl, f5⟩
      have HSP5 := hide ((unhide HSP4).kept f5)
      clear f5 HSP4
      go_wp2_with fail
      go_loopw [12] (fun y W => ∃ i : Nat, i ≤ n ∧ y = .int .i64 (i : Int) ∧ Sp w W n (.slice bo n bc)) (fun y _ => n - (intOf y).toNat)
      case atStart => exact ⟨0, by omega, rfl, unhide HSP5⟩
      case round =>
        clear HSP5
        obtain ⟨i, hi, rfl, hS⟩ := hrel
        have HS := hide hS
        by_cases hlt : i < n
        · obtain ⟨xs, hO⟩ := hS.o
          obtain ⟨gg, yy, rfl, hcc, hce, hzf⟩ := owns_at hO hlt
          have HSN := hide (hS.set hlt (.int .u8 255))
          clear hS hO
          go_wp2_with fail
          go_roundw
          case rel => exact ⟨i + 1, by omega, by go_num, unhide HSN⟩
          case measure => simp [intOf]; omega
        · have hie : n = i := by omega
          clear hS hi hlt
          subst hie
          go_wp2_with fail
          have HF6 := hide (unhide HS).f
          clear HS
          go_loopw [8, 13] (fun x y W => x = .pointer none ∧ y = .int .i64 0 ∧ Fr (fun _ => False) w W) (fun _ _ _ => 0)
          case atStart => exact ⟨rfl, rfl, unhide HF6⟩
          case round =>
            clear HF6
            obtain ⟨rfl, rfl, hF⟩ := hrel
            have HF := hide hF
            clear hF
            go_wp2_with fail
            go_ret
            exact ⟨rfl, unhide HF⟩
  have b2 : decide (200 < nb) = false := by simpa using g2
  clear g2
  go_enter Try.func3, Try.ntmps3
  go_wp2_with (at_builtin; refine wpList_app rfl (.tmp 33) (.tmp 34) 22 rfl 5 inf _ 1 1 Try.underlying22 hi0 hz0 hz1 hz2 rfl (by decide) (.slice (some ⟨w.heap.size, 0, none⟩) 0 0) 0 [] rfl (.slice mo n mc) rfl n (bvs m) (clone_new 5 (heap_alloc_new _ _)) (unhide HSR) (bvs_one m) (by omega) (by simp only [maxLen]; omega) ?_)
  intro bo bc w2 o2 g2 p2
  have F2 := hide (((Fr.refl (fun _ => False) w).alloc (.cells #[] 5)).grown g2 (fun k hk e => by simp [Value.ownBlock] at e; omega))
  have HSP : Hid (Sp w w2 n (.slice bo n bc)) := hide ⟨⟨_, o2⟩, (by
    intro b hb
    rcases p2 with e | ⟨k, e, hk⟩
    · rw [hb] at e; simp [Value.ownBlock] at e; omega
    · rw [hb] at e; simp at e; (try simp at hk); omega), unhide F2⟩
  have HLT : Hid (∀ b, (Value.slice bo n bc).ownBlock = some b → b < w2.heap.size) := hide (fun b hb => by
    obtain ⟨cs, hcs⟩ := owns_ty o2 hb
    exact lt_of_heap hcs)
  have HLD := hide (load_any w2 nb (.slice bo n bc) m (Rd.of_owns (base := 0) (by rw [← unhide HN]; exact o2)))
  clear o2 g2 p2 HSR
  go_wp2_with fail
  refine (unhide HLD).mono ?_
  rintro e w3 ⟨h3, f3⟩
  have HF3 := hide ((unhide F2).trans f3 (fun _ _ h => h))
  have HSP3 := hide ((unhide HSP).kept f3)
  have HSZ : Hid (w2.heap.size ≤ w3.heap.size) := hide f3.size
  have HRD := hide (rload_any w3 nb (.slice mo n mc) m ((unhide HM).kept (unhide HF3) (fun _ _ h => h)))
  clear HLD HSP f3
  rcases h3 with ⟨he, p, X, rfl, hK, hnw⟩ | ⟨he, rfl⟩
  · have HE := hide he
    have HK := hide hK
    have HNW := hide hnw
    clear he hK hnw
    unfold ptr at *
    go_wp2_with fail
    refine (unhide HRD).mono ?_
    rintro e w4 ⟨h4, f4⟩
    obtain ⟨-, p', Y, rfl, hR, hnr⟩ := h4.resolve_right (fun h => h.1 (unhide HE))
    have HP4 : Hid (PA w w4 p X p' Y (ldS nb m) (ldM nb m) 1) := hide ⟨(unhide HK).kept f4 (fun _ _ h => h), hR, Ab.load nb m (unhide HE), fun j hj => Nat.le_trans (unhide F2).size (unhide HNW j hj), fun j hj => Nat.le_trans (unhide HF3).size (hnr j hj), (unhide HF3).trans f4 (fun _ _ h => h), (by
      unfold ldS
      rw [Kc.setL_ch]
      have := bitsL_length m (8 * m.length)
      have := unhide HN
      simp [kc0]; omega), (by unfold ldS; rw [Kc.setL_h]; simp [kc0])⟩
    have HSP4 := hide ((unhide HSP3).kept f4)
    have HGB : Hid (∀ b, (Value.slice bo n bc).ownBlock = some b → (∀ j, Bl p X j → j ≠ b) ∧ ∀ j, Rb p' Y j → j ≠ b) := hide (fun b hb => ⟨fun j hj e => by have h1 := unhide HLT b hb; have h2 := unhide HNW j hj; omega, fun j hj e => by have h1 := unhide HLT b hb; have h2 := hnr j hj; have h3 := unhide HSZ; omega⟩)
    clear hR hnr f4 HRD HK HNW HE HSP3 HLT HSZ HF3 F2
    unfold ptr at *
    go_wp2_with (go_at_call 13; refine (num_any _ _).mono ?_; rintro e w' ⟨rfl, rfl⟩)
    refine (live_any _).mono ?_
    rintro e w5 ⟨rfl, f5⟩
    have HP5 := hide ((unhide HP4).kept f5)
    have HSP5 := hide ((unhide HSP4).kept f5)
    clear f5 HP4 HSP4
    go_wp2_with fail
    go_loopw [12] (fun y W => ∃ i : Nat, i ≤ n ∧ y = .int .i64 (i : Int) ∧ Sp w W n (.slice bo n bc) ∧ PA w W p X p' Y (ldS nb m) (ldM nb m) 1) (fun y _ => n - (intOf y).toNat)
    case atStart => exact ⟨0, by omega, rfl, unhide HSP5, unhide HP5⟩
    case round =>
      clear HSP5 HP5
      obtain ⟨i, hi, rfl, hS, hP⟩ := hrel
      have HS := hide hS
      have HP := hide hP
      by_cases hlt : i < n
      · obtain ⟨xs, hO⟩ := hS.o
        obtain ⟨gg, yy, rfl, hcc, hce, hzf⟩ := owns_at hO hlt
        have HSN := hide (hS.set hlt (.int .u8 255))
        have HPN := hide (hP.off (i := i) (hS.b gg rfl) (unhide HGB gg rfl).1 (unhide HGB gg rfl).2 (.int .u8 255))
        clear hS hO hP
        go_wp2_with fail
        go_roundw
        case rel => exact ⟨i + 1, by omega, by go_num, unhide HSN, unhide HPN⟩
        case measure => simp [intOf]; omega
      · have hie : n = i := by omega
        clear hS hi hlt hP
        subst hie
        go_wp2_with fail
        have HP6 := HP
        clear HP HS HGB
        go_loopw [8, 13] (fun x y W => ∃ i : Nat, i ≤ L ∧ y = .int .i64 (i : Int) ∧ ∃ q X' Y' K' M', x = ptr q ∧ PA w W q X' p' Y' K' M' (i + 1)) (fun _ y _ => L - (intOf y).toNat)
        case atStart => exact ⟨0, by omega, rfl, p, X, Y, _, _, rfl, unhide HP6⟩
        case round =>
          clear HP6
          obtain ⟨i, hi, rfl, q, X', Y', K', M', rfl, hP⟩ := hrel
          have HP := hide hP
          by_cases hlt : i < L
          · have i1 : i < l.length := by have := unhide HLL; omega
            obtain ⟨b, o, rfl, -, hnc, hcm, hc⟩ := ((unhide HL).kept hP.fr).lits (by omega)
            obtain ⟨y0, y1⟩ := hc i i1
            have HA := hide (act_all w wr q X' p' Y' K' M' (i + 1) hP (by omega) l[i].1 l[i].2)
            have hic : i < cap := by omega
            generalize l[i].1 = kd at *
            generalize l[i].2 = kn at *
            clear hP hc i1
            unfold ptr at *
            go_wp2_with fail
            refine (unhide HA).mono ?_
            rintro e w7 ⟨q7, X7, Y7, K7, M7, rfl, hP7⟩
            have HP7 := hide hP7
            have HT := hide (tells_any w w7 q7 X7 p' Y7 K7 M7 (i + 1 + 1) hP7)
            clear hP7 HA HP
            unfold ptr at *
            go_wp2_with fail
            refine (unhide HT).mono ?_
            rintro e w8 ⟨rfl, f8⟩
            have HP8 := hide ((unhide HP7).kept f8)
            clear f8 HT HP7
            go_wp2_with fail
            go_roundw
            case rel => exact ⟨i + 1, by omega, by go_num, q7, X7, Y7, K7, M7, rfl, unhide HP8⟩
            case measure => simp [intOf]; omega
          · have hie : L = i := by omega
            have HT := hide (tells_any w wr q X' p' Y' K' M' (i + 1) hP)
            have HF9 := hide hP.fr
            clear hP hlt
            subst hie
            unfold ptr at *
            go_wp2_with fail
            refine (unhide HT).mono ?_
            rintro e w8 ⟨rfl, f8⟩
            have HF8 := hide ((unhide HF9).trans f8 (fun _ _ h => h))
            clear f8 HT
            go_wp2_with fail
            go_ret
            exact ⟨rfl, unhide HF8⟩
  · have HE := hide he
    clear he
    go_wp2_with fail
    refine (unhide HRD).mono ?_
    rintro e w4 ⟨h4, f4⟩
    rcases h4 with ⟨he2, -⟩ | ⟨-, rfl⟩
    · exact absurd he2 (unhide HE)
    have HSP4 := hide ((unhide HSP3).kept f4)
    clear f4 HRD HE HSP3 HLT HSZ HF3 F2
    generalize ldE nb m = er at *
    go_wp2_with (go_at_call 13; refine (num_any _ _).mono ?_; rintro e w' ⟨rfl, rfl⟩)
    refine (live_any _).mono ?_
    rintro e w5 ⟨rfl, f5⟩
    have HSP5 := hide ((unhide HSP4).kept f5)
    clear f5 HSP4
    go_wp2_with fail
    go_loopw [12] (fun y W => ∃ i : Nat, i ≤ n ∧ y = .int .i64 (i : Int) ∧ Sp w W n (.slice bo n bc)) (fun y _ => n - (intOf y).toNat)
    case atStart => exact ⟨0, by omega, rfl, unhide HSP5⟩
    case round =>
      clear HSP5
      obtain ⟨i, hi, rfl, hS⟩ := hrel
      have HS := hide hS
      by_cases hlt : i < n
      · obtain ⟨xs, hO⟩ := hS.o
        obtain ⟨gg, yy, rfl, hcc, hce, hzf⟩ := owns_at hO hlt
        have HSN := hide (hS.set hlt (.int .u8 255))
        clear hS hO
        go_wp2_with fail
        go_roundw
        case rel => exact ⟨i + 1, by omega, by go_num, unhide HSN⟩
        case measure => simp [intOf]; omega
      · have hie : n = i := by omega
        clear hS hi hlt
        subst hie
        go_wp2_with fail
        have HF6 := hide (unhide HS).f
        clear HS
        go_loopw [8, 13] (fun x y W => x = .pointer none ∧ y = .int .i64 0 ∧ Fr (fun _ => False) w W) (fun _ _ _ => 0)
        case atStart => exact ⟨rfl, rfl, unhide HF6⟩
        case round =>
          clear HF6
          obtain ⟨rfl, rfl, hF⟩ := hrel
          have HF := hide hF
          clear hF
          go_wp2_with fail
          go_ret
          exact ⟨rfl, unhide HF⟩
end Go.Proofs.Ytbpajilglfabbaa
