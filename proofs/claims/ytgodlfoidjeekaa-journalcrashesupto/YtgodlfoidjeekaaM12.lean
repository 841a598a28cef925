/-
  JournalCrashes.
  How arguments come in: bytes, puts; and what a bound on their bulk says.
  Acts that came in.
-/
import Derived.Test.YtgodlfoidjeekaaM11
import Derived.Test.YtgodlfoidjeekaaM07
import Derived.Test.YtgodlfoidjeekaaRows
import Derived.ProofKit
import Derived.OpenShut
import Derived.ChangeOld
import Derived.Below
import Derived.Deep.Slices
import Derived.Test.YtgodlfoidjeekaaM10
namespace Go.Proofs.Ytgodlfoidjeekaa
set_option linter.unusedVariables false
set_option linter.unusedSimpArgs false
open Go.RowKit
set_option linter.unusedVariables false
set_option linter.unusedSimpArgs false

attribute [local go_sem ↓] Go.wp_at_zero Go.wp_at_succ

set_option maxRecDepth 100000 in
set_option maxHeartbeats 8000000 in
theorem journalCrashes_any (w : World) (count : Int) (v : Value) (l : List Ac) (h : RdJ w v l) (hl : l.length ≤ 1048576) :
    Calls Try.prog 6 #[.int .i64 count, v] w fun e w' => e = .returned (.bool true) ∧ Fr (fun _ => False) w w' := by
  have HH := hide h
  have HLG := hide (long_any w v l h hl)
  obtain ⟨ao, cap, rfl⟩ := h.shape
  clear h
  go_enter Try.func6, Try.ntmps6
  go_wp2_with fail
  refine (unhide HLG).mono ?_
  rintro e w1 ⟨rfl, f1⟩
  have HF1 := hide f1
  clear f1 HLG
  rcases hlg : lgB l with _ | _
  case true =>
    go_wp2_with fail
    refine (live_any _).mono ?_
    rintro e w2 ⟨rfl, f2⟩
    go_wp2_with fail
    go_ret
    exact ⟨rfl, (unhide HF1).trans f2 (fun _ _ e => e)⟩
  obtain ⟨h30, h300⟩ := lg_few2 hlg
  have HFEW := hide h300
  clear hlg h300
  by_cases hc : count < 6 ∨ 40 < count
  · go_wp2_with fail
    refine (begun_no _ count hc).mono ?_
    rintro e w2 ⟨rfl, rfl⟩
    rcases hc with hc | hc
    · go_wp2_with fail
      refine (live_any _).mono ?_
      rintro e w2 ⟨rfl, f2⟩
      go_wp2_with fail
      go_ret
      exact ⟨rfl, (unhide HF1).trans f2 (fun _ _ e => e)⟩
    · by_cases hc6 : count < 6
      · omega
      · go_wp2_with fail
        refine (live_any _).mono ?_
        rintro e w2 ⟨rfl, f2⟩
        go_wp2_with fail
        go_ret
        exact ⟨rfl, (unhide HF1).trans f2 (fun _ _ e => e)⟩
  obtain ⟨c, rfl⟩ : ∃ c : Nat, count = (c : Int) := ⟨count.toNat, by omega⟩
  have hc6 : 6 ≤ c := by omega
  have hc40 : c ≤ 40 := by omega
  clear hc
  have HBG := hide (begun2_any w1 c hc6 hc40)
  go_wp2_with fail
  refine (unhide HBG).mono ?_
  rintro e w2 ⟨s, j0, J0, D0, rfl, hJ0, hS0, hR0, f2⟩
  have HJ0 := hide hJ0
  have HS0 := hide hS0
  have HR0 := hide hR0
  have HF2 := hide (X00_fr2 f2 (Fr.refl _ _))
  have HW1 := hide (unhide HF1).size
  clear hJ0 hS0 hR0 f2 HBG
  go_wp2_with fail
  go_loopw [6, 7, 8, 9, 10] (fun jv x y z u W => ∃ i : Nat, i ≤ l.length ∧ u = .int .i64 (i : Int) ∧ ∃ (j : Nat) (J : Jn) (D : Dv) (T L : List Tr) (yy : Nat), jv = .pointer (some ⟨j, 0, none⟩) ∧ (∃ a, a = J.sup.l ∧ y = .int .i64 ((a : Nat) : Int)) ∧ (∃ a, a = J.synced ∧ z = .int .i64 ((a : Nat) : Int)) ∧ JS X00 w1 W j s J D ∧ Cr c (i + 1) J D T L yy ∧ (∃ vo vc n, n = L.length ∧ x = .slice vo n vc ∧ Lp W (.slice vo n vc) (L.map fun t => gtL t.x)) ∧ (∀ b, x.ownBlock = some b → w1.heap.size ≤ b) ∧ Fr (fun _ => False) w1 W) (fun _ _ _ _ u _ => l.length - (intOf u).toNat)
  case atStart => exact ⟨0, Nat.zero_le _, rfl, j0, J0, D0, [], [], 0, rfl, ⟨0, (unhide HS0).symm, rfl⟩, ⟨0, by rw [(unhide HR0).syn, unhide HS0], rfl⟩, unhide HJ0, unhide HR0, ⟨_, _, 0, rfl, rfl, Lp.nil _⟩, fun b e => by simp [Value.ownBlock] at e, unhide HF2⟩
  case round =>
    obtain ⟨i, hi, rfl, j, J, D, T, L, yy, rfl, ⟨sl, hsl, rfl⟩, ⟨sy, hsy, rfl⟩, hJ, hR, ⟨vo, vc, n, hn, rfl, hO⟩, hOW, hF⟩ := hrel
    clear HJ0 HR0 HS0 HF2
    have HJ := hide hJ
    have HR := hide hR
    have HOK := hide hJ.ok
    have HO := hide hO
    have HOW := hide hOW
    have HF := hide hF
    have hsn : sl + n ≤ i + 1 ∧ sy = sl + yy ∧ yy ≤ n := by
      have h1 := hR.at.2.1
      have h2 := hR.lst
      have h3 := hR.syn
      have h4 := hR.few
      omega
    have HSN := hide hsn
    have hs1 : sl + n ≤ i + 1 := hsn.1
    have hs2 : sy ≤ i + 1 := by omega
    clear hsn
    have HSL := hide hsl
    have HSY := hide hsy
    have HN := hide hn
    clear hJ hR hO hOW hF hsl hsy hn
    by_cases hlt : i < l.length
    case neg =>
      have q0 : ¬ (i : Int) < (l.length : Int) := by omega
      clear HJ HR HO HOW HOK HSL HSY HN
      go_wp2_with fail
      refine (live_any _).mono ?_
      rintro e w3 ⟨rfl, f3⟩
      go_wp2_with fail
      go_ret
      exact ⟨rfl, (unhide HF1).trans ((unhide HF).trans f3 (fun _ _ e => e)) (fun _ _ e => e)⟩
    have q0 : (i : Int) < (l.length : Int) := by omega
    have FW : Fr (fun _ => False) w wr := (unhide HF1).trans (unhide HF) (fun _ _ e => e)
    obtain ⟨B, o, cap', tv, kv, y1, q1, hin, hB, c0, c1, rt, c2, c3, rk, c4⟩ := (unhide HH).get (Fr.refl (fun _ => False) w) (fun _ _ e => e) i hlt
    simp at y1
    obtain ⟨rfl, rfl⟩ := y1
    obtain ⟨xo, xc, rfl⟩ := rt.shape
    obtain ⟨ko, kc, rfl⟩ := rk.shape
    have hfew := unhide HFEW i hlt
    obtain ⟨a, ha⟩ : ∃ a, a = l[i] := ⟨_, rfl⟩
    rw [← ha] at hin c0 c1 rt c2 c3 rk c4 hfew
    rw [List.length_map] at c3 rk
    have hrg : wr.rangeAt B (o + i * 5) [.int .i64 a.k, .slice xo a.tx.length xc, .int .u64 (a.lsn : Int), .slice ko a.keep.length kc, .int .i64 a.fail] := by
      intro q u hq
      have hq5 : q < 5 := (List.getElem?_eq_some_iff.1 hq).1
      rcases (by omega : q = 0 ∨ q = 1 ∨ q = 2 ∨ q = 3 ∨ q = 4) with rfl | rfl | rfl | rfl | rfl
      · simp at hq; subst hq; rw [FW.cell hB id]; exact c0
      · simp at hq; subst hq; rw [FW.cell hB id]; exact c1
      · simp at hq; subst hq; rw [FW.cell hB id]; exact c2
      · simp at hq; subst hq; rw [FW.cell hB id]; exact c3
      · simp at hq; subst hq; rw [FW.cell hB id]; exact c4
    have hkw : a.keep ≠ [] → ∀ b, (Value.slice ko a.keep.length kc).ownBlock = some b → ¬ X00 b ∧ b < w1.heap.size := fun e b hb => by
      obtain ⟨kb, kof, rfl, -, -, -, hck⟩ := rk.lits (by rw [List.length_map]; exact List.length_pos_iff.2 e)
      simp [Value.ownBlock] at hb
      subst hb
      have h1 := World.block_lt_of_cell? w _ (hck 0 (by rw [List.length_map]; exact List.length_pos_iff.2 e))
      have h2 := (unhide HF1).size
      simp at h1
      exact ⟨id, by omega⟩
    have HRG := hide hrg
    have HIN := hide hin
    have RT := hide rt
    have RK := hide rk
    have HKW := hide hkw
    have hlsn := hin.lsn
    clear ha hin c0 c1 rt c2 c3 rk c4 hrg FW hkw
    obtain ⟨tx, htx⟩ : ∃ t, t = a.tx := ⟨_, rfl⟩
    have HTD := hide (unhide HIN).data
    rw [← htx] at RT hfew HRG HTD
    obtain ⟨keep, hkeep⟩ : ∃ t, t = a.keep := ⟨_, rfl⟩
    rw [← hkeep] at RK HKW HRG
    generalize a.k = kd at *
    generalize a.lsn = lsn at *
    generalize a.fail = fl at *
    clear htx hkeep HIN
    go_upto_region 12 with (refine wpList_load_mid rfl 75 (.tmp 51) rfl B (o + i * 5) rfl _ _ (unhide HRG) Try.underlying75 rfl (by kernel_rfl) ?_)
    have fA : Fr (fun _ => False) wr (wr.alloc (.cells #[.int .i64 kd, .slice xo tx.length xc, .int .u64 (lsn : Int), .slice ko keep.length kc, .int .i64 fl] 75)) := (Fr.refl _ _).alloc _
    have HA3 := hide (heap_alloc_new wr (.cells #[.int .i64 kd, .slice xo tx.length xc, .int .u64 (lsn : Int), .slice ko keep.length kc, .int .i64 fl] 75))
    have HJ3 := hide ((unhide HJ).kept0 fA)
    have HO3 := hide ((unhide HO).kept0 fA)
    have HF3 := hide ((unhide HF).trans fA (fun _ _ e => e))
    refine wp_world ?_
    intro w3 hw3
    rw [← hw3] at HA3 HJ3 HO3 HF3
    obtain ⟨b11, hb11⟩ : ∃ b, b = wr.heap.size := ⟨_, rfl⟩
    rw [← hb11] at HA3 ⊢
    clear hw3 hb11 fA HJ HO HF HRG
    have a0 := cell_of_heap (unhide HA3) 0
    have a1 := cell_of_heap (unhide HA3) 1
    have a2 := cell_of_heap (unhide HA3) 2
    have a3 := cell_of_heap (unhide HA3) 3
    simp at a0 a1 a2 a3
    have hlt3 := lt_of_heap (unhide HA3)
    have HK3 := hide (knd_cells (unhide HA3))
    have hi40 : i + 1 ≤ 40 := by omega
    have HRT := hide (fun W (f : Fr (fun _ => False) w1 W) => rdp_kept (unhide RT) ((unhide HF1).trans f (fun _ _ e => e)))
    clear RT HA3
    have hQ2 := (unhide HR).qs
    by_cases hk1 : kd = 1
    · subst hk1
      have HTL : Hid (tx.length ≤ 100000) := hide (by omega)
      have HW3 := hide (own_any w3 _ tx (unhide HRT _ (unhide HF3)) (by omega) (fun p h => by have := unhide HTD p h; omega))
      clear a2 a3 RK HKW
      go_wp2_with fail
      refine (unhide HW3).mono ?_
      rintro e w5 ⟨r5, rfl, hO5, f5⟩
      obtain ⟨r5o, r5c, rfl⟩ := hO5.shape
      have HAP := hide (append_any w5 j s J D _ tx ((unhide HJ3).kept0 f5) hO5.rdp (unhide HTL) (by omega))
      have HO5 := hide ((unhide HO3).kept0 f5)
      have HF5 := hide ((unhide HF3).trans f5 (fun _ _ e => e))
      have hk5 := (knd_fr f5 (k := b11) id hlt3).trans (unhide HK3)
      have a15 := (f5.cell (a := ⟨b11, 1, none⟩) hlt3 id).trans a1
      have hlt5 : b11 < w5.heap.size := Nat.lt_of_lt_of_le hlt3 f5.size
      clear hO5 f5 HJ3 HO3 HF3 HW3 a0 a1 hlt3 HK3
      go_wp2_with fail
      refine (unhide HAP).mono ?_
      rintro e w6 ⟨rfl, hJ6, f6⟩
      have HO6 := hide ((unhide HO5).zs (w0 := w1) f6)
      have HF6 := hide (X00_fr2 f6 (unhide HF5))
      have a16 := (f6.cell (a := ⟨b11, 1, none⟩) hlt5 (fun z => by
        have := z.1
        rw [hk5] at this
        unfold KD KJ at this
        omega)).trans a15
      have hlt6 : b11 < w6.heap.size := Nat.lt_of_lt_of_le hlt5 f6.size
      clear HAP f6 HO5 HF5 hk5 a15 hlt5
      by_cases hfit : ptB tx = true ∧ apN tx ≤ J.room
      · obtain ⟨hpt, hrm⟩ := hfit
        obtain ⟨g1, g2, g3⟩ := (unhide HR).append hi40 (unhide HOK) hpt hrm
        rw [← unhide HSL, ← unhide HN] at g1
        have HR7 := hide g3
        have HJ6 := hide hJ6
        have HE1 : Hid ((apJ J D tx).sup.l = sl) := hide (by rw [g2, unhide HSL])
        have HE2 : Hid ((apJ J D tx).synced = sy) := hide (by rw [g3.syn, g2, ← unhide HSL]; exact (unhide HSN).2.1.symm)
        obtain ⟨n1, hn1⟩ : ∃ x, x = n + 1 := ⟨_, rfl⟩
        have HE3 : Hid ((L ++ [apT J tx]).length = n1) := hide (by rw [List.length_append, ← unhide HN, hn1]; rfl)
        have HX := hide (gt_ptL hpt).2.1
        have HT0 : Hid (0 < tx.length) := hide (by have := (pt_of hpt).1; omega)
        obtain ⟨m1, hm1⟩ : ∃ x, x = sl + n1 := ⟨_, rfl⟩
        rw [← hn1, ← hm1] at g1
        rw [g1]
        dsimp only
        have kS : IntKind.i64.wrap ((sl : Int) + (n1 : Int)) = (m1 : Int) := by
          rw [← Int.natCast_add, ← hm1]
          exact wrapI m1 (by omega)
        have kM : IntKind.i64.wrap (m1 : Int) = (m1 : Int) := wrapI m1 (by omega)
        have HN1 := hide hn1
        have hn1b : n1 ≤ 41 := by omega
        clear g1 g2 g3 hJ6 hpt hrm HR HSL HSY HOK hQ2 hm1 hn1
        have HW6 := hide (own_any w6 _ tx (unhide HRT _ (unhide HF6)) (by omega) (fun p h => by have := unhide HTD p h; omega))
        go_wp2_with (go_at_call 18; refine (num_any _ _).mono ?_; rintro e w9 ⟨rfl, rfl⟩)
        refine (unhide HW6).mono ?_
        rintro e w7 ⟨r7, rfl, hO7, f7⟩
        have hP7 := hO7.pk (unhide HT0)
        obtain ⟨r7o, r7c, rfl⟩ := hO7.shape
        have fA7 : Fr (fun _ => False) w7 (w7.alloc (.cells #[.slice r7o tx.length r7c] 28)) := (Fr.refl _ _).alloc _
        have hLP7 := ((unhide HO6).kept0 f7).kept0 fA7
        obtain ⟨v8, w8, hr, hO8, f8, hn8⟩ := run_appP (w7.alloc (.cells #[.slice r7o tx.length r7c] 28)) _ _ hLP7 _ _ (hP7.kept fA7 (fun _ e => e.elim)) w7.heap.size (heap_alloc_new w7 _) (by rw [List.length_map, ← unhide HN]; omega)
        have hll : (L.map (fun t => gtL t.x) ++ [tx]).length = n1 := by rw [List.length_append, List.length_map, ← unhide HN, unhide HN1]; rfl
        obtain ⟨v8o, v8c, rfl⟩ := hO8.shape
        rw [hll] at hr hO8 hn8
        have hs7 := fA7.size
        have HOW8 : Hid (∀ b, (Value.slice v8o n1 v8c).ownBlock = some b → w1.heap.size ≤ b) := hide (fun b hb => by
          rcases hn8 with e | e
          · rw [e] at hb; exact unhide HOW b hb
          · rw [e] at hb; simp at hb; have := (unhide HF6).size; have := f7.size; omega)
        have HJ8 := hide (js_other2 (((unhide HJ6).kept0 f7).kept0 fA7) f8 (fun k e => (hLP7.kn k e).1))
        have HF8 := hide ((((unhide HF6).trans f7 (fun _ _ e => e)).trans fA7 (fun _ _ e => e)).trans f8 (fun k hk e => by have := unhide HOW k e; omega))
        have HO8 : Hid (Lp w8 (.slice v8o n1 v8c) ((L ++ [apT J tx]).map fun t => gtL t.x)) := hide (by
          have e : (L ++ [apT J tx]).map (fun t => gtL t.x) = L.map (fun t => gtL t.x) ++ [tx] := by rw [List.map_append]; show _ ++ [gtL (ptL tx)] = _; rw [unhide HX]
          rw [e]; exact hO8)
        have HRA := hide hr
        clear hP7 hO7 f7 fA7 hLP7 hr hO8 f8 hn8 hll hs7 HW6 HJ6 HO6 HF6 HOW HN HN1 HSN HX HT0 HRT HTD HTL a16 hlt6
        go_wp2_with (first | (at_builtin; refine wl_x (wanted_none rfl) (x_app79 rfl rfl rfl rfl (unhide HRA)) ?_))
        clear kS kM HRA
        obtain ⟨⟨mvT, svT, qvT, hJT, -, -⟩, okT, -⟩ := unhide HJ8
        have hA1 := synced_any _ j s mvT _ hJT
        have hA2 := trimmed_any _ j s mvT _ hJT
        have hA3 := last_any _ j s mvT _ _ hJT okT
        have hls := (unhide HR7).at.2.1
        have hsy := (unhide HR7).syn
        have hfw := (unhide HR7).few
        have hlb := (unhide HR7).lst
        rw [unhide HE2] at hA1 hsy
        rw [unhide HE1] at hA2 hls hsy
        rw [unhide HE3] at hls hfw
        rw [hls] at hA3 hlb
        first | rw [unhide HE3] at hsy | skip
        have HA1 := hide hA1
        have HA2 := hide hA2
        have HA3 := hide hA3
        have kT1 : IntKind.i64.wrap ((sy : Nat) : Int) = ((sy : Nat) : Int) := wrapI (sy) (by omega)
        have kT2 : IntKind.i64.wrap ((sl : Nat) : Int) = ((sl : Nat) : Int) := wrapI (sl) (by omega)
        have kT3 : IntKind.i64.wrap ((sl + n1 : Nat) : Int) = ((sl + n1 : Nat) : Int) := wrapI (sl + n1) (by omega)
        have kT4 : IntKind.i64.wrap (((sl : Nat) : Int) + ((n1 : Nat) : Int)) = ((sl + n1 : Nat) : Int) := by rw [← Int.natCast_add]; exact wrapI (sl + n1) (by omega)
        have HG1 := hide (unhide HE1)
        have HG2 := hide (unhide HE2)
        have HG3 := hide (unhide HE3)
        obtain ⟨lst, hlst⟩ : ∃ x, x = sl + n1 := ⟨_, rfl⟩
        rw [← hlst] at HA3 kT3 kT4
        clear hJT okT hA1 hA2 hA3 hls hsy hfw hlb hlst
        skip
        refine (unhide HA1).mono ?_
        rintro e wT ⟨rfl, rfl⟩
        go_wp2_with fail
        refine (unhide HA2).mono ?_
        rintro e wT ⟨rfl, rfl⟩
        go_wp2_with fail
        refine (unhide HA3).mono ?_
        rintro e wT ⟨rfl, fT⟩
        have HJS9 := hide ((unhide HJ8).kept0 fT)
        have HLP9 := hide ((unhide HO8).kept0 fT)
        have HF9 := hide ((unhide HF8).trans fT (fun _ _ e => e))
        clear fT HA1 HA2 HA3
        go_wp2_with fail
        go_roundw
        case rel => exact ⟨i + 1, by omega, by go_num, j, _, _, _, _, _, rfl, ⟨_, (unhide HG1).symm, rfl⟩, ⟨_, (unhide HG2).symm, rfl⟩, unhide HJS9, unhide HR7, ⟨_, _, _, (unhide HG3).symm, rfl, unhide HLP9⟩, unhide HOW8, unhide HF9⟩
        case measure => simp [intOf]; omega
      · obtain ⟨e0, e1, e2⟩ := ap_no (D := D) hfit
        rw [e1, e2] at hJ6
        have HJ6 := hide hJ6
        obtain ⟨E, hE⟩ : ∃ E, E = (apE J D tx).2 := ⟨_, rfl⟩
        obtain ⟨E1, hE1⟩ : ∃ E, E = (apE J D tx).1 := ⟨_, rfl⟩
        rw [← hE] at e0 ⊢
        rw [← hE1]
        have bE : (E == 0) = false := by simpa using e0
        have HR7 := hide (unhide HR).mono
        clear hJ6 e1 e2 hE hE1 HR hfit HOK hQ2 a16 hlt6 HRT HTD HTL
        go_wp2_with (go_at_call 18; refine (num_any _ _).mono ?_; rintro e w9 ⟨rfl, rfl⟩)
        obtain ⟨⟨mvT, svT, qvT, hJT, -, -⟩, okT, -⟩ := unhide HJ6
        have hA1 := synced_any _ j s mvT _ hJT
        have hA2 := trimmed_any _ j s mvT _ hJT
        have hA3 := last_any _ j s mvT _ _ hJT okT
        have hls := (unhide HR7).at.2.1
        have hsy := (unhide HR7).syn
        have hfw := (unhide HR7).few
        have hlb := (unhide HR7).lst
        rw [(unhide HSY).symm] at hA1 hsy
        rw [(unhide HSL).symm] at hA2 hls hsy
        rw [(unhide HN).symm] at hls hfw
        rw [hls] at hA3 hlb
        first | rw [(unhide HN).symm] at hsy | skip
        have HA1 := hide hA1
        have HA2 := hide hA2
        have HA3 := hide hA3
        have kT1 : IntKind.i64.wrap ((sy : Nat) : Int) = ((sy : Nat) : Int) := wrapI (sy) (by omega)
        have kT2 : IntKind.i64.wrap ((sl : Nat) : Int) = ((sl : Nat) : Int) := wrapI (sl) (by omega)
        have kT3 : IntKind.i64.wrap ((sl + n : Nat) : Int) = ((sl + n : Nat) : Int) := wrapI (sl + n) (by omega)
        have kT4 : IntKind.i64.wrap (((sl : Nat) : Int) + ((n : Nat) : Int)) = ((sl + n : Nat) : Int) := by rw [← Int.natCast_add]; exact wrapI (sl + n) (by omega)
        have HG1 := hide ((unhide HSL).symm)
        have HG2 := hide ((unhide HSY).symm)
        have HG3 := hide ((unhide HN).symm)
        obtain ⟨lst, hlst⟩ : ∃ x, x = sl + n := ⟨_, rfl⟩
        rw [← hlst] at HA3 kT3 kT4
        clear hJT okT hA1 hA2 hA3 hls hsy hfw hlb hlst
        go_wp2_with fail
        refine (unhide HA1).mono ?_
        rintro e wT ⟨rfl, rfl⟩
        go_wp2_with fail
        refine (unhide HA2).mono ?_
        rintro e wT ⟨rfl, rfl⟩
        go_wp2_with fail
        refine (unhide HA3).mono ?_
        rintro e wT ⟨rfl, fT⟩
        have HJS9 := hide ((unhide HJ6).kept0 fT)
        have HLP9 := hide ((unhide HO6).kept0 fT)
        have HF9 := hide ((unhide HF6).trans fT (fun _ _ e => e))
        clear fT HA1 HA2 HA3
        go_wp2_with fail
        go_roundw
        case rel => exact ⟨i + 1, by omega, by go_num, j, _, _, _, _, _, rfl, ⟨_, (unhide HG1).symm, rfl⟩, ⟨_, (unhide HG2).symm, rfl⟩, unhide HJS9, unhide HR7, ⟨_, _, _, (unhide HG3).symm, rfl, unhide HLP9⟩, unhide HOW, unhide HF9⟩
        case measure => simp [intOf]; omega
    by_cases hk2 : kd = 2
    · subst hk2
      go_wp2_with fail
      refine (sync_any (H := unhide HJ3)).mono ?_
      rintro e w4 ⟨rfl, hJ4, f4⟩
      have HJ4 := hide hJ4
      have HO4 := hide ((unhide HO3).zs (w0 := w1) f4)
      have HF4 := hide (X00_fr2 f4 (unhide HF3))
      have HR4 := hide ((unhide HR).sync (unhide HOK))
      obtain ⟨m1, hm1⟩ : ∃ x, x = sl + n := ⟨_, rfl⟩
      have kS : IntKind.i64.wrap ((sl : Int) + (n : Int)) = (m1 : Int) := by
        rw [← Int.natCast_add, ← hm1]
        exact wrapI m1 (by omega)
      have HE1 : Hid (J.syn.sup.l = sl) := hide (unhide HSL).symm
      have HE2 : Hid (J.syn.synced = m1) := hide (by show J.lst = m1; rw [(unhide HR).at.2.1, ← unhide HSL, ← unhide HN, hm1])
      clear hJ4 f4 HJ3 HO3 HF3 HRT HTD RK HKW a0 a1 a2 a3 hlt3 HK3 HR HOK HSL HSY hm1 HSN hQ2
      go_wp2_with (go_at_call 18; refine (num_any _ _).mono ?_; rintro e w9 ⟨rfl, rfl⟩)
      clear kS
      obtain ⟨⟨mvT, svT, qvT, hJT, -, -⟩, okT, -⟩ := unhide HJ4
      have hA1 := synced_any _ j s mvT _ hJT
      have hA2 := trimmed_any _ j s mvT _ hJT
      have hA3 := last_any _ j s mvT _ _ hJT okT
      have hls := (unhide HR4).at.2.1
      have hsy := (unhide HR4).syn
      have hfw := (unhide HR4).few
      have hlb := (unhide HR4).lst
      rw [unhide HE2] at hA1 hsy
      rw [unhide HE1] at hA2 hls hsy
      rw [(unhide HN).symm] at hls hfw
      rw [hls] at hA3 hlb
      first | rw [(unhide HN).symm] at hsy | skip
      have HA1 := hide hA1
      have HA2 := hide hA2
      have HA3 := hide hA3
      have kT1 : IntKind.i64.wrap ((m1 : Nat) : Int) = ((m1 : Nat) : Int) := wrapI (m1) (by omega)
      have kT2 : IntKind.i64.wrap ((sl : Nat) : Int) = ((sl : Nat) : Int) := wrapI (sl) (by omega)
      have kT3 : IntKind.i64.wrap ((sl + n : Nat) : Int) = ((sl + n : Nat) : Int) := wrapI (sl + n) (by omega)
      have kT4 : IntKind.i64.wrap (((sl : Nat) : Int) + ((n : Nat) : Int)) = ((sl + n : Nat) : Int) := by rw [← Int.natCast_add]; exact wrapI (sl + n) (by omega)
      have HG1 := hide (unhide HE1)
      have HG2 := hide (unhide HE2)
      have HG3 := hide ((unhide HN).symm)
      obtain ⟨lst, hlst⟩ : ∃ x, x = sl + n := ⟨_, rfl⟩
      rw [← hlst] at HA3 kT3 kT4
      clear hJT okT hA1 hA2 hA3 hls hsy hfw hlb hlst
      skip
      refine (unhide HA1).mono ?_
      rintro e wT ⟨rfl, rfl⟩
      go_wp2_with fail
      refine (unhide HA2).mono ?_
      rintro e wT ⟨rfl, rfl⟩
      go_wp2_with fail
      refine (unhide HA3).mono ?_
      rintro e wT ⟨rfl, fT⟩
      have HJS9 := hide ((unhide HJ4).kept0 fT)
      have HLP9 := hide ((unhide HO4).kept0 fT)
      have HF9 := hide ((unhide HF4).trans fT (fun _ _ e => e))
      clear fT HA1 HA2 HA3
      go_wp2_with fail
      go_roundw
      case rel => exact ⟨i + 1, by omega, by go_num, j, _, _, _, _, _, rfl, ⟨_, (unhide HG1).symm, rfl⟩, ⟨_, (unhide HG2).symm, rfl⟩, unhide HJS9, unhide HR4, ⟨_, _, _, (unhide HG3).symm, rfl, unhide HLP9⟩, unhide HOW, unhide HF9⟩
      case measure => simp [intOf]; omega
    by_cases hk3 : kd = 3
    · subst hk3
      have hsl3 : J.synced ≤ J.lst := by
        have h1 := (unhide HR).at.2.1
        have h2 := (unhide HR).syn
        have h3 := (unhide HR).few
        omega
      have HTM := hide (trim_any w3 j s J D lsn hlsn (unhide HJ3) (by omega) hsl3)
      clear hsl3 a1 a3 RK HKW HRT HTD
      go_wp2_with fail
      refine (unhide HTM).mono ?_
      rintro e w4 ⟨rfl, hJ4, f4⟩
      have HO4 := hide ((unhide HO3).zs (w0 := w1) f4)
      have HF4 := hide (X00_fr2 f4 (unhide HF3))
      have a2' : w4.cell? ⟨b11, 2, none⟩ = some (.int .u64 (lsn : Int)) := (f4.cell (a := ⟨b11, 2, none⟩) hlt3 (fun z => by
        have := z.1
        rw [unhide HK3] at this
        unfold KD KJ at this
        omega)).trans a2
      clear f4 HJ3 HO3 HF3 a0 a2 hlt3 HTM HK3
      by_cases hg : tmE J D lsn = 0 ∧ J.sup.l < lsn
      · obtain ⟨g0, g1⟩ := hg
        obtain ⟨t1, t2, t3⟩ := (unhide HR).trim hi40 (unhide HOK) g0 g1
        rw [g0]
        rw [← unhide HSL] at g1 t1
        rw [← unhide HN] at t1
        obtain ⟨k, hk⟩ : ∃ k, k = lsn - sl := ⟨_, rfl⟩
        obtain ⟨n2, hn2⟩ : ∃ x, x = n - k := ⟨_, rfl⟩
        obtain ⟨m1, hm1⟩ : ∃ x, x = sl + n := ⟨_, rfl⟩
        have hdk : lsn - J.sup.l = k := by rw [← unhide HSL, hk]
        rw [hdk] at t3
        have hdl : (L.drop k).length = n2 := by rw [List.length_drop, ← unhide HN, hn2]
        have HJ5 := hide hJ4
        have HR5 := hide t3
        have HE1 : Hid ((tmJ J D lsn).sup.l = lsn) := hide t2
        have HE2 : Hid ((tmJ J D lsn).synced = m1) := hide (by rw [t3.syn, t2, hdl]; omega)
        have HE3 : Hid ((L.drop k).length = n2) := hide hdl
        have hkn : k ≤ n := by omega
        have kL : IntKind.i64.wrap (lsn : Int) = (lsn : Int) := wrapI lsn (by omega)
        have kD : IntKind.i64.wrap ((lsn : Int) - (sl : Int)) = (k : Int) := by
          rw [show (lsn : Int) - (sl : Int) = (k : Int) by omega]
          exact wrapI k (by omega)
        have kS : IntKind.i64.wrap ((sl : Int) + (n : Int)) = (m1 : Int) := by
          rw [← Int.natCast_add, ← hm1]
          exact wrapI m1 (by omega)
        have q2 : (sl : Int) < (lsn : Int) := by omega
        obtain ⟨g, off, cp, hv, hc1, hA, hBB⟩ := (unhide HO4).cut k (by omega) (by rw [List.length_map, ← unhide HN]; exact hkn)
        rw [List.length_map, ← unhide HN] at hv hc1 hBB hA
        simp only [Value.slice.injEq, true_and] at hv
        obtain ⟨rfl, rfl⟩ := hv
        rw [← hn2, ← List.map_drop] at hA
        rw [← List.map_drop] at hBB
        by_cases hcp : k < vc
        · have HO5 := hide (hA hcp)
          have HOW5 : Hid (∀ b, (Value.slice (some ⟨g, off + k, none⟩) n2 (vc - k)).ownBlock = some b → w1.heap.size ≤ b) := hide (fun b hb => unhide HOW b hb)
          have kN : n - k = n2 := hn2.symm
          have kN2 : (((n : Int) - (k : Int)).toNat) = n2 := by omega
          clear hA hBB hk hn2 hm1 hdk hdl t1 t2 t3 g0 g1 hJ4 HR HOK HSL HSY HN HSN hQ2 HO4 HOW
          go_wp2_with (go_at_call 18; refine (num_any _ _).mono ?_; rintro e w9 ⟨rfl, rfl⟩)
          clear kS kL kD kN kN2
          obtain ⟨⟨mvT, svT, qvT, hJT, -, -⟩, okT, -⟩ := unhide HJ5
          have hA1 := synced_any _ j s mvT _ hJT
          have hA2 := trimmed_any _ j s mvT _ hJT
          have hA3 := last_any _ j s mvT _ _ hJT okT
          have hls := (unhide HR5).at.2.1
          have hsy := (unhide HR5).syn
          have hfw := (unhide HR5).few
          have hlb := (unhide HR5).lst
          rw [unhide HE2] at hA1 hsy
          rw [unhide HE1] at hA2 hls hsy
          rw [unhide HE3] at hls hfw
          rw [hls] at hA3 hlb
          first | rw [unhide HE3] at hsy | skip
          have HA1 := hide hA1
          have HA2 := hide hA2
          have HA3 := hide hA3
          have kT1 : IntKind.i64.wrap ((m1 : Nat) : Int) = ((m1 : Nat) : Int) := wrapI (m1) (by omega)
          have kT2 : IntKind.i64.wrap ((lsn : Nat) : Int) = ((lsn : Nat) : Int) := wrapI (lsn) (by omega)
          have kT3 : IntKind.i64.wrap ((lsn + n2 : Nat) : Int) = ((lsn + n2 : Nat) : Int) := wrapI (lsn + n2) (by omega)
          have kT4 : IntKind.i64.wrap (((lsn : Nat) : Int) + ((n2 : Nat) : Int)) = ((lsn + n2 : Nat) : Int) := by rw [← Int.natCast_add]; exact wrapI (lsn + n2) (by omega)
          have HG1 := hide (unhide HE1)
          have HG2 := hide (unhide HE2)
          have HG3 := hide (unhide HE3)
          obtain ⟨lst, hlst⟩ : ∃ x, x = lsn + n2 := ⟨_, rfl⟩
          rw [← hlst] at HA3 kT3 kT4
          clear hJT okT hA1 hA2 hA3 hls hsy hfw hlb hlst
          skip
          refine (unhide HA1).mono ?_
          rintro e wT ⟨rfl, rfl⟩
          go_wp2_with fail
          refine (unhide HA2).mono ?_
          rintro e wT ⟨rfl, rfl⟩
          go_wp2_with fail
          refine (unhide HA3).mono ?_
          rintro e wT ⟨rfl, fT⟩
          have HJS9 := hide ((unhide HJ5).kept0 fT)
          have HLP9 := hide ((unhide HO5).kept0 fT)
          have HF9 := hide ((unhide HF4).trans fT (fun _ _ e => e))
          clear fT HA1 HA2 HA3
          go_wp2_with fail
          go_roundw
          case rel => exact ⟨i + 1, by omega, by go_num, j, _, _, _, _, _, rfl, ⟨_, (unhide HG1).symm, rfl⟩, ⟨_, (unhide HG2).symm, rfl⟩, unhide HJS9, unhide HR5, ⟨_, _, _, (unhide HG3).symm, rfl, unhide HLP9⟩, unhide HOW5, unhide HF9⟩
          case measure => simp [intOf]; omega
        · obtain ⟨e1, e2, hO5⟩ := hBB hcp
          have HO5 := hide hO5
          have HOW5 : Hid (∀ b, (Value.slice (some ⟨g, off, none⟩) 0 0).ownBlock = some b → w1.heap.size ≤ b) := hide (fun b hb => unhide HOW b hb)
          obtain rfl : n2 = 0 := by omega
          subst e1
          have kV : vc ≤ n := hkn
          have e2' : n = vc := e2
          clear hA hBB hk hn2 hm1 hdk hdl t1 t2 t3 g0 g1 hJ4 HR HOK HSL HSY HN HSN hQ2 HO4 HOW hO5 hcp
          subst e2'
          go_wp2_with (go_at_call 18; refine (num_any _ _).mono ?_; rintro e w9 ⟨rfl, rfl⟩)
          clear kS kL kD
          obtain ⟨⟨mvT, svT, qvT, hJT, -, -⟩, okT, -⟩ := unhide HJ5
          have hA1 := synced_any _ j s mvT _ hJT
          have hA2 := trimmed_any _ j s mvT _ hJT
          have hA3 := last_any _ j s mvT _ _ hJT okT
          have hls := (unhide HR5).at.2.1
          have hsy := (unhide HR5).syn
          have hfw := (unhide HR5).few
          have hlb := (unhide HR5).lst
          rw [unhide HE2] at hA1 hsy
          rw [unhide HE1] at hA2 hls hsy
          rw [unhide HE3] at hls hfw
          rw [Nat.add_zero] at hls
          rw [hls] at hA3 hlb
          first | rw [unhide HE3] at hsy | skip
          have HA1 := hide hA1
          have HA2 := hide hA2
          have HA3 := hide hA3
          have kT1 : IntKind.i64.wrap ((m1 : Nat) : Int) = ((m1 : Nat) : Int) := wrapI (m1) (by omega)
          have kT2 : IntKind.i64.wrap ((lsn : Nat) : Int) = ((lsn : Nat) : Int) := wrapI (lsn) (by omega)
          have HG1 := hide (unhide HE1)
          have HG2 := hide (unhide HE2)
          have HG3 := hide (unhide HE3)
          clear hJT okT hA1 hA2 hA3 hls hsy hfw hlb
          skip
          refine (unhide HA1).mono ?_
          rintro e wT ⟨rfl, rfl⟩
          go_wp2_with fail
          refine (unhide HA2).mono ?_
          rintro e wT ⟨rfl, rfl⟩
          go_wp2_with fail
          refine (unhide HA3).mono ?_
          rintro e wT ⟨rfl, fT⟩
          have HJS9 := hide ((unhide HJ5).kept0 fT)
          have HLP9 := hide ((unhide HO5).kept0 fT)
          have HF9 := hide ((unhide HF4).trans fT (fun _ _ e => e))
          clear fT HA1 HA2 HA3
          go_wp2_with fail
          go_roundw
          case rel => exact ⟨i + 1, by omega, by go_num, j, _, _, _, _, _, rfl, ⟨_, (unhide HG1).symm, rfl⟩, ⟨_, (unhide HG2).symm, rfl⟩, unhide HJS9, unhide HR5, ⟨_, _, _, (unhide HG3).symm, rfl, unhide HLP9⟩, unhide HOW5, unhide HF9⟩
          case measure => simp [intOf]; omega
      · obtain ⟨e1, e2⟩ := trim_no hg hi40 (unhide HR)
        rw [e1, e2] at hJ4
        have HJ5 := hide hJ4
        have HR5 := hide (unhide HR).mono
        by_cases hE : tmE J D lsn = 0
        · rw [hE]
          have hls : lsn ≤ sl := by
            have this : ¬ J.sup.l < lsn := fun h => hg ⟨hE, h⟩
            rw [← unhide HSL] at this
            omega
          have kL : IntKind.i64.wrap (lsn : Int) = (lsn : Int) := wrapI lsn (by omega)
          have q2 : ¬ (sl : Int) < (lsn : Int) := by omega
          clear hJ4 e1 e2 hE HR hg HOK HSN hQ2
          go_wp2_with (go_at_call 18; refine (num_any _ _).mono ?_; rintro e w9 ⟨rfl, rfl⟩)
          clear kL
          obtain ⟨⟨mvT, svT, qvT, hJT, -, -⟩, okT, -⟩ := unhide HJ5
          have hA1 := synced_any _ j s mvT _ hJT
          have hA2 := trimmed_any _ j s mvT _ hJT
          have hA3 := last_any _ j s mvT _ _ hJT okT
          have hls := (unhide HR5).at.2.1
          have hsy := (unhide HR5).syn
          have hfw := (unhide HR5).few
          have hlb := (unhide HR5).lst
          rw [(unhide HSY).symm] at hA1 hsy
          rw [(unhide HSL).symm] at hA2 hls hsy
          rw [(unhide HN).symm] at hls hfw
          rw [hls] at hA3 hlb
          first | rw [(unhide HN).symm] at hsy | skip
          have HA1 := hide hA1
          have HA2 := hide hA2
          have HA3 := hide hA3
          have kT1 : IntKind.i64.wrap ((sy : Nat) : Int) = ((sy : Nat) : Int) := wrapI (sy) (by omega)
          have kT2 : IntKind.i64.wrap ((sl : Nat) : Int) = ((sl : Nat) : Int) := wrapI (sl) (by omega)
          have kT3 : IntKind.i64.wrap ((sl + n : Nat) : Int) = ((sl + n : Nat) : Int) := wrapI (sl + n) (by omega)
          have kT4 : IntKind.i64.wrap (((sl : Nat) : Int) + ((n : Nat) : Int)) = ((sl + n : Nat) : Int) := by rw [← Int.natCast_add]; exact wrapI (sl + n) (by omega)
          have HG1 := hide ((unhide HSL).symm)
          have HG2 := hide ((unhide HSY).symm)
          have HG3 := hide ((unhide HN).symm)
          obtain ⟨lst, hlst⟩ : ∃ x, x = sl + n := ⟨_, rfl⟩
          rw [← hlst] at HA3 kT3 kT4
          clear hJT okT hA1 hA2 hA3 hls hsy hfw hlb hlst
          skip
          refine (unhide HA1).mono ?_
          rintro e wT ⟨rfl, rfl⟩
          go_wp2_with fail
          refine (unhide HA2).mono ?_
          rintro e wT ⟨rfl, rfl⟩
          go_wp2_with fail
          refine (unhide HA3).mono ?_
          rintro e wT ⟨rfl, fT⟩
          have HJS9 := hide ((unhide HJ5).kept0 fT)
          have HLP9 := hide ((unhide HO4).kept0 fT)
          have HF9 := hide ((unhide HF4).trans fT (fun _ _ e => e))
          clear fT HA1 HA2 HA3
          go_wp2_with fail
          go_roundw
          case rel => exact ⟨i + 1, by omega, by go_num, j, _, _, _, _, _, rfl, ⟨_, (unhide HG1).symm, rfl⟩, ⟨_, (unhide HG2).symm, rfl⟩, unhide HJS9, unhide HR5, ⟨_, _, _, (unhide HG3).symm, rfl, unhide HLP9⟩, unhide HOW, unhide HF9⟩
          case measure => simp [intOf]; omega
        · obtain ⟨E, hE2⟩ : ∃ E, E = tmE J D lsn := ⟨_, rfl⟩
          rw [← hE2] at hE ⊢
          have bE : (E == 0) = false := by simpa using hE
          clear hJ4 e1 e2 HR hg HOK HSN hQ2 hE2
          go_wp2_with (go_at_call 18; refine (num_any _ _).mono ?_; rintro e w9 ⟨rfl, rfl⟩)
          obtain ⟨⟨mvT, svT, qvT, hJT, -, -⟩, okT, -⟩ := unhide HJ5
          have hA1 := synced_any _ j s mvT _ hJT
          have hA2 := trimmed_any _ j s mvT _ hJT
          have hA3 := last_any _ j s mvT _ _ hJT okT
          have hls := (unhide HR5).at.2.1
          have hsy := (unhide HR5).syn
          have hfw := (unhide HR5).few
          have hlb := (unhide HR5).lst
          rw [(unhide HSY).symm] at hA1 hsy
          rw [(unhide HSL).symm] at hA2 hls hsy
          rw [(unhide HN).symm] at hls hfw
          rw [hls] at hA3 hlb
          first | rw [(unhide HN).symm] at hsy | skip
          have HA1 := hide hA1
          have HA2 := hide hA2
          have HA3 := hide hA3
          have kT1 : IntKind.i64.wrap ((sy : Nat) : Int) = ((sy : Nat) : Int) := wrapI (sy) (by omega)
          have kT2 : IntKind.i64.wrap ((sl : Nat) : Int) = ((sl : Nat) : Int) := wrapI (sl) (by omega)
          have kT3 : IntKind.i64.wrap ((sl + n : Nat) : Int) = ((sl + n : Nat) : Int) := wrapI (sl + n) (by omega)
          have kT4 : IntKind.i64.wrap (((sl : Nat) : Int) + ((n : Nat) : Int)) = ((sl + n : Nat) : Int) := by rw [← Int.natCast_add]; exact wrapI (sl + n) (by omega)
          have HG1 := hide ((unhide HSL).symm)
          have HG2 := hide ((unhide HSY).symm)
          have HG3 := hide ((unhide HN).symm)
          obtain ⟨lst, hlst⟩ : ∃ x, x = sl + n := ⟨_, rfl⟩
          rw [← hlst] at HA3 kT3 kT4
          clear hJT okT hA1 hA2 hA3 hls hsy hfw hlb hlst
          skip
          refine (unhide HA1).mono ?_
          rintro e wT ⟨rfl, rfl⟩
          go_wp2_with fail
          refine (unhide HA2).mono ?_
          rintro e wT ⟨rfl, rfl⟩
          go_wp2_with fail
          refine (unhide HA3).mono ?_
          rintro e wT ⟨rfl, fT⟩
          have HJS9 := hide ((unhide HJ5).kept0 fT)
          have HLP9 := hide ((unhide HO4).kept0 fT)
          have HF9 := hide ((unhide HF4).trans fT (fun _ _ e => e))
          clear fT HA1 HA2 HA3
          go_wp2_with fail
          go_roundw
          case rel => exact ⟨i + 1, by omega, by go_num, j, _, _, _, _, _, rfl, ⟨_, (unhide HG1).symm, rfl⟩, ⟨_, (unhide HG2).symm, rfl⟩, unhide HJS9, unhide HR5, ⟨_, _, _, (unhide HG3).symm, rfl, unhide HLP9⟩, unhide HOW, unhide HF9⟩
          case measure => simp [intOf]; omega
    by_cases hk4 : kd = 4
    · subst hk4
      have HCR := hide (dw_crash (unhide HJ3) (.slice ko keep.length kc) keep (rdv_kept (unhide RK) ((unhide HF1).trans (unhide HF3) (fun _ _ e => e))) (unhide HKW))
      obtain ⟨hC1, hC2⟩ := (unhide HR).crash (unhide HOK) keep
      obtain ⟨k, g1, g2, g3, g4, g5, g6, g7⟩ := hC1.open hC2 hc40 (by omega) (unhide HOK)
      have HGT := hide hC1.gt
      have HDL := hide hC1.len
      have HDQ := hide hC2
      obtain ⟨D1, hD1⟩ : ∃ x, x = crD D keep := ⟨_, rfl⟩
      rw [← hD1] at HCR HDL HDQ g3 g4 g5 g6 g7
      have G3 := hide g3
      have G4 := hide g4
      have G6 := hide g6
      have HR7 := hide g7
      rw [← unhide HSL] at g5
      have HE1 : Hid ((opJ D1 0 c).sup.l = sl) := hide g5
      obtain ⟨m1, hm1⟩ : ∃ x, x = sl + k := ⟨_, rfl⟩
      have HE2 : Hid ((opJ D1 0 c).synced = m1) := hide (by rw [g7.syn, g5, hm1])
      have hlk : (L.take k).length = k := by rw [List.length_take]; omega
      have HE3 : Hid ((L.take k).length = k) := hide hlk
      rw [← unhide HN] at g2
      have kS : IntKind.i64.wrap ((sl : Int) + (k : Int)) = (m1 : Int) := by
        rw [← Int.natCast_add, ← hm1]
        exact wrapI m1 (by omega)
      have q2 : ¬ (n : Int) < (k : Int) := by omega
      have q3 : ¬ (m1 : Int) < (sy : Int) := by have := (unhide HSN).2.1; omega
      have hkb : k ≤ 41 := by omega
      have HG2 := hide g2
      clear hC1 hC2 hD1 g1 g2 g3 g4 g5 g6 g7 hm1 hlk HR HOK HSL HSY HSN hQ2 HRT HTD a1 a2 RK HKW hlt3 HK3
      go_wp2_with fail
      refine (unhide HCR).mono ?_
      rintro e w4 ⟨rfl, hD4, f4⟩
      have HO4 := hide ((unhide HO3).zs (w0 := w1) f4)
      have HF4 := hide (X00_fr2 f4 (unhide HF3))
      have HOP := hide (open_any (X := X00) (w0 := w1) (w := w4) (s := s) (D := D1) 0 c hc6 (by rw [unhide HDL]; omega) (by rw [unhide HDL]; omega) (by rw [unhide HDQ]; exact Nat.succ_pos _) hD4)
      clear hD4 f4 HJ3 HO3 HF3 HCR a0 a3
      go_wp2_with fail
      refine (unhide HOP).mono ?_
      rintro e w5 (⟨h, -⟩ | ⟨-, j2, v5, rfl, hj2, hT5, hJ5, f5⟩)
      · exact absurd (unhide G3) h
      have HF5 := hide (X00_fr2 f5 (unhide HF4))
      have hgx : ∀ x ∈ (L.take k).map Tr.x, gtB x = true := fun x hx => by
        obtain ⟨t, ht, rfl⟩ := List.mem_map.1 hx
        exact (unhide HGT).1 t (List.mem_of_mem_take ht)
      have hmm : ((L.take k).map Tr.x).map gtL = (L.take k).map (fun t => gtL t.x) := by rw [List.map_map]; rfl
      have hOW5 := hT5.new
      rw [unhide G4] at hT5
      have hL5 := hT5.lp hgx
      rw [hmm] at hL5
      obtain ⟨v5o, v5c, rfl⟩ := hL5.shape
      rw [List.length_map, unhide HE3] at hL5 hOW5
      have hO5 := (unhide HO4).zs (w0 := w1) f5
      obtain ⟨hO6, hkv⟩ := hO5.take k (by rw [List.length_map, ← unhide HN]; exact unhide HG2)
      rw [← List.map_take] at hO6
      have hpl : ∀ p ∈ (L.take k).map (fun t => gtL t.x), p.length ≤ 100000 := fun p hp => (unhide HGT).2 p (by
        rw [List.map_take] at hp
        exact List.mem_of_mem_take hp)
      have hpn : ((L.take k).map (fun t => gtL t.x)).length ≤ 1000 := by rw [List.length_map, unhide HE3]; omega
      have HST := hide (sametx_any w5 _ _ _ hL5 hO6 hpl hpn)
      have HOW5 : Hid (∀ b, (Value.slice v5o k v5c).ownBlock = some b → w1.heap.size ≤ b) := hide (fun b hb => by have := hOW5 b hb; have := (unhide HF4).size; omega)
      have HL5 := hide hL5
      have HJ5 := hide hJ5
      have HGX := hide hgx
      have HMM := hide hmm
      have HPL := hide hpl
      have HPN := hide hpn
      rw [List.length_map, unhide HE3] 
      clear hj2 hT5 hJ5 f5 hgx hmm hOW5 hL5 hO5 hO6 hpl hpn HOP HO4 HF4
      go_wp2_with (first | (go_at_call 18; refine (num_any _ _).mono ?_; rintro e w9 ⟨rfl, rfl⟩))
      refine (unhide HST).mono ?_
      rintro e w6 ⟨rfl, f6⟩
      have HJ6 := hide ((unhide HJ5).kept0 f6)
      have HL6 := hide ((unhide HL5).kept0 f6)
      have HF6 := hide ((unhide HF5).trans f6 (fun _ _ e => e))
      have HCP := hide (dw_copy (unhide HJ6))
      clear f6 HST HJ5 HL5 HF5 HN HG2 HOW hkv
      go_wp2_with fail
      refine (unhide HCP).mono ?_
      rintro e w7 ⟨b7, rfl, hD7, f7⟩
      have hDL2 := (unhide HR7).len
      obtain ⟨k2, g1, g2, g3, g4, -, -, -⟩ := (unhide HR7).toCr0.open (unhide G6) hc40 (by omega) (unhide HJ6).ok
      have hk2 : k = k2 := by rw [unhide HE3] at g2; omega
      subst hk2
      rw [List.take_take, Nat.min_self] at g4
      have G3' := hide g3
      have G4' := hide g4
      have HF7 := hide f7
      have HOP := hide (open_any (X := X00) (w0 := w6) (w := w7) (s := b7) (D := opD D1 0 c) 0 c hc6 (by rw [hDL2]; omega) (by rw [hDL2]; omega) (by rw [unhide G6]; exact Nat.succ_pos _) hD7)
      clear hD7 f7 hDL2 g1 g2 g3 g4 HCP
      go_wp2_with fail
      refine (unhide HOP).mono ?_
      rintro e w8 (⟨h, -⟩ | ⟨-, j3, v8, rfl, hj3, hT8, hJ8, f8⟩)
      · exact absurd (unhide G3') h
      have fC := X00_fr2 f8 (unhide HF7)
      rw [unhide G4'] at hT8
      have hL8 := hT8.lp (unhide HGX)
      rw [unhide HMM] at hL8
      obtain ⟨v8o, v8c, rfl⟩ := hL8.shape
      rw [List.length_map, unhide HE3] at hL8 ⊢
      have hL68 := (unhide HL6).kept0 fC
      have HJ8 := hide ((unhide HJ6).kept0 fC)
      have HF8 := hide ((unhide HF6).trans fC (fun _ _ e => e))
      have HST := hide (sametx_any w8 _ _ _ hL8 hL68 (unhide HPL) (unhide HPN))
      have HL8 := hide hL68
      clear hj3 hT8 hJ8 f8 fC hL8 hL68 HJ6 HL6 HF6 HF7 HOP
      go_wp2_with (first | (go_at_call 18; refine (num_any _ _).mono ?_; rintro e w9 ⟨rfl, rfl⟩))
      refine (unhide HST).mono ?_
      rintro e w9 ⟨rfl, f9⟩
      have HJ9 := hide ((unhide HJ8).kept0 f9)
      have HL9 := hide ((unhide HL8).kept0 f9)
      have HF9' := hide ((unhide HF8).trans f9 (fun _ _ e => e))
      clear f9 HST HJ8 HL8 HF8
      go_wp2_with fail
      clear kS
      obtain ⟨⟨mvT, svT, qvT, hJT, -, -⟩, okT, -⟩ := unhide HJ9
      have hA1 := synced_any _ j2 s mvT _ hJT
      have hA2 := trimmed_any _ j2 s mvT _ hJT
      have hA3 := last_any _ j2 s mvT _ _ hJT okT
      have hls := (unhide HR7).at.2.1
      have hsy := (unhide HR7).syn
      have hfw := (unhide HR7).few
      have hlb := (unhide HR7).lst
      rw [unhide HE2] at hA1 hsy
      rw [unhide HE1] at hA2 hls hsy
      rw [unhide HE3] at hls hfw
      rw [hls] at hA3 hlb
      first | rw [unhide HE3] at hsy | skip
      have HA1 := hide hA1
      have HA2 := hide hA2
      have HA3 := hide hA3
      have kT1 : IntKind.i64.wrap ((m1 : Nat) : Int) = ((m1 : Nat) : Int) := wrapI (m1) (by omega)
      have kT2 : IntKind.i64.wrap ((sl : Nat) : Int) = ((sl : Nat) : Int) := wrapI (sl) (by omega)
      have kT3 : IntKind.i64.wrap ((sl + k : Nat) : Int) = ((sl + k : Nat) : Int) := wrapI (sl + k) (by omega)
      have kT4 : IntKind.i64.wrap (((sl : Nat) : Int) + ((k : Nat) : Int)) = ((sl + k : Nat) : Int) := by rw [← Int.natCast_add]; exact wrapI (sl + k) (by omega)
      have HG1 := hide (unhide HE1)
      have HG2 := hide (unhide HE2)
      have HG3 := hide (unhide HE3)
      obtain ⟨lst, hlst⟩ : ∃ x, x = sl + k := ⟨_, rfl⟩
      rw [← hlst] at HA3 kT3 kT4
      clear hJT okT hA1 hA2 hA3 hls hsy hfw hlb hlst
      skip
      refine (unhide HA1).mono ?_
      rintro e wT ⟨rfl, rfl⟩
      go_wp2_with fail
      refine (unhide HA2).mono ?_
      rintro e wT ⟨rfl, rfl⟩
      go_wp2_with fail
      refine (unhide HA3).mono ?_
      rintro e wT ⟨rfl, fT⟩
      have HJS9 := hide ((unhide HJ9).kept0 fT)
      have HLP9 := hide ((unhide HL9).kept0 fT)
      have HF9 := hide ((unhide HF9').trans fT (fun _ _ e => e))
      clear fT HA1 HA2 HA3
      go_wp2_with fail
      go_roundw
      case rel => exact ⟨i + 1, by omega, by go_num, j2, _, _, _, _, _, rfl, ⟨_, (unhide HG1).symm, rfl⟩, ⟨_, (unhide HG2).symm, rfl⟩, unhide HJS9, unhide HR7, ⟨_, _, _, (unhide HG3).symm, rfl, unhide HLP9⟩, unhide HOW5, unhide HF9⟩
      case measure => simp [intOf]; omega
    have HR4 := hide (unhide HR).mono
    clear HRT HTD RK HKW a1 a2 a3 hlt3 HK3 HR HOK HSN hQ2
    go_wp2_with fail
    obtain ⟨⟨mvT, svT, qvT, hJT, -, -⟩, okT, -⟩ := unhide HJ3
    have hA1 := synced_any _ j s mvT _ hJT
    have hA2 := trimmed_any _ j s mvT _ hJT
    have hA3 := last_any _ j s mvT _ _ hJT okT
    have hls := (unhide HR4).at.2.1
    have hsy := (unhide HR4).syn
    have hfw := (unhide HR4).few
    have hlb := (unhide HR4).lst
    rw [(unhide HSY).symm] at hA1 hsy
    rw [(unhide HSL).symm] at hA2 hls hsy
    rw [(unhide HN).symm] at hls hfw
    rw [hls] at hA3 hlb
    first | rw [(unhide HN).symm] at hsy | skip
    have HA1 := hide hA1
    have HA2 := hide hA2
    have HA3 := hide hA3
    have kT1 : IntKind.i64.wrap ((sy : Nat) : Int) = ((sy : Nat) : Int) := wrapI (sy) (by omega)
    have kT2 : IntKind.i64.wrap ((sl : Nat) : Int) = ((sl : Nat) : Int) := wrapI (sl) (by omega)
    have kT3 : IntKind.i64.wrap ((sl + n : Nat) : Int) = ((sl + n : Nat) : Int) := wrapI (sl + n) (by omega)
    have kT4 : IntKind.i64.wrap (((sl : Nat) : Int) + ((n : Nat) : Int)) = ((sl + n : Nat) : Int) := by rw [← Int.natCast_add]; exact wrapI (sl + n) (by omega)
    have HG1 := hide ((unhide HSL).symm)
    have HG2 := hide ((unhide HSY).symm)
    have HG3 := hide ((unhide HN).symm)
    obtain ⟨lst, hlst⟩ : ∃ x, x = sl + n := ⟨_, rfl⟩
    rw [← hlst] at HA3 kT3 kT4
    clear hJT okT hA1 hA2 hA3 hls hsy hfw hlb hlst
    skip
    refine (unhide HA1).mono ?_
    rintro e wT ⟨rfl, rfl⟩
    go_wp2_with fail
    refine (unhide HA2).mono ?_
    rintro e wT ⟨rfl, rfl⟩
    go_wp2_with fail
    refine (unhide HA3).mono ?_
    rintro e wT ⟨rfl, fT⟩
    have HJS9 := hide ((unhide HJ3).kept0 fT)
    have HLP9 := hide ((unhide HO3).kept0 fT)
    have HF9 := hide ((unhide HF3).trans fT (fun _ _ e => e))
    clear fT HA1 HA2 HA3
    go_wp2_with fail
    go_roundw
    case rel => exact ⟨i + 1, by omega, by go_num, j, _, _, _, _, _, rfl, ⟨_, (unhide HG1).symm, rfl⟩, ⟨_, (unhide HG2).symm, rfl⟩, unhide HJS9, unhide HR4, ⟨_, _, _, (unhide HG3).symm, rfl, unhide HLP9⟩, unhide HOW, unhide HF9⟩
    case measure => simp [intOf]; omega
end Go.Proofs.Ytgodlfoidjeekaa

namespace Go.Proofs.Ytgodlfoidjeekaa
set_option linter.unusedVariables false
set_option linter.unusedSimpArgs false
open Go.RowKit Go.ChangeShapes Go.WideShapes Go.ChangeAt Go.Deep
set_option linter.unusedVariables false

theorem bulk_one {H : Type} (d : DataW H) : 1 ≤ Rows.uptoBulk d := by
  cases d with
  | lit l => cases l <;> simp [Rows.uptoBulk]
  | nil => simp [Rows.uptoBulk]
  | ptr d => simp [Rows.uptoBulk]
  | slice elems spare => simp [Rows.uptoBulk]
  | agg parts => simp [Rows.uptoBulk]
  | iface t d => simp [Rows.uptoBulk]
  | map entries => simp [Rows.uptoBulk]
  | held h => simp [Rows.uptoBulk]

theorem bulk_mem {H : Type} {l : List (DataW H)} {d : DataW H} (h : d ∈ l) : Rows.uptoBulk d ≤ Rows.uptoBulkAll l := by
  induction l with
  | nil => simp at h
  | cons x r ih =>
    simp only [Rows.uptoBulkAll]
    rcases List.mem_cons.1 h with rfl | h
    · omega
    · have := ih h; omega

theorem bulk_length {H : Type} (l : List (DataW H)) : l.length ≤ Rows.uptoBulkAll l := by
  induction l with
  | nil => simp
  | cons x r ih => have := bulk_one x; simp only [Rows.uptoBulkAll, List.length_cons]; omega

theorem byte_nat (x : Int) (h : 0 ≤ x) (h2 : x < 256) : (((UInt8.ofNat x.toNat).toNat : Nat) : Int) = x := by
  rw [UInt8.toNat_ofNat']; omega
theorem bd64 {n : Int} (h : (Lit.int .u64 n).wf = true) : 0 ≤ n ∧ n < 18446744073709551616 := by
  have := bounds_u64 h; omega
theorem bdi {n : Int} (h : (Lit.int .i64 n).wf = true) : -9223372036854775808 ≤ n ∧ n < 9223372036854775808 := by
  have := bounds_i64 h; omega

section
variable {H : Type} {enc : TypeId × Value → H} {W : World} {fuel : Nat} {d : DataW H} {pl : List MemPlace} {spare : Nat → Bool} {held : Bool}

/-- A []byte that came in. -/
theorem open_rd {v : Value} (h : DataW.trod enc Try.prog W 0 spare held fuel 23 [v] = some (d, pl)) : ∃ l, Rd W v l ∧ l.length ≤ Rows.uptoBulk d := by
  rcases open_ints Try.underlying23 Try.underlying5 (by kernel_rfl) h with ⟨hcs, hx⟩ | ⟨a, len, cap, zs, hcs, _, hl, hm, hz, hx, hcell, hwz⟩
  · simp at hcs
    subst hcs
    exact ⟨[], Rd.nil _, by simp⟩
  · simp at hcs
    subst hcs
    simp only [Prod.mk.injEq] at hx
    have hzl : len ≤ zs.length := by rw [hz]; split <;> omega
    have hlen : ((zs.take len).map fun n => UInt8.ofNat n.toNat).length = len := by simp; omega
    refine ⟨(zs.take len).map fun n => UInt8.ofNat n.toNat, .inr ⟨a, cap, by rw [hlen], by rw [hlen]; exact hl, hm, fun j hj => ?_⟩, ?_⟩
    · rw [hlen] at hj
      rw [hcell j (by omega)]
      have hb := bounds_u8 (hwz _ (List.getElem_mem (show j < zs.length by omega)))
      have e : zs.getD j 0 = zs[j]'(by omega) := by simp [List.getD, show j < zs.length by omega]
      rw [e]
      simp only [List.getElem_map, List.getElem_take]
      rw [byte_nat _ hb.1 (by omega)]
    · rw [hlen, hx.1]
      simp only [Rows.uptoBulk]
      have := bulk_length (H := H) (lits IntKind.u8 (zs.take len))
      have e : (lits (H := H) IntKind.u8 (zs.take len)).length = len := by simp [lits]; omega
      omega

set_option maxRecDepth 100000 in
/-- A Put that came in. -/
theorem open_put {cs : List Value} (h : DataW.trod enc Try.prog W 0 spare held fuel 94 cs = some (d, pl)) (hb : Rows.uptoBulk d ≤ 1048576) : ∃ s : Int × Value × List UInt8, cs = [.int .i64 s.1, s.2.1] ∧ Rd W s.2.1 s.2.2 ∧ s.2.2.length ≤ 1048576 := by
  obtain ⟨xs, n, rfl, hx, hlen, hxl, hf⟩ := DataW.trod_struct Try.underlying94 h
  have hc2 : Try.prog.cellsOf 94 = 2 := by kernel_rfl
  rw [hc2] at hlen
  simp only [Prod.mk.injEq] at hx
  have hxl2 : xs.length = 2 := hxl
  match cs, hlen with
  | [c0, c1], _ =>
    match xs, hxl2 with
    | [x0, x1], _ =>
      have b : ∀ x ∈ [x0, x1], Rows.uptoBulk x.1 ≤ 1048576 := fun x hx' => by
        have := bulk_mem (List.mem_map.2 ⟨x, hx', rfl⟩ : x.1 ∈ [x0, x1].map (·.1))
        rw [hx.1] at hb
        simp only [Rows.uptoBulk] at hb
        omega
      have k3 : Try.prog.cellsOf 3 = 1 := by kernel_rfl
      have k23 : Try.prog.cellsOf 23 = 1 := by kernel_rfl
      have f0 : DataW.trod enc Try.prog W 0 spare held n 3 (([c0, c1].drop 0).take (Try.prog.cellsOf 3)) = some x0 := hf 0 _ rfl
      rw [k3] at f0
      have f1 : DataW.trod enc Try.prog W 0 spare held n 23 (([c0, c1].drop 1).take (Try.prog.cellsOf 23)) = some x1 := hf 1 _ rfl
      rw [k23] at f1
      obtain ⟨n0, e0, -, w0⟩ := DataW.trod_int Try.underlying3 f0
      obtain ⟨l1, r1, z1⟩ := open_rd f1
      obtain rfl : c0 = .int .i64 n0 := by simpa using e0
      exact ⟨(n0, c1, l1), rfl, r1, Nat.le_trans z1 (b x1 (by simp))⟩

/-- A []Put that came in. -/
theorem open_puts {v : Value} (h : DataW.trod enc Try.prog W 0 spare held fuel 28 [v] = some (d, pl)) (hb : Rows.uptoBulk d ≤ 1048576) : ∃ ps, RdP W v ps ∧ ps.length ≤ 1048576 ∧ ∀ p ∈ ps, p.2.length ≤ 1048576 := by
  rcases open_slice Try.underlying28 h with ⟨hcs, hx⟩ | ⟨a, len, cap, m, n, D, Pl, hcs, _, hl, hm, hmm, hx, hcell⟩
  · simp at hcs
    subst hcs
    exact ⟨[], .inl ⟨⟨_, _, rfl⟩, rfl⟩, by simp, by simp⟩
  · simp at hcs
    subst hcs
    simp only [Prod.mk.injEq] at hx
    have hlm : len ≤ m := by rw [hmm]; split <;> omega
    have hbulk : Rows.uptoBulkAll ((List.range len).map D) ≤ 1048576 := by
      rw [hx.1] at hb
      simp only [Rows.uptoBulk] at hb
      omega
    have hlen : len ≤ 1048576 := by
      have := bulk_length ((List.range len).map D)
      simp only [List.length_map, List.length_range] at this
      omega
    have hc2 : Try.prog.cellsOf 94 = 2 := by kernel_rfl
    rw [hc2] at hcell
    have hch : ∀ i, i < len → ∃ s : Int × Value × List UInt8, W.cells? 0 (a.add (i * 2)) 2 = some [.int .i64 s.1, s.2.1] ∧ Rd W s.2.1 s.2.2 ∧ s.2.2.length ≤ 1048576 := fun i hi => by
      obtain ⟨cs', h1, h2⟩ := hcell i (by omega)
      obtain ⟨s, rfl, hs⟩ := open_put h2 (Nat.le_trans (bulk_mem (List.mem_map.2 ⟨i, List.mem_range.2 hi, rfl⟩ : D i ∈ (List.range len).map D)) hbulk)
      exact ⟨s, h1, hs⟩
    obtain ⟨L, hL⟩ := choose_lt (α := Int × Value × List UInt8) hch
    have key : ∀ j (hj : j < len), W.cell? (a.add (j * 2)) = some (.int .i64 (L j).1) ∧ W.cell? (a.add (j * 2 + 1)) = some (L j).2.1 := fun j hj => by
      have hc := World.cells?_some (hL j hj).1
      have h0 := hc.2.2 0 (by decide)
      have h1 := hc.2.2 1 (by decide)
      rw [add_add] at h0 h1
      exact ⟨h0, h1⟩
    refine ⟨(List.range len).map fun j => ((L j).1, (L j).2.2), ?_, by simpa using hlen, fun p hp => ?_⟩
    · rcases Nat.eq_zero_or_pos len with e | e
      · subst e
        exact .inl ⟨⟨_, _, rfl⟩, rfl⟩
      · obtain ⟨b, off, spot⟩ := a
        have hspot : spot = none := by simpa [Addr.add] using World.cell?_spot (key 0 e).1
        subst hspot
        refine .inr ⟨b, off, cap, by simp, by simpa using hl, hm, fun j hj => ?_⟩
        have hj' : j < len := by simpa using hj
        have e : ((List.range len).map fun j => ((L j).1, (L j).2.2))[j]'hj = ((L j).1, (L j).2.2) := by simp
        rw [e]
        obtain ⟨k0, k1⟩ := key j hj'
        rw [Addr.add_lit] at k0 k1
        exact ⟨k0, _, k1, (hL j hj').2.1⟩
    · obtain ⟨j, hj, rfl⟩ := List.mem_map.1 hp
      exact (hL j (List.mem_range.1 hj)).2.2
end
end Go.Proofs.Ytgodlfoidjeekaa

namespace Go.Proofs.Ytgodlfoidjeekaa
set_option linter.unusedVariables false
set_option linter.unusedSimpArgs false
open Go.RowKit Go.ChangeShapes Go.WideShapes Go.ChangeAt Go.Deep
set_option linter.unusedVariables false

section
variable {H : Type} {enc : TypeId × Value → H} {W : World} {fuel : Nat} {d : DataW H} {pl : List MemPlace} {spare : Nat → Bool} {held : Bool}
/-- A []int that came in. -/
theorem open_rdi {v : Value} (h : DataW.trod enc Try.prog W 0 spare held fuel 73 [v] = some (d, pl)) : ∃ l : List Int, RdV W v (l.map (Value.int .i64)) ∧ (∀ x ∈ l, -9223372036854775808 ≤ x ∧ x ≤ 9223372036854775807) ∧ l.length ≤ Rows.uptoBulk d := by
  rcases open_ints Try.underlying73 Try.underlying3 (by kernel_rfl) h with ⟨hcs, hx⟩ | ⟨a, len, cap, zs, hcs, _, hl, hm, hz, hx, hcell, hwz⟩
  · simp at hcs
    subst hcs
    exact ⟨[], .inl ⟨rfl, rfl⟩, by simp, by simp⟩
  · simp at hcs
    subst hcs
    simp only [Prod.mk.injEq] at hx
    have hzl : len ≤ zs.length := by rw [hz]; split <;> omega
    have hlen : ((zs.take len).map (Value.int .i64)).length = len := by simp; omega
    refine ⟨zs.take len, .inr ⟨a, cap, by rw [hlen], by rw [hlen]; exact hl, hm, fun j hj => ?_⟩, fun x hx => ?_, ?_⟩
    · rw [hlen] at hj
      rw [hcell j (by omega)]
      have e : zs.getD j 0 = zs[j]'(by omega) := by simp [List.getD, show j < zs.length by omega]
      rw [e]
      simp
    · have := bounds_i64 (hwz _ (List.mem_of_mem_take hx)); omega
    · rw [hx.1]
      simp only [Rows.uptoBulk]
      have := bulk_length (H := H) (lits IntKind.i64 (zs.take len))
      have e : (lits (H := H) IntKind.i64 (zs.take len)).length = (zs.take len).length := by simp [lits]
      omega
/-- An act's cells. -/
structure Cl where
  a : Ac
  t : Value
  k : Value
instance : Inhabited Cl := ⟨⟨⟨0, [], 0, [], 0⟩, .nilIface, .nilIface⟩⟩
def Cl.cells (c : Cl) : List Value := [.int .i64 c.a.k, c.t, .int .u64 (c.a.lsn : Int), c.k, .int .i64 c.a.fail]
set_option maxRecDepth 100000 in
/-- An Act that came in. -/
theorem open_act {cs : List Value} (h : DataW.trod enc Try.prog W 0 spare held fuel 75 cs = some (d, pl)) (hb : Rows.uptoBulk d ≤ 1048576) : ∃ c : Cl, cs = c.cells ∧ c.a.In ∧ RdP W c.t c.a.tx ∧ RdV W c.k (c.a.keep.map (Value.int .i64)) := by
  obtain ⟨xs, n, rfl, hx, hlen, hxl, hf⟩ := DataW.trod_struct Try.underlying75 h
  have hc5 : Try.prog.cellsOf 75 = 5 := by kernel_rfl
  rw [hc5] at hlen
  simp only [Prod.mk.injEq] at hx
  have hxl5 : xs.length = 5 := hxl
  match cs, hlen with
  | [c0, c1, c2, c3, c4], _ =>
    match xs, hxl5 with
    | [x0, x1, x2, x3, x4], _ =>
      have b : ∀ x ∈ [x0, x1, x2, x3, x4], Rows.uptoBulk x.1 ≤ 1048576 := fun x hx' => by
        have := bulk_mem (List.mem_map.2 ⟨x, hx', rfl⟩ : x.1 ∈ [x0, x1, x2, x3, x4].map (·.1))
        rw [hx.1] at hb
        simp only [Rows.uptoBulk] at hb
        omega
      have k3 : Try.prog.cellsOf 3 = 1 := by kernel_rfl
      have k28 : Try.prog.cellsOf 28 = 1 := by kernel_rfl
      have k22 : Try.prog.cellsOf 22 = 1 := by kernel_rfl
      have k73 : Try.prog.cellsOf 73 = 1 := by kernel_rfl
      have f0 : DataW.trod enc Try.prog W 0 spare held n 3 (([c0, c1, c2, c3, c4].drop 0).take (Try.prog.cellsOf 3)) = some x0 := hf 0 _ rfl
      rw [k3] at f0
      have f1 : DataW.trod enc Try.prog W 0 spare held n 28 (([c0, c1, c2, c3, c4].drop 1).take (Try.prog.cellsOf 28)) = some x1 := hf 1 _ rfl
      rw [k28] at f1
      have f2 : DataW.trod enc Try.prog W 0 spare held n 22 (([c0, c1, c2, c3, c4].drop 2).take (Try.prog.cellsOf 22)) = some x2 := hf 2 _ rfl
      rw [k22] at f2
      have f3 : DataW.trod enc Try.prog W 0 spare held n 73 (([c0, c1, c2, c3, c4].drop 3).take (Try.prog.cellsOf 73)) = some x3 := hf 3 _ rfl
      rw [k73] at f3
      have f4 : DataW.trod enc Try.prog W 0 spare held n 3 (([c0, c1, c2, c3, c4].drop 4).take (Try.prog.cellsOf 3)) = some x4 := hf 4 _ rfl
      rw [k3] at f4
      obtain ⟨n0, e0, -, w0⟩ := DataW.trod_int Try.underlying3 f0
      obtain ⟨ps, r1, l1, d1⟩ := open_puts (d := x1.1) (pl := x1.2) f1 (b x1 (by simp))
      obtain ⟨n2, e2, -, w2⟩ := DataW.trod_int Try.underlying22 f2
      obtain ⟨ks, r3, -, l3⟩ := open_rdi (d := x3.1) (pl := x3.2) f3
      obtain ⟨n4, e4, -, w4⟩ := DataW.trod_int Try.underlying3 f4
      have h2 := bd64 w2
      have h4 := bdi w4
      obtain ⟨m2, rfl⟩ : ∃ m : Nat, n2 = (m : Int) := ⟨n2.toNat, by omega⟩
      obtain rfl : c0 = .int .i64 n0 := by simpa using e0
      obtain rfl : c2 = .int .u64 (m2 : Int) := by simpa using e2
      obtain rfl : c4 = .int .i64 n4 := by simpa using e4
      exact ⟨⟨⟨n0, ps, m2, ks, n4⟩, c1, c3⟩, rfl, ⟨by dsimp only; omega, l1, d1, Nat.le_trans l3 (b x3 (by simp)), by dsimp only; omega⟩, r1, r3⟩
/-- A []Act that came in. -/
theorem open_acts {v : Value} (h : DataW.trod enc Try.prog W 0 spare held fuel 59 [v] = some (d, pl)) (hb : Rows.uptoBulk d ≤ 1048576) : ∃ l, RdJ W v l ∧ l.length ≤ 1048576 := by
  rcases open_slice Try.underlying59 h with ⟨hcs, hx⟩ | ⟨a, len, cap, m, n, D, Pl, hcs, _, hl, hm, hmm, hx, hcell⟩
  · simp at hcs
    subst hcs
    exact ⟨[], .inl ⟨⟨_, _, rfl⟩, rfl⟩, by simp⟩
  · simp at hcs
    subst hcs
    simp only [Prod.mk.injEq] at hx
    have hlm : len ≤ m := by rw [hmm]; split <;> omega
    have hbulk : Rows.uptoBulkAll ((List.range len).map D) ≤ 1048576 := by
      rw [hx.1] at hb
      simp only [Rows.uptoBulk] at hb
      omega
    have hlen : len ≤ 1048576 := by
      have := bulk_length ((List.range len).map D)
      simp only [List.length_map, List.length_range] at this
      omega
    have hc5 : Try.prog.cellsOf 75 = 5 := by kernel_rfl
    rw [hc5] at hcell
    have hch : ∀ i, i < len → ∃ c : Cl, W.cells? 0 (a.add (i * 5)) 5 = some c.cells ∧ c.a.In ∧ RdP W c.t c.a.tx ∧ RdV W c.k (c.a.keep.map (Value.int .i64)) := fun i hi => by
      obtain ⟨cs', h1, h2⟩ := hcell i (by omega)
      obtain ⟨s, rfl, hs⟩ := open_act h2 (Nat.le_trans (bulk_mem (List.mem_map.2 ⟨i, List.mem_range.2 hi, rfl⟩ : D i ∈ (List.range len).map D)) hbulk)
      exact ⟨s, h1, hs⟩
    obtain ⟨L, hL⟩ := choose_lt (α := Cl) hch
    have key : ∀ j (hj : j < len) (q : Nat) (hq : q < 5), W.cell? (a.add (j * 5 + q)) = (L j).cells[q]? := fun j hj q hq => by
      have hc := World.cells?_some (hL j hj).1
      have h0 := hc.2.2 q hq
      rw [add_add] at h0
      exact h0
    refine ⟨(List.range len).map fun j => (L j).a, ?_, by simpa using hlen⟩
    rcases Nat.eq_zero_or_pos len with e | e
    · subst e
      exact .inl ⟨⟨_, _, rfl⟩, rfl⟩
    · obtain ⟨b, off, spot⟩ := a
      have hspot : spot = none := by
        have := key 0 e 0 (by decide)
        simpa [Addr.add] using World.cell?_spot this
      subst hspot
      refine .inr ⟨b, off, cap, by simp, by simpa using hl, hm, fun j hj => ?_⟩
      have hj' : j < len := by simpa using hj
      have e : ((List.range len).map fun j => (L j).a)[j]'hj = (L j).a := by simp
      rw [e]
      have k0 := key j hj' 0 (by decide)
      have k1 := key j hj' 1 (by decide)
      have k2 := key j hj' 2 (by decide)
      have k3 := key j hj' 3 (by decide)
      have k4 := key j hj' 4 (by decide)
      rw [Addr.add_lit] at k0 k1 k2 k3 k4
      obtain ⟨-, h1, h2, h3⟩ := hL j hj'
      exact ⟨h1, k0, ⟨_, k1, h2⟩, k2, ⟨_, k3, h3⟩, k4⟩
end
end Go.Proofs.Ytgodlfoidjeekaa
