/-
  The document's cache: Drop, Held, New.
  The document's order of dirty places, plainly; one is put into the list.
  The rule once more: a slot that a later operation of the region writes is still as it was for all that this one waits for.
-/
import Derived.Test.YtdgmlopaeonacaaM16
import Derived.Test.YtdgmlopaeonacaaM03
namespace Go.Proofs.Ytdgmlopaeonacaa
set_option linter.unusedVariables false
set_option linter.unusedSimpArgs false
open Go.RowKit
set_option linter.unusedVariables false
set_option linter.unusedSimpArgs false

attribute [local go_sem ↓] Go.wp_at_zero Go.wp_at_succ

section
variable (w : World) (q g : Nat) (dv lg lv : Value) (vs : List Value) (R : List (Nat × Pl)) (c : Ca) (m : Hm)

set_option maxRecDepth 100000 in
set_option maxHeartbeats 2000000 in
theorem ddrop_any [Av] (b : Int) (hR : R.length ≤ 4096) (H : DAt w q g lv R c) (HH : HAtG w g dv lg vs m) : Calls Try.prog 38 #[ptr q, .int .i64 b] w fun e w' => e = .returned (.int .i64 (drR m (R.map Prod.snd) b).1) ∧ Dp w w' q g dv lg lv R c m (drR m (R.map Prod.snd) b).2 := by
  obtain ⟨c0, -, c2, -⟩ := H.cells
  have g0 := cell_of_heap HH.heap 0
  simp at g0
  obtain ⟨ad, cd, hdv⟩ := HH.shape
  have HDD := hide H
  have HHM := hide HH
  have HA := hide (at_any w q g lv R c b (by omega) H)
  have hDl := HH.ok.len
  obtain ⟨M, hM⟩ : ∃ M, M = m.D.length := ⟨_, rfl⟩
  rw [← hM] at hdv
  by_cases hch : b < 0 ∨ (m.D.length : Int) ≤ b
  · have HE : Hid (drR m (R.map Prod.snd) b = (2, R.map Prod.snd)) := hide (by
      have : chE m b = 2 := by unfold chE; rw [if_pos hch]
      unfold drR; rw [this, if_neg (by decide)])
    rw [← hM] at hch
    clear H HH HA hDl hM
    subst hdv
    unfold ptr at *
    rcases hch with hb | hb
    · have qb : decide (b < 0) = true := by simpa using hb
      clear hb
      go_enter Try.func38, Try.ntmps38
      go_wp2_with fail
      go_ret
      rw [unhide HE]
      exact ⟨rfl, lg, vs, lv, R, Dd.same (unhide HDD) (unhide HHM) (Fr.refl _ _), rfl⟩
    · have qb : decide (b < 0) = false := by simp; omega
      have qc : decide ((M : Int) ≤ b) = true := by simpa using hb
      clear hb
      go_enter Try.func38, Try.ntmps38
      go_wp2_with fail
      go_ret
      rw [unhide HE]
      exact ⟨rfl, lg, vs, lv, R, Dd.same (unhide HDD) (unhide HHM) (Fr.refl _ _), rfl⟩
  · have hce : chE m b = 0 := by unfold chE; rw [if_neg hch]
    obtain ⟨bn, rfl⟩ : ∃ bn : Nat, b = (bn : Int) := ⟨b.toNat, by omega⟩
    have qc : decide ((M : Int) ≤ (bn : Int)) = false := by simp; omega
    have qc2 : decide (M ≤ bn) = false := by simp; omega
    clear hch hM hDl
    subst hdv
    rcases hat : atI (R.map Prod.snd) (bn : Int) with _ | i
    · have han : atN (R.map Prod.snd) (bn : Int) = -1 := by unfold atN; rw [hat]
      rw [han] at HA
      have HE : Hid (drR m (R.map Prod.snd) (bn : Int) = (0, R.map Prod.snd)) := hide (by unfold drR; rw [hce, if_pos rfl, hat])
      clear H HH hat han hR hce
      unfold ptr at *
      go_enter Try.func38, Try.ntmps38
      go_wp2_with fail
      refine (unhide HA).mono ?_
      rintro e w1 ⟨rfl, rfl⟩
      go_wp2_with fail
      go_ret
      rw [unhide HE]
      exact ⟨rfl, lg, vs, lv, R, Dd.same (unhide HDD) (unhide HHM) (Fr.refl _ _), rfl⟩
    · have han : atN (R.map Prod.snd) (bn : Int) = (i : Int) := by unfold atN; rw [hat]
      rw [han] at HA
      obtain ⟨x, hx, hxb⟩ := at_some hat
      obtain ⟨R1, a, R2, rfl, rfl, hers⟩ := split_at hx
      obtain ⟨gl, cap, e, hnc, hcm, hcl⟩ := H.lit (by simp; omega)
      have ci := hcl R1.length (by simp)
      have ex : (R1 ++ (a, x) :: R2)[R1.length]'(by simp) = (a, x) := by simp
      rw [ex] at ci
      obtain ⟨pv, hp⟩ := H.pl (a, x) (by simp)
      obtain ⟨-, -, -, -, -, p5⟩ := hp.cells
      obtain ⟨i, hi⟩ : ∃ i, i = R1.length := ⟨_, rfl⟩
      obtain ⟨n, hn⟩ : ∃ n, n = (R1 ++ (a, x) :: R2).length := ⟨_, rfl⟩
      have hin : i < n := by rw [hn, hi]; simp
      rw [← hn] at e hnc hR
      rw [← hi] at ci HA
      have hic : i < cap := by omega
      have hi5 : i ≤ 5000 := by omega
      dsimp only at p5 ci
      by_cases hp0 : 0 < x.pins
      · have HE : Hid (drR m ((R1 ++ (a, x) :: R2).map Prod.snd) (bn : Int) = (90, (R1 ++ (a, x) :: R2).map Prod.snd)) := hide (by unfold drR; rw [hce, if_pos rfl, hat]; dsimp only; rw [hx]; dsimp only; rw [if_pos hp0])
        have q0 : decide (0 < x.pins) = true := by simpa using hp0
        clear H HH hat han hR hx hers hcl hcm hp hp0 ex hn hi hxb hce
        subst e
        unfold ptr at *
        go_enter Try.func38, Try.ntmps38
        go_wp2_with fail
        refine (unhide HA).mono ?_
        rintro e w1 ⟨rfl, rfl⟩
        go_wp2_with fail
        go_ret
        rw [unhide HE]
        exact ⟨rfl, lg, vs, _, _, Dd.same (unhide HDD) (unhide HHM) (Fr.refl _ _), rfl⟩
      · have HE : Hid (drR m ((R1 ++ (a, x) :: R2).map Prod.snd) (bn : Int) = (0, (R1 ++ R2).map Prod.snd)) := hide (by unfold drR; rw [hce, if_pos rfl, hat]; dsimp only; rw [hx]; dsimp only; rw [if_neg hp0, hers])
        have q0 : decide (0 < x.pins) = false := by simpa using hp0
        have HI := hide hi
        have HNN : Hid (n = R1.length + 1 + R2.length) := hide (by rw [hn]; simp; omega)
        have HCP := hide hnc
        have HNB : Hid (n ≤ 5000) := hide (by omega)
        have HD := HDD
        rw [e] at HD
        clear H HH hat han hR hx hers hcl hcm hp hp0 ex hn hi hxb hce hnc
        subst e
        unfold ptr at *
        go_enter Try.func38, Try.ntmps38
        go_wp2_with fail
        refine (unhide HA).mono ?_
        rintro e w1 ⟨rfl, rfl⟩
        go_wp2_with fail
        refine wp_nameK ?_
        intro a0 hA
        have h0 : a0.tmps.getD 0 undef = .pointer (some ⟨q, 0, none⟩) := by rw [hA]; rfl
        have h5 : a0.tmps.getD 5 undef = .int .i64 (i : Int) := by rw [hA]; rfl
        have hsz : a0.tmps.size = 55 := by rw [hA]; rfl
        have hdf : a0.defers = [] := by rw [hA]
        have HA0 := hide hA
        clear hA
        refine wp_region_kinds (fun k => k = q ∨ w.heap.size ≤ k) (by kernel_rfl) (by kernel_rfl) (by decide +kernel) (by rw [hsz]; decide +kernel) [.eq (.pointer (some ⟨q, 0, none⟩)), (.st 0 (fun v W => W.ownsRow 0 95 1 v 0 ([]) ∧ ∀ k, v.ownBlock = some k → w.heap.size ≤ k) (fun v w1 w2 ⟨h1, h2⟩ f => ⟨owns_kept h1 f (fun _ _ e => e), h2⟩)), .eq (.pointer (some ⟨q, 0, none⟩)), .eq (.pointer (some ⟨q, 0, none⟩)), .eq (.pointer (some ⟨q, 2, none⟩)), .eq (.slice (some ⟨gl, 0, none⟩) n cap), .eq (.int .i64 (i : Int)), .eq (.slice (some ⟨gl, 0, none⟩) i cap), (.st 1 (fun v W => W.ownsRow 0 95 1 v (0 + i) ([] ++ R1.map fun x => ptr x.1) ∧ ∀ k, v.ownBlock = some k → w.heap.size ≤ k) (fun v w1 w2 ⟨h1, h2⟩ f => ⟨owns_kept h1 f (fun _ _ e => e), h2⟩)), .eq (.pointer (some ⟨q, 0, none⟩)), .eq (.pointer (some ⟨q, 0, none⟩)), .eq (.pointer (some ⟨q, 2, none⟩)), .eq (.slice (some ⟨gl, 0, none⟩) n cap), .eq (.int .i64 (i : Int)), .eq (.int .i64 ((i + 1 : Nat) : Int)), .eq (.slice (some ⟨gl, if cap = i + 1 then 0 else i + 1, none⟩) (n - (i + 1)) (cap - (i + 1))), (.st 2 (fun v W => W.ownsRow 0 95 1 v (0 + i + (n - (i + 1))) ([] ++ (R1.map fun x => ptr x.1) ++ R2.map fun x => ptr x.1) ∧ ∀ k, v.ownBlock = some k → w.heap.size ≤ k) (fun v w1 w2 ⟨h1, h2⟩ f => ⟨owns_kept h1 f (fun _ _ e => e), h2⟩)), .eq (.pointer (some ⟨q, 0, none⟩)), .eq (.pointer (some ⟨q, 2, none⟩)), .any] [8, 16, 19] (by decide) (by decide) (threepath (waits (by kernel_rfl)) (waits (by kernel_rfl))) (fun k W => (k ≤ 2 → Fr (fun _ => False) w W) ∧ (k = 3 → RmP w q g R1 R2 c W)) ⟨fun _ => (Fr.refl _ _).drew, fun e => by omega⟩ ?steps ?done
        case steps =>
          refine ⟨?_, ?_⟩
          · intro a' w' k' hb hf hs hc hq hg hd
            exact ⟨wantedN rfl, k_val (.pointer (some ⟨q, 0, none⟩)) (by decide) hs (x_move rfl ((hb.old 0 (by decide +kernel)).trans h0)) rfl⟩
          refine ⟨?_, ?_⟩
          · intro a' w' k' hb hf hs hc hq hg hd
            obtain rfl : k' = 0 := Nat.le_zero.1 (hq 0 8 rfl (waits (by kernel_rfl))); have hF0 : Fr (fun _ => False) w w' := hs.1 (by omega); exact ⟨wantedN rfl, k_new _ (w'.alloc (.cells #[] 95)) (by decide) ⟨fun _ => hF0.trans ((Fr.refl (fun _ => False) _).alloc _) (fun _ _ h => h), fun e => by omega⟩ ((Fr.refl _ _).alloc _) (x_bs54 rfl) ⟨Nat.zero_le _, fun _ => ⟨own0p _, fun k hk => own0_blk hF0 hk⟩⟩⟩
          refine ⟨?_, ?_⟩
          · intro a' w' k' hb hf hs hc hq hg hd
            exact ⟨wantedN rfl, k_val (.pointer (some ⟨q, 0, none⟩)) (by decide) hs (x_move rfl ((hb.old 0 (by decide +kernel)).trans h0)) rfl⟩
          refine ⟨?_, ?_⟩
          · intro a' w' k' hb hf hs hc hq hg hd
            exact ⟨wantedN rfl, k_val (.pointer (some ⟨q, 0, none⟩)) (by decide) hs (x_nilCheck rfl (hd 2 (by kernel_rfl) 38 rfl)) rfl⟩
          refine ⟨?_, ?_⟩
          · intro a' w' k' hb hf hs hc hq hg hd
            exact ⟨wantedN rfl, k_val (.pointer (some ⟨q, 2, none⟩)) (by decide) hs (x_field (of := 0) (off := 2) (fa56_2 q 0) rfl (hd 3 (by kernel_rfl) 39 rfl)) rfl⟩
          refine ⟨?_, ?_⟩
          · intro a' w' k' hb hf hs hc hq hg hd
            have hF0 : Fr (fun _ => False) w w' := hs.1 (hq 2 19 rfl (waits (by kernel_rfl))); exact ⟨wantedN rfl, k_val (.slice (some ⟨gl, 0, none⟩) n cap) (by decide) hs (x_load1 ld54 rfl (hd 4 (by kernel_rfl) 40 rfl) ((unhide HD).kept0 hF0).cells.2.2.1) rfl⟩
          refine ⟨?_, ?_⟩
          · intro a' w' k' hb hf hs hc hq hg hd
            exact ⟨wantedN rfl, k_val (.int .i64 (i : Int)) (by decide) hs (x_move rfl ((hb.old 5 (by decide +kernel)).trans h5)) rfl⟩
          refine ⟨?_, ?_⟩
          · intro a' w' k' hb hf hs hc hq hg hd
            exact ⟨wantedN rfl, k_val (.slice (some ⟨gl, 0, none⟩) i cap) (by decide) hs (x_to54 rfl (hd 5 (by kernel_rfl) 41 rfl) (hd 6 (by kernel_rfl) 42 rfl) (by have h1 := unhide HI; have h2 := unhide HNN; omega) (unhide HCP)) rfl⟩
          refine ⟨?_, ?_⟩
          · intro a' w' k' hb hf hs hc hq hg hd
            obtain rfl := hc 0 rfl; have hF0 : Fr (fun _ => False) w w' := hs.1 (by omega); have hh := hd 1 (by kernel_rfl) 37 rfl; obtain ⟨ho7, hb7⟩ := hh.2 rfl; obtain ⟨v9, w9, hr9, ho9, hg9, hn9⟩ := app54 w' _ ho7 (x := .slice (some ⟨gl, 0, none⟩) i cap) (k := i) (by rw [unhide HI]; exact ((unhide HD).kept0 hF0).srTo) (ptrs_one R1) (by have h1 := unhide HI; have h2 := unhide HNN; have h3 := unhide HNB; omega); exact ⟨wantedN rfl, k_chain v9 w9 (by decide) ⟨fun _ => app_st hF0 hg9 hb7, fun e => by omega⟩ (app_fr9 hF0 hg9 hb7) (x_app54 rfl rfl rfl (hd 7 (by kernel_rfl) 43 rfl) hr9) ⟨Nat.le_refl _, fun _ => ⟨ho9, app_new hF0.size hn9 hb7⟩⟩⟩
          refine ⟨?_, ?_⟩
          · intro a' w' k' hb hf hs hc hq hg hd
            exact ⟨wantedN rfl, k_val (.pointer (some ⟨q, 0, none⟩)) (by decide) hs (x_move rfl ((hb.old 0 (by decide +kernel)).trans h0)) rfl⟩
          refine ⟨?_, ?_⟩
          · intro a' w' k' hb hf hs hc hq hg hd
            exact ⟨wantedN rfl, k_val (.pointer (some ⟨q, 0, none⟩)) (by decide) hs (x_nilCheck rfl (hd 9 (by kernel_rfl) 45 rfl)) rfl⟩
          refine ⟨?_, ?_⟩
          · intro a' w' k' hb hf hs hc hq hg hd
            exact ⟨wantedN rfl, k_val (.pointer (some ⟨q, 2, none⟩)) (by decide) hs (x_field (of := 0) (off := 2) (fa56_2 q 0) rfl (hd 10 (by kernel_rfl) 46 rfl)) rfl⟩
          refine ⟨?_, ?_⟩
          · intro a' w' k' hb hf hs hc hq hg hd
            have hF0 : Fr (fun _ => False) w w' := hs.1 (hq 2 19 rfl (waits (by kernel_rfl))); exact ⟨wantedN rfl, k_val (.slice (some ⟨gl, 0, none⟩) n cap) (by decide) hs (x_load1 ld54 rfl (hd 11 (by kernel_rfl) 47 rfl) ((unhide HD).kept0 hF0).cells.2.2.1) rfl⟩
          refine ⟨?_, ?_⟩
          · intro a' w' k' hb hf hs hc hq hg hd
            exact ⟨wantedN rfl, k_val (.int .i64 (i : Int)) (by decide) hs (x_move rfl ((hb.old 5 (by decide +kernel)).trans h5)) rfl⟩
          refine ⟨?_, ?_⟩
          · intro a' w' k' hb hf hs hc hq hg hd
            exact ⟨wantedN rfl, k_val (.int .i64 ((i + 1 : Nat) : Int)) (by decide) hs (x_addI rfl (hd 13 (by kernel_rfl) 49 rfl) rfl (by have h1 := unhide HI; have h2 := unhide HNN; have h3 := unhide HNB; rw [IntKind.wrap_i64]; omega)) rfl⟩
          refine ⟨?_, ?_⟩
          · intro a' w' k' hb hf hs hc hq hg hd
            exact ⟨wantedN rfl, k_val (.slice (some ⟨gl, if cap = i + 1 then 0 else i + 1, none⟩) (n - (i + 1)) (cap - (i + 1))) (by decide) hs (x_from54 rfl (hd 12 (by kernel_rfl) 48 rfl) (hd 14 (by kernel_rfl) 50 rfl) (by have h1 := unhide HI; have h2 := unhide HNN; omega) (unhide HCP)) rfl⟩
          refine ⟨?_, ?_⟩
          · intro a' w' k' hb hf hs hc hq hg hd
            obtain rfl := hc 1 rfl; have hF0 : Fr (fun _ => False) w w' := hs.1 (by omega); have hh := hd 8 (by kernel_rfl) 44 rfl; obtain ⟨ho7, hb7⟩ := hh.2 rfl; obtain ⟨v9, w9, hr9, ho9, hg9, hn9⟩ := app54 w' _ ho7 (x := .slice (some ⟨gl, if cap = i + 1 then 0 else i + 1, none⟩) (n - (i + 1)) (cap - (i + 1))) (k := n - (i + 1)) (by rw [unhide HI]; exact ((unhide HD).kept0 hF0).srFrom (unhide HNN) (unhide HCP)) (ptrs_one R2) (by have h1 := unhide HI; have h2 := unhide HNN; have h3 := unhide HNB; omega); exact ⟨wantedN rfl, k_chain v9 w9 (by decide) ⟨fun _ => app_st hF0 hg9 hb7, fun e => by omega⟩ (app_fr9 hF0 hg9 hb7) (x_app54 rfl rfl rfl (hd 15 (by kernel_rfl) 51 rfl) hr9) ⟨Nat.le_refl _, fun _ => ⟨ho9, app_new hF0.size hn9 hb7⟩⟩⟩
          refine ⟨?_, ?_⟩
          · intro a' w' k' hb hf hs hc hq hg hd
            exact ⟨wantedN rfl, k_val (.pointer (some ⟨q, 0, none⟩)) (by decide) hs (x_nilCheck rfl (hd 0 (by kernel_rfl) 36 rfl)) rfl⟩
          refine ⟨?_, ?_⟩
          · intro a' w' k' hb hf hs hc hq hg hd
            exact ⟨wantedN rfl, k_val (.pointer (some ⟨q, 2, none⟩)) (by decide) hs (x_field (of := 0) (off := 2) (fa56_2 q 0) rfl (hd 17 (by kernel_rfl) 53 rfl)) rfl⟩
          refine ⟨?_, ?_⟩
          · intro a' w' k' hb hf hs hc hq hg hd
            obtain rfl := hc 2 rfl; have hF0 : Fr (fun _ => False) w w' := hs.1 (by omega); have hh := hd 16 (by kernel_rfl) 52 rfl; obtain ⟨ho7, hb7⟩ := hh.2 rfl; have hD7 := (unhide HD).kept0 hF0; exact ⟨wantedN rfl, k_store _ (by decide) ⟨fun e => by omega, fun _ => (unhide HD).rm hF0 (by simpa using ho7) (by have h1 := unhide HI; have h2 := unhide HNN; omega) hb7⟩ (((Fr.refl (fun k => k = q) w').setCell (p := ⟨q, 2, none⟩) (fun _ => rfl) _).mono (fun _ _ e => .inl e)) (x_store54 rfl (hd 18 (by kernel_rfl) 54 rfl) rfl hD7.cells.2.2.1 (frozen_of_heap hD7.heap 2) (let ⟨ao, c, e⟩ := owns_shape ho7; ⟨ao, _, c, e⟩)) trivial⟩
          exact trivial
        case done =>
          intro a' w6 hb hf hs hall
          have hdf' : a'.defers = [] := by rw [hb.defers]; exact hdf
          obtain ⟨v36, hv36⟩ : ∃ v, a'.tmps.getD 36 undef = v := ⟨_, rfl⟩
          obtain ⟨v37, hv37⟩ : ∃ v, a'.tmps.getD 37 undef = v := ⟨_, rfl⟩
          obtain ⟨v38, hv38⟩ : ∃ v, a'.tmps.getD 38 undef = v := ⟨_, rfl⟩
          obtain ⟨v39, hv39⟩ : ∃ v, a'.tmps.getD 39 undef = v := ⟨_, rfl⟩
          obtain ⟨v40, hv40⟩ : ∃ v, a'.tmps.getD 40 undef = v := ⟨_, rfl⟩
          obtain ⟨v41, hv41⟩ : ∃ v, a'.tmps.getD 41 undef = v := ⟨_, rfl⟩
          obtain ⟨v42, hv42⟩ : ∃ v, a'.tmps.getD 42 undef = v := ⟨_, rfl⟩
          obtain ⟨v43, hv43⟩ : ∃ v, a'.tmps.getD 43 undef = v := ⟨_, rfl⟩
          obtain ⟨v44, hv44⟩ : ∃ v, a'.tmps.getD 44 undef = v := ⟨_, rfl⟩
          obtain ⟨v45, hv45⟩ : ∃ v, a'.tmps.getD 45 undef = v := ⟨_, rfl⟩
          obtain ⟨v46, hv46⟩ : ∃ v, a'.tmps.getD 46 undef = v := ⟨_, rfl⟩
          obtain ⟨v47, hv47⟩ : ∃ v, a'.tmps.getD 47 undef = v := ⟨_, rfl⟩
          obtain ⟨v48, hv48⟩ : ∃ v, a'.tmps.getD 48 undef = v := ⟨_, rfl⟩
          obtain ⟨v49, hv49⟩ : ∃ v, a'.tmps.getD 49 undef = v := ⟨_, rfl⟩
          obtain ⟨v50, hv50⟩ : ∃ v, a'.tmps.getD 50 undef = v := ⟨_, rfl⟩
          obtain ⟨v51, hv51⟩ : ∃ v, a'.tmps.getD 51 undef = v := ⟨_, rfl⟩
          obtain ⟨v52, hv52⟩ : ∃ v, a'.tmps.getD 52 undef = v := ⟨_, rfl⟩
          obtain ⟨v53, hv53⟩ : ∃ v, a'.tmps.getD 53 undef = v := ⟨_, rfl⟩
          obtain ⟨v54, hv54⟩ : ∃ v, a'.tmps.getD 54 undef = v := ⟨_, rfl⟩
          have hfr := frame_eq (a := a') (vs := [.pointer (some ⟨q, 0, none⟩), a0.tmps.getD 1 undef, a0.tmps.getD 2 undef, a0.tmps.getD 3 undef, a0.tmps.getD 4 undef, .int .i64 (i : Int), a0.tmps.getD 6 undef, a0.tmps.getD 7 undef, a0.tmps.getD 8 undef, a0.tmps.getD 9 undef, a0.tmps.getD 10 undef, a0.tmps.getD 11 undef, a0.tmps.getD 12 undef, a0.tmps.getD 13 undef, a0.tmps.getD 14 undef, a0.tmps.getD 15 undef, a0.tmps.getD 16 undef, a0.tmps.getD 17 undef, a0.tmps.getD 18 undef, a0.tmps.getD 19 undef, a0.tmps.getD 20 undef, a0.tmps.getD 21 undef, a0.tmps.getD 22 undef, a0.tmps.getD 23 undef, a0.tmps.getD 24 undef, a0.tmps.getD 25 undef, a0.tmps.getD 26 undef, a0.tmps.getD 27 undef, a0.tmps.getD 28 undef, a0.tmps.getD 29 undef, a0.tmps.getD 30 undef, a0.tmps.getD 31 undef, a0.tmps.getD 32 undef, a0.tmps.getD 33 undef, a0.tmps.getD 34 undef, a0.tmps.getD 35 undef, v36, v37, v38, v39, v40, v41, v42, v43, v44, v45, v46, v47, v48, v49, v50, v51, v52, v53, v54]) (by rw [hb.size, hsz]; rfl) hdf' ⟨((hb.old 0 (by decide +kernel)).trans h0), (hb.old 1 (by decide +kernel)), (hb.old 2 (by decide +kernel)), (hb.old 3 (by decide +kernel)), (hb.old 4 (by decide +kernel)), ((hb.old 5 (by decide +kernel)).trans h5), (hb.old 6 (by decide +kernel)), (hb.old 7 (by decide +kernel)), (hb.old 8 (by decide +kernel)), (hb.old 9 (by decide +kernel)), (hb.old 10 (by decide +kernel)), (hb.old 11 (by decide +kernel)), (hb.old 12 (by decide +kernel)), (hb.old 13 (by decide +kernel)), (hb.old 14 (by decide +kernel)), (hb.old 15 (by decide +kernel)), (hb.old 16 (by decide +kernel)), (hb.old 17 (by decide +kernel)), (hb.old 18 (by decide +kernel)), (hb.old 19 (by decide +kernel)), (hb.old 20 (by decide +kernel)), (hb.old 21 (by decide +kernel)), (hb.old 22 (by decide +kernel)), (hb.old 23 (by decide +kernel)), (hb.old 24 (by decide +kernel)), (hb.old 25 (by decide +kernel)), (hb.old 26 (by decide +kernel)), (hb.old 27 (by decide +kernel)), (hb.old 28 (by decide +kernel)), (hb.old 29 (by decide +kernel)), (hb.old 30 (by decide +kernel)), (hb.old 31 (by decide +kernel)), (hb.old 32 (by decide +kernel)), (hb.old 33 (by decide +kernel)), (hb.old 34 (by decide +kernel)), (hb.old 35 (by decide +kernel)), hv36, hv37, hv38, hv39, hv40, hv41, hv42, hv43, hv44, hv45, hv46, hv47, hv48, hv49, hv50, hv51, hv52, hv53, hv54, trivial⟩
          have HST : Hid (RmP w q g R1 R2 c w6) := hide (hs.2 rfl)
          clear hall hb hf hs hv36 hv37 hv38 hv39 hv40 hv41 hv42 hv43 hv44 hv45 hv46 hv47 hv48 hv49 hv50 hv51 hv52 hv53 hv54
          subst hfr
          clear HA0 h0 h5 hsz hdf hdf'
          apply_assumption
          obtain ⟨lvz, hCz⟩ := dd_rm (unhide HD) (unhide HHM) (unhide HST)
          have HCz := hide hCz
          clear hCz HST
          go_wp2_with fail
          go_ret
          rw [unhide HE]
          exact ⟨rfl, _, _, lvz, R1 ++ R2, unhide HCz, rfl⟩

set_option maxRecDepth 100000 in
set_option maxHeartbeats 1000000 in
theorem dheld_any [Av] (hR : R.length ≤ 4096) (H : DAt w q g lv R c) : Calls Try.prog 19 #[ptr q] w fun e w' => (∃ ao cc, e = .returned (.slice ao R.length cc) ∧ RdV w' (.slice ao R.length cc) (((R.map Prod.snd).map (·.b)).map (Value.int .i64))) ∧ Fr (fun _ => False) w w' := by
  obtain ⟨-, -, c2, -⟩ := H.cells
  obtain ⟨la, lc, rfl⟩ := H.shape
  have HD := hide H
  obtain ⟨N, hN⟩ : ∃ N, N = R.length := ⟨_, rfl⟩
  rw [← hN] at c2 HD hR ⊢
  have HN := hide hN
  obtain ⟨inf, hi0, hz0, hz1, hz2⟩ := info_parts Try.info3
  clear H hN
  unfold ptr at *
  go_enter Try.func19, Try.ntmps19
  go_wp2_with fail
  go_loopw [3, 4] (fun y x W => ∃ (i : Nat) (ao : Option Addr) (ac : Nat), i ≤ N ∧ x = .int .i64 (i : Int) ∧ y = .slice ao i ac ∧ W.ownsRow 0 3 1 (.slice ao i ac) i (ivs (blk (R.take i))) ∧ (∀ b, (Value.slice ao i ac).ownBlock = some b → w.heap.size ≤ b) ∧ Fr (fun _ => False) w W) (fun _ x _ => N - (intOf x).toNat)
  case atStart => exact ⟨0, none, 0, by omega, rfl, rfl, owns_nilE _ 3, fun b hb => by simp [Value.ownBlock] at hb, Fr.refl _ _⟩
  case round =>
    obtain ⟨i, ao, ac, hi, rfl, rfl, hO, hnew, hf⟩ := hrel
    have hDr := (unhide HD).kept0 hf
    obtain ⟨-, -, e2, -⟩ := hDr.cells
    have HO := hide hO
    have HNW := hide hnew
    have HF := hide hf
    by_cases hlt : i < N
    · have hiR : i < R.length := by have := unhide HN; omega
      obtain ⟨gl, cap', e, hnc, hcm, hcl⟩ := DAtK.lit (by rw [unhide HN] at hDr; exact hDr) (by omega)
      simp only [Value.slice.injEq] at e
      obtain ⟨rfl, -, rfl⟩ := e
      have ci := hcl i hiR
      obtain ⟨pv, hp⟩ := hDr.pl R[i] (List.getElem_mem hiR)
      obtain ⟨p0, -⟩ := hp.cells
      have hic : i < lc := by have := unhide HN; omega
      have HTK : Hid (ivs (blk (R.take (i + 1))) = ivs (blk (R.take i)) ++ [.int .i64 (R[i]).2.b]) := hide (by rw [List.take_add_one, List.getElem?_eq_getElem hiR]; unfold ivs blk; rw [List.map_append, List.map_append]; rfl)
      unfold ptr at ci
      generalize R[i] = rx at *
      clear c2 hO hnew hf hDr hp hcl hcm hnc
      go_wp2_with (at_builtin; refine wpList_app rfl (.tmp 14) (.tmp 25) 49 rfl 3 inf _ 1 8 Try.underlying49 hi0 hz0 hz1 hz2 rfl (by decide) (.slice ao i ac) i (ivs (blk (R.take i))) rfl (.slice (some ⟨wr.heap.size, 0, none⟩) 1 1) rfl 1 [.int .i64 rx.2.b] ((unhide HO).alloc _) (one_cellV wr _ 3) (fun u hu => by simp at hu; subst hu; rfl) (by omega) (by simp only [maxLen]; omega) ?_)
      intro ao4 ac4 w4 o4 g4 p4
      have f4 : Fr (fun k => (Value.slice ao i ac).ownBlock = some k) wr w4 := ((Fr.refl _ _).alloc (.cells #[.int .i64 rx.2.b] 3)).grown g4 (fun k _ e => e)
      have HF4 : Hid (Fr (fun _ => False) w w4) := hide ((unhide HF).trans f4 (fun k hk e => by have := unhide HNW k e; omega))
      have HN4 : Hid (∀ b, (Value.slice ao4 (i + 1) ac4).ownBlock = some b → w.heap.size ≤ b) := hide (fun b hb => by
        rcases p4 with e | ⟨k', e, hk'⟩
        · rw [e] at hb; exact unhide HNW b hb
        · rw [e] at hb; simp at hb; have := (unhide HF).size; omega)
      have HO4 : Hid (w4.ownsRow 0 3 1 (.slice ao4 (i + 1) ac4) (i + 1) (ivs (blk (R.take (i + 1))))) := hide (by rw [unhide HTK]; exact o4)
      clear o4 g4 p4 f4
      go_wp2_with fail
      go_roundw
      case rel => exact ⟨i + 1, ao4, ac4, by omega, by go_num, rfl, unhide HO4, unhide HN4, unhide HF4⟩
      case measure => simp [intOf]; omega
    · have hie : N = i := by omega
      subst hie
      clear c2 hO hnew hf hDr
      go_wp2_with fail
      go_ret
      have htk : R.take N = R := by rw [unhide HN]; exact List.take_length
      have hO := unhide HO
      rw [htk] at hO
      have e2 : (blk R).length = N := by rw [unhide HN]; simp [blk]
      have hV : RdV wr (.slice ao (ivs (blk R)).length ac) (ivs (blk R)) := by
        refine RdV.of_owns (base := 0) (e := 3) ?_
        rw [ivs_length, e2]
        exact hO
      rw [ivs_length, e2] at hV
      have e3 : ((R.map Prod.snd).map (·.b)).map (Value.int .i64) = ivs (blk R) := by simp [ivs, blk]
      exact ⟨⟨ao, ac, rfl, by rw [e3]; exact hV⟩, unhide HF⟩

set_option maxRecDepth 100000 in
theorem dnew_ok [Av] (n : Nat) (hn : 1 ≤ n ∧ n ≤ 4096) : Calls Try.prog 11 #[ptr g, .int .i64 (n : Int)] w fun e w' => e = .returned (.tuple #[ptr w.heap.size, .int .i64 0]) ∧ DAt w' w.heap.size g (.slice none 0 0) [] ⟨n, 0, 0, 0⟩ ∧ Fr (fun _ => False) w w' := by
  have q1 : decide ((n : Int) < 1) = false := by simp; omega
  have q2 : decide ((4096 : Int) < (n : Int)) = false := by simp; omega
  have HD : Hid (DAt (w.alloc (.cells #[ptr g, .int .i64 (n : Int), .slice none 0 0, .int .u64 0, .int .i64 0, .int .i64 0] 56)) w.heap.size g (.slice none 0 0) [] ⟨n, 0, 0, 0⟩) := hide ⟨heap_alloc_new _ _, owns_nilE _ 95, fun x hx => by simp at hx, by simp [adr], fun x hx => by simp at hx, by simp; omega⟩
  have HF : Hid (Fr (fun _ => False) w (w.alloc (.cells #[ptr g, .int .i64 (n : Int), .slice none 0 0, .int .u64 0, .int .i64 0, .int .i64 0] 56))) := hide ((Fr.refl _ _).alloc _)
  unfold ptr at *
  go_enter Try.func11, Try.ntmps11
  go_wp2_with fail
  go_ret2
  exact ⟨rfl, unhide HD, unhide HF⟩
set_option maxRecDepth 100000 in
theorem dnew_no (n : Int) (hn : n < 1 ∨ 4096 < n) : Calls Try.prog 11 #[ptr g, .int .i64 n] w fun e w' => e = .returned (.tuple #[.pointer none, .int .i64 2]) ∧ w = w' := by
  unfold ptr at *
  rcases hn with h | h
  · have q1 : decide (n < 1) = true := by simpa using h
    clear h
    go_enter Try.func11, Try.ntmps11
    go_wp2_with fail
    go_ret2
    exact ⟨rfl, rfl⟩
  · have q1 : decide (n < 1) = false := by simp; omega
    have q2 : decide (4096 < n) = true := by simpa using h
    clear h
    go_enter Try.func11, Try.ntmps11
    go_wp2_with fail
    go_ret2
    exact ⟨rfl, rfl⟩
end
end Go.Proofs.Ytdgmlopaeonacaa

namespace Go.Proofs.Ytdgmlopaeonacaa
set_option linter.unusedVariables false
set_option linter.unusedSimpArgs false
open Go.RowKit
set_option linter.unusedVariables false
set_option linter.unusedSimpArgs false

def ltB (x y : Nat × Pl) : Bool := decide (x.2.first < y.2.first) || (decide (x.2.first = y.2.first) && decide (x.2.b < y.2.b))
theorem ltB_cm (x y : Nat × Pl) : ltB x y = true ↔ cmP x y < 0 := by
  rw [cmP_lt]; unfold ltB; simp
def insP (p : Nat × Pl) (D : List (Nat × Pl)) : List (Nat × Pl) := D.takeWhile (ltB · p) ++ p :: D.dropWhile (ltB · p)
def risn (R : List (Nat × Pl)) : List (Nat × Pl) := (dty R).foldl (fun D p => insP p D) []
theorem insP_perm (p : Nat × Pl) (D : List (Nat × Pl)) : (insP p D).Perm (p :: D) := by
  unfold insP
  refine (List.perm_middle).trans ?_
  rw [List.takeWhile_append_dropWhile]
theorem foldl_perm : ∀ (l D : List (Nat × Pl)), (l.foldl (fun D p => insP p D) D).Perm (D ++ l)
  | [], D => by simp
  | p :: l, D => by
    rw [List.foldl_cons]
    refine (foldl_perm l _).trans ?_
    refine ((insP_perm p D).append_right l).trans ?_
    exact (List.perm_middle (l₁ := D) (l₂ := l) (a := p)).symm
theorem risn_perm (R : List (Nat × Pl)) : (risn R).Perm (dty R) := by simpa [risn] using foldl_perm (dty R) []
theorem lt_trans {x y z : Nat × Pl} (h1 : ltB x y = true) (h2 : ltB y z = true) : ltB x z = true := by
  unfold ltB at *; simp at *; omega
theorem lt_irr (x : Nat × Pl) : ltB x x = false := by unfold ltB; simp
theorem lt_tot {x y : Nat × Pl} (h : x.2.b ≠ y.2.b) (h1 : ltB x y = false) : ltB y x = true := by
  unfold ltB at *; simp at *; omega
theorem insP_sorted {p : Nat × Pl} : ∀ {D : List (Nat × Pl)}, D.Pairwise (fun x y => ltB x y = true) → (∀ y ∈ D, y.2.b ≠ p.2.b) → (insP p D).Pairwise (fun x y => ltB x y = true)
  | [], _, _ => by simp [insP]
  | y :: D, hs, hb => by
    rw [List.pairwise_cons] at hs
    by_cases h : ltB y p = true
    · have e : insP p (y :: D) = y :: insP p D := by unfold insP; simp [h]
      rw [e, List.pairwise_cons]
      refine ⟨fun z hz => ?_, insP_sorted hs.2 (fun z hz => hb z (List.mem_cons_of_mem _ hz))⟩
      rcases List.mem_cons.1 ((insP_perm p D).mem_iff.1 hz) with e | e
      · rw [e]; exact h
      · exact hs.1 z e
    · have e : insP p (y :: D) = p :: y :: D := by unfold insP; simp [h]
      have hpy : ltB p y = true := lt_tot (hb y (List.mem_cons_self ..)) (by simpa using h)
      rw [e, List.pairwise_cons, List.pairwise_cons]
      exact ⟨fun z hz => by
        rcases List.mem_cons.1 hz with e | e
        · rw [e]; exact hpy
        · exact lt_trans hpy (hs.1 z e), hs⟩
theorem fold_sorted : ∀ (l D : List (Nat × Pl)), D.Pairwise (fun x y => ltB x y = true) → ((D ++ l).map fun q => q.2.b).Nodup → (l.foldl (fun D p => insP p D) D).Pairwise (fun x y => ltB x y = true)
  | [], D, hs, _ => hs
  | p :: l, D, hs, hn => by
    rw [List.foldl_cons]
    have hn' := hn
    rw [List.map_append, List.map_cons, List.nodup_append] at hn
    refine fold_sorted l _ (insP_sorted hs (fun y hy e => hn.2.2 _ (List.mem_map.2 ⟨y, hy, rfl⟩) _ (List.mem_cons_self ..) e)) ?_
    refine (List.Perm.nodup_iff ?_).2 hn'
    refine List.Perm.map _ ?_
    refine ((insP_perm p D).append_right l).trans ?_
    exact (List.perm_middle (l₁ := D) (l₂ := l) (a := p)).symm
theorem sorted_eq : ∀ {A B : List (Nat × Pl)}, A.Pairwise (fun x y => ltB x y = true) → B.Pairwise (fun x y => ltB x y = true) → A.Perm B → A = B
  | [], B, _, _, h => (List.Perm.nil_eq h)
  | a :: A, [], _, _, h => absurd h.length_eq (by simp)
  | a :: A, b :: B, hA, hB, h => by
    rw [List.pairwise_cons] at hA hB
    have e : a = b := by
      rcases List.mem_cons.1 (h.mem_iff.1 (List.mem_cons_self ..)) with e | e
      · exact e
      · rcases List.mem_cons.1 (h.mem_iff.2 (List.mem_cons_self ..)) with e2 | e2
        · exact e2.symm
        · have h1 := lt_trans (hB.1 a e) (hA.1 b e2)
          rw [lt_irr] at h1
          exact absurd h1 (by decide)
    subst e
    rw [sorted_eq hA.2 hB.2 (List.Perm.cons_inv h)]
theorem risn_srt {R : List (Nat × Pl)} (hn : (R.map fun q => q.2.b).Nodup) : risn R = srtP (dty R) := by
  have hd : ((dty R).map fun q => q.2.b).Nodup := (List.filter_sublist.map _).nodup hn
  refine sorted_eq (fold_sorted (dty R) [] List.Pairwise.nil (by simpa using hd)) ?_ ((risn_perm R).trans (srtP_perm _).symm)
  have hp : (srtP (dty R)).Pairwise (fun x y => (!decide (cmP y x < 0)) = true) := by
    refine List.pairwise_mergeSort (fun a b c h1 h2 => ?_) (fun a b => ?_) _
    · have e : ∀ x y : Nat × Pl, (!decide (cmP y x < 0)) = !ltB y x := fun x y => by
        have := ltB_cm y x
        cases h : ltB y x <;> simp [h] at this ⊢ <;> omega
      rw [e] at *
      unfold ltB at *; simp at *; omega
    · have e : ∀ x y : Nat × Pl, (!decide (cmP y x < 0)) = !ltB y x := fun x y => by
        have := ltB_cm y x
        cases h : ltB y x <;> simp [h] at this ⊢ <;> omega
      rw [e, e]
      unfold ltB; simp; omega
  have hb : ((srtP (dty R)).map fun q => q.2.b).Nodup := ((srtP_perm _).map _).nodup_iff.2 hd
  have hb2 : (srtP (dty R)).Pairwise (fun x y => x.2.b ≠ y.2.b) := (List.pairwise_map.1 hb)
  refine List.Pairwise.imp ?_ (hp.and hb2)
  intro x y ⟨h1, h2⟩
  refine lt_tot (fun e => h2 e.symm) ?_
  have := ltB_cm y x
  cases h : ltB y x
  · rfl
  · rw [h] at this; simp at this h1; omega
theorem risn_step {R : List (Nat × Pl)} {i : Nat} (hi : i < R.length) : risn (R.take (i + 1)) = if (R[i]).2.dirty = true then insP R[i] (risn (R.take i)) else risn (R.take i) := by
  have e : R.take (i + 1) = R.take i ++ [R[i]] := by rw [List.take_add_one, List.getElem?_eq_getElem hi]; rfl
  unfold risn dty
  rw [e, List.filter_append]
  cases h : (R[i]).2.dirty <;> simp [h]
theorem risn_mem {R : List (Nat × Pl)} {i : Nat} {y : Nat × Pl} (h : y ∈ risn (R.take i)) : y ∈ R ∧ y.2.dirty = true := by
  have := (risn_perm _).mem_iff.1 h
  unfold dty at this
  rw [List.mem_filter] at this
  exact ⟨List.mem_of_mem_take this.1, this.2⟩
theorem take_ins {p : Nat × Pl} : ∀ {D : List (Nat × Pl)} {k : Nat}, k ≤ D.length → (∀ j y, j < k → D[j]? = some y → ltB y p = true) → (∀ y, D[k]? = some y → ltB y p = false) → D.take k = D.takeWhile (ltB · p) ∧ D.drop k = D.dropWhile (ltB · p)
  | [], k, hk, _, _ => by simp
  | y :: D, 0, _, _, h0 => by
    have := h0 y rfl
    simp [this]
  | y :: D, k + 1, hk, hj, h0 => by
    have h1 := hj 0 y (by omega) rfl
    obtain ⟨e1, e2⟩ := take_ins (D := D) (k := k) (by simpa using hk) (fun j z hj2 hz => hj (j + 1) z (by omega) (by simpa using hz)) (fun z hz => h0 z (by simpa using hz))
    simp [h1, e1, e2]
end Go.Proofs.Ytdgmlopaeonacaa

namespace Go.Proofs.Ytdgmlopaeonacaa
set_option linter.unusedVariables false
set_option linter.unusedSimpArgs false
open Go.RowKit
set_option linter.unusedVariables false
set_option linter.unusedSimpArgs false

section
variable {P : Program} {ops : Array Oper} {Q : Exit → Act → World → Prop}

/-- An operation, shown once: it is wanted, and does this, or it is not wanted. -/
def Step4 (P : Program) (Q : Exit → Act → World → Prop) (l : List Oper) (RO R Rc : World → World → Prop) (St : Nat → World → Prop) (T : Nat → Nat → Value → World → Prop) (calls : List Nat) (a : Act) (w : World) (i : Nat) (o : Oper) : Prop :=
  ∀ a' w' k, Base l a a' → RO w w' → St k w' → (∀ m, calls[m]? = some i → m = k) → (∀ m j, calls[m]? = some j → Path l j i → k ≤ m) → (∀ m j, calls[m]? = some j → Path l i j → m < k) → (∀ j, depB o j = true → Held l (T k) a' w' j) → (∀ j d, (l[j]?).bind (·.dst) = some d → Path l j i → a'.tmps.getD d undef = a.tmps.getD d undef) →
    (Region.wanted o (yielded l.toArray a'.tmps) = true ∧ o.wp P a' w' (Left2 R Rc St T calls i o k a' w') Q) ∨ (Region.wanted o (yielded l.toArray a'.tmps) = false ∧ i ∉ calls ∧ T k i undef w' ∧ R w' w')

def Steps4 (P : Program) (Q : Exit → Act → World → Prop) (l : List Oper) (RO R Rc : World → World → Prop) (St : Nat → World → Prop) (T : Nat → Nat → Value → World → Prop) (calls : List Nat) (a : Act) (w : World) : Nat → List Oper → Prop
  | _, [] => True
  | i, o :: r => Step4 P Q l RO R Rc St T calls a w i o ∧ Steps4 P Q l RO R Rc St T calls a w (i + 1) r

theorem Steps4.get {l : List Oper} {RO R Rc : World → World → Prop} {St : Nat → World → Prop} {T : Nat → Nat → Value → World → Prop} {calls : List Nat} {a : Act} {w : World} {k : Nat} {r : List Oper} (h : Steps4 P Q l RO R Rc St T calls a w k r) {i : Nat} {o : Oper} (ho : r[i]? = some o) : Step4 P Q l RO R Rc St T calls a w (k + i) o := by
  induction r generalizing k i with
  | nil => simp at ho
  | cons x r ih =>
    cases i with
    | zero => simp at ho; subst ho; exact h.1
    | succ i =>
      simp at ho
      have := ih h.2 ho
      rwa [show k + 1 + i = k + (i + 1) by omega] at this

/-- THE RULE. -/
theorem wp_region_chain4 {id : Nat} {l : List Oper} {a : Act} {w : World} (hm : P.follows .mixedOrders = true) (hB : backB l 0 = true) (nd : (dsts l).Nodup) (hd : ∀ d ∈ dsts l, d < a.tmps.size)
    (RO R Rc : World → World → Prop) (Rdrew : RO w w.drew) (Rtrans : ∀ a b c, RO a b → RO b c → RO a c) (r1 : ∀ a b, R a b → RO a b) (r2 : ∀ a b, Rc a b → RO a b)
    (T : Nat → Nat → Value → World → Prop) (mono : ∀ k i v w1 w2, T k i v w1 → R w1 w2 → T k i v w2) (monoC : ∀ k i v w1 w2, T k i v w1 → Rc w1 w2 → T (k + 1) i v w2)
    (calls : List Nat) (cn : calls.Nodup) (cl : ∀ i ∈ calls, i < l.length) (cp : ∀ k i j, calls[k]? = some i → calls[k + 1]? = some j → Path l j i) (St : Nat → World → Prop) (st0 : St 0 w.drew)
    (steps : Steps4 P Q l RO R Rc St T calls a w 0 l)
    (done : ∀ a' w', Base l a a' → RO w w' → St calls.length w' → (∀ j, j < l.length → Held l (T calls.length) a' w' j) → Q .normal a' w') : (Code.region id l.toArray true).wp P Q a w := by
  refine wp_region_any hm ?_
  have hsz : l.toArray.size = l.length := by simp
  rw [hsz]
  let I : Array Bool → Act → World → Prop := fun listed a' w' => listed.size = l.length ∧ Base l a a' ∧ RO w w' ∧ Shut l listed ∧ (∀ j d, (l[j]?).bind (·.dst) = some d → listed.getD j false = false → a'.tmps.getD d undef = a.tmps.getD d undef) ∧
    ∃ k, (∀ j, listed.getD j false = true → Held l (T k) a' w' j) ∧ k ≤ calls.length ∧ St k w' ∧ ∀ m i, calls[m]? = some i → (listed.getD i false = true ↔ m < k)
  refine wpAny_inv I ?_ ?_ _ _ _ _ ?_ ?_
  · intro listed a' w' i ⟨h1, h2, h3, hS, hU, k, h4, hk, hst, hck⟩ hi
    obtain ⟨h5, o, ho, h6⟩ := mem_ready.1 hi
    have ho' : l[i]? = some o := by simpa using ho
    have hil : i < l.length := (List.getElem?_eq_some_iff.1 ho').1
    have hdep : ∀ j, depB o j = true → listed.getD j false = true := fun j hj => by
      unfold depB at hj
      rw [← Array.any_toList, List.any_eq_true] at hj
      obtain ⟨e, he', hb⟩ := hj
      have he : e ∈ o.after := by simpa using he'
      simp only [Bool.and_eq_true, beq_iff_eq] at hb
      rw [← hb.2]
      exact h6 e he hb.1
    have hni : listed.getD i false = false := by
      have hlt : i < listed.size := by omega
      simp [hlt] at h5 ⊢
      exact h5
    have hmk : ∀ m, calls[m]? = some i → m = k := fun m hm' => by
      have h7 : ¬ m < k := fun h => by rw [(hck m i hm').2 h] at hni; simp at hni
      rcases Nat.eq_zero_or_pos m with e | e
      · omega
      · obtain ⟨m', rfl⟩ : ∃ m', m = m' + 1 := ⟨m - 1, by omega⟩
        have hlt : m' < calls.length := by have := (List.getElem?_eq_some_iff.1 hm').1; omega
        have hp := cp m' _ i (List.getElem?_eq_getElem hlt) hm'
        have := hp.listed hS (fun o2 ho2 j hj => by rw [ho'] at ho2; simp at ho2; subst ho2; exact hdep j hj)
        have := (hck m' _ (List.getElem?_eq_getElem hlt)).1 this
        omega
    have hle : ∀ m j, calls[m]? = some j → Path l j i → k ≤ m := fun m j hmj hp => by
      rcases Nat.lt_or_ge m k with h | h
      · have hj := (hck m j hmj).2 h
        have := hp.listed hS (fun o2 ho2 x hx => hS j o2 ho2 hj x hx)
        rw [this] at hni
        simp at hni
      · exact h
    have hge : ∀ m j, calls[m]? = some j → Path l i j → m < k := fun m j hmj hp =>
      (hck m j hmj).1 (hp.listed hS (fun o2 ho2 x hx => by rw [ho'] at ho2; simp at ho2; subst ho2; exact hdep x hx))
    have hst' := steps.get ho'
    rw [Nat.zero_add] at hst'
    have hstep := hst' a' w' k h2 h3 hst hmk hle hge (fun j hj => h4 _ (hdep j hj)) (fun j d hd hp => hU j d hd (by
      cases hlj : listed.getD j false with
      | false => rfl
      | true =>
        have := hp.listed hS (fun o2 ho2 x hx => hS j o2 ho2 hlj x hx)
        rw [this] at hni
        simp at hni))
    suffices fin : ∀ a'' w'', Left2 R Rc St T calls i o k a' w' a'' w'' → I (listed.setIfInBounds i true) a'' w'' by
      unfold wpOp
      rcases hstep with ⟨hw, hwp⟩ | ⟨hw, hic, hT, hR⟩
      · simp only [ho, hw, if_true]
        exact .inl (Oper.wp_mono fin hwp)
      · simp only [ho, hw]
        exact fin _ _ ⟨undef, rfl, by rw [if_neg hic]; exact hT, fun _ => hR, fun h => absurd h hic, by rw [if_neg hic]; exact hst⟩
    rintro a'' w'' ⟨v, rfl, hT, hf, hfc, hsk⟩
    have hRO : RO w' w'' := by
      by_cases hic : i ∈ calls
      · exact r2 _ _ (hfc hic)
      · exact r1 _ _ (hf hic)
    have hold : ∀ j v, T k j v w' → T (if i ∈ calls then k + 1 else k) j v w'' := fun j v h => by
      by_cases hic : i ∈ calls
      · rw [if_pos hic]; exact monoC _ _ _ _ _ h (hfc hic)
      · rw [if_neg hic]; exact mono _ _ _ _ _ h (hf hic)
    refine ⟨by simp [h1], ⟨?_, ?_, fun s hs => ?_⟩, Rtrans _ _ _ h3 hRO, ?_, fun j d hdj hj => ?_, (if i ∈ calls then k + 1 else k), fun j hj d hdj => ?_, ?_⟩
    · cases hdst : o.dst with
      | none => exact h2.size
      | some d => simp [Act.put, h2.size]
    · cases hdst : o.dst with
      | none => exact h2.defers
      | some d => exact h2.defers
    · cases hdst : o.dst with
      | none => exact h2.old s hs
      | some d =>
        rw [put_getD (fun e => hs (by rw [← e]; exact mem_dsts ho' hdst))]
        exact h2.old s hs
    · intro i2 o2 ho2 hl2 j hj
      have grow : ∀ x, listed.getD x false = true → (listed.setIfInBounds i true).getD x false = true := fun x hx => by
        by_cases e : i = x
        · subst e
          have hlt : i < listed.size := by omega
          simp [hlt]
        · rw [getD_set_ne false e]; exact hx
      by_cases e : i = i2
      · subst e
        rw [ho'] at ho2
        simp at ho2
        subst ho2
        exact grow j (hdep j hj)
      · rw [getD_set_ne false e] at hl2
        exact grow j (hS i2 o2 ho2 hl2 j hj)
    · obtain ⟨oj, hoj, hdj'⟩ : ∃ oj, l[j]? = some oj ∧ oj.dst = some d := by
        cases hc : l[j]? with
        | none => rw [hc] at hdj; simp at hdj
        | some oj => rw [hc] at hdj; exact ⟨oj, rfl, by simpa using hdj⟩
      have e : i ≠ j := fun e => by
        subst e
        have hlt : i < listed.size := by omega
        simp [hlt] at hj
      rw [getD_set_ne false e] at hj
      have hold' := hU j d hdj hj
      cases hdst : o.dst with
      | none => exact hold'
      | some d' =>
        rw [put_getD (fun e2 => e (dsts_inj nd ho' hoj (by rw [hdst, e2]) hdj'))]
        exact hold'
    · obtain ⟨oj, hoj, hdj'⟩ : ∃ oj, l[j]? = some oj ∧ oj.dst = some d := by
        cases hc : l[j]? with
        | none => rw [hc] at hdj; simp at hdj
        | some oj => rw [hc] at hdj; exact ⟨oj, rfl, by simpa using hdj⟩
      by_cases e : i = j
      · subst e
        rw [ho'] at hoj
        simp at hoj
        subst hoj
        rw [hdj', put_self (by rw [h2.size]; exact hd d (mem_dsts ho' hdj'))]
        exact hT
      · rw [getD_set_ne false e] at hj
        have hold' := hold _ _ (h4 j hj d hdj)
        cases hdst : o.dst with
        | none => exact hold'
        | some d' =>
          rw [put_getD (fun e2 => e (dsts_inj nd ho' hoj (by rw [hdst, e2]) hdj'))]
          exact hold'
    · by_cases hic : i ∈ calls
      · obtain ⟨m, hm'⟩ := List.getElem?_of_mem hic
        have hmk' := hmk m hm'
        subst hmk'
        rw [if_pos hic] at hsk ⊢
        have hml : m < calls.length := (List.getElem?_eq_some_iff.1 hm').1
        refine ⟨by omega, hsk, fun m2 i2 hm2 => ?_⟩
        by_cases e : i = i2
        · subst e
          have hlt : i < listed.size := by omega
          have : m2 = m := (List.getElem?_inj (List.getElem?_eq_some_iff.1 hm2).1 cn).1 (hm2.trans hm'.symm)
          subst this
          simp [hlt]
        · rw [getD_set_ne false e, hck m2 i2 hm2]
          constructor
          · intro h; omega
          · intro h
            rcases Nat.lt_or_ge m2 m with h' | h'
            · exact h'
            · have : m2 = m := by omega
              subst this
              rw [hm2] at hm'
              simp at hm'
              exact absurd hm'.symm e
      · rw [if_neg hic] at hsk ⊢
        refine ⟨hk, hsk, fun m2 i2 hm2 => ?_⟩
        rw [getD_set_ne false (fun e => hic (by subst e; exact List.mem_of_getElem? hm2)), hck m2 i2 hm2]
  · intro listed a' w' ⟨h1, h2, h3, hS, hU, k, h4, hk, hst, hck⟩ hr
    have hall := all_listed hB h1 hr
    have hke : k = calls.length := by
      rcases Nat.lt_or_ge k calls.length with h | h
      · have := (hck k _ (List.getElem?_eq_getElem h)).1 (hall _ (cl _ (List.getElem_mem h)))
        omega
      · omega
    subst hke
    exact done a' w' h2 h3 hst (fun j hj => h4 j (hall j hj))
  · simp [lefts]
  · have none : ∀ j, ¬ (Array.replicate l.length false).getD j false = true := fun j hj => by
      simp only [Array.getD_eq_getD_getElem?, Array.getElem?_replicate] at hj
      split at hj <;> simp at hj
    exact ⟨by simp, ⟨rfl, rfl, fun _ _ => rfl⟩, Rdrew, fun i o _ hl => (none i hl).elim, fun _ _ _ _ => rfl, 0, fun j hj => (none j hj).elim, Nat.zero_le _, st0, fun m i _ => ⟨fun h => (none i h).elim, fun h => by omega⟩⟩
end

/-- THE RULE, over the kinds. -/
theorem wp_region_kinds4 {P : Program} {Q : Exit → Act → World → Prop} (S : Nat → Prop) {id : Nat} {l : List Oper} {a : Act} {w : World} (hm : P.follows .mixedOrders = true) (hB : backB l 0 = true) (nd : (dsts l).Nodup) (hd : ∀ d ∈ dsts l, d < a.tmps.size)
    (ks : List (Kd S)) (calls : List Nat) (cn : calls.Nodup) (cl : ∀ i ∈ calls, i < l.length) (cp : ∀ k i j, calls[k]? = some i → calls[k + 1]? = some j → Path l j i) (St : Nat → World → Prop) (st0 : St 0 w.drew)
    (steps : Steps4 P Q l (fun w w' => Fr S w w') (fun w w' => Fr (fun _ => False) w w') (fun w w' => Fr S w w') St (Tk ks) calls a w 0 l)
    (done : ∀ a' w', Base l a a' → Fr S w w' → St calls.length w' → (∀ j, j < l.length → Held l (Tk ks calls.length) a' w' j) → Q .normal a' w') : (Code.region id l.toArray true).wp P Q a w :=
  wp_region_chain4 hm hB nd hd _ _ _ (Fr.refl _ _).drew (fun _ _ _ h k => h.trans k (fun _ _ h => h)) (fun _ _ h => h.mono (fun _ _ h => h.elim)) (fun _ _ h => h) (Tk ks) (Tk.mono ks) (Tk.monoC ks) calls cn cl cp St st0 steps done

end Go.Proofs.Ytdgmlopaeonacaa
