/-
  The document's cache: room is made.
-/
import Derived.Test.YtdgmlopaeonacaaM14
namespace Go.Proofs.Ytdgmlopaeonacaa
set_option linter.unusedVariables false
set_option linter.unusedSimpArgs false
open Go.RowKit
set_option linter.unusedVariables false
set_option linter.unusedSimpArgs false

attribute [local go_sem ↓] Go.wp_at_zero Go.wp_at_succ

/-- Cache and home of the document's behind a call: what they hold. -/
def Dp [Av] (w w' : World) (q g : Nat) (dv lg lv : Value) (R : List (Nat × Pl)) (c : Ca) (m : Hm) (l : List Pl) : Prop := ∃ lg' vs' lv' R', Dd w w' q g dv lg lv R lg' vs' lv' R' c m ∧ R'.map Prod.snd = l
theorem Dp.pre [Av] {w0 w w' : World} {q g : Nat} {dv lg lv : Value} {vs : List Value} {R : List (Nat × Pl)} {c c0 : Ca} {m m0 : Hm} {l : List Pl} (H : DAt w0 q g lv R c0) (HH : HAtG w0 g dv lg vs m0) (f : Fr (fun _ => False) w0 w) (h : Dp w w' q g dv lg lv R c m l) : Dp w0 w' q g dv lg lv R c m l := by
  obtain ⟨lg', vs', lv', R', h1, h2⟩ := h
  exact ⟨lg', vs', lv', R', (Dd.same H HH f).trans h1, h2⟩
theorem dd_rm [Av] {w w' : World} {q g : Nat} {dv lg lv : Value} {vs : List Value} {R1 R2 : List (Nat × Pl)} {x : Nat × Pl} {c : Ca} {m : Hm} (H : DAt w q g lv (R1 ++ x :: R2) c) (HH : HAtG w g dv lg vs m) (h : RmP w q g R1 R2 c w') : ∃ lv', Dd w w' q g dv lg lv (R1 ++ x :: R2) lg vs lv' (R1 ++ R2) c m := by
  obtain ⟨lv', h1, h2, h3⟩ := h
  exact ⟨lv', Dd.cache H HH h1 (fun k hk => .inl (by simp [adr] at hk ⊢; rcases hk with h | h; exact .inl h; exact .inr (.inr h))) (fun b hb => .inr (h2 b hb)) (h3.mono (fun k _ e => .inl e))⟩

section
variable (w : World) (q g : Nat) (dv lg lv : Value) (vs : List Value) (R : List (Nat × Pl)) (c : Ca) (m : Hm)

set_option maxRecDepth 100000 in
set_option maxHeartbeats 4000000 in
theorem room_any [Av] (hR : R.length ≤ 5000) (H : DAt w q g lv R c) (HH : HAtG w g dv lg vs m) (hD : ∀ y ∈ R, y.2.b < (m.D.length : Int)) (hc : m.calls < 1000000000) : Calls Try.prog 55 #[ptr q] w fun e w' => e = .returned (.int .i64 (rmR c m (R.map Prod.snd)).1) ∧ Dp w w' q g dv lg lv R c (rmR c m (R.map Prod.snd)).2.2 (rmR c m (R.map Prod.snd)).2.1 := by
  obtain ⟨-, c1, c2, c3, -⟩ := H.cells
  obtain ⟨ao, cap, rfl⟩ := H.shape
  have HD := hide H
  have HD0 := HD
  have HHM := hide HH
  have HDB := hide hD
  have HC := hide hc
  obtain ⟨N, hN⟩ : ∃ N, N = R.length := ⟨_, rfl⟩
  rw [← hN] at c2 HD HD0 hR ⊢
  have HN := hide hN
  have hpl := H.num.2.2.2
  by_cases hlt : R.length < c.places
  · have HE : Hid (rmR c m (R.map Prod.snd) = (0, R.map Prod.snd, m)) := hide (by unfold rmR; rw [if_pos (by simpa using hlt)])
    have bl : decide (N < c.places) = true := by simpa [hN] using hlt
    clear H HH hD hc hlt hN
    rw [unhide HE]
    unfold ptr at *
    go_enter Try.func55, Try.ntmps55
    go_wp2_with fail
    go_quiet (fail)
    go_wp2_with fail
    go_ret
    exact ⟨rfl, Dp.pre (unhide HD) (unhide HHM) (Fr.ofDrewN _ _) ⟨lg, vs, _, R, Dd.same ((unhide HD).kept0 (Fr.ofDrewN _ _)) ((unhide HHM).kept0 (Fr.ofDrewN _ _)) (Fr.refl _ _), rfl⟩⟩
  · have bl : decide (N < c.places) = false := by simpa [hN] using hlt
    have HGE : Hid (¬ (R.map Prod.snd).length < c.places) := hide (by simpa using hlt)
    clear H HH hD hc hlt hN
    unfold ptr at *
    go_enter Try.func55, Try.ntmps55
    go_wp2_with fail
    go_quiet (fail)
    go_wp2_with fail
    go_loopw [3, 4] (fun x y W => ∃ (i k : Nat), i ≤ N ∧ y = .int .i64 (i : Int) ∧ x = .bool ((R.take i).all fun z => decide (0 < z.2.pins)) ∧ (∀ z ∈ R.take i, lvO c z.2 = false) ∧ Hid (W = w.drewN k)) (fun _ y _ => N - (intOf y).toNat)
    case atStart => exact ⟨0, nq, by omega, rfl, by simp, by simp, hide rfl⟩
    case round =>
      obtain ⟨i, k, hi, rfl, rfl, hno, hW⟩ := hrel
      have hw := unhide hW
      clear hW
      have hDr := (unhide HD).kept0 (Fr.ofDrewN (S := fun _ => False) w k)
      have hHr := (unhide HHM).kept0 (Fr.ofDrewN (S := fun _ => False) w k)
      rw [← hw] at hDr hHr
      obtain ⟨-, e1, e2, e3, -⟩ := hDr.cells
      have HNO := hide hno
      have HWK := hide hw
      generalize hal : ((R.take i).all fun z => decide (0 < z.2.pins)) = hd0
      have HAL := hide hal
      clear hno hw hal
      by_cases hlt : i < N
      · have hiR : i < R.length := by have := unhide HN; omega
        obtain ⟨gl, cap', e, hnc, hcm, hcl⟩ := DAtK.lit (by rw [unhide HN] at hDr; exact hDr) (by omega)
        simp only [Value.slice.injEq] at e
        obtain ⟨rfl, -, rfl⟩ := e
        have ci := hcl i hiR
        obtain ⟨R1, R2, x, hsp, hR1⟩ : ∃ R1 R2 x, R = R1 ++ x :: R2 ∧ R1 = R.take i := ⟨R.take i, R.drop (i + 1), R[i], by rw [List.getElem_cons_drop, List.take_append_drop], rfl⟩
        have hl1 : R1.length = i := by rw [hR1]; simp; omega
        have hx : R[i]'hiR = x := by subst hl1; subst hsp; simp
        have hts : R.take (i + 1) = R1 ++ [x] := by rw [hsp, ← hl1]; simp [List.take_append, List.take_of_length_le]
        rw [hx] at ci
        obtain ⟨pv, hp⟩ := hDr.pl x (by rw [hsp]; simp)
        obtain ⟨p0, p1, p2, p3, p4, p5⟩ := hp.cells
        have hicap : i < cap := by have := unhide HN; omega
        have hpok := hDr.ok x (by rw [hsp]; simp)
        have hpn := hpok.pins
        have HTS := hide hts
        have HSP := hide hsp
        have HL1 := hide hl1
        have HR1 := hide hR1
        have HDr := hide hDr
        have HHr := hide hHr
        unfold ptr at ci
        clear hp hcl hDr hHr hpok hts hsp hl1 hR1 hx hcm
        by_cases hpi : 0 < x.2.pins
        · have qp : decide (0 < x.2.pins) = true := by simpa using hpi
          have HPI := hide qp
          clear hpi
          go_wp2_with fail
          go_roundw
          case rel => exact ⟨i + 1, k, by omega, by go_num, by rw [unhide HTS, unhide HR1, List.all_append, unhide HAL]; simp [unhide HPI], fun z hz => by
            rw [unhide HTS] at hz
            rcases List.mem_append.1 hz with h | h
            · rw [unhide HR1] at h; exact unhide HNO z h
            · rw [List.mem_singleton.1 h]; have := unhide HPI; simp [lvO] at this ⊢; omega, HWK⟩
          case measure => simp [intOf]; omega
        · have hp0 : x.2.pins = 0 := by omega
          have qp : decide (0 < x.2.pins) = false := by simpa using hpi
          have HQP := hide qp
          rcases hdy : x.2.dirty with _ | _
          · have HE : Hid (rmR c m (R.map Prod.snd) = (0, (R1 ++ R2).map Prod.snd, m)) := hide (by
              have hyes : lvO c x.2 = true := by unfold lvO; rw [qp, hdy]; rfl
              obtain ⟨f1, f2, f3⟩ := find_some (R2 := R2) (c := c) (R1 := R1) (q := x) (fun z hz => unhide HNO z (by rw [← unhide HR1]; exact hz)) hyes
              rw [← unhide HSP] at f1 f2 f3
              unfold rmR; rw [if_neg (unhide HGE), f1]; dsimp only; rw [f2, f3]; dsimp only; rw [hdy]; rfl)
            rw [hdy] at p2
            clear hpi hdy
            go_wp2_with fail
            go_quiet (fail)
            go_wp2_with fail
            refine wp_world ?_
            intro wz hwz
            have fz0 : Fr (fun _ => False) wr wz := by rw [hwz]; exact Fr.ofDrewN _ _
            have HFZ : Hid (Fr (fun _ => False) w wz) := hide (by have := fz0; rw [unhide HWK] at this; exact (Fr.ofDrewN _ _).trans this (fun _ _ e => e))
            have HD := hide (by have := (unhide HDr).kept0 fz0; rw [unhide HSP] at this; exact this)
            have HHz := hide ((unhide HHr).kept0 fz0)
            have HI : Hid (i = R1.length) := hide (unhide HL1).symm
            have HNN : Hid (N = R1.length + 1 + R2.length) := hide (by have h1 := unhide HN; rw [unhide HSP] at h1; rw [h1]; simp; omega)
            have HCP : Hid (N ≤ cap) := hide (by have := unhide HN; omega)
            have HNB := hide hR
            clear hwz fz0
            refine wp_nameK ?_
            intro a0 hA
            have h0 : a0.tmps.getD 0 undef = .pointer (some ⟨q, 0, none⟩) := by rw [hA]; rfl
            have h4 : a0.tmps.getD 4 undef = .int .i64 (i : Int) := by rw [hA]; rfl
            have hsz : a0.tmps.size = 83 := by rw [hA]; rfl
            have hdf : a0.defers = [] := by rw [hA]
            have HA0 := hide hA
            clear hA
            refine wp_region_kinds (fun k => k = q ∨ wz.heap.size ≤ k) (by kernel_rfl) (by kernel_rfl) (by decide +kernel) (by rw [hsz]; decide +kernel) [.eq (.pointer (some ⟨q, 0, none⟩)), (.st 0 (fun v W => W.ownsRow 0 95 1 v 0 ([]) ∧ ∀ k, v.ownBlock = some k → wz.heap.size ≤ k) (fun v w1 w2 ⟨h1, h2⟩ f => ⟨owns_kept h1 f (fun _ _ e => e), h2⟩)), .eq (.pointer (some ⟨q, 0, none⟩)), .eq (.pointer (some ⟨q, 0, none⟩)), .eq (.pointer (some ⟨q, 2, none⟩)), .eq (.slice (some ⟨gl, 0, none⟩) N cap), .eq (.int .i64 (i : Int)), .eq (.slice (some ⟨gl, 0, none⟩) i cap), (.st 1 (fun v W => W.ownsRow 0 95 1 v (0 + i) ([] ++ R1.map fun x => ptr x.1) ∧ ∀ k, v.ownBlock = some k → wz.heap.size ≤ k) (fun v w1 w2 ⟨h1, h2⟩ f => ⟨owns_kept h1 f (fun _ _ e => e), h2⟩)), .eq (.pointer (some ⟨q, 0, none⟩)), .eq (.pointer (some ⟨q, 0, none⟩)), .eq (.pointer (some ⟨q, 2, none⟩)), .eq (.slice (some ⟨gl, 0, none⟩) N cap), .eq (.int .i64 (i : Int)), .eq (.int .i64 ((i + 1 : Nat) : Int)), .eq (.slice (some ⟨gl, if cap = i + 1 then 0 else i + 1, none⟩) (N - (i + 1)) (cap - (i + 1))), (.st 2 (fun v W => W.ownsRow 0 95 1 v (0 + i + (N - (i + 1))) ([] ++ (R1.map fun x => ptr x.1) ++ R2.map fun x => ptr x.1) ∧ ∀ k, v.ownBlock = some k → wz.heap.size ≤ k) (fun v w1 w2 ⟨h1, h2⟩ f => ⟨owns_kept h1 f (fun _ _ e => e), h2⟩)), .eq (.pointer (some ⟨q, 0, none⟩)), .eq (.pointer (some ⟨q, 2, none⟩)), .any] [8, 16, 19] (by decide) (by decide) (threepath (waits (by kernel_rfl)) (waits (by kernel_rfl))) (fun k W => (k ≤ 2 → Fr (fun _ => False) wz W) ∧ (k = 3 → RmP wz q g R1 R2 c W)) ⟨fun _ => (Fr.refl _ _).drew, fun e => by omega⟩ ?steps ?done
            case steps =>
              refine ⟨?_, ?_⟩
              · intro a' w' k' hb hf hs hc hq hg hd
                exact ⟨wantedN rfl, k_val (.pointer (some ⟨q, 0, none⟩)) (by decide) hs (x_move rfl ((hb.old 0 (by decide +kernel)).trans h0)) rfl⟩
              refine ⟨?_, ?_⟩
              · intro a' w' k' hb hf hs hc hq hg hd
                obtain rfl : k' = 0 := Nat.le_zero.1 (hq 0 8 rfl (waits (by kernel_rfl))); have hF0 : Fr (fun _ => False) wz w' := hs.1 (by omega); exact ⟨wantedN rfl, k_new _ (w'.alloc (.cells #[] 95)) (by decide) ⟨fun _ => hF0.trans ((Fr.refl (fun _ => False) _).alloc _) (fun _ _ h => h), fun e => by omega⟩ ((Fr.refl _ _).alloc _) (x_bs54 rfl) ⟨Nat.zero_le _, fun _ => ⟨own0p _, fun k hk => own0_blk hF0 hk⟩⟩⟩
              refine ⟨?_, ?_⟩
              · intro a' w' k' hb hf hs hc hq hg hd
                exact ⟨wantedN rfl, k_val (.pointer (some ⟨q, 0, none⟩)) (by decide) hs (x_move rfl ((hb.old 0 (by decide +kernel)).trans h0)) rfl⟩
              refine ⟨?_, ?_⟩
              · intro a' w' k' hb hf hs hc hq hg hd
                exact ⟨wantedN rfl, k_val (.pointer (some ⟨q, 0, none⟩)) (by decide) hs (x_nilCheck rfl (hd 2 (by kernel_rfl) 65 rfl)) rfl⟩
              refine ⟨?_, ?_⟩
              · intro a' w' k' hb hf hs hc hq hg hd
                exact ⟨wantedN rfl, k_val (.pointer (some ⟨q, 2, none⟩)) (by decide) hs (x_field (of := 0) (off := 2) (fa56_2 q 0) rfl (hd 3 (by kernel_rfl) 66 rfl)) rfl⟩
              refine ⟨?_, ?_⟩
              · intro a' w' k' hb hf hs hc hq hg hd
                have hF0 : Fr (fun _ => False) wz w' := hs.1 (hq 2 19 rfl (waits (by kernel_rfl))); exact ⟨wantedN rfl, k_val (.slice (some ⟨gl, 0, none⟩) N cap) (by decide) hs (x_load1 ld54 rfl (hd 4 (by kernel_rfl) 67 rfl) ((unhide HD).kept0 hF0).cells.2.2.1) rfl⟩
              refine ⟨?_, ?_⟩
              · intro a' w' k' hb hf hs hc hq hg hd
                exact ⟨wantedN rfl, k_val (.int .i64 (i : Int)) (by decide) hs (x_move rfl ((hb.old 4 (by decide +kernel)).trans h4)) rfl⟩
              refine ⟨?_, ?_⟩
              · intro a' w' k' hb hf hs hc hq hg hd
                exact ⟨wantedN rfl, k_val (.slice (some ⟨gl, 0, none⟩) i cap) (by decide) hs (x_to54 rfl (hd 5 (by kernel_rfl) 68 rfl) (hd 6 (by kernel_rfl) 69 rfl) (by have h1 := unhide HI; have h2 := unhide HNN; omega) (unhide HCP)) rfl⟩
              refine ⟨?_, ?_⟩
              · intro a' w' k' hb hf hs hc hq hg hd
                obtain rfl := hc 0 rfl; have hF0 : Fr (fun _ => False) wz w' := hs.1 (by omega); have hh := hd 1 (by kernel_rfl) 64 rfl; obtain ⟨ho7, hb7⟩ := hh.2 rfl; obtain ⟨v9, w9, hr9, ho9, hg9, hn9⟩ := app54 w' _ ho7 (x := .slice (some ⟨gl, 0, none⟩) i cap) (k := i) (by rw [unhide HI]; exact ((unhide HD).kept0 hF0).srTo) (ptrs_one R1) (by have h1 := unhide HI; have h2 := unhide HNN; have h3 := unhide HNB; omega); exact ⟨wantedN rfl, k_chain v9 w9 (by decide) ⟨fun _ => app_st hF0 hg9 hb7, fun e => by omega⟩ (app_fr9 hF0 hg9 hb7) (x_app54 rfl rfl rfl (hd 7 (by kernel_rfl) 70 rfl) hr9) ⟨Nat.le_refl _, fun _ => ⟨ho9, app_new hF0.size hn9 hb7⟩⟩⟩
              refine ⟨?_, ?_⟩
              · intro a' w' k' hb hf hs hc hq hg hd
                exact ⟨wantedN rfl, k_val (.pointer (some ⟨q, 0, none⟩)) (by decide) hs (x_move rfl ((hb.old 0 (by decide +kernel)).trans h0)) rfl⟩
              refine ⟨?_, ?_⟩
              · intro a' w' k' hb hf hs hc hq hg hd
                exact ⟨wantedN rfl, k_val (.pointer (some ⟨q, 0, none⟩)) (by decide) hs (x_nilCheck rfl (hd 9 (by kernel_rfl) 72 rfl)) rfl⟩
              refine ⟨?_, ?_⟩
              · intro a' w' k' hb hf hs hc hq hg hd
                exact ⟨wantedN rfl, k_val (.pointer (some ⟨q, 2, none⟩)) (by decide) hs (x_field (of := 0) (off := 2) (fa56_2 q 0) rfl (hd 10 (by kernel_rfl) 73 rfl)) rfl⟩
              refine ⟨?_, ?_⟩
              · intro a' w' k' hb hf hs hc hq hg hd
                have hF0 : Fr (fun _ => False) wz w' := hs.1 (hq 2 19 rfl (waits (by kernel_rfl))); exact ⟨wantedN rfl, k_val (.slice (some ⟨gl, 0, none⟩) N cap) (by decide) hs (x_load1 ld54 rfl (hd 11 (by kernel_rfl) 74 rfl) ((unhide HD).kept0 hF0).cells.2.2.1) rfl⟩
              refine ⟨?_, ?_⟩
              · intro a' w' k' hb hf hs hc hq hg hd
                exact ⟨wantedN rfl, k_val (.int .i64 (i : Int)) (by decide) hs (x_move rfl ((hb.old 4 (by decide +kernel)).trans h4)) rfl⟩
              refine ⟨?_, ?_⟩
              · intro a' w' k' hb hf hs hc hq hg hd
                exact ⟨wantedN rfl, k_val (.int .i64 ((i + 1 : Nat) : Int)) (by decide) hs (x_addI rfl (hd 13 (by kernel_rfl) 76 rfl) rfl (by have h1 := unhide HI; have h2 := unhide HNN; have h3 := unhide HNB; rw [IntKind.wrap_i64]; omega)) rfl⟩
              refine ⟨?_, ?_⟩
              · intro a' w' k' hb hf hs hc hq hg hd
                exact ⟨wantedN rfl, k_val (.slice (some ⟨gl, if cap = i + 1 then 0 else i + 1, none⟩) (N - (i + 1)) (cap - (i + 1))) (by decide) hs (x_from54 rfl (hd 12 (by kernel_rfl) 75 rfl) (hd 14 (by kernel_rfl) 77 rfl) (by have h1 := unhide HI; have h2 := unhide HNN; omega) (unhide HCP)) rfl⟩
              refine ⟨?_, ?_⟩
              · intro a' w' k' hb hf hs hc hq hg hd
                obtain rfl := hc 1 rfl; have hF0 : Fr (fun _ => False) wz w' := hs.1 (by omega); have hh := hd 8 (by kernel_rfl) 71 rfl; obtain ⟨ho7, hb7⟩ := hh.2 rfl; obtain ⟨v9, w9, hr9, ho9, hg9, hn9⟩ := app54 w' _ ho7 (x := .slice (some ⟨gl, if cap = i + 1 then 0 else i + 1, none⟩) (N - (i + 1)) (cap - (i + 1))) (k := N - (i + 1)) (by rw [unhide HI]; exact ((unhide HD).kept0 hF0).srFrom (unhide HNN) (unhide HCP)) (ptrs_one R2) (by have h1 := unhide HI; have h2 := unhide HNN; have h3 := unhide HNB; omega); exact ⟨wantedN rfl, k_chain v9 w9 (by decide) ⟨fun _ => app_st hF0 hg9 hb7, fun e => by omega⟩ (app_fr9 hF0 hg9 hb7) (x_app54 rfl rfl rfl (hd 15 (by kernel_rfl) 78 rfl) hr9) ⟨Nat.le_refl _, fun _ => ⟨ho9, app_new hF0.size hn9 hb7⟩⟩⟩
              refine ⟨?_, ?_⟩
              · intro a' w' k' hb hf hs hc hq hg hd
                exact ⟨wantedN rfl, k_val (.pointer (some ⟨q, 0, none⟩)) (by decide) hs (x_nilCheck rfl (hd 0 (by kernel_rfl) 63 rfl)) rfl⟩
              refine ⟨?_, ?_⟩
              · intro a' w' k' hb hf hs hc hq hg hd
                exact ⟨wantedN rfl, k_val (.pointer (some ⟨q, 2, none⟩)) (by decide) hs (x_field (of := 0) (off := 2) (fa56_2 q 0) rfl (hd 17 (by kernel_rfl) 80 rfl)) rfl⟩
              refine ⟨?_, ?_⟩
              · intro a' w' k' hb hf hs hc hq hg hd
                obtain rfl := hc 2 rfl; have hF0 : Fr (fun _ => False) wz w' := hs.1 (by omega); have hh := hd 16 (by kernel_rfl) 79 rfl; obtain ⟨ho7, hb7⟩ := hh.2 rfl; have hD7 := (unhide HD).kept0 hF0; exact ⟨wantedN rfl, k_store _ (by decide) ⟨fun e => by omega, fun _ => (unhide HD).rm hF0 (by simpa using ho7) (by have h1 := unhide HI; have h2 := unhide HNN; omega) hb7⟩ (((Fr.refl (fun k => k = q) w').setCell (p := ⟨q, 2, none⟩) (fun _ => rfl) _).mono (fun _ _ e => .inl e)) (x_store54 rfl (hd 18 (by kernel_rfl) 81 rfl) rfl hD7.cells.2.2.1 (frozen_of_heap hD7.heap 2) (let ⟨ao, c, e⟩ := owns_shape ho7; ⟨ao, _, c, e⟩)) trivial⟩
              exact trivial
            case done =>
              intro a' w6 hb hf hs hall
              have hdf' : a'.defers = [] := by rw [hb.defers]; exact hdf
              obtain ⟨v63, hv63⟩ : ∃ v, a'.tmps.getD 63 undef = v := ⟨_, rfl⟩
              obtain ⟨v64, hv64⟩ : ∃ v, a'.tmps.getD 64 undef = v := ⟨_, rfl⟩
              obtain ⟨v65, hv65⟩ : ∃ v, a'.tmps.getD 65 undef = v := ⟨_, rfl⟩
              obtain ⟨v66, hv66⟩ : ∃ v, a'.tmps.getD 66 undef = v := ⟨_, rfl⟩
              obtain ⟨v67, hv67⟩ : ∃ v, a'.tmps.getD 67 undef = v := ⟨_, rfl⟩
              obtain ⟨v68, hv68⟩ : ∃ v, a'.tmps.getD 68 undef = v := ⟨_, rfl⟩
              obtain ⟨v69, hv69⟩ : ∃ v, a'.tmps.getD 69 undef = v := ⟨_, rfl⟩
              obtain ⟨v70, hv70⟩ : ∃ v, a'.tmps.getD 70 undef = v := ⟨_, rfl⟩
              obtain ⟨v71, hv71⟩ : ∃ v, a'.tmps.getD 71 undef = v := ⟨_, rfl⟩
              obtain ⟨v72, hv72⟩ : ∃ v, a'.tmps.getD 72 undef = v := ⟨_, rfl⟩
              obtain ⟨v73, hv73⟩ : ∃ v, a'.tmps.getD 73 undef = v := ⟨_, rfl⟩
              obtain ⟨v74, hv74⟩ : ∃ v, a'.tmps.getD 74 undef = v := ⟨_, rfl⟩
              obtain ⟨v75, hv75⟩ : ∃ v, a'.tmps.getD 75 undef = v := ⟨_, rfl⟩
              obtain ⟨v76, hv76⟩ : ∃ v, a'.tmps.getD 76 undef = v := ⟨_, rfl⟩
              obtain ⟨v77, hv77⟩ : ∃ v, a'.tmps.getD 77 undef = v := ⟨_, rfl⟩
              obtain ⟨v78, hv78⟩ : ∃ v, a'.tmps.getD 78 undef = v := ⟨_, rfl⟩
              obtain ⟨v79, hv79⟩ : ∃ v, a'.tmps.getD 79 undef = v := ⟨_, rfl⟩
              obtain ⟨v80, hv80⟩ : ∃ v, a'.tmps.getD 80 undef = v := ⟨_, rfl⟩
              obtain ⟨v81, hv81⟩ : ∃ v, a'.tmps.getD 81 undef = v := ⟨_, rfl⟩
              have hfr := frame_eq (a := a') (vs := [.pointer (some ⟨q, 0, none⟩), a0.tmps.getD 1 undef, a0.tmps.getD 2 undef, a0.tmps.getD 3 undef, .int .i64 (i : Int), a0.tmps.getD 5 undef, a0.tmps.getD 6 undef, a0.tmps.getD 7 undef, a0.tmps.getD 8 undef, a0.tmps.getD 9 undef, a0.tmps.getD 10 undef, a0.tmps.getD 11 undef, a0.tmps.getD 12 undef, a0.tmps.getD 13 undef, a0.tmps.getD 14 undef, a0.tmps.getD 15 undef, a0.tmps.getD 16 undef, a0.tmps.getD 17 undef, a0.tmps.getD 18 undef, a0.tmps.getD 19 undef, a0.tmps.getD 20 undef, a0.tmps.getD 21 undef, a0.tmps.getD 22 undef, a0.tmps.getD 23 undef, a0.tmps.getD 24 undef, a0.tmps.getD 25 undef, a0.tmps.getD 26 undef, a0.tmps.getD 27 undef, a0.tmps.getD 28 undef, a0.tmps.getD 29 undef, a0.tmps.getD 30 undef, a0.tmps.getD 31 undef, a0.tmps.getD 32 undef, a0.tmps.getD 33 undef, a0.tmps.getD 34 undef, a0.tmps.getD 35 undef, a0.tmps.getD 36 undef, a0.tmps.getD 37 undef, a0.tmps.getD 38 undef, a0.tmps.getD 39 undef, a0.tmps.getD 40 undef, a0.tmps.getD 41 undef, a0.tmps.getD 42 undef, a0.tmps.getD 43 undef, a0.tmps.getD 44 undef, a0.tmps.getD 45 undef, a0.tmps.getD 46 undef, a0.tmps.getD 47 undef, a0.tmps.getD 48 undef, a0.tmps.getD 49 undef, a0.tmps.getD 50 undef, a0.tmps.getD 51 undef, a0.tmps.getD 52 undef, a0.tmps.getD 53 undef, a0.tmps.getD 54 undef, a0.tmps.getD 55 undef, a0.tmps.getD 56 undef, a0.tmps.getD 57 undef, a0.tmps.getD 58 undef, a0.tmps.getD 59 undef, a0.tmps.getD 60 undef, a0.tmps.getD 61 undef, a0.tmps.getD 62 undef, v63, v64, v65, v66, v67, v68, v69, v70, v71, v72, v73, v74, v75, v76, v77, v78, v79, v80, v81, a0.tmps.getD 82 undef]) (by rw [hb.size, hsz]; rfl) hdf' ⟨((hb.old 0 (by decide +kernel)).trans h0), (hb.old 1 (by decide +kernel)), (hb.old 2 (by decide +kernel)), (hb.old 3 (by decide +kernel)), ((hb.old 4 (by decide +kernel)).trans h4), (hb.old 5 (by decide +kernel)), (hb.old 6 (by decide +kernel)), (hb.old 7 (by decide +kernel)), (hb.old 8 (by decide +kernel)), (hb.old 9 (by decide +kernel)), (hb.old 10 (by decide +kernel)), (hb.old 11 (by decide +kernel)), (hb.old 12 (by decide +kernel)), (hb.old 13 (by decide +kernel)), (hb.old 14 (by decide +kernel)), (hb.old 15 (by decide +kernel)), (hb.old 16 (by decide +kernel)), (hb.old 17 (by decide +kernel)), (hb.old 18 (by decide +kernel)), (hb.old 19 (by decide +kernel)), (hb.old 20 (by decide +kernel)), (hb.old 21 (by decide +kernel)), (hb.old 22 (by decide +kernel)), (hb.old 23 (by decide +kernel)), (hb.old 24 (by decide +kernel)), (hb.old 25 (by decide +kernel)), (hb.old 26 (by decide +kernel)), (hb.old 27 (by decide +kernel)), (hb.old 28 (by decide +kernel)), (hb.old 29 (by decide +kernel)), (hb.old 30 (by decide +kernel)), (hb.old 31 (by decide +kernel)), (hb.old 32 (by decide +kernel)), (hb.old 33 (by decide +kernel)), (hb.old 34 (by decide +kernel)), (hb.old 35 (by decide +kernel)), (hb.old 36 (by decide +kernel)), (hb.old 37 (by decide +kernel)), (hb.old 38 (by decide +kernel)), (hb.old 39 (by decide +kernel)), (hb.old 40 (by decide +kernel)), (hb.old 41 (by decide +kernel)), (hb.old 42 (by decide +kernel)), (hb.old 43 (by decide +kernel)), (hb.old 44 (by decide +kernel)), (hb.old 45 (by decide +kernel)), (hb.old 46 (by decide +kernel)), (hb.old 47 (by decide +kernel)), (hb.old 48 (by decide +kernel)), (hb.old 49 (by decide +kernel)), (hb.old 50 (by decide +kernel)), (hb.old 51 (by decide +kernel)), (hb.old 52 (by decide +kernel)), (hb.old 53 (by decide +kernel)), (hb.old 54 (by decide +kernel)), (hb.old 55 (by decide +kernel)), (hb.old 56 (by decide +kernel)), (hb.old 57 (by decide +kernel)), (hb.old 58 (by decide +kernel)), (hb.old 59 (by decide +kernel)), (hb.old 60 (by decide +kernel)), (hb.old 61 (by decide +kernel)), (hb.old 62 (by decide +kernel)), hv63, hv64, hv65, hv66, hv67, hv68, hv69, hv70, hv71, hv72, hv73, hv74, hv75, hv76, hv77, hv78, hv79, hv80, hv81, (hb.old 82 (by decide +kernel)), trivial⟩
              have HST : Hid (RmP wz q g R1 R2 c w6) := hide (hs.2 rfl)
              clear hall hb hf hs hv63 hv64 hv65 hv66 hv67 hv68 hv69 hv70 hv71 hv72 hv73 hv74 hv75 hv76 hv77 hv78 hv79 hv80 hv81
              subst hfr
              clear HA0 h0 h4 hsz hdf hdf'
              apply_assumption
              obtain ⟨lvz, hCz⟩ := dd_rm (unhide HD) (unhide HHz) (unhide HST)
              have HCz := hide hCz
              clear hCz HST
              go_wp2_with fail
              go_ret
              rw [unhide HE]
              refine ⟨rfl, ?_⟩
              have hd := (Dd.same (unhide HD0) (unhide HHM) (unhide HFZ))
              rw [unhide HSP] at hd ⊢
              exact ⟨_, _, lvz, R1 ++ R2, hd.trans (unhide HCz), rfl⟩
          · by_cases hls : x.2.last ≤ c.safe
            · have hyes : lvO c x.2 = true := by unfold lvO; rw [qp, hdy]; simp [hls]
              obtain ⟨f1, f2, f3⟩ := find_some (R2 := R2) (c := c) (R1 := R1) (q := x) (fun z hz => unhide HNO z (by rw [← unhide HR1]; exact hz)) hyes
              rw [← unhide HSP] at f1 f2 f3
              have HE : Hid (rmR c m (R.map Prod.snd) = if m.fa = true then (77, R.map Prod.snd, m.one) else (0, (R1 ++ R2).map Prod.snd, m.put x.2.b.toNat x.2.P)) := hide (by
                unfold rmR; rw [if_neg (unhide HGE), f1]; dsimp only; rw [f2, f3]; dsimp only; rw [hdy, if_pos rfl])
              have hlz : lz x.2 = (x.2.last : Int) := by unfold lz; rw [hdy]; rfl
              rw [hdy] at p2
              rw [hlz] at p4
              have q1 : decide ((c.safe : Int) < (x.2.last : Int)) = false := by simp; omega
              have q2 : decide (c.safe < x.2.last) = false := by simp; omega
              have hxb : x.2.b < (m.D.length : Int) := unhide HDB x (by rw [unhide HSP]; simp)
              have HXB := hide hxb
              clear hpi hdy hls hyes f1 f2 f3 hlz hxb
              go_wp2_with fail
              go_quiet (fail)
              apply_assumption
              refine wp_world ?_
              intro wz hwz
              have fz0 : Fr (fun _ => False) wr wz := by rw [hwz]; exact Fr.ofDrewN _ _
              have HFZ : Hid (Fr (fun _ => False) w wz) := hide (by have := fz0; rw [unhide HWK] at this; exact (Fr.ofDrewN _ _).trans this (fun _ _ e => e))
              have hDz := (unhide HDr).kept0 fz0
              rw [unhide HSP] at hDz
              have HDZ := hide hDz
              have hHz := (unhide HHr).kept0 fz0
              have HHZ := hide hHz
              have hp2' := (fz0.cell (a := ⟨x.1, 2, none⟩) (World.block_lt_of_cell? _ _ p2) id).trans p2
              have HHO := hide (dhome_any wz q g dv lg _ vs R1 R2 x c m hDz hHz (unhide HXB) (unhide HC))
              unfold ptr at HHO
              clear hDz hHz fz0 hwz p0 p1 p2 p3 p4 p5 ci e1 e2 e3
              go_wp2_with fail
              refine (unhide HHO).mono ?_
              rintro e w5 ⟨rfl, lg5, vs5, hC5⟩
              rcases hfa : m.fa with _ | _
              · have hE : whE m = 0 := by unfold whE; rw [hfa]; rfl
                have hM : m.wr x.2.b x.2.P = m.put x.2.b.toNat x.2.P := by unfold Hm.wr; rw [hfa]; rfl
                rw [hE]
                rw [hM] at hC5
                have HE2 : Hid (rmR c m (R.map Prod.snd) = (0, (R1 ++ R2).map Prod.snd, m.put x.2.b.toNat x.2.P)) := hide (by rw [unhide HE, hfa]; rfl)
                have HC5 := hide hC5
                have HD := hide hC5.d
                have HHz := hide hC5.hh
                have HI : Hid (i = R1.length) := hide (unhide HL1).symm
                have HNN : Hid (N = R1.length + 1 + R2.length) := hide (by have h1 := unhide HN; rw [unhide HSP] at h1; rw [h1]; simp; omega)
                have HCP : Hid (N ≤ cap) := hide (by have := unhide HN; omega)
                have HNB := hide hR
                clear hC5 hfa hE hM HHO HE
                go_wp2_with fail
                refine wp_nameK ?_
                intro a0 hA
                have h0 : a0.tmps.getD 0 undef = .pointer (some ⟨q, 0, none⟩) := by rw [hA]; rfl
                have h4 : a0.tmps.getD 4 undef = .int .i64 (i : Int) := by rw [hA]; rfl
                have hsz : a0.tmps.size = 83 := by rw [hA]; rfl
                have hdf : a0.defers = [] := by rw [hA]
                have HA0 := hide hA
                clear hA
                refine wp_region_kinds (fun k => k = q ∨ w5.heap.size ≤ k) (by kernel_rfl) (by kernel_rfl) (by decide +kernel) (by rw [hsz]; decide +kernel) [.eq (.pointer (some ⟨q, 0, none⟩)), (.st 0 (fun v W => W.ownsRow 0 95 1 v 0 ([]) ∧ ∀ k, v.ownBlock = some k → w5.heap.size ≤ k) (fun v w1 w2 ⟨h1, h2⟩ f => ⟨owns_kept h1 f (fun _ _ e => e), h2⟩)), .eq (.pointer (some ⟨q, 0, none⟩)), .eq (.pointer (some ⟨q, 0, none⟩)), .eq (.pointer (some ⟨q, 2, none⟩)), .eq (.slice (some ⟨gl, 0, none⟩) N cap), .eq (.int .i64 (i : Int)), .eq (.slice (some ⟨gl, 0, none⟩) i cap), (.st 1 (fun v W => W.ownsRow 0 95 1 v (0 + i) ([] ++ R1.map fun x => ptr x.1) ∧ ∀ k, v.ownBlock = some k → w5.heap.size ≤ k) (fun v w1 w2 ⟨h1, h2⟩ f => ⟨owns_kept h1 f (fun _ _ e => e), h2⟩)), .eq (.pointer (some ⟨q, 0, none⟩)), .eq (.pointer (some ⟨q, 0, none⟩)), .eq (.pointer (some ⟨q, 2, none⟩)), .eq (.slice (some ⟨gl, 0, none⟩) N cap), .eq (.int .i64 (i : Int)), .eq (.int .i64 ((i + 1 : Nat) : Int)), .eq (.slice (some ⟨gl, if cap = i + 1 then 0 else i + 1, none⟩) (N - (i + 1)) (cap - (i + 1))), (.st 2 (fun v W => W.ownsRow 0 95 1 v (0 + i + (N - (i + 1))) ([] ++ (R1.map fun x => ptr x.1) ++ R2.map fun x => ptr x.1) ∧ ∀ k, v.ownBlock = some k → w5.heap.size ≤ k) (fun v w1 w2 ⟨h1, h2⟩ f => ⟨owns_kept h1 f (fun _ _ e => e), h2⟩)), .eq (.pointer (some ⟨q, 0, none⟩)), .eq (.pointer (some ⟨q, 2, none⟩)), .any] [8, 16, 19] (by decide) (by decide) (threepath (waits (by kernel_rfl)) (waits (by kernel_rfl))) (fun k W => (k ≤ 2 → Fr (fun _ => False) w5 W) ∧ (k = 3 → RmP w5 q g R1 R2 c W)) ⟨fun _ => (Fr.refl _ _).drew, fun e => by omega⟩ ?steps ?done
                case steps =>
                  refine ⟨?_, ?_⟩
                  · intro a' w' k' hb hf hs hc hq hg hd
                    exact ⟨wantedN rfl, k_val (.pointer (some ⟨q, 0, none⟩)) (by decide) hs (x_move rfl ((hb.old 0 (by decide +kernel)).trans h0)) rfl⟩
                  refine ⟨?_, ?_⟩
                  · intro a' w' k' hb hf hs hc hq hg hd
                    obtain rfl : k' = 0 := Nat.le_zero.1 (hq 0 8 rfl (waits (by kernel_rfl))); have hF0 : Fr (fun _ => False) w5 w' := hs.1 (by omega); exact ⟨wantedN rfl, k_new _ (w'.alloc (.cells #[] 95)) (by decide) ⟨fun _ => hF0.trans ((Fr.refl (fun _ => False) _).alloc _) (fun _ _ h => h), fun e => by omega⟩ ((Fr.refl _ _).alloc _) (x_bs54 rfl) ⟨Nat.zero_le _, fun _ => ⟨own0p _, fun k hk => own0_blk hF0 hk⟩⟩⟩
                  refine ⟨?_, ?_⟩
                  · intro a' w' k' hb hf hs hc hq hg hd
                    exact ⟨wantedN rfl, k_val (.pointer (some ⟨q, 0, none⟩)) (by decide) hs (x_move rfl ((hb.old 0 (by decide +kernel)).trans h0)) rfl⟩
                  refine ⟨?_, ?_⟩
                  · intro a' w' k' hb hf hs hc hq hg hd
                    exact ⟨wantedN rfl, k_val (.pointer (some ⟨q, 0, none⟩)) (by decide) hs (x_nilCheck rfl (hd 2 (by kernel_rfl) 65 rfl)) rfl⟩
                  refine ⟨?_, ?_⟩
                  · intro a' w' k' hb hf hs hc hq hg hd
                    exact ⟨wantedN rfl, k_val (.pointer (some ⟨q, 2, none⟩)) (by decide) hs (x_field (of := 0) (off := 2) (fa56_2 q 0) rfl (hd 3 (by kernel_rfl) 66 rfl)) rfl⟩
                  refine ⟨?_, ?_⟩
                  · intro a' w' k' hb hf hs hc hq hg hd
                    have hF0 : Fr (fun _ => False) w5 w' := hs.1 (hq 2 19 rfl (waits (by kernel_rfl))); exact ⟨wantedN rfl, k_val (.slice (some ⟨gl, 0, none⟩) N cap) (by decide) hs (x_load1 ld54 rfl (hd 4 (by kernel_rfl) 67 rfl) ((unhide HD).kept0 hF0).cells.2.2.1) rfl⟩
                  refine ⟨?_, ?_⟩
                  · intro a' w' k' hb hf hs hc hq hg hd
                    exact ⟨wantedN rfl, k_val (.int .i64 (i : Int)) (by decide) hs (x_move rfl ((hb.old 4 (by decide +kernel)).trans h4)) rfl⟩
                  refine ⟨?_, ?_⟩
                  · intro a' w' k' hb hf hs hc hq hg hd
                    exact ⟨wantedN rfl, k_val (.slice (some ⟨gl, 0, none⟩) i cap) (by decide) hs (x_to54 rfl (hd 5 (by kernel_rfl) 68 rfl) (hd 6 (by kernel_rfl) 69 rfl) (by have h1 := unhide HI; have h2 := unhide HNN; omega) (unhide HCP)) rfl⟩
                  refine ⟨?_, ?_⟩
                  · intro a' w' k' hb hf hs hc hq hg hd
                    obtain rfl := hc 0 rfl; have hF0 : Fr (fun _ => False) w5 w' := hs.1 (by omega); have hh := hd 1 (by kernel_rfl) 64 rfl; obtain ⟨ho7, hb7⟩ := hh.2 rfl; obtain ⟨v9, w9, hr9, ho9, hg9, hn9⟩ := app54 w' _ ho7 (x := .slice (some ⟨gl, 0, none⟩) i cap) (k := i) (by rw [unhide HI]; exact ((unhide HD).kept0 hF0).srTo) (ptrs_one R1) (by have h1 := unhide HI; have h2 := unhide HNN; have h3 := unhide HNB; omega); exact ⟨wantedN rfl, k_chain v9 w9 (by decide) ⟨fun _ => app_st hF0 hg9 hb7, fun e => by omega⟩ (app_fr9 hF0 hg9 hb7) (x_app54 rfl rfl rfl (hd 7 (by kernel_rfl) 70 rfl) hr9) ⟨Nat.le_refl _, fun _ => ⟨ho9, app_new hF0.size hn9 hb7⟩⟩⟩
                  refine ⟨?_, ?_⟩
                  · intro a' w' k' hb hf hs hc hq hg hd
                    exact ⟨wantedN rfl, k_val (.pointer (some ⟨q, 0, none⟩)) (by decide) hs (x_move rfl ((hb.old 0 (by decide +kernel)).trans h0)) rfl⟩
                  refine ⟨?_, ?_⟩
                  · intro a' w' k' hb hf hs hc hq hg hd
                    exact ⟨wantedN rfl, k_val (.pointer (some ⟨q, 0, none⟩)) (by decide) hs (x_nilCheck rfl (hd 9 (by kernel_rfl) 72 rfl)) rfl⟩
                  refine ⟨?_, ?_⟩
                  · intro a' w' k' hb hf hs hc hq hg hd
                    exact ⟨wantedN rfl, k_val (.pointer (some ⟨q, 2, none⟩)) (by decide) hs (x_field (of := 0) (off := 2) (fa56_2 q 0) rfl (hd 10 (by kernel_rfl) 73 rfl)) rfl⟩
                  refine ⟨?_, ?_⟩
                  · intro a' w' k' hb hf hs hc hq hg hd
                    have hF0 : Fr (fun _ => False) w5 w' := hs.1 (hq 2 19 rfl (waits (by kernel_rfl))); exact ⟨wantedN rfl, k_val (.slice (some ⟨gl, 0, none⟩) N cap) (by decide) hs (x_load1 ld54 rfl (hd 11 (by kernel_rfl) 74 rfl) ((unhide HD).kept0 hF0).cells.2.2.1) rfl⟩
                  refine ⟨?_, ?_⟩
                  · intro a' w' k' hb hf hs hc hq hg hd
                    exact ⟨wantedN rfl, k_val (.int .i64 (i : Int)) (by decide) hs (x_move rfl ((hb.old 4 (by decide +kernel)).trans h4)) rfl⟩
                  refine ⟨?_, ?_⟩
                  · intro a' w' k' hb hf hs hc hq hg hd
                    exact ⟨wantedN rfl, k_val (.int .i64 ((i + 1 : Nat) : Int)) (by decide) hs (x_addI rfl (hd 13 (by kernel_rfl) 76 rfl) rfl (by have h1 := unhide HI; have h2 := unhide HNN; have h3 := unhide HNB; rw [IntKind.wrap_i64]; omega)) rfl⟩
                  refine ⟨?_, ?_⟩
                  · intro a' w' k' hb hf hs hc hq hg hd
                    exact ⟨wantedN rfl, k_val (.slice (some ⟨gl, if cap = i + 1 then 0 else i + 1, none⟩) (N - (i + 1)) (cap - (i + 1))) (by decide) hs (x_from54 rfl (hd 12 (by kernel_rfl) 75 rfl) (hd 14 (by kernel_rfl) 77 rfl) (by have h1 := unhide HI; have h2 := unhide HNN; omega) (unhide HCP)) rfl⟩
                  refine ⟨?_, ?_⟩
                  · intro a' w' k' hb hf hs hc hq hg hd
                    obtain rfl := hc 1 rfl; have hF0 : Fr (fun _ => False) w5 w' := hs.1 (by omega); have hh := hd 8 (by kernel_rfl) 71 rfl; obtain ⟨ho7, hb7⟩ := hh.2 rfl; obtain ⟨v9, w9, hr9, ho9, hg9, hn9⟩ := app54 w' _ ho7 (x := .slice (some ⟨gl, if cap = i + 1 then 0 else i + 1, none⟩) (N - (i + 1)) (cap - (i + 1))) (k := N - (i + 1)) (by rw [unhide HI]; exact ((unhide HD).kept0 hF0).srFrom (unhide HNN) (unhide HCP)) (ptrs_one R2) (by have h1 := unhide HI; have h2 := unhide HNN; have h3 := unhide HNB; omega); exact ⟨wantedN rfl, k_chain v9 w9 (by decide) ⟨fun _ => app_st hF0 hg9 hb7, fun e => by omega⟩ (app_fr9 hF0 hg9 hb7) (x_app54 rfl rfl rfl (hd 15 (by kernel_rfl) 78 rfl) hr9) ⟨Nat.le_refl _, fun _ => ⟨ho9, app_new hF0.size hn9 hb7⟩⟩⟩
                  refine ⟨?_, ?_⟩
                  · intro a' w' k' hb hf hs hc hq hg hd
                    exact ⟨wantedN rfl, k_val (.pointer (some ⟨q, 0, none⟩)) (by decide) hs (x_nilCheck rfl (hd 0 (by kernel_rfl) 63 rfl)) rfl⟩
                  refine ⟨?_, ?_⟩
                  · intro a' w' k' hb hf hs hc hq hg hd
                    exact ⟨wantedN rfl, k_val (.pointer (some ⟨q, 2, none⟩)) (by decide) hs (x_field (of := 0) (off := 2) (fa56_2 q 0) rfl (hd 17 (by kernel_rfl) 80 rfl)) rfl⟩
                  refine ⟨?_, ?_⟩
                  · intro a' w' k' hb hf hs hc hq hg hd
                    obtain rfl := hc 2 rfl; have hF0 : Fr (fun _ => False) w5 w' := hs.1 (by omega); have hh := hd 16 (by kernel_rfl) 79 rfl; obtain ⟨ho7, hb7⟩ := hh.2 rfl; have hD7 := (unhide HD).kept0 hF0; exact ⟨wantedN rfl, k_store _ (by decide) ⟨fun e => by omega, fun _ => (unhide HD).rm hF0 (by simpa using ho7) (by have h1 := unhide HI; have h2 := unhide HNN; omega) hb7⟩ (((Fr.refl (fun k => k = q) w').setCell (p := ⟨q, 2, none⟩) (fun _ => rfl) _).mono (fun _ _ e => .inl e)) (x_store54 rfl (hd 18 (by kernel_rfl) 81 rfl) rfl hD7.cells.2.2.1 (frozen_of_heap hD7.heap 2) (let ⟨ao, c, e⟩ := owns_shape ho7; ⟨ao, _, c, e⟩)) trivial⟩
                  exact trivial
                case done =>
                  intro a' w6 hb hf hs hall
                  have hdf' : a'.defers = [] := by rw [hb.defers]; exact hdf
                  obtain ⟨v63, hv63⟩ : ∃ v, a'.tmps.getD 63 undef = v := ⟨_, rfl⟩
                  obtain ⟨v64, hv64⟩ : ∃ v, a'.tmps.getD 64 undef = v := ⟨_, rfl⟩
                  obtain ⟨v65, hv65⟩ : ∃ v, a'.tmps.getD 65 undef = v := ⟨_, rfl⟩
                  obtain ⟨v66, hv66⟩ : ∃ v, a'.tmps.getD 66 undef = v := ⟨_, rfl⟩
                  obtain ⟨v67, hv67⟩ : ∃ v, a'.tmps.getD 67 undef = v := ⟨_, rfl⟩
                  obtain ⟨v68, hv68⟩ : ∃ v, a'.tmps.getD 68 undef = v := ⟨_, rfl⟩
                  obtain ⟨v69, hv69⟩ : ∃ v, a'.tmps.getD 69 undef = v := ⟨_, rfl⟩
                  obtain ⟨v70, hv70⟩ : ∃ v, a'.tmps.getD 70 undef = v := ⟨_, rfl⟩
                  obtain ⟨v71, hv71⟩ : ∃ v, a'.tmps.getD 71 undef = v := ⟨_, rfl⟩
                  obtain ⟨v72, hv72⟩ : ∃ v, a'.tmps.getD 72 undef = v := ⟨_, rfl⟩
                  obtain ⟨v73, hv73⟩ : ∃ v, a'.tmps.getD 73 undef = v := ⟨_, rfl⟩
                  obtain ⟨v74, hv74⟩ : ∃ v, a'.tmps.getD 74 undef = v := ⟨_, rfl⟩
                  obtain ⟨v75, hv75⟩ : ∃ v, a'.tmps.getD 75 undef = v := ⟨_, rfl⟩
                  obtain ⟨v76, hv76⟩ : ∃ v, a'.tmps.getD 76 undef = v := ⟨_, rfl⟩
                  obtain ⟨v77, hv77⟩ : ∃ v, a'.tmps.getD 77 undef = v := ⟨_, rfl⟩
                  obtain ⟨v78, hv78⟩ : ∃ v, a'.tmps.getD 78 undef = v := ⟨_, rfl⟩
                  obtain ⟨v79, hv79⟩ : ∃ v, a'.tmps.getD 79 undef = v := ⟨_, rfl⟩
                  obtain ⟨v80, hv80⟩ : ∃ v, a'.tmps.getD 80 undef = v := ⟨_, rfl⟩
                  obtain ⟨v81, hv81⟩ : ∃ v, a'.tmps.getD 81 undef = v := ⟨_, rfl⟩
                  have hfr := frame_eq (a := a') (vs := [.pointer (some ⟨q, 0, none⟩), a0.tmps.getD 1 undef, a0.tmps.getD 2 undef, a0.tmps.getD 3 undef, .int .i64 (i : Int), a0.tmps.getD 5 undef, a0.tmps.getD 6 undef, a0.tmps.getD 7 undef, a0.tmps.getD 8 undef, a0.tmps.getD 9 undef, a0.tmps.getD 10 undef, a0.tmps.getD 11 undef, a0.tmps.getD 12 undef, a0.tmps.getD 13 undef, a0.tmps.getD 14 undef, a0.tmps.getD 15 undef, a0.tmps.getD 16 undef, a0.tmps.getD 17 undef, a0.tmps.getD 18 undef, a0.tmps.getD 19 undef, a0.tmps.getD 20 undef, a0.tmps.getD 21 undef, a0.tmps.getD 22 undef, a0.tmps.getD 23 undef, a0.tmps.getD 24 undef, a0.tmps.getD 25 undef, a0.tmps.getD 26 undef, a0.tmps.getD 27 undef, a0.tmps.getD 28 undef, a0.tmps.getD 29 undef, a0.tmps.getD 30 undef, a0.tmps.getD 31 undef, a0.tmps.getD 32 undef, a0.tmps.getD 33 undef, a0.tmps.getD 34 undef, a0.tmps.getD 35 undef, a0.tmps.getD 36 undef, a0.tmps.getD 37 undef, a0.tmps.getD 38 undef, a0.tmps.getD 39 undef, a0.tmps.getD 40 undef, a0.tmps.getD 41 undef, a0.tmps.getD 42 undef, a0.tmps.getD 43 undef, a0.tmps.getD 44 undef, a0.tmps.getD 45 undef, a0.tmps.getD 46 undef, a0.tmps.getD 47 undef, a0.tmps.getD 48 undef, a0.tmps.getD 49 undef, a0.tmps.getD 50 undef, a0.tmps.getD 51 undef, a0.tmps.getD 52 undef, a0.tmps.getD 53 undef, a0.tmps.getD 54 undef, a0.tmps.getD 55 undef, a0.tmps.getD 56 undef, a0.tmps.getD 57 undef, a0.tmps.getD 58 undef, a0.tmps.getD 59 undef, a0.tmps.getD 60 undef, a0.tmps.getD 61 undef, a0.tmps.getD 62 undef, v63, v64, v65, v66, v67, v68, v69, v70, v71, v72, v73, v74, v75, v76, v77, v78, v79, v80, v81, a0.tmps.getD 82 undef]) (by rw [hb.size, hsz]; rfl) hdf' ⟨((hb.old 0 (by decide +kernel)).trans h0), (hb.old 1 (by decide +kernel)), (hb.old 2 (by decide +kernel)), (hb.old 3 (by decide +kernel)), ((hb.old 4 (by decide +kernel)).trans h4), (hb.old 5 (by decide +kernel)), (hb.old 6 (by decide +kernel)), (hb.old 7 (by decide +kernel)), (hb.old 8 (by decide +kernel)), (hb.old 9 (by decide +kernel)), (hb.old 10 (by decide +kernel)), (hb.old 11 (by decide +kernel)), (hb.old 12 (by decide +kernel)), (hb.old 13 (by decide +kernel)), (hb.old 14 (by decide +kernel)), (hb.old 15 (by decide +kernel)), (hb.old 16 (by decide +kernel)), (hb.old 17 (by decide +kernel)), (hb.old 18 (by decide +kernel)), (hb.old 19 (by decide +kernel)), (hb.old 20 (by decide +kernel)), (hb.old 21 (by decide +kernel)), (hb.old 22 (by decide +kernel)), (hb.old 23 (by decide +kernel)), (hb.old 24 (by decide +kernel)), (hb.old 25 (by decide +kernel)), (hb.old 26 (by decide +kernel)), (hb.old 27 (by decide +kernel)), (hb.old 28 (by decide +kernel)), (hb.old 29 (by decide +kernel)), (hb.old 30 (by decide +kernel)), (hb.old 31 (by decide +kernel)), (hb.old 32 (by decide +kernel)), (hb.old 33 (by decide +kernel)), (hb.old 34 (by decide +kernel)), (hb.old 35 (by decide +kernel)), (hb.old 36 (by decide +kernel)), (hb.old 37 (by decide +kernel)), (hb.old 38 (by decide +kernel)), (hb.old 39 (by decide +kernel)), (hb.old 40 (by decide +kernel)), (hb.old 41 (by decide +kernel)), (hb.old 42 (by decide +kernel)), (hb.old 43 (by decide +kernel)), (hb.old 44 (by decide +kernel)), (hb.old 45 (by decide +kernel)), (hb.old 46 (by decide +kernel)), (hb.old 47 (by decide +kernel)), (hb.old 48 (by decide +kernel)), (hb.old 49 (by decide +kernel)), (hb.old 50 (by decide +kernel)), (hb.old 51 (by decide +kernel)), (hb.old 52 (by decide +kernel)), (hb.old 53 (by decide +kernel)), (hb.old 54 (by decide +kernel)), (hb.old 55 (by decide +kernel)), (hb.old 56 (by decide +kernel)), (hb.old 57 (by decide +kernel)), (hb.old 58 (by decide +kernel)), (hb.old 59 (by decide +kernel)), (hb.old 60 (by decide +kernel)), (hb.old 61 (by decide +kernel)), (hb.old 62 (by decide +kernel)), hv63, hv64, hv65, hv66, hv67, hv68, hv69, hv70, hv71, hv72, hv73, hv74, hv75, hv76, hv77, hv78, hv79, hv80, hv81, (hb.old 82 (by decide +kernel)), trivial⟩
                  have HST : Hid (RmP w5 q g R1 R2 c w6) := hide (hs.2 rfl)
                  clear hall hb hf hs hv63 hv64 hv65 hv66 hv67 hv68 hv69 hv70 hv71 hv72 hv73 hv74 hv75 hv76 hv77 hv78 hv79 hv80 hv81
                  subst hfr
                  clear HA0 h0 h4 hsz hdf hdf'
                  apply_assumption
                  obtain ⟨lvz, hCz⟩ := dd_rm (unhide HD) (unhide HHz) (unhide HST)
                  have HCz := hide hCz
                  clear hCz HST
                  go_wp2_with fail
                  go_ret
                  rw [unhide HE2]
                  refine ⟨rfl, ?_⟩
                  have hd := (Dd.same (unhide HD0) (unhide HHM) (unhide HFZ))
                  rw [unhide HSP] at hd ⊢
                  exact ⟨_, _, lvz, R1 ++ R2, (hd.trans (unhide HC5)).trans (unhide HCz), rfl⟩
              · have hE : whE m = 77 := by unfold whE; rw [hfa]; rfl
                have hM : m.wr x.2.b x.2.P = m.one := by unfold Hm.wr; rw [hfa]; rfl
                have hcl : clP m x.2 = x.2 := by unfold clP; rw [hfa]; rfl
                have HE2 : Hid (rmR c m (R.map Prod.snd) = (77, R.map Prod.snd, m.one)) := hide (by rw [unhide HE, hfa]; rfl)
                rw [hE]
                rw [hM, hcl] at hC5
                have HC5 := hide hC5
                clear hC5 hfa hE hM hcl HHO HE
                go_wp2_with fail
                go_ret
                rw [unhide HE2]
                refine ⟨rfl, ?_⟩
                have hd := (Dd.same (unhide HD0) (unhide HHM) (unhide HFZ))
                rw [unhide HSP] at hd ⊢
                exact ⟨_, _, _, _, hd.trans (unhide HC5), rfl⟩
            · have hlz : lz x.2 = (x.2.last : Int) := by unfold lz; rw [hdy]; rfl
              have HLV : Hid (lvO c x.2 = false) := hide (by unfold lvO; rw [hdy]; simp [hls])
              rw [hdy] at p2
              rw [hlz] at p4
              have q1 : decide ((c.safe : Int) < (x.2.last : Int)) = true := by simp; omega
              have q2 : decide (c.safe < x.2.last) = true := by simp; omega
              clear hpi hdy hls hlz
              go_wp2_with fail
              go_quiet (fail)
              go_wp2_with fail
              go_roundw
              case rel => exact ⟨i + 1, _, by omega, by go_num, by rw [unhide HTS, List.all_append]; simp [unhide HQP], fun z hz => by
                rw [unhide HTS] at hz
                rcases List.mem_append.1 hz with h | h
                · rw [unhide HR1] at h; exact unhide HNO z h
                · rw [List.mem_singleton.1 h]; exact unhide HLV, hide (by rw [unhide HWK, World.drewN_drewN])⟩
              case measure => simp [intOf]; omega
      · have hie : N = i := by omega
        have htk : R.take i = R := by rw [← hie, unhide HN]; exact List.take_length
        have HE : Hid (rmR c m (R.map Prod.snd) = (if hd0 = true then 90 else 91, R.map Prod.snd, m)) := hide (by
          have hn := find_none (c := c) (R := R) (fun z hz => unhide HNO z (by rw [htk]; exact hz))
          unfold rmR; rw [if_neg (unhide HGE), hn]
          simp only [lvE'_map]
          have := unhide HAL
          rw [htk] at this
          unfold lvE; rw [this])
        have HFZ : Hid (Fr (fun _ => False) w wr) := hide (by rw [unhide HWK]; exact Fr.ofDrewN _ _)
        clear hDr hHr htk
        subst hie
        cases hd0
        · go_wp2_with fail
          go_ret
          rw [unhide HE]
          exact ⟨rfl, _, _, _, R, Dd.same (unhide HD0) (unhide HHM) (unhide HFZ), rfl⟩
        · go_wp2_with fail
          go_ret
          rw [unhide HE]
          exact ⟨rfl, _, _, _, R, Dd.same (unhide HD0) (unhide HHM) (unhide HFZ), rfl⟩
end
end Go.Proofs.Ytdgmlopaeonacaa
