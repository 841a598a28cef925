/-
  The document's cache: Clean and Flush.
-/
import Derived.Test.YtdgmlopaeonacaaM18
namespace Go.Proofs.Ytdgmlopaeonacaa
set_option linter.unusedVariables false
set_option linter.unusedSimpArgs false
open Go.RowKit
set_option linter.unusedVariables false
set_option linter.unusedSimpArgs false

attribute [local go_sem ↓] Go.wp_at_zero Go.wp_at_succ

/-- Under way: what is still to come leads to the same end. -/
structure DlI [Av] (w W : World) (q g : Nat) (dv lg lv : Value) (R : List (Nat × Pl)) (c : Ca) (m : Hm) (most : Int) (S : List (Nat × Pl)) (v : Value) (t : Nat × Int × Hm × List Pl) (i n : Nat) (lg' : Value) (vs' : List Value) (R' : List (Nat × Pl)) (m' : Hm) : Prop where
  cl : clR c most ((S.drop i).map Prod.snd) n m' (R'.map Prod.snd) = t
  sub : ∀ y ∈ S.drop i, y ∈ R'
  out : OutV W v S
  kn : ∀ b, v.ownBlock = some b → w.heap.size ≤ b ∧ knd W b = 95
  cs : Dd w W q g dv lg lv R lg' vs' lv R' c m'
  calls : m'.calls ≤ m.calls + i
  len : m'.D.length = m.D.length
  bn : (R'.map fun y => y.2.b).Nodup

section
variable {w W W' : World} {q g : Nat} {dv lg lv : Value} {R : List (Nat × Pl)} {c : Ca} {m : Hm} {most : Int} {S : List (Nat × Pl)} {v : Value} {t : Nat × Int × Hm × List Pl} {i n : Nat} {lg' : Value} {vs' : List Value} {R' : List (Nat × Pl)} {m' : Hm}
theorem OutV.keptS {T : Nat → Prop} (h : OutV W v S) (f : Fr T W W') (hT : ∀ b, v.ownBlock = some b → ¬ T b) : OutV W' v S := by
  rcases h with h | ⟨gl, cap, rfl, h2, h3⟩
  · exact .inl h
  · exact .inr ⟨gl, cap, rfl, h2, fun j hj => by rw [f.cell (World.block_lt_of_cell? _ _ (h3 j hj)) (hT gl rfl)]; exact h3 j hj⟩
theorem DlI.fr [Av] (I : DlI w W q g dv lg lv R c m most S v t i n lg' vs' R' m') (f : Fr (fun _ => False) W W') : DlI w W' q g dv lg lv R c m most S v t i n lg' vs' R' m' :=
  ⟨I.cl, I.sub, I.out.kept f, fun b hb => ⟨(I.kn b hb).1, knd_fr f (I.kn b hb).2 (by decide)⟩, I.cs.trans (Dd.same I.cs.d I.cs.hh f), I.calls, I.len, I.bn⟩
/-- The list's own block is none of the cache's. -/
theorem DlI.off [Av] (I : DlI w W q g dv lg lv R c m most S v t i n lg' vs' R' m') (hl : ∀ k, lv.ownBlock = some k → k < w.heap.size) : ∀ b, v.ownBlock = some b → ¬ (HB g dv lg' b ∨ DB q lv R' b) := fun b hb e => by
  obtain ⟨h1, h2⟩ := I.kn b hb
  rcases e with e | e | e | e
  · rcases I.cs.hh.knds e with h3 | h3 | h3 <;> rw [h2] at h3 <;> exact absurd h3 (by decide)
  · rw [e, knd_cells I.cs.d.heap] at h2; exact absurd h2 (by decide)
  · have := hl b e; omega
  · rcases I.cs.d.knds (.inr (.inr e)) with h3 | h3 | h3
    · rw [h2] at h3; exact absurd h3 (by decide)
    · obtain ⟨x, hx, rfl⟩ := List.mem_map.1 e
      obtain ⟨pv, hp⟩ := I.cs.d.pl x hx
      rw [knd_cells hp.1] at h2; exact absurd h2 (by decide)
    · rw [h2] at h3; exact absurd h3 (by decide)
end

section
variable (w : World) (q g : Nat) (dv lg lv : Value) (vs : List Value) (R : List (Nat × Pl)) (c : Ca) (m : Hm)

set_option maxRecDepth 100000 in
set_option maxHeartbeats 4000000 in
theorem dclean_any [Av] (most : Int) (hR : R.length ≤ 4096) (hbn : (R.map fun y => y.2.b).Nodup) (H : DAt w q g lv R c) (HH : HAtG w g dv lg vs m) (hD : ∀ y ∈ R, y.2.b < (m.D.length : Int)) (hc : m.calls + R.length < 1000000000) : Calls Try.prog 36 #[ptr q, .int .i64 most] w fun e w' => e = .returned (.tuple #[.int .i64 ((clR c most (srtL (R.map Prod.snd)) 0 m (R.map Prod.snd)).1 : Int), .int .i64 (clR c most (srtL (R.map Prod.snd)) 0 m (R.map Prod.snd)).2.1]) ∧
    Dp w w' q g dv lg lv R c (clR c most (srtL (R.map Prod.snd)) 0 m (R.map Prod.snd)).2.2.1 (clR c most (srtL (R.map Prod.snd)) 0 m (R.map Prod.snd)).2.2.2 := by
  have HRS := hide (rising_any w q g lv R c hR hbn H)
  rw [← srt_map R]
  obtain ⟨S, hS⟩ : ∃ S, S = srtP (dty R) := ⟨_, rfl⟩
  have hSb : (S.map fun q => q.2.b).Nodup := by rw [hS]; exact ((srtP_perm _).map _).nodup_iff.2 ((List.filter_sublist.map _).nodup hbn)
  have hSR : ∀ y ∈ S, y ∈ R ∧ y.2.dirty = true := fun y hy => by rw [hS] at hy; exact List.mem_filter.1 ((srtP_perm _).mem_iff.1 hy)
  have hSl : S.length ≤ R.length := by rw [hS, (srtP_perm _).length_eq]; exact List.length_filter_le _ _
  rw [← hS] at HRS ⊢
  obtain ⟨N, hN⟩ : ∃ N, N = S.length := ⟨_, rfl⟩
  obtain ⟨t, ht⟩ : ∃ t, t = clR c most (S.map Prod.snd) 0 m (R.map Prod.snd) := ⟨_, rfl⟩
  rw [← ht]
  have HT := hide ht
  have HD := hide H
  have HHM := hide HH
  have HDD := hide hD
  have HC := hide hc
  have HSB := hide hSb
  have HSR := hide hSR
  have HSL := hide hSl
  have HNN := hide hN
  have HBN := hide hbn
  have HLL : Hid (∀ k, lv.ownBlock = some k → k < w.heap.size) := hide (fun k hk => knd_lt (by rw [knd_owns H.row hk]; decide))
  have hN6 : N ≤ 4096 := by omega
  clear H HH hD hc hS hSb hSR hSl hN ht hbn hR
  unfold ptr at *
  go_enter Try.func36, Try.ntmps36
  go_wp2_with fail
  refine (unhide HRS).mono ?_
  rintro e w1 ⟨⟨v, rfl, hO, hkb⟩, f1⟩
  obtain ⟨ao, cc, hv⟩ : ∃ ao cc, v = .slice ao N cc := by
    rcases hO with ⟨h1, h2⟩ | ⟨gl, cap, h1, -⟩
    · exact ⟨none, 0, by rw [h2, unhide HNN, h1]; rfl⟩
    · exact ⟨_, _, by rw [h1, ← unhide HNN]⟩
  subst hv
  have HI0 : Hid (DlI w w1 q g dv lg lv R c m most S (.slice ao N cc) t 0 0 lg vs R m) := hide ⟨by rw [List.drop_zero]; exact (unhide HT).symm, fun y hy => (unhide HSR y (List.mem_of_mem_drop hy)).1, hO, hkb, Dd.same (unhide HD) (unhide HHM) f1, Nat.le_refl _, rfl, unhide HBN⟩
  clear hO hkb f1 HRS
  go_wp2_with fail
  go_loopw [8, 7] (fun x y W => ∃ (i n : Nat) (lg' : Value) (vs' : List Value) (R' : List (Nat × Pl)) (m' : Hm), x = .int .i64 (i : Int) ∧ y = .int .i64 (n : Int) ∧ i ≤ N ∧ n ≤ i ∧ DlI w W q g dv lg lv R c m most S (.slice ao N cc) t i n lg' vs' R' m') (fun x _ _ => N - (intOf x).toNat)
  case atStart => exact ⟨0, 0, lg, vs, R, m, rfl, rfl, Nat.zero_le _, Nat.le_refl _, unhide HI0⟩
  case round =>
    obtain ⟨i, n, lg', vs', R', m', rfl, rfl, hi, hni, I⟩ := hrel
    have HI := hide I
    rcases Nat.lt_or_ge i N with hlt | hge
    · have hiS : i < S.length := by rw [← unhide HNN]; exact hlt
      obtain ⟨gl, cap, hov, hcap, hoc⟩ := I.out.resolve_left (fun e => by have := e.1; rw [this] at hiS; simp at hiS)
      simp only [Value.slice.injEq] at hov
      obtain ⟨rfl, -, rfl⟩ := hov
      have yc := hoc i hiS
      obtain ⟨y, hy⟩ : ∃ y, y = S[i] := ⟨_, rfl⟩
      have hdr : S.drop i = y :: S.drop (i + 1) := by rw [hy, List.getElem_cons_drop]
      rw [← hy] at yc
      have hyR : y ∈ R' := I.sub y (by rw [hdr]; simp)
      have hyS : y ∈ S := by rw [hy]; exact List.getElem_mem hiS
      have hic : i < cc := by have := unhide HNN; omega
      obtain ⟨pv, hp⟩ := I.cs.d.pl y hyR
      obtain ⟨-, -, -, -, p4, -⟩ := hp.cells
      have hlz : lz y.2 = (y.2.last : Int) := by unfold lz; rw [(unhide HSR y hyS).2]; rfl
      rw [hlz] at p4
      obtain ⟨-, -, -, c3, -⟩ := I.cs.d.cells
      have hcl := I.cl
      rw [hdr, List.map_cons] at hcl
      have HCL := hide hcl
      have HDR := hide hdr
      have HYR := hide hyR
      have HYS := hide hyS
      unfold ptr at yc
      clear I hoc hcap hy hdr hyR hyS hp hlz hcl hiS
      by_cases hm : most ≤ (n : Int)
      · have bm : decide ((n : Int) < most) = false := by simpa using hm
        have HM := hide hm
        clear hm
        go_wp2_with fail
        go_ret2
        have hcl := unhide HCL
        rw [clR, if_pos (unhide HM)] at hcl
        rw [← hcl]
        exact ⟨rfl, _, _, _, _, (unhide HI).cs, rfl⟩
      · have bm : decide ((n : Int) < most) = true := by simp; omega
        have HM := hide hm
        clear hm
        by_cases hl : y.2.last ≤ c.safe
        · have q1 : decide ((c.safe : Int) < (y.2.last : Int)) = false := by simp; omega
          have q1n : decide (c.safe < y.2.last) = false := by simp; omega
          obtain ⟨R1, R2, hR'⟩ := List.append_of_mem (unhide HYR)
          have HL := hide hl
          subst hR'
          have hbb : y.2.b < (m'.D.length : Int) := by rw [(unhide HI).len]; exact unhide HDD _ (unhide HSR y (unhide HYS)).1
          have hcc : m'.calls < 1000000000 := by have h1 := (unhide HI).calls; have h2 := unhide HC; have h3 := unhide HSL; have h4 := unhide HNN; omega
          have HBB := hide hbb
          have HCC := hide hcc
          clear hl hbb hcc
          go_wp2_with fail
          go_quiet (fail)
          apply_assumption
          refine wp_world ?_
          intro wz hwz
          have fz0 : Fr (fun _ => False) wr wz := by rw [hwz]; exact Fr.ofDrewN _ _
          have hI2 := (unhide HI).fr fz0
          have ycz := (fz0.cell (World.block_lt_of_cell? _ _ yc) id).trans yc
          have HHO := hide (dhome_any wz q g dv lg' lv vs' R1 R2 y c m' hI2.cs.d hI2.cs.hh (unhide HBB) (unhide HCC))
          have HI2 := hide hI2
          unfold ptr at HHO
          clear hwz fz0 hI2 yc p4 c3
          rcases hfa : m'.fa with _ | _
          · have hE : whE m' = 0 := by unfold whE; rw [hfa]; rfl
            have hM : m'.wr y.2.b y.2.P = m'.put y.2.b.toNat y.2.P := by unfold Hm.wr; rw [hfa]; rfl
            have hC : clP m' y.2 = { y.2 with dirty := false } := by unfold clP; rw [hfa]; rfl
            rw [hE, hM, hC] at HHO
            have HFA := hide hfa
            clear hfa hE hM hC
            go_wp2_with fail
            refine (unhide HHO).mono ?_
            rintro e w5 ⟨rfl, lg5, vs5, hC5⟩
            have hoff := (unhide HI2).off (unhide HLL)
            have HI5 : Hid (DlI w w5 q g dv lg lv R c m most S (.slice (some ⟨gl, 0, none⟩) N cc) t (i + 1) (n + 1) lg5 vs5 (R1 ++ (y.1, { y.2 with dirty := false }) :: R2) (m'.put y.2.b.toNat y.2.P)) := hide ⟨by
                have hcl := unhide HCL
                rw [clR, if_neg (Int.not_le.2 (unhide HM)), if_pos (unhide HL), if_neg (by rw [unhide HFA]; decide), cln_mid (R1 := R1) (a := y.1) (x := y.2) (unhide HI2).bn] at hcl
                exact hcl, fun x hx => by
                have h1 := (unhide HI2).sub x (by rw [unhide HDR]; exact List.mem_cons_of_mem _ hx)
                have h2 : x ≠ y := fun e => by
                  have h3 := ((List.drop_sublist i S).map (fun q : Nat × Pl => q.2.b)).nodup (unhide HSB)
                  rw [unhide HDR, List.map_cons, List.nodup_cons] at h3
                  exact h3.1 (List.mem_map.2 ⟨x, hx, by rw [e]⟩)
                simp only [List.mem_append, List.mem_cons] at h1 ⊢
                rcases h1 with h1 | h1 | h1
                · exact .inl h1
                · exact absurd h1 h2
                · exact .inr (.inr h1), (unhide HI2).out.keptS hC5.f hoff, fun b hb => by
                obtain ⟨h0, h1⟩ := (unhide HI2).kn b hb
                have h2 := hC5.f.block b (knd_lt (by rw [h1]; decide)) (hoff b hb)
                refine ⟨h0, ?_⟩
                unfold knd at h1 ⊢
                rw [h2]; exact h1, (unhide HI2).cs.trans hC5, by have := (unhide HI2).calls; show m'.calls + 1 ≤ _; omega, by have := (unhide HI2).len; simpa [Hm.put] using this, by
                have := (unhide HI2).bn
                simpa using this⟩
            clear hC5 hoff HHO
            go_wp2_with fail
            go_roundw
            case rel => exact ⟨i + 1, n + 1, lg5, vs5, _, _, by simp, by simp, by omega, by omega, unhide HI5⟩
            case measure => simp [intOf]; omega
          · have hE : whE m' = 77 := by unfold whE; rw [hfa]; rfl
            have hM : m'.wr y.2.b y.2.P = m'.one := by unfold Hm.wr; rw [hfa]; rfl
            have hC : clP m' y.2 = y.2 := by unfold clP; rw [hfa]; rfl
            rw [hE, hM, hC] at HHO
            have HFA := hide hfa
            clear hfa hE hM hC
            go_wp2_with fail
            refine (unhide HHO).mono ?_
            rintro e w5 ⟨rfl, lg5, vs5, hC5⟩
            have HC5 := hide hC5
            clear hC5 HHO
            go_wp2_with fail
            go_ret2
            have hcl := unhide HCL
            rw [clR, if_neg (Int.not_le.2 (unhide HM)), if_pos (unhide HL), if_pos (unhide HFA)] at hcl
            rw [← hcl]
            exact ⟨rfl, _, _, _, _, (unhide HI2).cs.trans (unhide HC5), rfl⟩
        · have q1 : decide ((c.safe : Int) < (y.2.last : Int)) = true := by simp; omega
          have q1n : decide (c.safe < y.2.last) = true := by simp; omega
          have HI3 : Hid (DlI w wr q g dv lg lv R c m most S (.slice (some ⟨gl, 0, none⟩) N cc) t (i + 1) n lg' vs' R' m') := hide ⟨by
            have hcl := unhide HCL
            rw [clR, if_neg (unhide HM), if_neg hl] at hcl
            exact hcl, fun x hx => (unhide HI).sub x (by rw [unhide HDR]; exact List.mem_cons_of_mem _ hx), (unhide HI).out, (unhide HI).kn, (unhide HI).cs, by have := (unhide HI).calls; omega, (unhide HI).len, (unhide HI).bn⟩
          clear hl
          go_wp2_with fail
          go_quiet (fail)
          go_wp2_with fail
          go_roundw
          case rel => exact ⟨i + 1, n, lg', vs', R', m', by simp, rfl, by omega, by omega, (unhide HI3).fr (Fr.ofDrewN _ _)⟩
          case measure => simp [intOf]; omega
    · have e : i = N := by omega
      subst e
      have qi : decide (i < i) = false := by simp
      clear hge I
      go_wp2_with fail
      go_ret2
      have hcl := (unhide HI).cl
      rw [List.drop_of_length_le (by rw [← unhide HNN]; exact Nat.le_refl _), List.map_nil, clR] at hcl
      rw [← hcl]
      exact ⟨rfl, _, _, _, _, (unhide HI).cs, rfl⟩

set_option maxRecDepth 100000 in
set_option maxHeartbeats 2000000 in
theorem dflush_any [Av] (hR : R.length ≤ 4096) (hbn : (R.map fun y => y.2.b).Nodup) (H : DAt w q g lv R c) (HH : HAtG w g dv lg vs m) (hD : ∀ y ∈ R, y.2.b < (m.D.length : Int)) (hc : m.calls + R.length < 999999990) : Calls Try.prog 37 #[ptr q] w fun e w' => e = .returned (.int .i64 (flR c m (R.map Prod.snd)).1) ∧ Dp w w' q g dv lg lv R c (flR c m (R.map Prod.snd)).2.1 (flR c m (R.map Prod.snd)).2.2 := by
  have HCL := hide (dclean_any w q g dv lg lv vs R c m (R.length : Int) hR hbn H HH hD (by omega))
  obtain ⟨-, -, c2, -⟩ := H.cells
  obtain ⟨la, lc, rfl⟩ := H.shape
  have hfl : flR c m (R.map Prod.snd) = if (clR c (R.length : Int) (srtL (R.map Prod.snd)) 0 m (R.map Prod.snd)).2.1 = 0 then
    (if (clR c (R.length : Int) (srtL (R.map Prod.snd)) 0 m (R.map Prod.snd)).2.2.1.fa = true then 77 else if (oldR (clR c (R.length : Int) (srtL (R.map Prod.snd)) 0 m (R.map Prod.snd)).2.2.2).2 = true then 91 else 0, (clR c (R.length : Int) (srtL (R.map Prod.snd)) 0 m (R.map Prod.snd)).2.2.1.one, (clR c (R.length : Int) (srtL (R.map Prod.snd)) 0 m (R.map Prod.snd)).2.2.2)
    else ((clR c (R.length : Int) (srtL (R.map Prod.snd)) 0 m (R.map Prod.snd)).2.1, (clR c (R.length : Int) (srtL (R.map Prod.snd)) 0 m (R.map Prod.snd)).2.2.1, (clR c (R.length : Int) (srtL (R.map Prod.snd)) 0 m (R.map Prod.snd)).2.2.2) := by
    unfold flR; simp only [List.length_map]
  have hcf := cl_facts c (R.length : Int) (srtL (R.map Prod.snd)) 0 m (R.map Prod.snd)
  have hbl : (clR c (R.length : Int) (srtL (R.map Prod.snd)) 0 m (R.map Prod.snd)).2.2.2.map (·.b) = (R.map Prod.snd).map (·.b) := hcf.2.2.2
  have hll : (srtL (R.map Prod.snd)).length ≤ R.length := by have := srtL_len (R.map Prod.snd); simpa using this
  obtain ⟨N, hN⟩ : ∃ N, N = R.length := ⟨_, rfl⟩
  have HBL : Hid ((clR c (R.length : Int) (srtL (R.map Prod.snd)) 0 m (R.map Prod.snd)).2.2.2.map (·.b) = R.map fun y => y.2.b) := hide (by rw [hbl, List.map_map]; rfl)
  have HBN := hide hbn
  have HMC : Hid ((clR c (R.length : Int) (srtL (R.map Prod.snd)) 0 m (R.map Prod.snd)).2.2.1.calls < 1000000000) := hide (by have := hcf.2.1; omega)
  obtain ⟨F, hF⟩ : ∃ F, F = flR c m (R.map Prod.snd) := ⟨_, rfl⟩
  rw [← hF]
  rw [hfl] at hF
  have HFE := hide hF
  rw [← hN] at HCL HBL HMC HFE c2 hR ⊢
  generalize clR c (N : Int) (srtL (R.map Prod.snd)) 0 m (R.map Prod.snd) = t at *
  have HNN := hide hN
  obtain ⟨tn, te, tm, tl⟩ := t
  dsimp only at *
  clear H HH hD hc hfl hcf hll hN hbn hbl hF
  unfold ptr at *
  go_enter Try.func37, Try.ntmps37
  go_wp2_with fail
  refine (unhide HCL).mono ?_
  rintro e w1 ⟨rfl, lg1, vs1, lv1, R1, hC1, hl1⟩
  have hb1 : (R1.map fun y => y.2.b).Nodup := by
    have h1 := unhide HBL
    rw [← hl1, List.map_map] at h1
    have h2 : (R1.map fun y => y.2.b) = R.map fun y => y.2.b := h1
    rw [h2]; exact unhide HBN
  have hR1 : R1.length ≤ 4096 := by
    have h1 := congrArg List.length (unhide HBL)
    rw [← hl1] at h1
    simp at h1
    have := unhide HNN
    omega
  have HC1 := hide hC1
  have HL1 := hide hl1
  have HB1 := hide hb1
  have HR1 := hide hR1
  by_cases hte : te = 0
  · subst hte
    rw [if_pos rfl] at HFE
    have HFL := hide (hflushG_any w1 g dv lg1 vs1 tm hC1.hh (unhide HMC))
    obtain ⟨d0, -⟩ := hC1.d.cells
    unfold ptr at *
    clear hC1 hl1 hb1 hR1 HCL
    rcases hfa : tm.fa with _ | _
    · rw [hfa] at HFL
      rw [if_neg (by decide)] at HFL
      rw [hfa, if_neg (by decide)] at HFE
      clear hfa
      go_wp2_with fail
      refine (unhide HFL).mono ?_
      rintro e w2 ⟨rfl, hH2, f2⟩
      have hC2 := (unhide HC1).trans (Dd.home (unhide HC1).d (unhide HC1).hh hH2 (fun _ e => .inl e) (f2.mono (fun _ _ e => .inl e)))
      have HRS := hide (rising_any w2 q g lv1 R1 c (unhide HR1) (unhide HB1) hC2.d)
      have HC2 := hide hC2
      unfold ptr at *
      clear hC2 hH2 f2 HFL
      go_wp2_with fail
      refine (unhide HRS).mono ?_
      rintro e w3 ⟨⟨v, rfl, hO, -⟩, f3⟩
      have hod : (oldR tl).2 = decide (0 < (srtP (dty R1)).length) := by
        unfold oldR
        rw [← unhide HL1, ← srt_map R1]
        cases srtP (dty R1) <;> simp
      obtain ⟨M, hM⟩ : ∃ M, M = (srtP (dty R1)).length := ⟨_, rfl⟩
      obtain ⟨ao, cc, hv⟩ : ∃ ao cc, v = .slice ao M cc := by
        rcases hO with ⟨h1, h2⟩ | ⟨gl, cap, h1, -⟩
        · exact ⟨none, 0, by rw [h2, hM, h1]; rfl⟩
        · exact ⟨_, _, by rw [h1, ← hM]⟩
      rw [← hM] at hod
      subst hv
      rw [hod] at HFE
      have HC3 := hide ((unhide HC2).trans (Dd.same (unhide HC2).d (unhide HC2).hh f3))
      clear hO f3 HRS hod hM
      by_cases h0 : 0 < M
      · have q0 : decide ((0 : Int) < (M : Int)) = true := by simpa using h0
        have q0n : decide (0 < M) = true := by simpa using h0
        have HH0 := hide h0
        clear h0
        go_wp2_with fail
        go_ret
        have hF := unhide HFE
        rw [if_pos (by simpa using unhide HH0)] at hF
        rw [hF]
        exact ⟨rfl, _, _, _, _, unhide HC3, unhide HL1⟩
      · obtain rfl : M = 0 := by omega
        clear h0
        go_wp2_with fail
        go_ret
        have hF := unhide HFE
        rw [if_neg (by simp)] at hF
        rw [hF]
        exact ⟨rfl, _, _, _, _, unhide HC3, unhide HL1⟩
    · rw [hfa] at HFL
      rw [if_pos rfl] at HFL
      rw [hfa, if_pos rfl] at HFE
      clear hfa
      go_wp2_with fail
      refine (unhide HFL).mono ?_
      rintro e w2 ⟨rfl, hH2, f2⟩
      have HC2 := hide ((unhide HC1).trans (Dd.home (unhide HC1).d (unhide HC1).hh hH2 (fun _ e => .inl e) (f2.mono (fun _ _ e => .inl e))))
      clear hH2 f2 HFL
      go_wp2_with fail
      go_ret
      rw [unhide HFE]
      exact ⟨rfl, _, _, _, _, unhide HC2, unhide HL1⟩
  · have qe : (te != 0) = true := by simpa using hte
    rw [if_neg hte] at HFE
    clear hC1 hl1 hb1 hR1 HCL hte
    go_wp2_with fail
    go_ret
    rw [unhide HFE]
    exact ⟨rfl, _, _, _, _, unhide HC1, unhide HL1⟩
end
end Go.Proofs.Ytdgmlopaeonacaa
