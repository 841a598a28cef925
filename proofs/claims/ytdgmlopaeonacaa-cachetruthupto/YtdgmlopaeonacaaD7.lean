/-
  The cache's Clean.
-/
import Derived.Test.YtdgmlopaeonacaaD6
namespace Go.Proofs.Ytdgmlopaeonacaa
open Go.RowKit
set_option linter.unusedVariables false

attribute [local go_sem ↓] Go.wp_at_zero Go.wp_at_succ

/-- A block is no longer dirty. -/
def cln (l : List Pl) (b : Int) : List Pl := l.map fun y => if y.b = b then { y with dirty := false } else y
/-- Cleaning, plainly: how many, the answer, the home, the blocks. -/
def clR (c : Ca) (most : Int) : List Pl → Nat → Hm → List Pl → Nat × Int × Hm × List Pl
  | [], n, m, l => (n, 0, m, l)
  | x :: S, n, m, l => if most ≤ (n : Int) then (n, 0, m, l) else if x.last ≤ c.safe then (if m.fa = true then (n, 77, m.one, l) else clR c most S (n + 1) (m.put x.b.toNat x.P) (cln l x.b)) else clR c most S n m l

theorem cln_mid {R1 R2 : List (Nat × Pl)} {a : Nat} {x : Pl} (h : ((R1 ++ (a, x) :: R2).map fun q => q.2.b).Nodup) : cln ((R1 ++ (a, x) :: R2).map Prod.snd) x.b = (R1 ++ (a, { x with dirty := false }) :: R2).map Prod.snd := by
  rw [List.map_append, List.map_cons, List.nodup_append] at h
  obtain ⟨h1, h2, h3⟩ := h
  rw [List.nodup_cons] at h2
  have e1 : ∀ q ∈ R1, q.2.b ≠ x.b := fun q hq => h3 _ (List.mem_map.2 ⟨q, hq, rfl⟩) _ (by simp)
  have e2 : ∀ q ∈ R2, q.2.b ≠ x.b := fun q hq e => h2.1 (List.mem_map.2 ⟨q, hq, e⟩)
  simp only [cln, List.map_append, List.map_cons, List.map_map]
  congr 1
  · exact List.map_congr_left fun q hq => by simp [e1 q hq]
  · congr 1
    exact List.map_congr_left fun q hq => by simp [e2 q hq]

/-- Where Clean stands, ahead of round i. -/
structure ClI (w W : World) (p h r u : Nat) (dv lv : Value) (R : List (Nat × Pl)) (c : Ca) (m : Hm) (most : Int) (S : List (Nat × Pl)) (v : Value) (t : Nat × Int × Hm × List Pl) (i n : Nat) (lv' : Value) (vs' : List Value) (L' : List (Int × Nat)) (R' : List (Nat × Pl)) (m' : Hm) : Prop where
  cl : clR c most ((S.drop i).map Prod.snd) n m' (R'.map Prod.snd) = t
  sub : ∀ q ∈ S.drop i, q ∈ R'
  rd : RdV W v (pvs S)
  kn : ∀ b, v.ownBlock = some b → knd W b = 75
  cs : Cs w W p h r u dv lv R lv' vs' L' R' c m'
  calls : m'.calls ≤ m.calls + i
  len : m'.D.length = m.D.length

section
variable (w : World) (p h r u : Nat) (L : List (Int × Nat)) (R : List (Nat × Pl)) (c : Ca) (dv lv : Value) (vs : List Value) (m : Hm)

set_option maxRecDepth 100000 in
set_option maxHeartbeats 2000000 in
theorem clean_any (most : Int) (H : KAt w p h r u L R c) (HH : HAt w h dv lv vs m) (hD : ∀ q ∈ R, q.2.b < (m.D.length : Int)) (hc : m.calls + R.length < 1000000000) (hRl : R.length ≤ 1000000) : Calls Try.prog 27 #[ptr p, .int .i64 most] w fun e w' => e = .returned (.tuple #[.int .i64 ((clR c most (srtL (R.map Prod.snd)) 0 m (R.map Prod.snd)).1 : Int), .int .i64 (clR c most (srtL (R.map Prod.snd)) 0 m (R.map Prod.snd)).2.1]) ∧
    Cp w w' p h r u dv lv R c (clR c most (srtL (R.map Prod.snd)) 0 m (R.map Prod.snd)).2.2.1 (clR c most (srtL (R.map Prod.snd)) 0 m (R.map Prod.snd)).2.2.2 := by
  have HDB := hide (dirty_any w p h r u L R c sort_ok hRl H.bn H)
  have HNO := hide (none_any w p h r u L R c H)
  rw [← srt_map R]
  obtain ⟨S, hS⟩ : ∃ S, S = srtP (dty R) := ⟨_, rfl⟩
  have hSb : (S.map fun q => q.2.b).Nodup := by rw [hS]; exact ((srtP_perm _).map _).nodup_iff.2 ((List.filter_sublist.map _).nodup H.bn)
  have hSR : ∀ q ∈ S, q ∈ R := fun q hq => by rw [hS] at hq; exact (List.mem_filter.1 ((srtP_perm _).mem_iff.1 hq)).1
  have hSl : S.length = (dty R).length := by rw [hS]; exact (srtP_perm _).length_eq
  have hNR : (dty R).length ≤ R.length := List.length_filter_le _ _
  rw [← hS] at HDB ⊢
  obtain ⟨N, hN⟩ : ∃ N, N = (dty R).length := ⟨_, rfl⟩
  rw [← hN] at HDB hSl hNR
  obtain ⟨t, ht⟩ : ∃ t, t = clR c most (S.map Prod.snd) 0 m (R.map Prod.snd) := ⟨_, rfl⟩
  rw [← ht]
  have HT := hide ht
  have HK := hide H
  have HHH := hide HH
  have HDD := hide hD
  have HC := hide hc
  have HSB := hide hSb
  have HSR := hide hSR
  have HSL := hide hSl
  have HNR := hide hNR
  have hN6 : N ≤ 1000000 := by omega
  clear H HH hD hc hRl hS hSb hSR hSl hNR hN ht
  unfold ptr at *
  go_enter Try.func27, Try.ntmps27
  go_wp2_with fail
  refine (unhide HNO).mono ?_
  rintro e w' ⟨rfl, rfl⟩
  go_wp2_with fail
  refine (unhide HDB).mono ?_
  rintro e w1 ⟨⟨ao, cc, rfl, hV, hkb⟩, f1⟩
  have HI0 : Hid (ClI w w1 p h r u dv lv R c m most S (.slice ao N cc) t 0 0 lv vs L R m) := hide ⟨by rw [List.drop_zero]; exact (unhide HT).symm, fun q hq => unhide HSR q (List.mem_of_mem_drop hq), hV, fun b hb => (hkb b hb).1, Cs.same (unhide HK) (unhide HHH) f1, Nat.le_refl _, rfl⟩
  clear hV hkb f1 HDB HNO
  go_wp2_with fail
  go_loopw [15, 6] (fun x y W => ∃ (i n : Nat) (lv' : Value) (vs' : List Value) (L' : List (Int × Nat)) (R' : List (Nat × Pl)) (m' : Hm), x = .int .i64 (i : Int) ∧ y = .int .i64 (n : Int) ∧ i ≤ N ∧ n ≤ i ∧ ClI w W p h r u dv lv R c m most S (.slice ao N cc) t i n lv' vs' L' R' m') (fun x _ _ => N - (intOf x).toNat)
  case atStart => exact ⟨0, 0, lv, vs, L, R, m, rfl, rfl, Nat.zero_le _, Nat.le_refl _, unhide HI0⟩
  case round =>
    obtain ⟨i, n, lv', vs', L', R', m', rfl, rfl, hi, hni, I⟩ := hrel
    have HI := hide I
    rcases Nat.lt_or_ge i N with hlt | hge
    · have hiS : i < S.length := by rw [unhide HSL]; exact hlt
      obtain ⟨b1, o1, rfl, -, -, -, c1⟩ := I.rd.lits (by rw [pvs_length]; omega)
      have k1 := c1 i (by rw [pvs_length]; exact hiS)
      obtain ⟨q, hq⟩ : ∃ q, q = S[i] := ⟨_, rfl⟩
      have hdr : S.drop i = q :: S.drop (i + 1) := by rw [hq, List.getElem_cons_drop]
      simp only [pvs, List.getElem_map, ← hq] at k1
      have hqR : q ∈ R' := I.sub q (by rw [hdr]; simp)
      have hcl := I.cl
      rw [hdr, List.map_cons] at hcl
      have HCL := hide hcl
      have HDR := hide hdr
      have HQR := hide hqR
      have HMY := hide (may_any wr p h r u L' R' c q hqR I.cs.k)
      unfold ptr at *
      clear I c1 hq hdr hqR hcl
      by_cases hm : most ≤ (n : Int)
      · have bm : decide (most ≤ (n : Int)) = true := by simpa using hm
        have HM := hide hm
        clear hm
        go_wp2_with fail
        go_ret2
        have hcl := unhide HCL
        rw [clR, if_pos (unhide HM)] at hcl
        rw [← hcl]
        exact ⟨rfl, (unhide HI).cs.cp rfl⟩
      · have bm : decide (most ≤ (n : Int)) = false := by simpa using hm
        have HM := hide hm
        clear hm
        go_wp2_with fail
        refine (unhide HMY).mono ?_
        rintro e w2 ⟨rfl, n2, rfl⟩
        have fd : Fr (fun _ => False) wr (wr.drewN n2) := Fr.ofDrewN _ _
        have HI2 : Hid (ClI w (wr.drewN n2) p h r u dv lv R c m most S (.slice (some ⟨b1, o1, none⟩) N cc) t i n lv' vs' L' R' m') := hide ⟨(unhide HI).cl, (unhide HI).sub, (unhide HI).rd.kept fd (fun _ _ e => e), fun b hb => knd_keep ((unhide HI).kn b hb) (by decide) fd, (unhide HI).cs.trans (Cs.same (unhide HI).cs.k (unhide HI).cs.hh fd), (unhide HI).calls, (unhide HI).len⟩
        clear fd HMY
        by_cases hl : q.2.last ≤ c.safe
        · have bl : decide (q.2.last ≤ c.safe) = true := by simpa using hl
          obtain ⟨R1, R2, hR'⟩ := List.append_of_mem (unhide HQR)
          have HL := hide hl
          obtain ⟨qa, qx⟩ := q
          dsimp only at *
          subst hR'
          have hqR : (qa, qx) ∈ R := unhide HSR _ (List.mem_of_mem_drop (by rw [unhide HDR]; simp : (qa, qx) ∈ S.drop i))
          have hcc : m'.calls < 1000000000 := by have h1 := (unhide HI2).calls; have h2 := unhide HC; have h3 := unhide HNR; omega
          have HWH := hide (whome_any (wr.drewN n2) p h r u L' c dv lv' vs' m' R1 R2 qa qx (unhide HI2).cs.k (unhide HI2).cs.hh (by rw [(unhide HI2).len]; exact unhide HDD _ hqR) hcc)
          unfold ptr at HWH
          clear hl hqR hcc
          rcases hfa : m'.fa with _ | _
          · have hE : whE m' = 0 := by unfold whE; rw [hfa]; rfl
            have hM : m'.wr qx.b qx.P = m'.put qx.b.toNat qx.P := by unfold Hm.wr; rw [hfa]; rfl
            have hC : clP m' qx = { qx with dirty := false } := by unfold clP; rw [hfa]; rfl
            rw [hE, hM, hC] at HWH
            have HFA := hide hfa
            clear hfa hE hM hC
            go_wp2_with fail
            refine (unhide HWH).mono ?_
            rintro e w5 ⟨rfl, hK5, ⟨lv5, vs5, hH5, hl5⟩, f5⟩
            have hcs : Cs (wr.drewN n2) w5 p h r u dv lv' (R1 ++ (qa, qx) :: R2) lv5 vs5 L' (R1 ++ (qa, { qx with dirty := false }) :: R2) c (m'.put qx.b.toNat qx.P) := ⟨hK5, hH5, fun k hk => .inl (by simpa [adr] using hk), hl5, f5.mono (fun k _ e => by
              rcases e with e | e
              · exact .inl e
              · exact .inr (.inr (.inr (by rw [e]; simp [adr]))))⟩
            have hnk : ∀ b, (Value.slice (some ⟨b1, o1, none⟩) N cc).ownBlock = some b → ¬ (HB h dv lv' b ∨ b = qa) := fun b hb e => by
              have h1 := (unhide HI2).kn b hb
              rcases e with e | e
              · rcases (unhide HI2).cs.hh.knds e with h2 | h2 | h2 <;> rw [h1] at h2 <;> exact absurd h2 (by decide)
              · have h2 := (unhide HI2).cs.k.ring.knd (k := b) (by rw [e]; simp [adr])
                rw [h1] at h2; exact absurd h2 (by decide)
            have HI5 : Hid (ClI w w5 p h r u dv lv R c m most S (.slice (some ⟨b1, o1, none⟩) N cc) t (i + 1) (n + 1) lv5 vs5 L' (R1 ++ (qa, { qx with dirty := false }) :: R2) (m'.put qx.b.toNat qx.P)) := hide ⟨by
                have hcl := unhide HCL
                rw [clR, if_neg (Int.not_le.2 (unhide HM)), if_pos (unhide HL), if_neg (by rw [unhide HFA]; decide), cln_mid ((unhide HI2).cs.k.bn)] at hcl
                exact hcl, fun x hx => by
                have h1 := (unhide HI2).sub x (by rw [unhide HDR]; exact List.mem_cons_of_mem _ hx)
                have h2 : x ≠ (qa, qx) := fun e => by
                  have h3 := ((List.drop_sublist i S).map (fun q : Nat × Pl => q.2.b)).nodup (unhide HSB)
                  rw [unhide HDR, List.map_cons, List.nodup_cons] at h3
                  exact h3.1 (List.mem_map.2 ⟨x, hx, by rw [e]⟩)
                simp only [List.mem_append, List.mem_cons] at h1 ⊢
                rcases h1 with h1 | h1 | h1
                · exact .inl h1
                · exact absurd h1 h2
                · exact .inr (.inr h1), (unhide HI2).rd.kept f5 hnk, fun b hb => by
                have h1 := (unhide HI2).kn b hb
                have h2 := f5.block b (knd_lt (by rw [h1]; decide)) (hnk b hb)
                unfold knd at h1 ⊢
                rw [h2]; exact h1, (unhide HI2).cs.trans hcs, by have := (unhide HI2).calls; show m'.calls + 1 ≤ _; omega, by have := (unhide HI2).len; simpa [Hm.put] using this⟩
            clear hK5 hH5 hl5 f5 HWH hcs hnk
            go_wp2_with fail
            go_roundw
            case rel => exact ⟨i + 1, n + 1, lv5, vs5, L', _, _, by simp, by simp, by omega, by omega, unhide HI5⟩
            case measure => simp [intOf]; omega
          · have hE : whE m' = 77 := by unfold whE; rw [hfa]; rfl
            have hM : m'.wr qx.b qx.P = m'.one := by unfold Hm.wr; rw [hfa]; rfl
            have hC : clP m' qx = qx := by unfold clP; rw [hfa]; rfl
            rw [hE, hM, hC] at HWH
            have HFA := hide hfa
            clear hfa hE hM hC
            go_wp2_with fail
            refine (unhide HWH).mono ?_
            rintro e w5 ⟨rfl, hK5, ⟨lv5, vs5, hH5, hl5⟩, f5⟩
            have HCS : Hid (Cs (wr.drewN n2) w5 p h r u dv lv' (R1 ++ (qa, qx) :: R2) lv5 vs5 L' (R1 ++ (qa, qx) :: R2) c m'.one) := hide ⟨hK5, hH5, fun k hk => .inl hk, hl5, f5.mono (fun k _ e => by
              rcases e with e | e
              · exact .inl e
              · exact .inr (.inr (.inr (by rw [e]; simp [adr]))))⟩
            clear hK5 hH5 hl5 f5 HWH
            go_wp2_with fail
            go_ret2
            have hcl := unhide HCL
            rw [clR, if_neg (Int.not_le.2 (unhide HM)), if_pos (unhide HL), if_pos (unhide HFA)] at hcl
            rw [← hcl]
            exact ⟨rfl, ((unhide HI2).cs.trans (unhide HCS)).cp rfl⟩
        · have bl : decide (q.2.last ≤ c.safe) = false := by simpa using hl
          have HI3 : Hid (ClI w (wr.drewN n2) p h r u dv lv R c m most S (.slice (some ⟨b1, o1, none⟩) N cc) t (i + 1) n lv' vs' L' R' m') := hide ⟨by
            have hcl := unhide HCL
            rw [clR, if_neg (Int.not_le.2 (unhide HM)), if_neg hl] at hcl
            exact hcl, fun x hx => (unhide HI2).sub x (by rw [unhide HDR]; exact List.mem_cons_of_mem _ hx), (unhide HI2).rd, (unhide HI2).kn, (unhide HI2).cs, by have := (unhide HI2).calls; omega, (unhide HI2).len⟩
          clear hl
          go_wp2_with fail
          go_roundw
          case rel => exact ⟨i + 1, n, lv', vs', L', R', m', by simp, rfl, by omega, by omega, unhide HI3⟩
          case measure => simp [intOf]; omega
    · have e : i = N := by omega
      subst e
      clear hge I
      go_wp2_with fail
      go_ret2
      have hcl := (unhide HI).cl
      rw [List.drop_of_length_le (by rw [unhide HSL]; exact Nat.le_refl _), List.map_nil, clR] at hcl
      rw [← hcl]
      exact ⟨rfl, (unhide HI).cs.cp rfl⟩
end
end Go.Proofs.Ytdgmlopaeonacaa
