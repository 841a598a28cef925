/-
  The cache's Flush; Oldest, Clean and Flush of a cache made since.
-/
import Derived.Test.YtdgmlopaeonacaaD7
namespace Go.Proofs.Ytdgmlopaeonacaa
open Go.RowKit
set_option linter.unusedVariables false

attribute [local go_sem ↓] Go.wp_at_zero Go.wp_at_succ

theorem srtL_len (l : List Pl) : (srtL l).length ≤ l.length := by
  unfold srtL
  rw [List.length_mergeSort]
  exact List.length_filter_le _ _
theorem cln_b (l : List Pl) (b : Int) : (cln l b).map (·.b) = l.map (·.b) := by
  unfold cln
  rw [List.map_map]
  exact List.map_congr_left fun x _ => by simp only [Function.comp]; split <;> rfl
theorem cl_facts (c : Ca) (most : Int) : ∀ (S : List Pl) (n : Nat) (m : Hm) (l : List Pl), ((clR c most S n m l).2.1 = 0 ∨ (clR c most S n m l).2.1 = 77) ∧ (clR c most S n m l).2.2.1.calls ≤ m.calls + S.length ∧ (clR c most S n m l).2.2.1.D.length = m.D.length ∧ (clR c most S n m l).2.2.2.map (·.b) = l.map (·.b)
  | [], n, m, l => ⟨.inl rfl, Nat.le_refl _, rfl, rfl⟩
  | x :: S, n, m, l => by
    rw [clR]
    split
    · exact ⟨.inl rfl, Nat.le_add_right _ _, rfl, rfl⟩
    · split
      · split
        · exact ⟨.inr rfl, by simp [Hm.one], rfl, rfl⟩
        · obtain ⟨h1, h2, h3, h4⟩ := cl_facts c most S (n + 1) (m.put x.b.toNat x.P) (cln l x.b)
          refine ⟨h1, ?_, ?_, ?_⟩
          · simp only [Hm.put] at h2 ⊢; simp only [List.length_cons]; omega
          · rw [h3]; simp [Hm.put]
          · rw [h4, cln_b]
      · obtain ⟨h1, h2, h3, h4⟩ := cl_facts c most S n m l
        exact ⟨h1, by simp only [List.length_cons]; omega, h3, h4⟩

/-- Flushing, plainly: the answer, the home, the blocks. -/
def flR (c : Ca) (m : Hm) (l : List Pl) : Int × Hm × List Pl :=
  if (clR c (l.length : Int) (srtL l) 0 m l).2.1 = 0 then
    (if (clR c (l.length : Int) (srtL l) 0 m l).2.2.1.fa = true then 77 else if (oldR (clR c (l.length : Int) (srtL l) 0 m l).2.2.2).2 = true then 91 else 0, (clR c (l.length : Int) (srtL l) 0 m l).2.2.1.one, (clR c (l.length : Int) (srtL l) 0 m l).2.2.2)
  else ((clR c (l.length : Int) (srtL l) 0 m l).2.1, (clR c (l.length : Int) (srtL l) 0 m l).2.2.1, (clR c (l.length : Int) (srtL l) 0 m l).2.2.2)

section
variable (w : World) (p h r u : Nat) (L : List (Int × Nat)) (R : List (Nat × Pl)) (c : Ca) (dv lv : Value) (vs : List Value) (m : Hm)

set_option maxRecDepth 100000 in
set_option maxHeartbeats 1000000 in
theorem flush_any (H : KAt w p h r u L R c) (HH : HAt w h dv lv vs m) (hD : ∀ q ∈ R, q.2.b < (m.D.length : Int)) (hc : m.calls + R.length < 999999990) (hRl : R.length ≤ 1000000) : Calls Try.prog 28 #[ptr p] w fun e w' => e = .returned (.int .i64 (flR c m (R.map Prod.snd)).1) ∧ Cp w w' p h r u dv lv R c (flR c m (R.map Prod.snd)).2.1 (flR c m (R.map Prod.snd)).2.2 := by
  have HNO := hide (none_any w p h r u L R c H)
  have HCL := hide (clean_any w p h r u L R c dv lv vs m (R.length : Int) H HH hD (by omega) hRl)
  have c2 := cell_of_heap H.heap 2
  simp at c2
  have hml := run_len_map H.mp
  rw [H.len] at hml
  obtain ⟨g1, g2, g3, g4⟩ := cl_facts c (R.length : Int) (srtL (R.map Prod.snd)) 0 m (R.map Prod.snd)
  have g5 := srtL_len (R.map Prod.snd)
  rw [List.length_map] at g5
  unfold flR
  rw [List.length_map]
  obtain ⟨t, ht⟩ : ∃ t, t = clR c (R.length : Int) (srtL (R.map Prod.snd)) 0 m (R.map Prod.snd) := ⟨_, rfl⟩
  rw [← ht] at g1 g2 g3 g4 HCL ⊢
  have hcc : t.2.2.1.calls < 999999990 := by omega
  have hll : t.2.2.2.length ≤ 1000000 := by have := congrArg List.length g4; simp at this; omega
  obtain ⟨tn, te, tm, tl⟩ := t
  dsimp only at *
  have HCC := hide hcc
  have HLL := hide hll
  clear H HH hD hc ht g2 g3 g4 g5 hcc hll
  unfold ptr at *
  rcases g1 with rfl | rfl
  · rw [if_pos rfl]
    dsimp only
    obtain ⟨an, han⟩ : ∃ an, an = (if tm.fa = true then (77 : Int) else if (oldR tl).2 = true then 91 else 0) := ⟨_, rfl⟩
    rw [← han]
    have HAN := hide han
    clear han
    go_enter Try.func28, Try.ntmps28
    go_wp2_with fail
    refine (unhide HNO).mono ?_
    rintro e w' ⟨rfl, rfl⟩
    go_wp2_with fail
    refine (unhide HCL).mono ?_
    rintro e w1 ⟨rfl, lv1, vs1, L1, R1, k1, hh1, hl1, s1, n1, f1⟩
    have d0 := cell_of_heap k1.heap 0
    simp at d0
    have HCS : Hid (Cs w w1 p h r u dv lv R lv1 vs1 L1 R1 c tm) := hide ⟨k1, hh1, s1, n1, f1⟩
    have HL1 := hide hl1
    have HFL := hide (hflush_any w1 h dv lv1 vs1 tm hh1 (by have := unhide HCC; omega))
    unfold ptr at *
    clear k1 hh1 hl1 s1 n1 f1 HCL HNO c2 hml
    rcases hfa : tm.fa with _ | _
    · rw [hfa] at HFL
      rw [if_neg (by decide)] at HFL
      rw [hfa, if_neg (by decide)] at HAN
      clear hfa
      go_wp2_with fail
      refine (unhide HFL).mono ?_
      rintro e w2 ⟨rfl, hh2, f2⟩
      have HCS2 : Hid (Cs w w2 p h r u dv lv R lv1 vs1 L1 R1 c tm.one) := hide ((unhide HCS).trans (Cs.home (unhide HCS).k (unhide HCS).hh hh2 (fun _ e => .inl e) (f2.mono (fun k _ e => .inl e))))
      have HOL := hide (oldest_any w2 p h r u L1 R1 c (by have := congrArg List.length (unhide HL1); have h2 := unhide HLL; simp at this; omega) (unhide HCS2).k)
      rw [unhide HL1] at HOL
      unfold ptr at HOL
      clear hh2 f2 HFL d0
      generalize oldR tl = ol at *
      obtain ⟨o1, o2⟩ := ol
      dsimp only at *
      go_wp2_with fail
      refine (unhide HOL).mono ?_
      rintro e w3 ⟨rfl, f3⟩
      have HCS3 := hide ((unhide HCS2).trans (Cs.same (unhide HCS2).k (unhide HCS2).hh f3))
      clear f3 HOL
      rcases o2 with _ | _
      · go_wp2_with fail
        go_ret
        exact ⟨by rw [unhide HAN]; rfl, (unhide HCS3).cp (unhide HL1)⟩
      · go_wp2_with fail
        go_ret
        exact ⟨by rw [unhide HAN]; rfl, (unhide HCS3).cp (unhide HL1)⟩
    · rw [hfa] at HFL
      rw [if_pos rfl] at HFL
      rw [hfa, if_pos rfl] at HAN
      clear hfa
      go_wp2_with fail
      refine (unhide HFL).mono ?_
      rintro e w2 ⟨rfl, hh2, f2⟩
      have HCS2 : Hid (Cs w w2 p h r u dv lv R lv1 vs1 L1 R1 c tm.one) := hide ((unhide HCS).trans (Cs.home (unhide HCS).k (unhide HCS).hh hh2 (fun _ e => .inl e) (f2.mono (fun k _ e => .inl e))))
      clear hh2 f2 HFL d0
      go_wp2_with fail
      go_ret
      exact ⟨by rw [unhide HAN]; rfl, (unhide HCS2).cp (unhide HL1)⟩
  · rw [if_neg (by decide)]
    go_enter Try.func28, Try.ntmps28
    go_wp2_with fail
    refine (unhide HNO).mono ?_
    rintro e w' ⟨rfl, rfl⟩
    go_wp2_with fail
    refine (unhide HCL).mono ?_
    rintro e w1 ⟨rfl, C⟩
    have HC1 := hide C
    clear C HCL HNO c2 hml
    go_wp2_with fail
    go_ret
    exact ⟨rfl, unhide HC1⟩
end

section
variable {w0 : World × World} {w : World} {p h r u : Nat} {dv : Value} {c : Ca} {m : Hm} {l : List Pl}
theorem cs_oldest (H : CS w0 w p h r u dv c m l) (hl : l.length ≤ 1000000) : Calls Try.prog 15 #[ptr p] w fun e w' => e = .returned (.tuple #[.int .u64 (oldR l).1, .bool (oldR l).2]) ∧ Fr (fun _ => False) w w' := by
  obtain ⟨lv, vs, L, R, h1, h2, rfl, h4, h5⟩ := H
  rw [List.length_map] at hl
  exact oldest_any w p h r u L R c hl h1
theorem cs_clean (most : Int) (H : CS w0 w p h r u dv c m l) (hD : InD m l) (hc : m.calls + l.length < 999999990) (hl : l.length ≤ 1000000) : Calls Try.prog 27 #[ptr p, .int .i64 most] w fun e w' => e = .returned (.tuple #[.int .i64 ((clR c most (srtL l) 0 m l).1 : Int), .int .i64 (clR c most (srtL l) 0 m l).2.1]) ∧ CS w0 w' p h r u dv c (clR c most (srtL l) 0 m l).2.2.1 (clR c most (srtL l) 0 m l).2.2.2 := by
  obtain ⟨lv, vs, L, R, h1, h2, rfl, h4, h5⟩ := H
  rw [List.length_map] at hl hc
  exact (clean_any w p h r u L R c dv lv vs m most h1 h2 hD.rr (by omega) hl).mono fun e w' ⟨he, C⟩ => ⟨he, cs_cp h4 h5 C⟩
theorem cs_flush (H : CS w0 w p h r u dv c m l) (hD : InD m l) (hc : m.calls + l.length < 999999990) (hl : l.length ≤ 1000000) : Calls Try.prog 28 #[ptr p] w fun e w' => e = .returned (.int .i64 (flR c m l).1) ∧ CS w0 w' p h r u dv c (flR c m l).2.1 (flR c m l).2.2 := by
  obtain ⟨lv, vs, L, R, h1, h2, rfl, h4, h5⟩ := H
  rw [List.length_map] at hl hc
  exact (flush_any w p h r u L R c dv lv vs m h1 h2 hD.rr hc hl).mono fun e w' ⟨he, C⟩ => ⟨he, cs_cp h4 h5 C⟩
end
end Go.Proofs.Ytdgmlopaeonacaa
