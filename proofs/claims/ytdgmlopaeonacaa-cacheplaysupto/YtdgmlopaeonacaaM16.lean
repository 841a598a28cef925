/-
  The document's cache: a block is fetched.
  The document's cache: Read, Pin, Unpin, Safe.
-/
import Derived.Test.YtdgmlopaeonacaaM15
namespace Go.Proofs.Ytdgmlopaeonacaa
set_option linter.unusedVariables false
set_option linter.unusedSimpArgs false
open Go.RowKit
set_option linter.unusedVariables false
set_option linter.unusedSimpArgs false

attribute [local go_sem ↓] Go.wp_at_zero Go.wp_at_succ

def cnt (c : Ca) (hb : Bool) : Ca := if hb = true then { c with hit := c.hit + 1 } else { c with miss := c.miss + 1 }
/-- What fetch answers. -/
def FtD [Av] (w : World) (q g : Nat) (dv lg lv : Value) (R : List (Nat × Pl)) (c : Ca) (t : Int × List Pl × Hm × Ca) (e : Ending) (w' : World) : Prop :=
  ∃ lg' vs' lv' R', Dd w w' q g dv lg lv R lg' vs' lv' R' c t.2.2.1 ∧ R'.map Prod.snd = t.2.1 ∧
    ((t.1 ≠ 0 ∧ e = .returned (.tuple #[.pointer none, .bool false, .int .i64 t.1]) ∧ t.2.2.2 = c) ∨ (t.1 = 0 ∧ ∃ R'' x hb, R' = R'' ++ [x] ∧ e = .returned (.tuple #[ptr x.1, .bool hb, .int .i64 0]) ∧ t.2.2.2 = cnt c hb))
theorem PAt.new [Av] {w : World} {pv : Value} {b : Int} {P : List UInt8} (h : Rd w pv P) (h5 : ∀ k, pv.ownBlock = some k → knd w k = 5) (hz : ∀ k, pv.ownBlock = some k → Av.z ≠ some k) : PAt (w.alloc (.cells #[.int .i64 b, pv, .bool false, .int .u64 0, .int .u64 0, .int .i64 0] 94)) w.heap.size pv { zeroP b with P := P } :=
  ⟨heap_alloc_new _ _, h.kept ((Fr.refl (fun _ => False) _).alloc _) (fun _ _ e => e), fun k hk => knd_fr ((Fr.refl (fun _ => False) _).alloc _) (h5 k hk) (by decide), hz⟩

section
variable (w : World) (q g : Nat) (dv lg lv : Value) (vs : List Value) (R : List (Nat × Pl)) (c : Ca) (m : Hm)

set_option maxRecDepth 100000 in
set_option maxHeartbeats 4000000 in
theorem dfetch_any [Av] (b : Int) (hR : R.length ≤ 4096) (H : DAt w q g lv R c) (HH : HAtG w g dv lg vs m) (hD : ∀ y ∈ R, y.2.b < (m.D.length : Int)) (hc : m.calls < 999999990) : Calls Try.prog 52 #[ptr q, .int .i64 b] w fun e w' => FtD w q g dv lg lv R c (ftR c m (R.map Prod.snd) b) e w' := by
  obtain ⟨c0, -, c2, -⟩ := H.cells
  have g0 := cell_of_heap HH.heap 0
  simp at g0
  obtain ⟨ad, cd, hdv⟩ := HH.shape
  have HD := hide H
  have HHM := hide HH
  have HDB := hide hD
  have HC := hide hc
  have HA := hide (at_any w q g lv R c b (by omega) H)
  have hDl := HH.ok.len
  by_cases hch : b < 0 ∨ (m.D.length : Int) ≤ b
  · have HE : Hid (ftR c m (R.map Prod.snd) b = (2, R.map Prod.snd, m, c)) := hide (by
      have : chE m b = 2 := by unfold chE; rw [if_pos hch]
      unfold ftR; rw [this, if_neg (by decide)])
    obtain ⟨M, hM⟩ : ∃ M, M = m.D.length := ⟨_, rfl⟩
    rw [← hM] at hch hdv
    clear H HH hD hc HA hDl hM
    subst hdv
    unfold ptr at *
    rcases hch with hb | hb
    · have qb : decide (b < 0) = true := by simpa using hb
      clear hb
      go_enter Try.func52, Try.ntmps52
      go_wp2_with fail
      go_ret3
      rw [unhide HE]
      exact ⟨lg, vs, lv, R, Dd.same (unhide HD) (unhide HHM) (Fr.refl _ _), rfl, .inl ⟨by simp, rfl, rfl⟩⟩
    · have qb : decide (b < 0) = false := by simp; omega
      have qc : decide ((M : Int) ≤ b) = true := by simpa using hb
      clear hb
      go_enter Try.func52, Try.ntmps52
      go_wp2_with fail
      go_ret3
      rw [unhide HE]
      exact ⟨lg, vs, lv, R, Dd.same (unhide HD) (unhide HHM) (Fr.refl _ _), rfl, .inl ⟨by simp, rfl, rfl⟩⟩
  · have hce : chE m b = 0 := by unfold chE; rw [if_neg hch]
    obtain ⟨bn, rfl⟩ : ∃ bn : Nat, b = (bn : Int) := ⟨b.toNat, by omega⟩
    have hbn : bn < m.D.length := by omega
    obtain ⟨M, hM⟩ : ∃ M, M = m.D.length := ⟨_, rfl⟩
    have qc : decide ((M : Int) ≤ (bn : Int)) = false := by simp; omega
    have qc2 : decide (M ≤ bn) = false := by simp; omega
    rw [← hM] at hdv
    have HBN := hide hbn
    clear hch hM hDl
    subst hdv
    rcases hat : atI (R.map Prod.snd) (bn : Int) with _ | i
    · have han : atN (R.map Prod.snd) (bn : Int) = -1 := by unfold atN; rw [hat]
      rw [han] at HA
      have HRM := hide (room_any w q g _ lg lv vs R c m (by omega) H HH hD (by omega))
      have HE : Hid (ftR c m (R.map Prod.snd) (bn : Int) = if (rmR c m (R.map Prod.snd)).1 = 0 then
        if (rmR c m (R.map Prod.snd)).2.2.fa = true then (77, (rmR c m (R.map Prod.snd)).2.1, (rmR c m (R.map Prod.snd)).2.2.one, c)
        else (0, (rmR c m (R.map Prod.snd)).2.1 ++ [{ zeroP (bn : Int) with P := (rmR c m (R.map Prod.snd)).2.2.D.getD bn [] }], (rmR c m (R.map Prod.snd)).2.2.one, { c with miss := c.miss + 1 })
        else ((rmR c m (R.map Prod.snd)).1, (rmR c m (R.map Prod.snd)).2.1, (rmR c m (R.map Prod.snd)).2.2, c)) := hide (by
          unfold ftR; rw [hce, if_pos rfl, hat]; rfl)
      have hrf := rmR_facts c m (R.map Prod.snd)
      have hml : (rmR c m (R.map Prod.snd)).2.2.D.length = m.D.length := hrf.1
      have hmc := hrf.2.1
      have hrl : (rmR c m (R.map Prod.snd)).2.1.length ≤ 4096 := by
        have h0 : (R.map Prod.snd).length ≤ 4096 := by simpa using hR
        unfold rmR
        split
        · exact h0
        · split
          · exact h0
          · split
            · exact h0
            · split
              · split
                · exact h0
                · have := List.length_eraseIdx_le (R.map Prod.snd) ‹_›; exact Nat.le_trans this h0
              · have := List.length_eraseIdx_le (R.map Prod.snd) ‹_›; exact Nat.le_trans this h0
      generalize rmR c m (R.map Prod.snd) = t at *
      obtain ⟨te, tl, tm⟩ := t
      dsimp only at *
      have HML := hide hml
      have HMC := hide hmc
      have HRL := hide hrl
      have HCC := hide hc
      clear H HH hD hc hrf hml hmc hrl han hat hce hR
      unfold ptr at *
      go_enter Try.func52, Try.ntmps52
      go_wp2_with fail
      refine (unhide HA).mono ?_
      rintro e w1 ⟨rfl, rfl⟩
      go_wp2_with fail
      refine (unhide HRM).mono ?_
      rintro e w1 ⟨rfl, lg1, vs1, lv1, R1, hC1, hl1⟩
      by_cases hte : te = 0
      · subst hte
        rw [if_pos rfl] at HE
        have hb1 : bn < tm.D.length := by rw [unhide HML]; exact unhide HBN
        obtain ⟨Di, hDi⟩ : ∃ Di, tm.D[bn]? = some Di := ⟨_, List.getElem?_eq_getElem hb1⟩
        have HRD := hide (hreadG_any w1 g _ lg1 vs1 tm bn Di hDi hC1.hh (by have h1 := unhide HMC; have h2 := unhide HCC; omega))
        have hgd : tm.D.getD bn [] = Di := by rw [List.getD, hDi]; rfl
        rw [hgd] at HE
        have hln : Di.length = 384 := hC1.hh.ok.all Di (List.mem_of_getElem? hDi)
        obtain ⟨d0, -⟩ := hC1.d.cells
        have HC1 := hide hC1
        have HL1 := hide hl1
        have HLN := hide hln
        unfold ptr at *
        clear hC1 hl1 hDi hgd hb1 HRM hln
        go_wp2_with fail
        refine (unhide HRD).mono ?_
        rintro e w2 ⟨hres, hH2, f2⟩
        have hC2 := (unhide HC1).trans (Dd.home (unhide HC1).d (unhide HC1).hh hH2 (fun _ e => .inl e) (f2.mono (fun _ _ e => .inl e)))
        rcases hres with ⟨hfa, rfl⟩ | ⟨hfa, ao, cc, rfl, hr2, hn2⟩
        · rw [if_pos hfa] at HE
          have HC2 := hide hC2
          clear hC2 hH2 f2 hfa HRD
          go_wp2_with fail
          go_ret3
          rw [unhide HE]
          exact ⟨lg1, vs1, lv1, R1, unhide HC2, unhide HL1, .inl ⟨by simp, rfl, rfl⟩⟩
        · rw [if_neg (by rw [hfa]; decide)] at HE
          have hP3 := PAt.new (b := (bn : Int)) hr2 (fun k hk => (hn2 k hk).2) (fun k hk e => absurd ((unhide HC1).hh.old k e) (by have := (hn2 k hk).1; omega))
          obtain ⟨w3, hw3⟩ : ∃ w3, w3 = w2.alloc (.cells #[.int .i64 (bn : Int), .slice ao 384 cc, .bool false, .int .u64 0, .int .u64 0, .int .i64 0] 94) := ⟨_, rfl⟩
          rw [← hw3] at hP3
          have f3 : Fr (fun _ => False) w2 w3 := by rw [hw3]; exact (Fr.refl _ _).alloc _
          have hD3 := hC2.d.kept0 f3
          obtain ⟨-, -, e2, -⟩ := hD3.cells
          obtain ⟨al, cl, hlv⟩ := hD3.shape
          have hRl : R1.length ≤ 4096 := by have h1 := unhide HRL; have h2 := unhide HL1; rw [← h2] at h1; simpa using h1
          have hzok : ({ zeroP (bn : Int) with P := Di } : Pl).Ok := ⟨unhide HLN, by show (0 : Int) ≤ (bn : Int); omega, by show 0 < _; decide, by show 0 < _; decide, by show (0 : Int) ≤ 0 ∧ (0 : Int) ≤ _; decide⟩
          have hnd : w2.heap.size ∉ adr R1 := fun e => by
            obtain ⟨y, hy, e2⟩ := List.mem_map.1 e
            obtain ⟨pv, hp⟩ := hC2.d.pl y hy
            have := lt_of_heap hp.1
            omega
          obtain ⟨N1, hN1⟩ : ∃ N1, N1 = R1.length := ⟨_, rfl⟩
          have HPF := hide (fun (w8 : World) (o : Obj) (v : Value) ho hg => push_facts (w8 := w8) (o := o) (v := v) (x := (w2.heap.size, { zeroP (bn : Int) with P := Di })) hD3 ⟨_, hP3⟩ hnd hzok ho hg)
          have HROW := hide hD3.row
          have HC3 := hide hC2
          have HF3 := hide f3
          subst hlv
          rw [← hN1] at HROW HPF e2 hRl HC3
          have HSZ : Hid (w.heap.size ≤ w2.heap.size) := hide hC2.f.size
          have hs3 : w3.heap.size = w2.heap.size + 1 := by rw [hw3]; simp
          have SR1 : Hid (Sr (w3.alloc (.cells #[.pointer (some ⟨w2.heap.size, 0, none⟩)] 95)) 1 (.slice (some ⟨w2.heap.size + 1, 0, none⟩) 1 1) 1 [.pointer (some ⟨w2.heap.size, 0, none⟩)]) := hide (by have := one_cellV w3 (.pointer (some ⟨w2.heap.size, 0, none⟩)) 95; rw [hs3] at this; exact this)
          clear hP3 f3 hD3 hzok hnd hC2 hH2 f2 hfa HRD hr2 hn2 hN1
          obtain ⟨inf, hi0, hz0, hz1, hz2⟩ := info_parts Try.info95
          have HHW3 := hide hw3
          subst hw3
          unfold ptr at *
          go_wp2_with (at_builtin; refine wpList_app rfl (.tmp 59) (.tmp 61) 54 rfl 95 inf _ 1 8 Try.underlying54 hi0 hz0 hz1 hz2 rfl (by decide) (.slice al N1 cl) N1 _ rfl (.slice (some ⟨w2.heap.size + 1, 0, none⟩) 1 1) rfl 1 [.pointer (some ⟨w2.heap.size, 0, none⟩)] ((unhide HROW).alloc _) (unhide SR1) (fun u hu => by simp at hu; subst hu; rfl) (by omega) (by simp only [maxLen]; omega) ?_)
          intro ao8 c8 w8 ho8 hg8 hn8
          obtain ⟨hq8, hz8, hD9, f9⟩ := unhide HPF w8 _ _ (by simpa [ptr] using ho8) hg8
          have HL9 : Hid (∀ k, (Value.slice ao8 (N1 + 1) c8).ownBlock = some k → (Value.slice al N1 cl).ownBlock = some k ∨ w2.heap.size ≤ k) := hide (fun k hk => by
            rcases hn8 with e | ⟨k2, e, e2⟩
            · exact .inl (e ▸ hk)
            · rw [e] at hk; simp at hk e2; right; omega)
          have HD9 := hide hD9
          have F9 := hide f9
          clear ho8 hg8 hn8 hD9 f9 HPF HROW SR1
          go_wp2_with fail
          go_ret3
          rw [unhide HE]
          have hC3 := unhide HC3
          have hC9 := hC3.trans (Dd.cache hC3.d hC3.hh (unhide HD9) (fun k hk => by
            simp [adr] at hk ⊢
            rcases hk with h | h
            · exact .inl h
            · right; omega) (unhide HL9) (((unhide HF3).mono (fun _ _ e => e.elim)).trans (unhide F9) (fun k _ e => by rcases e with e | e; exact .inl e; exact .inr (.inl e))))
          exact ⟨lg1, vs1, _, _, hC9, by rw [List.map_append, unhide HL1]; rfl, .inr ⟨rfl, R1, (w2.heap.size, { zeroP (bn : Int) with P := Di }), false, rfl, rfl, rfl⟩⟩
      · have qe : (te != 0) = true := by simpa using hte
        rw [if_neg hte] at HE
        have HTE := hide hte
        have HC1 := hide hC1
        have HL1 := hide hl1
        clear hte hC1 hl1 HRM
        go_wp2_with fail
        go_ret3
        rw [unhide HE]
        exact ⟨lg1, vs1, lv1, R1, unhide HC1, unhide HL1, .inl ⟨unhide HTE, rfl, rfl⟩⟩
    · have han : atN (R.map Prod.snd) (bn : Int) = (i : Int) := by unfold atN; rw [hat]
      rw [han] at HA
      obtain ⟨x, hx, hxb⟩ := at_some hat
      obtain ⟨R1, a, R2, rfl, rfl, hers⟩ := split_at hx
      have HUS := hide (used_any w q g lv R1 R2 (a, x) c (by omega) H)
      have HE : Hid (ftR c m ((R1 ++ (a, x) :: R2).map Prod.snd) (bn : Int) = (0, (R1 ++ R2).map Prod.snd ++ [x], m, { c with hit := c.hit + 1 })) := hide (by
        unfold ftR; rw [hce, if_pos rfl, hat]; dsimp only; rw [hx, hers])
      clear H HH hD hc hat han hx hers hce hR hxb
      unfold ptr at *
      go_enter Try.func52, Try.ntmps52
      go_wp2_with fail
      refine (unhide HA).mono ?_
      rintro e w1 ⟨rfl, rfl⟩
      go_wp2_with fail
      refine (unhide HUS).mono ?_
      rintro e w2 ⟨rfl, ⟨lv2, hD2, hl2⟩, f2⟩
      have HC2 := hide (Dd.cache (unhide HD) (unhide HHM) hD2 (fun k hk => .inl (by simp [adr] at hk ⊢; rcases hk with h | h | h; exact .inl h; exact .inr (.inr h); exact .inr (.inl h))) (fun k hk => .inr (hl2 k hk)) (f2.mono (fun k _ e => .inl e)))
      clear hD2 hl2 f2 HUS
      go_wp2_with fail
      go_ret3
      rw [unhide HE]
      exact ⟨lg, vs, lv2, _, unhide HC2, by simp, .inr ⟨rfl, R1 ++ R2, (a, x), true, rfl, rfl, rfl⟩⟩
end
end Go.Proofs.Ytdgmlopaeonacaa

namespace Go.Proofs.Ytdgmlopaeonacaa
set_option linter.unusedVariables false
set_option linter.unusedSimpArgs false
open Go.RowKit
set_option linter.unusedVariables false
set_option linter.unusedSimpArgs false

attribute [local go_sem ↓] Go.wp_at_zero Go.wp_at_succ

section
variable {w w1 : World} {q g a : Nat} {dv lg lv pv : Value} {vs : List Value} {R R1 R2 : List (Nat × Pl)} {c c' : Ca} {m : Hm} {x y : Pl}
theorem PAt.put [Av] (H : PAt w a pv x) (k : Nat) (v : Value) (hc : (#[.int .i64 x.b, pv, .bool x.dirty, .int .u64 (fz x), .int .u64 (lz x), .int .i64 x.pins] : Array Value).setIfInBounds k v = #[.int .i64 y.b, pv, .bool y.dirty, .int .u64 (fz y), .int .u64 (lz y), .int .i64 y.pins]) (hP : y.P = x.P) : PAt (w.setCell ⟨a, k, none⟩ v) a pv y ∧ Fr (fun k => k = a) w (w.setCell ⟨a, k, none⟩ v) := by
  have f : Fr (fun k => k = a) w (w.setCell ⟨a, k, none⟩ v) := (Fr.refl (fun k => k = a) w).setCell (p := ⟨a, k, none⟩) (fun _ => rfl) _
  have hk := knd_cells H.1
  refine ⟨⟨?_, ?_, fun j hj => ?_, H.2.2.2⟩, f⟩
  · rw [heap_setCell_same w a k _ 94 v H.1, hc]
  · rw [hP]
    exact H.2.1.kept f (fun j hj e => by have := H.2.2.1 j hj; rw [show j = a from e, hk] at this; exact absurd this (by decide))
  · have e5 := H.2.2.1 j hj
    have hl : j < w.heap.size := knd_lt (by rw [e5]; decide)
    have hne : ¬ j = a := fun e => by rw [e, hk] at e5; exact absurd e5 (by decide)
    unfold knd at *
    rw [f.block j hl hne]
    exact e5
theorem DAt.cell [Av] (H : DAt w q g lv R c) (i : Nat) (v : Value) (hc : (#[ptr g, .int .i64 (c.places : Int), lv, .int .u64 (c.safe : Int), .int .i64 (c.hit : Int), .int .i64 (c.miss : Int)] : Array Value).setIfInBounds i v = #[ptr g, .int .i64 (c'.places : Int), lv, .int .u64 (c'.safe : Int), .int .i64 (c'.hit : Int), .int .i64 (c'.miss : Int)]) (hn : c'.hit ≤ 1000000000 ∧ c'.miss ≤ 1000000000 ∧ c'.safe < 18446744073709551616 ∧ c'.places ≤ 4096) : DAt (w.setCell ⟨q, i, none⟩ v) q g lv R c' ∧ Fr (fun k => k = q) w (w.setCell ⟨q, i, none⟩ v) := by
  have f : Fr (fun k => k = q) w (w.setCell ⟨q, i, none⟩ v) := (Fr.refl (fun k => k = q) w).setCell (p := ⟨q, i, none⟩) (fun _ => rfl) _
  have hq := knd_cells H.heap
  refine ⟨⟨?_, owns_kept H.row f (fun k hk e => ?_), fun x hx => ?_, H.nd, H.ok, hn⟩, f⟩
  · rw [heap_setCell_same w q i _ 56 v H.heap, hc]
  · have := knd_owns H.row hk
    rw [show k = q from e, hq] at this
    exact absurd this (by decide)
  · obtain ⟨pv, hp⟩ := H.pl x hx
    refine ⟨pv, hp.kept f (fun e => ?_) (fun k e e5 => ?_)⟩
    · have := knd_cells hp.1
      rw [show x.1 = q from e, hq] at this
      exact absurd this (by decide)
    · rw [show k = q from e, hq] at e5
      exact absurd e5 (by decide)
theorem Dd.num [Av] (H : DAt w q g lv R c) (HH : HAtG w g dv lg vs m) (h : DAt w1 q g lv R c') (f : Fr (fun k => k = q) w w1) : Dd w w1 q g dv lg lv R lg vs lv R c' m :=
  Dd.cache H HH h (fun _ h => .inl h) (fun _ h => .inl h) (f.mono (fun _ _ e => .inl e))
end

set_option maxRecDepth 100000 in
theorem counts_any [Av] (w : World) (q g : Nat) (lv : Value) (R : List (Nat × Pl)) (c : Ca) (hb : Bool) (H : DAt w q g lv R c) (hn : c.hit + c.miss < 1000000000) : Calls Try.prog 53 #[ptr q, .bool hb] w fun e w' => e = .returned (.tuple #[]) ∧ DAt w' q g lv R (cnt c hb) ∧ Fr (fun k => k = q) w w' := by
  obtain ⟨-, -, -, -, c4, c5⟩ := H.cells
  have z4 := frozen_of_heap H.heap 4
  have z5 := frozen_of_heap H.heap 5
  have hnum := H.num
  cases hb
  · have HK := hide (H.cell (c' := cnt c false) 5 (.int .i64 ((c.miss : Int) + 1)) (by simp [cnt]) ⟨by simp [cnt]; omega, by simp [cnt]; omega, by simp [cnt]; omega, by simp [cnt]; omega⟩)
    clear H
    unfold ptr at *
    go_enter Try.func53, Try.ntmps53
    go_wp2_with fail
    go_end0
    exact ⟨rfl, unhide HK⟩
  · have HK := hide (H.cell (c' := cnt c true) 4 (.int .i64 ((c.hit : Int) + 1)) (by simp [cnt]) ⟨by simp [cnt]; omega, by simp [cnt]; omega, by simp [cnt]; omega, by simp [cnt]; omega⟩)
    clear H
    unfold ptr at *
    go_enter Try.func53, Try.ntmps53
    go_wp2_with fail
    go_end0
    exact ⟨rfl, unhide HK⟩

/-- What Read answers. -/
def RdD [Av] (w : World) (q g : Nat) (dv lg lv : Value) (R : List (Nat × Pl)) (t : Int × List Pl × Hm × Ca) (e : Ending) (w' : World) : Prop :=
  ∃ lg' vs' lv' R', Dd w w' q g dv lg lv R lg' vs' lv' R' t.2.2.2 t.2.2.1 ∧ R'.map Prod.snd = t.2.1 ∧
    ((t.1 ≠ 0 ∧ e = .returned (.tuple #[.slice none 0 0, .int .i64 t.1])) ∨ (t.1 = 0 ∧ ∃ x ao cc, t.2.1.getLast? = some x ∧ e = .returned (.tuple #[.slice ao 384 cc, .int .i64 0]) ∧ Rd w' (.slice ao 384 cc) x.P))

section
variable (w : World) (q g : Nat) (dv lg lv : Value) (vs : List Value) (R : List (Nat × Pl)) (c : Ca) (m : Hm)

set_option maxRecDepth 100000 in
set_option maxHeartbeats 1000000 in
theorem dread_any [Av] (b : Int) (hR : R.length ≤ 4096) (H : DAt w q g lv R c) (HH : HAtG w g dv lg vs m) (hD : ∀ y ∈ R, y.2.b < (m.D.length : Int)) (hc : m.calls < 999999990) (hn : c.hit + c.miss < 1000000000) : Calls Try.prog 31 #[ptr q, .int .i64 b] w fun e w' => RdD w q g dv lg lv R (ftR c m (R.map Prod.snd) b) e w' := by
  have HF := hide (dfetch_any w q g dv lg lv vs R c m b hR H HH hD hc)
  clear H HH hD hc hR
  generalize ftR c m (R.map Prod.snd) b = t at *
  obtain ⟨te, tl, tm, tc⟩ := t
  have HNN := hide hn
  clear hn
  unfold ptr at *
  go_enter Try.func31, Try.ntmps31
  go_wp2_with fail
  refine (unhide HF).mono ?_
  rintro e w1 ⟨lg1, vs1, lv1, R1, hC1, hl1, h1⟩
  dsimp only at hC1 hl1 h1
  rcases h1 with ⟨hne, rfl, rfl⟩ | ⟨rfl, R2, x, hb, rfl, rfl, rfl⟩
  · have bne : (te != 0) = true := by simpa using hne
    have HNE := hide hne
    have HC1 := hide hC1
    have HL1 := hide hl1
    clear hne hC1 hl1 HF
    go_wp2_with fail
    go_ret2
    exact ⟨lg1, vs1, lv1, R1, unhide HC1, unhide HL1, .inl ⟨unhide HNE, rfl⟩⟩
  · have HCT := hide (counts_any w1 q g lv1 (R2 ++ [x]) c hb hC1.d (unhide HNN))
    have HC1 := hide hC1
    have HL1 := hide hl1
    unfold ptr at *
    clear hC1 hl1 HF
    go_wp2_with fail
    refine (unhide HCT).mono ?_
    rintro e w2 ⟨rfl, hD2, f2⟩
    have hC2 := (unhide HC1).trans (Dd.num (unhide HC1).d (unhide HC1).hh hD2 f2)
    obtain ⟨pv, hp⟩ := hC2.d.pl x (by simp)
    have hok := hC2.d.ok x (by simp)
    obtain ⟨-, p1, -⟩ := hp.cells
    have fa := (Fr.refl (fun _ => False) w2).alloc (.cells #[] 5)
    have p1a := (fa.cell (a := ⟨x.1, 1, none⟩) (World.block_lt_of_cell? _ _ p1) id).trans p1
    obtain ⟨pa, pc, hpv⟩ := hp.2.1.shape
    have hSR : Sr (w2.alloc (.cells #[] 5)) 1 pv x.2.P.length (bvs x.2.P) := (hp.2.1.kept fa (fun _ _ h => h)).sr
    have hP3 := hok.len
    rw [hP3] at hpv hSR
    have HSR := hide hSR
    have HP3 := hide hP3
    have HC2 := hide hC2
    subst hpv
    obtain ⟨inf, hi0, hz0, hz1, hz2⟩ := info_parts Try.info5
    clear hC2 hp hok fa p1 hSR hP3 hD2 f2 HCT
    go_wp2_with (at_builtin; refine wpList_app rfl (.tmp 22) (.tmp 26) 37 rfl 5 inf _ 1 1 Try.underlying37 hi0 hz0 hz1 hz2 rfl (by decide) (.slice (some ⟨w2.heap.size, 0, none⟩) 0 0) 0 [] rfl (.slice pa 384 pc) rfl 384 (bvs x.2.P) (owns_new (heap_alloc_new _ _)) (unhide HSR) (bvs_one _) (by decide) (by decide) ?_)
    intro ao cc w3 o3 g3 p3
    have hR3 : Rd w3 (.slice ao 384 cc) x.2.P := by
      refine Rd.of_owns (base := 0) ?_
      rw [unhide HP3]
      exact o3
    have HR3 := hide hR3
    have F3 := hide (((Fr.refl (fun _ => False) w2).alloc (.cells #[] 5)).grown g3 (fun k hk e => by simp [Value.ownBlock] at e; omega))
    clear o3 g3 p3 hR3
    go_wp2_with fail
    go_ret2
    exact ⟨lg1, vs1, lv1, _, (unhide HC2).trans (Dd.same (unhide HC2).d (unhide HC2).hh (unhide F3)), unhide HL1, .inr ⟨rfl, x.2, ao, cc, by rw [← unhide HL1]; simp, rfl, unhide HR3⟩⟩

set_option maxRecDepth 100000 in
set_option maxHeartbeats 1000000 in
theorem dpin_any [Av] (b : Int) (hR : R.length ≤ 4096) (H : DAt w q g lv R c) (HH : HAtG w g dv lg vs m) (hD : ∀ y ∈ R, y.2.b < (m.D.length : Int)) (hc : m.calls < 999999990) (hn : c.hit + c.miss < 1000000000) (hpb : PinB (R.map Prod.snd) 999999990) : Calls Try.prog 33 #[ptr q, .int .i64 b] w fun e w' => e = .returned (.int .i64 (pnR c m (R.map Prod.snd) b).1) ∧ ∃ lg' vs' lv' R', Dd w w' q g dv lg lv R lg' vs' lv' R' (pnR c m (R.map Prod.snd) b).2.2.2 (pnR c m (R.map Prod.snd) b).2.2.1 ∧ R'.map Prod.snd = (pnR c m (R.map Prod.snd) b).2.1 := by
  have HF := hide (dfetch_any w q g dv lg lv vs R c m b hR H HH hD hc)
  have hpn : pnR c m (R.map Prod.snd) b = ((ftR c m (R.map Prod.snd) b).1, if (ftR c m (R.map Prod.snd) b).1 = 0 then pinL (ftR c m (R.map Prod.snd) b).2.1 else (ftR c m (R.map Prod.snd) b).2.1, (ftR c m (R.map Prod.snd) b).2.2.1, (ftR c m (R.map Prod.snd) b).2.2.2) := rfl
  have hpf : ∀ x ∈ (ftR c m (R.map Prod.snd) b).2.1, x.pins ≤ 999999990 := fun x hx => by
    rcases ft_mem c m _ b x hx with e | e
    · exact hpb x e
    · omega
  rw [hpn]
  clear H HH hD hc hR hpn hpb
  generalize ftR c m (R.map Prod.snd) b = t at *
  obtain ⟨te, tl, tm, tc⟩ := t
  dsimp only at *
  have HNN := hide hn
  have HPF := hide hpf
  obtain ⟨T, hT⟩ : ∃ T, T = (if te = 0 then pinL tl else tl) := ⟨_, rfl⟩
  rw [← hT]
  have HT := hide hT
  clear hn hpf hT
  unfold ptr at *
  go_enter Try.func33, Try.ntmps33
  go_wp2_with fail
  refine (unhide HF).mono ?_
  rintro e w1 ⟨lg1, vs1, lv1, R1, hC1, hl1, h1⟩
  dsimp only at hC1 hl1 h1
  rcases h1 with ⟨hne, rfl, rfl⟩ | ⟨rfl, R2, x, hb, rfl, rfl, rfl⟩
  · have bne : (te == 0) = false := by simpa using hne
    have HNE := hide hne
    have HC1 := hide hC1
    have HL1 := hide hl1
    clear hne hC1 hl1 HF
    go_wp2_with fail
    go_ret
    have hT := unhide HT
    rw [if_neg (unhide HNE)] at hT
    subst hT
    exact ⟨rfl, lg1, vs1, lv1, R1, unhide HC1, unhide HL1⟩
  · have HCT := hide (counts_any w1 q g lv1 (R2 ++ [x]) c hb hC1.d (unhide HNN))
    have HC1 := hide hC1
    have HL1 := hide hl1
    unfold ptr at *
    clear hC1 hl1 HF
    go_wp2_with fail
    refine (unhide HCT).mono ?_
    rintro e w2 ⟨rfl, hD2, f2⟩
    have hC2 := (unhide HC1).trans (Dd.num (unhide HC1).d (unhide HC1).hh hD2 f2)
    obtain ⟨pv, hp⟩ := hC2.d.pl x (by simp)
    have hok := hC2.d.ok x (by simp)
    obtain ⟨-, -, -, -, -, p5⟩ := hp.cells
    have z5 := frozen_of_heap hp.1 5
    have hpl : x.2.pins ≤ 999999990 := unhide HPF x.2 (by rw [← unhide HL1]; simp)
    have hp0 : 0 ≤ x.2.pins := hok.pins.1
    obtain ⟨hp3, f3⟩ := hp.put (y := { x.2 with pins := x.2.pins + 1 }) 5 (.int .i64 (x.2.pins + 1)) (by simp [fz, lz]) rfl
    have HC3 := hide (hC2.trans (Dd.turn (R1 := R2) (R2 := []) hC2.d hC2.hh f3 ⟨pv, hp3⟩ ⟨hok.len, hok.b, hok.first, hok.last, by dsimp only; omega, by dsimp only; omega⟩))
    clear hC2 hp hok hp3 f3 hD2 f2 HCT
    go_wp2_with fail
    go_ret
    have hT := unhide HT
    rw [if_pos trivial] at hT
    have hl : tl = R2.map Prod.snd ++ [x.2] := by rw [← unhide HL1]; simp
    have hT2 : T = R2.map Prod.snd ++ [{ x.2 with pins := x.2.pins + 1 }] := by rw [hT, hl]; simp [pinL]
    subst hT2
    exact ⟨rfl, lg1, vs1, lv1, _, unhide HC3, by simp⟩

set_option maxRecDepth 100000 in
set_option maxHeartbeats 1000000 in
theorem dunpin_any [Av] (b : Int) (hR : R.length ≤ 4096) (H : DAt w q g lv R c) (HH : HAtG w g dv lg vs m) : Calls Try.prog 34 #[ptr q, .int .i64 b] w fun e w' => e = .returned (.int .i64 (unR (R.map Prod.snd) b).1) ∧ ∃ lg' vs' lv' R', Dd w w' q g dv lg lv R lg' vs' lv' R' c m ∧ R'.map Prod.snd = (unR (R.map Prod.snd) b).2 := by
  have HA := hide (at_any w q g lv R c b (by omega) H)
  obtain ⟨-, -, c2, -⟩ := H.cells
  have HD := hide H
  have HHM := hide HH
  rcases hat : atI (R.map Prod.snd) b with _ | i
  · have han : atN (R.map Prod.snd) b = -1 := by unfold atN; rw [hat]
    rw [han] at HA
    have HE : Hid (unR (R.map Prod.snd) b = (92, R.map Prod.snd)) := hide (by unfold unR; rw [hat])
    clear H HH hat han hR
    unfold ptr at *
    go_enter Try.func34, Try.ntmps34
    go_wp2_with fail
    refine (unhide HA).mono ?_
    rintro e w1 ⟨rfl, rfl⟩
    go_wp2_with fail
    go_ret
    rw [unhide HE]
    exact ⟨rfl, lg, vs, lv, R, Dd.same (unhide HD) (unhide HHM) (Fr.refl _ _), rfl⟩
  · have han : atN (R.map Prod.snd) b = (i : Int) := by unfold atN; rw [hat]
    rw [han] at HA
    obtain ⟨x, hx, hxb⟩ := at_some hat
    have hset : ∀ y, (R.map Prod.snd).set i y = (R.map Prod.snd).set i y := fun _ => rfl
    obtain ⟨R1, a, R2, rfl, rfl, hers⟩ := split_at hx
    obtain ⟨gl, cap, e, hnc, hcm, hcl⟩ := H.lit (by simp; omega)
    have ci := hcl R1.length (by simp)
    have ex : (R1 ++ (a, x) :: R2)[R1.length]'(by simp) = (a, x) := by simp
    rw [ex] at ci
    obtain ⟨pv, hp⟩ := H.pl (a, x) (by simp)
    have hok := H.ok (a, x) (by simp)
    obtain ⟨-, -, -, -, -, p5⟩ := hp.cells
    have z5 := frozen_of_heap hp.1 5
    obtain ⟨i, hi⟩ : ∃ i, i = R1.length := ⟨_, rfl⟩
    obtain ⟨n, hn⟩ : ∃ n, n = (R1 ++ (a, x) :: R2).length := ⟨_, rfl⟩
    have hin : i < n := by rw [hn, hi]; simp
    rw [← hn] at e hnc
    rw [← hi] at ci HA
    have hic : i < cap := by omega
    have hi5 : i ≤ 5000 := by omega
    dsimp only at p5 z5 ci
    by_cases hp0 : x.pins = 0
    · have HE : Hid (unR ((R1 ++ (a, x) :: R2).map Prod.snd) b = (92, (R1 ++ (a, x) :: R2).map Prod.snd)) := hide (by unfold unR; rw [hat]; dsimp only; rw [hx]; dsimp only; rw [if_pos hp0])
      rw [hp0] at p5
      clear H HH hat han hR hx hers hcl hcm hp hok hp0 hset ex hn hi hxb
      subst e
      unfold ptr at *
      go_enter Try.func34, Try.ntmps34
      go_wp2_with fail
      refine (unhide HA).mono ?_
      rintro e w1 ⟨rfl, rfl⟩
      go_wp2_with fail
      go_ret
      rw [unhide HE]
      exact ⟨rfl, lg, vs, _, _, Dd.same (unhide HD) (unhide HHM) (Fr.refl _ _), rfl⟩
    · have HE : Hid (unR ((R1 ++ (a, x) :: R2).map Prod.snd) b = (0, (R1 ++ (a, { x with pins := x.pins - 1 }) :: R2).map Prod.snd)) := hide (by
        unfold unR; rw [hat]; dsimp only; rw [hx]; dsimp only; rw [if_neg hp0]
        simp [List.set_append_right])
      have hpn := hok.pins
      have q0 : (x.pins == 0) = false := by simpa using hp0
      obtain ⟨hp3, f3⟩ := hp.put (y := { x with pins := x.pins - 1 }) 5 (.int .i64 (x.pins - 1)) (by simp [fz, lz]) rfl
      have HC3 := hide (Dd.turn (R1 := R1) (R2 := R2) H HH f3 ⟨pv, hp3⟩ ⟨hok.len, hok.b, hok.first, hok.last, by dsimp only at hpn ⊢; omega, by dsimp only at hpn ⊢; omega⟩)
      dsimp only at hpn
      clear H HH hat han hR hx hers hcl hcm hp hok hp0 hset ex hn hi hxb hp3 f3
      subst e
      unfold ptr at *
      go_enter Try.func34, Try.ntmps34
      go_wp2_with fail
      refine (unhide HA).mono ?_
      rintro e w1 ⟨rfl, rfl⟩
      go_wp2_with fail
      go_ret
      rw [unhide HE]
      exact ⟨rfl, lg, vs, _, _, unhide HC3, rfl⟩

set_option maxRecDepth 100000 in
theorem dsafe_any [Av] (s : Nat) (hs : s < 18446744073709551616) (H : DAt w q g lv R c) (HH : HAtG w g dv lg vs m) : Calls Try.prog 35 #[ptr q, .int .u64 (s : Int)] w fun e w' => e = .returned (.tuple #[]) ∧ Dd w w' q g dv lg lv R lg vs lv R { c with safe := max c.safe s } m := by
  obtain ⟨-, -, -, c3, -⟩ := H.cells
  have z3 := frozen_of_heap H.heap 3
  have hnum := H.num
  obtain ⟨h1, f1⟩ := H.cell (c' := { c with safe := max c.safe s }) 3 (.int .u64 ((max c.safe s : Nat) : Int)) (by simp) ⟨hnum.1, hnum.2.1, by show max c.safe s < _; omega, hnum.2.2.2⟩
  have HC := hide (Dd.num H HH h1 f1)
  have hm : max (c.safe : Int) (s : Int) = ((max c.safe s : Nat) : Int) := by omega
  obtain ⟨M, hM⟩ : ∃ M, M = max c.safe s := ⟨_, rfl⟩
  clear H HH h1 f1 hnum
  unfold ptr at *
  go_enter Try.func35, Try.ntmps35
  go_wp2_with fail
  go_end0
  exact ⟨rfl, unhide HC⟩
end
end Go.Proofs.Ytdgmlopaeonacaa
