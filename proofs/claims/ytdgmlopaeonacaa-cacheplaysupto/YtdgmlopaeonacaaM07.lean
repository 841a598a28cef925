/-
  A block is fetched.
  The cache's Read, Write, Safe.
-/
import Derived.Test.YtdgmlopaeonacaaM06
namespace Go.Proofs.Ytdgmlopaeonacaa
set_option linter.unusedVariables false
set_option linter.unusedSimpArgs false
open Go.RowKit
set_option linter.unusedVariables false

attribute [local go_sem ↓] Go.wp_at_zero Go.wp_at_succ

/-- Cache and home behind a call, each part by its name. -/
structure Cs [Av] (w w' : World) (p h r u : Nat) (dv lv : Value) (R : List (Nat × Pl)) (lv' : Value) (vs' : List Value) (L' : List (Int × Nat)) (R' : List (Nat × Pl)) (c : Ca) (m : Hm) : Prop where
  k : KAt w' p h r u L' R' c
  hh : HAt w' h dv lv' vs' m
  sub : ∀ k ∈ adr R', k ∈ adr R ∨ w.heap.size ≤ k
  lvn : ∀ b, lv'.ownBlock = some b → lv.ownBlock = some b ∨ w.heap.size ≤ b
  f : Fr (fun k => HB h dv lv k ∨ KB p r u R k) w w'

section
variable {w w1 w2 : World} {p h r u : Nat} {dv lv lv1 lv2 : Value} {vs vs1 vs2 : List Value} {L L1 L2 : List (Int × Nat)} {R R1 R2 : List (Nat × Pl)} {c c1 c2 : Ca} {m m1 m2 : Hm} {l : List Pl}
theorem Cs.cp [Av] (H : Cs w w1 p h r u dv lv R lv1 vs1 L1 R1 c m) (hl : R1.map Prod.snd = l) : Cp w w1 p h r u dv lv R c m l := ⟨lv1, vs1, L1, R1, H.k, H.hh, hl, H.sub, H.lvn, H.f⟩
theorem Cs.same [Av] (H : KAt w p h r u L R c) (HH : HAt w h dv lv vs m) (f : Fr (fun _ => False) w w1) : Cs w w1 p h r u dv lv R lv vs L R c m :=
  ⟨H.kept0 f, HH.kept0 f, fun _ h => .inl h, fun _ h => .inl h, f.mono (fun _ _ e => e.elim)⟩
theorem Cs.trans [Av] (h1 : Cs w w1 p h r u dv lv R lv1 vs1 L1 R1 c1 m1) (h2 : Cs w1 w2 p h r u dv lv1 R1 lv2 vs2 L2 R2 c2 m2) : Cs w w2 p h r u dv lv R lv2 vs2 L2 R2 c2 m2 := by
  have hs := h1.f.size
  refine ⟨h2.k, h2.hh, fun k hk => ?_, fun b hb => ?_, h1.f.trans h2.f (fun k hk e => ?_)⟩
  · rcases h2.sub k hk with e | e
    · exact h1.sub k e
    · right; omega
  · rcases h2.lvn b hb with e | e
    · exact h1.lvn b e
    · right; omega
  · rcases e with (e | e | e) | (e | e | e)
    · exact .inl (.inl e)
    · exact .inl (.inr (.inl e))
    · rcases h1.lvn k e with e | e
      · exact .inl (.inr (.inr e))
      · omega
    · exact .inr (.inl e)
    · exact .inr (.inr (.inl e))
    · rcases List.mem_cons.1 e with e | e
      · exact .inr (.inr (.inr (by rw [e]; simp)))
      · rcases h1.sub k e with e | e
        · exact .inr (.inr (.inr (List.mem_cons_of_mem _ e)))
        · omega
/-- A call of the cache alone. -/
theorem Cs.cache [Av] (H : KAt w p h r u L R c) (HH : HAt w h dv lv vs m) (k : KAt w1 p h r u L1 R1 c1) (hs : ∀ k ∈ adr R1, k ∈ adr R ∨ w.heap.size ≤ k) (f : Fr (KB p r u R) w w1) : Cs w w1 p h r u dv lv R lv vs L1 R1 c1 m :=
  ⟨k, HH.kept f (fun k hk => by rcases H.knds hk with e | e | e <;> rw [e] <;> decide), hs, fun _ h => .inl h, f.mono (fun _ _ e => .inr e)⟩
/-- A call of the home alone. -/
theorem Cs.home [Av] (H : KAt w p h r u L R c) (HH : HAt w h dv lv vs m) (k : HAt w1 h dv lv1 vs1 m1) (hl : ∀ b, lv1.ownBlock = some b → lv.ownBlock = some b ∨ w.heap.size ≤ b) (f : Fr (HB h dv lv) w w1) : Cs w w1 p h r u dv lv R lv1 vs1 L R c m1 :=
  ⟨H.kept f (fun k hk => by rcases HH.knds hk with e | e | e <;> rw [e] <;> decide), k, fun _ h => .inl h, hl, f.mono (fun _ _ e => .inl e)⟩

/-- One of the cache's own numbers turns. -/
theorem KAt.cell (H : KAt w p h r u L R c) (i : Nat) (v : Value) (c' : Ca) (hc : (#[.iface 25 (ptr h), .int .i64 (c.places : Int), .map (some r), ptr u, .int .u64 (c.safe : Int), .int .i64 (c.hit : Int), .int .i64 (c.miss : Int)] : Array Value).setIfInBounds i v = #[.iface 25 (ptr h), .int .i64 (c'.places : Int), .map (some r), ptr u, .int .u64 (c'.safe : Int), .int .i64 (c'.hit : Int), .int .i64 (c'.miss : Int)]) (hn : c'.hit ≤ 1000000000 ∧ c'.miss ≤ 1000000000 ∧ c'.safe < 18446744073709551616 ∧ c'.places ≤ 4096) : KAt (w.setCell ⟨p, i, none⟩ v) p h r u L R c' ∧ Fr (fun k => k = p) w (w.setCell ⟨p, i, none⟩ v) := by
  have f : Fr (fun k => k = p) w (w.setCell ⟨p, i, none⟩ v) := (Fr.refl (fun k => k = p) w).setCell (p := ⟨p, i, none⟩) (fun _ => rfl) _
  refine ⟨⟨?_, H.ring.kept f (fun k hk e => ?_), H.mp.kept f (fun e => ?_), H.pm, H.ok, hn⟩, f⟩
  · rw [heap_setCell_same w p i _ 78 v H.heap, hc]
  · have := H.ring.knd hk
    rw [show k = p from e, knd_cells H.heap] at this
    exact absurd this (by decide)
  · have := H.mp.knd
    rw [show r = p from e, knd_cells H.heap] at this
    exact absurd this (by decide)
end

theorem knd_lt {w : World} {k : Nat} (h : knd w k ≠ 1001) : k < w.heap.size := by
  rcases Nat.lt_or_ge k w.heap.size with h' | h'
  · exact h'
  · exfalso
    apply h
    unfold knd
    rw [Array.getElem?_eq_none h']
theorem KAt.ltB {w : World} {p h r u : Nat} {L : List (Int × Nat)} {R : List (Nat × Pl)} {c : Ca} (H : KAt w p h r u L R c) {k : Nat} (hk : KB p r u R k) : k < w.heap.size := knd_lt (by rcases H.knds hk with e | e | e <;> rw [e] <;> decide)

/-- Where a block is. -/
def atI (l : List Pl) (b : Int) : Option Nat := l.findIdx? fun x => decide (x.b = b)
theorem at_some {l : List Pl} {b : Int} {i : Nat} (h : atI l b = some i) : ∃ x, l[i]? = some x ∧ x.b = b := by
  unfold atI at h
  obtain ⟨h1, h2, -⟩ := List.findIdx?_eq_some_iff_getElem.1 h
  exact ⟨_, List.getElem?_eq_getElem h1, by simpa using h2⟩
theorem at_none {l : List Pl} {b : Int} (h : atI l b = none) : ∀ x ∈ l, x.b ≠ b := by
  unfold atI at h
  rw [List.findIdx?_eq_none_iff] at h
  intro x hx
  simpa using h x hx
theorem split_at {R : List (Nat × Pl)} {i : Nat} {x : Pl} (h : (R.map Prod.snd)[i]? = some x) : ∃ R1 a R2, R = R1 ++ (a, x) :: R2 ∧ R1.length = i ∧ (R.map Prod.snd).eraseIdx i = (R1 ++ R2).map Prod.snd := by
  have hi : i < R.length := by have := (List.getElem?_eq_some_iff.1 h).1; simpa using this
  refine ⟨R.take i, (R[i]).1, R.drop (i + 1), ?_, by simp; omega, ?_⟩
  · have e : ((R[i]).1, x) = R[i] := by
      have : x = (R[i]).2 := by
        have := h
        simp [List.getElem?_map, List.getElem?_eq_getElem hi] at this
        exact this.symm
      rw [this]
    rw [e, List.getElem_cons_drop, List.take_append_drop]
  · rw [List.eraseIdx_eq_take_drop_succ]
    simp [List.map_take, List.map_drop]

/-- Fetching a block, plainly: the answer, the blocks, the home, the numbers. -/
def ftR (c : Ca) (m : Hm) (l : List Pl) (b : Int) : Int × List Pl × Hm × Ca :=
  if chE m b = 0 then
    match atI l b with
    | some i => match l[i]? with
      | some x => (0, l.eraseIdx i ++ [x], m, { c with hit := c.hit + 1 })
      | none => (0, l, m, c)
    | none =>
      if (rmR c m l).1 = 0 then
        if (rmR c m l).2.2.fa = true then (77, (rmR c m l).2.1, (rmR c m l).2.2.one, c)
        else (0, (rmR c m l).2.1 ++ [{ zeroP b with P := (rmR c m l).2.2.D.getD b.toNat [] }], (rmR c m l).2.2.one, { c with miss := c.miss + 1 })
      else ((rmR c m l).1, (rmR c m l).2.1, (rmR c m l).2.2, c)
  else (chE m b, l, m, c)

section
variable (w : World) (p h r u : Nat) (L : List (Int × Nat)) (R : List (Nat × Pl)) (c : Ca) (dv lv : Value) (vs : List Value) (m : Hm)

/-- What fetch answers: the block, which is the last one then, or an error. -/
def FtP [Av] (w : World) (p h r u : Nat) (dv lv : Value) (R : List (Nat × Pl)) (t : Int × List Pl × Hm × Ca) (e : Ending) (w' : World) : Prop :=
  ∃ lv' vs' L' R', Cs w w' p h r u dv lv R lv' vs' L' R' t.2.2.2 t.2.2.1 ∧ R'.map Prod.snd = t.2.1 ∧ ((t.1 ≠ 0 ∧ e = .returned (.tuple #[.pointer none, .int .i64 t.1])) ∨ (t.1 = 0 ∧ ∃ R'' q, R' = R'' ++ [q] ∧ e = .returned (.tuple #[ptr q.1, .int .i64 0])))

theorem rmR_facts (c : Ca) (m : Hm) (l : List Pl) : (rmR c m l).2.2.D.length = m.D.length ∧ (rmR c m l).2.2.calls ≤ m.calls + 1 ∧ (∀ x ∈ (rmR c m l).2.1, x ∈ l) ∧ True := by
  unfold rmR
  split
  · exact ⟨rfl, Nat.le_succ _, fun _ h => h, trivial⟩
  · split
    · exact ⟨rfl, Nat.le_succ _, fun _ h => h, trivial⟩
    · split
      · exact ⟨rfl, Nat.le_succ _, fun _ h => h, trivial⟩
      · split
        · split
          · exact ⟨rfl, Nat.le_refl _, fun _ h => h, trivial⟩
          · exact ⟨by simp [Hm.put], Nat.le_refl _, fun x h => List.mem_of_mem_eraseIdx h, trivial⟩
        · exact ⟨rfl, Nat.le_succ _, fun x h => List.mem_of_mem_eraseIdx h, trivial⟩

theorem chE_vals (m : Hm) (b : Int) : chE m b = 0 ∨ chE m b = 2 := by unfold chE; split <;> simp
theorem chE_in {m : Hm} {b : Int} (h : chE m b = 0) : 0 ≤ b ∧ b < (m.D.length : Int) := by
  unfold chE at h
  split at h
  · simp at h
  · omega

set_option maxRecDepth 100000 in
set_option maxHeartbeats 1000000 in
theorem fetch_any [Av] (b : Int) (H : KAt w p h r u L R c) (HH : HAt w h dv lv vs m) (hD : ∀ q ∈ R, q.2.b < (m.D.length : Int)) (hc : m.calls < 999999990) (hn : c.hit + c.miss < 1000000000) : Calls Try.prog 42 #[ptr p, .int .i64 b] w fun e w' => FtP w p h r u dv lv R (ftR c m (R.map Prod.snd) b) e w' := by
  have HCH := hide (check_any w p h r u L R c dv lv vs m b H HH)
  have c2 := cell_of_heap H.heap 2
  have c5 := cell_of_heap H.heap 5
  simp at c2 c5
  have z5 := frozen_of_heap H.heap 5
  unfold ptr at *
  rcases chE_vals m b with hch | hch
  · rw [hch] at HCH
    rcases hat : atI (R.map Prod.snd) b with _ | i
    · have hno := at_none hat
      have hnoR : ∀ q ∈ R, q.2.b ≠ b := fun q hq => hno q.2 (List.mem_map.2 ⟨q, hq, rfl⟩)
      have hlk := run_look_out H.mp (H.lookNo hnoR)
      have HMR := hide (makeRoom_any w p h r u L R c dv lv vs m H HH hD (by omega))
      obtain ⟨hb0, hb1⟩ := chE_in hch
      have hft : ftR c m (R.map Prod.snd) b = if (rmR c m (R.map Prod.snd)).1 = 0 then
        if (rmR c m (R.map Prod.snd)).2.2.fa = true then (77, (rmR c m (R.map Prod.snd)).2.1, (rmR c m (R.map Prod.snd)).2.2.one, c)
        else (0, (rmR c m (R.map Prod.snd)).2.1 ++ [{ zeroP b with P := (rmR c m (R.map Prod.snd)).2.2.D.getD b.toNat [] }], (rmR c m (R.map Prod.snd)).2.2.one, { c with miss := c.miss + 1 })
      else ((rmR c m (R.map Prod.snd)).1, (rmR c m (R.map Prod.snd)).2.1, (rmR c m (R.map Prod.snd)).2.2, c) := by
        unfold ftR; rw [if_pos hch, hat]
      have hrv := rmR_facts c m (R.map Prod.snd)
      rw [hft]
      generalize rmR c m (R.map Prod.snd) = rm at HMR hrv
      obtain ⟨e, l1, m1⟩ := rm
      dsimp only at HMR hrv ⊢
      unfold ptr at HMR
      obtain ⟨hD1, hc1, hsub, he⟩ := hrv
      have HNO := hide hnoR
      have HSUB := hide hsub
      have HC := hide hc
      have HB0 := hide hb0
      have HB1 := hide hb1
      have HD1 := hide hD1
      have HC1 := hide hc1
      clear H HH hD hc hno hnoR hat hch hft hsub hb0 hb1 hD1 hc1
      by_cases he0 : e = 0
      · subst he0
        rw [if_pos rfl]
        obtain ⟨T, hT⟩ : ∃ T : Int × List Pl × Hm × Ca, T = (if m1.fa = true then (77, l1, m1.one, c) else (0, l1 ++ [{ zeroP b with P := m1.D.getD b.toNat [] }], m1.one, { c with miss := c.miss + 1 })) := ⟨_, rfl⟩
        rw [← hT]
        have HTT := hide hT
        clear he hT
        go_enter Try.func42, Try.ntmps42
        go_wp2_with fail
        refine (unhide HCH).mono ?_
        rintro e w' ⟨rfl, rfl⟩
        go_wp2_with fail
        refine (unhide HMR).mono ?_
        rintro e w1 ⟨rfl, lv1, vs1, L1, R1, hK1, hH1, hl1, hs1, hv1, f1⟩
        have hCs : Cs w w1 p h r u dv lv R lv1 vs1 L1 R1 c m1 := ⟨hK1, hH1, hs1, hv1, f1⟩
        have c0 := cell_of_heap hK1.heap 0
        simp at c0
        unfold ptr at c0
        have hbi : b.toNat < m1.D.length := by have h1 := unhide HB0; have h2 := unhide HB1; have h3 := unhide HD1; omega
        have hcl : m1.calls < 1000000000 := by have h1 := unhide HC; have h3 := unhide HC1; omega
        have hbe : ((b.toNat : Nat) : Int) = b := by have h1 := unhide HB0; omega
        have hDi : m1.D[b.toNat]? = some (m1.D.getD b.toNat []) := by simp [List.getD, hbi]
        have HRD := hide (hread_any w1 h dv lv1 vs1 m1 b.toNat _ hDi hH1 hcl)
        rw [hbe] at HRD
        have hDl : (m1.D.getD b.toNat []).length = 384 := hH1.ok.all _ (List.mem_of_getElem? hDi)
        have HDL := hide hDl
        have hnob : ∀ q ∈ R1, q.2.b ≠ b := fun q hq => by
          have : q.2 ∈ R.map Prod.snd := unhide HSUB _ (by rw [← hl1]; exact List.mem_map.2 ⟨q, hq, rfl⟩)
          obtain ⟨q', hq', e⟩ := List.mem_map.1 this
          rw [← e]; exact unhide HNO q' hq'
        have HNOB := hide hnob
        obtain ⟨Di, hDD⟩ : ∃ Di, Di = m1.D.getD b.toNat [] := ⟨_, rfl⟩
        rw [← hDD] at HRD HDL
        have HDD := hide hDD
        clear hDD
        have HCs := hide hCs
        have HL1 := hide hl1
        have HK1 := hide hK1
        have HH1 := hide hH1
        unfold ptr at HRD
        clear hCs hl1 hK1 hH1 hs1 hv1 f1 HMR hbi hcl hbe hDi hDl hnob
        rcases hfa : m1.fa with _ | _
        · rw [hfa] at HRD HTT
          go_wp2_with fail
          refine (unhide HRD).mono ?_
          rintro e w2 ⟨h2, hH2, f2⟩
          obtain ⟨ao, cc, rfl, hrd, hnew⟩ := (h2.resolve_left (fun h => by simp at h)).2
          have hCs2 := (unhide HCs).trans (Cs.home (unhide HK1) (unhide HH1) hH2 (fun _ h => .inl h) (f2.mono (fun _ _ e => .inl e)))
          have d6 := cell_of_heap hCs2.k.heap 6
          simp at d6
          have z6 := frozen_of_heap hCs2.k.heap 6
          have hbd : c.miss < 1000000000 := by omega
          obtain ⟨hK3, f3⟩ := hCs2.k.cell 6 (.int .i64 ((c.miss : Int) + 1)) { c with miss := c.miss + 1 } (by simp) ⟨hCs2.k.num.1, by dsimp only; omega, hCs2.k.num.2.2.1, hCs2.k.num.2.2.2⟩
          have hCs3 := hCs2.trans (Cs.cache hCs2.k hH2 hK3 (fun _ h => .inl h) (f3.mono (fun _ _ e => .inl e)))
          have HT := hide (take_any _ p h r u L1 R1 _ b (unhide HNOB) (unhide HB0) hK3)
          have hp2 : p < w1.heap.size := (unhide HK1).ltB (.inl rfl)
          have hrd3 : Rd (w2.setCell ⟨p, 6, none⟩ (.int .i64 ((c.miss : Int) + 1))) (.slice ao 384 cc) Di := hrd.kept f3 (fun b hb e => by have := hnew b hb; have e' : b = p := e; omega)
          have HRD3 := hide hrd3
          have HNEW := hide hnew
          have HCs3 := hide hCs3
          have HK3 := hide hK3
          have HF2 := hide f2
          have HSZ : Hid ((w2.setCell ⟨p, 6, none⟩ (.int .i64 ((c.miss : Int) + 1))).heap.size = w2.heap.size) := hide (by simp [World.setCell])
          unfold ptr at HT
          clear h2 hH2 f2 hrd hnew hCs2 hK3 f3 hCs3 hrd3 HRD HCs hfa
          go_wp2_with fail
          refine (unhide HT).mono ?_
          rintro e w4 ⟨rfl, ⟨L4, hK4⟩, f4⟩
          rw [unhide HSZ] at hK4 ⊢
          have hCs4 := (unhide HCs3).trans (Cs.cache (unhide HK3) (unhide HCs3).hh hK4 (fun k hk => by
            simp [adr] at hk
            rcases hk with h | h
            · exact .inl (by simp [adr]; exact h)
            · right; rw [unhide HSZ]; omega) f4)
          obtain ⟨o4, n4, hN4⟩ := hK4.at (q := (w2.heap.size, zeroP b)) (by simp)
          have hrd4 := (unhide HRD3).kept f4 (fun bb hb e => by
            have h1 := unhide HNEW bb hb
            have h3 : bb < w1.heap.size := (unhide HK1).ltB e
            omega)
          have HFL := hide (fill_any w4 w2.heap.size _ _ _ hN4 (by simp [zeroP]) _ Di hrd4 (by rw [unhide HDL]; decide))
          have HCs4 := hide hCs4
          have HK4 := hide hK4
          have HN4 := hide hN4
          unfold ptr at HFL
          clear hK4 f4 hCs4 hN4 hrd4 HT
          go_wp2_with fail
          refine (unhide HFL).mono ?_
          rintro e w5 ⟨rfl, hN5, f5⟩
          have hpad : pad Di = Di := by unfold pad; rw [unhide HDL]; simp
          rw [hpad] at hN5
          have hK5 : KAt w5 p h r u L4 (R1 ++ [(w2.heap.size, { zeroP b with P := Di })]) { c with miss := c.miss + 1 } := KAt.turn (R2 := []) (unhide HK4) rfl ⟨unhide HDL, unhide HB0, by simp [zeroP], by simp [zeroP], by simp [zeroP]⟩ (fun o n hno => by
            have e := (unhide HK4).ring.nd
            rw [NAt] at hno
            have h1 := unhide HN4
            have h2 := h1
            unfold NAt at h2
            rw [hno] at h2
            simp [nodeC] at h2
            obtain ⟨rfl, rfl⟩ := h2
            exact hN5) f5
          have HCs5 := hide ((unhide HCs4).trans (Cs.cache (unhide HK4) (unhide HCs4).hh hK5 (fun k hk => .inl (by simpa [adr] using hk)) (f5.mono (fun k _ e => .inr (.inr (by rw [e]; simp [adr]))))))
          clear hK5 hN5 f5 HFL
          go_wp2_with fail
          go_ret2
          have hT := unhide HTT
          rw [if_neg (by decide), ← unhide HDD] at hT
          subst hT
          exact ⟨lv1, vs1, L4, _, unhide HCs5, by rw [List.map_append, unhide HL1]; rfl, .inr ⟨rfl, R1, (w2.heap.size, { zeroP b with P := Di }), rfl, rfl⟩⟩
        · rw [hfa] at HRD HTT
          go_wp2_with fail
          refine (unhide HRD).mono ?_
          rintro e w2 ⟨h2, hH2, f2⟩
          obtain ⟨-, rfl⟩ := h2.resolve_right (fun h => by simp at h)
          have HCs2 := hide ((unhide HCs).trans (Cs.home (unhide HK1) (unhide HH1) hH2 (fun _ h => .inl h) (f2.mono (fun _ _ e => .inl e))))
          clear h2 hH2 f2 HRD HCs hfa
          go_wp2_with fail
          go_ret2
          have hT := unhide HTT
          rw [if_pos trivial] at hT
          subst hT
          exact ⟨lv1, vs1, L1, R1, unhide HCs2, unhide HL1, .inl ⟨show (77 : Int) ≠ 0 by decide, rfl⟩⟩
      · rw [if_neg he0]
        have bne : (e != 0) = true := by simpa using he0
        clear he
        go_enter Try.func42, Try.ntmps42
        go_wp2_with fail
        refine (unhide HCH).mono ?_
        rintro e w' ⟨rfl, rfl⟩
        go_wp2_with fail
        refine (unhide HMR).mono ?_
        rintro e w1 ⟨rfl, lv1, vs1, L1, R1, hK1, hH1, hl1, hs1, hv1, f1⟩
        have HCs : Hid (Cs w w1 p h r u dv lv R lv1 vs1 L1 R1 c m1) := hide ⟨hK1, hH1, hs1, hv1, f1⟩
        have HL1 := hide hl1
        have HE0 := hide he0
        clear hK1 hH1 hl1 hs1 hv1 f1 HMR he0
        go_wp2_with fail
        go_ret2
        exact ⟨lv1, vs1, L1, R1, unhide HCs, unhide HL1, .inl ⟨unhide HE0, rfl⟩⟩
    · obtain ⟨x, hx, hxb⟩ := at_some hat
      obtain ⟨R1, a, R2, rfl, hl1, hers⟩ := split_at hx
      have e : ftR c m ((R1 ++ (a, x) :: R2).map Prod.snd) b = (0, (R1 ++ R2 ++ [(a, x)]).map Prod.snd, m, { c with hit := c.hit + 1 }) := by
        unfold ftR; rw [if_pos hch, hat]; dsimp only; rw [hx, hers]; simp
      rw [e]
      have hlk := run_look_in H.mp (H.look (q := (a, x)) (by simp))
      dsimp only at hlk
      rw [hxb] at hlk
      obtain ⟨hK1, f1⟩ := H.cell 5 (.int .i64 ((c.hit : Int) + 1)) { c with hit := c.hit + 1 } (by simp) ⟨by have := H.num; dsimp only; omega, H.num.2.1, H.num.2.2.1, H.num.2.2.2⟩
      have HU := hide (use_any _ p h r u L { c with hit := c.hit + 1 } R1 R2 (a, x) hK1)
      have HK1 := hide hK1
      have F1 := hide f1
      have HK := hide H
      have HHH := hide HH
      have hbd : c.hit ≤ 1000000000 := H.num.1
      unfold ptr at *
      clear H HH hK1 f1 hD hx hers hat e
      go_enter Try.func42, Try.ntmps42
      go_wp2_with fail
      refine (unhide HCH).mono ?_
      rintro e w' ⟨rfl, rfl⟩
      go_wp2_with fail
      refine (unhide HU).mono ?_
      rintro e w2 ⟨rfl, hK2, f2⟩
      have hF : Fr (KB p r u (R1 ++ (a, x) :: R2)) w w2 := ((unhide F1).mono (fun _ _ e => .inl e)).trans f2 (fun k _ e => .inr (.inr e))
      have HCs := hide (Cs.cache (dv := dv) (lv := lv) (unhide HK) (unhide HHH) hK2 (fun k hk => by
        simp [adr] at hk ⊢
        rcases hk with h | h | h
        · exact .inl (.inl h)
        · exact .inl (.inr (.inr h))
        · exact .inl (.inr (.inl h))) hF)
      clear hK2 f2 hF HU
      go_wp2_with fail
      go_ret2
      exact ⟨lv, vs, L, R1 ++ R2 ++ [(a, x)], unhide HCs, rfl, .inr ⟨rfl, R1 ++ R2, (a, x), rfl, rfl⟩⟩
  · have e : ftR c m (R.map Prod.snd) b = (2, R.map Prod.snd, m, c) := by
      unfold ftR; rw [if_neg (by rw [hch]; decide), hch]
    rw [e]
    rw [hch] at HCH
    have HCs := hide (Cs.same (w1 := w) H HH (Fr.refl _ _))
    clear H HH hD e hch
    go_enter Try.func42, Try.ntmps42
    go_wp2_with fail
    refine (unhide HCH).mono ?_
    rintro e w' ⟨rfl, rfl⟩
    go_wp2_with fail
    go_ret2
    exact ⟨lv, vs, L, R, unhide HCs, rfl, .inl ⟨show (2 : Int) ≠ 0 by decide, rfl⟩⟩
end
end Go.Proofs.Ytdgmlopaeonacaa

namespace Go.Proofs.Ytdgmlopaeonacaa
set_option linter.unusedVariables false
set_option linter.unusedSimpArgs false
open Go.RowKit
set_option linter.unusedVariables false

attribute [local go_sem ↓] Go.wp_at_zero Go.wp_at_succ

/-- What Read answers: the block's bytes in new memory, or an error. -/
def RdP [Av] (w : World) (p h r u : Nat) (dv lv : Value) (R : List (Nat × Pl)) (t : Int × List Pl × Hm × Ca) (e : Ending) (w' : World) : Prop :=
  ∃ lv' vs' L' R', Cs w w' p h r u dv lv R lv' vs' L' R' t.2.2.2 t.2.2.1 ∧ R'.map Prod.snd = t.2.1 ∧ ((t.1 ≠ 0 ∧ e = .returned (.tuple #[.slice none 0 0, .int .i64 t.1])) ∨ (t.1 = 0 ∧ ∃ x ao cc, t.2.1.getLast? = some x ∧ e = .returned (.tuple #[.slice ao 384 cc, .int .i64 0]) ∧ Rd w' (.slice ao 384 cc) x.P ∧ x.P.length = 384 ∧ (∀ b, (Value.slice ao 384 cc).ownBlock = some b → w.heap.size ≤ b) ∧ ∀ b, (Value.slice ao 384 cc).ownBlock = some b → knd w' b = 5))

section
variable (w : World) (p h r u : Nat) (L : List (Int × Nat)) (R : List (Nat × Pl)) (c : Ca) (dv lv : Value) (vs : List Value) (m : Hm)

set_option maxRecDepth 100000 in
set_option maxHeartbeats 1000000 in
theorem cread_any [Av] (b : Int) (H : KAt w p h r u L R c) (HH : HAt w h dv lv vs m) (hD : ∀ q ∈ R, q.2.b < (m.D.length : Int)) (hc : m.calls < 999999990) (hn : c.hit + c.miss < 1000000000) : Calls Try.prog 22 #[ptr p, .int .i64 b] w fun e w' => RdP w p h r u dv lv R (ftR c m (R.map Prod.snd) b) e w' := by
  have HF := hide (fetch_any w p h r u L R c dv lv vs m b H HH hD hc hn)
  clear H HH hD hc hn
  generalize ftR c m (R.map Prod.snd) b = t at *
  obtain ⟨te, tl, tm, tc⟩ := t
  unfold ptr at *
  go_enter Try.func22, Try.ntmps22
  go_wp2_with fail
  refine (unhide HF).mono ?_
  rintro e w1 ⟨lv1, vs1, L1, R1, hCs, hl1, h1⟩
  dsimp only at hCs hl1 h1
  rcases h1 with ⟨hne, rfl⟩ | ⟨rfl, R2, ⟨qa, qx⟩, rfl, rfl⟩
  · have bne : (te != 0) = true := by simpa using hne
    have HNE := hide hne
    have HCs := hide hCs
    have HL1 := hide hl1
    clear hne hCs hl1 HF
    go_wp2_with fail
    go_ret2
    exact ⟨lv1, vs1, L1, R1, unhide HCs, unhide HL1, .inl ⟨unhide HNE, rfl⟩⟩
  · obtain ⟨o, n, hN⟩ := hCs.k.at (q := (qa, qx)) (by simp)
    have hok := hCs.k.ok (qa, qx) (by simp)
    have HCL := hide (clone_any w1 (some ⟨qa, 7, none⟩) 384 384 qx.P (rd_node hN hok.len) rfl (by rw [hok.len]; decide) hok.len (by decide))
    have HLN := hide hok.len
    have HCs := hide hCs
    have HL1 := hide hl1
    unfold ptr
    clear hCs hl1 hN hok HF
    dsimp only
    go_wp2_with fail
    refine (unhide HCL).mono ?_
    rintro e w2 ⟨ao, cc, rfl, h2, h3, f2, h4⟩
    have HCs2 := hide ((unhide HCs).trans (Cs.same (unhide HCs).k (unhide HCs).hh f2))
    have H2 := hide h2
    have H3 := hide h3
    have H4 := hide (fun b hb => Nat.le_trans (unhide HCs).f.size (h4 b hb))
    clear h2 h3 f2 h4 HCL
    go_wp2_with fail
    go_ret2
    exact ⟨lv1, vs1, L1, _, unhide HCs2, unhide HL1, .inr ⟨rfl, qx, ao, cc, by rw [← unhide HL1]; simp, rfl, unhide H2, unhide HLN, unhide H4, unhide H3⟩⟩

/-- Writing, plainly: the answer, the blocks, the home. -/
def wtP (x : Pl) (P : List UInt8) (ch : Nat) : Pl := { x with P := pad P, first := if x.dirty = true then x.first else ch, last := ch, dirty := true }
def wtR (c : Ca) (m : Hm) (l : List Pl) (b : Int) (P : List UInt8) (ch : Nat) : Int × List Pl × Hm :=
  if chE m b = 0 then
    if P.length ≤ 384 then
      match atI l b with
      | some i => match l[i]? with
        | some x => (0, l.eraseIdx i ++ [wtP x P ch], m)
        | none => (0, l, m)
      | none => if (rmR c m l).1 = 0 then (0, (rmR c m l).2.1 ++ [wtP (zeroP b) P ch], (rmR c m l).2.2) else rmR c m l
    else (1, l, m)
  else (chE m b, l, m)

theorem wtP_ok {x : Pl} (ok : x.Ok) {P : List UInt8} (hP : P.length ≤ 384) {ch : Nat} (hc : ch < 18446744073709551616) : (wtP x P ch).Ok :=
  ⟨pad_length hP, ok.b, by unfold wtP; dsimp only; split; exact ok.first; exact hc, hc, ok.pins⟩

theorem adr_move {R1 R2 : List (Nat × Pl)} {a k : Nat} {x y : Pl} (h : k ∈ adr (R1 ++ R2 ++ [(a, y)])) : k ∈ adr (R1 ++ (a, x) :: R2) := by
  simp only [adr, List.map_append, List.map_cons, List.map_nil, List.mem_append, List.mem_cons, List.not_mem_nil, or_false] at h ⊢
  rcases h with (h | h) | h
  · exact .inl h
  · exact .inr (.inr h)
  · exact .inr (.inl h)
theorem NAt.uniq {w : World} {a : Nat} {o n o' n' : Value} {x : Pl} (h : NAt w a o n x) (h' : NAt w a o' n' x) : o = o' ∧ n = n' := by
  unfold NAt at h h'
  rw [h] at h'
  simp [nodeC] at h'
  exact h'

set_option maxRecDepth 100000 in
set_option maxHeartbeats 2000000 in
theorem cwrite_any [Av] (b : Int) (v : Value) (P : List UInt8) (ch : Nat) (hch : ch < 18446744073709551616) (hv : Rd w v P) (hva : ∀ k, v.ownBlock = some k → ¬ HB h dv lv k ∧ ¬ KB p r u R k ∧ k < w.heap.size) (H : KAt w p h r u L R c) (HH : HAt w h dv lv vs m) (hD : ∀ q ∈ R, q.2.b < (m.D.length : Int)) (hc : m.calls < 999999990) : Calls Try.prog 23 #[ptr p, .int .i64 b, v, .int .u64 (ch : Int)] w fun e w' => e = .returned (.int .i64 (wtR c m (R.map Prod.snd) b P ch).1) ∧ Cp w w' p h r u dv lv R c (wtR c m (R.map Prod.snd) b P ch).2.2 (wtR c m (R.map Prod.snd) b P ch).2.1 := by
  have HCH := hide (check_any w p h r u L R c dv lv vs m b H HH)
  have c2 := cell_of_heap H.heap 2
  simp at c2
  obtain ⟨vo, vc, rfl⟩ := hv.shape
  have HV := hide hv
  have HVA := hide hva
  unfold ptr at *
  rcases chE_vals m b with hch0 | hch0
  · rw [hch0] at HCH
    by_cases hPl : P.length ≤ 384
    · have bp : decide ((384 : Int) < (P.length : Int)) = false := by simp; omega
      have HPL := hide hPl
      rcases hat : atI (R.map Prod.snd) b with _ | i
      · have hno := at_none hat
        have hnoR : ∀ q ∈ R, q.2.b ≠ b := fun q hq => hno q.2 (List.mem_map.2 ⟨q, hq, rfl⟩)
        have hlk := run_look_out H.mp (H.lookNo hnoR)
        have HMR := hide (makeRoom_any w p h r u L R c dv lv vs m H HH hD (by omega))
        obtain ⟨hb0, hb1⟩ := chE_in hch0
        have hrv := rmR_facts c m (R.map Prod.snd)
        have hwt : wtR c m (R.map Prod.snd) b P ch = if (rmR c m (R.map Prod.snd)).1 = 0 then (0, (rmR c m (R.map Prod.snd)).2.1 ++ [wtP (zeroP b) P ch], (rmR c m (R.map Prod.snd)).2.2) else rmR c m (R.map Prod.snd) := by
          unfold wtR; rw [if_pos hch0, if_pos hPl, hat]
        rw [hwt]
        generalize rmR c m (R.map Prod.snd) = rm at HMR hrv
        obtain ⟨e, l1, m1⟩ := rm
        dsimp only at HMR hrv ⊢
        unfold ptr at HMR
        obtain ⟨hD1, hc1, hsub, -⟩ := hrv
        have HNO := hide hnoR
        have HSUB := hide hsub
        have HB0 := hide hb0
        have HKo := hide H
        clear H HH hD hc hno hnoR hat hch0 hwt hsub hb0 hb1 hD1 hc1 hv hva hPl
        by_cases he0 : e = 0
        · subst he0
          rw [if_pos rfl]
          dsimp only
          go_enter Try.func23, Try.ntmps23
          go_wp2_with fail
          refine (unhide HCH).mono ?_
          rintro e w' ⟨rfl, rfl⟩
          go_wp2_with fail
          refine (unhide HMR).mono ?_
          rintro e w1 ⟨rfl, lv1, vs1, L1, R1, hK1, hH1, hl1, hs1, hv1, f1⟩
          have hCs : Cs w w1 p h r u dv lv R lv1 vs1 L1 R1 c m1 := ⟨hK1, hH1, hs1, hv1, f1⟩
          have hnob : ∀ q ∈ R1, q.2.b ≠ b := fun q hq => by
            have : q.2 ∈ R.map Prod.snd := unhide HSUB _ (by rw [← hl1]; exact List.mem_map.2 ⟨q, hq, rfl⟩)
            obtain ⟨q', hq', e⟩ := List.mem_map.1 this
            rw [← e]; exact unhide HNO q' hq'
          have HT := hide (take_any w1 p h r u L1 R1 c b hnob (unhide HB0) hK1)
          have hrd1 : Rd w1 (.slice vo P.length vc) P := (unhide HV).kept f1 (fun k hk e => by
            rcases e with e | e
            · exact (unhide HVA k hk).1 e
            · exact (unhide HVA k hk).2.1 e)
          have HRD1 := hide hrd1
          have HCs := hide hCs
          have HL1 := hide hl1
          have HK1 := hide hK1
          have HH1 := hide hH1
          unfold ptr at HT
          clear hCs hl1 hK1 hH1 hs1 hv1 f1 HMR hnob hrd1
          go_wp2_with fail
          refine (unhide HT).mono ?_
          rintro e wk ⟨rfl, ⟨L5, hKk⟩, fk⟩
          have okx : (zeroP b).Ok := ⟨by simp [zeroP], unhide HB0, by simp [zeroP], by simp [zeroP], by simp [zeroP]⟩
          obtain ⟨ok4, nk4, hNk⟩ := hKk.at (q := (w1.heap.size, zeroP b)) (by simp)
          have hrdk := (unhide HRD1).kept fk (fun k hk e => by
            have h0 := unhide HVA k hk
            rcases e with e | e | e
            · exact h0.2.1 (.inl e)
            · exact h0.2.1 (.inr (.inl e))
            · rcases List.mem_cons.1 e with e | e
              · exact h0.2.1 (.inr (.inr (by rw [e]; simp)))
              · rcases (unhide HCs).sub k e with e | e
                · exact h0.2.1 (.inr (.inr (List.mem_cons_of_mem _ e)))
                · have := h0.2.2; omega)
          have HCk := hide ((unhide HCs).trans (Cs.cache (unhide HK1) (unhide HH1) hKk (fun k hk => by
            simp [adr] at hk
            rcases hk with h | h
            · exact .inl (by simp [adr]; exact h)
            · right; omega) fk))
          have HFL := hide (fill_any wk w1.heap.size _ _ _ hNk okx.len _ P hrdk (unhide HPL))
          have HKk := hide hKk
          have HNk := hide hNk
          have HLK : Hid ((R1 ++ [] ++ [(w1.heap.size, wtP (zeroP b) P ch)]).map Prod.snd = l1 ++ [wtP (zeroP b) P ch]) := hide (by rw [← unhide HL1]; simp)
          obtain ⟨na, hna⟩ : ∃ a, a = w1.heap.size := ⟨_, rfl⟩
          rw [← hna] at HKk HNk HFL HLK HCk ⊢
          unfold ptr at HFL
          clear hKk fk hNk hrdk HT hna
          go_wp2_with fail
          refine (unhide HFL).mono ?_
          rintro e w5 ⟨rfl, hN5, f5⟩
          have hK5 : KAt w5 p h r u L5 (R1 ++ (na, { (zeroP b) with P := pad P }) :: []) c := KAt.turn (unhide HKk) rfl ⟨pad_length (unhide HPL), okx.b, okx.first, okx.last, okx.pins⟩ (fun o n hno => by
            obtain ⟨rfl, rfl⟩ := NAt.uniq hno (unhide HNk)
            exact hN5) f5
          have c6 := hN5.c6
          have c3 := hN5.c3
          have c4 := hN5.c4
          have z3 := frozen_of_heap hN5 3
          have z4 := frozen_of_heap hN5 4
          have z6 := frozen_of_heap hN5 6
          have F5 := hide f5
          have HK5 := hide hK5
          clear hN5 f5 hK5 HFL
          rcases hdx : ((zeroP b)).dirty with _ | _
          · dsimp only at c6
            rw [hdx] at c6
            have hK6 : KAt (((w5.setCell ⟨na, 3, none⟩ (.int .u64 (ch : Int))).setCell ⟨na, 4, none⟩ (.int .u64 (ch : Int))).setCell ⟨na, 6, none⟩ (.bool true)) p h r u L5 (R1 ++ (na, wtP (zeroP b) P ch) :: []) c := KAt.turn (unhide HK5) rfl (wtP_ok okx (unhide HPL) hch) (fun o n hno => by
              have := ((hno.set3 ch).set4 ch).set6 true
              unfold wtP
              rw [hdx]
              exact this) (((Fr.refl (fun k => k = na) w5).setCell (p := ⟨na, 3, none⟩) (fun _ => rfl) _).setCell (p := ⟨na, 4, none⟩) (fun _ => rfl) _ |>.setCell (p := ⟨na, 6, none⟩) (fun _ => rfl) _)
            have HUS := hide (use_any _ p h r u L5 c (R1) ([]) (na, wtP (zeroP b) P ch) hK6)
            have f6 : Fr (fun k => k = na) w5 (((w5.setCell ⟨na, 3, none⟩ (.int .u64 (ch : Int))).setCell ⟨na, 4, none⟩ (.int .u64 (ch : Int))).setCell ⟨na, 6, none⟩ (.bool true)) := (((Fr.refl (fun k => k = na) w5).setCell (p := ⟨na, 3, none⟩) (fun _ => rfl) _).setCell (p := ⟨na, 4, none⟩) (fun _ => rfl) _ |>.setCell (p := ⟨na, 6, none⟩) (fun _ => rfl) _)
            have F6 := hide f6
            unfold ptr at HUS
            clear hK6 f6 hdx
            go_wp2_with fail
            refine (unhide HUS).mono ?_
            rintro e w7 ⟨rfl, hK7, f7⟩
            have hF : Fr (KB p r u (R1 ++ (na, (zeroP b)) :: [])) wk w7 := (((unhide F5).trans (unhide F6) (fun _ _ e => e)).mono (fun k _ e => .inr (.inr (by rw [e]; simp [adr])))).trans f7 (fun k _ e => .inr (.inr (by simpa [adr] using e)))
            have HC7 := hide ((unhide HCk).trans (Cs.cache (unhide HKk) (unhide HCk).hh hK7 (fun k hk => .inl (adr_move hk)) hF))
            clear hK7 f7 hF HUS
            go_wp2_with fail
            go_ret
            exact ⟨rfl, (unhide HC7).cp (by first | exact unhide HLK | rfl)⟩
          · dsimp only at c6
            rw [hdx] at c6
            have hK6 : KAt ((w5.setCell ⟨na, 4, none⟩ (.int .u64 (ch : Int))).setCell ⟨na, 6, none⟩ (.bool true)) p h r u L5 (R1 ++ (na, wtP (zeroP b) P ch) :: []) c := KAt.turn (unhide HK5) rfl (wtP_ok okx (unhide HPL) hch) (fun o n hno => by
              have := (hno.set4 ch).set6 true
              unfold wtP
              rw [hdx]
              exact this) ((Fr.refl (fun k => k = na) w5).setCell (p := ⟨na, 4, none⟩) (fun _ => rfl) _ |>.setCell (p := ⟨na, 6, none⟩) (fun _ => rfl) _)
            have HUS := hide (use_any _ p h r u L5 c (R1) ([]) (na, wtP (zeroP b) P ch) hK6)
            have f6 : Fr (fun k => k = na) w5 ((w5.setCell ⟨na, 4, none⟩ (.int .u64 (ch : Int))).setCell ⟨na, 6, none⟩ (.bool true)) := ((Fr.refl (fun k => k = na) w5).setCell (p := ⟨na, 4, none⟩) (fun _ => rfl) _ |>.setCell (p := ⟨na, 6, none⟩) (fun _ => rfl) _)
            have F6 := hide f6
            unfold ptr at HUS
            clear hK6 f6 hdx
            go_wp2_with fail
            refine (unhide HUS).mono ?_
            rintro e w7 ⟨rfl, hK7, f7⟩
            have hF : Fr (KB p r u (R1 ++ (na, (zeroP b)) :: [])) wk w7 := (((unhide F5).trans (unhide F6) (fun _ _ e => e)).mono (fun k _ e => .inr (.inr (by rw [e]; simp [adr])))).trans f7 (fun k _ e => .inr (.inr (by simpa [adr] using e)))
            have HC7 := hide ((unhide HCk).trans (Cs.cache (unhide HKk) (unhide HCk).hh hK7 (fun k hk => .inl (adr_move hk)) hF))
            clear hK7 f7 hF HUS
            go_wp2_with fail
            go_ret
            exact ⟨rfl, (unhide HC7).cp (by first | exact unhide HLK | rfl)⟩
        · rw [if_neg he0]
          have bne : (e != 0) = true := by simpa using he0
          clear he0
          go_enter Try.func23, Try.ntmps23
          go_wp2_with fail
          refine (unhide HCH).mono ?_
          rintro e w' ⟨rfl, rfl⟩
          go_wp2_with fail
          refine (unhide HMR).mono ?_
          rintro e w1 ⟨rfl, hcp⟩
          have HCP := hide hcp
          clear hcp HMR
          go_wp2_with fail
          go_ret
          exact ⟨rfl, unhide HCP⟩
      · obtain ⟨x, hx, hxb⟩ := at_some hat
        obtain ⟨R1, a, R2, rfl, hl1, hers⟩ := split_at hx
        have e : wtR c m ((R1 ++ (a, x) :: R2).map Prod.snd) b P ch = (0, (R1 ++ R2 ++ [(a, wtP x P ch)]).map Prod.snd, m) := by
          unfold wtR; rw [if_pos hch0, if_pos hPl, hat]; dsimp only; rw [hx, hers]; simp
        rw [e]
        have hlk := run_look_in H.mp (H.look (q := (a, x)) (by simp))
        dsimp only at hlk
        rw [hxb] at hlk
        have okx := H.ok (a, x) (by simp)
        dsimp only at okx
        obtain ⟨ok4, nk4, hNk⟩ := H.at (q := (a, x)) (by simp)
        dsimp only at hNk
        obtain ⟨wk, hwk⟩ : ∃ wk, wk = w := ⟨_, rfl⟩
        obtain ⟨L5, hL5⟩ : ∃ L5, L5 = L := ⟨_, rfl⟩
        have HFL := hide (fill_any w a _ _ _ hNk okx.len _ P hv hPl)
        have HKk : Hid (KAt wk p h r u L5 (R1 ++ (a, x) :: R2) c) := hide (by rw [hwk, hL5]; exact H)
        have HNk : Hid (NAt wk a (ptr ok4) (ptr nk4) x) := hide (by rw [hwk]; exact hNk)
        have HCk : Hid (Cs w wk p h r u dv lv (R1 ++ (a, x) :: R2) lv vs L5 (R1 ++ (a, x) :: R2) c m) := hide (by rw [hwk, hL5]; exact Cs.same H HH (Fr.refl _ _))
        have HLK : Hid ((R1 ++ R2 ++ [(a, wtP x P ch)]).map Prod.snd = (R1 ++ R2 ++ [(a, wtP x P ch)]).map Prod.snd) := hide rfl
        unfold ptr at *
        clear H HH hD hx hers hat e hNk hv hva hc hPl hL5
        dsimp only
        go_enter Try.func23, Try.ntmps23
        go_wp2_with fail
        refine (unhide HCH).mono ?_
        rintro e w' ⟨rfl, rfl⟩
        go_wp2_with fail
        subst hwk
        refine (unhide HFL).mono ?_
        rintro e w5 ⟨rfl, hN5, f5⟩
        have hK5 : KAt w5 p h r u L5 (R1 ++ (a, { x with P := pad P }) :: R2) c := KAt.turn (unhide HKk) rfl ⟨pad_length (unhide HPL), okx.b, okx.first, okx.last, okx.pins⟩ (fun o n hno => by
          obtain ⟨rfl, rfl⟩ := NAt.uniq hno (unhide HNk)
          exact hN5) f5
        have c6 := hN5.c6
        have c3 := hN5.c3
        have c4 := hN5.c4
        have z3 := frozen_of_heap hN5 3
        have z4 := frozen_of_heap hN5 4
        have z6 := frozen_of_heap hN5 6
        have F5 := hide f5
        have HK5 := hide hK5
        clear hN5 f5 hK5 HFL
        rcases hdx : (x).dirty with _ | _
        · dsimp only at c6
          rw [hdx] at c6
          have hK6 : KAt (((w5.setCell ⟨a, 3, none⟩ (.int .u64 (ch : Int))).setCell ⟨a, 4, none⟩ (.int .u64 (ch : Int))).setCell ⟨a, 6, none⟩ (.bool true)) p h r u L5 (R1 ++ (a, wtP x P ch) :: R2) c := KAt.turn (unhide HK5) rfl (wtP_ok okx (unhide HPL) hch) (fun o n hno => by
            have := ((hno.set3 ch).set4 ch).set6 true
            unfold wtP
            rw [hdx]
            exact this) (((Fr.refl (fun k => k = a) w5).setCell (p := ⟨a, 3, none⟩) (fun _ => rfl) _).setCell (p := ⟨a, 4, none⟩) (fun _ => rfl) _ |>.setCell (p := ⟨a, 6, none⟩) (fun _ => rfl) _)
          have HUS := hide (use_any _ p h r u L5 c (R1) (R2) (a, wtP x P ch) hK6)
          have f6 : Fr (fun k => k = a) w5 (((w5.setCell ⟨a, 3, none⟩ (.int .u64 (ch : Int))).setCell ⟨a, 4, none⟩ (.int .u64 (ch : Int))).setCell ⟨a, 6, none⟩ (.bool true)) := (((Fr.refl (fun k => k = a) w5).setCell (p := ⟨a, 3, none⟩) (fun _ => rfl) _).setCell (p := ⟨a, 4, none⟩) (fun _ => rfl) _ |>.setCell (p := ⟨a, 6, none⟩) (fun _ => rfl) _)
          have F6 := hide f6
          unfold ptr at HUS
          clear hK6 f6 hdx
          go_wp2_with fail
          refine (unhide HUS).mono ?_
          rintro e w7 ⟨rfl, hK7, f7⟩
          have hF : Fr (KB p r u (R1 ++ (a, x) :: R2)) wk w7 := (((unhide F5).trans (unhide F6) (fun _ _ e => e)).mono (fun k _ e => .inr (.inr (by rw [e]; simp [adr])))).trans f7 (fun k _ e => .inr (.inr (by simpa [adr] using e)))
          have HC7 := hide ((unhide HCk).trans (Cs.cache (unhide HKk) (unhide HCk).hh hK7 (fun k hk => .inl (adr_move hk)) hF))
          clear hK7 f7 hF HUS
          go_wp2_with fail
          go_ret
          exact ⟨rfl, (unhide HC7).cp (by first | exact unhide HLK | rfl)⟩
        · dsimp only at c6
          rw [hdx] at c6
          have hK6 : KAt ((w5.setCell ⟨a, 4, none⟩ (.int .u64 (ch : Int))).setCell ⟨a, 6, none⟩ (.bool true)) p h r u L5 (R1 ++ (a, wtP x P ch) :: R2) c := KAt.turn (unhide HK5) rfl (wtP_ok okx (unhide HPL) hch) (fun o n hno => by
            have := (hno.set4 ch).set6 true
            unfold wtP
            rw [hdx]
            exact this) ((Fr.refl (fun k => k = a) w5).setCell (p := ⟨a, 4, none⟩) (fun _ => rfl) _ |>.setCell (p := ⟨a, 6, none⟩) (fun _ => rfl) _)
          have HUS := hide (use_any _ p h r u L5 c (R1) (R2) (a, wtP x P ch) hK6)
          have f6 : Fr (fun k => k = a) w5 ((w5.setCell ⟨a, 4, none⟩ (.int .u64 (ch : Int))).setCell ⟨a, 6, none⟩ (.bool true)) := ((Fr.refl (fun k => k = a) w5).setCell (p := ⟨a, 4, none⟩) (fun _ => rfl) _ |>.setCell (p := ⟨a, 6, none⟩) (fun _ => rfl) _)
          have F6 := hide f6
          unfold ptr at HUS
          clear hK6 f6 hdx
          go_wp2_with fail
          refine (unhide HUS).mono ?_
          rintro e w7 ⟨rfl, hK7, f7⟩
          have hF : Fr (KB p r u (R1 ++ (a, x) :: R2)) wk w7 := (((unhide F5).trans (unhide F6) (fun _ _ e => e)).mono (fun k _ e => .inr (.inr (by rw [e]; simp [adr])))).trans f7 (fun k _ e => .inr (.inr (by simpa [adr] using e)))
          have HC7 := hide ((unhide HCk).trans (Cs.cache (unhide HKk) (unhide HCk).hh hK7 (fun k hk => .inl (adr_move hk)) hF))
          clear hK7 f7 hF HUS
          go_wp2_with fail
          go_ret
          exact ⟨rfl, (unhide HC7).cp (by first | exact unhide HLK | rfl)⟩
    · have bp : decide ((384 : Int) < (P.length : Int)) = true := by simp; omega
      have e : wtR c m (R.map Prod.snd) b P ch = (1, R.map Prod.snd, m) := by unfold wtR; rw [if_pos hch0, if_neg hPl]
      rw [e]
      have HCP := hide (Cp.same H HH (Fr.refl (fun _ => False) w))
      clear H HH hD e hch0 hv hva hPl hc
      dsimp only
      go_enter Try.func23, Try.ntmps23
      go_wp2_with fail
      refine (unhide HCH).mono ?_
      rintro e w' ⟨rfl, rfl⟩
      go_wp2_with fail
      go_ret
      exact ⟨rfl, unhide HCP⟩
  · have e : wtR c m (R.map Prod.snd) b P ch = (2, R.map Prod.snd, m) := by
      unfold wtR; rw [if_neg (by rw [hch0]; decide), hch0]
    rw [e]
    rw [hch0] at HCH
    have HCP := hide (Cp.same H HH (Fr.refl (fun _ => False) w))
    clear H HH hD e hch0 hv hva hc
    dsimp only
    go_enter Try.func23, Try.ntmps23
    go_wp2_with fail
    refine (unhide HCH).mono ?_
    rintro e w' ⟨rfl, rfl⟩
    go_wp2_with fail
    go_ret
    exact ⟨rfl, unhide HCP⟩

set_option maxRecDepth 100000 in
theorem safe_any (s : Nat) (hs : s < 18446744073709551616) (H : KAt w p h r u L R c) : Calls Try.prog 26 #[ptr p, .int .u64 (s : Int)] w fun e w' => e = .returned (.tuple #[]) ∧ KAt w' p h r u L R { c with safe := max c.safe s } ∧ Fr (fun k => k = p) w w' := by
  have HN := hide (none_any w p h r u L R c H)
  have c4 := cell_of_heap H.heap 4
  simp at c4
  have z4 := frozen_of_heap H.heap 4
  by_cases hlt : c.safe < s
  · have e : max c.safe s = s := by omega
    rw [e]
    obtain ⟨h1, f1⟩ := H.cell 4 (.int .u64 (s : Int)) { c with safe := s } (by simp) ⟨H.num.1, H.num.2.1, hs, H.num.2.2.2⟩
    have H1 := hide h1
    have F1 := hide f1
    clear H h1 f1 e
    unfold ptr at *
    go_enter Try.func26, Try.ntmps26
    go_wp2_with fail
    refine (unhide HN).mono ?_
    rintro e w' ⟨rfl, rfl⟩
    go_wp2_with fail
    go_end0
    exact ⟨rfl, unhide H1, unhide F1⟩
  · have e : max c.safe s = c.safe := by omega
    rw [e]
    obtain ⟨h1, f1⟩ := H.cell 4 (.int .u64 (c.safe : Int)) { c with safe := c.safe } (by simp) H.num
    have H1 := hide h1
    have F1 := hide f1
    clear H h1 f1 e
    unfold ptr at *
    go_enter Try.func26, Try.ntmps26
    go_wp2_with fail
    refine (unhide HN).mono ?_
    rintro e w' ⟨rfl, rfl⟩
    go_wp2_with fail
    go_end0
    exact ⟨rfl, unhide H1, unhide F1⟩
end
end Go.Proofs.Ytdgmlopaeonacaa
