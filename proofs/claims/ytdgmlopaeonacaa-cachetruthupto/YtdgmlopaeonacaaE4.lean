/-
  Writing, pinning, flushing keep what a cache promises.
-/
import Derived.Test.YtdgmlopaeonacaaE3
namespace Go.Proofs.Ytdgmlopaeonacaa
set_option linter.unusedVariables false

/-- What a law sees of what went home. -/
def LgC (safe : Nat) (want : List (List UInt8)) (last : List Nat) (m m' : Hm) : Prop :=
  ∃ ks : List Nat, m'.log = m.log ++ ks.map (fun k : Nat => (k : Int)) ∧ ∀ k ∈ ks, k < m'.D.length ∧ m'.D[k]? = want[k]? ∧ ∃ v, last[k]? = some v ∧ v ≤ safe
theorem LgC.refl (safe : Nat) (want : List (List UInt8)) (last : List Nat) (m : Hm) : LgC safe want last m m := ⟨[], by simp, by simp⟩

section
variable {c : Ca} {m : Hm} {l l' l0 : List Pl} {want : List (List UInt8)} {last : List Nat} {b : Int}

theorem erase_perm {l : List Pl} {i : Nat} {x : Pl} (hx : l[i]? = some x) : (l.eraseIdx i ++ [x]).Perm l := by
  obtain ⟨h5, h6⟩ := split_idx hx
  rw [h6]
  conv => rhs; rw [h5]
  refine (List.perm_append_comm (l₁ := l.take i ++ l.drop (i + 1)) (l₂ := [x])).trans ?_
  exact (List.perm_middle (a := x) (l₁ := l.take i) (l₂ := l.drop (i + 1))).symm

/-- Writing. -/
theorem wt_tr (b : Int) (P : List UInt8) (ch : Nat) (T : Tr m l want last) (hl : l.length ≤ c.places) :
    ((wtR c m l b P ch).1 = 0 → (0 ≤ b ∧ b < (m.D.length : Int)) ∧ P.length ≤ 384 ∧ Tr (wtR c m l b P ch).2.2 (wtR c m l b P ch).2.1 (want.set b.toNat (pad P)) (last.set b.toNat ch) ∧ LgC c.safe (want.set b.toNat (pad P)) (last.set b.toNat ch) m (wtR c m l b P ch).2.2) ∧
    ((wtR c m l b P ch).1 ≠ 0 → Tr (wtR c m l b P ch).2.2 (wtR c m l b P ch).2.1 want last ∧ LgC c.safe want last m (wtR c m l b P ch).2.2) ∧
    (wtR c m l b P ch).2.1.length ≤ c.places ∧ (wtR c m l b P ch).2.2.D.length = m.D.length := by
  unfold wtR
  by_cases h0 : chE m b = 0
  · rw [if_pos h0]
    have hb := chE_in h0
    by_cases hP : P.length ≤ 384
    · rw [if_pos hP]
      rcases hi : atI l b with _ | i
      · dsimp only
        have hno := at_none hi
        obtain ⟨t1, t2, t3, t4, t5, ks, t6, t7⟩ := rm_tr c T
        by_cases h1 : (rmR c m l).1 = 0
        · rw [if_pos h1]
          have hlen := t2.len
          have hz : 0 ≤ (wtP (zeroP b) P ch).b ∧ (wtP (zeroP b) P ch).b < ((rmR c m l).2.2.D.length : Int) := by rw [hlen]; exact hb
          have w1 := t1.write (List.Sublist.refl _) (wtP (zeroP b) P ch) hz (fun y hy => hno y (t5 y hy)) (fun y hy _ => hy) rfl
          refine ⟨fun _ => ⟨hb, hP, w1, ?_⟩, fun e => absurd rfl e, ?_, hlen⟩
          · obtain ⟨js, g1, g2⟩ := t2.log
            refine ⟨js, g1, fun k hk => ?_⟩
            obtain ⟨a1, a2, v, a3, a4⟩ := g2 k hk
            have hjs : js = ks := by
              have e := g1.symm.trans t6
              have e2 := List.append_cancel_left e
              exact (List.map_inj_right (fun x y (h : ((x : Nat) : Int) = ((y : Nat) : Int)) => by omega)).1 e2
            rw [hjs] at hk
            obtain ⟨x, hx, hxb⟩ := t7 k hk
            have hne : b.toNat ≠ k := fun e => hno x hx (by omega)
            exact ⟨a1, by rw [List.getElem?_set_ne hne]; exact a2, v, by rw [List.getElem?_set_ne hne]; exact a3, a4⟩
          · have := t4 h1 hl
            simp; omega
        · rw [if_neg h1]
          exact ⟨fun e => absurd e h1, fun _ => ⟨t1, t2.log⟩, Nat.le_trans t3 hl, t2.len⟩
      · obtain ⟨x, hx, hxb⟩ := at_some hi
        dsimp only
        rw [hx]
        dsimp only
        have hp := erase_perm hx
        have t := T.perm hp
        obtain ⟨h5, h6⟩ := split_idx hx
        have hnd := t.nd
        rw [List.map_append, List.nodup_append] at hnd
        have hne : ∀ y ∈ l.eraseIdx i, y.b ≠ b := fun y hy e => hnd.2.2 y.b (List.mem_map.2 ⟨y, hy, rfl⟩) b (by simp [hxb]) e
        have hz : 0 ≤ (wtP x P ch).b ∧ (wtP x P ch).b < (m.D.length : Int) := by show 0 ≤ x.b ∧ x.b < _; rw [hxb]; exact hb
        have w1 := T.write (l0 := l.eraseIdx i) (List.eraseIdx_sublist l i) (wtP x P ch) hz (fun y hy => by show y.b ≠ x.b; rw [hxb]; exact hne y hy) (fun y hy hn => by
          rcases List.mem_append.1 (hp.mem_iff.2 hy) with h | h
          · exact h
          · exact absurd (by rw [List.mem_singleton.1 h]; rfl) hn) rfl
        have e1 : (wtP x P ch).b = b := hxb
        rw [e1] at w1
        refine ⟨fun _ => ⟨hb, hP, w1, LgC.refl _ _ _ _⟩, fun e => absurd rfl e, ?_, rfl⟩
        have := hp.length_eq
        simp at this ⊢
        omega
    · rw [if_neg hP]
      exact ⟨fun e => by simp at e, fun _ => ⟨T, LgC.refl _ _ _ _⟩, hl, rfl⟩
  · rw [if_neg h0]
    exact ⟨fun e => absurd e h0, fun _ => ⟨T, LgC.refl _ _ _ _⟩, hl, rfl⟩

theorem pinL_vw (l : List Pl) : (pinL l).map vw = l.map vw := by
  unfold pinL
  rcases h : l.getLast? with _ | x
  · rfl
  · obtain ⟨ys, rfl⟩ := List.getLast?_eq_some_iff.1 h
    simp [vw]
/-- Pinning. -/
theorem pn_tr (b : Int) (T : Tr m l want last) (hl : l.length ≤ c.places) : Tr (pnR c m l b).2.2.1 (pnR c m l b).2.1 want last ∧ LgC c.safe want last m (pnR c m l b).2.2.1 ∧ (pnR c m l b).2.1.length ≤ c.places ∧ (pnR c m l b).2.2.2.safe = c.safe ∧ (pnR c m l b).2.2.2.places = c.places ∧ (pnR c m l b).2.2.1.D.length = m.D.length := by
  obtain ⟨t1, t2, t3, t4, t5, -⟩ := ft_tr b T hl
  unfold pnR
  dsimp only
  have hv : (if (ftR c m l b).1 = 0 then pinL (ftR c m l b).2.1 else (ftR c m l b).2.1).map vw = (ftR c m l b).2.1.map vw := by
    split
    · exact pinL_vw _
    · rfl
  refine ⟨t1.view hv, t2.log, ?_, t4, t5, t2.len⟩
  have := congrArg List.length hv
  rw [List.length_map, List.length_map] at this
  rw [this]; exact t3

/-- Unpinning. -/
theorem un_tr (b : Int) (T : Tr m l want last) : Tr m (unR l b).2 want last ∧ (unR l b).2.length = l.length := by
  have hv : (unR l b).2.map vw = l.map vw := by
    unfold unR
    rcases hi : atI l b with _ | i
    · rfl
    · obtain ⟨x, hx, -⟩ := at_some hi
      dsimp only
      rw [hx]
      dsimp only
      split
      · rfl
      · dsimp only
        rw [List.map_set]
        obtain ⟨h1, h2⟩ := List.getElem?_eq_some_iff.1 hx
        refine List.ext_getElem? (fun j => ?_)
        by_cases e : i = j
        · subst e
          rw [List.getElem?_set_self (by simpa using h1), List.getElem?_map, hx]
          rfl
        · rw [List.getElem?_set_ne e]
  exact ⟨T.view hv, by have := congrArg List.length hv; simpa using this⟩

theorem mem_srtL {x : Pl} : x ∈ srtL l ↔ x ∈ l ∧ x.dirty = true := by
  unfold srtL
  rw [(List.mergeSort_perm _ _).mem_iff, List.mem_filter]
theorem srtL_nd (T : Tr m l want last) : ((srtL l).map (·.b)).Nodup := by
  unfold srtL
  rw [((List.mergeSort_perm _ _).map _).nodup_iff]
  exact ((List.filter_sublist).map _).nodup T.nd
theorem cln_len (l : List Pl) (b : Int) : (cln l b).length = l.length := by simp [cln]
theorem cl_len (c : Ca) (most : Int) : ∀ (S : List Pl) (n : Nat) (m : Hm) (l : List Pl), (clR c most S n m l).2.2.2.length = l.length
  | [], n, m, l => rfl
  | x :: S, n, m, l => by
    rw [clR]
    split
    · rfl
    · split
      · split
        · rfl
        · rw [cl_len c most S, cln_len]
      · exact cl_len c most S n m l

/-- Cleaning. -/
theorem clean_tr (most : Int) (T : Tr m l want last) : (clR c most (srtL l) 0 m l).2.1 = 0 ∧ Tr (clR c most (srtL l) 0 m l).2.2.1 (clR c most (srtL l) 0 m l).2.2.2 want last ∧ Lg c.safe want last m (clR c most (srtL l) 0 m l).2.2.1 ∧ (clR c most (srtL l) 0 m l).2.2.2.length = l.length := by
  obtain ⟨h1, h2, h3⟩ := cl_tr (want := want) (last := last) c most (srtL l) 0 m l T (fun x hx => mem_srtL.1 hx) (srtL_nd T)
  exact ⟨h1, h2, h3, cl_len _ _ _ _ _ _⟩

theorem old_none (h : (oldR l).2 = false) : srtL l = [] := by
  unfold oldR at h
  split at h
  · assumption
  · simp at h
/-- Where nothing is dirty home has all. -/
theorem all_home (T : Tr m l want last) (h : srtL l = []) : m.D = want := by
  refine List.ext_getElem? (fun i => ?_)
  by_cases hi : i < m.D.length
  · by_cases he : ∃ x ∈ l, x.b = (i : Int)
    · obtain ⟨x, hx, hxb⟩ := he
      have hd : x.dirty = false := by
        rcases hd : x.dirty with _ | _
        · rfl
        · have := mem_srtL.2 ⟨hx, hd⟩
          rw [h] at this; simp at this
      have e : x.b.toNat = i := by omega
      rw [← e, T.clean x hx hd, T.hand x hx]
    · exact T.out i hi (fun x hx e => he ⟨x, hx, e⟩)
  · rw [List.getElem?_eq_none (by omega), List.getElem?_eq_none (by rw [T.wl]; omega)]

/-- Flushing. -/
theorem fl_tr (c : Ca) (T : Tr m l want last) : Tr (flR c m l).2.1 (flR c m l).2.2 want last ∧ LgC c.safe want last m (flR c m l).2.1 ∧ (flR c m l).2.2.length = l.length ∧ (flR c m l).2.1.D.length = m.D.length ∧ ((flR c m l).1 = 0 → (flR c m l).2.1.D = want ∧ srtL (flR c m l).2.2 = []) := by
  obtain ⟨h1, h2, h3, h4⟩ := clean_tr (c := c) (l.length : Int) T
  unfold flR
  rw [if_pos h1, h2.fa]
  dsimp only
  refine ⟨h2.one, ?_, h4, h3.len, fun e => ?_⟩
  · obtain ⟨ks, g1, g2⟩ := h3.log
    exact ⟨ks, g1, g2⟩
  · rcases ho : (oldR (clR c (l.length : Int) (srtL l) 0 m l).2.2.2).2 with _ | _
    · have := old_none ho
      exact ⟨all_home h2.one this, this⟩
    · rw [ho] at e
      simp at e

/-- What cleaning leaves dirty, where all may go. -/
theorem cl_left (c : Ca) (most : Int) : ∀ (S : List Pl) (n : Nat) (m : Hm) (l : List Pl), Tr m l want last → (∀ x ∈ S, x ∈ l ∧ x.dirty = true) → (S.map (·.b)).Nodup → (∀ x ∈ S, x.last ≤ c.safe) → (n : Int) + (S.length : Int) ≤ most → ∀ y ∈ (clR c most S n m l).2.2.2, y.dirty = true → ∃ z ∈ l, z.dirty = true ∧ z.b = y.b ∧ ∀ x ∈ S, x.b ≠ y.b
  | [], n, m, l, T, _, _, _, _ => fun y hy hd => ⟨y, hy, hd, rfl, by simp⟩
  | x :: S, n, m, l, T, hS, hn, hs, hm => by
    rw [List.map_cons, List.nodup_cons] at hn
    rw [clR]
    rw [if_neg (by simp at hm; omega), if_pos (hs x (by simp)), T.fa, if_neg (by decide)]
    obtain ⟨hx, hd⟩ := hS x (by simp)
    obtain ⟨t1, t2⟩ := T.put hx
    have t3 := t1.cln hx t2
    have hS' : ∀ y ∈ S, y ∈ cln l x.b ∧ y.dirty = true := fun y hy => by
      obtain ⟨h1, h2⟩ := hS y (List.mem_cons_of_mem _ hy)
      refine ⟨List.mem_map.2 ⟨y, h1, ?_⟩, h2⟩
      rw [if_neg (fun e => hn.1 (List.mem_map.2 ⟨y, hy, e⟩))]
    intro y hy hyd
    obtain ⟨z, hz, hzd, hzb, hzS⟩ := cl_left c most S (n + 1) _ _ t3 hS' hn.2 (fun y hy => hs y (List.mem_cons_of_mem _ hy)) (by simp at hm ⊢; omega) y hy hyd
    obtain ⟨z0, hz0, rfl⟩ := List.mem_map.1 hz
    by_cases e : z0.b = x.b
    · rw [if_pos e] at hzd; simp at hzd
    · rw [if_neg e] at hzd hzb
      refine ⟨z0, hz0, hzd, hzb, fun q hq => ?_⟩
      rcases List.mem_cons.1 hq with rfl | hq
      · rw [← hzb]; exact fun h => e h.symm
      · exact hzS q hq

/-- Flushing, where all may go. -/
theorem fl_all (c : Ca) (T : Tr m l want last) (hs : ∀ x ∈ l, x.last ≤ c.safe) : (flR c m l).1 = 0 ∧ (flR c m l).2.1.D = want ∧ srtL (flR c m l).2.2 = [] := by
  have h0 : (flR c m l).1 = 0 := by
    obtain ⟨h1, h2, h3, h4⟩ := clean_tr (c := c) (l.length : Int) T
    unfold flR
    rw [if_pos h1, h2.fa]
    dsimp only
    have hsl := srtL_len l
    have hL := cl_left (want := want) (last := last) c (l.length : Int) (srtL l) 0 m l T (fun x hx => mem_srtL.1 hx) (srtL_nd T) (fun x hx => hs x (mem_srtL.1 hx).1) (by omega)
    have : srtL (clR c (l.length : Int) (srtL l) 0 m l).2.2.2 = [] := by
      rcases h : srtL (clR c (l.length : Int) (srtL l) 0 m l).2.2.2 with _ | ⟨y, ys⟩
      · rfl
      · obtain ⟨g1, g2⟩ := mem_srtL.1 (show y ∈ srtL (clR c (l.length : Int) (srtL l) 0 m l).2.2.2 by rw [h]; simp)
        obtain ⟨z, hz, hzd, hzb, hzS⟩ := hL y g1 g2
        exact absurd hzb (hzS z (mem_srtL.2 ⟨hz, hzd⟩))
    have ho : (oldR (clR c (l.length : Int) (srtL l) 0 m l).2.2.2).2 = false := by unfold oldR; rw [this]
    rw [ho]
    rfl
  exact ⟨h0, (fl_tr c T).2.2.2.2 h0⟩
end
end Go.Proofs.Ytdgmlopaeonacaa
