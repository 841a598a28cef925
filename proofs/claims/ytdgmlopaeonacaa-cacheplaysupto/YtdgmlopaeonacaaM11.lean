/-
  What a cache promises, plainly: what is at hand and what lies at home, against what was written last.
  Making room and cleaning keep what a cache promises.
  Every act keeps what a cache promises.
  Writing, pinning, flushing keep what a cache promises.
  The walk of the laws' live.
-/
import Derived.Test.YtdgmlopaeonacaaM10
import Derived.Test.YtdgmlopaeonacaaM08
import Derived.Lib.SlBytesConst
namespace Go.Proofs.Ytdgmlopaeonacaa
set_option linter.unusedVariables false
set_option linter.unusedSimpArgs false
set_option linter.unusedVariables false

/-- Blocks at hand and at home, against what was written last and by which change. -/
structure Tr (m : Hm) (l : List Pl) (want : List (List UInt8)) (last : List Nat) : Prop where
  nd : (l.map (·.b)).Nodup
  inD : ∀ x ∈ l, 0 ≤ x.b ∧ x.b < (m.D.length : Int)
  wl : want.length = m.D.length
  ll : last.length = m.D.length
  hand : ∀ x ∈ l, want[x.b.toNat]? = some x.P
  clean : ∀ x ∈ l, x.dirty = false → m.D[x.b.toNat]? = some x.P
  dirty : ∀ x ∈ l, x.dirty = true → last[x.b.toNat]? = some x.last
  out : ∀ i, i < m.D.length → (∀ x ∈ l, x.b ≠ (i : Int)) → m.D[i]? = want[i]?
  nf : m.bad = 0 ∧ m.long = 0

/-- What went home: nothing that is not sure; all as written last. -/
structure Lg (safe : Nat) (want : List (List UInt8)) (last : List Nat) (m m' : Hm) : Prop where
  len : m'.D.length = m.D.length
  keep : ∀ k : Nat, m.D[k]? = want[k]? → m'.D[k]? = want[k]?
  log : ∃ ks : List Nat, m'.log = m.log ++ ks.map (fun k : Nat => (k : Int)) ∧ ∀ k ∈ ks, k < m'.D.length ∧ m'.D[k]? = want[k]? ∧ ∃ v, last[k]? = some v ∧ v ≤ safe

section
variable {safe : Nat} {m m' m'' : Hm} {l l1 l2 : List Pl} {want : List (List UInt8)} {last : List Nat} {x : Pl}

theorem Tr.fa (T : Tr m l want last) : m.fa = false := by
  obtain ⟨h1, h2⟩ := T.nf
  unfold Hm.fa
  rw [h1, h2]
  simp
theorem Lg.refl (safe : Nat) (want : List (List UInt8)) (last : List Nat) (m : Hm) : Lg safe want last m m := ⟨rfl, fun _ h => h, [], by simp, by simp⟩
theorem Lg.one (safe : Nat) (want : List (List UInt8)) (last : List Nat) (m : Hm) : Lg safe want last m m.one := ⟨rfl, fun _ h => h, [], by simp [Hm.one], by simp⟩
theorem Lg.trans (h : Lg safe want last m m') (k : Lg safe want last m' m'') : Lg safe want last m m'' := by
  obtain ⟨ks, h1, h2⟩ := h.log
  obtain ⟨js, k1, k2⟩ := k.log
  refine ⟨k.len.trans h.len, fun i hi => k.keep i (h.keep i hi), ks ++ js, by rw [k1, h1]; simp, fun i hi => ?_⟩
  rcases List.mem_append.1 hi with hi | hi
  · obtain ⟨a, b, c⟩ := h2 i hi
    exact ⟨by rw [k.len]; exact a, k.keep i b, c⟩
  · exact k2 i hi

theorem Tr.one (T : Tr m l want last) : Tr m.one l want last := ⟨T.nd, T.inD, T.wl, T.ll, T.hand, T.clean, T.dirty, T.out, T.nf⟩

/-- Two blocks at hand with one number are one. -/
theorem Tr.same (T : Tr m l want last) {y : Pl} (hx : x ∈ l) (hy : y ∈ l) (e : x.b = y.b) : x = y := inj_nodup (·.b) l T.nd x hx y hy e

/-- A dirty block goes home. -/
theorem Tr.put (T : Tr m l want last) (hx : x ∈ l) : Tr (m.put x.b.toNat x.P) l want last ∧ (m.put x.b.toNat x.P).D[x.b.toNat]? = some x.P := by
  obtain ⟨hx0, hx1⟩ := T.inD x hx
  have hlt : x.b.toNat < m.D.length := by omega
  have hlen : (m.put x.b.toNat x.P).D.length = m.D.length := by simp [Hm.put]
  have hself : (m.put x.b.toNat x.P).D[x.b.toNat]? = some x.P := by simp [Hm.put, hlt]
  have hoth : ∀ i, i ≠ x.b.toNat → (m.put x.b.toNat x.P).D[i]? = m.D[i]? := fun i hi => by
    simp only [Hm.put]
    rw [List.getElem?_set_ne (Ne.symm hi)]
  refine ⟨⟨T.nd, fun y hy => by rw [hlen]; exact T.inD y hy, by rw [hlen]; exact T.wl, by rw [hlen]; exact T.ll, T.hand, fun y hy hd => ?_, T.dirty, fun i hi ho => ?_, T.nf⟩, hself⟩
  · by_cases e : y.b.toNat = x.b.toNat
    · have h1 := T.inD y hy
      have : y = x := T.same hy hx (by omega)
      rw [this]; exact hself
    · rw [hoth _ e]; exact T.clean y hy hd
  · rw [hlen] at hi
    rw [hoth i (fun e => ho x hx (by omega))]
    exact T.out i hi ho
theorem Lg.put (T : Tr m l want last) (hx : x ∈ l) (hd : x.dirty = true) (hs : x.last ≤ safe) : Lg safe want last m (m.put x.b.toNat x.P) := by
  obtain ⟨hx0, hx1⟩ := T.inD x hx
  have hlt : x.b.toNat < m.D.length := by omega
  have hself := (T.put hx).2
  have hlen : (m.put x.b.toNat x.P).D.length = m.D.length := by simp [Hm.put]
  refine ⟨hlen, fun k hk => ?_, [x.b.toNat], by simp [Hm.put], fun k hk => ?_⟩
  · by_cases e : k = x.b.toNat
    · rw [e, hself, T.hand x hx]
    · simp only [Hm.put]
      rw [List.getElem?_set_ne (fun h => e h.symm)]; exact hk
  · have e : k = x.b.toNat := by simpa using hk
    subst e
    exact ⟨by rw [hlen]; exact hlt, by rw [hself, T.hand x hx], x.last, T.dirty x hx hd, hs⟩

/-- A block that is as at home is forgotten. -/
theorem Tr.drop (T : Tr m (l1 ++ x :: l2) want last) (hm : m.D[x.b.toNat]? = some x.P) : Tr m (l1 ++ l2) want last := by
  have hsub : ∀ y ∈ l1 ++ l2, y ∈ l1 ++ x :: l2 := fun y hy => by
    rcases List.mem_append.1 hy with h | h
    · exact List.mem_append_left _ h
    · exact List.mem_append_right _ (List.mem_cons_of_mem _ h)
  have hxm : x ∈ l1 ++ x :: l2 := by simp
  refine ⟨?_, fun y hy => T.inD y (hsub y hy), T.wl, T.ll, fun y hy => T.hand y (hsub y hy), fun y hy => T.clean y (hsub y hy), fun y hy => T.dirty y (hsub y hy), fun i hi ho => ?_, T.nf⟩
  · exact (List.Sublist.map _ (List.Sublist.append (List.Sublist.refl l1) (List.sublist_cons_self x l2))).nodup T.nd
  · by_cases e : x.b = (i : Int)
    · have : x.b.toNat = i := by omega
      rw [← this, hm, T.hand x hxm]
    · refine T.out i hi (fun y hy => ?_)
      rcases List.mem_append.1 hy with h | h
      · exact ho y (List.mem_append_left _ h)
      · rcases List.mem_cons.1 h with rfl | h
        · exact e
        · exact ho y (List.mem_append_right _ h)

/-- A block that is as at home is clean. -/
theorem Tr.cln (T : Tr m l want last) (hx : x ∈ l) (hm : m.D[x.b.toNat]? = some x.P) : Tr m (cln l x.b) want last := by
  have hmem : ∀ y ∈ Ytdgmlopaeonacaa.cln l x.b, ∃ z ∈ l, y.b = z.b ∧ y.P = z.P ∧ y.last = z.last ∧ (y.dirty = true → z.dirty = true) ∧ (y.dirty = false → z.dirty = false ∨ z = x) := fun y hy => by
    obtain ⟨z, hz, rfl⟩ := List.mem_map.1 hy
    refine ⟨z, hz, ?_⟩
    split
    · rename_i e
      exact ⟨rfl, rfl, rfl, fun h => by simp at h, fun _ => .inr (T.same hz hx e)⟩
    · exact ⟨rfl, rfl, rfl, id, .inl⟩
  refine ⟨by rw [cln_b]; exact T.nd, fun y hy => ?_, T.wl, T.ll, fun y hy => ?_, fun y hy hd => ?_, fun y hy hd => ?_, fun i hi ho => T.out i hi (fun z hz => ?_), T.nf⟩
  · obtain ⟨z, hz, e1, -⟩ := hmem y hy
    rw [e1]; exact T.inD z hz
  · obtain ⟨z, hz, e1, e2, -⟩ := hmem y hy
    rw [e1, e2]; exact T.hand z hz
  · obtain ⟨z, hz, e1, e2, -, -, e5⟩ := hmem y hy
    rw [e1, e2]
    rcases e5 hd with h | h
    · exact T.clean z hz h
    · rw [h]; exact hm
  · obtain ⟨z, hz, e1, -, e3, e4, -⟩ := hmem y hy
    rw [e1, e3]; exact T.dirty z hz (e4 hd)
  · have h1 : z.b ∈ (Ytdgmlopaeonacaa.cln l x.b).map (·.b) := by rw [cln_b]; exact List.mem_map.2 ⟨z, hz, rfl⟩
    obtain ⟨y, hy, e⟩ := List.mem_map.1 h1
    rw [← e]; exact ho y hy
end
end Go.Proofs.Ytdgmlopaeonacaa

namespace Go.Proofs.Ytdgmlopaeonacaa
set_option linter.unusedVariables false
set_option linter.unusedSimpArgs false
set_option linter.unusedVariables false

theorem split_idx {l : List Pl} {i : Nat} {x : Pl} (h : l[i]? = some x) : l = l.take i ++ x :: l.drop (i + 1) ∧ l.eraseIdx i = l.take i ++ l.drop (i + 1) := by
  obtain ⟨hi, rfl⟩ := List.getElem?_eq_some_iff.1 h
  exact ⟨by rw [List.getElem_cons_drop, List.take_append_drop], List.eraseIdx_eq_take_drop_succ l i⟩

/-- What making room can do, where the home does not fail. -/
theorem rm_cases (c : Ca) (m : Hm) (l : List Pl) (hfa : m.fa = false) :
    (∃ e, rmR c m l = (e, l, m) ∧ (e = 0 → l.length < c.places)) ∨
    (∃ l1 x l2, l = l1 ++ x :: l2 ∧ x.dirty = false ∧ rmR c m l = (0, l1 ++ l2, m)) ∨
    (∃ l1 x l2, l = l1 ++ x :: l2 ∧ x.dirty = true ∧ x.last ≤ c.safe ∧ rmR c m l = (0, l1 ++ l2, m.put x.b.toNat x.P)) := by
  unfold rmR
  by_cases h1 : l.length < c.places
  · rw [if_pos h1]
    exact .inl ⟨0, rfl, fun _ => h1⟩
  · rw [if_neg h1]
    rcases hi : l.findIdx? (lvO c) with _ | i
    · refine .inl ⟨lvE' l, rfl, fun e => ?_⟩
      unfold lvE' at e
      split at e <;> simp at e
    · obtain ⟨h2, h3, -⟩ := List.findIdx?_eq_some_iff_getElem.1 hi
      have h4 : l[i]? = some l[i] := List.getElem?_eq_getElem h2
      obtain ⟨h5, h6⟩ := split_idx h4
      dsimp only
      rw [h4]
      dsimp only
      unfold lvO at h3
      simp only [Bool.and_eq_true, Bool.or_eq_true, Bool.not_eq_true', decide_eq_true_eq] at h3
      rcases hd : l[i].dirty with _ | _
      · rw [if_neg (by decide), h6]
        exact .inr (.inl ⟨_, _, _, h5, hd, rfl⟩)
      · rw [if_pos rfl, hfa, if_neg (by decide), h6]
        refine .inr (.inr ⟨_, _, _, h5, hd, ?_, rfl⟩)
        rcases h3.2 with h | h
        · rw [hd] at h; simp at h
        · exact h

section
variable {c : Ca} {m : Hm} {l : List Pl} {want : List (List UInt8)} {last : List Nat}

/-- Making room: what it keeps, and what went home. -/
theorem rm_tr (c : Ca) (T : Tr m l want last) : Tr (rmR c m l).2.2 (rmR c m l).2.1 want last ∧ Lg c.safe want last m (rmR c m l).2.2 ∧ (rmR c m l).2.1.length ≤ l.length ∧ ((rmR c m l).1 = 0 → l.length ≤ c.places → (rmR c m l).2.1.length < c.places) ∧ (∀ x ∈ (rmR c m l).2.1, x ∈ l) ∧ ∃ ks : List Nat, (rmR c m l).2.2.log = m.log ++ ks.map (fun k : Nat => (k : Int)) ∧ ∀ k ∈ ks, ∃ x ∈ l, x.b = (k : Int) := by
  rcases rm_cases c m l T.fa with ⟨e, h, h1⟩ | ⟨l1, x, l2, rfl, hd, h⟩ | ⟨l1, x, l2, rfl, hd, hs, h⟩
  · rw [h]
    exact ⟨T, Lg.refl _ _ _ _, Nat.le_refl _, fun e _ => h1 e, fun _ h => h, [], by simp, by simp⟩
  · rw [h]
    refine ⟨T.drop (T.clean x (by simp) hd), Lg.refl _ _ _ _, by simp, fun _ hp => by simp at hp ⊢; omega, fun y hy => ?_, [], by simp, by simp⟩
    simp only [List.mem_append, List.mem_cons] at hy ⊢
    rcases hy with h | h
    · exact .inl h
    · exact .inr (.inr h)
  · rw [h]
    have hx : x ∈ l1 ++ x :: l2 := by simp
    obtain ⟨t1, t2⟩ := T.put hx
    have h0 := (T.inD x hx).1
    refine ⟨t1.drop t2, Lg.put T hx hd hs, by simp, fun _ hp => by simp at hp ⊢; omega, fun y hy => ?_, [x.b.toNat], by simp [Hm.put], fun k hk => ⟨x, hx, ?_⟩⟩
    · simp only [List.mem_append, List.mem_cons] at hy ⊢
      rcases hy with h | h
      · exact .inl h
      · exact .inr (.inr h)
    · have : k = x.b.toNat := by simpa using hk
      omega

/-- Cleaning: what it keeps, and what went home. -/
theorem cl_tr (c : Ca) (most : Int) : ∀ (S : List Pl) (n : Nat) (m : Hm) (l : List Pl), Tr m l want last → (∀ x ∈ S, x ∈ l ∧ x.dirty = true) → (S.map (·.b)).Nodup → (clR c most S n m l).2.1 = 0 ∧ Tr (clR c most S n m l).2.2.1 (clR c most S n m l).2.2.2 want last ∧ Lg c.safe want last m (clR c most S n m l).2.2.1
  | [], n, m, l, T, _, _ => ⟨rfl, T, Lg.refl _ _ _ _⟩
  | x :: S, n, m, l, T, hS, hn => by
    rw [List.map_cons, List.nodup_cons] at hn
    rw [clR]
    split
    · exact ⟨rfl, T, Lg.refl _ _ _ _⟩
    · split
      · rename_i hs
        rw [T.fa, if_neg (by decide)]
        obtain ⟨hx, hd⟩ := hS x (by simp)
        obtain ⟨t1, t2⟩ := T.put hx
        have t3 := t1.cln hx t2
        have hS' : ∀ y ∈ S, y ∈ cln l x.b ∧ y.dirty = true := fun y hy => by
          obtain ⟨h1, h2⟩ := hS y (List.mem_cons_of_mem _ hy)
          refine ⟨List.mem_map.2 ⟨y, h1, ?_⟩, h2⟩
          rw [if_neg (fun e => hn.1 (List.mem_map.2 ⟨y, hy, e⟩))]
        obtain ⟨r1, r2, r3⟩ := cl_tr c most S (n + 1) _ _ t3 hS' hn.2
        exact ⟨r1, r2, (Lg.put T hx hd hs).trans r3⟩
      · exact cl_tr c most S n m l T (fun y hy => hS y (List.mem_cons_of_mem _ hy)) hn.2
end
end Go.Proofs.Ytdgmlopaeonacaa

namespace Go.Proofs.Ytdgmlopaeonacaa
set_option linter.unusedVariables false
set_option linter.unusedSimpArgs false
set_option linter.unusedVariables false

/-- What the promises look at of a block. -/
def vw (x : Pl) : Int × List UInt8 × Bool × Nat := (x.b, x.P, x.dirty, x.last)

section
variable {c : Ca} {m : Hm} {l l' l0 : List Pl} {want : List (List UInt8)} {last : List Nat} {b : Int}

theorem Tr.congr (T : Tr m l want last) (h : ∀ y, y ∈ l'.map vw ↔ y ∈ l.map vw) (hn : (l'.map (·.b)).Nodup) : Tr m l' want last := by
  have hm : ∀ y ∈ l', ∃ z ∈ l, z.b = y.b ∧ z.P = y.P ∧ z.dirty = y.dirty ∧ z.last = y.last := fun y hy => by
    obtain ⟨z, hz, e⟩ := List.mem_map.1 ((h (vw y)).1 (List.mem_map.2 ⟨y, hy, rfl⟩))
    simp only [vw, Prod.mk.injEq] at e
    exact ⟨z, hz, e.1, e.2.1, e.2.2.1, e.2.2.2⟩
  refine ⟨hn, fun y hy => ?_, T.wl, T.ll, fun y hy => ?_, fun y hy hd => ?_, fun y hy hd => ?_, fun i hi ho => T.out i hi (fun z hz => ?_), T.nf⟩
  · obtain ⟨z, hz, e1, -⟩ := hm y hy
    rw [← e1]; exact T.inD z hz
  · obtain ⟨z, hz, e1, e2, -⟩ := hm y hy
    rw [← e1, ← e2]; exact T.hand z hz
  · obtain ⟨z, hz, e1, e2, e3, -⟩ := hm y hy
    rw [← e1, ← e2]; exact T.clean z hz (e3.trans hd)
  · obtain ⟨z, hz, e1, -, e3, e4⟩ := hm y hy
    rw [← e1, ← e4]; exact T.dirty z hz (e3.trans hd)
  · obtain ⟨y, hy, e⟩ := List.mem_map.1 ((h (vw z)).2 (List.mem_map.2 ⟨z, hz, rfl⟩))
    simp only [vw, Prod.mk.injEq] at e
    rw [← e.1]; exact ho y hy
theorem Tr.perm (T : Tr m l want last) (h : l'.Perm l) : Tr m l' want last :=
  T.congr (fun y => (h.map vw).mem_iff) ((h.map _).nodup_iff.2 T.nd)
theorem Tr.view (T : Tr m l want last) (h : l'.map vw = l.map vw) : Tr m l' want last := by
  have e : l'.map (·.b) = l.map (·.b) := by
    have := congrArg (List.map Prod.fst) h
    simpa [List.map_map, Function.comp_def, vw] using this
  exact T.congr (fun y => by rw [h]) (by rw [e]; exact T.nd)

/-- A block is fetched. -/
theorem Tr.add (T : Tr m l want last) (z : Pl) (hz : 0 ≤ z.b ∧ z.b < (m.D.length : Int)) (hno : ∀ y ∈ l, y.b ≠ z.b) (hd : z.dirty = false) (hP : m.D[z.b.toNat]? = some z.P) : Tr m (l ++ [z]) want last := by
  have hw : want[z.b.toNat]? = some z.P := by
    rw [← T.out z.b.toNat (by omega) (fun y hy e => hno y hy (by omega))]; exact hP
  refine ⟨?_, fun y hy => ?_, T.wl, T.ll, fun y hy => ?_, fun y hy h => ?_, fun y hy h => ?_, fun i hi ho => T.out i hi (fun y hy => ho y (List.mem_append_left _ hy)), T.nf⟩
  · rw [List.map_append, List.nodup_append]
    refine ⟨T.nd, by simp, fun a ha e he => ?_⟩
    obtain ⟨y, hy, rfl⟩ := List.mem_map.1 ha
    simp at he
    rw [he]; exact hno y hy
  all_goals
    rcases List.mem_append.1 hy with hy | hy
  · exact T.inD y hy
  · rw [List.mem_singleton.1 hy]; exact hz
  · exact T.hand y hy
  · rw [List.mem_singleton.1 hy]; exact hw
  · exact T.clean y hy h
  · rw [List.mem_singleton.1 hy]; exact hP
  · exact T.dirty y hy h
  · rw [List.mem_singleton.1 hy, hd] at h; simp at h

/-- A block is written. -/
theorem Tr.write (T : Tr m l want last) (hs : l0.Sublist l) (z : Pl) (hz : 0 ≤ z.b ∧ z.b < (m.D.length : Int)) (hne : ∀ y ∈ l0, y.b ≠ z.b) (hall : ∀ y ∈ l, y.b ≠ z.b → y ∈ l0) (hd : z.dirty = true) : Tr m (l0 ++ [z]) (want.set z.b.toNat z.P) (last.set z.b.toNat z.last) := by
  have hlt : z.b.toNat < m.D.length := by omega
  have hsub : ∀ y ∈ l0, y ∈ l := fun y hy => hs.subset hy
  have hix : ∀ y ∈ l0, z.b.toNat ≠ y.b.toNat := fun y hy e => hne y hy (by have := T.inD y (hsub y hy); omega)
  refine ⟨?_, fun y hy => ?_, by rw [List.length_set]; exact T.wl, by rw [List.length_set]; exact T.ll, fun y hy => ?_, fun y hy h => ?_, fun y hy h => ?_, fun i hi ho => ?_, T.nf⟩
  · rw [List.map_append, List.nodup_append]
    refine ⟨(hs.map _).nodup T.nd, by simp, fun a ha e he => ?_⟩
    obtain ⟨y, hy, rfl⟩ := List.mem_map.1 ha
    simp at he
    rw [he]; exact hne y hy
  · rcases List.mem_append.1 hy with hy | hy
    · exact T.inD y (hsub y hy)
    · rw [List.mem_singleton.1 hy]; exact hz
  · rcases List.mem_append.1 hy with hy | hy
    · rw [List.getElem?_set_ne (hix y hy)]; exact T.hand y (hsub y hy)
    · rw [List.mem_singleton.1 hy, List.getElem?_set_self (by rw [T.wl]; exact hlt)]
  · rcases List.mem_append.1 hy with hy | hy
    · exact T.clean y (hsub y hy) h
    · rw [List.mem_singleton.1 hy, hd] at h; simp at h
  · rcases List.mem_append.1 hy with hy | hy
    · rw [List.getElem?_set_ne (hix y hy)]; exact T.dirty y (hsub y hy) h
    · rw [List.mem_singleton.1 hy, List.getElem?_set_self (by rw [T.ll]; exact hlt)]
  · have h1 : z.b.toNat ≠ i := fun e => ho z (by simp) (by omega)
    rw [List.getElem?_set_ne h1]
    refine T.out i hi (fun y hy e => ?_)
    exact ho y (List.mem_append_left _ (hall y hy (fun h => h1 (by omega)))) e

/-- Fetching. -/
theorem ft_tr (b : Int) (T : Tr m l want last) (hl : l.length ≤ c.places) : Tr (ftR c m l b).2.2.1 (ftR c m l b).2.1 want last ∧ Lg c.safe want last m (ftR c m l b).2.2.1 ∧ (ftR c m l b).2.1.length ≤ c.places ∧ (ftR c m l b).2.2.2.safe = c.safe ∧ (ftR c m l b).2.2.2.places = c.places ∧
    ((ftR c m l b).1 = 0 → (0 ≤ b ∧ b < (m.D.length : Int)) ∧ ∃ x, (ftR c m l b).2.1.getLast? = some x ∧ x.b = b ∧ want[b.toNat]? = some x.P) := by
  unfold ftR
  by_cases h0 : chE m b = 0
  · rw [if_pos h0]
    have hb := chE_in h0
    rcases hi : atI l b with _ | i
    · dsimp only
      have hno := at_none hi
      obtain ⟨t1, t2, t3, t4, t5, -⟩ := rm_tr c T
      by_cases h1 : (rmR c m l).1 = 0
      · rw [if_pos h1, t1.fa, if_neg (by decide)]
        have hlen := t2.len
        have hD : (rmR c m l).2.2.D[b.toNat]? = some ((rmR c m l).2.2.D.getD b.toNat []) := by
          have : b.toNat < (rmR c m l).2.2.D.length := by omega
          simp [List.getD_eq_getElem?_getD, this]
        have t6 := t1.one.add { zeroP b with P := (rmR c m l).2.2.D.getD b.toNat [] } (by show 0 ≤ b ∧ b < (((rmR c m l).2.2.D.length : Nat) : Int); rw [hlen]; exact hb) (fun y hy => hno y (t5 y hy)) rfl hD
        refine ⟨t6, t2.trans (Lg.one _ _ _ _), ?_, rfl, rfl, fun _ => ⟨hb, { zeroP b with P := (rmR c m l).2.2.D.getD b.toNat [] }, List.getLast?_concat, rfl, t6.hand _ (List.mem_append_right _ (List.mem_singleton.2 rfl))⟩⟩
        have := t4 h1 hl
        simp; omega
      · rw [if_neg h1]
        exact ⟨t1, t2, Nat.le_trans t3 hl, rfl, rfl, fun e => absurd e h1⟩
    · obtain ⟨x, hx, hxb⟩ := at_some hi
      dsimp only
      rw [hx]
      dsimp only
      obtain ⟨h5, h6⟩ := split_idx hx
      have hp : (l.eraseIdx i ++ [x]).Perm l := by
        rw [h6]
        conv => rhs; rw [h5]
        refine (List.perm_append_comm (l₁ := l.take i ++ l.drop (i + 1)) (l₂ := [x])).trans ?_
        exact (List.perm_middle (a := x) (l₁ := l.take i) (l₂ := l.drop (i + 1))).symm
      have t := T.perm hp
      refine ⟨t, Lg.refl _ _ _ _, by rw [hp.length_eq]; exact hl, rfl, rfl, fun _ => ⟨hb, x, by simp, hxb, ?_⟩⟩
      rw [← hxb]; exact t.hand x (by simp)
  · rw [if_neg h0]
    exact ⟨T, Lg.refl _ _ _ _, hl, rfl, rfl, fun e => absurd e h0⟩
end
end Go.Proofs.Ytdgmlopaeonacaa

namespace Go.Proofs.Ytdgmlopaeonacaa
set_option linter.unusedVariables false
set_option linter.unusedSimpArgs false
set_option linter.unusedVariables false

/-- What a law sees of what went home. -/
def LgC (safe : Nat) (want : List (List UInt8)) (last : List Nat) (m m' : Hm) : Prop :=
  ∃ ks : List Nat, m'.log = m.log ++ ks.map (fun k : Nat => (k : Int)) ∧ ∀ k ∈ ks, k < m'.D.length ∧ m'.D[k]? = want[k]? ∧ ∃ v, last[k]? = some v ∧ v ≤ safe
theorem LgC.refl (safe : Nat) (want : List (List UInt8)) (last : List Nat) (m : Hm) : LgC safe want last m m := ⟨[], by simp, by simp⟩

section
variable {c : Ca} {m : Hm} {l l' l0 : List Pl} {want : List (List UInt8)} {last : List Nat} {b : Int}

theorem erase_perm {l : List Pl} {i : Nat} {x : Pl} (hx : l[i]? = some x) : (l.eraseIdx i ++ [x]).Perm l := by
  obtain ⟨h5, h6⟩ := split_idx hx
  rw [h6]
  conv => rhs; rw [h5]
  refine (List.perm_append_comm (l₁ := l.take i ++ l.drop (i + 1)) (l₂ := [x])).trans ?_
  exact (List.perm_middle (a := x) (l₁ := l.take i) (l₂ := l.drop (i + 1))).symm

/-- Writing. -/
theorem wt_tr (b : Int) (P : List UInt8) (ch : Nat) (T : Tr m l want last) (hl : l.length ≤ c.places) :
    ((wtR c m l b P ch).1 = 0 → (0 ≤ b ∧ b < (m.D.length : Int)) ∧ P.length ≤ 384 ∧ Tr (wtR c m l b P ch).2.2 (wtR c m l b P ch).2.1 (want.set b.toNat (pad P)) (last.set b.toNat ch) ∧ LgC c.safe (want.set b.toNat (pad P)) (last.set b.toNat ch) m (wtR c m l b P ch).2.2) ∧
    ((wtR c m l b P ch).1 ≠ 0 → Tr (wtR c m l b P ch).2.2 (wtR c m l b P ch).2.1 want last ∧ LgC c.safe want last m (wtR c m l b P ch).2.2) ∧
    (wtR c m l b P ch).2.1.length ≤ c.places ∧ (wtR c m l b P ch).2.2.D.length = m.D.length := by
  unfold wtR
  by_cases h0 : chE m b = 0
  · rw [if_pos h0]
    have hb := chE_in h0
    by_cases hP : P.length ≤ 384
    · rw [if_pos hP]
      rcases hi : atI l b with _ | i
      · dsimp only
        have hno := at_none hi
        obtain ⟨t1, t2, t3, t4, t5, ks, t6, t7⟩ := rm_tr c T
        by_cases h1 : (rmR c m l).1 = 0
        · rw [if_pos h1]
          have hlen := t2.len
          have hz : 0 ≤ (wtP (zeroP b) P ch).b ∧ (wtP (zeroP b) P ch).b < ((rmR c m l).2.2.D.length : Int) := by rw [hlen]; exact hb
          have w1 := t1.write (List.Sublist.refl _) (wtP (zeroP b) P ch) hz (fun y hy => hno y (t5 y hy)) (fun y hy _ => hy) rfl
          refine ⟨fun _ => ⟨hb, hP, w1, ?_⟩, fun e => absurd rfl e, ?_, hlen⟩
          · obtain ⟨js, g1, g2⟩ := t2.log
            refine ⟨js, g1, fun k hk => ?_⟩
            obtain ⟨a1, a2, v, a3, a4⟩ := g2 k hk
            have hjs : js = ks := by
              have e := g1.symm.trans t6
              have e2 := List.append_cancel_left e
              exact (List.map_inj_right (fun x y (h : ((x : Nat) : Int) = ((y : Nat) : Int)) => by omega)).1 e2
            rw [hjs] at hk
            obtain ⟨x, hx, hxb⟩ := t7 k hk
            have hne : b.toNat ≠ k := fun e => hno x hx (by omega)
            exact ⟨a1, by rw [List.getElem?_set_ne hne]; exact a2, v, by rw [List.getElem?_set_ne hne]; exact a3, a4⟩
          · have := t4 h1 hl
            simp; omega
        · rw [if_neg h1]
          exact ⟨fun e => absurd e h1, fun _ => ⟨t1, t2.log⟩, Nat.le_trans t3 hl, t2.len⟩
      · obtain ⟨x, hx, hxb⟩ := at_some hi
        dsimp only
        rw [hx]
        dsimp only
        have hp := erase_perm hx
        have t := T.perm hp
        obtain ⟨h5, h6⟩ := split_idx hx
        have hnd := t.nd
        rw [List.map_append, List.nodup_append] at hnd
        have hne : ∀ y ∈ l.eraseIdx i, y.b ≠ b := fun y hy e => hnd.2.2 y.b (List.mem_map.2 ⟨y, hy, rfl⟩) b (by simp [hxb]) e
        have hz : 0 ≤ (wtP x P ch).b ∧ (wtP x P ch).b < (m.D.length : Int) := by show 0 ≤ x.b ∧ x.b < _; rw [hxb]; exact hb
        have w1 := T.write (l0 := l.eraseIdx i) (List.eraseIdx_sublist l i) (wtP x P ch) hz (fun y hy => by show y.b ≠ x.b; rw [hxb]; exact hne y hy) (fun y hy hn => by
          rcases List.mem_append.1 (hp.mem_iff.2 hy) with h | h
          · exact h
          · exact absurd (by rw [List.mem_singleton.1 h]; rfl) hn) rfl
        have e1 : (wtP x P ch).b = b := hxb
        rw [e1] at w1
        refine ⟨fun _ => ⟨hb, hP, w1, LgC.refl _ _ _ _⟩, fun e => absurd rfl e, ?_, rfl⟩
        have := hp.length_eq
        simp at this ⊢
        omega
    · rw [if_neg hP]
      exact ⟨fun e => by simp at e, fun _ => ⟨T, LgC.refl _ _ _ _⟩, hl, rfl⟩
  · rw [if_neg h0]
    exact ⟨fun e => absurd e h0, fun _ => ⟨T, LgC.refl _ _ _ _⟩, hl, rfl⟩

theorem pinL_vw (l : List Pl) : (pinL l).map vw = l.map vw := by
  unfold pinL
  rcases h : l.getLast? with _ | x
  · rfl
  · obtain ⟨ys, rfl⟩ := List.getLast?_eq_some_iff.1 h
    simp [vw]
/-- Pinning. -/
theorem pn_tr (b : Int) (T : Tr m l want last) (hl : l.length ≤ c.places) : Tr (pnR c m l b).2.2.1 (pnR c m l b).2.1 want last ∧ LgC c.safe want last m (pnR c m l b).2.2.1 ∧ (pnR c m l b).2.1.length ≤ c.places ∧ (pnR c m l b).2.2.2.safe = c.safe ∧ (pnR c m l b).2.2.2.places = c.places ∧ (pnR c m l b).2.2.1.D.length = m.D.length := by
  obtain ⟨t1, t2, t3, t4, t5, -⟩ := ft_tr b T hl
  unfold pnR
  dsimp only
  have hv : (if (ftR c m l b).1 = 0 then pinL (ftR c m l b).2.1 else (ftR c m l b).2.1).map vw = (ftR c m l b).2.1.map vw := by
    split
    · exact pinL_vw _
    · rfl
  refine ⟨t1.view hv, t2.log, ?_, t4, t5, t2.len⟩
  have := congrArg List.length hv
  rw [List.length_map, List.length_map] at this
  rw [this]; exact t3

/-- Unpinning. -/
theorem un_tr (b : Int) (T : Tr m l want last) : Tr m (unR l b).2 want last ∧ (unR l b).2.length = l.length := by
  have hv : (unR l b).2.map vw = l.map vw := by
    unfold unR
    rcases hi : atI l b with _ | i
    · rfl
    · obtain ⟨x, hx, -⟩ := at_some hi
      dsimp only
      rw [hx]
      dsimp only
      split
      · rfl
      · dsimp only
        rw [List.map_set]
        obtain ⟨h1, h2⟩ := List.getElem?_eq_some_iff.1 hx
        refine List.ext_getElem? (fun j => ?_)
        by_cases e : i = j
        · subst e
          rw [List.getElem?_set_self (by simpa using h1), List.getElem?_map, hx]
          rfl
        · rw [List.getElem?_set_ne e]
  exact ⟨T.view hv, by have := congrArg List.length hv; simpa using this⟩

theorem mem_srtL {x : Pl} : x ∈ srtL l ↔ x ∈ l ∧ x.dirty = true := by
  unfold srtL
  rw [(List.mergeSort_perm _ _).mem_iff, List.mem_filter]
theorem srtL_nd (T : Tr m l want last) : ((srtL l).map (·.b)).Nodup := by
  unfold srtL
  rw [((List.mergeSort_perm _ _).map _).nodup_iff]
  exact ((List.filter_sublist).map _).nodup T.nd
theorem cln_len (l : List Pl) (b : Int) : (cln l b).length = l.length := by simp [cln]
theorem cl_len (c : Ca) (most : Int) : ∀ (S : List Pl) (n : Nat) (m : Hm) (l : List Pl), (clR c most S n m l).2.2.2.length = l.length
  | [], n, m, l => rfl
  | x :: S, n, m, l => by
    rw [clR]
    split
    · rfl
    · split
      · split
        · rfl
        · rw [cl_len c most S, cln_len]
      · exact cl_len c most S n m l

/-- Cleaning. -/
theorem clean_tr (most : Int) (T : Tr m l want last) : (clR c most (srtL l) 0 m l).2.1 = 0 ∧ Tr (clR c most (srtL l) 0 m l).2.2.1 (clR c most (srtL l) 0 m l).2.2.2 want last ∧ Lg c.safe want last m (clR c most (srtL l) 0 m l).2.2.1 ∧ (clR c most (srtL l) 0 m l).2.2.2.length = l.length := by
  obtain ⟨h1, h2, h3⟩ := cl_tr (want := want) (last := last) c most (srtL l) 0 m l T (fun x hx => mem_srtL.1 hx) (srtL_nd T)
  exact ⟨h1, h2, h3, cl_len _ _ _ _ _ _⟩

theorem old_none (h : (oldR l).2 = false) : srtL l = [] := by
  unfold oldR at h
  split at h
  · assumption
  · simp at h
/-- Where nothing is dirty home has all. -/
theorem all_home (T : Tr m l want last) (h : srtL l = []) : m.D = want := by
  refine List.ext_getElem? (fun i => ?_)
  by_cases hi : i < m.D.length
  · by_cases he : ∃ x ∈ l, x.b = (i : Int)
    · obtain ⟨x, hx, hxb⟩ := he
      have hd : x.dirty = false := by
        rcases hd : x.dirty with _ | _
        · rfl
        · have := mem_srtL.2 ⟨hx, hd⟩
          rw [h] at this; simp at this
      have e : x.b.toNat = i := by omega
      rw [← e, T.clean x hx hd, T.hand x hx]
    · exact T.out i hi (fun x hx e => he ⟨x, hx, e⟩)
  · rw [List.getElem?_eq_none (by omega), List.getElem?_eq_none (by rw [T.wl]; omega)]

/-- Flushing. -/
theorem fl_tr (c : Ca) (T : Tr m l want last) : Tr (flR c m l).2.1 (flR c m l).2.2 want last ∧ LgC c.safe want last m (flR c m l).2.1 ∧ (flR c m l).2.2.length = l.length ∧ (flR c m l).2.1.D.length = m.D.length ∧ ((flR c m l).1 = 0 → (flR c m l).2.1.D = want ∧ srtL (flR c m l).2.2 = []) := by
  obtain ⟨h1, h2, h3, h4⟩ := clean_tr (c := c) (l.length : Int) T
  unfold flR
  rw [if_pos h1, h2.fa]
  dsimp only
  refine ⟨h2.one, ?_, h4, h3.len, fun e => ?_⟩
  · obtain ⟨ks, g1, g2⟩ := h3.log
    exact ⟨ks, g1, g2⟩
  · rcases ho : (oldR (clR c (l.length : Int) (srtL l) 0 m l).2.2.2).2 with _ | _
    · have := old_none ho
      exact ⟨all_home h2.one this, this⟩
    · rw [ho] at e
      simp at e

/-- What cleaning leaves dirty, where all may go. -/
theorem cl_left (c : Ca) (most : Int) : ∀ (S : List Pl) (n : Nat) (m : Hm) (l : List Pl), Tr m l want last → (∀ x ∈ S, x ∈ l ∧ x.dirty = true) → (S.map (·.b)).Nodup → (∀ x ∈ S, x.last ≤ c.safe) → (n : Int) + (S.length : Int) ≤ most → ∀ y ∈ (clR c most S n m l).2.2.2, y.dirty = true → ∃ z ∈ l, z.dirty = true ∧ z.b = y.b ∧ ∀ x ∈ S, x.b ≠ y.b
  | [], n, m, l, T, _, _, _, _ => fun y hy hd => ⟨y, hy, hd, rfl, by simp⟩
  | x :: S, n, m, l, T, hS, hn, hs, hm => by
    rw [List.map_cons, List.nodup_cons] at hn
    rw [clR]
    rw [if_neg (by simp at hm; omega), if_pos (hs x (by simp)), T.fa, if_neg (by decide)]
    obtain ⟨hx, hd⟩ := hS x (by simp)
    obtain ⟨t1, t2⟩ := T.put hx
    have t3 := t1.cln hx t2
    have hS' : ∀ y ∈ S, y ∈ cln l x.b ∧ y.dirty = true := fun y hy => by
      obtain ⟨h1, h2⟩ := hS y (List.mem_cons_of_mem _ hy)
      refine ⟨List.mem_map.2 ⟨y, h1, ?_⟩, h2⟩
      rw [if_neg (fun e => hn.1 (List.mem_map.2 ⟨y, hy, e⟩))]
    intro y hy hyd
    obtain ⟨z, hz, hzd, hzb, hzS⟩ := cl_left c most S (n + 1) _ _ t3 hS' hn.2 (fun y hy => hs y (List.mem_cons_of_mem _ hy)) (by simp at hm ⊢; omega) y hy hyd
    obtain ⟨z0, hz0, rfl⟩ := List.mem_map.1 hz
    by_cases e : z0.b = x.b
    · rw [if_pos e] at hzd; simp at hzd
    · rw [if_neg e] at hzd hzb
      refine ⟨z0, hz0, hzd, hzb, fun q hq => ?_⟩
      rcases List.mem_cons.1 hq with rfl | hq
      · rw [← hzb]; exact fun h => e h.symm
      · exact hzS q hq

/-- Flushing, where all may go. -/
theorem fl_all (c : Ca) (T : Tr m l want last) (hs : ∀ x ∈ l, x.last ≤ c.safe) : (flR c m l).1 = 0 ∧ (flR c m l).2.1.D = want ∧ srtL (flR c m l).2.2 = [] := by
  have h0 : (flR c m l).1 = 0 := by
    obtain ⟨h1, h2, h3, h4⟩ := clean_tr (c := c) (l.length : Int) T
    unfold flR
    rw [if_pos h1, h2.fa]
    dsimp only
    have hsl := srtL_len l
    have hL := cl_left (want := want) (last := last) c (l.length : Int) (srtL l) 0 m l T (fun x hx => mem_srtL.1 hx) (srtL_nd T) (fun x hx => hs x (mem_srtL.1 hx).1) (by omega)
    have : srtL (clR c (l.length : Int) (srtL l) 0 m l).2.2.2 = [] := by
      rcases h : srtL (clR c (l.length : Int) (srtL l) 0 m l).2.2.2 with _ | ⟨y, ys⟩
      · rfl
      · obtain ⟨g1, g2⟩ := mem_srtL.1 (show y ∈ srtL (clR c (l.length : Int) (srtL l) 0 m l).2.2.2 by rw [h]; simp)
        obtain ⟨z, hz, hzd, hzb, hzS⟩ := hL y g1 g2
        exact absurd hzb (hzS z (mem_srtL.2 ⟨hz, hzd⟩))
    have ho : (oldR (clR c (l.length : Int) (srtL l) 0 m l).2.2.2).2 = false := by unfold oldR; rw [this]
    rw [ho]
    rfl
  exact ⟨h0, (fl_tr c T).2.2.2.2 h0⟩
end
end Go.Proofs.Ytdgmlopaeonacaa

namespace Go.Proofs.Ytdgmlopaeonacaa
set_option linter.unusedVariables false
set_option linter.unusedSimpArgs false
open Go.RowKit
attribute [local instance] avNo
set_option linter.unusedVariables false

attribute [local go_sem ↓] Go.wp_at_zero Go.wp_at_succ

def lm0 : Hm := hmN 3 0 0
def lc0 : Ca := ⟨2, 0, 0, 0⟩
def lc5 : Ca := ⟨2, 5, 0, 0⟩
def lx0 : Pl := wtP (zeroP 0) [97] 5
def lx1 : Pl := wtP (zeroP 1) [98] 6
def lx2 : Pl := { zeroP 2 with P := z384 }
def lm4 : Hm := (lm0.put 0 (pad [97])).one
theorem ls1 : wtR lc0 lm0 [] 0 [97] 5 = (0, [lx0], lm0) := by kernel_rfl
theorem ls2 : wtR lc0 lm0 [lx0] 1 [98] 6 = (0, [lx0, lx1], lm0) := by kernel_rfl
theorem ls3 : ftR lc0 lm0 [lx0, lx1] 2 = (91, [lx0, lx1], lm0, lc0) := by kernel_rfl
theorem ls4 : ftR lc5 lm0 [lx0, lx1] 2 = (0, [lx1, lx2], lm4, ⟨2, 5, 0, 1⟩) := by kernel_rfl
theorem ld0 : lm4.D[0]? = some (pad [97]) := by kernel_rfl
theorem ld1 : lm4.D[1]? = some z384 := by kernel_rfl
theorem lin0 : InD lm0 [] := fun x hx => by simp at hx
theorem lin1 : InD lm0 [lx0] := fun x hx => by simp at hx; subst hx; decide
theorem lin2 : InD lm0 [lx0, lx1] := fun x hx => by
  simp at hx
  rcases hx with rfl | rfl
  · decide
  · decide
theorem num_any (w : World) (n : Int) : Calls Try.prog 12 #[.int .i64 n] w fun e w' => e = .returned (.int .i64 n) ∧ w = w' := by
  go_enter Try.func12, Try.ntmps12
  go_wp2_with fail
  go_ret
  exact ⟨rfl, rfl⟩
theorem one_rd (w : World) (b : UInt8) : Rd (w.alloc (.cells #[.int .u8 ((b.toNat : Nat) : Int)] 5 (1, 2))) (.slice (some ⟨w.heap.size, 0, none⟩) 1 1) [b] := by
  refine Rd.lit rfl (Nat.le_refl _) (by decide) fun j hj => ?_
  have hj0 : j = 0 := by simp at hj; exact hj
  subst hj0
  rw [cell_of_row _ _ _ _ _ _ (heap_alloc_new w _)]; rfl

theorem cv37 (w : World) (b : Int) : (convert 37 37 (.slice (some ⟨w.heap.size, 0, none⟩) 1 1)).run Try.prog (w.alloc (.cells #[.int .u8 b] 5)) = .ok (.slice (some ⟨w.heap.size, 0, none⟩) 1 1) (w.alloc (.cells #[.int .u8 b] 5 (1, 2))) := Lib.run_convert_bytes_const w 37 5 #[.int .u8 b] 1 1 Try.underlying37 Try.underlying5

set_option maxRecDepth 100000 in
set_option maxHeartbeats 2000000 in
theorem live_any (w : World) : Calls Try.prog 7 #[] w fun e w' => e = .returned (.bool true) ∧ Fr (fun _ => False) w w' := by
  go_enter Try.func7, Try.ntmps7
  go_wp2_with fail
  refine (newHome_any w 3 0 0 (by decide) (by decide) (by decide)).mono ?_
  rintro e w1 ⟨⟨h, dv, vs, rfl, hH, hh1, hh2⟩, f1⟩
  have HN := hide (cs_new (w0 := w) hH f1 ⟨hh1, hh2⟩ 2 (by decide))
  unfold ptr at *
  clear hH hh1 hh2 f1
  go_wp2_with fail
  refine (unhide HN).mono ?_
  rintro e w2 ⟨p, r, u, rfl, h2⟩
  have H2 : Hid (CS (w, w) w2 p h r u dv lc0 lm0 []) := hide h2
  have k1 := cv37 w2 97
  unfold ptr at *
  clear h2 HN
  go_wp2_with (go_at_call 12; refine (num_any _ _).mono ?_; rintro e w' ⟨rfl, rfl⟩)
  have fa := (Fr.refl (fun _ => False) w2).alloc (.cells #[.int .u8 97] 5 (1, 2))
  have C1 := cs_write (w := w2.alloc (.cells #[.int .u8 97] 5 (1, 2))) 0 (.slice (some ⟨w2.heap.size, 0, none⟩) 1 1) [97] 5 (by decide) (one_rd w2 97) (fun k hk => .inr (by simp [Value.ownBlock] at hk; subst hk; exact knd_cells (heap_alloc_new w2 _))) ((unhide H2).fr fa) lin0 (by decide)
  rw [ls1] at C1
  unfold ptr at C1
  refine C1.mono ?_
  clear C1 fa k1
  rintro e w3 ⟨rfl, h3⟩
  have H3 := hide h3
  have k1 := cv37 w3 98
  clear h3 H2
  dsimp only at H3 ⊢
  go_wp2_with fail
  have fa := (Fr.refl (fun _ => False) w3).alloc (.cells #[.int .u8 98] 5 (1, 2))
  have C1 := cs_write (w := w3.alloc (.cells #[.int .u8 98] 5 (1, 2))) 1 (.slice (some ⟨w3.heap.size, 0, none⟩) 1 1) [98] 6 (by decide) (one_rd w3 98) (fun k hk => .inr (by simp [Value.ownBlock] at hk; subst hk; exact knd_cells (heap_alloc_new w3 _))) ((unhide H3).fr fa) lin1 (by decide)
  rw [ls2] at C1
  unfold ptr at C1
  refine C1.mono ?_
  clear C1 fa k1
  rintro e w4 ⟨rfl, h4⟩
  have H4 := hide h4
  clear h4 H3
  dsimp only at H4 ⊢
  go_wp2_with fail
  have C1 := cs_read 2 (unhide H4) lin2 (by decide) (by decide)
  rw [ls3] at C1
  unfold ptr at C1
  refine C1.mono ?_
  clear C1
  rintro e w5 ⟨hA, h5⟩
  have H5 := hide h5
  clear h5 H4
  obtain ⟨-, rfl⟩ := hA.resolve_right (fun h => absurd h.1 (by decide))
  clear hA
  dsimp only at H5 ⊢
  go_wp2_with fail
  have C1 := cs_safe 5 (by decide) (unhide H5)
  unfold ptr at C1
  refine C1.mono ?_
  clear C1
  rintro e w6 ⟨rfl, h6⟩
  have H6 : Hid (CS (w, w) w6 p h r u dv lc5 lm0 [lx0, lx1]) := hide h6
  clear h6 H5
  go_wp2_with fail
  have C1 := cs_read 2 (unhide H6) lin2 (by decide) (by decide)
  rw [ls4] at C1
  unfold ptr at C1
  refine C1.mono ?_
  clear C1
  rintro e w7 ⟨hA, h7⟩
  obtain ⟨x, ao, cc, -, rfl, -, -, -, -⟩ := (hA.resolve_left (fun h => h.1 rfl)).2
  obtain ⟨g, cap, b0, hdv, hi0, hcap, cd, cg0, hB0⟩ := cs_home h7 0 _ ld0
  obtain ⟨g1, cap1, b1, hdv1, hi1, hcap1, -, cg1, hB1⟩ := cs_home h7 1 _ ld1
  rw [hdv] at hdv1
  simp only [Value.slice.injEq, Option.some.injEq, Addr.mk.injEq] at hdv1
  obtain ⟨⟨rfl, -, -⟩, -, rfl⟩ := hdv1
  have e0 := hB0.cell 0 (by decide)
  have e1 := hB1.cell 0 (by decide)
  have e0' : w7.cell? ⟨b0, 0, none⟩ = some (.int .u8 97) := e0
  have e1' : w7.cell? ⟨b1, 0, none⟩ = some (.int .u8 0) := e1
  have hdv' : dv = .slice (some ⟨g, 0, none⟩) 3 cap := hdv
  subst hdv'
  have hcap' : 3 ≤ cap := hcap
  have hc0 : 0 < cap := by omega
  have hc1 : 1 < cap := by omega
  have HHE := hide (cs_held h7 (by decide))
  have H7 := hide h7
  unfold ptr at HHE
  clear hA h7 H6 hdv hi0 hcap hi1 hcap1 hB0 hB1 e0 e1
  go_wp2_with (go_at_call 12; refine (num_any _ _).mono ?_; rintro e w' ⟨rfl, rfl⟩)
  refine (unhide HHE).mono ?_
  rintro e w8 ⟨⟨ho, hcc, rfl, hr8⟩, f8⟩
  have F8 := hide ((unhide H7).f.trans f8 (fun _ _ h => h))
  have HR8 : Hid (RdV w8 (.slice ho 2 hcc) (([1, 2] : List Int).map (Value.int .i64))) := hide hr8
  clear hr8 f8 HHE H7
  dsimp only [List.length_cons, List.length_nil]
  go_wp2_with fail
  have fa := (Fr.refl (fun _ => False) w8).alloc (.cells #[.int .i64 1, .int .i64 2] 3)
  have hr2 : RdV (w8.alloc (.cells #[.int .i64 1, .int .i64 2] 3)) (.slice (some ⟨w8.heap.size, 0, none⟩) 2 2) (([1, 2] : List Int).map (Value.int .i64)) := by
    refine .inr ⟨⟨w8.heap.size, 0, none⟩, 2, rfl, Nat.le_refl _, by decide, fun j hj => ?_⟩
    rw [Addr.add_lit, Nat.zero_add, cell_of_heap (heap_alloc_new w8 _)]
    have : j < 2 := hj
    rcases (by omega : j = 0 ∨ j = 1) with rfl | rfl <;> rfl
  refine (ints_any _ _ _ [1, 2] [1, 2] ((unhide HR8).kept fa (fun _ _ h => h)) hr2).mono ?_
  rintro e w9 ⟨rfl, n9, rfl⟩
  have F9 := hide ((unhide F8).trans (fa.trans (Fr.ofDrewN (S := fun _ => False) _ n9) (fun _ _ h => h)) (fun _ _ h => h))
  clear hr2 fa HR8 F8
  rw [decide_eq_true rfl]
  go_wp2_with fail
  go_ret
  exact ⟨rfl, unhide F9⟩
end Go.Proofs.Ytdgmlopaeonacaa
