/-
  What a cache promises, plainly: what is at hand and what lies at home, against what was written last.
-/
import Derived.Test.YtdgmlopaeonacaaD9
namespace Go.Proofs.Ytdgmlopaeonacaa
set_option linter.unusedVariables false

/-- Blocks at hand and at home, against what was written last and by which change. -/
structure Tr (m : Hm) (l : List Pl) (want : List (List UInt8)) (last : List Nat) : Prop where
  nd : (l.map (·.b)).Nodup
  inD : ∀ x ∈ l, 0 ≤ x.b ∧ x.b < (m.D.length : Int)
  wl : want.length = m.D.length
  ll : last.length = m.D.length
  hand : ∀ x ∈ l, want[x.b.toNat]? = some x.P
  clean : ∀ x ∈ l, x.dirty = false → m.D[x.b.toNat]? = some x.P
  dirty : ∀ x ∈ l, x.dirty = true → last[x.b.toNat]? = some x.last
  out : ∀ i, i < m.D.length → (∀ x ∈ l, x.b ≠ (i : Int)) → m.D[i]? = want[i]?
  nf : m.bad = 0 ∧ m.long = 0

/-- What went home: nothing that is not sure; all as written last. -/
structure Lg (safe : Nat) (want : List (List UInt8)) (last : List Nat) (m m' : Hm) : Prop where
  len : m'.D.length = m.D.length
  keep : ∀ k : Nat, m.D[k]? = want[k]? → m'.D[k]? = want[k]?
  log : ∃ ks : List Nat, m'.log = m.log ++ ks.map (fun k : Nat => (k : Int)) ∧ ∀ k ∈ ks, k < m'.D.length ∧ m'.D[k]? = want[k]? ∧ ∃ v, last[k]? = some v ∧ v ≤ safe

section
variable {safe : Nat} {m m' m'' : Hm} {l l1 l2 : List Pl} {want : List (List UInt8)} {last : List Nat} {x : Pl}

theorem Tr.fa (T : Tr m l want last) : m.fa = false := by
  obtain ⟨h1, h2⟩ := T.nf
  unfold Hm.fa
  rw [h1, h2]
  simp
theorem Lg.refl (safe : Nat) (want : List (List UInt8)) (last : List Nat) (m : Hm) : Lg safe want last m m := ⟨rfl, fun _ h => h, [], by simp, by simp⟩
theorem Lg.one (safe : Nat) (want : List (List UInt8)) (last : List Nat) (m : Hm) : Lg safe want last m m.one := ⟨rfl, fun _ h => h, [], by simp [Hm.one], by simp⟩
theorem Lg.trans (h : Lg safe want last m m') (k : Lg safe want last m' m'') : Lg safe want last m m'' := by
  obtain ⟨ks, h1, h2⟩ := h.log
  obtain ⟨js, k1, k2⟩ := k.log
  refine ⟨k.len.trans h.len, fun i hi => k.keep i (h.keep i hi), ks ++ js, by rw [k1, h1]; simp, fun i hi => ?_⟩
  rcases List.mem_append.1 hi with hi | hi
  · obtain ⟨a, b, c⟩ := h2 i hi
    exact ⟨by rw [k.len]; exact a, k.keep i b, c⟩
  · exact k2 i hi

theorem Tr.one (T : Tr m l want last) : Tr m.one l want last := ⟨T.nd, T.inD, T.wl, T.ll, T.hand, T.clean, T.dirty, T.out, T.nf⟩

/-- Two blocks at hand with one number are one. -/
theorem Tr.same (T : Tr m l want last) {y : Pl} (hx : x ∈ l) (hy : y ∈ l) (e : x.b = y.b) : x = y := inj_nodup (·.b) l T.nd x hx y hy e

/-- A dirty block goes home. -/
theorem Tr.put (T : Tr m l want last) (hx : x ∈ l) : Tr (m.put x.b.toNat x.P) l want last ∧ (m.put x.b.toNat x.P).D[x.b.toNat]? = some x.P := by
  obtain ⟨hx0, hx1⟩ := T.inD x hx
  have hlt : x.b.toNat < m.D.length := by omega
  have hlen : (m.put x.b.toNat x.P).D.length = m.D.length := by simp [Hm.put]
  have hself : (m.put x.b.toNat x.P).D[x.b.toNat]? = some x.P := by simp [Hm.put, hlt]
  have hoth : ∀ i, i ≠ x.b.toNat → (m.put x.b.toNat x.P).D[i]? = m.D[i]? := fun i hi => by
    simp only [Hm.put]
    rw [List.getElem?_set_ne (Ne.symm hi)]
  refine ⟨⟨T.nd, fun y hy => by rw [hlen]; exact T.inD y hy, by rw [hlen]; exact T.wl, by rw [hlen]; exact T.ll, T.hand, fun y hy hd => ?_, T.dirty, fun i hi ho => ?_, T.nf⟩, hself⟩
  · by_cases e : y.b.toNat = x.b.toNat
    · have h1 := T.inD y hy
      have : y = x := T.same hy hx (by omega)
      rw [this]; exact hself
    · rw [hoth _ e]; exact T.clean y hy hd
  · rw [hlen] at hi
    rw [hoth i (fun e => ho x hx (by omega))]
    exact T.out i hi ho
theorem Lg.put (T : Tr m l want last) (hx : x ∈ l) (hd : x.dirty = true) (hs : x.last ≤ safe) : Lg safe want last m (m.put x.b.toNat x.P) := by
  obtain ⟨hx0, hx1⟩ := T.inD x hx
  have hlt : x.b.toNat < m.D.length := by omega
  have hself := (T.put hx).2
  have hlen : (m.put x.b.toNat x.P).D.length = m.D.length := by simp [Hm.put]
  refine ⟨hlen, fun k hk => ?_, [x.b.toNat], by simp [Hm.put], fun k hk => ?_⟩
  · by_cases e : k = x.b.toNat
    · rw [e, hself, T.hand x hx]
    · simp only [Hm.put]
      rw [List.getElem?_set_ne (fun h => e h.symm)]; exact hk
  · have e : k = x.b.toNat := by simpa using hk
    subst e
    exact ⟨by rw [hlen]; exact hlt, by rw [hself, T.hand x hx], x.last, T.dirty x hx hd, hs⟩

/-- A block that is as at home is forgotten. -/
theorem Tr.drop (T : Tr m (l1 ++ x :: l2) want last) (hm : m.D[x.b.toNat]? = some x.P) : Tr m (l1 ++ l2) want last := by
  have hsub : ∀ y ∈ l1 ++ l2, y ∈ l1 ++ x :: l2 := fun y hy => by
    rcases List.mem_append.1 hy with h | h
    · exact List.mem_append_left _ h
    · exact List.mem_append_right _ (List.mem_cons_of_mem _ h)
  have hxm : x ∈ l1 ++ x :: l2 := by simp
  refine ⟨?_, fun y hy => T.inD y (hsub y hy), T.wl, T.ll, fun y hy => T.hand y (hsub y hy), fun y hy => T.clean y (hsub y hy), fun y hy => T.dirty y (hsub y hy), fun i hi ho => ?_, T.nf⟩
  · exact (List.Sublist.map _ (List.Sublist.append (List.Sublist.refl l1) (List.sublist_cons_self x l2))).nodup T.nd
  · by_cases e : x.b = (i : Int)
    · have : x.b.toNat = i := by omega
      rw [← this, hm, T.hand x hxm]
    · refine T.out i hi (fun y hy => ?_)
      rcases List.mem_append.1 hy with h | h
      · exact ho y (List.mem_append_left _ h)
      · rcases List.mem_cons.1 h with rfl | h
        · exact e
        · exact ho y (List.mem_append_right _ h)

/-- A block that is as at home is clean. -/
theorem Tr.cln (T : Tr m l want last) (hx : x ∈ l) (hm : m.D[x.b.toNat]? = some x.P) : Tr m (cln l x.b) want last := by
  have hmem : ∀ y ∈ Ytdgmlopaeonacaa.cln l x.b, ∃ z ∈ l, y.b = z.b ∧ y.P = z.P ∧ y.last = z.last ∧ (y.dirty = true → z.dirty = true) ∧ (y.dirty = false → z.dirty = false ∨ z = x) := fun y hy => by
    obtain ⟨z, hz, rfl⟩ := List.mem_map.1 hy
    refine ⟨z, hz, ?_⟩
    split
    · rename_i e
      exact ⟨rfl, rfl, rfl, fun h => by simp at h, fun _ => .inr (T.same hz hx e)⟩
    · exact ⟨rfl, rfl, rfl, id, .inl⟩
  refine ⟨by rw [cln_b]; exact T.nd, fun y hy => ?_, T.wl, T.ll, fun y hy => ?_, fun y hy hd => ?_, fun y hy hd => ?_, fun i hi ho => T.out i hi (fun z hz => ?_), T.nf⟩
  · obtain ⟨z, hz, e1, -⟩ := hmem y hy
    rw [e1]; exact T.inD z hz
  · obtain ⟨z, hz, e1, e2, -⟩ := hmem y hy
    rw [e1, e2]; exact T.hand z hz
  · obtain ⟨z, hz, e1, e2, -, -, e5⟩ := hmem y hy
    rw [e1, e2]
    rcases e5 hd with h | h
    · exact T.clean z hz h
    · rw [h]; exact hm
  · obtain ⟨z, hz, e1, -, e3, e4, -⟩ := hmem y hy
    rw [e1, e3]; exact T.dirty z hz (e4 hd)
  · have h1 : z.b ∈ (Ytdgmlopaeonacaa.cln l x.b).map (·.b) := by rw [cln_b]; exact List.mem_map.2 ⟨z, hz, rfl⟩
    obtain ⟨y, hy, e⟩ := List.mem_map.1 h1
    rw [← e]; exact ho y hy
end
end Go.Proofs.Ytdgmlopaeonacaa
