/-
  Every act keeps what a cache promises.
-/
import Derived.Test.YtdgmlopaeonacaaE2
namespace Go.Proofs.Ytdgmlopaeonacaa
set_option linter.unusedVariables false

/-- What the promises look at of a block. -/
def vw (x : Pl) : Int × List UInt8 × Bool × Nat := (x.b, x.P, x.dirty, x.last)

section
variable {c : Ca} {m : Hm} {l l' l0 : List Pl} {want : List (List UInt8)} {last : List Nat} {b : Int}

theorem Tr.congr (T : Tr m l want last) (h : ∀ y, y ∈ l'.map vw ↔ y ∈ l.map vw) (hn : (l'.map (·.b)).Nodup) : Tr m l' want last := by
  have hm : ∀ y ∈ l', ∃ z ∈ l, z.b = y.b ∧ z.P = y.P ∧ z.dirty = y.dirty ∧ z.last = y.last := fun y hy => by
    obtain ⟨z, hz, e⟩ := List.mem_map.1 ((h (vw y)).1 (List.mem_map.2 ⟨y, hy, rfl⟩))
    simp only [vw, Prod.mk.injEq] at e
    exact ⟨z, hz, e.1, e.2.1, e.2.2.1, e.2.2.2⟩
  refine ⟨hn, fun y hy => ?_, T.wl, T.ll, fun y hy => ?_, fun y hy hd => ?_, fun y hy hd => ?_, fun i hi ho => T.out i hi (fun z hz => ?_), T.nf⟩
  · obtain ⟨z, hz, e1, -⟩ := hm y hy
    rw [← e1]; exact T.inD z hz
  · obtain ⟨z, hz, e1, e2, -⟩ := hm y hy
    rw [← e1, ← e2]; exact T.hand z hz
  · obtain ⟨z, hz, e1, e2, e3, -⟩ := hm y hy
    rw [← e1, ← e2]; exact T.clean z hz (e3.trans hd)
  · obtain ⟨z, hz, e1, -, e3, e4⟩ := hm y hy
    rw [← e1, ← e4]; exact T.dirty z hz (e3.trans hd)
  · obtain ⟨y, hy, e⟩ := List.mem_map.1 ((h (vw z)).2 (List.mem_map.2 ⟨z, hz, rfl⟩))
    simp only [vw, Prod.mk.injEq] at e
    rw [← e.1]; exact ho y hy
theorem Tr.perm (T : Tr m l want last) (h : l'.Perm l) : Tr m l' want last :=
  T.congr (fun y => (h.map vw).mem_iff) ((h.map _).nodup_iff.2 T.nd)
theorem Tr.view (T : Tr m l want last) (h : l'.map vw = l.map vw) : Tr m l' want last := by
  have e : l'.map (·.b) = l.map (·.b) := by
    have := congrArg (List.map Prod.fst) h
    simpa [List.map_map, Function.comp_def, vw] using this
  exact T.congr (fun y => by rw [h]) (by rw [e]; exact T.nd)

/-- A block is fetched. -/
theorem Tr.add (T : Tr m l want last) (z : Pl) (hz : 0 ≤ z.b ∧ z.b < (m.D.length : Int)) (hno : ∀ y ∈ l, y.b ≠ z.b) (hd : z.dirty = false) (hP : m.D[z.b.toNat]? = some z.P) : Tr m (l ++ [z]) want last := by
  have hw : want[z.b.toNat]? = some z.P := by
    rw [← T.out z.b.toNat (by omega) (fun y hy e => hno y hy (by omega))]; exact hP
  refine ⟨?_, fun y hy => ?_, T.wl, T.ll, fun y hy => ?_, fun y hy h => ?_, fun y hy h => ?_, fun i hi ho => T.out i hi (fun y hy => ho y (List.mem_append_left _ hy)), T.nf⟩
  · rw [List.map_append, List.nodup_append]
    refine ⟨T.nd, by simp, fun a ha e he => ?_⟩
    obtain ⟨y, hy, rfl⟩ := List.mem_map.1 ha
    simp at he
    rw [he]; exact hno y hy
  all_goals
    rcases List.mem_append.1 hy with hy | hy
  · exact T.inD y hy
  · rw [List.mem_singleton.1 hy]; exact hz
  · exact T.hand y hy
  · rw [List.mem_singleton.1 hy]; exact hw
  · exact T.clean y hy h
  · rw [List.mem_singleton.1 hy]; exact hP
  · exact T.dirty y hy h
  · rw [List.mem_singleton.1 hy, hd] at h; simp at h

/-- A block is written. -/
theorem Tr.write (T : Tr m l want last) (hs : l0.Sublist l) (z : Pl) (hz : 0 ≤ z.b ∧ z.b < (m.D.length : Int)) (hne : ∀ y ∈ l0, y.b ≠ z.b) (hall : ∀ y ∈ l, y.b ≠ z.b → y ∈ l0) (hd : z.dirty = true) : Tr m (l0 ++ [z]) (want.set z.b.toNat z.P) (last.set z.b.toNat z.last) := by
  have hlt : z.b.toNat < m.D.length := by omega
  have hsub : ∀ y ∈ l0, y ∈ l := fun y hy => hs.subset hy
  have hix : ∀ y ∈ l0, z.b.toNat ≠ y.b.toNat := fun y hy e => hne y hy (by have := T.inD y (hsub y hy); omega)
  refine ⟨?_, fun y hy => ?_, by rw [List.length_set]; exact T.wl, by rw [List.length_set]; exact T.ll, fun y hy => ?_, fun y hy h => ?_, fun y hy h => ?_, fun i hi ho => ?_, T.nf⟩
  · rw [List.map_append, List.nodup_append]
    refine ⟨(hs.map _).nodup T.nd, by simp, fun a ha e he => ?_⟩
    obtain ⟨y, hy, rfl⟩ := List.mem_map.1 ha
    simp at he
    rw [he]; exact hne y hy
  · rcases List.mem_append.1 hy with hy | hy
    · exact T.inD y (hsub y hy)
    · rw [List.mem_singleton.1 hy]; exact hz
  · rcases List.mem_append.1 hy with hy | hy
    · rw [List.getElem?_set_ne (hix y hy)]; exact T.hand y (hsub y hy)
    · rw [List.mem_singleton.1 hy, List.getElem?_set_self (by rw [T.wl]; exact hlt)]
  · rcases List.mem_append.1 hy with hy | hy
    · exact T.clean y (hsub y hy) h
    · rw [List.mem_singleton.1 hy, hd] at h; simp at h
  · rcases List.mem_append.1 hy with hy | hy
    · rw [List.getElem?_set_ne (hix y hy)]; exact T.dirty y (hsub y hy) h
    · rw [List.mem_singleton.1 hy, List.getElem?_set_self (by rw [T.ll]; exact hlt)]
  · have h1 : z.b.toNat ≠ i := fun e => ho z (by simp) (by omega)
    rw [List.getElem?_set_ne h1]
    refine T.out i hi (fun y hy e => ?_)
    exact ho y (List.mem_append_left _ (hall y hy (fun h => h1 (by omega)))) e

/-- Fetching. -/
theorem ft_tr (b : Int) (T : Tr m l want last) (hl : l.length ≤ c.places) : Tr (ftR c m l b).2.2.1 (ftR c m l b).2.1 want last ∧ Lg c.safe want last m (ftR c m l b).2.2.1 ∧ (ftR c m l b).2.1.length ≤ c.places ∧ (ftR c m l b).2.2.2.safe = c.safe ∧ (ftR c m l b).2.2.2.places = c.places ∧
    ((ftR c m l b).1 = 0 → (0 ≤ b ∧ b < (m.D.length : Int)) ∧ ∃ x, (ftR c m l b).2.1.getLast? = some x ∧ x.b = b ∧ want[b.toNat]? = some x.P) := by
  unfold ftR
  by_cases h0 : chE m b = 0
  · rw [if_pos h0]
    have hb := chE_in h0
    rcases hi : atI l b with _ | i
    · dsimp only
      have hno := at_none hi
      obtain ⟨t1, t2, t3, t4, t5, -⟩ := rm_tr c T
      by_cases h1 : (rmR c m l).1 = 0
      · rw [if_pos h1, t1.fa, if_neg (by decide)]
        have hlen := t2.len
        have hD : (rmR c m l).2.2.D[b.toNat]? = some ((rmR c m l).2.2.D.getD b.toNat []) := by
          have : b.toNat < (rmR c m l).2.2.D.length := by omega
          simp [List.getD_eq_getElem?_getD, this]
        have t6 := t1.one.add { zeroP b with P := (rmR c m l).2.2.D.getD b.toNat [] } (by show 0 ≤ b ∧ b < (((rmR c m l).2.2.D.length : Nat) : Int); rw [hlen]; exact hb) (fun y hy => hno y (t5 y hy)) rfl hD
        refine ⟨t6, t2.trans (Lg.one _ _ _ _), ?_, rfl, rfl, fun _ => ⟨hb, { zeroP b with P := (rmR c m l).2.2.D.getD b.toNat [] }, List.getLast?_concat, rfl, t6.hand _ (List.mem_append_right _ (List.mem_singleton.2 rfl))⟩⟩
        have := t4 h1 hl
        simp; omega
      · rw [if_neg h1]
        exact ⟨t1, t2, Nat.le_trans t3 hl, rfl, rfl, fun e => absurd e h1⟩
    · obtain ⟨x, hx, hxb⟩ := at_some hi
      dsimp only
      rw [hx]
      dsimp only
      obtain ⟨h5, h6⟩ := split_idx hx
      have hp : (l.eraseIdx i ++ [x]).Perm l := by
        rw [h6]
        conv => rhs; rw [h5]
        refine (List.perm_append_comm (l₁ := l.take i ++ l.drop (i + 1)) (l₂ := [x])).trans ?_
        exact (List.perm_middle (a := x) (l₁ := l.take i) (l₂ := l.drop (i + 1))).symm
      have t := T.perm hp
      refine ⟨t, Lg.refl _ _ _ _, by rw [hp.length_eq]; exact hl, rfl, rfl, fun _ => ⟨hb, x, by simp, hxb, ?_⟩⟩
      rw [← hxb]; exact t.hand x (by simp)
  · rw [if_neg h0]
    exact ⟨T, Lg.refl _ _ _ _, hl, rfl, rfl, fun e => absurd e h0⟩
end
end Go.Proofs.Ytdgmlopaeonacaa
