/-
  Making room and cleaning keep what a cache promises.
-/
import Derived.Test.YtdgmlopaeonacaaE1
namespace Go.Proofs.Ytdgmlopaeonacaa
set_option linter.unusedVariables false

theorem split_idx {l : List Pl} {i : Nat} {x : Pl} (h : l[i]? = some x) : l = l.take i ++ x :: l.drop (i + 1) ∧ l.eraseIdx i = l.take i ++ l.drop (i + 1) := by
  obtain ⟨hi, rfl⟩ := List.getElem?_eq_some_iff.1 h
  exact ⟨by rw [List.getElem_cons_drop, List.take_append_drop], List.eraseIdx_eq_take_drop_succ l i⟩

/-- What making room can do, where the home does not fail. -/
theorem rm_cases (c : Ca) (m : Hm) (l : List Pl) (hfa : m.fa = false) :
    (∃ e, rmR c m l = (e, l, m) ∧ (e = 0 → l.length < c.places)) ∨
    (∃ l1 x l2, l = l1 ++ x :: l2 ∧ x.dirty = false ∧ rmR c m l = (0, l1 ++ l2, m)) ∨
    (∃ l1 x l2, l = l1 ++ x :: l2 ∧ x.dirty = true ∧ x.last ≤ c.safe ∧ rmR c m l = (0, l1 ++ l2, m.put x.b.toNat x.P)) := by
  unfold rmR
  by_cases h1 : l.length < c.places
  · rw [if_pos h1]
    exact .inl ⟨0, rfl, fun _ => h1⟩
  · rw [if_neg h1]
    rcases hi : l.findIdx? (lvO c) with _ | i
    · refine .inl ⟨lvE' l, rfl, fun e => ?_⟩
      unfold lvE' at e
      split at e <;> simp at e
    · obtain ⟨h2, h3, -⟩ := List.findIdx?_eq_some_iff_getElem.1 hi
      have h4 : l[i]? = some l[i] := List.getElem?_eq_getElem h2
      obtain ⟨h5, h6⟩ := split_idx h4
      dsimp only
      rw [h4]
      dsimp only
      unfold lvO at h3
      simp only [Bool.and_eq_true, Bool.or_eq_true, Bool.not_eq_true', decide_eq_true_eq] at h3
      rcases hd : l[i].dirty with _ | _
      · rw [if_neg (by decide), h6]
        exact .inr (.inl ⟨_, _, _, h5, hd, rfl⟩)
      · rw [if_pos rfl, hfa, if_neg (by decide), h6]
        refine .inr (.inr ⟨_, _, _, h5, hd, ?_, rfl⟩)
        rcases h3.2 with h | h
        · rw [hd] at h; simp at h
        · exact h

section
variable {c : Ca} {m : Hm} {l : List Pl} {want : List (List UInt8)} {last : List Nat}

/-- Making room: what it keeps, and what went home. -/
theorem rm_tr (c : Ca) (T : Tr m l want last) : Tr (rmR c m l).2.2 (rmR c m l).2.1 want last ∧ Lg c.safe want last m (rmR c m l).2.2 ∧ (rmR c m l).2.1.length ≤ l.length ∧ ((rmR c m l).1 = 0 → l.length ≤ c.places → (rmR c m l).2.1.length < c.places) ∧ (∀ x ∈ (rmR c m l).2.1, x ∈ l) ∧ ∃ ks : List Nat, (rmR c m l).2.2.log = m.log ++ ks.map (fun k : Nat => (k : Int)) ∧ ∀ k ∈ ks, ∃ x ∈ l, x.b = (k : Int) := by
  rcases rm_cases c m l T.fa with ⟨e, h, h1⟩ | ⟨l1, x, l2, rfl, hd, h⟩ | ⟨l1, x, l2, rfl, hd, hs, h⟩
  · rw [h]
    exact ⟨T, Lg.refl _ _ _ _, Nat.le_refl _, fun e _ => h1 e, fun _ h => h, [], by simp, by simp⟩
  · rw [h]
    refine ⟨T.drop (T.clean x (by simp) hd), Lg.refl _ _ _ _, by simp, fun _ hp => by simp at hp ⊢; omega, fun y hy => ?_, [], by simp, by simp⟩
    simp only [List.mem_append, List.mem_cons] at hy ⊢
    rcases hy with h | h
    · exact .inl h
    · exact .inr (.inr h)
  · rw [h]
    have hx : x ∈ l1 ++ x :: l2 := by simp
    obtain ⟨t1, t2⟩ := T.put hx
    have h0 := (T.inD x hx).1
    refine ⟨t1.drop t2, Lg.put T hx hd hs, by simp, fun _ hp => by simp at hp ⊢; omega, fun y hy => ?_, [x.b.toNat], by simp [Hm.put], fun k hk => ⟨x, hx, ?_⟩⟩
    · simp only [List.mem_append, List.mem_cons] at hy ⊢
      rcases hy with h | h
      · exact .inl h
      · exact .inr (.inr h)
    · have : k = x.b.toNat := by simpa using hk
      omega

/-- Cleaning: what it keeps, and what went home. -/
theorem cl_tr (c : Ca) (most : Int) : ∀ (S : List Pl) (n : Nat) (m : Hm) (l : List Pl), Tr m l want last → (∀ x ∈ S, x ∈ l ∧ x.dirty = true) → (S.map (·.b)).Nodup → (clR c most S n m l).2.1 = 0 ∧ Tr (clR c most S n m l).2.2.1 (clR c most S n m l).2.2.2 want last ∧ Lg c.safe want last m (clR c most S n m l).2.2.1
  | [], n, m, l, T, _, _ => ⟨rfl, T, Lg.refl _ _ _ _⟩
  | x :: S, n, m, l, T, hS, hn => by
    rw [List.map_cons, List.nodup_cons] at hn
    rw [clR]
    split
    · exact ⟨rfl, T, Lg.refl _ _ _ _⟩
    · split
      · rename_i hs
        rw [T.fa, if_neg (by decide)]
        obtain ⟨hx, hd⟩ := hS x (by simp)
        obtain ⟨t1, t2⟩ := T.put hx
        have t3 := t1.cln hx t2
        have hS' : ∀ y ∈ S, y ∈ cln l x.b ∧ y.dirty = true := fun y hy => by
          obtain ⟨h1, h2⟩ := hS y (List.mem_cons_of_mem _ hy)
          refine ⟨List.mem_map.2 ⟨y, h1, ?_⟩, h2⟩
          rw [if_neg (fun e => hn.1 (List.mem_map.2 ⟨y, hy, e⟩))]
        obtain ⟨r1, r2, r3⟩ := cl_tr c most S (n + 1) _ _ t3 hS' hn.2
        exact ⟨r1, r2, (Lg.put T hx hd hs).trans r3⟩
      · exact cl_tr c most S n m l T (fun y hy => hS y (List.mem_cons_of_mem _ hy)) hn.2
end
end Go.Proofs.Ytdgmlopaeonacaa
