/-
  Plainly: one reads one's own writes; what was flushed is healed, and nothing else.
-/
import Derived.Test.YtdhendcogjhgfaaL7
namespace Go.Proofs.Ytdhendcogjhgfaa
open Go.RowKit
set_option linter.unusedVariables false

theorem wr_facts {d : Dk} {a : Int} {l : List UInt8} (h : wrE d a l = 0) : hasB d a = true ∧ d.off = false ∧ l.length = d.size ∧ d.Q.length < 4096 ∧ wrD d a l = { d with Q := d.Q ++ [(a.toNat, l)] } := by
  have h2 : wrD d a l = { d with Q := d.Q ++ [(a.toNat, l)] } := by unfold wrD; rw [if_pos h]
  unfold wrE at h
  split at h
  · rename_i h0
    split at h
    · rename_i h1
      split at h
      · simp at h
      · rename_i h3
        split at h
        · simp at h
        · rename_i h4
          exact ⟨h0, by simpa using h3, h1, by omega, h2⟩
    · simp at h
  · simp at h

theorem lastI_new (Q : List (Nat × List UInt8)) (a : Int) (l : List UInt8) (h : 0 ≤ a) : lastI (Q ++ [(a.toNat, l)]) a (Q ++ [(a.toNat, l)]).length = some Q.length := by
  rw [List.length_append, List.length_singleton]
  unfold lastI
  have : (Q ++ [(a.toNat, l)]).getD Q.length (0, []) = (a.toNat, l) := by simp [List.getD]
  rw [this]
  simp only []
  rw [if_pos (by omega)]

/-- One's own write is read. -/
theorem wr_read {d : Dk} {a : Int} {l : List UInt8} (h : wrE d a l = 0) : rdD (wrD d a l) a = (l, 0) := by
  obtain ⟨h1, h2, h3, h4, h5⟩ := wr_facts h
  rw [h5]
  have ha : 0 ≤ a := by unfold hasB at h1; simp at h1; exact h1.1
  unfold rdD
  have e1 : hasB { d with Q := d.Q ++ [(a.toNat, l)] } a = true := h1
  rw [if_pos e1]
  have e2 : ({ d with Q := d.Q ++ [(a.toNat, l)] } : Dk).off = false := h2
  rw [e2, if_neg (by decide)]
  have e3 := lastI_new d.Q a l ha
  simp only [e3]
  simp [List.getD]

theorem inI_S {d e : Dk} (h : d.S = e.S) (n : Nat) : inI d n = inI e n := by
  induction n with
  | zero => rfl
  | succ n ih => unfold inI; rw [ih, h]

theorem seW_hurt (d : Dk) (q : Nat × List UInt8) (i : Nat) : ((seW d q).S.getD i ([], 0)).2 = if q.1 = i then 0 else (d.S.getD i ([], 0)).2 := by
  unfold seW
  by_cases h : q.1 = i
  · rw [if_pos h]
    subst h
    simp only [List.getD]
    by_cases hl : q.1 < d.S.length
    · simp [hl]
    · simp [hl]
  · rw [if_neg h]
    simp only [List.getD]
    rw [List.getElem?_set_ne h]

theorem fold_hurt (Q : List (Nat × List UInt8)) (d : Dk) (i : Nat) : ((Q.foldl seW d).S.getD i ([], 0)).2 = if (Q.any fun q => q.1 == i) = true then 0 else (d.S.getD i ([], 0)).2 := by
  induction Q generalizing d with
  | nil => simp
  | cons q r ih =>
    rw [List.foldl_cons, ih, seW_hurt, List.any_cons]
    by_cases h : q.1 = i
    · subst h
      simp
    · have : (q.1 == i) = false := by simpa using h
      rw [if_neg h, this, Bool.false_or]

theorem flI_all (d : Dk) : flI d d.Q.length = d.Q.foldl seW d := by unfold flI; rw [List.take_length]

/-- What Flush heals. -/
theorem fl_inI {d : Dk} (ho : d.off = false) (n : Nat) : inI (flD d) n = (inI d n).filter fun i => !(d.Q.any fun q => q.1 == i) := by
  have e : flD d = emD (d.Q.foldl seW d) := by
    unfold flD
    rw [ho, if_neg (by decide), flI_all]
  have hS : (flD d).S = (d.Q.foldl seW d).S := by rw [e]; rfl
  induction n with
  | zero => rfl
  | succ n ih =>
    unfold inI
    rw [hS, fold_hurt]
    by_cases h : (d.Q.any fun q => q.1 == n) = true
    · rw [if_pos h, if_pos rfl, ih]
      split
      · rfl
      · rw [List.filter_append, List.filter_cons_of_neg (by show ¬ (!(d.Q.any fun q => q.1 == n)) = true; rw [h]; decide), List.filter_nil, List.append_nil]
    · rw [if_neg h, ih]
      split
      · rfl
      · rw [List.filter_append, List.filter_cons_of_pos (by show (!(d.Q.any fun q => q.1 == n)) = true; rw [Bool.eq_false_iff.mpr h]; decide), List.filter_nil]

/-- Behind Flush the last write is the sector. -/
theorem fl_last {d : Dk} {a : Int} {l : List UInt8} (h : wrE d a l = 0) : (flD (wrD d a l)).S.getD a.toNat ([], 0) = (l, 0) ∧ (flD (wrD d a l)).S.length = d.S.length ∧ (flD (wrD d a l)).off = false ∧ (flD (wrD d a l)).Q = [] := by
  obtain ⟨h1, h2, h3, h4, h5⟩ := wr_facts h
  have ho : (wrD d a l).off = false := by rw [h5]; exact h2
  have e : flD (wrD d a l) = emD ((wrD d a l).Q.foldl seW (wrD d a l)) := by
    unfold flD
    rw [ho, if_neg (by decide), flI_all]
  have hQ : (wrD d a l).Q = d.Q ++ [(a.toNat, l)] := by rw [h5]
  have hS : (wrD d a l).S = d.S := by rw [h5]
  have hf := seW_fold d.Q (wrD d a l)
  have ha : a.toNat < d.S.length := by unfold hasB at h1; simp at h1; omega
  rw [e, hQ, List.foldl_append]
  have hl : (d.Q.foldl seW (wrD d a l)).S.length = d.S.length := by rw [hf.2.2.2.2, hS]
  refine ⟨?_, ?_, ?_, rfl⟩
  · simp [emD, seW, List.getD, hl, ha]
  · simp [emD, seW, hl]
  · simp [emD, seW, hf.2.2.2.1, ho]

/-- Read and Stable behind Flush. -/
theorem fl_read {d : Dk} {a : Int} {l : List UInt8} (h : wrE d a l = 0) : rdD (flD (wrD d a l)) a = (l, 0) ∧ stD (flD (wrD d a l)) a = l ∧ hasB (flD (wrD d a l)) a = true := by
  obtain ⟨h1, -⟩ := wr_facts h
  obtain ⟨f1, f2, f3, f4⟩ := fl_last h
  have hb : hasB (flD (wrD d a l)) a = true := by
    unfold hasB at h1 ⊢
    rw [f2]
    exact h1
  refine ⟨?_, ?_, hb⟩
  · unfold rdD
    rw [if_pos hb, f3, if_neg (by decide), f4, f1]
    simp [lastI]
  · unfold stD
    rw [if_pos hb, f1]
end Go.Proofs.Ytdhendcogjhgfaa
