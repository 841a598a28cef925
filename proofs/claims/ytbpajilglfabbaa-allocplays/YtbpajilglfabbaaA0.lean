/-
  Allocators, plainly: states of blocks, the first block of a state, all of them; what was taken and given, in order. No program.
-/
import Derived.Test.YtbpajilglfabbaaBx
namespace Go.Proofs.Ytbpajilglfabbaa
open Go.RowKit
set_option linter.unusedVariables false

/-- The blocks of a state among the first k, rising. -/
def idk (s : List UInt8) (v : UInt8) (k : Nat) : List Nat := (List.range k).filter fun i => s[i]? == some v
def idx (s : List UInt8) (v : UInt8) : List Nat := idk s v s.length

theorem idk_succ (s : List UInt8) (v : UInt8) (k : Nat) : idk s v (k + 1) = idk s v k ++ (if s[k]? = some v then [k] else []) := by
  unfold idk
  rw [List.range_succ, List.filter_append]
  congr 1
  by_cases h : s[k]? = some v <;> simp [h]
theorem idk_yes {s : List UInt8} {v : UInt8} {k : Nat} (h : s[k]? = some v) : idk s v (k + 1) = idk s v k ++ [k] := by rw [idk_succ, if_pos h]
theorem idk_no {s : List UInt8} {v : UInt8} {k : Nat} (h : ¬ s[k]? = some v) : idk s v (k + 1) = idk s v k := by rw [idk_succ, if_neg h, List.append_nil]
theorem mem_idk {s : List UInt8} {v : UInt8} {k b : Nat} : b ∈ idk s v k ↔ b < k ∧ s[b]? = some v := by simp [idk]
theorem mem_idx {s : List UInt8} {v : UInt8} {b : Nat} : b ∈ idx s v ↔ s[b]? = some v := by
  unfold idx
  rw [mem_idk]
  exact ⟨fun h => h.2, fun h => ⟨(List.getElem?_eq_some_iff.1 h).1, h⟩⟩
theorem idk_length (s : List UInt8) (v : UInt8) (k : Nat) : (idk s v k).length ≤ k := by
  have := List.length_filter_le (fun i => s[i]? == some v) (List.range k)
  simpa [idk] using this
theorem idx_length (s : List UInt8) (v : UInt8) : (idx s v).length ≤ s.length := idk_length s v _
theorem idk_nodup (s : List UInt8) (v : UInt8) (k : Nat) : (idk s v k).Nodup := List.Pairwise.filter _ List.nodup_range
theorem idx_nodup (s : List UInt8) (v : UInt8) : (idx s v).Nodup := idk_nodup s v _
theorem idk_skip {s : List UInt8} {v : UInt8} {a b : Nat} (hab : a ≤ b) (h : ∀ j, a ≤ j → j < b → ¬ s[j]? = some v) : idk s v b = idk s v a := by
  induction b with
  | zero => obtain rfl : a = 0 := by omega
            rfl
  | succ b ih =>
    by_cases e : a = b + 1
    · rw [e]
    · rw [idk_no (h b (by omega) (by omega))]
      exact ih (by omega) (fun j h1 h2 => h j h1 (by omega))

/-- The first block of a state from a place on. -/
def nx (s : List UInt8) (v : UInt8) (a : Nat) : Option Nat := ((s.drop a).findIdx? fun x => x == v).map fun i => a + i
def nxI : Option Nat → Int
  | none => -1
  | some i => (i : Int)

theorem nx_some {s : List UInt8} {v : UInt8} {a b : Nat} (h : nx s v a = some b) : a ≤ b ∧ s[b]? = some v ∧ ∀ j, a ≤ j → j < b → ¬ s[j]? = some v := by
  unfold nx at h
  rw [Option.map_eq_some_iff] at h
  obtain ⟨i, hi, rfl⟩ := h
  rw [List.findIdx?_eq_some_iff_getElem] at hi
  obtain ⟨hl, h1, h2⟩ := hi
  refine ⟨by omega, ?_, fun j hj hjb => ?_⟩
  · rw [List.getElem_drop] at h1
    have hlt : a + i < s.length := by rw [List.length_drop] at hl; omega
    rw [List.getElem?_eq_getElem hlt]
    simpa using h1
  · have := h2 (j - a) (by omega)
    rw [List.getElem_drop] at this
    have hlt : j < s.length := by rw [List.length_drop] at hl; omega
    rw [List.getElem?_eq_getElem hlt]
    simp only [show a + (j - a) = j by omega] at this
    simpa using this
theorem nx_none {s : List UInt8} {v : UInt8} {a : Nat} (h : nx s v a = none) : ∀ j, a ≤ j → ¬ s[j]? = some v := by
  unfold nx at h
  rw [Option.map_eq_none_iff, List.findIdx?_eq_none_iff] at h
  intro j hj e
  have : v ∈ s.drop a := by
    rw [List.mem_iff_getElem?]
    exact ⟨j - a, by rw [List.getElem?_drop, show a + (j - a) = j by omega]; exact e⟩
  simpa using h v this
theorem nx_is {s : List UInt8} {v : UInt8} {a b : Nat} (h1 : a ≤ b) (h2 : s[b]? = some v) (h3 : ∀ j, a ≤ j → j < b → ¬ s[j]? = some v) : nx s v a = some b := by
  cases h : nx s v a with
  | none => exact absurd h2 (nx_none h b h1)
  | some c =>
    obtain ⟨k1, k2, k3⟩ := nx_some h
    rcases Nat.lt_trichotomy b c with e | e | e
    · exact absurd h2 (k3 b h1 e)
    · rw [e]
    · exact absurd k2 (h3 c k1 e)
theorem nx_no {s : List UInt8} {v : UInt8} {a : Nat} (h : ∀ j, a ≤ j → ¬ s[j]? = some v) : nx s v a = none := by
  cases e : nx s v a with
  | none => rfl
  | some c =>
    obtain ⟨k1, k2, k3⟩ := nx_some e
    exact absurd k2 (h c k1)

/-- How many are free. -/
def fr (s : List UInt8) : Nat := s.count 0
theorem fr_le (s : List UInt8) : fr s ≤ s.length := List.count_le_length
theorem fr_pos {s : List UInt8} {b : Nat} (h : s[b]? = some 0) : 1 ≤ fr s := List.one_le_count_iff.2 (List.mem_of_getElem? h)
theorem fr_free {s : List UInt8} (h : 0 < fr s) : ∃ b : Nat, s[b]? = some 0 := by
  have := List.count_pos_iff.1 h
  exact List.getElem?_of_mem this
theorem fr_set {s : List UInt8} {b : Nat} {u : UInt8} (h : s[b]? = some u) (v : UInt8) : fr (s.set b v) = fr s - (if u = 0 then 1 else 0) + (if v = 0 then 1 else 0) := by
  obtain ⟨hb, hu⟩ := List.getElem?_eq_some_iff.1 h
  unfold fr
  rw [List.count_set hb, hu]
  simp

/-- All of one state are brought to another. -/
def rep (s : List UInt8) (u v : UInt8) : List UInt8 := s.map fun x => if x = u then v else x
theorem rep_length (s : List UInt8) (u v : UInt8) : (rep s u v).length = s.length := by simp [rep]
theorem rep_get (s : List UInt8) (u v : UInt8) (i : Nat) : (rep s u v)[i]? = (s[i]?).map fun x => if x = u then v else x := by simp [rep]

def setL (l : List Nat) (s : List UInt8) (v : UInt8) : List UInt8 := l.foldl (fun s b => s.set b v) s
theorem setL_length (l : List Nat) (s : List UInt8) (v : UInt8) : (setL l s v).length = s.length := by
  induction l generalizing s with
  | nil => rfl
  | cons b l ih => unfold setL at *; rw [List.foldl_cons, ih]; simp
theorem setL_get (l : List Nat) (s : List UInt8) (v : UInt8) (i : Nat) : (setL l s v)[i]? = if i ∈ l ∧ i < s.length then some v else s[i]? := by
  induction l generalizing s with
  | nil => simp [setL]
  | cons b l ih =>
    have e : setL (b :: l) s v = setL l (s.set b v) v := rfl
    rw [e, ih, List.length_set, List.getElem?_set]
    by_cases h1 : i ∈ l ∧ i < s.length
    · rw [if_pos h1, if_pos ⟨List.mem_cons_of_mem _ h1.1, h1.2⟩]
    · rw [if_neg h1]
      by_cases h2 : b = i
      · subst h2
        by_cases h3 : b < s.length
        · simp [h3]
        · simp [h3]
      · rw [if_neg h2]
        have : ¬ (i ∈ b :: l ∧ i < s.length) := fun h => by
          rcases List.mem_cons.1 h.1 with h4 | h4
          · exact h2 h4.symm
          · exact h1 ⟨h4, h.2⟩
        rw [if_neg this]
theorem setL_rep (s : List UInt8) (u v : UInt8) : setL (idx s u) s v = rep s u v := by
  apply List.ext_getElem?
  intro i
  rw [setL_get, rep_get]
  simp only [mem_idx]
  cases h : s[i]? with
  | none =>
    have : ¬ i < s.length := by rw [List.getElem?_eq_none_iff] at h; omega
    simp [this]
  | some x =>
    have := (List.getElem?_eq_some_iff.1 h).1
    by_cases e : x = u <;> simp [e, this]
theorem rep_ne {s : List UInt8} {u v x : UInt8} (hu : x ≠ u) (hv : x ≠ v) (i : Nat) : (rep s u v)[i]? = some x ↔ s[i]? = some x := by
  rw [rep_get]
  cases h : s[i]? with
  | none => simp
  | some y =>
    by_cases e : y = u
    · subst e; simp only [Option.map_some, if_true, Option.some.injEq]
      exact ⟨fun h => absurd h.symm hv, fun h => absurd h.symm hu⟩
    · simp [e]
theorem idx_rep {s : List UInt8} {u v x : UInt8} (hu : x ≠ u) (hv : x ≠ v) : idx (rep s u v) x = idx s x := by
  unfold idx idk
  rw [rep_length]
  apply List.filter_congr
  intro i _
  have := rep_ne (s := s) hu hv i
  by_cases h : s[i]? = some x
  · rw [h, this.2 h]
  · have h2 : ¬ (rep s u v)[i]? = some x := fun e => h (this.1 e)
    rw [beq_eq_false_iff_ne.2 h, beq_eq_false_iff_ne.2 h2]
end Go.Proofs.Ytbpajilglfabbaa
