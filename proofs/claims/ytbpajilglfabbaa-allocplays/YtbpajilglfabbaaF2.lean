/-
  AllocCounts, plainly: how many blocks are in each state.
-/
import Derived.Test.YtbpajilglfabbaaF1
namespace Go.Proofs.Ytbpajilglfabbaa
open Go.RowKit
set_option linter.unusedVariables false

/-- How many of the first i are in each state. -/
def cn (s : List UInt8) (i : Nat) : List Nat := [(idk s 0 i).length, (idk s 1 i).length, (idk s 2 i).length, (idk s 3 i).length, (idk s 4 i).length]
theorem idk_len {s : List UInt8} {i : Nat} {z v : UInt8} (h : s[i]? = some z) : (idk s v (i + 1)).length = (idk s v i).length + (if z = v then 1 else 0) := by
  by_cases e : z = v
  · subst e; rw [idk_yes h, if_pos rfl]; simp
  · rw [idk_no (by rw [h]; simpa using e), if_neg e]; rfl
theorem cn0 {s : List UInt8} {i : Nat} (h : s[i]? = some 0) {f0 f1 f2 f3 f4 : Nat} (hc : cn s i = [f0, f1, f2, f3, f4]) : cn s (i + 1) = [f0 + 1, f1, f2, f3, f4] := by
  unfold cn at *
  simp only [idk_len h, List.cons.injEq, and_true] at *
  simp; omega
theorem cn1 {s : List UInt8} {i : Nat} (h : s[i]? = some 1) {f0 f1 f2 f3 f4 : Nat} (hc : cn s i = [f0, f1, f2, f3, f4]) : cn s (i + 1) = [f0, f1 + 1, f2, f3, f4] := by
  unfold cn at *
  simp only [idk_len h, List.cons.injEq, and_true] at *
  simp; omega
theorem cn2 {s : List UInt8} {i : Nat} (h : s[i]? = some 2) {f0 f1 f2 f3 f4 : Nat} (hc : cn s i = [f0, f1, f2, f3, f4]) : cn s (i + 1) = [f0, f1, f2 + 1, f3, f4] := by
  unfold cn at *
  simp only [idk_len h, List.cons.injEq, and_true] at *
  simp; omega
theorem cn3 {s : List UInt8} {i : Nat} (h : s[i]? = some 3) {f0 f1 f2 f3 f4 : Nat} (hc : cn s i = [f0, f1, f2, f3, f4]) : cn s (i + 1) = [f0, f1, f2, f3 + 1, f4] := by
  unfold cn at *
  simp only [idk_len h, List.cons.injEq, and_true] at *
  simp; omega
theorem cn4 {s : List UInt8} {i : Nat} (h : s[i]? = some 4) {f0 f1 f2 f3 f4 : Nat} (hc : cn s i = [f0, f1, f2, f3, f4]) : cn s (i + 1) = [f0, f1, f2, f3, f4 + 1] := by
  unfold cn at *
  simp only [idk_len h, List.cons.injEq, and_true] at *
  simp; omega

theorem fr_idk (s : List UInt8) (k : Nat) (hk : k ≤ s.length) : fr (s.take k) = (idk s 0 k).length := by
  induction k with
  | zero => simp [fr, idk]
  | succ k ih =>
    rw [fr_take (show k < s.length by omega), ih (by omega), idk_len (List.getElem?_eq_getElem (show k < s.length by omega))]
theorem fr_idx (s : List UInt8) : fr s = (idx s 0).length := by
  have := fr_idk s s.length (Nat.le_refl _)
  rw [List.take_of_length_le (Nat.le_refl _)] at this
  exact this

def sq (l : List (Nat × Nat)) : Nat := (l.map Prod.snd).sum
theorem sq_app (l m : List (Nat × Nat)) : sq (l ++ m) = sq l + sq m := by simp [sq]
theorem sq_one (a n : Nat) : sq [(a, n)] = n := by simp [sq]
theorem rn_sum (s : List UInt8) (k : Nat) (hk : k ≤ s.length) : sq (rnK s k).1 = (idk s 0 k).length := by
  induction k with
  | zero => simp [sq, rnK, idk]
  | succ k ih =>
    have ih := ih (by omega)
    obtain ⟨z, hz⟩ := get_ex (show k < s.length by omega)
    rw [idk_len hz]
    by_cases e : z = 0
    · subst e
      rw [if_pos rfl]
      cases hg : (rnK s k).2
      · rw [rnK_new hz hg, sq_app, sq_one, ih]
      · obtain ⟨l, a, n, hl, -, -⟩ := rnK_ne s k hg
        rw [rnK_more hz hg, hl, bump_app, sq_app, sq_one]
        rw [hl, sq_app, sq_one] at ih
        omega
    · rw [if_neg e, rnK_not (by rw [hz]; simpa using e)]
      exact ih
theorem sq_rn (s : List UInt8) : sq (rn s) = fr s := by
  unfold rn
  rw [rn_sum s _ (Nat.le_refl _), fr_idx]
  rfl
theorem sq_take_le (l : List (Nat × Nat)) (i : Nat) : sq (l.take i) ≤ sq l := by
  have h := sq_app (l.take i) (l.drop i)
  rw [List.take_append_drop] at h
  omega
theorem sq_take (l : List (Nat × Nat)) (i : Nat) (h : i < l.length) : sq (l.take (i + 1)) = sq (l.take i) + l[i].2 := by
  rw [List.take_succ_eq_append_getElem h, sq_app]
  simp [sq]

/-- A pair's cells. -/
theorem Nq.cells {w0 w : World} {v : Value} {l : List (Nat × Nat)} (h : Nq w0 w v l) (hl : 0 < l.length) : ∃ g cc, v = .slice (some ⟨g, 0, none⟩) l.length cc ∧ l.length ≤ cc ∧ ∀ j (hj : j < l.length), w.cell? ⟨g, j * 2, none⟩ = some (.int .i64 (l[j].1 : Int)) ∧ w.cell? ⟨g, j * 2 + 1, none⟩ = some (.int .i64 (l[j].2 : Int)) := by
  obtain ⟨ao, N, cc, rfl, hN, hO, hnew⟩ := h
  rcases hO.2 with ⟨hv, h0⟩ | ⟨g, cap', cur, hv, hb0, hg0, hnc, hcm, hcs0, htake⟩
  · omega
  · simp only [Value.slice.injEq] at hv
    obtain ⟨rfl, -, rfl⟩ := hv
    subst hN
    refine ⟨g, cc, rfl, hnc, fun j hj => ?_⟩
    obtain ⟨h1, h2⟩ := prs_get l j hj
    rw [cell_of_heap hg0, cell_of_heap hg0]
    have e : ∀ t, t < l.length * 2 → cur[t]? = (prs l)[t]? := fun t ht => by
      rw [← htake, List.getElem?_take_of_lt ht]; simp
    rw [e _ (by omega), e _ (by omega)]
    exact ⟨h1, h2⟩
theorem Nq.shape {w0 w : World} {v : Value} {l : List (Nat × Nat)} (h : Nq w0 w v l) : ∃ ao cc, v = .slice ao l.length cc := by
  obtain ⟨ao, N, cc, rfl, hN, -, -⟩ := h
  exact ⟨ao, cc, by rw [hN]⟩
theorem Nq.kept {S : Nat → Prop} {w0 w w' : World} {v : Value} {l : List (Nat × Nat)} (h : Nq w0 w v l) (f : Fr S w w') (hS : ∀ b, v.ownBlock = some b → ¬ S b) : Nq w0 w' v l := by
  obtain ⟨ao, N, cc, rfl, hN, ho, hn⟩ := h
  exact ⟨ao, N, cc, rfl, hN, owns_kept ho f hS, hn⟩
theorem Nq.older {w0 w1 w : World} {v : Value} {l : List (Nat × Nat)} (h : Nq w1 w v l) (hs : w0.heap.size ≤ w1.heap.size) : Nq w0 w v l := by
  obtain ⟨ao, N, cc, rfl, hN, ho, hn⟩ := h
  exact ⟨ao, N, cc, rfl, hN, ho, fun b hb => Nat.le_trans hs (hn b hb)⟩
end Go.Proofs.Ytbpajilglfabbaa
