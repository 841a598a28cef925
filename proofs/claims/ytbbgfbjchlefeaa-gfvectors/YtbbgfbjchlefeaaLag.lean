/-
  Lagrange's way to the polynomial through points, plainly.
-/
import Derived.Test.YtbbgfbjchlefeaaPoly
namespace Go.Proofs.Ytbbgfbjchlefeaa
set_option linter.unusedVariables false

/-- The product of x - X(t) for all t below k but i, as coefficients. -/
def pl (X : Nat → UInt8) (n i : Nat) : Nat → List UInt8
  | 0 => (List.replicate n 0).set 0 1
  | k + 1 => if k = i then pl X n i k else sps (X k) 0 (pl X n i k)

/-- How many coefficients it has. -/
def cnt (i k : Nat) : Nat := 1 + if i < k then k - 1 else k

theorem pl_length (X : Nat → UInt8) (n i k : Nat) : (pl X n i k).length = n := by
  induction k with
  | zero => simp [pl]
  | succ k ih => simp only [pl]; split; exact ih; rw [sps_length, ih]

theorem pl_high (X : Nat → UInt8) (n i k j : Nat) (hk : cnt i k ≤ j) (hj : j < n) : (pl X n i k)[j]? = some 0 := by
  induction k generalizing j with
  | zero =>
    have : 0 ≠ j := by unfold cnt at hk; omega
    simp only [pl]
    rw [List.getElem?_set_ne this]
    simp [hj]
  | succ k ih =>
    simp only [pl]
    by_cases e : k = i
    · rw [if_pos e]
      exact ih j (by unfold cnt at hk ⊢; split at hk <;> split <;> omega) hj
    · rw [if_neg e]
      have h1 : cnt i k + 1 ≤ j := by unfold cnt at hk ⊢; split at hk <;> split <;> omega
      rw [sps_get _ _ _ _ (by rw [pl_length]; exact hj), ih j (by omega) hj, ih (j - 1) (by omega) (by omega), if_neg (by unfold cnt at hk; omega)]
      simp [mul_zero]

theorem ev_pl (X : Nat → UInt8) (n i k : Nat) (hi : i < n) (hk : k < n) (he : k ≠ i) (x : UInt8) : ev (pl X n i (k + 1)) x = mul (ev (pl X n i k) x) (x ^^^ X k) := by
  simp only [pl]
  rw [if_neg he]
  have hl := pl_length X n i k
  have hh := pl_high X n i k (n - 1) (by unfold cnt; split <;> omega) (by omega)
  match h : pl X n i k with
  | [] => rw [h] at hl; simp at hl; omega
  | o :: l =>
    rw [ev_sps _ _ _ _ _ ?_, UInt8.zero_xor]
    rw [h] at hl hh
    simp only [List.length_cons] at hl
    rw [List.getLast_eq_getElem]
    rw [List.getElem?_eq_some_iff] at hh
    obtain ⟨_, h2⟩ := hh
    simp only [List.length_cons, Nat.add_sub_cancel]
    rw [← h2]
    congr 1
    omega

theorem ev_pl_skip (X : Nat → UInt8) (n i : Nat) (x : UInt8) : ev (pl X n i (i + 1)) x = ev (pl X n i i) x := by
  simp [pl]

theorem ev_pl_zero (X : Nat → UInt8) (n i : Nat) (hn : 0 < n) (x : UInt8) : ev (pl X n i 0) x = 1 := by
  obtain ⟨m, rfl⟩ : ∃ m, n = m + 1 := ⟨n - 1, by omega⟩
  simp only [pl, List.replicate_succ, List.set_cons_zero, ev]
  rw [ev_zeros, zero_mul, UInt8.zero_xor]

theorem ev_pl_root (X : Nat → UInt8) (n i t k : Nat) (hi : i < n) (ht : t < k) (hk : k ≤ n) (he : t ≠ i) : ev (pl X n i k) (X t) = 0 := by
  induction k with
  | zero => omega
  | succ k ih =>
    by_cases e : k = i
    · subst e
      rw [ev_pl_skip]
      exact ih (by omega) (by omega)
    · rw [ev_pl X n i k hi (by omega) e]
      by_cases e2 : t = k
      · subst e2; rw [UInt8.xor_self, mul_zero]
      · rw [ih (by omega) (by omega), zero_mul]

theorem ev_pl_ne (X : Nat → UInt8) (n i k : Nat) (hi : i < n) (hk : k ≤ n) (h : ∀ a b, a < n → b < n → X a = X b → a = b) : ev (pl X n i k) (X i) ≠ 0 := by
  induction k with
  | zero => rw [ev_pl_zero X n i (by omega)]; decide
  | succ k ih =>
    by_cases e : k = i
    · subst e; rw [ev_pl_skip]; exact ih (by omega)
    · rw [ev_pl X n i k hi (by omega) e]
      intro h0
      rcases mul_eq_zero.1 h0 with h1 | h1
      · exact ih (by omega) h1
      · exact e (h k i (by omega) hi (xor_cancel _ _ h1).symm)

/-- A row and c times another. -/
theorem ev_addc (c : UInt8) (l x : List UInt8) (h : l.length = x.length) (z : UInt8) : ev (List.zipWith (fun a y => a ^^^ mul c y) l x) z = ev l z ^^^ mul c (ev x z) := by
  have e : List.zipWith (fun a y => a ^^^ mul c y) l x = List.zipWith (fun a b => a ^^^ b) l (x.map (mul c)) := by rw [List.zipWith_map_right]
  rw [e, ev_add _ _ (by simpa using h), ev_scl]

/-- The sum under way: i of the points are in. -/
def ou (X Y : Nat → UInt8) (n : Nat) : Nat → List UInt8
  | 0 => List.replicate n 0
  | i + 1 => List.zipWith (fun a y => a ^^^ mul (div (Y i) (ev (pl X n i n) (X i))) y) (ou X Y n i) (pl X n i n)

theorem ou_length (X Y : Nat → UInt8) (n i : Nat) : (ou X Y n i).length = n := by
  induction i with
  | zero => simp [ou]
  | succ i ih => simp only [ou]; rw [List.length_zipWith, ih, pl_length]; omega

theorem ou_at (X Y : Nat → UInt8) (n i t : Nat) (hi : i ≤ n) (ht : t < n) (h : ∀ a b, a < n → b < n → X a = X b → a = b) : ev (ou X Y n i) (X t) = if t < i then Y t else 0 := by
  induction i with
  | zero => simp [ou, ev_zeros]
  | succ i ih =>
    simp only [ou]
    rw [ev_addc _ _ _ (by rw [ou_length, pl_length]), ih (by omega)]
    by_cases e : t = i
    · subst e
      rw [if_neg (by omega), if_pos (by omega), UInt8.zero_xor]
      exact div_mul (ev_pl_ne X n t n ht (Nat.le_refl _) h)
    · rw [ev_pl_root X n i t n (by omega) ht (Nat.le_refl _) e, mul_zero, UInt8.xor_zero]
      by_cases h2 : t < i
      · rw [if_pos h2, if_pos (by omega)]
      · rw [if_neg h2, if_neg (by omega)]

/-- It is the same polynomial. -/
theorem ou_thr (xs ys : List UInt8) (nd : xs.Nodup) : ou (gt xs) (gt ys) xs.length xs.length = thr xs ys := by
  have hinj : ∀ a b, a < xs.length → b < xs.length → gt xs a = gt xs b → a = b := by
    intro a b ha hb e
    unfold gt at e
    rw [List.getElem?_eq_getElem ha, List.getElem?_eq_getElem hb] at e
    simp only [Option.getD_some] at e
    exact (List.getElem_inj nd).1 e
  refine ev_unique _ _ xs (ou_length _ _ _ _) (thr_length _ _) nd fun x hx => ?_
  obtain ⟨i, hi, rfl⟩ := List.getElem_of_mem hx
  have h1 := ou_at (gt xs) (gt ys) xs.length xs.length i (Nat.le_refl _) hi hinj
  have h2 := thr_at xs ys nd i hi
  rw [if_pos hi] at h1
  have e : gt xs i = xs[i] := by unfold gt; rw [List.getElem?_eq_getElem hi]; rfl
  rw [e] at h1 h2
  rw [h1, h2]

#print axioms ou_thr
end Go.Proofs.Ytbbgfbjchlefeaa
