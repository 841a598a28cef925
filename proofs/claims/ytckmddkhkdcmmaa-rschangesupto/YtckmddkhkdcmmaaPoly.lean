/-
  Polynomials over the field, plainly: values, uniqueness, Newton's form.
-/
import Derived.Test.YtckmddkhkdcmmaaFld
namespace Go.Proofs.Ytckmddkhkdcmmaa
set_option linter.unusedVariables false

theorem xsl (a b : UInt8) : a ^^^ (a ^^^ b) = b := by rw [← UInt8.xor_assoc, UInt8.xor_self, UInt8.zero_xor]
theorem xlc (a b c : UInt8) : a ^^^ (b ^^^ c) = b ^^^ (a ^^^ c) := by rw [← UInt8.xor_assoc, UInt8.xor_comm a b, UInt8.xor_assoc]
theorem mlc (a b c : UInt8) : mul a (mul b c) = mul b (mul a c) := by rw [← mul_assoc, mul_comm a b, mul_assoc]

/-- The value of a polynomial, the coefficient of x^0 first. -/
def ev : List UInt8 → UInt8 → UInt8
  | [], _ => 0
  | a :: p, x => mul (ev p x) x ^^^ a

/-- What is left of a polynomial when it is divided by x - r. -/
def quo : List UInt8 → UInt8 → List UInt8
  | [], _ => []
  | b :: p, r => ev (b :: p) r :: quo p r

theorem quo_length (p : List UInt8) (r : UInt8) : (quo p r).length = p.length := by
  induction p with
  | nil => rfl
  | cons b p ih => simp [quo, ih]

theorem ev_quo (a : UInt8) (t : List UInt8) (r x : UInt8) : ev (a :: t) x = mul (ev (quo t r) x) (x ^^^ r) ^^^ ev (a :: t) r := by
  induction t generalizing a with
  | nil => simp [ev, quo, zero_mul]
  | cons b t ih =>
    show mul (ev (b :: t) x) x ^^^ a = mul (mul (ev (quo t r) x) x ^^^ ev (b :: t) r) (x ^^^ r) ^^^ (mul (ev (b :: t) r) r ^^^ a)
    rw [ih b]
    generalize ev (quo t r) x = Q
    generalize ev (b :: t) r = V
    simp only [mul_xor2, mul_comm, mlc, UInt8.xor_assoc, UInt8.xor_comm, xlc, xsl]

theorem ev_zeros (n : Nat) (x : UInt8) : ev (List.replicate n 0) x = 0 := by
  induction n with
  | zero => rfl
  | succ n ih => rw [List.replicate_succ]; simp only [ev]; rw [ih, zero_mul, UInt8.xor_zero]

theorem quo_zero (t : List UInt8) (r : UInt8) (h : quo t r = List.replicate t.length 0) : t = List.replicate t.length 0 := by
  induction t with
  | nil => rfl
  | cons b t ih =>
    simp only [quo, List.length_cons, List.replicate_succ, List.cons.injEq] at h
    have e := ih h.2
    rw [List.length_cons, List.replicate_succ]
    have hb : b = 0 := by
      have h1 := h.1
      simp only [ev] at h1
      rw [e, ev_zeros, zero_mul, UInt8.zero_xor] at h1
      exact h1
    rw [hb]
    exact congrArg _ e

/-- A polynomial with as many roots as coefficients is zero. -/
theorem roots_zero (n : Nat) (p xs : List UInt8) (hp : p.length = n) (hx : xs.length = n) (nd : xs.Nodup) (h : ∀ x ∈ xs, ev p x = 0) : p = List.replicate n 0 := by
  induction n generalizing p xs with
  | zero => simpa using hp
  | succ n ih =>
    match p, hp, xs, hx with
    | a :: t, hp, r :: rs, hx =>
      simp only [List.length_cons, Nat.add_right_cancel_iff] at hp hx
      rw [List.nodup_cons] at nd
      have hr : ev (a :: t) r = 0 := h r (by simp)
      have hq : quo t r = List.replicate n 0 := by
        refine ih (quo t r) rs (by rw [quo_length, hp]) hx nd.2 fun x hxm => ?_
        have h1 := h x (by simp [hxm])
        rw [ev_quo a t r x, hr, UInt8.xor_zero] at h1
        refine (mul_eq_zero.1 h1).resolve_right fun e => nd.1 ?_
        rw [← xor_cancel _ _ e]; exact hxm
      have ht : t = List.replicate n 0 := by
        have := quo_zero t r (by rw [hp]; exact hq)
        rwa [hp] at this
      have ha : a = 0 := by
        simp only [ev] at hr
        rw [ht, ev_zeros, zero_mul, UInt8.zero_xor] at hr
        exact hr
      rw [ha, ht, List.replicate_succ]

theorem ev_add (p q : List UInt8) (h : p.length = q.length) (x : UInt8) : ev (List.zipWith (fun a b => a ^^^ b) p q) x = ev p x ^^^ ev q x := by
  induction p generalizing q with
  | nil => cases q <;> simp_all [ev]
  | cons a p ih =>
    match q, h with
    | b :: q, h =>
      simp only [List.length_cons, Nat.add_right_cancel_iff] at h
      simp only [List.zipWith_cons_cons, ev]
      rw [ih q h, mul_xor]
      generalize mul (ev p x) x = A
      generalize mul (ev q x) x = B
      simp only [UInt8.xor_comm, xlc]

/-- Two polynomials that agree at as many places as they have coefficients are the same. -/
theorem ev_unique (p q xs : List UInt8) (hp : p.length = xs.length) (hq : q.length = xs.length) (nd : xs.Nodup) (h : ∀ x ∈ xs, ev p x = ev q x) : p = q := by
  have hz := roots_zero xs.length (List.zipWith (fun a b => a ^^^ b) p q) xs (by simp; omega) rfl nd fun x hx => by
    rw [ev_add p q (by omega), h x hx, UInt8.xor_self]
  apply List.ext_getElem (by omega)
  intro i h1 h2
  have : (List.zipWith (fun a b => a ^^^ b) p q)[i]'(by simp; omega) = 0 := by simp [hz]
  rw [List.getElem_zipWith] at this
  exact xor_cancel _ _ this

theorem ev_scl (c : UInt8) (p : List UInt8) (x : UInt8) : ev (p.map (mul c)) x = mul c (ev p x) := by
  induction p with
  | nil => simp [ev, mul_zero]
  | cons a p ih => simp only [List.map_cons, ev]; rw [ih, mul_xor2, mul_assoc]

theorem ev_pad (p : List UInt8) (k : Nat) (x : UInt8) : ev (p ++ List.replicate k 0) x = ev p x := by
  induction p with
  | nil => rw [List.nil_append, ev_zeros]; rfl
  | cons a p ih => rw [List.cons_append]; simp only [ev]; rw [ih]

/-- A divided difference: of the points s to s + j. -/
def dd (X Y : Nat → UInt8) : Nat → Nat → UInt8
  | s, 0 => Y s
  | s, j + 1 => div (dd X Y (s + 1) j ^^^ dd X Y s j) (X (s + j + 1) ^^^ X s)

/-- The product of x - X(s + t) for t below j. -/
def wn (X : Nat → UInt8) (x : UInt8) : Nat → Nat → UInt8
  | _, 0 => 1
  | s, j + 1 => mul (wn X x s j) (x ^^^ X (s + j))

theorem wn_front (X : Nat → UInt8) (x : UInt8) (s j : Nat) : wn X x s (j + 1) = mul (x ^^^ X s) (wn X x (s + 1) j) := by
  induction j with
  | zero => simp [wn, mul_one, one_mul]
  | succ j ih =>
    have e : wn X x s (j + 1 + 1) = mul (wn X x s (j + 1)) (x ^^^ X (s + (j + 1))) := rfl
    rw [e, ih, mul_assoc]
    show mul (x ^^^ X s) (mul (wn X x (s + 1) j) (x ^^^ X (s + (j + 1)))) = mul (x ^^^ X s) (mul (wn X x (s + 1) j) (x ^^^ X (s + 1 + j)))
    rw [show s + (j + 1) = s + 1 + j by omega]

/-- Newton's form with the points s to s + m. -/
def nw (X Y : Nat → UInt8) (x : UInt8) (s : Nat) : Nat → UInt8
  | 0 => Y s
  | m + 1 => nw X Y x s m ^^^ mul (dd X Y s (m + 1)) (wn X x s (m + 1))

theorem dd_eq (X Y : Nat → UInt8) (s j : Nat) (h : X (s + j + 1) ≠ X s) : dd X Y (s + 1) j ^^^ dd X Y s j = mul (dd X Y s (j + 1)) (X (s + j + 1) ^^^ X s) := by
  show _ = mul (div _ _) _
  rw [div_mul]
  intro e
  exact h (xor_cancel _ _ e)

theorem nw_diff (X Y : Nat → UInt8) (x : UInt8) (N s m : Nat) (hN : s + m < N) (h : ∀ i j, i < j → j < N → X i ≠ X j) : nw X Y x (s + 1) m ^^^ nw X Y x s m = mul (dd X Y (s + 1) m ^^^ dd X Y s m) (wn X x (s + 1) m) := by
  induction m with
  | zero => simp [nw, dd, wn, mul_one]
  | succ m ih =>
    have ih := ih (by omega)
    have e1 := dd_eq X Y s m (h s (s + m + 1) (by omega) (by omega)).symm
    have e2 : wn X x (s + 1) (m + 1) = mul (wn X x (s + 1) m) (x ^^^ X (s + m + 1)) := by
      show mul _ _ = mul _ _
      rw [show s + 1 + m = s + m + 1 by omega]
    show (nw X Y x (s + 1) m ^^^ mul (dd X Y (s + 1) (m + 1)) (wn X x (s + 1) (m + 1))) ^^^ (nw X Y x s m ^^^ mul (dd X Y s (m + 1)) (wn X x s (m + 1))) = _
    rw [xor4, ih, e1, wn_front X x s m, e2]
    generalize wn X x (s + 1) m = w
    generalize dd X Y s (m + 1) = D
    generalize dd X Y (s + 1) (m + 1) = D'
    generalize X (s + m + 1) = xe
    generalize X s = x0
    simp only [mul_xor2, mul_comm, mlc, UInt8.xor_assoc, UInt8.xor_comm, xlc, xsl]

theorem nw_mix (X Y : Nat → UInt8) (x : UInt8) (N s m : Nat) (hN : s + m + 1 < N) (h : ∀ i j, i < j → j < N → X i ≠ X j) :
    mul (X (s + m + 1) ^^^ X s) (nw X Y x s (m + 1)) = mul (x ^^^ X s) (nw X Y x (s + 1) m) ^^^ mul (X (s + m + 1) ^^^ x) (nw X Y x s m) := by
  have e1 := dd_eq X Y s m (h s (s + m + 1) (by omega) (by omega)).symm
  have e2 := nw_diff X Y x N s m (by omega) h
  have e3 : nw X Y x (s + 1) m = nw X Y x s m ^^^ mul (mul (dd X Y s (m + 1)) (X (s + m + 1) ^^^ X s)) (wn X x (s + 1) m) := by
    rw [← e1, ← e2, xlc, UInt8.xor_self, UInt8.xor_zero]
  show mul _ (nw X Y x s m ^^^ mul (dd X Y s (m + 1)) (wn X x s (m + 1))) = _
  rw [e3, wn_front X x s m]
  generalize wn X x (s + 1) m = w
  generalize dd X Y s (m + 1) = D
  generalize nw X Y x s m = P
  generalize X (s + m + 1) = xe
  generalize X s = x0
  simp only [mul_xor2, mul_comm, mlc, UInt8.xor_assoc, UInt8.xor_comm, xlc, xsl]

/-- Newton's form goes through its points. -/
theorem nw_at (X Y : Nat → UInt8) (N m s i : Nat) (hN : s + m < N) (hi : i ≤ m) (h : ∀ i j, i < j → j < N → X i ≠ X j) : nw X Y (X (s + i)) s m = Y (s + i) := by
  induction m generalizing s i with
  | zero =>
    obtain rfl : i = 0 := by omega
    rfl
  | succ m ih =>
    have hne : X (s + m + 1) ^^^ X s ≠ 0 := fun e => h s (s + m + 1) (by omega) (by omega) (xor_cancel _ _ e).symm
    have key := nw_mix X Y (X (s + i)) N s m (by omega) h
    have fin : mul (X (s + m + 1) ^^^ X s) (nw X Y (X (s + i)) s (m + 1)) = mul (X (s + m + 1) ^^^ X s) (Y (s + i)) := by
      rw [key]
      by_cases h0 : i = 0
      · subst h0
        rw [Nat.add_zero, UInt8.xor_self, zero_mul, UInt8.zero_xor]
        have := ih s 0 (by omega) (Nat.zero_le _)
        rw [Nat.add_zero] at this
        rw [this]
      · by_cases h1 : i = m + 1
        · subst h1
          have := ih (s + 1) m (by omega) (Nat.le_refl _)
          rw [show s + 1 + m = s + (m + 1) by omega] at this
          rw [this, show s + m + 1 = s + (m + 1) by omega, UInt8.xor_self, zero_mul, UInt8.xor_zero]
        · have a1 := ih s i (by omega) (by omega)
          have a2 := ih (s + 1) (i - 1) (by omega) (by omega)
          rw [show s + 1 + (i - 1) = s + i by omega] at a2
          rw [a1, a2, ← mul_xor]
          congr 1
          generalize X (s + i) = A
          generalize X s = B
          generalize X (s + m + 1) = C
          simp only [UInt8.xor_comm, xlc, xsl]
    have : mul (X (s + m + 1) ^^^ X s) (nw X Y (X (s + i)) s (m + 1) ^^^ Y (s + i)) = 0 := by rw [mul_xor2, fin, UInt8.xor_self]
    exact xor_cancel _ _ ((mul_eq_zero.1 this).resolve_left hne)

/-- A step of spreading: times x - r, and prev. -/
def sps (r : UInt8) : UInt8 → List UInt8 → List UInt8
  | _, [] => []
  | prev, o :: os => (prev ^^^ mul r o) :: sps r o os

theorem sps_length (r prev : UInt8) (l : List UInt8) : (sps r prev l).length = l.length := by
  induction l generalizing prev with
  | nil => rfl
  | cons o os ih => simp [sps, ih]

theorem sps_get (r prev : UInt8) (l : List UInt8) (j : Nat) (h : j < l.length) : (sps r prev l)[j]? = some ((if j = 0 then prev else l[j - 1]?.getD 0) ^^^ mul r (l[j]?.getD 0)) := by
  induction l generalizing prev j with
  | nil => simp at h
  | cons o os ih =>
    cases j with
    | zero => simp [sps]
    | succ j =>
      simp only [List.length_cons] at h
      simp only [sps, List.getElem?_cons_succ]
      rw [ih o j (by omega)]
      cases j with
      | zero => simp
      | succ j => simp

theorem ev_sps (r prev x : UInt8) (o : UInt8) (l : List UInt8) (hl : (o :: l).getLast (by simp) = 0) : ev (sps r prev (o :: l)) x = prev ^^^ mul (ev (o :: l) x) (x ^^^ r) := by
  induction l generalizing prev o with
  | nil =>
    have : o = 0 := hl
    subst this
    simp [sps, ev, zero_mul, mul_zero]
  | cons b l ih =>
    have e : sps r prev (o :: b :: l) = (prev ^^^ mul r o) :: sps r o (b :: l) := rfl
    rw [e]
    show mul (ev (sps r o (b :: l)) x) x ^^^ (prev ^^^ mul r o) = prev ^^^ mul (mul (ev (b :: l) x) x ^^^ o) (x ^^^ r)
    rw [ih o b (by rw [List.getLast_cons (by simp)] at hl; exact hl)]
    generalize ev (b :: l) x = V
    simp only [mul_xor2, mul_comm, mlc, UInt8.xor_assoc, UInt8.xor_comm]

/-- Spreading: k steps, from the last point down. -/
def spf (X D : Nat → UInt8) (n : Nat) : Nat → List UInt8
  | 0 => List.replicate n 0
  | k + 1 => sps (X (n - 1 - k)) (D (n - 1 - k)) (spf X D n k)

theorem spf_length (X D : Nat → UInt8) (n k : Nat) : (spf X D n k).length = n := by
  induction k with
  | zero => simp [spf]
  | succ k ih => simp only [spf]; rw [sps_length, ih]

theorem spf_high (X D : Nat → UInt8) (n k j : Nat) (hk : k ≤ j) (hj : j < n) : (spf X D n k)[j]? = some 0 := by
  induction k generalizing j with
  | zero => simp [spf, hj]
  | succ k ih =>
    simp only [spf]
    rw [sps_get _ _ _ _ (by rw [spf_length]; exact hj), ih j (by omega) hj, ih (j - 1) (by omega) (by omega), if_neg (by omega)]
    simp [mul_zero]

theorem ev_spf (X D : Nat → UInt8) (n k : Nat) (hk : k < n) (x : UInt8) : ev (spf X D n (k + 1)) x = D (n - 1 - k) ^^^ mul (ev (spf X D n k) x) (x ^^^ X (n - 1 - k)) := by
  simp only [spf]
  have hl := spf_length X D n k
  have hh := spf_high X D n k (n - 1) (by omega) (by omega)
  match h : spf X D n k with
  | [] => rw [h] at hl; simp at hl; omega
  | o :: l =>
    refine ev_sps _ _ _ _ _ ?_
    rw [h] at hl hh
    simp only [List.length_cons] at hl
    rw [List.getLast_eq_getElem]
    have : (o :: l)[n - 1]? = some 0 := hh
    rw [List.getElem?_eq_some_iff] at this
    obtain ⟨_, h2⟩ := this
    simp only [List.length_cons, Nat.add_sub_cancel]
    rw [← h2]
    congr 1
    omega

/-- The whole is Newton's form. -/
theorem spf_nw (X Y : Nat → UInt8) (n k : Nat) (hk : k < n) (x : UInt8) : ev (spf X (dd X Y 0) n n) x = nw X Y x 0 k ^^^ mul (wn X x 0 (k + 1)) (ev (spf X (dd X Y 0) n (n - (k + 1))) x) := by
  induction k with
  | zero =>
    have e := ev_spf X (dd X Y 0) n (n - 1) (by omega) x
    rw [show n - 1 + 1 = n by omega, show n - 1 - (n - 1) = 0 by omega] at e
    rw [e]
    show dd X Y 0 0 ^^^ _ = Y 0 ^^^ mul (mul 1 (x ^^^ X (0 + 0))) _
    rw [one_mul, mul_comm]
    rfl
  | succ k ih =>
    rw [ih (by omega)]
    have e := ev_spf X (dd X Y 0) n (n - (k + 1 + 1)) (by omega) x
    rw [show n - (k + 1 + 1) + 1 = n - (k + 1) by omega, show n - 1 - (n - (k + 1 + 1)) = k + 1 by omega] at e
    rw [e]
    show _ = (nw X Y x 0 k ^^^ mul (dd X Y 0 (k + 1)) (wn X x 0 (k + 1))) ^^^ mul (mul (wn X x 0 (k + 1)) (x ^^^ X (0 + (k + 1)))) _
    rw [Nat.zero_add]
    generalize wn X x 0 (k + 1) = w
    generalize dd X Y 0 (k + 1) = D
    generalize nw X Y x 0 k = P
    generalize ev (spf X (dd X Y 0) n (n - (k + 1 + 1))) x = Q
    generalize X (k + 1) = xe
    simp only [mul_xor2, mul_comm, mlc, UInt8.xor_assoc]

def gt (l : List UInt8) (i : Nat) : UInt8 := l[i]?.getD 0

/-- The polynomial through the points. -/
def thr (xs ys : List UInt8) : List UInt8 := spf (gt xs) (dd (gt xs) (gt ys) 0) xs.length xs.length

theorem thr_length (xs ys : List UInt8) : (thr xs ys).length = xs.length := spf_length _ _ _ _

theorem thr_at (xs ys : List UInt8) (nd : xs.Nodup) (i : Nat) (hi : i < xs.length) : ev (thr xs ys) (gt xs i) = gt ys i := by
  unfold thr
  rw [spf_nw (gt xs) (gt ys) xs.length (xs.length - 1) (by omega), show xs.length - 1 + 1 = xs.length by omega, Nat.sub_self]
  have h0 : ev (spf (gt xs) (dd (gt xs) (gt ys) 0) xs.length 0) (gt xs i) = 0 := ev_zeros _ _
  rw [h0, mul_zero, UInt8.xor_zero]
  have := nw_at (gt xs) (gt ys) xs.length (xs.length - 1) 0 i (by omega) (by omega) (fun a b hab hb e => by
    unfold gt at e
    rw [List.getElem?_eq_getElem (by omega), List.getElem?_eq_getElem hb] at e
    simp only [Option.getD_some] at e
    have := (List.getElem_inj nd).1 e
    omega)
  rwa [Nat.zero_add] at this

/-- What has fewer coefficients comes back. -/
theorem thr_back (xs p : List UInt8) (nd : xs.Nodup) (hp : p.length ≤ xs.length) : thr xs (xs.map (ev p)) = p ++ List.replicate (xs.length - p.length) 0 := by
  refine ev_unique _ _ xs (thr_length _ _) (by simp; omega) nd fun x hx => ?_
  obtain ⟨i, hi, rfl⟩ := List.getElem_of_mem hx
  have h := thr_at xs (xs.map (ev p)) nd i hi
  unfold gt at h
  rw [List.getElem?_eq_getElem hi] at h
  simp only [Option.getD_some, List.getElem?_map, List.getElem?_eq_getElem hi, Option.map_some] at h
  rw [h, ev_pad]

end Go.Proofs.Ytckmddkhkdcmmaa
