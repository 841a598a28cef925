/-
  Cauchy's matrix, plainly: any k rows of the code have an inverse.
-/
import Derived.Test.YtckmddkhkdcmmaaGau
namespace Go.Proofs.Ytckmddkhkdcmmaa
set_option linter.unusedVariables false

/-- The inverse of an element that is not 0. -/
def iv (a : UInt8) : UInt8 := div 1 a

theorem iv_mul {a : UInt8} (h : a ≠ 0) : mul (iv a) a = 1 := div_mul h
theorem mul_iv {a : UInt8} (h : a ≠ 0) : mul a (iv a) = 1 := by rw [mul_comm]; exact iv_mul h
theorem iv_ne {a : UInt8} (h : a ≠ 0) : iv a ≠ 0 := div_ne h
theorem xor_ne {a b : UInt8} (h : a ≠ b) : a ^^^ b ≠ 0 := fun e => h (xor_cancel _ _ e)
theorem mul_cancel {a b c : UInt8} (h : c ≠ 0) (e : mul c a = mul c b) : a = b := by
  have : mul (iv c) (mul c a) = mul (iv c) (mul c b) := by rw [e]
  rwa [← mul_assoc, ← mul_assoc, iv_mul h, one_mul, one_mul] at this

/-- The sum of f over a list. -/
def ss : List UInt8 → (UInt8 → UInt8) → UInt8
  | [], _ => 0
  | y :: t, f => f y ^^^ ss t f

theorem ss_congr {l : List UInt8} {f g : UInt8 → UInt8} (h : ∀ y ∈ l, f y = g y) : ss l f = ss l g := by
  induction l with
  | nil => rfl
  | cons y t ih => simp only [ss]; rw [h y (List.mem_cons_self ..), ih (fun z hz => h z (List.mem_cons_of_mem _ hz))]

theorem ss_zero {l : List UInt8} {f : UInt8 → UInt8} (h : ∀ y ∈ l, f y = 0) : ss l f = 0 := by
  induction l with
  | nil => rfl
  | cons y t ih => simp only [ss]; rw [h y (List.mem_cons_self ..), ih (fun z hz => h z (List.mem_cons_of_mem _ hz))]; rfl

theorem ss_add (l : List UInt8) (f g : UInt8 → UInt8) : ss l (fun y => f y ^^^ g y) = ss l f ^^^ ss l g := by
  induction l with
  | nil => simp only [ss]; rw [UInt8.xor_self]
  | cons y t ih => simp only [ss]; rw [ih, xor4]

theorem ss_mul (l : List UInt8) (c : UInt8) (f : UInt8 → UInt8) : ss l (fun y => mul c (f y)) = mul c (ss l f) := by
  induction l with
  | nil => simp only [ss]; rw [mul_zero]
  | cons y t ih => simp only [ss]; rw [ih, mul_xor2]

theorem ss_append (l m : List UInt8) (f : UInt8 → UInt8) : ss (l ++ m) f = ss l f ^^^ ss m f := by
  induction l with
  | nil => simp only [ss, List.nil_append]; rw [UInt8.zero_xor]
  | cons y t ih => simp only [ss, List.cons_append]; rw [ih, UInt8.xor_assoc]

theorem ss_filter (l : List Nat) (p : Nat → Bool) (f : UInt8 → UInt8) (h : ∀ i ∈ l, p i = false → f (UInt8.ofNat i) = 0) : ss ((l.filter p).map UInt8.ofNat) f = ss (l.map UInt8.ofNat) f := by
  induction l with
  | nil => rfl
  | cons y t ih =>
    have ih := ih (fun z hz => h z (List.mem_cons_of_mem _ hz))
    by_cases hp : p y = true
    · rw [List.filter_cons_of_pos hp]; simp only [ss, List.map_cons]; rw [ih]
    · rw [List.filter_cons_of_neg hp]; simp only [ss, List.map_cons]; rw [ih, h y (List.mem_cons_self ..) (by simpa using hp), UInt8.zero_xor]

theorem cau_split {x y z : UInt8} (h : x ≠ y) : mul (x ^^^ z) (iv (x ^^^ y)) = 1 ^^^ mul (y ^^^ z) (iv (x ^^^ y)) := by
  have e : x ^^^ z = (x ^^^ y) ^^^ (y ^^^ z) := by rw [UInt8.xor_assoc, ← UInt8.xor_assoc y y z, UInt8.xor_self, UInt8.zero_xor]
  rw [e, mul_xor, mul_iv (xor_ne h)]

theorem cau_two {x z y : UInt8} (h1 : x ≠ y) (h2 : z ≠ y) : iv (x ^^^ y) ^^^ iv (z ^^^ y) = mul (x ^^^ z) (mul (iv (x ^^^ y)) (iv (z ^^^ y))) := by
  have e : x ^^^ z = (x ^^^ y) ^^^ (z ^^^ y) := by rw [xor4, UInt8.xor_self, UInt8.xor_zero]
  rw [e, mul_xor, ← mul_assoc, mul_iv (xor_ne h1), one_mul, mul_comm (iv (x ^^^ y)), ← mul_assoc, mul_iv (xor_ne h2), one_mul, UInt8.xor_comm]

/-- Cauchy's matrix: only 0 goes to 0. -/
theorem cauchy (ys : List UInt8) : ∀ (xs : List UInt8) (v : UInt8 → UInt8), ys.length ≤ xs.length → ys.Nodup → xs.Nodup → (∀ x ∈ xs, ∀ y ∈ ys, x ≠ y) → (∀ x ∈ xs, ss ys (fun y => mul (v y) (iv (x ^^^ y))) = 0) → ∀ y ∈ ys, v y = 0 := by
  induction ys with
  | nil => intro xs v _ _ _ _ _ y hy; simp at hy
  | cons y0 t ih =>
    intro xs v hlen ny nx hd hz
    cases xs with
    | nil => simp at hlen
    | cons x0 u =>
      rw [List.nodup_cons] at ny nx
      have hx0 : ∀ y ∈ t, x0 ≠ y := fun y hy => hd x0 (List.mem_cons_self ..) y (List.mem_cons_of_mem _ hy)
      have hx00 : x0 ≠ y0 := hd x0 (List.mem_cons_self ..) y0 (List.mem_cons_self ..)
      have A : ∀ x ∈ x0 :: u, v y0 ^^^ (ss t v ^^^ ss t (fun y => mul (mul (v y) (y ^^^ y0)) (iv (x ^^^ y)))) = 0 := by
        intro x hx
        have hne : x ≠ y0 := hd x hx y0 (List.mem_cons_self ..)
        have h := hz x hx
        simp only [ss] at h
        have h2 : mul (x ^^^ y0) (mul (v y0) (iv (x ^^^ y0)) ^^^ ss t (fun y => mul (v y) (iv (x ^^^ y)))) = 0 := by rw [h, mul_zero]
        rw [mul_xor2, mul_comm (v y0), ← mul_assoc, mul_iv (xor_ne hne), one_mul, ← ss_mul] at h2
        rw [← h2, ← ss_add]
        congr 1
        refine ss_congr (fun y hy => ?_)
        rw [← mul_assoc (x ^^^ y0), mul_comm (x ^^^ y0), mul_assoc (v y) (x ^^^ y0), cau_split (hd x hx y (List.mem_cons_of_mem _ hy)), mul_xor2 (v y) 1, mul_one, mul_assoc]
      have B : ∀ y ∈ t, mul (mul (v y) (y ^^^ y0)) (iv (x0 ^^^ y)) = 0 := by
        refine ih u (fun y => mul (mul (v y) (y ^^^ y0)) (iv (x0 ^^^ y))) (by simpa using hlen) ny.2 nx.2 (fun x hx y hy => hd x (List.mem_cons_of_mem _ hx) y (List.mem_cons_of_mem _ hy)) ?_
        intro x hx
        have hxx : x ≠ x0 := fun e => nx.1 (e ▸ hx)
        have h1 := A x (List.mem_cons_of_mem _ hx)
        have h2 := A x0 (List.mem_cons_self ..)
        have h3 : ss t (fun y => mul (mul (v y) (y ^^^ y0)) (iv (x ^^^ y))) = ss t (fun y => mul (mul (v y) (y ^^^ y0)) (iv (x0 ^^^ y))) := by
          have e := (h1.trans h2.symm)
          have f := fun (a b c : UInt8) (h : a ^^^ b = a ^^^ c) => show b = c by rw [← xsl' a b, h, xsl']
          exact f _ _ _ (f _ _ _ e)
        have h4 : ss t (fun y => mul (mul (v y) (y ^^^ y0)) (iv (x ^^^ y)) ^^^ mul (mul (v y) (y ^^^ y0)) (iv (x0 ^^^ y))) = 0 := by rw [ss_add, h3, UInt8.xor_self]
        have h5 : mul (x ^^^ x0) (ss t (fun y => mul (mul (mul (v y) (y ^^^ y0)) (iv (x0 ^^^ y))) (iv (x ^^^ y)))) = 0 := by
          rw [← ss_mul, ← h4]
          refine ss_congr (fun y hy => ?_)
          rw [← mul_xor2, cau_two (hd x (List.mem_cons_of_mem _ hx) y (List.mem_cons_of_mem _ hy)) (hx0 y hy), mul_assoc (mul (v y) (y ^^^ y0)), mul_comm (iv (x0 ^^^ y)), ← mul_assoc, mul_comm (x ^^^ x0), mul_assoc]
        rw [mul_eq_zero] at h5
        exact h5.resolve_left (xor_ne hxx)
      have C : ∀ y ∈ t, v y = 0 := by
        intro y hy
        have h := B y hy
        rw [mul_eq_zero, mul_eq_zero] at h
        rcases h with (h | h) | h
        · exact h
        · exact absurd h (xor_ne (fun e => ny.1 (e ▸ hy)))
        · exact absurd h (iv_ne (xor_ne (hx0 y hy)))
      intro y hy
      rcases List.mem_cons.1 hy with rfl | hy
      · have h := hz x0 (List.mem_cons_self ..)
        simp only [ss] at h
        rw [ss_zero (fun z hz => by rw [C z hz, zero_mul]), UInt8.xor_zero, mul_eq_zero] at h
        exact h.resolve_right (iv_ne (xor_ne hx00))
      · exact C y hy

/-- The code's coefficients. -/
def co (k i j : Nat) : UInt8 := if i < k then (if i = j then 1 else 0) else iv (UInt8.ofNat i ^^^ UInt8.ofNat j)

theorem nodup_sub {l : List Nat} : ∀ {m : List Nat}, l.Nodup → (∀ x ∈ l, x ∈ m) → l.length ≤ m.length := by
  induction l with
  | nil => intro m _ _; simp
  | cons x t ih =>
    intro m nd h
    rw [List.nodup_cons] at nd
    have hx := h x (List.mem_cons_self ..)
    have h1 := ih (m := m.erase x) nd.2 (fun y hy => (List.mem_erase_of_ne (fun e => nd.1 (by rw [← e]; exact hy))).2 (h y (List.mem_cons_of_mem _ hy)))
    rw [List.length_erase_of_mem hx] at h1
    have := List.length_pos_of_mem hx
    simp only [List.length_cons]
    omega

theorem ofNat_toNat_lt {j : Nat} (h : j < 256) : (UInt8.ofNat j).toNat = j := by simp; omega

theorem sg_ss (k : Nat) (hk : k ≤ 256) (g : Nat → UInt8) : sg k g = ss ((List.range k).map UInt8.ofNat) (fun y => g y.toNat) := by
  induction k with
  | zero => rfl
  | succ k ih =>
    rw [List.range_succ, List.map_append, ss_append]
    simp only [sg, ss, List.map_cons, List.map_nil]
    rw [ih (by omega), ofNat_toNat_lt (by omega), UInt8.xor_zero]

theorem nodup_ofNat {l : List Nat} (h : l.Nodup) (hb : ∀ x ∈ l, x < 256) : (l.map UInt8.ofNat).Nodup := by
  induction l with
  | nil => simp
  | cons x t ih =>
    rw [List.nodup_cons] at h
    rw [List.map_cons, List.nodup_cons]
    refine ⟨?_, ih h.2 (fun y hy => hb y (List.mem_cons_of_mem _ hy))⟩
    intro hx
    obtain ⟨y, hy, e⟩ := List.mem_map.1 hx
    have h1 := ofNat_toNat_lt (hb y (List.mem_cons_of_mem _ hy))
    have h2 := ofNat_toNat_lt (hb x (List.mem_cons_self ..))
    rw [e, h2] at h1
    exact h.1 (by rw [h1]; exact hy)

theorem filter_two (l : List Nat) (p : Nat → Bool) : (l.filter p).length + (l.filter (fun x => !p x)).length = l.length := by
  induction l with
  | nil => rfl
  | cons x t ih =>
    by_cases h : p x = true
    · rw [List.filter_cons_of_pos h, List.filter_cons_of_neg (by simp [h])]; simp only [List.length_cons]; omega
    · rw [List.filter_cons_of_neg h, List.filter_cons_of_pos (by simpa using h)]; simp only [List.length_cons]; omega

/-- Any k rows of the code: only 0 goes to 0. -/
theorem co_reg {k m : Nat} (hk : k + m ≤ 256) (which : List Nat) (hlen : which.length = k) (nd : which.Nodup) (hb : ∀ i ∈ which, i < k + m) (v : Nat → UInt8)
    (hz : ∀ i ∈ which, sg k (fun c => mul (co k i c) (v c)) = 0) (c : Nat) (hc : c < k) : v c = 0 := by
  have hd : ∀ i ∈ which, i < k → v i = 0 := by
    intro i hi hik
    have h := hz i hi
    rw [sg_one (j := i) hik (fun j hj he => by unfold co; rw [if_pos hik, if_neg (fun h => he h.symm), zero_mul])] at h
    unfold co at h
    rwa [if_pos hik, if_pos rfl, one_mul] at h
  by_cases hcw : c ∈ which
  · exact hd c hcw hc
  have h1 : (which.filter (fun i => decide (i < k))).length ≤ ((List.range k).filter (fun i => decide (i ∈ which))).length := by
    refine nodup_sub (nd.filter _) (fun x hx => ?_)
    rw [List.mem_filter] at hx
    rw [List.mem_filter]
    exact ⟨List.mem_range.2 (by simpa using hx.2), by simpa using hx.1⟩
  have h2 := filter_two which (fun i => decide (i < k))
  have h3 := filter_two (List.range k) (fun i => decide (i ∈ which))
  rw [List.length_range] at h3
  have ca := cauchy (((List.range k).filter (fun i => !decide (i ∈ which))).map UInt8.ofNat) ((which.filter (fun i => !decide (i < k))).map UInt8.ofNat) (fun y => v y.toNat)
    (by rw [List.length_map, List.length_map]; omega)
    (nodup_ofNat (List.nodup_range.filter _) (fun x hx => by rw [List.mem_filter, List.mem_range] at hx; omega))
    (nodup_ofNat (nd.filter _) (fun x hx => by have := hb x (List.mem_filter.1 hx).1; omega))
    (by
      intro x hx y hy e
      obtain ⟨i, hi, rfl⟩ := List.mem_map.1 hx
      obtain ⟨j, hj, rfl⟩ := List.mem_map.1 hy
      rw [List.mem_filter] at hi hj
      have a1 := hb i hi.1
      have a2 : ¬ i < k := by simpa using hi.2
      have a3 := List.mem_range.1 hj.1
      have := congrArg UInt8.toNat e
      rw [ofNat_toNat_lt (by omega), ofNat_toNat_lt (by omega)] at this
      omega)
    (by
      intro x hx
      obtain ⟨i, hi, rfl⟩ := List.mem_map.1 hx
      rw [List.mem_filter] at hi
      have a2 : ¬ i < k := by simpa using hi.2
      have h := hz i hi.1
      rw [sg_ss k (by omega)] at h
      rw [ss_filter _ _ _ (fun j hj hp => by
        have j1 := List.mem_range.1 hj
        rw [ofNat_toNat_lt (by omega), hd j (by simpa using hp) j1, zero_mul])]
      rw [← h]
      refine ss_congr (fun y hy => ?_)
      obtain ⟨j, hj, rfl⟩ := List.mem_map.1 hy
      have j1 := List.mem_range.1 hj
      rw [ofNat_toNat_lt (by omega)]
      unfold co
      rw [if_neg a2, mul_comm])
  have := ca (UInt8.ofNat c) (List.mem_map.2 ⟨c, List.mem_filter.2 ⟨List.mem_range.2 hc, by simpa using hcw⟩, rfl⟩)
  simpa [ofNat_toNat_lt (show c < 256 by omega)] using this

/-- The rows of the code with these numbers. -/
def cw (k : Nat) (which : List Nat) : List UInt8 := fl k (fun r c => co k (which[r]?.getD 0) c) (k * k)

theorem cw_length (k : Nat) (which : List Nat) : (cw k which).length = k * k := fl_length _ _ _

theorem cw_reg {k m : Nat} (hk : k + m ≤ 256) (which : List Nat) (hlen : which.length = k) (nd : which.Nodup) (hb : ∀ i ∈ which, i < k + m) : Reg (cw k which) k := by
  intro v hz c hc
  refine co_reg hk which hlen nd hb v (fun i hi => ?_) c hc
  obtain ⟨r, hr, rfl⟩ := List.getElem_of_mem hi
  rw [← hz r (by omega)]
  refine sg_congr (fun c hc => ?_)
  rw [cw, mc_fl (by omega) hc, List.getElem?_eq_getElem hr]; rfl

theorem cw_full {k m : Nat} (hk : k + m ≤ 256) (which : List Nat) (hlen : which.length = k) (nd : which.Nodup) (hb : ∀ i ∈ which, i < k + m) : (invR k (cw k which)).2 = k :=
  full_of_reg (cw_length k which) (cw_reg hk which hlen nd hb)

end Go.Proofs.Ytckmddkhkdcmmaa
