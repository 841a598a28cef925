/-
  Both sides of gf's matrices by the same plain functions.
  The document's Solve; own, wide, same, Make.
  own, wide, same.
  The law's own 'live': a product, an inverse, a matrix and its inverse.
-/
import Derived.Test.YtckmddkhkdcmmaaM21
import Derived.Test.YtckmddkhkdcmmaaM22
import Derived.Test.YtckmddkhkdcmmaaM23
import Derived.Test.YtckmddkhkdcmmaaM24
import Derived.Test.YtckmddkhkdcmmaaM04
namespace Go.Proofs.Ytckmddkhkdcmmaa
set_option linter.unusedVariables false
set_option linter.unusedSimpArgs false
open Go.RowKit Go.Lib
set_option linter.unusedVariables false
set_option linter.unusedSimpArgs false

attribute [local go_sem ↓] Go.wp_at_zero Go.wp_at_succ

def MX (w w' : World) (e : Ending) (X : Int × Int × List UInt8 × Int) : Prop := MR w w' e X.1 X.2.1 X.2.2.1 X.2.2.2
theorem BAt.rdN {w : World} {q n : Nat} {l : List UInt8} (h : BAt w q l) (hl : l.length = n) (hn : n ≤ 8192) : Rd w (.slice (some ⟨q, 0, none⟩) n n) l := by
  subst hl
  exact h.rd (by unfold maxLen; omega)
theorem zero_mr {w w' : World} {e : Ending} {E : Int} (h : e = .returned (.tuple #[zV, .int .i64 E]) ∧ Fr (fun _ => False) w w') : MR w w' e 0 0 [] E := ⟨⟨_, h.1, Rd.nil _⟩, h.2⟩
theorem m64 {a b : Nat} (h1 : a ≤ 64) (h2 : b ≤ 64) : a * b ≤ 8192 := Nat.le_trans (Nat.mul_le_mul h1 h2) (by decide)

def PX (r c : Int) (l : List UInt8) (r2 c2 : Int) (l2 : List UInt8) : Int × Int × List UInt8 × Int :=
  if chk r c l.length = 0 then (if chk r2 c2 l2.length = 0 then (if c = r2 then (r, c2, prL r.toNat c.toNat c2.toNat l l2, 0) else (0, 0, [], 23)) else (0, 0, [], chk r2 c2 l2.length)) else (0, 0, [], chk r c l.length)
theorem product_u (w : World) (r c r2 c2 : Int) (va vb : Value) (l l2 : List UInt8) (ha : Rd w va l) (hb : Rd w vb l2) : Calls Try.prog 17 #[.agg #[.int .i64 r, .int .i64 c, va], .agg #[.int .i64 r2, .int .i64 c2, vb]] w fun e w' => MX w w' e (PX r c l r2 c2 l2) := by
  unfold PX MX
  by_cases h1 : chk r c l.length = 0
  · rw [if_pos h1]
    by_cases h2 : chk r2 c2 l2.length = 0
    · rw [if_pos h2]
      by_cases h3 : c = r2
      · rw [if_pos h3]
        obtain ⟨a, b, rfl, rfl, ha1, hb1, hab⟩ := chk_pos h1
        obtain ⟨b', d, e1, rfl, hb2, hd, hbd⟩ := chk_pos h2
        obtain rfl : b = b' := by omega
        subst h3
        refine (product_ok w a b d va vb l l2 ha hb hab hbd ha1 hb1 hd).mono ?_
        rintro e w' ⟨⟨q, he, hB⟩, f⟩
        exact ⟨⟨_, he, by simpa using hB.rdN (prL_length _ _ _ _ _) (m64 ha1.2 hd.2)⟩, f⟩
      · rw [if_neg h3]
        exact (product_no3 w r c r2 c2 va vb l l2 ha hb h1 h2 h3).mono fun e w' h => zero_mr h
    · rw [if_neg h2]
      exact (product_no2 w r c r2 c2 va vb l l2 ha hb h1 h2).mono fun e w' h => zero_mr h
  · rw [if_neg h1]
    exact (product_no1 w r c r2 c2 va vb l l2 ha hb h1).mono fun e w' h => zero_mr h
theorem rproduct_u (w : World) (r c r2 c2 : Int) (va vb : Value) (l l2 : List UInt8) (ha : Rd w va l) (hb : Rd w vb l2) : Calls Try.prog 18 #[.agg #[.int .i64 r, .int .i64 c, va], .agg #[.int .i64 r2, .int .i64 c2, vb]] w fun e w' => MX w w' e (PX r c l r2 c2 l2) := by
  unfold PX MX
  by_cases h1 : chk r c l.length = 0
  · rw [if_pos h1]
    by_cases h2 : chk r2 c2 l2.length = 0
    · rw [if_pos h2]
      by_cases h3 : c = r2
      · rw [if_pos h3]
        obtain ⟨a, b, rfl, rfl, ha1, hb1, hab⟩ := chk_pos h1
        obtain ⟨b', d, e1, rfl, hb2, hd, hbd⟩ := chk_pos h2
        obtain rfl : b = b' := by omega
        subst h3
        exact rproduct_ok w a b d va vb l l2 ha hb hab hbd ha1 hb1 hd
      · rw [if_neg h3]
        exact rproduct_side w r c r2 c2 va vb l l2 ha hb h1 h2 h3
    · rw [if_neg h2]
      have h := rproduct_no w r c r2 c2 va vb l l2 ha hb (by rw [if_pos h1]; exact h2)
      rw [if_pos h1] at h
      exact h
  · rw [if_neg h1]
    have h := rproduct_no w r c r2 c2 va vb l l2 ha hb (by rw [if_neg h1]; exact h1)
    rw [if_neg h1] at h
    exact h

def IX (r c : Int) (l : List UInt8) : Int × Int × List UInt8 × Int :=
  if chk r c l.length = 0 then (if r = c then (if (invR r.toNat l).2 < r.toNat then (0, 0, [], 22) else (r, r, invL r.toNat l, 0)) else (0, 0, [], 23)) else (0, 0, [], chk r c l.length)
theorem inverse_u (w : World) (r c : Int) (va : Value) (l : List UInt8) (ha : Rd w va l) : Calls Try.prog 19 #[.agg #[.int .i64 r, .int .i64 c, va]] w fun e w' => MX w w' e (IX r c l) := by
  unfold IX MX
  by_cases h1 : chk r c l.length = 0
  · rw [if_pos h1]
    by_cases h2 : r = c
    · rw [if_pos h2]
      obtain ⟨a, b, rfl, rfl, ha1, hb1, hab⟩ := chk_pos h1
      obtain rfl : a = b := by omega
      refine (inverse_sq w a va l ha hab ha1).mono ?_
      rintro e w' ⟨⟨val, rfl, hM, -⟩, f⟩
      simp only [Int.toNat_natCast]
      by_cases h3 : (invR a l).2 < a
      · simp only [if_pos h3] at hM ⊢
        obtain ⟨v, rfl, hR⟩ := hM
        exact ⟨⟨_, rfl, hR⟩, f⟩
      · simp only [if_neg h3] at hM ⊢
        obtain ⟨v, rfl, hR⟩ := hM
        exact ⟨⟨_, rfl, hR⟩, f⟩
    · rw [if_neg h2]
      exact (inverse_side w r c va l ha h1 h2).mono fun e w' h => zero_mr h
  · rw [if_neg h1]
    exact (inverse_check w r c va l ha h1).mono fun e w' h => zero_mr h
theorem rinverse_u (w : World) (r c : Int) (va : Value) (l : List UInt8) (ha : Rd w va l) : Calls Try.prog 20 #[.agg #[.int .i64 r, .int .i64 c, va]] w fun e w' => MX w w' e (IX r c l) := by
  unfold IX MX
  by_cases h1 : chk r c l.length = 0
  · rw [if_pos h1]
    by_cases h2 : r = c
    · rw [if_pos h2]
      obtain ⟨a, b, rfl, rfl, ha1, hb1, hab⟩ := chk_pos h1
      obtain rfl : a = b := by omega
      simp only [Int.toNat_natCast]
      by_cases h3 : (invR a l).2 < a
      · rw [if_pos h3]
        exact rinv_flat w a va l ha1 hab ha h3
      · rw [if_neg h3]
        have h4 : (invR a l).2 = a := by have := redK_col (bsd l a a eyeC a) a; unfold invR at h3 ⊢; omega
        refine (rinv_full w a va l ha1 hab ha h4).mono ?_
        rintro e w' ⟨⟨q, cap, he, -, hO⟩, f⟩
        exact ⟨⟨_, he, Rd.of_owns (base := 0) (by rw [invL_length]; exact hO)⟩, f⟩
    · rw [if_neg h2]
      exact rinv_side w r c va l ha h1 h2
  · rw [if_neg h1]
    exact rinv_no w r c va l ha h1

def TX (r c : Int) (l : List UInt8) : Int × Int × List UInt8 × Int :=
  if chk r c l.length = 0 then (c, r, tuL r.toNat c.toNat l, 0) else (0, 0, [], chk r c l.length)
theorem turn_u (w : World) (r c : Int) (va : Value) (l : List UInt8) (ha : Rd w va l) : Calls Try.prog 27 #[.agg #[.int .i64 r, .int .i64 c, va]] w fun e w' => MX w w' e (TX r c l) := by
  unfold TX MX
  by_cases h1 : chk r c l.length = 0
  · rw [if_pos h1]
    obtain ⟨a, b, rfl, rfl, ha1, hb1, hab⟩ := chk_pos h1
    refine (turn_ok w a b va l ha hab ha1 hb1).mono ?_
    rintro e w' ⟨⟨q, he, hB, -⟩, f⟩
    exact ⟨⟨_, he, by simpa using hB.rdN (tuL_length _ _ _) (m64 hb1.2 ha1.2)⟩, f⟩
  · rw [if_neg h1]
    exact (turn_no w r c va l ha h1).mono fun e w' h => zero_mr h
theorem rturn_u (w : World) (r c : Int) (va : Value) (l : List UInt8) (ha : Rd w va l) : Calls Try.prog 28 #[.agg #[.int .i64 r, .int .i64 c, va]] w fun e w' => MX w w' e (TX r c l) := by
  unfold TX MX
  by_cases h1 : chk r c l.length = 0
  · rw [if_pos h1]
    obtain ⟨a, b, rfl, rfl, ha1, hb1, hab⟩ := chk_pos h1
    exact rturn_ok w a b va l ha hab ha1 hb1
  · rw [if_neg h1]
    exact rturn_no w r c va l ha h1

def WX (r c : Int) (l : List UInt8) (xs : List Int) : Int × Int × List UInt8 × Int :=
  if chk r c l.length = 0 then (if sideB (xs.length : Int) = true then (if xs.any (offB r.toNat) = true then (0, 0, [], 2) else ((xs.length : Int), c, rwsL c.toNat l (xs.map Int.toNat), 0)) else (0, 0, [], 2)) else (0, 0, [], chk r c l.length)
theorem ivs_nvs {rows : Nat} {xs : List Int} (h : xs.any (offB rows) = false) : ivs xs = nvs (xs.map Int.toNat) ∧ ∀ x ∈ xs.map Int.toNat, x < rows := by
  rw [List.any_eq_false] at h
  have h2 : ∀ x ∈ xs, 0 ≤ x ∧ x < (rows : Int) := fun x hx => by
    have := h x hx
    simp [offB] at this
    omega
  constructor
  · unfold ivs nvs
    rw [List.map_map]
    apply List.map_congr_left
    intro x hx
    have := h2 x hx
    simp only [Function.comp]
    rw [Int.toNat_of_nonneg this.1]
  · intro x hx
    obtain ⟨y, hy, rfl⟩ := List.mem_map.1 hx
    have := h2 y hy
    omega
theorem rows_u (w : World) (r c : Int) (va wv : Value) (l : List UInt8) (xs : List Int) (ha : Rd w va l) (hw : RdV w wv (ivs xs)) : Calls Try.prog 25 #[.agg #[.int .i64 r, .int .i64 c, va], wv] w fun e w' => MX w w' e (WX r c l xs) := by
  unfold WX MX
  by_cases h1 : chk r c l.length = 0
  · rw [if_pos h1]
    by_cases h2 : sideB (xs.length : Int) = true
    · rw [if_pos h2]
      by_cases h3 : xs.any (offB r.toNat) = true
      · rw [if_pos h3]
        exact (rows_no3 w r c va wv l xs ha hw h1 h2 h3).mono fun e w' h => zero_mr h
      · rw [if_neg h3]
        obtain ⟨a, b, rfl, rfl, ha1, hb1, hab⟩ := chk_pos h1
        simp only [Int.toNat_natCast] at h3 ⊢
        obtain ⟨hi, hx⟩ := ivs_nvs (Bool.not_eq_true _ ▸ h3)
        have hs := side_le h2
        rw [hi] at hw
        have hlen : (xs.map Int.toNat).length = xs.length := List.length_map ..
        refine (rows_ok w a b va wv l (xs.map Int.toNat) ha hw hab ha1 hb1 (by rw [hlen]; omega) hx).mono ?_
        rintro e w' ⟨⟨q, he, hB⟩, f⟩
        rw [hlen] at he
        exact ⟨⟨_, he, hB.rdN (by rw [rwsL_length, hlen]) (m64 (by omega) hb1.2)⟩, f⟩
    · rw [if_neg h2]
      exact (rows_no2 w r c va wv l xs ha hw h1 (by simpa using h2)).mono fun e w' h => zero_mr h
  · rw [if_neg h1]
    exact (rows_no1 w r c va wv l xs ha hw h1).mono fun e w' h => zero_mr h
theorem rrows_u (w : World) (r c : Int) (va wv : Value) (l : List UInt8) (xs : List Int) (ha : Rd w va l) (hw : RdV w wv (ivs xs)) : Calls Try.prog 26 #[.agg #[.int .i64 r, .int .i64 c, va], wv] w fun e w' => MX w w' e (WX r c l xs) := by
  unfold WX MX
  by_cases h1 : chk r c l.length = 0
  · rw [if_pos h1]
    by_cases h2 : sideB (xs.length : Int) = true
    · rw [if_pos h2]
      obtain ⟨a, b, rfl, rfl, ha1, hb1, hab⟩ := chk_pos h1
      have hs := side_le h2
      simp only [Int.toNat_natCast]
      by_cases h3 : xs.any (offB a) = true
      · rw [if_pos h3]
        exact rrows_any w a b va wv l xs ha hw hab ha1 hb1 (by omega) _ _ _ _ (fun _ => ⟨rfl, rfl, rfl, rfl⟩) (fun h => absurd h (by rw [h3]; simp))
      · rw [if_neg h3]
        exact rrows_any w a b va wv l xs ha hw hab ha1 hb1 (by omega) _ _ _ _ (fun h => absurd h h3) (fun _ => ⟨rfl, rfl, rfl, rfl⟩)
    · rw [if_neg h2]
      by_cases h4 : xs.length < 1
      · exact rrows_no2a w r c va wv l xs ha hw h1 h4
      · exact rrows_no2b w r c va wv l xs ha hw h1 (by have h5 : ¬ (1 ≤ (xs.length : Int) ∧ (xs.length : Int) ≤ 64) := by simpa [sideB] using h2
                                                       omega)
  · rw [if_neg h1]
    exact rrows_no1 w r c va wv l xs ha hw h1

def KR (w w' : World) (e : Ending) (X : Int × Int) : Prop := e = .returned (.tuple #[.int .i64 X.1, .int .i64 X.2]) ∧ Fr (fun _ => False) w w'
def KX (r c : Int) (l : List UInt8) : Int × Int := if chk r c l.length = 0 then (((redK (bsd l c.toNat 0 eyeC r.toNat) c.toNat).2 : Nat), 0) else (0, chk r c l.length)
theorem rank_u (w : World) (r c : Int) (va : Value) (l : List UInt8) (ha : Rd w va l) : Calls Try.prog 29 #[.agg #[.int .i64 r, .int .i64 c, va]] w fun e w' => KR w w' e (KX r c l) := by
  unfold KX KR
  by_cases h1 : chk r c l.length = 0
  · rw [if_pos h1]
    obtain ⟨a, b, rfl, rfl, ha1, hb1, hab⟩ := chk_pos h1
    exact rank_ok w a b va l ha hab ha1 hb1
  · rw [if_neg h1]
    exact rank_no w r c va l ha h1
theorem rrank_u (w : World) (r c : Int) (va : Value) (l : List UInt8) (ha : Rd w va l) : Calls Try.prog 30 #[.agg #[.int .i64 r, .int .i64 c, va]] w fun e w' => KR w w' e (KX r c l) := by
  unfold KX KR
  by_cases h1 : chk r c l.length = 0
  · rw [if_pos h1]
    obtain ⟨a, b, rfl, rfl, ha1, hb1, hab⟩ := chk_pos h1
    exact rrank_ok w a b va l ha hab ha1 hb1
  · rw [if_neg h1]
    exact rrank_no w r c va l ha h1

/-- What Solve tells, by the inverse. -/
theorem sl_flat {n : Nat} {l y : List UInt8} (hl : l.length = n * n) : ((redK (bsd l n 1 (fun r _ => y[r]?.getD 0) n) n).2 < n) ↔ (invR n l).2 < n := by
  have k1 := redK_col (bsd l n 1 (fun r _ => y[r]?.getD 0) n) n
  have k2 := redK_col (bsd l n n eyeC n) n
  have e2 : invR n l = redK (bsd l n n eyeC n) n := rfl
  rw [e2]
  constructor
  · intro h
    by_cases h2 : (redK (bsd l n n eyeC n) n).2 = n
    · have := full_of_reg (further := 1) (more := fun r _ => y[r]?.getD 0) hl (reg_of_full hl h2)
      omega
    · omega
  · intro h
    by_cases h2 : (redK (bsd l n 1 (fun r _ => y[r]?.getD 0) n) n).2 = n
    · have := full_of_reg (further := n) (more := eyeC) hl (reg_of_full hl h2)
      omega
    · omega
theorem mul_one_u (a : UInt8) : mul a 1 = a := by
  have h := @mul_one a
  exact h
theorem sl_full {n : Nat} {l y : List UInt8} (hl : l.length = n * n) (h : (redK (bsd l n 1 (fun r _ => y[r]?.getD 0) n) n).2 = n) : fl 1 (fun r _ => cel (redK (bsd l n 1 (fun r _ => y[r]?.getD 0) n) n).1 r n) n = prL n n 1 (invL n l) y := by
  have h2 : (invR n l).2 = n := full_of_reg hl (reg_of_full hl h)
  obtain ⟨x, hx⟩ : ∃ x : Nat → UInt8, x = fun r => mv (invL n l) n (fun i => y[i]?.getD 0) r := ⟨_, rfl⟩
  have e1 := (inv_iff hl h2 x (fun i => y[i]?.getD 0)).2 (fun r _ => by rw [hx])
  have e2 := (solve_iff (further := 1) (more := fun r _ => y[r]?.getD 0) hl h (jn n x (fun _ => 1))).1 (by
    intro r hr
    rw [show sg 1 (fun c => mul (y[r]?.getD 0) (jn n x (fun _ => 1) (n + c))) = y[r]?.getD 0 by
      rw [show sg 1 (fun c => mul (y[r]?.getD 0) (jn n x (fun _ => 1) (n + c))) = mul (y[r]?.getD 0) (jn n x (fun _ => 1) (n + 0)) from by simp [sg]]
      rw [jn_ge, mul_one_u]]
    rw [← e1 r hr]
    unfold mv
    exact sg_congr (fun c hc => by rw [jn_lt hc]))
  have key : ∀ r c, r < n → c < 1 → (fun r (_ : Nat) => cel (redK (bsd l n 1 (fun r _ => y[r]?.getD 0) n) n).1 r n) r c = (fun r c => sg n (fun i => mul (mc (invL n l) n r i) (mc y 1 i c))) r c := by
    intro r c hr hc
    obtain rfl : c = 0 := by omega
    have e3 := e2 r hr
    rw [jn_lt hr] at e3
    rw [show sg 1 (fun c => mul (cel (redK (bsd l n 1 (fun r _ => y[r]?.getD 0) n) n).1 r (n + c)) (jn n x (fun _ => 1) (n + c))) = mul (cel (redK (bsd l n 1 (fun r _ => y[r]?.getD 0) n) n).1 r (n + 0)) (jn n x (fun _ => 1) (n + 0)) from by simp [sg], jn_ge, mul_one_u, Nat.add_zero] at e3
    simp only
    rw [← e3, hx]
    simp only [mv]
    exact sg_congr (fun i hi => by unfold mc; simp)
  have e9 := fl_congr (rows := n) (by decide) key
  rw [Nat.mul_one] at e9
  unfold prL
  rw [Nat.mul_one]
  exact e9

def SX (r c : Int) (l y : List UInt8) : List UInt8 × Int :=
  if chk r c l.length = 0 then (if r = c ∧ (y.length : Int) = r then (if (invR r.toNat l).2 < r.toNat then ([], 22) else (prL r.toNat r.toNat 1 (invL r.toNat l) y, 0)) else ([], 23)) else ([], chk r c l.length)
theorem solve_u (w : World) (r c : Int) (va vb : Value) (l y : List UInt8) (ha : Rd w va l) (hy : Rd w vb y) : Calls Try.prog 31 #[.agg #[.int .i64 r, .int .i64 c, va], vb] w fun e w' => VR w w' e (SX r c l y).1 (SX r c l y).2 := by
  unfold SX
  by_cases h1 : chk r c l.length = 0
  · rw [if_pos h1]
    by_cases h2 : r = c ∧ (y.length : Int) = r
    · rw [if_pos h2]
      obtain ⟨a, b, rfl, rfl, ha1, hb1, hab⟩ := chk_pos h1
      obtain rfl : a = b := by omega
      have hyl : y.length = a := by omega
      simp only [Int.toNat_natCast]
      have h := solve_sq w a va vb l y ha hy hab hyl ha1
      unfold slL slE at h
      by_cases h3 : (invR a l).2 < a
      · rw [if_pos ((sl_flat hab).2 h3), if_pos ((sl_flat hab).2 h3)] at h
        rw [if_pos h3]
        exact h
      · have h4 : ¬ (redK (bsd l a 1 (fun r _ => y[r]?.getD 0) a) a).2 < a := fun h => h3 ((sl_flat hab).1 h)
        rw [if_neg h4, if_neg h4, sl_full hab (by have := redK_col (bsd l a 1 (fun r _ => y[r]?.getD 0) a) a; omega)] at h
        rw [if_neg h3]
        exact h
    · rw [if_neg h2]
      by_cases h3 : r = c
      · exact solve_no3 w r c va vb l y ha hy h1 h3 (fun h => h2 ⟨h3, h⟩)
      · exact solve_no2 w r c va vb l y ha hy h1 h3
  · rw [if_neg h1]
    exact solve_no1 w r c va vb l y ha hy h1
end Go.Proofs.Ytckmddkhkdcmmaa

namespace Go.Proofs.Ytckmddkhkdcmmaa
set_option linter.unusedVariables false
set_option linter.unusedSimpArgs false
open Go.RowKit Go.Lib
set_option linter.unusedVariables false
set_option linter.unusedSimpArgs false

attribute [local go_sem ↓] Go.wp_at_zero Go.wp_at_succ

set_option maxHeartbeats 2000000 in
set_option maxRecDepth 100000 in
theorem rsolve_no1 (w : World) (r c : Int) (va vy : Value) (l y : List UInt8) (ha : Rd w va l) (hy : Rd w vy y) (h1 : chk r c l.length ≠ 0) :
    Calls Try.prog 32 #[.agg #[.int .i64 r, .int .i64 c, va], vy] w fun e w' => VR w w' e [] (chk r c l.length) := by
  obtain ⟨ao, ac, rfl⟩ := ha.shape
  obtain ⟨yo, yc, rfl⟩ := hy.shape
  have H1 : Hid ((chk r c l.length != 0) = true) := hide (by simpa using h1)
  clear h1
  clear ha hy
  go_enter Try.func32, Try.ntmps32
  go_wp2_with fail
  refine (rchk_any _ _ _ _ _ _).mono ?_
  rintro e w1 ⟨rfl, f1⟩
  have T := heap_alloc_new w (Obj.cells #[.int .i64 r, .int .i64 c, .slice ao l.length ac] 24)
  have HTA := hide ((f1.block _ (lt_of_heap T) id).trans T)
  have F1 := hide (((Fr.refl (fun _ => False) w).alloc _).trans f1 (fun _ _ h => h))
  clear T f1
  have hne := unhide H1
  go_wp2_with fail
  refine bodyPost_ret (v := .tuple #[.slice none 0 0, .int .i64 (chk r c l.length)]) (by simp [results, Try.results32, go_sem]) rfl ⟨⟨_, rfl, Rd.nil _⟩, by first | exact unhide F1 | exact (unhide F1).drew⟩
set_option maxHeartbeats 2000000 in
set_option maxRecDepth 100000 in
theorem rsolve_no2 (w : World) (r c : Int) (va vy : Value) (l y : List UInt8) (ha : Rd w va l) (hy : Rd w vy y) (h1 : chk r c l.length = 0) (h2 : r ≠ c) :
    Calls Try.prog 32 #[.agg #[.int .i64 r, .int .i64 c, va], vy] w fun e w' => VR w w' e [] (23) := by
  obtain ⟨ao, ac, rfl⟩ := ha.shape
  obtain ⟨yo, yc, rfl⟩ := hy.shape
  have H1 := hide h1
  have H2 : Hid ((r != c) = true) := hide (by simpa using h2)
  clear h1 h2
  clear ha hy
  go_enter Try.func32, Try.ntmps32
  go_wp2_with fail
  refine (rchk_any _ _ _ _ _ _).mono ?_
  rintro e w1 ⟨rfl, f1⟩
  have T := heap_alloc_new w (Obj.cells #[.int .i64 r, .int .i64 c, .slice ao l.length ac] 24)
  have HTA := hide ((f1.block _ (lt_of_heap T) id).trans T)
  have F1 := hide (((Fr.refl (fun _ => False) w).alloc _).trans f1 (fun _ _ h => h))
  clear T f1
  rw [unhide H1]
  have a0 := cell_of_heap (unhide HTA) 0
  have a1 := cell_of_heap (unhide HTA) 1
  simp at a0 a1
  have hne := unhide H2
  go_wp2_with fail
  refine bodyPost_ret (v := .tuple #[.slice none 0 0, .int .i64 (23)]) (by simp [results, Try.results32, go_sem]) rfl ⟨⟨_, rfl, Rd.nil _⟩, by first | exact unhide F1 | exact (unhide F1).drew⟩
set_option maxHeartbeats 2000000 in
set_option maxRecDepth 100000 in
theorem rsolve_no3 (w : World) (r c : Int) (va vy : Value) (l y : List UInt8) (ha : Rd w va l) (hy : Rd w vy y) (h1 : chk r c l.length = 0) (h2 : r = c) (h3 : (y.length : Int) ≠ r) :
    Calls Try.prog 32 #[.agg #[.int .i64 r, .int .i64 c, va], vy] w fun e w' => VR w w' e [] (23) := by
  obtain ⟨ao, ac, rfl⟩ := ha.shape
  obtain ⟨yo, yc, rfl⟩ := hy.shape
  have H1 := hide h1
  subst h2
  have H2 : Hid ((((y.length : Nat) : Int) != r) = true) := hide (by simpa using h3)
  clear h1 h3
  obtain ⟨ny, hny⟩ : ∃ ny : Nat, ny = y.length := ⟨_, rfl⟩
  rw [← hny] at H2 ⊢
  clear hny
  clear ha hy
  go_enter Try.func32, Try.ntmps32
  go_wp2_with fail
  refine (rchk_any _ _ _ _ _ _).mono ?_
  rintro e w1 ⟨rfl, f1⟩
  have T := heap_alloc_new w (Obj.cells #[.int .i64 r, .int .i64 r, .slice ao l.length ac] 24)
  have HTA := hide ((f1.block _ (lt_of_heap T) id).trans T)
  have F1 := hide (((Fr.refl (fun _ => False) w).alloc _).trans f1 (fun _ _ h => h))
  clear T f1
  rw [unhide H1]
  have a0 := cell_of_heap (unhide HTA) 0
  have a1 := cell_of_heap (unhide HTA) 1
  simp at a0 a1
  have hne := unhide H2
  go_wp2_with fail
  refine bodyPost_ret (v := .tuple #[.slice none 0 0, .int .i64 (23)]) (by simp [results, Try.results32, go_sem]) rfl ⟨⟨_, rfl, Rd.nil _⟩, by first | exact unhide F1 | exact (unhide F1).drew⟩
set_option maxHeartbeats 2000000 in
set_option maxRecDepth 100000 in
theorem rsolve_sq (w : World) (n : Nat) (va vy : Value) (l y : List UInt8) (ha : Rd w va l) (hy : Rd w vy y) (hl : l.length = n * n) (hyl : y.length = n) (h1 : 1 ≤ n ∧ n ≤ 64) (XL : List UInt8) (XE : Int)
    (hflat : (invR n l).2 < n → XL = [] ∧ XE = 22) (hfull : ¬ (invR n l).2 < n → XL = prL n n 1 (invL n l) y ∧ XE = 0) :
    Calls Try.prog 32 #[.agg #[.int .i64 (n : Int), .int .i64 (n : Int), va], vy] w fun e w' => VR w w' e XL XE := by
  have hck := chk_ok h1 h1 hl
  have hIX : IX (n : Int) (n : Int) l = if (invR n l).2 < n then (0, 0, [], 22) else ((n : Int), (n : Int), invL n l, 0) := by
    unfold IX
    rw [if_pos hck, if_pos rfl, Int.toNat_natCast]
  have HSH := hide ha.shape
  have HYS := hide hy.shape
  have HA := hide ha
  have HY := hide hy
  have HL := hide hl
  have HYL := hide hyl
  have HCK := hide hck
  have HFL := hide hflat
  have HFU := hide hfull
  have HIX := hide hIX
  clear ha hy hl hyl hck hflat hfull hIX
  obtain ⟨ao, ac, hva⟩ := unhide HSH
  obtain ⟨yo, yc, hvy⟩ := unhide HYS
  rw [unhide HYL] at hvy
  subst hvy
  have HVA := hide hva
  clear hva HSH HYS
  go_enter Try.func32, Try.ntmps32
  go_wp2_with fail
  rw [unhide HVA]
  refine (rchk_any _ _ _ _ _ _).mono ?_
  rintro e w1 ⟨rfl, f1⟩
  rw [unhide HCK, ← unhide HVA]
  rw [← unhide HVA] at f1
  have hA : Hd w1 w.heap.size n n va := (f1.block _ (lt_of_heap (heap_alloc_new w _)) id).trans (heap_alloc_new w _)
  have F1 := hide (((Fr.refl (fun _ => False) w).alloc _).trans f1 (fun _ _ h => h))
  obtain ⟨a0, a1, a2, -⟩ := hA.facts w1 (Fr.refl _ _)
  have HC := hide (rinverse_u w1 n n va l ((unhide HA).kept (unhide F1) (fun _ _ h => h)))
  rw [unhide HIX] at HC
  unfold MX at HC
  clear f1 hA
  by_cases hs : (invR n l).2 < n
  · simp only [if_pos hs] at HC
    have HE := hide (unhide HFL hs)
    clear hs HIX HFL HFU
    go_wp2_with fail
    refine (unhide HC).mono ?_
    rintro e w2 ⟨⟨v2, rfl, hR2⟩, f2⟩
    have F2 := hide ((unhide F1).trans f2 (fun _ _ h => h))
    obtain ⟨o2, c2, rfl⟩ := hR2.shape
    clear f2 F1 HC hR2
    go_wp2_with fail
    refine bodyPost_ret (v := .tuple #[.slice none 0 0, .int .i64 22]) (by simp [results, Try.results32, go_sem]) rfl ?_
    rw [(unhide HE).1, (unhide HE).2]
    exact ⟨⟨_, rfl, Rd.nil _⟩, by first | exact unhide F2 | exact (unhide F2).alloc _⟩
  · simp only [if_neg hs] at HC
    have HE := hide (unhide HFU hs)
    clear hs HIX HFL HFU
    go_wp2_with fail
    refine (unhide HC).mono ?_
    rintro e w2 ⟨⟨v2, rfl, hR2⟩, f2⟩
    have F2 := hide ((unhide F1).trans f2 (fun _ _ h => h))
    obtain ⟨o2, c2, rfl⟩ := hR2.shape
    obtain ⟨n2, hn2⟩ : ∃ n2, n2 = (invL n l).length := ⟨_, rfl⟩
    rw [← hn2] at hR2 ⊢
    clear hn2
    have fA : Fr (fun _ => False) w2 (w2.alloc (Obj.cells #[.int .i64 (n : Int), .int .i64 (n : Int), (.slice o2 n2 c2)] 24)) := (Fr.refl (fun _ => False) w2).alloc _
    have HP := hide (rproduct_ok (w2.alloc (Obj.cells #[.int .i64 (n : Int), .int .i64 (n : Int), (.slice o2 n2 c2)] 24)) n n 1 (.slice o2 n2 c2) (.slice yo n yc) (invL n l) y (hR2.kept fA (fun _ _ h => h)) (((unhide HY).kept (unhide F2) (fun _ _ h => h)).kept fA (fun _ _ h => h)) (invL_length _ _) (by rw [unhide HYL]; omega) h1 h1 (by omega))
    have e1 : ((1 : Nat) : Int) = 1 := rfl
    rw [e1] at HP
    have F3 := hide ((unhide F2).trans fA (fun _ _ h => h))
    clear e1
    clear f2 F1 HC hR2 fA F2
    go_wp2_with fail
    refine (unhide HP).mono ?_
    rintro e w3 ⟨⟨v3, rfl, hR3⟩, f3⟩
    have F4 := hide ((unhide F3).trans f3 (fun _ _ h => h))
    obtain ⟨o3, c3, rfl⟩ := hR3.shape
    obtain ⟨n3, hn3⟩ : ∃ n3, n3 = (prL n n 1 (invL n l) y).length := ⟨_, rfl⟩
    rw [← hn3] at hR3 ⊢
    clear hn3
    have HR3 := hide hR3
    clear f3 F3 HP hR3
    go_wp2_with fail
    refine bodyPost_ret (v := .tuple #[(.slice o3 n3 c3), .int .i64 0]) (by simp [results, Try.results32, go_sem]) rfl ?_
    rw [(unhide HE).1, (unhide HE).2]
    have fB := (Fr.refl (fun _ => False) w3).alloc (Obj.cells #[.int .i64 (n : Int), .int .i64 (1 : Int), (.slice o3 n3 c3)] 24)
    exact ⟨⟨_, rfl, by first | exact unhide HR3 | exact (unhide HR3).kept fB (fun _ _ h => h)⟩, by first | exact unhide F4 | exact (unhide F4).alloc _⟩
theorem rsolve_u (w : World) (r c : Int) (va vb : Value) (l y : List UInt8) (ha : Rd w va l) (hy : Rd w vb y) : Calls Try.prog 32 #[.agg #[.int .i64 r, .int .i64 c, va], vb] w fun e w' => VR w w' e (SX r c l y).1 (SX r c l y).2 := by
  unfold SX
  by_cases h1 : chk r c l.length = 0
  · rw [if_pos h1]
    by_cases h2 : r = c ∧ (y.length : Int) = r
    · rw [if_pos h2]
      obtain ⟨a, b, rfl, rfl, ha1, hb1, hab⟩ := chk_pos h1
      obtain rfl : a = b := by omega
      have hyl : y.length = a := by omega
      simp only [Int.toNat_natCast]
      exact rsolve_sq w a va vb l y ha hy hab hyl ha1 _ _ (fun h => by rw [if_pos h]; exact ⟨rfl, rfl⟩) (fun h => by rw [if_neg h]; exact ⟨rfl, rfl⟩)
    · rw [if_neg h2]
      by_cases h3 : r = c
      · exact rsolve_no3 w r c va vb l y ha hy h1 h3 (fun h => h2 ⟨h3, h⟩)
      · exact rsolve_no2 w r c va vb l y ha hy h1 h3
  · rw [if_neg h1]
    exact rsolve_no1 w r c va vb l y ha hy h1
end Go.Proofs.Ytckmddkhkdcmmaa

namespace Go.Proofs.Ytckmddkhkdcmmaa
set_option linter.unusedVariables false
set_option linter.unusedSimpArgs false
open Go.RowKit Go.Lib
set_option linter.unusedVariables false
set_option linter.unusedSimpArgs false

attribute [local go_sem ↓] Go.wp_at_zero Go.wp_at_succ

set_option maxHeartbeats 2000000 in
set_option maxRecDepth 100000 in
theorem own_any (w : World) (r c : Int) (v : Value) (l : List UInt8) (hv : Rd w v l) (hn : l.length ≤ 100000) :
    Calls Try.prog 16 #[.agg #[.int .i64 r, .int .i64 c, v]] w fun e w' => (∃ v', e = .returned (.agg #[.int .i64 r, .int .i64 c, v']) ∧ Rd w' v' l) ∧ Fr (fun _ => False) w w' := by
  have HV := hide hv
  obtain ⟨ao, cap, rfl⟩ := hv.shape
  obtain ⟨n, hnn⟩ : ∃ n, n = l.length := ⟨_, rfl⟩
  rw [← hnn] at hn HV ⊢
  have HNN := hide hnn
  clear hv hnn
  obtain ⟨inf5, hi5, hy0, hy1, hy2⟩ := info_parts Try.info5
  obtain ⟨A, hA⟩ : ∃ A, A = Obj.cells #[.int .i64 r, .int .i64 c, .slice ao n cap] 24 := ⟨_, rfl⟩
  obtain ⟨B, hB⟩ : ∃ B, B = Obj.cells #[.int .i64 0, .int .i64 0, .slice none 0 0] 24 := ⟨_, rfl⟩
  have HT1 := hide (show (((w.alloc A).alloc B).alloc (Obj.cells #[] 5)).heap[w.heap.size]? = some A by
    rw [Below.heap_alloc _ _ _ (by simp; omega), Below.heap_alloc _ _ _ (by simp)]; exact heap_alloc_new w _)
  have HT2 := hide (show (((w.alloc A).alloc B).alloc (Obj.cells #[] 5)).heap[w.heap.size + 1]? = some B by
    rw [Below.heap_alloc _ _ _ (by simp)]
    have := heap_alloc_new (w.alloc A) B
    simpa using this)
  have HT3 := hide (show (((w.alloc A).alloc B).alloc (Obj.cells #[] 5)).heap[w.heap.size + 1 + 1]? = some (.cells #[] 5 (0, 0)) by
    have := heap_alloc_new ((w.alloc A).alloc B) (Obj.cells #[] 5)
    simpa using this)
  have fW : Fr (fun _ => False) w (((w.alloc A).alloc B).alloc (Obj.cells #[] 5)) := (((Fr.refl (fun _ => False) w).alloc _).alloc _).alloc _
  have HSr := hide (show Sr (((w.alloc A).alloc B).alloc (Obj.cells #[] 5)) 1 (.slice ao n cap) n (bvs l) from by
    have := ((unhide HV).kept fW (fun _ _ h => h)).sr
    rwa [← unhide HNN] at this)
  have HFW := hide fW
  clear fW
  subst hA
  subst hB
  go_enter Try.func16, Try.ntmps16
  go_wp2_with (at_builtin; (refine wpList_app rfl (.tmp 3) (.tmp 5) 22 rfl 5 inf5 _ 1 1 Try.underlying22 hi5 hy0 hy1 hy2 rfl (by decide) (.slice (some ⟨w.heap.size + 1 + 1, 0, none⟩) 0 0) 0 [] rfl (.slice ao n cap) rfl n (bvs l) (owns_new (unhide HT3)) (unhide HSr) (bvs_one _) (by omega) (by simp only [maxLen]; omega) ?_))
  intro ao1 ac1 w3 o1 g1 p1
  try simp only [Nat.zero_add, List.nil_append] at o1 p1 ⊢
  have f1 := grown_fr (unhide HFW) g1 (fun k hk => by simp [Value.ownBlock] at hk; omega)
  have n1 : ∀ k, (Value.slice ao1 n ac1).ownBlock = some k → w.heap.size + 2 ≤ k := (by intro k hk; rcases p1 with e | ⟨k', e, hk'⟩; (· rw [e] at hk; simp [Value.ownBlock] at hk; omega); (· rw [e] at hk; simp at hk hk'; omega))
  have rS : Rd w3 (.slice ao1 n ac1) l := Rd.of_owns (base := 0) (by rw [← unhide HNN]; exact o1)
  have t1 := (g1.block _ (by simp <;> omega) (by simp [Value.ownBlock] <;> omega)).trans (unhide HT1)
  have t2 := (g1.block _ (by simp <;> omega) (by simp [Value.ownBlock] <;> omega)).trans (unhide HT2)
  have b0 := cell_of_heap t1 0
  have b1 := cell_of_heap t1 1
  have b2 := cell_of_heap t1 2
  have bz := frozen_of_heap t1
  have c0 := cell_of_heap t2 0
  have c1 := cell_of_heap t2 1
  have c2 := cell_of_heap t2 2
  have cz := frozen_of_heap t2
  simp at b0 b1 b2 c0 c1 c2
  have hlt1 := lt_of_heap t1
  have hlt2 := lt_of_heap t2
  have HRS := hide rS
  have HN1 := hide n1
  have HFF := hide f1
  clear o1 g1 p1 f1 n1 rS t1 t2 HSr
  go_wp2_with fail
  have f3 : Fr (fun k => k = w.heap.size ∨ k = w.heap.size + 1) w3 _ := ((((Fr.refl (fun k => k = w.heap.size ∨ k = w.heap.size + 1) w3).setCell (p := ⟨w.heap.size, 2, none⟩) (fun _ => .inl rfl) (.slice ao1 n ac1)).setCell (p := ⟨w.heap.size + 1, 0, none⟩) (fun _ => .inr rfl) (.int .i64 r)).setCell (p := ⟨w.heap.size + 1, 1, none⟩) (fun _ => .inr rfl) (.int .i64 c)).setCell (p := ⟨w.heap.size + 1, 2, none⟩) (fun _ => .inr rfl) (.slice ao1 n ac1)
  refine bodyPost_ret (v := .agg #[.int .i64 r, .int .i64 c, .slice ao1 n ac1]) (by simp [results, Try.results16, go_sem, c0, c1, c2]) rfl ⟨⟨_, rfl, (unhide HRS).kept f3 (fun b hb h => by have := unhide HN1 b hb; omega)⟩, (unhide HFF).trans f3 (fun i hi h => by omega)⟩

/-- Of such nothing is asked. -/
def wdB (r c : Int) (n : Nat) : Bool := decide (4000 < n) || (decide (chk r c n = 0) && (decide (12 < r) || decide (12 < c)))
set_option maxHeartbeats 2000000 in
set_option maxRecDepth 100000 in
theorem wide_any (w : World) (r c : Int) (ao : Option Addr) (n cap : Nat) : Calls Try.prog 14 #[.agg #[.int .i64 r, .int .i64 c, .slice ao n cap]] w fun e w' => e = .returned (.bool (wdB r c n)) ∧ Fr (fun _ => False) w w' := by
  obtain ⟨bb, hbb⟩ : ∃ bb, bb = wdB r c n := ⟨_, rfl⟩
  rw [← hbb]
  have HB := hide hbb
  clear hbb
  by_cases h1 : 4000 < n
  · have h1' : (4000 : Int) < ((n : Nat) : Int) := by omega
    have e : bb = true := by rw [unhide HB]; unfold wdB; simp [h1]
    subst e
    go_enter Try.func14, Try.ntmps14
    go_wp2_with fail
    go_ret
    exact ⟨rfl, (Fr.refl (fun _ => False) w).alloc _⟩
  · have h1' : ¬ (4000 : Int) < ((n : Nat) : Int) := by omega
    have HC := hide (fun W => rchk_any W r c ao n cap)
    have T := heap_alloc_new w (Obj.cells #[.int .i64 r, .int .i64 c, .slice ao n cap] 24)
    have HTT := hide (show ∀ W, Fr (fun _ => False) (w.alloc (Obj.cells #[.int .i64 r, .int .i64 c, .slice ao n cap] 24)) W → W.cell? ⟨w.heap.size, 0, none⟩ = some (.int .i64 r) ∧ W.cell? ⟨w.heap.size, 1, none⟩ = some (.int .i64 c) ∧ Fr (fun _ => False) w W from fun W f => by
      have h := (f.block _ (lt_of_heap T) id).trans T
      have a0 := cell_of_heap h 0
      have a1 := cell_of_heap h 1
      simp at a0 a1
      exact ⟨a0, a1, ((Fr.refl (fun _ => False) w).alloc _).trans f (fun _ _ h => h)⟩)
    clear T
    by_cases h2 : chk r c n = 0
    · have HC2 := hide h2
      have hd : decide (chk r c n = 0) = true := by simp [h2]
      by_cases h3 : 12 < r
      · have e : bb = true := by rw [unhide HB]; unfold wdB; simp [h2, h3]
        subst e
        clear hd h2
        go_enter Try.func14, Try.ntmps14
        go_wp2_with (go_at_call 24; refine (unhide HC _).mono ?_; rintro e w' ⟨rfl, f⟩; rw [unhide HC2]; obtain ⟨q0, q1, q2⟩ := unhide HTT _ f; have HQ2 := hide q2; clear q2 f)
        go_ret
        exact ⟨rfl, unhide HQ2⟩
      · by_cases h4 : 12 < c
        · have e : bb = true := by rw [unhide HB]; unfold wdB; simp [h2, h4]
          subst e
          clear hd h2
          go_enter Try.func14, Try.ntmps14
          go_wp2_with (go_at_call 24; refine (unhide HC _).mono ?_; rintro e w' ⟨rfl, f⟩; rw [unhide HC2]; obtain ⟨q0, q1, q2⟩ := unhide HTT _ f; have HQ2 := hide q2; clear q2 f)
          go_ret
          exact ⟨rfl, unhide HQ2⟩
        · have e : bb = false := by rw [unhide HB]; unfold wdB; simp [h1, h3, h4]
          subst e
          clear hd h2
          go_enter Try.func14, Try.ntmps14
          go_wp2_with (go_at_call 24; refine (unhide HC _).mono ?_; rintro e w' ⟨rfl, f⟩; rw [unhide HC2]; obtain ⟨q0, q1, q2⟩ := unhide HTT _ f; have HQ2 := hide q2; clear q2 f)
          go_ret
          exact ⟨by simp [h3, h4], unhide HQ2⟩
    · have e : bb = false := by rw [unhide HB]; unfold wdB; simp [h1, h2]
      subst e
      have hb2 : (chk r c n == 0) = false := by simpa using h2
      clear h2
      go_enter Try.func14, Try.ntmps14
      go_wp2_with (go_at_call 24; refine (unhide HC _).mono ?_; rintro e w' ⟨rfl, f⟩; obtain ⟨q0, q1, q2⟩ := unhide HTT _ f; have HQ2 := hide q2; clear q2 f)
      go_ret
      exact ⟨rfl, unhide HQ2⟩
set_option maxHeartbeats 2000000 in
set_option maxRecDepth 100000 in
theorem same4_any (w : World) (r c : Int) (E : Int) (v1 v2 : Value) (l : List UInt8) (h1 : Rd w v1 l) (h2 : Rd w v2 l) :
    Calls Try.prog 21 #[.agg #[.int .i64 r, .int .i64 c, v1], .int .i64 E, .agg #[.int .i64 r, .int .i64 c, v2], .int .i64 E] w fun e w' => e = .returned (.bool true) ∧ Fr (fun _ => False) w w' := by
  have f := ((Fr.refl (fun _ => False) w).alloc (Obj.cells #[.int .i64 r, .int .i64 c, v1] 24)).alloc (Obj.cells #[.int .i64 r, .int .i64 c, v2] 24)
  have HS := hide (same_any _ r c r c v1 v2 l l (h1.kept f (fun _ _ h => h)) (h2.kept f (fun _ _ h => h)))
  have HF := hide f
  have ho : decide (r = r ∧ c = c ∧ l = l) = true := by simp
  rw [ho] at HS
  obtain ⟨a1, c1, rfl⟩ := h1.shape
  obtain ⟨a2, c2, rfl⟩ := h2.shape
  clear h1 h2 f ho
  go_enter Try.func21, Try.ntmps21
  go_wp2_with fail
  refine (unhide HS).mono ?_
  rintro e w' ⟨rfl, f⟩
  have HQ := hide ((unhide HF).trans f (fun _ _ h => h))
  clear f
  go_wp2_with (go_at_call 22; refine (num_any _ _).mono ?_; rintro e w'' ⟨rfl, rfl⟩)
  go_ret
  exact ⟨rfl, unhide HQ⟩
end Go.Proofs.Ytckmddkhkdcmmaa

namespace Go.Proofs.Ytckmddkhkdcmmaa
set_option linter.unusedVariables false
set_option linter.unusedSimpArgs false
open Go.RowKit
set_option linter.unusedVariables false

attribute [local go_sem ↓] Go.wp_at_zero Go.wp_at_succ

theorem live_1 : dv 1 2 = (142, 0) := by decide +kernel
theorem live_2 : dv 1 0 = (0, 20) := by decide +kernel
theorem live_3 : (invR 2 [1, 0, 1, 1]).2 = 2 := by decide +kernel
theorem live_4 : invL 2 [1, 0, 1, 1] = [1, 0, 1, 1] := by decide +kernel
theorem live_5 : (invR 2 [1, 1, 1, 1]).2 = 1 := by decide +kernel
theorem live_6 : mul 2 128 = 29 := by decide +kernel
theorem live_7 : mul 3 7 = 9 := by decide +kernel
theorem live_8 : pw 2 (-1) = 142 := by decide +kernel

theorem rd_four (w : World) (a b c d : UInt8) : Rd (w.alloc (Obj.cells #[Value.int IntKind.u8 ((a.toNat : Nat) : Int), Value.int IntKind.u8 ((b.toNat : Nat) : Int), Value.int IntKind.u8 ((c.toNat : Nat) : Int), Value.int IntKind.u8 ((d.toNat : Nat) : Int)] 5)) (.slice (some ⟨w.heap.size, 0, none⟩) 4 4) [a, b, c, d] := by
  refine Rd.lit rfl (by decide) (by simp [maxLen]) fun j hj => ?_
  rw [Nat.zero_add, cell_of_heap (heap_alloc_new w _)]
  rcases j with _ | _ | _ | _ | j
  · rfl
  · rfl
  · rfl
  · rfl
  · simp at hj; omega

set_option maxRecDepth 100000 in
theorem inv_ok2 (w : World) (v : Value) (h : Rd w v [1, 0, 1, 1]) : Calls Try.prog 19 #[.agg #[.int .i64 2, .int .i64 2, v]] w fun e w' => (∃ ao cap, e = .returned (.tuple #[.agg #[.int .i64 2, .int .i64 2, .slice ao 4 cap], .int .i64 0]) ∧ Rd w' (.slice ao 4 cap) [1, 0, 1, 1]) ∧ Fr (fun _ => False) w w' := by
  refine (inverse_sq w 2 v [1, 0, 1, 1] h rfl (by omega)).mono ?_
  rintro e w' ⟨⟨val, rfl, M, -⟩, f⟩
  have hn : ¬ (invR 2 [1, 0, 1, 1]).2 < 2 := by rw [live_3]; omega
  rw [if_neg hn, live_4] at M
  rw [if_neg hn]
  obtain ⟨v', rfl, R⟩ := M
  obtain ⟨ao, cap, rfl⟩ := R.shape
  exact ⟨⟨ao, cap, rfl, R⟩, f⟩

set_option maxRecDepth 100000 in
theorem inv_flat2 (w : World) (v : Value) (h : Rd w v [1, 1, 1, 1]) : Calls Try.prog 19 #[.agg #[.int .i64 2, .int .i64 2, v]] w fun e w' => (∃ ao cap, e = .returned (.tuple #[.agg #[.int .i64 0, .int .i64 0, .slice ao 0 cap], .int .i64 22])) ∧ Fr (fun _ => False) w w' := by
  refine (inverse_sq w 2 v [1, 1, 1, 1] h rfl (by omega)).mono ?_
  rintro e w' ⟨⟨val, rfl, M, -⟩, f⟩
  have hn : (invR 2 [1, 1, 1, 1]).2 < 2 := by rw [live_5]; omega
  rw [if_pos hn] at M
  rw [if_pos hn]
  obtain ⟨v', rfl, R⟩ := M
  obtain ⟨ao, cap, rfl⟩ := R.shape
  exact ⟨⟨ao, cap, rfl⟩, f⟩

set_option maxRecDepth 100000 in
theorem make_2 (w : World) (v : Value) (h : Rd w v [1, 0, 1, 1]) : Calls Try.prog 33 #[.int .i64 2, .int .i64 2, v] w fun e w' => (∃ ao cap, e = .returned (.tuple #[.agg #[.int .i64 2, .int .i64 2, .slice ao 4 cap], .int .i64 0]) ∧ Rd w' (.slice ao 4 cap) [1, 0, 1, 1]) ∧ Fr (fun _ => False) w w' := by
  refine (make_ok w 2 2 v [1, 0, 1, 1] h rfl (by omega) (by omega)).mono ?_
  rintro e w' ⟨⟨val, rfl, M, -⟩, f⟩
  obtain ⟨v', rfl, R⟩ := M
  obtain ⟨ao, cap, rfl⟩ := R.shape
  exact ⟨⟨ao, cap, rfl, R⟩, f⟩

set_option maxHeartbeats 2000000 in
set_option maxRecDepth 100000 in
theorem live_any (w : World) : Calls Try.prog 15 #[] w fun e w' => e = .returned (.bool true) ∧ Fr (fun _ => False) w w' := by
  go_enter Try.func15, Try.ntmps15
  go_wp2_with fail
  have HI := hide (inv_any w 2)
  rw [live_1] at HI
  refine (unhide HI).mono ?_
  rintro e w1 ⟨rfl, f1⟩
  have F1 := hide f1
  clear f1 HI
  go_wp2_with fail
  have HI := hide (inv_any w1 0)
  rw [live_2] at HI
  refine (unhide HI).mono ?_
  rintro e w2 ⟨rfl, f2⟩
  have F2 := hide ((unhide F1).trans f2 (fun _ _ h => h))
  clear f2 HI F1
  go_wp2_with fail
  refine (make_2 _ _ (rd_four w2 1 0 1 1)).mono ?_
  rintro e w3 ⟨⟨ao3, cap3, rfl, R3⟩, f3⟩
  have F3 := hide (((unhide F2).alloc _).trans f3 (fun _ _ h => h))
  have HR3 := hide R3
  clear f3 F2 R3
  go_wp2_with fail
  have q3 : Fr (fun _ => False) w3 (w3.alloc (Obj.cells #[Value.int IntKind.i64 2, Value.int IntKind.i64 2, Value.slice ao3 4 cap3] 24)) := (Fr.refl _ _).alloc _
  have hp3 := heap_alloc_new w3 (Obj.cells #[Value.int IntKind.i64 2, Value.int IntKind.i64 2, Value.slice ao3 4 cap3] 24)
  refine (inv_ok2 _ _ ((unhide HR3).kept q3 (fun _ _ h => h))).mono ?_
  rintro e w4 ⟨⟨ao4, cap4, rfl, R4⟩, f4⟩
  have hp4 := (f4.block _ (lt_of_heap hp3) id).trans hp3
  have Q4 := hide (q3.trans f4 (fun _ _ h => h))
  have F4 := hide ((unhide F3).trans (unhide Q4) (fun _ _ h => h))
  have HR4 := hide R4
  have HP4 := hide hp4
  clear q3 f4 R4 hp3 hp4 F3
  go_wp2_with fail
  have q5 : Fr (fun _ => False) w4 ((w4.alloc (Obj.cells #[Value.int IntKind.i64 2, Value.int IntKind.i64 2, Value.slice ao4 4 cap4] 24)).alloc (Obj.cells #[Value.int IntKind.u8 1, Value.int IntKind.u8 1, Value.int IntKind.u8 1, Value.int IntKind.u8 1] 5)) := ((Fr.refl _ _).alloc _).alloc _
  have hp5 : ((w4.alloc (Obj.cells #[Value.int IntKind.i64 2, Value.int IntKind.i64 2, Value.slice ao4 4 cap4] 24)).alloc (Obj.cells #[Value.int IntKind.u8 1, Value.int IntKind.u8 1, Value.int IntKind.u8 1, Value.int IntKind.u8 1] 5)).heap[w4.heap.size]? = some (.cells #[Value.int IntKind.i64 2, Value.int IntKind.i64 2, Value.slice ao4 4 cap4] 24 (0, 0)) := by
    rw [Below.heap_alloc _ _ _ (by simp)]; exact heap_alloc_new w4 _
  have r5 := rd_four (w4.alloc (Obj.cells #[Value.int IntKind.i64 2, Value.int IntKind.i64 2, Value.slice ao4 4 cap4] 24)) 1 1 1 1
  have hsz4 : (w4.alloc (Obj.cells #[Value.int IntKind.i64 2, Value.int IntKind.i64 2, Value.slice ao4 4 cap4] 24)).heap.size = w4.heap.size + 1 := by simp
  rw [hsz4] at r5
  refine (inv_flat2 _ _ r5).mono ?_
  rintro e w5 ⟨⟨ao5, cap5, rfl⟩, f5⟩
  have Q5 := q5.trans f5 (fun _ _ h => h)
  have hp6 := (f5.block _ (lt_of_heap hp5) id).trans hp5
  have hp7 := (Q5.block _ (lt_of_heap (unhide HP4)) id).trans (unhide HP4)
  have R6 := hide (((unhide HR3).kept (unhide Q4) (fun _ _ h => h)).kept Q5 (fun _ _ h => h))
  have R7 := hide ((unhide HR4).kept Q5 (fun _ _ h => h))
  have F5 := hide ((unhide F4).trans Q5 (fun _ _ h => h))
  have HP6 := hide hp6
  have HP7 := hide hp7
  clear q5 f5 Q5 hp5 hp6 hp7 r5 hsz4 F4 HP4 HR3 HR4 Q4
  go_wp2_with fail
  have fA : Fr (fun _ => False) w5 (w5.alloc (Obj.cells #[Value.int IntKind.i64 0, Value.int IntKind.i64 0, Value.slice ao5 0 cap5] 24)) := (Fr.refl _ _).alloc _
  have F6 := hide ((unhide F5).trans fA (fun _ _ h => h))
  have p6 := (fA.block _ (lt_of_heap (unhide HP6)) id).trans (unhide HP6)
  have p7 := (fA.block _ (lt_of_heap (unhide HP7)) id).trans (unhide HP7)
  have R8 := hide ((unhide R6).kept fA (fun _ _ h => h))
  have R9 := hide ((unhide R7).kept fA (fun _ _ h => h))
  have x0 := cell_of_heap p6 0
  have x1 := cell_of_heap p6 1
  have x2 := cell_of_heap p6 2
  have y0 := cell_of_heap p7 0
  have y1 := cell_of_heap p7 1
  have y2 := cell_of_heap p7 2
  simp only [List.getElem?_toArray, List.getElem?_cons_zero, List.getElem?_cons_succ] at x0 x1 x2 y0 y1 y2
  clear p6 p7 HP6 HP7 R6 R7 fA F5
  generalize w5.alloc (Obj.cells #[Value.int IntKind.i64 0, Value.int IntKind.i64 0, Value.slice ao5 0 cap5] 24) = w6 at *
  refine (mul_any w6 2 128).mono ?_
  rintro e w7 ⟨rfl, rfl⟩
  rw [live_6]
  go_wp2_with fail
  refine (mul_any w6 3 7).mono ?_
  rintro e w7 ⟨rfl, rfl⟩
  rw [live_7]
  have HSm := hide (same_any w6 2 2 2 2 (.slice ao3 4 cap3) (.slice ao4 4 cap4) [1, 0, 1, 1] [1, 0, 1, 1] (unhide R8) (unhide R9))
  have hdec : decide ((2 : Int) = 2 ∧ (2 : Int) = 2 ∧ ([1, 0, 1, 1] : List UInt8) = [1, 0, 1, 1]) = true := by decide
  rw [hdec] at HSm
  clear hdec
  go_wp2_with (first | (go_at_call 22; refine (num_any _ _).mono ?_; rintro e w' ⟨rfl, rfl⟩) | (go_at_call 34; refine (unhide HSm).mono ?_; rintro e w8 ⟨rfl, f8⟩))
  have HPw := hide (pow_any w8 2 (-1) (by omega))
  rw [live_8] at HPw
  refine (unhide HPw).mono ?_
  rintro e w9 ⟨rfl, f9⟩
  have F9 := hide (((unhide F6).trans f8 (fun _ _ h => h)).trans f9 (fun _ _ h => h))
  clear f8 f9 x0 x1 x2 y0 y1 y2
  go_wp2_with fail
  go_ret
  exact ⟨rfl, unhide F9⟩

end Go.Proofs.Ytckmddkhkdcmmaa
