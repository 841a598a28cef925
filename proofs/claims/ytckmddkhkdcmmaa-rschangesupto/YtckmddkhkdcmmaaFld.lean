/-
  The field of 256 elements, plainly: products by doubling, powers of 2, logarithms.
-/
namespace Go.Proofs.Ytckmddkhkdcmmaa
set_option linter.unusedVariables false

/-- Twice an element. -/
def xt (a : UInt8) : UInt8 := if a &&& 128 = 0 then a <<< 1 else (a <<< 1) ^^^ 29

/-- The product of a and the first n bits of b. -/
def gm : Nat → UInt8 → UInt8 → UInt8
  | 0, _, _ => 0
  | n + 1, a, b => (if b &&& 1 = 1 then a else 0) ^^^ gm n (xt a) (b >>> 1)

def mul (a b : UInt8) : UInt8 := gm 8 a b

def xtn : Nat → UInt8 → UInt8
  | 0, a => a
  | n + 1, a => xt (xtn n a)

/-- The powers of 2. -/
def E (n : Nat) : UInt8 := xtn n 1

def Lgo : Nat → UInt8 → Nat → UInt8 → Nat
  | 0, _, k, _ => k
  | f + 1, x, k, b => if x = b then k else Lgo f (xt x) (k + 1) b

/-- The logarithm. -/
def L (b : UInt8) : Nat := Lgo 255 1 0 b

theorem all256 {P : UInt8 → Prop} (h : ∀ n, n < 256 → P (UInt8.ofNat n)) (a : UInt8) : P a := by
  have := h a.toNat a.toNat_lt
  rwa [UInt8.ofNat_toNat] at this

theorem top_bit (a : UInt8) : a &&& 128 = 0 ∨ a &&& 128 = 128 :=
  all256 (P := fun a => a &&& 128 = 0 ∨ a &&& 128 = 128) (by decide +kernel) a

theorem shl_xor (a b : UInt8) : (a ^^^ b) <<< 1 = (a <<< 1) ^^^ (b <<< 1) := by
  rw [← UInt8.toBitVec_inj]
  simp [BitVec.shiftLeft_xor_distrib]

theorem and_xor (a b c : UInt8) : (a ^^^ b) &&& c = (a &&& c) ^^^ (b &&& c) := by
  rw [← UInt8.toBitVec_inj]
  apply BitVec.eq_of_getLsbD_eq
  intro i hi
  simp only [UInt8.toBitVec_and, UInt8.toBitVec_xor, BitVec.getLsbD_and, BitVec.getLsbD_xor]
  cases a.toBitVec.getLsbD i <;> cases b.toBitVec.getLsbD i <;> cases c.toBitVec.getLsbD i <;> rfl

theorem shr_xor (a b : UInt8) : (a ^^^ b) >>> 1 = (a >>> 1) ^^^ (b >>> 1) := by
  rw [← UInt8.toBitVec_inj]
  simp [BitVec.ushiftRight_xor_distrib]

theorem xor4 (a b c d : UInt8) : (a ^^^ b) ^^^ (c ^^^ d) = (a ^^^ c) ^^^ (b ^^^ d) := by
  simp only [UInt8.xor_assoc]
  rw [← UInt8.xor_assoc b c d, UInt8.xor_comm b c, UInt8.xor_assoc]

theorem xor_cancel (a b : UInt8) (h : a ^^^ b = 0) : a = b := by
  have : (a ^^^ b) ^^^ b = 0 ^^^ b := by rw [h]
  rwa [UInt8.xor_assoc, UInt8.xor_self, UInt8.xor_zero, UInt8.zero_xor] at this

theorem xt_xor (a b : UInt8) : xt (a ^^^ b) = xt a ^^^ xt b := by
  unfold xt
  rw [and_xor, shl_xor]
  rcases top_bit a with ha | ha <;> rcases top_bit b with hb | hb <;> rw [ha, hb] <;> simp
  · rw [UInt8.xor_assoc]
  · rw [UInt8.xor_assoc, UInt8.xor_assoc, UInt8.xor_comm (b <<< 1)]
  · rw [xor4]; simp

theorem gm_xor (n : Nat) (a b c : UInt8) : gm n (a ^^^ b) c = gm n a c ^^^ gm n b c := by
  induction n generalizing a b c with
  | zero => simp [gm]
  | succ n ih =>
    simp only [gm]
    rw [xt_xor, ih, xor4]
    congr 1
    split <;> simp

theorem mul_xor (a b c : UInt8) : mul (a ^^^ b) c = mul a c ^^^ mul b c := gm_xor 8 a b c

theorem bits8 (x : UInt8) : x = (x &&& 1) ^^^ (x &&& 2) ^^^ (x &&& 4) ^^^ (x &&& 8) ^^^ (x &&& 16) ^^^ (x &&& 32) ^^^ (x &&& 64) ^^^ (x &&& 128) :=
  all256 (P := fun x => x = (x &&& 1) ^^^ (x &&& 2) ^^^ (x &&& 4) ^^^ (x &&& 8) ^^^ (x &&& 16) ^^^ (x &&& 32) ^^^ (x &&& 64) ^^^ (x &&& 128)) (by decide +kernel) x

theorem bit_or (x : UInt8) : (x &&& 1 = 0 ∨ x &&& 1 = 1) ∧ (x &&& 2 = 0 ∨ x &&& 2 = 2) ∧ (x &&& 4 = 0 ∨ x &&& 4 = 4) ∧ (x &&& 8 = 0 ∨ x &&& 8 = 8) ∧ (x &&& 16 = 0 ∨ x &&& 16 = 16) ∧ (x &&& 32 = 0 ∨ x &&& 32 = 32) ∧ (x &&& 64 = 0 ∨ x &&& 64 = 64) ∧ (x &&& 128 = 0 ∨ x &&& 128 = 128) :=
  all256 (P := fun x => (x &&& 1 = 0 ∨ x &&& 1 = 1) ∧ (x &&& 2 = 0 ∨ x &&& 2 = 2) ∧ (x &&& 4 = 0 ∨ x &&& 4 = 4) ∧ (x &&& 8 = 0 ∨ x &&& 8 = 8) ∧ (x &&& 16 = 0 ∨ x &&& 16 = 16) ∧ (x &&& 32 = 0 ∨ x &&& 32 = 32) ∧ (x &&& 64 = 0 ∨ x &&& 64 = 64) ∧ (x &&& 128 = 0 ∨ x &&& 128 = 128)) (by decide +kernel) x

/-- Two maps that go over sums are the same if they are at the eight bits. -/
theorem lin_ext (f g : UInt8 → UInt8) (hf : ∀ x y, f (x ^^^ y) = f x ^^^ f y) (hg : ∀ x y, g (x ^^^ y) = g x ^^^ g y)
    (h : f 1 = g 1 ∧ f 2 = g 2 ∧ f 4 = g 4 ∧ f 8 = g 8 ∧ f 16 = g 16 ∧ f 32 = g 32 ∧ f 64 = g 64 ∧ f 128 = g 128) (x : UInt8) : f x = g x := by
  have f0 : f 0 = 0 := by have := hf 0 0; simpa using this
  have g0 : g 0 = 0 := by have := hg 0 0; simpa using this
  obtain ⟨h1, h2, h3, h4, h5, h6, h7, h8⟩ := h
  obtain ⟨b1, b2, b3, b4, b5, b6, b7, b8⟩ := bit_or x
  have k1 : f (x &&& 1) = g (x &&& 1) := by rcases b1 with e | e <;> rw [e] <;> simp [f0, g0, h1]
  have k2 : f (x &&& 2) = g (x &&& 2) := by rcases b2 with e | e <;> rw [e] <;> simp [f0, g0, h2]
  have k3 : f (x &&& 4) = g (x &&& 4) := by rcases b3 with e | e <;> rw [e] <;> simp [f0, g0, h3]
  have k4 : f (x &&& 8) = g (x &&& 8) := by rcases b4 with e | e <;> rw [e] <;> simp [f0, g0, h4]
  have k5 : f (x &&& 16) = g (x &&& 16) := by rcases b5 with e | e <;> rw [e] <;> simp [f0, g0, h5]
  have k6 : f (x &&& 32) = g (x &&& 32) := by rcases b6 with e | e <;> rw [e] <;> simp [f0, g0, h6]
  have k7 : f (x &&& 64) = g (x &&& 64) := by rcases b7 with e | e <;> rw [e] <;> simp [f0, g0, h7]
  have k8 : f (x &&& 128) = g (x &&& 128) := by rcases b8 with e | e <;> rw [e] <;> simp [f0, g0, h8]
  rw [bits8 x]
  simp only [hf, hg]
  rw [k1, k2, k3, k4, k5, k6, k7, k8]

theorem mul_xt (a b : UInt8) : mul a (xt b) = xt (mul a b) := by
  refine lin_ext (fun a => mul a (xt b)) (fun a => xt (mul a b)) (fun x y => mul_xor x y _) (fun x y => by show xt (mul (x ^^^ y) b) = xt (mul x b) ^^^ xt (mul y b); rw [mul_xor, xt_xor]) ?_ a
  exact all256 (P := fun b => mul 1 (xt b) = xt (mul 1 b) ∧ mul 2 (xt b) = xt (mul 2 b) ∧ mul 4 (xt b) = xt (mul 4 b) ∧ mul 8 (xt b) = xt (mul 8 b) ∧ mul 16 (xt b) = xt (mul 16 b) ∧ mul 32 (xt b) = xt (mul 32 b) ∧ mul 64 (xt b) = xt (mul 64 b) ∧ mul 128 (xt b) = xt (mul 128 b)) (by decide +kernel) b

theorem mul_one (a : UInt8) : mul a 1 = a := all256 (P := fun a => mul a 1 = a) (by decide +kernel) a
theorem mul_zero (a : UInt8) : mul a 0 = 0 := all256 (P := fun a => mul a 0 = 0) (by decide +kernel) a
theorem zero_mul (a : UInt8) : mul 0 a = 0 := all256 (P := fun a => mul 0 a = 0) (by decide +kernel) a

theorem mul_E (a : UInt8) (n : Nat) : mul a (E n) = xtn n a := by
  induction n with
  | zero => exact mul_one a
  | succ n ih => show mul a (xt (E n)) = xt (xtn n a); rw [mul_xt, ih]

theorem xtn_add (m n : Nat) (a : UInt8) : xtn n (xtn m a) = xtn (m + n) a := by
  induction n with
  | zero => rfl
  | succ n ih => show xt (xtn n (xtn m a)) = xt (xtn (m + n) a); rw [ih]

theorem E_add (m n : Nat) : mul (E m) (E n) = E (m + n) := by rw [mul_E]; exact xtn_add m n 1

theorem E_255 : E 255 = 1 := by decide +kernel
theorem E_zero : E 0 = 1 := rfl
theorem E_succ (n : Nat) : E (n + 1) = xt (E n) := rfl

theorem E_over (n : Nat) : E (n + 255) = E n := by rw [← E_add, E_255, mul_one]
theorem E_overs (n k : Nat) : E (n + 255 * k) = E n := by
  induction k with
  | zero => rfl
  | succ k ih => rw [Nat.mul_succ, ← Nat.add_assoc, E_over, ih]
theorem E_mod (n : Nat) : E (n % 255) = E n := by
  have := E_overs (n % 255) (n / 255)
  rw [Nat.mod_add_div] at this
  exact this.symm
theorem E_cong {m n : Nat} (h : m % 255 = n % 255) : E m = E n := by rw [← E_mod m, h, E_mod]

theorem L_facts (b : UInt8) : b = 0 ∨ (L b < 255 ∧ E (L b) = b) :=
  all256 (P := fun b => b = 0 ∨ (L b < 255 ∧ E (L b) = b)) (by decide +kernel) b
theorem L_lt {b : UInt8} (h : b ≠ 0) : L b < 255 := ((L_facts b).resolve_left h).1
theorem E_L {b : UInt8} (h : b ≠ 0) : E (L b) = b := ((L_facts b).resolve_left h).2
theorem L_E_lt : ∀ n, n < 255 → E n ≠ 0 ∧ L (E n) = n := by decide +kernel
theorem E_ne (n : Nat) : E n ≠ 0 := by rw [← E_mod]; exact (L_E_lt _ (Nat.mod_lt _ (by decide))).1
theorem L_E (n : Nat) : L (E n) = n % 255 := by rw [← E_mod]; exact (L_E_lt _ (Nat.mod_lt _ (by decide))).2

theorem mul_logs {a b : UInt8} (ha : a ≠ 0) (hb : b ≠ 0) : mul a b = E (L a + L b) := by
  rw [← E_add, E_L ha, E_L hb]

theorem mul_eq_zero {a b : UInt8} : mul a b = 0 ↔ a = 0 ∨ b = 0 := by
  constructor
  · intro h
    by_cases ha : a = 0
    · exact .inl ha
    by_cases hb : b = 0
    · exact .inr hb
    rw [mul_logs ha hb] at h
    exact absurd h (E_ne _)
  · rintro (rfl | rfl)
    · exact zero_mul _
    · exact mul_zero _

theorem mul_comm (a b : UInt8) : mul a b = mul b a := by
  by_cases ha : a = 0
  · rw [ha, zero_mul, mul_zero]
  by_cases hb : b = 0
  · rw [hb, zero_mul, mul_zero]
  rw [mul_logs ha hb, mul_logs hb ha, Nat.add_comm]

theorem mul_assoc (a b c : UInt8) : mul (mul a b) c = mul a (mul b c) := by
  by_cases ha : a = 0
  · rw [ha, zero_mul, zero_mul, zero_mul]
  by_cases hb : b = 0
  · rw [hb, mul_zero, zero_mul, mul_zero]
  by_cases hc : c = 0
  · rw [hc, mul_zero, mul_zero, mul_zero]
  rw [← E_L ha, ← E_L hb, ← E_L hc, E_add, E_add, E_add, E_add, Nat.add_assoc]

theorem mul_xor2 (a b c : UInt8) : mul a (b ^^^ c) = mul a b ^^^ mul a c := by
  rw [mul_comm, mul_xor, mul_comm b, mul_comm c]

theorem one_mul (a : UInt8) : mul 1 a = a := by rw [mul_comm, mul_one]

/-- a by b, of which b is not 0. -/
def div (a b : UInt8) : UInt8 := if a = 0 then 0 else E (L a + 255 - L b)

theorem div_mul {a b : UInt8} (hb : b ≠ 0) : mul (div a b) b = a := by
  unfold div
  split
  · rename_i h; rw [h, zero_mul]
  · rename_i ha
    have h1 := L_lt hb
    rw [← E_L hb, E_add, L_E, Nat.mod_eq_of_lt h1, show L a + 255 - L b + L b = L a + 255 by omega, E_over, E_L ha]

theorem div_eq {a b c : UInt8} (hb : b ≠ 0) (h : mul c b = a) : div a b = c := by
  have h2 : mul (div a b) b = mul c b := by rw [div_mul hb, h]
  have h3 : mul (div a b ^^^ c) b = 0 := by rw [mul_xor, h2, UInt8.xor_self]
  exact xor_cancel _ _ ((mul_eq_zero.1 h3).resolve_right hb)

theorem div_as_mul {a b : UInt8} (hb : b ≠ 0) : div a b = mul a (div 1 b) := by
  refine div_eq hb ?_
  rw [mul_assoc, div_mul hb, mul_one]

/-- The product of n a's. -/
def gpow (a : UInt8) : Nat → UInt8
  | 0 => 1
  | n + 1 => mul (gpow a n) a

theorem gpow_E (m n : Nat) : gpow (E m) n = E (m * n) := by
  induction n with
  | zero => rfl
  | succ n ih => simp only [gpow]; rw [ih, E_add, Nat.mul_succ]

theorem gpow_logs {a : UInt8} (ha : a ≠ 0) (n : Nat) : gpow a n = E (L a * n) := by
  have := gpow_E (L a) n
  rwa [E_L ha] at this

theorem gpow_254 {a : UInt8} (ha : a ≠ 0) : gpow a 254 = div 1 a := by
  refine (div_eq ha ?_).symm
  have h : mul (gpow a 254) a = gpow a 255 := rfl
  rw [h, gpow_logs ha, ← E_zero]
  exact E_cong (by omega)

/-- A power, of any number. -/
def pw (a : UInt8) (n : Int) : UInt8 := if n = 0 then 1 else if a = 0 then 0 else E (L a * (n % 255).toNat)

theorem pw_ne {a : UInt8} (ha : a ≠ 0) (n : Int) : pw a n = E (L a * (n % 255).toNat) := by
  unfold pw
  by_cases h : n = 0
  · subst h; rfl
  · rw [if_neg h, if_neg ha]

theorem pw_gpow {a : UInt8} (ha : a ≠ 0) (n : Int) : pw a n = gpow a (n % 255).toNat := by rw [pw_ne ha, gpow_logs ha]

theorem pw_add {a : UInt8} (ha : a ≠ 0) (m n : Int) : mul (pw a m) (pw a n) = pw a (m + n) := by
  rw [pw_ne ha, pw_ne ha, pw_ne ha, E_add, ← Nat.mul_add]
  refine E_cong ?_
  rw [Nat.mul_mod, Nat.mul_mod (L a) ((m + n) % 255).toNat]
  congr 2
  omega

theorem pw_two (s : UInt8) : pw s 2 = mul s s := by
  by_cases h : s = 0
  · subst h; decide
  · rw [pw_ne h, mul_logs h h]
    exact congrArg E (by rw [show ((2 : Int) % 255).toNat = 2 from rfl]; omega)

theorem pw_255 {a : UInt8} (ha : a ≠ 0) : pw a 255 = 1 := by rw [pw_ne ha]; rfl

theorem L_two : L 2 = 1 := by decide +kernel
theorem exp_log {a : UInt8} (ha : a ≠ 0) : pw 2 (L a : Int) = a := by
  rw [pw_ne (by decide), L_two, Nat.one_mul]
  have h := L_lt ha
  rw [show ((L a : Int) % 255).toNat = L a by omega, E_L ha]

theorem square_xor (a b : UInt8) : mul (a ^^^ b) (a ^^^ b) = mul a a ^^^ mul b b := by
  rw [mul_xor, mul_xor2, mul_xor2, mul_comm b a, xor4]
  rw [UInt8.xor_comm (mul a b), xor4, UInt8.xor_self, UInt8.xor_zero]

/-- A round of the product. -/
theorem gm_step (n : Nat) (s a b : UInt8) : s ^^^ gm (n + 1) a b = (if b &&& 1 = 1 then s ^^^ a else s) ^^^ gm n (xt a) (b >>> 1) := by
  simp only [gm]
  split
  · rw [UInt8.xor_assoc]
  · rw [UInt8.zero_xor]
theorem gm_zero (n : Nat) (a : UInt8) : gm n a 0 = 0 := by
  induction n generalizing a with
  | zero => rfl
  | succ n ih => simp only [gm]; rw [show (0 : UInt8) >>> 1 = 0 from rfl, ih, UInt8.xor_zero, if_neg (by decide)]

end Go.Proofs.Ytckmddkhkdcmmaa
