/-
  Plain facts: what is written is read as the same values.
-/
import Derived.Test.YtmnbdpdblpgnlaaSeg
namespace Go.Proofs.Ytmnbdpdblpgnlaa
open Go.RowKit
set_option linter.unusedVariables false

theorem drop_app {D x r : List UInt8} {a : Nat} (h : D.drop a = x ++ r) : D.drop (a + x.length) = r := by
  rw [← List.drop_drop, h, List.drop_left]

theorem drop_len {D x r : List UInt8} {a : Nat} (h : D.drop a = x ++ r) (ha : a ≤ D.length) : a + x.length ≤ D.length := by
  have := congrArg List.length h
  simp at this
  omega

theorem take_app {D x r : List UInt8} {a : Nat} (h : D.drop a = x ++ r) : (D.drop a).take x.length = x := by
  rw [h, List.take_left]

theorem be32_len (n : Int) : (be32 n).length = 4 := rfl

theorem numOf_be32 (n : Int) (h : 0 ≤ n ∧ n < 4294967296) : (numOf (be32 n) : Int) = n := by
  unfold be32
  rw [numOf_four]
  have e1 := ofNat_byte (n / 16777216 % 256) (by omega) (by omega)
  have e2 := ofNat_byte (n / 65536 % 256) (by omega) (by omega)
  have e3 := ofNat_byte (n / 256 % 256) (by omega) (by omega)
  have e4 := ofNat_byte (n % 256) (by omega) (by omega)
  generalize (UInt8.ofNat (n / 16777216 % 256).toNat).toNat = x1 at *
  generalize (UInt8.ofNat (n / 65536 % 256).toNat).toNat = x2 at *
  generalize (UInt8.ofNat (n / 256 % 256).toNat).toNat = x3 at *
  generalize (UInt8.ofNat (n % 256).toNat).toNat = x4 at *
  omega

theorem tk_at (D : List UInt8) (a : Nat) (x r : List UInt8) (fr : Nat) (ha : a ≤ D.length) (hx : 0 < x.length) (h : D.drop a = x ++ (pad x.length ++ r)) : tk D a 0 (x.length : Int) fr = (x, a + x.length + (4 - x.length % 4) % 4, 0) := by
  have h1 := drop_len h ha
  have h2 := drop_app h
  have h3 := drop_len h2 h1
  have hp : (pad x.length).length = (4 - x.length % 4) % 4 := by simp [pad]
  unfold tk
  have hc1 : ¬ ((x.length : Int) ≤ 0 ∨ (0 : Int) ≠ 0) := by
    rintro (h | h)
    · omega
    · exact h rfl
  rw [Int.toNat_natCast, if_neg hc1, if_neg (by omega)]
  have h4 := take_app h2
  rw [hp] at h4
  rw [if_pos h4, take_app h]

theorem tk_at0 (D : List UInt8) (a : Nat) (fr : Nat) : tk D a 0 0 fr = ([], a, 0) := by simp [tk]

theorem ru_at (D : List UInt8) (a : Nat) (n : Int) (r : List UInt8) (ha : a ≤ D.length) (hn : 0 ≤ n ∧ n < 4294967296) (h : D.drop a = be32 n ++ r) : ((ru D a 0).1 : Int) = n ∧ (ru D a 0).2.1 = a + 4 ∧ (ru D a 0).2.2 = 0 := by
  have e := tk_at D a (be32 n) r a ha (by rw [be32_len]; omega) (by rw [be32_len]; simpa [pad] using h)
  rw [be32_len] at e
  unfold ru
  rw [show ((4 : Nat) : Int) = 4 from rfl] at e
  rw [e]
  exact ⟨numOf_be32 n hn, rfl, rfl⟩

theorem numOf_app (x y : List UInt8) : numOf (x ++ y) = numOf x * 256 ^ y.length + numOf y := by
  induction y using List.rec generalizing x with
  | nil => simp [numOf]
  | cons b y ih =>
    have e1 : x ++ b :: y = (x ++ [b]) ++ y := by simp
    have e2 : b :: y = [b] ++ y := rfl
    rw [e1, ih, numOf_snoc, e2, ih]
    simp only [List.length_append, List.length_cons, List.length_nil, Nat.zero_add]
    rw [show 1 + y.length = y.length + 1 from by omega, Nat.pow_succ]
    have : numOf [b] = b.toNat := by simp [numOf]
    rw [this, Nat.add_mul, Nat.mul_assoc, Nat.mul_comm 256, Nat.add_assoc]

theorem rh_at (D : List UInt8) (a : Nat) (n : Int) (r : List UInt8) (ha : a ≤ D.length) (hn : 0 ≤ n ∧ n < 18446744073709551616) (h : D.drop a = (be32 (n / 4294967296) ++ be32 (n % 4294967296)) ++ r) : ((rh D a 0).1 : Int) = n ∧ (rh D a 0).2.1 = a + 8 ∧ (rh D a 0).2.2 = 0 := by
  have hl : (be32 (n / 4294967296) ++ be32 (n % 4294967296)).length = 8 := rfl
  have e := tk_at D a (be32 (n / 4294967296) ++ be32 (n % 4294967296)) r a ha (by rw [hl]; omega) (by rw [hl]; simpa [pad] using h)
  rw [hl] at e
  unfold rh
  rw [show ((8 : Nat) : Int) = 8 from rfl] at e
  rw [e]
  refine ⟨?_, rfl, rfl⟩
  dsimp only
  rw [numOf_app, be32_len]
  have h1 := numOf_be32 (n / 4294967296) (by omega)
  have h2 := numOf_be32 (n % 4294967296) (by omega)
  omega

theorem rbool_at (D : List UInt8) (a : Nat) (b : Bool) (r : List UInt8) (ha : a ≤ D.length) (h : D.drop a = be32 (if b then 1 else 0) ++ r) : rbool D a 0 = (b, a + 4, 0) := by
  obtain ⟨h1, h2, h3⟩ := ru_at D a (if b then 1 else 0) r ha (by cases b <;> simp) h
  unfold rbool rup
  rw [h1, if_neg (by cases b <;> simp), h1, h2, h3]
  cases b <;> rfl

theorem rlen_at (D : List UInt8) (a : Nat) (n : Nat) (most : Int) (r : List UInt8) (ha : a ≤ D.length) (hn : n < 4294967296) (hm : (n : Int) ≤ most) (h : D.drop a = be32 (n : Int) ++ r) : rlen D a 0 most = (n, a + 4, 0) := by
  obtain ⟨h1, h2, h3⟩ := ru_at D a n r ha (by omega) h
  unfold rlen
  rw [if_neg (by omega)]
  have h4 : (ru D a 0).1 = n := by omega
  exact Prod.ext h4 (Prod.ext h2 h3)

theorem rcnt_at (D : List UInt8) (a : Nat) (x r : List UInt8) (most : Int) (ha : a ≤ D.length) (hn : x.length < 4294967296) (hm : (x.length : Int) ≤ most) (h : D.drop a = opq x ++ r) : rcnt D a 0 most = (x, a + (opq x).length, 0) := by
  unfold opq at h
  rw [List.append_assoc] at h
  have e := rlen_at D a x.length most _ ha hn hm h
  unfold rcnt
  rw [e]
  dsimp only
  have h2 := drop_app h
  rw [be32_len] at h2
  have h1 := drop_len h ha
  rw [be32_len] at h1
  by_cases hx : x.length = 0
  · obtain rfl := List.eq_nil_of_length_eq_zero hx
    rw [show (([] : List UInt8).length : Int) = 0 from rfl, tk_at0]
    rfl
  · rw [tk_at D (a + 4) x r a h1 (by omega) (by rw [h2, List.append_assoc])]
    simp [opq, be32, pad]
    omega

theorem rfix_at (D : List UInt8) (a : Nat) (x r : List UInt8) (ha : a ≤ D.length) (h : D.drop a = (x ++ pad x.length) ++ r) : tk D a 0 (x.length : Int) a = (x, a + (x ++ pad x.length).length, 0) := by
  by_cases hx : x.length = 0
  · obtain rfl := List.eq_nil_of_length_eq_zero hx
    rw [show (([] : List UInt8).length : Int) = 0 from rfl, tk_at0]
    rfl
  · rw [tk_at D a x r a ha (by omega) (by rw [h, List.append_assoc])]
    simp [pad]
    omega

theorem rloopN_at (D : List UInt8) : ∀ (l1 l0 : List Int) (a : Nat) (r : List UInt8), a ≤ D.length → (∀ n ∈ l1, 0 ≤ n ∧ n < 4294967296) → D.drop a = nums l1 ++ r → rloop (gnum D) l1.length l0 a 0 = (l0 ++ l1, a + (nums l1).length, 0)
  | [], l0, a, r, ha, hw, h => by simp [rloop, nums]
  | n :: l1, l0, a, r, ha, hw, h => by
    have hn := hw n (by simp)
    have h' : D.drop a = be32 n ++ (nums l1 ++ r) := by rw [h]; simp [nums]
    obtain ⟨h1, h2, h3⟩ := ru_at D a n _ ha hn h'
    have hd := drop_app h'
    have hl := drop_len h' ha
    rw [be32_len] at hd hl
    rw [List.length_cons, rloop_succ]
    have e : gnum D a 0 = (n, a + 4, 0) := by unfold gnum; rw [h1, h2, h3]
    rw [e, if_neg (by simp), rloopN_at D l1 _ _ r hl (fun m hm => hw m (by simp [hm])) hd]
    simp [nums, be32]
    omega

theorem rlistN_at (D : List UInt8) (a : Nat) (l : List Int) (most : Int) (r : List UInt8) (ha : a ≤ D.length) (hl : l.length < 4294967296) (hm : (l.length : Int) ≤ most) (hw : ∀ n ∈ l, 0 ≤ n ∧ n < 4294967296) (h : D.drop a = (be32 (l.length : Int) ++ nums l) ++ r) : rlistN D a 0 most = (l, a + (be32 (l.length : Int) ++ nums l).length, 0) := by
  rw [List.append_assoc] at h
  have e := rlen_at D a l.length most _ ha hl hm h
  have h2 := drop_app h
  have h1 := drop_len h ha
  rw [be32_len] at h1 h2
  unfold rlistN
  rw [e]
  dsimp only
  rw [rloopN_at D l [] (a + 4) r h1 hw h2]
  simp [be32]
  omega

theorem rch_at (D : List UInt8) (most : Int) : ∀ (l1 l0 : List ByteArray) (a n : Nat) (r : List UInt8), a ≤ D.length → (∀ t ∈ l1, t.size ≤ 7) → ((l0.length + l1.length : Nat) : Int) ≤ most → l1.length < n → D.drop a = (catC l1 ++ be32 0) ++ r → rch D most n l0 a 0 = (l0 ++ l1, a + (catC l1 ++ be32 0).length, 0)
  | l1, l0, a, 0, r, ha, hw, hm, hn, h => by omega
  | [], l0, a, n + 1, r, ha, hw, hm, hn, h => by
    rw [rch_succ, rbool_at D a false r ha (by simpa [catC] using h), if_pos rfl]
    simp [catC, be32]
  | t :: l1, l0, a, n + 1, r, ha, hw, hm, hn, h => by
    have ht := hw t (by simp)
    have htl : t.data.toList.length = t.size := by simp
    have h' : D.drop a = be32 1 ++ (opq t.data.toList ++ ((catC l1 ++ be32 0) ++ r)) := by rw [h]; simp [catC]
    have hd := drop_app h'
    have hl := drop_len h' ha
    rw [be32_len] at hd hl
    have hd2 := drop_app hd
    have hl2 := drop_len hd hl
    rw [rch_succ, rbool_at D a true _ ha h', if_neg (by simp), if_neg (by simp at hm; omega)]
    dsimp only
    have e : gtext D (a + 4) 0 = (t, a + 4 + (opq t.data.toList).length, 0) := by
      unfold gtext
      rw [rcnt_at D (a + 4) t.data.toList _ 7 hl (by omega) (by omega) hd]
      rfl
    rw [e]
    dsimp only
    rw [rch_at D most l1 (l0 ++ [t]) _ n r hl2 (fun m hm => hw m (by simp [hm])) (by simp at hm ⊢; omega) (by simp at hn; omega) hd2]
    simp [catC, be32]
    omega

theorem rchain_at (D : List UInt8) (a : Nat) (l : List ByteArray) (most : Int) (r : List UInt8) (ha : a ≤ D.length) (hm : (l.length : Int) ≤ most) (hw : ∀ t ∈ l, t.size ≤ 7) (h : D.drop a = (catC l ++ be32 0) ++ r) : rchain D a 0 most = (l, a + (catC l ++ be32 0).length, 0) := by
  unfold rchain
  have h1 := drop_len h ha
  have h2 : 4 * l.length ≤ (catC l).length := by
    clear h h1 hm hw
    induction l with
    | nil => simp
    | cons t l ih =>
      simp only [catC, List.map_cons, List.flatten_cons, List.length_append, List.length_cons] at *
      have : (be32 1).length = 4 := rfl
      omega
  rw [List.length_append] at h1
  rw [rch_at D most l [] a (D.length + 1) r ha hw (by simpa using hm) (by omega) h]
  simp

theorem ropt_at (D : List UInt8) (a : Nat) (n : Int) (r : List UInt8) (ha : a ≤ D.length) (hn : 0 ≤ n ∧ n < 4294967296) (h : D.drop a = (be32 1 ++ be32 n) ++ r) : ropt D a 0 = (some n, a + 8, 0) := by
  rw [List.append_assoc] at h
  have e := rbool_at D a true _ ha h
  have hd := drop_app h
  have hl := drop_len h ha
  rw [be32_len] at hd hl
  obtain ⟨h1, h2, h3⟩ := ru_at D (a + 4) n r hl hn hd
  unfold ropt
  rw [e, if_neg (by simp)]
  dsimp only
  rw [h3, if_neg (by simp), h1, h2]

theorem opq_mod (x : List UInt8) : (opq x).length % 4 = 0 := by
  simp [opq, pad, be32]; omega

theorem catC_mod : ∀ t : List ByteArray, (catC t).length % 4 = 0
  | [] => by simp [catC]
  | u :: t => by
    have h := catC_mod t
    have h2 := opq_mod u.data.toList
    simp only [catC, List.map_cons, List.flatten_cons, List.length_append, be32_len] at *
    omega

/-- All that is read back, place by place. -/
structure Back (D : List UInt8) (n i h : Int) (b : Bool) (s : ByteArray) (l : List Int) (t : List ByteArray) (a1 a2 a3 a4 a5 a6 a7 a8 a9 : Nat) : Prop where
  u1 : ((ru D 0 0).1 : Int) = n
  u2 : (ru D 0 0).2.1 = a1
  u3 : (ru D 0 0).2.2 = 0
  i1 : ((ru D a1 0).1 : Int) = i % 4294967296
  i2 : (ru D a1 0).2.1 = a2
  i3 : (ru D a1 0).2.2 = 0
  h1 : ((rh D a2 0).1 : Int) = h
  h2 : (rh D a2 0).2.1 = a3
  h3 : (rh D a2 0).2.2 = 0
  b1 : rbool D a3 0 = (b, a4, 0)
  t1 : rcnt D a4 0 (s.size : Int) = (s.data.toList, a5, 0)
  f1 : tk D a5 0 (s.size : Int) a5 = (s.data.toList, a6, 0)
  l1 : rlistN D a6 0 (l.length : Int) = (l, a7, 0)
  c1 : rchain D a7 0 (t.length : Int) = (t, a8, 0)
  o1 : ropt D a8 0 = (some n, a9, 0)
  z1 : rdone D a9 0 = 0
  m1 : D.length % 4 = 0

theorem back_all (D : List UInt8) (n i h : Int) (b : Bool) (s : ByteArray) (l : List Int) (t : List ByteArray) (hn : 0 ≤ n ∧ n < 4294967296) (hh : 0 ≤ h ∧ h < 18446744073709551616) (hs : s.size < 4294967296) (hl : l.length < 4294967296) (hw : ∀ n ∈ l, 0 ≤ n ∧ n < 4294967296) (ht : ∀ u ∈ t, u.size ≤ 7)
    (hD : D = be32 n ++ (be32 (i % 4294967296) ++ ((be32 (h / 4294967296) ++ be32 (h % 4294967296)) ++ (be32 (if b = true then 1 else 0) ++ (opq s.data.toList ++ ((s.data.toList ++ pad s.data.toList.length) ++ ((be32 (l.length : Int) ++ nums l) ++ ((catC t ++ be32 0) ++ ((be32 1 ++ be32 n) ++ []))))))))) :
    ∃ a1 a2 a3 a4 a5 a6 a7 a8 a9, Back D n i h b s l t a1 a2 a3 a4 a5 a6 a7 a8 a9 := by
  have hsz2 : s.data.toList.length = s.size := by simp
  have d0 : D.drop 0 = be32 n ++ _ := hD
  have g0 : (0 : Nat) ≤ D.length := Nat.zero_le _
  have d1 := drop_app d0
  have g1 := drop_len d0 g0
  have d2 := drop_app d1
  have g2 := drop_len d1 g1
  have d3 := drop_app d2
  have g3 := drop_len d2 g2
  have d4 := drop_app d3
  have g4 := drop_len d3 g3
  have d5 := drop_app d4
  have g5 := drop_len d4 g4
  have d6 := drop_app d5
  have g6 := drop_len d5 g5
  have d7 := drop_app d6
  have g7 := drop_len d6 g6
  have d8 := drop_app d7
  have g8 := drop_len d7 g7
  have d9 := drop_app d8
  have g9 := drop_len d8 g8
  have t0 := ru_at D 0 n _ g0 hn d0
  have t1 := ru_at D _ (i % 4294967296) _ g1 (by omega) d1
  have t2 := rh_at D _ h _ g2 hh d2
  have t3 := rbool_at D _ b _ g3 d3
  have t4 := rcnt_at D _ s.data.toList _ (s.size : Int) g4 (by omega) (by omega) d4
  have t5 := rfix_at D _ s.data.toList _ g5 d5
  have t6 := rlistN_at D _ l (l.length : Int) _ g6 hl (Int.le_refl _) hw d6
  have t7 := rchain_at D _ t (t.length : Int) _ g7 (Int.le_refl _) ht d7
  have t8 := ropt_at D _ n _ g8 hn d8
  rw [hsz2] at t5
  refine ⟨_, _, _, _, _, _, _, _, _, t0.1, t0.2.1, t0.2.2, t1.1, t1.2.1, t1.2.2, t2.1, t2.2.1, t2.2.2, t3, t4, t5, t6, t7, t8, ?_, ?_⟩
  · have := congrArg List.length d9
    simp only [List.length_drop, List.length_nil] at this
    have e : (be32 1 ++ be32 n).length = 8 := rfl
    rw [e] at this
    unfold rdone
    rw [if_neg (by simp), if_neg (by omega)]
  · have h1 := opq_mod s.data.toList
    have h2 := catC_mod t
    rw [hD]
    simp only [List.length_append, be32_len, List.length_nil, nums_len, pad, List.length_replicate]
    omega

end Go.Proofs.Ytmnbdpdblpgnlaa
