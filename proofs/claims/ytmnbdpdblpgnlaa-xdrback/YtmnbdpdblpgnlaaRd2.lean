/-
  The walks of package xdr's Reader, on: numbers, truth values, lengths, bytes and texts.
-/
import Derived.Test.YtmnbdpdblpgnlaaRd
namespace Go.Proofs.Ytmnbdpdblpgnlaa
open Go.RowKit
set_option linter.unusedVariables false

attribute [local go_sem ↓] Go.wp_at_zero Go.wp_at_succ

/-- What take makes of a reader: the bytes, the place, the error. -/
def tk (D : List UInt8) (a : Nat) (E : Int) (n : Int) (fr : Nat) : List UInt8 × Nat × Int :=
  if n ≤ 0 ∨ E ≠ 0 then ([], a, E)
  else if D.length - a < n.toNat + (4 - n.toNat % 4) % 4 then ([], fr, 3)
  else if (D.drop (a + n.toNat)).take ((4 - n.toNat % 4) % 4) = pad n.toNat then ((D.drop a).take n.toNat, a + n.toNat + (4 - n.toNat % 4) % 4, 0)
  else ([], fr, 11)

theorem first_bad : ∀ (l : List UInt8) (d : Nat), l.length = d → l ≠ List.replicate d 0 → ∃ k, ∃ h : k < l.length, (∀ j (hj : j < l.length), j < k → l[j] = 0) ∧ l[k] ≠ 0
  | [], d, hl, hne => by subst hl; simp at hne
  | x :: l, d, hl, hne => by
    by_cases hx : x = 0
    · subst hx
      have h2 : l ≠ List.replicate l.length 0 := by
        intro e
        apply hne
        rw [← hl, List.length_cons, List.replicate_succ, ← e]
      obtain ⟨k, hk, h3, h4⟩ := first_bad l l.length rfl h2
      refine ⟨k + 1, by simp; omega, fun j hj hlt => ?_, by simpa using h4⟩
      cases j with
      | zero => rfl
      | succ j => simpa using h3 j (by simpa using hj) (by omega)
    · exact ⟨0, by simp, fun j _ hj => by omega, by simpa using hx⟩

theorem take_any (w : World) (p : Nat) (q : Option Nat) (D : List UInt8) (a : Nat) (E : Int) (n : Int) (fr : Nat) (h : RAt w p q D a E) (hn : n ≤ 9223372036854775807) (hD : D.length ≤ maxLen) (hfr : fr ≤ D.length) :
    Calls Try.prog 73 #[.pointer (some ⟨p, 0, none⟩), .int .i64 n, .int .i64 (fr : Int)] w fun e w' => ∃ v, e = .returned v ∧ Rd w' v (tk D a E n fr).1 ∧ (v.ownBlock = none ∨ v.ownBlock = q) ∧ RAt w' p q D (tk D a E n fr).2.1 (tk D a E n fr).2.2 ∧ Fr (fun k => k = p) w w' := by
  unfold tk
  by_cases h0 : n ≤ 0
  · refine (take_no w _ n fr h0).mono ?_
    rintro e w' ⟨rfl, rfl⟩
    rw [if_pos (.inl h0)]
    exact ⟨_, rfl, Rd.nil _, .inl rfl, h, Fr.refl _ _⟩
  by_cases hE : E = 0
  · subst hE
    obtain ⟨m, rfl⟩ := Int.eq_ofNat_of_zero_le (show 0 ≤ n by omega)
    rw [if_neg (by omega), Int.toNat_natCast]
    by_cases hs : D.length - a < m + (4 - m % 4) % 4
    · rw [if_pos hs]
      refine (take_short w p q D a m fr h (by omega) (by omega) hD hs hfr).mono ?_
      rintro e w' ⟨rfl, h1, h2⟩
      exact ⟨_, rfl, Rd.nil _, .inl rfl, h1, h2⟩
    · rw [if_neg hs]
      have hal := id h
      obtain ⟨_, _, _, _, hal⟩ := hal
      by_cases hz : (D.drop (a + m)).take ((4 - m % 4) % 4) = pad m
      · rw [if_pos hz]
        refine (take_ok w p q D a m fr h (by omega) hD (by omega) hz).mono ?_
        rintro e w' ⟨v, rfl, h1, h2, h3, h4⟩
        exact ⟨v, rfl, h1, .inr h2, h3, h4⟩
      · rw [if_neg hz]
        have hlen : ((D.drop (a + m)).take ((4 - m % 4) % 4)).length = (4 - m % 4) % 4 := by
          simp only [List.length_take, List.length_drop]; omega
        obtain ⟨k, hk, h3, h4⟩ := first_bad _ _ hlen hz
        rw [hlen] at hk
        refine (take_pad w p q D a m fr h (by omega) hD (by omega) hfr k hk ?_ ?_).mono ?_
        · intro j hj h5 h6
          have := h3 (j - (a + m)) (by rw [hlen]; omega) (by omega)
          simp only [List.getElem_take, List.getElem_drop] at this
          rw [← this]
          congr 1
          omega
        · intro hj
          simp only [List.getElem_take, List.getElem_drop] at h4
          exact h4
        · rintro e w' ⟨rfl, h1, h2⟩
          exact ⟨_, rfl, Rd.nil _, .inl rfl, h1, h2⟩
  · obtain ⟨v, h1, _⟩ := id h
    refine (take_er w p n fr E (RAt.cell2 h1) hE).mono ?_
    rintro e w' ⟨rfl, rfl⟩
    rw [if_pos (.inr hE)]
    exact ⟨_, rfl, Rd.nil _, .inl rfl, h, Fr.refl _ _⟩

/-- The number that bytes make, the most significant one first. -/
def numOf (l : List UInt8) : Nat := l.foldl (fun v b => v * 256 + b.toNat) 0

theorem numOf_snoc (l : List UInt8) (b : UInt8) : numOf (l ++ [b]) = numOf l * 256 + b.toNat := by simp [numOf]

theorem foldl_lt : ∀ (l : List UInt8) (v : Nat), l.foldl (fun v b => v * 256 + b.toNat) v < (v + 1) * 256 ^ l.length
  | [], v => by simp
  | b :: l, v => by
    have h := foldl_lt l (v * 256 + b.toNat)
    have hb := b.toNat_lt
    have h2 : (v * 256 + b.toNat + 1) * 256 ^ l.length ≤ ((v + 1) * 256) * 256 ^ l.length := Nat.mul_le_mul_right _ (by omega)
    rw [List.foldl_cons, List.length_cons, Nat.pow_succ]
    refine Nat.lt_of_lt_of_le h (Nat.le_trans h2 ?_)
    rw [Nat.mul_assoc, Nat.mul_comm 256]
    exact Nat.le_refl _

theorem numOf_lt (l : List UInt8) : numOf l < 256 ^ l.length := by
  have := foldl_lt l 0
  simpa [numOf] using this

theorem or_byte (V b : Nat) (hV : V * 256 + 255 < 18446744073709551616) (hb : b < 256) : bits BinOp.or IntKind.u64 (IntKind.u64.wrap ((V : Int) * 256)) (IntKind.u64.wrap (b : Int)) = ((V * 256 + b : Nat) : Int) := by
  have e3 : V * 256 < 18446744073709551616 := Nat.lt_of_le_of_lt (Nat.le_add_right _ _) hV
  have e4 : b < 18446744073709551616 := Nat.lt_of_lt_of_le hb (Nat.le_of_ble_eq_true rfl)
  have e1 : IntKind.u64.wrap ((V : Int) * 256) = ((V * 256 : Nat) : Int) := by
    simp only [IntKind.wrap, IntKind.bits, IntKind.signed]; simp; omega
  have e2 : IntKind.u64.wrap (b : Int) = (b : Int) := by
    simp only [IntKind.wrap, IntKind.bits, IntKind.signed]; simp; omega
  rw [e1, e2, u64_or_nat _ _ e3 e4]
  have h8 : b < 2 ^ 8 := hb
  have h := Nat.two_pow_add_eq_or_of_lt h8 V
  rw [show (2 : Nat) ^ 8 = 256 from rfl] at h
  rw [Nat.mul_comm V 256, ← h]

theorem take_snoc' (l : List UInt8) (k : Nat) (h : k < l.length) : l.take (k + 1) = l.take k ++ [l[k]] := by
  rw [List.take_succ_eq_append_getElem h]

theorem pow_le_8 (k : Nat) (h : k < 8) : 256 ^ k * 256 ≤ 18446744073709551616 := by
  have : 256 ^ (k + 1) ≤ 256 ^ 8 := Nat.pow_le_pow_right (by omega) (by omega)
  rw [Nat.pow_succ] at this
  rw [show (256 : Nat) ^ 8 = 18446744073709551616 from rfl] at this
  exact this

set_option maxHeartbeats 400000 in
theorem number_any (w : World) (p : Nat) (q : Option Nat) (D : List UInt8) (a : Nat) (E : Int) (n : Nat) (h : RAt w p q D a E) (hn : n ≤ 8) (hD : D.length ≤ maxLen) :
    Calls Try.prog 70 #[.pointer (some ⟨p, 0, none⟩), .int .i64 (n : Int)] w fun e w' => e = .returned (.int .u64 (numOf (tk D a E n a).1 : Int)) ∧ RAt w' p q D (tk D a E n a).2.1 (tk D a E n a).2.2 ∧ Fr (fun k => k = p) w w' := by
  obtain ⟨v, h1, _, _, hal⟩ := id h
  have c1 := RAt.cell1 h1
  have hlen : (tk D a E n a).1.length ≤ 8 := by
    unfold tk
    repeat' split
    all_goals simp
    all_goals omega
  have HT := hide (take_any w p q D a E n a h (by omega) hD hal)
  clear h h1
  generalize tk D a E n a = T at *
  obtain ⟨l, a1, E1⟩ := T
  dsimp only at *
  go_enter Try.func70, Try.ntmps70
  go_wp2_with (first | (go_at_call 19; refine (at_any _ p a c1).mono ?_; rintro e w' ⟨rfl, rfl⟩))
  refine (unhide HT).mono ?_
  rintro e w1 ⟨x, rfl, hrd, hx, hr1, hf1⟩
  obtain ⟨ao, cap, rfl⟩ := hrd.shape
  go_wp2_with fail
  go_loop [5, 14] (fun v i => ∃ k : Nat, k ≤ l.length ∧ i = .int .i64 k ∧ v = .int .u64 (numOf (l.take k) : Int)) (fun _ i => l.length - (intOf i).toNat)
  case atStart => exact ⟨0, Nat.zero_le _, rfl, rfl⟩
  case round =>
    obtain ⟨k, hk, rfl, rfl⟩ := hrel
    by_cases hlt : k < l.length
    · obtain ⟨b, o, rfl, _, _, hcm, hcell⟩ := hrd.lits (by omega)
      · have hc := hcell k hlt
        unfold maxLen at hcm
        clear hcell
        have hV : numOf (l.take k) * 256 + 255 < 18446744073709551616 := by
          have h1 := numOf_lt (l.take k)
          have h2 := pow_le_8 k (by omega)
          rw [List.length_take, Nat.min_eq_left hk] at h1
          omega
        have hnx := hide (or_byte (numOf (l.take k)) l[k].toNat hV l[k].toNat_lt)
        have hsn := hide (take_snoc' l k hlt)
        clear hV
        go_wp2_with fail
        go_round
        case rel => exact ⟨k + 1, by omega, by go_num, by rw [unhide hsn, numOf_snoc]; exact congrArg _ (unhide hnx)⟩
        case measure => simp [intOf]; omega
    · go_wp2_with fail
      go_ret
      rw [List.take_of_length_le (by omega)]
      exact ⟨rfl, hr1, hf1⟩

theorem number_nil (w : World) (n : Int) : Calls Try.prog 70 #[.pointer none, .int .i64 n] w fun e w' => e = .returned (.int .u64 0) ∧ w = w' := by
  go_enter Try.func70, Try.ntmps70
  go_wp2_with (first | (go_at_call 19; refine (at_nil _).mono ?_; rintro e w' ⟨rfl, rfl⟩) | (go_at_call 73; refine (take_nil _ _ _).mono ?_; rintro e w' ⟨rfl, rfl⟩))
  go_loop [5, 14] (fun v i => v = .int .u64 0 ∧ i = .int .i64 0) (fun _ _ => 0)
  case atStart => exact ⟨rfl, rfl⟩
  case round =>
    obtain ⟨rfl, rfl⟩ := hrel
    go_wp2_with fail
    go_ret
    exact ⟨rfl, rfl⟩

/-- Uint: the number, the place, the error. -/
def ru (D : List UInt8) (a : Nat) (E : Int) : Nat × Nat × Int := (numOf (tk D a E 4 a).1, (tk D a E 4 a).2.1, (tk D a E 4 a).2.2)
/-- Hyper. -/
def rh (D : List UInt8) (a : Nat) (E : Int) : Nat × Nat × Int := (numOf (tk D a E 8 a).1, (tk D a E 8 a).2.1, (tk D a E 8 a).2.2)

theorem tk_len (D : List UInt8) (a : Nat) (E : Int) (n : Int) (fr : Nat) : ((tk D a E n fr).1.length : Int) ≤ max 0 n := by
  unfold tk
  repeat' split
  all_goals simp
  all_goals omega

theorem tk_err (D : List UInt8) (a : Nat) (E : Int) (n : Int) (fr : Nat) (h : (tk D a E n fr).2.2 ≠ 0) : (tk D a E n fr).1 = [] := by
  unfold tk at *
  repeat' split
  all_goals simp_all

theorem ru_lt (D : List UInt8) (a : Nat) (E : Int) : (ru D a E).1 < 4294967296 := by
  have h := numOf_lt (tk D a E 4 a).1
  have h2 := tk_len D a E 4 a
  have h3 : 256 ^ (tk D a E 4 a).1.length ≤ 256 ^ 4 := Nat.pow_le_pow_right (by omega) (by omega)
  exact Nat.lt_of_lt_of_le h h3

theorem ru_err (D : List UInt8) (a : Nat) (E : Int) (h : (ru D a E).2.2 ≠ 0) : (ru D a E).1 = 0 := by
  have := tk_err D a E 4 a h
  unfold ru
  rw [this]; rfl

theorem ruint_any (w : World) (p : Nat) (q : Option Nat) (D : List UInt8) (a : Nat) (E : Int) (h : RAt w p q D a E) (hD : D.length ≤ maxLen) :
    Calls Try.prog 35 #[.pointer (some ⟨p, 0, none⟩)] w fun e w' => e = .returned (.int .u32 ((ru D a E).1 : Int)) ∧ RAt w' p q D (ru D a E).2.1 (ru D a E).2.2 ∧ Fr (fun k => k = p) w w' := by
  have hlt := ru_lt D a E
  have HN := hide (number_any w p q D a E 4 h (by omega) hD)
  clear h
  go_enter Try.func35, Try.ntmps35
  go_wp2_with fail
  refine (unhide HN).mono ?_
  rintro e w' ⟨rfl, h1, h2⟩
  have hlt2 : (numOf (tk D a E 4 a).1 : Int) < 4294967296 := by unfold ru at hlt; omega
  have HL := hide hlt
  have e4 : ((4 : Nat) : Int) = 4 := rfl
  rw [e4] at h1 ⊢
  clear hlt e4
  go_wp2
  go_ret
  exact ⟨rfl, h1, h2⟩

theorem ruint_nil (w : World) : Calls Try.prog 35 #[.pointer none] w fun e w' => e = .returned (.int .u32 0) ∧ w = w' := by
  go_enter Try.func35, Try.ntmps35
  go_wp2_with (go_at_call 70; refine (number_nil _ _).mono ?_; rintro e w' ⟨rfl, rfl⟩)
  go_ret
  exact ⟨rfl, rfl⟩

theorem rint_any (w : World) (p : Nat) (q : Option Nat) (D : List UInt8) (a : Nat) (E : Int) (h : RAt w p q D a E) (hD : D.length ≤ maxLen) :
    Calls Try.prog 36 #[.pointer (some ⟨p, 0, none⟩)] w fun e w' => e = .returned (.int .i32 (wrap32 ((ru D a E).1 : Int))) ∧ RAt w' p q D (ru D a E).2.1 (ru D a E).2.2 ∧ Fr (fun k => k = p) w w' := by
  have HN := hide (ruint_any w p q D a E h hD)
  clear h
  go_enter Try.func36, Try.ntmps36
  go_wp2_with fail
  refine (unhide HN).mono ?_
  rintro e w' ⟨rfl, h1, h2⟩
  go_wp2
  go_ret
  exact ⟨rfl, h1, h2⟩

theorem rint_nil (w : World) : Calls Try.prog 36 #[.pointer none] w fun e w' => e = .returned (.int .i32 0) ∧ w = w' := by
  go_enter Try.func36, Try.ntmps36
  go_wp2_with (go_at_call 35; refine (ruint_nil _).mono ?_; rintro e w' ⟨rfl, rfl⟩)
  go_ret
  exact ⟨rfl, rfl⟩

theorem rhyper_any (w : World) (p : Nat) (q : Option Nat) (D : List UInt8) (a : Nat) (E : Int) (h : RAt w p q D a E) (hD : D.length ≤ maxLen) :
    Calls Try.prog 37 #[.pointer (some ⟨p, 0, none⟩)] w fun e w' => e = .returned (.int .u64 ((rh D a E).1 : Int)) ∧ RAt w' p q D (rh D a E).2.1 (rh D a E).2.2 ∧ Fr (fun k => k = p) w w' := by
  have HN := hide (number_any w p q D a E 8 h (by omega) hD)
  clear h
  go_enter Try.func37, Try.ntmps37
  go_wp2_with fail
  refine (unhide HN).mono ?_
  rintro e w' ⟨rfl, h1, h2⟩
  go_wp2
  go_ret
  exact ⟨rfl, h1, h2⟩

theorem rhyper_nil (w : World) : Calls Try.prog 37 #[.pointer none] w fun e w' => e = .returned (.int .u64 0) ∧ w = w' := by
  go_enter Try.func37, Try.ntmps37
  go_wp2_with (go_at_call 70; refine (number_nil _ _).mono ?_; rintro e w' ⟨rfl, rfl⟩)
  go_ret
  exact ⟨rfl, rfl⟩

/-- upTo: the number, the place, the error. -/
def rup (D : List UInt8) (a : Nat) (E : Int) (most : Int) (why : Int) : Nat × Nat × Int := if most < ((ru D a E).1 : Int) then (0, a, why) else ru D a E

set_option maxHeartbeats 400000 in
theorem upTo_any (w : World) (p : Nat) (q : Option Nat) (D : List UInt8) (a : Nat) (E : Int) (most why : Int) (h : RAt w p q D a E) (hD : D.length ≤ maxLen) (hm : 0 ≤ most) :
    Calls Try.prog 71 #[.pointer (some ⟨p, 0, none⟩), .int .u32 most, .int .i64 why] w fun e w' => e = .returned (.int .u32 ((rup D a E most why).1 : Int)) ∧ RAt w' p q D (rup D a E most why).2.1 (rup D a E most why).2.2 ∧ Fr (fun k => k = p) w w' := by
  unfold rup
  obtain ⟨v, h1, _, _, hal⟩ := id h
  have c1 := RAt.cell1 h1
  have HN := hide (ruint_any w p q D a E h hD)
  have HE := hide (ru_err D a E)
  generalize ru D a E = R at *
  obtain ⟨n, a1, E1⟩ := R
  dsimp only at *
  clear h h1
  by_cases hc : most < (n : Int)
  · rw [if_pos hc]
    go_enter Try.func71, Try.ntmps71
    go_wp2_with (first | (go_at_call 19; refine (at_any _ p a c1).mono ?_; rintro e w' ⟨rfl, rfl⟩))
    refine (unhide HN).mono ?_
    rintro e w' ⟨rfl, h1, h2⟩
    have hE1 : E1 = 0 := by
      rcases Classical.em (E1 = 0) with e | e
      · exact e
      · have := unhide HE e; omega
    subst hE1
    go_wp2_with fail
    refine (fail_ok w' p q D a1 why a h1 hal).mono ?_
    rintro e w2 ⟨rfl, h3, h4⟩
    go_wp2
    go_ret
    exact ⟨rfl, h3, h2.trans h4 (fun _ _ h => h)⟩
  · rw [if_neg hc]
    go_enter Try.func71, Try.ntmps71
    go_wp2_with (first | (go_at_call 19; refine (at_any _ p a c1).mono ?_; rintro e w' ⟨rfl, rfl⟩))
    refine (unhide HN).mono ?_
    rintro e w' ⟨rfl, h1, h2⟩
    go_wp2
    go_ret
    exact ⟨rfl, h1, h2⟩

theorem upTo_nil (w : World) (most why : Int) (hm : 0 ≤ most) : Calls Try.prog 71 #[.pointer none, .int .u32 most, .int .i64 why] w fun e w' => e = .returned (.int .u32 0) ∧ w = w' := by
  go_enter Try.func71, Try.ntmps71
  go_wp2_with (first | (go_at_call 19; refine (at_nil _).mono ?_; rintro e w' ⟨rfl, rfl⟩) | (go_at_call 35; refine (ruint_nil _).mono ?_; rintro e w' ⟨rfl, rfl⟩))
  go_ret
  exact ⟨rfl, rfl⟩

/-- Bool. -/
def rbool (D : List UInt8) (a : Nat) (E : Int) : Bool × Nat × Int := (((rup D a E 1 10).1 : Int) == 1, (rup D a E 1 10).2.1, (rup D a E 1 10).2.2)

theorem rbool_any (w : World) (p : Nat) (q : Option Nat) (D : List UInt8) (a : Nat) (E : Int) (h : RAt w p q D a E) (hD : D.length ≤ maxLen) :
    Calls Try.prog 38 #[.pointer (some ⟨p, 0, none⟩)] w fun e w' => e = .returned (.bool (rbool D a E).1) ∧ RAt w' p q D (rbool D a E).2.1 (rbool D a E).2.2 ∧ Fr (fun k => k = p) w w' := by
  have HN := hide (upTo_any w p q D a E 1 10 h hD (by omega))
  unfold rbool
  generalize rup D a E 1 10 = R at *
  clear h
  go_enter Try.func38, Try.ntmps38
  go_wp2_with fail
  refine (unhide HN).mono ?_
  rintro e w' ⟨rfl, h1, h2⟩
  go_wp2
  go_ret
  exact ⟨rfl, h1, h2⟩

theorem rbool_nil (w : World) : Calls Try.prog 38 #[.pointer none] w fun e w' => e = .returned (.bool false) ∧ w = w' := by
  go_enter Try.func38, Try.ntmps38
  go_wp2_with (go_at_call 71; refine (upTo_nil _ _ _ (by omega)).mono ?_; rintro e w' ⟨rfl, rfl⟩)
  go_ret
  exact ⟨rfl, rfl⟩

theorem renum_any (w : World) (p : Nat) (q : Option Nat) (D : List UInt8) (a : Nat) (E : Int) (most : Int) (h : RAt w p q D a E) (hD : D.length ≤ maxLen) (hm : 0 ≤ most) :
    Calls Try.prog 51 #[.pointer (some ⟨p, 0, none⟩), .int .u32 most] w fun e w' => e = .returned (.int .u32 ((rup D a E most 12).1 : Int)) ∧ RAt w' p q D (rup D a E most 12).2.1 (rup D a E most 12).2.2 ∧ Fr (fun k => k = p) w w' := by
  have HN := hide (upTo_any w p q D a E most 12 h hD hm)
  generalize rup D a E most 12 = R at *
  clear h
  go_enter Try.func51, Try.ntmps51
  go_wp2_with fail
  refine (unhide HN).mono ?_
  rintro e w' ⟨rfl, h1, h2⟩
  go_wp2
  go_ret
  exact ⟨rfl, h1, h2⟩

theorem renum_nil (w : World) (most : Int) (hm : 0 ≤ most) : Calls Try.prog 51 #[.pointer none, .int .u32 most] w fun e w' => e = .returned (.int .u32 0) ∧ w = w' := by
  go_enter Try.func51, Try.ntmps51
  go_wp2_with (go_at_call 71; refine (upTo_nil _ _ _ hm).mono ?_; rintro e w' ⟨rfl, rfl⟩)
  go_ret
  exact ⟨rfl, rfl⟩

/-- length: the number, the place, the error. -/
def rlen (D : List UInt8) (a : Nat) (E : Int) (most : Int) : Nat × Nat × Int :=
  if most < ((ru D a E).1 : Int) then (if (ru D a E).2.2 = 0 then (0, a, 1) else (0, (ru D a E).2.1, (ru D a E).2.2)) else ru D a E

set_option maxHeartbeats 400000 in
theorem rlength_any (w : World) (p : Nat) (q : Option Nat) (D : List UInt8) (a : Nat) (E : Int) (most : Int) (h : RAt w p q D a E) (hD : D.length ≤ maxLen) :
    Calls Try.prog 74 #[.pointer (some ⟨p, 0, none⟩), .int .i64 most] w fun e w' => e = .returned (.int .u32 ((rlen D a E most).1 : Int)) ∧ RAt w' p q D (rlen D a E most).2.1 (rlen D a E most).2.2 ∧ Fr (fun k => k = p) w w' := by
  unfold rlen
  obtain ⟨v, h1, _, _, hal⟩ := id h
  have c1 := RAt.cell1 h1
  have HN := hide (ruint_any w p q D a E h hD)
  have hlt := ru_lt D a E
  generalize ru D a E = R at *
  obtain ⟨n, a1, E1⟩ := R
  dsimp only at *
  clear h h1
  by_cases hc : most < (n : Int)
  · rw [if_pos hc]
    by_cases hE : E1 = 0
    · rw [if_pos hE]
      subst hE
      go_enter Try.func74, Try.ntmps74
      go_wp2_with (first | (go_at_call 19; refine (at_any _ p a c1).mono ?_; rintro e w' ⟨rfl, rfl⟩))
      refine (unhide HN).mono ?_
      rintro e w' ⟨rfl, h1, h2⟩
      go_wp2_with fail
      refine (fail_ok w' p q D a1 1 a h1 hal).mono ?_
      rintro e w2 ⟨rfl, h3, h4⟩
      go_wp2
      go_ret
      exact ⟨rfl, h3, h2.trans h4 (fun _ _ h => h)⟩
    · rw [if_neg hE]
      go_enter Try.func74, Try.ntmps74
      go_wp2_with (first | (go_at_call 19; refine (at_any _ p a c1).mono ?_; rintro e w' ⟨rfl, rfl⟩))
      refine (unhide HN).mono ?_
      rintro e w' ⟨rfl, h1, h2⟩
      obtain ⟨v', h1', _⟩ := id h1
      have c2' := RAt.cell2 h1'
      clear h1'
      go_wp2_with fail
      refine (fail_er w' p E1 1 a c2' hE).mono ?_
      rintro e w2 ⟨rfl, rfl⟩
      go_wp2
      go_ret
      exact ⟨rfl, h1, h2⟩
  · rw [if_neg hc]
    go_enter Try.func74, Try.ntmps74
    go_wp2_with (first | (go_at_call 19; refine (at_any _ p a c1).mono ?_; rintro e w' ⟨rfl, rfl⟩))
    refine (unhide HN).mono ?_
    rintro e w' ⟨rfl, h1, h2⟩
    go_wp2
    go_ret
    exact ⟨rfl, h1, h2⟩

theorem rlength_nil (w : World) (most : Int) : Calls Try.prog 74 #[.pointer none, .int .i64 most] w fun e w' => e = .returned (.int .u32 0) ∧ w = w' := by
  by_cases hc : most < 0
  · go_enter Try.func74, Try.ntmps74
    go_wp2_with (first | (go_at_call 19; refine (at_nil _).mono ?_; rintro e w' ⟨rfl, rfl⟩) | (go_at_call 35; refine (ruint_nil _).mono ?_; rintro e w' ⟨rfl, rfl⟩) | (go_at_call 76; refine (fail_nil _ _ _).mono ?_; rintro e w' ⟨rfl, rfl⟩))
    go_ret
    exact ⟨rfl, rfl⟩
  · go_enter Try.func74, Try.ntmps74
    go_wp2_with (first | (go_at_call 19; refine (at_nil _).mono ?_; rintro e w' ⟨rfl, rfl⟩) | (go_at_call 35; refine (ruint_nil _).mono ?_; rintro e w' ⟨rfl, rfl⟩))
    go_ret
    exact ⟨rfl, rfl⟩

theorem rlen_lt (D : List UInt8) (a : Nat) (E : Int) (most : Int) : (rlen D a E most).1 < 4294967296 := by
  have := ru_lt D a E
  unfold rlen
  repeat' split
  all_goals first | omega | exact this

/-- counted: the bytes, the place, the error. -/
def rcnt (D : List UInt8) (a : Nat) (E : Int) (most : Int) : List UInt8 × Nat × Int := tk D (rlen D a E most).2.1 (rlen D a E most).2.2 ((rlen D a E most).1 : Int) a

theorem counted_any (w : World) (p : Nat) (q : Option Nat) (D : List UInt8) (a : Nat) (E : Int) (most : Int) (h : RAt w p q D a E) (hD : D.length ≤ maxLen) :
    Calls Try.prog 72 #[.pointer (some ⟨p, 0, none⟩), .int .i64 most] w fun e w' => ∃ v, e = .returned v ∧ Rd w' v (rcnt D a E most).1 ∧ (v.ownBlock = none ∨ v.ownBlock = q) ∧ RAt w' p q D (rcnt D a E most).2.1 (rcnt D a E most).2.2 ∧ Fr (fun k => k = p) w w' := by
  unfold rcnt
  obtain ⟨v, h1, _, _, hal⟩ := id h
  have c1 := RAt.cell1 h1
  have HN := hide (rlength_any w p q D a E most h hD)
  have hlt := rlen_lt D a E most
  generalize rlen D a E most = R at *
  obtain ⟨n, a1, E1⟩ := R
  dsimp only at *
  clear h h1
  go_enter Try.func72, Try.ntmps72
  go_wp2_with (first | (go_at_call 19; refine (at_any _ p a c1).mono ?_; rintro e w' ⟨rfl, rfl⟩))
  refine (unhide HN).mono ?_
  rintro e w1 ⟨rfl, h1, h2⟩
  go_wp2_with fail
  refine (take_any w1 p q D a1 E1 n a h1 (by omega) hD hal).mono ?_
  rintro e w2 ⟨v2, rfl, h3, h4, h5, h6⟩
  go_wp2
  go_ret
  exact ⟨_, rfl, h3, h4, h5, h2.trans h6 (fun _ _ h => h)⟩

theorem counted_nil (w : World) (most : Int) : Calls Try.prog 72 #[.pointer none, .int .i64 most] w fun e w' => e = .returned (.slice none 0 0) ∧ w = w' := by
  go_enter Try.func72, Try.ntmps72
  go_wp2_with (first | (go_at_call 19; refine (at_nil _).mono ?_; rintro e w' ⟨rfl, rfl⟩) | (go_at_call 74; refine (rlength_nil _ _).mono ?_; rintro e w' ⟨rfl, rfl⟩) | (go_at_call 73; refine (take_nil _ _ _).mono ?_; rintro e w' ⟨rfl, rfl⟩))
  go_ret
  exact ⟨rfl, rfl⟩

end Go.Proofs.Ytmnbdpdblpgnlaa
