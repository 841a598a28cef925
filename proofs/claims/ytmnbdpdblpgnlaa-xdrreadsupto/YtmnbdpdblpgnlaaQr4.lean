/-
  The walks of the document's own reader, on: Fixed, Opaque, Hyper.
-/
import Derived.Test.YtmnbdpdblpgnlaaQr3
namespace Go.Proofs.Ytmnbdpdblpgnlaa
open Go.RowKit
set_option linter.unusedVariables false

attribute [local go_sem ↓] Go.wp_at_zero Go.wp_at_succ

/-- New bytes, in memory newer than w. -/
def NB (w w' : World) (v : Value) (l : List UInt8) : Prop := w'.ownsRow 0 5 1 v l.length (bvs l) ∧ ∀ k, v.ownBlock = some k → w.heap.size ≤ k

theorem NB.nil (w w' : World) : NB w w' (.slice none 0 0) [] := ⟨World.ownsRow_nil _ _ _ _, fun k h => by simp [Value.ownBlock] at h⟩

theorem qbytes_any (w : World) (p : Nat) (q : Option Nat) (D : List UInt8) (a : Nat) (E : Int) (n : Int) (fr : Nat) (h : QAt w p q D a E) (hn : n ≤ 9223372036854775807) (hD : D.length ≤ 1099511627776) (hfr : fr ≤ D.length) :
    Calls Try.prog 78 #[.pointer (some ⟨p, 0, none⟩), .int .i64 n, .int .i64 (fr : Int)] w fun e w' => ∃ v, e = .returned v ∧ NB w w' v (tk D a E n fr).1 ∧ QAt w' p q D (tk D a E n fr).2.1 (tk D a E n fr).2.2 ∧ Fr (fun k => k = p) w w' := by
  unfold tk
  by_cases h0 : n ≤ 0 ∨ E ≠ 0
  · refine (qbytes_no w p E n fr h.cell2' (by rcases h0 with h | h; exact .inr h; exact .inl h)).mono ?_
    rintro e w' ⟨rfl, rfl⟩
    rw [if_pos h0]
    exact ⟨_, rfl, NB.nil _ _, h, Fr.refl _ _⟩
  · rw [if_neg h0]
    have hE : E = 0 := by
      rcases Classical.em (E = 0) with e | e
      · exact e
      · exact absurd (Or.inr e) h0
    subst hE
    have h0' : 0 < n := by
      rcases Classical.em (n ≤ 0) with e | e
      · exact absurd (Or.inl e) h0
      · omega
    obtain ⟨m, rfl⟩ := Int.eq_ofNat_of_zero_le (show 0 ≤ n by omega)
    rw [Int.toNat_natCast]
    have hal := h.le
    by_cases hs : D.length - a < m + (4 - m % 4) % 4
    · rw [if_pos hs]
      refine (qbytes_short w p q D a m fr h (by omega) (by omega) hD hs hfr).mono ?_
      rintro e w' ⟨rfl, h1, h2⟩
      exact ⟨_, rfl, NB.nil _ _, h1, h2⟩
    · rw [if_neg hs]
      by_cases hz : (D.drop (a + m)).take ((4 - m % 4) % 4) = pad m
      · rw [if_pos hz]
        refine (qbytes_ok w p q D a m fr h (by omega) hD (by omega) hz).mono ?_
        rintro e w' ⟨v, rfl, h1, h2, h3, h4⟩
        have hln : ((D.drop a).take m).length = m := by simp; omega
        exact ⟨v, rfl, ⟨by dsimp only; rw [hln]; exact h1, h2⟩, h3, h4⟩
      · rw [if_neg hz]
        have hlen : ((D.drop (a + m)).take ((4 - m % 4) % 4)).length = (4 - m % 4) % 4 := by
          simp only [List.length_take, List.length_drop]; omega
        obtain ⟨k, hk, h3, h4⟩ := first_bad _ _ hlen hz
        rw [hlen] at hk
        refine (qbytes_pad w p q D a m fr h (by omega) hD (by omega) hfr k hk ?_ ?_).mono ?_
        · intro j hj h5 h6
          have := h3 (j - (a + m)) (by rw [hlen]; omega) (by omega)
          simp only [List.getElem_take, List.getElem_drop] at this
          rw [← this]
          congr 1
          omega
        · intro hj
          simp only [List.getElem_take, List.getElem_drop] at h4
          exact h4
        · rintro e w' ⟨rfl, h1, h2⟩
          exact ⟨_, rfl, NB.nil _ _, h1, h2⟩

theorem NB.shape {w w' : World} {v : Value} {l : List UInt8} (h : NB w w' v l) : ∃ ao cap, v = .slice ao l.length cap := owns_shape h.1

theorem qfixed_any (w : World) (p : Nat) (q : Option Nat) (D : List UInt8) (a : Nat) (E : Int) (n : Int) (h : QAt w p q D a E) (hn : n ≤ 9223372036854775807) (hD : D.length ≤ 1099511627776) :
    Calls Try.prog 62 #[.pointer (some ⟨p, 0, none⟩), .int .i64 n] w fun e w' => ∃ v, e = .returned v ∧ NB w w' v (tk D a E n a).1 ∧ QAt w' p q D (tk D a E n a).2.1 (tk D a E n a).2.2 ∧ Fr (fun k => k = p) w w' := by
  have c1 := h.cell1'
  have HT := hide (qbytes_any w p q D a E n a h hn hD h.le)
  clear h
  go_enter Try.func62, Try.ntmps62
  go_wp2_with fail
  refine (unhide HT).mono ?_
  rintro e w' ⟨v, rfl, h1, h2, h3⟩
  go_wp2_with fail
  go_ret
  exact ⟨_, rfl, h1, h2, h3⟩

theorem tk_n0 (D : List UInt8) (a : Nat) (E : Int) (fr : Nat) : tk D a E 0 fr = ([], a, E) := by simp [tk]
theorem tk_er (D : List UInt8) (a : Nat) (E n : Int) (fr : Nat) (hE : E ≠ 0) : tk D a E n fr = ([], a, E) := by unfold tk; rw [if_pos (.inr hE)]

set_option maxHeartbeats 800000 in
theorem qopaque_any (w : World) (p : Nat) (q : Option Nat) (D : List UInt8) (a : Nat) (E : Int) (most : Int) (h : QAt w p q D a E) (hm1 : -9223372036854775808 ≤ most) (hm2 : most ≤ 9223372036854775807) (hD : D.length ≤ 1099511627776) :
    Calls Try.prog 63 #[.pointer (some ⟨p, 0, none⟩), .int .i64 most] w fun e w' => ∃ v, e = .returned v ∧ NB w w' v (rcnt D a E most).1 ∧ QAt w' p q D (rcnt D a E most).2.1 (rcnt D a E most).2.2 ∧ Fr (fun k => k = p) w w' := by
  have c1 := h.cell1'
  have hal := h.le
  have HU := hide (quint_any w p q D a E h hD)
  have HE := hide (ru_err D a E)
  have hlt := ru_lt D a E
  unfold rcnt rlen
  generalize ru D a E = R at *
  obtain ⟨n, a1, E1⟩ := R
  dsimp only at *
  clear h
  by_cases hE1 : E1 = 0
  · subst hE1
    by_cases hc : most < (n : Int)
    · rw [if_pos hc, if_pos rfl]
      have ht : tk D a 1 ((0 : Nat) : Int) a = ([], a, 1) := tk_er _ _ _ _ _ (by simp)
      dsimp only
      rw [ht]
      clear ht
      by_cases hneg : most < 0
      · go_enter Try.func63, Try.ntmps63
        go_wp2_with fail
        refine (unhide HU).mono ?_
        rintro e w1 ⟨rfl, r1, f1⟩
        have c2 := r1.cell2'
        go_wp2_with fail
        refine (qfail_ok w1 p q D a1 1 a r1 hal (by omega)).mono ?_
        rintro e w2 ⟨rfl, r2, f2⟩
        go_wp2_with fail
        go_ret
        exact ⟨_, rfl, NB.nil _ _, r2, f1.trans f2 (fun _ _ h => h)⟩
      · obtain ⟨m, rfl⟩ := Int.eq_ofNat_of_zero_le (show 0 ≤ most by omega)
        go_enter Try.func63, Try.ntmps63
        go_wp2_with fail
        refine (unhide HU).mono ?_
        rintro e w1 ⟨rfl, r1, f1⟩
        have c2 := r1.cell2'
        go_wp2_with fail
        refine (qfail_ok w1 p q D a1 1 a r1 hal (by omega)).mono ?_
        rintro e w2 ⟨rfl, r2, f2⟩
        go_wp2_with fail
        go_ret
        exact ⟨_, rfl, NB.nil _ _, r2, f1.trans f2 (fun _ _ h => h)⟩
    · rw [if_neg hc]
      obtain ⟨m, rfl⟩ := Int.eq_ofNat_of_zero_le (show 0 ≤ most by omega)
      by_cases hbig : (D.length : Int) < (n : Int)
      · have htk : tk D a1 0 (n : Int) a = ([], a, 3) := by
          unfold tk
          have hc1 : ¬ ((n : Int) ≤ 0 ∨ (0 : Int) ≠ 0) := by
            rintro (h | h)
            · omega
            · exact h rfl
          rw [if_neg hc1, Int.toNat_natCast, if_pos (by omega)]
        rw [htk]
        go_enter Try.func63, Try.ntmps63
        go_wp2_with fail
        refine (unhide HU).mono ?_
        rintro e w1 ⟨rfl, r1, f1⟩
        have c2 := r1.cell2'
        obtain ⟨v1, hp1, _, ho1, _⟩ := id r1
        obtain ⟨ao1, cap1, rfl⟩ := owns_shape ho1
        have c0 := QAt.cell0 hp1
        clear hp1 ho1
        go_wp2_with fail
        refine (qfail_ok w1 p q D a1 3 a r1 hal (by omega)).mono ?_
        rintro e w2 ⟨rfl, r2, f2⟩
        go_wp2_with fail
        go_ret
        exact ⟨_, rfl, NB.nil _ _, r2, f1.trans f2 (fun _ _ h => h)⟩
      · go_enter Try.func63, Try.ntmps63
        go_wp2_with fail
        refine (unhide HU).mono ?_
        rintro e w1 ⟨rfl, r1, f1⟩
        have c2 := r1.cell2'
        obtain ⟨v1, hp1, _, ho1, _⟩ := id r1
        obtain ⟨ao1, cap1, rfl⟩ := owns_shape ho1
        have c0 := QAt.cell0 hp1
        clear hp1 ho1
        go_wp2_with fail
        refine (qbytes_any w1 p q D a1 0 n a r1 (by omega) hD hal).mono ?_
        rintro e w2 ⟨v2, rfl, o2, r2, f2⟩
        go_wp2_with fail
        go_ret
        exact ⟨_, rfl, ⟨o2.1, fun k hk => Nat.le_trans f1.size (o2.2 k hk)⟩, r2, f1.trans f2 (fun _ _ h => h)⟩
  · have hn0 := unhide HE hE1
    subst hn0
    have hb : (E1 != 0) = true := by simpa using hE1
    have hfin : (tk D (if most < ((0 : Nat) : Int) then (if E1 = 0 then ((0 : Nat), a, (1 : Int)) else (0, a1, E1)) else (0, a1, E1)).2.1 (if most < ((0 : Nat) : Int) then (if E1 = 0 then ((0 : Nat), a, (1 : Int)) else (0, a1, E1)) else (0, a1, E1)).2.2 ((if most < ((0 : Nat) : Int) then (if E1 = 0 then ((0 : Nat), a, (1 : Int)) else (0, a1, E1)) else (0, a1, E1)).1 : Int) a) = ([], a1, E1) := by
      rw [if_neg hE1]
      split <;> exact tk_er _ _ _ _ _ hE1
    rw [hfin]
    clear hfin
    go_enter Try.func63, Try.ntmps63
    go_wp2_with fail
    refine (unhide HU).mono ?_
    rintro e w1 ⟨rfl, r1, f1⟩
    have c2 := r1.cell2'
    go_wp2_with fail
    go_ret
    exact ⟨_, rfl, NB.nil _ _, r1, f1⟩

theorem numOf_app' (x y : List UInt8) : numOf (x ++ y) = numOf x * 256 ^ y.length + numOf y := by
  induction y generalizing x with
  | nil => simp [numOf]
  | cons b y ih =>
    have e1 : x ++ b :: y = (x ++ [b]) ++ y := by simp
    have e2 : b :: y = [b] ++ y := rfl
    rw [e1, ih, numOf_snoc, e2, ih]
    simp only [List.length_append, List.length_cons, List.length_nil, Nat.zero_add]
    rw [show 1 + y.length = y.length + 1 from by omega, Nat.pow_succ]
    have : numOf [b] = b.toNat := by simp [numOf]
    rw [this, Nat.add_mul, Nat.mul_assoc, Nat.mul_comm 256, Nat.add_assoc]

/-- Hyper, out of two numbers. -/
theorem rh_two (D : List UInt8) (a : Nat) (h : a + 8 ≤ D.length) : (rh D a 0).2.1 = a + 8 ∧ (rh D a 0).2.2 = 0 ∧ ru D a 0 = ((ru D a 0).1, a + 4, 0) ∧ ru D (a + 4) 0 = ((ru D (a + 4) 0).1, a + 8, 0) ∧ (rh D a 0).1 = (ru D a 0).1 * 4294967296 + (ru D (a + 4) 0).1 := by
  have e8 : tk D a 0 8 a = ((D.drop a).take 8, a + 8, 0) := by
    unfold tk
    rw [if_neg (by simp), if_neg (by simp; omega), if_pos (by simp [pad])]
    rfl
  have e4 := tk4_ok D a (by omega)
  have e5 := tk4_ok D (a + 4) (by omega)
  have hx : numOf ((D.drop a).take 8) = numOf ((D.drop a).take 4) * 4294967296 + numOf ((D.drop (a + 4)).take 4) := by
    rw [show (8 : Nat) = 4 + 4 from rfl, List.take_add, List.drop_drop, numOf_app']
    have : ((D.drop (a + 4)).take 4).length = 4 := by simp; omega
    rw [this]
  unfold rh ru
  rw [e8, e4, e5]
  exact ⟨rfl, rfl, rfl, rfl, hx⟩

theorem rh_short (D : List UInt8) (a : Nat) (h : ¬ a + 8 ≤ D.length) (ha : a ≤ D.length) : rh D a 0 = (0, a, 3) := by
  have e8 : tk D a 0 8 a = ([], a, 3) := by
    unfold tk
    rw [if_neg (by simp), if_pos (by simp; omega)]
  unfold rh
  rw [e8]; rfl

theorem rh_er (D : List UInt8) (a : Nat) (E : Int) (hE : E ≠ 0) : rh D a E = (0, a, E) := by
  unfold rh
  rw [tk_er _ _ _ _ _ hE]; rfl

theorem shl32 (x y : Nat) (hx : x < 4294967296) (hy : y < 4294967296) : IntKind.u64.wrap ((x : Int) * 4294967296 + (y : Int)) = ((x * 4294967296 + y : Nat) : Int) := by
  simp only [IntKind.wrap, IntKind.bits, IntKind.signed]; simp; omega

set_option maxHeartbeats 800000 in
theorem qhyper_any (w : World) (p : Nat) (q : Option Nat) (D : List UInt8) (a : Nat) (E : Int) (h : QAt w p q D a E) (hD : D.length ≤ 1099511627776) :
    Calls Try.prog 60 #[.pointer (some ⟨p, 0, none⟩)] w fun e w' => e = .returned (.int .u64 ((rh D a E).1 : Int)) ∧ QAt w' p q D (rh D a E).2.1 (rh D a E).2.2 ∧ Fr (fun k => k = p) w w' := by
  have c1 := h.cell1'
  have c2 := h.cell2'
  have hal := h.le
  by_cases hE : E = 0
  · subst hE
    obtain ⟨v1, hp1, _, ho1, _⟩ := id h
    obtain ⟨ao1, cap1, rfl⟩ := owns_shape ho1
    have c0 := QAt.cell0 hp1
    have HL := hide (qleft_any w p a D.length ao1 cap1 c0 c1 hal (by unfold maxLen; omega))
    clear hp1 ho1 c0
    by_cases hs : a + 8 ≤ D.length
    · obtain ⟨k1, k2, k3, k4, k5⟩ := rh_two D a hs
      have l1 := ru_lt D a 0
      have l2 := ru_lt D (a + 4) 0
      have HU := hide (fun (W : World) (r : QAt W p q D a 0) => quint_any W p q D a 0 r hD)
      have HU2 := hide (fun (W : World) (r : QAt W p q D (a + 4) 0) => quint_any W p q D (a + 4) 0 r hD)
      have hlt : ¬ (D.length : Int) - (a : Int) < 8 := by omega
      rw [k1, k2, k5]
      rw [k3] at HU
      rw [k4] at HU2
      dsimp only at HU HU2
      generalize (ru D a 0).1 = x at *
      generalize (ru D (a + 4) 0).1 = y at *
      have HX := hide (shl32 x y l1 l2)
      clear k1 k2 k3 k4 k5
      go_enter Try.func60, Try.ntmps60
      go_wp2_with fail
      refine (unhide HL).mono ?_
      rintro e w1 ⟨rfl, q1⟩
      go_wp2_with fail
      refine (unhide HU _ (h.kept (q1.fr (fun _ => False)) id (fun _ _ h => h))).mono ?_
      rintro e w2 ⟨rfl, r2, f2⟩
      go_wp2_with fail
      refine (unhide HU2 _ r2).mono ?_
      rintro e w3 ⟨rfl, r3, f3⟩
      go_wp2_with fail
      go_ret
      refine ⟨?_, r3, ((q1.fr _).trans f2 (fun _ _ h => h)).trans f3 (fun _ _ h => h)⟩
      exact congrArg (fun z => Ending.returned (Value.int .u64 z)) (show (x : Int) * 4294967296 + (y : Int) = ((x * 4294967296 + y : Nat) : Int) by omega)
    · rw [rh_short D a hs hal]
      have hlt : (D.length : Int) - (a : Int) < 8 := by omega
      go_enter Try.func60, Try.ntmps60
      go_wp2_with fail
      refine (unhide HL).mono ?_
      rintro e w1 ⟨rfl, q1⟩
      have h1 := h.kept (q1.fr (fun _ => False)) id (fun _ _ h => h)
      have d1 := h1.cell1'
      go_wp2_with fail
      refine (qfail_ok w1 p q D a 3 a h1 hal (by omega)).mono ?_
      rintro e w2 ⟨rfl, r2, f2⟩
      have HU := hide (fun (W : World) (r : QAt W p q D a 3) => quint_any W p q D a 3 r hD)
      rw [ru_err' D a 3 (by omega)] at HU
      go_wp2_with fail
      refine (unhide HU _ r2).mono ?_
      rintro e w3 ⟨rfl, r3, f3⟩
      go_wp2_with fail
      refine (unhide HU _ r3).mono ?_
      rintro e w4 ⟨rfl, r4, f4⟩
      go_wp2_with fail
      go_ret
      exact ⟨rfl, r4, (((q1.fr _).trans f2 (fun _ _ h => h)).trans f3 (fun _ _ h => h)).trans f4 (fun _ _ h => h)⟩
  · rw [rh_er D a E hE]
    have hb : (E == 0) = false := by simpa using hE
    have HU := hide (fun (W : World) (r : QAt W p q D a E) => quint_any W p q D a E r hD)
    rw [ru_err' D a E hE] at HU
    go_enter Try.func60, Try.ntmps60
    go_wp2_with fail
    refine (unhide HU _ h).mono ?_
    rintro e w3 ⟨rfl, r3, f3⟩
    go_wp2_with fail
    refine (unhide HU _ r3).mono ?_
    rintro e w4 ⟨rfl, r4, f4⟩
    go_wp2_with fail
    go_ret
    exact ⟨rfl, r4, f3.trans f4 (fun _ _ h => h)⟩

end Go.Proofs.Ytmnbdpdblpgnlaa
