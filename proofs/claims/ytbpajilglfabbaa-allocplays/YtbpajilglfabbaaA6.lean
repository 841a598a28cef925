/-
  The walks of TakeReserved, Give, Mark, Reserve, Release, Hold.
-/
import Derived.Test.YtbpajilglfabbaaA5
namespace Go.Proofs.Ytbpajilglfabbaa
open Go.RowKit
set_option linter.unusedVariables false

attribute [local go_sem ↓] Go.wp_at_zero Go.wp_at_succ

section
variable (w : World) (p : Nat) (X : Ly) (K : Kc)

/-- TakeReserved: what is left, the block, the error. -/
def Kc.takeR (K : Kc) (a : Int) : Kc × Int × Int :=
  if inB K.s.length a then (if K.r = 0 then (K, 0, 100) else (({ K with r := K.r - 1 } : Kc).set (pk K.s a.toNat) 2, ((pk K.s a.toNat : Nat) : Int), 0)) else (K, 0, 2)

theorem takeR_any (H : KA w p X K) (a : Int) (hr : K.r ≤ fr K.s) (hc : K.ch + 1 < 4611686018427387904) : Calls Try.prog 29 #[ptr p, .int .i64 a] w fun e w' => e = .returned (.tuple #[.int .i64 (K.takeR a).2.1, .int .i64 (K.takeR a).2.2]) ∧ KA w' p X (K.takeR a).1 ∧ Fr (Bl p X) w w' := by
  have HC := hide (check_any w p X K a H)
  have HH := hide H
  have c4 := H.c4
  have z4 := frozen_of_heap H.hd 4
  unfold Kc.takeR
  cases hi : inB K.s.length a
  · rw [hi] at HC
    simp only [Bool.false_eq_true, if_false] at HC ⊢
    unfold ptr at *
    clear H hi hr
    go_enter Try.func29, Try.ntmps29
    go_wp2_with fail
    refine (unhide HC).mono ?_
    rintro e w' ⟨rfl, rfl⟩
    go_wp2_with fail
    go_ret2
    exact ⟨rfl, unhide HH, Fr.refl _ _⟩
  · rw [hi] at HC
    obtain ⟨i, rfl, hin⟩ := in_nat hi
    simp only [if_true, Int.toNat_natCast] at HC ⊢
    by_cases h0 : K.r = 0
    · rw [if_pos h0]
      rw [h0] at c4
      clear hi H hr hc hin h0
      unfold ptr at *
      go_enter Try.func29, Try.ntmps29
      go_wp2_with fail
      refine (unhide HC).mono ?_
      rintro e w' ⟨rfl, rfl⟩
      go_wp2_with fail
      go_ret2
      exact ⟨rfl, unhide HH, Fr.refl _ _⟩
    · rw [if_neg h0]
      have hrb := H.rb
      obtain ⟨r1, hr1⟩ : ∃ r1, K.r = r1 + 1 := ⟨K.r - 1, by omega⟩
      have hK1 := H.setR r1 (by omega)
      have e1 : K.r - 1 = r1 := by omega
      rw [e1]
      have HT := hide (takeFree_any _ p X _ hK1 i (by show i ≤ K.s.length; omega) (by show 0 < fr K.s; omega) hc)
      have e2 : (K.r : Int) = (r1 : Int) + 1 := by omega
      rw [e2] at c4
      have hr64 : r1 ≤ 65536 := by omega
      have hne : ((r1 : Int) + 1 == 0) = false := by simp; omega
      clear H hr hc hin hi h0 hr1 e1 hK1 hrb e2
      unfold ptr at *
      go_enter Try.func29, Try.ntmps29
      go_wp2_with fail
      refine (unhide HC).mono ?_
      rintro e w' ⟨rfl, rfl⟩
      go_wp2_with fail
      refine (unhide HT).mono ?_
      rintro e w3 ⟨rfl, hK', hF'⟩
      have HK' := hide hK'
      have HF' := hide hF'
      clear hK' hF'
      go_wp2_with fail
      go_ret2
      exact ⟨rfl, unhide HK', ((Fr.refl _ _).setCell (p := ⟨p, 4, none⟩) (fun _ => .inl rfl) _).trans (unhide HF') (fun _ _ h => h)⟩

/-- Give: what is left, the error. -/
def Kc.give (K : Kc) (a : Int) : Kc × Int :=
  if inB K.s.length a then (if K.s[a.toNat]? = some 1 then (K.set a.toNat 3, 0) else if K.s[a.toNat]? = some 2 then (K.set a.toNat 0, 0) else (K, 101)) else (K, 2)

theorem give_any (H : KA w p X K) (a : Int) (hc : K.ch + 1 < 4611686018427387904) : Calls Try.prog 30 #[ptr p, .int .i64 a] w fun e w' => e = .returned (.int .i64 (K.give a).2) ∧ KA w' p X (K.give a).1 ∧ Fr (Bl p X) w w' := by
  have HC := hide (check_any w p X K a H)
  have HH := hide H
  have c0 := H.c0
  unfold Kc.give
  cases hi : inB K.s.length a
  · rw [hi] at HC
    simp only [Bool.false_eq_true, if_false] at HC ⊢
    unfold ptr at *
    clear H hi
    go_enter Try.func30, Try.ntmps30
    go_wp2_with fail
    refine (unhide HC).mono ?_
    rintro e w' ⟨rfl, rfl⟩
    go_wp2_with fail
    go_ret
    exact ⟨rfl, unhide HH, Fr.refl _ _⟩
  · rw [hi] at HC
    obtain ⟨i, rfl, hin⟩ := in_nat hi
    simp only [if_true, Int.toNat_natCast] at HC ⊢
    obtain ⟨v, hv⟩ := get_ex hin
    have cs := H.state hv
    have hn2 := H.n2
    have HN := hide hn2
    rw [hv]
    have H3 := hide (set_any w p X K H i 3 v hv hc)
    have H0 := hide (set_any w p X K H i 0 v hv hc)
    clear hi hc H hv
    have hn3 : K.s.length ≤ 65536 := hn2
    generalize K.s.length = n at c0 hn3 hin
    generalize n + X.xq.length = cq at c0
    by_cases h1 : v = 1
    · subst h1
      simp only [if_true]
      unfold ptr at *
      clear hn2
      go_enter Try.func30, Try.ntmps30
      go_wp2_with fail
      refine (unhide HC).mono ?_
      rintro e w' ⟨rfl, rfl⟩
      go_wp2_with fail
      refine (unhide H3).mono ?_
      rintro e w3 ⟨rfl, hK', hF'⟩
      have HK' := hide hK'
      have HF' := hide hF'
      clear hK' hF'
      go_wp2_with fail
      go_ret
      exact ⟨rfl, unhide HK', unhide HF'⟩
    · by_cases h2 : v = 2
      · subst h2
        rw [if_neg (by decide), if_pos rfl]
        unfold ptr at *
        clear hn2 h1
        go_enter Try.func30, Try.ntmps30
        go_wp2_with fail
        refine (unhide HC).mono ?_
        rintro e w' ⟨rfl, rfl⟩
        go_wp2_with fail
        refine (unhide H0).mono ?_
        rintro e w3 ⟨rfl, hK', hF'⟩
        have HK' := hide hK'
        have HF' := hide hF'
        clear hK' hF'
        go_wp2_with fail
        go_ret
        exact ⟨rfl, unhide HK', unhide HF'⟩
      · rw [if_neg (by simp [h1]), if_neg (by simp [h2])]
        have b1 : (((v.toNat : Nat) : Int) == 1) = false := by
          simp only [beq_eq_false_iff_ne, ne_eq]
          exact fun e => h1 (UInt8.toNat_inj.1 (by rw [show (1 : UInt8).toNat = 1 from rfl]; omega))
        have b2 : (((v.toNat : Nat) : Int) == 2) = false := by
          simp only [beq_eq_false_iff_ne, ne_eq]
          exact fun e => h2 (UInt8.toNat_inj.1 (by rw [show (2 : UInt8).toNat = 2 from rfl]; omega))
        clear hn2 h1 h2 H3 H0
        generalize v.toNat = vn at *
        unfold ptr at *
        go_enter Try.func30, Try.ntmps30
        go_wp2_with fail
        refine (unhide HC).mono ?_
        rintro e w' ⟨rfl, rfl⟩
        go_wp2_with fail
        go_ret
        exact ⟨rfl, unhide HH, Fr.refl _ _⟩

/-- Mark: what is left, the error. -/
def Kc.mark (K : Kc) (a : Int) : Kc × Int :=
  if inB K.s.length a then (if K.s[a.toNat]? = some 0 ∧ K.r < fr K.s then (K.set a.toNat 2, 0) else (K, 101)) else (K, 2)

theorem mark_any (H : KA w p X K) (a : Int) (hc : K.ch + 1 < 4611686018427387904) : Calls Try.prog 35 #[ptr p, .int .i64 a] w fun e w' => e = .returned (.int .i64 (K.mark a).2) ∧ KA w' p X (K.mark a).1 ∧ Fr (Bl p X) w w' := by
  have HC := hide (check_any w p X K a H)
  have HS := hide (spare_any w p X K H)
  have HH := hide H
  have c0 := H.c0
  unfold Kc.mark
  cases hi : inB K.s.length a
  · rw [hi] at HC
    simp only [Bool.false_eq_true, if_false] at HC ⊢
    unfold ptr at *
    clear H hi
    go_enter Try.func35, Try.ntmps35
    go_wp2_with fail
    refine (unhide HC).mono ?_
    rintro e w' ⟨rfl, rfl⟩
    go_wp2_with fail
    go_ret
    exact ⟨rfl, unhide HH, Fr.refl _ _⟩
  · rw [hi] at HC
    obtain ⟨i, rfl, hin⟩ := in_nat hi
    simp only [if_true, Int.toNat_natCast] at HC ⊢
    obtain ⟨v, hv⟩ := get_ex hin
    have cs := H.state hv
    have hn2 := H.n2
    rw [hv]
    have H3 : Hid (∀ w2, Fr (fun _ => False) w w2 → Calls Try.prog 42 #[.pointer (some ⟨p, 0, none⟩), .int .i64 (i : Int), .int .u8 2] w2 fun e w' => e = .returned (.tuple #[]) ∧ KA w' p X (K.set i 2) ∧ Fr (Bl p X) w2 w') := hide (fun w2 f2 => set_any w2 p X K (H.kept f2 (fun _ _ h => h)) i 2 v hv hc)
    clear hi hc H hv
    have hn3 : K.s.length ≤ 65536 := hn2
    generalize K.s.length = n at c0 hn3 hin
    generalize n + X.xq.length = cq at c0
    clear hn2
    by_cases h1 : v = 0
    · subst h1
      by_cases hr : K.r < fr K.s
      · rw [decide_eq_true hr] at HS
        rw [if_pos ⟨rfl, hr⟩]
        clear hr
        unfold ptr at *
        go_enter Try.func35, Try.ntmps35
        go_wp2_with fail
        refine (unhide HC).mono ?_
        rintro e w' ⟨rfl, rfl⟩
        go_wp2_with fail
        refine (unhide HS).mono ?_
        rintro e w2 ⟨rfl, f2⟩
        have HT2 := hide (unhide H3 w2 f2)
        have HF2 := hide f2
        clear f2
        go_wp2_with fail
        refine (unhide HT2).mono ?_
        rintro e w3 ⟨rfl, hK', hF'⟩
        have HK' := hide hK'
        have HF' := hide hF'
        clear hK' hF'
        go_wp2_with fail
        go_ret
        exact ⟨rfl, unhide HK', ((unhide HF2).mono (fun _ _ h => h.elim)).trans (unhide HF') (fun _ _ h => h)⟩
      · rw [decide_eq_false hr] at HS
        rw [if_neg (fun h => hr h.2)]
        clear hr
        unfold ptr at *
        go_enter Try.func35, Try.ntmps35
        go_wp2_with fail
        refine (unhide HC).mono ?_
        rintro e w' ⟨rfl, rfl⟩
        go_wp2_with fail
        refine (unhide HS).mono ?_
        rintro e w2 ⟨rfl, f2⟩
        have HF2 := hide f2
        clear f2
        go_wp2_with fail
        go_ret
        exact ⟨rfl, (unhide HH).kept (unhide HF2) (fun _ _ h => h), (unhide HF2).mono (fun _ _ h => h.elim)⟩
    · rw [if_neg (fun h => h1 (by simpa using h.1))]
      have b1 : (((v.toNat : Nat) : Int) != 0) = true := by
        simp only [bne_iff_ne, ne_eq]
        exact fun e => h1 (toNat_zero.1 (by omega))
      clear h1 H3
      generalize v.toNat = vn at *
      unfold ptr at *
      go_enter Try.func35, Try.ntmps35
      go_wp2_with fail
      refine (unhide HC).mono ?_
      rintro e w' ⟨rfl, rfl⟩
      go_wp2_with fail
      go_ret
      exact ⟨rfl, unhide HH, Fr.refl _ _⟩

/-- Reserve: what is left, the error. -/
def Kc.reserve (K : Kc) (n : Int) : Kc × Int :=
  if n < 0 then (K, 2) else if (fr K.s : Int) - (K.r : Int) < n then (K, 100) else ({ K with r := K.r + n.toNat }, 0)

theorem reserve_any (H : KA w p X K) (n : Int) : Calls Try.prog 31 #[ptr p, .int .i64 n] w fun e w' => e = .returned (.int .i64 (K.reserve n).2) ∧ KA w' p X (K.reserve n).1 ∧ Fr (Bl p X) w w' := by
  have HH := hide H
  have c3 := H.c3
  have c4 := H.c4
  have z4 := frozen_of_heap H.hd 4
  have hfl := Nat.le_trans (fr_le K.s) H.n2
  have hrb := H.rb
  unfold Kc.reserve
  by_cases h0 : n < 0
  · have b1 : decide (n < 0) = true := by simpa using h0
    rw [if_pos h0]
    clear H h0
    unfold ptr at *
    go_enter Try.func31, Try.ntmps31
    go_wp2_with fail
    go_ret
    exact ⟨rfl, unhide HH, Fr.refl _ _⟩
  · have b1 : decide (n < 0) = false := by simpa using h0
    rw [if_neg h0]
    by_cases h1 : (fr K.s : Int) - (K.r : Int) < n
    · rw [if_pos h1]
      have b2 : decide ((fr K.s : Int) - (K.r : Int) < n) = true := by simpa using h1
      clear H h0 h1
      generalize fr K.s = f at *
      generalize K.r = r at *
      unfold ptr at *
      go_enter Try.func31, Try.ntmps31
      go_wp2_with fail
      go_quiet (fail)
      go_wp2_with fail
      go_ret
      exact ⟨rfl, (unhide HH).kept (Fr.ofDrewN _ _ : Fr (fun _ => False) _ _) (fun _ _ h => h), Fr.ofDrewN _ _⟩
    · rw [if_neg h1]
      obtain ⟨m, rfl⟩ : ∃ m : Nat, n = (m : Int) := ⟨n.toNat, by omega⟩
      have b2 : decide ((fr K.s : Int) - (K.r : Int) < (m : Int)) = false := by simpa using h1
      have hm : K.r + m ≤ 65536 := by omega
      have hK : Hid (∀ k, KA ((w.drewN k).setCell ⟨p, 4, none⟩ (.int .i64 ((K.r : Int) + (m : Int)))) p X { K with r := K.r + m }) := hide (fun k => by
        have := (H.kept (Fr.ofDrewN w k : Fr (fun _ => False) _ _) (fun _ _ h => h)).setR (K.r + m) hm
        rw [Int.natCast_add] at this
        exact this)
      rw [Int.toNat_natCast]
      clear H h0 h1 HH
      generalize fr K.s = f at *
      obtain ⟨r, hr⟩ : ∃ r, r = K.r := ⟨_, rfl⟩
      rw [← hr] at hK c4 hm hrb b2 ⊢
      clear hr
      unfold ptr at *
      go_enter Try.func31, Try.ntmps31
      go_wp2_with fail
      go_quiet (fail)
      go_wp2_with fail
      go_ret
      exact ⟨rfl, unhide hK _, (Fr.ofDrewN _ _).setCell (p := ⟨p, 4, none⟩) (fun _ => .inl rfl) _⟩

/-- Release: what is left, the error. -/
def Kc.release (K : Kc) (n : Int) : Kc × Int :=
  if n < 0 ∨ (K.r : Int) < n then (K, 2) else ({ K with r := K.r - n.toNat }, 0)

theorem release_any (H : KA w p X K) (n : Int) : Calls Try.prog 36 #[ptr p, .int .i64 n] w fun e w' => e = .returned (.int .i64 (K.release n).2) ∧ KA w' p X (K.release n).1 ∧ Fr (Bl p X) w w' := by
  have HH := hide H
  have c4 := H.c4
  have z4 := frozen_of_heap H.hd 4
  have hrb := H.rb
  unfold Kc.release
  by_cases h0 : n < 0
  · have b1 : decide (n < 0) = true := by simpa using h0
    rw [if_pos (.inl h0)]
    clear H h0
    unfold ptr at *
    go_enter Try.func36, Try.ntmps36
    go_wp2_with fail
    go_ret
    exact ⟨rfl, unhide HH, Fr.refl _ _⟩
  · have b1 : decide (n < 0) = false := by simpa using h0
    by_cases h1 : (K.r : Int) < n
    · rw [if_pos (.inr h1)]
      have b2 : decide ((K.r : Int) < n) = true := by simpa using h1
      clear H h0 h1
      generalize K.r = r at *
      unfold ptr at *
      go_enter Try.func36, Try.ntmps36
      go_wp2_with fail
      go_ret
      exact ⟨rfl, unhide HH, Fr.refl _ _⟩
    · rw [if_neg (by omega)]
      obtain ⟨m, rfl⟩ : ∃ m : Nat, n = (m : Int) := ⟨n.toNat, by omega⟩
      have b2 : decide (K.r < m) = false := by simp; omega
      rw [Int.toNat_natCast]
      obtain ⟨d, hd⟩ : ∃ d, K.r = d + m := ⟨K.r - m, by omega⟩
      have hK := hide (H.setR d (by omega))
      have e1 : K.r - m = d := by omega
      have e2 : (K.r : Int) = (d : Int) + (m : Int) := by omega
      rw [e1]
      rw [e2] at c4
      have hdm : d + m ≤ 65536 := by omega
      have b3 : decide (d + m < m) = false := by simp
      clear H h0 h1 HH hd hrb e1 e2 b2
      unfold ptr at *
      go_enter Try.func36, Try.ntmps36
      go_wp2_with fail
      go_ret
      exact ⟨rfl, unhide hK, (Fr.refl _ _).setCell (p := ⟨p, 4, none⟩) (fun _ => .inl rfl) _⟩

theorem hold_any (H : KA w p X K) (hc : K.h + 1 < 4611686018427387904) : Calls Try.prog 33 #[ptr p] w fun e w' => e = .returned (.tuple #[]) ∧ KA w' p X { K with h := K.h + 1 } ∧ Fr (Bl p X) w w' := by
  have c5 := H.c5
  have z5 := frozen_of_heap H.hd 5
  have hK := H.setH (K.h + 1) hc
  rw [Int.natCast_add] at hK
  have HK := hide hK
  clear H hK
  obtain ⟨h, hh⟩ : ∃ h, h = K.h := ⟨_, rfl⟩
  rw [← hh] at c5 HK hc ⊢
  clear hh
  unfold ptr
  go_enter Try.func33, Try.ntmps33
  go_wp2_with fail
  go_end0
  exact ⟨rfl, unhide HK, (Fr.refl _ _).setCell (p := ⟨p, 5, none⟩) (fun _ => .inl rfl) _⟩
end
end Go.Proofs.Ytbpajilglfabbaa
