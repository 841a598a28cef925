/-
  The document's allocator: the walks of Give, Mark, Reserve, Release.
-/
import Derived.Test.YtbpajilglfabbaaC3
namespace Go.Proofs.Ytbpajilglfabbaa
open Go.RowKit
set_option linter.unusedVariables false

attribute [local go_sem ↓] Go.wp_at_zero Go.wp_at_succ

def Rc.give (M : Rc) (a : Int) : Rc × Int :=
  if inB M.s.length a then (if M.s[a.toNat]? = some 1 then ({ M with s := M.s.set a.toNat 3, g := M.g ++ [a.toNat] }, 0) else if M.s[a.toNat]? = some 2 then ({ M with s := M.s.set a.toNat 0, t := wo M.t a.toNat }, 0) else (M, 101)) else (M, 2)
def Rc.mark (M : Rc) (a : Int) : Rc × Int :=
  if inB M.s.length a then (if M.s[a.toNat]? = some 0 ∧ M.r < fr M.s then (M.tk a.toNat, 0) else (M, 101)) else (M, 2)
def Rc.reserve (M : Rc) (n : Int) : Rc × Int :=
  if n < 0 then (M, 2) else if (fr M.s : Int) - (M.r : Int) < n then (M, 100) else ({ M with r := M.r + n.toNat }, 0)
def Rc.release (M : Rc) (n : Int) : Rc × Int :=
  if n < 0 ∨ (M.r : Int) < n then (M, 2) else ({ M with r := M.r - n.toNat }, 0)

section
variable (w : World) (p : Nat) (Y : Lr) (M : Rc)

set_option maxHeartbeats 1000000 in
theorem rGive_any (H : RA w p Y M) (a : Int) (hl : M.g.length < 1000000) : Calls Try.prog 46 #[ptr p, .int .i64 a] w fun e w' => e = .returned (.int .i64 (M.give a).2) ∧ RE w p Y (M.give a).1 w' := by
  obtain ⟨inf, hi0, hz0, hz1, hz2⟩ := info_parts Try.info3
  have HI := hide (rin_any w p Y M H a)
  have HH := hide H
  have c0 := H.c0
  have c1 := H.c1
  have c2 := H.c2
  have hpq := H.pq
  unfold Rc.give
  cases hi : inB M.s.length a
  · rw [hi] at HI
    simp only [Bool.false_eq_true, if_false]
    unfold ptr at *
    clear H hi
    go_enter Try.func46, Try.ntmps46
    go_wp2_with fail
    refine (unhide HI).mono ?_
    rintro e w' ⟨rfl, rfl⟩
    go_wp2_with fail
    go_ret
    exact ⟨rfl, RE.refl (unhide HH)⟩
  · rw [hi] at HI
    obtain ⟨b, rfl, hin⟩ := in_nat hi
    simp only [if_true, Int.toNat_natCast]
    obtain ⟨v, hv⟩ := get_ex hin
    have cs := H.state hv
    have zb := frozen_of_heap H.st b
    have hn2 := H.n2
    rw [hv]
    have hn3 : M.s.length ≤ 65536 := hn2
    by_cases h1 : v = 1
    · subst h1
      simp only [if_true]
      have H1 := H.setS b 3
      obtain ⟨tao, tc, hts⟩ := H.gs
      have HTS := hide hts
      rw [hts] at c2
      have HTO := hide H1.gO
      rw [hts] at HTO
      obtain ⟨tl, htl⟩ : ∃ n, n = M.g.length := ⟨_, rfl⟩
      have HTO2 : Hid ((w.setCell ⟨Y.q, b, none⟩ (.int .i64 3)).ownsRow 0 3 1 (.slice tao tl tc) tl (ivs M.g)) := hide (by rw [htl]; exact unhide HTO)
      rw [← htl] at c2 HTS hl
      have HTL := hide htl
      clear H hi H1 hts htl hv HTO
      generalize M.s.length = n at c0 hn3 hin hn2
      unfold ptr at *
      go_enter Try.func46, Try.ntmps46
      go_wp2_with fail
      refine (unhide HI).mono ?_
      rintro e w' ⟨rfl, rfl⟩
      go_wp2_with (at_builtin; refine wpList_app rfl (.tmp 28) (.tmp 30) 51 rfl 3 inf _ 1 8 Try.underlying51 hi0 hz0 hz1 hz2 rfl (by decide) (.slice tao tl tc) tl (ivs M.g) rfl (.slice (some ⟨w.heap.size, 0, none⟩) 1 1) rfl 1 [.int .i64 (b : Int)] ((unhide HTO2).alloc _) (one_cellS w _ _ _ 3) (fun u hu => by simp at hu; subst hu; rfl) (by omega) (by simp only [maxLen]; omega) ?_)
      intro ao4 ac4 w4 o4 g4 p4
      obtain ⟨d1, z1, HE⟩ := (unhide HH).gvEnd b 3 (unhide HTL) hl (unhide HTS) _ o4 g4 p4
      have HE := hide HE
      clear o4 g4 p4
      go_wp2_with fail
      go_ret
      exact ⟨rfl, unhide HE⟩
    · by_cases h2 : v = 2
      · subst h2
        rw [if_neg (by decide), if_pos rfl]
        have H1 := H.setS b 0
        have HR1 := hide H1
        have hrd : RdV (w.setCell ⟨Y.q, b, none⟩ (.int .i64 (((0 : UInt8).toNat : Nat) : Int))) Y.tv (ivs M.t) := by
          refine RdV.of_owns (base := 0) (e := 3) ?_
          rw [ivs_length]
          exact H1.tO
        have HW := hide (without_any _ Y.tv M.t hrd H1.tb b)
        obtain ⟨tao, tc, hts⟩ := H.ts
        rw [hts] at c1 HW
        have HTB := hide H1.tb
        obtain ⟨tl, htl⟩ : ∃ n, n = M.t.length := ⟨_, rfl⟩
        rw [← htl] at c1 HW
        clear H hi H1 hts htl hv hrd h1
        generalize M.s.length = n at c0 hn3 hin hn2
        unfold ptr at *
        go_enter Try.func46, Try.ntmps46
        go_wp2_with fail
        refine (unhide HI).mono ?_
        rintro e w' ⟨rfl, rfl⟩
        go_wp2_with fail
        refine (unhide HW).mono ?_
        rintro e w4 ⟨⟨y, rfl, hy⟩, f4⟩
        obtain ⟨ao, N, c, rfl, hN, hO, hb⟩ := hy
        have f4' : Fr (fun k => Y.tv.ownBlock = some k) _ w4 := f4.mono (fun _ _ h => h.elim)
        have hp4 : w4.heap[p]? = _ := (f4.block p (lt_of_heap (unhide HR1).hd) id).trans (unhide HR1).hd
        have z1 := frozen_of_heap hp4 1
        have d1 : w4.cell? ⟨p, 1, none⟩ = some Y.tv := by rw [cell_of_heap hp4]; rfl
        obtain ⟨r1, r2, r3⟩ := (unhide HR1).putT f4' ao c (wo M.t b) N hN hO (fun k hk => .inr (hb k hk)) (by rw [hN]; exact Nat.le_trans (wo_length _ _) (unhide HTB))
        have hs : (w.setCell ⟨Y.q, b, none⟩ (.int .i64 (((0 : UInt8).toNat : Nat) : Int))).heap.size = w.heap.size := by simp [World.setCell]
        have HE : Hid (RE w p Y { M with s := M.s.set b 0, t := wo M.t b } (w4.setCell ⟨p, 1, none⟩ (.slice ao N c))) := hide ⟨_, r1, Fr.trans (S := Rb p Y) ((Fr.refl _ _).setCell (p := ⟨Y.q, b, none⟩) (fun _ => .inr (.inl rfl)) _) r2 (fun _ _ h => h), fun k hk => by
          rcases r3 k hk with h | h
          · exact .inl h
          · rw [hs] at h; exact .inr h⟩
        clear hO hb f4 f4' hp4 r1 r2 r3 hs hN
        generalize Y.tv = ytv at *
        go_wp2_with fail
        go_ret
        exact ⟨rfl, unhide HE⟩
      · rw [if_neg (by simp [h1]), if_neg (by simp [h2])]
        have b1 : (((v.toNat : Nat) : Int) == 1) = false := by
          simp only [beq_eq_false_iff_ne, ne_eq]
          exact fun e => h1 (UInt8.toNat_inj.1 (by rw [show (1 : UInt8).toNat = 1 from rfl]; omega))
        have b2 : (((v.toNat : Nat) : Int) == 2) = false := by
          simp only [beq_eq_false_iff_ne, ne_eq]
          exact fun e => h2 (UInt8.toNat_inj.1 (by rw [show (2 : UInt8).toNat = 2 from rfl]; omega))
        clear H hi h1 h2 hv
        generalize M.s.length = n at c0 hn3 hin hn2
        generalize v.toNat = vn at *
        unfold ptr at *
        go_enter Try.func46, Try.ntmps46
        go_wp2_with fail
        refine (unhide HI).mono ?_
        rintro e w' ⟨rfl, rfl⟩
        go_wp2_with fail
        go_ret
        exact ⟨rfl, RE.refl (unhide HH)⟩

set_option maxHeartbeats 1000000 in
theorem rMark_any (H : RA w p Y M) (a : Int) (hl : M.t.length < 1000000) : Calls Try.prog 47 #[ptr p, .int .i64 a] w fun e w' => e = .returned (.int .i64 (M.mark a).2) ∧ RE w p Y (M.mark a).1 w' := by
  obtain ⟨inf, hi0, hz0, hz1, hz2⟩ := info_parts Try.info3
  have HI := hide (rin_any w p Y M H a)
  have HH := hide H
  have c0 := H.c0
  have c3 := H.c3
  have hpq := H.pq
  have HCT : Hid (∀ k, Calls Try.prog 53 #[.pointer (some ⟨p, 0, none⟩), .int .i64 0] (w.drewN k) fun e w' => e = .returned (.int .i64 (fr M.s : Int)) ∧ ∃ m, w' = (w.drewN k).drewN m) := hide (fun k => rcount_any (w.drewN k) p Y M (H.kept (Fr.ofDrewN w k : Fr (fun _ => False) _ _) (fun _ _ h => h)))
  unfold Rc.mark
  cases hi : inB M.s.length a
  · rw [hi] at HI
    simp only [Bool.false_eq_true, if_false]
    unfold ptr at *
    clear H hi
    go_enter Try.func47, Try.ntmps47
    go_wp2_with fail
    refine (unhide HI).mono ?_
    rintro e w' ⟨rfl, rfl⟩
    go_wp2_with fail
    go_ret
    exact ⟨rfl, RE.refl (unhide HH)⟩
  · rw [hi] at HI
    obtain ⟨b, rfl, hin⟩ := in_nat hi
    simp only [if_true, Int.toNat_natCast]
    obtain ⟨v, hv⟩ := get_ex hin
    have cs := H.state hv
    have hn2 := H.n2
    rw [hv]
    by_cases h1 : v = 0
    · subst h1
      by_cases hr : M.r < fr M.s
      · rw [if_pos ⟨rfl, hr⟩]
        have b1 : decide (fr M.s ≤ M.r) = false := by simp; omega
        obtain ⟨tao, tc, hts⟩ := H.ts
        have HTS := hide hts
        obtain ⟨tl, htl⟩ : ∃ n, n = M.t.length := ⟨_, rfl⟩
        have HTL := hide htl
        rw [← htl] at HTS hl
        have hd : Hid (∀ k : Nat, RA (w.drewN k) p Y M) := hide (fun k => H.kept (Fr.ofDrewN w k : Fr (fun _ => False) _ _) (fun _ _ h => h))
        clear H hi hr hts htl hv
        generalize fr M.s = f at *
        generalize M.s.length = n at c0 hn2 hin
        unfold ptr at *
        go_enter Try.func47, Try.ntmps47
        go_wp2_with fail
        refine (unhide HI).mono ?_
        rintro e w' ⟨rfl, rfl⟩
        go_wp2_with fail
        go_quiet ((go_at_call 53; exact Calls.quiet_of (unhide HCT _)))
        have hdk := unhide hd nq
        have c1k := hdk.c1
        have zbk := frozen_of_heap hdk.st b
        have HTO2 : Hid (((w.drewN nq).setCell ⟨Y.q, b, none⟩ (.int .i64 2)).ownsRow 0 3 1 (.slice tao tl tc) tl (ivs M.t)) := hide (by have := (hdk.setS b 2).tO; rw [unhide HTS, ← unhide HTL] at this; exact this)
        rw [unhide HTS] at c1k
        clear hdk
        go_wp2_with (at_builtin; refine wpList_app rfl (.tmp 36) (.tmp 38) 51 rfl 3 inf _ 1 8 Try.underlying51 hi0 hz0 hz1 hz2 rfl (by decide) (.slice tao tl tc) tl (ivs M.t) rfl (.slice (some ⟨w.heap.size, 0, none⟩) 1 1) rfl 1 [.int .i64 (b : Int)] ((unhide HTO2).alloc _) (one_cellS (w.drewN nq) _ _ _ 3) (fun u hu => by simp at hu; subst hu; rfl) (by omega) (by simp only [maxLen]; omega) ?_)
        intro ao4 ac4 w4 o4 g4 p4
        obtain ⟨d1, z1, HE⟩ := (unhide hd nq).tkEnd b 2 (unhide HTL) hl (unhide HTS) _ o4 g4 (by simpa using p4)
        have HE := hide HE
        clear o4 g4 p4
        go_wp2_with fail
        go_ret
        exact ⟨rfl, (unhide HE).drewN⟩
      · rw [if_neg (fun h => hr h.2)]
        have b1 : decide (fr M.s ≤ M.r) = true := by simp; omega
        clear H hi hr hv
        generalize fr M.s = f at *
        generalize M.s.length = n at c0 hn2 hin
        unfold ptr at *
        go_enter Try.func47, Try.ntmps47
        go_wp2_with fail
        refine (unhide HI).mono ?_
        rintro e w' ⟨rfl, rfl⟩
        go_wp2_with fail
        go_quiet ((go_at_call 53; exact Calls.quiet_of (unhide HCT _)))
        go_wp2_with fail
        go_ret
        exact ⟨rfl, RE.of ((unhide HH).kept (Fr.ofDrewN w _ : Fr (fun _ => False) _ _) (fun _ _ h => h)) (Fr.ofDrewN w _)⟩
    · rw [if_neg (fun h => h1 (by simpa using h.1))]
      have b1 : (((v.toNat : Nat) : Int) != 0) = true := by
        simp only [bne_iff_ne, ne_eq]
        exact fun e => h1 (toNat_zero.1 (by omega))
      clear H hi h1 hv
      generalize v.toNat = vn at *
      generalize M.s.length = n at c0 hn2 hin
      unfold ptr at *
      go_enter Try.func47, Try.ntmps47
      go_wp2_with fail
      refine (unhide HI).mono ?_
      rintro e w' ⟨rfl, rfl⟩
      go_wp2_with fail
      go_quiet ((go_at_call 53; exact Calls.quiet_of (unhide HCT _)))
      go_wp2_with fail
      go_ret
      exact ⟨rfl, RE.of ((unhide HH).kept (Fr.ofDrewN w _ : Fr (fun _ => False) _ _) (fun _ _ h => h)) (Fr.ofDrewN w _)⟩

theorem rReserve_any (H : RA w p Y M) (n : Int) : Calls Try.prog 48 #[ptr p, .int .i64 n] w fun e w' => e = .returned (.int .i64 (M.reserve n).2) ∧ RE w p Y (M.reserve n).1 w' := by
  have HH := hide H
  have c3 := H.c3
  have z3 := frozen_of_heap H.hd 3
  have hfl := Nat.le_trans (fr_le M.s) H.n2
  have hrb := H.rb
  have HCT : Hid (∀ k, Calls Try.prog 53 #[.pointer (some ⟨p, 0, none⟩), .int .i64 0] (w.drewN k) fun e w' => e = .returned (.int .i64 (fr M.s : Int)) ∧ ∃ m, w' = (w.drewN k).drewN m) := hide (fun k => rcount_any (w.drewN k) p Y M (H.kept (Fr.ofDrewN w k : Fr (fun _ => False) _ _) (fun _ _ h => h)))
  unfold Rc.reserve
  by_cases h0 : n < 0
  · have b1 : decide (n < 0) = true := by simpa using h0
    rw [if_pos h0]
    clear H h0
    unfold ptr at *
    go_enter Try.func48, Try.ntmps48
    go_wp2_with fail
    go_ret
    exact ⟨rfl, RE.refl (unhide HH)⟩
  · have b1 : decide (n < 0) = false := by simpa using h0
    rw [if_neg h0]
    by_cases h1 : (fr M.s : Int) - (M.r : Int) < n
    · rw [if_pos h1]
      have b2 : decide ((fr M.s : Int) - (M.r : Int) < n) = true := by simpa using h1
      clear H h0 h1
      generalize fr M.s = f at *
      generalize M.r = r at *
      unfold ptr at *
      go_enter Try.func48, Try.ntmps48
      go_wp2_with fail
      go_quiet ((go_at_call 53; exact Calls.quiet_of (unhide HCT _)))
      go_wp2_with fail
      go_ret
      exact ⟨rfl, RE.of ((unhide HH).kept (Fr.ofDrewN w _ : Fr (fun _ => False) _ _) (fun _ _ h => h)) (Fr.ofDrewN w _)⟩
    · rw [if_neg h1]
      obtain ⟨m, rfl⟩ : ∃ m : Nat, n = (m : Int) := ⟨n.toNat, by omega⟩
      have b2 : decide ((fr M.s : Int) - (M.r : Int) < (m : Int)) = false := by simpa using h1
      have hm : M.r + m ≤ 65536 := by omega
      have hK : Hid (∀ k, RA ((w.drewN k).setCell ⟨p, 3, none⟩ (.int .i64 ((M.r : Int) + (m : Int)))) p Y { M with r := M.r + m }) := hide (fun k => by
        have := (H.kept (Fr.ofDrewN w k : Fr (fun _ => False) _ _) (fun _ _ h => h)).setR (M.r + m) hm
        rw [Int.natCast_add] at this
        exact this)
      rw [Int.toNat_natCast]
      clear H h0 h1 HH
      generalize fr M.s = f at *
      obtain ⟨r, hr⟩ : ∃ r, r = M.r := ⟨_, rfl⟩
      rw [← hr] at hK c3 hm hrb b2 ⊢
      clear hr
      unfold ptr at *
      go_enter Try.func48, Try.ntmps48
      go_wp2_with fail
      go_quiet ((go_at_call 53; exact Calls.quiet_of (unhide HCT _)))
      go_wp2_with fail
      go_ret
      exact ⟨rfl, RE.of (unhide hK _) ((Fr.ofDrewN _ _).setCell (p := ⟨p, 3, none⟩) (fun _ => .inl rfl) _)⟩

theorem rRelease_any (H : RA w p Y M) (n : Int) : Calls Try.prog 49 #[ptr p, .int .i64 n] w fun e w' => e = .returned (.int .i64 (M.release n).2) ∧ RE w p Y (M.release n).1 w' := by
  have HH := hide H
  have c3 := H.c3
  have z3 := frozen_of_heap H.hd 3
  have hrb := H.rb
  unfold Rc.release
  by_cases h0 : n < 0
  · have b1 : decide (n < 0) = true := by simpa using h0
    rw [if_pos (.inl h0)]
    clear H h0
    unfold ptr at *
    go_enter Try.func49, Try.ntmps49
    go_wp2_with fail
    go_ret
    exact ⟨rfl, RE.refl (unhide HH)⟩
  · have b1 : decide (n < 0) = false := by simpa using h0
    by_cases h1 : (M.r : Int) < n
    · rw [if_pos (.inr h1)]
      have b2 : decide ((M.r : Int) < n) = true := by simpa using h1
      clear H h0 h1
      generalize M.r = r at *
      unfold ptr at *
      go_enter Try.func49, Try.ntmps49
      go_wp2_with fail
      go_ret
      exact ⟨rfl, RE.refl (unhide HH)⟩
    · rw [if_neg (by omega)]
      obtain ⟨m, rfl⟩ : ∃ m : Nat, n = (m : Int) := ⟨n.toNat, by omega⟩
      rw [Int.toNat_natCast]
      obtain ⟨d, hd⟩ : ∃ d, M.r = d + m := ⟨M.r - m, by omega⟩
      have hK := hide (H.setR d (by omega))
      have e1 : M.r - m = d := by omega
      have e2 : (M.r : Int) = (d : Int) + (m : Int) := by omega
      rw [e1]
      rw [e2] at c3
      have hdm : d + m ≤ 65536 := by omega
      have b3 : decide (d + m < m) = false := by simp
      clear H h0 h1 HH hd hrb e1 e2
      unfold ptr at *
      go_enter Try.func49, Try.ntmps49
      go_wp2_with fail
      go_ret
      exact ⟨rfl, RE.of (unhide hK) ((Fr.refl _ _).setCell (p := ⟨p, 3, none⟩) (fun _ => .inl rfl) _)⟩
end
end Go.Proofs.Ytbpajilglfabbaa
