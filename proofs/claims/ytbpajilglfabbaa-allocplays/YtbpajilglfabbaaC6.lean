/-
  The document's allocator: the walks of Commit, Abort, LetGo.
-/
import Derived.Test.YtbpajilglfabbaaC5
namespace Go.Proofs.Ytbpajilglfabbaa
open Go.RowKit
set_option linter.unusedVariables false

attribute [local go_sem ↓] Go.wp_at_zero Go.wp_at_succ

section
variable {w : World} {p : Nat} {Y : Lr} {M : Rc}
theorem RA.nilT (H : RA w p Y M) : RA (w.setCell ⟨p, 1, none⟩ (.slice none 0 0)) p { Y with tv := .slice none 0 0 } { M with t := [] } ∧ Fr (Rb p Y) w (w.setCell ⟨p, 1, none⟩ (.slice none 0 0)) ∧ ∀ k, Rb p { Y with tv := .slice none 0 0 } k → Rb p Y k ∨ w.heap.size ≤ k :=
  H.putT (Fr.refl _ _) none 0 [] 0 rfl (owns_nilE _ 3) (fun k hk => by simp [Value.ownBlock] at hk) (by decide)
theorem RA.nilG (H : RA w p Y M) : RA (w.setCell ⟨p, 2, none⟩ (.slice none 0 0)) p { Y with gv := .slice none 0 0 } { M with g := [] } ∧ Fr (Rb p Y) w (w.setCell ⟨p, 2, none⟩ (.slice none 0 0)) ∧ ∀ k, Rb p { Y with gv := .slice none 0 0 } k → Rb p Y k ∨ w.heap.size ≤ k :=
  H.putG (Fr.refl _ _) none 0 [] 0 rfl (owns_nilE _ 3) (fun k hk => by simp [Value.ownBlock] at hk) (by decide)
/-- Both lists are nil then. -/
theorem RA.nils (H : RA w p Y M) : RE w p Y { M with t := [], g := [] } ((w.setCell ⟨p, 1, none⟩ (.slice none 0 0)).setCell ⟨p, 2, none⟩ (.slice none 0 0)) := by
  obtain ⟨a1, a2, a3⟩ := H.nilT
  obtain ⟨b1, b2, b3⟩ := a1.nilG
  exact RE.trans a2 a3 ⟨_, b1, b2, b3⟩
theorem Nw.farR {w0 w : World} {v : Value} {l : List Nat} (h : Nw w0 w v l) {S : Nat → Prop} (hb : ∀ k, S k → k < w0.heap.size) : ∀ k, v.ownBlock = some k → ¬ S k := by
  obtain ⟨ao, N, cc, rfl, hN, ho, hn⟩ := h
  intro k hk hB
  have := hn k hk
  have := hb k hB
  omega
end

section
variable (w : World) (p : Nat) (Y : Lr) (M : Rc)

set_option maxHeartbeats 1000000 in
theorem rCommit_any (H : RA w p Y M) : Calls Try.prog 50 #[ptr p] w fun e w' => (∃ x y, e = .returned (.tuple #[x, y]) ∧ Nw w w' x (idx (rep M.s 3 (if 0 < M.h then 4 else 0)) 2) ∧ Nw w w' y (idx M.s 3)) ∧ RE w p Y M.commit w' := by
  have c4 := H.c4
  have HLT := hide H.lt
  obtain ⟨tv, htv⟩ : ∃ t : UInt8, t = (if 0 < M.h then 4 else 0) := ⟨_, rfl⟩
  unfold Rc.commit
  rw [← htv]
  have HT1 := hide (turn_any w p Y M H 3 tv)
  have hcase : (decide (0 < M.h) = true ∧ tv.toNat = 4) ∨ (decide (0 < M.h) = false ∧ tv.toNat = 0) := by
    by_cases h : 0 < M.h
    · rw [if_pos h] at htv; left; exact ⟨by simpa using h, by rw [htv]; rfl⟩
    · rw [if_neg h] at htv; right; exact ⟨by simpa using h, by rw [htv]; rfl⟩
  have HTAIL : Hid (∀ w1, RA w1 p Y { M with s := rep M.s 3 tv } → Fr (fun k => k = Y.q) w w1 → ∀ x, Nw w w1 x (idx M.s 3) → Calls Try.prog 70 #[.pointer (some ⟨p, 0, none⟩), .int .i64 2, .int .i64 1] w1 fun e w' => ∃ y, e = .returned y ∧ Nw w w' y (idx (rep M.s 3 tv) 2) ∧ Nw w w' x (idx M.s 3) ∧ w'.cell? ⟨p, 1, none⟩ = some Y.tv ∧ w'.cell? ⟨p, 2, none⟩ = some Y.gv ∧ w'.frozen? ⟨p, 1, none⟩ = false ∧ w'.frozen? ⟨p, 2, none⟩ = false ∧ RE w p Y { M with s := rep (rep M.s 3 tv) 2 1, t := [], g := [] } ((w'.setCell ⟨p, 1, none⟩ (.slice none 0 0)).setCell ⟨p, 2, none⟩ (.slice none 0 0)) ∧ Nw w ((w'.setCell ⟨p, 1, none⟩ (.slice none 0 0)).setCell ⟨p, 2, none⟩ (.slice none 0 0)) y (idx (rep M.s 3 tv) 2) ∧ Nw w ((w'.setCell ⟨p, 1, none⟩ (.slice none 0 0)).setCell ⟨p, 2, none⟩ (.slice none 0 0)) x (idx M.s 3)) := hide (fun w1 R1 f1 x hx => by
    refine (turn_any w1 p Y _ R1 2 1).mono ?_
    rintro e w2 ⟨⟨y, rfl, hy⟩, R2, f2⟩
    have hlt := H.lt
    have hy0 : Nw w w2 y _ := hy.older f1.size
    have hx2 := hx.kept f2 (hx.farR (fun k e => by rw [e]; exact hlt _ (.inr (.inl rfl))))
    have fs : Fr (fun k => k = p) w2 ((w2.setCell ⟨p, 1, none⟩ (.slice none 0 0)).setCell ⟨p, 2, none⟩ (.slice none 0 0)) := Fr.setCell (S := fun k => k = p) (Fr.setCell (S := fun k => k = p) (Fr.refl _ _) (p := ⟨p, 1, none⟩) (fun _ => rfl) _) (p := ⟨p, 2, none⟩) (fun _ => rfl) _
    have hlp : ∀ k, k = p → k < w.heap.size := fun k e => by rw [e]; exact hlt _ (.inl rfl)
    exact ⟨y, rfl, hy0, hx2, R2.c1, R2.c2, frozen_of_heap R2.hd 1, frozen_of_heap R2.hd 2, RE.trans (Y1 := Y) ((f1.trans f2 (fun _ _ h => h)).mono (fun _ _ h => .inr (.inl h))) (fun k hk => .inl hk) R2.nils, hy0.kept fs (hy0.farR hlp), hx2.kept fs (hx2.farR hlp)⟩)
  clear H htv
  unfold ptr at *
  generalize Y.tv = ytv at *
  generalize Y.gv = ygv at *
  rcases hcase with ⟨b1, htn⟩ | ⟨b1, htn⟩
  all_goals
    rw [htn] at HT1
    clear htn
    go_enter Try.func50, Try.ntmps50
    go_wp2_with fail
    refine (unhide HT1).mono ?_
    rintro e w1 ⟨⟨x, rfl, hx⟩, hR1, f1⟩
    have HT2 := hide (unhide HTAIL w1 hR1 f1 x hx)
    obtain ⟨xo, xn, xc, rfl, -⟩ := hx.shape
    clear hx hR1 f1 HT1
    go_wp2_with fail
    refine (unhide HT2).mono ?_
    rintro e w2 ⟨y, rfl, hy, hx2, d1, d2, z1, z2, hE, hy3, hx3⟩
    obtain ⟨yo, yn, yc, rfl, -⟩ := hy.shape
    have HE := hide hE
    have HY := hide hy3
    have HX := hide hx3
    clear hy hx2 hE hy3 hx3 HT2 HTAIL
    go_wp2_with fail
    go_ret2
    exact ⟨⟨_, _, rfl, unhide HY, unhide HX⟩, unhide HE⟩

set_option maxHeartbeats 1000000 in
theorem rAbort_any (H : RA w p Y M) : Calls Try.prog 51 #[ptr p] w fun e w' => e = .returned (.tuple #[]) ∧ RE w p Y M.abort w' := by
  have HLT := hide H.lt
  unfold Rc.abort
  have HT1 := hide (turn_any w p Y M H 2 0)
  clear H
  unfold ptr at *
  go_enter Try.func51, Try.ntmps51
  go_wp2_with fail
  refine (unhide HT1).mono ?_
  rintro e w1 ⟨⟨x, rfl, hx⟩, hR1, f1⟩
  have HT2 := hide (turn_any w1 p Y _ hR1 3 1)
  have HF1 := hide f1
  obtain ⟨xo, xn, xc, rfl, -⟩ := hx.shape
  clear hx hR1 f1 HT1
  unfold ptr at HT2
  go_wp2_with fail
  refine (unhide HT2).mono ?_
  rintro e w2 ⟨⟨y, rfl, hy⟩, hR2, f2⟩
  obtain ⟨yo, yn, yc, rfl, -⟩ := hy.shape
  have HE := hide (RE.trans (Y1 := Y) (((unhide HF1).trans f2 (fun _ _ h => h)).mono (fun _ _ h => .inr (.inl h))) (fun k hk => .inl hk) hR2.nils)
  have d1 := hR2.c1
  have d2 := hR2.c2
  have z1 := frozen_of_heap hR2.hd 1
  have z2 := frozen_of_heap hR2.hd 2
  clear hy hR2 f2 HT2 HF1
  generalize Y.tv = ytv at *
  generalize Y.gv = ygv at *
  go_wp2_with fail
  go_end0
  exact ⟨rfl, unhide HE⟩

set_option maxHeartbeats 1000000 in
theorem rLetGo_any (H : RA w p Y M) : Calls Try.prog 52 #[ptr p] w fun e w' => (∃ x, e = .returned x ∧ Nw w w' x M.letGo.2) ∧ RE w p Y M.letGo.1 w' := by
  have HH := hide H
  have c4 := H.c4
  have z4 := frozen_of_heap H.hd 4
  unfold Rc.letGo
  by_cases h0 : M.h = 0
  · rw [if_pos h0]
    rw [h0] at c4
    clear H h0
    unfold ptr
    go_enter Try.func52, Try.ntmps52
    go_wp2_with fail
    go_ret
    exact ⟨⟨_, rfl, Nw.nil _ _⟩, RE.refl (unhide HH)⟩
  · rw [if_neg h0]
    obtain ⟨m, hm⟩ : ∃ m, M.h = m + 1 := ⟨M.h - 1, by omega⟩
    have hhb := H.hb
    have hK := H.setH m (by omega)
    have e1 : M.h - 1 = m := by omega
    have e2 : (M.h : Int) = (m : Int) + 1 := by omega
    rw [e2] at c4
    have hmb : m < 4611686018427387904 := by omega
    have hne : ((m : Int) + 1 == 0) = false := by simp; omega
    have HF0 : Hid (Fr (Rb p Y) w (w.setCell ⟨p, 4, none⟩ (.int .i64 (m : Int)))) := hide ((Fr.refl _ _).setCell (p := ⟨p, 4, none⟩) (fun _ => .inl rfl) _)
    by_cases h1 : 1 < M.h
    · rw [if_pos h1, e1]
      have b1 : decide (0 < m) = true := by simp; omega
      have HK := hide hK
      clear H h0 hm hhb hK e1 e2 h1
      unfold ptr
      go_enter Try.func52, Try.ntmps52
      go_wp2_with fail
      go_ret
      exact ⟨⟨_, rfl, Nw.nil _ _⟩, RE.of (unhide HK) (unhide HF0)⟩
    · rw [if_neg h1]
      obtain rfl : m = 0 := by omega
      have e3 : M.h - 1 = 0 := by omega
      rw [e3]
      have HT := hide (turn_any _ p Y _ hK 4 0)
      have HSZ : Hid ((w.setCell ⟨p, 4, none⟩ (.int .i64 ((0 : Nat) : Int))).heap.size = w.heap.size) := hide (by simp [World.setCell])
      clear H h0 hm hhb hK e1 e2 h1 e3
      unfold ptr at *
      rw [show ((0 : Nat) : Int) = 0 from rfl] at *
      go_enter Try.func52, Try.ntmps52
      go_wp2_with fail
      refine (unhide HT).mono ?_
      rintro e w1 ⟨⟨x, rfl, hx⟩, hR1, f1⟩
      have HX := hide (hx.older (Nat.le_of_eq (unhide HSZ).symm))
      have HE := hide (RE.trans (Y1 := Y) (unhide HF0) (fun k hk => .inl hk) (RE.of hR1 (f1.mono (fun _ _ h => .inr (.inl h)))))
      obtain ⟨xo, xn, xc, rfl, -⟩ := hx.shape
      clear hx hR1 f1
      go_wp2_with fail
      go_ret
      exact ⟨⟨_, rfl, unhide HX⟩, unhide HE⟩
end
end Go.Proofs.Ytbpajilglfabbaa
