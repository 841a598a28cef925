/-
  The document's allocator: the walks of Take, TakeReserved, without, Give, Mark, Reserve, Release.
-/
import Derived.Test.YtbpajilglfabbaaC2
namespace Go.Proofs.Ytbpajilglfabbaa
open Go.RowKit
set_option linter.unusedVariables false

attribute [local go_sem ↓] Go.wp_at_zero Go.wp_at_succ

def Rc.take (M : Rc) (a : Int) : Rc × Int × Int :=
  if inB M.s.length a then (if M.r < fr M.s then (M.tk (pk M.s a.toNat), ((pk M.s a.toNat : Nat) : Int), 0) else (M, 0, 100)) else (M, 0, 2)
def Rc.takeR (M : Rc) (a : Int) : Rc × Int × Int :=
  if inB M.s.length a then (if M.r = 0 then (M, 0, 100) else (({ M with r := M.r - 1 } : Rc).tk (pk M.s a.toNat), ((pk M.s a.toNat : Nat) : Int), 0)) else (M, 0, 2)

theorem RE.drewN {w w' : World} {p : Nat} {Y : Lr} {M' : Rc} {k : Nat} (h : RE (w.drewN k) p Y M' w') : RE w p Y M' w' := by
  obtain ⟨Y', h1, h2, h3⟩ := h
  have hs : (w.drewN k).heap.size = w.heap.size := by simp
  exact ⟨Y', h1, (Fr.ofDrewN w k).trans h2 (fun _ _ h => h), fun j hj => by have := h3 j hj; rwa [hs] at this⟩
theorem RE.of {w w' : World} {p : Nat} {Y : Lr} {M : Rc} (H : RA w' p Y M) (f : Fr (Rb p Y) w w') : RE w p Y M w' := ⟨Y, H, f, fun k hk => .inl hk⟩

section
variable (w : World) (p : Nat) (Y : Lr) (M : Rc)

theorem rTake_any (H : RA w p Y M) (a : Int) (hl : M.t.length < 1000000) : Calls Try.prog 44 #[ptr p, .int .i64 a] w fun e w' => e = .returned (.tuple #[.int .i64 (M.take a).2.1, .int .i64 (M.take a).2.2]) ∧ RE w p Y (M.take a).1 w' := by
  have HI := hide (rin_any w p Y M H a)
  have HH := hide H
  have c3 := H.c3
  have HCT : Hid (∀ k, Calls Try.prog 53 #[.pointer (some ⟨p, 0, none⟩), .int .i64 0] (w.drewN k) fun e w' => e = .returned (.int .i64 (fr M.s : Int)) ∧ ∃ m, w' = (w.drewN k).drewN m) := hide (fun k => rcount_any (w.drewN k) p Y M (H.kept (Fr.ofDrewN w k : Fr (fun _ => False) _ _) (fun _ _ h => h)))
  unfold Rc.take
  cases hi : inB M.s.length a
  · rw [hi] at HI
    simp only [Bool.false_eq_true, if_false]
    unfold ptr at *
    clear H hi
    go_enter Try.func44, Try.ntmps44
    go_wp2_with fail
    refine (unhide HI).mono ?_
    rintro e w' ⟨rfl, rfl⟩
    go_wp2_with fail
    go_ret2
    exact ⟨rfl, RE.refl (unhide HH)⟩
  · rw [hi] at HI
    obtain ⟨i, rfl, hin⟩ := in_nat hi
    simp only [if_true, Int.toNat_natCast]
    by_cases hr : M.r < fr M.s
    · rw [if_pos hr]
      have HT : Hid (∀ k, Calls Try.prog 68 #[.pointer (some ⟨p, 0, none⟩), .int .i64 (i : Int)] (w.drewN k) fun e w' => e = .returned (.int .i64 (pk M.s i : Int)) ∧ RE (w.drewN k) p Y (M.tk (pk M.s i)) w') := hide (fun k => rtake_any (w.drewN k) p Y M (H.kept (Fr.ofDrewN w k : Fr (fun _ => False) _ _) (fun _ _ h => h)) i hin (by omega) hl)
      have b1 : decide (fr M.s ≤ M.r) = false := by simp; omega
      clear H hi hr hl hin
      generalize fr M.s = f at *
      unfold ptr at *
      go_enter Try.func44, Try.ntmps44
      go_wp2_with fail
      refine (unhide HI).mono ?_
      rintro e w' ⟨rfl, rfl⟩
      go_wp2_with fail
      go_quiet ((go_at_call 53; exact Calls.quiet_of (unhide HCT _)))
      go_wp2_with fail
      refine (unhide HT _).mono ?_
      rintro e w3 ⟨rfl, hE⟩
      have HE := hide hE
      clear hE
      go_wp2_with fail
      go_ret2
      exact ⟨rfl, (unhide HE).drewN⟩
    · rw [if_neg hr]
      have b1 : decide (fr M.s ≤ M.r) = true := by simp; omega
      clear H hi hr hl hin
      generalize fr M.s = f at *
      unfold ptr at *
      go_enter Try.func44, Try.ntmps44
      go_wp2_with fail
      refine (unhide HI).mono ?_
      rintro e w' ⟨rfl, rfl⟩
      go_wp2_with fail
      go_quiet ((go_at_call 53; exact Calls.quiet_of (unhide HCT _)))
      go_wp2_with fail
      go_ret2
      exact ⟨rfl, RE.of ((unhide HH).kept (Fr.ofDrewN w _ : Fr (fun _ => False) _ _) (fun _ _ h => h)) (Fr.ofDrewN w _)⟩

theorem rTakeR_any (H : RA w p Y M) (a : Int) (hf : M.r ≤ fr M.s) (hl : M.t.length < 1000000) : Calls Try.prog 45 #[ptr p, .int .i64 a] w fun e w' => e = .returned (.tuple #[.int .i64 (M.takeR a).2.1, .int .i64 (M.takeR a).2.2]) ∧ RE w p Y (M.takeR a).1 w' := by
  have HI := hide (rin_any w p Y M H a)
  have HH := hide H
  have c3 := H.c3
  have z3 := frozen_of_heap H.hd 3
  unfold Rc.takeR
  cases hi : inB M.s.length a
  · rw [hi] at HI
    simp only [Bool.false_eq_true, if_false]
    unfold ptr at *
    clear H hi
    go_enter Try.func45, Try.ntmps45
    go_wp2_with fail
    refine (unhide HI).mono ?_
    rintro e w' ⟨rfl, rfl⟩
    go_wp2_with fail
    go_ret2
    exact ⟨rfl, RE.refl (unhide HH)⟩
  · rw [hi] at HI
    obtain ⟨i, rfl, hin⟩ := in_nat hi
    simp only [if_true, Int.toNat_natCast]
    by_cases h0 : M.r = 0
    · rw [if_pos h0]
      rw [h0] at c3
      clear hi H hf hl hin h0
      unfold ptr at *
      go_enter Try.func45, Try.ntmps45
      go_wp2_with fail
      refine (unhide HI).mono ?_
      rintro e w' ⟨rfl, rfl⟩
      go_wp2_with fail
      go_ret2
      exact ⟨rfl, RE.refl (unhide HH)⟩
    · rw [if_neg h0]
      have hrb := H.rb
      obtain ⟨r1, hr1⟩ : ∃ r1, M.r = r1 + 1 := ⟨M.r - 1, by omega⟩
      have hK1 := H.setR r1 (by omega)
      have e1 : M.r - 1 = r1 := by omega
      rw [e1]
      have HT := hide (rtake_any _ p Y _ hK1 i hin (by show 0 < fr M.s; omega) hl)
      have HF1 : Hid (Fr (Rb p Y) w (w.setCell ⟨p, 3, none⟩ (.int .i64 (r1 : Int)))) := hide ((Fr.refl _ _).setCell (p := ⟨p, 3, none⟩) (fun _ => .inl rfl) _)
      have HSZ : Hid ((w.setCell ⟨p, 3, none⟩ (.int .i64 (r1 : Int))).heap.size = w.heap.size) := hide (by simp [World.setCell])
      have e2 : (M.r : Int) = (r1 : Int) + 1 := by omega
      rw [e2] at c3
      have hr64 : r1 ≤ 65536 := by omega
      have hne : ((r1 : Int) + 1 == 0) = false := by simp; omega
      clear H hf hl hin hi h0 hr1 e1 hK1 hrb e2
      unfold ptr at *
      go_enter Try.func45, Try.ntmps45
      go_wp2_with fail
      refine (unhide HI).mono ?_
      rintro e w' ⟨rfl, rfl⟩
      go_wp2_with fail
      refine (unhide HT).mono ?_
      rintro e w3 ⟨rfl, hE⟩
      have HE := hide (RE.trans (unhide HF1) (fun k hk => .inl hk) hE)
      clear hE
      go_wp2_with fail
      go_ret2
      exact ⟨rfl, unhide HE⟩

/-- A list without a number. -/
def wo (l : List Nat) (b : Nat) : List Nat := l.filter fun x => x != b
theorem wo_take {l : List Nat} {b i : Nat} (h : i < l.length) : wo (l.take (i + 1)) b = wo (l.take i) b ++ (if l[i] = b then [] else [l[i]]) := by
  unfold wo
  rw [List.take_succ_eq_append_getElem h, List.filter_append]
  congr 1
  by_cases e : l[i] = b <;> simp [e]
theorem wo_length (l : List Nat) (b : Nat) : (wo l b).length ≤ l.length := List.length_filter_le _ _

set_option maxRecDepth 100000 in
set_option maxHeartbeats 1000000 in
theorem without_any (x : Value) (l : List Nat) (hx : RdV w x (ivs l)) (hl : l.length ≤ 1000000) (b : Nat) : Calls Try.prog 69 #[x, .int .i64 (b : Int)] w fun e w' => (∃ y, e = .returned y ∧ Nw w w' y (wo l b)) ∧ Fr (fun _ => False) w w' := by
  obtain ⟨inf, hi0, hz0, hz1, hz2⟩ := info_parts Try.info3
  have hlm := hx.len
  obtain ⟨ao, cc, rfl⟩ := hx.shape
  rw [ivs_length] at hlm hx ⊢
  have HX := hide hx
  obtain ⟨n, hn⟩ : ∃ n, n = l.length := ⟨_, rfl⟩
  rw [← hn] at HX hl ⊢
  have HN := hide hn
  clear hx hn hlm
  go_enter Try.func69, Try.ntmps69
  go_wp2_with fail
  go_loopw [6, 5] (fun x y W => ∃ i bo N bc, i ≤ n ∧ x = .int .i64 ((i : Nat) : Int) ∧ y = .slice bo N bc ∧ N = (wo (l.take i) b).length ∧ W.ownsRow 0 3 1 (.slice bo N bc) N (ivs (wo (l.take i) b)) ∧ (∀ k, (Value.slice bo N bc).ownBlock = some k → w.heap.size ≤ k) ∧ Fr (fun _ => False) w W) (fun x _ _ => n - (intOf x).toNat)
  case atStart => exact ⟨0, none, 0, 0, by omega, rfl, rfl, rfl, owns_nilE _ 3, fun b hb => by simp [Value.ownBlock] at hb, Fr.refl _ _⟩
  case round =>
    obtain ⟨i, bo, N, bc, hi, rfl, rfl, hN, hO, hnew, hF⟩ := hrel
    have hNle : N ≤ 1000000 := by
      rw [hN]
      have := wo_length (l.take i) b
      have := List.length_take_le i l
      omega
    have HO := hide hO
    have HNW := hide hnew
    have HF := hide hF
    have HNN := hide hN
    by_cases hlt : i < n
    · have i1 : i < l.length := by have := unhide HN; omega
      have HT := hide (wo_take (b := b) i1)
      obtain ⟨b1, o1, rfl, -, x1, y1, c1⟩ := (unhide HX).lits (by rw [ivs_length]; omega)
      have k1 := c1 i (by rw [ivs_length]; exact i1)
      rw [show (ivs l)[i]'(by rw [ivs_length]; exact i1) = .int .i64 ((l[i] : Nat) : Int) by simp [ivs]] at k1
      have k2 : wr.cell? ⟨b1, o1 + i, none⟩ = some (.int .i64 ((l[i] : Nat) : Int)) := (hF.cell (World.block_lt_of_cell? w _ k1) id).trans k1
      have hbl := World.block_lt_of_cell? wr _ k2
      clear c1 k1 hO hnew hF hN
      generalize l[i] = c at *
      by_cases e : c = b
      · subst e
        rw [if_pos rfl, List.append_nil] at HT
        have b1' : ((c : Int) != (c : Int)) = false := by simp
        go_wp2_with fail
        go_roundw
        case rel => exact ⟨i + 1, bo, N, bc, by omega, by go_num, rfl, by rw [unhide HT]; exact unhide HNN, by rw [unhide HT]; exact unhide HO, unhide HNW, unhide HF⟩
        case measure => simp [intOf]; omega
      · rw [if_neg e] at HT
        have b1' : ((c : Int) != (b : Int)) = true := by simp; omega
        clear e
        go_wp2_with (at_builtin; refine wpList_app rfl (.tmp 19) (.tmp 24) 51 rfl 3 inf _ 1 8 Try.underlying51 hi0 hz0 hz1 hz2 rfl (by decide) (.slice bo N bc) N (ivs (wo (l.take i) b)) rfl (.slice (some ⟨wr.heap.size, 0, none⟩) 1 1) rfl 1 [.int .i64 (c : Int)] ((unhide HO).alloc _) (one_cellV wr _ 3) (fun u hu => by simp at hu; subst hu; rfl) (by omega) (by simp only [maxLen]; omega) ?_)
        intro ao4 ac4 w4 o4 g4 p4
        have f4 : Fr (fun k => (Value.slice bo N bc).ownBlock = some k) wr w4 := ((Fr.refl _ _).alloc (.cells #[.int .i64 (c : Int)] 3)).grown g4 (fun k _ e => e)
        have HF4 := hide ((unhide HF).trans f4 (fun k hk e => by have := unhide HNW k e; omega))
        have HN4 : Hid (∀ k, (Value.slice ao4 (N + 1) ac4).ownBlock = some k → w.heap.size ≤ k) := hide (fun b hb => by
          rcases p4 with e | ⟨k', e, hk'⟩
          · rw [e] at hb; exact unhide HNW b hb
          · rw [e] at hb; simp at hb; have := (unhide HF).size; omega)
        have HO4 : Hid (w4.ownsRow 0 3 1 (.slice ao4 (N + 1) ac4) (N + 1) (ivs (wo (l.take (i + 1)) b))) := hide (by rw [unhide HT, ivs_snoc]; exact o4)
        clear o4 g4 p4 f4
        go_wp2_with fail
        go_roundw
        case rel => exact ⟨i + 1, ao4, N + 1, ac4, by omega, by go_num, rfl, by rw [unhide HT]; simp [unhide HNN], unhide HO4, unhide HN4, unhide HF4⟩
        case measure => simp [intOf]; omega
    · have hie : i = n := by omega
      subst hie
      clear hO hnew hF hN
      go_wp2_with fail
      go_ret
      have e : l.take i = l := List.take_of_length_le (by have := unhide HN; omega)
      have hO := unhide HO
      have hN := unhide HNN
      rw [e] at hO hN
      exact ⟨⟨_, rfl, bo, N, bc, rfl, hN, hO, unhide HNW⟩, unhide HF⟩
end
end Go.Proofs.Ytbpajilglfabbaa
