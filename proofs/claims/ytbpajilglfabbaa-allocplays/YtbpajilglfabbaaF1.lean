/-
  Stretches of free blocks, plainly; the walk of Runs.
-/
import Derived.Test.YtbpajilglfabbaaE2
namespace Go.Proofs.Ytbpajilglfabbaa
open Go.RowKit
set_option linter.unusedVariables false

attribute [local go_sem ↓] Go.wp_at_zero Go.wp_at_succ

/-- Pairs as cells. -/
def prs (l : List (Nat × Nat)) : List Value := l.flatMap fun q => [Value.int .i64 (q.1 : Int), Value.int .i64 (q.2 : Int)]
theorem prs_length (l : List (Nat × Nat)) : (prs l).length = l.length * 2 := by
  induction l with
  | nil => rfl
  | cons q l ih => simp only [prs, List.flatMap_cons, List.length_append, List.length_cons, List.length_nil] at *; omega
theorem prs_app (l m : List (Nat × Nat)) : prs (l ++ m) = prs l ++ prs m := by simp [prs]
theorem prs_one (l : List (Nat × Nat)) : ∀ u ∈ prs l, u.oneCell' = true := by
  intro u hu
  simp only [prs, List.mem_flatMap] at hu
  obtain ⟨q, -, h⟩ := hu
  simp at h
  rcases h with rfl | rfl <;> rfl
theorem prs_get (l : List (Nat × Nat)) (j : Nat) (hj : j < l.length) : (prs l)[j * 2]? = some (.int .i64 (l[j].1 : Int)) ∧ (prs l)[j * 2 + 1]? = some (.int .i64 (l[j].2 : Int)) := by
  induction l generalizing j with
  | nil => simp at hj
  | cons q l ih =>
    cases j with
    | zero => exact ⟨rfl, rfl⟩
    | succ j =>
      have := ih j (by simpa using hj)
      have e : prs (q :: l) = .int .i64 (q.1 : Int) :: .int .i64 (q.2 : Int) :: prs l := rfl
      rw [e, show (j + 1) * 2 = j * 2 + 2 by omega]
      simpa using this

/-- The last stretch is one longer. -/
def bump (l : List (Nat × Nat)) : List (Nat × Nat) := match l.reverse with
  | [] => []
  | q :: r => ((q.1, q.2 + 1) :: r).reverse
theorem bump_app (l : List (Nat × Nat)) (a n : Nat) : bump (l ++ [(a, n)]) = l ++ [(a, n + 1)] := by simp [bump]
theorem bump_length (l : List (Nat × Nat)) : (bump l).length = l.length := by
  unfold bump
  split
  · rename_i h; have := congrArg List.length h; simp at this; simp [this]
  · rename_i h; have := congrArg List.length h; simp at this; simp [this]

/-- The stretches among the first k blocks, and whether the last of these is free. -/
def rnK (s : List UInt8) : Nat → List (Nat × Nat) × Bool
  | 0 => ([], false)
  | k + 1 => if s[k]? = some 0 then (if (rnK s k).2 then bump (rnK s k).1 else (rnK s k).1 ++ [(k, 1)], true) else ((rnK s k).1, false)
def rn (s : List UInt8) : List (Nat × Nat) := (rnK s s.length).1

theorem rnK_more {s : List UInt8} {k : Nat} (h : s[k]? = some 0) (hg : (rnK s k).2 = true) : rnK s (k + 1) = (bump (rnK s k).1, true) := by
  show (if s[k]? = some 0 then _ else _) = _
  rw [if_pos h, hg]; rfl
theorem rnK_new {s : List UInt8} {k : Nat} (h : s[k]? = some 0) (hg : (rnK s k).2 = false) : rnK s (k + 1) = ((rnK s k).1 ++ [(k, 1)], true) := by
  show (if s[k]? = some 0 then _ else _) = _
  rw [if_pos h, hg]; rfl
theorem rnK_not {s : List UInt8} {k : Nat} (h : ¬ s[k]? = some 0) : rnK s (k + 1) = ((rnK s k).1, false) := by
  show (if s[k]? = some 0 then _ else _) = _
  rw [if_neg h]
theorem rnK_ne (s : List UInt8) (k : Nat) (hg : (rnK s k).2 = true) : ∃ l a n, (rnK s k).1 = l ++ [(a, n)] ∧ n ≤ k ∧ a ≤ k := by
  induction k with
  | zero => exact absurd hg (by simp [rnK])
  | succ k ih =>
    by_cases h : s[k]? = some 0
    · cases hg2 : (rnK s k).2
      · rw [rnK_new h hg2]; exact ⟨_, k, 1, rfl, by omega, by omega⟩
      · obtain ⟨l, a, n, e, hn, ha⟩ := ih hg2
        rw [rnK_more h hg2, e, bump_app]
        exact ⟨l, a, n + 1, rfl, by omega, by omega⟩
    · rw [rnK_not h] at hg; exact absurd hg (by simp)
theorem rnK_len (s : List UInt8) (k : Nat) : (rnK s k).1.length ≤ k := by
  induction k with
  | zero => exact Nat.le_refl _
  | succ k ih =>
    by_cases h : s[k]? = some 0
    · cases hg : (rnK s k).2
      · rw [rnK_new h hg]; simp; omega
      · rw [rnK_more h hg, bump_length]; omega
    · rw [rnK_not h]; exact Nat.le_succ_of_le ih

theorem owns_setK {w : World} {e : TypeId} {size g n cap : Nat} {xs : List Value} (h : w.ownsRow 0 e size (.slice (some ⟨g, 0, none⟩) n cap) n xs) (t : Nat) (ht : t < n * size) (u : Value) :
    (w.setCell ⟨g, t, none⟩ u).ownsRow 0 e size (.slice (some ⟨g, 0, none⟩) n cap) n (xs.set t u) := by
  refine ⟨by rw [List.length_set]; exact h.1, ?_⟩
  rcases h.2 with ⟨hv, -⟩ | ⟨g', cap', cur, hv, hb, hg, hnc, hcm, hcs, htake⟩
  · simp at hv
  · simp only [Value.slice.injEq, Option.some.injEq, Addr.mk.injEq, and_true, true_and] at hv
    obtain ⟨rfl, rfl⟩ := hv
    refine .inr ⟨g, cap, cur.setIfInBounds t u, rfl, hb, heap_setCell_same w g t cur e u hg, hnc, hcm, by simpa using hcs, ?_⟩
    rw [Array.toList_setIfInBounds, List.take_set, htake]

theorem Try.info50 : (Try.prog.info? 50).map (fun i => (i.zero, i.size, i.bytes)) = some (some (.agg #[.int .i64 0, .int .i64 0]), 2, 16) := by kernel_rfl

/-- A list of pairs in memory that is newer than w0. -/
def Nq (w0 w : World) (v : Value) (l : List (Nat × Nat)) : Prop := ∃ ao N cc, v = .slice ao N cc ∧ N = l.length ∧ w.ownsRow 0 50 2 (.slice ao N cc) N (prs l) ∧ ∀ b, (Value.slice ao N cc).ownBlock = some b → w0.heap.size ≤ b

theorem owns_keptK {S : Nat → Prop} {w w' : World} {e : TypeId} {size : Nat} {v : Value} {n : Nat} {xs : List Value} (h : w.ownsRow 0 e size v n xs) (f : Fr S w w') (hS : ∀ k, v.ownBlock = some k → ¬ S k) : w'.ownsRow 0 e size v n xs := owns_kept h f hS
theorem two_cells (w : World) (a b : Value) : Sr (w.alloc (Obj.cells #[a, b] 50)) 2 (.slice (some ⟨w.heap.size, 0, none⟩) 1 1) 1 [a, b] := by
  refine .inr ⟨_, _, rfl, rfl, fun j u hu => ?_⟩
  rw [Addr.add_lit, Nat.zero_add, cell_of_heap (heap_alloc_new w _)]
  simpa using hu
theorem owns_nilQ (w : World) : w.ownsRow 0 50 2 (.slice none 0 0) 0 [] := ⟨rfl, .inl ⟨rfl, rfl⟩⟩

section
variable (w : World) (p : Nat) (X : Ly) (K : Kc)

set_option maxRecDepth 100000 in
set_option maxHeartbeats 2000000 in
theorem runs_any (H : KA w p X K) : Calls Try.prog 23 #[ptr p] w fun e w' => (∃ x, e = .returned x ∧ Nq w w' x (rn K.s)) ∧ Fr (fun _ => False) w w' := by
  obtain ⟨inf, hi0, hz0, hz1, hz2⟩ := info_parts Try.info50
  have HB := hide (blocks_any w p X K H)
  have HH := hide H
  have hn2 := H.n2
  obtain ⟨n, hn⟩ : ∃ n, n = K.s.length := ⟨_, rfl⟩
  rw [← hn] at HB hn2
  have HN := hide hn
  have HC0 : Hid (∀ W, Fr (fun _ => False) w W → ∃ cq, W.cell? ⟨p, 0, none⟩ = some (.slice (some ⟨X.q, 0, none⟩) n cq)) := hide (fun W f => by rw [hn]; exact ⟨_, (H.kept f (fun _ _ h => h)).c0⟩)
  have HCS : Hid (∀ W, Fr (fun _ => False) w W → ∀ i v, K.s[i]? = some v → W.cell? ⟨X.q, i, none⟩ = some (.int .u8 ((v.toNat : Nat) : Int))) := hide (fun W f i v hv => (H.kept f (fun _ _ h => h)).state hv)
  clear H hn
  unfold ptr at *
  go_enter Try.func23, Try.ntmps23
  go_wp2_with fail
  refine (unhide HB).mono ?_
  rintro e w' ⟨rfl, rfl⟩
  go_wp2_with fail
  go_loopw [9, 3, 4] (fun x y z W => ∃ i ao N cc, i ≤ n ∧ x = .int .i64 ((i : Nat) : Int) ∧ y = .slice ao N cc ∧ z = .bool (rnK K.s i).2 ∧ N = (rnK K.s i).1.length ∧ W.ownsRow 0 50 2 (.slice ao N cc) N (prs (rnK K.s i).1) ∧ (∀ b, (Value.slice ao N cc).ownBlock = some b → w.heap.size ≤ b) ∧ Fr (fun _ => False) w W) (fun x _ _ _ => n - (intOf x).toNat)
  case atStart => exact ⟨0, none, 0, 0, by omega, rfl, rfl, rfl, rfl, owns_nilQ _, fun b hb => by simp [Value.ownBlock] at hb, Fr.refl _ _⟩
  case round =>
    obtain ⟨i, ao, N, cc, hi, rfl, rfl, rfl, hN, hO, hnew, hf⟩ := hrel
    have HO := hide hO
    have HNW := hide hnew
    have HF := hide hf
    have HNN := hide hN
    have hNle : N ≤ 65536 := by rw [hN]; have := rnK_len K.s i; omega
    by_cases hlt : i < n
    · obtain ⟨cq, c0⟩ := unhide HC0 wr hf
      obtain ⟨z, hz⟩ := get_ex (show i < K.s.length by have := unhide HN; omega)
      have cs := unhide HCS wr hf i z hz
      have hvb := z.toNat_lt
      by_cases hz0 : z = 0
      · subst hz0
        cases hg : (rnK K.s i).2
        · have HR := hide (rnK_new hz hg)
          clear hz hg hO hnew hf hN hvb
          go_wp2_with (at_builtin; refine wpList_app rfl (.tmp 37) (.tmp 40) 48 rfl 50 inf _ 2 16 Try.underlying48 hi0 hz0 hz1 hz2 rfl (by decide) (.slice ao N cc) N (prs (rnK K.s i).1) rfl (.slice (some ⟨wr.heap.size, 0, none⟩) 1 1) rfl 1 [.int .i64 (i : Int), .int .i64 1] ((unhide HO).alloc _) (two_cells wr _ _) (fun u hu => by simp at hu; rcases hu with rfl | rfl <;> rfl) (by omega) (by simp only [maxLen]; omega) ?_)
          intro ao4 ac4 w4 o4 g4 p4
          have f4 : Fr (fun k => (Value.slice ao N cc).ownBlock = some k) wr w4 := ((Fr.refl _ _).alloc (.cells #[.int .i64 (i : Int), .int .i64 1] 50)).grown g4 (fun k _ e => e)
          have HF4 := hide ((unhide HF).trans f4 (fun k hk e => by have := unhide HNW k e; omega))
          have HN4 : Hid (∀ k, (Value.slice ao4 (N + 1) ac4).ownBlock = some k → w.heap.size ≤ k) := hide (fun b hb => by
            rcases p4 with e | ⟨k', e, hk'⟩
            · rw [e] at hb; exact unhide HNW b hb
            · rw [e] at hb; simp at hb; have := (unhide HF).size; omega)
          have HO4 : Hid (w4.ownsRow 0 50 2 (.slice ao4 (N + 1) ac4) (N + 1) (prs (rnK K.s (i + 1)).1)) := hide (by rw [unhide HR, prs_app]; exact o4)
          clear o4 g4 p4 f4
          go_wp2_with fail
          go_roundw
          case rel => exact ⟨i + 1, ao4, N + 1, ac4, by omega, by go_num, rfl, by rw [unhide HR], by rw [unhide HR]; simp [unhide HNN], unhide HO4, unhide HN4, unhide HF4⟩
          case measure => simp [intOf]; omega
        · have HR := hide (rnK_more hz hg)
          obtain ⟨l, a, m, hl, hm1, hm2⟩ := rnK_ne K.s i hg
          have HL := hide hl
          rw [hl] at hO hN
          obtain ⟨Q, hQ⟩ : ∃ Q, Q = l.length := ⟨_, rfl⟩
          have hNQ : N = Q + 1 := by rw [hN, hQ]; simp
          subst hNQ
          rcases hO.2 with ⟨hv, -⟩ | ⟨g, cap', cur, hv, hb0, hg0, hnc, hcm, hcs0, htake⟩
          · simp at hv
          simp only [Value.slice.injEq] at hv
          obtain ⟨rfl, -, rfl⟩ := hv
          have hpg := prs_get (l ++ [(a, m)]) Q (by simp [hQ])
          have hcell : wr.cell? ⟨g, Q * 2 + 1, none⟩ = some (.int .i64 (m : Int)) := by
            rw [cell_of_heap hg0]
            have h1 : (cur.toList.take ((Q + 1) * 2))[Q * 2 + 1]? = (prs (l ++ [(a, m)]))[Q * 2 + 1]? := by rw [htake]
            rw [List.getElem?_take_of_lt (by omega), hpg.2] at h1
            have e : (l ++ [(a, m)])[Q]'(by simp [hQ]) = (a, m) := by simp [hQ]
            rw [e] at h1
            simpa using h1
          have hzf := frozen_of_heap hg0 (Q * 2 + 1)
          have HSET : Hid (∀ k : Nat, ((wr.drewN k).setCell ⟨g, Q * 2 + 1, none⟩ (.int .i64 ((m : Int) + 1))).ownsRow 0 50 2 (.slice (some ⟨g, 0, none⟩) (Q + 1) cc) (Q + 1) (prs (rnK K.s (i + 1)).1)) := hide (fun k => by
            have h2 := owns_setK (owns_keptK hO (Fr.ofDrewN wr k : Fr (fun _ => False) _ _) (fun _ _ h => h)) (Q * 2 + 1) (by omega) (.int .i64 ((m : Int) + 1))
            have e : (prs (l ++ [(a, m)])).set (Q * 2 + 1) (.int .i64 ((m : Int) + 1)) = prs (rnK K.s (i + 1)).1 := by
              rw [unhide HR]
              show _ = prs (bump (rnK K.s i).1)
              rw [unhide HL, bump_app, prs_app, prs_app, List.set_append_right _ _ (by rw [prs_length, ← hQ]; omega), prs_length, ← hQ, show Q * 2 + 1 - Q * 2 = 1 by omega]
              simp [prs]
            rw [e] at h2
            exact h2)
          have HNN2 : Hid (Q + 1 = (rnK K.s (i + 1)).1.length) := hide (by rw [unhide HR]; show Q + 1 = (bump (rnK K.s i).1).length; rw [bump_length, unhide HL]; simp [hQ])
          have hgl : w.heap.size ≤ g := hnew g rfl
          have HGL := hide hgl
          have hm3 : m ≤ 65536 := by omega
          have hQb : Q ≤ 65536 := by omega
          clear hz hg hO hnew hf hN hvb hl hcs0 htake hb0 hg0 hpg hQ hgl hNle hm1 hm2
          go_wp2_with fail
          refine wp_region_quietTail 10 (by kernel_rfl) (by kernel_rfl) ?_
          simp only [List.take_succ_cons, List.take_zero]
          repeat (go_big_quiet_step (fail))
          refine wpQuiet_nil ?_
          intro _ hw'
          obtain ⟨nq, hw''⟩ := hw'
          subst hw''
          simp only [List.drop_succ_cons, List.drop_zero]
          go_wp2_with fail
          go_roundw
          case rel => exact ⟨i + 1, some ⟨g, 0, none⟩, Q + 1, cc, by omega, by go_num, rfl, by rw [unhide HR], unhide HNN2, unhide HSET nq, unhide HNW, ((unhide HF).drewN nq).setCell (p := ⟨g, Q * 2 + 1, none⟩) (fun h => absurd h (by have := unhide HGL; show ¬ g < _; omega)) _⟩
          case measure => simp [intOf]; omega
      · have HR := hide (rnK_not (s := K.s) (k := i) (by rw [hz]; simpa using hz0))
        have b0 : (((z.toNat : Nat) : Int) == 0) = false := by
          simp only [beq_eq_false_iff_ne, ne_eq]
          exact fun e => hz0 (toNat_zero.1 (by omega))
        generalize z.toNat = zn at *
        generalize hgg : (rnK K.s i).2 = gg at *
        clear hz hz0 hO hnew hf hN hgg
        go_wp2_with fail
        go_roundw
        case rel => exact ⟨i + 1, ao, N, cc, by omega, by go_num, rfl, by rw [unhide HR], by rw [unhide HR]; exact unhide HNN, by rw [unhide HR]; exact unhide HO, unhide HNW, unhide HF⟩
        case measure => simp [intOf]; omega
    · have hie : i = n := by omega
      subst hie
      clear hO hnew hf hN
      generalize hgg : (rnK K.s i).2 = gg at *
      have e : (rnK K.s i).1 = rn K.s := by unfold rn; rw [← unhide HN]
      rw [e] at HO HNN
      clear hgg e
      go_wp2_with fail
      go_ret
      exact ⟨⟨_, rfl, ao, N, cc, rfl, unhide HNN, unhide HO, unhide HNW⟩, unhide HF⟩
end
end Go.Proofs.Ytbpajilglfabbaa
