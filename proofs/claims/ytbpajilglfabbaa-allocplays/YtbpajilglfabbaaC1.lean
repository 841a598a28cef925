/-
  The document's allocator, plainly and in memory; the walks of in, Count, State and New.
-/
import Derived.Test.YtbpajilglfabbaaB5
namespace Go.Proofs.Ytbpajilglfabbaa
open Go.RowKit
set_option linter.unusedVariables false

attribute [local go_sem ↓] Go.wp_at_zero Go.wp_at_succ

/-- States as numbers. -/
def svs (s : List UInt8) : List Value := s.map fun (b : UInt8) => Value.int .i64 ((b.toNat : Nat) : Int)
theorem svs_length (s : List UInt8) : (svs s).length = s.length := by simp [svs]

/-- The document's allocator, plainly: states, what was taken, what was given, how many are reserved, how many hold. -/
structure Rc where
  s : List UInt8
  t : List Nat
  g : List Nat
  r : Nat
  h : Nat

/-- Where its lists lie. -/
structure Lr where
  q : Nat
  tv : Value
  gv : Value

structure RA (w : World) (p : Nat) (Y : Lr) (M : Rc) : Prop where
  hd : w.heap[p]? = some (.cells [.slice (some ⟨Y.q, 0, none⟩) M.s.length M.s.length, Y.tv, Y.gv, .int .i64 (M.r : Int), .int .i64 (M.h : Int)].toArray 68 (0, 0))
  st : w.heap[Y.q]? = some (.cells (svs M.s).toArray 3 (0, 0))
  ts : ∃ ao c, Y.tv = .slice ao M.t.length c
  gs : ∃ ao c, Y.gv = .slice ao M.g.length c
  tO : w.ownsRow 0 3 1 Y.tv M.t.length (ivs M.t)
  gO : w.ownsRow 0 3 1 Y.gv M.g.length (ivs M.g)
  tq : Y.tv.ownBlock ≠ some Y.q
  gq : Y.gv.ownBlock ≠ some Y.q
  tg : ∀ b, Y.tv.ownBlock = some b → Y.gv.ownBlock ≠ some b
  n1 : 1 ≤ M.s.length
  n2 : M.s.length ≤ 65536
  tb : M.t.length ≤ 1000000
  gb : M.g.length ≤ 1000000
  rb : M.r ≤ 65536
  hb : M.h < 4611686018427387904

/-- The blocks of the document's allocator. -/
def Rb (p : Nat) (Y : Lr) (k : Nat) : Prop := k = p ∨ k = Y.q ∨ Y.tv.ownBlock = some k ∨ Y.gv.ownBlock = some k

theorem owns_ty {w : World} {e : TypeId} {v : Value} {n : Nat} {xs : List Value} (h : w.ownsRow 0 e 1 v n xs) {k : Nat} (hk : v.ownBlock = some k) : ∃ cs, w.heap[k]? = some (.cells cs e (0, 0)) := by
  rcases h.2 with ⟨hv, -⟩ | ⟨g, cap, cur, hv, hb, hg, r⟩
  · rw [hv] at hk; simp [Value.ownBlock] at hk
  · rw [hv] at hk
    simp [Value.ownBlock] at hk
    subst hk
    exact ⟨cur, hg⟩

section
variable {w : World} {p : Nat} {Y : Lr} {M : Rc}
theorem RA.ty (H : RA w p Y M) {k : Nat} (hk : Rb p Y k) : (∃ cs, w.heap[k]? = some (.cells cs 68 (0, 0))) ∨ (∃ cs, w.heap[k]? = some (.cells cs 3 (0, 0))) := by
  rcases hk with rfl | rfl | hk | hk
  · exact .inl ⟨_, H.hd⟩
  · exact .inr ⟨_, H.st⟩
  · exact .inr (owns_ty H.tO hk)
  · exact .inr (owns_ty H.gO hk)
theorem RA.lt (H : RA w p Y M) : ∀ k, Rb p Y k → k < w.heap.size := fun k hk => by
  rcases H.ty hk with ⟨cs, h⟩ | ⟨cs, h⟩ <;> exact lt_of_heap h
theorem RA.kept {S : Nat → Prop} {w' : World} (H : RA w p Y M) (f : Fr S w w') (hs : ∀ k, Rb p Y k → ¬ S k) : RA w' p Y M :=
  { H with
    hd := by rw [f.block p (lt_of_heap H.hd) (hs p (.inl rfl))]; exact H.hd
    st := by rw [f.block Y.q (lt_of_heap H.st) (hs Y.q (.inr (.inl rfl)))]; exact H.st
    tO := owns_kept H.tO f (fun k hk => hs k (.inr (.inr (.inl hk))))
    gO := owns_kept H.gO f (fun k hk => hs k (.inr (.inr (.inr hk)))) }
theorem RA.pq (H : RA w p Y M) : p ≠ Y.q := fun e => by have := H.hd; rw [e, H.st] at this; simp at this
theorem RA.pt (H : RA w p Y M) : Y.tv.ownBlock ≠ some p := fun e => by
  obtain ⟨cs, h⟩ := owns_ty H.tO e
  rw [H.hd] at h; simp at h
theorem RA.pg (H : RA w p Y M) : Y.gv.ownBlock ≠ some p := fun e => by
  obtain ⟨cs, h⟩ := owns_ty H.gO e
  rw [H.hd] at h; simp at h
theorem RA.c0 (H : RA w p Y M) : w.cell? ⟨p, 0, none⟩ = some (.slice (some ⟨Y.q, 0, none⟩) M.s.length M.s.length) := by rw [cell_of_heap H.hd]; rfl
theorem RA.c1 (H : RA w p Y M) : w.cell? ⟨p, 1, none⟩ = some Y.tv := by rw [cell_of_heap H.hd]; rfl
theorem RA.c2 (H : RA w p Y M) : w.cell? ⟨p, 2, none⟩ = some Y.gv := by rw [cell_of_heap H.hd]; rfl
theorem RA.c3 (H : RA w p Y M) : w.cell? ⟨p, 3, none⟩ = some (.int .i64 (M.r : Int)) := by rw [cell_of_heap H.hd]; rfl
theorem RA.c4 (H : RA w p Y M) : w.cell? ⟨p, 4, none⟩ = some (.int .i64 (M.h : Int)) := by rw [cell_of_heap H.hd]; rfl
theorem RA.state (H : RA w p Y M) {b : Nat} {v : UInt8} (h : M.s[b]? = some v) : w.cell? ⟨Y.q, b, none⟩ = some (.int .i64 ((v.toNat : Nat) : Int)) := by
  rw [cell_of_heap H.st, List.getElem?_toArray]
  simp [svs, h]
end

/-- Nothing of the one lies in the other. -/
theorem apart {w : World} {p p' : Nat} {X : Ly} {Y : Lr} {K : Kc} {M : Rc} (H : KA w p X K) (G : RA w p' Y M) {k : Nat} (h1 : Bl p X k) (h2 : Rb p' Y k) : False := by
  rcases h1 with rfl | rfl | rfl <;> rcases G.ty h2 with ⟨cs, h⟩ | ⟨cs, h⟩
  · rw [H.hd] at h; simp at h
  · rw [H.hd] at h; simp at h
  · rw [H.st] at h; simp at h
  · rw [H.st] at h; simp at h
  · rw [H.cm] at h; simp at h
  · rw [H.cm] at h; simp at h

section
variable (w : World) (p : Nat) (Y : Lr) (M : Rc)

theorem rin_any (H : RA w p Y M) (b : Int) : Calls Try.prog 67 #[ptr p, .int .i64 b] w fun e w' => e = .returned (.bool (inB M.s.length b)) ∧ w = w' := by
  have c0 := H.c0
  unfold inB
  clear H
  generalize M.s.length = n at *
  by_cases h0 : 0 ≤ b
  · have b1 : decide (0 ≤ b) = true := by simpa using h0
    have e : decide (0 ≤ b ∧ b < (n : Int)) = decide (b < (n : Int)) := by simp [h0]
    rw [e]
    clear h0 e
    unfold ptr at *
    go_enter Try.func67, Try.ntmps67
    go_wp2_with fail
    go_ret
    exact ⟨rfl, rfl⟩
  · have b1 : decide (0 ≤ b) = false := by simpa using h0
    have e : decide (0 ≤ b ∧ b < (n : Int)) = false := by simp [h0]
    rw [e]
    clear h0 e
    unfold ptr
    go_enter Try.func67, Try.ntmps67
    go_wp2_with fail
    go_ret
    exact ⟨rfl, rfl⟩

theorem fr_take {s : List UInt8} {i : Nat} (h : i < s.length) : fr (s.take (i + 1)) = fr (s.take i) + (if s[i] = 0 then 1 else 0) := by
  unfold fr
  rw [List.take_succ_eq_append_getElem h, List.count_append]
  congr 1
  simp [List.count_cons]

set_option maxRecDepth 100000 in
theorem rcount_any (H : RA w p Y M) : Calls Try.prog 53 #[ptr p, .int .i64 0] w fun e w' => e = .returned (.int .i64 (fr M.s : Int)) ∧ ∃ k, w' = w.drewN k := by
  have c0 := H.c0
  have HS : Hid (∀ i v, M.s[i]? = some v → w.cell? ⟨Y.q, i, none⟩ = some (.int .i64 ((v.toNat : Nat) : Int))) := hide (fun i v hv => H.state hv)
  have hn2 := H.n2
  obtain ⟨n, hn⟩ : ∃ n, n = M.s.length := ⟨_, rfl⟩
  rw [← hn] at c0 hn2
  have HN := hide hn
  clear H hn
  unfold ptr
  go_enter Try.func53, Try.ntmps53
  go_wp2_with fail
  go_loopw [6, 5] (fun x y W => ∃ i k : Nat, i ≤ n ∧ x = .int .i64 (i : Int) ∧ y = .int .i64 (k : Int) ∧ k = fr (M.s.take i) ∧ W = w) (fun x _ _ => n - (intOf x).toNat)
  case atStart => exact ⟨0, 0, by omega, rfl, rfl, by simp [fr], rfl⟩
  case round =>
    obtain ⟨i, k, hi, rfl, rfl, hk, rfl⟩ := hrel
    have hkl : k ≤ 65536 := by
      rw [hk]
      have := fr_le (M.s.take i)
      have := List.length_take_le i M.s
      omega
    have HK := hide hk
    clear hk
    by_cases hlt : i < n
    · have i1 : i < M.s.length := by have := unhide HN; omega
      have cs := unhide HS i _ (List.getElem?_eq_getElem i1)
      have HT := hide (fr_take i1)
      by_cases hz : M.s[i] = 0
      · rw [if_pos hz] at HT
        rw [hz] at cs
        clear hz i1
        go_wp2_with fail
        go_roundw
        case rel => exact ⟨i + 1, k + 1, by omega, by go_num, by go_num, by rw [unhide HT, unhide HK], trivial⟩
        case measure => simp [intOf]; omega
      · rw [if_neg hz] at HT
        have b1 : (((M.s[i].toNat : Nat) : Int) == 0) = false := by
          simp only [beq_eq_false_iff_ne, ne_eq]
          exact fun e => hz (toNat_zero.1 (by omega))
        generalize M.s[i].toNat = vn at *
        clear hz i1
        go_wp2_with fail
        go_roundw
        case rel => exact ⟨i + 1, k, by omega, by go_num, rfl, by rw [unhide HT, unhide HK, Nat.add_zero], trivial⟩
        case measure => simp [intOf]; omega
    · have hie : i = n := by omega
      subst hie
      go_wp2_with fail
      go_ret
      have e : k = fr M.s := by rw [unhide HK, List.take_of_length_le (by have := unhide HN; omega)]
      rw [e]
      exact ⟨rfl, 0, rfl⟩

theorem stI_out {s : List UInt8} {b : Int} (h : inB s.length b = false) : stI s b = -1 := by
  unfold stI
  unfold inB at h
  by_cases h0 : 0 ≤ b
  · rw [if_pos h0, List.getElem?_eq_none (by simp at h; omega)]
  · rw [if_neg h0]
theorem stI_in {s : List UInt8} {i : Nat} {v : UInt8} (h : s[i]? = some v) : stI s (i : Int) = ((v.toNat : Nat) : Int) := by
  unfold stI
  rw [if_pos (by omega), Int.toNat_natCast, h]
theorem rstate_any (H : RA w p Y M) (b : Int) : Calls Try.prog 57 #[ptr p, .int .i64 b] w fun e w' => e = .returned (.int .i64 (stI M.s b)) ∧ w = w' := by
  have HI := hide (rin_any w p Y M H b)
  have c0 := H.c0
  cases hi : inB M.s.length b
  · rw [hi] at HI
    rw [stI_out hi]
    clear H hi
    unfold ptr at *
    go_enter Try.func57, Try.ntmps57
    go_wp2_with fail
    refine (unhide HI).mono ?_
    rintro e w' ⟨rfl, rfl⟩
    go_wp2_with fail
    go_ret
    exact ⟨rfl, rfl⟩
  · rw [hi] at HI
    obtain ⟨i, rfl, hin⟩ := in_nat hi
    obtain ⟨v, hv⟩ := get_ex hin
    have cs := H.state hv
    rw [stI_in hv]
    have hn2 := H.n2
    clear H hi hv
    generalize M.s.length = n at *
    generalize v.toNat = vn at *
    unfold ptr at *
    go_enter Try.func57, Try.ntmps57
    go_wp2_with fail
    refine (unhide HI).mono ?_
    rintro e w' ⟨rfl, rfl⟩
    go_wp2_with fail
    go_ret
    exact ⟨rfl, rfl⟩

theorem made_ints (n : Nat) : madeCells (Value.int .i64 0).cells (n * 1) = (svs (List.replicate n 0)).toArray := by
  apply Array.ext
  · simp [svs, size_madeCells]
  · intro i h1 h2
    simp [svs, madeCells, Value.cells, Nat.mod_one]
theorem run_make51 (n : Nat) (hn : n ≤ 65536) (w : World) : (Instr.makeSlice 51 (.int .i64 (n : Int)) (.int .i64 (n : Int))).run Try.prog w = .ok (.slice (some ⟨w.heap.size, 0, none⟩) n n) (w.alloc (.cells (svs (List.replicate n 0)).toArray 3)) := by
  obtain ⟨i, hi, hz0, hz1, hz2⟩ := info_parts Try.info3
  have := run_make (P := Try.prog) w 51 3 i _ Try.underlying51 hi hz0 .i64 .i64 (n : Int) (n : Int) (by omega) (Int.le_refl _) (by rw [hz2]; omega) (by omega)
  rw [this, hz1, Int.toNat_natCast, made_ints]

def rc0 (n : Nat) : Rc := ⟨List.replicate n 0, [], [], 0, 0⟩

set_option maxRecDepth 100000 in
theorem rnew_ok (n : Nat) (h1 : 1 ≤ n) (h2 : n ≤ 65536) : Calls Try.prog 43 #[.int .i64 (n : Int)] w fun e w' => (∃ p Y, e = .returned (.tuple #[ptr p, .int .i64 0]) ∧ RA w' p Y (rc0 n) ∧ ∀ k, Rb p Y k → w.heap.size ≤ k) ∧ Fr (fun _ => False) w w' := by
  have b1 : decide ((n : Int) < 1) = false := by simp; omega
  have b2 : decide ((65536 : Int) < (n : Int)) = false := by simp; omega
  have m1 := run_make51 n h2
  obtain ⟨z1, hz1⟩ : ∃ z, z = (svs (List.replicate n 0)).toArray := ⟨_, rfl⟩
  rw [← hz1] at m1
  have HZ := hide hz1
  have H1 := hide h1
  have H2 := hide h2
  clear h1 h2 hz1
  go_enter Try.func43, Try.ntmps43
  go_wp2_with fail
  go_ret2
  have h1 := unhide H1
  have h2 := unhide H2
  have s1 : (w.alloc (.cells z1 3)).heap.size = w.heap.size + 1 := by simp
  have g1 := heap_alloc_new w (.cells z1 3)
  have g2 := heap_alloc_new (w.alloc (.cells z1 3)) (.cells #[.slice (some ⟨w.heap.size, 0, none⟩) n n, .slice none 0 0, .slice none 0 0, .int .i64 0, .int .i64 0] 68)
  rw [s1] at g2
  refine ⟨⟨w.heap.size + 1, ⟨w.heap.size, .slice none 0 0, .slice none 0 0⟩, rfl, ⟨?_, ?_, ⟨_, _, rfl⟩, ⟨_, _, rfl⟩, owns_nilE _ 3, owns_nilE _ 3, by simp [Value.ownBlock], by simp [Value.ownBlock], by simp [Value.ownBlock], by simp [rc0]; omega, by simp [rc0]; omega, by simp [rc0], by simp [rc0], by simp [rc0], by simp [rc0]⟩, ?_⟩, ((Fr.refl _ _).alloc _).alloc _⟩
  · rw [g2]; simp [rc0]
  · rw [Below.heap_alloc _ _ _ (by dsimp only; omega)]
    show (w.alloc (.cells z1 3)).heap[w.heap.size]? = _
    rw [g1, unhide HZ]
    rfl
  · rintro k (h | h | h | h)
    · omega
    · have h : k = w.heap.size := h
      omega
    · simp [Value.ownBlock] at h
    · simp [Value.ownBlock] at h
theorem rnew_no (n : Int) (h : n < 1 ∨ 65536 < n) : Calls Try.prog 43 #[.int .i64 n] w fun e w' => e = .returned (.tuple #[.pointer none, .int .i64 2]) ∧ w = w' := by
  by_cases h1 : n < 1
  · have b1 : decide (n < 1) = true := by simpa using h1
    clear h h1
    go_enter Try.func43, Try.ntmps43
    go_wp2_with fail
    go_ret2
    exact ⟨rfl, rfl⟩
  · have b1 : decide (n < 1) = false := by simpa using h1
    have b2 : decide (65536 < n) = true := by simp; omega
    clear h h1
    go_enter Try.func43, Try.ntmps43
    go_wp2_with fail
    go_ret2
    exact ⟨rfl, rfl⟩
end
end Go.Proofs.Ytbpajilglfabbaa
