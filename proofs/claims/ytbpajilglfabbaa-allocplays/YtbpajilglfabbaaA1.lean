/-
  An allocator in memory; the walks of what it tells of itself, and of set.
-/
import Derived.Test.YtbpajilglfabbaaA0
import Derived.Lib.SliceRun
namespace Go.Proofs.Ytbpajilglfabbaa
open Go.RowKit
set_option linter.unusedVariables false

attribute [local go_sem ↓] Go.wp_at_zero Go.wp_at_succ

def ptr (a : Nat) : Value := .pointer (some ⟨a, 0, none⟩)
def uvs (l : List Nat) : List Value := l.map fun (n : Nat) => Value.int .u64 (n : Int)
def ivs (l : List Nat) : List Value := l.map fun (n : Nat) => Value.int .i64 (n : Int)
theorem uvs_length (l : List Nat) : (uvs l).length = l.length := by simp [uvs]
theorem ivs_length (l : List Nat) : (ivs l).length = l.length := by simp [ivs]

/-- An allocator, plainly: states, which change brought a block to its own, how many changes there were, how many blocks are reserved, how many hold. -/
structure Kc where
  s : List UInt8
  c : List Nat
  ch : Nat
  r : Nat
  h : Nat

/-- Where its lists lie, and what lies behind them. -/
structure Ly where
  q : Nat
  u : Nat
  xq : List Value
  xu : List Value

def hdC (X : Ly) (n : Nat) (K : Kc) : List Value := [.slice (some ⟨X.q, 0, none⟩) n (n + X.xq.length), .slice (some ⟨X.u, 0, none⟩) n (n + X.xu.length), .int .u64 (K.ch : Int), .int .i64 (fr K.s : Int), .int .i64 (K.r : Int), .int .i64 (K.h : Int)]

structure KA (w : World) (p : Nat) (X : Ly) (K : Kc) : Prop where
  hd : w.heap[p]? = some (.cells (hdC X K.s.length K).toArray 75 (0, 0))
  st : w.heap[X.q]? = some (.cells (bvs K.s ++ X.xq).toArray 5 (0, 0))
  cm : w.heap[X.u]? = some (.cells (uvs K.c ++ X.xu).toArray 73 (0, 0))
  cl : K.c.length = K.s.length
  n1 : 1 ≤ K.s.length
  n2 : K.s.length ≤ 65536
  m1 : K.s.length + X.xq.length ≤ maxLen
  m2 : K.s.length + X.xu.length ≤ maxLen
  cb : K.ch < 4611686018427387904
  hb : K.h < 4611686018427387904
  rb : K.r ≤ 65536

/-- The blocks of an allocator. -/
def Bl (p : Nat) (X : Ly) (k : Nat) : Prop := k = p ∨ k = X.q ∨ k = X.u

section
variable {w : World} {p : Nat} {X : Ly} {K : Kc}
theorem KA.pq (H : KA w p X K) : p ≠ X.q := fun e => by have := H.hd; rw [e, H.st] at this; simp at this
theorem KA.pu (H : KA w p X K) : p ≠ X.u := fun e => by have := H.hd; rw [e, H.cm] at this; simp at this
theorem KA.qu (H : KA w p X K) : X.q ≠ X.u := fun e => by have := H.st; rw [e, H.cm] at this; simp at this
theorem KA.kept {S : Nat → Prop} {w' : World} (H : KA w p X K) (f : Fr S w w') (hs : ∀ k, Bl p X k → ¬ S k) : KA w' p X K :=
  { H with
    hd := by rw [f.block p (lt_of_heap H.hd) (hs p (.inl rfl))]; exact H.hd
    st := by rw [f.block X.q (lt_of_heap H.st) (hs X.q (.inr (.inl rfl)))]; exact H.st
    cm := by rw [f.block X.u (lt_of_heap H.cm) (hs X.u (.inr (.inr rfl)))]; exact H.cm }
theorem KA.lt (H : KA w p X K) : ∀ k, Bl p X k → k < w.heap.size := by
  rintro k (rfl | rfl | rfl)
  · exact lt_of_heap H.hd
  · exact lt_of_heap H.st
  · exact lt_of_heap H.cm
theorem KA.c0 (H : KA w p X K) : w.cell? ⟨p, 0, none⟩ = some (.slice (some ⟨X.q, 0, none⟩) K.s.length (K.s.length + X.xq.length)) := by rw [cell_of_heap H.hd]; rfl
theorem KA.c1 (H : KA w p X K) : w.cell? ⟨p, 1, none⟩ = some (.slice (some ⟨X.u, 0, none⟩) K.s.length (K.s.length + X.xu.length)) := by rw [cell_of_heap H.hd]; rfl
theorem KA.c2 (H : KA w p X K) : w.cell? ⟨p, 2, none⟩ = some (.int .u64 (K.ch : Int)) := by rw [cell_of_heap H.hd]; rfl
theorem KA.c3 (H : KA w p X K) : w.cell? ⟨p, 3, none⟩ = some (.int .i64 (fr K.s : Int)) := by rw [cell_of_heap H.hd]; rfl
theorem KA.c4 (H : KA w p X K) : w.cell? ⟨p, 4, none⟩ = some (.int .i64 (K.r : Int)) := by rw [cell_of_heap H.hd]; rfl
theorem KA.c5 (H : KA w p X K) : w.cell? ⟨p, 5, none⟩ = some (.int .i64 (K.h : Int)) := by rw [cell_of_heap H.hd]; rfl
theorem KA.state (H : KA w p X K) {b : Nat} {v : UInt8} (h : K.s[b]? = some v) : w.cell? ⟨X.q, b, none⟩ = some (.int .u8 ((v.toNat : Nat) : Int)) := by
  have hb := (List.getElem?_eq_some_iff.1 h).1
  rw [cell_of_heap H.st]
  rw [List.getElem?_toArray, List.getElem?_append_left (by rw [bvs_length]; exact hb)]
  simp [bvs, h]
theorem KA.came (H : KA w p X K) {b : Nat} {v : Nat} (h : K.c[b]? = some v) : w.cell? ⟨X.u, b, none⟩ = some (.int .u64 (v : Int)) := by
  have hb := (List.getElem?_eq_some_iff.1 h).1
  rw [cell_of_heap H.cm]
  rw [List.getElem?_toArray, List.getElem?_append_left (by rw [uvs_length]; exact hb)]
  simp [uvs, h]
end

section
variable (w : World) (p : Nat) (X : Ly) (K : Kc)

theorem eql_ptr (p : Nat) : (binOp .eql 25 (.pointer (some ⟨p, 0, none⟩)) (.pointer none)).run Try.prog w = .ok (.bool false) w := by simp [go_sem]

theorem blocks_any (H : KA w p X K) : Calls Try.prog 18 #[ptr p] w fun e w' => e = .returned (.int .i64 (K.s.length : Int)) ∧ w = w' := by
  have c0 := H.c0
  have heq := eql_ptr w p
  unfold ptr
  clear H
  generalize K.s.length = n at *
  generalize n + X.xq.length = cq at *
  go_enter Try.func18, Try.ntmps18
  go_wp2_with fail
  go_ret
  exact ⟨rfl, rfl⟩
theorem free_any (H : KA w p X K) : Calls Try.prog 19 #[ptr p] w fun e w' => e = .returned (.int .i64 (fr K.s : Int)) ∧ w = w' := by
  have c3 := H.c3
  unfold ptr
  clear H
  generalize fr K.s = n at *
  go_enter Try.func19, Try.ntmps19
  go_wp2_with fail
  go_ret
  exact ⟨rfl, rfl⟩
theorem reserved_any (H : KA w p X K) : Calls Try.prog 27 #[ptr p] w fun e w' => e = .returned (.int .i64 (K.r : Int)) ∧ w = w' := by
  have c4 := H.c4
  unfold ptr
  clear H
  generalize K.r = n at *
  go_enter Try.func27, Try.ntmps27
  go_wp2_with fail
  go_ret
  exact ⟨rfl, rfl⟩
theorem holds_any (H : KA w p X K) : Calls Try.prog 26 #[ptr p] w fun e w' => e = .returned (.int .i64 (K.h : Int)) ∧ w = w' := by
  have c5 := H.c5
  unfold ptr
  clear H
  generalize K.h = n at *
  go_enter Try.func26, Try.ntmps26
  go_wp2_with fail
  go_ret
  exact ⟨rfl, rfl⟩

/-- Is there such a block? -/
def inB (n : Nat) (b : Int) : Bool := decide (0 ≤ b ∧ b < (n : Int))

theorem has_any (b : Int) (H : KA w p X K) : Calls Try.prog 41 #[ptr p, .int .i64 b] w fun e w' => e = .returned (.bool (inB K.s.length b)) ∧ w = w' := by
  have HB := hide (blocks_any w p X K H)
  unfold inB
  clear H
  generalize K.s.length = n at *
  by_cases h0 : 0 ≤ b
  · have b1 : decide (0 ≤ b) = true := by simpa using h0
    have e : decide (0 ≤ b ∧ b < (n : Int)) = decide (b < (n : Int)) := by simp [h0]
    rw [e]
    clear h0 e
    unfold ptr at *
    go_enter Try.func41, Try.ntmps41
    go_wp2_with fail
    refine (unhide HB).mono ?_
    rintro e w' ⟨rfl, rfl⟩
    go_wp2_with fail
    go_ret
    exact ⟨rfl, rfl⟩
  · have b1 : decide (0 ≤ b) = false := by simpa using h0
    have e : decide (0 ≤ b ∧ b < (n : Int)) = false := by simp [h0]
    rw [e]
    clear h0 e
    unfold ptr
    go_enter Try.func41, Try.ntmps41
    go_wp2_with fail
    go_ret
    exact ⟨rfl, rfl⟩

theorem check_any (b : Int) (H : KA w p X K) : Calls Try.prog 58 #[ptr p, .int .i64 b] w fun e w' => e = .returned (.int .i64 (if inB K.s.length b then 0 else 2)) ∧ w = w' := by
  have HB := hide (has_any w p X K b H)
  clear H
  cases hi : inB K.s.length b
  all_goals
    rw [hi] at HB
    unfold ptr at *
    go_enter Try.func58, Try.ntmps58
    go_wp2_with fail
    refine (unhide HB).mono ?_
    rintro e w' ⟨rfl, rfl⟩
    go_wp2_with fail
    go_ret
    exact ⟨rfl, rfl⟩

theorem spare_any (H : KA w p X K) : Calls Try.prog 59 #[ptr p] w fun e w' => e = .returned (.bool (decide (K.r < fr K.s))) ∧ Fr (fun _ => False) w w' := by
  have c3 := H.c3
  have c4 := H.c4
  unfold ptr
  clear H
  generalize fr K.s = n at *
  generalize K.r = m at *
  go_enter Try.func59, Try.ntmps59
  go_wp2_with fail
  go_quiet (fail)
  go_wp2_with fail
  go_ret
  exact ⟨rfl, Fr.ofDrewN _ _⟩

theorem state_any (b : Int) (H : KA w p X K) : Calls Try.prog 22 #[ptr p, .int .i64 b] w fun e w' => e = .returned (.int .i64 (if 0 ≤ b then (match K.s[b.toNat]? with | some v => ((v.toNat : Nat) : Int) | none => -1) else -1)) ∧ w = w' := by
  have HB := hide (has_any w p X K b H)
  cases hi : inB K.s.length b
  · rw [hi] at HB
    have e : (if 0 ≤ b then (match K.s[b.toNat]? with | some v => ((v.toNat : Nat) : Int) | none => -1) else -1) = -1 := by
      unfold inB at hi
      by_cases h0 : 0 ≤ b
      · rw [if_pos h0, List.getElem?_eq_none (by simp at hi; omega)]
      · rw [if_neg h0]
    rw [e]
    clear H e hi
    unfold ptr at *
    go_enter Try.func22, Try.ntmps22
    go_wp2_with fail
    refine (unhide HB).mono ?_
    rintro e w' ⟨rfl, rfl⟩
    go_wp2_with fail
    go_ret
    exact ⟨rfl, rfl⟩
  · rw [hi] at HB
    unfold inB at hi
    have hi2 : 0 ≤ b ∧ b < (K.s.length : Int) := by simpa using hi
    obtain ⟨i, rfl⟩ : ∃ i : Nat, b = (i : Int) := ⟨b.toNat, by omega⟩
    have hlt : i < K.s.length := by omega
    obtain ⟨v, hv⟩ : ∃ v, K.s[i]? = some v := ⟨_, List.getElem?_eq_getElem hlt⟩
    have c0 := H.c0
    have cs := H.state hv
    have e : (if 0 ≤ (i : Int) then (match K.s[(i : Int).toNat]? with | some v => ((v.toNat : Nat) : Int) | none => -1) else -1) = ((v.toNat : Nat) : Int) := by
      rw [if_pos (by omega), Int.toNat_natCast, hv]
    rw [e]
    have hvb := v.toNat_lt
    clear H e hi hi2 hv
    generalize K.s.length = n at *
    generalize n + X.xq.length = cq at *
    generalize v.toNat = vn at *
    unfold ptr at *
    go_enter Try.func22, Try.ntmps22
    go_wp2_with fail
    refine (unhide HB).mono ?_
    rintro e w' ⟨rfl, rfl⟩
    go_wp2_with fail
    go_ret
    exact ⟨rfl, rfl⟩

theorem bitmapBytes_any (n : Nat) (hn : n ≤ 65536) : Calls Try.prog 39 #[.int .i64 (n : Int)] w fun e w' => e = .returned (.int .i64 (((n + 7) / 8 : Nat) : Int)) ∧ w = w' := by
  go_enter Try.func39, Try.ntmps39
  go_wp2_with fail
  go_ret
  refine ⟨?_, rfl⟩
  first | rfl | (congr 3; omega) | skip
end
end Go.Proofs.Ytbpajilglfabbaa
