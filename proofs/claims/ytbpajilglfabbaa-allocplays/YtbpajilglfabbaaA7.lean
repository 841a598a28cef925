/-
  The walks of Commit, Abort, LetGo.
-/
import Derived.Test.YtbpajilglfabbaaA6
namespace Go.Proofs.Ytbpajilglfabbaa
open Go.RowKit
set_option linter.unusedVariables false

attribute [local go_sem ↓] Go.wp_at_zero Go.wp_at_succ

theorem Nw.far {w0 w : World} {v : Value} {l : List Nat} (h : Nw w0 w v l) {p : Nat} {X : Ly} (hb : ∀ k, Bl p X k → k < w0.heap.size) : ∀ k, v.ownBlock = some k → ¬ Bl p X k := by
  obtain ⟨ao, N, cc, rfl, hN, ho, hn⟩ := h
  intro k hk hB
  have := hn k hk
  have := hb k hB
  omega
theorem Nw.nil (w0 w : World) : Nw w0 w (.slice none 0 0) [] := ⟨none, 0, 0, rfl, rfl, owns_nilE _ 3, fun b hb => by simp [Value.ownBlock] at hb⟩
theorem Nw.shape {w0 w : World} {v : Value} {l : List Nat} (h : Nw w0 w v l) : ∃ ao N cc, v = .slice ao N cc ∧ N = l.length := by
  obtain ⟨ao, N, cc, rfl, hN, ho, hn⟩ := h
  exact ⟨ao, N, cc, rfl, hN⟩

theorem idx_lt {s : List UInt8} {v : UInt8} : ∀ b ∈ idx s v, b < s.length := fun b hb => (List.getElem?_eq_some_iff.1 (mem_idx.1 hb)).1

def Kc.commit (K : Kc) : Kc := (K.setL (idx K.s 2) 1).setL (idx K.s 3) (if 0 < K.h then 4 else 0)
def Kc.abort (K : Kc) : Kc := (K.setL (idx K.s 2) 0).setL (idx (K.setL (idx K.s 2) 0).s 3) 1
/-- LetGo: what is left, the blocks that are free now. -/
def Kc.letGo (K : Kc) : Kc × List Nat :=
  if K.h = 0 then (K, []) else if 1 < K.h then ({ K with h := K.h - 1 }, []) else (({ K with h := K.h - 1 } : Kc).setL (idx K.s 4) 0, idx K.s 4)

section
variable (w : World) (p : Nat) (X : Ly) (K : Kc)

set_option maxHeartbeats 1000000 in
theorem commit_any (H : KA w p X K) (hc : K.ch + 200000 < 4611686018427387904) : Calls Try.prog 28 #[ptr p] w fun e w' => (∃ x y, e = .returned (.tuple #[x, y]) ∧ Nw w w' x (idx K.s 2) ∧ Nw w w' y (idx K.s 3)) ∧ KA w' p X K.commit ∧ Fr (Bl p X) w w' := by
  have HA2 := hide (all_any w p X K H 2)
  have hl2 := idx_length K.s 2
  have hl3 := idx_length K.s 3
  have hn2 := H.n2
  have HH := hide H
  have hlt := H.lt
  have HLT := hide hlt
  have HC : Hid (K.ch + (idx K.s 2).length + (idx K.s 3).length < 4611686018427387904) := hide (by omega)
  unfold Kc.commit
  obtain ⟨tv, htv⟩ : ∃ t : UInt8, t = (if 0 < K.h then 4 else 0) := ⟨_, rfl⟩
  rw [← htv]
  have HTV := hide htv
  clear htv
  clear H hc hl2 hl3 hn2 hlt
  unfold ptr at *
  go_enter Try.func28, Try.ntmps28
  go_wp2_with fail
  refine (unhide HA2).mono ?_
  rintro e w1 ⟨⟨x, rfl, hx⟩, f1⟩
  have H1 := (unhide HH).kept f1 (fun _ _ h => h)
  have HA3 := hide (all_any w1 p X K H1 3)
  have HX := hide hx
  have HF1 := hide f1
  obtain ⟨xo, xn, xc, rfl, -⟩ := hx.shape
  clear hx f1 H1
  unfold ptr at HA3
  go_wp2_with fail
  refine (unhide HA3).mono ?_
  rintro e w2 ⟨⟨y, rfl, hy⟩, f2⟩
  have HX2 := hide ((unhide HX).kept f2 (fun _ _ h => h))
  have HY := hide (hy.older (unhide HF1).size)
  have HF2 := hide ((unhide HF1).trans f2 (fun _ _ h => h))
  have H2 := (unhide HH).kept (unhide HF2) (fun _ _ h => h)
  have HS1 := hide (setAll_any w2 p X K H2 _ _ (unhide HX2).rd ((unhide HX2).far (unhide HLT)) idx_lt (by have := unhide HC; omega) 1)
  obtain ⟨yo, yn, yc, rfl, -⟩ := hy.shape
  clear hy f2 H2 HX
  unfold ptr at HS1
  go_wp2_with fail
  refine (unhide HS1).mono ?_
  rintro e w3 ⟨rfl, hK3, f3⟩
  have HX3 := hide ((unhide HX2).kept f3 ((unhide HX2).far (unhide HLT)))
  have HY3 := hide ((unhide HY).kept f3 ((unhide HY).far (unhide HLT)))
  have HF3 := hide (((unhide HF2).mono (fun _ _ h => h.elim) : Fr (Bl p X) w w2).trans f3 (fun _ _ h => h))
  have c5 := hK3.c5
  rw [Kc.setL_h] at c5
  have HS2 : Hid (∀ v : UInt8, Calls Try.prog 64 #[.pointer (some ⟨p, 0, none⟩), .slice yo yn yc, .int .u8 ((v.toNat : Nat) : Int)] w3 fun e w' => e = .returned (.tuple #[]) ∧ KA w' p X ((K.setL (idx K.s 2) 1).setL (idx K.s 3) v) ∧ Fr (Bl p X) w3 w') := hide (fun v => setAll_any w3 p X _ hK3 _ _ (unhide HY3).rd ((unhide HY3).far (unhide HLT)) (fun b hb => by rw [Kc.setL_s, setL_length]; exact idx_lt b hb) (by rw [Kc.setL_ch]; have := unhide HC; omega) v)
  clear hK3 f3 HX2 HY HF2 HF1 HS1 HA3 HA2
  by_cases hh : 0 < K.h
  · have b1 : decide (0 < K.h) = true := by simpa using hh
    have HP := hide hh
    have HS3 := hide (unhide HS2 4)
    clear hh HS2
    go_wp2_with fail
    refine (unhide HS3).mono ?_
    rintro e w4 ⟨rfl, hK4, f4⟩
    have HK4 := hide hK4
    have HX4 := hide ((unhide HX3).kept f4 ((unhide HX3).far (unhide HLT)))
    have HY4 := hide ((unhide HY3).kept f4 ((unhide HY3).far (unhide HLT)))
    have HF4 := hide ((unhide HF3).trans f4 (fun _ _ h => h))
    clear hK4 f4
    go_wp2_with fail
    go_ret2
    have e : tv = 4 := by rw [unhide HTV, if_pos (unhide HP)]
    rw [e]
    exact ⟨⟨_, _, rfl, unhide HX4, unhide HY4⟩, unhide HK4, unhide HF4⟩
  · have HP := hide hh
    have h0 : K.h = 0 := by omega
    rw [h0] at c5
    have HS3 := hide (unhide HS2 0)
    clear hh HS2 h0
    go_wp2_with fail
    refine (unhide HS3).mono ?_
    rintro e w4 ⟨rfl, hK4, f4⟩
    have HK4 := hide hK4
    have HX4 := hide ((unhide HX3).kept f4 ((unhide HX3).far (unhide HLT)))
    have HY4 := hide ((unhide HY3).kept f4 ((unhide HY3).far (unhide HLT)))
    have HF4 := hide ((unhide HF3).trans f4 (fun _ _ h => h))
    clear hK4 f4
    go_wp2_with fail
    go_ret2
    have e : tv = 0 := by rw [unhide HTV, if_neg (unhide HP)]
    rw [e]
    exact ⟨⟨_, _, rfl, unhide HX4, unhide HY4⟩, unhide HK4, unhide HF4⟩

set_option maxHeartbeats 1000000 in
theorem abort_any (H : KA w p X K) (hc : K.ch + 200000 < 4611686018427387904) : Calls Try.prog 32 #[ptr p] w fun e w' => e = .returned (.tuple #[]) ∧ KA w' p X K.abort ∧ Fr (Bl p X) w w' := by
  have HA2 := hide (all_any w p X K H 2)
  have hl2 := idx_length K.s 2
  have hl3 := idx_length (K.setL (idx K.s 2) 0).s 3
  rw [Kc.setL_s, setL_length] at hl3
  have hn2 := H.n2
  have HH := hide H
  have hlt := H.lt
  have HLT := hide hlt
  have HC : Hid (K.ch + (idx K.s 2).length + (idx (Ytbpajilglfabbaa.setL (idx K.s 2) K.s 0) 3).length < 4611686018427387904) := hide (by omega)
  unfold Kc.abort
  clear H hc hl2 hl3 hn2 hlt
  unfold ptr at *
  go_enter Try.func32, Try.ntmps32
  go_wp2_with fail
  refine (unhide HA2).mono ?_
  rintro e w1 ⟨⟨x, rfl, hx⟩, f1⟩
  have H1 := (unhide HH).kept f1 (fun _ _ h => h)
  have HS1 := hide (setAll_any w1 p X K H1 _ _ hx.rd (hx.far (unhide HLT)) idx_lt (by have := unhide HC; omega) 0)
  have HF1 := hide f1
  obtain ⟨xo, xn, xc, rfl, -⟩ := hx.shape
  clear hx f1 H1
  unfold ptr at HS1
  go_wp2_with fail
  refine (unhide HS1).mono ?_
  rintro e w2 ⟨rfl, hK2, f2⟩
  have HK2 := hide hK2
  have hlt2 := hK2.lt
  have HLT2 := hide hlt2
  have HF2 := hide (((unhide HF1).mono (fun _ _ h => h.elim) : Fr (Bl p X) w w1).trans f2 (fun _ _ h => h))
  have HA3 := hide (all_any w2 p X _ hK2 3)
  unfold ptr at HA3
  clear hK2 f2 hlt2 HS1 HA2
  go_wp2_with fail
  refine (unhide HA3).mono ?_
  rintro e w3 ⟨⟨y, rfl, hy⟩, f3⟩
  have H3 := (unhide HK2).kept f3 (fun _ _ h => h)
  have HS3 := hide (setAll_any w3 p X _ H3 _ _ hy.rd (hy.far (unhide HLT2)) (fun b hb => by exact idx_lt b hb) (by rw [Kc.setL_ch, Kc.setL_s]; exact unhide HC) 1)
  have HF3 := hide ((unhide HF2).trans f3 (fun _ _ h => h.elim))
  obtain ⟨yo, yn, yc, rfl, -⟩ := hy.shape
  clear hy f3 H3
  unfold ptr at HS3
  go_wp2_with fail
  refine (unhide HS3).mono ?_
  rintro e w4 ⟨rfl, hK4, f4⟩
  have HK4 := hide hK4
  have HF4 := hide ((unhide HF3).trans f4 (fun _ _ h => h))
  clear hK4 f4
  go_wp2_with fail
  go_end0
  exact ⟨rfl, unhide HK4, unhide HF4⟩

set_option maxHeartbeats 1000000 in
theorem letGo_any (H : KA w p X K) (hc : K.ch + 200000 < 4611686018427387904) : Calls Try.prog 34 #[ptr p] w fun e w' => (∃ x, e = .returned x ∧ Nw w w' x K.letGo.2) ∧ KA w' p X K.letGo.1 ∧ Fr (Bl p X) w w' := by
  have HH := hide H
  have c5 := H.c5
  have z5 := frozen_of_heap H.hd 5
  unfold Kc.letGo
  by_cases h0 : K.h = 0
  · rw [if_pos h0]
    rw [h0] at c5
    clear H h0
    unfold ptr
    go_enter Try.func34, Try.ntmps34
    go_wp2_with fail
    go_ret
    exact ⟨⟨_, rfl, Nw.nil _ _⟩, unhide HH, Fr.refl _ _⟩
  · rw [if_neg h0]
    obtain ⟨m, hm⟩ : ∃ m, K.h = m + 1 := ⟨K.h - 1, by omega⟩
    have hhb := H.hb
    have hK := H.setH m (by omega)
    have e1 : K.h - 1 = m := by omega
    have e2 : (K.h : Int) = (m : Int) + 1 := by omega
    rw [e2] at c5
    have hmb : m < 4611686018427387904 := by omega
    have hne : ((m : Int) + 1 == 0) = false := by simp; omega
    by_cases h1 : 1 < K.h
    · rw [if_pos h1, e1]
      have b1 : decide (0 < m) = true := by simp; omega
      have HK := hide hK
      clear H h0 hm hhb hK e1 e2 h1
      unfold ptr
      go_enter Try.func34, Try.ntmps34
      go_wp2_with fail
      go_ret
      exact ⟨⟨_, rfl, Nw.nil _ _⟩, unhide HK, (Fr.refl _ _).setCell (p := ⟨p, 5, none⟩) (fun _ => .inl rfl) _⟩
    · rw [if_neg h1]
      obtain rfl : m = 0 := by omega
      have e3 : K.h - 1 = 0 := by omega
      rw [e3]
      have hn2 := H.n2
      have hl4 := idx_length K.s 4
      have HC : Hid (K.ch + (idx K.s 4).length < 4611686018427387904) := hide (by omega)
      have HA := hide (all_any _ p X _ hK 4)
      have HK := hide hK
      have HLT := hide H.lt
      have HLT2 := hide hK.lt
      have HF0 : Hid (Fr (Bl p X) w (w.setCell ⟨p, 5, none⟩ (.int .i64 ((0 : Nat) : Int)))) := hide ((Fr.refl _ _).setCell (p := ⟨p, 5, none⟩) (fun _ => .inl rfl) _)
      clear H h0 hm hhb hK e1 e2 h1 hn2 hl4 e3
      unfold ptr at *
      have hs : (w.setCell ⟨p, 5, none⟩ (.int .i64 ((0 : Nat) : Int))).heap.size = w.heap.size := by simp [World.setCell]
      have HSZ := hide hs
      clear hs
      rw [show ((0 : Nat) : Int) = 0 from rfl] at *
      go_enter Try.func34, Try.ntmps34
      go_wp2_with fail
      refine (unhide HA).mono ?_
      rintro e w1 ⟨⟨x, rfl, hx⟩, f1⟩
      have H1 := (unhide HK).kept f1 (fun _ _ h => h)
      have HS1 := hide (setAll_any w1 p X _ H1 _ _ hx.rd (hx.far (unhide HLT2)) (fun b hb => idx_lt b hb) (unhide HC) 0)
      have HF1 := hide ((unhide HF0).trans f1 (fun _ _ h => h.elim))
      have HX := hide hx
      obtain ⟨xo, xn, xc, rfl, -⟩ := hx.shape
      clear hx f1 H1
      unfold ptr at HS1
      go_wp2_with fail
      refine (unhide HS1).mono ?_
      rintro e w2 ⟨rfl, hK2, f2⟩
      have HK2 := hide hK2
      have HX2 := hide ((unhide HX).kept f2 ((unhide HX).far (unhide HLT2)))
      have HF2 := hide ((unhide HF1).trans f2 (fun _ _ h => h))
      clear hK2 f2
      go_wp2_with fail
      go_ret
      exact ⟨⟨_, rfl, (unhide HX2).older (Nat.le_of_eq (unhide HSZ).symm)⟩, unhide HK2, unhide HF2⟩
end
end Go.Proofs.Ytbpajilglfabbaa
