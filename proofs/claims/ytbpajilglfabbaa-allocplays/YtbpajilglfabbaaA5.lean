/-
  The walks of setAll, takeFree, Take, TakeReserved, Give, Mark, Reserve, Release.
-/
import Derived.Test.YtbpajilglfabbaaA4
namespace Go.Proofs.Ytbpajilglfabbaa
open Go.RowKit
set_option linter.unusedVariables false

attribute [local go_sem ↓] Go.wp_at_zero Go.wp_at_succ

theorem get_ex {α : Type} {l : List α} {i : Nat} (h : i < l.length) : ∃ u, l[i]? = some u := ⟨_, List.getElem?_eq_getElem h⟩

def Kc.setL (K : Kc) (l : List Nat) (v : UInt8) : Kc := l.foldl (fun K b => K.set b v) K
theorem Kc.setL_s (K : Kc) (l : List Nat) (v : UInt8) : (K.setL l v).s = Ytbpajilglfabbaa.setL l K.s v := by
  induction l generalizing K with
  | nil => rfl
  | cons b l ih => exact ih (K.set b v)
theorem Kc.setL_ch (K : Kc) (l : List Nat) (v : UInt8) : (K.setL l v).ch = K.ch + l.length := by
  induction l generalizing K with
  | nil => rfl
  | cons b l ih =>
    have := ih (K.set b v)
    have e : K.setL (b :: l) v = (K.set b v).setL l v := rfl
    rw [e, this]
    simp [Kc.set]
    omega
theorem Kc.setL_snoc (K : Kc) (l : List Nat) (b : Nat) (v : UInt8) : K.setL (l ++ [b]) v = (K.setL l v).set b v := by simp [Kc.setL]
theorem Kc.setL_r (K : Kc) (l : List Nat) (v : UInt8) : (K.setL l v).r = K.r := by
  induction l generalizing K with
  | nil => rfl
  | cons b l ih => exact ih (K.set b v)
theorem Kc.setL_h (K : Kc) (l : List Nat) (v : UInt8) : (K.setL l v).h = K.h := by
  induction l generalizing K with
  | nil => rfl
  | cons b l ih => exact ih (K.set b v)

section
variable {w : World} {p : Nat} {X : Ly} {K : Kc}
theorem KA.setR (H : KA w p X K) (r' : Nat) (h : r' ≤ 65536) : KA (w.setCell ⟨p, 4, none⟩ (.int .i64 (r' : Int))) p X { K with r := r' } :=
  { H with hd := heapC_set H.hd 4 _, st := heapC_other H.st H.pq.symm _ _, cm := heapC_other H.cm H.pu.symm _ _, rb := h }
theorem KA.setH (H : KA w p X K) (r' : Nat) (h : r' < 4611686018427387904) : KA (w.setCell ⟨p, 5, none⟩ (.int .i64 (r' : Int))) p X { K with h := r' } :=
  { H with hd := heapC_set H.hd 5 _, st := heapC_other H.st H.pq.symm _ _, cm := heapC_other H.cm H.pu.symm _ _, hb := h }
end

section
variable (w : World) (p : Nat) (X : Ly) (K : Kc)

set_option maxRecDepth 100000 in
set_option maxHeartbeats 1000000 in
theorem setAll_any (H : KA w p X K) (x : Value) (l : List Nat) (hx : RdV w x (ivs l)) (hB : ∀ k, x.ownBlock = some k → ¬ Bl p X k) (hl : ∀ b ∈ l, b < K.s.length) (hc : K.ch + l.length < 4611686018427387904) (v : UInt8) :
    Calls Try.prog 64 #[ptr p, x, .int .u8 ((v.toNat : Nat) : Int)] w fun e w' => e = .returned (.tuple #[]) ∧ KA w' p X (K.setL l v) ∧ Fr (Bl p X) w w' := by
  have hlm := hx.len
  obtain ⟨ao, cc, rfl⟩ := hx.shape
  rw [ivs_length] at hlm hx ⊢
  have HX := hide hx
  have HB := hide hB
  have HL := hide hl
  have HC := hide hc
  have HH := hide H
  obtain ⟨n, hn⟩ : ∃ n, n = l.length := ⟨_, rfl⟩
  rw [← hn] at HX ⊢
  have hnm : n ≤ 9223372036854775807 := by rw [hn]; unfold maxLen at hlm; omega
  have HN := hide hn
  obtain ⟨vn, hvn⟩ : ∃ n, n = v.toNat := ⟨_, rfl⟩
  rw [← hvn]
  have HV := hide hvn
  clear hx hB hl hc H hn hvn hlm
  unfold ptr
  go_enter Try.func64, Try.ntmps64
  go_wp2_with fail
  go_loopw [10] (fun x W => ∃ i : Nat, i ≤ n ∧ x = .int .i64 (i : Int) ∧ KA W p X (K.setL (l.take i) v) ∧ Fr (Bl p X) w W) (fun x _ => n - (intOf x).toNat)
  case atStart => exact ⟨0, by omega, rfl, unhide HH, Fr.refl _ _⟩
  case round =>
    obtain ⟨i, hi, rfl, hK, hF⟩ := hrel
    have HK := hide hK
    have HF := hide hF
    by_cases hlt : i < n
    · have i1 : i < l.length := by have := unhide HN; omega
      obtain ⟨b1, o1, rfl, -, x1, y1, c1⟩ := (unhide HX).lits (by rw [ivs_length]; omega)
      have k1 := c1 i (by rw [ivs_length]; exact i1)
      have e1 : (ivs l)[i]'(by rw [ivs_length]; exact i1) = .int .i64 ((l[i] : Nat) : Int) := by simp [ivs]
      rw [e1] at k1
      have k2 : wr.cell? ⟨b1, o1 + i, none⟩ = some (.int .i64 ((l[i] : Nat) : Int)) := (hF.cell (World.block_lt_of_cell? w _ k1) (unhide HB b1 rfl)).trans k1
      have hbl := unhide HL _ (List.getElem_mem i1)
      have hb2 : l[i] < (K.setL (l.take i) v).s.length := by rw [Kc.setL_s, setL_length]; exact hbl
      obtain ⟨u, hu⟩ := get_ex hb2
      have hch := unhide HC
      have HS := hide (set_any wr p X _ hK l[i] v u hu (by rw [Kc.setL_ch, List.length_take]; omega))
      have HT := hide (List.take_succ_eq_append_getElem i1)
      rw [← unhide HV] at HS
      generalize l[i] = b at *
      clear hK hF c1 k1 e1 x1 hbl hb2 hu hch
      unfold ptr at HS
      go_wp2_with fail
      refine (unhide HS).mono ?_
      rintro e w' ⟨rfl, hK', hF'⟩
      have HK' := hide hK'
      have HF' := hide hF'
      clear hK' hF'
      go_wp2_with fail
      go_roundw
      case rel => exact ⟨i + 1, by omega, by go_num, by rw [unhide HT, Kc.setL_snoc]; exact unhide HK', (unhide HF).trans (unhide HF') (fun _ _ h => h)⟩
      case measure => simp [intOf]; omega
    · have hie : i = n := by omega
      subst hie
      clear hK hF
      go_wp2_with fail
      go_end0
      have hK := unhide HK
      rw [List.take_of_length_le (by have := unhide HN; omega)] at hK
      exact ⟨rfl, hK, unhide HF⟩

/-- The block that is taken. -/
def pk (s : List UInt8) (a : Nat) : Nat := match nx s 0 a with
  | some b => b
  | none => (nx s 0 0).getD 0

theorem pk_free {s : List UInt8} (h : 0 < fr s) (a : Nat) : s[pk s a]? = some 0 := by
  unfold pk
  cases h1 : nx s 0 a with
  | some b => exact (nx_some h1).2.1
  | none =>
    cases h2 : nx s 0 0 with
    | some b => exact (nx_some h2).2.1
    | none =>
      obtain ⟨b, hb⟩ := fr_free h
      exact absurd hb (nx_none h2 b (by omega))

theorem takeFree_any (H : KA w p X K) (a : Nat) (ha : a ≤ K.s.length) (hf : 0 < fr K.s) (hc : K.ch + 1 < 4611686018427387904) : Calls Try.prog 60 #[ptr p, .int .i64 (a : Int)] w fun e w' => e = .returned (.int .i64 (pk K.s a : Int)) ∧ KA w' p X (K.set (pk K.s a) 2) ∧ Fr (Bl p X) w w' := by
  have HX := hide (next_any w p X K H 0 a ha)
  have HX0 := hide (next_any w p X K H 0 0 (by omega))
  have hp := pk_free hf a
  have HS := hide (set_any w p X K H (pk K.s a) 2 0 hp hc)
  unfold pk at hp HS ⊢
  clear hf hc ha H
  unfold ptr at *
  cases h1 : nx K.s 0 a with
  | some b =>
    simp only [h1] at HX HS ⊢
    rw [nxI_some] at HX
    clear hp h1
    go_enter Try.func60, Try.ntmps60
    go_wp2_with fail
    refine (unhide HX).mono ?_
    rintro e w' ⟨rfl, rfl⟩
    go_wp2_with fail
    refine (unhide HS).mono ?_
    rintro e w' ⟨rfl, hK', hF'⟩
    have HK' := hide hK'
    have HF' := hide hF'
    clear hK' hF'
    go_wp2_with fail
    go_ret
    exact ⟨rfl, unhide HK', unhide HF'⟩
  | none =>
    simp only [h1] at HX HS ⊢
    simp only [h1] at hp
    cases h2 : nx K.s 0 0 with
    | none =>
      rw [h2] at hp
      exact absurd hp (nx_none h2 0 (by omega))
    | some b =>
      rw [h2] at HX0
      simp only [h2, Option.getD_some] at HS ⊢
      rw [nxI_none] at HX
      rw [nxI_some] at HX0
      clear hp h1 h2
      go_enter Try.func60, Try.ntmps60
      go_wp2_with fail
      refine (unhide HX).mono ?_
      rintro e w' ⟨rfl, rfl⟩
      go_wp2_with fail
      refine (unhide HX0).mono ?_
      rintro e w' ⟨rfl, rfl⟩
      go_wp2_with fail
      refine (unhide HS).mono ?_
      rintro e w' ⟨rfl, hK', hF'⟩
      have HK' := hide hK'
      have HF' := hide hF'
      clear hK' hF'
      go_wp2_with fail
      go_ret
      exact ⟨rfl, unhide HK', unhide HF'⟩

/-- Take: what is left, the block, the error. -/
def Kc.take (K : Kc) (a : Int) : Kc × Int × Int :=
  if inB K.s.length a then (if K.r < fr K.s then (K.set (pk K.s a.toNat) 2, ((pk K.s a.toNat : Nat) : Int), 0) else (K, 0, 100)) else (K, 0, 2)

theorem in_nat {n : Nat} {a : Int} (h : inB n a = true) : ∃ i : Nat, a = (i : Int) ∧ i < n := by
  unfold inB at h
  have h2 : 0 ≤ a ∧ a < (n : Int) := by simpa using h
  exact ⟨a.toNat, by omega, by omega⟩

theorem take_any (H : KA w p X K) (a : Int) (hc : K.ch + 1 < 4611686018427387904) : Calls Try.prog 17 #[ptr p, .int .i64 a] w fun e w' => e = .returned (.tuple #[.int .i64 (K.take a).2.1, .int .i64 (K.take a).2.2]) ∧ KA w' p X (K.take a).1 ∧ Fr (Bl p X) w w' := by
  have HC := hide (check_any w p X K a H)
  have HS := hide (spare_any w p X K H)
  have HH := hide H
  unfold Kc.take
  cases hi : inB K.s.length a
  · rw [hi] at HC
    simp only [Bool.false_eq_true, if_false] at HC ⊢
    unfold ptr at *
    clear H hi
    go_enter Try.func17, Try.ntmps17
    go_wp2_with fail
    refine (unhide HC).mono ?_
    rintro e w' ⟨rfl, rfl⟩
    go_wp2_with fail
    go_ret2
    exact ⟨rfl, unhide HH, Fr.refl _ _⟩
  · rw [hi] at HC
    obtain ⟨i, rfl, hin⟩ := in_nat hi
    simp only [if_true, Int.toNat_natCast] at HC ⊢
    by_cases hr : K.r < fr K.s
    · rw [decide_eq_true hr] at HS
      rw [if_pos hr]
      clear hi
      unfold ptr at *
      have HT : Hid (∀ w2, Fr (fun _ => False) w w2 → Calls Try.prog 60 #[.pointer (some ⟨p, 0, none⟩), .int .i64 (i : Int)] w2 fun e w' => e = .returned (.int .i64 (pk K.s i : Int)) ∧ KA w' p X (K.set (pk K.s i) 2) ∧ Fr (Bl p X) w2 w') := hide (fun w2 f2 => takeFree_any w2 p X K (H.kept f2 (fun _ _ h => h)) i (by omega) (by omega) hc)
      clear H hr hc hin
      go_enter Try.func17, Try.ntmps17
      go_wp2_with fail
      refine (unhide HC).mono ?_
      rintro e w' ⟨rfl, rfl⟩
      go_wp2_with fail
      refine (unhide HS).mono ?_
      rintro e w2 ⟨rfl, f2⟩
      have HT2 := hide (unhide HT w2 f2)
      have HF2 := hide f2
      clear f2
      go_wp2_with fail
      refine (unhide HT2).mono ?_
      rintro e w3 ⟨rfl, hK', hF'⟩
      have HK' := hide hK'
      have HF' := hide hF'
      clear hK' hF'
      go_wp2_with fail
      go_ret2
      exact ⟨rfl, unhide HK', ((unhide HF2).mono (fun _ _ h => h.elim)).trans (unhide HF') (fun _ _ h => h)⟩
    · rw [decide_eq_false hr] at HS
      rw [if_neg hr]
      clear hi H hr hc hin
      unfold ptr at *
      go_enter Try.func17, Try.ntmps17
      go_wp2_with fail
      refine (unhide HC).mono ?_
      rintro e w' ⟨rfl, rfl⟩
      go_wp2_with fail
      refine (unhide HS).mono ?_
      rintro e w2 ⟨rfl, f2⟩
      have HF2 := hide f2
      clear f2
      go_wp2_with fail
      go_ret2
      exact ⟨rfl, (unhide HH).kept (unhide HF2) (fun _ _ h => h), (unhide HF2).mono (fun _ _ h => h.elim)⟩
end
end Go.Proofs.Ytbpajilglfabbaa
