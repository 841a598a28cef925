/-
  The walk of package rs's Join.
-/
import Derived.Test.YtckmddkhkdcmmaaRs24
namespace Go.Proofs.Ytckmddkhkdcmmaa
open Go.RowKit
set_option linter.unusedVariables false

attribute [local go_sem ↓] Go.wp_at_zero Go.wp_at_succ

/-- May they be joined? -/
def joB (k : Nat) (ls : List (List UInt8)) (n : Int) : Bool := (oneL ls (k : Int)).2 && decide (0 ≤ n) && decide (n ≤ ((k * (oneL ls (k : Int)).1 : Nat) : Int))
/-- What Join answers. -/
def joR (k : Nat) (ls : List (List UInt8)) (n : Int) : List UInt8 := if joB k ls n = true then ls.flatten.take n.toNat else []
def joE (k : Nat) (ls : List (List UInt8)) (n : Int) : Int := if joB k ls n = true then 0 else 2

/-- The first i of them, as far as there is room, and zeros. -/
def joP (ls : List (List UInt8)) (n i : Nat) : List UInt8 := ((ls.take i).flatten).take n ++ List.replicate (n - min ((ls.take i).flatten).length n) 0
theorem joP_length (ls : List (List UInt8)) (n i : Nat) : (joP ls n i).length = n := by simp [joP]; omega
theorem joP_zero (ls : List (List UInt8)) (n : Nat) : joP ls n 0 = List.replicate n 0 := by simp [joP]
theorem flat_succ {ls : List (List UInt8)} {i : Nat} (hi : i < ls.length) : (ls.take (i + 1)).flatten = (ls.take i).flatten ++ ls[i] := by
  rw [List.take_succ_eq_append_getElem hi, List.flatten_append, List.flatten_singleton]
theorem joP_step {ls : List (List UInt8)} {n i a : Nat} (hi : i < ls.length) (ha : a = min ((ls.take i).flatten).length n) :
    (joP ls n i).take a ++ (ls[i]).take (n - a) ++ (joP ls n i).drop (a + min (ls[i]).length (n - a)) = joP ls n (i + 1) ∧ a + min (ls[i]).length (n - a) = min ((ls.take (i + 1)).flatten).length n := by
  have hfl := flat_succ hi
  have hl : ((ls.take (i + 1)).flatten).length = ((ls.take i).flatten).length + (ls[i]).length := by rw [hfl, List.length_append]
  have h2 : a + min (ls[i]).length (n - a) = min ((ls.take (i + 1)).flatten).length n := by rw [hl]; omega
  refine ⟨?_, h2⟩
  have hta : ((ls.take i).flatten.take n).length = a := by rw [List.length_take]; omega
  have e1 : (joP ls n i).take a = (ls.take i).flatten.take n := by
    unfold joP
    rw [List.take_append_of_le_length (by omega), List.take_of_length_le (by omega)]
  rw [e1, h2]
  have e2 : (joP ls n i).drop (min ((ls.take (i + 1)).flatten).length n) = List.replicate (n - min ((ls.take (i + 1)).flatten).length n) 0 := by
    unfold joP
    rw [List.drop_append, List.drop_of_length_le (by omega), List.nil_append, List.drop_replicate, hta]
    congr 1
    omega
  rw [e2]
  unfold joP
  congr 1
  rw [hfl, List.take_append]
  congr 1
  by_cases h : ((ls.take i).flatten).length ≤ n
  · congr 1
    omega
  · rw [show n - a = 0 by omega, show n - ((ls.take i).flatten).length = 0 by omega]

theorem oneL_flat {ls : List (List UInt8)} {k : Nat} (h : (oneL ls (k : Int)).2 = true) : ls.flatten.length = k * (oneL ls (k : Int)).1 ∧ ls.length = k := by
  unfold oneL at h ⊢
  by_cases h1 : (ls.length : Int) = (k : Int) ∧ ∀ l ∈ ls, l.length = (ls.headD []).length
  · rw [if_pos h1]
    have hk : ls.length = k := by omega
    refine ⟨?_, hk⟩
    have : ∀ (ms : List (List UInt8)) (n : Nat), (∀ l ∈ ms, l.length = n) → ms.flatten.length = ms.length * n := by
      intro ms n hms
      induction ms with
      | nil => simp
      | cons a t ih =>
        rw [List.flatten_cons, List.length_append, ih (fun l hl => hms l (List.mem_cons_of_mem _ hl)), hms a (List.mem_cons_self ..), List.length_cons, Nat.succ_mul]
        omega
    rw [this ls _ h1.2, hk]
  · rw [if_neg h1] at h; simp at h

theorem joP_all {ls : List (List UInt8)} {n : Nat} (h : n ≤ ls.flatten.length) : joP ls n ls.length = ls.flatten.take n := by
  unfold joP
  rw [List.take_length, show n - min ls.flatten.length n = 0 by omega]
  simp

section
variable (w : World) (p k m : Nat) (v : Value) (ls : List (List UInt8)) (n : Int)

set_option maxHeartbeats 1000000 in
set_option maxRecDepth 100000 in
theorem join_no (hC : CAt w p k m) (h : RdL w v ls) (hl : ls.length ≤ 100000) (hjb : k * (oneL ls (k : Int)).1 ≤ 100000) (hj : joB k ls n = false) :
    Calls Try.prog 58 #[.pointer (some ⟨p, 0, none⟩), v, .int .i64 n] w fun e w' => e = .returned (.tuple #[.slice none 0 0, .int .i64 2]) ∧ Fr (fun _ => False) w w' := by
  obtain ⟨q, h1, -⟩ := hC.ex
  have c0 := cell_of_heap h1 0
  simp at c0
  have HO := hide (oneLength_any w v ls (k : Int) h hl)
  obtain ⟨vo, vc, rfl⟩ := h.shape
  unfold joB at hj
  generalize oneL ls (k : Int) = r at *
  obtain ⟨L, b⟩ := r
  clear hC h1 h
  simp only at hj hjb HO
  obtain ⟨z, hz⟩ : ∃ z, z = k * L := ⟨_, rfl⟩
  rw [← hz] at hj hjb
  have ez : (k : Int) * (L : Int) = (z : Int) := by rw [hz]; simp
  have wz : IntKind.i64.wrap (z : Int) = (z : Int) := by rw [IntKind.wrap_i64]; omega
  clear hz
  rcases b with _ | _
  · clear hj
    go_enter Try.func58, Try.ntmps58
    go_wp2_with fail
    refine (unhide HO).mono ?_
    rintro e w1 ⟨rfl, rfl⟩
    go_wp2_with fail
    go_ret2
    exact ⟨rfl, Fr.refl _ _⟩
  · by_cases h0 : n < 0
    · have b1 : decide (n < 0) = true := by simpa using h0
      clear hj
      go_enter Try.func58, Try.ntmps58
      go_wp2_with fail
      refine (unhide HO).mono ?_
      rintro e w1 ⟨rfl, rfl⟩
      go_wp2_with fail
      go_ret2
      exact ⟨rfl, Fr.refl _ _⟩
    · have b1 : decide (n < 0) = false := by simpa using h0
      have h2 : (z : Int) < n := by
        simp at hj
        omega
      have b2 : decide ((z : Int) < n) = true := by simpa using h2
      clear hj
      go_enter Try.func58, Try.ntmps58
      go_wp2_with fail
      refine (unhide HO).mono ?_
      rintro e w1 ⟨rfl, rfl⟩
      go_wp2_with fail
      go_ret2
      exact ⟨rfl, Fr.refl _ _⟩

set_option maxHeartbeats 4000000 in
set_option maxRecDepth 100000 in
theorem join_ok (t : Nat) (hC : CAt w p k m) (h : RdL w v ls) (hjb : k * (oneL ls (k : Int)).1 ≤ 100000) (hj : joB k ls (t : Int) = true) :
    Calls Try.prog 58 #[.pointer (some ⟨p, 0, none⟩), v, .int .i64 (t : Int)] w fun e w' => (∃ g, e = .returned (.tuple #[.slice (some ⟨g, 0, none⟩) t t, .int .i64 0]) ∧ BAt w' g (ls.flatten.take t) ∧ w.heap.size ≤ g) ∧ Fr (fun _ => False) w w' := by
  have hk := hC.hk
  obtain ⟨q, h1, -⟩ := hC.ex
  have c0 := cell_of_heap h1 0
  simp at c0
  have hb : (oneL ls (k : Int)).2 = true := by unfold joB at hj; simp at hj; exact hj.1
  obtain ⟨hfl, hlk⟩ := oneL_flat hb
  have htf : t ≤ ls.flatten.length := by unfold joB at hj; simp at hj; have := hj.2; rw [hfl]; exact_mod_cast this
  have HO := hide (oneLength_any w v ls (k : Int) h (by omega))
  have HL := hide h
  obtain ⟨vo, vc, rfl⟩ := h.shape
  have hall := joP_all htf
  have HALL := hide hall
  rw [hb] at HO
  rw [← hfl] at hjb
  obtain ⟨L, hL⟩ : ∃ L, L = (oneL ls (k : Int)).1 := ⟨_, rfl⟩
  rw [← hL] at HO hfl
  have ez : (k : Int) * (L : Int) = (ls.flatten.length : Int) := by rw [hfl]; simp
  generalize ls.flatten.length = z at *
  have wz : IntKind.i64.wrap (z : Int) = (z : Int) := by rw [IntKind.wrap_i64]; omega
  have b1 : decide ((t : Int) < 0) = false := by simp
  have b2 : decide (z < t) = false := by simp; omega
  have b2' : decide ((z : Int) < (t : Int)) = false := by simp; omega
  obtain ⟨w4, hmk, hB4, hf4⟩ := mk_any w t (by omega)
  have HB4 := hide hB4
  have HF4 := hide hf4
  have hlen : ls.length ≤ 16 := by omega
  clear hC h1 h hj hb hfl hlk hall hL hB4 hf4
  go_enter Try.func58, Try.ntmps58
  go_wp2_with fail
  refine (unhide HO).mono ?_
  rintro e w1 ⟨rfl, rfl⟩
  go_wp2_with fail
  clear hmk ez wz b1 b2 b2'
  go_loopw [11, 45] (fun x y w' => ∃ i : Nat, i ≤ ls.length ∧ y = .int .i64 (i : Int) ∧ (∃ a : Nat, x = .int .i64 (a : Int) ∧ a = min ((ls.take i).flatten).length t) ∧ BAt w' w.heap.size (joP ls t i) ∧ Fr (fun _ => False) w w') (fun _ y _ => ls.length - (intOf y).toNat)
  case atStart => exact ⟨0, by omega, rfl, ⟨0, rfl, by simp⟩, by rw [joP_zero]; exact unhide HB4, unhide HF4⟩
  case round =>
    obtain ⟨i, hi, rfl, ⟨a, rfl, ha⟩, hB, hf⟩ := hrel
    by_cases hlt : i < ls.length
    · obtain ⟨b, o, xo, xc, rfl, c1, hx⟩ := ((unhide HL).kept hf).get i hlt
      obtain ⟨hs1, hs2⟩ := joP_step hlt ha
      have hat : a ≤ t := by omega
      obtain ⟨xl, hxl⟩ : ∃ xl, xl = (ls[i]).length := ⟨_, rfl⟩
      rw [← hxl] at c1 hx hs1 hs2
      have HX := hide hx
      have HS1 := hide hs1
      have HS2 := hide hs2
      have HB := hide hB
      have Hf := hide hf
      have HXL := hide hxl
      generalize ls[i] = li at *
      have hjl := joP_length ls t i
      have HJ := hide hjl
      obtain ⟨y, hy⟩ : ∃ y, y = min xl (t - a) := ⟨_, rfl⟩
      have HY := hide hy
      have hyt : a + y ≤ t := by omega
      obtain ⟨s, hs⟩ : ∃ s, s = a + y := ⟨_, rfl⟩
      have HSS := hide hs
      have ey : (a : Int) + (y : Int) = (s : Int) := by omega
      have wy : IntKind.i64.wrap (s : Int) = (s : Int) := by rw [IntKind.wrap_i64]; omega
      clear hB hf hx hs1 hs2 ha hxl hjl hy hs
      by_cases hta : t = a
      · subst hta
        obtain ⟨w5, hcp, hB5, f5⟩ := copy_min wr w.heap.size t (0) (0) (some ⟨w.heap.size, 0, none⟩) (joP ls t i) _ li (fun h => absurd h (by omega)) (unhide HB) (unhide HX) (by rw [unhide HJ]; omega)
        have hmn : min li.length (0) = y := by rw [← unhide HXL, unhide HY, Nat.sub_self]
        rw [hmn] at hB5 hcp
        have hB6 : BAt w5 w.heap.size (joP ls t (i + 1)) := by
          rw [← unhide HS1, ← unhide HY]
          simp only [Nat.sub_self] at *; exact hB5
        have HB6 := hide hB6
        have HF6 := hide ((unhide Hf).trans f5 (fun b hb h => by omega))
        have HA6 := hide ((congrArg (fun z => t + z) (unhide HY)).trans (unhide HS2))
        clear hB5 f5 hmn hB6
        go_wp2_with fail
        go_roundw
        case rel => exact ⟨i + 1, by omega, by go_num, ⟨s, rfl, (unhide HSS).trans (unhide HA6)⟩, unhide HB6, unhide HF6⟩
        case measure => simp [intOf]; omega
      · have hat2 : a < t := by omega
        obtain ⟨w5, hcp, hB5, f5⟩ := copy_min wr w.heap.size a (t - a) (t - a) (some ⟨w.heap.size, a, none⟩) (joP ls t i) _ li (fun h => rfl) (unhide HB) (unhide HX) (by rw [unhide HJ]; omega)
        have hmn : min li.length (t - a) = y := by rw [← unhide HXL, unhide HY]
        rw [hmn] at hB5 hcp
        have hB6 : BAt w5 w.heap.size (joP ls t (i + 1)) := by
          rw [← unhide HS1, ← unhide HY]
          exact hB5
        have HB6 := hide hB6
        have HF6 := hide ((unhide Hf).trans f5 (fun b hb h => by omega))
        have HA6 := hide ((congrArg (fun z => a + z) (unhide HY)).trans (unhide HS2))
        clear hB5 f5 hmn hB6
        go_wp2_with fail
        go_roundw
        case rel => exact ⟨i + 1, by omega, by go_num, ⟨s, rfl, (unhide HSS).trans (unhide HA6)⟩, unhide HB6, unhide HF6⟩
        case measure => simp [intOf]; omega
    · have hie : i = ls.length := by omega
      subst hie
      rw [unhide HALL] at hB
      have HB := hide hB
      have Hf := hide hf
      clear hB hf ha
      go_wp2_with fail
      go_ret2
      exact ⟨⟨_, rfl, unhide HB, Nat.le_refl _⟩, unhide Hf⟩
end

theorem join_any (w : World) (p k m : Nat) (v : Value) (ls : List (List UInt8)) (n : Int) (hC : CAt w p k m) (h : RdL w v ls) (hl : ls.length ≤ 100000) (hjb : k * (oneL ls (k : Int)).1 ≤ 100000) :
    Calls Try.prog 58 #[.pointer (some ⟨p, 0, none⟩), v, .int .i64 n] w fun e w' => (∃ ao c, e = .returned (.tuple #[.slice ao (joR k ls n).length c, .int .i64 (joE k ls n)]) ∧ Rd w' (.slice ao (joR k ls n).length c) (joR k ls n) ∧ ∀ b, (Value.slice ao (joR k ls n).length c).ownBlock = some b → w.heap.size ≤ b) ∧ Fr (fun _ => False) w w' := by
  unfold joR joE
  by_cases hj : joB k ls n = true
  · rw [if_pos hj, if_pos hj]
    have hj' := hj
    unfold joB at hj'
    simp at hj'
    obtain ⟨t, rfl⟩ : ∃ t : Nat, n = (t : Int) := ⟨n.toNat, by omega⟩
    have htf : t ≤ ls.flatten.length := by rw [(oneL_flat hj'.1.1).1]; exact_mod_cast hj'.2
    refine (join_ok w p k m v ls t hC h hjb hj).mono ?_
    rintro e w' ⟨⟨g, rfl, hB, hg⟩, f⟩
    have hlt : (ls.flatten.take t).length = t := by rw [List.length_take]; omega
    have hR := hB.rd (by rw [hlt]; simp only [maxLen]; rw [(oneL_flat hj'.1.1).1] at htf; omega)
    rw [Int.toNat_natCast]
    rw [hlt] at hR ⊢
    exact ⟨⟨_, _, rfl, hR, fun b hb => by simp [Value.ownBlock] at hb; omega⟩, f⟩
  · rw [if_neg hj, if_neg hj]
    refine (join_no w p k m v ls n hC h hl hjb (by simpa using hj)).mono ?_
    rintro e w' ⟨rfl, f⟩
    exact ⟨⟨_, _, rfl, Rd.nil _, fun b hb => by simp [Value.ownBlock] at hb⟩, f⟩

end Go.Proofs.Ytckmddkhkdcmmaa
