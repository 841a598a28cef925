/-
  Acts that came in; the law's begun.
-/
import Derived.Test.YtbpajilglfabbaaD3
namespace Go.Proofs.Ytbpajilglfabbaa
open Go.RowKit
set_option linter.unusedVariables false

attribute [local go_sem ↓] Go.wp_at_zero Go.wp_at_succ

/-- A list of acts that can be read: kind and number. -/
def RdA (w : World) (v : Value) (l : List (Int × Int)) : Prop :=
  (v = .slice none 0 0 ∧ l = []) ∨
  ∃ ad cap, v = .slice (some ad) l.length cap ∧ l.length ≤ cap ∧ cap ≤ maxLen ∧ ∀ j (h : j < l.length), w.cell? (ad.add (j * 2)) = some (.int .i64 l[j].1) ∧ w.cell? (ad.add (j * 2 + 1)) = some (.int .i64 l[j].2)

theorem RdA.kept {w w' : World} {v : Value} {l : List (Int × Int)} (h : RdA w v l) (f : Fr (fun _ => False) w w') : RdA w' v l := by
  rcases h with h | ⟨ad, cap, h1, h2, h3, h4⟩
  · exact .inl h
  · refine .inr ⟨ad, cap, h1, h2, h3, fun j hj => ⟨?_, ?_⟩⟩
    · rw [f.cell (World.block_lt_of_cell? w _ (h4 j hj).1) id]; exact (h4 j hj).1
    · rw [f.cell (World.block_lt_of_cell? w _ (h4 j hj).2) id]; exact (h4 j hj).2
theorem RdA.shape {w : World} {v : Value} {l : List (Int × Int)} (h : RdA w v l) : ∃ ao cap, v = .slice ao l.length cap := by
  rcases h with ⟨rfl, rfl⟩ | ⟨ad, cap, rfl, _⟩
  · exact ⟨_, _, rfl⟩
  · exact ⟨_, _, rfl⟩
theorem RdA.lits {w : World} {ao : Option Addr} {n cap : Nat} {l : List (Int × Int)} (h : RdA w (.slice ao n cap) l) (hl : 0 < l.length) : ∃ b o, ao = some ⟨b, o, none⟩ ∧ n = l.length ∧ n ≤ cap ∧ cap ≤ maxLen ∧
    ∀ j (h : j < l.length), w.cell? ⟨b, o + j * 2, none⟩ = some (.int .i64 l[j].1) ∧ w.cell? ⟨b, o + j * 2 + 1, none⟩ = some (.int .i64 l[j].2) := by
  rcases h with ⟨_, rfl⟩ | ⟨ad, cap', hv, h1, h2, h3⟩
  · simp at hl
  · simp only [Value.slice.injEq] at hv
    obtain ⟨rfl, rfl, rfl⟩ := hv
    obtain ⟨b, off, spot⟩ := ad
    have hspot : spot = none := by simpa [Addr.add] using World.cell?_spot (h3 0 hl).1
    subst hspot
    exact ⟨b, off, rfl, rfl, h1, h2, fun j hj => by
      have := h3 j hj
      rw [Addr.add_lit, Addr.add_lit] at this
      rw [Nat.add_assoc]
      exact this⟩

/-- What begun leaves. -/
def Bg (w : World) (n : Nat) (e : Ending) (w' : World) : Prop :=
  ∃ p X K M, e = .returned (ptr p) ∧ KA w' p X K ∧ Ab K M ∧ K.s.length = n ∧ (∀ j, Bl p X j → w.heap.size ≤ j) ∧ Fr (fun _ => False) w w' ∧ K.ch ≤ 100 * 200000 ∧ K.h ≤ 100

section
variable (w : World)
theorem begun_no (n : Int) (v : Value) (h : n < 1 ∨ 65536 < n) : Calls Try.prog 21 #[.int .i64 n, v] w fun e w' => e = .returned (.pointer none) ∧ w = w' := by
  have H1 := hide (new_no w n h)
  have H2 := hide (rnew_no w n h)
  clear h
  go_enter Try.func21, Try.ntmps21
  go_wp2_with fail
  refine (unhide H1).mono ?_
  rintro e w' ⟨rfl, rfl⟩
  go_wp2_with fail
  refine (unhide H2).mono ?_
  rintro e w' ⟨rfl, rfl⟩
  go_wp2_with (go_at_call 13; refine (num_any _ _).mono ?_; rintro e w' ⟨rfl, rfl⟩)
  go_ret
  exact ⟨rfl, rfl⟩

set_option maxRecDepth 100000 in
set_option maxHeartbeats 2000000 in
theorem begun_ok (n : Nat) (h1 : 1 ≤ n) (h2 : n ≤ 65536) (v : Value) (l : List (Int × Int)) (hl : RdA w v l) (hll : l.length ≤ 80) : Calls Try.prog 21 #[.int .i64 (n : Int), v] w fun e w' => Bg w n e w' := by
  have H1 := hide (new_ok w n h1 h2)
  have H2 : Hid (∀ W, Calls Try.prog 43 #[.int .i64 (n : Int)] W fun e w' => (∃ p Y, e = .returned (.tuple #[ptr p, .int .i64 0]) ∧ RA w' p Y (rc0 n) ∧ ∀ k, Rb p Y k → W.heap.size ≤ k) ∧ Fr (fun _ => False) W w') := hide (fun W => rnew_ok W n h1 h2)
  obtain ⟨ao, cap, rfl⟩ := hl.shape
  have HL := hide hl
  obtain ⟨L, hL⟩ : ∃ L, L = l.length := ⟨_, rfl⟩
  rw [← hL] at HL hll ⊢
  have HLL := hide hL
  have HLE := hide hll
  have hL2 : L ≤ 80 := hll
  clear h1 h2 hl hL hll
  unfold ptr at *
  go_enter Try.func21, Try.ntmps21
  go_wp2_with fail
  refine (unhide H1).mono ?_
  rintro e w1 ⟨⟨p, X, rfl, hK1, hn1⟩, f1⟩
  have HK1 := hide hK1
  have HN1 := hide hn1
  have HF1 := hide f1
  clear hK1 hn1 f1 H1
  go_wp2_with fail
  refine (unhide H2 w1).mono ?_
  rintro e w2 ⟨⟨p', Y, rfl, hR2, hn2⟩, f2⟩
  have HPA : Hid (PA w w2 p X p' Y (kc0 n) (rc0 n) 0) := hide ⟨(unhide HK1).kept f2 (fun _ _ h => h), hR2, Ab.new n, unhide HN1, fun j hj => Nat.le_trans (unhide HF1).size (hn2 j hj), (unhide HF1).trans f2 (fun _ _ h => h), by simp [kc0], by simp [kc0]⟩
  clear hR2 hn2 f2 H2 HK1 HN1 HF1
  go_wp2_with (go_at_call 13; refine (num_any _ _).mono ?_; rintro e w' ⟨rfl, rfl⟩)
  go_loopw [9] (fun y W => ∃ i : Nat, i ≤ L ∧ y = .int .i64 (i : Int) ∧ ∃ Y' K M, PA w W p X p' Y' K M i ∧ K.s.length = n) (fun y _ => L - (intOf y).toNat)
  case atStart => exact ⟨0, by omega, rfl, Y, kc0 n, rc0 n, unhide HPA, by simp [kc0]⟩
  case round =>
    clear HPA
    obtain ⟨i, hi, rfl, Y1, K, M, hP, hKn⟩ := hrel
    have HP := hide hP
    have HKN := hide hKn
    by_cases hlt : i < L
    · have i1 : i < l.length := by have := unhide HLL; omega
      obtain ⟨b, o, rfl, -, hnc, hcm, hc⟩ := ((unhide HL).kept hP.fr).lits (by omega)
      obtain ⟨y0, y1⟩ := hc i i1
      have HA := hide (fun (h9 : l[i].1 ≠ 9) => act_any w wr p X p' Y1 K M i hP (by omega) l[i].1 l[i].2 h9)
      have hic : i < cap := by omega
      generalize l[i].1 = kd at *
      generalize l[i].2 = kn at *
      clear hP hKn hc i1
      unfold ptr at *
      by_cases h9 : kd = 9
      · subst h9
        go_wp2_with fail
        go_roundw
        case rel =>
          refine ⟨i + 1, by omega, by go_num, Y1, K, M, ?_, unhide HKN⟩
          have h := unhide HP
          exact { h with kb := Nat.le_trans h.kb (Nat.mul_le_mul_right _ (Nat.le_succ i)), hb := Nat.le_succ_of_le h.hb }
        case measure => simp [intOf]; omega
      · have b9 : (kd != 9) = true := by simpa using h9
        have HA2 := hide (unhide HA h9)
        clear h9 HA
        go_wp2_with fail
        refine (unhide HA2).mono ?_
        rintro e w3 ⟨Y3, K3, M3, rfl, hP3, hl3⟩
        have HP3 := hide hP3
        have HL3 := hide (hl3.trans (unhide HKN))
        clear hP3 hl3
        unfold ptr at *
        go_wp2_with fail
        go_roundw
        case rel => exact ⟨i + 1, by omega, by go_num, Y3, K3, M3, unhide HP3, unhide HL3⟩
        case measure => simp [intOf]; omega
    · have hie : i = L := by omega
      subst hie
      clear hP hKn
      go_wp2_with fail
      go_ret
      have h := unhide HP
      have hi100 : i ≤ 100 := by omega
      exact ⟨p, X, K, M, rfl, h.ka, h.ab, unhide HKN, h.nb, h.fr, Nat.le_trans h.kb (Nat.mul_le_mul_right _ hi100), Nat.le_trans h.hb hi100⟩
end
end Go.Proofs.Ytbpajilglfabbaa
