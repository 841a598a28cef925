/-
  The walk of Load.
-/
import Derived.Test.YtbpajilglfabbaaA9
namespace Go.Proofs.Ytbpajilglfabbaa
open Go.RowKit
set_option linter.unusedVariables false

attribute [local go_sem ↓] Go.wp_at_zero Go.wp_at_succ

/-- The bits that are set among the first k, rising. -/
def bitsL (m : List UInt8) (k : Nat) : List Nat := (List.range k).filter fun b => gb m b
theorem bitsL_yes {m : List UInt8} {k : Nat} (h : gb m k = true) : bitsL m (k + 1) = bitsL m k ++ [k] := by simp [bitsL, List.range_succ, h]
theorem bitsL_no {m : List UInt8} {k : Nat} (h : gb m k = false) : bitsL m (k + 1) = bitsL m k := by simp [bitsL, List.range_succ, h]
theorem mem_bitsL {m : List UInt8} {k b : Nat} : b ∈ bitsL m k ↔ b < k ∧ gb m b = true := by simp [bitsL]
theorem bitsL_length (m : List UInt8) (k : Nat) : (bitsL m k).length ≤ k := by
  have := List.length_filter_le (fun b => gb m b) (List.range k)
  simpa [bitsL] using this

def okL (m : List UInt8) (n : Nat) : Bool := (bitsL m (8 * m.length)).all fun b => decide (b < n)
theorem okL_iff (m : List UInt8) (n : Nat) : okL m n = true ↔ ∀ b ∈ bitsL m (8 * m.length), b < n := by simp [okL]
/-- Load's error. -/
def ldE (n : Int) (m : List UInt8) : Int :=
  if n < 1 ∨ 65536 < n then 2 else if ¬ m.length = (n.toNat + 7) / 8 then 102 else if okL m n.toNat = true then 0 else 102
/-- Load's states. -/
def ldS (n : Int) (m : List UInt8) : Kc := (kc0 n.toNat).setL (bitsL m (8 * m.length)) 1

/-- What Load leaves. -/
def LdEnd (w : World) (n : Int) (m : List UInt8) (e : Ending) (w' : World) : Prop :=
  ((ldE n m = 0 ∧ ∃ p X, e = .returned (.tuple #[ptr p, .int .i64 0]) ∧ KA w' p X (ldS n m) ∧ ∀ k, Bl p X k → w.heap.size ≤ k) ∨ (ldE n m ≠ 0 ∧ e = .returned (.tuple #[.pointer none, .int .i64 (ldE n m)]))) ∧ Fr (fun _ => False) w w'

section
variable (w : World)

set_option maxRecDepth 100000 in
set_option maxHeartbeats 1000000 in
theorem load_any (n : Int) (v : Value) (m : List UInt8) (hv : Rd w v m) : Calls Try.prog 11 #[.int .i64 n, v] w fun e w' => LdEnd w n m e w' := by
  by_cases h0 : n < 1 ∨ 65536 < n
  · have HN := hide (new_no w n h0)
    have e1 : ldE n m = 2 := by unfold ldE; rw [if_pos h0]
    have HE := hide e1
    clear h0 e1 hv
    go_enter Try.func11, Try.ntmps11
    go_wp2_with fail
    refine (unhide HN).mono ?_
    rintro e w' ⟨rfl, rfl⟩
    go_wp2_with fail
    go_ret2
    exact ⟨.inr ⟨by rw [unhide HE]; decide, by rw [unhide HE]; rfl⟩, Fr.refl _ _⟩
  · obtain ⟨k, rfl⟩ : ∃ k : Nat, n = (k : Int) := ⟨n.toNat, by omega⟩
    have hk1 : 1 ≤ k := by omega
    have hk2 : k ≤ 65536 := by omega
    have HN := hide (new_ok w k hk1 hk2)
    have HBB : Hid (∀ W, Calls Try.prog 39 #[.int .i64 (k : Int)] W fun e w' => e = .returned (.int .i64 (((k + 7) / 8 : Nat) : Int)) ∧ W = w') := hide (fun W => bitmapBytes_any W k hk2)
    obtain ⟨ao, cc, rfl⟩ := hv.shape
    have HV := hide hv
    have hlm := hv.len
    obtain ⟨L, hL⟩ : ∃ L, L = m.length := ⟨_, rfl⟩
    rw [← hL] at HV hlm ⊢
    have HL := hide hL
    obtain ⟨B, hB⟩ : ∃ B, B = (k + 7) / 8 := ⟨_, rfl⟩
    rw [← hB] at HBB
    have HB := hide hB
    by_cases hl : L = B
    · have hLE : ldE (k : Int) m = (if okL m k = true then 0 else 102) := by
        unfold ldE
        rw [if_neg h0, if_neg (by rw [Int.toNat_natCast]; omega), Int.toNat_natCast]
      have HLE := hide hLE
      have HK1 := hide hk1
      have HK2 := hide hk2
      have hLs : L ≤ 8193 := by omega
      have HLB := hide hl
      rw [← hl] at HBB
      clear h0 hv hL hB hLE hk1 hk2 hlm hl
      unfold ptr at *
      go_enter Try.func11, Try.ntmps11
      go_wp2_with fail
      refine (unhide HN).mono ?_
      rintro e w1 ⟨⟨p, X, rfl, hK, hnew⟩, f1⟩
      have HK := hide hK
      have HNEW := hide hnew
      have HF1 := hide f1
      clear hK hnew f1
      go_wp2_with fail
      refine (unhide HBB _).mono ?_
      rintro e w' ⟨rfl, rfl⟩
      go_wp2_with fail
      go_loopw [25] (fun x W => ∃ i : Nat, i ≤ 8 * L ∧ x = .int .i64 (i : Int) ∧ (∀ b ∈ bitsL m i, b < k) ∧ KA W p X ((kc0 k).setL (bitsL m i) 1) ∧ Fr (Bl p X) w1 W) (fun x _ => 8 * L - (intOf x).toNat)
      case atStart => exact ⟨0, by omega, rfl, by simp [bitsL], unhide HK, Fr.refl _ _⟩
      case round =>
        obtain ⟨i, hi, rfl, hall, hKi, hF⟩ := hrel
        have HALL := hide hall
        have HKI := hide hKi
        have HF := hide hF
        have HFW : Hid (Fr (fun _ => False) w wr) := hide ((unhide HF1).trans hF (fun b hb e => by have := unhide HNEW b e; omega))
        by_cases hlt : i < 8 * L
        · have hil : i / 8 < m.length := by have := unhide HL; omega
          have HHB := hide (hasBit_any wr _ m ((unhide HV).kept (unhide HFW) (fun _ _ h => h)) i (by have := unhide HL; omega) (by have := unhide HL; omega))
          have HHAS := hide (has_any wr p X _ (i : Int) hKi)
          have hsl : ((kc0 k).setL (bitsL m i) 1).s.length = k := by rw [Kc.setL_s, setL_length]; simp [kc0]
          rw [hsl] at HHAS
          cases hbit : gb m i
          · rw [hbit] at HHB
            have HBN := hide (bitsL_no hbit)
            clear hbit hall hKi hF hil hsl
            go_wp2_with fail
            refine (unhide HHB).mono ?_
            rintro e w' ⟨rfl, rfl⟩
            go_wp2_with fail
            go_roundw
            case rel => exact ⟨i + 1, by omega, by go_num, by rw [unhide HBN]; exact unhide HALL, by rw [unhide HBN]; exact unhide HKI, unhide HF⟩
            case measure => simp [intOf]; omega
          · rw [hbit] at HHB
            have HBY := hide (bitsL_yes hbit)
            by_cases hik : i < k
            · have e1 : inB k (i : Int) = true := by unfold inB; simp; omega
              rw [e1] at HHAS
              have hgi : i < ((kc0 k).setL (bitsL m i) 1).s.length := by rw [hsl]; exact hik
              obtain ⟨u, hu⟩ := get_ex hgi
              have hbl := bitsL_length m i
              have HST := hide (set_any wr p X _ hKi i 1 u hu (by rw [Kc.setL_ch]; simp [kc0]; omega))
              have HIK := hide hik
              clear hbit hall hKi hF hil hsl e1 hgi hu hbl hik
              unfold ptr at *
              go_wp2_with fail
              refine (unhide HHB).mono ?_
              rintro e w' ⟨rfl, rfl⟩
              go_wp2_with fail
              refine (unhide HHAS).mono ?_
              rintro e w' ⟨rfl, rfl⟩
              go_wp2_with fail
              refine (unhide HST).mono ?_
              rintro e w3 ⟨rfl, hK3, f3⟩
              have HK3 := hide hK3
              have HF3 := hide f3
              clear hK3 f3
              go_wp2_with fail
              go_roundw
              case rel =>
                refine ⟨i + 1, by omega, by go_num, ?_, ?_, (unhide HF).trans (unhide HF3) (fun _ _ h => h)⟩
                · rw [unhide HBY]
                  intro b hb
                  rcases List.mem_append.1 hb with h | h
                  · exact unhide HALL b h
                  · simp at h; rw [h]; exact unhide HIK
                · rw [unhide HBY, Kc.setL_snoc]; exact unhide HK3
              case measure => simp [intOf]; omega
            · have e1 : inB k (i : Int) = false := by unfold inB; simp; omega
              rw [e1] at HHAS
              have HE : Hid (ldE (k : Int) m = 102) := hide (by
                rw [unhide HLE, if_neg]
                intro h
                rw [okL_iff] at h
                exact hik (h i (mem_bitsL.2 ⟨by have := unhide HL; omega, hbit⟩)))
              clear hbit hall hKi hF hil hsl e1 hik
              unfold ptr at *
              go_wp2_with fail
              refine (unhide HHB).mono ?_
              rintro e w' ⟨rfl, rfl⟩
              go_wp2_with fail
              refine (unhide HHAS).mono ?_
              rintro e w' ⟨rfl, rfl⟩
              go_wp2_with fail
              go_ret2
              exact ⟨.inr ⟨by rw [unhide HE]; decide, by rw [unhide HE]; rfl⟩, unhide HFW⟩
        · have hie : i = 8 * L := by omega
          have HE : Hid (ldE (k : Int) m = 0) := hide (by
            rw [unhide HLE, if_pos]
            rw [okL_iff, ← unhide HL, ← hie]
            exact unhide HALL)
          have HKE : Hid (KA wr p X (ldS (k : Int) m)) := hide (by
            unfold ldS
            rw [Int.toNat_natCast, ← unhide HL, ← hie]
            exact unhide HKI)
          subst hie
          clear hall hKi hF hlt
          go_wp2_with fail
          go_ret2
          exact ⟨.inl ⟨unhide HE, p, X, rfl, unhide HKE, unhide HNEW⟩, unhide HFW⟩
    · have hLE : ldE (k : Int) m = 102 := by
        unfold ldE
        rw [if_neg h0, if_pos (by rw [Int.toNat_natCast]; omega)]
      have HE := hide hLE
      have bne : ((L : Int) != (B : Int)) = true := by simp; omega
      clear h0 hv hL hB hLE hk1 hk2 hl
      unfold ptr at *
      go_enter Try.func11, Try.ntmps11
      go_wp2_with fail
      refine (unhide HN).mono ?_
      rintro e w1 ⟨⟨p, X, rfl, hK, hnew⟩, f1⟩
      have HF1 := hide f1
      clear hK hnew f1
      go_wp2_with fail
      refine (unhide HBB _).mono ?_
      rintro e w' ⟨rfl, rfl⟩
      go_wp2_with fail
      go_ret2
      exact ⟨.inr ⟨by rw [unhide HE]; decide, by rw [unhide HE]; rfl⟩, unhide HF1⟩
end
end Go.Proofs.Ytbpajilglfabbaa
