/-
  An inode out of bytes: what stands behind its head; Get.
-/
import Derived.Test.YtbenailemoefhaaD2
import Derived.Test.YtbenailemoefhaaA3
namespace Go.Proofs.Ytbenailemoefhaa
open Go.RowKit
set_option linter.unusedVariables false
set_option linter.unusedSimpArgs false

attribute [local go_sem ↓] Go.wp_at_zero Go.wp_at_succ

/-- What is wrong with the bytes behind a head. -/
def crE (r : List UInt8) (n : Nat) : Int := if r.length < n + zb n then 3 else if n + zb n < r.length then 4 else if (r.drop n).all (· == 0) then 0 else 120
set_option maxRecDepth 100000 in
set_option maxHeartbeats 4000000 in
theorem rest_any (w : World) (B o m c : Nat) (r : List UInt8) (n : Nat) (hn : n ≤ 255) (hm : m = r.length) (hmc : m ≤ c) (hcm : c ≤ maxLen) (hc : ∀ j (h : j < r.length), w.cell? ⟨B, o + j, none⟩ = some (.int .u8 ((r[j].toNat : Nat) : Int))) :
    Calls Try.prog 45 #[.slice (some ⟨B, o, none⟩) m c, .int .i64 (n : Int)] w fun e w' => e = .returned (.int .i64 (crE r n)) ∧ w' = w := by
  have HZ := fun W => (zeros_any n W (by omega)).mono (R' := fun e w' => e = .returned (.int .i64 ((zb n : Nat) : Int)) ∧ W = w') (fun e w' h => ⟨h.1, h.2.symm⟩)
  have HC := hide hc
  have HM := hide hm
  obtain ⟨z, hz⟩ : ∃ z, z = zb n := ⟨_, rfl⟩
  have hz3 : z ≤ 3 := by rw [hz]; unfold zb; omega
  have HE : Hid (crE r n = if m < n + z then 3 else if n + z < m then 4 else if (r.drop n).all (· == 0) then 0 else 120) := hide (by rw [hm, hz]; rfl)
  rw [← hz] at HZ
  obtain ⟨E, hE⟩ : ∃ E, E = crE r n := ⟨_, rfl⟩
  rw [← hE] at HE ⊢
  clear hc hm hz hE
  by_cases h1 : m < n + z
  · have hEE : E = 3 := by rw [unhide HE, if_pos h1]
    subst hEE
    have d1 : decide ((m : Int) < (n : Int) + (z : Int)) = true := by simp; omega
    clear HE HC HM
    go_enter Try.func45, Try.ntmps45
    go_wp2_with (first | (go_at_call 41; refine (HZ _).mono ?_; rintro e w' ⟨rfl, rfl⟩))
    go_ret
    exact ⟨rfl, rfl⟩
  have d1 : decide ((m : Int) < (n : Int) + (z : Int)) = false := by simp; omega
  by_cases h2 : n + z < m
  · have hEE : E = 4 := by rw [unhide HE, if_neg h1, if_pos h2]
    subst hEE
    have d2 : decide ((n : Int) + (z : Int) < (m : Int)) = true := by simp; omega
    clear HE HC HM
    go_enter Try.func45, Try.ntmps45
    go_wp2_with (first | (go_at_call 41; refine (HZ _).mono ?_; rintro e w' ⟨rfl, rfl⟩))
    go_ret
    exact ⟨rfl, rfl⟩
  have d2 : decide ((n : Int) + (z : Int) < (m : Int)) = false := by simp; omega
  have hmz : m = n + z := by omega
  subst hmz
  rw [if_neg (by omega), if_neg (by omega)] at HE
  clear h1 h2
  by_cases hcap : n = c
  · obtain rfl : z = 0 := by omega
    subst hcap
    have hEE : E = 0 := by
      rw [unhide HE, List.drop_eq_nil_of_le (by have := unhide HM; omega)]; rfl
    subst hEE
    clear HE HC HM
    go_enter Try.func45, Try.ntmps45
    go_wp2_with (first | (go_at_call 41; refine (HZ _).mono ?_; rintro e w' ⟨rfl, rfl⟩))
    go_loopw [26] (fun y W => y = .int .i64 0 ∧ W = w) (fun _ _ => 0)
    case atStart => exact ⟨rfl, rfl⟩
    case round =>
      obtain ⟨rfl, rfl⟩ := hrel
      go_wp2_with fail
      go_ret
      exact ⟨rfl, rfl⟩
  · have hlt : n < c := by omega
    go_enter Try.func45, Try.ntmps45
    go_wp2_with (first | (go_at_call 41; refine (HZ _).mono ?_; rintro e w' ⟨rfl, rfl⟩))
    go_loopw [26] (fun y W => ∃ k : Nat, k ≤ z ∧ y = .int .i64 (k : Int) ∧ (∀ j, j < k → r[n + j]? = some 0) ∧ W = w) (fun y _ => z - (intOf y).toNat)
    case atStart => exact ⟨0, by omega, rfl, fun j hj => by omega, rfl⟩
    case round =>
      obtain ⟨k, hk, rfl, hall, rfl⟩ := hrel
      have HA := hide hall
      clear hall
      by_cases hkz : k < z
      · have hj : n + k < r.length := by have := unhide HM; omega
        have y0 := unhide HC (n + k) hj
        rw [← Nat.add_assoc] at y0
        have HR : Hid (r[n + k]? = some r[n + k]) := hide (List.getElem?_eq_getElem hj)
        generalize r[n + k] = x at *
        by_cases hx : x = 0
        · subst hx
          have HA2 : Hid (∀ j, j < k + 1 → r[n + j]? = some 0) := hide (fun j hj => by
            rcases Nat.lt_succ_iff_lt_or_eq.1 hj with h | h
            · exact unhide HA j h
            · rw [h]; exact unhide HR)
          clear HA HR hj
          go_wp2_with fail
          go_roundw
          case rel => exact ⟨k + 1, by omega, by go_num, unhide HA2, by trivial⟩
          case measure => simp [intOf]; omega
        · have hx2 : (((x.toNat : Nat) : Int) != 0) = true := by
            have : x.toNat ≠ 0 := fun e => hx (UInt8.toNat_inj.1 (by simpa using e))
            simp; omega
          have hEE : E = 120 := by
            rw [unhide HE, if_neg]
            intro h
            rw [List.all_eq_true] at h
            have hm : x ∈ r.drop n := by
              rw [List.mem_iff_getElem?]
              exact ⟨k, by rw [List.getElem?_drop]; exact unhide HR⟩
            have := h x hm
            simp at this
            exact hx this
          subst hEE
          clear HA HR hj hx
          go_wp2_with fail
          go_ret
          exact ⟨rfl, rfl⟩
      · obtain rfl : k = z := by omega
        have hEE : E = 0 := by
          rw [unhide HE, if_pos]
          rw [List.all_eq_true]
          intro x hx
          rw [List.mem_iff_getElem?] at hx
          obtain ⟨j, hj⟩ := hx
          rw [List.getElem?_drop] at hj
          have hjl : n + j < r.length := (List.getElem?_eq_some_iff.1 hj).1
          have := unhide HA j (by have := unhide HM; omega)
          rw [this] at hj
          simp at hj
          rw [← hj]; rfl
        subst hEE
        clear HA
        go_wp2_with fail
        go_ret
        exact ⟨rfl, rfl⟩
/-- What Get answers. -/
def gX (b : List UInt8) : In := { hdX b with t := str ((b.drop 84).take (nb b 80 4)) }
def gE (b : List UInt8) : Int := if b.length < 84 then 3 else if 255 < nb b 80 4 then 1 else if crE (b.drop 84) (nb b 80 4) ≠ 0 then crE (b.drop 84) (nb b 80 4) else ck (gX b)
end Go.Proofs.Ytbenailemoefhaa
