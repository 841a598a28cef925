/-
  The document's number, and its Get.
-/
import Derived.Test.YtbenailemoefhaaD3
import Derived.Test.YtbenailemoefhaaA2
namespace Go.Proofs.Ytbenailemoefhaa
open Go.RowKit
set_option linter.unusedVariables false
set_option linter.unusedSimpArgs false

attribute [local go_sem ↓] Go.wp_at_zero Go.wp_at_succ

set_option maxRecDepth 100000 in
set_option maxHeartbeats 4000000 in
theorem number_any (w : World) (B o n cap : Nat) (b : List UInt8) (p k : Nat) (kz pz : Int) (hkz : kz = (k : Int)) (hpz : pz = (p : Int)) (hn : n = b.length) (hnc : n ≤ cap) (hcm : cap ≤ maxLen) (hp : p + k ≤ n) (hp2 : p ≤ 100) (hk : k = 4 ∨ k = 8) (hc : ∀ j (h : j < b.length), w.cell? ⟨B, o + j, none⟩ = some (.int .u8 ((b[j].toNat : Nat) : Int))) :
    Calls Try.prog 46 #[.slice (some ⟨B, o, none⟩) n cap, .int .i64 pz, .int .i64 kz] w fun e w' => e = .returned (.int .u64 ((nb b p k : Nat) : Int)) ∧ w = w' := by
  obtain ⟨l, hl⟩ : ∃ l, l = (b.drop p).take k := ⟨_, rfl⟩
  have hll : l.length = k := by rw [hl, List.length_take, List.length_drop]; omega
  have HC : Hid (∀ j (h : j < l.length), w.cell? ⟨B, o + (p + j), none⟩ = some (.int .u8 ((l[j].toNat : Nat) : Int))) := hide (fun j hj => by
    have h1 := hc (p + j) (by omega)
    rw [h1]
    simp [hl])
  have HV : Hid (nb b p k = val l) := hide (by rw [hl]; rfl)
  have HL := hide hll
  obtain ⟨V, hV⟩ : ∃ V, V = nb b p k := ⟨_, rfl⟩
  rw [← hV] at HV ⊢
  subst hkz hpz
  clear hc hl hll hV hn
  go_enter Try.func46, Try.ntmps46
  go_wp2_with fail
  go_loopw [7, 8] (fun a y W => ∃ j : Nat, j ≤ k ∧ y = .int .i64 (j : Int) ∧ a = .int .u64 ((val (l.take j) : Nat) : Int) ∧ W = w) (fun _ y _ => k - (intOf y).toNat)
  case atStart => exact ⟨0, by omega, rfl, by simp [val], rfl⟩
  case round =>
    obtain ⟨j, hj, rfl, rfl, rfl⟩ := hrel
    by_cases hlt : j < k
    · have j1 : j < l.length := by have := unhide HL; omega
      have y0 := unhide HC j j1
      have HV2 : Hid (val (l.take (j + 1)) = val (l.take j) * 256 + l[j].toNat) := hide (by rw [List.take_succ_eq_append_getElem j1, val_snoc])
      have hm : val (l.take j) < 72057594037927936 := by
        have h1 := val_lt (l.take j)
        have h2 : 256 ^ (l.take j).length ≤ 256 ^ 7 := Nat.pow_le_pow_right (by decide) (by rw [List.length_take]; omega)
        have h3 : (256 : Nat) ^ 7 = 72057594037927936 := by decide
        omega
      have hor := or8 (val (l.take j)) l[j] hm
      have hb8 := l[j].toNat_lt
      have hpj : p + j < n := by omega
      have hpc : p + j < cap := by omega
      generalize val (l.take j) = m at *
      generalize l[j] = c at *
      clear HC j1
      go_wp2_with fail
      go_roundw
      case rel => exact ⟨j + 1, by omega, by go_num, by rw [unhide HV2]; first | rfl | (simp; done), by trivial⟩
      case measure => simp [intOf]; omega
    · obtain rfl : j = k := by omega
      have HV2 : Hid (val (l.take j) = V) := hide (by rw [List.take_of_length_le (by have := unhide HL; omega), unhide HV])
      rw [unhide HV2]
      clear HV HV2 HC
      go_wp2_with fail
      go_ret
      exact ⟨rfl, rfl⟩
end Go.Proofs.Ytbenailemoefhaa
