/-
  The walks of the laws' own 'same' and 'texts': two lists that are the same.
-/
import Derived.Test.YtmnbdpdblpgnlaaPut
namespace Go.Proofs.Ytmnbdpdblpgnlaa
open Go.RowKit
set_option linter.unusedVariables false

attribute [local go_sem ↓] Go.wp_at_zero Go.wp_at_succ

set_option maxHeartbeats 400000 in
theorem same_eq (w : World) (x y : Value) (l : List Int) (hx : RdV w x (uvs l)) (hy : RdV w y (uvs l)) : Calls Try.prog 41 #[x, y] w fun e w' => e = .returned (.bool true) ∧ Qt w w' := by
  have hxl : (uvs l).length = l.length := by simp [uvs]
  have hlm := hx.len
  unfold maxLen at hlm
  obtain ⟨ao, cap, rfl⟩ := hx.shape
  obtain ⟨ao2, cap2, rfl⟩ := hy.shape
  rw [hxl] at hx hy hlm ⊢
  have HXL := hide hxl
  clear hxl
  go_enter Try.func41, Try.ntmps41
  go_wp2_with fail
  go_loopw [5] (fun i w' => ∃ k : Nat, k ≤ l.length ∧ i = .int .i64 k ∧ Qt w w') (fun i _ => l.length - (intOf i).toNat)
  case atStart => exact ⟨0, Nat.zero_le _, rfl, Qt.refl _⟩
  case round =>
    obtain ⟨k, hk, rfl, q0⟩ := hrel
    by_cases hlt : k < l.length
    · obtain ⟨b, o, rfl, -, -, hcm, hcell⟩ := (hx.kept (q0.fr (fun _ => False)) (fun _ _ h => h)).lits (by rw [unhide HXL]; omega)
      obtain ⟨b2, o2, rfl, -, -, hcm2, hcell2⟩ := (hy.kept (q0.fr (fun _ => False)) (fun _ _ h => h)).lits (by rw [unhide HXL]; omega)
      have hc := hcell k (by rw [unhide HXL]; omega)
      have hc2 := hcell2 k (by rw [unhide HXL]; omega)
      simp only [uvs, List.getElem_map] at hc hc2
      unfold maxLen at hcm hcm2
      generalize l[k] = m at *
      have hlti : (k : Int) < (l.length : Int) := by omega
      have hk0 : (0 : Int) ≤ (k : Int) := by omega
      clear hcell hcell2 hx hy
      go_wp2_with fail
      go_quiet (fail)
      go_wp2_with fail
      go_roundw
      case rel => exact ⟨k + 1, by omega, by go_num, q0.trans (Qt.drewN _ _)⟩
      case measure => simp [intOf]; omega
    · go_wp2_with fail
      go_ret
      exact ⟨rfl, q0⟩

set_option maxHeartbeats 400000 in
theorem texts_eq (w : World) (x y : Value) (l : List ByteArray) (hx : RdV w x (svs l)) (hy : RdV w y (svs l)) : Calls Try.prog 44 #[x, y] w fun e w' => e = .returned (.bool true) ∧ Qt w w' := by
  have hxl : (svs l).length = l.length := by simp [svs]
  have hlm := hx.len
  unfold maxLen at hlm
  obtain ⟨ao, cap, rfl⟩ := hx.shape
  obtain ⟨ao2, cap2, rfl⟩ := hy.shape
  rw [hxl] at hx hy hlm ⊢
  have HXL := hide hxl
  clear hxl
  go_enter Try.func44, Try.ntmps44
  go_wp2_with fail
  go_loopw [5] (fun i w' => ∃ k : Nat, k ≤ l.length ∧ i = .int .i64 k ∧ Qt w w') (fun i _ => l.length - (intOf i).toNat)
  case atStart => exact ⟨0, Nat.zero_le _, rfl, Qt.refl _⟩
  case round =>
    obtain ⟨k, hk, rfl, q0⟩ := hrel
    by_cases hlt : k < l.length
    · obtain ⟨b, o, rfl, -, -, hcm, hcell⟩ := (hx.kept (q0.fr (fun _ => False)) (fun _ _ h => h)).lits (by rw [unhide HXL]; omega)
      obtain ⟨b2, o2, rfl, -, -, hcm2, hcell2⟩ := (hy.kept (q0.fr (fun _ => False)) (fun _ _ h => h)).lits (by rw [unhide HXL]; omega)
      have hc := hcell k (by rw [unhide HXL]; omega)
      have hc2 := hcell2 k (by rw [unhide HXL]; omega)
      simp only [svs, List.getElem_map] at hc hc2
      unfold maxLen at hcm hcm2
      generalize l[k] = m at *
      have hlti : (k : Int) < (l.length : Int) := by omega
      have hk0 : (0 : Int) ≤ (k : Int) := by omega
      clear hcell hcell2 hx hy
      go_wp2_with fail
      go_quiet (fail)
      go_wp2_with fail
      go_roundw
      case rel => exact ⟨k + 1, by omega, by go_num, q0.trans (Qt.drewN _ _)⟩
      case measure => simp [intOf]; omega
    · go_wp2_with fail
      go_ret
      exact ⟨rfl, q0⟩

end Go.Proofs.Ytmnbdpdblpgnlaa
