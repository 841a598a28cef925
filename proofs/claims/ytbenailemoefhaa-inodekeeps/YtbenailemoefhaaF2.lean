/-
  What everybody is granted: permissions, Access.
-/
import Derived.Test.YtbenailemoefhaaF1
import Derived.Test.YtbenailemoefhaaA3
namespace Go.Proofs.Ytbenailemoefhaa
open Go.RowKit Go.Lib
set_option linter.unusedVariables false
set_option linter.unusedSimpArgs false

attribute [local go_sem ↓] Go.wp_at_zero Go.wp_at_succ

theorem and7 (m : Int) (h0 : 0 ≤ m) (h1 : m < 4294967296) : bits .and .u32 m 7 = m % 8 := by
  obtain ⟨k, rfl⟩ := Int.eq_ofNat_of_zero_le h0
  show IntKind.u32.wrap ((BitVec.ofInt 32 (k : Int) &&& BitVec.ofInt 32 7).toNat : Int) = _
  have e1 : (BitVec.ofInt 32 (k : Int) &&& BitVec.ofInt 32 7).toNat = k % 8 := by
    rw [BitVec.toNat_and]
    have : (BitVec.ofInt 32 (k : Int)).toNat = k := by rw [BitVec.ofInt_natCast]; simp; omega
    rw [this]
    exact Nat.and_two_pow_sub_one_eq_mod k 3
  rw [e1]
  simp [IntKind.wrap, IntKind.bits, IntKind.signed]
  omega
/-- Groups, as they are handed over: none, or a row that can be read. -/
def GA (w : World) (v : Value) (gids : List Int) : Prop := (v = .slice none 0 0 ∧ gids = []) ∨ ∃ b cap, v = .slice (some ⟨b, 0, none⟩) gids.length cap ∧ gids.length ≤ cap ∧ cap ≤ maxLen ∧ ∀ j (h : j < gids.length), w.cell? ⟨b, j, none⟩ = some (.int .u32 gids[j])
theorem GA.kept {w w' : World} {v : Value} {gids : List Int} (h : GA w v gids) (f : Fr (fun _ => False) w w') : GA w' v gids := by
  rcases h with h | ⟨b, cap, h1, h2, h3, h4⟩
  · exact .inl h
  · exact .inr ⟨b, cap, h1, h2, h3, fun j hj => by rw [f.cell (World.block_lt_of_cell? w _ (h4 j hj)) id]; exact h4 j hj⟩
theorem rdv_cells {w : World} {b k cap : Nat} {l : List Int} (hk : k = l.length) (h1 : k ≤ cap) (h2 : cap ≤ maxLen) (h : ∀ j (h : j < l.length), w.cell? ⟨b, j, none⟩ = some (.int .u32 l[j])) : RdV w (.slice (some ⟨b, 0, none⟩) k cap) (gvs l) := by
  subst hk
  refine .inr ⟨_, _, by rw [show (gvs l).length = l.length by simp [gvs]], by simpa [gvs] using h1, h2, fun j hj => ?_⟩
  have hj2 : j < l.length := by simpa [gvs] using hj
  rw [Addr.add_lit, Nat.zero_add, h j hj2]
  simp [gvs]
set_option maxRecDepth 100000 in
set_option maxHeartbeats 4000000 in
theorem perm_any (x : In) (hx : x.Ok) (uid : Int) (v : Value) (gids : List Int) (w : World) (h : GA w v gids) (hg : gids.length ≤ 100000) : Calls Try.prog 55 #[x.v, .int .u32 uid, v] w fun e w' => e = .returned (.int .u32 (prm x uid gids)) ∧ Fr (fun _ => False) w w' := by
  have HP : Hid (prm x uid gids = if uid = 0 then 7 else if uid = x.u then x.m / 64 % 8 else if x.d ∈ gids.take 16 then x.m / 8 % 8 else x.m % 8) := hide rfl
  have hm := hx.m
  have a6 := and7 (x.m / 64) (by omega) (by omega)
  have a3 := and7 (x.m / 8) (by omega) (by omega)
  have a0 := and7 x.m (by omega) (by omega)
  clear hx
  generalize prm x uid gids = P at *
  by_cases h0 : uid = 0
  · subst h0
    have hP : P = 7 := unhide HP
    subst hP
    clear a6 a3 a0 h HP
    go_enter Try.func55, Try.ntmps55
    go_wp2_with fail
    go_ret
    exact ⟨rfl, (Fr.refl _ _).alloc _⟩
  rw [if_neg h0] at HP
  have b0 : (uid == 0) = false := by simpa using h0
  by_cases hu : uid = x.u
  · rw [if_pos hu] at HP
    have bu : (uid == x.u) = true := by simpa using hu
    rw [← unhide HP] at a6
    clear hu h0 HP a3 a0 h
    go_enter Try.func55, Try.ntmps55
    go_wp2_with fail
    go_ret
    exact ⟨rfl, (Fr.refl _ _).alloc _⟩
  rw [if_neg hu] at HP
  have bu : (uid == x.u) = false := by simpa using hu
  rcases h with ⟨rfl, rfl⟩ | ⟨bb, cap, rfl, hLc, hcm, hc⟩
  · have hk : ∀ W, Fr (fun _ => False) w W → Calls Try.prog 60 #[.slice none 0 0, .int .u32 x.d] W fun e w' => e = .returned (.bool (decide (x.d ∈ ([] : List Int).take 16))) ∧ w' = W := fun W f =>
      (contains_any W _ [] x.d (.inl ⟨rfl, rfl⟩) (by decide))
    rw [if_neg (by simp)] at HP
    rw [show decide (x.d ∈ ([] : List Int).take 16) = false by simp] at hk
    rw [← unhide HP] at a0
    clear HP a6 a3 hu h0
    have hk2 : ∀ n, Calls Try.prog 60 #[_, .int .u32 x.d] ((w.alloc (.cells x.cs 25)).drewN n) fun e w'' => e = .returned (.bool _) ∧ ∃ m, w'' = (w.alloc (.cells x.cs 25)).drewN m := fun n => (hk ((w.alloc (.cells x.cs 25)).drewN n) (((Fr.refl _ _).alloc _).drewN n)).mono (fun e w' h => ⟨h.1, n, h.2⟩)
    clear hk
    go_enter Try.func55, Try.ntmps55
    go_wp2_with fail
    go_quiet (with_reducible exact hk2 _)
    go_wp2_with fail
    go_ret
    exact ⟨rfl, ((Fr.refl _ _).alloc _).drewN _⟩
  · obtain ⟨L, hL⟩ : ∃ L, L = gids.length := ⟨_, rfl⟩
    obtain ⟨k, hkk⟩ : ∃ k, k = min L 16 := ⟨_, rfl⟩
    have htk : gids.take k = gids.take 16 := by
      rw [hkk, hL]
      rcases Nat.le_total gids.length 16 with h9 | h9
      · rw [Nat.min_eq_left h9, List.take_length, List.take_of_length_le h9]
      · rw [Nat.min_eq_right h9]
    have hk : ∀ W, Fr (fun _ => False) w W → Calls Try.prog 60 #[.slice (some ⟨bb, 0, none⟩) k cap, .int .u32 x.d] W fun e w' => e = .returned (.bool (decide (x.d ∈ gids.take 16))) ∧ w' = W := fun W f =>
      (contains_any W _ (gids.take 16) x.d (rdv_cells (by rw [← htk, List.length_take]; omega) (by omega) hcm (fun j hj => by
        have hj2 : j < gids.length := by rw [List.length_take] at hj; omega
        rw [f.cell (World.block_lt_of_cell? w _ (hc j hj2)) id, hc j hj2]
        simp)) (by rw [List.length_take]; omega))
    have hmin : (if (16 : Int) < (L : Int) then (16 : Int) else (L : Int)) = (k : Int) := by rw [hkk]; split <;> omega
    have hkc : k ≤ cap := by omega
    rw [← hL]
    clear htk hkk hc hg hL hLc
    rcases hmem : decide (x.d ∈ gids.take 16) with _ | _
    · rw [if_neg (by simpa using hmem)] at HP
      rw [hmem] at hk
      rw [← unhide HP] at a0
      clear hmem HP a6 a3 hu h0
      have hk2 : ∀ n, Calls Try.prog 60 #[_, .int .u32 x.d] ((w.alloc (.cells x.cs 25)).drewN n) fun e w'' => e = .returned (.bool _) ∧ ∃ m, w'' = (w.alloc (.cells x.cs 25)).drewN m := fun n => (hk ((w.alloc (.cells x.cs 25)).drewN n) (((Fr.refl _ _).alloc _).drewN n)).mono (fun e w' h => ⟨h.1, n, h.2⟩)
      clear hk
      go_enter Try.func55, Try.ntmps55
      go_wp2_with fail
      go_quiet (with_reducible exact hk2 _)
      go_wp2_with fail
      go_ret
      exact ⟨rfl, ((Fr.refl _ _).alloc _).drewN _⟩
    · rw [if_pos (by simpa using hmem)] at HP
      rw [hmem] at hk
      rw [← unhide HP] at a3
      clear hmem HP a6 a0 hu h0
      have hk2 : ∀ n, Calls Try.prog 60 #[_, .int .u32 x.d] ((w.alloc (.cells x.cs 25)).drewN n) fun e w'' => e = .returned (.bool _) ∧ ∃ m, w'' = (w.alloc (.cells x.cs 25)).drewN m := fun n => (hk ((w.alloc (.cells x.cs 25)).drewN n) (((Fr.refl _ _).alloc _).drewN n)).mono (fun e w' h => ⟨h.1, n, h.2⟩)
      clear hk
      go_enter Try.func55, Try.ntmps55
      go_wp2_with fail
      go_quiet (with_reducible exact hk2 _)
      go_wp2_with fail
      go_ret
      exact ⟨rfl, ((Fr.refl _ _).alloc _).drewN _⟩
end Go.Proofs.Ytbenailemoefhaa
