/-
  Access.
-/
import Derived.Test.YtbenailemoefhaaF2
namespace Go.Proofs.Ytbenailemoefhaa
open Go.RowKit Go.Lib
set_option linter.unusedVariables false
set_option linter.unusedSimpArgs false

attribute [local go_sem ↓] Go.wp_at_zero Go.wp_at_succ

/-- What the first permissions grant. -/
def acc (p : Int) (dir : Bool) : Nat → Int
  | 0 => 0
  | i + 1 => bits .or .u32 (acc p dir i) (grV (bits .and .u32 p (2 ^ i)) dir)
def acR (x : In) (uid : Int) (gids : List Int) (want : Int) : Int := if ck x = 0 then bits .and .u32 (acc (prm x uid gids) (x.k == 2) 3) want else 0
set_option maxRecDepth 100000 in
set_option maxHeartbeats 4000000 in
theorem access_any (x : In) (hx : x.Ok) (uid : Int) (v : Value) (gids : List Int) (want : Int) (w : World) (h : GA w v gids) (hg : gids.length ≤ 100000) : Calls Try.prog 32 #[x.v, .int .u32 uid, v, .int .u32 want] w fun e w' => e = .returned (.int .u32 (acR x uid gids want)) ∧ Fr (fun _ => False) w w' := by
  have HC := check_any x
  have HPM : Hid (∀ W, Fr (fun _ => False) w W → Calls Try.prog 55 #[x.v, .int .u32 uid, v] W fun e w' => e = .returned (.int .u32 (prm x uid gids)) ∧ Fr (fun _ => False) W w') := hide (fun W f => perm_any x hx uid v gids W (h.kept f) hg)
  have HA : Hid (acR x uid gids want = if ck x = 0 then bits .and .u32 (acc (prm x uid gids) (x.k == 2) 3) want else 0) := hide rfl
  generalize acR x uid gids want = R at *
  generalize prm x uid gids = p at *
  generalize ck x = c at *
  clear h hx hg
  by_cases hc : c = 0
  rotate_left
  · have bne : (c != 0) = true := by simpa using hc
    rw [if_neg hc] at HA
    have hR := unhide HA
    subst hR
    clear HA HPM hc
    go_enter Try.func32, Try.ntmps32
    go_wp2_with (first | (go_at_call 18; refine mono_ext (HC _) ?_; rintro e E rfl hE) | (apply wl_load25 _ rfl rfl _ rfl; (case hr => simp [go_sem]); (case hc => (simp [go_sem]; try exact rfl))))
    go_ret
    exact ⟨rfl, Fr.ext ((Fr.refl _ _).alloc _) hE⟩
  · subst hc
    rw [if_pos rfl] at HA
    have G1 : ∀ W, Calls Try.prog 56 #[.int .u32 (bits .and .u32 p 1), .bool (x.k == 2)] W fun e w' => e = .returned (.int .u32 (grV (bits .and .u32 p 1) (x.k == 2))) ∧ W = w' := fun W => grant_any _ _ W
    have G2 : ∀ W, Calls Try.prog 56 #[.int .u32 (bits .and .u32 p 2), .bool (x.k == 2)] W fun e w' => e = .returned (.int .u32 (grV (bits .and .u32 p 2) (x.k == 2))) ∧ W = w' := fun W => grant_any _ _ W
    have G4 : ∀ W, Calls Try.prog 56 #[.int .u32 (bits .and .u32 p 4), .bool (x.k == 2)] W fun e w' => e = .returned (.int .u32 (grV (bits .and .u32 p 4) (x.k == 2))) ∧ W = w' := fun W => grant_any _ _ W
    have H1 : Hid (acc p (x.k == 2) 1 = bits .or .u32 (acc p (x.k == 2) 0) (grV (bits .and .u32 p 1) (x.k == 2))) := hide rfl
    have H2 : Hid (acc p (x.k == 2) 2 = bits .or .u32 (acc p (x.k == 2) 1) (grV (bits .and .u32 p 2) (x.k == 2))) := hide rfl
    have H3 : Hid (acc p (x.k == 2) 3 = bits .or .u32 (acc p (x.k == 2) 2) (grV (bits .and .u32 p 4) (x.k == 2))) := hide rfl
    have H0 : Hid (acc p (x.k == 2) 0 = 0) := hide rfl
    generalize grV (bits .and .u32 p 1) (x.k == 2) = g1 at *
    generalize grV (bits .and .u32 p 2) (x.k == 2) = g2 at *
    generalize grV (bits .and .u32 p 4) (x.k == 2) = g4 at *
    generalize acc p (x.k == 2) 1 = a1 at *
    generalize acc p (x.k == 2) 2 = a2 at *
    generalize acc p (x.k == 2) 3 = a3 at *
    rw [unhide H0] at H1
    go_enter Try.func32, Try.ntmps32
    go_wp2_with (first | (go_at_call 18; refine mono_ext (HC _) ?_; rintro e E rfl hE) | (go_at_call 55; refine mono_ext (unhide HPM _ (by repeat' (first | exact Fr.refl _ _ | apply Fr.alloc | rw [← ext_ext] | (refine Fr.ext ?_ (by assumption))))) ?_; rintro e E2 rfl hE2) | (apply wl_load25 _ rfl rfl _ rfl; (case hr => simp [go_sem]); (case hc => (simp [go_sem]; try exact rfl))))
    refine wp_world ?_
    intro Wx hWx
    have FX : Hid (Fr (fun _ => False) w Wx) := hide (by rw [hWx, ← ext_ext]; exact Fr.ext (Fr.ext ((Fr.refl _ _).alloc _) hE) hE2)
    have cx : Wx.cell? ⟨w.heap.size, 2, none⟩ = some (.int .i64 x.k) := by rw [hWx]; simp [go_sem]
    clear hWx hE hE2 HPM HC
    go_loopw [10, 11] (fun o y W => ((o = .int .u32 0 ∧ y = .int .u32 1) ∨ (o = .int .u32 a1 ∧ y = .int .u32 2) ∨ (o = .int .u32 a2 ∧ y = .int .u32 4) ∨ (o = .int .u32 a3 ∧ y = .int .u32 8)) ∧ W = Wx) (fun _ y _ => (8 - intOf y).toNat)
    case atStart => exact ⟨.inl ⟨rfl, rfl⟩, rfl⟩
    case round =>
      obtain ⟨hrel, hww⟩ := hrel
      have hww2 := hww.symm
      subst hww2
      clear hww
      rcases hrel with ⟨rfl, rfl⟩ | ⟨rfl, rfl⟩ | ⟨rfl, rfl⟩ | ⟨rfl, rfl⟩
      · have e1 := (unhide H1).symm
        clear H1 H2 H3 HA
        go_wp2_with (first | (go_at_call 56; refine (G1 _).mono ?_; rintro e w' ⟨rfl, rfl⟩))
        go_roundw
        case rel => exact ⟨.inr (.inl ⟨rfl, rfl⟩), by trivial⟩
        case measure => simp [intOf]
      · have e2 := (unhide H2).symm
        clear H1 H2 H3 HA
        go_wp2_with (first | (go_at_call 56; refine (G2 _).mono ?_; rintro e w' ⟨rfl, rfl⟩))
        go_roundw
        case rel => exact ⟨.inr (.inr (.inl ⟨rfl, rfl⟩)), by trivial⟩
        case measure => simp [intOf]
      · have e3 := (unhide H3).symm
        clear H1 H2 H3 HA
        go_wp2_with (first | (go_at_call 56; refine (G4 _).mono ?_; rintro e w' ⟨rfl, rfl⟩))
        go_roundw
        case rel => exact ⟨.inr (.inr (.inr ⟨rfl, rfl⟩)), by trivial⟩
        case measure => simp [intOf]
      · have e4 := (unhide HA).symm
        clear H1 H2 H3 HA
        go_wp2_with fail
        go_ret
        exact ⟨rfl, unhide FX⟩
end Go.Proofs.Ytbenailemoefhaa
