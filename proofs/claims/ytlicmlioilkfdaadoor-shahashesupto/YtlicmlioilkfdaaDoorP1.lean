/-
  Package sha's long: eight bytes as a number.
-/
import Derived.Test.YtlicmlioilkfdaaDoorT1
namespace Go.Proofs.YtlicmlioilkfdaaDoor
open Go.RowKit
set_option linter.unusedVariables false
set_option linter.unusedSimpArgs false

attribute [local go_sem ↓] Go.wp_at_zero Go.wp_at_succ

theorem ofInt64 (n : Nat) : BitVec.ofInt 64 ((n : Nat) : Int) = BitVec.ofNat 64 n := by
  rw [BitVec.ofInt_natCast]

theorem or64 (a b : Wd) : bits BinOp.or IntKind.u64 (N a * 4294967296) (N b) = N a * 4294967296 + N b := by
  have ha := a.isLt
  have hb := b.isLt
  have e1 : N a * 4294967296 = ((a.toNat * 4294967296 : Nat) : Int) := by unfold N; omega
  have e2 : N b = ((b.toNat : Nat) : Int) := rfl
  rw [e1, e2]
  show IntKind.u64.wrap ((BitVec.ofInt 64 _ ||| BitVec.ofInt 64 _).toNat : Int) = _
  rw [ofInt64, ofInt64, BitVec.toNat_or, BitVec.toNat_ofNat, BitVec.toNat_ofNat, Nat.mod_eq_of_lt (by omega), Nat.mod_eq_of_lt (by omega)]
  have e3 : a.toNat * 4294967296 ||| b.toNat = a.toNat * 4294967296 + b.toNat := by
    have := Nat.shiftLeft_add_eq_or_of_lt (i := 32) (b := b.toNat) (by omega) a.toNat
    rw [Nat.shiftLeft_eq] at this
    exact this.symm
  rw [e3, wr64 _ (by omega) (by omega)]
  omega

/-- The number that eight bytes tell. -/
def ln8 (hi lo : Wd) : Nat := hi.toNat * 4294967296 + lo.toNat

theorem ln8_lt (hi lo : Wd) : ln8 hi lo < 18446744073709551616 := by
  have := hi.isLt
  have := lo.isLt
  unfold ln8; omega

set_option maxHeartbeats 400000 in
theorem long_any (w : World) (b o n c : Nat) (l : List UInt8) (hn : 8 ≤ n) (hnc : n ≤ c) (hc : ∀ j, j < 8 → w.cell? ⟨b, o + j, none⟩ = some (.int .u8 ((((l.getD j 0).toNat : Nat)) : Int))) :
    Calls Tryd.prog 49 #[.slice (some ⟨b, o, none⟩) n c] w fun e w' => e = .returned (.int .u64 ((ln8 (wdAt l 0) (wdAt l 1) : Nat) : Int)) ∧ ∃ k, w' = w.drewN k := by
  have k1 := fun m => word_at (w.drewN m) b o n c (l.getD 0 0) (l.getD 1 0) (l.getD 2 0) (l.getD 3 0) (by omega) ((World.cell?_drewN _ _ _).trans (hc 0 (by omega))) ((World.cell?_drewN _ _ _).trans (hc 1 (by omega))) ((World.cell?_drewN _ _ _).trans (hc 2 (by omega))) ((World.cell?_drewN _ _ _).trans (hc 3 (by omega)))
  have k2 := fun m => word_at (w.drewN m) b (o + 4) (n - 4) (c - 4) (l.getD 4 0) (l.getD 5 0) (l.getD 6 0) (l.getD 7 0) (by omega) ((World.cell?_drewN _ _ _).trans (hc 4 (by omega))) ((World.cell?_drewN _ _ _).trans (hc 5 (by omega))) ((World.cell?_drewN _ _ _).trans (hc 6 (by omega))) ((World.cell?_drewN _ _ _).trans (hc 7 (by omega)))
  have R1 : ∀ m, Calls Tryd.prog 50 #[.slice (some ⟨b, o, none⟩) n c] (w.drewN m) fun e w'' => e = .returned (.int .u32 (N (wdAt l 0))) ∧ ∃ m, w'' = w.drewN m := fun m => (k1 m).mono (by
    rintro e w' ⟨rfl, k, rfl⟩
    exact ⟨rfl, m + k, by simp⟩)
  have R2 : ∀ m, Calls Tryd.prog 50 #[.slice (some ⟨b, o + 4, none⟩) (n - 4) (c - 4)] (w.drewN m) fun e w'' => e = .returned (.int .u32 (N (wdAt l 1))) ∧ ∃ m, w'' = w.drewN m := fun m => (k2 m).mono (by
    rintro e w' ⟨rfl, k, rfl⟩
    exact ⟨rfl, m + k, by simp⟩)
  have e0 : ((ln8 (wdAt l 0) (wdAt l 1) : Nat) : Int) = N (wdAt l 0) * 4294967296 + N (wdAt l 1) := by unfold ln8 N; omega
  rw [e0]
  clear k1 k2 hc e0
  generalize wdAt l 0 = hi at *
  generalize wdAt l 1 = lo at *
  have ho := or64 hi lo
  have h1 := N_lt hi
  have h2 := N_lt lo
  have w1 : IntKind.u64.wrap (N hi) = N hi := wr64 _ (by omega) (by omega)
  have w2 : IntKind.u64.wrap (N lo) = N lo := wr64 _ (by omega) (by omega)
  have w3 : N hi * 4294967296 % 18446744073709551616 = N hi * 4294967296 := by omega
  have b1 : (4 : Int) ≤ (n : Int) := by omega
  have b2 : (c = 4) = False := by simp; omega
  go_enter Tryd.func49, Tryd.ntmps49
  go_wp2_with fail
  go_quiet (first | with_reducible exact R1 _ | with_reducible exact R2 _)
  go_wp2_with fail
  go_ret
  exact ⟨rfl, _, rfl⟩
end Go.Proofs.YtlicmlioilkfdaaDoor
