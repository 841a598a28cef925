/-
  Trees: the first half; how many steps.
-/
import Derived.Test.YtlicmlioilkfdaaDoorX2
namespace Go.Proofs.YtlicmlioilkfdaaDoor
open Go.RowKit
set_option linter.unusedVariables false
set_option linter.unusedSimpArgs false

attribute [local go_sem ↓] Go.wp_at_zero Go.wp_at_succ

theorem wpList_val {P : Program} {ops : Array Oper} {rest : List Oper} {o : Oper} {a : Act} {w : World} {Q : Exit → Act → World → Prop} (hg : o.guard = none) (v : Value) (hr : (execOp a.eval o).run P w = .ok (.value v) w)
    (h : wpList P ops Q rest (a.put o.dst v) w) : wpList P ops Q (o :: rest) a w :=
  wpList_plain hg fun _ hK => by
    unfold Oper.wp
    rw [hr, Oper.upon_value]
    exact hK _ _ h

theorem ex_index {P : Program} {o : Oper} {w : World} {ρ : Operand → Value} {t : TypeId} {x y : Operand} {u v r : Value} (ho : o.op = .index t x y) (hx : ρ x = u) (hy : ρ y = v) (hr : (Instr.index t u v).run P w = .ok r w) : (execOp ρ o).run P w = .ok (.value r) w := by
  subst hx hy; simp [execOp, ho, hr]

/-- How many bits. -/
def bl (n : Nat) : Nat := if n = 0 then 0 else n.log2 + 1
def tab : ByteArray := ⟨((List.range 256).map fun n => UInt8.ofNat (bl n)).toArray⟩
theorem tab_size : tab.size = 256 := by simp [tab, ByteArray.size]
theorem bl_small : ∀ n : Fin 256, bl n.val < 9 := by decide +kernel

theorem tab_run (w : World) (s : ByteArray) (hs : s = tab) (n : Nat) (hn : n < 256) : (Instr.index 9 (.string s) (.int .u8 ((n : Nat) : Int))).run Tryd.prog w = .ok (.int .u8 ((bl n : Nat) : Int)) w := by
  subst hs
  have hb := bl_small ⟨n, hn⟩
  have hb' : bl n < 9 := hb
  rw [run_index_string w 9 _ _ _ Tryd.u9, dif_pos ⟨by omega, by rw [tab_size]; omega⟩]
  congr 3
  have : tab[(n : Int).toNat]'(by rw [tab_size]; omega) = UInt8.ofNat (bl n) := by
    show ((List.range 256).map fun n => UInt8.ofNat (bl n)).toArray[(n : Int).toNat]'_ = _
    simp
  rw [this, UInt8.toNat_ofNat']
  omega

theorem bl_up (x k : Nat) (h : 2 ^ k ≤ x) : bl x = k + bl (x / 2 ^ k) := by
  have hk : 0 < 2 ^ k := Nat.two_pow_pos k
  have hx : x ≠ 0 := by omega
  have hq : 0 < x / 2 ^ k := Nat.div_pos h hk
  have hq0 : x / 2 ^ k ≠ 0 := by omega
  unfold bl
  rw [if_neg hx, if_neg hq0]
  have h2 := (Nat.log2_eq_iff hq0).1 rfl
  generalize (x / 2 ^ k).log2 = j at *
  have : x.log2 = k + j := by
    rw [Nat.log2_eq_iff hx]
    have h3 := (Nat.le_div_iff_mul_le hk).1 h2.1
    have h4 := (Nat.div_lt_iff_lt_mul hk).1 h2.2
    rw [show k + j + 1 = (j + 1) + k by omega, show k + j = j + k by omega, Nat.pow_add, Nat.pow_add 2 (j + 1)]
    exact ⟨h3, h4⟩
  omega

theorem wr64 (n : Int) (h0 : 0 ≤ n) (h1 : n < 18446744073709551616) : IntKind.u64.wrap n = n := by
  simp only [IntKind.wrap, IntKind.bits, IntKind.signed]; simp; omega

set_option maxHeartbeats 1000000 in
set_option maxRecDepth 100000 in
theorem len64_any (w : World) (x : Nat) (hx : x < 1048576) : Calls Tryd.prog 73 #[.int .u64 ((x : Nat) : Int)] w fun e w' => e = .returned (.int .i64 ((bl x : Nat) : Int)) ∧ w = w' := by
  have n1 : ¬ (4294967296 : Int) ≤ ((x : Nat) : Int) := by omega
  by_cases h1 : 65536 ≤ x
  · have hb := bl_up x 16 h1
    have i1 : (65536 : Int) ≤ ((x : Nat) : Int) := by omega
    have hq : ((x : Nat) : Int) / 65536 = ((x / 2 ^ 16 : Nat) : Int) := by omega
    have hlt : x / 2 ^ 16 < 256 := by omega
    have hs := bl_small ⟨_, hlt⟩
    have i2 : ¬ (65536 : Int) ≤ ((x / 2 ^ 16 : Nat) : Int) := by omega
    have i3 : ¬ (256 : Int) ≤ ((x / 2 ^ 16 : Nat) : Int) := by omega
    have e1 : IntKind.u8.wrap ((x / 2 ^ 16 : Nat) : Int) = ((x / 2 ^ 16 : Nat) : Int) := by
      simp only [IntKind.wrap, IntKind.bits, IntKind.signed]; simp; omega
    have HB := hide hb
    clear hb
    generalize x / 2 ^ 16 = y at *
    have hs' : bl y < 9 := hs
    clear hs
    go_enter Tryd.func73, Tryd.ntmps73
    go_wp2_with (refine wpList_val rfl (.int .u8 ((bl y : Nat) : Int)) (ex_index rfl rfl rfl (tab_run _ _ (by kernel_rfl) y hlt)) ?_)
    go_ret
    rw [unhide HB]
    exact ⟨by simp, rfl⟩
  · have i1 : ¬ (65536 : Int) ≤ ((x : Nat) : Int) := by omega
    by_cases h2 : 256 ≤ x
    · have hb := bl_up x 8 h2
      have i2 : (256 : Int) ≤ ((x : Nat) : Int) := by omega
      have hq : ((x : Nat) : Int) / 256 = ((x / 2 ^ 8 : Nat) : Int) := by omega
      have hlt : x / 2 ^ 8 < 256 := by omega
      have hs := bl_small ⟨_, hlt⟩
      have e1 : IntKind.u8.wrap ((x / 2 ^ 8 : Nat) : Int) = ((x / 2 ^ 8 : Nat) : Int) := by
        simp only [IntKind.wrap, IntKind.bits, IntKind.signed]; simp; omega
      have HB := hide hb
      clear hb
      generalize x / 2 ^ 8 = y at *
      have hs' : bl y < 9 := hs
      clear hs
      go_enter Tryd.func73, Tryd.ntmps73
      go_wp2_with (refine wpList_val rfl (.int .u8 ((bl y : Nat) : Int)) (ex_index rfl rfl rfl (tab_run _ _ (by kernel_rfl) y hlt)) ?_)
      go_ret
      rw [unhide HB]
      exact ⟨by simp, rfl⟩
    · have i2 : ¬ (256 : Int) ≤ ((x : Nat) : Int) := by omega
      have hlt : x < 256 := by omega
      have hs := bl_small ⟨_, hlt⟩
      have hs' : bl x < 9 := hs
      have e1 : IntKind.u8.wrap ((x : Nat) : Int) = ((x : Nat) : Int) := by
        simp only [IntKind.wrap, IntKind.bits, IntKind.signed]; simp; omega
      clear hs
      go_enter Tryd.func73, Tryd.ntmps73
      go_wp2_with (refine wpList_val rfl (.int .u8 ((bl x : Nat) : Int)) (ex_index rfl rfl rfl (tab_run _ _ (by kernel_rfl) x hlt)) ?_)
      go_ret
      exact ⟨by simp, rfl⟩
end Go.Proofs.YtlicmlioilkfdaaDoor
