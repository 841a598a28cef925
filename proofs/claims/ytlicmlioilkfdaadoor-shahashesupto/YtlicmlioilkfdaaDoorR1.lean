/-
  The document's r, K, First.
-/
import Derived.Test.YtlicmlioilkfdaaDoorLv
namespace Go.Proofs.YtlicmlioilkfdaaDoor
open Go.RowKit
set_option linter.unusedVariables false
set_option linter.unusedSimpArgs false

attribute [local go_sem ↓] Go.wp_at_zero Go.wp_at_succ

theorem r_any (w : World) (x : Wd) (n : Nat) (h0 : 0 < n) (h1 : n < 32) : Calls Tryd.prog 66 #[.int .u32 (N x), .int .u64 (n : Int)] w fun e w' => e = .returned (.int .u32 (N (rot x n))) ∧ w = w' := by
  have hs := shl32 x (32 - n)
  have hr := shr32 x n
  have hmin : min (32 - n) 32 = 32 - n := by omega
  have hmin2 : min n 32 = n := by omega
  have e1 : IntKind.u64.wrap (32 - (n : Int)) = ((32 - n : Nat) : Int) := by
    simp only [IntKind.wrap, IntKind.bits, IntKind.signed]; simp; omega
  have ho := or32 (x >>> n) (x <<< (32 - n))
  have e2 : x >>> n ||| x <<< (32 - n) = rot x n := rfl
  rw [e2] at ho
  generalize hm : 32 - n = m at *
  have HM := hide hm
  clear hm e2
  go_enter Tryd.func66, Tryd.ntmps66
  go_wp2
  go_ret
  exact ⟨rfl, rfl⟩

theorem r_q (W : World) (x : Wd) (k : Int) (h0 : 0 < k) (h1 : k < 32) {C : World → Prop} (hC : ∀ w', w' = W → C w') : Calls Tryd.prog 66 #[.int .u32 (N x), .int .u64 k] W fun e w'' => e = .returned (.int .u32 (N (rot x k.toNat))) ∧ C w'' := by
  have := r_any W x k.toNat (by omega) (by omega)
  rw [Int.toNat_of_nonneg (by omega)] at this
  exact this.mono (by rintro e w' ⟨rfl, rfl⟩; exact ⟨rfl, hC _ rfl⟩)

theorem first_any (w : World) : Calls Tryd.prog 41 #[] w fun e w' => e = .returned (.agg #[.int .u32 (N s0.a), .int .u32 (N s0.b), .int .u32 (N s0.c), .int .u32 (N s0.d), .int .u32 (N s0.e), .int .u32 (N s0.f), .int .u32 (N s0.g), .int .u32 (N s0.h)]) ∧ Fr (fun _ => False) w w' := by
  have hth : ∀ cs : Array Value, cs.size = 8 → (w.alloc (.cells cs 50)).there w.heap.size 0 (wvs s0.l).toArray.size := fun cs hcs => (ZAt.new w cs 50 8 hcs).there
  have hone := wvs_one s0.l
  have hres : ∀ cs : Array Value, cs.size = 8 → WAt ((w.alloc (.cells cs 50)).setCells w.heap.size 0 (wvs s0.l)) w.heap.size 50 s0.l := fun cs hcs => (ZAt.new w cs 50 8 hcs).put s0.l rfl
  have fin : ∀ cs : Array Value, Fr (fun _ => False) w ((w.alloc (.cells cs 50)).setCells w.heap.size 0 (wvs s0.l)) := fun cs => ((Fr.refl _ _).alloc _).trans (setCells_frame _ _ _ _) (fun i hi e => by omega)
  go_enter Tryd.func41, Tryd.ntmps41
  go_wp2_with (refine wpList_store_mid0 rfl rfl 50 _ _ rfl w.heap.size 0 (wvs s0.l).toArray rfl rfl (hth _ rfl) Tryd.s50 hone ?_)
  refine bodyPost_ret (ret_agg rfl _ _ w.heap.size 0 _ _ rfl (hres _ rfl).range Tryd.u50 rfl Tryd.s50) rfl ?_
  exact ⟨rfl, fin _⟩

theorem wpList_buildC {P : Program} {ops : Array Oper} {rest : List Oper} {o : Oper} {a : Act} {w : World} {Q : Exit → Act → World → Prop} (hg : o.guard = none) (t : TypeId) (parts : Array (Nat × Operand)) (ho : o.op = .build t parts) (cells : Array Value)
    (hf : P.built t (parts.map fun (i, x) => (i, a.eval x)).toList = some cells)
    (h : wpList P ops Q rest (a.put o.dst (.agg cells)) w) : wpList P ops Q (o :: rest) a w :=
  wpList_build hg t parts ho (by rw [hf]; rfl) (by rw [hf]; exact h)

set_option maxRecDepth 100000 in
theorem K_any (w : World) : Calls Tryd.prog 65 #[] w fun e w' => e = .returned (.agg (wvs KL).toArray) ∧ Fr (fun _ => False) w w' := by
  have hl : (wvs KL).length = 64 := by rw [wvs_length]; exact KL_length
  have hsz : (wvs KL).toArray.size = 64 := by simpa using hl
  have hi : (Tryd.prog.info? 98).map (·.size) = some (wvs KL).length := by rw [hl]; exact Tryd.s98
  have hi2 : (Tryd.prog.info? 98).map (·.size) = some (wvs KL).toArray.size := by rw [hsz]; exact Tryd.s98
  have hth : ∀ cs : Array Value, cs.size = 64 → (w.alloc (.cells cs 98)).there w.heap.size 0 (wvs KL).toArray.size := fun cs hcs => by rw [hsz]; exact (ZAt.new w cs 98 64 hcs).there
  have hone := wvs_one KL
  have hres : ∀ cs : Array Value, cs.size = 64 → WAt ((w.alloc (.cells cs 98)).setCells w.heap.size 0 (wvs KL)) w.heap.size 98 KL := fun cs hcs => (ZAt.new w cs 98 64 hcs).put KL KL_length
  have fin : ∀ cs : Array Value, Fr (fun _ => False) w ((w.alloc (.cells cs 98)).setCells w.heap.size 0 (wvs KL)) := fun cs => ((Fr.refl _ _).alloc _).trans (setCells_frame _ _ _ _) (fun i hi e => by omega)
  go_enter Tryd.func65, Tryd.ntmps65
  go_wp2_with (first | refine wpList_buildC rfl 98 _ rfl (wvs KL).toArray (by kernel_rfl) ?_ | refine wpList_store_mid0 rfl rfl 98 _ _ rfl w.heap.size 0 (wvs KL).toArray rfl rfl (hth _ rfl) hi2 hone ?_)
  refine bodyPost_ret (ret_agg rfl _ _ w.heap.size 0 _ _ rfl (hres _ rfl).range Tryd.u98 rfl hi) rfl ?_
  exact ⟨rfl, fin _⟩
end Go.Proofs.YtlicmlioilkfdaaDoor
