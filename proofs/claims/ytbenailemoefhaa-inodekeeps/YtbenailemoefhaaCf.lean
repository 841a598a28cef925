/-
  A Change: an inode, three numbers and a time.
-/
import Derived.Test.YtbenailemoefhaaLk
import Derived.Test.YtbenailemoefhaaA8
import Derived.Deep.MidRow
namespace Go.Proofs.Ytbenailemoefhaa
open Go.RowKit Go.Lib
set_option linter.unusedVariables false
set_option linter.unusedSimpArgs false

attribute [local go_sem ↓] Go.wp_at_zero Go.wp_at_succ

structure Cn where
  x : In
  a : Int
  b : Int
  c : Int
  d : Int
def Cn.cs (z : Cn) : Array Value := #[.int .u64 z.x.n, .int .u32 z.x.g, .int .i64 z.x.k, .int .u32 z.x.m, .int .u32 z.x.l, .int .u32 z.x.u, .int .u32 z.x.d, .int .u64 z.x.s, .int .u64 z.x.b, .int .u64 z.x.ta, .int .u64 z.x.tm, .int .u64 z.x.tc, .int .u64 z.x.r, .string z.x.t, .int .i64 z.a, .int .i64 z.b, .int .u64 z.c, .int .u64 z.d]
@[reducible] def Cn.v (z : Cn) : Value := .agg z.cs
def Cn.zero : Cn := ⟨In.zero, 0, 0, 0, 0⟩
@[go_sem, simp] theorem Cn.size (z : Cn) : z.cs.size = 18 := rfl
theorem ldC {w : World} {n : Nat} {z : Cn} (h : w.heap[n]? = some (.cells z.cs 59 (0, 0))) : (loadVar 25 ⟨n, 0, none⟩).run Try.prog w = .ok z.x.v w := by
  have hr : w.rangeAt n 0 z.x.cs.toList := by
    intro j v hv
    rw [cell_of_heap h]
    have hj : j < 14 := by have := (List.getElem?_eq_some_iff.1 hv).1; simpa using this
    rw [← hv, Nat.zero_add]
    rcases j with _ | _ | _ | _ | _ | _ | _ | _ | _ | _ | _ | _ | _ | _ | j
    iterate 14 rfl
    omega
  have := run_loadVar_mid (P := Try.prog) w n 0 25 z.x.cs.toList _ hr Try.underlying25 rfl (by kernel_rfl)
  simpa using this
theorem wl_loadC {ops : Array Oper} {rest : List Oper} {o : Oper} {a : Act} {w : World} {Q : Exit → Act → World → Prop} (x : Operand) (ho : o.op = .load 25 x) (hg : Region.wanted o (yielded ops a.tmps) = true) (n : Nat) (hx : a.eval x = .pointer (some ⟨n, 0, none⟩)) {z : Cn} (hz : w.heap[n]? = some (.cells z.cs 59 (0, 0))) (h : wpList Try.prog ops Q rest (a.put o.dst (.agg z.x.cs)) w) : wpList Try.prog ops Q (o :: rest) a w :=
  wpList_want hg fun _ hK => by
    unfold Oper.wp execOp
    simp only [ho, hx, Instr.loadAt, Instr.sureAddr, Sem.run_bind, Sem.run_pure, Result.andThen_ok, ldC hz]
    exact hK _ _ h
theorem x_loadC {ρ : Operand → Value} {o : Oper} {w : World} {x : Operand} {n : Nat} {z : Cn} (ho : o.op = .load 25 x) (hx : ρ x = .pointer (some ⟨n, 0 + 0, none⟩)) (h : w.heap[n]? = some (.cells z.cs 59 (0, 0))) : (execOp ρ o).run Try.prog w = .ok (.value z.x.v) w := by
  simp only [execOp, ho, hx, Nat.zero_add, Instr.loadAt, Instr.sureAddr, Sem.run_bind, Sem.run_pure, Result.andThen_ok, ldC h]


theorem fa59_0 (b o : Nat) (W : World) : (Instr.fieldAt 59 (.pointer (some ⟨b, o, none⟩)) 0).run Try.prog W = .ok (.pointer (some ⟨b, o + 0, none⟩)) W := by simp [go_sem]
theorem fa59_1 (b o : Nat) (W : World) : (Instr.fieldAt 59 (.pointer (some ⟨b, o, none⟩)) 1).run Try.prog W = .ok (.pointer (some ⟨b, o + 14, none⟩)) W := by simp [go_sem]
theorem fa59_2 (b o : Nat) (W : World) : (Instr.fieldAt 59 (.pointer (some ⟨b, o, none⟩)) 2).run Try.prog W = .ok (.pointer (some ⟨b, o + 15, none⟩)) W := by simp [go_sem]
theorem fa59_3 (b o : Nat) (W : World) : (Instr.fieldAt 59 (.pointer (some ⟨b, o, none⟩)) 3).run Try.prog W = .ok (.pointer (some ⟨b, o + 16, none⟩)) W := by simp [go_sem]
theorem fa59_4 (b o : Nat) (W : World) : (Instr.fieldAt 59 (.pointer (some ⟨b, o, none⟩)) 4).run Try.prog W = .ok (.pointer (some ⟨b, o + 17, none⟩)) W := by simp [go_sem]
end Go.Proofs.Ytbenailemoefhaa
