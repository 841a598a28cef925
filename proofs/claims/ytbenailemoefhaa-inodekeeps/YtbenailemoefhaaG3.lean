/-
  Whether two inodes, attributes, handles are the same.
-/
import Derived.Test.YtbenailemoefhaaSt
import Derived.Laws.StructEq
namespace Go.Proofs.Ytbenailemoefhaa
open Go.RowKit
set_option linter.unusedVariables false
set_option linter.unusedSimpArgs false

/-- Are they the same, field by field? -/
def eqB (x y : In) : Bool := ((x.n == y.n) && ((x.g == y.g) && ((x.k == y.k) && ((x.m == y.m) && ((x.l == y.l) && ((x.u == y.u) && ((x.d == y.d) && ((x.s == y.s) && ((x.b == y.b) && ((x.ta == y.ta) && ((x.tm == y.tm) && ((x.tc == y.tc) && ((x.r == y.r) && ((x.t.toList == y.t.toList) && true))))))))))))))
theorem eqB_same (x : In) : eqB x x = true := by simp [eqB]
theorem eqF_cons {d : Nat} {xs ys : Array Value} {f : Field} {fs : List Field} {a b : Value} {r rest : Bool} {w : World} (hn : f.name ≠ "_") (h1 : (part f.type xs f.offset).run Try.prog w = .ok a w) (h2 : (part f.type ys f.offset).run Try.prog w = .ok b w) (h3 : (Op.equalIn d f.type a b).run Try.prog w = .ok r w) (h4 : (Op.eqFields d xs ys fs).run Try.prog w = .ok rest w) : (Op.eqFields d xs ys (f :: fs)).run Try.prog w = .ok (r && rest) w := by
  simp only [Op.eqFields, if_pos hn, Sem.run_bind, h1, h2, h3, Result.andThen_ok]
  cases r
  · simp
  · simp [h4]
theorem part_of {t : TypeId} {cs : Array Value} {off : Nat} {v : Value} {w : World} (ha : ∀ w, (isAgg t).run Try.prog w = .ok false w) (h : cs[off]? = some v) : (part t cs off).run Try.prog w = .ok v w := by
  simp [part, ha, h]
theorem ia22 (w : World) : (isAgg 22).run Try.prog w = .ok false w := by simp [go_sem]
theorem ia23 (w : World) : (isAgg 23).run Try.prog w = .ok false w := by simp [go_sem]
theorem ia3 (w : World) : (isAgg 3).run Try.prog w = .ok false w := by simp [go_sem]
theorem ia9 (w : World) : (isAgg 9).run Try.prog w = .ok false w := by simp [go_sem]
@[go_sem ↓] theorem eq25 (x y : In) (w : World) : (Op.equalIn 10000 25 (.agg x.cs) (.agg y.cs)).run Try.prog w = .ok (eqB x y) w := by
  have hS : Try.prog.underlying 25 = some (.struct (Try.prog.fieldsOf 25)) := by kernel_rfl
  have hp : Try.prog.stoodInHeld 25 = false := by kernel_rfl
  rw [show (10000 : Nat) = 9999 + 1 from rfl, run_equalIn_agg w 9999 25 _ _ hS hp]
  simp only [Program.fieldsOf, Try.underlying25]
  unfold eqB
  refine eqF_cons (by decide) (part_of ia22 (In.get0 x)) (part_of ia22 (In.get0 y)) (run_equalIn_int w 9998 22 .u64 .u64 _ _ Try.underlying22) ?_
  refine eqF_cons (by decide) (part_of ia23 (In.get1 x)) (part_of ia23 (In.get1 y)) (run_equalIn_int w 9998 23 .u32 .u32 _ _ Try.underlying23) ?_
  refine eqF_cons (by decide) (part_of ia3 (In.get2 x)) (part_of ia3 (In.get2 y)) (run_equalIn_int w 9998 3 .i64 .i64 _ _ Try.underlying3) ?_
  refine eqF_cons (by decide) (part_of ia23 (In.get3 x)) (part_of ia23 (In.get3 y)) (run_equalIn_int w 9998 23 .u32 .u32 _ _ Try.underlying23) ?_
  refine eqF_cons (by decide) (part_of ia23 (In.get4 x)) (part_of ia23 (In.get4 y)) (run_equalIn_int w 9998 23 .u32 .u32 _ _ Try.underlying23) ?_
  refine eqF_cons (by decide) (part_of ia23 (In.get5 x)) (part_of ia23 (In.get5 y)) (run_equalIn_int w 9998 23 .u32 .u32 _ _ Try.underlying23) ?_
  refine eqF_cons (by decide) (part_of ia23 (In.get6 x)) (part_of ia23 (In.get6 y)) (run_equalIn_int w 9998 23 .u32 .u32 _ _ Try.underlying23) ?_
  refine eqF_cons (by decide) (part_of ia22 (In.get7 x)) (part_of ia22 (In.get7 y)) (run_equalIn_int w 9998 22 .u64 .u64 _ _ Try.underlying22) ?_
  refine eqF_cons (by decide) (part_of ia22 (In.get8 x)) (part_of ia22 (In.get8 y)) (run_equalIn_int w 9998 22 .u64 .u64 _ _ Try.underlying22) ?_
  refine eqF_cons (by decide) (part_of ia22 (In.get9 x)) (part_of ia22 (In.get9 y)) (run_equalIn_int w 9998 22 .u64 .u64 _ _ Try.underlying22) ?_
  refine eqF_cons (by decide) (part_of ia22 (In.get10 x)) (part_of ia22 (In.get10 y)) (run_equalIn_int w 9998 22 .u64 .u64 _ _ Try.underlying22) ?_
  refine eqF_cons (by decide) (part_of ia22 (In.get11 x)) (part_of ia22 (In.get11 y)) (run_equalIn_int w 9998 22 .u64 .u64 _ _ Try.underlying22) ?_
  refine eqF_cons (by decide) (part_of ia22 (In.get12 x)) (part_of ia22 (In.get12 y)) (run_equalIn_int w 9998 22 .u64 .u64 _ _ Try.underlying22) ?_
  refine eqF_cons (by decide) (part_of ia9 (In.get13 x)) (part_of ia9 (In.get13 y)) (run_equalIn_string w 9998 9 _ _ Try.underlying9) ?_
  rfl
def eqA (x y : At) : Bool := ((x.k == y.k) && ((x.m == y.m) && ((x.l == y.l) && ((x.u == y.u) && ((x.d == y.d) && ((x.s == y.s) && ((x.b == y.b) && ((x.f == y.f) && ((x.n == y.n) && ((x.ta == y.ta) && ((x.tm == y.tm) && ((x.tc == y.tc) && true))))))))))))
theorem eqA_same (x : At) : eqA x x = true := by simp [eqA]
@[go_sem ↓] theorem eq45 (x y : At) (w : World) : (Op.equalIn 10000 45 (.agg x.cs) (.agg y.cs)).run Try.prog w = .ok (eqA x y) w := by
  have hS : Try.prog.underlying 45 = some (.struct (Try.prog.fieldsOf 45)) := by kernel_rfl
  have hp : Try.prog.stoodInHeld 45 = false := by kernel_rfl
  rw [show (10000 : Nat) = 9999 + 1 from rfl, run_equalIn_agg w 9999 45 _ _ hS hp]
  simp only [Program.fieldsOf, Try.underlying45]
  unfold eqA
  refine eqF_cons (by decide) (part_of ia3 (At.get0 x)) (part_of ia3 (At.get0 y)) (run_equalIn_int w 9998 3 .i64 .i64 _ _ Try.underlying3) ?_
  refine eqF_cons (by decide) (part_of ia23 (At.get1 x)) (part_of ia23 (At.get1 y)) (run_equalIn_int w 9998 23 .u32 .u32 _ _ Try.underlying23) ?_
  refine eqF_cons (by decide) (part_of ia23 (At.get2 x)) (part_of ia23 (At.get2 y)) (run_equalIn_int w 9998 23 .u32 .u32 _ _ Try.underlying23) ?_
  refine eqF_cons (by decide) (part_of ia23 (At.get3 x)) (part_of ia23 (At.get3 y)) (run_equalIn_int w 9998 23 .u32 .u32 _ _ Try.underlying23) ?_
  refine eqF_cons (by decide) (part_of ia23 (At.get4 x)) (part_of ia23 (At.get4 y)) (run_equalIn_int w 9998 23 .u32 .u32 _ _ Try.underlying23) ?_
  refine eqF_cons (by decide) (part_of ia22 (At.get5 x)) (part_of ia22 (At.get5 y)) (run_equalIn_int w 9998 22 .u64 .u64 _ _ Try.underlying22) ?_
  refine eqF_cons (by decide) (part_of ia22 (At.get6 x)) (part_of ia22 (At.get6 y)) (run_equalIn_int w 9998 22 .u64 .u64 _ _ Try.underlying22) ?_
  refine eqF_cons (by decide) (part_of ia22 (At.get7 x)) (part_of ia22 (At.get7 y)) (run_equalIn_int w 9998 22 .u64 .u64 _ _ Try.underlying22) ?_
  refine eqF_cons (by decide) (part_of ia22 (At.get8 x)) (part_of ia22 (At.get8 y)) (run_equalIn_int w 9998 22 .u64 .u64 _ _ Try.underlying22) ?_
  refine eqF_cons (by decide) (part_of ia22 (At.get9 x)) (part_of ia22 (At.get9 y)) (run_equalIn_int w 9998 22 .u64 .u64 _ _ Try.underlying22) ?_
  refine eqF_cons (by decide) (part_of ia22 (At.get10 x)) (part_of ia22 (At.get10 y)) (run_equalIn_int w 9998 22 .u64 .u64 _ _ Try.underlying22) ?_
  refine eqF_cons (by decide) (part_of ia22 (At.get11 x)) (part_of ia22 (At.get11 y)) (run_equalIn_int w 9998 22 .u64 .u64 _ _ Try.underlying22) ?_
  rfl
def eqH (x y : Ha) : Bool := ((x.f == y.f) && ((x.n == y.n) && ((x.g == y.g) && true)))
theorem eqH_same (x : Ha) : eqH x x = true := by simp [eqH]
@[go_sem ↓] theorem eq72 (x y : Ha) (w : World) : (Op.equalIn 10000 72 (.agg x.cs) (.agg y.cs)).run Try.prog w = .ok (eqH x y) w := by
  have hS : Try.prog.underlying 72 = some (.struct (Try.prog.fieldsOf 72)) := by kernel_rfl
  have hp : Try.prog.stoodInHeld 72 = false := by kernel_rfl
  rw [show (10000 : Nat) = 9999 + 1 from rfl, run_equalIn_agg w 9999 72 _ _ hS hp]
  simp only [Program.fieldsOf, Try.underlying72]
  unfold eqH
  refine eqF_cons (by decide) (part_of ia23 (Ha.get0 x)) (part_of ia23 (Ha.get0 y)) (run_equalIn_int w 9998 23 .u32 .u32 _ _ Try.underlying23) ?_
  refine eqF_cons (by decide) (part_of ia22 (Ha.get1 x)) (part_of ia22 (Ha.get1 y)) (run_equalIn_int w 9998 22 .u64 .u64 _ _ Try.underlying22) ?_
  refine eqF_cons (by decide) (part_of ia23 (Ha.get2 x)) (part_of ia23 (Ha.get2 y)) (run_equalIn_int w 9998 23 .u32 .u32 _ _ Try.underlying23) ?_
  rfl
end Go.Proofs.Ytbenailemoefhaa
