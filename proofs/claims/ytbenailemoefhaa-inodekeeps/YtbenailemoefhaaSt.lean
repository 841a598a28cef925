/-
  Structs as plain values: an inode, attributes, what is to be set, a handle; loaded and stored at once.
-/
import Derived.Test.YtbenailemoefhaaRw
namespace Go.Proofs.Ytbenailemoefhaa
open Go.RowKit
set_option linter.unusedVariables false
set_option linter.unusedSimpArgs false

/-- An operation that is wanted, whatever its guard. -/
theorem wpList_want {ops : Array Oper} {rest : List Oper} {o : Oper} {a : Act} {w : World} {Q : Exit → Act → World → Prop} (hg : Region.wanted o (yielded ops a.tmps) = true) (h : ∀ K, (∀ a w, wpList Try.prog ops Q rest a w → K a w) → o.wp Try.prog a w K Q) : wpList Try.prog ops Q (o :: rest) a w := by
  unfold wpList
  rw [if_pos hg]
  exact .inl (h _ (fun _ _ e => e))
/-- An inode: number, generation, kind, mode, links, uid, gid, size, blocks, three times, root, target. -/
structure In where
  n : Int
  g : Int
  k : Int
  m : Int
  l : Int
  u : Int
  d : Int
  s : Int
  b : Int
  ta : Int
  tm : Int
  tc : Int
  r : Int
  t : ByteArray
def In.cs (x : In) : Array Value := #[.int .u64 x.n, .int .u32 x.g, .int .i64 x.k, .int .u32 x.m, .int .u32 x.l, .int .u32 x.u, .int .u32 x.d, .int .u64 x.s, .int .u64 x.b, .int .u64 x.ta, .int .u64 x.tm, .int .u64 x.tc, .int .u64 x.r, .string x.t]
@[reducible] def In.v (x : In) : Value := .agg x.cs
def In.zero : In := ⟨0, 0, 0, 0, 0, 0, 0, 0, 0, 0, 0, 0, 0, ⟨#[]⟩⟩
@[go_sem] theorem In.fold (x0 x1 x2 x3 x4 x5 x6 x7 x8 x9 x10 x11 x12 : Int) (x13 : ByteArray) : (#[.int .u64 x0, .int .u32 x1, .int .i64 x2, .int .u32 x3, .int .u32 x4, .int .u32 x5, .int .u32 x6, .int .u64 x7, .int .u64 x8, .int .u64 x9, .int .u64 x10, .int .u64 x11, .int .u64 x12, .string x13] : Array Value) = In.cs ⟨x0, x1, x2, x3, x4, x5, x6, x7, x8, x9, x10, x11, x12, x13⟩ := rfl
@[go_sem, simp] theorem In.size (x : In) : x.cs.size = 14 := rfl
theorem In.one (x : In) : x.cs.all (·.oneCell') = true := by unfold In.cs; simp [Value.oneCell']
@[go_sem, simp] theorem In.get0 (x : In) : x.cs[0]? = some (.int .u64 x.n) := rfl
@[go_sem, simp] theorem In.set0 (x : In) (y : Int) : x.cs.setIfInBounds 0 (.int .u64 y) = In.cs { x with n := y } := rfl
@[go_sem, simp] theorem In.get1 (x : In) : x.cs[1]? = some (.int .u32 x.g) := rfl
@[go_sem, simp] theorem In.set1 (x : In) (y : Int) : x.cs.setIfInBounds 1 (.int .u32 y) = In.cs { x with g := y } := rfl
@[go_sem, simp] theorem In.get2 (x : In) : x.cs[2]? = some (.int .i64 x.k) := rfl
@[go_sem, simp] theorem In.set2 (x : In) (y : Int) : x.cs.setIfInBounds 2 (.int .i64 y) = In.cs { x with k := y } := rfl
@[go_sem, simp] theorem In.get3 (x : In) : x.cs[3]? = some (.int .u32 x.m) := rfl
@[go_sem, simp] theorem In.set3 (x : In) (y : Int) : x.cs.setIfInBounds 3 (.int .u32 y) = In.cs { x with m := y } := rfl
@[go_sem, simp] theorem In.get4 (x : In) : x.cs[4]? = some (.int .u32 x.l) := rfl
@[go_sem, simp] theorem In.set4 (x : In) (y : Int) : x.cs.setIfInBounds 4 (.int .u32 y) = In.cs { x with l := y } := rfl
@[go_sem, simp] theorem In.get5 (x : In) : x.cs[5]? = some (.int .u32 x.u) := rfl
@[go_sem, simp] theorem In.set5 (x : In) (y : Int) : x.cs.setIfInBounds 5 (.int .u32 y) = In.cs { x with u := y } := rfl
@[go_sem, simp] theorem In.get6 (x : In) : x.cs[6]? = some (.int .u32 x.d) := rfl
@[go_sem, simp] theorem In.set6 (x : In) (y : Int) : x.cs.setIfInBounds 6 (.int .u32 y) = In.cs { x with d := y } := rfl
@[go_sem, simp] theorem In.get7 (x : In) : x.cs[7]? = some (.int .u64 x.s) := rfl
@[go_sem, simp] theorem In.set7 (x : In) (y : Int) : x.cs.setIfInBounds 7 (.int .u64 y) = In.cs { x with s := y } := rfl
@[go_sem, simp] theorem In.get8 (x : In) : x.cs[8]? = some (.int .u64 x.b) := rfl
@[go_sem, simp] theorem In.set8 (x : In) (y : Int) : x.cs.setIfInBounds 8 (.int .u64 y) = In.cs { x with b := y } := rfl
@[go_sem, simp] theorem In.get9 (x : In) : x.cs[9]? = some (.int .u64 x.ta) := rfl
@[go_sem, simp] theorem In.set9 (x : In) (y : Int) : x.cs.setIfInBounds 9 (.int .u64 y) = In.cs { x with ta := y } := rfl
@[go_sem, simp] theorem In.get10 (x : In) : x.cs[10]? = some (.int .u64 x.tm) := rfl
@[go_sem, simp] theorem In.set10 (x : In) (y : Int) : x.cs.setIfInBounds 10 (.int .u64 y) = In.cs { x with tm := y } := rfl
@[go_sem, simp] theorem In.get11 (x : In) : x.cs[11]? = some (.int .u64 x.tc) := rfl
@[go_sem, simp] theorem In.set11 (x : In) (y : Int) : x.cs.setIfInBounds 11 (.int .u64 y) = In.cs { x with tc := y } := rfl
@[go_sem, simp] theorem In.get12 (x : In) : x.cs[12]? = some (.int .u64 x.r) := rfl
@[go_sem, simp] theorem In.set12 (x : In) (y : Int) : x.cs.setIfInBounds 12 (.int .u64 y) = In.cs { x with r := y } := rfl
@[go_sem, simp] theorem In.get13 (x : In) : x.cs[13]? = some (.string x.t) := rfl
@[go_sem, simp] theorem In.set13 (x : In) (y : ByteArray) : x.cs.setIfInBounds 13 (.string y) = In.cs { x with t := y } := rfl
@[go_sem] theorem In.rowN (w : World) (x : In) (t : TypeId) (n : Nat) (hn : n = w.heap.size) : rowN (w.alloc (.cells x.cs t)) n 14 = true := by unfold Ytbenailemoefhaa.rowN; rw [row?_alloc_at w _ t n hn]; rfl
@[go_sem ↓] theorem load25 (w : World) (n : Nat) (h : rowN w n 14 = true) : (loadVar 25 ⟨n, 0, none⟩).run Try.prog w = .ok (.agg (rowD w n)) w := load_row 25 14 _ Try.underlying25 (by kernel_rfl) w n (by simpa [rowN] using h)
@[go_sem ↓] theorem store25 (w : World) (n : Nat) (x : In) (h : rowN w n 14 = true) : (storeVar 25 ⟨n, 0, none⟩ (.agg x.cs)).run Try.prog w = .ok () (w.setRow n x.cs) := store_row 25 14 (by kernel_rfl) w n _ rfl x.one (by simpa [rowN] using h)
theorem wl_load25 {ops : Array Oper} {rest : List Oper} {o : Oper} {a : Act} {w : World} {Q : Exit → Act → World → Prop} (x : Operand) (ho : o.op = .load 25 x) (hg : Region.wanted o (yielded ops a.tmps) = true) (n : Nat) (hx : a.eval x = .pointer (some ⟨n, 0, none⟩)) (hr : rowN w n 14 = true) {c : Array Value} (hc : rowD w n = c) (h : wpList Try.prog ops Q rest (a.put o.dst (.agg c)) w) : wpList Try.prog ops Q (o :: rest) a w :=
  wpList_want hg fun _ hK => by
    subst hc
    unfold Oper.wp execOp
    simp only [ho, hx, Instr.loadAt, Instr.sureAddr, Sem.run_bind, Sem.run_pure, Result.andThen_ok, load25 w n hr]
    exact hK _ _ h
theorem wl_store25 {ops : Array Oper} {rest : List Oper} {o : Oper} {a : Act} {w w2 : World} {Q : Exit → Act → World → Prop} (x y : Operand) (ho : o.op = .store 25 x y) (hg : Region.wanted o (yielded ops a.tmps) = true) (n : Nat) (hx : a.eval x = .pointer (some ⟨n, 0, none⟩)) (z : In) (hy : a.eval y = .agg z.cs) (hr : rowN w n 14 = true) (hw : w.setRow n z.cs = w2) (h : wpList Try.prog ops Q rest (a.put o.dst undef) w2) : wpList Try.prog ops Q (o :: rest) a w :=
  wpList_want hg fun _ hK => by
    subst hw
    unfold Oper.wp execOp
    simp only [ho, hx, hy, Instr.storeAt, Instr.sureAddr, Sem.run_bind, Sem.run_pure, Result.andThen_ok, store25 w n z hr]
    exact hK _ _ h
/-- Attributes. -/
structure At where
  k : Int
  m : Int
  l : Int
  u : Int
  d : Int
  s : Int
  b : Int
  f : Int
  n : Int
  ta : Int
  tm : Int
  tc : Int
def At.cs (x : At) : Array Value := #[.int .i64 x.k, .int .u32 x.m, .int .u32 x.l, .int .u32 x.u, .int .u32 x.d, .int .u64 x.s, .int .u64 x.b, .int .u64 x.f, .int .u64 x.n, .int .u64 x.ta, .int .u64 x.tm, .int .u64 x.tc]
@[reducible] def At.v (x : At) : Value := .agg x.cs
def At.zero : At := ⟨0, 0, 0, 0, 0, 0, 0, 0, 0, 0, 0, 0⟩
@[go_sem] theorem At.fold (x0 x1 x2 x3 x4 x5 x6 x7 x8 x9 x10 x11 : Int) : (#[.int .i64 x0, .int .u32 x1, .int .u32 x2, .int .u32 x3, .int .u32 x4, .int .u64 x5, .int .u64 x6, .int .u64 x7, .int .u64 x8, .int .u64 x9, .int .u64 x10, .int .u64 x11] : Array Value) = At.cs ⟨x0, x1, x2, x3, x4, x5, x6, x7, x8, x9, x10, x11⟩ := rfl
@[go_sem, simp] theorem At.size (x : At) : x.cs.size = 12 := rfl
theorem At.one (x : At) : x.cs.all (·.oneCell') = true := by unfold At.cs; simp [Value.oneCell']
@[go_sem, simp] theorem At.get0 (x : At) : x.cs[0]? = some (.int .i64 x.k) := rfl
@[go_sem, simp] theorem At.set0 (x : At) (y : Int) : x.cs.setIfInBounds 0 (.int .i64 y) = At.cs { x with k := y } := rfl
@[go_sem, simp] theorem At.get1 (x : At) : x.cs[1]? = some (.int .u32 x.m) := rfl
@[go_sem, simp] theorem At.set1 (x : At) (y : Int) : x.cs.setIfInBounds 1 (.int .u32 y) = At.cs { x with m := y } := rfl
@[go_sem, simp] theorem At.get2 (x : At) : x.cs[2]? = some (.int .u32 x.l) := rfl
@[go_sem, simp] theorem At.set2 (x : At) (y : Int) : x.cs.setIfInBounds 2 (.int .u32 y) = At.cs { x with l := y } := rfl
@[go_sem, simp] theorem At.get3 (x : At) : x.cs[3]? = some (.int .u32 x.u) := rfl
@[go_sem, simp] theorem At.set3 (x : At) (y : Int) : x.cs.setIfInBounds 3 (.int .u32 y) = At.cs { x with u := y } := rfl
@[go_sem, simp] theorem At.get4 (x : At) : x.cs[4]? = some (.int .u32 x.d) := rfl
@[go_sem, simp] theorem At.set4 (x : At) (y : Int) : x.cs.setIfInBounds 4 (.int .u32 y) = At.cs { x with d := y } := rfl
@[go_sem, simp] theorem At.get5 (x : At) : x.cs[5]? = some (.int .u64 x.s) := rfl
@[go_sem, simp] theorem At.set5 (x : At) (y : Int) : x.cs.setIfInBounds 5 (.int .u64 y) = At.cs { x with s := y } := rfl
@[go_sem, simp] theorem At.get6 (x : At) : x.cs[6]? = some (.int .u64 x.b) := rfl
@[go_sem, simp] theorem At.set6 (x : At) (y : Int) : x.cs.setIfInBounds 6 (.int .u64 y) = At.cs { x with b := y } := rfl
@[go_sem, simp] theorem At.get7 (x : At) : x.cs[7]? = some (.int .u64 x.f) := rfl
@[go_sem, simp] theorem At.set7 (x : At) (y : Int) : x.cs.setIfInBounds 7 (.int .u64 y) = At.cs { x with f := y } := rfl
@[go_sem, simp] theorem At.get8 (x : At) : x.cs[8]? = some (.int .u64 x.n) := rfl
@[go_sem, simp] theorem At.set8 (x : At) (y : Int) : x.cs.setIfInBounds 8 (.int .u64 y) = At.cs { x with n := y } := rfl
@[go_sem, simp] theorem At.get9 (x : At) : x.cs[9]? = some (.int .u64 x.ta) := rfl
@[go_sem, simp] theorem At.set9 (x : At) (y : Int) : x.cs.setIfInBounds 9 (.int .u64 y) = At.cs { x with ta := y } := rfl
@[go_sem, simp] theorem At.get10 (x : At) : x.cs[10]? = some (.int .u64 x.tm) := rfl
@[go_sem, simp] theorem At.set10 (x : At) (y : Int) : x.cs.setIfInBounds 10 (.int .u64 y) = At.cs { x with tm := y } := rfl
@[go_sem, simp] theorem At.get11 (x : At) : x.cs[11]? = some (.int .u64 x.tc) := rfl
@[go_sem, simp] theorem At.set11 (x : At) (y : Int) : x.cs.setIfInBounds 11 (.int .u64 y) = At.cs { x with tc := y } := rfl
@[go_sem] theorem At.rowN (w : World) (x : At) (t : TypeId) (n : Nat) (hn : n = w.heap.size) : rowN (w.alloc (.cells x.cs t)) n 12 = true := by unfold Ytbenailemoefhaa.rowN; rw [row?_alloc_at w _ t n hn]; rfl
@[go_sem ↓] theorem load45 (w : World) (n : Nat) (h : rowN w n 12 = true) : (loadVar 45 ⟨n, 0, none⟩).run Try.prog w = .ok (.agg (rowD w n)) w := load_row 45 12 _ Try.underlying45 (by kernel_rfl) w n (by simpa [rowN] using h)
@[go_sem ↓] theorem store45 (w : World) (n : Nat) (x : At) (h : rowN w n 12 = true) : (storeVar 45 ⟨n, 0, none⟩ (.agg x.cs)).run Try.prog w = .ok () (w.setRow n x.cs) := store_row 45 12 (by kernel_rfl) w n _ rfl x.one (by simpa [rowN] using h)
theorem wl_load45 {ops : Array Oper} {rest : List Oper} {o : Oper} {a : Act} {w : World} {Q : Exit → Act → World → Prop} (x : Operand) (ho : o.op = .load 45 x) (hg : Region.wanted o (yielded ops a.tmps) = true) (n : Nat) (hx : a.eval x = .pointer (some ⟨n, 0, none⟩)) (hr : rowN w n 12 = true) {c : Array Value} (hc : rowD w n = c) (h : wpList Try.prog ops Q rest (a.put o.dst (.agg c)) w) : wpList Try.prog ops Q (o :: rest) a w :=
  wpList_want hg fun _ hK => by
    subst hc
    unfold Oper.wp execOp
    simp only [ho, hx, Instr.loadAt, Instr.sureAddr, Sem.run_bind, Sem.run_pure, Result.andThen_ok, load45 w n hr]
    exact hK _ _ h
theorem wl_store45 {ops : Array Oper} {rest : List Oper} {o : Oper} {a : Act} {w w2 : World} {Q : Exit → Act → World → Prop} (x y : Operand) (ho : o.op = .store 45 x y) (hg : Region.wanted o (yielded ops a.tmps) = true) (n : Nat) (hx : a.eval x = .pointer (some ⟨n, 0, none⟩)) (z : At) (hy : a.eval y = .agg z.cs) (hr : rowN w n 12 = true) (hw : w.setRow n z.cs = w2) (h : wpList Try.prog ops Q rest (a.put o.dst undef) w2) : wpList Try.prog ops Q (o :: rest) a w :=
  wpList_want hg fun _ hK => by
    subst hw
    unfold Oper.wp execOp
    simp only [ho, hx, hy, Instr.storeAt, Instr.sureAddr, Sem.run_bind, Sem.run_pure, Result.andThen_ok, store45 w n z hr]
    exact hK _ _ h
/-- What is to be set. -/
structure Sa where
  h : Int
  m : Int
  u : Int
  d : Int
  s : Int
  ta : Int
  tm : Int
def Sa.cs (x : Sa) : Array Value := #[.int .i64 x.h, .int .u32 x.m, .int .u32 x.u, .int .u32 x.d, .int .u64 x.s, .int .u64 x.ta, .int .u64 x.tm]
@[reducible] def Sa.v (x : Sa) : Value := .agg x.cs
def Sa.zero : Sa := ⟨0, 0, 0, 0, 0, 0, 0⟩
@[go_sem] theorem Sa.fold (x0 x1 x2 x3 x4 x5 x6 : Int) : (#[.int .i64 x0, .int .u32 x1, .int .u32 x2, .int .u32 x3, .int .u64 x4, .int .u64 x5, .int .u64 x6] : Array Value) = Sa.cs ⟨x0, x1, x2, x3, x4, x5, x6⟩ := rfl
@[go_sem, simp] theorem Sa.size (x : Sa) : x.cs.size = 7 := rfl
theorem Sa.one (x : Sa) : x.cs.all (·.oneCell') = true := by unfold Sa.cs; simp [Value.oneCell']
@[go_sem, simp] theorem Sa.get0 (x : Sa) : x.cs[0]? = some (.int .i64 x.h) := rfl
@[go_sem, simp] theorem Sa.set0 (x : Sa) (y : Int) : x.cs.setIfInBounds 0 (.int .i64 y) = Sa.cs { x with h := y } := rfl
@[go_sem, simp] theorem Sa.get1 (x : Sa) : x.cs[1]? = some (.int .u32 x.m) := rfl
@[go_sem, simp] theorem Sa.set1 (x : Sa) (y : Int) : x.cs.setIfInBounds 1 (.int .u32 y) = Sa.cs { x with m := y } := rfl
@[go_sem, simp] theorem Sa.get2 (x : Sa) : x.cs[2]? = some (.int .u32 x.u) := rfl
@[go_sem, simp] theorem Sa.set2 (x : Sa) (y : Int) : x.cs.setIfInBounds 2 (.int .u32 y) = Sa.cs { x with u := y } := rfl
@[go_sem, simp] theorem Sa.get3 (x : Sa) : x.cs[3]? = some (.int .u32 x.d) := rfl
@[go_sem, simp] theorem Sa.set3 (x : Sa) (y : Int) : x.cs.setIfInBounds 3 (.int .u32 y) = Sa.cs { x with d := y } := rfl
@[go_sem, simp] theorem Sa.get4 (x : Sa) : x.cs[4]? = some (.int .u64 x.s) := rfl
@[go_sem, simp] theorem Sa.set4 (x : Sa) (y : Int) : x.cs.setIfInBounds 4 (.int .u64 y) = Sa.cs { x with s := y } := rfl
@[go_sem, simp] theorem Sa.get5 (x : Sa) : x.cs[5]? = some (.int .u64 x.ta) := rfl
@[go_sem, simp] theorem Sa.set5 (x : Sa) (y : Int) : x.cs.setIfInBounds 5 (.int .u64 y) = Sa.cs { x with ta := y } := rfl
@[go_sem, simp] theorem Sa.get6 (x : Sa) : x.cs[6]? = some (.int .u64 x.tm) := rfl
@[go_sem, simp] theorem Sa.set6 (x : Sa) (y : Int) : x.cs.setIfInBounds 6 (.int .u64 y) = Sa.cs { x with tm := y } := rfl
@[go_sem] theorem Sa.rowN (w : World) (x : Sa) (t : TypeId) (n : Nat) (hn : n = w.heap.size) : rowN (w.alloc (.cells x.cs t)) n 7 = true := by unfold Ytbenailemoefhaa.rowN; rw [row?_alloc_at w _ t n hn]; rfl
@[go_sem ↓] theorem load52 (w : World) (n : Nat) (h : rowN w n 7 = true) : (loadVar 52 ⟨n, 0, none⟩).run Try.prog w = .ok (.agg (rowD w n)) w := load_row 52 7 _ Try.underlying52 (by kernel_rfl) w n (by simpa [rowN] using h)
@[go_sem ↓] theorem store52 (w : World) (n : Nat) (x : Sa) (h : rowN w n 7 = true) : (storeVar 52 ⟨n, 0, none⟩ (.agg x.cs)).run Try.prog w = .ok () (w.setRow n x.cs) := store_row 52 7 (by kernel_rfl) w n _ rfl x.one (by simpa [rowN] using h)
theorem wl_load52 {ops : Array Oper} {rest : List Oper} {o : Oper} {a : Act} {w : World} {Q : Exit → Act → World → Prop} (x : Operand) (ho : o.op = .load 52 x) (hg : Region.wanted o (yielded ops a.tmps) = true) (n : Nat) (hx : a.eval x = .pointer (some ⟨n, 0, none⟩)) (hr : rowN w n 7 = true) {c : Array Value} (hc : rowD w n = c) (h : wpList Try.prog ops Q rest (a.put o.dst (.agg c)) w) : wpList Try.prog ops Q (o :: rest) a w :=
  wpList_want hg fun _ hK => by
    subst hc
    unfold Oper.wp execOp
    simp only [ho, hx, Instr.loadAt, Instr.sureAddr, Sem.run_bind, Sem.run_pure, Result.andThen_ok, load52 w n hr]
    exact hK _ _ h
theorem wl_store52 {ops : Array Oper} {rest : List Oper} {o : Oper} {a : Act} {w w2 : World} {Q : Exit → Act → World → Prop} (x y : Operand) (ho : o.op = .store 52 x y) (hg : Region.wanted o (yielded ops a.tmps) = true) (n : Nat) (hx : a.eval x = .pointer (some ⟨n, 0, none⟩)) (z : Sa) (hy : a.eval y = .agg z.cs) (hr : rowN w n 7 = true) (hw : w.setRow n z.cs = w2) (h : wpList Try.prog ops Q rest (a.put o.dst undef) w2) : wpList Try.prog ops Q (o :: rest) a w :=
  wpList_want hg fun _ hK => by
    subst hw
    unfold Oper.wp execOp
    simp only [ho, hx, hy, Instr.storeAt, Instr.sureAddr, Sem.run_bind, Sem.run_pure, Result.andThen_ok, store52 w n z hr]
    exact hK _ _ h
/-- A handle: file system, number, generation. -/
structure Ha where
  f : Int
  n : Int
  g : Int
def Ha.cs (x : Ha) : Array Value := #[.int .u32 x.f, .int .u64 x.n, .int .u32 x.g]
@[reducible] def Ha.v (x : Ha) : Value := .agg x.cs
def Ha.zero : Ha := ⟨0, 0, 0⟩
@[go_sem] theorem Ha.fold (x0 x1 x2 : Int) : (#[.int .u32 x0, .int .u64 x1, .int .u32 x2] : Array Value) = Ha.cs ⟨x0, x1, x2⟩ := rfl
@[go_sem, simp] theorem Ha.size (x : Ha) : x.cs.size = 3 := rfl
theorem Ha.one (x : Ha) : x.cs.all (·.oneCell') = true := by unfold Ha.cs; simp [Value.oneCell']
@[go_sem, simp] theorem Ha.get0 (x : Ha) : x.cs[0]? = some (.int .u32 x.f) := rfl
@[go_sem, simp] theorem Ha.set0 (x : Ha) (y : Int) : x.cs.setIfInBounds 0 (.int .u32 y) = Ha.cs { x with f := y } := rfl
@[go_sem, simp] theorem Ha.get1 (x : Ha) : x.cs[1]? = some (.int .u64 x.n) := rfl
@[go_sem, simp] theorem Ha.set1 (x : Ha) (y : Int) : x.cs.setIfInBounds 1 (.int .u64 y) = Ha.cs { x with n := y } := rfl
@[go_sem, simp] theorem Ha.get2 (x : Ha) : x.cs[2]? = some (.int .u32 x.g) := rfl
@[go_sem, simp] theorem Ha.set2 (x : Ha) (y : Int) : x.cs.setIfInBounds 2 (.int .u32 y) = Ha.cs { x with g := y } := rfl
@[go_sem] theorem Ha.rowN (w : World) (x : Ha) (t : TypeId) (n : Nat) (hn : n = w.heap.size) : rowN (w.alloc (.cells x.cs t)) n 3 = true := by unfold Ytbenailemoefhaa.rowN; rw [row?_alloc_at w _ t n hn]; rfl
@[go_sem ↓] theorem load72 (w : World) (n : Nat) (h : rowN w n 3 = true) : (loadVar 72 ⟨n, 0, none⟩).run Try.prog w = .ok (.agg (rowD w n)) w := load_row 72 3 _ Try.underlying72 (by kernel_rfl) w n (by simpa [rowN] using h)
@[go_sem ↓] theorem store72 (w : World) (n : Nat) (x : Ha) (h : rowN w n 3 = true) : (storeVar 72 ⟨n, 0, none⟩ (.agg x.cs)).run Try.prog w = .ok () (w.setRow n x.cs) := store_row 72 3 (by kernel_rfl) w n _ rfl x.one (by simpa [rowN] using h)
theorem wl_load72 {ops : Array Oper} {rest : List Oper} {o : Oper} {a : Act} {w : World} {Q : Exit → Act → World → Prop} (x : Operand) (ho : o.op = .load 72 x) (hg : Region.wanted o (yielded ops a.tmps) = true) (n : Nat) (hx : a.eval x = .pointer (some ⟨n, 0, none⟩)) (hr : rowN w n 3 = true) {c : Array Value} (hc : rowD w n = c) (h : wpList Try.prog ops Q rest (a.put o.dst (.agg c)) w) : wpList Try.prog ops Q (o :: rest) a w :=
  wpList_want hg fun _ hK => by
    subst hc
    unfold Oper.wp execOp
    simp only [ho, hx, Instr.loadAt, Instr.sureAddr, Sem.run_bind, Sem.run_pure, Result.andThen_ok, load72 w n hr]
    exact hK _ _ h
theorem wl_store72 {ops : Array Oper} {rest : List Oper} {o : Oper} {a : Act} {w w2 : World} {Q : Exit → Act → World → Prop} (x y : Operand) (ho : o.op = .store 72 x y) (hg : Region.wanted o (yielded ops a.tmps) = true) (n : Nat) (hx : a.eval x = .pointer (some ⟨n, 0, none⟩)) (z : Ha) (hy : a.eval y = .agg z.cs) (hr : rowN w n 3 = true) (hw : w.setRow n z.cs = w2) (h : wpList Try.prog ops Q rest (a.put o.dst undef) w2) : wpList Try.prog ops Q (o :: rest) a w :=
  wpList_want hg fun _ hK => by
    subst hw
    unfold Oper.wp execOp
    simp only [ho, hx, hy, Instr.storeAt, Instr.sureAddr, Sem.run_bind, Sem.run_pure, Result.andThen_ok, store72 w n z hr]
    exact hK _ _ h
theorem wl_store25L {ops : Array Oper} {rest : List Oper} {o : Oper} {a : Act} {w w2 : World} {Q : Exit → Act → World → Prop} {x0 x1 x2 x3 x4 x5 x6 x7 x8 x9 x10 x11 x12 : Int} {x13 : ByteArray} (x y : Operand) (ho : o.op = .store 25 x y) (hg : Region.wanted o (yielded ops a.tmps) = true) (n : Nat) (hx : a.eval x = .pointer (some ⟨n, 0, none⟩)) (hy : a.eval y = .agg #[.int .u64 x0, .int .u32 x1, .int .i64 x2, .int .u32 x3, .int .u32 x4, .int .u32 x5, .int .u32 x6, .int .u64 x7, .int .u64 x8, .int .u64 x9, .int .u64 x10, .int .u64 x11, .int .u64 x12, .string x13]) (hr : rowN w n 14 = true) (hw : w.setRow n (In.cs ⟨x0, x1, x2, x3, x4, x5, x6, x7, x8, x9, x10, x11, x12, x13⟩) = w2) (h : wpList Try.prog ops Q rest (a.put o.dst undef) w2) : wpList Try.prog ops Q (o :: rest) a w := wl_store25 x y ho hg n hx ⟨x0, x1, x2, x3, x4, x5, x6, x7, x8, x9, x10, x11, x12, x13⟩ hy hr hw h
theorem wl_store45L {ops : Array Oper} {rest : List Oper} {o : Oper} {a : Act} {w w2 : World} {Q : Exit → Act → World → Prop} {x0 x1 x2 x3 x4 x5 x6 x7 x8 x9 x10 x11 : Int} (x y : Operand) (ho : o.op = .store 45 x y) (hg : Region.wanted o (yielded ops a.tmps) = true) (n : Nat) (hx : a.eval x = .pointer (some ⟨n, 0, none⟩)) (hy : a.eval y = .agg #[.int .i64 x0, .int .u32 x1, .int .u32 x2, .int .u32 x3, .int .u32 x4, .int .u64 x5, .int .u64 x6, .int .u64 x7, .int .u64 x8, .int .u64 x9, .int .u64 x10, .int .u64 x11]) (hr : rowN w n 12 = true) (hw : w.setRow n (At.cs ⟨x0, x1, x2, x3, x4, x5, x6, x7, x8, x9, x10, x11⟩) = w2) (h : wpList Try.prog ops Q rest (a.put o.dst undef) w2) : wpList Try.prog ops Q (o :: rest) a w := wl_store45 x y ho hg n hx ⟨x0, x1, x2, x3, x4, x5, x6, x7, x8, x9, x10, x11⟩ hy hr hw h
theorem wl_store52L {ops : Array Oper} {rest : List Oper} {o : Oper} {a : Act} {w w2 : World} {Q : Exit → Act → World → Prop} {x0 x1 x2 x3 x4 x5 x6 : Int} (x y : Operand) (ho : o.op = .store 52 x y) (hg : Region.wanted o (yielded ops a.tmps) = true) (n : Nat) (hx : a.eval x = .pointer (some ⟨n, 0, none⟩)) (hy : a.eval y = .agg #[.int .i64 x0, .int .u32 x1, .int .u32 x2, .int .u32 x3, .int .u64 x4, .int .u64 x5, .int .u64 x6]) (hr : rowN w n 7 = true) (hw : w.setRow n (Sa.cs ⟨x0, x1, x2, x3, x4, x5, x6⟩) = w2) (h : wpList Try.prog ops Q rest (a.put o.dst undef) w2) : wpList Try.prog ops Q (o :: rest) a w := wl_store52 x y ho hg n hx ⟨x0, x1, x2, x3, x4, x5, x6⟩ hy hr hw h
theorem wl_store72L {ops : Array Oper} {rest : List Oper} {o : Oper} {a : Act} {w w2 : World} {Q : Exit → Act → World → Prop} {x0 x1 x2 : Int} (x y : Operand) (ho : o.op = .store 72 x y) (hg : Region.wanted o (yielded ops a.tmps) = true) (n : Nat) (hx : a.eval x = .pointer (some ⟨n, 0, none⟩)) (hy : a.eval y = .agg #[.int .u32 x0, .int .u64 x1, .int .u32 x2]) (hr : rowN w n 3 = true) (hw : w.setRow n (Ha.cs ⟨x0, x1, x2⟩) = w2) (h : wpList Try.prog ops Q rest (a.put o.dst undef) w2) : wpList Try.prog ops Q (o :: rest) a w := wl_store72 x y ho hg n hx ⟨x0, x1, x2⟩ hy hr hw h
theorem bzero25 : Try.prog.built 25 [] = some (In.zero.cs) := by kernel_rfl
theorem wl_zero25 {ops : Array Oper} {rest : List Oper} {o : Oper} {a : Act} {w : World} {Q : Exit → Act → World → Prop} (hg : o.guard = none) (ho : o.op = .build 25 #[])  (h : wpList Try.prog ops Q rest (a.put o.dst (.agg (In.zero.cs))) w) : wpList Try.prog ops Q (o :: rest) a w := by
  have hb : Try.prog.built 25 (#[].map fun (i, x) => (i, a.eval x) : Array (Nat × Value)).toList = some (In.zero.cs) := by
    simp only [List.map_toArray, List.map_cons, List.map_nil]
    exact bzero25
  exact wpList_build hg 25 _ ho (by rw [hb]; rfl) (by rw [hb]; exact h)
theorem bnew25 (n g k m l u d ta tm tc : Int) : Try.prog.built 25 [(0, .int .u64 n), (1, .int .u32 g), (2, .int .i64 k), (3, .int .u32 m), (4, .int .u32 l), (5, .int .u32 u), (6, .int .u32 d), (9, .int .u64 ta), (10, .int .u64 tm), (11, .int .u64 tc)] = some (In.cs ⟨n, g, k, m, l, u, d, 0, 0, ta, tm, tc, 0, ⟨#[]⟩⟩) := by kernel_rfl
theorem wl_new25 {ops : Array Oper} {rest : List Oper} {o : Oper} {a : Act} {w : World} {Q : Exit → Act → World → Prop} {p0 p1 p2 p3 p4 p5 p6 p7 p8 p9 : Operand} {n g k m l u d ta tm tc : Int} (hg : o.guard = none) (ho : o.op = .build 25 #[(0, p0), (1, p1), (2, p2), (3, p3), (4, p4), (5, p5), (6, p6), (9, p7), (10, p8), (11, p9)]) (h0 : a.eval p0 = .int .u64 n) (h1 : a.eval p1 = .int .u32 g) (h2 : a.eval p2 = .int .i64 k) (h3 : a.eval p3 = .int .u32 m) (h4 : a.eval p4 = .int .u32 l) (h5 : a.eval p5 = .int .u32 u) (h6 : a.eval p6 = .int .u32 d) (h7 : a.eval p7 = .int .u64 ta) (h8 : a.eval p8 = .int .u64 tm) (h9 : a.eval p9 = .int .u64 tc) (h : wpList Try.prog ops Q rest (a.put o.dst (.agg (In.cs ⟨n, g, k, m, l, u, d, 0, 0, ta, tm, tc, 0, ⟨#[]⟩⟩))) w) : wpList Try.prog ops Q (o :: rest) a w := by
  have hb : Try.prog.built 25 (#[(0, p0), (1, p1), (2, p2), (3, p3), (4, p4), (5, p5), (6, p6), (9, p7), (10, p8), (11, p9)].map fun (i, x) => (i, a.eval x) : Array (Nat × Value)).toList = some (In.cs ⟨n, g, k, m, l, u, d, 0, 0, ta, tm, tc, 0, ⟨#[]⟩⟩) := by
    simp only [List.map_toArray, List.map_cons, List.map_nil, h0, h1, h2, h3, h4, h5, h6, h7, h8, h9]
    exact bnew25 n g k m l u d ta tm tc
  exact wpList_build hg 25 _ ho (by rw [hb]; rfl) (by rw [hb]; exact h)
theorem bzero45 : Try.prog.built 45 [] = some (At.zero.cs) := by kernel_rfl
theorem wl_zero45 {ops : Array Oper} {rest : List Oper} {o : Oper} {a : Act} {w : World} {Q : Exit → Act → World → Prop} (hg : o.guard = none) (ho : o.op = .build 45 #[])  (h : wpList Try.prog ops Q rest (a.put o.dst (.agg (At.zero.cs))) w) : wpList Try.prog ops Q (o :: rest) a w := by
  have hb : Try.prog.built 45 (#[].map fun (i, x) => (i, a.eval x) : Array (Nat × Value)).toList = some (At.zero.cs) := by
    simp only [List.map_toArray, List.map_cons, List.map_nil]
    exact bzero45
  exact wpList_build hg 45 _ ho (by rw [hb]; rfl) (by rw [hb]; exact h)
theorem bat45 (k m l u d s b f n ta tm tc : Int) : Try.prog.built 45 [(0, .int .i64 k), (1, .int .u32 m), (2, .int .u32 l), (3, .int .u32 u), (4, .int .u32 d), (5, .int .u64 s), (6, .int .u64 b), (7, .int .u64 f), (8, .int .u64 n), (9, .int .u64 ta), (10, .int .u64 tm), (11, .int .u64 tc)] = some (At.cs ⟨k, m, l, u, d, s, b, f, n, ta, tm, tc⟩) := by kernel_rfl
theorem wl_at45 {ops : Array Oper} {rest : List Oper} {o : Oper} {a : Act} {w : World} {Q : Exit → Act → World → Prop} {p0 p1 p2 p3 p4 p5 p6 p7 p8 p9 p10 p11 : Operand} {k m l u d s b f n ta tm tc : Int} (hg : o.guard = none) (ho : o.op = .build 45 #[(0, p0), (1, p1), (2, p2), (3, p3), (4, p4), (5, p5), (6, p6), (7, p7), (8, p8), (9, p9), (10, p10), (11, p11)]) (h0 : a.eval p0 = .int .i64 k) (h1 : a.eval p1 = .int .u32 m) (h2 : a.eval p2 = .int .u32 l) (h3 : a.eval p3 = .int .u32 u) (h4 : a.eval p4 = .int .u32 d) (h5 : a.eval p5 = .int .u64 s) (h6 : a.eval p6 = .int .u64 b) (h7 : a.eval p7 = .int .u64 f) (h8 : a.eval p8 = .int .u64 n) (h9 : a.eval p9 = .int .u64 ta) (h10 : a.eval p10 = .int .u64 tm) (h11 : a.eval p11 = .int .u64 tc) (h : wpList Try.prog ops Q rest (a.put o.dst (.agg (At.cs ⟨k, m, l, u, d, s, b, f, n, ta, tm, tc⟩))) w) : wpList Try.prog ops Q (o :: rest) a w := by
  have hb : Try.prog.built 45 (#[(0, p0), (1, p1), (2, p2), (3, p3), (4, p4), (5, p5), (6, p6), (7, p7), (8, p8), (9, p9), (10, p10), (11, p11)].map fun (i, x) => (i, a.eval x) : Array (Nat × Value)).toList = some (At.cs ⟨k, m, l, u, d, s, b, f, n, ta, tm, tc⟩) := by
    simp only [List.map_toArray, List.map_cons, List.map_nil, h0, h1, h2, h3, h4, h5, h6, h7, h8, h9, h10, h11]
    exact bat45 k m l u d s b f n ta tm tc
  exact wpList_build hg 45 _ ho (by rw [hb]; rfl) (by rw [hb]; exact h)
theorem bzero72 : Try.prog.built 72 [] = some (Ha.zero.cs) := by kernel_rfl
theorem wl_zero72 {ops : Array Oper} {rest : List Oper} {o : Oper} {a : Act} {w : World} {Q : Exit → Act → World → Prop} (hg : o.guard = none) (ho : o.op = .build 72 #[])  (h : wpList Try.prog ops Q rest (a.put o.dst (.agg (Ha.zero.cs))) w) : wpList Try.prog ops Q (o :: rest) a w := by
  have hb : Try.prog.built 72 (#[].map fun (i, x) => (i, a.eval x) : Array (Nat × Value)).toList = some (Ha.zero.cs) := by
    simp only [List.map_toArray, List.map_cons, List.map_nil]
    exact bzero72
  exact wpList_build hg 72 _ ho (by rw [hb]; rfl) (by rw [hb]; exact h)
theorem bha72 (f n g : Int) : Try.prog.built 72 [(0, .int .u32 f), (1, .int .u64 n), (2, .int .u32 g)] = some (Ha.cs ⟨f, n, g⟩) := by kernel_rfl
theorem wl_ha72 {ops : Array Oper} {rest : List Oper} {o : Oper} {a : Act} {w : World} {Q : Exit → Act → World → Prop} {p0 p1 p2 : Operand} {f n g : Int} (hg : o.guard = none) (ho : o.op = .build 72 #[(0, p0), (1, p1), (2, p2)]) (h0 : a.eval p0 = .int .u32 f) (h1 : a.eval p1 = .int .u64 n) (h2 : a.eval p2 = .int .u32 g) (h : wpList Try.prog ops Q rest (a.put o.dst (.agg (Ha.cs ⟨f, n, g⟩))) w) : wpList Try.prog ops Q (o :: rest) a w := by
  have hb : Try.prog.built 72 (#[(0, p0), (1, p1), (2, p2)].map fun (i, x) => (i, a.eval x) : Array (Nat × Value)).toList = some (Ha.cs ⟨f, n, g⟩) := by
    simp only [List.map_toArray, List.map_cons, List.map_nil, h0, h1, h2]
    exact bha72 f n g
  exact wpList_build hg 72 _ ho (by rw [hb]; rfl) (by rw [hb]; exact h)
theorem ret_c {fn : Func} {p : Tmp} {ty : TypeId} {R : Ending → World → Prop} {a : Act} {w : World} {n : Nat} {v : Value} (h : fn.results = #[.cell p ty]) (hp : a.tmps.getD p undef = .pointer (some ⟨n, 0, none⟩)) (hd : a.defers = []) (hl : (loadVar ty ⟨n, 0, none⟩).run Try.prog w = .ok v w) (hR : R (.returned v) w) : bodyPost Try.prog fn R .ret a w := by
  refine bodyPost_ret_by ?_ hd hR
  rw [Array.getD_eq_getD_getElem?] at hp
  simp [results, h, hp, asAddr, hl]
theorem ret_ce {fn : Func} {p u : Tmp} {ty : TypeId} {R : Ending → World → Prop} {a : Act} {w : World} {n : Nat} {v : Value} (h : fn.results = #[.cell p ty, .tmp u]) (hp : a.tmps.getD p undef = .pointer (some ⟨n, 0, none⟩)) (hd : a.defers = []) (hl : (loadVar ty ⟨n, 0, none⟩).run Try.prog w = .ok v w) (hR : R (.returned (.tuple #[v, a.tmps.getD u undef])) w) : bodyPost Try.prog fn R .ret a w := by
  refine bodyPost_ret_by ?_ hd hR
  rw [Array.getD_eq_getD_getElem?] at hp
  simp [results, h, hp, asAddr, hl]
theorem ret_cee {fn : Func} {p u u2 : Tmp} {ty : TypeId} {R : Ending → World → Prop} {a : Act} {w : World} {n : Nat} {v : Value} (h : fn.results = #[.cell p ty, .tmp u, .tmp u2]) (hp : a.tmps.getD p undef = .pointer (some ⟨n, 0, none⟩)) (hd : a.defers = []) (hl : (loadVar ty ⟨n, 0, none⟩).run Try.prog w = .ok v w) (hR : R (.returned (.tuple #[v, a.tmps.getD u undef, a.tmps.getD u2 undef])) w) : bodyPost Try.prog fn R .ret a w := by
  refine bodyPost_ret_by ?_ hd hR
  rw [Array.getD_eq_getD_getElem?] at hp
  simp [results, h, hp, asAddr, hl]
theorem r25 {fn : Func} {p : Tmp} {R : Ending → World → Prop} {a : Act} {w : World} {n : Nat} {c : Array Value} (h : fn.results = #[.cell p 25]) (hp : a.tmps.getD p undef = .pointer (some ⟨n, 0, none⟩)) (hd : a.defers = []) (hr : rowN w n 14 = true) (hc : rowD w n = c) (hR : R (.returned (.agg c)) w) : bodyPost Try.prog fn R .ret a w := ret_c h hp hd (load25 w n hr) (by rw [hc]; exact hR)
theorem re25 {fn : Func} {p u : Tmp} {R : Ending → World → Prop} {a : Act} {w : World} {n : Nat} {c : Array Value} (h : fn.results = #[.cell p 25, .tmp u]) (hp : a.tmps.getD p undef = .pointer (some ⟨n, 0, none⟩)) (hd : a.defers = []) (hr : rowN w n 14 = true) (hc : rowD w n = c) (hR : R (.returned (.tuple #[.agg c, a.tmps.getD u undef])) w) : bodyPost Try.prog fn R .ret a w := ret_ce h hp hd (load25 w n hr) (by rw [hc]; exact hR)
theorem ree25 {fn : Func} {p u u2 : Tmp} {R : Ending → World → Prop} {a : Act} {w : World} {n : Nat} {c : Array Value} (h : fn.results = #[.cell p 25, .tmp u, .tmp u2]) (hp : a.tmps.getD p undef = .pointer (some ⟨n, 0, none⟩)) (hd : a.defers = []) (hr : rowN w n 14 = true) (hc : rowD w n = c) (hR : R (.returned (.tuple #[.agg c, a.tmps.getD u undef, a.tmps.getD u2 undef])) w) : bodyPost Try.prog fn R .ret a w := ret_cee h hp hd (load25 w n hr) (by rw [hc]; exact hR)
theorem r45 {fn : Func} {p : Tmp} {R : Ending → World → Prop} {a : Act} {w : World} {n : Nat} {c : Array Value} (h : fn.results = #[.cell p 45]) (hp : a.tmps.getD p undef = .pointer (some ⟨n, 0, none⟩)) (hd : a.defers = []) (hr : rowN w n 12 = true) (hc : rowD w n = c) (hR : R (.returned (.agg c)) w) : bodyPost Try.prog fn R .ret a w := ret_c h hp hd (load45 w n hr) (by rw [hc]; exact hR)
theorem re45 {fn : Func} {p u : Tmp} {R : Ending → World → Prop} {a : Act} {w : World} {n : Nat} {c : Array Value} (h : fn.results = #[.cell p 45, .tmp u]) (hp : a.tmps.getD p undef = .pointer (some ⟨n, 0, none⟩)) (hd : a.defers = []) (hr : rowN w n 12 = true) (hc : rowD w n = c) (hR : R (.returned (.tuple #[.agg c, a.tmps.getD u undef])) w) : bodyPost Try.prog fn R .ret a w := ret_ce h hp hd (load45 w n hr) (by rw [hc]; exact hR)
theorem ree45 {fn : Func} {p u u2 : Tmp} {R : Ending → World → Prop} {a : Act} {w : World} {n : Nat} {c : Array Value} (h : fn.results = #[.cell p 45, .tmp u, .tmp u2]) (hp : a.tmps.getD p undef = .pointer (some ⟨n, 0, none⟩)) (hd : a.defers = []) (hr : rowN w n 12 = true) (hc : rowD w n = c) (hR : R (.returned (.tuple #[.agg c, a.tmps.getD u undef, a.tmps.getD u2 undef])) w) : bodyPost Try.prog fn R .ret a w := ret_cee h hp hd (load45 w n hr) (by rw [hc]; exact hR)
theorem r72 {fn : Func} {p : Tmp} {R : Ending → World → Prop} {a : Act} {w : World} {n : Nat} {c : Array Value} (h : fn.results = #[.cell p 72]) (hp : a.tmps.getD p undef = .pointer (some ⟨n, 0, none⟩)) (hd : a.defers = []) (hr : rowN w n 3 = true) (hc : rowD w n = c) (hR : R (.returned (.agg c)) w) : bodyPost Try.prog fn R .ret a w := ret_c h hp hd (load72 w n hr) (by rw [hc]; exact hR)
theorem re72 {fn : Func} {p u : Tmp} {R : Ending → World → Prop} {a : Act} {w : World} {n : Nat} {c : Array Value} (h : fn.results = #[.cell p 72, .tmp u]) (hp : a.tmps.getD p undef = .pointer (some ⟨n, 0, none⟩)) (hd : a.defers = []) (hr : rowN w n 3 = true) (hc : rowD w n = c) (hR : R (.returned (.tuple #[.agg c, a.tmps.getD u undef])) w) : bodyPost Try.prog fn R .ret a w := ret_ce h hp hd (load72 w n hr) (by rw [hc]; exact hR)
theorem ree72 {fn : Func} {p u u2 : Tmp} {R : Ending → World → Prop} {a : Act} {w : World} {n : Nat} {c : Array Value} (h : fn.results = #[.cell p 72, .tmp u, .tmp u2]) (hp : a.tmps.getD p undef = .pointer (some ⟨n, 0, none⟩)) (hd : a.defers = []) (hr : rowN w n 3 = true) (hc : rowD w n = c) (hR : R (.returned (.tuple #[.agg c, a.tmps.getD u undef, a.tmps.getD u2 undef])) w) : bodyPost Try.prog fn R .ret a w := ret_cee h hp hd (load72 w n hr) (by rw [hc]; exact hR)
theorem wl_loadR25 {ops : Array Oper} {rest : List Oper} {o : Oper} {a : Act} {w : World} {Q : Exit → Act → World → Prop} (x : Operand) (ho : o.op = .load 25 x) (hg : Region.wanted o (yielded ops a.tmps) = true) (n : Nat) (hx : a.eval x = .pointer (some ⟨n, 0, none⟩)) (hr : rowN w n 14 = true) (h : wpList Try.prog ops Q rest (a.put o.dst (.agg (rowD w n))) w) : wpList Try.prog ops Q (o :: rest) a w := wl_load25 x ho hg n hx hr rfl h
theorem wl_storeR25 {ops : Array Oper} {rest : List Oper} {o : Oper} {a : Act} {w : World} {Q : Exit → Act → World → Prop} (x y : Operand) (ho : o.op = .store 25 x y) (hg : Region.wanted o (yielded ops a.tmps) = true) (n : Nat) (hx : a.eval x = .pointer (some ⟨n, 0, none⟩)) (z : In) (hy : a.eval y = .agg z.cs) (hr : rowN w n 14 = true) (h : wpList Try.prog ops Q rest (a.put o.dst undef) (w.setRow n z.cs)) : wpList Try.prog ops Q (o :: rest) a w := wl_store25 x y ho hg n hx z hy hr rfl h
theorem wl_loadR45 {ops : Array Oper} {rest : List Oper} {o : Oper} {a : Act} {w : World} {Q : Exit → Act → World → Prop} (x : Operand) (ho : o.op = .load 45 x) (hg : Region.wanted o (yielded ops a.tmps) = true) (n : Nat) (hx : a.eval x = .pointer (some ⟨n, 0, none⟩)) (hr : rowN w n 12 = true) (h : wpList Try.prog ops Q rest (a.put o.dst (.agg (rowD w n))) w) : wpList Try.prog ops Q (o :: rest) a w := wl_load45 x ho hg n hx hr rfl h
theorem wl_storeR45 {ops : Array Oper} {rest : List Oper} {o : Oper} {a : Act} {w : World} {Q : Exit → Act → World → Prop} (x y : Operand) (ho : o.op = .store 45 x y) (hg : Region.wanted o (yielded ops a.tmps) = true) (n : Nat) (hx : a.eval x = .pointer (some ⟨n, 0, none⟩)) (z : At) (hy : a.eval y = .agg z.cs) (hr : rowN w n 12 = true) (h : wpList Try.prog ops Q rest (a.put o.dst undef) (w.setRow n z.cs)) : wpList Try.prog ops Q (o :: rest) a w := wl_store45 x y ho hg n hx z hy hr rfl h
theorem wl_loadR52 {ops : Array Oper} {rest : List Oper} {o : Oper} {a : Act} {w : World} {Q : Exit → Act → World → Prop} (x : Operand) (ho : o.op = .load 52 x) (hg : Region.wanted o (yielded ops a.tmps) = true) (n : Nat) (hx : a.eval x = .pointer (some ⟨n, 0, none⟩)) (hr : rowN w n 7 = true) (h : wpList Try.prog ops Q rest (a.put o.dst (.agg (rowD w n))) w) : wpList Try.prog ops Q (o :: rest) a w := wl_load52 x ho hg n hx hr rfl h
theorem wl_storeR52 {ops : Array Oper} {rest : List Oper} {o : Oper} {a : Act} {w : World} {Q : Exit → Act → World → Prop} (x y : Operand) (ho : o.op = .store 52 x y) (hg : Region.wanted o (yielded ops a.tmps) = true) (n : Nat) (hx : a.eval x = .pointer (some ⟨n, 0, none⟩)) (z : Sa) (hy : a.eval y = .agg z.cs) (hr : rowN w n 7 = true) (h : wpList Try.prog ops Q rest (a.put o.dst undef) (w.setRow n z.cs)) : wpList Try.prog ops Q (o :: rest) a w := wl_store52 x y ho hg n hx z hy hr rfl h
theorem wl_loadR72 {ops : Array Oper} {rest : List Oper} {o : Oper} {a : Act} {w : World} {Q : Exit → Act → World → Prop} (x : Operand) (ho : o.op = .load 72 x) (hg : Region.wanted o (yielded ops a.tmps) = true) (n : Nat) (hx : a.eval x = .pointer (some ⟨n, 0, none⟩)) (hr : rowN w n 3 = true) (h : wpList Try.prog ops Q rest (a.put o.dst (.agg (rowD w n))) w) : wpList Try.prog ops Q (o :: rest) a w := wl_load72 x ho hg n hx hr rfl h
theorem wl_storeR72 {ops : Array Oper} {rest : List Oper} {o : Oper} {a : Act} {w : World} {Q : Exit → Act → World → Prop} (x y : Operand) (ho : o.op = .store 72 x y) (hg : Region.wanted o (yielded ops a.tmps) = true) (n : Nat) (hx : a.eval x = .pointer (some ⟨n, 0, none⟩)) (z : Ha) (hy : a.eval y = .agg z.cs) (hr : rowN w n 3 = true) (h : wpList Try.prog ops Q rest (a.put o.dst undef) (w.setRow n z.cs)) : wpList Try.prog ops Q (o :: rest) a w := wl_store72 x y ho hg n hx z hy hr rfl h
end Go.Proofs.Ytbenailemoefhaa
