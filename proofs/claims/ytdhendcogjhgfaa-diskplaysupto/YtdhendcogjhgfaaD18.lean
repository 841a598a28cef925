/-
  The walk of the laws' live, as far as its last region.
-/
import Derived.Test.YtdhendcogjhgfaaD17
import Derived.Laws.BytesArg
import Derived.Lib.ConvBytes
namespace Go.Proofs.Ytdhendcogjhgfaa
open Go.RowKit
set_option linter.unusedVariables false

attribute [local go_sem ↓] Go.wp_at_zero Go.wp_at_succ

/-- A text of bytes. -/
def str (l : List UInt8) : ByteArray := ⟨l.toArray⟩

theorem str_data (l : List UInt8) : (str l).data.toList = l := by simp [str]
theorem str_size (l : List UInt8) : (str l).size = l.length := by simp [str, ByteArray.size]

theorem conv_rd {P : Program} {w : World} {v : Value} {l : List UInt8} (h : Rd w v l) (src dst e : TypeId) (hs : P.underlying src = some (.slice e)) (he : P.underlying e = some (.int .u8)) (hd : P.underlying dst = some .string) :
    (convert src dst v).run P w = .ok (.string (str l)) w := by
  obtain ⟨ao, cap, rfl⟩ := h.shape
  by_cases hl : l.length = 0
  · obtain rfl := List.eq_nil_of_length_eq_zero hl
    rw [run_convert_bytes_string w src dst e _ _ _ hs he hd]
    cases ao with
    | none => simp [Conv.bytesToString, str]; rfl
    | some ad =>
      have e2 : (loadCells ad 0).run P w = .ok (([] : List Int).map (Value.int .u8)).toArray w := by simp [loadCells, loadCellsFrom]
      exact (run_bytesToString w ad 0 cap [] e2).trans rfl
  · obtain ⟨b, o, rfl, _, _, _, h3⟩ := h.lits (by omega)
    rw [run_convert_bytes_arg w src e hs he b o l.length cap (l.map fun b => (b.toNat : Int)) (by simp) ?_ dst hd]
    · rw [show strOfNums (l.map fun b => (b.toNat : Int)) = str l from ?_]
      unfold strOfNums str
      rw [List.map_map]
      congr 2
      have : ((fun n : Int => UInt8.ofNat n.toNat) ∘ fun b : UInt8 => (b.toNat : Int)) = id := by
        funext b; simp
      rw [this, List.map_id]
    · intro i hi
      rw [h3 i hi]
      simp [List.getD, hi]

theorem str_inj {a b : List UInt8} (h : str a = str b) : a = b := by
  have := congrArg (fun s => s.data.toList) h
  simpa [str] using this


/-- Kinds of values in a region: bytes, and numbers, that can be read. -/
def kRd (l : List UInt8) : Kd (fun _ => False) := .pr (fun v W => Rd W v l) (fun _ _ _ h f => h.kept f (fun _ _ h => h))
def kRdV (l : List Value) : Kd (fun _ => False) := .pr (fun v W => RdV W v l) (fun _ _ _ h f => h.kept f (fun _ _ h => h))

section
variable {ρ : Operand → Value} {o : Oper} {w : World}
theorem x_len36 {x : Operand} {ao : Option Addr} {n c : Nat} (ho : o.op = .call { callee := .builtin .len, args := #[x], argTypes := #[36] }) (hx : ρ x = .slice ao n c) : (execOp ρ o).run Try.prog w = .ok (.value (.int .i64 (n : Int))) w := by
  simp [execOp, ho, hx, go_sem]
theorem x_index36 {x y : Operand} {b of n c : Nat} (ho : o.op = .indexAddr 36 x y) (hx : ρ x = .slice (some ⟨b, of, none⟩) (n + 1) c) (hy : ρ y = .int .i64 0) : (execOp ρ o).run Try.prog w = .ok (.value (.pointer (some ⟨b, of, none⟩))) w := by
  simp [execOp, ho, hx, hy, go_sem]
theorem x_bs37 (ho : o.op = .buildSlice 37 1 #[(0, .const (.int .i64 0))]) (hρ : ρ (.const (.int .i64 0)) = .int .i64 0) : (execOp ρ o).run Try.prog w = .ok (.value (.slice (some ⟨w.heap.size, 0, none⟩) 1 1)) (w.alloc (.cells #[.int .i64 0] 3)) := by
  simp [execOp, ho, hρ, go_sem]
end
theorem cf14 (args : Array Value) (W : World) : Sem.run Try.prog (callFunc 14 args) W = .ok (.enter 14 args) W := by simp [go_sem]
theorem cf26 (args : Array Value) (W : World) : Sem.run Try.prog (callFunc 26 args) W = .ok (.enter 26 args) W := by simp [go_sem]
theorem cf28 (args : Array Value) (W : World) : Sem.run Try.prog (callFunc 28 args) W = .ok (.enter 28 args) W := by simp [go_sem]
theorem cf30 (args : Array Value) (W : World) : Sem.run Try.prog (callFunc 30 args) W = .ok (.enter 30 args) W := by simp [go_sem]
theorem cf35 (args : Array Value) (W : World) : Sem.run Try.prog (callFunc 35 args) W = .ok (.enter 35 args) W := by simp [go_sem]

/-- Where a disk lies: all its blocks are there. -/
theorem KAt.lt {w : World} {p gs : Nat} {qv : Value} {d : Dk} (h : KAt w p gs qv d) : p < w.heap.size ∧ gs < w.heap.size ∧ ∀ b, qv.ownBlock = some b → b < w.heap.size := by
  refine ⟨lt_of_heap h.heap, lt_of_heap h.secs, fun b hb => ?_⟩
  rcases h.queue.2 with ⟨hv, -⟩ | ⟨g, cap, cur, hv, -, hg, -⟩
  · rw [hv] at hb; simp [Value.ownBlock] at hb
  · rw [hv] at hb; simp [Value.ownBlock] at hb; subst hb; exact lt_of_heap hg

/-- Bytes that lie apart from a disk. -/
structure Aw (w : World) (p gs : Nat) (qv v : Value) (l : List UInt8) : Prop where
  rd : Rd w v l
  ap : ∀ b, v.ownBlock = some b → b < w.heap.size ∧ b ≠ p ∧ b ≠ gs ∧ qv.ownBlock ≠ some b

theorem Aw.kept {w w' : World} {p gs : Nat} {qv v : Value} {l : List UInt8} (h : Aw w p gs qv v l) (f : Fr (fun _ => False) w w') : Aw w' p gs qv v l :=
  ⟨h.rd.kept f (fun _ _ h => h), fun b hb => ⟨Nat.lt_of_lt_of_le (h.ap b hb).1 f.size, (h.ap b hb).2⟩⟩

theorem Aw.step {w w' : World} {p gs : Nat} {qv qv' v : Value} {l : List UInt8} (h : Aw w p gs qv v l) (f : Fr (fun k => k = p ∨ k = gs ∨ qv.ownBlock = some k) w w') (hq : ∀ b, qv'.ownBlock = some b → qv.ownBlock = some b ∨ w.heap.size ≤ b) : Aw w' p gs qv' v l :=
  ⟨h.rd.kept f (fun b hb e => by
    obtain ⟨h1, h2, h3, h4⟩ := h.ap b hb
    rcases e with e | e | e
    · exact h2 e
    · exact h3 e
    · exact h4 e), fun b hb => by
    obtain ⟨h1, h2, h3, h4⟩ := h.ap b hb
    refine ⟨Nat.lt_of_lt_of_le h1 f.size, h2, h3, fun e => ?_⟩
    rcases hq b e with e | e
    · exact h4 e
    · omega⟩

theorem Aw.new {w w' : World} {p gs : Nat} {qv v : Value} {d : Dk} {l : List UInt8} (h : KAt w p gs qv d) (hr : Rd w' v l) (hn : NewB w.heap.size w' v) : Aw w' p gs qv v l :=
  ⟨hr, fun b hb => by
    obtain ⟨h1, cs, h2⟩ := hn b hb
    obtain ⟨l1, l2, l3⟩ := h.lt
    exact ⟨lt_of_heap h2, by omega, by omega, fun e => by have := l3 b e; omega⟩⟩

/-- The states of live. -/
def lv0 : Dk := newD 2 16
def lv1 : Dk := wrD lv0 1 (List.replicate 16 97)
def lv2 : Dk := wrD lv1 1 (List.replicate 16 98)
def lv3 : Dk := crD lv2 [0]
def lv4 : Dk := tuD lv3 0 0 1
def lv5 : Dk := tuD lv4 0 8 1
def lv6 : Dk := loD lv5 1
def lv7 : Dk := wrD lv6 1 (List.replicate 16 99)
def lv8 : Dk := flD lv7
/-- The bytes of a sector whose first bit is turned. -/
def lvz : List UInt8 := 1 :: List.replicate 15 0

theorem lv_a : wrE lv0 1 (List.replicate 16 97) = 0 := by decide +kernel
theorem lv_b : wrE lv1 1 (List.replicate 16 98) = 0 := by decide +kernel
theorem lv_x : rdD lv2 1 = (List.replicate 16 98, 0) := by decide +kernel
theorem lv_y : rdD lv3 1 = (List.replicate 16 97, 0) := by decide +kernel
theorem lv_h : tuE lv3 0 0 1 = 0 := by decide +kernel
theorem lv_i : tuE lv4 0 8 1 = 8 := by decide +kernel
theorem lv_z : rdD lv5 0 = (lvz, 0) := by decide +kernel
theorem lv_j : reE lv5 1 true = 0 := by decide +kernel
theorem lv_k : rdD lv6 1 = ([], 42) := by decide +kernel
theorem lv_w : wrE lv6 1 (List.replicate 16 99) = 0 := by decide +kernel
theorem lv_l : flE lv7 = 0 := by decide +kernel
theorem lv_n : lv2.n + lv2.Q.length < 1000000000 := by decide +kernel
theorem lv_m : lv7.n + lv7.Q.length ≤ 1000000000 := by decide +kernel
theorem lv_in : inI lv8 lv8.S.length = [0] := by decide +kernel
theorem lv_wr : lv8.n = 2 := by decide +kernel

end Go.Proofs.Ytdhendcogjhgfaa
