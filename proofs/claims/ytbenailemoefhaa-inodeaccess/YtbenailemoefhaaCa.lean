/-
  An Asks: an inode, who asks, for what; less of less, plainly; a copy of numbers.
-/
import Derived.Test.YtbenailemoefhaaLk
import Derived.Test.YtbenailemoefhaaF4
import Derived.Test.YtbenailemoefhaaCln
import Derived.Deep.MidRow
namespace Go.Proofs.Ytbenailemoefhaa
open Go.RowKit Go.Lib
set_option linter.unusedVariables false
set_option linter.unusedSimpArgs false

attribute [local go_sem ↓] Go.wp_at_zero Go.wp_at_succ

structure An where
  x : In
  a : Int
  g : Value
  c : Int
  d : Int
def An.cs (z : An) : Array Value := #[.int .u64 z.x.n, .int .u32 z.x.g, .int .i64 z.x.k, .int .u32 z.x.m, .int .u32 z.x.l, .int .u32 z.x.u, .int .u32 z.x.d, .int .u64 z.x.s, .int .u64 z.x.b, .int .u64 z.x.ta, .int .u64 z.x.tm, .int .u64 z.x.tc, .int .u64 z.x.r, .string z.x.t, .int .u32 z.a, z.g, .int .u32 z.c, .int .u32 z.d]
@[reducible] def An.v (z : An) : Value := .agg z.cs
def An.zero : An := ⟨In.zero, 0, .slice none 0 0, 0, 0⟩
@[go_sem, simp] theorem An.size (z : An) : z.cs.size = 18 := rfl
theorem ldA {w : World} {n : Nat} {z : An} (h : w.heap[n]? = some (.cells z.cs 68 (0, 0))) : (loadVar 25 ⟨n, 0, none⟩).run Try.prog w = .ok z.x.v w := by
  have hr : w.rangeAt n 0 z.x.cs.toList := by
    intro j v hv
    rw [cell_of_heap h]
    have hj : j < 14 := by have := (List.getElem?_eq_some_iff.1 hv).1; simpa using this
    rw [← hv, Nat.zero_add]
    rcases j with _ | _ | _ | _ | _ | _ | _ | _ | _ | _ | _ | _ | _ | _ | j
    iterate 14 rfl
    omega
  have := run_loadVar_mid (P := Try.prog) w n 0 25 z.x.cs.toList _ hr Try.underlying25 rfl (by kernel_rfl)
  simpa using this
theorem wl_loadA {ops : Array Oper} {rest : List Oper} {o : Oper} {a : Act} {w : World} {Q : Exit → Act → World → Prop} (x : Operand) (ho : o.op = .load 25 x) (hg : Region.wanted o (yielded ops a.tmps) = true) (n : Nat) (hx : a.eval x = .pointer (some ⟨n, 0, none⟩)) {z : An} (hz : w.heap[n]? = some (.cells z.cs 68 (0, 0))) (h : wpList Try.prog ops Q rest (a.put o.dst (.agg z.x.cs)) w) : wpList Try.prog ops Q (o :: rest) a w :=
  wpList_want hg fun _ hK => by
    unfold Oper.wp execOp
    simp only [ho, hx, Instr.loadAt, Instr.sureAddr, Sem.run_bind, Sem.run_pure, Result.andThen_ok, ldA hz]
    exact hK _ _ h
theorem and32 (x y : Int) : bits .and .u32 x y = ((BitVec.ofInt 32 x &&& BitVec.ofInt 32 y).toNat : Int) := by
  have h : (BitVec.ofInt 32 x &&& BitVec.ofInt 32 y).toNat < 4294967296 := (BitVec.ofInt 32 x &&& BitVec.ofInt 32 y).isLt
  show IntKind.u32.wrap ((BitVec.ofInt 32 x &&& BitVec.ofInt 32 y).toNat : Int) = _
  rw [IntKind.wrap_u32]
  omega
theorem and_and (a b c : Int) : bits .and .u32 (bits .and .u32 a b) c = bits .and .u32 a (bits .and .u32 b c) := by
  simp only [and32, BitVec.ofInt_natCast, BitVec.ofNat_toNat, BitVec.setWidth_eq, BitVec.and_assoc]
theorem zero_and (c : Int) : bits .and .u32 0 c = 0 := by
  rw [and32]; simp
/-- Less of less. -/
theorem acR_and (x : In) (uid : Int) (gids : List Int) (want part : Int) : acR x uid gids (bits .and .u32 want part) = bits .and .u32 (acR x uid gids want) part := by
  unfold acR
  split
  · rw [and_and]
  · rw [zero_and]
theorem own0g (w : World) : (w.alloc (.cells #[] 23)).ownsRow 0 23 1 (.slice (some ⟨w.heap.size, 0, none⟩) 0 0) 0 [] :=
  ⟨rfl, .inr ⟨w.heap.size, 0, #[], rfl, Nat.zero_le _, heap_alloc_new _ _, Nat.le_refl _, Nat.zero_le _, rfl, rfl⟩⟩
theorem gvs_one (l : List Int) : ∀ u ∈ gvs l, u.oneCell' = true := by
  intro u hu
  obtain ⟨n, -, rfl⟩ := List.mem_map.1 hu
  rfl
theorem ga_own {w : World} {v : Value} {l : List Int} (h : w.ownsRow 0 23 1 v l.length (gvs l)) : GA w v l := by
  rcases h.2 with ⟨hv, hn⟩ | ⟨g, cap, cur, rfl, hb, hg, hnc, hcm, hcs, htake⟩
  · exact .inl ⟨hv, List.eq_nil_of_length_eq_zero hn⟩
  · refine .inr ⟨g, cap, rfl, hnc, hcm, fun j hj => ?_⟩
    have := World.ownsRow.cellAt h j (by omega)
    rw [this]
    simp [gvs]
theorem Try.info23g : (Try.prog.info? 23).map (fun i => (i.zero, i.size, i.bytes)) = some (some (.int .u32 0), 1, 4) := by kernel_rfl
theorem RdV.sr {w : World} {v : Value} {l : List Value} (h : RdV w v l) : Sr w 1 v l.length l := by
  rcases h with ⟨rfl, rfl⟩ | ⟨ad, cap, rfl, h1, h2, h3⟩
  · exact .inl ⟨rfl, rfl, rfl⟩
  · refine .inr ⟨ad, cap, rfl, by omega, fun j u hu => ?_⟩
    obtain ⟨hj, rfl⟩ := List.getElem?_eq_some_iff.1 hu
    exact h3 j hj
theorem cln66 (w : World) {x : Value} {l : List Int} (hx : RdV w x (gvs l)) (hb : l.length ≤ 1048576) : ∃ ao c w', (Builtin.append_ #[66, 66] 66 #[.slice (some ⟨w.heap.size, 0, none⟩) 0 0, x]).run Try.prog (w.alloc (.cells #[] 23)) = .ok (.slice ao l.length c) w' ∧ GA w' (.slice ao l.length c) l ∧ Fr (fun _ => False) w w' := by
  obtain ⟨inf, hi0, hz0, hz1, hz2⟩ := info_parts Try.info23g
  have hx2 : RdV (w.alloc (.cells #[] 23)) x (gvs l) := hx.kept ((Fr.refl (fun _ => False) w).alloc _) (fun _ _ e => e)
  obtain ⟨v, w', h1, h2, h3, h4⟩ := run_app (P := Try.prog) (w.alloc (.cells #[] 23)) 66 66 23 inf _ 1 4 Try.underlying66 hi0 hz0 hz1 hz2 rfl (by decide) _ 0 [] (own0g w) x l.length (gvs l) (by have := RdV.sr hx2; rwa [show (gvs l).length = l.length by simp [gvs]] at this) (gvs_one l) (by omega) (by simp only [maxLen]; omega)
  rw [Nat.zero_add, List.nil_append] at h2
  have hg := ga_own h2
  have hf : Fr (fun _ => False) w w' := ((Fr.refl (fun _ => False) w).alloc (.cells #[] 23)).grown h3 (fun k hk e => by simp [Value.ownBlock] at e; omega)
  obtain ⟨ao, c, rfl⟩ : ∃ ao c, v = .slice ao l.length c := by
    rcases h2.2 with ⟨hv, hn⟩ | ⟨g, cap, cur, rfl, _⟩
    · exact ⟨none, 0, by rw [hv, hn]⟩
    · exact ⟨_, _, rfl⟩
  exact ⟨ao, c, w', h1, hg, hf⟩
theorem wl_clg {w : World} {ops : Array Oper} {rest : List Oper} {o : Oper} {a : Act} {Q : Exit → Act → World → Prop} (hgd : o.guard = none) (hty : o.type = 66) (s x : Operand) (ho : o.op = .call { callee := .builtin .append, args := #[s, x], argTypes := #[66, 66] }) (hs : a.eval s = .slice (some ⟨w.heap.size, 0, none⟩) 0 0) {xv : Value} (hx : a.eval x = xv) {l : List Int} (hr : RdV w xv (gvs l)) (hb : l.length ≤ 1048576)
    (h : ∀ ao c w', GA w' (.slice ao l.length c) l → Fr (fun _ => False) w w' → wpList Try.prog ops Q rest (a.put o.dst (.slice ao l.length c)) w') : wpList Try.prog ops Q (o :: rest) a (w.alloc (.cells #[] 23)) := by
  refine wpList_plain hgd fun K hK => ?_
  obtain ⟨ao, c, w', h1, h2, h3⟩ := cln66 w hr hb
  unfold Oper.wp execOp
  simp only [ho, hty, resolve, invoke, builtin, Sem.run_bind, Sem.run_pure, Result.andThen_ok, List.map_toArray, List.map_cons, List.map_nil, hs, hx, h1]
  exact hK _ _ (h ao c w' h2 h3)
end Go.Proofs.Ytbenailemoefhaa
