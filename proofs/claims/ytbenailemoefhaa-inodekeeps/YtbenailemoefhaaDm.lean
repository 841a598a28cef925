/-
  Plain facts on memory for the proofs over package cache: blocks of bytes, copies, rows of one's own.
-/
import Derived.Test.YtbenailemoefhaaChecked
import Derived.Test.YtbenailemoefhaaMem
import Derived.KernelRfl
import Derived.BigQuiet
import Derived.Deep.RegionHeld3
import Derived.Deep.RegionLaw
import Derived.Deep.DrawnRows
import Derived.WalkMore
import Derived.Deep.LoopGhost
import Derived.Laws.CopyOwn
import Derived.Deep.WholeRow
import Derived.Laws.OwnMore
namespace Go.Proofs.Ytbenailemoefhaa
open Go.RowKit
set_option linter.unusedVariables false

attribute [local go_sem ↓] Go.wp_at_zero Go.wp_at_succ

/-- Bytes lie at block p, from its first cell on. -/
def BAt (w : World) (p : Nat) (l : List UInt8) : Prop := w.heap[p]? = some (.cells (bvs l).toArray 5 (0, 0))

theorem BAt.kept {S : Nat → Prop} {w w' : World} {p : Nat} {l : List UInt8} (h : BAt w p l) (f : Fr S w w') (hs : ¬ S p) : BAt w' p l := by
  unfold BAt at *
  rw [f.block p (lt_of_heap h) hs]; exact h

theorem BAt.cell {w : World} {p : Nat} {l : List UInt8} (h : BAt w p l) (j : Nat) (hj : j < l.length) : w.cell? ⟨p, j, none⟩ = some (.int .u8 (((l[j]).toNat : Nat) : Int)) := by
  rw [cell_of_heap h]
  simpa using bvs_get l j hj

theorem BAt.frozen {w : World} {p : Nat} {l : List UInt8} (h : BAt w p l) (j : Nat) : w.frozen? ⟨p, j, none⟩ = false := frozen_of_heap h j

theorem bvs_set (l : List UInt8) (i : Nat) (b : UInt8) : (bvs l).toArray.setIfInBounds i (.int .u8 ((b.toNat : Nat) : Int)) = (bvs (l.set i b)).toArray := by
  rw [List.setIfInBounds_toArray]
  simp [bvs, List.map_set]

theorem BAt.set {w : World} {p : Nat} {l : List UInt8} (h : BAt w p l) (i : Nat) (b : UInt8) : BAt (w.setCell ⟨p, i, none⟩ (.int .u8 ((b.toNat : Nat) : Int))) p (l.set i b) := by
  unfold BAt at *
  rw [← bvs_set]
  exact heap_setCell_same w p i _ 5 _ h

theorem BAt.rd {w : World} {p : Nat} {l : List UInt8} (h : BAt w p l) (hl : l.length ≤ maxLen) : Rd w (.slice (some ⟨p, 0, none⟩) l.length l.length) l :=
  Rd.lit rfl (Nat.le_refl _) hl fun j hj => by rw [Nat.zero_add]; exact h.cell j hj

theorem made_bytes (n : Nat) : madeCells (Value.int .u8 0).cells (n * 1) = (bvs (List.replicate n 0)).toArray := by
  apply Array.ext
  · simp [bvs, size_madeCells]
  · intro i h1 h2
    simp [bvs, madeCells, Value.cells, Nat.mod_one]

theorem Try.info5 : (Try.prog.info? 5).map (fun i => (i.zero, i.size, i.bytes)) = some (some (.int .u8 0), 1, 1) := by kernel_rfl

theorem run_make5 (n : Nat) (hn : n ≤ 140737488355328) (w : World) : (Instr.makeSlice 26 (.int .i64 (n : Int)) (.int .i64 (n : Int))).run Try.prog w = .ok (.slice (some ⟨w.heap.size, 0, none⟩) n n) (w.alloc (.cells (bvs (List.replicate n 0)).toArray 5)) := by
  obtain ⟨i, hi, hz0, hz1, hz2⟩ := info_parts Try.info5
  have := run_make (P := Try.prog) w 26 5 i _ Try.underlying26 hi hz0 .i64 .i64 (n : Int) (n : Int) (by omega) (Int.le_refl _) (by rw [hz2]; omega) (by omega)
  rw [this, hz1, Int.toNat_natCast, made_bytes]

/-- A block of elements of this type. -/
def TyAt (w : World) (b t : Nat) : Prop := ∃ cs, w.heap[b]? = some (.cells cs t (0, 0))

theorem TyAt.kept {w w' : World} {b t : Nat} (h : TyAt w b t) (f : Fr (fun _ => False) w w') : TyAt w' b t := by
  obtain ⟨cs, h⟩ := h
  exact ⟨cs, by rw [f.block b (lt_of_heap h) id]; exact h⟩

theorem TyAt.ne {w : World} {b c s t : Nat} (h : TyAt w b s) (k : TyAt w c t) (hst : s ≠ t) : b ≠ c := by
  obtain ⟨cs, h⟩ := h
  obtain ⟨ds, k⟩ := k
  rintro rfl
  rw [h] at k
  simp at k
  exact hst k.2

theorem TyAt.setCell {w : World} {b t : Nat} (h : TyAt w b t) (g i : Nat) (u : Value) : TyAt (w.setCell ⟨g, i, none⟩ u) b t := by
  obtain ⟨cs, h⟩ := h
  by_cases e : b = g
  · subst e
    exact ⟨_, heap_setCell_same w b i cs t u h⟩
  · exact ⟨cs, by rw [Below.heap_setCell _ _ _ _ e]; exact h⟩

theorem owns_new {w : World} {b : Nat} (hb : w.heap[b]? = some (.cells #[] 5 (0, 0))) : w.ownsRow 0 5 1 (.slice (some ⟨b, 0, none⟩) 0 0) 0 [] :=
  ⟨rfl, .inr ⟨b, 0, #[], rfl, Nat.zero_le _, hb, Nat.le_refl _, by simp [maxLen], rfl, rfl⟩⟩

theorem owns_kept {S : Nat → Prop} {w w' : World} {e : TypeId} {size : Nat} {v : Value} {n : Nat} {xs : List Value} (h : w.ownsRow 0 e size v n xs) (f : Fr S w w') (hS : ∀ k, v.ownBlock = some k → ¬ S k) : w'.ownsRow 0 e size v n xs := by
  refine ⟨h.1, ?_⟩
  rcases h.2 with h4 | ⟨g, cap, cur, rfl, hb, hg, r⟩
  · exact .inl h4
  · exact .inr ⟨g, cap, cur, rfl, hb, by rw [f.block g (lt_of_heap hg) (hS g rfl)]; exact hg, r⟩

theorem owns_nil (w : World) : w.ownsRow 0 5 1 (.slice none 0 0) 0 [] := ⟨rfl, .inl ⟨rfl, rfl⟩⟩

theorem one_cellV (w : World) (x : Value) (e : TypeId) : Sr (w.alloc (Obj.cells #[x] e)) 1 (.slice (some ⟨w.heap.size, 0, none⟩) 1 1) 1 [x] := by
  refine .inr ⟨_, _, rfl, rfl, fun j u hu => ?_⟩
  rw [Addr.add_lit, Nat.zero_add, cell_of_heap (heap_alloc_new w _)]
  simpa using hu

theorem owns_nilE (w : World) (e : TypeId) : w.ownsRow 0 e 1 (.slice none 0 0) 0 [] := ⟨rfl, .inl ⟨rfl, rfl⟩⟩

theorem own_len (ao : Option Addr) (n c n' c' : Nat) : (Value.slice ao n c).ownBlock = (Value.slice ao n' c').ownBlock := by cases ao <;> rfl

theorem owns_cap {w : World} {e : TypeId} {ao : Option Addr} {n m cap : Nat} {xs : List Value} (h : w.ownsRow 0 e 1 (.slice ao n cap) m xs) : n ≤ cap := by
  rcases h.2 with ⟨hv, -⟩ | ⟨g, cap', cur, hv, -, -, hnc, -⟩
  · simp only [Value.slice.injEq] at hv
    omega
  · simp only [Value.slice.injEq] at hv
    omega

theorem grown_fr {wr W w1 : World} {row : Option Nat} (hW : Fr (fun _ => False) wr W) (hg : W.grownBy w1 row) (hrow : ∀ k, row = some k → wr.heap.size ≤ k) : Fr (fun _ => False) wr w1 :=
  hW.grown hg (fun k hk e => absurd (hrow k e) (by omega))

theorem bat_new (w : World) (l : List UInt8) : BAt (w.alloc (Obj.cells (bvs l).toArray 5)) w.heap.size l := heap_alloc_new w _

/-- make([]byte, n): the new world by a name of its own. -/
theorem mk_any (w : World) (n : Nat) (hn : n ≤ 100000) : ∃ w1, (Instr.makeSlice 26 (.int .i64 (n : Int)) (.int .i64 (n : Int))).run Try.prog w = .ok (.slice (some ⟨w.heap.size, 0, none⟩) n n) w1 ∧ BAt w1 w.heap.size (List.replicate n 0) ∧ Fr (fun _ => False) w w1 :=
  ⟨_, run_make5 n (by omega) w, bat_new w _, (Fr.refl _ _).alloc _⟩

/-- copy, as far as there is room. -/
theorem copy_min (w : World) (g o dLen dCap : Nat) (dao : Option Addr) (A : List UInt8) (x : Value) (cs : List UInt8) (hd : 0 < dLen → dao = some ⟨g, o, none⟩) (hA : BAt w g A) (hx : Rd w x cs) (hfit : o + dLen ≤ A.length) :
    ∃ w', (Builtin.copy_ #[26, 26] 3 #[.slice dao dLen dCap, x]).run Try.prog w = .ok (.int .i64 ((min cs.length dLen : Nat) : Int)) w' ∧ BAt w' g (A.take o ++ cs.take dLen ++ A.drop (o + min cs.length dLen)) ∧ Fr (fun b => b = g) w w' := by
  obtain ⟨ao, cap, rfl⟩ := hx.shape
  by_cases h0 : 0 < min cs.length dLen
  · obtain ⟨b, so, rfl, -, h1, h2, h3⟩ := hx.lits (by omega)
    have hdl : 0 < dLen := by omega
    rw [hd hdl]
    have hlt : (cs.take dLen).length = min cs.length dLen := by rw [List.length_take]; omega
    have := run_copy_row (P := Try.prog) w 26 26 3 5 g o dLen dCap ⟨b, so, none⟩ cs.length cap (bvs A).toArray 5 (bvs (cs.take dLen)) Try.underlying26 (by kernel_rfl) hA (by rw [bvs_length, hlt])
      (fun j v hv => by
        have hj : j < (cs.take dLen).length := by
          have := (List.getElem?_eq_some_iff.1 hv).1
          rwa [bvs_length] at this
        rw [Addr.add_lit, h3 j (by omega)]
        rw [bvs_get _ j hj] at hv
        rw [← hv, List.getElem_take]) (by rw [bvs_length, List.size_toArray, bvs_length]; omega) (bvs_one _)
    refine ⟨_, by rw [this, bvs_length, hlt]; rfl, ?_, ?_⟩
    · unfold BAt
      rw [setRow_heap w g _ _ _ _ hA]
      rw [← hlt]
      unfold bvs
      simp [List.map_take, List.map_drop]
    · exact ⟨rfl, rfl, rfl, by simp, fun k hk hs => setRow_other w g k _ hs⟩
  · have he : min cs.length dLen = 0 := by omega
    refine ⟨w, ?_, ?_, Fr.refl _ _⟩
    · have := run_copy_none (P := Try.prog) w 26 26 3 5 dao ao dLen dCap cs.length cap Try.underlying26 (by kernel_rfl) he
      rw [this, he]
      rfl
    · have e2 : cs.take dLen = [] := List.eq_nil_of_length_eq_zero (by rw [List.length_take]; omega)
      rw [he, e2]
      simpa using hA

theorem wp_copy {w : World} {o : Oper} {a : Act} {K : Act → World → Prop} {Q : Exit → Act → World → Prop} (s x : Operand)
    (ho : o.op = .call { callee := .builtin .copy, args := #[s, x], argTypes := #[26, 26] }) (hty : o.type = 3)
    (g of dLen dCap : Nat) (dao : Option Addr) (A : List UInt8) (xv : Value) (cs : List UInt8) (hs : a.eval s = .slice dao dLen dCap) (hxv : a.eval x = xv) (hd : 0 < dLen → dao = some ⟨g, of, none⟩) (hA : BAt w g A) (hx : Rd w xv cs) (hfit : of + dLen ≤ A.length)
    (h : ∀ w', BAt w' g (A.take of ++ cs.take dLen ++ A.drop (of + min cs.length dLen)) → Fr (fun b => b = g) w w' → K (a.put o.dst (.int .i64 ((min cs.length dLen : Nat) : Int))) w') : o.wp Try.prog a w K Q := by
  obtain ⟨w', hr, h2, h3⟩ := copy_min w g of dLen dCap dao A xv cs hd hA hx hfit
  unfold Oper.wp execOp
  simp only [ho, hty, resolve, invoke, builtin, Sem.run_bind, Sem.run_pure, Result.andThen_ok, List.map_toArray, List.map_cons, List.map_nil, hs, hxv, hr]
  exact h w' h2 h3

theorem step_copy {w : World} {ops : Array Oper} {o : Oper} {a : Act} {K : Act → World → Prop} {Q : Exit → Act → World → Prop} {E : Prop} (hgd : o.guard = none) (s x : Operand)
    (ho : o.op = .call { callee := .builtin .copy, args := #[s, x], argTypes := #[26, 26] }) (hty : o.type = 3)
    (g of dLen dCap : Nat) (dao : Option Addr) (A : List UInt8) (xv : Value) (cs : List UInt8) (hs : a.eval s = .slice dao dLen dCap) (hxv : a.eval x = xv) (hd : 0 < dLen → dao = some ⟨g, of, none⟩) (hA : BAt w g A) (hx : Rd w xv cs) (hfit : of + dLen ≤ A.length)
    (h : ∀ w', BAt w' g (A.take of ++ cs.take dLen ++ A.drop (of + min cs.length dLen)) → Fr (fun b => b = g) w w' → K (a.put o.dst (.int .i64 ((min cs.length dLen : Nat) : Int))) w') :
    if Region.wanted o (yielded ops a.tmps) = true then Oper.wp Try.prog o a w K Q else E := by
  have hw : Region.wanted o (yielded ops a.tmps) = true := by simp [Region.wanted, hgd]
  rw [if_pos hw]
  exact wp_copy s x ho hty g of dLen dCap dao A xv cs hs hxv hd hA hx hfit h

end Go.Proofs.Ytbenailemoefhaa
