/-
  A block's bytes: fill.
  The map of blocks by their numbers.
  The ring of blocks by their last use.
  The home that the laws try a cache on.
  The home's Read, Write, Flush.
-/
import Derived.Test.YtdgmlopaeonacaaM03
import Derived.Lib.SliceRun
import Derived.MapKept
namespace Go.Proofs.Ytdgmlopaeonacaa
set_option linter.unusedVariables false
set_option linter.unusedSimpArgs false
open Go.RowKit
set_option linter.unusedVariables false

attribute [local go_sem ↓] Go.wp_at_zero Go.wp_at_succ

theorem nodeC_length (o n : Value) (x : Pl) : (nodeC o n x).length = 7 + x.P.length := by simp [nodeC, bvs_length]; omega
theorem nodeC_put (o n : Value) (x : Pl) (k : Nat) (l : List UInt8) : (nodeC o n x).take (7 + k) ++ bvs l ++ (nodeC o n x).drop (7 + k + l.length) = nodeC o n { x with P := x.P.take k ++ l ++ x.P.drop (k + l.length) } := by
  have e1 : 7 + k = k + 7 := by omega
  have e2 : 7 + k + l.length = (k + l.length) + 7 := by omega
  rw [e2, e1]
  simp [nodeC, bvs, List.map_take, List.map_drop]

/-- What is written into a block's bytes. -/
theorem node_row {w : World} {a : Nat} {o n : Value} {x : Pl} (h : NAt w a o n x) (k : Nat) (l : List UInt8) : NAt (w.setRow a ((nodeC o n x).toArray.toList.take (7 + k) ++ bvs l ++ (nodeC o n x).toArray.toList.drop (7 + k + (bvs l).length)).toArray) a o n { x with P := x.P.take k ++ l ++ x.P.drop (k + l.length) } ∧ Fr (fun b => b = a) w (w.setRow a ((nodeC o n x).toArray.toList.take (7 + k) ++ bvs l ++ (nodeC o n x).toArray.toList.drop (7 + k + (bvs l).length)).toArray) := by
  refine ⟨?_, rfl, rfl, rfl, by simp, fun k hk hs => setRow_other w a k _ hs⟩
  unfold NAt
  rw [setRow_heap w a _ _ _ _ h, bvs_length, List.toList_toArray, nodeC_put]

theorem copy_node (w : World) (a : Nat) (o n : Value) (x : Pl) (h : NAt w a o n x) (hx : x.P.length = 384) (v : Value) (l : List UInt8) (hv : Rd w v l) (hl : l.length ≤ 384) :
    ∃ w', (Builtin.copy_ #[37, 37] 3 #[.slice (some ⟨a, 7, none⟩) 384 384, v]).run Try.prog w = .ok (.int .i64 (l.length : Int)) w' ∧ NAt w' a o n { x with P := l ++ x.P.drop l.length } ∧ Fr (fun b => b = a) w w' := by
  obtain ⟨ao, cap, rfl⟩ := hv.shape
  by_cases h0 : 0 < l.length
  · obtain ⟨b, so, rfl, -, h1, h2, h3⟩ := hv.lits h0
    have := run_copy_row (P := Try.prog) w 37 37 3 5 a 7 384 384 ⟨b, so, none⟩ l.length cap _ 91 (bvs l) Try.underlying37 (by kernel_rfl) h (by rw [bvs_length]; exact (Nat.min_eq_left hl).symm)
      (fun j u hu => by
        have hj : j < l.length := by
          have := (List.getElem?_eq_some_iff.1 hu).1
          rwa [bvs_length] at this
        rw [Addr.add_lit, h3 j hj]
        rw [bvs_get _ j hj] at hu
        exact hu) (by rw [bvs_length, List.size_toArray, nodeC_length]; omega) (bvs_one _)
    have hr := node_row h 0 l
    rw [Nat.add_zero] at hr
    refine ⟨_, by rw [this, bvs_length]; rfl, ?_, hr.2⟩
    have := hr.1
    simpa using this
  · obtain rfl := List.eq_nil_of_length_eq_zero (show l.length = 0 by omega)
    refine ⟨w, ?_, by simpa using h, Fr.refl _ _⟩
    have := run_copy_none (P := Try.prog) w 37 37 3 5 (some ⟨a, 7, none⟩) ao 384 384 0 cap Try.underlying37 (by kernel_rfl) (by simp)
    rw [show (Value.int .i64 ((([] : List UInt8).length : Nat) : Int)) = goInt 0 from rfl]
    simpa using this

theorem zero5 (w : World) : (zeroValue 5).run Try.prog w = .ok (.int .u8 0) w := by simp [go_sem]

theorem clear_node (w : World) (a : Nat) (o n : Value) (x : Pl) (h : NAt w a o n x) (hx : x.P.length = 384) (k m : Nat) (hm : 0 < m) (hk : k + m = 384) :
    ∃ w', (Builtin.clear_ #[37] 0 #[.slice (some ⟨a, 7 + k, none⟩) m m]).run Try.prog w = .ok (.tuple #[]) w' ∧ NAt w' a o n { x with P := x.P.take k ++ List.replicate m 0 } ∧ Fr (fun b => b = a) w w' := by
  have hc : ∀ j, j < m → (w.cell? ⟨a, 7 + k + j, none⟩).isSome = true := fun j hj => by
    rw [cell_of_heap h, Array.getElem?_eq_getElem (by rw [List.size_toArray, nodeC_length]; omega)]; rfl
  have := Lib.run_clear_slice (P := Try.prog) w 37 5 0 (.int .u8 0) Try.underlying37 zero5 rfl rfl a (7 + k) m m hm hc (fun j hj => frozen_of_heap h _)
  have hs := run_storeCells_at Try.prog a (7 + k) 91 (List.replicate m (Value.int .u8 0)) 0 _ w h (by rw [List.size_toArray, nodeC_length, List.length_replicate]; omega) (by intro v hv; rw [List.eq_of_mem_replicate hv]; rfl)
  have hs2 := run_storeCells_cells (P := Try.prog) a (7 + k) (List.replicate m (Value.int .u8 0)) 0 w (by simpa using hc) (by intro j _; exact frozen_of_heap h _) (by intro v hv; rw [List.eq_of_mem_replicate hv]; rfl)
  rw [hs] at hs2
  simp only [Result.ok.injEq, true_and, Nat.add_zero] at hs2
  rw [← hs2] at this
  have hb : List.replicate m (Value.int .u8 0) = bvs (List.replicate m 0) := by simp [bvs]
  rw [hb] at this
  have hr := node_row h k (List.replicate m 0)
  refine ⟨_, this, ?_, hr.2⟩
  have h1 := hr.1
  have e : x.P.drop (k + (List.replicate m (0 : UInt8)).length) = [] := by rw [List.length_replicate, List.drop_of_length_le (by omega)]
  rw [e, List.append_nil] at h1
  exact h1

theorem slice89 (w : World) (a k : Nat) (h1 : k ≤ 384) (h2 : ¬ 384 = k) : (Instr.sliceAt 89 (.pointer (some ⟨a, 7, none⟩)) (some (.int .i64 (k : Int))) none none).run Try.prog w = .ok (.slice (some ⟨a, 7 + k, none⟩) (384 - k) (384 - k)) w := by
  simp [Instr.sliceAt, Instr.slice, Instr.sliceBounds, Instr.sliceBound, asIntOf, go_sem, h1, h2]
theorem clear_none (w : World) (ao : Option Addr) (c : Nat) : (Builtin.clear_ #[37] 0 #[.slice ao 0 c]).run Try.prog w = .ok (.tuple #[]) w := by
  cases ao <;> simp [Builtin.clear_, go_sem]

/-- Bytes, and zeros behind them. -/
def pad (l : List UInt8) : List UInt8 := l ++ List.replicate (384 - l.length) 0
theorem pad_length {l : List UInt8} (h : l.length ≤ 384) : (pad l).length = 384 := by simp [pad]; omega

set_option maxRecDepth 100000 in
theorem fill_any (w : World) (a : Nat) (o n : Value) (x : Pl) (h : NAt w a o n x) (hx : x.P.length = 384) (v : Value) (l : List UInt8) (hv : Rd w v l) (hl : l.length ≤ 384) : Calls Try.prog 47 #[ptr a, v] w fun e w' => e = .returned (.tuple #[]) ∧ NAt w' a o n { x with P := pad l } ∧ Fr (fun b => b = a) w w' := by
  obtain ⟨w1, hr, h1, f1⟩ := copy_node w a o n x h hx v l hv hl
  have H1 := hide h1
  have F1 := hide f1
  obtain ⟨k, hk⟩ : ∃ k, k = l.length := ⟨_, rfl⟩
  by_cases hm : l.length < 384
  · obtain ⟨w2, hr2, h2, f2⟩ := clear_node w1 a o n _ h1 (by simp; omega) k (384 - k) (by omega) (by omega)
    have H2 := hide h2
    have F2 := hide f2
    rw [← hk] at hr
    have HK := hide hk
    have hsl := slice89 w1 a k (by omega) (by omega)
    clear h1 f1 h2 f2 hk hm hx hl hv h
    unfold ptr
    go_enter Try.func47, Try.ntmps47
    go_wp2_with fail
    go_end0
    refine ⟨rfl, ?_, (unhide F1).trans (unhide F2) (fun _ _ h => h)⟩
    have h2 := unhide H2
    unfold pad
    rw [unhide HK, List.take_left] at h2
    exact h2
  · obtain rfl : k = 384 := by omega
    have hl2 : l.length = 384 := by omega
    rw [hl2] at hr
    have e : { x with P := l ++ x.P.drop l.length } = ({ x with P := pad l } : Pl) := by
      rw [List.drop_of_length_le (by omega)]; simp [pad, hl2]
    rw [e] at H1
    have hcl := clear_none w1 (some ⟨a, 7, none⟩) 0
    clear h1 f1 hk hm hx hl hv h hl2 e
    unfold ptr
    go_enter Try.func47, Try.ntmps47
    go_wp2_with fail
    go_end0
    exact ⟨rfl, unhide H1, unhide F1⟩
end Go.Proofs.Ytdgmlopaeonacaa

namespace Go.Proofs.Ytdgmlopaeonacaa
set_option linter.unusedVariables false
set_option linter.unusedSimpArgs false
open Go.RowKit
set_option linter.unusedVariables false

attribute [local go_sem ↓] Go.wp_at_zero Go.wp_at_succ

/-- An entry of the map. -/
def meOf (e : MapEntry) : Value × Value := (e.key, e.val)
def mvOf (q : Int × Nat) : Value × Value := (.int .i64 q.1, ptr q.2)
/-- The map in memory: which block lies where. -/
def MAt (w : World) (r : Nat) (L : List (Int × Nat)) : Prop :=
  (∃ es clock, w.heap[r]? = some (.map es clock) ∧ es.toList.map meOf = L.map mvOf) ∧ (L.map Prod.fst).Nodup

theorem MAt.kept {S : Nat → Prop} {w w' : World} {r : Nat} {L : List (Int × Nat)} (h : MAt w r L) (f : Fr S w w') (hs : ¬ S r) : MAt w' r L := by
  obtain ⟨⟨es, c, h1, h2⟩, h3⟩ := h
  exact ⟨⟨es, c, by rw [f.block r (lt_of_heap h1) hs]; exact h1, h2⟩, h3⟩
theorem MAt.lt {w : World} {r : Nat} {L : List (Int × Nat)} (h : MAt w r L) : r < w.heap.size := by
  obtain ⟨⟨es, c, h1, h2⟩, h3⟩ := h
  exact lt_of_heap h1
theorem MAt.setCell {w : World} {r : Nat} {L : List (Int × Nat)} (h : MAt w r L) (a i : Nat) (hra : r ≠ a) (v : Value) : MAt (w.setCell ⟨a, i, none⟩ v) r L := by
  obtain ⟨⟨es, c, h1, h2⟩, h3⟩ := h
  exact ⟨⟨es, c, by rw [Below.heap_setCell _ _ _ _ hra]; exact h1, h2⟩, h3⟩

theorem find_in {b : Int} : ∀ (es : List MapEntry) (L : List (Int × Nat)) (i : Nat), es.map meOf = L.map mvOf → (L.map Prod.fst).Nodup → ∀ a, (b, a) ∈ L → ∃ j, Instr.findNow (.int .i64) (.int .i64 b) es i = some (some (i + j, ptr a)) ∧ L[j]? = some (b, a) := by
  intro es
  induction es with
  | nil => intro L i he hn a ha; cases L <;> simp at he ha
  | cons e es ih =>
    intro L i he hn a ha
    cases L with
    | nil => simp at he
    | cons q L =>
      simp only [List.map_cons, List.cons.injEq] at he
      obtain ⟨he1, he2⟩ := he
      obtain ⟨k, v, bn⟩ := e
      simp only [meOf, mvOf, Prod.mk.injEq] at he1
      obtain ⟨rfl, rfl⟩ := he1
      simp only [List.map_cons, List.nodup_cons] at hn
      by_cases hq : b = q.1
      · subst hq
        have : a = q.2 := by
          rcases List.mem_cons.1 ha with h | h
          · rw [← h]
          · exact absurd (List.mem_map.2 ⟨_, h, rfl⟩) hn.1
        subst this
        exact ⟨0, by simp [Instr.findNow, Instr.sameNow], rfl⟩
      · rcases List.mem_cons.1 ha with h | h
        · exact absurd (by rw [← h]) hq
        · obtain ⟨j, h1, h2⟩ := ih L (i + 1) he2 hn.2 a h
          refine ⟨j + 1, ?_, by simpa using h2⟩
          rw [show i + (j + 1) = i + 1 + j by omega, ← h1]
          have hqb : (b == q.1) = false := by simpa using hq
          simp [Instr.findNow, Instr.sameNow, hqb]

theorem find_out {b : Int} : ∀ (es : List MapEntry) (L : List (Int × Nat)) (i : Nat), es.map meOf = L.map mvOf → (∀ a, (b, a) ∉ L) → Instr.findNow (.int .i64) (.int .i64 b) es i = some none := by
  intro es
  induction es with
  | nil => intro L i he hn; rfl
  | cons e es ih =>
    intro L i he hn
    cases L with
    | nil => simp at he
    | cons q L =>
      simp only [List.map_cons, List.cons.injEq] at he
      obtain ⟨he1, he2⟩ := he
      obtain ⟨k, v, bn⟩ := e
      simp only [meOf, mvOf, Prod.mk.injEq] at he1
      obtain ⟨rfl, rfl⟩ := he1
      have hq : ¬ b = q.1 := fun h => hn q.2 (by subst h; exact List.mem_cons_self ..)
      have := ih L (i + 1) he2 (fun a ha => hn a (List.mem_cons_of_mem _ ha))
      have hqb : (b == q.1) = false := by simpa using hq
      simp [Instr.findNow, Instr.sameNow, hqb, this]

theorem map_erase {α β : Type} (f : α → β) : ∀ (l : List α) (j : Nat), (l.eraseIdx j).map f = (l.map f).eraseIdx j
  | [], _ => rfl
  | _ :: _, 0 => rfl
  | x :: l, j + 1 => by simp [map_erase f l j]
theorem chk (w : World) (b : Int) (e : Bool) : (Instr.checkKey e 10000 3 (.int .i64 b)).run Try.prog w = .ok () w := MapKept.run_checkKey Try.underlying3 (by simp [MapKept.IsKey]) e 9999
theorem zero75 (w : World) : (zeroValue 75).run Try.prog w = .ok (.pointer none) w := by simp [go_sem]

section
variable {w : World} {r : Nat} {L : List (Int × Nat)} {b : Int}
theorem run_look_in (h : MAt w r L) {a : Nat} (ha : (b, a) ∈ L) : (Instr.lookup 74 (.map (some r)) (.int .i64 b) false).run Try.prog w = .ok (ptr a) w := by
  obtain ⟨⟨es, c, h1, h2⟩, h3⟩ := h
  obtain ⟨j, h4, -⟩ := find_in es.toList L 0 h2 h3 a ha
  simp [Instr.lookup, Instr.findKey, run_underlying Try.underlying74, run_underlying Try.underlying3, MapKept.run_getObj_map h1, chk, h4, Result.andThen]
theorem run_look_out (h : MAt w r L) (hb : ∀ a, (b, a) ∉ L) : (Instr.lookup 74 (.map (some r)) (.int .i64 b) false).run Try.prog w = .ok (.pointer none) w := by
  obtain ⟨⟨es, c, h1, h2⟩, h3⟩ := h
  have h4 := find_out es.toList L 0 h2 hb
  simp [Instr.lookup, Instr.findKey, run_underlying Try.underlying74, run_underlying Try.underlying3, MapKept.run_getObj_map h1, chk, h4, Result.andThen]
theorem run_len_map (h : MAt w r L) : (Builtin.len_ #[74] 3 #[.map (some r)]).run Try.prog w = .ok (.int .i64 (L.length : Int)) w := by
  obtain ⟨⟨es, c, h1, h2⟩, h3⟩ := h
  have : es.size = L.length := by have := congrArg List.length h2; simpa using this
  simp [Builtin.len_, run_underlying Try.underlying74, MapKept.run_getObj_map h1, this, Result.andThen]
  rfl
theorem run_put_out (h : MAt w r L) (hb : ∀ a, (b, a) ∉ L) (a : Nat) : ∃ w', (Instr.mapUpdate 74 (.map (some r)) (.int .i64 b) (ptr a)).run Try.prog w = .ok () w' ∧ MAt w' r (L ++ [(b, a)]) ∧ Fr (fun k => k = r) w w' := by
  obtain ⟨⟨es, c, h1, h2⟩, h3⟩ := h
  have h4 := find_out es.toList L 0 h2 hb
  refine ⟨{ w with heap := w.heap.setIfInBounds r (.map (es.push { key := .int .i64 b, val := ptr a, born := c }) (c + 1)) }, ?_, ⟨⟨es.push { key := .int .i64 b, val := ptr a, born := c }, c + 1, ?_, ?_⟩, ?_⟩, rfl, rfl, rfl, by simp, fun k hk hs => ?_⟩
  · simp [Instr.mapUpdate, Instr.findKey, run_underlying Try.underlying74, run_underlying Try.underlying3, MapKept.run_getObj_map h1, MapKept.run_setObj_map _ h1, chk, h4, Result.andThen]
  · have := lt_of_heap h1
    simp [this]
  · simp [h2, meOf, mvOf]
  · rw [List.map_append, List.nodup_append]
    refine ⟨h3, by simp, ?_⟩
    intro x hx y hy e
    simp at hy
    subst hy e
    obtain ⟨⟨q1, q2⟩, hq, rfl⟩ := List.mem_map.1 hx
    exact hb _ hq
  · simp only []
    rw [Array.getElem?_setIfInBounds_ne (fun e => hs e.symm)]
theorem run_del_in (h : MAt w r L) {a : Nat} (ha : (b, a) ∈ L) : ∃ w', (Builtin.delete_ #[74, 3] 0 #[.map (some r), .int .i64 b]).run Try.prog w = .ok (.tuple #[]) w' ∧ (∃ j, L[j]? = some (b, a) ∧ MAt w' r (L.eraseIdx j)) ∧ Fr (fun k => k = r) w w' := by
  obtain ⟨⟨es, c, h1, h2⟩, h3⟩ := h
  obtain ⟨j, h4, h5⟩ := find_in es.toList L 0 h2 h3 a ha
  rw [Nat.zero_add] at h4
  refine ⟨{ w with heap := w.heap.setIfInBounds r (.map (es.eraseIdxIfInBounds j) c) }, ?_, ⟨j, h5, ⟨es.eraseIdxIfInBounds j, c, ?_, ?_⟩, ?_⟩, rfl, rfl, rfl, by simp, fun k hk hs => ?_⟩
  · simp [Builtin.delete_, Instr.findKey, run_underlying Try.underlying74, run_underlying Try.underlying3, MapKept.run_getObj_map h1, MapKept.run_setObj_map _ h1, chk, h4, Result.andThen]
  · have := lt_of_heap h1
    simp [this]
  · have hj : j < es.size := by
      have := congrArg List.length h2
      have hl := (List.getElem?_eq_some_iff.1 h5).1
      simp at this
      omega
    have e : (es.eraseIdxIfInBounds j).toList = es.toList.eraseIdx j := by
      unfold Array.eraseIdxIfInBounds
      rw [dif_pos hj, Array.toList_eraseIdx]
    rw [e]
    have := congrArg (fun l => l.eraseIdx j) h2
    simpa [map_erase] using this
  · rw [map_erase]
    exact h3.sublist (List.eraseIdx_sublist ..)
  · simp only []
    rw [Array.getElem?_setIfInBounds_ne (fun e => hs e.symm)]
end
end Go.Proofs.Ytdgmlopaeonacaa

namespace Go.Proofs.Ytdgmlopaeonacaa
set_option linter.unusedVariables false
set_option linter.unusedSimpArgs false
open Go.RowKit
set_option linter.unusedVariables false

attribute [local go_sem ↓] Go.wp_at_zero Go.wp_at_succ

/-- From a through l to z. -/
def Chn (f : Nat → Nat) : Nat → List Nat → Nat → Prop
  | a, [], z => f a = z
  | a, b :: l, z => f a = b ∧ Chn f b l z
def lst (u : Nat) : List Nat → Nat
  | [] => u
  | b :: l => lst b l
def upd (f : Nat → Nat) (k v : Nat) (x : Nat) : Nat := if x = k then v else f x

theorem Chn.app {f : Nat → Nat} {b z : Nat} {B : List Nat} : ∀ {A : List Nat} {u : Nat}, Chn f u (A ++ b :: B) z ↔ Chn f u A b ∧ Chn f b B z
  | [], u => Iff.rfl
  | a :: A, u => by
    show (f u = a ∧ Chn f a (A ++ b :: B) z) ↔ (f u = a ∧ Chn f a A b) ∧ Chn f b B z
    rw [Chn.app (A := A), and_assoc]
theorem lst_mem (u : Nat) (A : List Nat) : lst u A ∈ u :: A := by
  induction A generalizing u with
  | nil => simp [lst]
  | cons a A ih => exact List.mem_cons_of_mem _ (ih a)
theorem lst_app (u b : Nat) (A : List Nat) : lst u (A ++ [b]) = b := by
  induction A generalizing u with
  | nil => rfl
  | cons a A ih => exact ih a
theorem Chn.last {f : Nat → Nat} {z : Nat} : ∀ {A : List Nat} {u : Nat}, Chn f u A z → f (lst u A) = z
  | [], u, h => h
  | a :: A, u, h => Chn.last (A := A) h.2
theorem Chn.off {f : Nat → Nat} {k v z : Nat} : ∀ {A : List Nat} {u : Nat}, Chn f u A z → k ∉ u :: A → Chn (upd f k v) u A z
  | [], u, h, hk => by
    have : ¬ u = k := fun e => hk (by simp [e])
    show upd f k v u = z
    unfold upd; rw [if_neg this]; exact h
  | a :: A, u, h, hk => by
    have : ¬ u = k := fun e => hk (by simp [e])
    refine ⟨?_, h.2.off (fun hm => hk (List.mem_cons_of_mem _ hm))⟩
    unfold upd; rw [if_neg this]; exact h.1
/-- The last one leads elsewhere. -/
theorem Chn.turn {f : Nat → Nat} {v z : Nat} : ∀ {A : List Nat} {u : Nat}, Chn f u A z → (u :: A).Nodup → Chn (upd f (lst u A) v) u A v
  | [], u, h, hn => by show upd f u v u = v; simp [upd]
  | a :: A, u, h, hn => by
    have hn' := List.nodup_cons.1 hn
    refine ⟨?_, h.2.turn hn'.2⟩
    have : ¬ u = lst a A := fun e => hn'.1 (by rw [e]; exact lst_mem a A)
    unfold upd
    show (if u = lst a A then v else f u) = a
    rw [if_neg this]; exact h.1

def adr (R : List (Nat × Pl)) : List Nat := R.map Prod.fst
theorem adr_app (A B : List (Nat × Pl)) : adr (A ++ B) = adr A ++ adr B := by simp [adr]

/-- The ring: its beginning u, then the blocks, the longest ago first. -/
structure Ring (w : World) (u : Nat) (R : List (Nat × Pl)) : Prop where
  ex : ∃ older newer : Nat → Nat, (∀ q ∈ (u, zeroP 0) :: R, NAt w q.1 (ptr (older q.1)) (ptr (newer q.1)) q.2) ∧ Chn newer u (adr R) u ∧ ∀ k ∈ u :: adr R, older (newer k) = k
  nd : (u :: adr R).Nodup

theorem Ring.kept {S : Nat → Prop} {w w' : World} {u : Nat} {R : List (Nat × Pl)} (h : Ring w u R) (f : Fr S w w') (hs : ∀ k ∈ u :: adr R, ¬ S k) : Ring w' u R := by
  obtain ⟨⟨o, n, h1, h2⟩, h3⟩ := h
  refine ⟨⟨o, n, fun q hq => (h1 q hq).kept f (hs _ ?_), h2⟩, h3⟩
  rcases List.mem_cons.1 hq with rfl | hq
  · exact List.mem_cons_self ..
  · exact List.mem_cons_of_mem _ (List.mem_map.2 ⟨q, hq, rfl⟩)

theorem Ring.at {w : World} {u : Nat} {R : List (Nat × Pl)} (h : Ring w u R) {k : Nat} (hk : k ∈ u :: adr R) : ∃ o n y, NAt w k (ptr o) (ptr n) y := by
  obtain ⟨⟨o, n, h1, h2⟩, h3⟩ := h
  rcases List.mem_cons.1 hk with rfl | hk
  · exact ⟨_, _, _, h1 _ (List.mem_cons_self ..)⟩
  · obtain ⟨q, hq, rfl⟩ := List.mem_map.1 hk
    exact ⟨_, _, _, h1 q (List.mem_cons_of_mem _ hq)⟩

theorem mem_adr {R : List (Nat × Pl)} {q : Nat × Pl} (h : q ∈ R) : q.1 ∈ adr R := List.mem_map.2 ⟨q, h, rfl⟩

theorem ring_unlink (w : World) (u : Nat) (R1 R2 : List (Nat × Pl)) (q : Nat × Pl) (h : Ring w u (R1 ++ q :: R2)) : Calls Try.prog 66 #[ptr q.1] w fun e w' => e = .returned (.tuple #[]) ∧ Ring w' u (R1 ++ R2) ∧ NAt w' q.1 (.pointer none) (.pointer none) q.2 ∧ Fr (fun k => k ∈ u :: adr (R1 ++ q :: R2)) w w' := by
  obtain ⟨⟨o, n, h1, h2, h3⟩, hnd⟩ := h
  have hA : adr (R1 ++ q :: R2) = adr R1 ++ q.1 :: adr R2 := by simp [adr]
  rw [hA] at h2 h3 hnd
  obtain ⟨hc1, hc2⟩ := Chn.app.1 h2
  have hsub : ∀ k, k ∈ u :: (adr R1 ++ adr R2) → k ∈ u :: (adr R1 ++ q.1 :: adr R2) := fun k hk => by simp at hk ⊢; rcases hk with h | h | h <;> simp [h]
  have hqm : q.1 ∈ u :: (adr R1 ++ q.1 :: adr R2) := by simp
  have hnd2 : (u :: (adr R1 ++ adr R2)).Nodup ∧ q.1 ∉ u :: (adr R1 ++ adr R2) := by
    have e : (u :: (adr R1 ++ q.1 :: adr R2)).Perm (q.1 :: u :: (adr R1 ++ adr R2)) := by
      have := List.perm_middle (a := q.1) (l₁ := u :: adr R1) (l₂ := adr R2)
      simpa using this
    have := (e.nodup_iff).1 hnd
    exact ⟨(List.nodup_cons.1 this).2, (List.nodup_cons.1 this).1⟩
  obtain ⟨hnd2, hq⟩ := hnd2
  have hpm : lst u (adr R1) ∈ u :: (adr R1 ++ adr R2) := by
    have := lst_mem u (adr R1)
    simp at this ⊢
    rcases this with h | h
    · exact .inl h
    · exact .inr (.inl h)
  have hpn : n (lst u (adr R1)) = q.1 := hc1.last
  have hop : o q.1 = lst u (adr R1) := by rw [← hpn]; exact h3 _ (hsub _ hpm)
  have hnm : n q.1 ∈ u :: (adr R1 ++ adr R2) := by
    cases hR : adr R2 with
    | nil => rw [hR] at hc2; have : n q.1 = u := hc2; rw [this]; simp
    | cons b B => rw [hR] at hc2; have : n q.1 = b := hc2.1; rw [this]; simp
  have get : ∀ k, k ∈ u :: (adr R1 ++ q.1 :: adr R2) → ∃ y, NAt w k (ptr (o k)) (ptr (n k)) y := fun k hk => by
    rcases List.mem_cons.1 hk with rfl | hk
    · exact ⟨_, h1 _ (List.mem_cons_self ..)⟩
    · rw [← hA] at hk
      obtain ⟨x, hx, rfl⟩ := List.mem_map.1 hk
      exact ⟨_, h1 x (List.mem_cons_of_mem _ hx)⟩
  have hx := h1 q (by simp)
  obtain ⟨yp, hp⟩ := get _ (hsub _ hpm)
  obtain ⟨yn, hn⟩ := get _ (hsub _ hnm)
  rw [hpn] at hp
  rw [h3 _ hqm] at hn
  rw [hop] at hx
  refine (unlink_any w q.1 (lst u (adr R1)) (n q.1) q.2 hx ⟨_, _, hp⟩ ⟨_, _, hn⟩ (fun e => hq (by rw [e]; exact hpm)) (fun e => hq (by rw [e]; exact hnm))).mono ?_
  rintro e w' ⟨rfl, k1, k2, k3⟩
  refine ⟨rfl, ⟨⟨fun k => if k = n q.1 then lst u (adr R1) else o k, upd n (lst u (adr R1)) (n q.1), fun x hx => ?_, ?_, fun k hk => ?_⟩, by rw [adr_app]; exact hnd2⟩, k2, k3.mono fun k _ hk => ?_⟩
  · have hxm : x.1 ∈ u :: (adr R1 ++ adr R2) := by
      rcases List.mem_cons.1 hx with rfl | hx
      · exact List.mem_cons_self ..
      · rw [← adr_app]; exact List.mem_cons_of_mem _ (mem_adr hx)
    have hx' : x ∈ (u, zeroP 0) :: (R1 ++ q :: R2) := by
      rcases List.mem_cons.1 hx with rfl | hx
      · exact List.mem_cons_self ..
      · refine List.mem_cons_of_mem _ ?_
        rcases List.mem_append.1 hx with h | h
        · exact List.mem_append_left _ h
        · exact List.mem_append_right _ (List.mem_cons_of_mem _ h)
    have := k1 _ _ _ _ (h1 x hx') (fun e => hq (by rw [← e]; exact hxm))
    unfold upd
    have e1 : (if x.1 = n q.1 then ptr (lst u (adr R1)) else ptr (o x.1)) = ptr (if x.1 = n q.1 then lst u (adr R1) else o x.1) := by split <;> rfl
    have e2 : (if x.1 = lst u (adr R1) then ptr (n q.1) else ptr (n x.1)) = ptr (if x.1 = lst u (adr R1) then n q.1 else n x.1) := by split <;> rfl
    rw [e1, e2] at this
    exact this
  · rw [adr_app]
    have hnd1 : (u :: adr R1).Nodup := by
      have := hnd2
      rw [show u :: (adr R1 ++ adr R2) = (u :: adr R1) ++ adr R2 from rfl] at this
      exact (List.nodup_append.1 this).1
    have t1 : Chn (upd n (lst u (adr R1)) (n q.1)) u (adr R1) (n q.1) := hc1.turn hnd1
    cases hR : adr R2 with
    | nil =>
      rw [hR] at hc2
      have e : n q.1 = u := hc2
      rw [List.append_nil]
      have t2 := t1
      rw [e] at t2
      rw [e]
      exact t2
    | cons b B =>
      rw [hR] at hc2 hnd2
      have e : n q.1 = b := hc2.1
      refine Chn.app.2 ⟨?_, hc2.2.off (fun hm => ?_)⟩
      · have t2 := t1
        rw [e] at t2
        rw [e]
        exact t2
      · have hd := hnd2
        rw [show u :: (adr R1 ++ b :: B) = (u :: adr R1) ++ b :: B from rfl] at hd
        exact (List.nodup_append.1 hd).2.2 _ (lst_mem u (adr R1)) _ hm rfl
  · rw [adr_app] at hk
    show (if upd n (lst u (adr R1)) (n q.1) k = n q.1 then lst u (adr R1) else o (upd n (lst u (adr R1)) (n q.1) k)) = k
    unfold upd
    by_cases hkp : k = lst u (adr R1)
    · rw [if_pos hkp, if_pos rfl, hkp]
    · rw [if_neg hkp]
      have hne : ¬ n k = n q.1 := fun e => by
        have := congrArg o e
        rw [h3 _ (hsub _ hk), h3 _ hqm] at this
        exact hq (by rw [← this]; exact hk)
      rw [if_neg hne]
      exact h3 _ (hsub _ hk)
  · rw [hA]
    rcases hk with rfl | rfl | rfl
    · exact hsub _ hpm
    · exact hsub _ hnm
    · exact hqm

theorem ring_link (w : World) (u : Nat) (R : List (Nat × Pl)) (a : Nat) (x : Pl) (o' m' : Value) (h : Ring w u R) (ha : NAt w a o' m' x) (hna : a ∉ u :: adr R) : Calls Try.prog 65 #[ptr a, ptr u] w fun e w' => e = .returned (.tuple #[]) ∧ Ring w' u (R ++ [(a, x)]) ∧ Fr (fun k => k = a ∨ k ∈ u :: adr R) w w' := by
  obtain ⟨⟨o, n, h1, h2, h3⟩, hnd⟩ := h
  have get : ∀ k, k ∈ u :: adr R → ∃ y, NAt w k (ptr (o k)) (ptr (n k)) y := fun k hk => by
    rcases List.mem_cons.1 hk with rfl | hk
    · exact ⟨_, h1 _ (List.mem_cons_self ..)⟩
    · obtain ⟨x, hx, rfl⟩ := List.mem_map.1 hk
      exact ⟨_, h1 x (List.mem_cons_of_mem _ hx)⟩
  have hpm := lst_mem u (adr R)
  have hpn : n (lst u (adr R)) = u := h2.last
  have hou : o u = lst u (adr R) := by have := h3 _ hpm; rw [hpn] at this; exact this
  have hu := h1 (u, zeroP 0) (List.mem_cons_self ..)
  obtain ⟨yp, hp⟩ := get _ hpm
  rw [hpn] at hp
  rw [show o (u, zeroP 0).1 = lst u (adr R) from hou] at hu
  refine (linkAhead_any w a u (lst u (adr R)) x o' m' ha ⟨_, _, hu⟩ ⟨_, _, hp⟩ (fun e => hna (by rw [e]; simp)) (fun e => hna (by rw [e]; exact hpm))).mono ?_
  rintro e w' ⟨rfl, k1, k2, k3⟩
  have hadr : adr (R ++ [(a, x)]) = adr R ++ [a] := by simp [adr]
  refine ⟨rfl, ⟨⟨upd (upd o a (lst u (adr R))) u a, upd (upd n a u) (lst u (adr R)) a, fun y hy => ?_, ?_, fun k hk => ?_⟩, ?_⟩, k3.mono fun k _ hk => ?_⟩
  · by_cases hya : y ∈ (u, zeroP 0) :: R
    · have hym : y.1 ∈ u :: adr R := by
        rcases List.mem_cons.1 hya with rfl | hy
        · exact List.mem_cons_self ..
        · exact List.mem_cons_of_mem _ (mem_adr hy)
      have hne : ¬ y.1 = a := fun e => hna (by rw [← e]; exact hym)
      have := k1 _ _ _ _ (h1 y hya) hne
      unfold upd
      have e1 : (if y.1 = u then ptr a else ptr (o y.1)) = ptr (if y.1 = u then a else if y.1 = a then lst u (adr R) else o y.1) := by
        rw [if_neg hne]; split <;> rfl
      have e2 : (if y.1 = lst u (adr R) then ptr a else ptr (n y.1)) = ptr (if y.1 = lst u (adr R) then a else if y.1 = a then u else n y.1) := by
        rw [if_neg hne]; split <;> rfl
      rw [e1, e2] at this
      exact this
    · have : y = (a, x) := by
        simp at hy hya
        rcases hy with h | h | h
        · exact absurd h hya.1
        · exact absurd h hya.2
        · exact h
      subst this
      have e1 : upd (upd o a (lst u (adr R))) u a a = lst u (adr R) := by
        unfold upd
        rw [if_neg (fun e => hna (by rw [e]; simp)), if_pos rfl]
      have e2 : upd (upd n a u) (lst u (adr R)) a a = u := by
        unfold upd
        rw [if_neg (fun e => hna (by rw [e]; exact hpm)), if_pos rfl]
      show NAt w' a (ptr (upd (upd o a (lst u (adr R))) u a a)) (ptr (upd (upd n a u) (lst u (adr R)) a a)) x
      rw [e1, e2]
      exact k2
  · rw [hadr]
    refine Chn.app.2 ⟨(h2.off hna).turn hnd, ?_⟩
    show upd (upd n a u) (lst u (adr R)) a a = u
    unfold upd
    rw [if_neg (fun e => hna (by rw [e]; exact hpm)), if_pos rfl]
  · rw [hadr] at hk
    by_cases hka : k = a
    · subst hka
      have e2 : upd (upd n k u) (lst u (adr R)) k k = u := by
        unfold upd
        rw [if_neg (fun e => hna (by rw [e]; exact hpm)), if_pos rfl]
      rw [e2]
      simp [upd]
    · have hk' : k ∈ u :: adr R := by
        simp at hk ⊢
        rcases hk with h | h | h
        · exact .inl h
        · exact .inr h
        · exact absurd h hka
      by_cases hkp : k = lst u (adr R)
      · have e2 : upd (upd n a u) (lst u (adr R)) a k = a := by unfold upd; rw [if_pos hkp]
        rw [e2]
        unfold upd
        rw [if_neg (fun e => hna (by rw [e]; simp)), if_pos rfl, hkp]
      · have e2 : upd (upd n a u) (lst u (adr R)) a k = n k := by unfold upd; rw [if_neg hkp, if_neg hka]
        rw [e2]
        have h5 := h3 _ hk'
        have n1 : ¬ n k = u := fun e => hkp (by rw [← h5, e, hou])
        have n2 : ¬ n k = a := fun e => by
          have hm : n k ∈ u :: adr R := by
            have : ∀ (A : List Nat) (v z : Nat), Chn n v A z → ∀ k ∈ v :: A, n k = z ∨ n k ∈ A := by
              intro A
              induction A with
              | nil => intro v z h k hk; simp at hk; subst hk; exact .inl h
              | cons b B ih =>
                intro v z h k hk
                rcases List.mem_cons.1 hk with rfl | hk
                · exact .inr (by rw [h.1]; simp)
                · rcases ih b z h.2 k hk with h | h
                  · exact .inl h
                  · exact .inr (List.mem_cons_of_mem _ h)
            rcases this _ _ _ h2 k hk' with h | h
            · rw [h]; simp
            · exact List.mem_cons_of_mem _ h
          exact hna (by rw [← e]; exact hm)
        unfold upd
        rw [if_neg n1, if_neg n2]
        exact h5
  · rw [hadr, show u :: (adr R ++ [a]) = (u :: adr R) ++ [a] from rfl, List.nodup_append]
    refine ⟨hnd, by simp, ?_⟩
    intro x hx y hy e
    simp at hy
    subst hy e
    exact hna hx
  · rcases hk with rfl | rfl | rfl
    · exact .inr hpm
    · exact .inr (by simp)
    · exact .inl rfl
end Go.Proofs.Ytdgmlopaeonacaa

namespace Go.Proofs.Ytdgmlopaeonacaa
set_option linter.unusedVariables false
set_option linter.unusedSimpArgs false
open Go.RowKit
set_option linter.unusedVariables false

attribute [local go_sem ↓] Go.wp_at_zero Go.wp_at_succ

/-- What kind of block lies there. -/
def knd (w : World) (k : Nat) : Nat := match w.heap[k]? with
  | some (.cells _ t _) => t
  | some (.map _ _) => 1000
  | _ => 1001
theorem knd_cells {w : World} {k : Nat} {cs : Array Value} {t : TypeId} {f : Nat × Nat} (h : w.heap[k]? = some (.cells cs t f)) : knd w k = t := by unfold knd; rw [h]
theorem knd_map {w : World} {k : Nat} {es : Array MapEntry} {c : Nat} (h : w.heap[k]? = some (.map es c)) : knd w k = 1000 := by unfold knd; rw [h]
theorem knd_owns {w : World} {e n s : Nat} {v : Value} {xs : List Value} (h : w.ownsRow 0 e s v n xs) {b : Nat} (hb : v.ownBlock = some b) : knd w b = e := by
  rcases h.2 with ⟨rfl, -⟩ | ⟨g, cap, cur, rfl, -, hg, -⟩
  · simp [Value.ownBlock] at hb
  · simp [Value.ownBlock] at hb
    subst hb
    exact knd_cells hg

/-- The home, plainly. -/
structure Hm where
  D : List (List UInt8)
  log : List Int
  calls : Nat
  bad : Nat
  long : Nat

structure Hm.Ok (m : Hm) : Prop where
  len : m.D.length ≤ 1000
  all : ∀ d ∈ m.D, d.length = 384
  log : m.log.length ≤ m.calls
  bad : m.bad ≤ 1000000
  long : m.long ≤ 1000000
  few : m.calls ≤ 1000000000

def ivs (l : List Int) : List Value := l.map (Value.int .i64)
theorem ivs_length (l : List Int) : (ivs l).length = l.length := by simp [ivs]

/-- A block that no row of a home may lie in. -/
class Av where
  z : Option Nat
/-- None. -/
@[reducible] def avNo : Av := ⟨none⟩
theorem avNo_z (b : Nat) : avNo.z ≠ some b := by intro e; cases e

/-- The home in memory: h the struct, dv its blocks, lv its log. -/
structure HAt [Av] (w : World) (h : Nat) (dv lv : Value) (vs : List Value) (m : Hm) : Prop where
  heap : w.heap[h]? = some (.cells #[dv, lv, .int .i64 (m.calls : Int), .int .i64 (m.bad : Int), .int .i64 (m.long : Int)] 51 (0, 0))
  data : w.ownsRow 0 37 1 dv m.D.length vs
  rd : ∀ i (hi : i < m.D.length), ∃ b, vs[i]? = some (.slice (some ⟨b, 0, none⟩) 384 384) ∧ BAt w b m.D[i]
  log : w.ownsRow 0 3 1 lv m.log.length (ivs m.log)
  ok : m.Ok
  far : ∀ v ∈ vs, ∀ b, v.ownBlock = some b → Av.z ≠ some b
  old : ∀ b, Av.z = some b → b < w.heap.size

/-- Its blocks that may turn. -/
def HB (h : Nat) (dv lv : Value) (k : Nat) : Prop := k = h ∨ dv.ownBlock = some k ∨ lv.ownBlock = some k

section
variable {w w' : World} {h : Nat} {dv lv : Value} {vs : List Value} {m : Hm}
theorem HAt.kept [Av] (H : HAt w h dv lv vs m) {S : Nat → Prop} (f : Fr S w w') (hs : ∀ k, S k → knd w k ≠ 51 ∧ knd w k ≠ 37 ∧ knd w k ≠ 3 ∧ knd w k ≠ 5) : HAt w' h dv lv vs m := by
  refine ⟨?_, owns_kept H.data f (fun k hk e => (hs k e).2.1 (knd_owns H.data hk)), fun i hi => ?_, owns_kept H.log f (fun k hk e => (hs k e).2.2.1 (knd_owns H.log hk)), H.ok, H.far, fun z hz => Nat.lt_of_lt_of_le (H.old z hz) f.size⟩
  · rw [f.block h (lt_of_heap H.heap) (fun e => (hs h e).1 (knd_cells H.heap))]; exact H.heap
  · obtain ⟨b, h1, h2⟩ := H.rd i hi
    exact ⟨b, h1, h2.kept f (fun e => (hs b e).2.2.2 (knd_cells h2))⟩
theorem HAt.kept0 [Av] (H : HAt w h dv lv vs m) (f : Fr (fun _ => False) w w') : HAt w' h dv lv vs m := H.kept f (fun _ e => e.elim)
theorem HAt.knds [Av] (H : HAt w h dv lv vs m) {k : Nat} (hk : HB h dv lv k) : knd w k = 51 ∨ knd w k = 37 ∨ knd w k = 3 := by
  rcases hk with rfl | hk | hk
  · exact .inl (knd_cells H.heap)
  · exact .inr (.inl (knd_owns H.data hk))
  · exact .inr (.inr (knd_owns H.log hk))
theorem HAt.shape [Av] (H : HAt w h dv lv vs m) : ∃ ao c, dv = .slice ao m.D.length c := owns_shape H.data
end

section
variable (w : World) (h : Nat) (dv lv : Value) (vs : List Value) (m : Hm)
theorem hlen_any [Av] (H : HAt w h dv lv vs m) : Calls Try.prog 106 #[ptr h] w fun e w' => e = .returned (.int .i64 (m.D.length : Int)) ∧ w = w' := by
  have c0 := cell_of_heap H.heap 0
  obtain ⟨ao, c, rfl⟩ := H.shape
  simp at c0
  clear H
  unfold ptr
  go_enter Try.func106, Try.ntmps106
  go_wp2_with fail
  go_ret
  exact ⟨rfl, rfl⟩

/-- Does this call fail? -/
def Hm.fa (m : Hm) : Bool := decide (m.bad < m.calls + 1) && decide (m.calls + 1 ≤ m.bad + m.long)
def Hm.one (m : Hm) : Hm := { m with calls := m.calls + 1 }

theorem HAt.one [Av] (H : HAt w h dv lv vs m) (hc : m.calls < 1000000000) (u : Value) : HAt (w.setCell ⟨h, 2, none⟩ (.int .i64 ((m.calls : Int) + 1))) h dv lv vs m.one := by
  have f : Fr (fun k => k = h) w (w.setCell ⟨h, 2, none⟩ (.int .i64 ((m.calls : Int) + 1))) := (Fr.refl (fun k => k = h) w).setCell (p := ⟨h, 2, none⟩) (fun _ => rfl) _
  refine ⟨?_, owns_kept H.data f (fun k hk e => ?_), fun i hi => ?_, owns_kept H.log f (fun k hk e => ?_), ⟨H.ok.len, H.ok.all, Nat.le_succ_of_le H.ok.log, H.ok.bad, H.ok.long, hc⟩, H.far, fun z hz => Nat.lt_of_lt_of_le (H.old z hz) f.size⟩
  · have := heap_setCell_same w h 2 _ 51 (.int .i64 ((m.calls : Int) + 1)) H.heap
    rw [this]
    simp [Hm.one]
  · subst e; have := knd_owns H.data hk; rw [knd_cells H.heap] at this; exact absurd this (by decide)
  · obtain ⟨b, h1, h2⟩ := H.rd i hi
    refine ⟨b, h1, h2.kept f (fun e => ?_)⟩
    have e' : b = h := e
    subst e'
    have := knd_cells h2
    rw [knd_cells H.heap] at this
    exact absurd this (by decide)
  · subst e; have := knd_owns H.log hk; rw [knd_cells H.heap] at this; exact absurd this (by decide)

set_option maxHeartbeats 1000000 in
theorem fails_any [Av] (H : HAt w h dv lv vs m) (hc : m.calls < 1000000000) : Calls Try.prog 69 #[ptr h] w fun e w' => e = .returned (.bool m.fa) ∧ HAt w' h dv lv vs m.one ∧ Fr (fun k => k = h) w w' := by
  have c2 := cell_of_heap H.heap 2
  have c3 := cell_of_heap H.heap 3
  have c4 := cell_of_heap H.heap 4
  simp at c2 c3 c4
  have z2 := frozen_of_heap H.heap 2
  have HO := hide (HAt.one w h dv lv vs m H hc (.bool true))
  have ok := H.ok
  have hb := ok.bad
  have hl := ok.long
  have hfa : m.fa = (decide (m.bad < m.calls + 1) && decide (m.calls + 1 ≤ m.bad + m.long)) := rfl
  obtain ⟨b1, hb1⟩ : ∃ b, b = decide (m.bad < m.calls + 1) := ⟨_, rfl⟩
  obtain ⟨b2, hb2⟩ : ∃ b, b = decide (m.calls + 1 ≤ m.bad + m.long) := ⟨_, rfl⟩
  have e1 : decide ((m.bad : Int) < (m.calls : Int) + 1) = b1 := by rw [hb1]; congr 1; simp; omega
  have e2 : decide ((m.calls : Int) + 1 ≤ (m.bad : Int) + (m.long : Int)) = b2 := by rw [hb2]; congr 1; simp; omega
  rw [← hb1, ← hb2] at hfa
  rw [hfa]
  have F1 : Hid (Fr (fun k => k = h) w (w.setCell ⟨h, 2, none⟩ (.int .i64 ((m.calls : Int) + 1)))) := hide ((Fr.refl (fun k => k = h) w).setCell (p := ⟨h, 2, none⟩) (fun _ => rfl) _)
  clear H ok hb1 hb2 hfa
  unfold ptr
  generalize m.one = m1 at *
  generalize m.calls = mc at *
  generalize m.bad = mb at *
  generalize m.long = ml at *
  cases b1
  · go_enter Try.func69, Try.ntmps69
    go_wp2_with fail
    go_quiet (fail)
    go_wp2_with fail
    go_ret
    exact ⟨rfl, (unhide HO).kept0 (Fr.ofDrewN _ _), (unhide F1).trans (Fr.ofDrewN (S := fun _ => False) _ _) (fun _ _ h => h.elim)⟩
  · go_enter Try.func69, Try.ntmps69
    go_wp2_with fail
    go_quiet (fail)
    go_wp2_with fail
    go_ret
    exact ⟨rfl, (unhide HO).kept0 (Fr.ofDrewN _ _), (unhide F1).trans (Fr.ofDrewN (S := fun _ => False) _ _) (fun _ _ h => h.elim)⟩
end
end Go.Proofs.Ytdgmlopaeonacaa

namespace Go.Proofs.Ytdgmlopaeonacaa
set_option linter.unusedVariables false
set_option linter.unusedSimpArgs false
open Go.RowKit
set_option linter.unusedVariables false

attribute [local go_sem ↓] Go.wp_at_zero Go.wp_at_succ

theorem owns_at {w : World} {e n : Nat} {v : Value} {xs : List Value} (h : w.ownsRow 0 e 1 v n xs) (hn : 0 < n) : ∃ g c cur, v = .slice (some ⟨g, 0, none⟩) n c ∧ n ≤ c ∧ c ≤ maxLen ∧ w.heap[g]? = some (.cells cur e (0, 0)) ∧ cur.size = c ∧ (∀ i, i < n → w.cell? ⟨g, i, none⟩ = xs[i]?) := by
  have h1 := h
  rcases h.2 with ⟨hv, h0⟩ | ⟨g, cap, cur, rfl, hb, hg, hnc, hcm, hcs, htake⟩
  · omega
  · refine ⟨g, cap, cur, rfl, hnc, hcm, hg, by simpa using hcs, fun i hi => ?_⟩
    have := World.ownsRow.cellAt h1 i (by omega)
    exact this

section
variable (w : World) (h : Nat) (dv lv : Value) (vs : List Value) (m : Hm)

set_option maxRecDepth 100000 in
set_option maxHeartbeats 1000000 in
theorem hread_any [Av] (i : Nat) (Di : List UInt8) (hDi : m.D[i]? = some Di) (H : HAt w h dv lv vs m) (hc : m.calls < 1000000000) : Calls Try.prog 67 #[ptr h, .int .i64 (i : Int)] w fun e w' =>
    ((m.fa = true ∧ e = .returned (.tuple #[.slice none 0 0, .int .i64 77])) ∨ (m.fa = false ∧ ∃ ao c, e = .returned (.tuple #[.slice ao 384 c, .int .i64 0]) ∧ Rd w' (.slice ao 384 c) Di ∧ ∀ b, (Value.slice ao 384 c).ownBlock = some b → w.heap.size ≤ b)) ∧ HAt w' h dv lv vs m.one ∧ Fr (fun k => k = h) w w' := by
  obtain ⟨hi, hDi⟩ := List.getElem?_eq_some_iff.1 hDi
  have HF := hide (fails_any w h dv lv vs m H hc)
  clear H hc
  unfold ptr at *
  rcases hfa : m.fa with _ | _
  · rw [hfa] at HF
    go_enter Try.func67, Try.ntmps67
    go_wp2_with fail
    refine (unhide HF).mono ?_
    rintro e w1 ⟨rfl, H1, f1⟩
    have c0 := cell_of_heap H1.heap 0
    simp at c0
    obtain ⟨g, c, cur, rfl, hnc, hcm, hg, hcs, hcells⟩ := owns_at H1.data (by show 0 < m.D.length; omega)
    obtain ⟨b, hvb, hB⟩ := H1.rd i hi
    change BAt w1 b m.D[i] at hB
    rw [hDi] at hB
    have ci := hcells i hi
    rw [hvb] at ci
    have hlen : Di.length = 384 := by rw [← hDi]; exact H1.ok.all _ (List.getElem_mem hi)
    have hR := hB.rd (by rw [hlen]; decide)
    rw [hlen] at hR
    have hlt : (i : Int) < (m.D.length : Int) := by omega
    have hic : i < c := by have : m.D.length ≤ c := hnc; omega
    change w1.cell? ⟨h, 0, none⟩ = some (.slice (some ⟨g, 0, none⟩) m.D.length c) at c0
    have fa := (Fr.refl (fun _ => False) w1).alloc (.cells #[] 5)
    have c0a := (fa.cell (a := ⟨h, 0, none⟩) (lt_of_heap H1.heap) id).trans c0
    have cia := (fa.cell (a := ⟨g, i, none⟩) (lt_of_heap hg) id).trans ci
    have HR := hide hR
    have HH := hide H1
    have F1 := hide f1
    clear fa c0 ci hR
    obtain ⟨inf, hi0, hz0, hz1, hz2⟩ := info_parts Try.info5
    have HL := hide hlen
    clear hB hg hcs hcells H1 hlen f1 HF hvb hDi hcm hnc hfa
    go_wp2_with (at_builtin; refine wpList_app rfl (.tmp 8) (.tmp 15) 37 rfl 5 inf _ 1 1 Try.underlying37 hi0 hz0 hz1 hz2 rfl (by decide) (.slice (some ⟨w1.heap.size, 0, none⟩) 0 0) 0 [] rfl (.slice (some ⟨b, 0, none⟩) 384 384) rfl 384 (bvs Di) (owns_new (heap_alloc_new _ _)) (by have := ((unhide HR).kept ((Fr.refl (fun _ => False) w1).alloc (.cells #[] 5)) (fun _ _ h => h)).sr; rw [unhide HL] at this; exact this) (bvs_one _) (by decide) (by decide) ?_)
    intro ao c w2 o2 g2 p2
    have hR2 : Rd w2 (.slice ao 384 c) Di := by
      refine Rd.of_owns (base := 0) ?_
      rw [unhide HL]
      exact o2
    have HR2 := hide hR2
    have HP2 : Hid (∀ b, (Value.slice ao 384 c).ownBlock = some b → w1.heap.size ≤ b) := hide (fun b hb => by
      rcases p2 with e | ⟨k, e, hk⟩
      · rw [e] at hb; simp [Value.ownBlock] at hb; omega
      · rw [e] at hb; simp at hb; omega)
    have F2 := hide (((Fr.refl (fun _ => False) w1).alloc (.cells #[] 5)).grown g2 (fun k hk e => by simp [Value.ownBlock] at e; omega))
    clear o2 g2 p2 hR2
    go_wp2_with fail
    go_ret2
    refine ⟨.inr ⟨trivial, ao, c, rfl, unhide HR2, fun b hb => Nat.le_trans (unhide F1).size (unhide HP2 b hb)⟩, (unhide HH).kept0 (unhide F2), (unhide F1).trans (unhide F2) (fun _ _ h => h.elim)⟩
  · rw [hfa] at HF
    go_enter Try.func67, Try.ntmps67
    go_wp2_with fail
    refine (unhide HF).mono ?_
    rintro e w1 ⟨rfl, H1, f1⟩
    have HH := hide H1
    have F1 := hide f1
    clear H1 f1 HF
    go_wp2_with fail
    go_ret2
    exact ⟨.inl ⟨trivial, rfl⟩, unhide HH, unhide F1⟩
end
end Go.Proofs.Ytdgmlopaeonacaa
