/-
  The map of blocks by their numbers.
-/
import Derived.Test.YtdgmlopaeonacaaA2
import Derived.MapKept
namespace Go.Proofs.Ytdgmlopaeonacaa
open Go.RowKit
set_option linter.unusedVariables false

attribute [local go_sem ↓] Go.wp_at_zero Go.wp_at_succ

/-- An entry of the map. -/
def meOf (e : MapEntry) : Value × Value := (e.key, e.val)
def mvOf (q : Int × Nat) : Value × Value := (.int .i64 q.1, ptr q.2)
/-- The map in memory: which block lies where. -/
def MAt (w : World) (r : Nat) (L : List (Int × Nat)) : Prop :=
  (∃ es clock, w.heap[r]? = some (.map es clock) ∧ es.toList.map meOf = L.map mvOf) ∧ (L.map Prod.fst).Nodup

theorem MAt.kept {S : Nat → Prop} {w w' : World} {r : Nat} {L : List (Int × Nat)} (h : MAt w r L) (f : Fr S w w') (hs : ¬ S r) : MAt w' r L := by
  obtain ⟨⟨es, c, h1, h2⟩, h3⟩ := h
  exact ⟨⟨es, c, by rw [f.block r (lt_of_heap h1) hs]; exact h1, h2⟩, h3⟩
theorem MAt.lt {w : World} {r : Nat} {L : List (Int × Nat)} (h : MAt w r L) : r < w.heap.size := by
  obtain ⟨⟨es, c, h1, h2⟩, h3⟩ := h
  exact lt_of_heap h1
theorem MAt.setCell {w : World} {r : Nat} {L : List (Int × Nat)} (h : MAt w r L) (a i : Nat) (hra : r ≠ a) (v : Value) : MAt (w.setCell ⟨a, i, none⟩ v) r L := by
  obtain ⟨⟨es, c, h1, h2⟩, h3⟩ := h
  exact ⟨⟨es, c, by rw [Below.heap_setCell _ _ _ _ hra]; exact h1, h2⟩, h3⟩

theorem find_in {b : Int} : ∀ (es : List MapEntry) (L : List (Int × Nat)) (i : Nat), es.map meOf = L.map mvOf → (L.map Prod.fst).Nodup → ∀ a, (b, a) ∈ L → ∃ j, Instr.findNow (.int .i64) (.int .i64 b) es i = some (some (i + j, ptr a)) ∧ L[j]? = some (b, a) := by
  intro es
  induction es with
  | nil => intro L i he hn a ha; cases L <;> simp at he ha
  | cons e es ih =>
    intro L i he hn a ha
    cases L with
    | nil => simp at he
    | cons q L =>
      simp only [List.map_cons, List.cons.injEq] at he
      obtain ⟨he1, he2⟩ := he
      obtain ⟨k, v, bn⟩ := e
      simp only [meOf, mvOf, Prod.mk.injEq] at he1
      obtain ⟨rfl, rfl⟩ := he1
      simp only [List.map_cons, List.nodup_cons] at hn
      by_cases hq : b = q.1
      · subst hq
        have : a = q.2 := by
          rcases List.mem_cons.1 ha with h | h
          · rw [← h]
          · exact absurd (List.mem_map.2 ⟨_, h, rfl⟩) hn.1
        subst this
        exact ⟨0, by simp [Instr.findNow, Instr.sameNow], rfl⟩
      · rcases List.mem_cons.1 ha with h | h
        · exact absurd (by rw [← h]) hq
        · obtain ⟨j, h1, h2⟩ := ih L (i + 1) he2 hn.2 a h
          refine ⟨j + 1, ?_, by simpa using h2⟩
          rw [show i + (j + 1) = i + 1 + j by omega, ← h1]
          have hqb : (b == q.1) = false := by simpa using hq
          simp [Instr.findNow, Instr.sameNow, hqb]

theorem find_out {b : Int} : ∀ (es : List MapEntry) (L : List (Int × Nat)) (i : Nat), es.map meOf = L.map mvOf → (∀ a, (b, a) ∉ L) → Instr.findNow (.int .i64) (.int .i64 b) es i = some none := by
  intro es
  induction es with
  | nil => intro L i he hn; rfl
  | cons e es ih =>
    intro L i he hn
    cases L with
    | nil => simp at he
    | cons q L =>
      simp only [List.map_cons, List.cons.injEq] at he
      obtain ⟨he1, he2⟩ := he
      obtain ⟨k, v, bn⟩ := e
      simp only [meOf, mvOf, Prod.mk.injEq] at he1
      obtain ⟨rfl, rfl⟩ := he1
      have hq : ¬ b = q.1 := fun h => hn q.2 (by subst h; exact List.mem_cons_self ..)
      have := ih L (i + 1) he2 (fun a ha => hn a (List.mem_cons_of_mem _ ha))
      have hqb : (b == q.1) = false := by simpa using hq
      simp [Instr.findNow, Instr.sameNow, hqb, this]

theorem map_erase {α β : Type} (f : α → β) : ∀ (l : List α) (j : Nat), (l.eraseIdx j).map f = (l.map f).eraseIdx j
  | [], _ => rfl
  | _ :: _, 0 => rfl
  | x :: l, j + 1 => by simp [map_erase f l j]
theorem chk (w : World) (b : Int) (e : Bool) : (Instr.checkKey e 10000 3 (.int .i64 b)).run Try.prog w = .ok () w := MapKept.run_checkKey Try.underlying3 (by simp [MapKept.IsKey]) e 9999
theorem zero75 (w : World) : (zeroValue 75).run Try.prog w = .ok (.pointer none) w := by simp [go_sem]

section
variable {w : World} {r : Nat} {L : List (Int × Nat)} {b : Int}
theorem run_look_in (h : MAt w r L) {a : Nat} (ha : (b, a) ∈ L) : (Instr.lookup 74 (.map (some r)) (.int .i64 b) false).run Try.prog w = .ok (ptr a) w := by
  obtain ⟨⟨es, c, h1, h2⟩, h3⟩ := h
  obtain ⟨j, h4, -⟩ := find_in es.toList L 0 h2 h3 a ha
  simp [Instr.lookup, Instr.findKey, run_underlying Try.underlying74, run_underlying Try.underlying3, MapKept.run_getObj_map h1, chk, h4, Result.andThen]
theorem run_look_out (h : MAt w r L) (hb : ∀ a, (b, a) ∉ L) : (Instr.lookup 74 (.map (some r)) (.int .i64 b) false).run Try.prog w = .ok (.pointer none) w := by
  obtain ⟨⟨es, c, h1, h2⟩, h3⟩ := h
  have h4 := find_out es.toList L 0 h2 hb
  simp [Instr.lookup, Instr.findKey, run_underlying Try.underlying74, run_underlying Try.underlying3, MapKept.run_getObj_map h1, chk, h4, Result.andThen]
theorem run_len_map (h : MAt w r L) : (Builtin.len_ #[74] 3 #[.map (some r)]).run Try.prog w = .ok (.int .i64 (L.length : Int)) w := by
  obtain ⟨⟨es, c, h1, h2⟩, h3⟩ := h
  have : es.size = L.length := by have := congrArg List.length h2; simpa using this
  simp [Builtin.len_, run_underlying Try.underlying74, MapKept.run_getObj_map h1, this, Result.andThen]
  rfl
theorem run_put_out (h : MAt w r L) (hb : ∀ a, (b, a) ∉ L) (a : Nat) : ∃ w', (Instr.mapUpdate 74 (.map (some r)) (.int .i64 b) (ptr a)).run Try.prog w = .ok () w' ∧ MAt w' r (L ++ [(b, a)]) ∧ Fr (fun k => k = r) w w' := by
  obtain ⟨⟨es, c, h1, h2⟩, h3⟩ := h
  have h4 := find_out es.toList L 0 h2 hb
  refine ⟨{ w with heap := w.heap.setIfInBounds r (.map (es.push { key := .int .i64 b, val := ptr a, born := c }) (c + 1)) }, ?_, ⟨⟨es.push { key := .int .i64 b, val := ptr a, born := c }, c + 1, ?_, ?_⟩, ?_⟩, rfl, rfl, rfl, by simp, fun k hk hs => ?_⟩
  · simp [Instr.mapUpdate, Instr.findKey, run_underlying Try.underlying74, run_underlying Try.underlying3, MapKept.run_getObj_map h1, MapKept.run_setObj_map _ h1, chk, h4, Result.andThen]
  · have := lt_of_heap h1
    simp [this]
  · simp [h2, meOf, mvOf]
  · rw [List.map_append, List.nodup_append]
    refine ⟨h3, by simp, ?_⟩
    intro x hx y hy e
    simp at hy
    subst hy e
    obtain ⟨⟨q1, q2⟩, hq, rfl⟩ := List.mem_map.1 hx
    exact hb _ hq
  · simp only []
    rw [Array.getElem?_setIfInBounds_ne (fun e => hs e.symm)]
theorem run_del_in (h : MAt w r L) {a : Nat} (ha : (b, a) ∈ L) : ∃ w', (Builtin.delete_ #[74, 3] 0 #[.map (some r), .int .i64 b]).run Try.prog w = .ok (.tuple #[]) w' ∧ (∃ j, L[j]? = some (b, a) ∧ MAt w' r (L.eraseIdx j)) ∧ Fr (fun k => k = r) w w' := by
  obtain ⟨⟨es, c, h1, h2⟩, h3⟩ := h
  obtain ⟨j, h4, h5⟩ := find_in es.toList L 0 h2 h3 a ha
  rw [Nat.zero_add] at h4
  refine ⟨{ w with heap := w.heap.setIfInBounds r (.map (es.eraseIdxIfInBounds j) c) }, ?_, ⟨j, h5, ⟨es.eraseIdxIfInBounds j, c, ?_, ?_⟩, ?_⟩, rfl, rfl, rfl, by simp, fun k hk hs => ?_⟩
  · simp [Builtin.delete_, Instr.findKey, run_underlying Try.underlying74, run_underlying Try.underlying3, MapKept.run_getObj_map h1, MapKept.run_setObj_map _ h1, chk, h4, Result.andThen]
  · have := lt_of_heap h1
    simp [this]
  · have hj : j < es.size := by
      have := congrArg List.length h2
      have hl := (List.getElem?_eq_some_iff.1 h5).1
      simp at this
      omega
    have e : (es.eraseIdxIfInBounds j).toList = es.toList.eraseIdx j := by
      unfold Array.eraseIdxIfInBounds
      rw [dif_pos hj, Array.toList_eraseIdx]
    rw [e]
    have := congrArg (fun l => l.eraseIdx j) h2
    simpa [map_erase] using this
  · rw [map_erase]
    exact h3.sublist (List.eraseIdx_sublist ..)
  · simp only []
    rw [Array.getElem?_setIfInBounds_ne (fun e => hs e.symm)]
end
end Go.Proofs.Ytdgmlopaeonacaa
