/-
  Arrays by value: out of a block and into one.
-/
import Derived.Test.YtlicmlioilkfdaaDoorPl
import Derived.Test.YtlicmlioilkfdaaDoorQl
import Derived.Deep.MidRow
namespace Go.Proofs.YtlicmlioilkfdaaDoor
open Go.RowKit
set_option linter.unusedVariables false
set_option linter.unusedSimpArgs false

theorem Fr.drewN {S : Nat → Prop} {a w : World} (h : Fr S a w) (n : Nat) : Fr S a (w.drewN n) := by
  induction n generalizing w with
  | zero => exact h
  | succ n ih => exact (ih h).drew

theorem frD (w : World) (n : Nat) (S : Nat → Prop) : Fr S w (w.drewN n) := (Fr.refl S w).drewN n

/-- n cells lie at block b. -/
def ZAt (w : World) (b t n : Nat) : Prop := ∃ cs, w.heap[b]? = some (.cells cs t (0, 0)) ∧ cs.size = n

theorem ZAt.kept {S : Nat → Prop} {w w' : World} {b t n : Nat} (h : ZAt w b t n) (f : Fr S w w') (hs : ¬ S b) : ZAt w' b t n := by
  obtain ⟨cs, h1, h2⟩ := h
  exact ⟨cs, by rw [f.block b (lt_of_heap h1) hs]; exact h1, h2⟩

theorem ZAt.setCell {w : World} {b t n : Nat} (h : ZAt w b t n) (g i : Nat) (u : Value) : ZAt (w.setCell ⟨g, i, none⟩ u) b t n := by
  obtain ⟨cs, h, hn⟩ := h
  by_cases e : b = g
  · subst e
    exact ⟨_, heap_setCell_same w b i cs t u h, by simpa using hn⟩
  · exact ⟨cs, by rw [Below.heap_setCell _ _ _ _ e]; exact h, hn⟩

theorem ZAt.there {w : World} {b t n : Nat} (h : ZAt w b t n) : w.there b 0 n := by
  obtain ⟨cs, h, hn⟩ := h
  intro j hj
  refine ⟨?_, frozen_of_heap h _⟩
  rw [cell_of_heap h, Nat.zero_add, Array.getElem?_eq_getElem (by omega)]
  rfl

theorem ZAt.new (w : World) (cs : Array Value) (t n : Nat) (h : cs.size = n) : ZAt (w.alloc (.cells cs t)) w.heap.size t n := ⟨cs, heap_alloc_new w _, h⟩

theorem WAt.range {w : World} {p t : Nat} {l : List Wd} (h : WAt w p t l) : w.rangeAt p 0 (wvs l) := by
  intro j v hv
  rw [Nat.zero_add, cell_of_heap h]
  simpa using hv

theorem WAt.z {w : World} {p t : Nat} {l : List Wd} (h : WAt w p t l) : ZAt w p t l.length := ⟨_, h, by simp [wvs_length]⟩

theorem wvs_one (l : List Wd) : (wvs l).toArray.all (·.oneCell') = true :=
  all_oneCell_toArray fun v hv => by
    obtain ⟨_, _, rfl⟩ := List.mem_map.1 hv
    rfl

theorem setCells_frame (b : Nat) (cs : List Value) : ∀ (o : Nat) (w : World), Fr (fun k => k = b) w (w.setCells b o cs) := by
  induction cs with
  | nil => intro o w; exact Fr.refl _ _
  | cons c cs ih =>
    intro o w
    exact (((Fr.refl (fun k => k = b) w).setCell (p := ⟨b, o, none⟩) (fun _ => rfl) c)).trans (ih (o + 1) _) (fun _ _ h => h)

/-- A whole block, written anew. -/
theorem setCells_whole (b : Nat) (t : TypeId) (cs : List Value) : ∀ (o : Nat) (w : World) (old : List Value), w.heap[b]? = some (.cells old.toArray t (0, 0)) → o + cs.length ≤ old.length →
    (w.setCells b o cs).heap[b]? = some (.cells (old.take o ++ cs ++ old.drop (o + cs.length)).toArray t (0, 0)) := by
  induction cs with
  | nil => intro o w old h hl; rw [show old.take o ++ [] ++ old.drop (o + ([] : List Value).length) = old by simp]; exact h
  | cons c cs ih =>
    intro o w old h hl
    have h1 := heap_setCell_same w b o old.toArray t c h
    rw [List.setIfInBounds_toArray] at h1
    have h2 := ih (o + 1) _ (old.set o c) h1 (by simp at hl ⊢; omega)
    show ((w.setCell ⟨b, o, none⟩ c).setCells b (o + 1) cs).heap[b]? = _
    rw [h2]
    have ho : o < old.length := by simp at hl; omega
    congr 3
    rw [List.take_set, List.drop_set_of_lt (by omega), List.take_succ_eq_append_getElem ho, List.set_append_right _ _ (by simp; omega)]
    have e : o - (old.take o).length = 0 := by simp; omega
    rw [e, List.set_cons_zero, List.length_cons, show o + 1 + cs.length = o + (cs.length + 1) by omega]
    simp

theorem ZAt.put {w : World} {b t n : Nat} (h : ZAt w b t n) (l : List Wd) (hl : l.length = n) : WAt (w.setCells b 0 (wvs l)) b t l := by
  obtain ⟨cs, h, hn⟩ := h
  have := setCells_whole b t (wvs l) 0 w cs.toList h (by simp [wvs_length]; omega)
  unfold WAt
  rw [this]
  simp [wvs_length, hl, hn]

/-- An array that is answered. -/
theorem ret_agg {P : Program} {fn : Func} {p : Tmp} {ty : TypeId} (h : fn.results = #[.cell p ty]) (tmps : Array Value) (w : World) (b o : Nat) (cs : List Value) (d : TypeDesc) (hp : tmps.getD p undef = .pointer (some ⟨b, o, none⟩)) (hc : w.rangeAt b o cs)
    (hu : P.underlying ty = some d) (hd : d.isRow = true) (hi : (P.info? ty).map (·.size) = some cs.length) : (results fn tmps).run P w = .ok (.agg cs.toArray) w := by
  have := run_loadVar_mid (P := P) w b o ty cs d hc hu hd hi
  rw [Array.getD_eq_getD_getElem?] at hp
  simp [results, h, hp, asAddr, this]
theorem ret_agg1 {P : Program} {fn : Func} {p t : Tmp} {ty : TypeId} (h : fn.results = #[.cell p ty, .tmp t]) (tmps : Array Value) (w : World) (b o : Nat) (cs : List Value) (d : TypeDesc) (hp : tmps.getD p undef = .pointer (some ⟨b, o, none⟩)) (hc : w.rangeAt b o cs)
    (hu : P.underlying ty = some d) (hd : d.isRow = true) (hi : (P.info? ty).map (·.size) = some cs.length) : (results fn tmps).run P w = .ok (.tuple #[.agg cs.toArray, tmps.getD t undef]) w := by
  have := run_loadVar_mid (P := P) w b o ty cs d hc hu hd hi
  rw [Array.getD_eq_getD_getElem?] at hp
  simp [results, h, hp, asAddr, this]
theorem ret_agg2 {P : Program} {fn : Func} {p t u : Tmp} {ty : TypeId} (h : fn.results = #[.cell p ty, .tmp t, .tmp u]) (tmps : Array Value) (w : World) (b o : Nat) (cs : List Value) (d : TypeDesc) (hp : tmps.getD p undef = .pointer (some ⟨b, o, none⟩)) (hc : w.rangeAt b o cs)
    (hu : P.underlying ty = some d) (hd : d.isRow = true) (hi : (P.info? ty).map (·.size) = some cs.length) : (results fn tmps).run P w = .ok (.tuple #[.agg cs.toArray, tmps.getD t undef, tmps.getD u undef]) w := by
  have := run_loadVar_mid (P := P) w b o ty cs d hc hu hd hi
  rw [Array.getD_eq_getD_getElem?] at hp
  simp [results, h, hp, asAddr, this]

theorem Tryd.u98 : Tryd.prog.underlying 98 = some (.array 64 23) := by kernel_rfl
theorem Tryd.s98 : (Tryd.prog.info? 98).map (·.size) = some 64 := by kernel_rfl
theorem Tryd.u50 : Tryd.prog.underlying 50 = some (.array 8 23) := by kernel_rfl
theorem Tryd.s50 : (Tryd.prog.info? 50).map (·.size) = some 8 := by kernel_rfl

end Go.Proofs.YtlicmlioilkfdaaDoor
