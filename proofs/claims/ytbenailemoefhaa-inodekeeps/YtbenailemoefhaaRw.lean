/-
  Whole structs, loaded and stored at once: what a walk needs not go through cell by cell.
-/
import Derived.Test.YtbenailemoefhaaEx
import Derived.Laws.Tables
import Derived.Laws.Rows
import Derived.Handy
namespace Go.Proofs.Ytbenailemoefhaa
open Go.RowKit
set_option linter.unusedVariables false

/-- The cells of a block that may be written. -/
def row? (w : World) (n : Nat) : Option (Array Value) := match w.heap[n]? with | some (.cells cs _ (0, 0)) => some cs | _ => none
theorem row?_heap {w : World} {n : Nat} {cs : Array Value} (h : row? w n = some cs) : ∃ t, w.heap[n]? = some (.cells cs t (0, 0)) := by
  unfold row? at h
  split at h
  · rename_i e; injection h with h; subst h; exact ⟨_, e⟩
  · cases h
theorem row?_of {w w' : World} {n : Nat} (h : w'.heap[n]? = w.heap[n]?) : row? w' n = row? w n := by unfold row?; rw [h]
@[go_sem] theorem row?_alloc_at (w : World) (c : Array Value) (t : TypeId) (n : Nat) (hn : n = w.heap.size) : row? (w.alloc (.cells c t)) n = some c := by
  subst hn; unfold row?; rw [heap_alloc_new]; rfl
@[go_sem] theorem row?_alloc_past (w : World) (o : Obj) (n : Nat) (hn : n < w.heap.size) : row? (w.alloc o) n = row? w n := row?_of (Below.heap_alloc w o n hn)
@[go_sem] theorem row?_ext (w e : World) (n : Nat) (hn : n < w.heap.size) : row? (ext w e) n = row? w n := row?_of (ext_heap w e n hn)
@[go_sem] theorem setRow_alloc_at (w : World) (c d : Array Value) (t : TypeId) (n : Nat) (hn : n = w.heap.size) : (w.alloc (.cells c t)).setRow n d = w.alloc (.cells d t) := by
  subst hn
  unfold World.setRow World.alloc
  congr 1
  apply Array.ext_getElem?
  intro k
  simp only [Array.getElem?_modify, Array.getElem?_push]
  by_cases hk : k = w.heap.size
  · subst hk; simp
  · simp [hk, Ne.symm hk]
@[go_sem] theorem setRow_alloc_past (w : World) (o : Obj) (d : Array Value) (n : Nat) (hn : n < w.heap.size) : (w.alloc o).setRow n d = (w.setRow n d).alloc o := by
  unfold World.setRow World.alloc
  congr 1
  apply Array.ext_getElem?
  intro k
  simp only [Array.getElem?_modify, Array.getElem?_push, Array.size_modify]
  by_cases hk : k = w.heap.size
  · subst hk; simp [Nat.ne_of_lt hn]
  · simp [hk]
@[go_sem] theorem setRow_ext (w e : World) (d : Array Value) (n : Nat) (hn : n < w.heap.size) : (ext w e).setRow n d = ext (w.setRow n d) e := by
  unfold World.setRow ext
  congr 1
  apply Array.ext_getElem?
  intro k
  by_cases hk : k < w.heap.size
  · rw [Array.getElem?_append_left (by simpa using hk), Array.getElem?_modify, Array.getElem?_modify, Array.getElem?_append_left hk]
  · rw [Array.getElem?_append_right (by simp; omega), Array.getElem?_modify, Array.getElem?_append_right (by omega), if_neg (by omega), Array.size_modify]
theorem load_row (ty k : Nat) (fs : _) (hu : Try.prog.underlying ty = some (.struct fs)) (hi : (Try.prog.info? ty).map (·.size) = some k) (w : World) (n : Nat) (h : (row? w n).map Array.size = some k) : (loadVar ty ⟨n, 0, none⟩).run Try.prog w = .ok (.agg ((row? w n).getD #[])) w := by
  cases hr : row? w n with
  | none => rw [hr] at h; cases h
  | some cs =>
    obtain ⟨t, ht⟩ := row?_heap hr
    rw [hr] at h
    have hk : cs.size = k := by injection h
    exact run_loadVar_row w n t ty cs (0, 0) (.struct fs) ht hu rfl (by rw [hi, hk])
theorem store_row (ty k : Nat) (hi : (Try.prog.info? ty).map (·.size) = some k) (w : World) (n : Nat) (c : Array Value) (hc : c.size = k) (h1 : c.all (·.oneCell') = true) (h : (row? w n).map Array.size = some k) : (storeVar ty ⟨n, 0, none⟩ (.agg c)).run Try.prog w = .ok () (w.setRow n c) := by
  cases hr : row? w n with
  | none => rw [hr] at h; cases h
  | some cs =>
    obtain ⟨t, ht⟩ := row?_heap hr
    rw [hr] at h
    have hk : cs.size = k := by injection h
    exact run_storeVar_row w n t ty cs c ht (by rw [hi, hc]) (by rw [hk, hc]) h1
/-- The cells of a block, of so many. -/
def rowD (w : World) (n : Nat) : Array Value := (row? w n).getD #[]
def rowN (w : World) (n k : Nat) : Bool := decide ((row? w n).map Array.size = some k)
@[go_sem] theorem rowD_alloc_at (w : World) (c : Array Value) (t : TypeId) (n : Nat) (hn : n = w.heap.size) : rowD (w.alloc (.cells c t)) n = c := by unfold rowD; rw [row?_alloc_at w c t n hn]; rfl
@[go_sem] theorem rowD_alloc_past (w : World) (o : Obj) (n : Nat) (hn : n < w.heap.size) : rowD (w.alloc o) n = rowD w n := by unfold rowD; rw [row?_alloc_past w o n hn]
@[go_sem] theorem rowD_ext (w e : World) (n : Nat) (hn : n < w.heap.size) : rowD (ext w e) n = rowD w n := by unfold rowD; rw [row?_ext w e n hn]
@[go_sem] theorem rowN_alloc_past (w : World) (o : Obj) (n k : Nat) (hn : n < w.heap.size) : rowN (w.alloc o) n k = rowN w n k := by unfold rowN; rw [row?_alloc_past w o n hn]
@[go_sem] theorem rowN_ext (w e : World) (n k : Nat) (hn : n < w.heap.size) : rowN (ext w e) n k = rowN w n k := by unfold rowN; rw [row?_ext w e n hn]
end Go.Proofs.Ytbenailemoefhaa
