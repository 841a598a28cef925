/-
  The walk of the law RsAny.
-/
import Derived.Test.YtckmddkhkdcmmaaRs15
namespace Go.Proofs.Ytckmddkhkdcmmaa
open Go.RowKit
set_option linter.unusedVariables false

attribute [local go_sem ↓] Go.wp_at_zero Go.wp_at_succ

theorem okB_nat' {k m : Int} (h : okB k m = true) : ∃ k' m' : Nat, k = (k' : Int) ∧ m = (m' : Int) ∧ (1 ≤ k' ∧ k' ≤ 16) ∧ m' ≤ 8 := by
  have h' : 1 ≤ k ∧ k ≤ 16 ∧ 0 ≤ m ∧ m ≤ 8 := by simpa [okB] using h
  exact ⟨k.toNat, m.toNat, by omega, by omega, by omega, by omega⟩

theorem RdV.sr {w : World} {v : Value} {vs : List Value} (h : RdV w v vs) : Sr w 1 v vs.length vs := by
  rcases h with ⟨rfl, rfl⟩ | ⟨ad, cap, rfl, h1, h2, h3⟩
  · exact .inl ⟨rfl, rfl, rfl⟩
  · refine .inr ⟨ad, cap, rfl, by simp, fun j u hu => ?_⟩
    obtain ⟨hj, e⟩ := List.getElem?_eq_some_iff.1 hu
    rw [h3 j hj, e]

theorem RdV.set {w : World} {b o n cap : Nat} {vs : List Value} (h : RdV w (.slice (some ⟨b, o, none⟩) n cap) vs) (i : Nat) (x : Value) (hi : i < vs.length) : RdV (w.setCell ⟨b, o + i, none⟩ x) (.slice (some ⟨b, o, none⟩) n cap) (vs.set i x) := by
  obtain ⟨b', o', e, hn, h1, h2, h3⟩ := h.lits (by omega)
  simp only [Option.some.injEq, Addr.mk.injEq] at e
  obtain ⟨rfl, rfl, -⟩ := e
  refine .inr ⟨⟨b, o, none⟩, cap, by rw [List.length_set, hn], by rw [List.length_set]; omega, h2, fun j hj => ?_⟩
  rw [List.length_set] at hj
  rw [Addr.add_lit]
  by_cases e : i = j
  · subst e
    rw [World.cell?_setCell_same' w ⟨b, o + i, none⟩ x (by rw [h3 i hi]; rfl)]
    simp
  · have hne : (⟨b, o + i, none⟩ : Addr) ≠ ⟨b, o + j, none⟩ := by
      intro h
      simp only [Addr.mk.injEq] at h
      omega
    rw [World.cell?_setCell_other (h := hne), h3 j hj, List.getElem_set_ne e]

theorem Try.info4 : (Try.prog.info? 4).map (fun i => (i.zero, i.size, i.bytes)) = some (some (.bool false), 1, 1) := by kernel_rfl

theorem made_bools (n : Nat) : madeCells (Value.bool false).cells (n * 1) = (List.replicate n (Value.bool false)).toArray := by
  apply Array.ext
  · simp [size_madeCells]
  · intro i h1 h2
    simp [madeCells, Value.cells, Nat.mod_one]

/-- Truths in a block. -/
def TAt (w : World) (g : Nat) (bs : List Bool) : Prop := w.heap[g]? = some (.cells (bs.map Value.bool).toArray 4 (0, 0))

theorem TAt.kept {S : Nat → Prop} {w w' : World} {g : Nat} {bs : List Bool} (h : TAt w g bs) (f : Fr S w w') (hs : ¬ S g) : TAt w' g bs := by
  unfold TAt at *
  rw [f.block g (lt_of_heap h) hs]; exact h

theorem TAt.set {w : World} {g : Nat} {bs : List Bool} (h : TAt w g bs) (i : Nat) (b : Bool) : TAt (w.setCell ⟨g, i, none⟩ (.bool b)) g (bs.set i b) := by
  unfold TAt at *
  rw [heap_setCell_same w g i _ 4 _ h, List.setIfInBounds_toArray, List.map_set]

theorem TAt.cell {w : World} {g : Nat} {bs : List Bool} (h : TAt w g bs) (i : Nat) (hi : i < bs.length) : w.cell? ⟨g, i, none⟩ = some (.bool bs[i]) := by
  rw [cell_of_heap h]; simp [hi]

theorem TAt.rd {w : World} {g : Nat} {bs : List Bool} (h : TAt w g bs) (hm : bs.length ≤ maxLen) : RdV w (.slice (some ⟨g, 0, none⟩) bs.length bs.length) (bs.map Value.bool) := by
  have := RdV.of_heap h (by simpa using hm)
  simpa using this

theorem mkb_any (w : World) (n : Nat) (hn : n ≤ 100000) : ∃ w1, (Instr.makeSlice 79 (.int .i64 (n : Int)) (.int .i64 (n : Int))).run Try.prog w = .ok (.slice (some ⟨w.heap.size, 0, none⟩) n n) w1 ∧ TAt w1 w.heap.size (List.replicate n false) ∧ Fr (fun _ => False) w w1 := by
  obtain ⟨i, hi, hz0, hz1, hz2⟩ := info_parts Try.info4
  have := run_make (P := Try.prog) w 79 4 i _ Try.underlying79 hi hz0 .i64 .i64 (n : Int) (n : Int) (by omega) (Int.le_refl _) (by rw [hz2]; omega) (by omega)
  rw [hz1, Int.toNat_natCast, made_bools] at this
  refine ⟨_, this, ?_, (Fr.refl _ _).alloc _⟩
  have h2 := heap_alloc_new w (Obj.cells (List.replicate n (Value.bool false)).toArray 4)
  unfold TAt
  rw [List.map_replicate]
  exact h2

/-- What is at hand: the numbers that are lost are told. -/
structure GB (k m n : Nat) (D G : List (List UInt8)) (bs : List Bool) (gone : Nat) : Prop where
  hG : G.length = k + m
  hb : bs.length = k + m
  at' : ∀ (i : Nat), bs[i]?.getD false = true → G[i]? = (allL k m D n)[i]?
  cnt : (wl bs).length + gone = k + m
  le : gone ≤ m

theorem wl_all (n : Nat) : (wl (List.replicate n true)).length = n := by
  unfold wl wlK
  rw [List.length_replicate, List.filter_eq_self.2]
  · simp
  · intro j hj
    have := List.mem_range.1 hj
    simp [this]

theorem wl_set {bs : List Bool} {i : Nat} (hi : i < bs.length) (h : bs[i] = true) : (wl (bs.set i false)).length + 1 = (wl bs).length := by
  unfold wl wlK
  rw [List.length_set]
  have key : ∀ n, n ≤ bs.length → ((List.range n).filter (fun j => (bs.set i false)[j]?.getD false)).length + (if i < n then 1 else 0) = ((List.range n).filter (fun j => bs[j]?.getD false)).length := by
    intro n hn
    induction n with
    | zero => simp
    | succ n ih =>
      have ih := ih (by omega)
      rw [List.range_succ, List.filter_append, List.filter_append, List.length_append, List.length_append]
      by_cases e : i = n
      · subst e
        have e1 : (bs.set i false)[i]?.getD false = false := by simp [hi]
        have e2 : bs[i]?.getD false = true := by rw [List.getElem?_eq_getElem hi]; exact h
        simp only [List.filter_cons, e1, e2, List.filter_nil]
        simp at ih ⊢
        omega
      · have e1 : (bs.set i false)[n]?.getD false = bs[n]?.getD false := by rw [List.getElem?_set_ne e]
        simp only [List.filter_cons, e1, List.filter_nil]
        by_cases h2 : i < n
        · rw [if_pos h2] at ih; rw [if_pos (show i < n + 1 by omega)]; omega
        · rw [if_neg h2] at ih; rw [if_neg (show ¬ i < n + 1 by omega)]; omega
  have := key bs.length (Nat.le_refl _)
  rw [if_pos hi] at this
  exact this

theorem GB.lose {k m n gone : Nat} {D G : List (List UInt8)} {bs : List Bool} (h : GB k m n D G bs gone) {i : Nat} (hi : i < k + m) (hb : bs[i]? = some true) (hg : gone < m) (x : List UInt8) : GB k m n D (G.set i x) (bs.set i false) (gone + 1) := by
  have hlt : i < bs.length := by rw [h.hb]; exact hi
  have hbi : bs[i] = true := by rw [List.getElem?_eq_getElem hlt, Option.some.injEq] at hb; exact hb
  refine ⟨by rw [List.length_set]; exact h.hG, by rw [List.length_set]; exact h.hb, fun j hj => ?_, ?_, by omega⟩
  · by_cases e : i = j
    · subst e
      simp [hlt] at hj
    · rw [List.getElem?_set_ne e] at hj ⊢
      exact h.at' j hj
  · have := wl_set hlt hbi
    have := h.cnt
    omega

theorem GB.held {k m n gone : Nat} {D G : List (List UInt8)} {bs : List Bool} (h : GB k m n D G bs gone) (hD : D.length = k) (hn : ∀ l ∈ D, l.length = n) : HeldG k m n D G bs :=
  ⟨hD, hn, h.hG, h.hb, h.at', by have := h.cnt; have := h.le; omega⟩

theorem shl_even {ls : List (List UInt8)} {n : Nat} (hw : ∀ l ∈ ls, l.length = n) (hpos : 0 < ls.length) : shl ls (ls.length : Int) = if n ≤ 4096 then (n, 0) else (0, 1) := by
  have hhd : (ls.headD []).length = n := by
    cases ls with
    | nil => simp at hpos
    | cons a t => exact hw a (List.mem_cons_self ..)
  have ho : oneL ls (ls.length : Int) = (n, true) := by
    unfold oneL
    rw [if_pos ⟨rfl, fun l hl => by rw [hhd]; exact hw l hl⟩, hhd]
  unfold shl
  rw [ho]
  simp

end Go.Proofs.Ytckmddkhkdcmmaa
