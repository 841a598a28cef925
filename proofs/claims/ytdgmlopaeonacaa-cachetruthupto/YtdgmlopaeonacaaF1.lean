/-
  Acts that came in; huge; what a law keeps beside a cache.
-/
import Derived.Test.YtdgmlopaeonacaaE4
import Derived.Test.YtdgmlopaeonacaaC1
namespace Go.Proofs.Ytdgmlopaeonacaa
open Go.RowKit
set_option linter.unusedVariables false

attribute [local go_sem ↓] Go.wp_at_zero Go.wp_at_succ

/-- An act. -/
structure Ac where
  k : Int
  b : Int
  pv : Value
  P : List UInt8
  ch : Nat
  n : Int
def Ac.cells (a : Ac) : List Value := [.int .i64 a.k, .int .i64 a.b, a.pv, .int .u64 (a.ch : Int), .int .i64 a.n]
structure Ac.Ok (w : World) (a : Ac) : Prop where
  rd : Rd w a.pv a.P
  ch : a.ch < 18446744073709551616
  len : a.P.length ≤ 1048576
/-- A list of acts that can be read. -/
def RdC (w : World) (v : Value) (l : List Ac) : Prop :=
  ((v = .slice none 0 0 ∧ l = []) ∨
  ∃ ad cap, v = .slice (some ad) l.length cap ∧ l.length ≤ cap ∧ cap ≤ maxLen ∧ ∀ j (h : j < l.length), ∀ t u, l[j].cells[t]? = some u → w.cell? (ad.add (j * 5 + t)) = some u) ∧ ∀ a ∈ l, a.Ok w

theorem Ac.Ok.kept {w w' : World} {a : Ac} (h : a.Ok w) (f : Fr (fun _ => False) w w') : a.Ok w' :=
  ⟨h.rd.kept f (fun _ _ e => e), h.ch, h.len⟩
theorem RdC.kept {w w' : World} {v : Value} {l : List Ac} (h : RdC w v l) (f : Fr (fun _ => False) w w') : RdC w' v l := by
  refine ⟨?_, fun a ha => (h.2 a ha).kept f⟩
  rcases h.1 with h | ⟨ad, cap, h1, h2, h3, h4⟩
  · exact .inl h
  · refine .inr ⟨ad, cap, h1, h2, h3, fun j hj t u hu => ?_⟩
    rw [f.cell (World.block_lt_of_cell? w _ (h4 j hj t u hu)) id]; exact h4 j hj t u hu
theorem RdC.shape {w : World} {v : Value} {l : List Ac} (h : RdC w v l) : ∃ ao cap, v = .slice ao l.length cap := by
  rcases h.1 with ⟨rfl, rfl⟩ | ⟨ad, cap, rfl, _⟩
  · exact ⟨_, _, rfl⟩
  · exact ⟨_, _, rfl⟩
theorem RdC.lits {w : World} {ao : Option Addr} {n cap : Nat} {l : List Ac} (h : RdC w (.slice ao n cap) l) (hl : 0 < l.length) : ∃ b o, ao = some ⟨b, o, none⟩ ∧ n = l.length ∧ n ≤ cap ∧ cap ≤ maxLen ∧
    ∀ j (h : j < l.length), w.cell? ⟨b, o + j * 5, none⟩ = some (.int .i64 l[j].k) ∧ w.cell? ⟨b, o + j * 5 + 1, none⟩ = some (.int .i64 l[j].b) ∧ w.cell? ⟨b, o + j * 5 + 2, none⟩ = some l[j].pv ∧ w.cell? ⟨b, o + j * 5 + 3, none⟩ = some (.int .u64 (l[j].ch : Int)) ∧ w.cell? ⟨b, o + j * 5 + 4, none⟩ = some (.int .i64 l[j].n) := by
  rcases h.1 with ⟨_, rfl⟩ | ⟨ad, cap', hv, h1, h2, h3⟩
  · simp at hl
  · simp only [Value.slice.injEq] at hv
    obtain ⟨rfl, rfl, rfl⟩ := hv
    obtain ⟨b, off, spot⟩ := ad
    have hspot : spot = none := by simpa [Addr.add] using World.cell?_spot (h3 0 hl 0 _ rfl)
    subst hspot
    refine ⟨b, off, rfl, rfl, h1, h2, fun j hj => ?_⟩
    have e0 := h3 j hj 0 _ rfl
    have e1 := h3 j hj 1 _ rfl
    have e2 := h3 j hj 2 _ rfl
    have e3 := h3 j hj 3 _ rfl
    have e4 := h3 j hj 4 _ rfl
    rw [Addr.add_lit, ← Nat.add_assoc] at e0 e1 e2 e3 e4
    exact ⟨e0, e1, e2, e3, e4⟩

/-- A bool: few acts where it is false. -/
def HgE (L : Nat) (e : Ending) : Prop := ∃ b, e = .returned (.bool b) ∧ (b = false → L ≤ 200)
set_option maxRecDepth 100000 in
set_option maxHeartbeats 1000000 in
theorem huge_any (w : World) (v : Value) (l : List Ac) (hl : RdC w v l) : Calls Try.prog 6 #[v] w fun e w' => HgE l.length e ∧ w = w' := by
  obtain ⟨ao, cap, rfl⟩ := hl.shape
  have HL := hide hl
  obtain ⟨L, hL⟩ : ∃ L, L = l.length := ⟨_, rfl⟩
  rw [← hL] at HL ⊢
  have HLL := hide hL
  clear hl hL
  go_enter Try.func6, Try.ntmps6
  go_wp2_with fail
  go_loopw [3, 4] (fun x y W => ∃ (i : Nat) (z : Int), i ≤ L ∧ i ≤ 201 ∧ y = .int .i64 (i : Int) ∧ x = .int .i64 z ∧ Hid (W = w)) (fun _ y _ => 201 - (intOf y).toNat)
  case atStart => exact ⟨0, 0, by omega, by omega, rfl, rfl, hide rfl⟩
  case round =>
    obtain ⟨i, z, hi, hi2, rfl, rfl, hW⟩ := hrel
    have hw := unhide hW
    clear hW
    subst hw
    by_cases hlt : i < L
    · by_cases h2 : i ≤ 200
      · have i1 : i < l.length := by have := unhide HLL; omega
        obtain ⟨b, o, rfl, -, hnc, hcm, hc⟩ := (unhide HL).lits (by omega)
        obtain ⟨y0, y1, y2, y3, y4⟩ := hc i i1
        obtain ⟨po, pc, hp⟩ := ((unhide HL).2 l[i] (List.getElem_mem i1)).rd.shape
        rw [hp] at y2
        have hic : i < cap := by omega
        generalize l[i].P.length = pn at *
        clear y0 y1 y3 y4 hc hp
        have b2 : decide ((i : Int) ≤ 200) = true := by simp; omega
        go_wp2_with fail
        go_roundw
        case rel => exact ⟨i + 1, _, by omega, by omega, by go_num, rfl, hide (by trivial)⟩
        case measure => simp [intOf]; omega
      · have b2 : decide ((i : Int) ≤ 200) = false := by simp; omega
        have b3 : decide ((200 : Int) < (L : Int)) = true := by simp; omega
        go_wp2_with fail
        go_ret
        exact ⟨⟨true, rfl, by simp⟩, rfl⟩
    · have hie : L = i := by omega
      clear hlt hi
      subst hie
      by_cases h3 : 200 < L
      · have b4 : decide ((200 : Int) < (L : Int)) = true := by simp; omega
        go_wp2_with fail
        go_ret
        exact ⟨⟨true, rfl, by simp⟩, rfl⟩
      · have b4 : decide ((200 : Int) < (L : Int)) = false := by simp; omega
        go_wp2_with fail
        go_ret
        exact ⟨⟨_, rfl, fun _ => by omega⟩, rfl⟩

/-- Strings and changes that a law keeps. -/
def svs (l : List (List UInt8)) : List Value := l.map fun s => .string (str s)
def cvs (l : List Nat) : List Value := l.map fun s : Nat => .int .u64 (s : Int)
def SAt (w : World) (g : Nat) (l : List (List UInt8)) : Prop := w.heap[g]? = some (.cells (svs l).toArray 9 (0, 0))
def UAt (w : World) (g : Nat) (l : List Nat) : Prop := w.heap[g]? = some (.cells (cvs l).toArray 38 (0, 0))

section
variable {w0 : World × World} {w w' : World} {p h r u : Nat} {dv : Value} {c : Ca} {m : Hm} {l : List Pl} {g : Nat}
theorem SAt.kz {s : List (List UInt8)} (h : SAt w g s) (f : Fr (Kz w) w w') : SAt w' g s := by
  unfold SAt at *
  rw [f.block g (lt_of_heap h) (by unfold Kz; rw [knd_cells h]; decide)]; exact h
theorem UAt.kz {s : List Nat} (h : UAt w g s) (f : Fr (Kz w) w w') : UAt w' g s := by
  unfold UAt at *
  rw [f.block g (lt_of_heap h) (by unfold Kz; rw [knd_cells h]; decide)]; exact h
theorem SAt.kept {s : List (List UInt8)} {S : Nat → Prop} (h : SAt w g s) (f : Fr S w w') (hS : ¬ S g) : SAt w' g s := by
  unfold SAt at *
  rw [f.block g (lt_of_heap h) hS]; exact h
theorem UAt.kept {s : List Nat} {S : Nat → Prop} (h : UAt w g s) (f : Fr S w w') (hS : ¬ S g) : UAt w' g s := by
  unfold UAt at *
  rw [f.block g (lt_of_heap h) hS]; exact h
theorem SAt.set {s : List (List UInt8)} (h : SAt w g s) (i : Nat) (x : List UInt8) : SAt (w.setCell ⟨g, i, none⟩ (.string (str x))) g (s.set i x) := by
  unfold SAt at *
  rw [heap_setCell_same w g i _ 9 _ h]
  simp [svs, List.map_set]
theorem UAt.set {s : List Nat} (h : UAt w g s) (i : Nat) (x : Nat) : UAt (w.setCell ⟨g, i, none⟩ (.int .u64 (x : Int))) g (s.set i x) := by
  unfold UAt at *
  rw [heap_setCell_same w g i _ 38 _ h]
  simp [cvs, List.map_set]
theorem SAt.cell {s : List (List UInt8)} (h : SAt w g s) {i : Nat} {x : List UInt8} (hi : s[i]? = some x) : w.cell? ⟨g, i, none⟩ = some (.string (str x)) := by
  rw [cell_of_heap h]; simp [svs, hi]
theorem UAt.cell {s : List Nat} (h : UAt w g s) {i : Nat} {x : Nat} (hi : s[i]? = some x) : w.cell? ⟨g, i, none⟩ = some (.int .u64 (x : Int)) := by
  rw [cell_of_heap h]; simp [cvs, hi]
end
end Go.Proofs.Ytdgmlopaeonacaa
