/-
  Acts that came in; huge; what a law keeps beside a cache.
  A law's state beside a cache, act by act.
  What a law reads beside a cache: home's blocks and log.
  Kinds of operations of the law's walk.
  Kinds of operations of the law's own write.
-/
import Derived.Test.YtdgmlopaeonacaaM11
namespace Go.Proofs.Ytdgmlopaeonacaa
set_option linter.unusedVariables false
set_option linter.unusedSimpArgs false
open Go.RowKit
set_option linter.unusedVariables false

attribute [local go_sem ↓] Go.wp_at_zero Go.wp_at_succ

/-- An act. -/
structure Ac where
  k : Int
  b : Int
  pv : Value
  P : List UInt8
  ch : Nat
  n : Int
def Ac.cells (a : Ac) : List Value := [.int .i64 a.k, .int .i64 a.b, a.pv, .int .u64 (a.ch : Int), .int .i64 a.n]
structure Ac.Ok (w : World) (a : Ac) : Prop where
  rd : Rd w a.pv a.P
  ch : a.ch < 18446744073709551616
  len : a.P.length ≤ 1048576
/-- A list of acts that can be read. -/
def RdC (w : World) (v : Value) (l : List Ac) : Prop :=
  ((v = .slice none 0 0 ∧ l = []) ∨
  ∃ ad cap, v = .slice (some ad) l.length cap ∧ l.length ≤ cap ∧ cap ≤ maxLen ∧ ∀ j (h : j < l.length), ∀ t u, l[j].cells[t]? = some u → w.cell? (ad.add (j * 5 + t)) = some u) ∧ ∀ a ∈ l, a.Ok w

theorem Ac.Ok.kept {w w' : World} {a : Ac} (h : a.Ok w) (f : Fr (fun _ => False) w w') : a.Ok w' :=
  ⟨h.rd.kept f (fun _ _ e => e), h.ch, h.len⟩
theorem RdC.kept {w w' : World} {v : Value} {l : List Ac} (h : RdC w v l) (f : Fr (fun _ => False) w w') : RdC w' v l := by
  refine ⟨?_, fun a ha => (h.2 a ha).kept f⟩
  rcases h.1 with h | ⟨ad, cap, h1, h2, h3, h4⟩
  · exact .inl h
  · refine .inr ⟨ad, cap, h1, h2, h3, fun j hj t u hu => ?_⟩
    rw [f.cell (World.block_lt_of_cell? w _ (h4 j hj t u hu)) id]; exact h4 j hj t u hu
theorem RdC.shape {w : World} {v : Value} {l : List Ac} (h : RdC w v l) : ∃ ao cap, v = .slice ao l.length cap := by
  rcases h.1 with ⟨rfl, rfl⟩ | ⟨ad, cap, rfl, _⟩
  · exact ⟨_, _, rfl⟩
  · exact ⟨_, _, rfl⟩
theorem RdC.lits {w : World} {ao : Option Addr} {n cap : Nat} {l : List Ac} (h : RdC w (.slice ao n cap) l) (hl : 0 < l.length) : ∃ b o, ao = some ⟨b, o, none⟩ ∧ n = l.length ∧ n ≤ cap ∧ cap ≤ maxLen ∧
    ∀ j (h : j < l.length), w.cell? ⟨b, o + j * 5, none⟩ = some (.int .i64 l[j].k) ∧ w.cell? ⟨b, o + j * 5 + 1, none⟩ = some (.int .i64 l[j].b) ∧ w.cell? ⟨b, o + j * 5 + 2, none⟩ = some l[j].pv ∧ w.cell? ⟨b, o + j * 5 + 3, none⟩ = some (.int .u64 (l[j].ch : Int)) ∧ w.cell? ⟨b, o + j * 5 + 4, none⟩ = some (.int .i64 l[j].n) := by
  rcases h.1 with ⟨_, rfl⟩ | ⟨ad, cap', hv, h1, h2, h3⟩
  · simp at hl
  · simp only [Value.slice.injEq] at hv
    obtain ⟨rfl, rfl, rfl⟩ := hv
    obtain ⟨b, off, spot⟩ := ad
    have hspot : spot = none := by simpa [Addr.add] using World.cell?_spot (h3 0 hl 0 _ rfl)
    subst hspot
    refine ⟨b, off, rfl, rfl, h1, h2, fun j hj => ?_⟩
    have e0 := h3 j hj 0 _ rfl
    have e1 := h3 j hj 1 _ rfl
    have e2 := h3 j hj 2 _ rfl
    have e3 := h3 j hj 3 _ rfl
    have e4 := h3 j hj 4 _ rfl
    rw [Addr.add_lit, ← Nat.add_assoc] at e0 e1 e2 e3 e4
    exact ⟨e0, e1, e2, e3, e4⟩

/-- A bool: few acts where it is false. -/
def HgE (L : Nat) (e : Ending) : Prop := ∃ b, e = .returned (.bool b) ∧ (b = false → L ≤ 200)
set_option maxRecDepth 100000 in
set_option maxHeartbeats 1000000 in
theorem huge_any (w : World) (v : Value) (l : List Ac) (hl : RdC w v l) : Calls Try.prog 6 #[v] w fun e w' => HgE l.length e ∧ w = w' := by
  obtain ⟨ao, cap, rfl⟩ := hl.shape
  have HL := hide hl
  obtain ⟨L, hL⟩ : ∃ L, L = l.length := ⟨_, rfl⟩
  rw [← hL] at HL ⊢
  have HLL := hide hL
  clear hl hL
  go_enter Try.func6, Try.ntmps6
  go_wp2_with fail
  go_loopw [3, 4] (fun x y W => ∃ (i : Nat) (z : Int), i ≤ L ∧ i ≤ 201 ∧ y = .int .i64 (i : Int) ∧ x = .int .i64 z ∧ Hid (W = w)) (fun _ y _ => 201 - (intOf y).toNat)
  case atStart => exact ⟨0, 0, by omega, by omega, rfl, rfl, hide rfl⟩
  case round =>
    obtain ⟨i, z, hi, hi2, rfl, rfl, hW⟩ := hrel
    have hw := unhide hW
    clear hW
    subst hw
    by_cases hlt : i < L
    · by_cases h2 : i ≤ 200
      · have i1 : i < l.length := by have := unhide HLL; omega
        obtain ⟨b, o, rfl, -, hnc, hcm, hc⟩ := (unhide HL).lits (by omega)
        obtain ⟨y0, y1, y2, y3, y4⟩ := hc i i1
        obtain ⟨po, pc, hp⟩ := ((unhide HL).2 l[i] (List.getElem_mem i1)).rd.shape
        rw [hp] at y2
        have hic : i < cap := by omega
        generalize l[i].P.length = pn at *
        clear y0 y1 y3 y4 hc hp
        have b2 : decide ((i : Int) ≤ 200) = true := by simp; omega
        go_wp2_with fail
        go_roundw
        case rel => exact ⟨i + 1, _, by omega, by omega, by go_num, rfl, hide (by trivial)⟩
        case measure => simp [intOf]; omega
      · have b2 : decide ((i : Int) ≤ 200) = false := by simp; omega
        have b3 : decide ((200 : Int) < (L : Int)) = true := by simp; omega
        go_wp2_with fail
        go_ret
        exact ⟨⟨true, rfl, by simp⟩, rfl⟩
    · have hie : L = i := by omega
      clear hlt hi
      subst hie
      by_cases h3 : 200 < L
      · have b4 : decide ((200 : Int) < (L : Int)) = true := by simp; omega
        go_wp2_with fail
        go_ret
        exact ⟨⟨true, rfl, by simp⟩, rfl⟩
      · have b4 : decide ((200 : Int) < (L : Int)) = false := by simp; omega
        go_wp2_with fail
        go_ret
        exact ⟨⟨_, rfl, fun _ => by omega⟩, rfl⟩

/-- Strings and changes that a law keeps. -/
def svs (l : List (List UInt8)) : List Value := l.map fun s => .string (str s)
def cvs (l : List Nat) : List Value := l.map fun s : Nat => .int .u64 (s : Int)
def SAt (w : World) (g : Nat) (l : List (List UInt8)) : Prop := w.heap[g]? = some (.cells (svs l).toArray 9 (0, 0))
def UAt (w : World) (g : Nat) (l : List Nat) : Prop := w.heap[g]? = some (.cells (cvs l).toArray 38 (0, 0))

section
variable {w0 : World × World} {w w' : World} {p h r u : Nat} {dv : Value} {c : Ca} {m : Hm} {l : List Pl} {g : Nat}
theorem SAt.kz {s : List (List UInt8)} (h : SAt w g s) (f : Fr (Kz w) w w') : SAt w' g s := by
  unfold SAt at *
  rw [f.block g (lt_of_heap h) (by unfold Kz; rw [knd_cells h]; decide)]; exact h
theorem UAt.kz {s : List Nat} (h : UAt w g s) (f : Fr (Kz w) w w') : UAt w' g s := by
  unfold UAt at *
  rw [f.block g (lt_of_heap h) (by unfold Kz; rw [knd_cells h]; decide)]; exact h
theorem SAt.kept {s : List (List UInt8)} {S : Nat → Prop} (h : SAt w g s) (f : Fr S w w') (hS : ¬ S g) : SAt w' g s := by
  unfold SAt at *
  rw [f.block g (lt_of_heap h) hS]; exact h
theorem UAt.kept {s : List Nat} {S : Nat → Prop} (h : UAt w g s) (f : Fr S w w') (hS : ¬ S g) : UAt w' g s := by
  unfold UAt at *
  rw [f.block g (lt_of_heap h) hS]; exact h
theorem SAt.set {s : List (List UInt8)} (h : SAt w g s) (i : Nat) (x : List UInt8) : SAt (w.setCell ⟨g, i, none⟩ (.string (str x))) g (s.set i x) := by
  unfold SAt at *
  rw [heap_setCell_same w g i _ 9 _ h]
  simp [svs, List.map_set]
theorem UAt.set {s : List Nat} (h : UAt w g s) (i : Nat) (x : Nat) : UAt (w.setCell ⟨g, i, none⟩ (.int .u64 (x : Int))) g (s.set i x) := by
  unfold UAt at *
  rw [heap_setCell_same w g i _ 38 _ h]
  simp [cvs, List.map_set]
theorem SAt.cell {s : List (List UInt8)} (h : SAt w g s) {i : Nat} {x : List UInt8} (hi : s[i]? = some x) : w.cell? ⟨g, i, none⟩ = some (.string (str x)) := by
  rw [cell_of_heap h]; simp [svs, hi]
theorem UAt.cell {s : List Nat} (h : UAt w g s) {i : Nat} {x : Nat} (hi : s[i]? = some x) : w.cell? ⟨g, i, none⟩ = some (.int .u64 (x : Int)) := by
  rw [cell_of_heap h]; simp [cvs, hi]
end
end Go.Proofs.Ytdgmlopaeonacaa

namespace Go.Proofs.Ytdgmlopaeonacaa
set_option linter.unusedVariables false
set_option linter.unusedSimpArgs false
open Go.RowKit
set_option linter.unusedVariables false
set_option linter.unusedSectionVars false

section
variable {c : Ca} {m : Hm} {l : List Pl} {b : Int} {k : Nat}

theorem rm_calls (c : Ca) (m : Hm) (l : List Pl) : (rmR c m l).2.2.calls ≤ m.calls + 1 := (rmR_facts c m l).2.1
theorem rm_pin (h : PinB l k) : PinB (rmR c m l).2.1 k := fun x hx => h x ((rmR_facts c m l).2.2.1 x hx)
theorem ft_num (c : Ca) (m : Hm) (l : List Pl) (b : Int) : (ftR c m l b).2.2.1.calls ≤ m.calls + 2 ∧ (ftR c m l b).2.2.2.hit + (ftR c m l b).2.2.2.miss ≤ c.hit + c.miss + 1 := by
  have hr := rm_calls c m l
  unfold ftR
  split
  · split
    · split
      · exact ⟨by show m.calls ≤ _; omega, by show c.hit + 1 + c.miss ≤ _; omega⟩
      · exact ⟨by show m.calls ≤ _; omega, by show c.hit + c.miss ≤ _; omega⟩
    · split
      · split
        · exact ⟨by simp only [Hm.one]; omega, by dsimp only; omega⟩
        · exact ⟨by simp only [Hm.one]; omega, by dsimp only; omega⟩
      · exact ⟨by dsimp only; omega, by dsimp only; omega⟩
  · exact ⟨by dsimp only; omega, by dsimp only; omega⟩
theorem ft_pin (h : PinB l k) : PinB (ftR c m l b).2.1 k := fun x hx => by
  rcases ft_mem c m l b x hx with e | e
  · exact h x e
  · rw [e]; omega
theorem wt_calls (c : Ca) (m : Hm) (l : List Pl) (b : Int) (P : List UInt8) (ch : Nat) : (wtR c m l b P ch).2.2.calls ≤ m.calls + 1 := by
  have hr := rm_calls c m l
  unfold wtR
  split
  · split
    · split
      · split
        · exact Nat.le_succ _
        · exact Nat.le_succ _
      · split
        · exact hr
        · exact hr
    · exact Nat.le_succ _
  · exact Nat.le_succ _
theorem erase_mem {i : Nat} {x : Pl} (h : x ∈ l.eraseIdx i) : x ∈ l := (List.eraseIdx_sublist l i).subset h
theorem wt_pin (P : List UInt8) (ch : Nat) (h : PinB l k) : PinB (wtR c m l b P ch).2.1 k := by
  unfold wtR
  split
  · split
    · split
      · rename_i i hi
        obtain ⟨y, hy, -⟩ := at_some hi
        rw [hy]
        intro x hx
        rcases List.mem_append.1 hx with e | e
        · exact h x (erase_mem e)
        · rw [List.mem_singleton.1 e]; exact h y (List.mem_of_getElem? hy)
      · split
        · intro x hx
          rcases List.mem_append.1 hx with e | e
          · exact rm_pin h x e
          · rw [List.mem_singleton.1 e]; show (0 : Int) ≤ _; omega
        · exact rm_pin h
    · exact h
  · exact h
theorem pn_pin (h : PinB l k) : PinB (pnR c m l b).2.1 (k + 1) := by
  have hf : PinB (ftR c m l b).2.1 k := ft_pin h
  unfold pnR
  dsimp only
  split
  · unfold pinL
    rcases hg : (ftR c m l b).2.1.getLast? with _ | y
    · exact fun x hx => by have := hf x hx; omega
    · obtain ⟨ys, hys⟩ := List.getLast?_eq_some_iff.1 hg
      rw [hys] at hf ⊢
      intro x hx
      simp only [List.dropLast_concat] at hx
      rcases List.mem_append.1 hx with e | e
      · have := hf x (List.mem_append_left _ e); omega
      · rw [List.mem_singleton.1 e]
        have := hf y (by simp)
        show y.pins + 1 ≤ _
        omega
  · exact fun x hx => by have := hf x hx; omega
theorem un_pin (h : PinB l k) : PinB (unR l b).2 k := by
  unfold unR
  split
  · rename_i i hi
    obtain ⟨y, hy, -⟩ := at_some hi
    rw [hy]
    dsimp only
    split
    · exact h
    · intro x hx
      rcases List.mem_or_eq_of_mem_set hx with e | e
      · exact h x e
      · rw [e]
        have := h y (List.mem_of_getElem? hy)
        show y.pins - 1 ≤ _
        omega
  · exact h
theorem cln_pin (h : PinB l k) : PinB (cln l b) k := fun x hx => by
  obtain ⟨y, hy, rfl⟩ := List.mem_map.1 hx
  have := h y hy
  split
  · exact this
  · exact this
theorem cl_pin (c : Ca) (most : Int) : ∀ (S : List Pl) (n : Nat) (m : Hm) (l : List Pl), PinB l k → PinB (clR c most S n m l).2.2.2 k
  | [], n, m, l, h => h
  | x :: S, n, m, l, h => by
    rw [clR]
    split
    · exact h
    · split
      · split
        · exact h
        · exact cl_pin c most S _ _ _ (cln_pin h)
      · exact cl_pin c most S n m l h
end

/-- A law's state: the cache, and what was written last. -/
structure LS [Av] (w W : World) (p h r u : Nat) (dv : Value) (gw gl n pl k : Nat) (c : Ca) (m : Hm) (l : List Pl) (want : List (List UInt8)) (last : List Nat) : Prop where
  cs : CS (w, w) W p h r u dv c m l
  tr : Tr m l want last
  len : l.length ≤ c.places
  pl : c.places = pl
  n : m.D.length = n
  sw : SAt W gw want
  ul : UAt W gl last
  gw : w.heap.size ≤ gw
  gl : w.heap.size ≤ gl
  calls : m.calls ≤ k * 5000
  hm : c.hit + c.miss ≤ k
  pin : PinB l k

section
variable {w W W' : World} {p h r u : Nat} {dv : Value} {gw gl n pl k : Nat} {c c' : Ca} {m m' : Hm} {l l' : List Pl} {want : List (List UInt8)} {last : List Nat} {b : Int}

/-- As one base. -/
theorem CS.one [Av] {w1 : World} (H : CS (w, w1) W p h r u dv c m l) : CS (w, w) W p h r u dv c m l := by
  obtain ⟨lv, vs, L, R, h1, h2, h3, h4, h5⟩ := H
  exact ⟨lv, vs, L, R, h1, h2, h3, ⟨h4.1, h4.1.mono (fun _ _ e => e.elim)⟩, fun j hj => ⟨(h5 j hj).1, fun e => by have := (h5 j hj).1; simp at e this; omega⟩⟩
theorem LS.inD [Av] (H : LS w W p h r u dv gw gl n pl k c m l want last) : InD m l := fun x hx => (H.tr.inD x hx).2
theorem LS.fr [Av] (H : LS w W p h r u dv gw gl n pl k c m l want last) (f : Fr (fun _ => False) W W') : LS w W' p h r u dv gw gl n pl k c m l want last :=
  { H with cs := H.cs.fr f, sw := H.sw.kept f id, ul := H.ul.kept f id }
theorem LS.next [Av] (H : LS w W p h r u dv gw gl n pl k c m l want last) (C : CS (w, W) W' p h r u dv c' m' l') (T : Tr m' l' want last) (hl : l'.length ≤ c'.places) (hp : c'.places = c.places) (hn : m'.D.length = m.D.length) (hc : m'.calls ≤ m.calls + 5000) (hh : c'.hit + c'.miss ≤ c.hit + c.miss + 1) (hpin : PinB l' (k + 1)) : LS w W' p h r u dv gw gl n pl (k + 1) c' m' l' want last :=
  ⟨C.one, T, hl, hp.trans H.pl, hn.trans H.n, H.sw.kz C.f2, H.ul.kz C.f2, H.gw, H.gl, by have := H.calls; omega, by have := H.hm; omega, hpin⟩
theorem LS.pin1 [Av] (H : LS w W p h r u dv gw gl n pl k c m l want last) : PinB l (k + 1) := fun x hx => by have := H.pin x hx; omega

/-- A block of another kind turns. -/
theorem CS.off [Av] (H : CS (w, w) W p h r u dv c m l) {g i : Nat} (hg : w.heap.size ≤ g) (hk : knd W g = 9 ∨ knd W g = 38) (x : Value) : CS (w, w) (W.setCell ⟨g, i, none⟩ x) p h r u dv c m l := by
  obtain ⟨lv, vs, L, R, h1, h2, h3, h4, h5⟩ := H
  have fg : Fr (fun k => k = g) W (W.setCell ⟨g, i, none⟩ x) := Fr.setCell (S := fun k => k = g) (Fr.refl _ _) (p := ⟨g, i, none⟩) (fun _ => rfl) _
  refine ⟨lv, vs, L, R, h1.kept fg (fun k e => ?_), h2.kept fg (fun k e => ?_), h3, ⟨h4.1.trans fg (fun j hj e => by simp at hj; omega), h4.2.trans fg (fun j hj e => by simp at hj; omega)⟩, h5⟩
  · rw [e]; rcases hk with e | e <;> rw [e] <;> decide
  · rw [e]; rcases hk with e | e <;> rw [e] <;> decide
/-- Behind a write, ahead of the law's own stores. -/
structure LT [Av] (w W : World) (p h r u : Nat) (dv : Value) (gw gl n pl k : Nat) (c : Ca) (m : Hm) (l : List Pl) (want : List (List UInt8)) (last : List Nat) (want' : List (List UInt8)) (last' : List Nat) : Prop where
  cs : CS (w, w) W p h r u dv c m l
  tr : Tr m l want' last'
  len : l.length ≤ c.places
  pl : c.places = pl
  n : m.D.length = n
  sw : SAt W gw want
  ul : UAt W gl last
  gw : w.heap.size ≤ gw
  gl : w.heap.size ≤ gl
  calls : m.calls ≤ k * 5000
  hm : c.hit + c.miss ≤ k
  pin : PinB l k
theorem LT.stores [Av] {b : Nat} {P : List UInt8} {ch : Nat} (H : LT w W p h r u dv gw gl n pl k c m l want last (want.set b P) (last.set b ch)) (f : Fr (fun _ => False) W W') : LT w (W'.setCell ⟨gw, b, none⟩ (.string (str P))) p h r u dv gw gl n pl k c m l (want.set b P) last (want.set b P) (last.set b ch) := by
  have h1 := H.sw.kept f id
  have h2 := H.ul.kept f id
  have fg : Fr (fun k => k = gw) W' (W'.setCell ⟨gw, b, none⟩ (.string (str P))) := Fr.setCell (S := fun k => k = gw) (Fr.refl _ _) (p := ⟨gw, b, none⟩) (fun _ => rfl) _
  exact { H with cs := (H.cs.fr f).off H.gw (.inl (knd_cells h1)) _, sw := h1.set b P, ul := h2.kept fg (fun e => by rw [e] at h2; unfold SAt at h1; unfold UAt at h2; rw [h1] at h2; simp at h2) }
theorem LT.store2 [Av] {b : Nat} {ch : Nat} (H : LT w W p h r u dv gw gl n pl k c m l want last want (last.set b ch)) : LS w (W.setCell ⟨gl, b, none⟩ (.int .u64 (ch : Int))) p h r u dv gw gl n pl k c m l want (last.set b ch) := by
  have fg : Fr (fun k => k = gl) W (W.setCell ⟨gl, b, none⟩ (.int .u64 (ch : Int))) := Fr.setCell (S := fun k => k = gl) (Fr.refl _ _) (p := ⟨gl, b, none⟩) (fun _ => rfl) _
  have h1 := H.sw
  have h2 := H.ul
  exact ⟨H.cs.off H.gl (.inr (knd_cells h2)) _, H.tr, H.len, H.pl, H.n, h1.kept fg (fun e => by rw [e] at h1; unfold SAt at h1; unfold UAt at h2; rw [h1] at h2; simp at h2), h2.set b ch, H.gw, H.gl, H.calls, H.hm, H.pin⟩

variable [Av] (H : LS w W p h r u dv gw gl n pl k c m l want last) (hk : k ≤ 1000) (hp : pl ≤ 4096)
include H hk hp

theorem LS.cc : m.calls + l.length < 999999990 := by
  have h1 := H.calls
  have h2 := H.len
  have h3 := H.pl
  have h4 : k * 5000 ≤ 1000 * 5000 := Nat.mul_le_mul_right _ hk
  omega
/-- Read. -/
theorem ls_read (b : Int) : Calls Try.prog 22 #[ptr p, .int .i64 b] W fun e W' => RdA W (ftR c m l b) e W' ∧ LS w W' p h r u dv gw gl n pl (k + 1) (ftR c m l b).2.2.2 (ftR c m l b).2.2.1 (ftR c m l b).2.1 want last ∧ Fr (Kz W) W W' := by
  have hc := LS.cc H hk hp
  have hh := H.hm
  refine (cs_read b H.cs.here H.inD (by omega) (by omega)).mono ?_
  rintro e W' ⟨hA, C⟩
  obtain ⟨t1, t2, t3, t4, t5, t6⟩ := ft_tr b H.tr H.len
  obtain ⟨n1, n2⟩ := ft_num c m l b
  exact ⟨hA, H.next C t1 (by rw [t5]; exact t3) t5 t2.len (by omega) n2 (fun x hx => by have := (ft_pin H.pin : PinB (ftR c m l b).2.1 k) x hx; omega), C.f2⟩
/-- Write. -/
theorem ls_write (b : Int) (v : Value) (P : List UInt8) (ch : Nat) (hch : ch < 18446744073709551616) (hv : Rd W v P) (hva : ∀ k, v.ownBlock = some k → knd W k = 5) : Calls Try.prog 23 #[ptr p, .int .i64 b, v, .int .u64 (ch : Int)] W fun e W' => e = .returned (.int .i64 (wtR c m l b P ch).1) ∧
    ((wtR c m l b P ch).1 = 0 → LT w W' p h r u dv gw gl n pl (k + 1) c (wtR c m l b P ch).2.2 (wtR c m l b P ch).2.1 want last (want.set b.toNat (pad P)) (last.set b.toNat ch)) ∧
    ((wtR c m l b P ch).1 ≠ 0 → LS w W' p h r u dv gw gl n pl (k + 1) c (wtR c m l b P ch).2.2 (wtR c m l b P ch).2.1 want last) ∧ Fr (Kz W) W W' := by
  have hc := LS.cc H hk hp
  have hh := H.hm
  refine (cs_write b v P ch hch hv (fun k hk => .inr (hva k hk)) H.cs.here H.inD (by omega)).mono ?_
  rintro e W' ⟨hA, C⟩
  obtain ⟨t1, t2, t3, t4⟩ := wt_tr (c := c) b P ch H.tr H.len
  have n1 := wt_calls c m l b P ch
  have n2 : PinB (wtR c m l b P ch).2.1 (k + 1) := fun x hx => by have := (wt_pin P ch H.pin : PinB (wtR c m l b P ch).2.1 k) x hx; omega
  refine ⟨hA, fun e0 => ?_, fun e0 => ?_, C.f2⟩
  · obtain ⟨-, -, t5, -⟩ := t1 e0
    exact ⟨C.one, t5, t3, H.pl, t4.trans H.n, H.sw.kz C.f2, H.ul.kz C.f2, H.gw, H.gl, by have := H.calls; omega, by omega, n2⟩
  · exact H.next C (t2 e0).1 t3 rfl t4 (by omega) (by omega) n2
/-- Pin. -/
theorem ls_pin (b : Int) : Calls Try.prog 24 #[ptr p, .int .i64 b] W fun e W' => e = .returned (.int .i64 (pnR c m l b).1) ∧ LS w W' p h r u dv gw gl n pl (k + 1) (pnR c m l b).2.2.2 (pnR c m l b).2.2.1 (pnR c m l b).2.1 want last := by
  have hc := LS.cc H hk hp
  have hh := H.hm
  refine (cs_pin b H.cs.here H.inD (by omega) (by omega) (fun x hx => by have := H.pin x hx; omega)).mono ?_
  rintro e W' ⟨hA, C⟩
  obtain ⟨t1, t2, t3, t4, t5, t6⟩ := pn_tr b H.tr H.len
  obtain ⟨n1, n2⟩ := ft_num c m l b
  exact ⟨hA, H.next C t1 (by rw [t5]; exact t3) t5 t6 (Nat.le_trans n1 (by omega)) n2 (pn_pin H.pin)⟩
/-- Unpin. -/
theorem ls_unpin (b : Int) : Calls Try.prog 25 #[ptr p, .int .i64 b] W fun e W' => e = .returned (.int .i64 (unR l b).1) ∧ LS w W' p h r u dv gw gl n pl (k + 1) c m (unR l b).2 want last := by
  refine (cs_unpin b H.cs.here).mono ?_
  rintro e W' ⟨hA, C⟩
  obtain ⟨t1, t2⟩ := un_tr b H.tr
  exact ⟨hA, H.next C t1 (by rw [t2]; exact H.len) rfl rfl (by omega) (by omega) (fun x hx => by have := un_pin (b := b) H.pin x hx; omega)⟩
/-- Safe. -/
theorem ls_safe (s : Nat) (hs : s < 18446744073709551616) : Calls Try.prog 26 #[ptr p, .int .u64 (s : Int)] W fun e W' => e = .returned (.tuple #[]) ∧ LS w W' p h r u dv gw gl n pl (k + 1) { c with safe := max c.safe s } m l want last := by
  refine (cs_safe s hs H.cs.here).mono ?_
  rintro e W' ⟨hA, C⟩
  exact ⟨hA, H.next C H.tr H.len rfl rfl (by omega) (by show c.hit + c.miss ≤ _; omega) H.pin1⟩
/-- Clean. -/
theorem ls_clean (most : Int) : Calls Try.prog 27 #[ptr p, .int .i64 most] W fun e W' => e = .returned (.tuple #[.int .i64 ((clR c most (srtL l) 0 m l).1 : Int), .int .i64 (clR c most (srtL l) 0 m l).2.1]) ∧ LS w W' p h r u dv gw gl n pl (k + 1) c (clR c most (srtL l) 0 m l).2.2.1 (clR c most (srtL l) 0 m l).2.2.2 want last := by
  have hc := LS.cc H hk hp
  have h2 := H.len
  have h3 := H.pl
  refine (cs_clean most H.cs.here H.inD hc (by omega)).mono ?_
  rintro e W' ⟨hA, C⟩
  obtain ⟨t1, t2, t3, t4⟩ := clean_tr (c := c) most H.tr
  have g := (cl_facts c most (srtL l) 0 m l).2.1
  have g2 := srtL_len l
  exact ⟨hA, H.next C t2 (by rw [t4]; exact H.len) rfl t3.len (by omega) (by omega) (fun x hx => by have := cl_pin c most (srtL l) 0 m l H.pin x hx; omega)⟩
/-- Flush. -/
theorem ls_flush : Calls Try.prog 28 #[ptr p] W fun e W' => e = .returned (.int .i64 (flR c m l).1) ∧ LS w W' p h r u dv gw gl n pl (k + 1) c (flR c m l).2.1 (flR c m l).2.2 want last := by
  have hc := LS.cc H hk hp
  have h2 := H.len
  have h3 := H.pl
  refine (cs_flush H.cs.here H.inD hc (by omega)).mono ?_
  rintro e W' ⟨hA, C⟩
  obtain ⟨t1, t2, t3, t4, t5⟩ := fl_tr c H.tr
  have g := (cl_facts c (l.length : Int) (srtL l) 0 m l).2.1
  have g2 := srtL_len l
  have g3 : (flR c m l).2.1.calls ≤ m.calls + 5000 := by
    unfold flR
    split
    · simp only [Hm.one]; omega
    · show (clR c (l.length : Int) (srtL l) 0 m l).2.2.1.calls ≤ _; omega
  have g4 : PinB (flR c m l).2.2 k := by
    have := cl_pin c (l.length : Int) (srtL l) 0 m l H.pin
    unfold flR
    split
    · exact this
    · exact this
  exact ⟨hA, H.next C t1 (by rw [t3]; exact H.len) rfl t4 g3 (by omega) (fun x hx => by have := g4 x hx; omega)⟩
end
end Go.Proofs.Ytdgmlopaeonacaa

namespace Go.Proofs.Ytdgmlopaeonacaa
set_option linter.unusedVariables false
set_option linter.unusedSimpArgs false
open Go.RowKit
set_option linter.unusedVariables false

section
variable {w0 : World × World} {w W W' : World} {p h r u : Nat} {dv : Value} {gw gl n pl k : Nat} {c : Ca} {m m' : Hm} {l : List Pl} {want : List (List UInt8)} {last : List Nat} {safe : Nat}

/-- Home's log. -/
theorem cs_log [Av] (H : CS w0 W p h r u dv c m l) : ∃ lo lc, W.cell? ⟨h, 1, none⟩ = some (.slice lo m.log.length lc) ∧ RdV W (.slice lo m.log.length lc) (ivs m.log) := by
  obtain ⟨lv, vs, L, R, h1, h2, h3, h4, h5⟩ := H
  obtain ⟨lo, lc, e⟩ := owns_shape h2.log
  have hr : RdV W lv (ivs m.log) := RdV.of_owns (base := 0) (e := 3) (by rw [ivs_length]; exact h2.log)
  rw [e] at hr
  refine ⟨lo, lc, ?_, hr⟩
  rw [cell_of_heap h2.heap, ← e]; rfl
/-- Every change is a number of 64 bits. -/
theorem cs_last [Av] (H : CS w0 W p h r u dv c m l) : ∀ x ∈ l, x.last < 18446744073709551616 := by
  obtain ⟨lv, vs, L, R, h1, h2, rfl, h4, h5⟩ := H
  intro x hx
  obtain ⟨q, hq, rfl⟩ := List.mem_map.1 hx
  exact (h1.ok q hq).last

/-- What a law asks of what went home since. -/
def LgX (lg safe : Nat) (want : List (List UInt8)) (last : List Nat) (m : Hm) : Prop :=
  ∀ k, lg ≤ k → k < m.log.length → ∃ j : Nat, m.log[k]? = some (j : Int) ∧ j < m.D.length ∧ m.D[j]? = want[j]? ∧ ∃ v, last[j]? = some v ∧ v ≤ safe
theorem LgC.x (hh : LgC safe want last m m') : LgX m.log.length safe want last m' := by
  obtain ⟨ks, h1, h2⟩ := hh
  intro k hk hk2
  rw [h1] at hk2 ⊢
  rw [List.length_append, List.length_map] at hk2
  have hj : k - m.log.length < ks.length := by omega
  refine ⟨ks[k - m.log.length], ?_, h2 _ (List.getElem_mem hj)⟩
  rw [List.getElem?_append_right hk, List.getElem?_map, List.getElem?_eq_getElem hj]
  rfl
theorem LgX.none (hh : m'.log.length ≤ k) : LgX k safe want last m' := fun j h1 h2 => by omega

/-- Ahead of the first act. -/
theorem tr_init (n : Nat) : Tr (hmN n 0 0) [] (List.replicate n z384) (List.replicate n 0) :=
  ⟨by simp, by simp, by simp [hmN], by simp [hmN], by simp, by simp, by simp, fun i hi _ => by simp [hmN], by simp [hmN]⟩
theorem LS.init [Av] (C : CS (w, w) W p h r u dv ⟨pl, 0, 0, 0⟩ (hmN n 0 0) []) (hs : SAt W gw (List.replicate n z384)) (hu : UAt W gl (List.replicate n 0)) (h1 : w.heap.size ≤ gw) (h2 : w.heap.size ≤ gl) : LS w W p h r u dv gw gl n pl 0 ⟨pl, 0, 0, 0⟩ (hmN n 0 0) [] (List.replicate n z384) (List.replicate n 0) :=
  ⟨C, tr_init n, by simp, rfl, by simp [hmN], hs, hu, h1, h2, by simp [hmN], by simp, fun x hx => by simp at hx⟩

theorem LgC.le (hh : LgC safe want last m m') : m.log.length ≤ m'.log.length := by
  obtain ⟨ks, h1, h2⟩ := hh
  rw [h1]; simp
/-- What an act may log. -/
theorem lg_read [Av] (H : LS w W p h r u dv gw gl n pl k c m l want last) (b : Int) : LgC c.safe want last m (ftR c m l b).2.2.1 := (ft_tr b H.tr H.len).2.1.log
theorem lg_pin [Av] (H : LS w W p h r u dv gw gl n pl k c m l want last) (b : Int) : LgC c.safe want last m (pnR c m l b).2.2.1 := (pn_tr b H.tr H.len).2.1
theorem lg_clean [Av] (H : LS w W p h r u dv gw gl n pl k c m l want last) (most : Int) : LgC c.safe want last m (clR c most (srtL l) 0 m l).2.2.1 := (clean_tr (c := c) most H.tr).2.2.1.log
theorem lg_write [Av] (H : LS w W p h r u dv gw gl n pl k c m l want last) (b : Int) (P : List UInt8) (ch : Nat) (e : (wtR c m l b P ch).1 = 0) : LgC c.safe (want.set b.toNat (pad P)) (last.set b.toNat ch) m (wtR c m l b P ch).2.2 := ((wt_tr (c := c) b P ch H.tr H.len).1 e).2.2.2
theorem lg_write_no [Av] (H : LS w W p h r u dv gw gl n pl k c m l want last) (b : Int) (P : List UInt8) (ch : Nat) (e : (wtR c m l b P ch).1 ≠ 0) : LgC c.safe want last m (wtR c m l b P ch).2.2 := ((wt_tr (c := c) b P ch H.tr H.len).2.1 e).2
/-- Flushing behind the greatest change. -/
theorem ls_all [Av] (H : LS w W p h r u dv gw gl n pl k c m l want last) (hs : 18446744073709551615 ≤ c.safe) : (flR c m l).1 = 0 ∧ (flR c m l).2.1.D = want ∧ srtL (flR c m l).2.2 = [] :=
  fl_all c H.tr (fun x hx => by have := cs_last H.cs x hx; omega)
theorem ls_home [Av] (H : LS w W p h r u dv gw gl n pl k c m l want last) (e : (flR c m l).1 = 0) : (flR c m l).2.1.D = want := ((fl_tr c H.tr).2.2.2.2 e).1
/-- An act that lies at g. -/
def AAt (w : World) (g : Nat) (kd kb : Int) (pv : Value) (ch : Nat) (kn : Int) : Prop := w.heap[g]? = some (.cells #[.int .i64 kd, .int .i64 kb, pv, .int .u64 (ch : Int), .int .i64 kn] 40 (0, 0))
theorem AAt.kz {g : Nat} {kd kb kn : Int} {pv : Value} {ch : Nat} (h : AAt w g kd kb pv ch kn) (f : Fr (Kz w) w W) : AAt W g kd kb pv ch kn := by
  unfold AAt at *
  rw [f.block g (lt_of_heap h) (by unfold Kz; rw [knd_cells h]; decide)]; exact h
theorem AAt.kept {S : Nat → Prop} {g : Nat} {kd kb kn : Int} {pv : Value} {ch : Nat} (h : AAt w g kd kb pv ch kn) (f : Fr S w W) (hS : ¬ S g) : AAt W g kd kb pv ch kn := by
  unfold AAt at *
  rw [f.block g (lt_of_heap h) hS]; exact h
theorem AAt.cells {g : Nat} {kd kb kn : Int} {pv : Value} {ch : Nat} (h : AAt w g kd kb pv ch kn) : w.cell? ⟨g, 0, none⟩ = some (.int .i64 kd) ∧ w.cell? ⟨g, 1, none⟩ = some (.int .i64 kb) ∧ w.cell? ⟨g, 2, none⟩ = some pv ∧ w.cell? ⟨g, 3, none⟩ = some (.int .u64 (ch : Int)) ∧ w.cell? ⟨g, 4, none⟩ = some (.int .i64 kn) := by
  unfold AAt at h
  refine ⟨?_, ?_, ?_, ?_, ?_⟩ <;> rw [cell_of_heap h] <;> rfl
end
end Go.Proofs.Ytdgmlopaeonacaa

namespace Go.Proofs.Ytdgmlopaeonacaa
set_option linter.unusedVariables false
set_option linter.unusedSimpArgs false
open Go.RowKit
set_option linter.unusedVariables false
set_option linter.unusedSimpArgs false

theorem Try.info38 : (Try.prog.info? 38).map (fun i => (i.zero, i.size, i.bytes)) = some (some (.int .u64 0), 1, 8) := by kernel_rfl
theorem Try.info9 : (Try.prog.info? 9).map (fun i => (i.zero, i.size, i.bytes)) = some (some (.string (str [])), 1, 16) := by kernel_rfl
theorem made_c (n : Nat) : madeCells (Value.int .u64 0).cells (n * 1) = (cvs (List.replicate n 0)).toArray := by
  apply Array.ext
  · simp [cvs, size_madeCells]
  · intro i h1 h2
    simp [cvs, madeCells, Value.cells, Nat.mod_one]
theorem made_s (n : Nat) : madeCells (Value.string (str [])).cells (n * 1) = (svs (List.replicate n [])).toArray := by
  apply Array.ext
  · simp [svs, size_madeCells]
  · intro i h1 h2
    simp [svs, madeCells, Value.cells, Nat.mod_one]
theorem run_make61 (n : Nat) (hn : n ≤ 65536) (w : World) : (Instr.makeSlice 61 (.int .i64 (n : Int)) (.int .i64 (n : Int))).run Try.prog w = .ok (.slice (some ⟨w.heap.size, 0, none⟩) n n) (w.alloc (.cells (cvs (List.replicate n 0)).toArray 38)) := by
  obtain ⟨i, hi, hz0, hz1, hz2⟩ := info_parts Try.info38
  have := run_make (P := Try.prog) w 61 38 i _ Try.underlying61 hi hz0 .i64 .i64 (n : Int) (n : Int) (by omega) (Int.le_refl _) (by rw [hz2]; omega) (by omega)
  rw [this, hz1, Int.toNat_natCast, made_c]
theorem run_make60 (n : Nat) (hn : n ≤ 65536) (w : World) : (Instr.makeSlice 60 (.int .i64 (n : Int)) (.int .i64 (n : Int))).run Try.prog w = .ok (.slice (some ⟨w.heap.size, 0, none⟩) n n) (w.alloc (.cells (svs (List.replicate n [])).toArray 9)) := by
  obtain ⟨i, hi, hz0, hz1, hz2⟩ := info_parts Try.info9
  have := run_make (P := Try.prog) w 60 9 i _ Try.underlying60 hi hz0 .i64 .i64 (n : Int) (n : Int) (by omega) (Int.le_refl _) (by rw [hz2]; omega) (by omega)
  rw [this, hz1, Int.toNat_natCast, made_s]
/-- What the law copies ahead of the acts. -/
def wnt (n i : Nat) : List (List UInt8) := List.replicate i z384 ++ List.replicate (n - i) []
theorem wnt_set {n i : Nat} (h : i < n) : (wnt n i).set i z384 = wnt n (i + 1) := by
  unfold wnt
  obtain ⟨k, hk⟩ : ∃ k, n - i = k + 1 := ⟨n - i - 1, by omega⟩
  rw [hk, show n - (i + 1) = k by omega, List.set_append_right _ _ (by simp), List.replicate_succ' (n := i)]
  simp [List.replicate_succ]
theorem wnt_get {n i : Nat} (h : i < n) : (wnt n i)[i]? = some [] := by
  unfold wnt
  rw [List.getElem?_append_right (by simp), List.length_replicate, Nat.sub_self, List.getElem?_replicate, if_pos (by omega)]
theorem wpQuiet_val {P : Program} {ops : Array Oper} {C : World → Prop} {Q : Act → Prop} {o : Oper} {rest : List Oper} {a : Act} (hw : Region.wanted o (yielded ops a.tmps) = true) (v : Value) (h : ∀ w, C w → (execOp a.eval o).run P w = .ok (.value v) w) (k : wpQuiet P ops C Q rest (a.put o.dst v)) : wpQuiet P ops C Q (o :: rest) a := by
  refine wpQuiet_step (fun K hK => ?_)
  rw [if_pos hw]
  refine ⟨v, fun w hC => ?_, hK _ k⟩
  unfold Oper.quietAt
  rw [h w hC]
  exact ⟨rfl, rfl⟩
theorem num_same (w : World) (n : Int) : Calls Try.prog 12 #[.int .i64 n] w fun e w' => e = .returned (.int .i64 n) ∧ w' = w := (num_any w n).mono fun e w' h => ⟨h.1, h.2.symm⟩
end Go.Proofs.Ytdgmlopaeonacaa

namespace Go.Proofs.Ytdgmlopaeonacaa
set_option linter.unusedVariables false
set_option linter.unusedSimpArgs false
open Go.RowKit
set_option linter.unusedVariables false
set_option linter.unusedSimpArgs false

theorem fa40_1 (b o : Nat) (W : World) : (Instr.fieldAt 40 (.pointer (some ⟨b, o, none⟩)) 1).run Try.prog W = .ok (.pointer (some ⟨b, o + 1, none⟩)) W := by simp [go_sem]
theorem fa40_2 (b o : Nat) (W : World) : (Instr.fieldAt 40 (.pointer (some ⟨b, o, none⟩)) 2).run Try.prog W = .ok (.pointer (some ⟨b, o + 2, none⟩)) W := by simp [go_sem]
theorem fa40_3 (b o : Nat) (W : World) : (Instr.fieldAt 40 (.pointer (some ⟨b, o, none⟩)) 3).run Try.prog W = .ok (.pointer (some ⟨b, o + 3, none⟩)) W := by simp [go_sem]
theorem ld37 (W : World) (a : Addr) (u : Value) (h : W.cell? a = some u) : (Instr.loadAt 37 (.pointer (some a))).run Try.prog W = .ok u W := by simp [go_sem, h]
section
variable {ρ : Operand → Value} {o : Oper} {w w2 : World}
theorem x_bs0 (ho : o.op = .buildSlice 37 0 #[]) : (execOp ρ o).run Try.prog w = .ok (.value (.slice (some ⟨w.heap.size, 0, none⟩) 0 0)) (w.alloc (.cells #[] 5)) := by
  simp [execOp, ho, go_sem]
theorem x_app37 {x y : Operand} {a b v : Value} (ho : o.op = .call { callee := .builtin .append, args := #[x, y], argTypes := #[37, 37] }) (hty : o.type = 37) (hx : ρ x = a) (hy : ρ y = b) (hr : (Builtin.append_ #[37, 37] 37 #[a, b]).run Try.prog w = .ok v w2) : (execOp ρ o).run Try.prog w = .ok (.value v) w2 := by
  simp only [execOp, ho, hty, resolve, invoke, builtin, Sem.run_bind, Sem.run_pure, Result.andThen_ok, List.map_toArray, List.map_cons, List.map_nil, hx, hy, hr]
theorem e_call4 {k : Nat} {x y z s : Operand} {t : Array TypeId} {u v q r : Value} (ho : o.op = .call { callee := .value (.func k), args := #[x, y, z, s], argTypes := t }) (hf : ρ (.func k) = .func (.func k) #[] #[]) (hx : ρ x = u) (hy : ρ y = v) (hz : ρ z = q) (hs : ρ s = r) (hk : ∀ args W, Sem.run Try.prog (callFunc k args) W = .ok (.enter k args) W) : (execOp ρ o).run Try.prog w = .ok (.enter k #[u, v, q, r]) w := by
  have hk' := hk #[u, v, q, r] w
  simp [execOp, ho, hf, hx, hy, hz, hs, go_sem, hk']
theorem x_len37 {x : Operand} {ao : Option Addr} {n c : Nat} (ho : o.op = .call { callee := .builtin .len, args := #[x], argTypes := #[37] }) (hx : ρ x = .slice ao n c) : (execOp ρ o).run Try.prog w = .ok (.value (.int .i64 (n : Int))) w := by
  simp [execOp, ho, hx, go_sem]
theorem x_subI {x y : Operand} {a b c : Int} (ho : o.op = .binOp .sub 3 x y 3) (hx : ρ x = .int .i64 a) (hy : ρ y = .int .i64 b) (hc : IntKind.i64.wrap (a - b) = c) : (execOp ρ o).run Try.prog w = .ok (.value (.int .i64 c)) w := by
  subst hc; simp [execOp, ho, hx, hy, go_sem]
theorem x_make37 {x y : Operand} {v : Value} {n : Nat} (ho : o.op = .makeSlice 37 x y) (hx : ρ x = .int .i64 (n : Int)) (hy : ρ y = .int .i64 (n : Int)) (hr : (Instr.makeSlice 37 (.int .i64 (n : Int)) (.int .i64 (n : Int))).run Try.prog w = .ok v w2) : (execOp ρ o).run Try.prog w = .ok (.value v) w2 := by
  simp [execOp, ho, hx, hy, hr]
theorem str_app (a b : List UInt8) : str a ++ str b = str (a ++ b) := by
  apply ByteArray.ext
  simp [str, ByteArray.data_append]
theorem x_addS {x y : Operand} {a b : List UInt8} (ho : o.op = .binOp .add 9 x y 9) (hx : ρ x = .string (str a)) (hy : ρ y = .string (str b)) (hl : a.length + b.length ≤ 100000) : (execOp ρ o).run Try.prog w = .ok (.value (.string (str (a ++ b)))) w := by
  simp [execOp, ho, hx, hy, go_sem, str_app]
  rw [str_size, str_size]; omega
theorem x_idx60 {x y : Operand} {g k n c : Nat} (ho : o.op = .indexAddr 60 x y) (hx : ρ x = .slice (some ⟨g, 0, none⟩) n c) (hy : ρ y = .int .i64 (k : Int)) (hk : k < n) : (execOp ρ o).run Try.prog w = .ok (.value (.pointer (some ⟨g, k, none⟩))) w := by
  simp [execOp, ho, hx, hy, go_sem, hk]
theorem x_store9 {x y : Operand} {b k : Nat} {s : ByteArray} {d : Value} (ho : o.op = .store 9 x y) (hx : ρ x = .pointer (some ⟨b, k, none⟩)) (hy : ρ y = .string s) (hc : w.cell? ⟨b, k, none⟩ = some d) (hz : w.frozen? ⟨b, k, none⟩ = false) : (execOp ρ o).run Try.prog w = .ok .skip (w.setCell ⟨b, k, none⟩ (.string s)) := by
  simp [execOp, ho, hx, hy, go_sem, hc, hz]
end
theorem own0 (w : World) : (w.alloc (.cells #[] 5)).ownsRow 0 5 1 (.slice (some ⟨w.heap.size, 0, none⟩) 0 0) 0 [] :=
  ⟨rfl, .inr ⟨w.heap.size, 0, #[], rfl, Nat.zero_le _, heap_alloc_new _ _, Nat.le_refl _, Nat.zero_le _, rfl, rfl⟩⟩
theorem AAt.far {w : World} {g : Nat} {kd kb kn : Int} {pv : Value} {ch : Nat} (h : AAt w g kd kb pv ch kn) : ¬ (Kz w g ∨ w.heap.size ≤ g) := by
  rintro (e | e)
  · unfold Kz at e; unfold AAt at h; rw [knd_cells h] at e; revert e; decide
  · have := lt_of_heap h; omega
theorem AAt.cellsF {w W : World} {g : Nat} {kd kb kn : Int} {pv : Value} {ch : Nat} (h : AAt w g kd kb pv ch kn) (f : Fr (fun k => Kz w k ∨ w.heap.size ≤ k) w W) : W.cell? ⟨g, 1, none⟩ = some (.int .i64 kb) ∧ W.cell? ⟨g, 2, none⟩ = some pv ∧ W.cell? ⟨g, 3, none⟩ = some (.int .u64 (ch : Int)) :=
  have c := (h.kept f h.far).cells
  ⟨c.2.1, c.2.2.1, c.2.2.2.1⟩
theorem own0_blk {w4 w : World} {k : Nat} (f : Fr (fun _ => False) w4 w) (h : (Value.slice (some ⟨w.heap.size, 0, none⟩) 0 0).ownBlock = some k) : w4.heap.size ≤ k := by
  simp [Value.ownBlock] at h
  have := f.size
  omega
theorem knd_fr {w1 w2 : World} {k n : Nat} (f : Fr (fun _ => False) w1 w2) (h : knd w1 k = n) (hn : n ≠ 1001) : knd w2 k = n := by
  have hl : k < w1.heap.size := knd_lt (by rw [h]; exact hn)
  unfold knd at *
  rw [f.block k hl id]
  exact h
theorem app37 (w : World) (v0 : Value) (ho : w.ownsRow 0 5 1 v0 0 []) {x : Value} {P : List UInt8} (hx : Rd w x P) (hP : P.length ≤ 1048576) : ∃ v w', (Builtin.append_ #[37, 37] 37 #[v0, x]).run Try.prog w = .ok v w' ∧ w'.ownsRow 0 5 1 v P.length (bvs P) ∧ w.grownBy w' v0.ownBlock ∧ (v.ownBlock = v0.ownBlock ∨ v.ownBlock = some w.heap.size) := by
  obtain ⟨inf, hi0, hz0, hz1, hz2⟩ := info_parts Try.info5
  obtain ⟨v, w', h1, h2, h3, h4⟩ := run_app (P := Try.prog) w 37 37 5 inf _ 1 1 Try.underlying37 hi0 hz0 hz1 hz2 rfl (by decide) v0 0 [] ho x P.length (bvs P) hx.sr (bvs_one P) (by omega) (by simp only [maxLen]; omega)
  rw [Nat.zero_add, List.nil_append] at h2
  exact ⟨v, w', h1, h2, h3, h4⟩
section
variable {w4 w' w9 : World} {v0 : Value}
theorem app_st (hs : Fr (fun _ => False) w4 w') (hg : w'.grownBy w9 v0.ownBlock) (hb : ∀ k, v0.ownBlock = some k → w4.heap.size ≤ k) : Fr (fun _ => False) w4 w9 :=
  hs.trans ((Fr.refl (fun k => v0.ownBlock = some k) w').grown hg (fun k _ e => e)) (fun k hk e => by have := hb k e; omega)
theorem app_fr (hs : Fr (fun _ => False) w4 w') (hg : w'.grownBy w9 v0.ownBlock) (hb : ∀ k, v0.ownBlock = some k → w4.heap.size ≤ k) : Fr (fun k => Kz w4 k ∨ w4.heap.size ≤ k) w' w9 :=
  ((Fr.refl (fun k => v0.ownBlock = some k) w').grown hg (fun k _ e => e)).mono (fun k _ e => .inr (hb k e))
theorem kz_fr (hs : Fr (fun _ => False) w4 w') (h : Fr (Kz w') w' w9) : Fr (fun k => Kz w4 k ∨ w4.heap.size ≤ k) w' w9 :=
  h.mono (fun k _ e => by
    by_cases hk : k < w4.heap.size
    · left; unfold Kz knd at *; rw [hs.block k hk id] at e; exact e
    · right; omega)
theorem kz_fr2 (hs : Fr (fun _ => False) w4 w') (h : Fr (Kz w') w' w9) : Fr (Kz w4) w4 w9 :=
  (hs.mono (fun _ _ e => e.elim)).trans h (fun k hk e => by unfold Kz knd at *; rw [hs.block k hk id] at e; exact e)
end
theorem rd_rep {W : World} {b dd : Nat} (h : BAt W b (List.replicate dd 0)) (hd : dd ≤ 384) : Rd W (.slice (some ⟨b, 0, none⟩) dd dd) (List.replicate dd 0) := by
  have := h.rd (by simp only [List.length_replicate, maxLen]; omega)
  rwa [List.length_replicate] at this
theorem rd_w {w w5 W : World} {gw : Nat} {v : Value} {P : List UInt8} (hr : Rd w v P) (f1 : Fr (fun _ => False) w w5) (hg : w.heap.size ≤ gw) (f2 : Fr (fun k => k = gw) w5 W) : Rd W v P :=
  hr.kept (f1.trans f2 (fun i hi e => by omega)) (fun _ _ e => e)
theorem AAt.cellsG {w W : World} {g gw : Nat} {kd kb kn : Int} {pv : Value} {ch : Nat} {want : List (List UInt8)} (h : AAt w g kd kb pv ch kn) (hs : SAt w gw want) (f : Fr (fun k => k = gw) w W) : AAt W g kd kb pv ch kn :=
  h.kept f (fun e => by unfold AAt at h; unfold SAt at hs; rw [e, hs] at h; simp at h)
theorem x_addP {ρ : Operand → Value} {o : Oper} {w : World} {x y : Operand} {P : List UInt8} {dd : Nat} (ho : o.op = .binOp .add 9 x y 9) (hx : ρ x = .string (str P)) (hy : ρ y = .string (str (List.replicate dd 0))) (hd : dd = 384 - P.length) (hP : P.length ≤ 384) : (execOp ρ o).run Try.prog w = .ok (.value (.string (str (pad P)))) w := by
  have := x_addS (w := w) ho hx hy (by rw [List.length_replicate]; omega)
  rw [this, hd]; rfl
theorem wrap_sub {pn dd : Nat} (h : dd = 384 - pn) (hp : pn ≤ 384) : IntKind.i64.wrap (384 - (pn : Int)) = (dd : Int) := by
  rw [show (384 : Int) - (pn : Int) = (dd : Int) by omega]
  rw [IntKind.wrap_i64]; omega
end Go.Proofs.Ytdgmlopaeonacaa
