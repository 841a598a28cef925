/-
  A law's state beside a cache, act by act.
-/
import Derived.Test.YtdgmlopaeonacaaF1
namespace Go.Proofs.Ytdgmlopaeonacaa
open Go.RowKit
set_option linter.unusedVariables false
set_option linter.unusedSectionVars false

section
variable {c : Ca} {m : Hm} {l : List Pl} {b : Int} {k : Nat}

theorem rm_calls (c : Ca) (m : Hm) (l : List Pl) : (rmR c m l).2.2.calls ≤ m.calls + 1 := (rmR_facts c m l).2.1
theorem rm_pin (h : PinB l k) : PinB (rmR c m l).2.1 k := fun x hx => h x ((rmR_facts c m l).2.2.1 x hx)
theorem ft_num (c : Ca) (m : Hm) (l : List Pl) (b : Int) : (ftR c m l b).2.2.1.calls ≤ m.calls + 2 ∧ (ftR c m l b).2.2.2.hit + (ftR c m l b).2.2.2.miss ≤ c.hit + c.miss + 1 := by
  have hr := rm_calls c m l
  unfold ftR
  split
  · split
    · split
      · exact ⟨by show m.calls ≤ _; omega, by show c.hit + 1 + c.miss ≤ _; omega⟩
      · exact ⟨by show m.calls ≤ _; omega, by show c.hit + c.miss ≤ _; omega⟩
    · split
      · split
        · exact ⟨by simp only [Hm.one]; omega, by dsimp only; omega⟩
        · exact ⟨by simp only [Hm.one]; omega, by dsimp only; omega⟩
      · exact ⟨by dsimp only; omega, by dsimp only; omega⟩
  · exact ⟨by dsimp only; omega, by dsimp only; omega⟩
theorem ft_pin (h : PinB l k) : PinB (ftR c m l b).2.1 k := fun x hx => by
  rcases ft_mem c m l b x hx with e | e
  · exact h x e
  · rw [e]; omega
theorem wt_calls (c : Ca) (m : Hm) (l : List Pl) (b : Int) (P : List UInt8) (ch : Nat) : (wtR c m l b P ch).2.2.calls ≤ m.calls + 1 := by
  have hr := rm_calls c m l
  unfold wtR
  split
  · split
    · split
      · split
        · exact Nat.le_succ _
        · exact Nat.le_succ _
      · split
        · exact hr
        · exact hr
    · exact Nat.le_succ _
  · exact Nat.le_succ _
theorem erase_mem {i : Nat} {x : Pl} (h : x ∈ l.eraseIdx i) : x ∈ l := (List.eraseIdx_sublist l i).subset h
theorem wt_pin (P : List UInt8) (ch : Nat) (h : PinB l k) : PinB (wtR c m l b P ch).2.1 k := by
  unfold wtR
  split
  · split
    · split
      · rename_i i hi
        obtain ⟨y, hy, -⟩ := at_some hi
        rw [hy]
        intro x hx
        rcases List.mem_append.1 hx with e | e
        · exact h x (erase_mem e)
        · rw [List.mem_singleton.1 e]; exact h y (List.mem_of_getElem? hy)
      · split
        · intro x hx
          rcases List.mem_append.1 hx with e | e
          · exact rm_pin h x e
          · rw [List.mem_singleton.1 e]; show (0 : Int) ≤ _; omega
        · exact rm_pin h
    · exact h
  · exact h
theorem pn_pin (h : PinB l k) : PinB (pnR c m l b).2.1 (k + 1) := by
  have hf : PinB (ftR c m l b).2.1 k := ft_pin h
  unfold pnR
  dsimp only
  split
  · unfold pinL
    rcases hg : (ftR c m l b).2.1.getLast? with _ | y
    · exact fun x hx => by have := hf x hx; omega
    · obtain ⟨ys, hys⟩ := List.getLast?_eq_some_iff.1 hg
      rw [hys] at hf ⊢
      intro x hx
      simp only [List.dropLast_concat] at hx
      rcases List.mem_append.1 hx with e | e
      · have := hf x (List.mem_append_left _ e); omega
      · rw [List.mem_singleton.1 e]
        have := hf y (by simp)
        show y.pins + 1 ≤ _
        omega
  · exact fun x hx => by have := hf x hx; omega
theorem un_pin (h : PinB l k) : PinB (unR l b).2 k := by
  unfold unR
  split
  · rename_i i hi
    obtain ⟨y, hy, -⟩ := at_some hi
    rw [hy]
    dsimp only
    split
    · exact h
    · intro x hx
      rcases List.mem_or_eq_of_mem_set hx with e | e
      · exact h x e
      · rw [e]
        have := h y (List.mem_of_getElem? hy)
        show y.pins - 1 ≤ _
        omega
  · exact h
theorem cln_pin (h : PinB l k) : PinB (cln l b) k := fun x hx => by
  obtain ⟨y, hy, rfl⟩ := List.mem_map.1 hx
  have := h y hy
  split
  · exact this
  · exact this
theorem cl_pin (c : Ca) (most : Int) : ∀ (S : List Pl) (n : Nat) (m : Hm) (l : List Pl), PinB l k → PinB (clR c most S n m l).2.2.2 k
  | [], n, m, l, h => h
  | x :: S, n, m, l, h => by
    rw [clR]
    split
    · exact h
    · split
      · split
        · exact h
        · exact cl_pin c most S _ _ _ (cln_pin h)
      · exact cl_pin c most S n m l h
end

/-- A law's state: the cache, and what was written last. -/
structure LS (w W : World) (p h r u : Nat) (dv : Value) (gw gl n pl k : Nat) (c : Ca) (m : Hm) (l : List Pl) (want : List (List UInt8)) (last : List Nat) : Prop where
  cs : CS (w, w) W p h r u dv c m l
  tr : Tr m l want last
  len : l.length ≤ c.places
  pl : c.places = pl
  n : m.D.length = n
  sw : SAt W gw want
  ul : UAt W gl last
  gw : w.heap.size ≤ gw
  gl : w.heap.size ≤ gl
  calls : m.calls ≤ k * 5000
  hm : c.hit + c.miss ≤ k
  pin : PinB l k

section
variable {w W W' : World} {p h r u : Nat} {dv : Value} {gw gl n pl k : Nat} {c c' : Ca} {m m' : Hm} {l l' : List Pl} {want : List (List UInt8)} {last : List Nat} {b : Int}

/-- As one base. -/
theorem CS.one {w1 : World} (H : CS (w, w1) W p h r u dv c m l) : CS (w, w) W p h r u dv c m l := by
  obtain ⟨lv, vs, L, R, h1, h2, h3, h4, h5⟩ := H
  exact ⟨lv, vs, L, R, h1, h2, h3, ⟨h4.1, h4.1.mono (fun _ _ e => e.elim)⟩, fun j hj => ⟨(h5 j hj).1, fun e => by have := (h5 j hj).1; simp at e this; omega⟩⟩
theorem LS.inD (H : LS w W p h r u dv gw gl n pl k c m l want last) : InD m l := fun x hx => (H.tr.inD x hx).2
theorem LS.fr (H : LS w W p h r u dv gw gl n pl k c m l want last) (f : Fr (fun _ => False) W W') : LS w W' p h r u dv gw gl n pl k c m l want last :=
  { H with cs := H.cs.fr f, sw := H.sw.kept f id, ul := H.ul.kept f id }
theorem LS.next (H : LS w W p h r u dv gw gl n pl k c m l want last) (C : CS (w, W) W' p h r u dv c' m' l') (T : Tr m' l' want last) (hl : l'.length ≤ c'.places) (hp : c'.places = c.places) (hn : m'.D.length = m.D.length) (hc : m'.calls ≤ m.calls + 5000) (hh : c'.hit + c'.miss ≤ c.hit + c.miss + 1) (hpin : PinB l' (k + 1)) : LS w W' p h r u dv gw gl n pl (k + 1) c' m' l' want last :=
  ⟨C.one, T, hl, hp.trans H.pl, hn.trans H.n, H.sw.kz C.f2, H.ul.kz C.f2, H.gw, H.gl, by have := H.calls; omega, by have := H.hm; omega, hpin⟩
theorem LS.pin1 (H : LS w W p h r u dv gw gl n pl k c m l want last) : PinB l (k + 1) := fun x hx => by have := H.pin x hx; omega

/-- A block of another kind turns. -/
theorem CS.off (H : CS (w, w) W p h r u dv c m l) {g i : Nat} (hg : w.heap.size ≤ g) (hk : knd W g = 9 ∨ knd W g = 38) (x : Value) : CS (w, w) (W.setCell ⟨g, i, none⟩ x) p h r u dv c m l := by
  obtain ⟨lv, vs, L, R, h1, h2, h3, h4, h5⟩ := H
  have fg : Fr (fun k => k = g) W (W.setCell ⟨g, i, none⟩ x) := Fr.setCell (S := fun k => k = g) (Fr.refl _ _) (p := ⟨g, i, none⟩) (fun _ => rfl) _
  refine ⟨lv, vs, L, R, h1.kept fg (fun k e => ?_), h2.kept fg (fun k e => ?_), h3, ⟨h4.1.trans fg (fun j hj e => by simp at hj; omega), h4.2.trans fg (fun j hj e => by simp at hj; omega)⟩, h5⟩
  · rw [e]; rcases hk with e | e <;> rw [e] <;> decide
  · rw [e]; rcases hk with e | e <;> rw [e] <;> decide
/-- Behind a write, ahead of the law's own stores. -/
structure LT (w W : World) (p h r u : Nat) (dv : Value) (gw gl n pl k : Nat) (c : Ca) (m : Hm) (l : List Pl) (want : List (List UInt8)) (last : List Nat) (want' : List (List UInt8)) (last' : List Nat) : Prop where
  cs : CS (w, w) W p h r u dv c m l
  tr : Tr m l want' last'
  len : l.length ≤ c.places
  pl : c.places = pl
  n : m.D.length = n
  sw : SAt W gw want
  ul : UAt W gl last
  gw : w.heap.size ≤ gw
  gl : w.heap.size ≤ gl
  calls : m.calls ≤ k * 5000
  hm : c.hit + c.miss ≤ k
  pin : PinB l k
theorem LT.stores {b : Nat} {P : List UInt8} {ch : Nat} (H : LT w W p h r u dv gw gl n pl k c m l want last (want.set b P) (last.set b ch)) (f : Fr (fun _ => False) W W') : LT w (W'.setCell ⟨gw, b, none⟩ (.string (str P))) p h r u dv gw gl n pl k c m l (want.set b P) last (want.set b P) (last.set b ch) := by
  have h1 := H.sw.kept f id
  have h2 := H.ul.kept f id
  have fg : Fr (fun k => k = gw) W' (W'.setCell ⟨gw, b, none⟩ (.string (str P))) := Fr.setCell (S := fun k => k = gw) (Fr.refl _ _) (p := ⟨gw, b, none⟩) (fun _ => rfl) _
  exact { H with cs := (H.cs.fr f).off H.gw (.inl (knd_cells h1)) _, sw := h1.set b P, ul := h2.kept fg (fun e => by rw [e] at h2; unfold SAt at h1; unfold UAt at h2; rw [h1] at h2; simp at h2) }
theorem LT.store2 {b : Nat} {ch : Nat} (H : LT w W p h r u dv gw gl n pl k c m l want last want (last.set b ch)) : LS w (W.setCell ⟨gl, b, none⟩ (.int .u64 (ch : Int))) p h r u dv gw gl n pl k c m l want (last.set b ch) := by
  have fg : Fr (fun k => k = gl) W (W.setCell ⟨gl, b, none⟩ (.int .u64 (ch : Int))) := Fr.setCell (S := fun k => k = gl) (Fr.refl _ _) (p := ⟨gl, b, none⟩) (fun _ => rfl) _
  have h1 := H.sw
  have h2 := H.ul
  exact ⟨H.cs.off H.gl (.inr (knd_cells h2)) _, H.tr, H.len, H.pl, H.n, h1.kept fg (fun e => by rw [e] at h1; unfold SAt at h1; unfold UAt at h2; rw [h1] at h2; simp at h2), h2.set b ch, H.gw, H.gl, H.calls, H.hm, H.pin⟩

variable (H : LS w W p h r u dv gw gl n pl k c m l want last) (hk : k ≤ 1000) (hp : pl ≤ 4096)
include H hk hp

theorem LS.cc : m.calls + l.length < 999999990 := by
  have h1 := H.calls
  have h2 := H.len
  have h3 := H.pl
  have h4 : k * 5000 ≤ 1000 * 5000 := Nat.mul_le_mul_right _ hk
  omega
/-- Read. -/
theorem ls_read (b : Int) : Calls Try.prog 22 #[ptr p, .int .i64 b] W fun e W' => RdA W (ftR c m l b) e W' ∧ LS w W' p h r u dv gw gl n pl (k + 1) (ftR c m l b).2.2.2 (ftR c m l b).2.2.1 (ftR c m l b).2.1 want last ∧ Fr (Kz W) W W' := by
  have hc := LS.cc H hk hp
  have hh := H.hm
  refine (cs_read b H.cs.here H.inD (by omega) (by omega)).mono ?_
  rintro e W' ⟨hA, C⟩
  obtain ⟨t1, t2, t3, t4, t5, t6⟩ := ft_tr b H.tr H.len
  obtain ⟨n1, n2⟩ := ft_num c m l b
  exact ⟨hA, H.next C t1 (by rw [t5]; exact t3) t5 t2.len (by omega) n2 (fun x hx => by have := (ft_pin H.pin : PinB (ftR c m l b).2.1 k) x hx; omega), C.f2⟩
/-- Write. -/
theorem ls_write (b : Int) (v : Value) (P : List UInt8) (ch : Nat) (hch : ch < 18446744073709551616) (hv : Rd W v P) (hva : ∀ k, v.ownBlock = some k → knd W k = 5) : Calls Try.prog 23 #[ptr p, .int .i64 b, v, .int .u64 (ch : Int)] W fun e W' => e = .returned (.int .i64 (wtR c m l b P ch).1) ∧
    ((wtR c m l b P ch).1 = 0 → LT w W' p h r u dv gw gl n pl (k + 1) c (wtR c m l b P ch).2.2 (wtR c m l b P ch).2.1 want last (want.set b.toNat (pad P)) (last.set b.toNat ch)) ∧
    ((wtR c m l b P ch).1 ≠ 0 → LS w W' p h r u dv gw gl n pl (k + 1) c (wtR c m l b P ch).2.2 (wtR c m l b P ch).2.1 want last) ∧ Fr (Kz W) W W' := by
  have hc := LS.cc H hk hp
  have hh := H.hm
  refine (cs_write b v P ch hch hv (fun k hk => .inr (hva k hk)) H.cs.here H.inD (by omega)).mono ?_
  rintro e W' ⟨hA, C⟩
  obtain ⟨t1, t2, t3, t4⟩ := wt_tr (c := c) b P ch H.tr H.len
  have n1 := wt_calls c m l b P ch
  have n2 : PinB (wtR c m l b P ch).2.1 (k + 1) := fun x hx => by have := (wt_pin P ch H.pin : PinB (wtR c m l b P ch).2.1 k) x hx; omega
  refine ⟨hA, fun e0 => ?_, fun e0 => ?_, C.f2⟩
  · obtain ⟨-, -, t5, -⟩ := t1 e0
    exact ⟨C.one, t5, t3, H.pl, t4.trans H.n, H.sw.kz C.f2, H.ul.kz C.f2, H.gw, H.gl, by have := H.calls; omega, by omega, n2⟩
  · exact H.next C (t2 e0).1 t3 rfl t4 (by omega) (by omega) n2
/-- Pin. -/
theorem ls_pin (b : Int) : Calls Try.prog 24 #[ptr p, .int .i64 b] W fun e W' => e = .returned (.int .i64 (pnR c m l b).1) ∧ LS w W' p h r u dv gw gl n pl (k + 1) (pnR c m l b).2.2.2 (pnR c m l b).2.2.1 (pnR c m l b).2.1 want last := by
  have hc := LS.cc H hk hp
  have hh := H.hm
  refine (cs_pin b H.cs.here H.inD (by omega) (by omega) (fun x hx => by have := H.pin x hx; omega)).mono ?_
  rintro e W' ⟨hA, C⟩
  obtain ⟨t1, t2, t3, t4, t5, t6⟩ := pn_tr b H.tr H.len
  obtain ⟨n1, n2⟩ := ft_num c m l b
  exact ⟨hA, H.next C t1 (by rw [t5]; exact t3) t5 t6 (Nat.le_trans n1 (by omega)) n2 (pn_pin H.pin)⟩
/-- Unpin. -/
theorem ls_unpin (b : Int) : Calls Try.prog 25 #[ptr p, .int .i64 b] W fun e W' => e = .returned (.int .i64 (unR l b).1) ∧ LS w W' p h r u dv gw gl n pl (k + 1) c m (unR l b).2 want last := by
  refine (cs_unpin b H.cs.here).mono ?_
  rintro e W' ⟨hA, C⟩
  obtain ⟨t1, t2⟩ := un_tr b H.tr
  exact ⟨hA, H.next C t1 (by rw [t2]; exact H.len) rfl rfl (by omega) (by omega) (fun x hx => by have := un_pin (b := b) H.pin x hx; omega)⟩
/-- Safe. -/
theorem ls_safe (s : Nat) (hs : s < 18446744073709551616) : Calls Try.prog 26 #[ptr p, .int .u64 (s : Int)] W fun e W' => e = .returned (.tuple #[]) ∧ LS w W' p h r u dv gw gl n pl (k + 1) { c with safe := max c.safe s } m l want last := by
  refine (cs_safe s hs H.cs.here).mono ?_
  rintro e W' ⟨hA, C⟩
  exact ⟨hA, H.next C H.tr H.len rfl rfl (by omega) (by show c.hit + c.miss ≤ _; omega) H.pin1⟩
/-- Clean. -/
theorem ls_clean (most : Int) : Calls Try.prog 27 #[ptr p, .int .i64 most] W fun e W' => e = .returned (.tuple #[.int .i64 ((clR c most (srtL l) 0 m l).1 : Int), .int .i64 (clR c most (srtL l) 0 m l).2.1]) ∧ LS w W' p h r u dv gw gl n pl (k + 1) c (clR c most (srtL l) 0 m l).2.2.1 (clR c most (srtL l) 0 m l).2.2.2 want last := by
  have hc := LS.cc H hk hp
  have h2 := H.len
  have h3 := H.pl
  refine (cs_clean most H.cs.here H.inD hc (by omega)).mono ?_
  rintro e W' ⟨hA, C⟩
  obtain ⟨t1, t2, t3, t4⟩ := clean_tr (c := c) most H.tr
  have g := (cl_facts c most (srtL l) 0 m l).2.1
  have g2 := srtL_len l
  exact ⟨hA, H.next C t2 (by rw [t4]; exact H.len) rfl t3.len (by omega) (by omega) (fun x hx => by have := cl_pin c most (srtL l) 0 m l H.pin x hx; omega)⟩
/-- Flush. -/
theorem ls_flush : Calls Try.prog 28 #[ptr p] W fun e W' => e = .returned (.int .i64 (flR c m l).1) ∧ LS w W' p h r u dv gw gl n pl (k + 1) c (flR c m l).2.1 (flR c m l).2.2 want last := by
  have hc := LS.cc H hk hp
  have h2 := H.len
  have h3 := H.pl
  refine (cs_flush H.cs.here H.inD hc (by omega)).mono ?_
  rintro e W' ⟨hA, C⟩
  obtain ⟨t1, t2, t3, t4, t5⟩ := fl_tr c H.tr
  have g := (cl_facts c (l.length : Int) (srtL l) 0 m l).2.1
  have g2 := srtL_len l
  have g3 : (flR c m l).2.1.calls ≤ m.calls + 5000 := by
    unfold flR
    split
    · simp only [Hm.one]; omega
    · show (clR c (l.length : Int) (srtL l) 0 m l).2.2.1.calls ≤ _; omega
  have g4 : PinB (flR c m l).2.2 k := by
    have := cl_pin c (l.length : Int) (srtL l) 0 m l H.pin
    unfold flR
    split
    · exact this
    · exact this
  exact ⟨hA, H.next C t1 (by rw [t3]; exact H.len) rfl t4 g3 (by omega) (fun x hx => by have := g4 x hx; omega)⟩
end
end Go.Proofs.Ytdgmlopaeonacaa
