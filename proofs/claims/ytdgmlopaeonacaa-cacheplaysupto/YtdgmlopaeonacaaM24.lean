/-
  What every act keeps, plainly, on a home that fails; both caches with it.
  What does does, both beside each other: Safe, Clean, Flush, and what is no act.
  What does does, both beside each other: Pin, Unpin, Drop.
  A block to be avoided: from none to one, and behind its turning back to none.
-/
import Derived.Test.YtdgmlopaeonacaaM23
import Derived.Deep.RegionWith
namespace Go.Proofs.Ytdgmlopaeonacaa
set_option linter.unusedVariables false
set_option linter.unusedSimpArgs false
open Go.RowKit
set_option maxRecDepth 100000
set_option linter.unusedVariables false
set_option linter.unusedSimpArgs false

/-- Few blocks, few calls, few pins. -/
structure Nm (k : Nat) (c : Ca) (m : Hm) (l : List Pl) : Prop where
  len : l.length ≤ c.places
  pl : c.places ≤ 4096
  inD : InD m l
  calls : m.calls ≤ k * 5000
  hm : c.hit + c.miss ≤ k
  pin : PinB l k
section
variable {k : Nat} {c : Ca} {m : Hm} {l : List Pl} {b : Int}
theorem rm_len (c : Ca) (m : Hm) (l : List Pl) (h : l.length ≤ c.places) : (rmR c m l).2.1.length ≤ c.places ∧ ((rmR c m l).1 = 0 → 0 < c.places → (rmR c m l).2.1.length < c.places) := by
  have hv : lvE' l = 90 ∨ lvE' l = 91 := by unfold lvE'; split <;> simp
  unfold rmR
  split
  · exact ⟨h, fun _ _ => by assumption⟩
  · split
    · exact ⟨h, fun e => by dsimp only at e; rcases hv with hv | hv <;> rw [hv] at e <;> exact absurd e (by decide)⟩
    · rename_i i hi
      have hil : i < l.length := (List.findIdx?_eq_some_iff_getElem.1 hi).1
      have he : (l.eraseIdx i).length = l.length - 1 := List.length_eraseIdx_of_lt hil
      rw [List.getElem?_eq_getElem hil]
      dsimp only
      split
      · split
        · exact ⟨h, fun e => by dsimp only at e; exact absurd e (by decide)⟩
        · exact ⟨by dsimp only; omega, fun _ _ => by dsimp only; omega⟩
      · exact ⟨by dsimp only; omega, fun _ _ => by dsimp only; omega⟩
theorem InD.sub {m' : Hm} {l' : List Pl} (h : InD m l) (hm : m'.D.length = m.D.length) (hs : ∀ x ∈ l', x ∈ l ∨ x.b < (m.D.length : Int)) : InD m' l' := fun x hx => by
  rw [hm]
  rcases hs x hx with e | e
  · exact h x e
  · exact e
theorem Nm.ft (H : Nm k c m l) (hp : 0 < c.places) (b : Int) : Nm (k + 1) (ftR c m l b).2.2.2 (ftR c m l b).2.2.1 (ftR c m l b).2.1 := by
  obtain ⟨n1, n2⟩ := ft_num c m l b
  have hpin : PinB (ftR c m l b).2.1 k := ft_pin H.pin
  obtain ⟨r1, r2⟩ := rm_len c m l H.len
  have rf := rmR_facts c m l
  refine ⟨?_, ?_, ?_, by have := H.calls; omega, by have := H.hm; omega, fun x hx => by have := hpin x hx; omega⟩
  · unfold ftR
    split
    · split
      · split
        · rename_i i hi _ x hx
          have hil := (List.getElem?_eq_some_iff.1 hx).1
          have he : (l.eraseIdx i).length = l.length - 1 := List.length_eraseIdx_of_lt hil
          show (l.eraseIdx i ++ [x]).length ≤ c.places
          have := H.len
          simp; omega
        · exact H.len
      · split
        · rename_i h0
          split
          · exact r1
          · show ((rmR c m l).2.1 ++ [_]).length ≤ c.places
            have := r2 h0 hp
            simp; omega
        · exact r1
    · exact H.len
  · unfold ftR
    split
    · split
      · split
        · exact H.pl
        · exact H.pl
      · split
        · split
          · exact H.pl
          · exact H.pl
        · exact H.pl
    · exact H.pl
  · unfold ftR
    split
    · rename_i h0
      have hb := chE_in h0
      split
      · split
        · rename_i i hi _ x hx
          exact H.inD.sub rfl (fun y hy => by
            rcases List.mem_append.1 hy with e | e
            · exact .inl (erase_mem e)
            · rw [List.mem_singleton.1 e]; exact .inl (List.mem_of_getElem? hx))
        · exact H.inD
      · split
        · split
          · exact H.inD.sub (by simpa [Hm.one] using rf.1) (fun y hy => .inl (rf.2.2.1 y hy))
          · exact H.inD.sub (by simpa [Hm.one] using rf.1) (fun y hy => by
              rcases List.mem_append.1 hy with e | e
              · exact .inl (rf.2.2.1 y e)
              · rw [List.mem_singleton.1 e]; exact .inr hb.2)
        · exact H.inD.sub rf.1 (fun y hy => .inl (rf.2.2.1 y hy))
    · exact H.inD
theorem Nm.wt (H : Nm k c m l) (hp : 0 < c.places) (b : Int) (P : List UInt8) (ch : Nat) : Nm (k + 1) c (wtR c m l b P ch).2.2 (wtR c m l b P ch).2.1 := by
  have n1 := wt_calls c m l b P ch
  have hpin : PinB (wtR c m l b P ch).2.1 k := wt_pin P ch H.pin
  obtain ⟨r1, r2⟩ := rm_len c m l H.len
  have rf := rmR_facts c m l
  refine ⟨?_, H.pl, ?_, by have := H.calls; omega, by have := H.hm; omega, fun x hx => by have := hpin x hx; omega⟩
  · unfold wtR
    split
    · split
      · split
        · split
          · rename_i i hi _ x hx
            have hil := (List.getElem?_eq_some_iff.1 hx).1
            have he : (l.eraseIdx i).length = l.length - 1 := List.length_eraseIdx_of_lt hil
            show (l.eraseIdx i ++ [_]).length ≤ c.places
            have := H.len
            simp; omega
          · exact H.len
        · split
          · rename_i h0
            show ((rmR c m l).2.1 ++ [_]).length ≤ c.places
            have := r2 h0 hp
            simp; omega
          · exact r1
      · exact H.len
    · exact H.len
  · unfold wtR
    split
    · rename_i h0
      have hb := chE_in h0
      split
      · split
        · split
          · rename_i i hi _ x hx
            exact H.inD.sub rfl (fun y hy => by
              rcases List.mem_append.1 hy with e | e
              · exact .inl (erase_mem e)
              · rw [List.mem_singleton.1 e]; exact .inr (H.inD x (List.mem_of_getElem? hx)))
          · exact H.inD
        · split
          · exact H.inD.sub rf.1 (fun y hy => by
              rcases List.mem_append.1 hy with e | e
              · exact .inl (rf.2.2.1 y e)
              · rw [List.mem_singleton.1 e]; exact .inr hb.2)
          · exact H.inD.sub rf.1 (fun y hy => .inl (rf.2.2.1 y hy))
      · exact H.inD
    · exact H.inD
theorem Nm.pn (H : Nm k c m l) (hp : 0 < c.places) (b : Int) : Nm (k + 1) (pnR c m l b).2.2.2 (pnR c m l b).2.2.1 (pnR c m l b).2.1 := by
  have F := H.ft hp b
  have hpin := pn_pin (c := c) (m := m) (b := b) H.pin
  have hl : (pnR c m l b).2.1.map (·.b) = (ftR c m l b).2.1.map (·.b) := by
    unfold pnR
    dsimp only
    split
    · unfold pinL
      rcases hg : (ftR c m l b).2.1.getLast? with _ | y
      · rfl
      · obtain ⟨ys, hys⟩ := List.getLast?_eq_some_iff.1 hg
        rw [hys]; simp
    · rfl
  refine ⟨by have := congrArg List.length hl; simp at this; rw [this]; exact F.len, F.pl, fun x hx => ?_, F.calls, F.hm, hpin⟩
  have : x.b ∈ (ftR c m l b).2.1.map (·.b) := by rw [← hl]; exact List.mem_map.2 ⟨x, hx, rfl⟩
  obtain ⟨y, hy, e⟩ := List.mem_map.1 this
  rw [← e]
  exact F.inD y hy
theorem Nm.un (H : Nm k c m l) (b : Int) : Nm (k + 1) c m (unR l b).2 := by
  have hpin := un_pin (b := b) H.pin
  have hl : (unR l b).2.map (·.b) = l.map (·.b) := by
    unfold unR
    split
    · split
      · split
        · rfl
        · rename_i i hi _ x hx hp
          dsimp only
          rw [List.map_set]
          obtain ⟨h1, h2⟩ := List.getElem?_eq_some_iff.1 hx
          apply List.ext_getElem
          · simp
          · intro j a1 a2
            by_cases e : i = j
            · subst e; simp [h2]
            · simp [List.getElem_set_ne e]
      · rfl
    · rfl
  refine ⟨by have := congrArg List.length hl; simp at this; rw [this]; exact H.len, H.pl, fun x hx => ?_, by have := H.calls; omega, by have := H.hm; omega, fun x hx => by have := hpin x hx; omega⟩
  have : x.b ∈ l.map (·.b) := by rw [← hl]; exact List.mem_map.2 ⟨x, hx, rfl⟩
  obtain ⟨y, hy, e⟩ := List.mem_map.1 this
  rw [← e]
  exact H.inD y hy
theorem Nm.sf (H : Nm k c m l) (s : Nat) : Nm (k + 1) { c with safe := max c.safe s } m l := ⟨H.len, H.pl, H.inD, by have := H.calls; omega, by have := H.hm; show c.hit + c.miss ≤ _; omega, fun x hx => by have := H.pin x hx; omega⟩
theorem Nm.same (H : Nm k c m l) : Nm (k + 1) c m l := ⟨H.len, H.pl, H.inD, by have := H.calls; omega, by have := H.hm; omega, fun x hx => by have := H.pin x hx; omega⟩
theorem Nm.cl (H : Nm k c m l) (most : Int) : Nm (k + 1) c (clR c most (srtL l) 0 m l).2.2.1 (clR c most (srtL l) 0 m l).2.2.2 := by
  obtain ⟨-, f2, f3, f4⟩ := cl_facts c most (srtL l) 0 m l
  have hs := srtL_len l
  have hpin := cl_pin c most (srtL l) 0 m l H.pin
  refine ⟨by have := congrArg List.length f4; simp at this; rw [this]; exact H.len, H.pl, fun x hx => ?_, by have h1 := H.calls; have h2 := H.len; have h3 := H.pl; omega, by have := H.hm; omega, fun x hx => by have := hpin x hx; omega⟩
  have : x.b ∈ l.map (·.b) := by rw [← f4]; exact List.mem_map.2 ⟨x, hx, rfl⟩
  obtain ⟨y, hy, e⟩ := List.mem_map.1 this
  rw [f3, ← e]
  exact H.inD y hy
theorem Nm.fl (H : Nm k c m l) : Nm (k + 1) c (flR c m l).2.1 (flR c m l).2.2 := by
  have C := H.cl (l.length : Int)
  obtain ⟨-, f2, f3, f4⟩ := cl_facts c (l.length : Int) (srtL l) 0 m l
  have hs := srtL_len l
  unfold flR
  split
  · exact ⟨C.len, C.pl, fun x hx => by have := C.inD x hx; simpa [Hm.one] using this, by have h1 := H.calls; have h2 := H.len; have h3 := H.pl; simp only [Hm.one]; omega, C.hm, C.pin⟩
  · exact C
theorem Nm.dr (H : Nm k c m l) (b : Int) : Nm (k + 1) c m (drR m l b).2 := by
  have hs : (drR m l b).2.Sublist l := by
    unfold drR
    split
    · split
      · split
        · split
          · exact List.Sublist.refl _
          · exact List.eraseIdx_sublist ..
        · exact List.Sublist.refl _
      · exact List.Sublist.refl _
    · exact List.Sublist.refl _
  exact ⟨Nat.le_trans hs.length_le H.len, H.pl, fun x hx => H.inD x (hs.subset hx), by have := H.calls; omega, by have := H.hm; omega, fun x hx => by have := H.pin x (hs.subset hx); omega⟩
theorem Nm.num (H : Nm k c m l) (hk : k ≤ 1000) : m.calls + l.length < 999999990 ∧ m.calls < 999999990 ∧ c.hit + c.miss < 1000000000 ∧ l.length ≤ 4096 ∧ PinB l 999999990 ∧ l.length ≤ 1000000 := by
  have h1 := H.calls
  have h2 := H.len
  have h3 := H.pl
  have h4 := H.hm
  have h5 : k * 5000 ≤ 1000 * 5000 := Nat.mul_le_mul_right _ hk
  exact ⟨by omega, by omega, by omega, by omega, fun x hx => by have := H.pin x hx; omega, by omega⟩
end
theorem PR.bn [Av] {w W : World} {p h r u : Nat} {dv : Value} {q g : Nat} {dv2 : Value} {c c2 : Ca} {m m2 : Hm} {l l2 : List Pl} (H : PR w W p h r u dv q g dv2 c m l c2 m2 l2) : (l.map (·.b)).Nodup := by
  obtain ⟨X, Y, ⟨lv, vs, L, R, h1, h2, rfl, h4, h5⟩, -⟩ := H
  rw [List.map_map]; exact h1.bn
/-- Both caches, alike, behind k acts. -/
structure LP [Av] (w W : World) (p h r u : Nat) (dv : Value) (q g : Nat) (dv2 : Value) (k : Nat) (c : Ca) (m : Hm) (l : List Pl) : Prop where
  pr : PR w W p h r u dv q g dv2 c m l c m l
  nm : Nm k c m l
  pp : 0 < c.places
end Go.Proofs.Ytdgmlopaeonacaa

namespace Go.Proofs.Ytdgmlopaeonacaa
set_option linter.unusedVariables false
set_option linter.unusedSimpArgs false
open Go.RowKit
set_option linter.unusedVariables false
set_option linter.unusedSimpArgs false

attribute [local go_sem ↓] Go.wp_at_zero Go.wp_at_succ

section
variable {w W W' : World} {p h r u : Nat} {dv : Value} {q g : Nat} {dv2 : Value} {k : Nat} {c c' c2 : Ca} {m m' m2 : Hm} {l l' l2 : List Pl}
theorem AAt.ky {ga : Nat} {kd kb kn : Int} {pv : Value} {ch : Nat} (h : AAt W ga kd kb pv ch kn) (f : Fr (KY W) W W') : AAt W' ga kd kb pv ch kn :=
  h.kept f (fun e => by unfold KY at e; unfold AAt at h; rw [knd_cells h] at e; revert e; decide)
theorem LP.box [Av] (H : LP w W p h r u dv q g dv2 k c m l) (kd kb : Int) (pv : Value) (ch : Nat) (kn : Int) : LP w (W.alloc (.cells #[.int .i64 kd, .int .i64 kb, pv, .int .u64 (ch : Int), .int .i64 kn] 40)) p h r u dv q g dv2 k c m l ∧ AAt (W.alloc (.cells #[.int .i64 kd, .int .i64 kb, pv, .int .u64 (ch : Int), .int .i64 kn] 40)) W.heap.size kd kb pv ch kn :=
  ⟨⟨H.pr.fr (S := fun _ => False) ((Fr.refl _ _).alloc _) (fun _ e => e.elim), H.nm, H.pp⟩, by unfold AAt; exact heap_alloc_new W _⟩
end
theorem lp_safe1 [Av] {w W : World} {p h r u : Nat} {dv : Value} {q g : Nat} {dv2 : Value} {k : Nat} {c : Ca} {m : Hm} {l : List Pl} {kb kn : Int} {pv : Value} {ch : Nat} (H : LP w W p h r u dv q g dv2 k c m l) (hk : k ≤ 1000) (hch : ch < 18446744073709551616) : Calls Try.prog 26 #[ptr p, .int .u64 (ch : Int)] W fun e W' => e = .returned (.tuple #[]) ∧ PR w W' p h r u dv q g dv2 { c with safe := max c.safe ch } m l c m l ∧ Fr (KY W) W W' := by
  obtain ⟨n1, n2, n3, n4, n5, n6⟩ := H.nm.num hk
  exact H.pr.prog (fun X C => cx_safe ch hch C)
theorem lp_safe2 [Av] {w W : World} {p h r u : Nat} {dv : Value} {q g : Nat} {dv2 : Value} {k : Nat} {c : Ca} {m : Hm} {l : List Pl} {kb kn : Int} {pv : Value} {ch : Nat} (H : LP w W p h r u dv q g dv2 k c m l) (hk : k ≤ 1000) (hch : ch < 18446744073709551616) {W1 : World} {cc : Ca} {mm : Hm} {ll : List Pl} (H1 : PR w W1 p h r u dv q g dv2 cc mm ll c m l) : Calls Try.prog 35 #[ptr q, .int .u64 (ch : Int)] W1 fun e W' => e = .returned (.tuple #[]) ∧ PR w W' p h r u dv q g dv2 cc mm ll { c with safe := max c.safe ch } m l ∧ Fr (KY W1) W1 W' := by
  obtain ⟨n1, n2, n3, n4, n5, n6⟩ := H.nm.num hk
  have hb := H.pr.bn
  exact H1.doc (fun Y D _ => dx_safe ch hch D)
theorem lp_clean1 [Av] {w W : World} {p h r u : Nat} {dv : Value} {q g : Nat} {dv2 : Value} {k : Nat} {c : Ca} {m : Hm} {l : List Pl} {kb kn : Int} {pv : Value} {ch : Nat} (H : LP w W p h r u dv q g dv2 k c m l) (hk : k ≤ 1000) : Calls Try.prog 27 #[ptr p, .int .i64 kn] W fun e W' => e = .returned (.tuple #[.int .i64 ((clR c kn (srtL l) 0 m l).1 : Int), .int .i64 (clR c kn (srtL l) 0 m l).2.1]) ∧ PR w W' p h r u dv q g dv2 c (clR c kn (srtL l) 0 m l).2.2.1 (clR c kn (srtL l) 0 m l).2.2.2 c m l ∧ Fr (KY W) W W' := by
  obtain ⟨n1, n2, n3, n4, n5, n6⟩ := H.nm.num hk
  exact H.pr.prog (fun X C => cx_clean kn C H.nm.inD n1 n6)
theorem lp_clean2 [Av] {w W : World} {p h r u : Nat} {dv : Value} {q g : Nat} {dv2 : Value} {k : Nat} {c : Ca} {m : Hm} {l : List Pl} {kb kn : Int} {pv : Value} {ch : Nat} (H : LP w W p h r u dv q g dv2 k c m l) (hk : k ≤ 1000) {W1 : World} {cc : Ca} {mm : Hm} {ll : List Pl} (H1 : PR w W1 p h r u dv q g dv2 cc mm ll c m l) : Calls Try.prog 36 #[ptr q, .int .i64 kn] W1 fun e W' => e = .returned (.tuple #[.int .i64 ((clR c kn (srtL l) 0 m l).1 : Int), .int .i64 (clR c kn (srtL l) 0 m l).2.1]) ∧ PR w W' p h r u dv q g dv2 cc mm ll c (clR c kn (srtL l) 0 m l).2.2.1 (clR c kn (srtL l) 0 m l).2.2.2 ∧ Fr (KY W1) W1 W' := by
  obtain ⟨n1, n2, n3, n4, n5, n6⟩ := H.nm.num hk
  have hb := H.pr.bn
  exact H1.doc (fun Y D _ => dx_clean kn D n4 hb H.nm.inD n1)
theorem lp_flush1 [Av] {w W : World} {p h r u : Nat} {dv : Value} {q g : Nat} {dv2 : Value} {k : Nat} {c : Ca} {m : Hm} {l : List Pl} {kb kn : Int} {pv : Value} {ch : Nat} (H : LP w W p h r u dv q g dv2 k c m l) (hk : k ≤ 1000) : Calls Try.prog 28 #[ptr p] W fun e W' => e = .returned (.int .i64 (flR c m l).1) ∧ PR w W' p h r u dv q g dv2 c (flR c m l).2.1 (flR c m l).2.2 c m l ∧ Fr (KY W) W W' := by
  obtain ⟨n1, n2, n3, n4, n5, n6⟩ := H.nm.num hk
  exact H.pr.prog (fun X C => cx_flush C H.nm.inD n1 n6)
theorem lp_flush2 [Av] {w W : World} {p h r u : Nat} {dv : Value} {q g : Nat} {dv2 : Value} {k : Nat} {c : Ca} {m : Hm} {l : List Pl} {kb kn : Int} {pv : Value} {ch : Nat} (H : LP w W p h r u dv q g dv2 k c m l) (hk : k ≤ 1000) {W1 : World} {cc : Ca} {mm : Hm} {ll : List Pl} (H1 : PR w W1 p h r u dv q g dv2 cc mm ll c m l) : Calls Try.prog 37 #[ptr q] W1 fun e W' => e = .returned (.int .i64 (flR c m l).1) ∧ PR w W' p h r u dv q g dv2 cc mm ll c (flR c m l).2.1 (flR c m l).2.2 ∧ Fr (KY W1) W1 W' := by
  obtain ⟨n1, n2, n3, n4, n5, n6⟩ := H.nm.num hk
  have hb := H.pr.bn
  exact H1.doc (fun Y D _ => dx_flush D n4 hb H.nm.inD n1)
theorem lp_pin1 [Av] {w W : World} {p h r u : Nat} {dv : Value} {q g : Nat} {dv2 : Value} {k : Nat} {c : Ca} {m : Hm} {l : List Pl} {kb kn : Int} {pv : Value} {ch : Nat} (H : LP w W p h r u dv q g dv2 k c m l) (hk : k ≤ 1000) : Calls Try.prog 24 #[ptr p, .int .i64 kb] W fun e W' => e = .returned (.int .i64 (pnR c m l kb).1) ∧ PR w W' p h r u dv q g dv2 (pnR c m l kb).2.2.2 (pnR c m l kb).2.2.1 (pnR c m l kb).2.1 c m l ∧ Fr (KY W) W W' := by
  obtain ⟨n1, n2, n3, n4, n5, n6⟩ := H.nm.num hk
  exact H.pr.prog (fun X C => cx_pin kb C H.nm.inD n2 n3 n5)
theorem lp_pin2 [Av] {w W : World} {p h r u : Nat} {dv : Value} {q g : Nat} {dv2 : Value} {k : Nat} {c : Ca} {m : Hm} {l : List Pl} {kb kn : Int} {pv : Value} {ch : Nat} (H : LP w W p h r u dv q g dv2 k c m l) (hk : k ≤ 1000) {W1 : World} {cc : Ca} {mm : Hm} {ll : List Pl} (H1 : PR w W1 p h r u dv q g dv2 cc mm ll c m l) : Calls Try.prog 33 #[ptr q, .int .i64 kb] W1 fun e W' => e = .returned (.int .i64 (pnR c m l kb).1) ∧ PR w W' p h r u dv q g dv2 cc mm ll (pnR c m l kb).2.2.2 (pnR c m l kb).2.2.1 (pnR c m l kb).2.1 ∧ Fr (KY W1) W1 W' := by
  obtain ⟨n1, n2, n3, n4, n5, n6⟩ := H.nm.num hk
  have hb := H.pr.bn
  exact H1.doc (fun Y D _ => dx_pin kb D n4 H.nm.inD n2 n3 n5)
theorem lp_unpin1 [Av] {w W : World} {p h r u : Nat} {dv : Value} {q g : Nat} {dv2 : Value} {k : Nat} {c : Ca} {m : Hm} {l : List Pl} {kb kn : Int} {pv : Value} {ch : Nat} (H : LP w W p h r u dv q g dv2 k c m l) (hk : k ≤ 1000) : Calls Try.prog 25 #[ptr p, .int .i64 kb] W fun e W' => e = .returned (.int .i64 (unR l kb).1) ∧ PR w W' p h r u dv q g dv2 c m (unR l kb).2 c m l ∧ Fr (KY W) W W' := by
  obtain ⟨n1, n2, n3, n4, n5, n6⟩ := H.nm.num hk
  exact H.pr.prog (fun X C => cx_unpin kb C)
theorem lp_unpin2 [Av] {w W : World} {p h r u : Nat} {dv : Value} {q g : Nat} {dv2 : Value} {k : Nat} {c : Ca} {m : Hm} {l : List Pl} {kb kn : Int} {pv : Value} {ch : Nat} (H : LP w W p h r u dv q g dv2 k c m l) (hk : k ≤ 1000) {W1 : World} {cc : Ca} {mm : Hm} {ll : List Pl} (H1 : PR w W1 p h r u dv q g dv2 cc mm ll c m l) : Calls Try.prog 34 #[ptr q, .int .i64 kb] W1 fun e W' => e = .returned (.int .i64 (unR l kb).1) ∧ PR w W' p h r u dv q g dv2 cc mm ll c m (unR l kb).2 ∧ Fr (KY W1) W1 W' := by
  obtain ⟨n1, n2, n3, n4, n5, n6⟩ := H.nm.num hk
  have hb := H.pr.bn
  exact H1.doc (fun Y D _ => dx_unpin kb D n4)
theorem lp_drop1 [Av] {w W : World} {p h r u : Nat} {dv : Value} {q g : Nat} {dv2 : Value} {k : Nat} {c : Ca} {m : Hm} {l : List Pl} {kb kn : Int} {pv : Value} {ch : Nat} (H : LP w W p h r u dv q g dv2 k c m l) (hk : k ≤ 1000) : Calls Try.prog 29 #[ptr p, .int .i64 kb] W fun e W' => e = .returned (.int .i64 (drR m l kb).1) ∧ PR w W' p h r u dv q g dv2 c m (drR m l kb).2 c m l ∧ Fr (KY W) W W' := by
  obtain ⟨n1, n2, n3, n4, n5, n6⟩ := H.nm.num hk
  exact H.pr.prog (fun X C => cx_drop kb C)
theorem lp_drop2 [Av] {w W : World} {p h r u : Nat} {dv : Value} {q g : Nat} {dv2 : Value} {k : Nat} {c : Ca} {m : Hm} {l : List Pl} {kb kn : Int} {pv : Value} {ch : Nat} (H : LP w W p h r u dv q g dv2 k c m l) (hk : k ≤ 1000) {W1 : World} {cc : Ca} {mm : Hm} {ll : List Pl} (H1 : PR w W1 p h r u dv q g dv2 cc mm ll c m l) : Calls Try.prog 38 #[ptr q, .int .i64 kb] W1 fun e W' => e = .returned (.int .i64 (drR m l kb).1) ∧ PR w W' p h r u dv q g dv2 cc mm ll c m (drR m l kb).2 ∧ Fr (KY W1) W1 W' := by
  obtain ⟨n1, n2, n3, n4, n5, n6⟩ := H.nm.num hk
  have hb := H.pr.bn
  exact H1.doc (fun Y D _ => dx_drop kb D n4)
set_option maxRecDepth 100000 in
set_option maxHeartbeats 16000000 in
theorem does4 [Av] {w W : World} {p h r u : Nat} {dv : Value} {q g : Nat} {dv2 : Value} {k : Nat} {c : Ca} {m : Hm} {l : List Pl} {kb kn : Int} {pv : Value} {ch : Nat} (H : LP w W p h r u dv q g dv2 k c m l) (hk : k ≤ 1000) (hch : ch < 18446744073709551616) : Calls Try.prog 13 #[ptr p, ptr q, .agg #[.int .i64 4, .int .i64 kb, pv, .int .u64 (ch : Int), .int .i64 kn]] W fun e W' => e = .returned (.bool true) ∧ ∃ c' m' l', LP w W' p h r u dv q g dv2 (k + 1) c' m' l' := by
  obtain ⟨hB, hA⟩ := H.box 4 kb pv ch kn
  obtain ⟨W4, hW4⟩ : ∃ W4, W4 = W.alloc (.cells #[.int .i64 4, .int .i64 kb, pv, .int .u64 (ch : Int), .int .i64 kn] 40) := ⟨_, rfl⟩
  obtain ⟨ga, hga⟩ : ∃ ga, ga = W.heap.size := ⟨_, rfl⟩
  rw [← hW4] at hB hA
  rw [← hga] at hA
  have HH := hide hB
  have HA := hide hA
  obtain ⟨c0, c1, c2, c3, c4⟩ := hA.cells
  rw [hW4, hga] at c0 c1 c2 c3 c4
  have HW4 := hide hW4
  have HGA := hide hga
  clear H hA hB hW4 hga
  have HC := hide (lp_safe1 (kb := kb) (kn := kn) (pv := pv) (unhide HH) hk hch)
  rw [unhide HW4] at HC
  unfold ptr at *
  go_enter Try.func13, Try.ntmps13
  go_wp2_with fail
  refine (unhide HC).mono ?_
  rintro e W1 ⟨rfl, p1, f1⟩
  rw [← unhide HW4] at f1
  have HA1 := hide ((unhide HA).ky f1)
  rw [← unhide HGA]
  clear c0 c1 c2 c3 c4 HC
  obtain ⟨c0, c1, c2, c3, c4⟩ := (unhide HA1).cells
  have HC2 := hide (lp_safe2 (kb := kb) (kn := kn) (pv := pv) (unhide HH) hk hch p1)
  unfold ptr at HC2
  clear p1 f1
  go_wp2_with fail
  refine (unhide HC2).mono ?_
  rintro e W2 ⟨rfl, p2, -⟩
  have HP2 := hide p2
  clear p2 HC2
  go_wp2_with fail
  go_ret
  exact ⟨rfl, _, _, _, unhide HP2, (unhide HH).nm.sf ch, (unhide HH).pp⟩
set_option maxRecDepth 100000 in
set_option maxHeartbeats 16000000 in
theorem does8 [Av] {w W : World} {p h r u : Nat} {dv : Value} {q g : Nat} {dv2 : Value} {k : Nat} {c : Ca} {m : Hm} {l : List Pl} {kb kn : Int} {pv : Value} {ch : Nat} {kd : Int} (H : LP w W p h r u dv q g dv2 k c m l) (q0 : (kd == 0) = false) (q1 : (kd == 1) = false) (q2 : (kd == 2) = false) (q3 : (kd == 3) = false) (q4 : (kd == 4) = false) (q5 : (kd == 5) = false) (q6 : (kd == 6) = false) (q7 : (kd == 7) = false) : Calls Try.prog 13 #[ptr p, ptr q, .agg #[.int .i64 kd, .int .i64 kb, pv, .int .u64 (ch : Int), .int .i64 kn]] W fun e W' => e = .returned (.bool true) ∧ ∃ c' m' l', LP w W' p h r u dv q g dv2 (k + 1) c' m' l' := by
  obtain ⟨hB, hA⟩ := H.box kd kb pv ch kn
  obtain ⟨W4, hW4⟩ : ∃ W4, W4 = W.alloc (.cells #[.int .i64 kd, .int .i64 kb, pv, .int .u64 (ch : Int), .int .i64 kn] 40) := ⟨_, rfl⟩
  obtain ⟨ga, hga⟩ : ∃ ga, ga = W.heap.size := ⟨_, rfl⟩
  rw [← hW4] at hB hA
  rw [← hga] at hA
  have HH := hide hB
  have HA := hide hA
  obtain ⟨c0, c1, c2, c3, c4⟩ := hA.cells
  rw [hW4, hga] at c0 c1 c2 c3 c4
  have HW4 := hide hW4
  have HGA := hide hga
  clear H hA hB hW4 hga
  unfold ptr at *
  go_enter Try.func13, Try.ntmps13
  go_wp2_with fail
  rw [← unhide HW4]
  go_ret
  exact ⟨rfl, _, _, _, (unhide HH).pr, (unhide HH).nm.same, (unhide HH).pp⟩
set_option maxRecDepth 100000 in
set_option maxHeartbeats 16000000 in
theorem does6 [Av] {w W : World} {p h r u : Nat} {dv : Value} {q g : Nat} {dv2 : Value} {k : Nat} {c : Ca} {m : Hm} {l : List Pl} {kb kn : Int} {pv : Value} {ch : Nat} (H : LP w W p h r u dv q g dv2 k c m l) (hk : k ≤ 1000) : Calls Try.prog 13 #[ptr p, ptr q, .agg #[.int .i64 6, .int .i64 kb, pv, .int .u64 (ch : Int), .int .i64 kn]] W fun e W' => e = .returned (.bool true) ∧ ∃ c' m' l', LP w W' p h r u dv q g dv2 (k + 1) c' m' l' := by
  obtain ⟨hB, hA⟩ := H.box 6 kb pv ch kn
  obtain ⟨W4, hW4⟩ : ∃ W4, W4 = W.alloc (.cells #[.int .i64 6, .int .i64 kb, pv, .int .u64 (ch : Int), .int .i64 kn] 40) := ⟨_, rfl⟩
  obtain ⟨ga, hga⟩ : ∃ ga, ga = W.heap.size := ⟨_, rfl⟩
  rw [← hW4] at hB hA
  rw [← hga] at hA
  have HH := hide hB
  have HA := hide hA
  obtain ⟨c0, c1, c2, c3, c4⟩ := hA.cells
  rw [hW4, hga] at c0 c1 c2 c3 c4
  have HW4 := hide hW4
  have HGA := hide hga
  clear H hA hB hW4 hga
  have HC := hide (lp_flush1 (kb := kb) (kn := kn) (pv := pv) (ch := ch) (unhide HH) hk)
  have HC2 := hide (fun W1 p1 => lp_flush2 (kb := kb) (kn := kn) (pv := pv) (ch := ch) (unhide HH) hk (W1 := W1) (cc := c) (mm := (flR c m l).2.1) (ll := (flR c m l).2.2) p1)
  have HN := hide (unhide HH).nm.fl
  generalize (flR c m l).1 = e5 at *
  generalize (flR c m l).2.1 = m5 at *
  generalize (flR c m l).2.2 = l5 at *
  rw [unhide HW4] at HC
  unfold ptr at *
  go_enter Try.func13, Try.ntmps13
  go_wp2_with fail
  refine (unhide HC).mono ?_
  rintro e W1 ⟨rfl, p1, f1⟩
  have HC3 := hide (unhide HC2 W1 p1)
  clear HC2 HC p1 f1
  go_wp2_with (first | (go_at_call 12; refine (num_any _ _).mono ?_; rintro e w' ⟨rfl, rfl⟩) | (go_at_call 37; refine (unhide HC3).mono ?_; rintro e W2 ⟨rfl, p2, -⟩; have HP2 := hide p2; clear p2))
  go_ret
  exact ⟨rfl, _, _, _, unhide HP2, unhide HN, (unhide HH).pp⟩
set_option maxRecDepth 100000 in
set_option maxHeartbeats 16000000 in
theorem does5 [Av] {w W : World} {p h r u : Nat} {dv : Value} {q g : Nat} {dv2 : Value} {k : Nat} {c : Ca} {m : Hm} {l : List Pl} {kb kn : Int} {pv : Value} {ch : Nat} (H : LP w W p h r u dv q g dv2 k c m l) (hk : k ≤ 1000) : Calls Try.prog 13 #[ptr p, ptr q, .agg #[.int .i64 5, .int .i64 kb, pv, .int .u64 (ch : Int), .int .i64 kn]] W fun e W' => e = .returned (.bool true) ∧ ∃ c' m' l', LP w W' p h r u dv q g dv2 (k + 1) c' m' l' := by
  obtain ⟨hB, hA⟩ := H.box 5 kb pv ch kn
  obtain ⟨W4, hW4⟩ : ∃ W4, W4 = W.alloc (.cells #[.int .i64 5, .int .i64 kb, pv, .int .u64 (ch : Int), .int .i64 kn] 40) := ⟨_, rfl⟩
  obtain ⟨ga, hga⟩ : ∃ ga, ga = W.heap.size := ⟨_, rfl⟩
  rw [← hW4] at hB hA
  rw [← hga] at hA
  have HH := hide hB
  have HA := hide hA
  obtain ⟨c0, c1, c2, c3, c4⟩ := hA.cells
  rw [hW4, hga] at c0 c1 c2 c3 c4
  have HW4 := hide hW4
  have HGA := hide hga
  clear H hA hB hW4 hga
  have HC := hide (lp_clean1 (kb := kb) (kn := kn) (pv := pv) (ch := ch) (unhide HH) hk)
  have HC2 := hide (fun W1 p1 => lp_clean2 (kb := kb) (kn := kn) (pv := pv) (ch := ch) (unhide HH) hk (W1 := W1) (cc := c) (mm := (clR c kn (srtL l) 0 m l).2.2.1) (ll := (clR c kn (srtL l) 0 m l).2.2.2) p1)
  have HN := hide ((unhide HH).nm.cl kn)
  generalize (clR c kn (srtL l) 0 m l).1 = e5 at *
  generalize (clR c kn (srtL l) 0 m l).2.1 = e6 at *
  generalize (clR c kn (srtL l) 0 m l).2.2.1 = m5 at *
  generalize (clR c kn (srtL l) 0 m l).2.2.2 = l5 at *
  rw [unhide HW4] at HC
  unfold ptr at *
  go_enter Try.func13, Try.ntmps13
  go_wp2_with fail
  refine (unhide HC).mono ?_
  rintro e W1 ⟨rfl, p1, f1⟩
  rw [← unhide HW4] at f1
  have HA1 := hide ((unhide HA).ky f1)
  rw [← unhide HGA]
  clear c0 c1 c2 c3 c4 HC
  obtain ⟨c0, c1, c2, c3, c4⟩ := (unhide HA1).cells
  have HC3 := hide (unhide HC2 W1 p1)
  clear HC2 p1 f1
  go_wp2_with (first | (go_at_call 12; refine (num_any _ _).mono ?_; rintro e w' ⟨rfl, rfl⟩) | (go_at_call 36; refine (unhide HC3).mono ?_; rintro e W2 ⟨rfl, p2, -⟩; have HP2 := hide p2; clear p2))
  go_ret
  exact ⟨rfl, _, _, _, unhide HP2, unhide HN, (unhide HH).pp⟩
end Go.Proofs.Ytdgmlopaeonacaa

namespace Go.Proofs.Ytdgmlopaeonacaa
set_option linter.unusedVariables false
set_option linter.unusedSimpArgs false
open Go.RowKit
set_option linter.unusedVariables false
set_option linter.unusedSimpArgs false

attribute [local go_sem ↓] Go.wp_at_zero Go.wp_at_succ

theorem LP.fr [Av] {w W W' : World} {p h r u : Nat} {dv : Value} {q g : Nat} {dv2 : Value} {k : Nat} {c : Ca} {m : Hm} {l : List Pl} (H : LP w W p h r u dv q g dv2 k c m l) (f : Fr (fun _ => False) W W') : LP w W' p h r u dv q g dv2 k c m l :=
  ⟨H.pr.fr (S := fun _ => False) f (fun _ e => e.elim), H.nm, H.pp⟩
theorem ft_places (c : Ca) (m : Hm) (l : List Pl) (b : Int) : (ftR c m l b).2.2.2.places = c.places := by
  unfold ftR
  split
  · split
    · split <;> rfl
    · split
      · split <;> rfl
      · rfl
  · rfl
theorem pn_places (c : Ca) (m : Hm) (l : List Pl) (b : Int) : (pnR c m l b).2.2.2.places = c.places := ft_places c m l b
set_option maxRecDepth 100000 in
set_option maxHeartbeats 16000000 in
theorem does2 [Av] {w W : World} {p h r u : Nat} {dv : Value} {q g : Nat} {dv2 : Value} {k : Nat} {c : Ca} {m : Hm} {l : List Pl} {kb kn : Int} {pv : Value} {ch : Nat} (H : LP w W p h r u dv q g dv2 k c m l) (hk : k ≤ 1000) : Calls Try.prog 13 #[ptr p, ptr q, .agg #[.int .i64 2, .int .i64 kb, pv, .int .u64 (ch : Int), .int .i64 kn]] W fun e W' => e = .returned (.bool true) ∧ ∃ c' m' l', LP w W' p h r u dv q g dv2 (k + 1) c' m' l' := by
  obtain ⟨hB, hA⟩ := H.box 2 kb pv ch kn
  have HH := hide hB
  have HA := hide hA
  obtain ⟨c0, c1, -, -, -⟩ := hA.cells
  have HC := hide (fun wx (f : Fr (fun _ => False) (W.alloc (.cells #[.int .i64 2, .int .i64 kb, pv, .int .u64 (ch : Int), .int .i64 kn] 40)) wx) => (lp_pin1 (kb := kb) (kn := kn) (pv := pv) (ch := ch) ((unhide HH).fr f) hk).mono (R' := fun e w1 => e = .returned (.int .i64 (pnR c m l kb).1) ∧ PR w w1 p h r u dv q g dv2 (pnR c m l kb).2.2.2 (pnR c m l kb).2.2.1 (pnR c m l kb).2.1 c m l ∧ AAt w1 W.heap.size 2 kb pv ch kn) (fun e w1 t => ⟨t.1, t.2.1, ((unhide HA).kept f id).ky t.2.2⟩))
  have HC2 := hide (fun wx W1 (p1 : PR w W1 p h r u dv q g dv2 (pnR c m l kb).2.2.2 (pnR c m l kb).2.2.1 (pnR c m l kb).2.1 c m l) (f : Fr (fun _ => False) W1 wx) => lp_pin2 (kb := kb) (kn := kn) (pv := pv) (ch := ch) (unhide HH) hk (W1 := wx) (cc := (pnR c m l kb).2.2.2) (mm := (pnR c m l kb).2.2.1) (ll := (pnR c m l kb).2.1) (p1.fr (S := fun _ => False) f (fun _ e => e.elim)))
  have HN := hide ((unhide HH).nm.pn (unhide HH).pp kb)
  have HPP : Hid (0 < (pnR c m l kb).2.2.2.places) := hide (by rw [pn_places]; exact (unhide HH).pp)
  generalize (pnR c m l kb).1 = e5 at *
  generalize (pnR c m l kb).2.2.2 = c5 at *
  generalize (pnR c m l kb).2.2.1 = m5 at *
  generalize (pnR c m l kb).2.1 = l5 at *
  clear H hA hB
  unfold ptr at *
  go_enter Try.func13, Try.ntmps13
  go_wp2_with fail
  go_region_with ((first | (go_at_call 12; refine (num_any _ _).mono ?_; rintro e w' ⟨rfl, rfl⟩) | (go_at_call 24; refine (unhide HC _ (by first | exact (Fr.refl _ _).drew | exact Fr.refl _ _ | exact Fr.ofDrewN _ _)).mono ?_; rintro e w1 ⟨rfl, p1, a1⟩; have c1' := a1.cells.2.1; have HP1 := hide p1; clear p1 a1) | (go_at_call 33; refine (unhide HC2 _ _ (unhide HP1) (by first | exact (Fr.refl _ _).drew | exact Fr.refl _ _ | exact Fr.ofDrewN _ _)).mono ?_; rintro e w2 ⟨rfl, p2, -⟩; have HP2 := hide p2; clear p2)))
  all_goals
    go_wp2_with fail
    go_ret
    exact ⟨rfl, _, _, _, unhide HP2, unhide HN, unhide HPP⟩
set_option maxRecDepth 100000 in
set_option maxHeartbeats 16000000 in
theorem does3 [Av] {w W : World} {p h r u : Nat} {dv : Value} {q g : Nat} {dv2 : Value} {k : Nat} {c : Ca} {m : Hm} {l : List Pl} {kb kn : Int} {pv : Value} {ch : Nat} (H : LP w W p h r u dv q g dv2 k c m l) (hk : k ≤ 1000) : Calls Try.prog 13 #[ptr p, ptr q, .agg #[.int .i64 3, .int .i64 kb, pv, .int .u64 (ch : Int), .int .i64 kn]] W fun e W' => e = .returned (.bool true) ∧ ∃ c' m' l', LP w W' p h r u dv q g dv2 (k + 1) c' m' l' := by
  obtain ⟨hB, hA⟩ := H.box 3 kb pv ch kn
  have HH := hide hB
  have HA := hide hA
  obtain ⟨c0, c1, -, -, -⟩ := hA.cells
  have HC := hide (fun wx (f : Fr (fun _ => False) (W.alloc (.cells #[.int .i64 3, .int .i64 kb, pv, .int .u64 (ch : Int), .int .i64 kn] 40)) wx) => (lp_unpin1 (kb := kb) (kn := kn) (pv := pv) (ch := ch) ((unhide HH).fr f) hk).mono (R' := fun e w1 => e = .returned (.int .i64 (unR l kb).1) ∧ PR w w1 p h r u dv q g dv2 c m (unR l kb).2 c m l ∧ AAt w1 W.heap.size 3 kb pv ch kn) (fun e w1 t => ⟨t.1, t.2.1, ((unhide HA).kept f id).ky t.2.2⟩))
  have HC2 := hide (fun wx W1 (p1 : PR w W1 p h r u dv q g dv2 c m (unR l kb).2 c m l) (f : Fr (fun _ => False) W1 wx) => lp_unpin2 (kb := kb) (kn := kn) (pv := pv) (ch := ch) (unhide HH) hk (W1 := wx) (cc := c) (mm := m) (ll := (unR l kb).2) (p1.fr (S := fun _ => False) f (fun _ e => e.elim)))
  have HN := hide ((unhide HH).nm.un kb)
  generalize (unR l kb).1 = e5 at *
  generalize (unR l kb).2 = l5 at *
  clear H hA hB
  unfold ptr at *
  go_enter Try.func13, Try.ntmps13
  go_wp2_with fail
  go_region_with ((first | (go_at_call 12; refine (num_any _ _).mono ?_; rintro e w' ⟨rfl, rfl⟩) | (go_at_call 25; refine (unhide HC _ (by first | exact (Fr.refl _ _).drew | exact Fr.refl _ _ | exact Fr.ofDrewN _ _)).mono ?_; rintro e w1 ⟨rfl, p1, a1⟩; have c1' := a1.cells.2.1; have HP1 := hide p1; clear p1 a1) | (go_at_call 34; refine (unhide HC2 _ _ (unhide HP1) (by first | exact (Fr.refl _ _).drew | exact Fr.refl _ _ | exact Fr.ofDrewN _ _)).mono ?_; rintro e w2 ⟨rfl, p2, -⟩; have HP2 := hide p2; clear p2)))
  all_goals
    go_wp2_with fail
    go_ret
    exact ⟨rfl, _, _, _, unhide HP2, unhide HN, (unhide HH).pp⟩
set_option maxRecDepth 100000 in
set_option maxHeartbeats 16000000 in
theorem does7 [Av] {w W : World} {p h r u : Nat} {dv : Value} {q g : Nat} {dv2 : Value} {k : Nat} {c : Ca} {m : Hm} {l : List Pl} {kb kn : Int} {pv : Value} {ch : Nat} (H : LP w W p h r u dv q g dv2 k c m l) (hk : k ≤ 1000) : Calls Try.prog 13 #[ptr p, ptr q, .agg #[.int .i64 7, .int .i64 kb, pv, .int .u64 (ch : Int), .int .i64 kn]] W fun e W' => e = .returned (.bool true) ∧ ∃ c' m' l', LP w W' p h r u dv q g dv2 (k + 1) c' m' l' := by
  obtain ⟨hB, hA⟩ := H.box 7 kb pv ch kn
  have HH := hide hB
  have HA := hide hA
  obtain ⟨c0, c1, -, -, -⟩ := hA.cells
  have HC := hide (fun wx (f : Fr (fun _ => False) (W.alloc (.cells #[.int .i64 7, .int .i64 kb, pv, .int .u64 (ch : Int), .int .i64 kn] 40)) wx) => (lp_drop1 (kb := kb) (kn := kn) (pv := pv) (ch := ch) ((unhide HH).fr f) hk).mono (R' := fun e w1 => e = .returned (.int .i64 (drR m l kb).1) ∧ PR w w1 p h r u dv q g dv2 c m (drR m l kb).2 c m l ∧ AAt w1 W.heap.size 7 kb pv ch kn) (fun e w1 t => ⟨t.1, t.2.1, ((unhide HA).kept f id).ky t.2.2⟩))
  have HC2 := hide (fun wx W1 (p1 : PR w W1 p h r u dv q g dv2 c m (drR m l kb).2 c m l) (f : Fr (fun _ => False) W1 wx) => lp_drop2 (kb := kb) (kn := kn) (pv := pv) (ch := ch) (unhide HH) hk (W1 := wx) (cc := c) (mm := m) (ll := (drR m l kb).2) (p1.fr (S := fun _ => False) f (fun _ e => e.elim)))
  have HN := hide ((unhide HH).nm.dr kb)
  generalize (drR m l kb).1 = e5 at *
  generalize (drR m l kb).2 = l5 at *
  clear H hA hB
  unfold ptr at *
  go_enter Try.func13, Try.ntmps13
  go_wp2_with fail
  go_region_with ((first | (go_at_call 12; refine (num_any _ _).mono ?_; rintro e w' ⟨rfl, rfl⟩) | (go_at_call 29; refine (unhide HC _ (by first | exact (Fr.refl _ _).drew | exact Fr.refl _ _ | exact Fr.ofDrewN _ _)).mono ?_; rintro e w1 ⟨rfl, p1, a1⟩; have c1' := a1.cells.2.1; have HP1 := hide p1; clear p1 a1) | (go_at_call 38; refine (unhide HC2 _ _ (unhide HP1) (by first | exact (Fr.refl _ _).drew | exact Fr.refl _ _ | exact Fr.ofDrewN _ _)).mono ?_; rintro e w2 ⟨rfl, p2, -⟩; have HP2 := hide p2; clear p2)))
  all_goals
    go_wp2_with fail
    go_ret
    exact ⟨rfl, _, _, _, unhide HP2, unhide HN, (unhide HH).pp⟩
end Go.Proofs.Ytdgmlopaeonacaa

namespace Go.Proofs.Ytdgmlopaeonacaa
set_option linter.unusedVariables false
set_option linter.unusedSimpArgs false
open Go.RowKit
set_option linter.unusedVariables false
set_option linter.unusedSimpArgs false

/-- This block. -/
@[reducible] def avOne (a : Nat) : Av := ⟨some a⟩
theorem avOne_z {a b : Nat} (e : (avOne a).z = some b) : b = a := by injection e with e; exact e.symm
section
variable {w w1 W W' : World} {p h r u a : Nat} {dv lv : Value} {vs : List Value} {q g : Nat} {dv2 : Value} {c c2 : Ca} {m m2 : Hm} {l l2 : List Pl} {R : List (Nat × Pl)} {K : Pl → Prop}
theorem HAt.low [Av] (H : HAt w h dv lv vs m) : ∀ v ∈ vs, ∀ b, v.ownBlock = some b → b < w.heap.size := fun v hv b hb => by
  obtain ⟨i, hi, rfl⟩ := List.getElem_of_mem hv
  have hl : vs.length = m.D.length := by have := H.data.1; simpa using this
  obtain ⟨b', e1, e2⟩ := H.rd i (by omega)
  rw [List.getElem?_eq_getElem hi] at e1
  injection e1 with e1
  rw [e1] at hb
  simp [Value.ownBlock] at hb
  subst hb
  exact lt_of_heap e2
theorem HAtG.low [Av] (H : HAtG w h dv lv vs m) : ∀ v ∈ vs, ∀ b, v.ownBlock = some b → b < w.heap.size := fun v hv b hb => by
  obtain ⟨i, hi, rfl⟩ := List.getElem_of_mem hv
  have hl : vs.length = m.D.length := by have := H.data.1; simpa using this
  obtain ⟨b', cb', e1, e2⟩ := H.rd i (by omega)
  rw [List.getElem?_eq_getElem hi] at e1
  injection e1 with e1
  rw [e1] at hb
  simp [Value.ownBlock] at hb
  subst hb
  exact knd_lt (by rw [e2.2.2]; decide)
theorem HAt.to (H : @HAt avNo w1 h dv lv vs m) (f : Fr (fun _ => False) w1 W) (h1 : w1.heap.size ≤ a) (h2 : a < W.heap.size) : @HAt (avOne a) W h dv lv vs m := by
  obtain ⟨e1, e2, e3, e4, e5, -, -⟩ := @HAt.kept0 _ _ _ _ _ _ _ avNo H f
  exact @HAt.mk (avOne a) _ _ _ _ _ _ e1 e2 e3 e4 e5 (fun v hv b hb e => by have := @HAt.low _ _ _ _ _ _ avNo H v hv b hb; have := avOne_z e; omega) (fun b e => by have := avOne_z e; omega)
theorem HAtG.to (H : @HAtG avNo w1 h dv lv vs m) (f : Fr (fun _ => False) w1 W) (h1 : w1.heap.size ≤ a) (h2 : a < W.heap.size) : @HAtG (avOne a) W h dv lv vs m := by
  obtain ⟨e1, e2, e3, e4, e5, -, -⟩ := @HAtG.kept0 _ _ _ _ _ _ _ avNo H f
  exact @HAtG.mk (avOne a) _ _ _ _ _ _ e1 e2 e3 e4 e5 (fun v hv b hb e => by have := @HAtG.low _ _ _ _ _ _ avNo H v hv b hb; have := avOne_z e; omega) (fun b e => by have := avOne_z e; omega)
theorem HAt.off (H : @HAt (avOne a) W h dv lv vs m) (ha : knd W a = 5) (f : Fr (fun k => k = a) W W') : @HAt avNo W' h dv lv vs m := by
  obtain ⟨Hh, Hd, Hr, Hl, Ho, Hf, -⟩ := H
  refine @HAt.mk avNo _ _ _ _ _ _ ?_ (owns_kept Hd f (fun k hk e => ?_)) (fun i hi => ?_) (owns_kept Hl f (fun k hk e => ?_)) Ho (fun _ _ b _ => avNo_z b) (fun b e => absurd e (avNo_z b))
  · rw [f.block h (lt_of_heap Hh) (fun e => by have := knd_cells Hh; rw [show h = a from e, ha] at this; exact absurd this (by decide))]; exact Hh
  · have := knd_owns Hd hk; rw [show k = a from e, ha] at this; exact absurd this (by decide)
  · obtain ⟨b, e1, e2⟩ := Hr i hi
    exact ⟨b, e1, e2.kept f (fun e => Hf _ (List.mem_of_getElem? e1) b rfl (by rw [show b = a from e]; rfl))⟩
  · have := knd_owns Hl hk; rw [show k = a from e, ha] at this; exact absurd this (by decide)
theorem HAtG.off (H : @HAtG (avOne a) W h dv lv vs m) (ha : knd W a = 5) (f : Fr (fun k => k = a) W W') : @HAtG avNo W' h dv lv vs m := by
  obtain ⟨Hh, Hd, Hr, Hl, Ho, Hf, -⟩ := H
  refine @HAtG.mk avNo _ _ _ _ _ _ ?_ (owns_kept Hd f (fun k hk e => ?_)) (fun i hi => ?_) (owns_kept Hl f (fun k hk e => ?_)) Ho (fun _ _ b _ => avNo_z b) (fun b e => absurd e (avNo_z b))
  · rw [f.block h (lt_of_heap Hh) (fun e => by have := knd_cells Hh; rw [show h = a from e, ha] at this; exact absurd this (by decide))]; exact Hh
  · have := knd_owns Hd hk; rw [show k = a from e, ha] at this; exact absurd this (by decide)
  · obtain ⟨b, cb, e1, e2⟩ := Hr i hi
    exact ⟨b, cb, e1, e2.kept f (fun e => Hf _ (List.mem_of_getElem? e1) b rfl (by rw [show b = a from e]; rfl))⟩
  · have := knd_owns Hl hk; rw [show k = a from e, ha] at this; exact absurd this (by decide)
theorem PAt.to {x : Pl} {pv : Value} {b : Nat} (H : @PAt avNo w1 b pv x) (f : Fr (fun _ => False) w1 W) (h1 : w1.heap.size ≤ a) : @PAt (avOne a) W b pv x := by
  obtain ⟨e1, e2, e3, -⟩ := @PAt.kept _ _ _ _ _ _ avNo H f id (fun _ e => e.elim)
  refine ⟨e1, e2, e3, fun k hk e => ?_⟩
  have h5 := H.2.2.1 k hk
  have : k < w1.heap.size := knd_lt (by rw [h5]; decide)
  have := avOne_z e
  omega
theorem DAtK.to (H : @DAtK avNo K w1 q g lv R c) (f : Fr (fun _ => False) w1 W) (h1 : w1.heap.size ≤ a) : @DAtK (avOne a) K W q g lv R c := by
  obtain ⟨e1, e2, -, e4, e5, e6⟩ := @DAtK.kept0 _ _ _ _ _ _ _ _ avNo H f
  obtain ⟨-, -, Hp, -, -, -⟩ := H
  exact @DAtK.mk (avOne a) _ _ _ _ _ _ _ e1 e2 (fun x hx => by obtain ⟨pv, hp⟩ := Hp x hx; exact ⟨pv, hp.to f h1⟩) e4 e5 e6
theorem DAtK.off (H : @DAtK (avOne a) K W q g lv R c) (ha : knd W a = 5) (f : Fr (fun k => k = a) W W') : @DAtK avNo K W' q g lv R c := by
  obtain ⟨Hh, Hd, Hp, Hn, Ho, Hu⟩ := H
  refine @DAtK.mk avNo _ _ _ _ _ _ _ ?_ (owns_kept Hd f (fun k hk e => ?_)) (fun x hx => ?_) Hn Ho Hu
  · rw [f.block q (lt_of_heap Hh) (fun e => by have := knd_cells Hh; rw [show q = a from e, ha] at this; exact absurd this (by decide))]; exact Hh
  · have := knd_owns Hd hk; rw [show k = a from e, ha] at this; exact absurd this (by decide)
  · obtain ⟨pv, e1, e2, e3, e4⟩ := Hp x hx
    have hne : ∀ k, pv.ownBlock = some k → ¬ k = a := fun k hk e => e4 k hk (by rw [e]; rfl)
    refine ⟨pv, ?_, e2.kept f (fun k hk e => hne k hk e), fun k hk => ?_, fun k _ => avNo_z k⟩
    · rw [f.block x.1 (lt_of_heap e1) (fun e => by have := knd_cells e1; rw [show x.1 = a from e, ha] at this; exact absurd this (by decide))]; exact e1
    · have e5 := e3 k hk
      have hl : k < W.heap.size := knd_lt (by rw [e5]; decide)
      unfold knd at *
      rw [f.block k hl (hne k hk)]; exact e5
/-- From none to a block that is new. -/
theorem PR.to (H : @PR avNo w w1 p h r u dv q g dv2 c m l c2 m2 l2) (f : Fr (fun _ => False) w1 W) (h1 : w1.heap.size ≤ a) (h2 : a < W.heap.size) : @PR (avOne a) w W p h r u dv q g dv2 c m l c2 m2 l2 := by
  obtain ⟨X, Y, ⟨lv, vs, L, R, a1, a2, a3, a4, a5⟩, ⟨lg, vs2, lv2, R2, b1, b2, b3, b4, b5⟩, h3, h4, h5, h6⟩ := H
  refine ⟨X, Y, ⟨lv, vs, L, R, a1.kept0 f, a2.to f h1 h2, a3, Fr.refl _ _, fun k hk => ?_⟩, ⟨lg, vs2, lv2, R2, b1.to f h1, b2.to f h1 h2, b3, Fr.refl _ _, fun k hk => ?_⟩, h3, fun k hk => ⟨(h4 k hk).1, (h4 k hk).2.up f id⟩, fun k hk => ⟨(h5 k hk).1, (h5 k hk).2.up f id⟩, h6.trans f (fun _ _ e => e)⟩
  · rcases a5 k hk with hx | hx
    · exact .inl hx
    · exfalso
      rcases hk with hk | hk
      · have := (show KY w1 k by unfold KY; rcases @HAt.knds _ _ _ _ _ _ avNo a2 _ hk with e | e | e <;> rw [e] <;> decide).lt; omega
      · have := (show KY w1 k by unfold KY; rcases a1.knds hk with e | e | e <;> rw [e] <;> decide).lt; omega
  · rcases b5 k hk with hx | hx
    · exact .inl hx
    · exfalso
      rcases hk with hk | hk
      · have := (show KY w1 k by unfold KY; rcases @HAtG.knds _ _ _ _ _ _ avNo b2 _ hk with e | e | e <;> rw [e] <;> decide).lt; omega
      · have := (show KY w1 k by unfold KY; rcases @DAtK.knds _ _ _ _ _ _ _ avNo b1 _ hk with e | e | e <;> rw [e] <;> decide).lt; omega
/-- The block turns: back to none. -/
theorem PR.off (H : @PR (avOne a) w W p h r u dv q g dv2 c m l c2 m2 l2) (ha : knd W a = 5) (hw : w.heap.size ≤ a) (f : Fr (fun k => k = a) W W') : @PR avNo w W' p h r u dv q g dv2 c m l c2 m2 l2 := by
  obtain ⟨X, Y, ⟨lv, vs, L, R, a1, a2, a3, a4, a5⟩, ⟨lg, vs2, lv2, R2, b1, b2, b3, b4, b5⟩, h3, h4, h5, h6⟩ := H
  have hn : ∀ k, KY W k → ¬ k = a := fun k hk e => by rw [e] at hk; exact hk.n5 ha
  have hs := f.size
  refine ⟨X, Y, ⟨lv, vs, L, R, a1.keptB (lv := lv) f (fun k hk e => hn k (by unfold KY; rcases a1.knds e with e | e | e <;> rw [e] <;> decide) hk), a2.off ha f, a3, Fr.refl _ _, fun k hk => ?_⟩, ⟨lg, vs2, lv2, R2, b1.off ha f, b2.off ha f, b3, Fr.refl _ _, fun k hk => ?_⟩, h3, fun k hk => ⟨(h4 k hk).1, (h4 k hk).2.up f (hn k (h4 k hk).2)⟩, fun k hk => ⟨(h5 k hk).1, (h5 k hk).2.up f (hn k (h5 k hk).2)⟩, h6.trans f (fun k hk e => by rw [show k = a from e] at hk; omega)⟩
  · rcases a5 k hk with hx | hx
    · exact .inl hx
    · exfalso
      rcases hk with hk | hk
      · have := (show KY W k by unfold KY; rcases @HAt.knds _ _ _ _ _ _ (avOne a) a2 _ hk with e | e | e <;> rw [e] <;> decide).lt; omega
      · have := (show KY W k by unfold KY; rcases a1.knds hk with e | e | e <;> rw [e] <;> decide).lt; omega
  · rcases b5 k hk with hx | hx
    · exact .inl hx
    · exfalso
      rcases hk with hk | hk
      · have := (show KY W k by unfold KY; rcases @HAtG.knds _ _ _ _ _ _ (avOne a) b2 _ hk with e | e | e <;> rw [e] <;> decide).lt; omega
      · have := (show KY W k by unfold KY; rcases @DAtK.knds _ _ _ _ _ _ _ (avOne a) b1 _ hk with e | e | e <;> rw [e] <;> decide).lt; omega
end
end Go.Proofs.Ytdgmlopaeonacaa
