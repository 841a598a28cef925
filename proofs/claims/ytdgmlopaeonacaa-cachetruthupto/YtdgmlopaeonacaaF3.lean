/-
  What a law reads beside a cache: home's blocks and log.
-/
import Derived.Test.YtdgmlopaeonacaaF2
namespace Go.Proofs.Ytdgmlopaeonacaa
open Go.RowKit
set_option linter.unusedVariables false

section
variable {w0 : World × World} {w W W' : World} {p h r u : Nat} {dv : Value} {gw gl n pl k : Nat} {c : Ca} {m m' : Hm} {l : List Pl} {want : List (List UInt8)} {last : List Nat} {safe : Nat}

/-- Home's log. -/
theorem cs_log (H : CS w0 W p h r u dv c m l) : ∃ lo lc, W.cell? ⟨h, 1, none⟩ = some (.slice lo m.log.length lc) ∧ RdV W (.slice lo m.log.length lc) (ivs m.log) := by
  obtain ⟨lv, vs, L, R, h1, h2, h3, h4, h5⟩ := H
  obtain ⟨lo, lc, e⟩ := owns_shape h2.log
  have hr : RdV W lv (ivs m.log) := RdV.of_owns (base := 0) (e := 3) (by rw [ivs_length]; exact h2.log)
  rw [e] at hr
  refine ⟨lo, lc, ?_, hr⟩
  rw [cell_of_heap h2.heap, ← e]; rfl
/-- Every change is a number of 64 bits. -/
theorem cs_last (H : CS w0 W p h r u dv c m l) : ∀ x ∈ l, x.last < 18446744073709551616 := by
  obtain ⟨lv, vs, L, R, h1, h2, rfl, h4, h5⟩ := H
  intro x hx
  obtain ⟨q, hq, rfl⟩ := List.mem_map.1 hx
  exact (h1.ok q hq).last

/-- What a law asks of what went home since. -/
def LgX (lg safe : Nat) (want : List (List UInt8)) (last : List Nat) (m : Hm) : Prop :=
  ∀ k, lg ≤ k → k < m.log.length → ∃ j : Nat, m.log[k]? = some (j : Int) ∧ j < m.D.length ∧ m.D[j]? = want[j]? ∧ ∃ v, last[j]? = some v ∧ v ≤ safe
theorem LgC.x (hh : LgC safe want last m m') : LgX m.log.length safe want last m' := by
  obtain ⟨ks, h1, h2⟩ := hh
  intro k hk hk2
  rw [h1] at hk2 ⊢
  rw [List.length_append, List.length_map] at hk2
  have hj : k - m.log.length < ks.length := by omega
  refine ⟨ks[k - m.log.length], ?_, h2 _ (List.getElem_mem hj)⟩
  rw [List.getElem?_append_right hk, List.getElem?_map, List.getElem?_eq_getElem hj]
  rfl
theorem LgX.none (hh : m'.log.length ≤ k) : LgX k safe want last m' := fun j h1 h2 => by omega

/-- Ahead of the first act. -/
theorem tr_init (n : Nat) : Tr (hmN n 0 0) [] (List.replicate n z384) (List.replicate n 0) :=
  ⟨by simp, by simp, by simp [hmN], by simp [hmN], by simp, by simp, by simp, fun i hi _ => by simp [hmN], by simp [hmN]⟩
theorem LS.init (C : CS (w, w) W p h r u dv ⟨pl, 0, 0, 0⟩ (hmN n 0 0) []) (hs : SAt W gw (List.replicate n z384)) (hu : UAt W gl (List.replicate n 0)) (h1 : w.heap.size ≤ gw) (h2 : w.heap.size ≤ gl) : LS w W p h r u dv gw gl n pl 0 ⟨pl, 0, 0, 0⟩ (hmN n 0 0) [] (List.replicate n z384) (List.replicate n 0) :=
  ⟨C, tr_init n, by simp, rfl, by simp [hmN], hs, hu, h1, h2, by simp [hmN], by simp, fun x hx => by simp at hx⟩

theorem LgC.le (hh : LgC safe want last m m') : m.log.length ≤ m'.log.length := by
  obtain ⟨ks, h1, h2⟩ := hh
  rw [h1]; simp
/-- What an act may log. -/
theorem lg_read (H : LS w W p h r u dv gw gl n pl k c m l want last) (b : Int) : LgC c.safe want last m (ftR c m l b).2.2.1 := (ft_tr b H.tr H.len).2.1.log
theorem lg_pin (H : LS w W p h r u dv gw gl n pl k c m l want last) (b : Int) : LgC c.safe want last m (pnR c m l b).2.2.1 := (pn_tr b H.tr H.len).2.1
theorem lg_clean (H : LS w W p h r u dv gw gl n pl k c m l want last) (most : Int) : LgC c.safe want last m (clR c most (srtL l) 0 m l).2.2.1 := (clean_tr (c := c) most H.tr).2.2.1.log
theorem lg_write (H : LS w W p h r u dv gw gl n pl k c m l want last) (b : Int) (P : List UInt8) (ch : Nat) (e : (wtR c m l b P ch).1 = 0) : LgC c.safe (want.set b.toNat (pad P)) (last.set b.toNat ch) m (wtR c m l b P ch).2.2 := ((wt_tr (c := c) b P ch H.tr H.len).1 e).2.2.2
theorem lg_write_no (H : LS w W p h r u dv gw gl n pl k c m l want last) (b : Int) (P : List UInt8) (ch : Nat) (e : (wtR c m l b P ch).1 ≠ 0) : LgC c.safe want last m (wtR c m l b P ch).2.2 := ((wt_tr (c := c) b P ch H.tr H.len).2.1 e).2
/-- Flushing behind the greatest change. -/
theorem ls_all (H : LS w W p h r u dv gw gl n pl k c m l want last) (hs : 18446744073709551615 ≤ c.safe) : (flR c m l).1 = 0 ∧ (flR c m l).2.1.D = want ∧ srtL (flR c m l).2.2 = [] :=
  fl_all c H.tr (fun x hx => by have := cs_last H.cs x hx; omega)
theorem ls_home (H : LS w W p h r u dv gw gl n pl k c m l want last) (e : (flR c m l).1 = 0) : (flR c m l).2.1.D = want := ((fl_tr c H.tr).2.2.2.2 e).1
/-- An act that lies at g. -/
def AAt (w : World) (g : Nat) (kd kb : Int) (pv : Value) (ch : Nat) (kn : Int) : Prop := w.heap[g]? = some (.cells #[.int .i64 kd, .int .i64 kb, pv, .int .u64 (ch : Int), .int .i64 kn] 40 (0, 0))
theorem AAt.kz {g : Nat} {kd kb kn : Int} {pv : Value} {ch : Nat} (h : AAt w g kd kb pv ch kn) (f : Fr (Kz w) w W) : AAt W g kd kb pv ch kn := by
  unfold AAt at *
  rw [f.block g (lt_of_heap h) (by unfold Kz; rw [knd_cells h]; decide)]; exact h
theorem AAt.kept {S : Nat → Prop} {g : Nat} {kd kb kn : Int} {pv : Value} {ch : Nat} (h : AAt w g kd kb pv ch kn) (f : Fr S w W) (hS : ¬ S g) : AAt W g kd kb pv ch kn := by
  unfold AAt at *
  rw [f.block g (lt_of_heap h) hS]; exact h
theorem AAt.cells {g : Nat} {kd kb kn : Int} {pv : Value} {ch : Nat} (h : AAt w g kd kb pv ch kn) : w.cell? ⟨g, 0, none⟩ = some (.int .i64 kd) ∧ w.cell? ⟨g, 1, none⟩ = some (.int .i64 kb) ∧ w.cell? ⟨g, 2, none⟩ = some pv ∧ w.cell? ⟨g, 3, none⟩ = some (.int .u64 (ch : Int)) ∧ w.cell? ⟨g, 4, none⟩ = some (.int .i64 kn) := by
  unfold AAt at h
  refine ⟨?_, ?_, ?_, ?_, ?_⟩ <;> rw [cell_of_heap h] <;> rfl
end
end Go.Proofs.Ytdgmlopaeonacaa
