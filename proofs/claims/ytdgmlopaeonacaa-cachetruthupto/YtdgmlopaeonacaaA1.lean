/-
  A block at hand, plainly and in memory.
-/
import Derived.Test.YtdgmlopaeonacaaBx
namespace Go.Proofs.Ytdgmlopaeonacaa
open Go.RowKit
set_option linter.unusedVariables false

attribute [local go_sem ↓] Go.wp_at_zero Go.wp_at_succ

/-- A block that is at hand, plainly. -/
structure Pl where
  b : Int
  first : Nat
  last : Nat
  pins : Int
  dirty : Bool
  P : List UInt8

def ptr (a : Nat) : Value := .pointer (some ⟨a, 0, none⟩)
/-- Its cells: who is older, who is newer. -/
def nodeC (o n : Value) (x : Pl) : List Value := o :: n :: .int .i64 x.b :: .int .u64 (x.first : Int) :: .int .u64 (x.last : Int) :: .int .i64 x.pins :: .bool x.dirty :: bvs x.P
def NAt (w : World) (a : Nat) (o n : Value) (x : Pl) : Prop := w.heap[a]? = some (.cells (nodeC o n x).toArray 91 (0, 0))
def zeroP (b : Int) : Pl := ⟨b, 0, 0, 0, false, List.replicate 384 0⟩

theorem zero91 : Try.zeroCells91 = (nodeC (.pointer none) (.pointer none) (zeroP 0)).toArray := by kernel_rfl

theorem NAt.kept {S : Nat → Prop} {w w' : World} {a : Nat} {o n : Value} {x : Pl} (h : NAt w a o n x) (f : Fr S w w') (hs : ¬ S a) : NAt w' a o n x := by
  unfold NAt at *
  rw [f.block a (lt_of_heap h) hs]; exact h
theorem NAt.set0 {w : World} {a : Nat} {o n : Value} {x : Pl} (h : NAt w a o n x) (v : Value) : NAt (w.setCell ⟨a, 0, none⟩ v) a v n x := by
  have := heap_setCell_same w a 0 _ 91 v h
  unfold NAt
  rw [this, List.setIfInBounds_toArray]; rfl
theorem NAt.set1 {w : World} {a : Nat} {o n : Value} {x : Pl} (h : NAt w a o n x) (v : Value) : NAt (w.setCell ⟨a, 1, none⟩ v) a o v x := by
  have := heap_setCell_same w a 1 _ 91 v h
  unfold NAt
  rw [this, List.setIfInBounds_toArray]; rfl
theorem NAt.other {w : World} {a : Nat} {o n : Value} {x : Pl} (h : NAt w a o n x) {b : Nat} (hb : a ≠ b) (i : Nat) (v : Value) : NAt (w.setCell ⟨b, i, none⟩ v) a o n x := by
  unfold NAt at *
  rw [Below.heap_setCell _ _ _ _ hb]; exact h
theorem NAt.c0 {w : World} {a : Nat} {o n : Value} {x : Pl} (h : NAt w a o n x) : w.cell? ⟨a, 0, none⟩ = some o := by rw [cell_of_heap h]; rfl
theorem NAt.c1 {w : World} {a : Nat} {o n : Value} {x : Pl} (h : NAt w a o n x) : w.cell? ⟨a, 1, none⟩ = some n := by rw [cell_of_heap h]; rfl
theorem NAt.c2 {w : World} {a : Nat} {o n : Value} {x : Pl} (h : NAt w a o n x) : w.cell? ⟨a, 2, none⟩ = some (.int .i64 x.b) := by rw [cell_of_heap h]; rfl
theorem NAt.c3 {w : World} {a : Nat} {o n : Value} {x : Pl} (h : NAt w a o n x) : w.cell? ⟨a, 3, none⟩ = some (.int .u64 (x.first : Int)) := by rw [cell_of_heap h]; rfl
theorem NAt.c4 {w : World} {a : Nat} {o n : Value} {x : Pl} (h : NAt w a o n x) : w.cell? ⟨a, 4, none⟩ = some (.int .u64 (x.last : Int)) := by rw [cell_of_heap h]; rfl
theorem NAt.c5 {w : World} {a : Nat} {o n : Value} {x : Pl} (h : NAt w a o n x) : w.cell? ⟨a, 5, none⟩ = some (.int .i64 x.pins) := by rw [cell_of_heap h]; rfl
theorem NAt.c6 {w : World} {a : Nat} {o n : Value} {x : Pl} (h : NAt w a o n x) : w.cell? ⟨a, 6, none⟩ = some (.bool x.dirty) := by rw [cell_of_heap h]; rfl

theorem newRing_any (w : World) : Calls Try.prog 30 #[] w fun e w' => e = .returned (ptr w.heap.size) ∧ NAt w' w.heap.size (ptr w.heap.size) (ptr w.heap.size) (zeroP 0) ∧ Fr (fun _ => False) w w' := by
  go_enter Try.func30, Try.ntmps30
  go_wp2_with fail
  go_ret
  refine ⟨rfl, ?_, (Fr.refl _ _).alloc _⟩
  unfold NAt
  rw [heap_alloc_new, zero91]
  simp [nodeC, ptr]

theorem unlink_any (w : World) (a p n : Nat) (x : Pl) (h : NAt w a (ptr p) (ptr n) x) (hp : ∃ o y, NAt w p o (ptr a) y) (hn : ∃ m y, NAt w n (ptr a) m y) (hap : a ≠ p) (han : a ≠ n) : Calls Try.prog 66 #[ptr a] w fun e w' => e = .returned (.tuple #[]) ∧
    (∀ k o m y, NAt w k o m y → k ≠ a → NAt w' k (if k = n then ptr p else o) (if k = p then ptr n else m) y) ∧ NAt w' a (.pointer none) (.pointer none) x ∧ Fr (fun k => k = p ∨ k = n ∨ k = a) w w' := by
  have c0 := h.c0
  have c1 := h.c1
  obtain ⟨op, yp, hp⟩ := hp
  obtain ⟨mn, yn, hn⟩ := hn
  have d1 := hp.c1
  have z1 := frozen_of_heap hp 1
  unfold ptr at c0 c1 d1 ⊢
  have H := hide h
  have HP := hide hp
  have HN := hide hn
  clear h hp hn
  go_enter Try.func66, Try.ntmps66
  go_wp2_with fail
  refine wp_region_quietTail 13 (by kernel_rfl) (by kernel_rfl) ?_
  simp only [List.take_succ_cons, List.take_zero]
  repeat (go_big_quiet_step (fail))
  refine wpQuiet_nil ?_
  intro _ hw'
  obtain ⟨nq, hw''⟩ := hw'
  subst hw''
  simp only [List.drop_succ_cons, List.drop_zero]
  go_wp2_with fail
  refine wp_world ?_
  intro w1 hw1
  have fd : Fr (fun _ => False) w (w.drewN nq) := Fr.ofDrewN _ _
  have K1 : Hid (∀ k o m y, NAt w k o m y → NAt w1 k o (if k = p then ptr n else m) y) := hide (fun k o m y hk => by
    rw [hw1]
    by_cases e : k = p
    · subst e; rw [if_pos rfl]; exact (hk.kept fd id).set1 _
    · rw [if_neg e]; exact (hk.kept fd id).other e _ _)
  have F1 : Hid (Fr (fun k => k = p ∨ k = n ∨ k = a) w w1) := hide (by
    rw [hw1]; exact (fd.mono (fun _ _ h => h.elim)).setCell (p := ⟨p, 1, none⟩) (fun _ => .inl rfl) _)
  have h1 := unhide K1 _ _ _ _ (unhide H)
  rw [if_neg hap] at h1
  have hn1 := unhide K1 _ _ _ _ (unhide HN)
  have c0 := h1.c0
  have c1 := h1.c1
  have d0 := hn1.c0
  have z0 := frozen_of_heap hn1 0
  have y0 := frozen_of_heap h1 0
  have y1 := frozen_of_heap h1 1
  unfold ptr at c0 c1 d0
  have H1 := hide h1
  clear hw1 fd H HP HN z1 d1 h1 hn1
  refine wp_region_quietTail 13 (by kernel_rfl) (by kernel_rfl) ?_
  simp only [List.take_succ_cons, List.take_zero]
  repeat (go_big_quiet_step (fail))
  refine wpQuiet_nil ?_
  intro _ hw'
  obtain ⟨nr, hw''⟩ := hw'
  subst hw''
  simp only [List.drop_succ_cons, List.drop_zero]
  go_wp2_with fail
  go_end0
  have fd : Fr (fun _ => False) w1 (w1.drewN nr) := Fr.ofDrewN _ _
  refine ⟨rfl, fun k o m y hk hka => ?_, ?_, ?_⟩
  · have h2 := (unhide K1 k o m y hk).kept fd id
    refine ((NAt.other ?_ hka _ _).other hka _ _)
    by_cases e : k = n
    · subst e; rw [if_pos rfl]; exact h2.set0 _
    · rw [if_neg e]; exact h2.other e _ _
  · exact ((((unhide H1).kept fd id).other han _ _).set0 _).set1 _
  · exact ((((unhide F1).trans fd (fun _ _ h => h.elim)).setCell (p := ⟨n, 0, none⟩) (fun _ => .inr (.inl rfl)) _).setCell (p := ⟨a, 0, none⟩) (fun _ => .inr (.inr rfl)) _).setCell (p := ⟨a, 1, none⟩) (fun _ => .inr (.inr rfl)) _

/-- A block goes ahead of another one, whose older one is p. -/
theorem linkAhead_any (w : World) (a u p : Nat) (x : Pl) (o m : Value) (h : NAt w a o m x) (hu : ∃ m' y, NAt w u (ptr p) m' y) (hp : ∃ o' y, NAt w p o' (ptr u) y) (hau : a ≠ u) (hap : a ≠ p) : Calls Try.prog 65 #[ptr a, ptr u] w fun e w' => e = .returned (.tuple #[]) ∧
    (∀ k o m y, NAt w k o m y → k ≠ a → NAt w' k (if k = u then ptr a else o) (if k = p then ptr a else m) y) ∧ NAt w' a (ptr p) (ptr u) x ∧ Fr (fun k => k = p ∨ k = u ∨ k = a) w w' := by
  obtain ⟨mu, yu, hu⟩ := hu
  obtain ⟨op, yp, hp⟩ := hp
  have c0 := h.c0
  have c1 := h.c1
  have d0 := hu.c0
  have e1 := hp.c1
  have d1 := hu.c1
  have e0 := hp.c0
  have x0 := frozen_of_heap h 0
  have x1 := frozen_of_heap h 1
  have y0 := frozen_of_heap hu 0
  have z1 := frozen_of_heap hp 1
  unfold ptr at d0 e1 ⊢
  have H := hide h
  have HU := hide hu
  have HP := hide hp
  clear h hu hp
  go_enter Try.func65, Try.ntmps65
  go_wp2_with fail
  go_end0
  refine ⟨rfl, fun k o m y hk hka => ?_, ?_, ?_⟩
  · have h2 := (hk.other hka 0 (.pointer (some ⟨p, 0, none⟩))).other hka 1 (.pointer (some ⟨u, 0, none⟩))
    have h3 : NAt (((w.setCell ⟨a, 0, none⟩ (.pointer (some ⟨p, 0, none⟩))).setCell ⟨a, 1, none⟩ (.pointer (some ⟨u, 0, none⟩))).setCell ⟨p, 1, none⟩ (.pointer (some ⟨a, 0, none⟩))) k o (if k = p then .pointer (some ⟨a, 0, none⟩) else m) y := by
      by_cases e : k = p
      · subst e; rw [if_pos rfl]; exact h2.set1 _
      · rw [if_neg e]; exact h2.other e _ _
    by_cases e : k = u
    · subst e; rw [if_pos rfl]; exact h3.set0 _
    · rw [if_neg e]; exact h3.other e _ _
  · exact ((((unhide H).set0 _).set1 _).other hap _ _).other hau _ _
  · exact ((((Fr.refl _ _).setCell (p := ⟨a, 0, none⟩) (fun _ => .inr (.inr rfl)) _).setCell (p := ⟨a, 1, none⟩) (fun _ => .inr (.inr rfl)) _).setCell (p := ⟨p, 1, none⟩) (fun _ => .inl rfl) _).setCell (p := ⟨u, 0, none⟩) (fun _ => .inr (.inl rfl)) _
end Go.Proofs.Ytdgmlopaeonacaa
