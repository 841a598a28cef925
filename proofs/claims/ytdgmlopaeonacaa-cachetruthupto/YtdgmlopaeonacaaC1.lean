/-
  The walk of the laws' live.
-/
import Derived.Test.YtdgmlopaeonacaaB9
import Derived.Lib.SlBytesConst
namespace Go.Proofs.Ytdgmlopaeonacaa
open Go.RowKit
set_option linter.unusedVariables false

attribute [local go_sem ↓] Go.wp_at_zero Go.wp_at_succ

def lm0 : Hm := hmN 3 0 0
def lc0 : Ca := ⟨2, 0, 0, 0⟩
def lc5 : Ca := ⟨2, 5, 0, 0⟩
def lx0 : Pl := wtP (zeroP 0) [97] 5
def lx1 : Pl := wtP (zeroP 1) [98] 6
def lx2 : Pl := { zeroP 2 with P := z384 }
def lm4 : Hm := (lm0.put 0 (pad [97])).one
theorem ls1 : wtR lc0 lm0 [] 0 [97] 5 = (0, [lx0], lm0) := by kernel_rfl
theorem ls2 : wtR lc0 lm0 [lx0] 1 [98] 6 = (0, [lx0, lx1], lm0) := by kernel_rfl
theorem ls3 : ftR lc0 lm0 [lx0, lx1] 2 = (91, [lx0, lx1], lm0, lc0) := by kernel_rfl
theorem ls4 : ftR lc5 lm0 [lx0, lx1] 2 = (0, [lx1, lx2], lm4, ⟨2, 5, 0, 1⟩) := by kernel_rfl
theorem ld0 : lm4.D[0]? = some (pad [97]) := by kernel_rfl
theorem ld1 : lm4.D[1]? = some z384 := by kernel_rfl
theorem lin0 : InD lm0 [] := fun x hx => by simp at hx
theorem lin1 : InD lm0 [lx0] := fun x hx => by simp at hx; subst hx; decide
theorem lin2 : InD lm0 [lx0, lx1] := fun x hx => by
  simp at hx
  rcases hx with rfl | rfl
  · decide
  · decide
theorem num_any (w : World) (n : Int) : Calls Try.prog 12 #[.int .i64 n] w fun e w' => e = .returned (.int .i64 n) ∧ w = w' := by
  go_enter Try.func12, Try.ntmps12
  go_wp2_with fail
  go_ret
  exact ⟨rfl, rfl⟩
theorem one_rd (w : World) (b : UInt8) : Rd (w.alloc (.cells #[.int .u8 ((b.toNat : Nat) : Int)] 5 (1, 2))) (.slice (some ⟨w.heap.size, 0, none⟩) 1 1) [b] := by
  refine Rd.lit rfl (Nat.le_refl _) (by decide) fun j hj => ?_
  have hj0 : j = 0 := by simp at hj; exact hj
  subst hj0
  rw [cell_of_row _ _ _ _ _ _ (heap_alloc_new w _)]; rfl

theorem cv37 (w : World) (b : Int) : (convert 37 37 (.slice (some ⟨w.heap.size, 0, none⟩) 1 1)).run Try.prog (w.alloc (.cells #[.int .u8 b] 5)) = .ok (.slice (some ⟨w.heap.size, 0, none⟩) 1 1) (w.alloc (.cells #[.int .u8 b] 5 (1, 2))) := Lib.run_convert_bytes_const w 37 5 #[.int .u8 b] 1 1 Try.underlying37 Try.underlying5

set_option maxRecDepth 100000 in
set_option maxHeartbeats 2000000 in
theorem live_any (w : World) : Calls Try.prog 7 #[] w fun e w' => e = .returned (.bool true) ∧ Fr (fun _ => False) w w' := by
  go_enter Try.func7, Try.ntmps7
  go_wp2_with fail
  refine (newHome_any w 3 0 0 (by decide) (by decide) (by decide)).mono ?_
  rintro e w1 ⟨⟨h, dv, vs, rfl, hH, hh1, hh2⟩, f1⟩
  have HN := hide (cs_new (w0 := w) hH f1 ⟨hh1, hh2⟩ 2 (by decide))
  unfold ptr at *
  clear hH hh1 hh2 f1
  go_wp2_with fail
  refine (unhide HN).mono ?_
  rintro e w2 ⟨p, r, u, rfl, h2⟩
  have H2 : Hid (CS (w, w) w2 p h r u dv lc0 lm0 []) := hide h2
  have k1 := cv37 w2 97
  unfold ptr at *
  clear h2 HN
  go_wp2_with (go_at_call 12; refine (num_any _ _).mono ?_; rintro e w' ⟨rfl, rfl⟩)
  have fa := (Fr.refl (fun _ => False) w2).alloc (.cells #[.int .u8 97] 5 (1, 2))
  have C1 := cs_write (w := w2.alloc (.cells #[.int .u8 97] 5 (1, 2))) 0 (.slice (some ⟨w2.heap.size, 0, none⟩) 1 1) [97] 5 (by decide) (one_rd w2 97) (fun k hk => .inr (by simp [Value.ownBlock] at hk; subst hk; exact knd_cells (heap_alloc_new w2 _))) ((unhide H2).fr fa) lin0 (by decide)
  rw [ls1] at C1
  unfold ptr at C1
  refine C1.mono ?_
  clear C1 fa k1
  rintro e w3 ⟨rfl, h3⟩
  have H3 := hide h3
  have k1 := cv37 w3 98
  clear h3 H2
  dsimp only at H3 ⊢
  go_wp2_with fail
  have fa := (Fr.refl (fun _ => False) w3).alloc (.cells #[.int .u8 98] 5 (1, 2))
  have C1 := cs_write (w := w3.alloc (.cells #[.int .u8 98] 5 (1, 2))) 1 (.slice (some ⟨w3.heap.size, 0, none⟩) 1 1) [98] 6 (by decide) (one_rd w3 98) (fun k hk => .inr (by simp [Value.ownBlock] at hk; subst hk; exact knd_cells (heap_alloc_new w3 _))) ((unhide H3).fr fa) lin1 (by decide)
  rw [ls2] at C1
  unfold ptr at C1
  refine C1.mono ?_
  clear C1 fa k1
  rintro e w4 ⟨rfl, h4⟩
  have H4 := hide h4
  clear h4 H3
  dsimp only at H4 ⊢
  go_wp2_with fail
  have C1 := cs_read 2 (unhide H4) lin2 (by decide) (by decide)
  rw [ls3] at C1
  unfold ptr at C1
  refine C1.mono ?_
  clear C1
  rintro e w5 ⟨hA, h5⟩
  have H5 := hide h5
  clear h5 H4
  obtain ⟨-, rfl⟩ := hA.resolve_right (fun h => absurd h.1 (by decide))
  clear hA
  dsimp only at H5 ⊢
  go_wp2_with fail
  have C1 := cs_safe 5 (by decide) (unhide H5)
  unfold ptr at C1
  refine C1.mono ?_
  clear C1
  rintro e w6 ⟨rfl, h6⟩
  have H6 : Hid (CS (w, w) w6 p h r u dv lc5 lm0 [lx0, lx1]) := hide h6
  clear h6 H5
  go_wp2_with fail
  have C1 := cs_read 2 (unhide H6) lin2 (by decide) (by decide)
  rw [ls4] at C1
  unfold ptr at C1
  refine C1.mono ?_
  clear C1
  rintro e w7 ⟨hA, h7⟩
  obtain ⟨x, ao, cc, -, rfl, -, -, -, -⟩ := (hA.resolve_left (fun h => h.1 rfl)).2
  obtain ⟨g, cap, b0, hdv, hi0, hcap, cd, cg0, hB0⟩ := cs_home h7 0 _ ld0
  obtain ⟨g1, cap1, b1, hdv1, hi1, hcap1, -, cg1, hB1⟩ := cs_home h7 1 _ ld1
  rw [hdv] at hdv1
  simp only [Value.slice.injEq, Option.some.injEq, Addr.mk.injEq] at hdv1
  obtain ⟨⟨rfl, -, -⟩, -, rfl⟩ := hdv1
  have e0 := hB0.cell 0 (by decide)
  have e1 := hB1.cell 0 (by decide)
  have e0' : w7.cell? ⟨b0, 0, none⟩ = some (.int .u8 97) := e0
  have e1' : w7.cell? ⟨b1, 0, none⟩ = some (.int .u8 0) := e1
  have hdv' : dv = .slice (some ⟨g, 0, none⟩) 3 cap := hdv
  subst hdv'
  have hcap' : 3 ≤ cap := hcap
  have hc0 : 0 < cap := by omega
  have hc1 : 1 < cap := by omega
  have HHE := hide (cs_held h7 (by decide))
  have H7 := hide h7
  unfold ptr at HHE
  clear hA h7 H6 hdv hi0 hcap hi1 hcap1 hB0 hB1 e0 e1
  go_wp2_with (go_at_call 12; refine (num_any _ _).mono ?_; rintro e w' ⟨rfl, rfl⟩)
  refine (unhide HHE).mono ?_
  rintro e w8 ⟨⟨ho, hcc, rfl, hr8⟩, f8⟩
  have F8 := hide ((unhide H7).f.trans f8 (fun _ _ h => h))
  have HR8 : Hid (RdV w8 (.slice ho 2 hcc) (([1, 2] : List Int).map (Value.int .i64))) := hide hr8
  clear hr8 f8 HHE H7
  dsimp only [List.length_cons, List.length_nil]
  go_wp2_with fail
  have fa := (Fr.refl (fun _ => False) w8).alloc (.cells #[.int .i64 1, .int .i64 2] 3)
  have hr2 : RdV (w8.alloc (.cells #[.int .i64 1, .int .i64 2] 3)) (.slice (some ⟨w8.heap.size, 0, none⟩) 2 2) (([1, 2] : List Int).map (Value.int .i64)) := by
    refine .inr ⟨⟨w8.heap.size, 0, none⟩, 2, rfl, Nat.le_refl _, by decide, fun j hj => ?_⟩
    rw [Addr.add_lit, Nat.zero_add, cell_of_heap (heap_alloc_new w8 _)]
    have : j < 2 := hj
    rcases (by omega : j = 0 ∨ j = 1) with rfl | rfl <;> rfl
  refine (ints_any _ _ _ [1, 2] [1, 2] ((unhide HR8).kept fa (fun _ _ h => h)) hr2).mono ?_
  rintro e w9 ⟨rfl, n9, rfl⟩
  have F9 := hide ((unhide F8).trans (fa.trans (Fr.ofDrewN (S := fun _ => False) _ n9) (fun _ _ h => h)) (fun _ _ h => h))
  clear hr2 fa HR8 F8
  rw [decide_eq_true rfl]
  go_wp2_with fail
  go_ret
  exact ⟨rfl, unhide F9⟩
end Go.Proofs.Ytdgmlopaeonacaa
