/-
  What is set besides times.
-/
import Derived.Test.YtbenailemoefhaaA2
namespace Go.Proofs.Ytbenailemoefhaa
open Go.RowKit
set_option linter.unusedVariables false
set_option linter.unusedSimpArgs false

attribute [local go_sem ↓] Go.wp_at_zero Go.wp_at_succ

def stf (x : In) (s : Sa) (a b c d : Bool) : In := { x with m := if a = true then s.m else x.m, u := if b = true then s.u else x.u, d := if c = true then s.d else x.d, s := if d = true then s.s else x.s }
/-- No block more. -/
def ext0 (w : World) : World := { w with heap := #[] }
theorem ext_0 (w e : World) (h : e = ext0 w) : ext w e = w := by subst h; unfold ext ext0; simp
set_option maxRecDepth 100000 in
set_option maxHeartbeats 8000000 in
theorem setFields_any (x : In) (s : Sa) (w : World) : Calls Try.prog 52 #[x.v, s.v] w fun e w' => e = .returned (stf x s (hb s.h 1) (hb s.h 2) (hb s.h 4) (hb s.h 8)).v ∧ Fr (fun _ => False) w w' := by
  have HE : Hid (∀ a b c d, stf x s a b c d = { x with m := if a = true then s.m else x.m, u := if b = true then s.u else x.u, d := if c = true then s.d else x.d, s := if d = true then s.s else x.s }) := hide (fun _ _ _ _ => rfl)
  generalize hX : stf x s (hb s.h 1) (hb s.h 2) (hb s.h 4) (hb s.h 8) = X at *
  rw [unhide HE] at hX
  replace hX := hide hX
  clear HE
  go_enter Try.func52, Try.ntmps52
  obtain ⟨K0, hK0⟩ : ∃ K : Act → World → Prop, Hid (K = fun a W => (∃ f : Nat → Value, a = { tmps := #[x.v, s.v, .pointer (some ⟨w.heap.size, 0, none⟩), .pointer (some ⟨w.heap.size + 1, 0, none⟩), .pointer (some ⟨w.heap.size + 1 + 1, 0, none⟩), f 5, f 6, f 7, f 8, f 9, f 10, f 11, f 12, f 13, f 14, f 15, f 16, f 17, f 18, f 19, f 20, f 21, f 22, f 23, f 24, f 25], defers := [] }) ∧ ∃ E, Like w E ∧ W = ext (((w.alloc (.cells (In.cs x) 25)).alloc (.cells s.cs 52)).alloc (.cells (In.cs ⟨0, 0, 0, 0, 0, 0, 0, 0, 0, 0, 0, 0, 0, ⟨#[]⟩⟩) 25)) E) := ⟨_, hide rfl⟩
  refine wp_cut K0 ?_ ?_
  · go_wp2_with fail
    all_goals rw [unhide hK0]
    all_goals exact ⟨mkF rfl, ext0 _, ⟨rfl, rfl, rfl⟩, (ext_0 _ _ rfl).symm⟩
  rw [unhide hK0]
  clear hK0 K0
  rintro _ _ ⟨⟨f, rfl⟩, E, hE, rfl⟩
  generalize f 5 = g5
  generalize f 6 = g6
  generalize f 7 = g7
  generalize f 8 = g8
  generalize f 9 = g9
  generalize f 10 = g10
  generalize f 11 = g11
  generalize f 12 = g12
  generalize f 13 = g13
  generalize f 14 = g14
  generalize f 15 = g15
  generalize f 16 = g16
  generalize f 17 = g17
  generalize f 18 = g18
  generalize f 19 = g19
  generalize f 20 = g20
  generalize f 21 = g21
  generalize f 22 = g22
  generalize f 23 = g23
  generalize f 24 = g24
  generalize f 25 = g25
  clear f
  obtain ⟨K1, hK1⟩ : ∃ K : Act → World → Prop, Hid (K = fun a W => (∃ f : Nat → Value, a = { tmps := #[x.v, s.v, .pointer (some ⟨w.heap.size, 0, none⟩), .pointer (some ⟨w.heap.size + 1, 0, none⟩), .pointer (some ⟨w.heap.size + 1 + 1, 0, none⟩), f 5, f 6, f 7, f 8, f 9, f 10, f 11, f 12, f 13, f 14, f 15, f 16, f 17, f 18, f 19, f 20, f 21, f 22, f 23, f 24, f 25], defers := [] }) ∧ ∃ E, Like w E ∧ W = ext (((w.alloc (.cells (In.cs { x with m := if hb s.h 1 = true then s.m else x.m }) 25)).alloc (.cells s.cs 52)).alloc (.cells (In.cs ⟨0, 0, 0, 0, 0, 0, 0, 0, 0, 0, 0, 0, 0, ⟨#[]⟩⟩) 25)) E) := ⟨_, hide rfl⟩
  refine wp_cut K1 ?_ ?_
  · go_wp2_with (first | (go_at_call 50; refine mono_ext (has_any s _ _) ?_; rintro e E2 rfl hE2) | (apply wl_load52 _ rfl rfl _ rfl; (case hr => simp [go_sem]); (case hc => (simp [go_sem]; try exact rfl))))
    all_goals rw [unhide hK1]
    all_goals exact ⟨mkF rfl, ext E E2, hE.ext hE2, by simp [*]⟩
  rw [unhide hK1]
  clear hK1 K1
  rintro _ _ ⟨⟨f, rfl⟩, E, hE, rfl⟩
  obtain ⟨x1, hx1⟩ : ∃ y : In, Hid (y = { x with m := if hb s.h 1 = true then s.m else x.m }) := ⟨_, hide rfl⟩
  rw [← unhide hx1]
  generalize f 5 = g5
  generalize f 6 = g6
  generalize f 7 = g7
  generalize f 8 = g8
  generalize f 9 = g9
  generalize f 10 = g10
  generalize f 11 = g11
  generalize f 12 = g12
  generalize f 13 = g13
  generalize f 14 = g14
  generalize f 15 = g15
  generalize f 16 = g16
  generalize f 17 = g17
  generalize f 18 = g18
  generalize f 19 = g19
  generalize f 20 = g20
  generalize f 21 = g21
  generalize f 22 = g22
  generalize f 23 = g23
  generalize f 24 = g24
  generalize f 25 = g25
  clear f
  obtain ⟨K2, hK2⟩ : ∃ K : Act → World → Prop, Hid (K = fun a W => (∃ f : Nat → Value, a = { tmps := #[x.v, s.v, .pointer (some ⟨w.heap.size, 0, none⟩), .pointer (some ⟨w.heap.size + 1, 0, none⟩), .pointer (some ⟨w.heap.size + 1 + 1, 0, none⟩), f 5, f 6, f 7, f 8, f 9, f 10, f 11, f 12, f 13, f 14, f 15, f 16, f 17, f 18, f 19, f 20, f 21, f 22, f 23, f 24, f 25], defers := [] }) ∧ ∃ E, Like w E ∧ W = ext (((w.alloc (.cells (In.cs { x1 with u := if hb s.h 2 = true then s.u else x1.u }) 25)).alloc (.cells s.cs 52)).alloc (.cells (In.cs ⟨0, 0, 0, 0, 0, 0, 0, 0, 0, 0, 0, 0, 0, ⟨#[]⟩⟩) 25)) E) := ⟨_, hide rfl⟩
  refine wp_cut K2 ?_ ?_
  · go_wp2_with (first | (go_at_call 50; refine mono_ext (has_any s _ _) ?_; rintro e E2 rfl hE2) | (apply wl_load52 _ rfl rfl _ rfl; (case hr => simp [go_sem]); (case hc => (simp [go_sem]; try exact rfl))))
    all_goals rw [unhide hK2]
    all_goals exact ⟨mkF rfl, ext E E2, hE.ext hE2, by simp [*]⟩
  rw [unhide hK2]
  clear hK2 K2
  rintro _ _ ⟨⟨f, rfl⟩, E, hE, rfl⟩
  obtain ⟨x2, hx2⟩ : ∃ y : In, Hid (y = { x1 with u := if hb s.h 2 = true then s.u else x1.u }) := ⟨_, hide rfl⟩
  rw [← unhide hx2]
  generalize f 5 = g5
  generalize f 6 = g6
  generalize f 7 = g7
  generalize f 8 = g8
  generalize f 9 = g9
  generalize f 10 = g10
  generalize f 11 = g11
  generalize f 12 = g12
  generalize f 13 = g13
  generalize f 14 = g14
  generalize f 15 = g15
  generalize f 16 = g16
  generalize f 17 = g17
  generalize f 18 = g18
  generalize f 19 = g19
  generalize f 20 = g20
  generalize f 21 = g21
  generalize f 22 = g22
  generalize f 23 = g23
  generalize f 24 = g24
  generalize f 25 = g25
  clear f
  obtain ⟨K3, hK3⟩ : ∃ K : Act → World → Prop, Hid (K = fun a W => (∃ f : Nat → Value, a = { tmps := #[x.v, s.v, .pointer (some ⟨w.heap.size, 0, none⟩), .pointer (some ⟨w.heap.size + 1, 0, none⟩), .pointer (some ⟨w.heap.size + 1 + 1, 0, none⟩), f 5, f 6, f 7, f 8, f 9, f 10, f 11, f 12, f 13, f 14, f 15, f 16, f 17, f 18, f 19, f 20, f 21, f 22, f 23, f 24, f 25], defers := [] }) ∧ ∃ E, Like w E ∧ W = ext (((w.alloc (.cells (In.cs { x2 with d := if hb s.h 4 = true then s.d else x2.d }) 25)).alloc (.cells s.cs 52)).alloc (.cells (In.cs ⟨0, 0, 0, 0, 0, 0, 0, 0, 0, 0, 0, 0, 0, ⟨#[]⟩⟩) 25)) E) := ⟨_, hide rfl⟩
  refine wp_cut K3 ?_ ?_
  · go_wp2_with (first | (go_at_call 50; refine mono_ext (has_any s _ _) ?_; rintro e E2 rfl hE2) | (apply wl_load52 _ rfl rfl _ rfl; (case hr => simp [go_sem]); (case hc => (simp [go_sem]; try exact rfl))))
    all_goals rw [unhide hK3]
    all_goals exact ⟨mkF rfl, ext E E2, hE.ext hE2, by simp [*]⟩
  rw [unhide hK3]
  clear hK3 K3
  rintro _ _ ⟨⟨f, rfl⟩, E, hE, rfl⟩
  obtain ⟨x3, hx3⟩ : ∃ y : In, Hid (y = { x2 with d := if hb s.h 4 = true then s.d else x2.d }) := ⟨_, hide rfl⟩
  rw [← unhide hx3]
  generalize f 5 = g5
  generalize f 6 = g6
  generalize f 7 = g7
  generalize f 8 = g8
  generalize f 9 = g9
  generalize f 10 = g10
  generalize f 11 = g11
  generalize f 12 = g12
  generalize f 13 = g13
  generalize f 14 = g14
  generalize f 15 = g15
  generalize f 16 = g16
  generalize f 17 = g17
  generalize f 18 = g18
  generalize f 19 = g19
  generalize f 20 = g20
  generalize f 21 = g21
  generalize f 22 = g22
  generalize f 23 = g23
  generalize f 24 = g24
  generalize f 25 = g25
  clear f
  obtain ⟨K4, hK4⟩ : ∃ K : Act → World → Prop, Hid (K = fun a W => (∃ f : Nat → Value, a = { tmps := #[x.v, s.v, .pointer (some ⟨w.heap.size, 0, none⟩), .pointer (some ⟨w.heap.size + 1, 0, none⟩), .pointer (some ⟨w.heap.size + 1 + 1, 0, none⟩), f 5, f 6, f 7, f 8, f 9, f 10, f 11, f 12, f 13, f 14, f 15, f 16, f 17, f 18, f 19, f 20, f 21, f 22, f 23, f 24, f 25], defers := [] }) ∧ ∃ E, Like w E ∧ W = ext (((w.alloc (.cells (In.cs { x3 with s := if hb s.h 8 = true then s.s else x3.s }) 25)).alloc (.cells s.cs 52)).alloc (.cells (In.cs ⟨0, 0, 0, 0, 0, 0, 0, 0, 0, 0, 0, 0, 0, ⟨#[]⟩⟩) 25)) E) := ⟨_, hide rfl⟩
  refine wp_cut K4 ?_ ?_
  · go_wp2_with (first | (go_at_call 50; refine mono_ext (has_any s _ _) ?_; rintro e E2 rfl hE2) | (apply wl_load52 _ rfl rfl _ rfl; (case hr => simp [go_sem]); (case hc => (simp [go_sem]; try exact rfl))))
    all_goals rw [unhide hK4]
    all_goals exact ⟨mkF rfl, ext E E2, hE.ext hE2, by simp [*]⟩
  rw [unhide hK4]
  clear hK4 K4
  rintro _ _ ⟨⟨f, rfl⟩, E, hE, rfl⟩
  obtain ⟨x4, hx4⟩ : ∃ y : In, Hid (y = { x3 with s := if hb s.h 8 = true then s.s else x3.s }) := ⟨_, hide rfl⟩
  rw [← unhide hx4]
  generalize f 5 = g5
  generalize f 6 = g6
  generalize f 7 = g7
  generalize f 8 = g8
  generalize f 9 = g9
  generalize f 10 = g10
  generalize f 11 = g11
  generalize f 12 = g12
  generalize f 13 = g13
  generalize f 14 = g14
  generalize f 15 = g15
  generalize f 16 = g16
  generalize f 17 = g17
  generalize f 18 = g18
  generalize f 19 = g19
  generalize f 20 = g20
  generalize f 21 = g21
  generalize f 22 = g22
  generalize f 23 = g23
  generalize f 24 = g24
  generalize f 25 = g25
  clear f
  go_wp2_with (first | (apply wl_load25 _ rfl rfl _ rfl; (case hr => simp [go_sem]); (case hc => (simp [go_sem]; try exact rfl))) | (apply wl_store25 _ _ rfl rfl _ rfl _ rfl; (case hr => simp [go_sem]); (case hw => (simp [go_sem]; try exact rfl))))
  (apply r25 rfl rfl rfl; (case hr => simp [go_sem]); (case hc => (simp [go_sem]; try exact rfl)))
  refine ⟨?_, by repeat' (first | exact Fr.refl _ _ | apply Fr.alloc | (refine Fr.ext ?_ (by assumption)))⟩
  rw [← unhide hX, unhide hx4, unhide hx3, unhide hx2, unhide hx1]
end Go.Proofs.Ytbenailemoefhaa
