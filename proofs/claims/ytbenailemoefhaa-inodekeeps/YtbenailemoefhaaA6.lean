/-
  The times that are set.
-/
import Derived.Test.YtbenailemoefhaaA4
import Derived.Test.YtbenailemoefhaaA5
namespace Go.Proofs.Ytbenailemoefhaa
open Go.RowKit
set_option linter.unusedVariables false
set_option linter.unusedSimpArgs false

attribute [local go_sem ↓] Go.wp_at_zero Go.wp_at_succ

/-- The times that are set, then those that are touched. -/
def stt (x : In) (s : Sa) (a b c d e : Bool) (now : Int) : In := tch { x with ta := if a = true then s.ta else x.ta, tm := if b = true then s.tm else x.tm } c d e now
def wh1 (c : Bool) : Int := if c = true then 1 else 0
def wh2 (c d : Bool) : Int := if d = true then bits .or .i64 (wh1 c) 2 else wh1 c
def wh3 (c d e : Bool) : Int := if e = true then bits .or .i64 (wh2 c d) 4 else wh2 c d
theorem wh_tb (c d e : Bool) : tb (wh3 c d e) 1 = c ∧ tb (wh3 c d e) 2 = d ∧ tb (wh3 c d e) 4 = e := by
  cases c <;> cases d <;> cases e <;> (refine ⟨?_, ?_, ?_⟩ <;> rfl)
set_option maxRecDepth 100000 in
set_option maxHeartbeats 8000000 in
theorem setTimes_any (x : In) (s : Sa) (now : Int) (w : World) : Calls Try.prog 51 #[x.v, s.v, .int .u64 now] w fun e w' => e = .returned (stt x s (hb s.h 16) (hb s.h 32) (hb s.h 64) (hb s.h 128) (s.h != 0) now).v ∧ Fr (fun _ => False) w w' := by
  have HE : Hid (∀ a b c d e, stt x s a b c d e now = tch { x with ta := if a = true then s.ta else x.ta, tm := if b = true then s.tm else x.tm } c d e now) := hide (fun _ _ _ _ _ => rfl)
  generalize hX : stt x s (hb s.h 16) (hb s.h 32) (hb s.h 64) (hb s.h 128) (s.h != 0) now = X at *
  rw [unhide HE] at hX
  replace hX := hide hX
  clear HE
  go_enter Try.func51, Try.ntmps51
  obtain ⟨K0, hK0⟩ : ∃ K : Act → World → Prop, Hid (K = fun a W => (∃ f : Nat → Value, a = { tmps := #[x.v, s.v, .int .u64 now, .pointer (some ⟨w.heap.size, 0, none⟩), .pointer (some ⟨w.heap.size + 1, 0, none⟩), f 5, .pointer (some ⟨w.heap.size + 1 + 1, 0, none⟩), f 7, f 8, f 9, f 10, f 11, f 12, f 13, f 14, f 15, f 16, f 17, f 18, f 19, f 20, f 21, f 22, f 23, f 24, f 25, f 26, f 27, f 28, f 29, f 30, f 31, f 32, f 33, f 34], defers := [] }) ∧ ∃ E, Like w E ∧ W = ext (((w.alloc (.cells (In.cs x) 25)).alloc (.cells s.cs 52)).alloc (.cells (In.cs ⟨0, 0, 0, 0, 0, 0, 0, 0, 0, 0, 0, 0, 0, ⟨#[]⟩⟩) 25)) E) := ⟨_, hide rfl⟩
  refine wp_cut K0 ?_ ?_
  · go_wp2_with fail
    all_goals rw [unhide hK0]
    all_goals exact ⟨mkF rfl, ext0 _, ⟨rfl, rfl, rfl⟩, (ext_0 _ _ rfl).symm⟩
  rw [unhide hK0]
  clear hK0 K0
  rintro _ _ ⟨⟨f, rfl⟩, E, hE, rfl⟩
  generalize f 5 = g5
  generalize f 7 = g7
  generalize f 8 = g8
  generalize f 9 = g9
  generalize f 10 = g10
  generalize f 11 = g11
  generalize f 12 = g12
  generalize f 13 = g13
  generalize f 14 = g14
  generalize f 15 = g15
  generalize f 16 = g16
  generalize f 17 = g17
  generalize f 18 = g18
  generalize f 19 = g19
  generalize f 20 = g20
  generalize f 21 = g21
  generalize f 22 = g22
  generalize f 23 = g23
  generalize f 24 = g24
  generalize f 25 = g25
  generalize f 26 = g26
  generalize f 27 = g27
  generalize f 28 = g28
  generalize f 29 = g29
  generalize f 30 = g30
  generalize f 31 = g31
  generalize f 32 = g32
  generalize f 33 = g33
  generalize f 34 = g34
  clear f
  obtain ⟨K1, hK1⟩ : ∃ K : Act → World → Prop, Hid (K = fun a W => (∃ f : Nat → Value, a = { tmps := #[x.v, s.v, .int .u64 now, .pointer (some ⟨w.heap.size, 0, none⟩), .pointer (some ⟨w.heap.size + 1, 0, none⟩), f 5, .pointer (some ⟨w.heap.size + 1 + 1, 0, none⟩), f 7, f 8, f 9, f 10, f 11, f 12, f 13, f 14, f 15, f 16, f 17, f 18, f 19, f 20, f 21, f 22, f 23, f 24, f 25, f 26, f 27, f 28, f 29, f 30, f 31, f 32, f 33, f 34], defers := [] }) ∧ ∃ E, Like w E ∧ W = ext (((w.alloc (.cells (In.cs { x with ta := if hb s.h 16 = true then s.ta else x.ta }) 25)).alloc (.cells s.cs 52)).alloc (.cells (In.cs ⟨0, 0, 0, 0, 0, 0, 0, 0, 0, 0, 0, 0, 0, ⟨#[]⟩⟩) 25)) E) := ⟨_, hide rfl⟩
  refine wp_cut K1 ?_ ?_
  · go_wp2_with (first | (go_at_call 50; refine mono_ext (has_any s _ _) ?_; rintro e E2 rfl hE2) | (apply wl_load52 _ rfl rfl _ rfl; (case hr => simp [go_sem]); (case hc => (simp [go_sem]; try exact rfl))))
    all_goals rw [unhide hK1]
    all_goals exact ⟨mkF rfl, ext E E2, hE.ext hE2, by simp [*]⟩
  rw [unhide hK1]
  clear hK1 K1
  rintro _ _ ⟨⟨f, rfl⟩, E, hE, rfl⟩
  obtain ⟨x1, hx1⟩ : ∃ y : In, Hid (y = { x with ta := if hb s.h 16 = true then s.ta else x.ta }) := ⟨_, hide rfl⟩
  rw [← unhide hx1]
  generalize f 5 = g5
  generalize f 7 = g7
  generalize f 8 = g8
  generalize f 9 = g9
  generalize f 10 = g10
  generalize f 11 = g11
  generalize f 12 = g12
  generalize f 13 = g13
  generalize f 14 = g14
  generalize f 15 = g15
  generalize f 16 = g16
  generalize f 17 = g17
  generalize f 18 = g18
  generalize f 19 = g19
  generalize f 20 = g20
  generalize f 21 = g21
  generalize f 22 = g22
  generalize f 23 = g23
  generalize f 24 = g24
  generalize f 25 = g25
  generalize f 26 = g26
  generalize f 27 = g27
  generalize f 28 = g28
  generalize f 29 = g29
  generalize f 30 = g30
  generalize f 31 = g31
  generalize f 32 = g32
  generalize f 33 = g33
  generalize f 34 = g34
  clear f
  obtain ⟨K2, hK2⟩ : ∃ K : Act → World → Prop, Hid (K = fun a W => (∃ f : Nat → Value, a = { tmps := #[x.v, s.v, .int .u64 now, .pointer (some ⟨w.heap.size, 0, none⟩), .pointer (some ⟨w.heap.size + 1, 0, none⟩), f 5, .pointer (some ⟨w.heap.size + 1 + 1, 0, none⟩), f 7, f 8, f 9, f 10, f 11, f 12, f 13, f 14, f 15, f 16, f 17, f 18, f 19, f 20, f 21, f 22, f 23, f 24, f 25, f 26, f 27, f 28, f 29, f 30, f 31, f 32, f 33, f 34], defers := [] }) ∧ ∃ E, Like w E ∧ W = ext (((w.alloc (.cells (In.cs { x1 with tm := if hb s.h 32 = true then s.tm else x1.tm }) 25)).alloc (.cells s.cs 52)).alloc (.cells (In.cs ⟨0, 0, 0, 0, 0, 0, 0, 0, 0, 0, 0, 0, 0, ⟨#[]⟩⟩) 25)) E) := ⟨_, hide rfl⟩
  refine wp_cut K2 ?_ ?_
  · go_wp2_with (first | (go_at_call 50; refine mono_ext (has_any s _ _) ?_; rintro e E2 rfl hE2) | (apply wl_load52 _ rfl rfl _ rfl; (case hr => simp [go_sem]); (case hc => (simp [go_sem]; try exact rfl))))
    all_goals rw [unhide hK2]
    all_goals exact ⟨mkF rfl, ext E E2, hE.ext hE2, by simp [*]⟩
  rw [unhide hK2]
  clear hK2 K2
  rintro _ _ ⟨⟨f, rfl⟩, E, hE, rfl⟩
  obtain ⟨x2, hx2⟩ : ∃ y : In, Hid (y = { x1 with tm := if hb s.h 32 = true then s.tm else x1.tm }) := ⟨_, hide rfl⟩
  rw [← unhide hx2]
  generalize f 5 = g5
  generalize f 7 = g7
  generalize f 8 = g8
  generalize f 9 = g9
  generalize f 10 = g10
  generalize f 11 = g11
  generalize f 12 = g12
  generalize f 13 = g13
  generalize f 14 = g14
  generalize f 15 = g15
  generalize f 16 = g16
  generalize f 17 = g17
  generalize f 18 = g18
  generalize f 19 = g19
  generalize f 20 = g20
  generalize f 21 = g21
  generalize f 22 = g22
  generalize f 23 = g23
  generalize f 24 = g24
  generalize f 25 = g25
  generalize f 26 = g26
  generalize f 27 = g27
  generalize f 28 = g28
  generalize f 29 = g29
  generalize f 30 = g30
  generalize f 31 = g31
  generalize f 32 = g32
  generalize f 33 = g33
  generalize f 34 = g34
  clear f
  obtain ⟨K3, hK3⟩ : ∃ K : Act → World → Prop, Hid (K = fun a W => (∃ f : Nat → Value, a = { tmps := #[x.v, s.v, .int .u64 now, .pointer (some ⟨w.heap.size, 0, none⟩), .pointer (some ⟨w.heap.size + 1, 0, none⟩), f 5, .pointer (some ⟨w.heap.size + 1 + 1, 0, none⟩), .int .i64 0, f 8, f 9, f 10, f 11, f 12, f 13, f 14, f 15, f 16, f 17, f 18, f 19, f 20, f 21, f 22, f 23, f 24, f 25, f 26, f 27, f 28, f 29, f 30, f 31, f 32, f 33, f 34], defers := [] }) ∧ ∃ E, Like w E ∧ W = ext (((w.alloc (.cells (In.cs x2) 25)).alloc (.cells s.cs 52)).alloc (.cells (In.cs ⟨0, 0, 0, 0, 0, 0, 0, 0, 0, 0, 0, 0, 0, ⟨#[]⟩⟩) 25)) E) := ⟨_, hide rfl⟩
  refine wp_cut K3 ?_ ?_
  · go_wp2_with fail
    all_goals rw [unhide hK3]
    all_goals exact ⟨mkF rfl, E, hE, rfl⟩
  rw [unhide hK3]
  clear hK3 K3
  rintro _ _ ⟨⟨f, rfl⟩, E, hE, rfl⟩
  generalize f 5 = g5
  generalize f 8 = g8
  generalize f 9 = g9
  generalize f 10 = g10
  generalize f 11 = g11
  generalize f 12 = g12
  generalize f 13 = g13
  generalize f 14 = g14
  generalize f 15 = g15
  generalize f 16 = g16
  generalize f 17 = g17
  generalize f 18 = g18
  generalize f 19 = g19
  generalize f 20 = g20
  generalize f 21 = g21
  generalize f 22 = g22
  generalize f 23 = g23
  generalize f 24 = g24
  generalize f 25 = g25
  generalize f 26 = g26
  generalize f 27 = g27
  generalize f 28 = g28
  generalize f 29 = g29
  generalize f 30 = g30
  generalize f 31 = g31
  generalize f 32 = g32
  generalize f 33 = g33
  generalize f 34 = g34
  clear f
  obtain ⟨K4, hK4⟩ : ∃ K : Act → World → Prop, Hid (K = fun a W => (∃ f : Nat → Value, a = { tmps := #[x.v, s.v, .int .u64 now, .pointer (some ⟨w.heap.size, 0, none⟩), .pointer (some ⟨w.heap.size + 1, 0, none⟩), f 5, .pointer (some ⟨w.heap.size + 1 + 1, 0, none⟩), .int .i64 (wh1 (hb s.h 64)), f 8, f 9, f 10, f 11, f 12, f 13, f 14, f 15, f 16, f 17, f 18, f 19, f 20, f 21, f 22, f 23, f 24, f 25, f 26, f 27, f 28, f 29, f 30, f 31, f 32, f 33, f 34], defers := [] }) ∧ ∃ E, Like w E ∧ W = ext (((w.alloc (.cells (In.cs x2) 25)).alloc (.cells s.cs 52)).alloc (.cells (In.cs ⟨0, 0, 0, 0, 0, 0, 0, 0, 0, 0, 0, 0, 0, ⟨#[]⟩⟩) 25)) E) := ⟨_, hide rfl⟩
  refine wp_cut K4 ?_ ?_
  · go_wp2_with (first | (go_at_call 50; refine mono_ext (has_any s _ _) ?_; rintro e E2 rfl hE2) | (apply wl_load52 _ rfl rfl _ rfl; (case hr => simp [go_sem]); (case hc => (simp [go_sem]; try exact rfl))))
    all_goals rw [unhide hK4]
    all_goals refine ⟨?_, ext E E2, hE.ext hE2, rfl⟩
    all_goals simp only [wh1, *]
    all_goals exact mkF rfl
  rw [unhide hK4]
  clear hK4 K4
  rintro _ _ ⟨⟨f, rfl⟩, E, hE, rfl⟩
  generalize f 5 = g5
  generalize f 8 = g8
  generalize f 9 = g9
  generalize f 10 = g10
  generalize f 11 = g11
  generalize f 12 = g12
  generalize f 13 = g13
  generalize f 14 = g14
  generalize f 15 = g15
  generalize f 16 = g16
  generalize f 17 = g17
  generalize f 18 = g18
  generalize f 19 = g19
  generalize f 20 = g20
  generalize f 21 = g21
  generalize f 22 = g22
  generalize f 23 = g23
  generalize f 24 = g24
  generalize f 25 = g25
  generalize f 26 = g26
  generalize f 27 = g27
  generalize f 28 = g28
  generalize f 29 = g29
  generalize f 30 = g30
  generalize f 31 = g31
  generalize f 32 = g32
  generalize f 33 = g33
  generalize f 34 = g34
  clear f
  obtain ⟨q4, hq4⟩ : ∃ y : Int, Hid (y = wh1 (hb s.h 64)) := ⟨_, hide rfl⟩
  rw [← unhide hq4]
  obtain ⟨K5, hK5⟩ : ∃ K : Act → World → Prop, Hid (K = fun a W => (∃ f : Nat → Value, a = { tmps := #[x.v, s.v, .int .u64 now, .pointer (some ⟨w.heap.size, 0, none⟩), .pointer (some ⟨w.heap.size + 1, 0, none⟩), f 5, .pointer (some ⟨w.heap.size + 1 + 1, 0, none⟩), .int .i64 (if hb s.h 128 = true then bits .or .i64 q4 2 else q4), f 8, f 9, f 10, f 11, f 12, f 13, f 14, f 15, f 16, f 17, f 18, f 19, f 20, f 21, f 22, f 23, f 24, f 25, f 26, f 27, f 28, f 29, f 30, f 31, f 32, f 33, f 34], defers := [] }) ∧ ∃ E, Like w E ∧ W = ext (((w.alloc (.cells (In.cs x2) 25)).alloc (.cells s.cs 52)).alloc (.cells (In.cs ⟨0, 0, 0, 0, 0, 0, 0, 0, 0, 0, 0, 0, 0, ⟨#[]⟩⟩) 25)) E) := ⟨_, hide rfl⟩
  refine wp_cut K5 ?_ ?_
  · go_wp2_with (first | (go_at_call 50; refine mono_ext (has_any s _ _) ?_; rintro e E2 rfl hE2) | (apply wl_load52 _ rfl rfl _ rfl; (case hr => simp [go_sem]); (case hc => (simp [go_sem]; try exact rfl))))
    all_goals rw [unhide hK5]
    all_goals refine ⟨?_, ext E E2, hE.ext hE2, rfl⟩
    all_goals simp only [*, if_true, if_false]
    all_goals exact mkF rfl
  rw [unhide hK5]
  clear hK5 K5
  rintro _ _ ⟨⟨f, rfl⟩, E, hE, rfl⟩
  generalize f 5 = g5
  generalize f 8 = g8
  generalize f 9 = g9
  generalize f 10 = g10
  generalize f 11 = g11
  generalize f 12 = g12
  generalize f 13 = g13
  generalize f 14 = g14
  generalize f 15 = g15
  generalize f 16 = g16
  generalize f 17 = g17
  generalize f 18 = g18
  generalize f 19 = g19
  generalize f 20 = g20
  generalize f 21 = g21
  generalize f 22 = g22
  generalize f 23 = g23
  generalize f 24 = g24
  generalize f 25 = g25
  generalize f 26 = g26
  generalize f 27 = g27
  generalize f 28 = g28
  generalize f 29 = g29
  generalize f 30 = g30
  generalize f 31 = g31
  generalize f 32 = g32
  generalize f 33 = g33
  generalize f 34 = g34
  clear f
  obtain ⟨q5, hq5⟩ : ∃ y : Int, Hid (y = if hb s.h 128 = true then bits .or .i64 q4 2 else q4) := ⟨_, hide rfl⟩
  rw [← unhide hq5]
  obtain ⟨K6, hK6⟩ : ∃ K : Act → World → Prop, Hid (K = fun a W => (∃ f : Nat → Value, a = { tmps := #[x.v, s.v, .int .u64 now, .pointer (some ⟨w.heap.size, 0, none⟩), .pointer (some ⟨w.heap.size + 1, 0, none⟩), f 5, .pointer (some ⟨w.heap.size + 1 + 1, 0, none⟩), .int .i64 (if (s.h != 0) = true then bits .or .i64 q5 4 else q5), f 8, f 9, f 10, f 11, f 12, f 13, f 14, f 15, f 16, f 17, f 18, f 19, f 20, f 21, f 22, f 23, f 24, f 25, f 26, f 27, f 28, f 29, f 30, f 31, f 32, f 33, f 34], defers := [] }) ∧ ∃ E, Like w E ∧ W = ext (((w.alloc (.cells (In.cs x2) 25)).alloc (.cells s.cs 52)).alloc (.cells (In.cs ⟨0, 0, 0, 0, 0, 0, 0, 0, 0, 0, 0, 0, 0, ⟨#[]⟩⟩) 25)) E) := ⟨_, hide rfl⟩
  refine wp_cut K6 ?_ ?_
  · go_wp2_with fail
    all_goals rw [unhide hK6]
    all_goals refine ⟨?_, E, hE, rfl⟩
    all_goals simp only [*, if_true, if_false]
    all_goals exact mkF rfl
  rw [unhide hK6]
  clear hK6 K6
  rintro _ _ ⟨⟨f, rfl⟩, E, hE, rfl⟩
  generalize f 5 = g5
  generalize f 8 = g8
  generalize f 9 = g9
  generalize f 10 = g10
  generalize f 11 = g11
  generalize f 12 = g12
  generalize f 13 = g13
  generalize f 14 = g14
  generalize f 15 = g15
  generalize f 16 = g16
  generalize f 17 = g17
  generalize f 18 = g18
  generalize f 19 = g19
  generalize f 20 = g20
  generalize f 21 = g21
  generalize f 22 = g22
  generalize f 23 = g23
  generalize f 24 = g24
  generalize f 25 = g25
  generalize f 26 = g26
  generalize f 27 = g27
  generalize f 28 = g28
  generalize f 29 = g29
  generalize f 30 = g30
  generalize f 31 = g31
  generalize f 32 = g32
  generalize f 33 = g33
  generalize f 34 = g34
  clear f
  obtain ⟨q6, hq6⟩ : ∃ y : Int, Hid (y = if (s.h != 0) = true then bits .or .i64 q5 4 else q5) := ⟨_, hide rfl⟩
  rw [← unhide hq6]
  have hq : q6 = wh3 (hb s.h 64) (hb s.h 128) (s.h != 0) := by rw [unhide hq6, unhide hq5, unhide hq4]; rfl
  have hT := fun w => touch_any x2 q6 now w
  rw [hq] at hT
  obtain ⟨t1, t2, t4⟩ := wh_tb (hb s.h 64) (hb s.h 128) (s.h != 0)
  rw [t1, t2, t4, ← hq] at hT
  have hXX : Hid (X = tch x2 (hb s.h 64) (hb s.h 128) (s.h != 0) now) := hide (by rw [← unhide hX, unhide hx2, unhide hx1])
  rw [← unhide hXX] at hT
  clear hq t1 t2 t4 hq6 hq5 hq4
  go_wp2_with (first | (go_at_call 30; refine mono_ext (hT _) ?_; rintro e E2 rfl hE2) | (apply wl_load25 _ rfl rfl _ rfl; (case hr => simp [go_sem]); (case hc => (simp [go_sem]; try exact rfl))) | (apply wl_store25 _ _ rfl rfl _ rfl _ rfl; (case hr => simp [go_sem]); (case hw => (simp [go_sem]; try exact rfl))))
  (apply r25 rfl rfl rfl; (case hr => simp [go_sem]); (case hc => (simp [go_sem]; try exact rfl)))
  exact ⟨rfl, by repeat' (first | exact Fr.refl _ _ | apply Fr.alloc | (refine Fr.ext ?_ (by first | assumption | exact hE.ext hE2)))⟩
end Go.Proofs.Ytbenailemoefhaa
