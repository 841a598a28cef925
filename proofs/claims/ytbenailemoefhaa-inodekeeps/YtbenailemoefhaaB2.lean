/-
  The document's Apply: the walk.
-/
import Derived.Test.YtbenailemoefhaaB1
import Derived.Deep.DeepCutAuto
import Derived.Deep.CutBlock
namespace Go.Proofs.Ytbenailemoefhaa
open Go.RowKit
set_option linter.unusedVariables false
set_option linter.unusedSimpArgs false

attribute [local go_sem ↓] Go.wp_at_zero Go.wp_at_succ

/-- Apply: the error, whether it was sized, the inode. -/
def apE (x : In) (s : Sa) : Int := if ck x ≠ 0 then ck x else if csB x.k s = false then 122 else 0
def apS (x : In) (s : Sa) : Bool := hb s.h 8 && (s.s != x.s)
def apX (x : In) (s : Sa) (now : Int) : In := stt (stf (if apS x s = true then { x with tm := now } else x) s (hb s.h 1) (hb s.h 2) (hb s.h 4) (hb s.h 8)) s (hb s.h 16) (hb s.h 32) (hb s.h 64) (hb s.h 128) (s.h != 0) now
@[reducible] def ResP (x : In) (b : Bool) (e : Int) : Value := .tuple #[(if e = 0 then x else In.zero).v, .bool (if e = 0 then b else false), .int .i64 e]
theorem resP_ok (X : In) (b : Bool) : ResP X b 0 = Value.tuple #[X.v, .bool b, .int .i64 0] := by simp [ResP]
theorem ap_nest (y : In) (s : Sa) (now : Int) (a1 a2 a4 a8 a16 a32 a64 a128 z : Bool) {x12 x14 x16 x18 x20 x22 x24 x26 x28 : In} (h12 : x12 = { y with tc := if z = true then now else y.tc }) (h14 : x14 = { x12 with m := if a1 = true then s.m else x12.m }) (h16 : x16 = { x14 with u := if a2 = true then s.u else x14.u }) (h18 : x18 = { x16 with d := if a4 = true then s.d else x16.d }) (h20 : x20 = { x18 with s := if a8 = true then s.s else x18.s }) (h22 : x22 = { x20 with ta := if a16 = true then s.ta else x20.ta }) (h24 : x24 = { x22 with tm := if a32 = true then s.tm else x22.tm }) (h26 : x26 = { x24 with ta := if a64 = true then now else x24.ta }) (h28 : x28 = { x26 with tm := if a128 = true then now else x26.tm }) : x28 = stt (stf y s a1 a2 a4 a8) s a16 a32 a64 a128 z now := by
  subst h28 h26 h24 h22 h20 h18 h16 h14 h12
  rfl
set_option maxRecDepth 100000 in
set_option maxHeartbeats 16000000 in
theorem rapply_any (x : In) (s : Sa) (now : Int) (w : World) (h0 : -9223372036854775808 ≤ s.h) (h1 : s.h ≤ 9223372036854775807) : Calls Try.prog 25 #[x.v, s.v, .int .u64 now] w fun e w' => e = .returned (ResP (apX x s now) (apS x s) (apE x s)) ∧ Fr (fun _ => False) w w' := by
  have HC := rcheck_any x
  have HE : Hid (apE x s = if ck x ≠ 0 then ck x else if csB x.k s = false then 122 else 0) := hide rfl
  have HX : Hid (apX x s now = stt (stf (if apS x s = true then { x with tm := now } else x) s (hb s.h 1) (hb s.h 2) (hb s.h 4) (hb s.h 8)) s (hb s.h 16) (hb s.h 32) (hb s.h 64) (hb s.h 128) (s.h != 0) now) := hide rfl
  have HS : Hid (apS x s = (hb s.h 8 && (s.s != x.s))) := hide rfl
  have HCS : Hid (csB x.k s = ((bits .andNot .i64 s.h 255 == 0) && !(hb s.h 80 || hb s.h 160) && !(hb s.h 1 && decide (s.m > 4095)) && !(hb s.h 8 && !decide (x.k = 1 ∧ s.s ≤ 1048576)))) := hide rfl
  have HN : Hid (s.h < 0 ∨ 255 < s.h → bits .andNot .i64 s.h 255 ≠ 0) := hide (andNot_no h0 h1)
  have HR : Hid (0 ≤ s.h → s.h ≤ 255 → _) := hide (fun a b => hb_rh (h := s.h) a b)
  have HB : Hid (0 ≤ s.h → s.h ≤ 255 → ∀ b w, 0 < b → b ≤ 128 → Calls Try.prog 53 #[.int .i64 s.h, .int .i64 b] w fun e w' => e = .returned (.bool (rh s.h b)) ∧ w' = w) := hide (fun a b k w c d => rhas_any s.h k w a b c d)
  generalize apE x s = rr at *
  generalize apX x s now = X at *
  generalize apS x s = SZ at *
  generalize csB x.k s = cs at *
  generalize hck : ck x = c at *
  go_enter Try.func25, Try.ntmps25
  obtain ⟨K0, hK0⟩ : ∃ K : Act → World → Prop, Hid (K = fun a W => (∃ f : Nat → Value, a = { tmps := #[x.v, s.v, .int .u64 now, .pointer (some ⟨w.heap.size, 0, none⟩), .pointer (some ⟨w.heap.size + 1, 0, none⟩), f 5, .pointer (some ⟨w.heap.size + 1 + 1, 0, none⟩), .bool false, .int .i64 0, f 9, f 10, f 11, f 12, f 13, f 14, f 15, f 16, f 17, f 18, f 19, f 20, f 21, f 22, f 23, f 24, f 25, f 26, f 27, f 28, f 29, f 30, f 31, f 32, f 33, f 34, f 35, f 36, f 37, f 38, f 39, f 40, f 41, f 42, f 43, f 44, f 45, f 46, f 47, f 48, f 49, f 50, f 51, f 52, f 53, f 54, f 55, f 56, f 57, f 58, f 59, f 60, f 61, f 62, f 63, f 64, f 65, f 66, f 67, f 68, f 69, f 70, f 71, f 72, f 73, f 74, f 75, f 76, f 77, f 78, f 79, f 80, f 81, f 82, f 83, f 84, f 85, f 86, f 87, f 88, f 89, f 90, f 91, f 92, f 93, f 94, f 95, f 96, f 97, f 98, f 99, f 100, f 101, f 102, f 103, f 104, f 105, f 106, f 107, f 108, f 109, f 110, f 111, f 112, f 113, f 114, f 115, f 116, f 117, f 118, f 119, f 120, f 121, f 122, f 123, f 124, f 125, f 126, f 127, f 128, f 129, f 130, f 131, f 132, f 133, f 134, f 135, f 136, f 137], defers := [] }) ∧ (True) ∧ ∃ E, Like w E ∧ W = ext (((w.alloc (.cells (In.cs x) 25)).alloc (.cells s.cs 52)).alloc (.cells (In.cs ⟨0, 0, 0, 0, 0, 0, 0, 0, 0, 0, 0, 0, 0, ⟨#[]⟩⟩) 25)) E) := ⟨_, hide rfl⟩
  refine wp_cut K0 ?_ ?_
  · go_wp2_with fail
    (rw [unhide hK0]; exact ⟨mkF rfl, trivial, ext0 _, ⟨rfl, rfl, rfl⟩, (ext_0 _ _ rfl).symm⟩)
  rw [unhide hK0]
  clear hK0 K0
  rintro _ _ ⟨⟨f, rfl⟩, -, E, hE, rfl⟩
  generalize f 5 = g5
  generalize f 9 = g9
  generalize f 10 = g10
  generalize f 11 = g11
  generalize f 12 = g12
  generalize f 13 = g13
  generalize f 14 = g14
  generalize f 15 = g15
  generalize f 16 = g16
  generalize f 17 = g17
  generalize f 18 = g18
  generalize f 19 = g19
  generalize f 20 = g20
  generalize f 21 = g21
  generalize f 22 = g22
  generalize f 23 = g23
  generalize f 24 = g24
  generalize f 25 = g25
  generalize f 26 = g26
  generalize f 27 = g27
  generalize f 28 = g28
  generalize f 29 = g29
  generalize f 30 = g30
  generalize f 31 = g31
  generalize f 32 = g32
  generalize f 33 = g33
  generalize f 34 = g34
  generalize f 35 = g35
  generalize f 36 = g36
  generalize f 37 = g37
  generalize f 38 = g38
  generalize f 39 = g39
  generalize f 40 = g40
  generalize f 41 = g41
  generalize f 42 = g42
  generalize f 43 = g43
  generalize f 44 = g44
  generalize f 45 = g45
  generalize f 46 = g46
  generalize f 47 = g47
  generalize f 48 = g48
  generalize f 49 = g49
  generalize f 50 = g50
  generalize f 51 = g51
  generalize f 52 = g52
  generalize f 53 = g53
  generalize f 54 = g54
  generalize f 55 = g55
  generalize f 56 = g56
  generalize f 57 = g57
  generalize f 58 = g58
  generalize f 59 = g59
  generalize f 60 = g60
  generalize f 61 = g61
  generalize f 62 = g62
  generalize f 63 = g63
  generalize f 64 = g64
  generalize f 65 = g65
  generalize f 66 = g66
  generalize f 67 = g67
  generalize f 68 = g68
  generalize f 69 = g69
  generalize f 70 = g70
  generalize f 71 = g71
  generalize f 72 = g72
  generalize f 73 = g73
  generalize f 74 = g74
  generalize f 75 = g75
  generalize f 76 = g76
  generalize f 77 = g77
  generalize f 78 = g78
  generalize f 79 = g79
  generalize f 80 = g80
  generalize f 81 = g81
  generalize f 82 = g82
  generalize f 83 = g83
  generalize f 84 = g84
  generalize f 85 = g85
  generalize f 86 = g86
  generalize f 87 = g87
  generalize f 88 = g88
  generalize f 89 = g89
  generalize f 90 = g90
  generalize f 91 = g91
  generalize f 92 = g92
  generalize f 93 = g93
  generalize f 94 = g94
  generalize f 95 = g95
  generalize f 96 = g96
  generalize f 97 = g97
  generalize f 98 = g98
  generalize f 99 = g99
  generalize f 100 = g100
  generalize f 101 = g101
  generalize f 102 = g102
  generalize f 103 = g103
  generalize f 104 = g104
  generalize f 105 = g105
  generalize f 106 = g106
  generalize f 107 = g107
  generalize f 108 = g108
  generalize f 109 = g109
  generalize f 110 = g110
  generalize f 111 = g111
  generalize f 112 = g112
  generalize f 113 = g113
  generalize f 114 = g114
  generalize f 115 = g115
  generalize f 116 = g116
  generalize f 117 = g117
  generalize f 118 = g118
  generalize f 119 = g119
  generalize f 120 = g120
  generalize f 121 = g121
  generalize f 122 = g122
  generalize f 123 = g123
  generalize f 124 = g124
  generalize f 125 = g125
  generalize f 126 = g126
  generalize f 127 = g127
  generalize f 128 = g128
  generalize f 129 = g129
  generalize f 130 = g130
  generalize f 131 = g131
  generalize f 132 = g132
  generalize f 133 = g133
  generalize f 134 = g134
  generalize f 135 = g135
  generalize f 136 = g136
  generalize f 137 = g137
  clear f
  obtain ⟨K1, hK1⟩ : ∃ K : Act → World → Prop, Hid (K = fun a W => (∃ f : Nat → Value, a = { tmps := #[x.v, s.v, .int .u64 now, .pointer (some ⟨w.heap.size, 0, none⟩), .pointer (some ⟨w.heap.size + 1, 0, none⟩), f 5, .pointer (some ⟨w.heap.size + 1 + 1, 0, none⟩), .bool false, .int .i64 0, .int .i64 c, f 10, f 11, f 12, f 13, f 14, f 15, f 16, f 17, f 18, f 19, f 20, f 21, f 22, f 23, f 24, f 25, f 26, f 27, f 28, f 29, f 30, f 31, f 32, f 33, f 34, f 35, f 36, f 37, f 38, f 39, f 40, f 41, f 42, f 43, f 44, f 45, f 46, f 47, f 48, f 49, f 50, f 51, f 52, f 53, f 54, f 55, f 56, f 57, f 58, f 59, f 60, f 61, f 62, f 63, f 64, f 65, f 66, f 67, f 68, f 69, f 70, f 71, f 72, f 73, f 74, f 75, f 76, f 77, f 78, f 79, f 80, f 81, f 82, f 83, f 84, f 85, f 86, f 87, f 88, f 89, f 90, f 91, f 92, f 93, f 94, f 95, f 96, f 97, f 98, f 99, f 100, f 101, f 102, f 103, f 104, f 105, f 106, f 107, f 108, f 109, f 110, f 111, f 112, f 113, f 114, f 115, f 116, f 117, f 118, f 119, f 120, f 121, f 122, f 123, f 124, f 125, f 126, f 127, f 128, f 129, f 130, f 131, f 132, f 133, f 134, f 135, f 136, f 137], defers := [] }) ∧ (True) ∧ ∃ E, Like w E ∧ W = ext (((w.alloc (.cells (In.cs x) 25)).alloc (.cells s.cs 52)).alloc (.cells (In.cs ⟨0, 0, 0, 0, 0, 0, 0, 0, 0, 0, 0, 0, 0, ⟨#[]⟩⟩) 25)) E) := ⟨_, hide rfl⟩
  refine wp_cut K1 ?_ ?_
  · go_wp2_with (first | (go_at_call 19; refine mono_ext (HC _) ?_; rintro e E2 rfl hE2) | (apply wl_load25 _ rfl rfl _ rfl; (case hr => simp [go_sem]); (case hc => (simp [go_sem]; try exact rfl))))
    (rw [unhide hK1]; exact ⟨mkF rfl, trivial, ext E E2, hE.ext hE2, rfl⟩)
  rw [unhide hK1]
  clear hK1 K1
  clear g5 g9 g10 g11 g12 g13 g14 g15 g16 g17 g18 g19 g20 g21 g22 g23 g24 g25 g26 g27 g28 g29 g30 g31 g32 g33 g34 g35 g36 g37 g38 g39 g40 g41 g42 g43 g44 g45 g46 g47 g48 g49 g50 g51 g52 g53 g54 g55 g56 g57 g58 g59 g60 g61 g62 g63 g64 g65 g66 g67 g68 g69 g70 g71 g72 g73 g74 g75 g76 g77 g78 g79 g80 g81 g82 g83 g84 g85 g86 g87 g88 g89 g90 g91 g92 g93 g94 g95 g96 g97 g98 g99 g100 g101 g102 g103 g104 g105 g106 g107 g108 g109 g110 g111 g112 g113 g114 g115 g116 g117 g118 g119 g120 g121 g122 g123 g124 g125 g126 g127 g128 g129 g130 g131 g132 g133 g134 g135 g136 g137 hE E
  rintro _ _ ⟨⟨f, rfl⟩, -, E, hE, rfl⟩
  generalize f 5 = g5
  generalize f 10 = g10
  generalize f 11 = g11
  generalize f 12 = g12
  generalize f 13 = g13
  generalize f 14 = g14
  generalize f 15 = g15
  generalize f 16 = g16
  generalize f 17 = g17
  generalize f 18 = g18
  generalize f 19 = g19
  generalize f 20 = g20
  generalize f 21 = g21
  generalize f 22 = g22
  generalize f 23 = g23
  generalize f 24 = g24
  generalize f 25 = g25
  generalize f 26 = g26
  generalize f 27 = g27
  generalize f 28 = g28
  generalize f 29 = g29
  generalize f 30 = g30
  generalize f 31 = g31
  generalize f 32 = g32
  generalize f 33 = g33
  generalize f 34 = g34
  generalize f 35 = g35
  generalize f 36 = g36
  generalize f 37 = g37
  generalize f 38 = g38
  generalize f 39 = g39
  generalize f 40 = g40
  generalize f 41 = g41
  generalize f 42 = g42
  generalize f 43 = g43
  generalize f 44 = g44
  generalize f 45 = g45
  generalize f 46 = g46
  generalize f 47 = g47
  generalize f 48 = g48
  generalize f 49 = g49
  generalize f 50 = g50
  generalize f 51 = g51
  generalize f 52 = g52
  generalize f 53 = g53
  generalize f 54 = g54
  generalize f 55 = g55
  generalize f 56 = g56
  generalize f 57 = g57
  generalize f 58 = g58
  generalize f 59 = g59
  generalize f 60 = g60
  generalize f 61 = g61
  generalize f 62 = g62
  generalize f 63 = g63
  generalize f 64 = g64
  generalize f 65 = g65
  generalize f 66 = g66
  generalize f 67 = g67
  generalize f 68 = g68
  generalize f 69 = g69
  generalize f 70 = g70
  generalize f 71 = g71
  generalize f 72 = g72
  generalize f 73 = g73
  generalize f 74 = g74
  generalize f 75 = g75
  generalize f 76 = g76
  generalize f 77 = g77
  generalize f 78 = g78
  generalize f 79 = g79
  generalize f 80 = g80
  generalize f 81 = g81
  generalize f 82 = g82
  generalize f 83 = g83
  generalize f 84 = g84
  generalize f 85 = g85
  generalize f 86 = g86
  generalize f 87 = g87
  generalize f 88 = g88
  generalize f 89 = g89
  generalize f 90 = g90
  generalize f 91 = g91
  generalize f 92 = g92
  generalize f 93 = g93
  generalize f 94 = g94
  generalize f 95 = g95
  generalize f 96 = g96
  generalize f 97 = g97
  generalize f 98 = g98
  generalize f 99 = g99
  generalize f 100 = g100
  generalize f 101 = g101
  generalize f 102 = g102
  generalize f 103 = g103
  generalize f 104 = g104
  generalize f 105 = g105
  generalize f 106 = g106
  generalize f 107 = g107
  generalize f 108 = g108
  generalize f 109 = g109
  generalize f 110 = g110
  generalize f 111 = g111
  generalize f 112 = g112
  generalize f 113 = g113
  generalize f 114 = g114
  generalize f 115 = g115
  generalize f 116 = g116
  generalize f 117 = g117
  generalize f 118 = g118
  generalize f 119 = g119
  generalize f 120 = g120
  generalize f 121 = g121
  generalize f 122 = g122
  generalize f 123 = g123
  generalize f 124 = g124
  generalize f 125 = g125
  generalize f 126 = g126
  generalize f 127 = g127
  generalize f 128 = g128
  generalize f 129 = g129
  generalize f 130 = g130
  generalize f 131 = g131
  generalize f 132 = g132
  generalize f 133 = g133
  generalize f 134 = g134
  generalize f 135 = g135
  generalize f 136 = g136
  generalize f 137 = g137
  clear f
  obtain ⟨K2, hK2⟩ : ∃ K : Act → World → Prop, Hid (K = fun a W => (∃ f : Nat → Value, a = { tmps := #[x.v, s.v, .int .u64 now, .pointer (some ⟨w.heap.size, 0, none⟩), .pointer (some ⟨w.heap.size + 1, 0, none⟩), f 5, .pointer (some ⟨w.heap.size + 1 + 1, 0, none⟩), .bool false, .int .i64 0, .int .i64 c, f 10, f 11, f 12, f 13, f 14, f 15, f 16, f 17, f 18, f 19, f 20, f 21, f 22, f 23, f 24, f 25, f 26, f 27, f 28, f 29, f 30, f 31, f 32, f 33, f 34, f 35, f 36, f 37, f 38, f 39, f 40, f 41, f 42, f 43, f 44, f 45, f 46, f 47, f 48, f 49, f 50, f 51, f 52, f 53, f 54, f 55, f 56, f 57, f 58, f 59, f 60, f 61, f 62, f 63, f 64, f 65, f 66, f 67, f 68, f 69, f 70, f 71, f 72, f 73, f 74, f 75, f 76, f 77, f 78, f 79, f 80, f 81, f 82, f 83, f 84, f 85, f 86, f 87, f 88, f 89, f 90, f 91, f 92, f 93, f 94, f 95, f 96, f 97, f 98, f 99, f 100, f 101, f 102, f 103, f 104, f 105, f 106, f 107, f 108, f 109, f 110, f 111, f 112, f 113, f 114, f 115, f 116, f 117, f 118, f 119, f 120, f 121, f 122, f 123, f 124, f 125, f 126, f 127, f 128, f 129, f 130, f 131, f 132, f 133, f 134, f 135, f 136, f 137], defers := [] }) ∧ (c = 0) ∧ ∃ E, Like w E ∧ W = ext (((w.alloc (.cells (In.cs x) 25)).alloc (.cells s.cs 52)).alloc (.cells (In.cs ⟨0, 0, 0, 0, 0, 0, 0, 0, 0, 0, 0, 0, 0, ⟨#[]⟩⟩) 25)) E) := ⟨_, hide rfl⟩
  refine wp_cut K2 ?_ ?_
  · go_wp2_with (first | (refine wl_zero25 rfl rfl ?_) | (apply wl_store25 _ _ rfl rfl _ rfl _ rfl; (case hr => simp [go_sem]); (case hw => (simp [go_sem]; try exact rfl))))
    · have hc : c ≠ 0 := by simp_all
      ((apply ree25 rfl rfl rfl; (case hr => simp [go_sem]); (case hc => (simp [go_sem]; try exact rfl))); refine ⟨congrArg Ending.returned ?_, by repeat' (first | exact Fr.refl _ _ | apply Fr.alloc | rw [← ext_ext] | (refine Fr.ext ?_ (by assumption)))⟩; rw [unhide HE]; simp [hc])
    · have hc : c = 0 := by simp_all
      (rw [unhide hK2]; exact ⟨mkF rfl, hc, E, hE, rfl⟩)
  rw [unhide hK2]
  clear hK2 K2
  clear g5 g10 g11 g12 g13 g14 g15 g16 g17 g18 g19 g20 g21 g22 g23 g24 g25 g26 g27 g28 g29 g30 g31 g32 g33 g34 g35 g36 g37 g38 g39 g40 g41 g42 g43 g44 g45 g46 g47 g48 g49 g50 g51 g52 g53 g54 g55 g56 g57 g58 g59 g60 g61 g62 g63 g64 g65 g66 g67 g68 g69 g70 g71 g72 g73 g74 g75 g76 g77 g78 g79 g80 g81 g82 g83 g84 g85 g86 g87 g88 g89 g90 g91 g92 g93 g94 g95 g96 g97 g98 g99 g100 g101 g102 g103 g104 g105 g106 g107 g108 g109 g110 g111 g112 g113 g114 g115 g116 g117 g118 g119 g120 g121 g122 g123 g124 g125 g126 g127 g128 g129 g130 g131 g132 g133 g134 g135 g136 g137 hE E
  rintro _ _ ⟨⟨f, rfl⟩, hc, E, hE, rfl⟩
  generalize f 5 = g5
  generalize f 10 = g10
  generalize f 11 = g11
  generalize f 12 = g12
  generalize f 13 = g13
  generalize f 14 = g14
  generalize f 15 = g15
  generalize f 16 = g16
  generalize f 17 = g17
  generalize f 18 = g18
  generalize f 19 = g19
  generalize f 20 = g20
  generalize f 21 = g21
  generalize f 22 = g22
  generalize f 23 = g23
  generalize f 24 = g24
  generalize f 25 = g25
  generalize f 26 = g26
  generalize f 27 = g27
  generalize f 28 = g28
  generalize f 29 = g29
  generalize f 30 = g30
  generalize f 31 = g31
  generalize f 32 = g32
  generalize f 33 = g33
  generalize f 34 = g34
  generalize f 35 = g35
  generalize f 36 = g36
  generalize f 37 = g37
  generalize f 38 = g38
  generalize f 39 = g39
  generalize f 40 = g40
  generalize f 41 = g41
  generalize f 42 = g42
  generalize f 43 = g43
  generalize f 44 = g44
  generalize f 45 = g45
  generalize f 46 = g46
  generalize f 47 = g47
  generalize f 48 = g48
  generalize f 49 = g49
  generalize f 50 = g50
  generalize f 51 = g51
  generalize f 52 = g52
  generalize f 53 = g53
  generalize f 54 = g54
  generalize f 55 = g55
  generalize f 56 = g56
  generalize f 57 = g57
  generalize f 58 = g58
  generalize f 59 = g59
  generalize f 60 = g60
  generalize f 61 = g61
  generalize f 62 = g62
  generalize f 63 = g63
  generalize f 64 = g64
  generalize f 65 = g65
  generalize f 66 = g66
  generalize f 67 = g67
  generalize f 68 = g68
  generalize f 69 = g69
  generalize f 70 = g70
  generalize f 71 = g71
  generalize f 72 = g72
  generalize f 73 = g73
  generalize f 74 = g74
  generalize f 75 = g75
  generalize f 76 = g76
  generalize f 77 = g77
  generalize f 78 = g78
  generalize f 79 = g79
  generalize f 80 = g80
  generalize f 81 = g81
  generalize f 82 = g82
  generalize f 83 = g83
  generalize f 84 = g84
  generalize f 85 = g85
  generalize f 86 = g86
  generalize f 87 = g87
  generalize f 88 = g88
  generalize f 89 = g89
  generalize f 90 = g90
  generalize f 91 = g91
  generalize f 92 = g92
  generalize f 93 = g93
  generalize f 94 = g94
  generalize f 95 = g95
  generalize f 96 = g96
  generalize f 97 = g97
  generalize f 98 = g98
  generalize f 99 = g99
  generalize f 100 = g100
  generalize f 101 = g101
  generalize f 102 = g102
  generalize f 103 = g103
  generalize f 104 = g104
  generalize f 105 = g105
  generalize f 106 = g106
  generalize f 107 = g107
  generalize f 108 = g108
  generalize f 109 = g109
  generalize f 110 = g110
  generalize f 111 = g111
  generalize f 112 = g112
  generalize f 113 = g113
  generalize f 114 = g114
  generalize f 115 = g115
  generalize f 116 = g116
  generalize f 117 = g117
  generalize f 118 = g118
  generalize f 119 = g119
  generalize f 120 = g120
  generalize f 121 = g121
  generalize f 122 = g122
  generalize f 123 = g123
  generalize f 124 = g124
  generalize f 125 = g125
  generalize f 126 = g126
  generalize f 127 = g127
  generalize f 128 = g128
  generalize f 129 = g129
  generalize f 130 = g130
  generalize f 131 = g131
  generalize f 132 = g132
  generalize f 133 = g133
  generalize f 134 = g134
  generalize f 135 = g135
  generalize f 136 = g136
  generalize f 137 = g137
  clear f
  subst hc
  by_cases hr : s.h < 0 ∨ 255 < s.h
  · have hcs : Hid (cs = false) := hide (by have := unhide HN hr; have h2 := unhide HCS; rw [h2]; simp [this])
    clear HB HR HCS HN HS HX
    rcases hr with hr | hr
    · have d1 : decide (s.h < 0) = true := decide_eq_true hr
      obtain ⟨K4, hK4⟩ : ∃ K : Act → World → Prop, Hid (K = fun a W => (∃ f : Nat → Value, a = { tmps := #[x.v, s.v, .int .u64 now, .pointer (some ⟨w.heap.size, 0, none⟩), .pointer (some ⟨w.heap.size + 1, 0, none⟩), f 5, .pointer (some ⟨w.heap.size + 1 + 1, 0, none⟩), .bool false, .int .i64 0, f 9, .bool true, f 11, f 12, f 13, f 14, f 15, f 16, f 17, f 18, f 19, f 20, f 21, f 22, f 23, f 24, f 25, f 26, f 27, f 28, f 29, f 30, f 31, f 32, f 33, f 34, f 35, f 36, f 37, f 38, f 39, f 40, f 41, f 42, f 43, f 44, f 45, f 46, f 47, f 48, f 49, f 50, f 51, f 52, f 53, f 54, f 55, f 56, f 57, f 58, f 59, f 60, f 61, f 62, f 63, f 64, f 65, f 66, f 67, f 68, f 69, f 70, f 71, f 72, f 73, f 74, f 75, f 76, f 77, f 78, f 79, f 80, f 81, f 82, f 83, f 84, f 85, f 86, f 87, f 88, f 89, f 90, f 91, f 92, f 93, f 94, f 95, f 96, f 97, f 98, f 99, f 100, f 101, f 102, f 103, f 104, f 105, f 106, f 107, f 108, f 109, f 110, f 111, f 112, f 113, f 114, f 115, f 116, f 117, f 118, f 119, f 120, f 121, f 122, f 123, f 124, f 125, f 126, f 127, f 128, f 129, f 130, f 131, f 132, f 133, f 134, f 135, f 136, f 137], defers := [] }) ∧ (True) ∧ ∃ E, Like w E ∧ W = ext (((w.alloc (.cells (In.cs x) 25)).alloc (.cells s.cs 52)).alloc (.cells (In.cs ⟨0, 0, 0, 0, 0, 0, 0, 0, 0, 0, 0, 0, 0, ⟨#[]⟩⟩) 25)) E) := ⟨_, hide rfl⟩
      refine wp_cut K4 ?_ ?_
      · go_wp2_with fail
        (rw [unhide hK4]; exact ⟨mkF rfl, trivial, E, hE, rfl⟩)
      rw [unhide hK4]
      clear hK4 K4
      clear g5 g10 g11 g12 g13 g14 g15 g16 g17 g18 g19 g20 g21 g22 g23 g24 g25 g26 g27 g28 g29 g30 g31 g32 g33 g34 g35 g36 g37 g38 g39 g40 g41 g42 g43 g44 g45 g46 g47 g48 g49 g50 g51 g52 g53 g54 g55 g56 g57 g58 g59 g60 g61 g62 g63 g64 g65 g66 g67 g68 g69 g70 g71 g72 g73 g74 g75 g76 g77 g78 g79 g80 g81 g82 g83 g84 g85 g86 g87 g88 g89 g90 g91 g92 g93 g94 g95 g96 g97 g98 g99 g100 g101 g102 g103 g104 g105 g106 g107 g108 g109 g110 g111 g112 g113 g114 g115 g116 g117 g118 g119 g120 g121 g122 g123 g124 g125 g126 g127 g128 g129 g130 g131 g132 g133 g134 g135 g136 g137 hE E
      rintro _ _ ⟨⟨f, rfl⟩, -, E, hE, rfl⟩
      generalize f 5 = g5
      generalize f 9 = g9
      generalize f 11 = g11
      generalize f 12 = g12
      generalize f 13 = g13
      generalize f 14 = g14
      generalize f 15 = g15
      generalize f 16 = g16
      generalize f 17 = g17
      generalize f 18 = g18
      generalize f 19 = g19
      generalize f 20 = g20
      generalize f 21 = g21
      generalize f 22 = g22
      generalize f 23 = g23
      generalize f 24 = g24
      generalize f 25 = g25
      generalize f 26 = g26
      generalize f 27 = g27
      generalize f 28 = g28
      generalize f 29 = g29
      generalize f 30 = g30
      generalize f 31 = g31
      generalize f 32 = g32
      generalize f 33 = g33
      generalize f 34 = g34
      generalize f 35 = g35
      generalize f 36 = g36
      generalize f 37 = g37
      generalize f 38 = g38
      generalize f 39 = g39
      generalize f 40 = g40
      generalize f 41 = g41
      generalize f 42 = g42
      generalize f 43 = g43
      generalize f 44 = g44
      generalize f 45 = g45
      generalize f 46 = g46
      generalize f 47 = g47
      generalize f 48 = g48
      generalize f 49 = g49
      generalize f 50 = g50
      generalize f 51 = g51
      generalize f 52 = g52
      generalize f 53 = g53
      generalize f 54 = g54
      generalize f 55 = g55
      generalize f 56 = g56
      generalize f 57 = g57
      generalize f 58 = g58
      generalize f 59 = g59
      generalize f 60 = g60
      generalize f 61 = g61
      generalize f 62 = g62
      generalize f 63 = g63
      generalize f 64 = g64
      generalize f 65 = g65
      generalize f 66 = g66
      generalize f 67 = g67
      generalize f 68 = g68
      generalize f 69 = g69
      generalize f 70 = g70
      generalize f 71 = g71
      generalize f 72 = g72
      generalize f 73 = g73
      generalize f 74 = g74
      generalize f 75 = g75
      generalize f 76 = g76
      generalize f 77 = g77
      generalize f 78 = g78
      generalize f 79 = g79
      generalize f 80 = g80
      generalize f 81 = g81
      generalize f 82 = g82
      generalize f 83 = g83
      generalize f 84 = g84
      generalize f 85 = g85
      generalize f 86 = g86
      generalize f 87 = g87
      generalize f 88 = g88
      generalize f 89 = g89
      generalize f 90 = g90
      generalize f 91 = g91
      generalize f 92 = g92
      generalize f 93 = g93
      generalize f 94 = g94
      generalize f 95 = g95
      generalize f 96 = g96
      generalize f 97 = g97
      generalize f 98 = g98
      generalize f 99 = g99
      generalize f 100 = g100
      generalize f 101 = g101
      generalize f 102 = g102
      generalize f 103 = g103
      generalize f 104 = g104
      generalize f 105 = g105
      generalize f 106 = g106
      generalize f 107 = g107
      generalize f 108 = g108
      generalize f 109 = g109
      generalize f 110 = g110
      generalize f 111 = g111
      generalize f 112 = g112
      generalize f 113 = g113
      generalize f 114 = g114
      generalize f 115 = g115
      generalize f 116 = g116
      generalize f 117 = g117
      generalize f 118 = g118
      generalize f 119 = g119
      generalize f 120 = g120
      generalize f 121 = g121
      generalize f 122 = g122
      generalize f 123 = g123
      generalize f 124 = g124
      generalize f 125 = g125
      generalize f 126 = g126
      generalize f 127 = g127
      generalize f 128 = g128
      generalize f 129 = g129
      generalize f 130 = g130
      generalize f 131 = g131
      generalize f 132 = g132
      generalize f 133 = g133
      generalize f 134 = g134
      generalize f 135 = g135
      generalize f 136 = g136
      generalize f 137 = g137
      clear f
      obtain ⟨K5, hK5⟩ : ∃ K : Act → World → Prop, Hid (K = fun a W => (∃ f : Nat → Value, a = { tmps := #[x.v, s.v, .int .u64 now, .pointer (some ⟨w.heap.size, 0, none⟩), .pointer (some ⟨w.heap.size + 1, 0, none⟩), f 5, .pointer (some ⟨w.heap.size + 1 + 1, 0, none⟩), .bool false, .int .i64 0, f 9, f 10, f 11, f 12, f 13, f 14, f 15, f 16, f 17, f 18, f 19, f 20, f 21, f 22, f 23, f 24, f 25, f 26, f 27, f 28, f 29, f 30, f 31, f 32, f 33, f 34, f 35, f 36, f 37, f 38, f 39, f 40, f 41, f 42, f 43, f 44, f 45, f 46, f 47, f 48, f 49, f 50, f 51, f 52, f 53, f 54, f 55, f 56, f 57, f 58, f 59, f 60, f 61, f 62, f 63, f 64, f 65, f 66, f 67, f 68, f 69, f 70, f 71, f 72, f 73, f 74, f 75, f 76, f 77, f 78, f 79, f 80, f 81, f 82, f 83, f 84, f 85, f 86, f 87, f 88, f 89, f 90, f 91, f 92, f 93, f 94, f 95, f 96, f 97, f 98, f 99, f 100, f 101, f 102, f 103, f 104, f 105, f 106, f 107, f 108, f 109, f 110, f 111, f 112, f 113, f 114, f 115, f 116, f 117, f 118, f 119, f 120, f 121, f 122, f 123, f 124, f 125, f 126, f 127, f 128, f 129, f 130, f 131, f 132, f 133, f 134, f 135, f 136, f 137], defers := [] }) ∧ (False) ∧ ∃ E, Like w E ∧ W = ext (((w.alloc (.cells (In.cs x) 25)).alloc (.cells s.cs 52)).alloc (.cells (In.cs ⟨0, 0, 0, 0, 0, 0, 0, 0, 0, 0, 0, 0, 0, ⟨#[]⟩⟩) 25)) E) := ⟨_, hide rfl⟩
      refine wp_cut K5 ?_ ?_
      · go_upto_region 6 with fail
        go_step
        refine wl_zero25 rfl rfl ?_
        simp only [Act.put, List.setIfInBounds_toArray, List.set_cons_succ, List.set_cons_zero]
        apply wl_store25 _ _ rfl rfl _ rfl _ rfl
        case hr => simp [go_sem]
        case hw => (simp (disch := first | rfl | (simp; done) | (simp; omega)) only [setRow_ext, setRow_alloc_past, setRow_alloc_at]; exact rfl)
        simp only [Act.put]
        go_wp2_with fail
        apply ree25 rfl rfl rfl; (case hr => simp [go_sem]); (case hc => (simp [go_sem]; try exact rfl))
        refine ⟨congrArg Ending.returned ?_, by repeat' (first | exact Fr.refl _ _ | apply Fr.alloc | rw [← ext_ext] | (refine Fr.ext ?_ (by assumption)))⟩
        rw [unhide HE]
        rw [unhide hcs]; simp
      rw [unhide hK5]
      clear hK5 K5
      clear g5 g9 g11 g12 g13 g14 g15 g16 g17 g18 g19 g20 g21 g22 g23 g24 g25 g26 g27 g28 g29 g30 g31 g32 g33 g34 g35 g36 g37 g38 g39 g40 g41 g42 g43 g44 g45 g46 g47 g48 g49 g50 g51 g52 g53 g54 g55 g56 g57 g58 g59 g60 g61 g62 g63 g64 g65 g66 g67 g68 g69 g70 g71 g72 g73 g74 g75 g76 g77 g78 g79 g80 g81 g82 g83 g84 g85 g86 g87 g88 g89 g90 g91 g92 g93 g94 g95 g96 g97 g98 g99 g100 g101 g102 g103 g104 g105 g106 g107 g108 g109 g110 g111 g112 g113 g114 g115 g116 g117 g118 g119 g120 g121 g122 g123 g124 g125 g126 g127 g128 g129 g130 g131 g132 g133 g134 g135 g136 g137 hE E
      rintro _ _ ⟨⟨f, rfl⟩, p5, E, hE, rfl⟩
      generalize f 5 = g5
      generalize f 9 = g9
      generalize f 10 = g10
      generalize f 11 = g11
      generalize f 12 = g12
      generalize f 13 = g13
      generalize f 14 = g14
      generalize f 15 = g15
      generalize f 16 = g16
      generalize f 17 = g17
      generalize f 18 = g18
      generalize f 19 = g19
      generalize f 20 = g20
      generalize f 21 = g21
      generalize f 22 = g22
      generalize f 23 = g23
      generalize f 24 = g24
      generalize f 25 = g25
      generalize f 26 = g26
      generalize f 27 = g27
      generalize f 28 = g28
      generalize f 29 = g29
      generalize f 30 = g30
      generalize f 31 = g31
      generalize f 32 = g32
      generalize f 33 = g33
      generalize f 34 = g34
      generalize f 35 = g35
      generalize f 36 = g36
      generalize f 37 = g37
      generalize f 38 = g38
      generalize f 39 = g39
      generalize f 40 = g40
      generalize f 41 = g41
      generalize f 42 = g42
      generalize f 43 = g43
      generalize f 44 = g44
      generalize f 45 = g45
      generalize f 46 = g46
      generalize f 47 = g47
      generalize f 48 = g48
      generalize f 49 = g49
      generalize f 50 = g50
      generalize f 51 = g51
      generalize f 52 = g52
      generalize f 53 = g53
      generalize f 54 = g54
      generalize f 55 = g55
      generalize f 56 = g56
      generalize f 57 = g57
      generalize f 58 = g58
      generalize f 59 = g59
      generalize f 60 = g60
      generalize f 61 = g61
      generalize f 62 = g62
      generalize f 63 = g63
      generalize f 64 = g64
      generalize f 65 = g65
      generalize f 66 = g66
      generalize f 67 = g67
      generalize f 68 = g68
      generalize f 69 = g69
      generalize f 70 = g70
      generalize f 71 = g71
      generalize f 72 = g72
      generalize f 73 = g73
      generalize f 74 = g74
      generalize f 75 = g75
      generalize f 76 = g76
      generalize f 77 = g77
      generalize f 78 = g78
      generalize f 79 = g79
      generalize f 80 = g80
      generalize f 81 = g81
      generalize f 82 = g82
      generalize f 83 = g83
      generalize f 84 = g84
      generalize f 85 = g85
      generalize f 86 = g86
      generalize f 87 = g87
      generalize f 88 = g88
      generalize f 89 = g89
      generalize f 90 = g90
      generalize f 91 = g91
      generalize f 92 = g92
      generalize f 93 = g93
      generalize f 94 = g94
      generalize f 95 = g95
      generalize f 96 = g96
      generalize f 97 = g97
      generalize f 98 = g98
      generalize f 99 = g99
      generalize f 100 = g100
      generalize f 101 = g101
      generalize f 102 = g102
      generalize f 103 = g103
      generalize f 104 = g104
      generalize f 105 = g105
      generalize f 106 = g106
      generalize f 107 = g107
      generalize f 108 = g108
      generalize f 109 = g109
      generalize f 110 = g110
      generalize f 111 = g111
      generalize f 112 = g112
      generalize f 113 = g113
      generalize f 114 = g114
      generalize f 115 = g115
      generalize f 116 = g116
      generalize f 117 = g117
      generalize f 118 = g118
      generalize f 119 = g119
      generalize f 120 = g120
      generalize f 121 = g121
      generalize f 122 = g122
      generalize f 123 = g123
      generalize f 124 = g124
      generalize f 125 = g125
      generalize f 126 = g126
      generalize f 127 = g127
      generalize f 128 = g128
      generalize f 129 = g129
      generalize f 130 = g130
      generalize f 131 = g131
      generalize f 132 = g132
      generalize f 133 = g133
      generalize f 134 = g134
      generalize f 135 = g135
      generalize f 136 = g136
      generalize f 137 = g137
      clear f
      exact p5.elim
    · have d1 : decide (s.h < 0) = false := decide_eq_false (by omega)
      have d2 : decide (255 < s.h) = true := decide_eq_true hr
      obtain ⟨K4, hK4⟩ : ∃ K : Act → World → Prop, Hid (K = fun a W => (∃ f : Nat → Value, a = { tmps := #[x.v, s.v, .int .u64 now, .pointer (some ⟨w.heap.size, 0, none⟩), .pointer (some ⟨w.heap.size + 1, 0, none⟩), f 5, .pointer (some ⟨w.heap.size + 1 + 1, 0, none⟩), .bool false, .int .i64 0, f 9, .bool true, f 11, f 12, f 13, f 14, f 15, f 16, f 17, f 18, f 19, f 20, f 21, f 22, f 23, f 24, f 25, f 26, f 27, f 28, f 29, f 30, f 31, f 32, f 33, f 34, f 35, f 36, f 37, f 38, f 39, f 40, f 41, f 42, f 43, f 44, f 45, f 46, f 47, f 48, f 49, f 50, f 51, f 52, f 53, f 54, f 55, f 56, f 57, f 58, f 59, f 60, f 61, f 62, f 63, f 64, f 65, f 66, f 67, f 68, f 69, f 70, f 71, f 72, f 73, f 74, f 75, f 76, f 77, f 78, f 79, f 80, f 81, f 82, f 83, f 84, f 85, f 86, f 87, f 88, f 89, f 90, f 91, f 92, f 93, f 94, f 95, f 96, f 97, f 98, f 99, f 100, f 101, f 102, f 103, f 104, f 105, f 106, f 107, f 108, f 109, f 110, f 111, f 112, f 113, f 114, f 115, f 116, f 117, f 118, f 119, f 120, f 121, f 122, f 123, f 124, f 125, f 126, f 127, f 128, f 129, f 130, f 131, f 132, f 133, f 134, f 135, f 136, f 137], defers := [] }) ∧ (True) ∧ ∃ E, Like w E ∧ W = ext (((w.alloc (.cells (In.cs x) 25)).alloc (.cells s.cs 52)).alloc (.cells (In.cs ⟨0, 0, 0, 0, 0, 0, 0, 0, 0, 0, 0, 0, 0, ⟨#[]⟩⟩) 25)) E) := ⟨_, hide rfl⟩
      refine wp_cut K4 ?_ ?_
      · go_wp2_with fail
        (rw [unhide hK4]; exact ⟨mkF rfl, trivial, E, hE, rfl⟩)
      rw [unhide hK4]
      clear hK4 K4
      clear g5 g10 g11 g12 g13 g14 g15 g16 g17 g18 g19 g20 g21 g22 g23 g24 g25 g26 g27 g28 g29 g30 g31 g32 g33 g34 g35 g36 g37 g38 g39 g40 g41 g42 g43 g44 g45 g46 g47 g48 g49 g50 g51 g52 g53 g54 g55 g56 g57 g58 g59 g60 g61 g62 g63 g64 g65 g66 g67 g68 g69 g70 g71 g72 g73 g74 g75 g76 g77 g78 g79 g80 g81 g82 g83 g84 g85 g86 g87 g88 g89 g90 g91 g92 g93 g94 g95 g96 g97 g98 g99 g100 g101 g102 g103 g104 g105 g106 g107 g108 g109 g110 g111 g112 g113 g114 g115 g116 g117 g118 g119 g120 g121 g122 g123 g124 g125 g126 g127 g128 g129 g130 g131 g132 g133 g134 g135 g136 g137 hE E
      rintro _ _ ⟨⟨f, rfl⟩, -, E, hE, rfl⟩
      generalize f 5 = g5
      generalize f 9 = g9
      generalize f 11 = g11
      generalize f 12 = g12
      generalize f 13 = g13
      generalize f 14 = g14
      generalize f 15 = g15
      generalize f 16 = g16
      generalize f 17 = g17
      generalize f 18 = g18
      generalize f 19 = g19
      generalize f 20 = g20
      generalize f 21 = g21
      generalize f 22 = g22
      generalize f 23 = g23
      generalize f 24 = g24
      generalize f 25 = g25
      generalize f 26 = g26
      generalize f 27 = g27
      generalize f 28 = g28
      generalize f 29 = g29
      generalize f 30 = g30
      generalize f 31 = g31
      generalize f 32 = g32
      generalize f 33 = g33
      generalize f 34 = g34
      generalize f 35 = g35
      generalize f 36 = g36
      generalize f 37 = g37
      generalize f 38 = g38
      generalize f 39 = g39
      generalize f 40 = g40
      generalize f 41 = g41
      generalize f 42 = g42
      generalize f 43 = g43
      generalize f 44 = g44
      generalize f 45 = g45
      generalize f 46 = g46
      generalize f 47 = g47
      generalize f 48 = g48
      generalize f 49 = g49
      generalize f 50 = g50
      generalize f 51 = g51
      generalize f 52 = g52
      generalize f 53 = g53
      generalize f 54 = g54
      generalize f 55 = g55
      generalize f 56 = g56
      generalize f 57 = g57
      generalize f 58 = g58
      generalize f 59 = g59
      generalize f 60 = g60
      generalize f 61 = g61
      generalize f 62 = g62
      generalize f 63 = g63
      generalize f 64 = g64
      generalize f 65 = g65
      generalize f 66 = g66
      generalize f 67 = g67
      generalize f 68 = g68
      generalize f 69 = g69
      generalize f 70 = g70
      generalize f 71 = g71
      generalize f 72 = g72
      generalize f 73 = g73
      generalize f 74 = g74
      generalize f 75 = g75
      generalize f 76 = g76
      generalize f 77 = g77
      generalize f 78 = g78
      generalize f 79 = g79
      generalize f 80 = g80
      generalize f 81 = g81
      generalize f 82 = g82
      generalize f 83 = g83
      generalize f 84 = g84
      generalize f 85 = g85
      generalize f 86 = g86
      generalize f 87 = g87
      generalize f 88 = g88
      generalize f 89 = g89
      generalize f 90 = g90
      generalize f 91 = g91
      generalize f 92 = g92
      generalize f 93 = g93
      generalize f 94 = g94
      generalize f 95 = g95
      generalize f 96 = g96
      generalize f 97 = g97
      generalize f 98 = g98
      generalize f 99 = g99
      generalize f 100 = g100
      generalize f 101 = g101
      generalize f 102 = g102
      generalize f 103 = g103
      generalize f 104 = g104
      generalize f 105 = g105
      generalize f 106 = g106
      generalize f 107 = g107
      generalize f 108 = g108
      generalize f 109 = g109
      generalize f 110 = g110
      generalize f 111 = g111
      generalize f 112 = g112
      generalize f 113 = g113
      generalize f 114 = g114
      generalize f 115 = g115
      generalize f 116 = g116
      generalize f 117 = g117
      generalize f 118 = g118
      generalize f 119 = g119
      generalize f 120 = g120
      generalize f 121 = g121
      generalize f 122 = g122
      generalize f 123 = g123
      generalize f 124 = g124
      generalize f 125 = g125
      generalize f 126 = g126
      generalize f 127 = g127
      generalize f 128 = g128
      generalize f 129 = g129
      generalize f 130 = g130
      generalize f 131 = g131
      generalize f 132 = g132
      generalize f 133 = g133
      generalize f 134 = g134
      generalize f 135 = g135
      generalize f 136 = g136
      generalize f 137 = g137
      clear f
      obtain ⟨K5, hK5⟩ : ∃ K : Act → World → Prop, Hid (K = fun a W => (∃ f : Nat → Value, a = { tmps := #[x.v, s.v, .int .u64 now, .pointer (some ⟨w.heap.size, 0, none⟩), .pointer (some ⟨w.heap.size + 1, 0, none⟩), f 5, .pointer (some ⟨w.heap.size + 1 + 1, 0, none⟩), .bool false, .int .i64 0, f 9, f 10, f 11, f 12, f 13, f 14, f 15, f 16, f 17, f 18, f 19, f 20, f 21, f 22, f 23, f 24, f 25, f 26, f 27, f 28, f 29, f 30, f 31, f 32, f 33, f 34, f 35, f 36, f 37, f 38, f 39, f 40, f 41, f 42, f 43, f 44, f 45, f 46, f 47, f 48, f 49, f 50, f 51, f 52, f 53, f 54, f 55, f 56, f 57, f 58, f 59, f 60, f 61, f 62, f 63, f 64, f 65, f 66, f 67, f 68, f 69, f 70, f 71, f 72, f 73, f 74, f 75, f 76, f 77, f 78, f 79, f 80, f 81, f 82, f 83, f 84, f 85, f 86, f 87, f 88, f 89, f 90, f 91, f 92, f 93, f 94, f 95, f 96, f 97, f 98, f 99, f 100, f 101, f 102, f 103, f 104, f 105, f 106, f 107, f 108, f 109, f 110, f 111, f 112, f 113, f 114, f 115, f 116, f 117, f 118, f 119, f 120, f 121, f 122, f 123, f 124, f 125, f 126, f 127, f 128, f 129, f 130, f 131, f 132, f 133, f 134, f 135, f 136, f 137], defers := [] }) ∧ (False) ∧ ∃ E, Like w E ∧ W = ext (((w.alloc (.cells (In.cs x) 25)).alloc (.cells s.cs 52)).alloc (.cells (In.cs ⟨0, 0, 0, 0, 0, 0, 0, 0, 0, 0, 0, 0, 0, ⟨#[]⟩⟩) 25)) E) := ⟨_, hide rfl⟩
      refine wp_cut K5 ?_ ?_
      · go_upto_region 6 with fail
        go_step
        refine wl_zero25 rfl rfl ?_
        simp only [Act.put, List.setIfInBounds_toArray, List.set_cons_succ, List.set_cons_zero]
        apply wl_store25 _ _ rfl rfl _ rfl _ rfl
        case hr => simp [go_sem]
        case hw => (simp (disch := first | rfl | (simp; done) | (simp; omega)) only [setRow_ext, setRow_alloc_past, setRow_alloc_at]; exact rfl)
        simp only [Act.put]
        go_wp2_with fail
        apply ree25 rfl rfl rfl; (case hr => simp [go_sem]); (case hc => (simp [go_sem]; try exact rfl))
        refine ⟨congrArg Ending.returned ?_, by repeat' (first | exact Fr.refl _ _ | apply Fr.alloc | rw [← ext_ext] | (refine Fr.ext ?_ (by assumption)))⟩
        rw [unhide HE]
        rw [unhide hcs]; simp
      rw [unhide hK5]
      clear hK5 K5
      clear g5 g9 g11 g12 g13 g14 g15 g16 g17 g18 g19 g20 g21 g22 g23 g24 g25 g26 g27 g28 g29 g30 g31 g32 g33 g34 g35 g36 g37 g38 g39 g40 g41 g42 g43 g44 g45 g46 g47 g48 g49 g50 g51 g52 g53 g54 g55 g56 g57 g58 g59 g60 g61 g62 g63 g64 g65 g66 g67 g68 g69 g70 g71 g72 g73 g74 g75 g76 g77 g78 g79 g80 g81 g82 g83 g84 g85 g86 g87 g88 g89 g90 g91 g92 g93 g94 g95 g96 g97 g98 g99 g100 g101 g102 g103 g104 g105 g106 g107 g108 g109 g110 g111 g112 g113 g114 g115 g116 g117 g118 g119 g120 g121 g122 g123 g124 g125 g126 g127 g128 g129 g130 g131 g132 g133 g134 g135 g136 g137 hE E
      rintro _ _ ⟨⟨f, rfl⟩, p5, E, hE, rfl⟩
      generalize f 5 = g5
      generalize f 9 = g9
      generalize f 10 = g10
      generalize f 11 = g11
      generalize f 12 = g12
      generalize f 13 = g13
      generalize f 14 = g14
      generalize f 15 = g15
      generalize f 16 = g16
      generalize f 17 = g17
      generalize f 18 = g18
      generalize f 19 = g19
      generalize f 20 = g20
      generalize f 21 = g21
      generalize f 22 = g22
      generalize f 23 = g23
      generalize f 24 = g24
      generalize f 25 = g25
      generalize f 26 = g26
      generalize f 27 = g27
      generalize f 28 = g28
      generalize f 29 = g29
      generalize f 30 = g30
      generalize f 31 = g31
      generalize f 32 = g32
      generalize f 33 = g33
      generalize f 34 = g34
      generalize f 35 = g35
      generalize f 36 = g36
      generalize f 37 = g37
      generalize f 38 = g38
      generalize f 39 = g39
      generalize f 40 = g40
      generalize f 41 = g41
      generalize f 42 = g42
      generalize f 43 = g43
      generalize f 44 = g44
      generalize f 45 = g45
      generalize f 46 = g46
      generalize f 47 = g47
      generalize f 48 = g48
      generalize f 49 = g49
      generalize f 50 = g50
      generalize f 51 = g51
      generalize f 52 = g52
      generalize f 53 = g53
      generalize f 54 = g54
      generalize f 55 = g55
      generalize f 56 = g56
      generalize f 57 = g57
      generalize f 58 = g58
      generalize f 59 = g59
      generalize f 60 = g60
      generalize f 61 = g61
      generalize f 62 = g62
      generalize f 63 = g63
      generalize f 64 = g64
      generalize f 65 = g65
      generalize f 66 = g66
      generalize f 67 = g67
      generalize f 68 = g68
      generalize f 69 = g69
      generalize f 70 = g70
      generalize f 71 = g71
      generalize f 72 = g72
      generalize f 73 = g73
      generalize f 74 = g74
      generalize f 75 = g75
      generalize f 76 = g76
      generalize f 77 = g77
      generalize f 78 = g78
      generalize f 79 = g79
      generalize f 80 = g80
      generalize f 81 = g81
      generalize f 82 = g82
      generalize f 83 = g83
      generalize f 84 = g84
      generalize f 85 = g85
      generalize f 86 = g86
      generalize f 87 = g87
      generalize f 88 = g88
      generalize f 89 = g89
      generalize f 90 = g90
      generalize f 91 = g91
      generalize f 92 = g92
      generalize f 93 = g93
      generalize f 94 = g94
      generalize f 95 = g95
      generalize f 96 = g96
      generalize f 97 = g97
      generalize f 98 = g98
      generalize f 99 = g99
      generalize f 100 = g100
      generalize f 101 = g101
      generalize f 102 = g102
      generalize f 103 = g103
      generalize f 104 = g104
      generalize f 105 = g105
      generalize f 106 = g106
      generalize f 107 = g107
      generalize f 108 = g108
      generalize f 109 = g109
      generalize f 110 = g110
      generalize f 111 = g111
      generalize f 112 = g112
      generalize f 113 = g113
      generalize f 114 = g114
      generalize f 115 = g115
      generalize f 116 = g116
      generalize f 117 = g117
      generalize f 118 = g118
      generalize f 119 = g119
      generalize f 120 = g120
      generalize f 121 = g121
      generalize f 122 = g122
      generalize f 123 = g123
      generalize f 124 = g124
      generalize f 125 = g125
      generalize f 126 = g126
      generalize f 127 = g127
      generalize f 128 = g128
      generalize f 129 = g129
      generalize f 130 = g130
      generalize f 131 = g131
      generalize f 132 = g132
      generalize f 133 = g133
      generalize f 134 = g134
      generalize f 135 = g135
      generalize f 136 = g136
      generalize f 137 = g137
      clear f
      exact p5.elim
  have hr0 : 0 ≤ s.h := by omega
  have hr1 : s.h ≤ 255 := by omega
  clear hr
  have HB2 := unhide HB hr0 hr1
  obtain ⟨r1, r2, r4, r8, r16, r32, r64, r128, r80, r160, rN⟩ := unhide HR hr0 hr1
  rw [r80, r160, r1, r8, rN] at HCS
  rw [r1, r2, r4, r8, r16, r32, r64, r128] at HX
  rw [r8] at HS
  clear r1 r2 r4 r8 r16 r32 r64 r128 r80 r160 rN HB HR HN
  generalize rh s.h = H at *
  have d1 : decide (s.h < 0) = false := decide_eq_false (by omega)
  have d2 : decide (255 < s.h) = false := decide_eq_false (by omega)
  obtain ⟨K4, hK4⟩ : ∃ K : Act → World → Prop, Hid (K = fun a W => (∃ f : Nat → Value, a = { tmps := #[x.v, s.v, .int .u64 now, .pointer (some ⟨w.heap.size, 0, none⟩), .pointer (some ⟨w.heap.size + 1, 0, none⟩), f 5, .pointer (some ⟨w.heap.size + 1 + 1, 0, none⟩), .bool false, .int .i64 0, f 9, .bool false, f 11, f 12, f 13, f 14, f 15, f 16, f 17, f 18, f 19, f 20, f 21, f 22, f 23, f 24, f 25, f 26, f 27, f 28, f 29, f 30, f 31, f 32, f 33, f 34, f 35, f 36, f 37, f 38, f 39, f 40, f 41, f 42, f 43, f 44, f 45, f 46, f 47, f 48, f 49, f 50, f 51, f 52, f 53, f 54, f 55, f 56, f 57, f 58, f 59, f 60, f 61, f 62, f 63, f 64, f 65, f 66, f 67, f 68, f 69, f 70, f 71, f 72, f 73, f 74, f 75, f 76, f 77, f 78, f 79, f 80, f 81, f 82, f 83, f 84, f 85, f 86, f 87, f 88, f 89, f 90, f 91, f 92, f 93, f 94, f 95, f 96, f 97, f 98, f 99, f 100, f 101, f 102, f 103, f 104, f 105, f 106, f 107, f 108, f 109, f 110, f 111, f 112, f 113, f 114, f 115, f 116, f 117, f 118, f 119, f 120, f 121, f 122, f 123, f 124, f 125, f 126, f 127, f 128, f 129, f 130, f 131, f 132, f 133, f 134, f 135, f 136, f 137], defers := [] }) ∧ (True) ∧ ∃ E, Like w E ∧ W = ext (((w.alloc (.cells (In.cs x) 25)).alloc (.cells s.cs 52)).alloc (.cells (In.cs ⟨0, 0, 0, 0, 0, 0, 0, 0, 0, 0, 0, 0, 0, ⟨#[]⟩⟩) 25)) E) := ⟨_, hide rfl⟩
  refine wp_cut K4 ?_ ?_
  · go_wp2_with fail
    (rw [unhide hK4]; exact ⟨mkF rfl, trivial, E, hE, rfl⟩)
  rw [unhide hK4]
  clear hK4 K4
  clear g5 g10 g11 g12 g13 g14 g15 g16 g17 g18 g19 g20 g21 g22 g23 g24 g25 g26 g27 g28 g29 g30 g31 g32 g33 g34 g35 g36 g37 g38 g39 g40 g41 g42 g43 g44 g45 g46 g47 g48 g49 g50 g51 g52 g53 g54 g55 g56 g57 g58 g59 g60 g61 g62 g63 g64 g65 g66 g67 g68 g69 g70 g71 g72 g73 g74 g75 g76 g77 g78 g79 g80 g81 g82 g83 g84 g85 g86 g87 g88 g89 g90 g91 g92 g93 g94 g95 g96 g97 g98 g99 g100 g101 g102 g103 g104 g105 g106 g107 g108 g109 g110 g111 g112 g113 g114 g115 g116 g117 g118 g119 g120 g121 g122 g123 g124 g125 g126 g127 g128 g129 g130 g131 g132 g133 g134 g135 g136 g137 hE E
  rintro _ _ ⟨⟨f, rfl⟩, -, E, hE, rfl⟩
  generalize f 5 = g5
  generalize f 9 = g9
  generalize f 11 = g11
  generalize f 12 = g12
  generalize f 13 = g13
  generalize f 14 = g14
  generalize f 15 = g15
  generalize f 16 = g16
  generalize f 17 = g17
  generalize f 18 = g18
  generalize f 19 = g19
  generalize f 20 = g20
  generalize f 21 = g21
  generalize f 22 = g22
  generalize f 23 = g23
  generalize f 24 = g24
  generalize f 25 = g25
  generalize f 26 = g26
  generalize f 27 = g27
  generalize f 28 = g28
  generalize f 29 = g29
  generalize f 30 = g30
  generalize f 31 = g31
  generalize f 32 = g32
  generalize f 33 = g33
  generalize f 34 = g34
  generalize f 35 = g35
  generalize f 36 = g36
  generalize f 37 = g37
  generalize f 38 = g38
  generalize f 39 = g39
  generalize f 40 = g40
  generalize f 41 = g41
  generalize f 42 = g42
  generalize f 43 = g43
  generalize f 44 = g44
  generalize f 45 = g45
  generalize f 46 = g46
  generalize f 47 = g47
  generalize f 48 = g48
  generalize f 49 = g49
  generalize f 50 = g50
  generalize f 51 = g51
  generalize f 52 = g52
  generalize f 53 = g53
  generalize f 54 = g54
  generalize f 55 = g55
  generalize f 56 = g56
  generalize f 57 = g57
  generalize f 58 = g58
  generalize f 59 = g59
  generalize f 60 = g60
  generalize f 61 = g61
  generalize f 62 = g62
  generalize f 63 = g63
  generalize f 64 = g64
  generalize f 65 = g65
  generalize f 66 = g66
  generalize f 67 = g67
  generalize f 68 = g68
  generalize f 69 = g69
  generalize f 70 = g70
  generalize f 71 = g71
  generalize f 72 = g72
  generalize f 73 = g73
  generalize f 74 = g74
  generalize f 75 = g75
  generalize f 76 = g76
  generalize f 77 = g77
  generalize f 78 = g78
  generalize f 79 = g79
  generalize f 80 = g80
  generalize f 81 = g81
  generalize f 82 = g82
  generalize f 83 = g83
  generalize f 84 = g84
  generalize f 85 = g85
  generalize f 86 = g86
  generalize f 87 = g87
  generalize f 88 = g88
  generalize f 89 = g89
  generalize f 90 = g90
  generalize f 91 = g91
  generalize f 92 = g92
  generalize f 93 = g93
  generalize f 94 = g94
  generalize f 95 = g95
  generalize f 96 = g96
  generalize f 97 = g97
  generalize f 98 = g98
  generalize f 99 = g99
  generalize f 100 = g100
  generalize f 101 = g101
  generalize f 102 = g102
  generalize f 103 = g103
  generalize f 104 = g104
  generalize f 105 = g105
  generalize f 106 = g106
  generalize f 107 = g107
  generalize f 108 = g108
  generalize f 109 = g109
  generalize f 110 = g110
  generalize f 111 = g111
  generalize f 112 = g112
  generalize f 113 = g113
  generalize f 114 = g114
  generalize f 115 = g115
  generalize f 116 = g116
  generalize f 117 = g117
  generalize f 118 = g118
  generalize f 119 = g119
  generalize f 120 = g120
  generalize f 121 = g121
  generalize f 122 = g122
  generalize f 123 = g123
  generalize f 124 = g124
  generalize f 125 = g125
  generalize f 126 = g126
  generalize f 127 = g127
  generalize f 128 = g128
  generalize f 129 = g129
  generalize f 130 = g130
  generalize f 131 = g131
  generalize f 132 = g132
  generalize f 133 = g133
  generalize f 134 = g134
  generalize f 135 = g135
  generalize f 136 = g136
  generalize f 137 = g137
  clear f
  clear d1 d2
  obtain ⟨K5, hK5⟩ : ∃ K : Act → World → Prop, Hid (K = fun a W => (∃ f : Nat → Value, a = { tmps := #[x.v, s.v, .int .u64 now, .pointer (some ⟨w.heap.size, 0, none⟩), .pointer (some ⟨w.heap.size + 1, 0, none⟩), f 5, .pointer (some ⟨w.heap.size + 1 + 1, 0, none⟩), .bool false, .int .i64 0, f 9, f 10, f 11, f 12, f 13, f 14, f 15, f 16, f 17, f 18, f 19, f 20, f 21, f 22, f 23, f 24, f 25, f 26, f 27, f 28, f 29, f 30, f 31, f 32, f 33, f 34, f 35, f 36, f 37, f 38, f 39, f 40, f 41, f 42, f 43, f 44, f 45, f 46, f 47, f 48, f 49, f 50, f 51, f 52, f 53, f 54, f 55, f 56, f 57, f 58, f 59, f 60, f 61, f 62, f 63, f 64, f 65, f 66, f 67, f 68, f 69, f 70, f 71, f 72, f 73, f 74, f 75, f 76, f 77, f 78, f 79, f 80, f 81, f 82, f 83, f 84, f 85, f 86, f 87, f 88, f 89, f 90, f 91, f 92, f 93, f 94, f 95, f 96, f 97, f 98, f 99, f 100, f 101, f 102, f 103, f 104, f 105, f 106, f 107, f 108, f 109, f 110, f 111, f 112, f 113, f 114, f 115, f 116, f 117, f 118, f 119, f 120, f 121, f 122, f 123, f 124, f 125, f 126, f 127, f 128, f 129, f 130, f 131, f 132, f 133, f 134, f 135, f 136, f 137], defers := [] }) ∧ ((H 16 && H 64 || H 32 && H 128) = false) ∧ ∃ E, Like w E ∧ W = ext (((w.alloc (.cells (In.cs x) 25)).alloc (.cells s.cs 52)).alloc (.cells (In.cs ⟨0, 0, 0, 0, 0, 0, 0, 0, 0, 0, 0, 0, 0, ⟨#[]⟩⟩) 25)) E) := ⟨_, hide rfl⟩
  refine wp_cut K5 ?_ ?_
  · rcases hb16 : H 16 with _ | _
    · rcases hb32 : H 32 with _ | _
      · go_wp2_with (go_at_call 53; refine (HB2 _ _ (by omega) (by omega)).mono ?_; rintro e w' ⟨rfl, rfl⟩)
        rw [unhide hK5]
        exact ⟨mkF rfl, by simp [*], E, hE, rfl⟩
      · rcases hb128 : H 128 with _ | _
        · go_wp2_with (go_at_call 53; refine (HB2 _ _ (by omega) (by omega)).mono ?_; rintro e w' ⟨rfl, rfl⟩)
          rw [unhide hK5]
          exact ⟨mkF rfl, by simp [*], E, hE, rfl⟩
        · go_upto_region 6 with (go_at_call 53; refine (HB2 _ _ (by omega) (by omega)).mono ?_; rintro e w' ⟨rfl, rfl⟩)
          go_step
          refine wl_zero25 rfl rfl ?_
          simp only [Act.put, List.setIfInBounds_toArray, List.set_cons_succ, List.set_cons_zero]
          apply wl_store25 _ _ rfl rfl _ rfl _ rfl
          case hr => simp [go_sem]
          case hw => (simp (disch := first | rfl | (simp; done) | (simp; omega)) only [setRow_ext, setRow_alloc_past, setRow_alloc_at]; exact rfl)
          simp only [Act.put]
          go_wp2_with fail
          apply ree25 rfl rfl rfl; (case hr => simp [go_sem]); (case hc => (simp [go_sem]; try exact rfl))
          refine ⟨congrArg Ending.returned ?_, by repeat' (first | exact Fr.refl _ _ | apply Fr.alloc | rw [← ext_ext] | (refine Fr.ext ?_ (by assumption)))⟩
          rw [unhide HE]
          have h9 := unhide HCS; simp_all
    · rcases hb64 : H 64 with _ | _
      · rcases hb32 : H 32 with _ | _
        · go_wp2_with (go_at_call 53; refine (HB2 _ _ (by omega) (by omega)).mono ?_; rintro e w' ⟨rfl, rfl⟩)
          rw [unhide hK5]
          exact ⟨mkF rfl, by simp [*], E, hE, rfl⟩
        · rcases hb128 : H 128 with _ | _
          · go_wp2_with (go_at_call 53; refine (HB2 _ _ (by omega) (by omega)).mono ?_; rintro e w' ⟨rfl, rfl⟩)
            rw [unhide hK5]
            exact ⟨mkF rfl, by simp [*], E, hE, rfl⟩
          · go_upto_region 6 with (go_at_call 53; refine (HB2 _ _ (by omega) (by omega)).mono ?_; rintro e w' ⟨rfl, rfl⟩)
            go_step
            refine wl_zero25 rfl rfl ?_
            simp only [Act.put, List.setIfInBounds_toArray, List.set_cons_succ, List.set_cons_zero]
            apply wl_store25 _ _ rfl rfl _ rfl _ rfl
            case hr => simp [go_sem]
            case hw => (simp (disch := first | rfl | (simp; done) | (simp; omega)) only [setRow_ext, setRow_alloc_past, setRow_alloc_at]; exact rfl)
            simp only [Act.put]
            go_wp2_with fail
            apply ree25 rfl rfl rfl; (case hr => simp [go_sem]); (case hc => (simp [go_sem]; try exact rfl))
            refine ⟨congrArg Ending.returned ?_, by repeat' (first | exact Fr.refl _ _ | apply Fr.alloc | rw [← ext_ext] | (refine Fr.ext ?_ (by assumption)))⟩
            rw [unhide HE]
            have h9 := unhide HCS; simp_all
      · go_upto_region 6 with (go_at_call 53; refine (HB2 _ _ (by omega) (by omega)).mono ?_; rintro e w' ⟨rfl, rfl⟩)
        go_step
        refine wl_zero25 rfl rfl ?_
        simp only [Act.put, List.setIfInBounds_toArray, List.set_cons_succ, List.set_cons_zero]
        apply wl_store25 _ _ rfl rfl _ rfl _ rfl
        case hr => simp [go_sem]
        case hw => (simp (disch := first | rfl | (simp; done) | (simp; omega)) only [setRow_ext, setRow_alloc_past, setRow_alloc_at]; exact rfl)
        simp only [Act.put]
        go_wp2_with fail
        apply ree25 rfl rfl rfl; (case hr => simp [go_sem]); (case hc => (simp [go_sem]; try exact rfl))
        refine ⟨congrArg Ending.returned ?_, by repeat' (first | exact Fr.refl _ _ | apply Fr.alloc | rw [← ext_ext] | (refine Fr.ext ?_ (by assumption)))⟩
        rw [unhide HE]
        have h9 := unhide HCS; simp_all
  rw [unhide hK5]
  clear hK5 K5
  clear g5 g9 g11 g12 g13 g14 g15 g16 g17 g18 g19 g20 g21 g22 g23 g24 g25 g26 g27 g28 g29 g30 g31 g32 g33 g34 g35 g36 g37 g38 g39 g40 g41 g42 g43 g44 g45 g46 g47 g48 g49 g50 g51 g52 g53 g54 g55 g56 g57 g58 g59 g60 g61 g62 g63 g64 g65 g66 g67 g68 g69 g70 g71 g72 g73 g74 g75 g76 g77 g78 g79 g80 g81 g82 g83 g84 g85 g86 g87 g88 g89 g90 g91 g92 g93 g94 g95 g96 g97 g98 g99 g100 g101 g102 g103 g104 g105 g106 g107 g108 g109 g110 g111 g112 g113 g114 g115 g116 g117 g118 g119 g120 g121 g122 g123 g124 g125 g126 g127 g128 g129 g130 g131 g132 g133 g134 g135 g136 g137 hE E
  rintro _ _ ⟨⟨f, rfl⟩, p5, E, hE, rfl⟩
  generalize f 5 = g5
  generalize f 9 = g9
  generalize f 10 = g10
  generalize f 11 = g11
  generalize f 12 = g12
  generalize f 13 = g13
  generalize f 14 = g14
  generalize f 15 = g15
  generalize f 16 = g16
  generalize f 17 = g17
  generalize f 18 = g18
  generalize f 19 = g19
  generalize f 20 = g20
  generalize f 21 = g21
  generalize f 22 = g22
  generalize f 23 = g23
  generalize f 24 = g24
  generalize f 25 = g25
  generalize f 26 = g26
  generalize f 27 = g27
  generalize f 28 = g28
  generalize f 29 = g29
  generalize f 30 = g30
  generalize f 31 = g31
  generalize f 32 = g32
  generalize f 33 = g33
  generalize f 34 = g34
  generalize f 35 = g35
  generalize f 36 = g36
  generalize f 37 = g37
  generalize f 38 = g38
  generalize f 39 = g39
  generalize f 40 = g40
  generalize f 41 = g41
  generalize f 42 = g42
  generalize f 43 = g43
  generalize f 44 = g44
  generalize f 45 = g45
  generalize f 46 = g46
  generalize f 47 = g47
  generalize f 48 = g48
  generalize f 49 = g49
  generalize f 50 = g50
  generalize f 51 = g51
  generalize f 52 = g52
  generalize f 53 = g53
  generalize f 54 = g54
  generalize f 55 = g55
  generalize f 56 = g56
  generalize f 57 = g57
  generalize f 58 = g58
  generalize f 59 = g59
  generalize f 60 = g60
  generalize f 61 = g61
  generalize f 62 = g62
  generalize f 63 = g63
  generalize f 64 = g64
  generalize f 65 = g65
  generalize f 66 = g66
  generalize f 67 = g67
  generalize f 68 = g68
  generalize f 69 = g69
  generalize f 70 = g70
  generalize f 71 = g71
  generalize f 72 = g72
  generalize f 73 = g73
  generalize f 74 = g74
  generalize f 75 = g75
  generalize f 76 = g76
  generalize f 77 = g77
  generalize f 78 = g78
  generalize f 79 = g79
  generalize f 80 = g80
  generalize f 81 = g81
  generalize f 82 = g82
  generalize f 83 = g83
  generalize f 84 = g84
  generalize f 85 = g85
  generalize f 86 = g86
  generalize f 87 = g87
  generalize f 88 = g88
  generalize f 89 = g89
  generalize f 90 = g90
  generalize f 91 = g91
  generalize f 92 = g92
  generalize f 93 = g93
  generalize f 94 = g94
  generalize f 95 = g95
  generalize f 96 = g96
  generalize f 97 = g97
  generalize f 98 = g98
  generalize f 99 = g99
  generalize f 100 = g100
  generalize f 101 = g101
  generalize f 102 = g102
  generalize f 103 = g103
  generalize f 104 = g104
  generalize f 105 = g105
  generalize f 106 = g106
  generalize f 107 = g107
  generalize f 108 = g108
  generalize f 109 = g109
  generalize f 110 = g110
  generalize f 111 = g111
  generalize f 112 = g112
  generalize f 113 = g113
  generalize f 114 = g114
  generalize f 115 = g115
  generalize f 116 = g116
  generalize f 117 = g117
  generalize f 118 = g118
  generalize f 119 = g119
  generalize f 120 = g120
  generalize f 121 = g121
  generalize f 122 = g122
  generalize f 123 = g123
  generalize f 124 = g124
  generalize f 125 = g125
  generalize f 126 = g126
  generalize f 127 = g127
  generalize f 128 = g128
  generalize f 129 = g129
  generalize f 130 = g130
  generalize f 131 = g131
  generalize f 132 = g132
  generalize f 133 = g133
  generalize f 134 = g134
  generalize f 135 = g135
  generalize f 136 = g136
  generalize f 137 = g137
  clear f
  obtain ⟨K7, hK7⟩ : ∃ K : Act → World → Prop, Hid (K = fun a W => (∃ f : Nat → Value, a = { tmps := #[x.v, s.v, .int .u64 now, .pointer (some ⟨w.heap.size, 0, none⟩), .pointer (some ⟨w.heap.size + 1, 0, none⟩), f 5, .pointer (some ⟨w.heap.size + 1 + 1, 0, none⟩), .bool false, .int .i64 0, f 9, f 10, f 11, f 12, f 13, f 14, f 15, f 16, f 17, f 18, f 19, f 20, f 21, f 22, f 23, f 24, f 25, f 26, f 27, f 28, f 29, f 30, f 31, f 32, f 33, f 34, f 35, f 36, f 37, f 38, f 39, f 40, f 41, f 42, f 43, f 44, f 45, f 46, f 47, f 48, f 49, f 50, f 51, f 52, f 53, f 54, f 55, f 56, f 57, f 58, f 59, f 60, f 61, f 62, f 63, f 64, f 65, f 66, f 67, f 68, f 69, f 70, f 71, f 72, f 73, f 74, f 75, f 76, f 77, f 78, f 79, f 80, f 81, f 82, f 83, f 84, f 85, f 86, f 87, f 88, f 89, f 90, f 91, f 92, f 93, f 94, f 95, f 96, f 97, f 98, f 99, f 100, f 101, f 102, f 103, f 104, f 105, f 106, f 107, f 108, f 109, f 110, f 111, f 112, f 113, f 114, f 115, f 116, f 117, f 118, f 119, f 120, f 121, f 122, f 123, f 124, f 125, f 126, f 127, f 128, f 129, f 130, f 131, f 132, f 133, f 134, f 135, f 136, f 137], defers := [] }) ∧ ((H 1 && decide (s.m > 4095) || H 8 && !decide (x.k = 1 ∧ s.s ≤ 1048576)) = false) ∧ ∃ E, Like w E ∧ W = ext (((w.alloc (.cells (In.cs x) 25)).alloc (.cells s.cs 52)).alloc (.cells (In.cs ⟨0, 0, 0, 0, 0, 0, 0, 0, 0, 0, 0, 0, 0, ⟨#[]⟩⟩) 25)) E) := ⟨_, hide rfl⟩
  refine wp_cut K7 ?_ ?_
  · rcases hb1 : H 1 with _ | _
    · rcases hb8 : H 8 with _ | _
      · go_wp2_with (go_at_call 53; refine (HB2 _ _ (by omega) (by omega)).mono ?_; rintro e w' ⟨rfl, rfl⟩)
        rw [unhide hK7]
        exact ⟨mkF rfl, by simp_all; try omega, E, hE, rfl⟩
      · rcases hds : decide (1048576 < s.s) with _ | _
        · rcases hkk : (x.k != 1) with _ | _
          · go_wp2_with (go_at_call 53; refine (HB2 _ _ (by omega) (by omega)).mono ?_; rintro e w' ⟨rfl, rfl⟩)
            rw [unhide hK7]
            exact ⟨mkF rfl, by simp_all; try omega, E, hE, rfl⟩
          · go_upto_region 8 with (go_at_call 53; refine (HB2 _ _ (by omega) (by omega)).mono ?_; rintro e w' ⟨rfl, rfl⟩)
            go_step
            refine wl_zero25 rfl rfl ?_
            simp only [Act.put, List.setIfInBounds_toArray, List.set_cons_succ, List.set_cons_zero]
            apply wl_store25 _ _ rfl rfl _ rfl _ rfl
            case hr => simp [go_sem]
            case hw => (simp (disch := first | rfl | (simp; done) | (simp; omega)) only [setRow_ext, setRow_alloc_past, setRow_alloc_at]; exact rfl)
            simp only [Act.put]
            go_wp2_with fail
            apply ree25 rfl rfl rfl; (case hr => simp [go_sem]); (case hc => (simp [go_sem]; try exact rfl))
            refine ⟨congrArg Ending.returned ?_, by repeat' (first | exact Fr.refl _ _ | apply Fr.alloc | rw [← ext_ext] | (refine Fr.ext ?_ (by assumption)))⟩
            rw [unhide HE]
            have h9 := unhide HCS; simp_all; try omega
        · go_upto_region 8 with (go_at_call 53; refine (HB2 _ _ (by omega) (by omega)).mono ?_; rintro e w' ⟨rfl, rfl⟩)
          go_step
          refine wl_zero25 rfl rfl ?_
          simp only [Act.put, List.setIfInBounds_toArray, List.set_cons_succ, List.set_cons_zero]
          apply wl_store25 _ _ rfl rfl _ rfl _ rfl
          case hr => simp [go_sem]
          case hw => (simp (disch := first | rfl | (simp; done) | (simp; omega)) only [setRow_ext, setRow_alloc_past, setRow_alloc_at]; exact rfl)
          simp only [Act.put]
          go_wp2_with fail
          apply ree25 rfl rfl rfl; (case hr => simp [go_sem]); (case hc => (simp [go_sem]; try exact rfl))
          refine ⟨congrArg Ending.returned ?_, by repeat' (first | exact Fr.refl _ _ | apply Fr.alloc | rw [← ext_ext] | (refine Fr.ext ?_ (by assumption)))⟩
          rw [unhide HE]
          have h9 := unhide HCS; simp_all; try omega
    · rcases hdm : decide (4095 < s.m) with _ | _
      · rcases hb8 : H 8 with _ | _
        · go_wp2_with (go_at_call 53; refine (HB2 _ _ (by omega) (by omega)).mono ?_; rintro e w' ⟨rfl, rfl⟩)
          rw [unhide hK7]
          exact ⟨mkF rfl, by simp_all; try omega, E, hE, rfl⟩
        · rcases hds : decide (1048576 < s.s) with _ | _
          · rcases hkk : (x.k != 1) with _ | _
            · go_wp2_with (go_at_call 53; refine (HB2 _ _ (by omega) (by omega)).mono ?_; rintro e w' ⟨rfl, rfl⟩)
              rw [unhide hK7]
              exact ⟨mkF rfl, by simp_all; try omega, E, hE, rfl⟩
            · go_upto_region 8 with (go_at_call 53; refine (HB2 _ _ (by omega) (by omega)).mono ?_; rintro e w' ⟨rfl, rfl⟩)
              go_step
              refine wl_zero25 rfl rfl ?_
              simp only [Act.put, List.setIfInBounds_toArray, List.set_cons_succ, List.set_cons_zero]
              apply wl_store25 _ _ rfl rfl _ rfl _ rfl
              case hr => simp [go_sem]
              case hw => (simp (disch := first | rfl | (simp; done) | (simp; omega)) only [setRow_ext, setRow_alloc_past, setRow_alloc_at]; exact rfl)
              simp only [Act.put]
              go_wp2_with fail
              apply ree25 rfl rfl rfl; (case hr => simp [go_sem]); (case hc => (simp [go_sem]; try exact rfl))
              refine ⟨congrArg Ending.returned ?_, by repeat' (first | exact Fr.refl _ _ | apply Fr.alloc | rw [← ext_ext] | (refine Fr.ext ?_ (by assumption)))⟩
              rw [unhide HE]
              have h9 := unhide HCS; simp_all; try omega
          · go_upto_region 8 with (go_at_call 53; refine (HB2 _ _ (by omega) (by omega)).mono ?_; rintro e w' ⟨rfl, rfl⟩)
            go_step
            refine wl_zero25 rfl rfl ?_
            simp only [Act.put, List.setIfInBounds_toArray, List.set_cons_succ, List.set_cons_zero]
            apply wl_store25 _ _ rfl rfl _ rfl _ rfl
            case hr => simp [go_sem]
            case hw => (simp (disch := first | rfl | (simp; done) | (simp; omega)) only [setRow_ext, setRow_alloc_past, setRow_alloc_at]; exact rfl)
            simp only [Act.put]
            go_wp2_with fail
            apply ree25 rfl rfl rfl; (case hr => simp [go_sem]); (case hc => (simp [go_sem]; try exact rfl))
            refine ⟨congrArg Ending.returned ?_, by repeat' (first | exact Fr.refl _ _ | apply Fr.alloc | rw [← ext_ext] | (refine Fr.ext ?_ (by assumption)))⟩
            rw [unhide HE]
            have h9 := unhide HCS; simp_all; try omega
      · go_upto_region 8 with (go_at_call 53; refine (HB2 _ _ (by omega) (by omega)).mono ?_; rintro e w' ⟨rfl, rfl⟩)
        go_step
        refine wl_zero25 rfl rfl ?_
        simp only [Act.put, List.setIfInBounds_toArray, List.set_cons_succ, List.set_cons_zero]
        apply wl_store25 _ _ rfl rfl _ rfl _ rfl
        case hr => simp [go_sem]
        case hw => (simp (disch := first | rfl | (simp; done) | (simp; omega)) only [setRow_ext, setRow_alloc_past, setRow_alloc_at]; exact rfl)
        simp only [Act.put]
        go_wp2_with fail
        apply ree25 rfl rfl rfl; (case hr => simp [go_sem]); (case hc => (simp [go_sem]; try exact rfl))
        refine ⟨congrArg Ending.returned ?_, by repeat' (first | exact Fr.refl _ _ | apply Fr.alloc | rw [← ext_ext] | (refine Fr.ext ?_ (by assumption)))⟩
        rw [unhide HE]
        have h9 := unhide HCS; simp_all; try omega
  rw [unhide hK7]
  clear hK7 K7
  clear g5 g9 g10 g11 g12 g13 g14 g15 g16 g17 g18 g19 g20 g21 g22 g23 g24 g25 g26 g27 g28 g29 g30 g31 g32 g33 g34 g35 g36 g37 g38 g39 g40 g41 g42 g43 g44 g45 g46 g47 g48 g49 g50 g51 g52 g53 g54 g55 g56 g57 g58 g59 g60 g61 g62 g63 g64 g65 g66 g67 g68 g69 g70 g71 g72 g73 g74 g75 g76 g77 g78 g79 g80 g81 g82 g83 g84 g85 g86 g87 g88 g89 g90 g91 g92 g93 g94 g95 g96 g97 g98 g99 g100 g101 g102 g103 g104 g105 g106 g107 g108 g109 g110 g111 g112 g113 g114 g115 g116 g117 g118 g119 g120 g121 g122 g123 g124 g125 g126 g127 g128 g129 g130 g131 g132 g133 g134 g135 g136 g137 hE E
  rintro _ _ ⟨⟨f, rfl⟩, p7, E, hE, rfl⟩
  generalize f 5 = g5
  generalize f 9 = g9
  generalize f 10 = g10
  generalize f 11 = g11
  generalize f 12 = g12
  generalize f 13 = g13
  generalize f 14 = g14
  generalize f 15 = g15
  generalize f 16 = g16
  generalize f 17 = g17
  generalize f 18 = g18
  generalize f 19 = g19
  generalize f 20 = g20
  generalize f 21 = g21
  generalize f 22 = g22
  generalize f 23 = g23
  generalize f 24 = g24
  generalize f 25 = g25
  generalize f 26 = g26
  generalize f 27 = g27
  generalize f 28 = g28
  generalize f 29 = g29
  generalize f 30 = g30
  generalize f 31 = g31
  generalize f 32 = g32
  generalize f 33 = g33
  generalize f 34 = g34
  generalize f 35 = g35
  generalize f 36 = g36
  generalize f 37 = g37
  generalize f 38 = g38
  generalize f 39 = g39
  generalize f 40 = g40
  generalize f 41 = g41
  generalize f 42 = g42
  generalize f 43 = g43
  generalize f 44 = g44
  generalize f 45 = g45
  generalize f 46 = g46
  generalize f 47 = g47
  generalize f 48 = g48
  generalize f 49 = g49
  generalize f 50 = g50
  generalize f 51 = g51
  generalize f 52 = g52
  generalize f 53 = g53
  generalize f 54 = g54
  generalize f 55 = g55
  generalize f 56 = g56
  generalize f 57 = g57
  generalize f 58 = g58
  generalize f 59 = g59
  generalize f 60 = g60
  generalize f 61 = g61
  generalize f 62 = g62
  generalize f 63 = g63
  generalize f 64 = g64
  generalize f 65 = g65
  generalize f 66 = g66
  generalize f 67 = g67
  generalize f 68 = g68
  generalize f 69 = g69
  generalize f 70 = g70
  generalize f 71 = g71
  generalize f 72 = g72
  generalize f 73 = g73
  generalize f 74 = g74
  generalize f 75 = g75
  generalize f 76 = g76
  generalize f 77 = g77
  generalize f 78 = g78
  generalize f 79 = g79
  generalize f 80 = g80
  generalize f 81 = g81
  generalize f 82 = g82
  generalize f 83 = g83
  generalize f 84 = g84
  generalize f 85 = g85
  generalize f 86 = g86
  generalize f 87 = g87
  generalize f 88 = g88
  generalize f 89 = g89
  generalize f 90 = g90
  generalize f 91 = g91
  generalize f 92 = g92
  generalize f 93 = g93
  generalize f 94 = g94
  generalize f 95 = g95
  generalize f 96 = g96
  generalize f 97 = g97
  generalize f 98 = g98
  generalize f 99 = g99
  generalize f 100 = g100
  generalize f 101 = g101
  generalize f 102 = g102
  generalize f 103 = g103
  generalize f 104 = g104
  generalize f 105 = g105
  generalize f 106 = g106
  generalize f 107 = g107
  generalize f 108 = g108
  generalize f 109 = g109
  generalize f 110 = g110
  generalize f 111 = g111
  generalize f 112 = g112
  generalize f 113 = g113
  generalize f 114 = g114
  generalize f 115 = g115
  generalize f 116 = g116
  generalize f 117 = g117
  generalize f 118 = g118
  generalize f 119 = g119
  generalize f 120 = g120
  generalize f 121 = g121
  generalize f 122 = g122
  generalize f 123 = g123
  generalize f 124 = g124
  generalize f 125 = g125
  generalize f 126 = g126
  generalize f 127 = g127
  generalize f 128 = g128
  generalize f 129 = g129
  generalize f 130 = g130
  generalize f 131 = g131
  generalize f 132 = g132
  generalize f 133 = g133
  generalize f 134 = g134
  generalize f 135 = g135
  generalize f 136 = g136
  generalize f 137 = g137
  clear f
  have hcs : Hid (cs = true) := hide (by have h9 := unhide HCS; obtain ⟨a1, a2⟩ := Bool.or_eq_false_iff.1 p7; rw [h9, p5, a1, a2]; rfl)
  rw [unhide hcs] at HE
  clear HCS hcs p5 p7
  obtain ⟨K9, hK9⟩ : ∃ K : Act → World → Prop, Hid (K = fun a W => (∃ f : Nat → Value, a = { tmps := #[x.v, s.v, .int .u64 now, .pointer (some ⟨w.heap.size, 0, none⟩), .pointer (some ⟨w.heap.size + 1, 0, none⟩), f 5, .pointer (some ⟨w.heap.size + 1 + 1, 0, none⟩), .bool false, .int .i64 0, f 9, f 10, .bool SZ, f 12, f 13, f 14, f 15, f 16, f 17, f 18, f 19, f 20, f 21, f 22, f 23, f 24, f 25, f 26, f 27, f 28, f 29, f 30, f 31, f 32, f 33, f 34, f 35, f 36, f 37, f 38, f 39, f 40, f 41, f 42, f 43, f 44, f 45, f 46, f 47, f 48, f 49, f 50, f 51, f 52, f 53, f 54, f 55, f 56, f 57, f 58, f 59, f 60, f 61, f 62, f 63, f 64, f 65, f 66, f 67, f 68, f 69, f 70, f 71, f 72, f 73, f 74, f 75, f 76, f 77, f 78, f 79, f 80, f 81, f 82, f 83, f 84, f 85, f 86, f 87, f 88, f 89, f 90, f 91, f 92, f 93, f 94, f 95, f 96, f 97, f 98, f 99, f 100, f 101, f 102, f 103, f 104, f 105, f 106, f 107, f 108, f 109, f 110, f 111, f 112, f 113, f 114, f 115, f 116, f 117, f 118, f 119, f 120, f 121, f 122, f 123, f 124, f 125, f 126, f 127, f 128, f 129, f 130, f 131, f 132, f 133, f 134, f 135, f 136, f 137], defers := [] }) ∧ (True) ∧ ∃ E, Like w E ∧ W = ext (((w.alloc (.cells (In.cs x) 25)).alloc (.cells s.cs 52)).alloc (.cells (In.cs ⟨0, 0, 0, 0, 0, 0, 0, 0, 0, 0, 0, 0, 0, ⟨#[]⟩⟩) 25)) E) := ⟨_, hide rfl⟩
  refine wp_cut K9 ?_ ?_
  · rcases hb8 : H 8 with _ | _
    · go_wp2_with (go_at_call 53; refine (HB2 _ _ (by omega) (by omega)).mono ?_; rintro e w' ⟨rfl, rfl⟩)
      rw [unhide hK9]
      have hz : SZ = false := by rw [unhide HS]; simp [*]
      rw [hz]
      exact ⟨mkF rfl, trivial, E, hE, rfl⟩
    · rcases hsx : (s.s != x.s) with _ | _
      · go_wp2_with (go_at_call 53; refine (HB2 _ _ (by omega) (by omega)).mono ?_; rintro e w' ⟨rfl, rfl⟩)
        rw [unhide hK9]
        have hz : SZ = false := by rw [unhide HS]; simp [*]
        rw [hz]
        exact ⟨mkF rfl, trivial, E, hE, rfl⟩
      · go_wp2_with (go_at_call 53; refine (HB2 _ _ (by omega) (by omega)).mono ?_; rintro e w' ⟨rfl, rfl⟩)
        rw [unhide hK9]
        have hz : SZ = true := by rw [unhide HS]; simp [*]
        rw [hz]
        exact ⟨mkF rfl, trivial, E, hE, rfl⟩
  rw [unhide hK9]
  clear hK9 K9
  clear g5 g9 g10 g11 g12 g13 g14 g15 g16 g17 g18 g19 g20 g21 g22 g23 g24 g25 g26 g27 g28 g29 g30 g31 g32 g33 g34 g35 g36 g37 g38 g39 g40 g41 g42 g43 g44 g45 g46 g47 g48 g49 g50 g51 g52 g53 g54 g55 g56 g57 g58 g59 g60 g61 g62 g63 g64 g65 g66 g67 g68 g69 g70 g71 g72 g73 g74 g75 g76 g77 g78 g79 g80 g81 g82 g83 g84 g85 g86 g87 g88 g89 g90 g91 g92 g93 g94 g95 g96 g97 g98 g99 g100 g101 g102 g103 g104 g105 g106 g107 g108 g109 g110 g111 g112 g113 g114 g115 g116 g117 g118 g119 g120 g121 g122 g123 g124 g125 g126 g127 g128 g129 g130 g131 g132 g133 g134 g135 g136 g137 hE E
  rintro _ _ ⟨⟨f, rfl⟩, -, E, hE, rfl⟩
  generalize f 5 = g5
  generalize f 9 = g9
  generalize f 10 = g10
  generalize f 12 = g12
  generalize f 13 = g13
  generalize f 14 = g14
  generalize f 15 = g15
  generalize f 16 = g16
  generalize f 17 = g17
  generalize f 18 = g18
  generalize f 19 = g19
  generalize f 20 = g20
  generalize f 21 = g21
  generalize f 22 = g22
  generalize f 23 = g23
  generalize f 24 = g24
  generalize f 25 = g25
  generalize f 26 = g26
  generalize f 27 = g27
  generalize f 28 = g28
  generalize f 29 = g29
  generalize f 30 = g30
  generalize f 31 = g31
  generalize f 32 = g32
  generalize f 33 = g33
  generalize f 34 = g34
  generalize f 35 = g35
  generalize f 36 = g36
  generalize f 37 = g37
  generalize f 38 = g38
  generalize f 39 = g39
  generalize f 40 = g40
  generalize f 41 = g41
  generalize f 42 = g42
  generalize f 43 = g43
  generalize f 44 = g44
  generalize f 45 = g45
  generalize f 46 = g46
  generalize f 47 = g47
  generalize f 48 = g48
  generalize f 49 = g49
  generalize f 50 = g50
  generalize f 51 = g51
  generalize f 52 = g52
  generalize f 53 = g53
  generalize f 54 = g54
  generalize f 55 = g55
  generalize f 56 = g56
  generalize f 57 = g57
  generalize f 58 = g58
  generalize f 59 = g59
  generalize f 60 = g60
  generalize f 61 = g61
  generalize f 62 = g62
  generalize f 63 = g63
  generalize f 64 = g64
  generalize f 65 = g65
  generalize f 66 = g66
  generalize f 67 = g67
  generalize f 68 = g68
  generalize f 69 = g69
  generalize f 70 = g70
  generalize f 71 = g71
  generalize f 72 = g72
  generalize f 73 = g73
  generalize f 74 = g74
  generalize f 75 = g75
  generalize f 76 = g76
  generalize f 77 = g77
  generalize f 78 = g78
  generalize f 79 = g79
  generalize f 80 = g80
  generalize f 81 = g81
  generalize f 82 = g82
  generalize f 83 = g83
  generalize f 84 = g84
  generalize f 85 = g85
  generalize f 86 = g86
  generalize f 87 = g87
  generalize f 88 = g88
  generalize f 89 = g89
  generalize f 90 = g90
  generalize f 91 = g91
  generalize f 92 = g92
  generalize f 93 = g93
  generalize f 94 = g94
  generalize f 95 = g95
  generalize f 96 = g96
  generalize f 97 = g97
  generalize f 98 = g98
  generalize f 99 = g99
  generalize f 100 = g100
  generalize f 101 = g101
  generalize f 102 = g102
  generalize f 103 = g103
  generalize f 104 = g104
  generalize f 105 = g105
  generalize f 106 = g106
  generalize f 107 = g107
  generalize f 108 = g108
  generalize f 109 = g109
  generalize f 110 = g110
  generalize f 111 = g111
  generalize f 112 = g112
  generalize f 113 = g113
  generalize f 114 = g114
  generalize f 115 = g115
  generalize f 116 = g116
  generalize f 117 = g117
  generalize f 118 = g118
  generalize f 119 = g119
  generalize f 120 = g120
  generalize f 121 = g121
  generalize f 122 = g122
  generalize f 123 = g123
  generalize f 124 = g124
  generalize f 125 = g125
  generalize f 126 = g126
  generalize f 127 = g127
  generalize f 128 = g128
  generalize f 129 = g129
  generalize f 130 = g130
  generalize f 131 = g131
  generalize f 132 = g132
  generalize f 133 = g133
  generalize f 134 = g134
  generalize f 135 = g135
  generalize f 136 = g136
  generalize f 137 = g137
  clear f
  obtain ⟨K10, hK10⟩ : ∃ K : Act → World → Prop, Hid (K = fun a W => (∃ f : Nat → Value, a = { tmps := #[x.v, s.v, .int .u64 now, .pointer (some ⟨w.heap.size, 0, none⟩), .pointer (some ⟨w.heap.size + 1, 0, none⟩), f 5, .pointer (some ⟨w.heap.size + 1 + 1, 0, none⟩), .bool false, .int .i64 0, f 9, f 10, .bool SZ, f 12, f 13, f 14, f 15, f 16, f 17, f 18, f 19, f 20, f 21, f 22, f 23, f 24, f 25, f 26, f 27, f 28, f 29, f 30, f 31, f 32, f 33, f 34, f 35, f 36, f 37, f 38, f 39, f 40, f 41, f 42, f 43, f 44, f 45, f 46, f 47, f 48, f 49, f 50, f 51, f 52, f 53, f 54, f 55, f 56, f 57, f 58, f 59, f 60, f 61, f 62, f 63, f 64, f 65, f 66, f 67, f 68, f 69, f 70, f 71, f 72, f 73, f 74, f 75, f 76, f 77, f 78, f 79, f 80, f 81, f 82, f 83, f 84, f 85, f 86, f 87, f 88, f 89, f 90, f 91, f 92, f 93, f 94, f 95, f 96, f 97, f 98, f 99, f 100, f 101, f 102, f 103, f 104, f 105, f 106, f 107, f 108, f 109, f 110, f 111, f 112, f 113, f 114, f 115, f 116, f 117, f 118, f 119, f 120, f 121, f 122, f 123, f 124, f 125, f 126, f 127, f 128, f 129, f 130, f 131, f 132, f 133, f 134, f 135, f 136, f 137], defers := [] }) ∧ ∃ E, Like w E ∧ W = ext (((w.alloc (.cells (In.cs (if SZ = true then { x with tm := now } else x)) 25)).alloc (.cells s.cs 52)).alloc (.cells (In.cs ⟨0, 0, 0, 0, 0, 0, 0, 0, 0, 0, 0, 0, 0, ⟨#[]⟩⟩) 25)) E) := ⟨_, hide rfl⟩
  refine wp_cut K10 ?_ ?_
  · rcases hz : SZ with _ | _
    · go_wp2_with fail
      rw [unhide hK10]; rw [hz]
      exact ⟨mkF rfl, E, hE, by simp [*]⟩
    · go_wp2_with fail
      rw [unhide hK10]; rw [hz]
      exact ⟨mkF rfl, E, hE, by simp [*]⟩
  rw [unhide hK10]
  clear hK10 K10
  clear g5 g9 g10 g12 g13 g14 g15 g16 g17 g18 g19 g20 g21 g22 g23 g24 g25 g26 g27 g28 g29 g30 g31 g32 g33 g34 g35 g36 g37 g38 g39 g40 g41 g42 g43 g44 g45 g46 g47 g48 g49 g50 g51 g52 g53 g54 g55 g56 g57 g58 g59 g60 g61 g62 g63 g64 g65 g66 g67 g68 g69 g70 g71 g72 g73 g74 g75 g76 g77 g78 g79 g80 g81 g82 g83 g84 g85 g86 g87 g88 g89 g90 g91 g92 g93 g94 g95 g96 g97 g98 g99 g100 g101 g102 g103 g104 g105 g106 g107 g108 g109 g110 g111 g112 g113 g114 g115 g116 g117 g118 g119 g120 g121 g122 g123 g124 g125 g126 g127 g128 g129 g130 g131 g132 g133 g134 g135 g136 g137 hE E
  rintro _ _ ⟨⟨f, rfl⟩, E, hE, rfl⟩
  obtain ⟨x10, hx10⟩ : ∃ y : In, Hid (y = if SZ = true then { x with tm := now } else x) := ⟨_, hide rfl⟩
  rw [← unhide hx10]
  generalize f 5 = g5
  generalize f 9 = g9
  generalize f 10 = g10
  generalize f 12 = g12
  generalize f 13 = g13
  generalize f 14 = g14
  generalize f 15 = g15
  generalize f 16 = g16
  generalize f 17 = g17
  generalize f 18 = g18
  generalize f 19 = g19
  generalize f 20 = g20
  generalize f 21 = g21
  generalize f 22 = g22
  generalize f 23 = g23
  generalize f 24 = g24
  generalize f 25 = g25
  generalize f 26 = g26
  generalize f 27 = g27
  generalize f 28 = g28
  generalize f 29 = g29
  generalize f 30 = g30
  generalize f 31 = g31
  generalize f 32 = g32
  generalize f 33 = g33
  generalize f 34 = g34
  generalize f 35 = g35
  generalize f 36 = g36
  generalize f 37 = g37
  generalize f 38 = g38
  generalize f 39 = g39
  generalize f 40 = g40
  generalize f 41 = g41
  generalize f 42 = g42
  generalize f 43 = g43
  generalize f 44 = g44
  generalize f 45 = g45
  generalize f 46 = g46
  generalize f 47 = g47
  generalize f 48 = g48
  generalize f 49 = g49
  generalize f 50 = g50
  generalize f 51 = g51
  generalize f 52 = g52
  generalize f 53 = g53
  generalize f 54 = g54
  generalize f 55 = g55
  generalize f 56 = g56
  generalize f 57 = g57
  generalize f 58 = g58
  generalize f 59 = g59
  generalize f 60 = g60
  generalize f 61 = g61
  generalize f 62 = g62
  generalize f 63 = g63
  generalize f 64 = g64
  generalize f 65 = g65
  generalize f 66 = g66
  generalize f 67 = g67
  generalize f 68 = g68
  generalize f 69 = g69
  generalize f 70 = g70
  generalize f 71 = g71
  generalize f 72 = g72
  generalize f 73 = g73
  generalize f 74 = g74
  generalize f 75 = g75
  generalize f 76 = g76
  generalize f 77 = g77
  generalize f 78 = g78
  generalize f 79 = g79
  generalize f 80 = g80
  generalize f 81 = g81
  generalize f 82 = g82
  generalize f 83 = g83
  generalize f 84 = g84
  generalize f 85 = g85
  generalize f 86 = g86
  generalize f 87 = g87
  generalize f 88 = g88
  generalize f 89 = g89
  generalize f 90 = g90
  generalize f 91 = g91
  generalize f 92 = g92
  generalize f 93 = g93
  generalize f 94 = g94
  generalize f 95 = g95
  generalize f 96 = g96
  generalize f 97 = g97
  generalize f 98 = g98
  generalize f 99 = g99
  generalize f 100 = g100
  generalize f 101 = g101
  generalize f 102 = g102
  generalize f 103 = g103
  generalize f 104 = g104
  generalize f 105 = g105
  generalize f 106 = g106
  generalize f 107 = g107
  generalize f 108 = g108
  generalize f 109 = g109
  generalize f 110 = g110
  generalize f 111 = g111
  generalize f 112 = g112
  generalize f 113 = g113
  generalize f 114 = g114
  generalize f 115 = g115
  generalize f 116 = g116
  generalize f 117 = g117
  generalize f 118 = g118
  generalize f 119 = g119
  generalize f 120 = g120
  generalize f 121 = g121
  generalize f 122 = g122
  generalize f 123 = g123
  generalize f 124 = g124
  generalize f 125 = g125
  generalize f 126 = g126
  generalize f 127 = g127
  generalize f 128 = g128
  generalize f 129 = g129
  generalize f 130 = g130
  generalize f 131 = g131
  generalize f 132 = g132
  generalize f 133 = g133
  generalize f 134 = g134
  generalize f 135 = g135
  generalize f 136 = g136
  generalize f 137 = g137
  clear f
  obtain ⟨K12, hK12⟩ : ∃ K : Act → World → Prop, Hid (K = fun a W => (∃ f : Nat → Value, a = { tmps := #[x.v, s.v, .int .u64 now, .pointer (some ⟨w.heap.size, 0, none⟩), .pointer (some ⟨w.heap.size + 1, 0, none⟩), f 5, .pointer (some ⟨w.heap.size + 1 + 1, 0, none⟩), .bool false, .int .i64 0, f 9, f 10, .bool SZ, f 12, f 13, f 14, f 15, f 16, f 17, f 18, f 19, f 20, f 21, f 22, f 23, f 24, f 25, f 26, f 27, f 28, f 29, f 30, f 31, f 32, f 33, f 34, f 35, f 36, f 37, f 38, f 39, f 40, f 41, f 42, f 43, f 44, f 45, f 46, f 47, f 48, f 49, f 50, f 51, f 52, f 53, f 54, f 55, f 56, f 57, f 58, f 59, f 60, f 61, f 62, f 63, f 64, f 65, f 66, f 67, f 68, f 69, f 70, f 71, f 72, f 73, f 74, f 75, f 76, f 77, f 78, f 79, f 80, f 81, f 82, f 83, f 84, f 85, f 86, f 87, f 88, f 89, f 90, f 91, f 92, f 93, f 94, f 95, f 96, f 97, f 98, f 99, f 100, f 101, f 102, f 103, f 104, f 105, f 106, f 107, f 108, f 109, f 110, f 111, f 112, f 113, f 114, f 115, f 116, f 117, f 118, f 119, f 120, f 121, f 122, f 123, f 124, f 125, f 126, f 127, f 128, f 129, f 130, f 131, f 132, f 133, f 134, f 135, f 136, f 137], defers := [] }) ∧ ∃ E, Like w E ∧ W = ext (((w.alloc (.cells (In.cs ({ x10 with tc := if (s.h != 0) = true then now else x10.tc })) 25)).alloc (.cells s.cs 52)).alloc (.cells (In.cs ⟨0, 0, 0, 0, 0, 0, 0, 0, 0, 0, 0, 0, 0, ⟨#[]⟩⟩) 25)) E) := ⟨_, hide rfl⟩
  refine wp_cut K12 ?_ ?_
  · rcases hz : (s.h != 0) with _ | _
    · go_wp2_with fail
      rw [unhide hK12]
      exact ⟨mkF rfl, E, hE, by simp [*]⟩
    · go_wp2_with fail
      rw [unhide hK12]
      exact ⟨mkF rfl, E, hE, by simp [*]⟩
  rw [unhide hK12]
  clear hK12 K12
  clear g5 g9 g10 g12 g13 g14 g15 g16 g17 g18 g19 g20 g21 g22 g23 g24 g25 g26 g27 g28 g29 g30 g31 g32 g33 g34 g35 g36 g37 g38 g39 g40 g41 g42 g43 g44 g45 g46 g47 g48 g49 g50 g51 g52 g53 g54 g55 g56 g57 g58 g59 g60 g61 g62 g63 g64 g65 g66 g67 g68 g69 g70 g71 g72 g73 g74 g75 g76 g77 g78 g79 g80 g81 g82 g83 g84 g85 g86 g87 g88 g89 g90 g91 g92 g93 g94 g95 g96 g97 g98 g99 g100 g101 g102 g103 g104 g105 g106 g107 g108 g109 g110 g111 g112 g113 g114 g115 g116 g117 g118 g119 g120 g121 g122 g123 g124 g125 g126 g127 g128 g129 g130 g131 g132 g133 g134 g135 g136 g137 hE E
  rintro _ _ ⟨⟨f, rfl⟩, E, hE, rfl⟩
  obtain ⟨x12, hx12⟩ : ∃ y : In, Hid (y = { x10 with tc := if (s.h != 0) = true then now else x10.tc }) := ⟨_, hide rfl⟩
  rw [← unhide hx12]
  generalize f 5 = g5
  generalize f 9 = g9
  generalize f 10 = g10
  generalize f 12 = g12
  generalize f 13 = g13
  generalize f 14 = g14
  generalize f 15 = g15
  generalize f 16 = g16
  generalize f 17 = g17
  generalize f 18 = g18
  generalize f 19 = g19
  generalize f 20 = g20
  generalize f 21 = g21
  generalize f 22 = g22
  generalize f 23 = g23
  generalize f 24 = g24
  generalize f 25 = g25
  generalize f 26 = g26
  generalize f 27 = g27
  generalize f 28 = g28
  generalize f 29 = g29
  generalize f 30 = g30
  generalize f 31 = g31
  generalize f 32 = g32
  generalize f 33 = g33
  generalize f 34 = g34
  generalize f 35 = g35
  generalize f 36 = g36
  generalize f 37 = g37
  generalize f 38 = g38
  generalize f 39 = g39
  generalize f 40 = g40
  generalize f 41 = g41
  generalize f 42 = g42
  generalize f 43 = g43
  generalize f 44 = g44
  generalize f 45 = g45
  generalize f 46 = g46
  generalize f 47 = g47
  generalize f 48 = g48
  generalize f 49 = g49
  generalize f 50 = g50
  generalize f 51 = g51
  generalize f 52 = g52
  generalize f 53 = g53
  generalize f 54 = g54
  generalize f 55 = g55
  generalize f 56 = g56
  generalize f 57 = g57
  generalize f 58 = g58
  generalize f 59 = g59
  generalize f 60 = g60
  generalize f 61 = g61
  generalize f 62 = g62
  generalize f 63 = g63
  generalize f 64 = g64
  generalize f 65 = g65
  generalize f 66 = g66
  generalize f 67 = g67
  generalize f 68 = g68
  generalize f 69 = g69
  generalize f 70 = g70
  generalize f 71 = g71
  generalize f 72 = g72
  generalize f 73 = g73
  generalize f 74 = g74
  generalize f 75 = g75
  generalize f 76 = g76
  generalize f 77 = g77
  generalize f 78 = g78
  generalize f 79 = g79
  generalize f 80 = g80
  generalize f 81 = g81
  generalize f 82 = g82
  generalize f 83 = g83
  generalize f 84 = g84
  generalize f 85 = g85
  generalize f 86 = g86
  generalize f 87 = g87
  generalize f 88 = g88
  generalize f 89 = g89
  generalize f 90 = g90
  generalize f 91 = g91
  generalize f 92 = g92
  generalize f 93 = g93
  generalize f 94 = g94
  generalize f 95 = g95
  generalize f 96 = g96
  generalize f 97 = g97
  generalize f 98 = g98
  generalize f 99 = g99
  generalize f 100 = g100
  generalize f 101 = g101
  generalize f 102 = g102
  generalize f 103 = g103
  generalize f 104 = g104
  generalize f 105 = g105
  generalize f 106 = g106
  generalize f 107 = g107
  generalize f 108 = g108
  generalize f 109 = g109
  generalize f 110 = g110
  generalize f 111 = g111
  generalize f 112 = g112
  generalize f 113 = g113
  generalize f 114 = g114
  generalize f 115 = g115
  generalize f 116 = g116
  generalize f 117 = g117
  generalize f 118 = g118
  generalize f 119 = g119
  generalize f 120 = g120
  generalize f 121 = g121
  generalize f 122 = g122
  generalize f 123 = g123
  generalize f 124 = g124
  generalize f 125 = g125
  generalize f 126 = g126
  generalize f 127 = g127
  generalize f 128 = g128
  generalize f 129 = g129
  generalize f 130 = g130
  generalize f 131 = g131
  generalize f 132 = g132
  generalize f 133 = g133
  generalize f 134 = g134
  generalize f 135 = g135
  generalize f 136 = g136
  generalize f 137 = g137
  clear f
  obtain ⟨K14, hK14⟩ : ∃ K : Act → World → Prop, Hid (K = fun a W => (∃ f : Nat → Value, a = { tmps := #[x.v, s.v, .int .u64 now, .pointer (some ⟨w.heap.size, 0, none⟩), .pointer (some ⟨w.heap.size + 1, 0, none⟩), f 5, .pointer (some ⟨w.heap.size + 1 + 1, 0, none⟩), .bool false, .int .i64 0, f 9, f 10, .bool SZ, f 12, f 13, f 14, f 15, f 16, f 17, f 18, f 19, f 20, f 21, f 22, f 23, f 24, f 25, f 26, f 27, f 28, f 29, f 30, f 31, f 32, f 33, f 34, f 35, f 36, f 37, f 38, f 39, f 40, f 41, f 42, f 43, f 44, f 45, f 46, f 47, f 48, f 49, f 50, f 51, f 52, f 53, f 54, f 55, f 56, f 57, f 58, f 59, f 60, f 61, f 62, f 63, f 64, f 65, f 66, f 67, f 68, f 69, f 70, f 71, f 72, f 73, f 74, f 75, f 76, f 77, f 78, f 79, f 80, f 81, f 82, f 83, f 84, f 85, f 86, f 87, f 88, f 89, f 90, f 91, f 92, f 93, f 94, f 95, f 96, f 97, f 98, f 99, f 100, f 101, f 102, f 103, f 104, f 105, f 106, f 107, f 108, f 109, f 110, f 111, f 112, f 113, f 114, f 115, f 116, f 117, f 118, f 119, f 120, f 121, f 122, f 123, f 124, f 125, f 126, f 127, f 128, f 129, f 130, f 131, f 132, f 133, f 134, f 135, f 136, f 137], defers := [] }) ∧ ∃ E, Like w E ∧ W = ext (((w.alloc (.cells (In.cs ({ x12 with m := if H 1 = true then s.m else x12.m })) 25)).alloc (.cells s.cs 52)).alloc (.cells (In.cs ⟨0, 0, 0, 0, 0, 0, 0, 0, 0, 0, 0, 0, 0, ⟨#[]⟩⟩) 25)) E) := ⟨_, hide rfl⟩
  refine wp_cut K14 ?_ ?_
  · rcases hb1 : H 1 with _ | _
    · go_wp2_with (go_at_call 53; refine (HB2 _ _ (by omega) (by omega)).mono ?_; rintro e w' ⟨rfl, rfl⟩)
      rw [unhide hK14]
      exact ⟨mkF rfl, E, hE, by simp [*]⟩
    · go_wp2_with (go_at_call 53; refine (HB2 _ _ (by omega) (by omega)).mono ?_; rintro e w' ⟨rfl, rfl⟩)
      rw [unhide hK14]
      exact ⟨mkF rfl, E, hE, by simp [*]⟩
  rw [unhide hK14]
  clear hK14 K14
  clear g5 g9 g10 g12 g13 g14 g15 g16 g17 g18 g19 g20 g21 g22 g23 g24 g25 g26 g27 g28 g29 g30 g31 g32 g33 g34 g35 g36 g37 g38 g39 g40 g41 g42 g43 g44 g45 g46 g47 g48 g49 g50 g51 g52 g53 g54 g55 g56 g57 g58 g59 g60 g61 g62 g63 g64 g65 g66 g67 g68 g69 g70 g71 g72 g73 g74 g75 g76 g77 g78 g79 g80 g81 g82 g83 g84 g85 g86 g87 g88 g89 g90 g91 g92 g93 g94 g95 g96 g97 g98 g99 g100 g101 g102 g103 g104 g105 g106 g107 g108 g109 g110 g111 g112 g113 g114 g115 g116 g117 g118 g119 g120 g121 g122 g123 g124 g125 g126 g127 g128 g129 g130 g131 g132 g133 g134 g135 g136 g137 hE E
  rintro _ _ ⟨⟨f, rfl⟩, E, hE, rfl⟩
  obtain ⟨x14, hx14⟩ : ∃ y : In, Hid (y = { x12 with m := if H 1 = true then s.m else x12.m }) := ⟨_, hide rfl⟩
  rw [← unhide hx14]
  generalize f 5 = g5
  generalize f 9 = g9
  generalize f 10 = g10
  generalize f 12 = g12
  generalize f 13 = g13
  generalize f 14 = g14
  generalize f 15 = g15
  generalize f 16 = g16
  generalize f 17 = g17
  generalize f 18 = g18
  generalize f 19 = g19
  generalize f 20 = g20
  generalize f 21 = g21
  generalize f 22 = g22
  generalize f 23 = g23
  generalize f 24 = g24
  generalize f 25 = g25
  generalize f 26 = g26
  generalize f 27 = g27
  generalize f 28 = g28
  generalize f 29 = g29
  generalize f 30 = g30
  generalize f 31 = g31
  generalize f 32 = g32
  generalize f 33 = g33
  generalize f 34 = g34
  generalize f 35 = g35
  generalize f 36 = g36
  generalize f 37 = g37
  generalize f 38 = g38
  generalize f 39 = g39
  generalize f 40 = g40
  generalize f 41 = g41
  generalize f 42 = g42
  generalize f 43 = g43
  generalize f 44 = g44
  generalize f 45 = g45
  generalize f 46 = g46
  generalize f 47 = g47
  generalize f 48 = g48
  generalize f 49 = g49
  generalize f 50 = g50
  generalize f 51 = g51
  generalize f 52 = g52
  generalize f 53 = g53
  generalize f 54 = g54
  generalize f 55 = g55
  generalize f 56 = g56
  generalize f 57 = g57
  generalize f 58 = g58
  generalize f 59 = g59
  generalize f 60 = g60
  generalize f 61 = g61
  generalize f 62 = g62
  generalize f 63 = g63
  generalize f 64 = g64
  generalize f 65 = g65
  generalize f 66 = g66
  generalize f 67 = g67
  generalize f 68 = g68
  generalize f 69 = g69
  generalize f 70 = g70
  generalize f 71 = g71
  generalize f 72 = g72
  generalize f 73 = g73
  generalize f 74 = g74
  generalize f 75 = g75
  generalize f 76 = g76
  generalize f 77 = g77
  generalize f 78 = g78
  generalize f 79 = g79
  generalize f 80 = g80
  generalize f 81 = g81
  generalize f 82 = g82
  generalize f 83 = g83
  generalize f 84 = g84
  generalize f 85 = g85
  generalize f 86 = g86
  generalize f 87 = g87
  generalize f 88 = g88
  generalize f 89 = g89
  generalize f 90 = g90
  generalize f 91 = g91
  generalize f 92 = g92
  generalize f 93 = g93
  generalize f 94 = g94
  generalize f 95 = g95
  generalize f 96 = g96
  generalize f 97 = g97
  generalize f 98 = g98
  generalize f 99 = g99
  generalize f 100 = g100
  generalize f 101 = g101
  generalize f 102 = g102
  generalize f 103 = g103
  generalize f 104 = g104
  generalize f 105 = g105
  generalize f 106 = g106
  generalize f 107 = g107
  generalize f 108 = g108
  generalize f 109 = g109
  generalize f 110 = g110
  generalize f 111 = g111
  generalize f 112 = g112
  generalize f 113 = g113
  generalize f 114 = g114
  generalize f 115 = g115
  generalize f 116 = g116
  generalize f 117 = g117
  generalize f 118 = g118
  generalize f 119 = g119
  generalize f 120 = g120
  generalize f 121 = g121
  generalize f 122 = g122
  generalize f 123 = g123
  generalize f 124 = g124
  generalize f 125 = g125
  generalize f 126 = g126
  generalize f 127 = g127
  generalize f 128 = g128
  generalize f 129 = g129
  generalize f 130 = g130
  generalize f 131 = g131
  generalize f 132 = g132
  generalize f 133 = g133
  generalize f 134 = g134
  generalize f 135 = g135
  generalize f 136 = g136
  generalize f 137 = g137
  clear f
  obtain ⟨K16, hK16⟩ : ∃ K : Act → World → Prop, Hid (K = fun a W => (∃ f : Nat → Value, a = { tmps := #[x.v, s.v, .int .u64 now, .pointer (some ⟨w.heap.size, 0, none⟩), .pointer (some ⟨w.heap.size + 1, 0, none⟩), f 5, .pointer (some ⟨w.heap.size + 1 + 1, 0, none⟩), .bool false, .int .i64 0, f 9, f 10, .bool SZ, f 12, f 13, f 14, f 15, f 16, f 17, f 18, f 19, f 20, f 21, f 22, f 23, f 24, f 25, f 26, f 27, f 28, f 29, f 30, f 31, f 32, f 33, f 34, f 35, f 36, f 37, f 38, f 39, f 40, f 41, f 42, f 43, f 44, f 45, f 46, f 47, f 48, f 49, f 50, f 51, f 52, f 53, f 54, f 55, f 56, f 57, f 58, f 59, f 60, f 61, f 62, f 63, f 64, f 65, f 66, f 67, f 68, f 69, f 70, f 71, f 72, f 73, f 74, f 75, f 76, f 77, f 78, f 79, f 80, f 81, f 82, f 83, f 84, f 85, f 86, f 87, f 88, f 89, f 90, f 91, f 92, f 93, f 94, f 95, f 96, f 97, f 98, f 99, f 100, f 101, f 102, f 103, f 104, f 105, f 106, f 107, f 108, f 109, f 110, f 111, f 112, f 113, f 114, f 115, f 116, f 117, f 118, f 119, f 120, f 121, f 122, f 123, f 124, f 125, f 126, f 127, f 128, f 129, f 130, f 131, f 132, f 133, f 134, f 135, f 136, f 137], defers := [] }) ∧ ∃ E, Like w E ∧ W = ext (((w.alloc (.cells (In.cs ({ x14 with u := if H 2 = true then s.u else x14.u })) 25)).alloc (.cells s.cs 52)).alloc (.cells (In.cs ⟨0, 0, 0, 0, 0, 0, 0, 0, 0, 0, 0, 0, 0, ⟨#[]⟩⟩) 25)) E) := ⟨_, hide rfl⟩
  refine wp_cut K16 ?_ ?_
  · rcases hb2 : H 2 with _ | _
    · go_wp2_with (go_at_call 53; refine (HB2 _ _ (by omega) (by omega)).mono ?_; rintro e w' ⟨rfl, rfl⟩)
      rw [unhide hK16]
      exact ⟨mkF rfl, E, hE, by simp [*]⟩
    · go_wp2_with (go_at_call 53; refine (HB2 _ _ (by omega) (by omega)).mono ?_; rintro e w' ⟨rfl, rfl⟩)
      rw [unhide hK16]
      exact ⟨mkF rfl, E, hE, by simp [*]⟩
  rw [unhide hK16]
  clear hK16 K16
  clear g5 g9 g10 g12 g13 g14 g15 g16 g17 g18 g19 g20 g21 g22 g23 g24 g25 g26 g27 g28 g29 g30 g31 g32 g33 g34 g35 g36 g37 g38 g39 g40 g41 g42 g43 g44 g45 g46 g47 g48 g49 g50 g51 g52 g53 g54 g55 g56 g57 g58 g59 g60 g61 g62 g63 g64 g65 g66 g67 g68 g69 g70 g71 g72 g73 g74 g75 g76 g77 g78 g79 g80 g81 g82 g83 g84 g85 g86 g87 g88 g89 g90 g91 g92 g93 g94 g95 g96 g97 g98 g99 g100 g101 g102 g103 g104 g105 g106 g107 g108 g109 g110 g111 g112 g113 g114 g115 g116 g117 g118 g119 g120 g121 g122 g123 g124 g125 g126 g127 g128 g129 g130 g131 g132 g133 g134 g135 g136 g137 hE E
  rintro _ _ ⟨⟨f, rfl⟩, E, hE, rfl⟩
  obtain ⟨x16, hx16⟩ : ∃ y : In, Hid (y = { x14 with u := if H 2 = true then s.u else x14.u }) := ⟨_, hide rfl⟩
  rw [← unhide hx16]
  generalize f 5 = g5
  generalize f 9 = g9
  generalize f 10 = g10
  generalize f 12 = g12
  generalize f 13 = g13
  generalize f 14 = g14
  generalize f 15 = g15
  generalize f 16 = g16
  generalize f 17 = g17
  generalize f 18 = g18
  generalize f 19 = g19
  generalize f 20 = g20
  generalize f 21 = g21
  generalize f 22 = g22
  generalize f 23 = g23
  generalize f 24 = g24
  generalize f 25 = g25
  generalize f 26 = g26
  generalize f 27 = g27
  generalize f 28 = g28
  generalize f 29 = g29
  generalize f 30 = g30
  generalize f 31 = g31
  generalize f 32 = g32
  generalize f 33 = g33
  generalize f 34 = g34
  generalize f 35 = g35
  generalize f 36 = g36
  generalize f 37 = g37
  generalize f 38 = g38
  generalize f 39 = g39
  generalize f 40 = g40
  generalize f 41 = g41
  generalize f 42 = g42
  generalize f 43 = g43
  generalize f 44 = g44
  generalize f 45 = g45
  generalize f 46 = g46
  generalize f 47 = g47
  generalize f 48 = g48
  generalize f 49 = g49
  generalize f 50 = g50
  generalize f 51 = g51
  generalize f 52 = g52
  generalize f 53 = g53
  generalize f 54 = g54
  generalize f 55 = g55
  generalize f 56 = g56
  generalize f 57 = g57
  generalize f 58 = g58
  generalize f 59 = g59
  generalize f 60 = g60
  generalize f 61 = g61
  generalize f 62 = g62
  generalize f 63 = g63
  generalize f 64 = g64
  generalize f 65 = g65
  generalize f 66 = g66
  generalize f 67 = g67
  generalize f 68 = g68
  generalize f 69 = g69
  generalize f 70 = g70
  generalize f 71 = g71
  generalize f 72 = g72
  generalize f 73 = g73
  generalize f 74 = g74
  generalize f 75 = g75
  generalize f 76 = g76
  generalize f 77 = g77
  generalize f 78 = g78
  generalize f 79 = g79
  generalize f 80 = g80
  generalize f 81 = g81
  generalize f 82 = g82
  generalize f 83 = g83
  generalize f 84 = g84
  generalize f 85 = g85
  generalize f 86 = g86
  generalize f 87 = g87
  generalize f 88 = g88
  generalize f 89 = g89
  generalize f 90 = g90
  generalize f 91 = g91
  generalize f 92 = g92
  generalize f 93 = g93
  generalize f 94 = g94
  generalize f 95 = g95
  generalize f 96 = g96
  generalize f 97 = g97
  generalize f 98 = g98
  generalize f 99 = g99
  generalize f 100 = g100
  generalize f 101 = g101
  generalize f 102 = g102
  generalize f 103 = g103
  generalize f 104 = g104
  generalize f 105 = g105
  generalize f 106 = g106
  generalize f 107 = g107
  generalize f 108 = g108
  generalize f 109 = g109
  generalize f 110 = g110
  generalize f 111 = g111
  generalize f 112 = g112
  generalize f 113 = g113
  generalize f 114 = g114
  generalize f 115 = g115
  generalize f 116 = g116
  generalize f 117 = g117
  generalize f 118 = g118
  generalize f 119 = g119
  generalize f 120 = g120
  generalize f 121 = g121
  generalize f 122 = g122
  generalize f 123 = g123
  generalize f 124 = g124
  generalize f 125 = g125
  generalize f 126 = g126
  generalize f 127 = g127
  generalize f 128 = g128
  generalize f 129 = g129
  generalize f 130 = g130
  generalize f 131 = g131
  generalize f 132 = g132
  generalize f 133 = g133
  generalize f 134 = g134
  generalize f 135 = g135
  generalize f 136 = g136
  generalize f 137 = g137
  clear f
  obtain ⟨K18, hK18⟩ : ∃ K : Act → World → Prop, Hid (K = fun a W => (∃ f : Nat → Value, a = { tmps := #[x.v, s.v, .int .u64 now, .pointer (some ⟨w.heap.size, 0, none⟩), .pointer (some ⟨w.heap.size + 1, 0, none⟩), f 5, .pointer (some ⟨w.heap.size + 1 + 1, 0, none⟩), .bool false, .int .i64 0, f 9, f 10, .bool SZ, f 12, f 13, f 14, f 15, f 16, f 17, f 18, f 19, f 20, f 21, f 22, f 23, f 24, f 25, f 26, f 27, f 28, f 29, f 30, f 31, f 32, f 33, f 34, f 35, f 36, f 37, f 38, f 39, f 40, f 41, f 42, f 43, f 44, f 45, f 46, f 47, f 48, f 49, f 50, f 51, f 52, f 53, f 54, f 55, f 56, f 57, f 58, f 59, f 60, f 61, f 62, f 63, f 64, f 65, f 66, f 67, f 68, f 69, f 70, f 71, f 72, f 73, f 74, f 75, f 76, f 77, f 78, f 79, f 80, f 81, f 82, f 83, f 84, f 85, f 86, f 87, f 88, f 89, f 90, f 91, f 92, f 93, f 94, f 95, f 96, f 97, f 98, f 99, f 100, f 101, f 102, f 103, f 104, f 105, f 106, f 107, f 108, f 109, f 110, f 111, f 112, f 113, f 114, f 115, f 116, f 117, f 118, f 119, f 120, f 121, f 122, f 123, f 124, f 125, f 126, f 127, f 128, f 129, f 130, f 131, f 132, f 133, f 134, f 135, f 136, f 137], defers := [] }) ∧ ∃ E, Like w E ∧ W = ext (((w.alloc (.cells (In.cs ({ x16 with d := if H 4 = true then s.d else x16.d })) 25)).alloc (.cells s.cs 52)).alloc (.cells (In.cs ⟨0, 0, 0, 0, 0, 0, 0, 0, 0, 0, 0, 0, 0, ⟨#[]⟩⟩) 25)) E) := ⟨_, hide rfl⟩
  refine wp_cut K18 ?_ ?_
  · rcases hb4 : H 4 with _ | _
    · go_wp2_with (go_at_call 53; refine (HB2 _ _ (by omega) (by omega)).mono ?_; rintro e w' ⟨rfl, rfl⟩)
      rw [unhide hK18]
      exact ⟨mkF rfl, E, hE, by simp [*]⟩
    · go_wp2_with (go_at_call 53; refine (HB2 _ _ (by omega) (by omega)).mono ?_; rintro e w' ⟨rfl, rfl⟩)
      rw [unhide hK18]
      exact ⟨mkF rfl, E, hE, by simp [*]⟩
  rw [unhide hK18]
  clear hK18 K18
  clear g5 g9 g10 g12 g13 g14 g15 g16 g17 g18 g19 g20 g21 g22 g23 g24 g25 g26 g27 g28 g29 g30 g31 g32 g33 g34 g35 g36 g37 g38 g39 g40 g41 g42 g43 g44 g45 g46 g47 g48 g49 g50 g51 g52 g53 g54 g55 g56 g57 g58 g59 g60 g61 g62 g63 g64 g65 g66 g67 g68 g69 g70 g71 g72 g73 g74 g75 g76 g77 g78 g79 g80 g81 g82 g83 g84 g85 g86 g87 g88 g89 g90 g91 g92 g93 g94 g95 g96 g97 g98 g99 g100 g101 g102 g103 g104 g105 g106 g107 g108 g109 g110 g111 g112 g113 g114 g115 g116 g117 g118 g119 g120 g121 g122 g123 g124 g125 g126 g127 g128 g129 g130 g131 g132 g133 g134 g135 g136 g137 hE E
  rintro _ _ ⟨⟨f, rfl⟩, E, hE, rfl⟩
  obtain ⟨x18, hx18⟩ : ∃ y : In, Hid (y = { x16 with d := if H 4 = true then s.d else x16.d }) := ⟨_, hide rfl⟩
  rw [← unhide hx18]
  generalize f 5 = g5
  generalize f 9 = g9
  generalize f 10 = g10
  generalize f 12 = g12
  generalize f 13 = g13
  generalize f 14 = g14
  generalize f 15 = g15
  generalize f 16 = g16
  generalize f 17 = g17
  generalize f 18 = g18
  generalize f 19 = g19
  generalize f 20 = g20
  generalize f 21 = g21
  generalize f 22 = g22
  generalize f 23 = g23
  generalize f 24 = g24
  generalize f 25 = g25
  generalize f 26 = g26
  generalize f 27 = g27
  generalize f 28 = g28
  generalize f 29 = g29
  generalize f 30 = g30
  generalize f 31 = g31
  generalize f 32 = g32
  generalize f 33 = g33
  generalize f 34 = g34
  generalize f 35 = g35
  generalize f 36 = g36
  generalize f 37 = g37
  generalize f 38 = g38
  generalize f 39 = g39
  generalize f 40 = g40
  generalize f 41 = g41
  generalize f 42 = g42
  generalize f 43 = g43
  generalize f 44 = g44
  generalize f 45 = g45
  generalize f 46 = g46
  generalize f 47 = g47
  generalize f 48 = g48
  generalize f 49 = g49
  generalize f 50 = g50
  generalize f 51 = g51
  generalize f 52 = g52
  generalize f 53 = g53
  generalize f 54 = g54
  generalize f 55 = g55
  generalize f 56 = g56
  generalize f 57 = g57
  generalize f 58 = g58
  generalize f 59 = g59
  generalize f 60 = g60
  generalize f 61 = g61
  generalize f 62 = g62
  generalize f 63 = g63
  generalize f 64 = g64
  generalize f 65 = g65
  generalize f 66 = g66
  generalize f 67 = g67
  generalize f 68 = g68
  generalize f 69 = g69
  generalize f 70 = g70
  generalize f 71 = g71
  generalize f 72 = g72
  generalize f 73 = g73
  generalize f 74 = g74
  generalize f 75 = g75
  generalize f 76 = g76
  generalize f 77 = g77
  generalize f 78 = g78
  generalize f 79 = g79
  generalize f 80 = g80
  generalize f 81 = g81
  generalize f 82 = g82
  generalize f 83 = g83
  generalize f 84 = g84
  generalize f 85 = g85
  generalize f 86 = g86
  generalize f 87 = g87
  generalize f 88 = g88
  generalize f 89 = g89
  generalize f 90 = g90
  generalize f 91 = g91
  generalize f 92 = g92
  generalize f 93 = g93
  generalize f 94 = g94
  generalize f 95 = g95
  generalize f 96 = g96
  generalize f 97 = g97
  generalize f 98 = g98
  generalize f 99 = g99
  generalize f 100 = g100
  generalize f 101 = g101
  generalize f 102 = g102
  generalize f 103 = g103
  generalize f 104 = g104
  generalize f 105 = g105
  generalize f 106 = g106
  generalize f 107 = g107
  generalize f 108 = g108
  generalize f 109 = g109
  generalize f 110 = g110
  generalize f 111 = g111
  generalize f 112 = g112
  generalize f 113 = g113
  generalize f 114 = g114
  generalize f 115 = g115
  generalize f 116 = g116
  generalize f 117 = g117
  generalize f 118 = g118
  generalize f 119 = g119
  generalize f 120 = g120
  generalize f 121 = g121
  generalize f 122 = g122
  generalize f 123 = g123
  generalize f 124 = g124
  generalize f 125 = g125
  generalize f 126 = g126
  generalize f 127 = g127
  generalize f 128 = g128
  generalize f 129 = g129
  generalize f 130 = g130
  generalize f 131 = g131
  generalize f 132 = g132
  generalize f 133 = g133
  generalize f 134 = g134
  generalize f 135 = g135
  generalize f 136 = g136
  generalize f 137 = g137
  clear f
  obtain ⟨K20, hK20⟩ : ∃ K : Act → World → Prop, Hid (K = fun a W => (∃ f : Nat → Value, a = { tmps := #[x.v, s.v, .int .u64 now, .pointer (some ⟨w.heap.size, 0, none⟩), .pointer (some ⟨w.heap.size + 1, 0, none⟩), f 5, .pointer (some ⟨w.heap.size + 1 + 1, 0, none⟩), .bool false, .int .i64 0, f 9, f 10, .bool SZ, f 12, f 13, f 14, f 15, f 16, f 17, f 18, f 19, f 20, f 21, f 22, f 23, f 24, f 25, f 26, f 27, f 28, f 29, f 30, f 31, f 32, f 33, f 34, f 35, f 36, f 37, f 38, f 39, f 40, f 41, f 42, f 43, f 44, f 45, f 46, f 47, f 48, f 49, f 50, f 51, f 52, f 53, f 54, f 55, f 56, f 57, f 58, f 59, f 60, f 61, f 62, f 63, f 64, f 65, f 66, f 67, f 68, f 69, f 70, f 71, f 72, f 73, f 74, f 75, f 76, f 77, f 78, f 79, f 80, f 81, f 82, f 83, f 84, f 85, f 86, f 87, f 88, f 89, f 90, f 91, f 92, f 93, f 94, f 95, f 96, f 97, f 98, f 99, f 100, f 101, f 102, f 103, f 104, f 105, f 106, f 107, f 108, f 109, f 110, f 111, f 112, f 113, f 114, f 115, f 116, f 117, f 118, f 119, f 120, f 121, f 122, f 123, f 124, f 125, f 126, f 127, f 128, f 129, f 130, f 131, f 132, f 133, f 134, f 135, f 136, f 137], defers := [] }) ∧ ∃ E, Like w E ∧ W = ext (((w.alloc (.cells (In.cs ({ x18 with s := if H 8 = true then s.s else x18.s })) 25)).alloc (.cells s.cs 52)).alloc (.cells (In.cs ⟨0, 0, 0, 0, 0, 0, 0, 0, 0, 0, 0, 0, 0, ⟨#[]⟩⟩) 25)) E) := ⟨_, hide rfl⟩
  refine wp_cut K20 ?_ ?_
  · rcases hb8 : H 8 with _ | _
    · go_wp2_with (go_at_call 53; refine (HB2 _ _ (by omega) (by omega)).mono ?_; rintro e w' ⟨rfl, rfl⟩)
      rw [unhide hK20]
      exact ⟨mkF rfl, E, hE, by simp [*]⟩
    · go_wp2_with (go_at_call 53; refine (HB2 _ _ (by omega) (by omega)).mono ?_; rintro e w' ⟨rfl, rfl⟩)
      rw [unhide hK20]
      exact ⟨mkF rfl, E, hE, by simp [*]⟩
  rw [unhide hK20]
  clear hK20 K20
  clear g5 g9 g10 g12 g13 g14 g15 g16 g17 g18 g19 g20 g21 g22 g23 g24 g25 g26 g27 g28 g29 g30 g31 g32 g33 g34 g35 g36 g37 g38 g39 g40 g41 g42 g43 g44 g45 g46 g47 g48 g49 g50 g51 g52 g53 g54 g55 g56 g57 g58 g59 g60 g61 g62 g63 g64 g65 g66 g67 g68 g69 g70 g71 g72 g73 g74 g75 g76 g77 g78 g79 g80 g81 g82 g83 g84 g85 g86 g87 g88 g89 g90 g91 g92 g93 g94 g95 g96 g97 g98 g99 g100 g101 g102 g103 g104 g105 g106 g107 g108 g109 g110 g111 g112 g113 g114 g115 g116 g117 g118 g119 g120 g121 g122 g123 g124 g125 g126 g127 g128 g129 g130 g131 g132 g133 g134 g135 g136 g137 hE E
  rintro _ _ ⟨⟨f, rfl⟩, E, hE, rfl⟩
  obtain ⟨x20, hx20⟩ : ∃ y : In, Hid (y = { x18 with s := if H 8 = true then s.s else x18.s }) := ⟨_, hide rfl⟩
  rw [← unhide hx20]
  generalize f 5 = g5
  generalize f 9 = g9
  generalize f 10 = g10
  generalize f 12 = g12
  generalize f 13 = g13
  generalize f 14 = g14
  generalize f 15 = g15
  generalize f 16 = g16
  generalize f 17 = g17
  generalize f 18 = g18
  generalize f 19 = g19
  generalize f 20 = g20
  generalize f 21 = g21
  generalize f 22 = g22
  generalize f 23 = g23
  generalize f 24 = g24
  generalize f 25 = g25
  generalize f 26 = g26
  generalize f 27 = g27
  generalize f 28 = g28
  generalize f 29 = g29
  generalize f 30 = g30
  generalize f 31 = g31
  generalize f 32 = g32
  generalize f 33 = g33
  generalize f 34 = g34
  generalize f 35 = g35
  generalize f 36 = g36
  generalize f 37 = g37
  generalize f 38 = g38
  generalize f 39 = g39
  generalize f 40 = g40
  generalize f 41 = g41
  generalize f 42 = g42
  generalize f 43 = g43
  generalize f 44 = g44
  generalize f 45 = g45
  generalize f 46 = g46
  generalize f 47 = g47
  generalize f 48 = g48
  generalize f 49 = g49
  generalize f 50 = g50
  generalize f 51 = g51
  generalize f 52 = g52
  generalize f 53 = g53
  generalize f 54 = g54
  generalize f 55 = g55
  generalize f 56 = g56
  generalize f 57 = g57
  generalize f 58 = g58
  generalize f 59 = g59
  generalize f 60 = g60
  generalize f 61 = g61
  generalize f 62 = g62
  generalize f 63 = g63
  generalize f 64 = g64
  generalize f 65 = g65
  generalize f 66 = g66
  generalize f 67 = g67
  generalize f 68 = g68
  generalize f 69 = g69
  generalize f 70 = g70
  generalize f 71 = g71
  generalize f 72 = g72
  generalize f 73 = g73
  generalize f 74 = g74
  generalize f 75 = g75
  generalize f 76 = g76
  generalize f 77 = g77
  generalize f 78 = g78
  generalize f 79 = g79
  generalize f 80 = g80
  generalize f 81 = g81
  generalize f 82 = g82
  generalize f 83 = g83
  generalize f 84 = g84
  generalize f 85 = g85
  generalize f 86 = g86
  generalize f 87 = g87
  generalize f 88 = g88
  generalize f 89 = g89
  generalize f 90 = g90
  generalize f 91 = g91
  generalize f 92 = g92
  generalize f 93 = g93
  generalize f 94 = g94
  generalize f 95 = g95
  generalize f 96 = g96
  generalize f 97 = g97
  generalize f 98 = g98
  generalize f 99 = g99
  generalize f 100 = g100
  generalize f 101 = g101
  generalize f 102 = g102
  generalize f 103 = g103
  generalize f 104 = g104
  generalize f 105 = g105
  generalize f 106 = g106
  generalize f 107 = g107
  generalize f 108 = g108
  generalize f 109 = g109
  generalize f 110 = g110
  generalize f 111 = g111
  generalize f 112 = g112
  generalize f 113 = g113
  generalize f 114 = g114
  generalize f 115 = g115
  generalize f 116 = g116
  generalize f 117 = g117
  generalize f 118 = g118
  generalize f 119 = g119
  generalize f 120 = g120
  generalize f 121 = g121
  generalize f 122 = g122
  generalize f 123 = g123
  generalize f 124 = g124
  generalize f 125 = g125
  generalize f 126 = g126
  generalize f 127 = g127
  generalize f 128 = g128
  generalize f 129 = g129
  generalize f 130 = g130
  generalize f 131 = g131
  generalize f 132 = g132
  generalize f 133 = g133
  generalize f 134 = g134
  generalize f 135 = g135
  generalize f 136 = g136
  generalize f 137 = g137
  clear f
  obtain ⟨K22, hK22⟩ : ∃ K : Act → World → Prop, Hid (K = fun a W => (∃ f : Nat → Value, a = { tmps := #[x.v, s.v, .int .u64 now, .pointer (some ⟨w.heap.size, 0, none⟩), .pointer (some ⟨w.heap.size + 1, 0, none⟩), f 5, .pointer (some ⟨w.heap.size + 1 + 1, 0, none⟩), .bool false, .int .i64 0, f 9, f 10, .bool SZ, f 12, f 13, f 14, f 15, f 16, f 17, f 18, f 19, f 20, f 21, f 22, f 23, f 24, f 25, f 26, f 27, f 28, f 29, f 30, f 31, f 32, f 33, f 34, f 35, f 36, f 37, f 38, f 39, f 40, f 41, f 42, f 43, f 44, f 45, f 46, f 47, f 48, f 49, f 50, f 51, f 52, f 53, f 54, f 55, f 56, f 57, f 58, f 59, f 60, f 61, f 62, f 63, f 64, f 65, f 66, f 67, f 68, f 69, f 70, f 71, f 72, f 73, f 74, f 75, f 76, f 77, f 78, f 79, f 80, f 81, f 82, f 83, f 84, f 85, f 86, f 87, f 88, f 89, f 90, f 91, f 92, f 93, f 94, f 95, f 96, f 97, f 98, f 99, f 100, f 101, f 102, f 103, f 104, f 105, f 106, f 107, f 108, f 109, f 110, f 111, f 112, f 113, f 114, f 115, f 116, f 117, f 118, f 119, f 120, f 121, f 122, f 123, f 124, f 125, f 126, f 127, f 128, f 129, f 130, f 131, f 132, f 133, f 134, f 135, f 136, f 137], defers := [] }) ∧ ∃ E, Like w E ∧ W = ext (((w.alloc (.cells (In.cs ({ x20 with ta := if H 16 = true then s.ta else x20.ta })) 25)).alloc (.cells s.cs 52)).alloc (.cells (In.cs ⟨0, 0, 0, 0, 0, 0, 0, 0, 0, 0, 0, 0, 0, ⟨#[]⟩⟩) 25)) E) := ⟨_, hide rfl⟩
  refine wp_cut K22 ?_ ?_
  · rcases hb16 : H 16 with _ | _
    · go_wp2_with (go_at_call 53; refine (HB2 _ _ (by omega) (by omega)).mono ?_; rintro e w' ⟨rfl, rfl⟩)
      rw [unhide hK22]
      exact ⟨mkF rfl, E, hE, by simp [*]⟩
    · go_wp2_with (go_at_call 53; refine (HB2 _ _ (by omega) (by omega)).mono ?_; rintro e w' ⟨rfl, rfl⟩)
      rw [unhide hK22]
      exact ⟨mkF rfl, E, hE, by simp [*]⟩
  rw [unhide hK22]
  clear hK22 K22
  clear g5 g9 g10 g12 g13 g14 g15 g16 g17 g18 g19 g20 g21 g22 g23 g24 g25 g26 g27 g28 g29 g30 g31 g32 g33 g34 g35 g36 g37 g38 g39 g40 g41 g42 g43 g44 g45 g46 g47 g48 g49 g50 g51 g52 g53 g54 g55 g56 g57 g58 g59 g60 g61 g62 g63 g64 g65 g66 g67 g68 g69 g70 g71 g72 g73 g74 g75 g76 g77 g78 g79 g80 g81 g82 g83 g84 g85 g86 g87 g88 g89 g90 g91 g92 g93 g94 g95 g96 g97 g98 g99 g100 g101 g102 g103 g104 g105 g106 g107 g108 g109 g110 g111 g112 g113 g114 g115 g116 g117 g118 g119 g120 g121 g122 g123 g124 g125 g126 g127 g128 g129 g130 g131 g132 g133 g134 g135 g136 g137 hE E
  rintro _ _ ⟨⟨f, rfl⟩, E, hE, rfl⟩
  obtain ⟨x22, hx22⟩ : ∃ y : In, Hid (y = { x20 with ta := if H 16 = true then s.ta else x20.ta }) := ⟨_, hide rfl⟩
  rw [← unhide hx22]
  generalize f 5 = g5
  generalize f 9 = g9
  generalize f 10 = g10
  generalize f 12 = g12
  generalize f 13 = g13
  generalize f 14 = g14
  generalize f 15 = g15
  generalize f 16 = g16
  generalize f 17 = g17
  generalize f 18 = g18
  generalize f 19 = g19
  generalize f 20 = g20
  generalize f 21 = g21
  generalize f 22 = g22
  generalize f 23 = g23
  generalize f 24 = g24
  generalize f 25 = g25
  generalize f 26 = g26
  generalize f 27 = g27
  generalize f 28 = g28
  generalize f 29 = g29
  generalize f 30 = g30
  generalize f 31 = g31
  generalize f 32 = g32
  generalize f 33 = g33
  generalize f 34 = g34
  generalize f 35 = g35
  generalize f 36 = g36
  generalize f 37 = g37
  generalize f 38 = g38
  generalize f 39 = g39
  generalize f 40 = g40
  generalize f 41 = g41
  generalize f 42 = g42
  generalize f 43 = g43
  generalize f 44 = g44
  generalize f 45 = g45
  generalize f 46 = g46
  generalize f 47 = g47
  generalize f 48 = g48
  generalize f 49 = g49
  generalize f 50 = g50
  generalize f 51 = g51
  generalize f 52 = g52
  generalize f 53 = g53
  generalize f 54 = g54
  generalize f 55 = g55
  generalize f 56 = g56
  generalize f 57 = g57
  generalize f 58 = g58
  generalize f 59 = g59
  generalize f 60 = g60
  generalize f 61 = g61
  generalize f 62 = g62
  generalize f 63 = g63
  generalize f 64 = g64
  generalize f 65 = g65
  generalize f 66 = g66
  generalize f 67 = g67
  generalize f 68 = g68
  generalize f 69 = g69
  generalize f 70 = g70
  generalize f 71 = g71
  generalize f 72 = g72
  generalize f 73 = g73
  generalize f 74 = g74
  generalize f 75 = g75
  generalize f 76 = g76
  generalize f 77 = g77
  generalize f 78 = g78
  generalize f 79 = g79
  generalize f 80 = g80
  generalize f 81 = g81
  generalize f 82 = g82
  generalize f 83 = g83
  generalize f 84 = g84
  generalize f 85 = g85
  generalize f 86 = g86
  generalize f 87 = g87
  generalize f 88 = g88
  generalize f 89 = g89
  generalize f 90 = g90
  generalize f 91 = g91
  generalize f 92 = g92
  generalize f 93 = g93
  generalize f 94 = g94
  generalize f 95 = g95
  generalize f 96 = g96
  generalize f 97 = g97
  generalize f 98 = g98
  generalize f 99 = g99
  generalize f 100 = g100
  generalize f 101 = g101
  generalize f 102 = g102
  generalize f 103 = g103
  generalize f 104 = g104
  generalize f 105 = g105
  generalize f 106 = g106
  generalize f 107 = g107
  generalize f 108 = g108
  generalize f 109 = g109
  generalize f 110 = g110
  generalize f 111 = g111
  generalize f 112 = g112
  generalize f 113 = g113
  generalize f 114 = g114
  generalize f 115 = g115
  generalize f 116 = g116
  generalize f 117 = g117
  generalize f 118 = g118
  generalize f 119 = g119
  generalize f 120 = g120
  generalize f 121 = g121
  generalize f 122 = g122
  generalize f 123 = g123
  generalize f 124 = g124
  generalize f 125 = g125
  generalize f 126 = g126
  generalize f 127 = g127
  generalize f 128 = g128
  generalize f 129 = g129
  generalize f 130 = g130
  generalize f 131 = g131
  generalize f 132 = g132
  generalize f 133 = g133
  generalize f 134 = g134
  generalize f 135 = g135
  generalize f 136 = g136
  generalize f 137 = g137
  clear f
  obtain ⟨K24, hK24⟩ : ∃ K : Act → World → Prop, Hid (K = fun a W => (∃ f : Nat → Value, a = { tmps := #[x.v, s.v, .int .u64 now, .pointer (some ⟨w.heap.size, 0, none⟩), .pointer (some ⟨w.heap.size + 1, 0, none⟩), f 5, .pointer (some ⟨w.heap.size + 1 + 1, 0, none⟩), .bool false, .int .i64 0, f 9, f 10, .bool SZ, f 12, f 13, f 14, f 15, f 16, f 17, f 18, f 19, f 20, f 21, f 22, f 23, f 24, f 25, f 26, f 27, f 28, f 29, f 30, f 31, f 32, f 33, f 34, f 35, f 36, f 37, f 38, f 39, f 40, f 41, f 42, f 43, f 44, f 45, f 46, f 47, f 48, f 49, f 50, f 51, f 52, f 53, f 54, f 55, f 56, f 57, f 58, f 59, f 60, f 61, f 62, f 63, f 64, f 65, f 66, f 67, f 68, f 69, f 70, f 71, f 72, f 73, f 74, f 75, f 76, f 77, f 78, f 79, f 80, f 81, f 82, f 83, f 84, f 85, f 86, f 87, f 88, f 89, f 90, f 91, f 92, f 93, f 94, f 95, f 96, f 97, f 98, f 99, f 100, f 101, f 102, f 103, f 104, f 105, f 106, f 107, f 108, f 109, f 110, f 111, f 112, f 113, f 114, f 115, f 116, f 117, f 118, f 119, f 120, f 121, f 122, f 123, f 124, f 125, f 126, f 127, f 128, f 129, f 130, f 131, f 132, f 133, f 134, f 135, f 136, f 137], defers := [] }) ∧ ∃ E, Like w E ∧ W = ext (((w.alloc (.cells (In.cs ({ x22 with tm := if H 32 = true then s.tm else x22.tm })) 25)).alloc (.cells s.cs 52)).alloc (.cells (In.cs ⟨0, 0, 0, 0, 0, 0, 0, 0, 0, 0, 0, 0, 0, ⟨#[]⟩⟩) 25)) E) := ⟨_, hide rfl⟩
  refine wp_cut K24 ?_ ?_
  · rcases hb32 : H 32 with _ | _
    · go_wp2_with (go_at_call 53; refine (HB2 _ _ (by omega) (by omega)).mono ?_; rintro e w' ⟨rfl, rfl⟩)
      rw [unhide hK24]
      exact ⟨mkF rfl, E, hE, by simp [*]⟩
    · go_wp2_with (go_at_call 53; refine (HB2 _ _ (by omega) (by omega)).mono ?_; rintro e w' ⟨rfl, rfl⟩)
      rw [unhide hK24]
      exact ⟨mkF rfl, E, hE, by simp [*]⟩
  rw [unhide hK24]
  clear hK24 K24
  clear g5 g9 g10 g12 g13 g14 g15 g16 g17 g18 g19 g20 g21 g22 g23 g24 g25 g26 g27 g28 g29 g30 g31 g32 g33 g34 g35 g36 g37 g38 g39 g40 g41 g42 g43 g44 g45 g46 g47 g48 g49 g50 g51 g52 g53 g54 g55 g56 g57 g58 g59 g60 g61 g62 g63 g64 g65 g66 g67 g68 g69 g70 g71 g72 g73 g74 g75 g76 g77 g78 g79 g80 g81 g82 g83 g84 g85 g86 g87 g88 g89 g90 g91 g92 g93 g94 g95 g96 g97 g98 g99 g100 g101 g102 g103 g104 g105 g106 g107 g108 g109 g110 g111 g112 g113 g114 g115 g116 g117 g118 g119 g120 g121 g122 g123 g124 g125 g126 g127 g128 g129 g130 g131 g132 g133 g134 g135 g136 g137 hE E
  rintro _ _ ⟨⟨f, rfl⟩, E, hE, rfl⟩
  obtain ⟨x24, hx24⟩ : ∃ y : In, Hid (y = { x22 with tm := if H 32 = true then s.tm else x22.tm }) := ⟨_, hide rfl⟩
  rw [← unhide hx24]
  generalize f 5 = g5
  generalize f 9 = g9
  generalize f 10 = g10
  generalize f 12 = g12
  generalize f 13 = g13
  generalize f 14 = g14
  generalize f 15 = g15
  generalize f 16 = g16
  generalize f 17 = g17
  generalize f 18 = g18
  generalize f 19 = g19
  generalize f 20 = g20
  generalize f 21 = g21
  generalize f 22 = g22
  generalize f 23 = g23
  generalize f 24 = g24
  generalize f 25 = g25
  generalize f 26 = g26
  generalize f 27 = g27
  generalize f 28 = g28
  generalize f 29 = g29
  generalize f 30 = g30
  generalize f 31 = g31
  generalize f 32 = g32
  generalize f 33 = g33
  generalize f 34 = g34
  generalize f 35 = g35
  generalize f 36 = g36
  generalize f 37 = g37
  generalize f 38 = g38
  generalize f 39 = g39
  generalize f 40 = g40
  generalize f 41 = g41
  generalize f 42 = g42
  generalize f 43 = g43
  generalize f 44 = g44
  generalize f 45 = g45
  generalize f 46 = g46
  generalize f 47 = g47
  generalize f 48 = g48
  generalize f 49 = g49
  generalize f 50 = g50
  generalize f 51 = g51
  generalize f 52 = g52
  generalize f 53 = g53
  generalize f 54 = g54
  generalize f 55 = g55
  generalize f 56 = g56
  generalize f 57 = g57
  generalize f 58 = g58
  generalize f 59 = g59
  generalize f 60 = g60
  generalize f 61 = g61
  generalize f 62 = g62
  generalize f 63 = g63
  generalize f 64 = g64
  generalize f 65 = g65
  generalize f 66 = g66
  generalize f 67 = g67
  generalize f 68 = g68
  generalize f 69 = g69
  generalize f 70 = g70
  generalize f 71 = g71
  generalize f 72 = g72
  generalize f 73 = g73
  generalize f 74 = g74
  generalize f 75 = g75
  generalize f 76 = g76
  generalize f 77 = g77
  generalize f 78 = g78
  generalize f 79 = g79
  generalize f 80 = g80
  generalize f 81 = g81
  generalize f 82 = g82
  generalize f 83 = g83
  generalize f 84 = g84
  generalize f 85 = g85
  generalize f 86 = g86
  generalize f 87 = g87
  generalize f 88 = g88
  generalize f 89 = g89
  generalize f 90 = g90
  generalize f 91 = g91
  generalize f 92 = g92
  generalize f 93 = g93
  generalize f 94 = g94
  generalize f 95 = g95
  generalize f 96 = g96
  generalize f 97 = g97
  generalize f 98 = g98
  generalize f 99 = g99
  generalize f 100 = g100
  generalize f 101 = g101
  generalize f 102 = g102
  generalize f 103 = g103
  generalize f 104 = g104
  generalize f 105 = g105
  generalize f 106 = g106
  generalize f 107 = g107
  generalize f 108 = g108
  generalize f 109 = g109
  generalize f 110 = g110
  generalize f 111 = g111
  generalize f 112 = g112
  generalize f 113 = g113
  generalize f 114 = g114
  generalize f 115 = g115
  generalize f 116 = g116
  generalize f 117 = g117
  generalize f 118 = g118
  generalize f 119 = g119
  generalize f 120 = g120
  generalize f 121 = g121
  generalize f 122 = g122
  generalize f 123 = g123
  generalize f 124 = g124
  generalize f 125 = g125
  generalize f 126 = g126
  generalize f 127 = g127
  generalize f 128 = g128
  generalize f 129 = g129
  generalize f 130 = g130
  generalize f 131 = g131
  generalize f 132 = g132
  generalize f 133 = g133
  generalize f 134 = g134
  generalize f 135 = g135
  generalize f 136 = g136
  generalize f 137 = g137
  clear f
  obtain ⟨K26, hK26⟩ : ∃ K : Act → World → Prop, Hid (K = fun a W => (∃ f : Nat → Value, a = { tmps := #[x.v, s.v, .int .u64 now, .pointer (some ⟨w.heap.size, 0, none⟩), .pointer (some ⟨w.heap.size + 1, 0, none⟩), f 5, .pointer (some ⟨w.heap.size + 1 + 1, 0, none⟩), .bool false, .int .i64 0, f 9, f 10, .bool SZ, f 12, f 13, f 14, f 15, f 16, f 17, f 18, f 19, f 20, f 21, f 22, f 23, f 24, f 25, f 26, f 27, f 28, f 29, f 30, f 31, f 32, f 33, f 34, f 35, f 36, f 37, f 38, f 39, f 40, f 41, f 42, f 43, f 44, f 45, f 46, f 47, f 48, f 49, f 50, f 51, f 52, f 53, f 54, f 55, f 56, f 57, f 58, f 59, f 60, f 61, f 62, f 63, f 64, f 65, f 66, f 67, f 68, f 69, f 70, f 71, f 72, f 73, f 74, f 75, f 76, f 77, f 78, f 79, f 80, f 81, f 82, f 83, f 84, f 85, f 86, f 87, f 88, f 89, f 90, f 91, f 92, f 93, f 94, f 95, f 96, f 97, f 98, f 99, f 100, f 101, f 102, f 103, f 104, f 105, f 106, f 107, f 108, f 109, f 110, f 111, f 112, f 113, f 114, f 115, f 116, f 117, f 118, f 119, f 120, f 121, f 122, f 123, f 124, f 125, f 126, f 127, f 128, f 129, f 130, f 131, f 132, f 133, f 134, f 135, f 136, f 137], defers := [] }) ∧ ∃ E, Like w E ∧ W = ext (((w.alloc (.cells (In.cs ({ x24 with ta := if H 64 = true then now else x24.ta })) 25)).alloc (.cells s.cs 52)).alloc (.cells (In.cs ⟨0, 0, 0, 0, 0, 0, 0, 0, 0, 0, 0, 0, 0, ⟨#[]⟩⟩) 25)) E) := ⟨_, hide rfl⟩
  refine wp_cut K26 ?_ ?_
  · rcases hb64 : H 64 with _ | _
    · go_wp2_with (go_at_call 53; refine (HB2 _ _ (by omega) (by omega)).mono ?_; rintro e w' ⟨rfl, rfl⟩)
      rw [unhide hK26]
      exact ⟨mkF rfl, E, hE, by simp [*]⟩
    · go_wp2_with (go_at_call 53; refine (HB2 _ _ (by omega) (by omega)).mono ?_; rintro e w' ⟨rfl, rfl⟩)
      rw [unhide hK26]
      exact ⟨mkF rfl, E, hE, by simp [*]⟩
  rw [unhide hK26]
  clear hK26 K26
  clear g5 g9 g10 g12 g13 g14 g15 g16 g17 g18 g19 g20 g21 g22 g23 g24 g25 g26 g27 g28 g29 g30 g31 g32 g33 g34 g35 g36 g37 g38 g39 g40 g41 g42 g43 g44 g45 g46 g47 g48 g49 g50 g51 g52 g53 g54 g55 g56 g57 g58 g59 g60 g61 g62 g63 g64 g65 g66 g67 g68 g69 g70 g71 g72 g73 g74 g75 g76 g77 g78 g79 g80 g81 g82 g83 g84 g85 g86 g87 g88 g89 g90 g91 g92 g93 g94 g95 g96 g97 g98 g99 g100 g101 g102 g103 g104 g105 g106 g107 g108 g109 g110 g111 g112 g113 g114 g115 g116 g117 g118 g119 g120 g121 g122 g123 g124 g125 g126 g127 g128 g129 g130 g131 g132 g133 g134 g135 g136 g137 hE E
  rintro _ _ ⟨⟨f, rfl⟩, E, hE, rfl⟩
  obtain ⟨x26, hx26⟩ : ∃ y : In, Hid (y = { x24 with ta := if H 64 = true then now else x24.ta }) := ⟨_, hide rfl⟩
  rw [← unhide hx26]
  generalize f 5 = g5
  generalize f 9 = g9
  generalize f 10 = g10
  generalize f 12 = g12
  generalize f 13 = g13
  generalize f 14 = g14
  generalize f 15 = g15
  generalize f 16 = g16
  generalize f 17 = g17
  generalize f 18 = g18
  generalize f 19 = g19
  generalize f 20 = g20
  generalize f 21 = g21
  generalize f 22 = g22
  generalize f 23 = g23
  generalize f 24 = g24
  generalize f 25 = g25
  generalize f 26 = g26
  generalize f 27 = g27
  generalize f 28 = g28
  generalize f 29 = g29
  generalize f 30 = g30
  generalize f 31 = g31
  generalize f 32 = g32
  generalize f 33 = g33
  generalize f 34 = g34
  generalize f 35 = g35
  generalize f 36 = g36
  generalize f 37 = g37
  generalize f 38 = g38
  generalize f 39 = g39
  generalize f 40 = g40
  generalize f 41 = g41
  generalize f 42 = g42
  generalize f 43 = g43
  generalize f 44 = g44
  generalize f 45 = g45
  generalize f 46 = g46
  generalize f 47 = g47
  generalize f 48 = g48
  generalize f 49 = g49
  generalize f 50 = g50
  generalize f 51 = g51
  generalize f 52 = g52
  generalize f 53 = g53
  generalize f 54 = g54
  generalize f 55 = g55
  generalize f 56 = g56
  generalize f 57 = g57
  generalize f 58 = g58
  generalize f 59 = g59
  generalize f 60 = g60
  generalize f 61 = g61
  generalize f 62 = g62
  generalize f 63 = g63
  generalize f 64 = g64
  generalize f 65 = g65
  generalize f 66 = g66
  generalize f 67 = g67
  generalize f 68 = g68
  generalize f 69 = g69
  generalize f 70 = g70
  generalize f 71 = g71
  generalize f 72 = g72
  generalize f 73 = g73
  generalize f 74 = g74
  generalize f 75 = g75
  generalize f 76 = g76
  generalize f 77 = g77
  generalize f 78 = g78
  generalize f 79 = g79
  generalize f 80 = g80
  generalize f 81 = g81
  generalize f 82 = g82
  generalize f 83 = g83
  generalize f 84 = g84
  generalize f 85 = g85
  generalize f 86 = g86
  generalize f 87 = g87
  generalize f 88 = g88
  generalize f 89 = g89
  generalize f 90 = g90
  generalize f 91 = g91
  generalize f 92 = g92
  generalize f 93 = g93
  generalize f 94 = g94
  generalize f 95 = g95
  generalize f 96 = g96
  generalize f 97 = g97
  generalize f 98 = g98
  generalize f 99 = g99
  generalize f 100 = g100
  generalize f 101 = g101
  generalize f 102 = g102
  generalize f 103 = g103
  generalize f 104 = g104
  generalize f 105 = g105
  generalize f 106 = g106
  generalize f 107 = g107
  generalize f 108 = g108
  generalize f 109 = g109
  generalize f 110 = g110
  generalize f 111 = g111
  generalize f 112 = g112
  generalize f 113 = g113
  generalize f 114 = g114
  generalize f 115 = g115
  generalize f 116 = g116
  generalize f 117 = g117
  generalize f 118 = g118
  generalize f 119 = g119
  generalize f 120 = g120
  generalize f 121 = g121
  generalize f 122 = g122
  generalize f 123 = g123
  generalize f 124 = g124
  generalize f 125 = g125
  generalize f 126 = g126
  generalize f 127 = g127
  generalize f 128 = g128
  generalize f 129 = g129
  generalize f 130 = g130
  generalize f 131 = g131
  generalize f 132 = g132
  generalize f 133 = g133
  generalize f 134 = g134
  generalize f 135 = g135
  generalize f 136 = g136
  generalize f 137 = g137
  clear f
  obtain ⟨K28, hK28⟩ : ∃ K : Act → World → Prop, Hid (K = fun a W => (∃ f : Nat → Value, a = { tmps := #[x.v, s.v, .int .u64 now, .pointer (some ⟨w.heap.size, 0, none⟩), .pointer (some ⟨w.heap.size + 1, 0, none⟩), f 5, .pointer (some ⟨w.heap.size + 1 + 1, 0, none⟩), .bool false, .int .i64 0, f 9, f 10, .bool SZ, f 12, f 13, f 14, f 15, f 16, f 17, f 18, f 19, f 20, f 21, f 22, f 23, f 24, f 25, f 26, f 27, f 28, f 29, f 30, f 31, f 32, f 33, f 34, f 35, f 36, f 37, f 38, f 39, f 40, f 41, f 42, f 43, f 44, f 45, f 46, f 47, f 48, f 49, f 50, f 51, f 52, f 53, f 54, f 55, f 56, f 57, f 58, f 59, f 60, f 61, f 62, f 63, f 64, f 65, f 66, f 67, f 68, f 69, f 70, f 71, f 72, f 73, f 74, f 75, f 76, f 77, f 78, f 79, f 80, f 81, f 82, f 83, f 84, f 85, f 86, f 87, f 88, f 89, f 90, f 91, f 92, f 93, f 94, f 95, f 96, f 97, f 98, f 99, f 100, f 101, f 102, f 103, f 104, f 105, f 106, f 107, f 108, f 109, f 110, f 111, f 112, f 113, f 114, f 115, f 116, f 117, f 118, f 119, f 120, f 121, f 122, f 123, f 124, f 125, f 126, f 127, f 128, f 129, f 130, f 131, f 132, f 133, f 134, f 135, f 136, f 137], defers := [] }) ∧ ∃ E, Like w E ∧ W = ext (((w.alloc (.cells (In.cs ({ x26 with tm := if H 128 = true then now else x26.tm })) 25)).alloc (.cells s.cs 52)).alloc (.cells (In.cs ⟨0, 0, 0, 0, 0, 0, 0, 0, 0, 0, 0, 0, 0, ⟨#[]⟩⟩) 25)) E) := ⟨_, hide rfl⟩
  refine wp_cut K28 ?_ ?_
  · rcases hb128 : H 128 with _ | _
    · go_wp2_with (go_at_call 53; refine (HB2 _ _ (by omega) (by omega)).mono ?_; rintro e w' ⟨rfl, rfl⟩)
      rw [unhide hK28]
      exact ⟨mkF rfl, E, hE, by simp [*]⟩
    · go_wp2_with (go_at_call 53; refine (HB2 _ _ (by omega) (by omega)).mono ?_; rintro e w' ⟨rfl, rfl⟩)
      rw [unhide hK28]
      exact ⟨mkF rfl, E, hE, by simp [*]⟩
  rw [unhide hK28]
  clear hK28 K28
  clear g5 g9 g10 g12 g13 g14 g15 g16 g17 g18 g19 g20 g21 g22 g23 g24 g25 g26 g27 g28 g29 g30 g31 g32 g33 g34 g35 g36 g37 g38 g39 g40 g41 g42 g43 g44 g45 g46 g47 g48 g49 g50 g51 g52 g53 g54 g55 g56 g57 g58 g59 g60 g61 g62 g63 g64 g65 g66 g67 g68 g69 g70 g71 g72 g73 g74 g75 g76 g77 g78 g79 g80 g81 g82 g83 g84 g85 g86 g87 g88 g89 g90 g91 g92 g93 g94 g95 g96 g97 g98 g99 g100 g101 g102 g103 g104 g105 g106 g107 g108 g109 g110 g111 g112 g113 g114 g115 g116 g117 g118 g119 g120 g121 g122 g123 g124 g125 g126 g127 g128 g129 g130 g131 g132 g133 g134 g135 g136 g137 hE E
  rintro _ _ ⟨⟨f, rfl⟩, E, hE, rfl⟩
  obtain ⟨x28, hx28⟩ : ∃ y : In, Hid (y = { x26 with tm := if H 128 = true then now else x26.tm }) := ⟨_, hide rfl⟩
  rw [← unhide hx28]
  generalize f 5 = g5
  generalize f 9 = g9
  generalize f 10 = g10
  generalize f 12 = g12
  generalize f 13 = g13
  generalize f 14 = g14
  generalize f 15 = g15
  generalize f 16 = g16
  generalize f 17 = g17
  generalize f 18 = g18
  generalize f 19 = g19
  generalize f 20 = g20
  generalize f 21 = g21
  generalize f 22 = g22
  generalize f 23 = g23
  generalize f 24 = g24
  generalize f 25 = g25
  generalize f 26 = g26
  generalize f 27 = g27
  generalize f 28 = g28
  generalize f 29 = g29
  generalize f 30 = g30
  generalize f 31 = g31
  generalize f 32 = g32
  generalize f 33 = g33
  generalize f 34 = g34
  generalize f 35 = g35
  generalize f 36 = g36
  generalize f 37 = g37
  generalize f 38 = g38
  generalize f 39 = g39
  generalize f 40 = g40
  generalize f 41 = g41
  generalize f 42 = g42
  generalize f 43 = g43
  generalize f 44 = g44
  generalize f 45 = g45
  generalize f 46 = g46
  generalize f 47 = g47
  generalize f 48 = g48
  generalize f 49 = g49
  generalize f 50 = g50
  generalize f 51 = g51
  generalize f 52 = g52
  generalize f 53 = g53
  generalize f 54 = g54
  generalize f 55 = g55
  generalize f 56 = g56
  generalize f 57 = g57
  generalize f 58 = g58
  generalize f 59 = g59
  generalize f 60 = g60
  generalize f 61 = g61
  generalize f 62 = g62
  generalize f 63 = g63
  generalize f 64 = g64
  generalize f 65 = g65
  generalize f 66 = g66
  generalize f 67 = g67
  generalize f 68 = g68
  generalize f 69 = g69
  generalize f 70 = g70
  generalize f 71 = g71
  generalize f 72 = g72
  generalize f 73 = g73
  generalize f 74 = g74
  generalize f 75 = g75
  generalize f 76 = g76
  generalize f 77 = g77
  generalize f 78 = g78
  generalize f 79 = g79
  generalize f 80 = g80
  generalize f 81 = g81
  generalize f 82 = g82
  generalize f 83 = g83
  generalize f 84 = g84
  generalize f 85 = g85
  generalize f 86 = g86
  generalize f 87 = g87
  generalize f 88 = g88
  generalize f 89 = g89
  generalize f 90 = g90
  generalize f 91 = g91
  generalize f 92 = g92
  generalize f 93 = g93
  generalize f 94 = g94
  generalize f 95 = g95
  generalize f 96 = g96
  generalize f 97 = g97
  generalize f 98 = g98
  generalize f 99 = g99
  generalize f 100 = g100
  generalize f 101 = g101
  generalize f 102 = g102
  generalize f 103 = g103
  generalize f 104 = g104
  generalize f 105 = g105
  generalize f 106 = g106
  generalize f 107 = g107
  generalize f 108 = g108
  generalize f 109 = g109
  generalize f 110 = g110
  generalize f 111 = g111
  generalize f 112 = g112
  generalize f 113 = g113
  generalize f 114 = g114
  generalize f 115 = g115
  generalize f 116 = g116
  generalize f 117 = g117
  generalize f 118 = g118
  generalize f 119 = g119
  generalize f 120 = g120
  generalize f 121 = g121
  generalize f 122 = g122
  generalize f 123 = g123
  generalize f 124 = g124
  generalize f 125 = g125
  generalize f 126 = g126
  generalize f 127 = g127
  generalize f 128 = g128
  generalize f 129 = g129
  generalize f 130 = g130
  generalize f 131 = g131
  generalize f 132 = g132
  generalize f 133 = g133
  generalize f 134 = g134
  generalize f 135 = g135
  generalize f 136 = g136
  generalize f 137 = g137
  clear f
  go_wp2_with (first | (apply wl_load25 _ rfl rfl _ rfl; (case hr => simp [go_sem]); (case hc => (simp [go_sem]; try exact rfl))) | (apply wl_store25 _ _ rfl rfl _ rfl _ rfl; (case hr => simp [go_sem]); (case hw => (simp [go_sem]; try exact rfl))))
  apply ree25 rfl rfl rfl; (case hr => simp [go_sem]); (case hc => (simp [go_sem]; try exact rfl))
  refine ⟨congrArg Ending.returned ?_, by repeat' (first | exact Fr.refl _ _ | apply Fr.alloc | rw [← ext_ext] | (refine Fr.ext ?_ (by assumption)))⟩
  have hrr : rr = 0 := by rw [unhide HE]; simp
  have hfin : x28 = X := by
    rw [unhide HX, ← unhide hx10]
    exact ap_nest x10 s now (H 1) (H 2) (H 4) (H 8) (H 16) (H 32) (H 64) (H 128) (s.h != 0) (unhide hx12) (unhide hx14) (unhide hx16) (unhide hx18) (unhide hx20) (unhide hx22) (unhide hx24) (unhide hx26) (unhide hx28)
  refine Eq.trans (b := Value.tuple #[x28.v, .bool SZ, .int .i64 0]) rfl ?_
  rw [hrr, hfin]
  exact (resP_ok X SZ).symm
end Go.Proofs.Ytbenailemoefhaa
