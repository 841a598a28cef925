/-
  A journal on a new device.
  The document's put: a number laid behind.
  The document's filled; zeros appended.
  Regions that draw, along a chain of bytes under way.
  The document's put, behind a constant's bytes.
  The document's PutSuper, PutEntry: a constant's bytes and two numbers.
-/
import Derived.Test.YtgodlfoidjeekaaM10
import Derived.Test.YtgodlfoidjeekaaM07
import Derived.Lib.AppendZerosOnto
import Derived.Laws.CopyRow
namespace Go.Proofs.Ytgodlfoidjeekaa
set_option linter.unusedVariables false
set_option linter.unusedSimpArgs false
open Go.RowKit
set_option linter.unusedVariables false
set_option linter.unusedSimpArgs false

attribute [local go_sem ↓] Go.wp_at_zero Go.wp_at_succ

set_option maxRecDepth 100000 in
set_option maxHeartbeats 4000000 in
theorem begun_no (w : World) (c : Int) (h : c < 6 ∨ 40 < c) : Calls Try.prog 36 #[.int .i64 c] w fun e w' => e = .returned (.tuple #[.pointer none, .pointer none]) ∧ w = w' := by
  by_cases h1 : c < 6
  · go_enter Try.func36, Try.ntmps36
    go_wp2_with fail
    go_ret2
    exact ⟨rfl, rfl⟩
  · have h2 : 40 < c := by omega
    go_enter Try.func36, Try.ntmps36
    go_wp2_with fail
    go_ret2
    exact ⟨rfl, rfl⟩
set_option maxRecDepth 100000 in
set_option maxHeartbeats 4000000 in
theorem begun_any (w : World) (c : Nat) (h6 : 6 ≤ c) (h40 : c ≤ 40) : Calls Try.prog 36 #[.int .i64 (c : Int)] w fun e w' => ∃ s j J D, e = .returned (.tuple #[.pointer (some ⟨s, 0, none⟩), .pointer (some ⟨j, 0, none⟩)]) ∧ JS X00 w w' j s J D ∧ Rm c 0 J D [] ∧ D.S.length = c ∧ Fr (Zs X00 w w) w w' := by
  obtain ⟨a1, a2, a3, a4, a5, a6, a7, a8, a9, a10, a11, a12, a13, a14⟩ := bg_all c (by omega) h6
  have hol : (opD (fmtR (newS c) 0 c).1 0 c).S.length = c := by
    unfold opD
    split
    · unfold bgD
      split
      · rw [stD_len]; exact a13
      · exact a13
    · exact a13
  have hlv : (opJ (fmtR (newS c) 0 c).1 0 c).live = [] := List.eq_nil_of_length_eq_zero a8
  have hnd : (opJ (fmtR (newS c) 0 c).1 0 c).nd = 0 := by unfold Jn.nd Jn.last; rw [hlv]; simpa using a6
  have hrm : Rm c 0 (opJ (fmtR (newS c) 0 c).1 0 c) (opD (fmtR (newS c) 0 c).1 0 c) [] :=
    ⟨a3, a11, by omega, by omega, a5, by omega, by unfold Jn.lst; omega, by omega, by unfold Jn.lst; omega, by rw [hlv]; trivial⟩
  have HRM := hide hrm
  have HOL := hide hol
  clear a3 a4 a5 a6 a7 a8 a9 a10 a11 a12 hlv hnd hrm hol
  generalize hD1 : (fmtR (newS c) 0 c).1 = D1 at *
  have hc1 : ¬ (c : Int) < 6 := by omega
  have hc2 : ¬ (40 : Int) < (c : Int) := by omega
  have HNS := hide (newStore_any w (c : Int) (by omega))
  rw [Int.toNat_natCast] at HNS
  go_enter Try.func36, Try.ntmps36
  go_wp2_with fail
  refine (unhide HNS).mono ?_
  rintro e w1 ⟨s, sv, qv, rfl, hD, hB, f1⟩
  have HD1 : Hid (DW X00 w w1 s (newS c)) := hide ⟨⟨sv, qv, hD, fun b hb => .inr (hB b hb)⟩, f1.size⟩
  have F1 : Hid (Fr (Zs X00 w w) w w1) := hide (f1.mono (fun _ _ e => e.elim))
  clear hD hB f1 HNS
  have hfm := format_any (X := X00) (w0 := w) (w := w1) (s := s) (D := newS c) 0 c h6 (by show 0 + c ≤ (List.replicate c z384).length; simp) (by show (List.replicate c z384).length ≤ 1000; simp; omega) (by show 0 ≤ _; omega) (unhide HD1)
  rw [a1, hD1] at hfm
  have HFM := hide hfm
  clear hfm
  go_wp2_with fail
  refine (unhide HFM).mono ?_
  rintro e w2 ⟨rfl, hd2, f2⟩
  have HD2 : Hid (DW X00 w w2 s D1) := hide hd2
  have F2 := hide (zs_trans (unhide F1) f2)
  have hop := open_any (X := X00) (w0 := w) (w := w2) (s := s) (D := D1) 0 c h6 (by rw [a13]; omega) (by rw [a13]; omega) (by rw [a14]; omega) hd2
  have HOP := hide hop
  clear hd2 f2 HD1 F1 hop HFM
  go_wp2_with (go_at_call 18; refine (num_any _ _).mono ?_; rintro e w9 ⟨rfl, rfl⟩)
  refine (unhide HOP).mono ?_
  rintro e w3 (⟨h, -⟩ | ⟨-, j, v, rfl, hjn, hTl, hJS, f3⟩)
  · exact absurd a2 h
  obtain ⟨gs, -, hown, -⟩ := hTl.ex
  obtain ⟨vo, vc, rfl⟩ := owns_shape hown
  have HJ3 := hide hJS
  have F3 := hide (zs_trans (unhide F2) f3)
  clear hTl hown hJS f3 F2 HD2 HOP
  go_wp2_with (go_at_call 18; refine (num_any _ _).mono ?_; rintro e w9 ⟨rfl, rfl⟩)
  go_ret2
  exact ⟨s, j, _, _, rfl, unhide HJ3, unhide HRM, unhide HOL, unhide F3⟩
end Go.Proofs.Ytgodlfoidjeekaa

namespace Go.Proofs.Ytgodlfoidjeekaa
set_option linter.unusedVariables false
set_option linter.unusedSimpArgs false
open Go.RowKit Go.Lib
set_option linter.unusedVariables false
set_option linter.unusedSimpArgs false

attribute [local go_sem ↓] Go.wp_at_zero Go.wp_at_succ

set_option maxRecDepth 100000 in
set_option maxHeartbeats 4000000 in
theorem rputS_any (S : Nat → Prop) (W0 w : World) (v : Value) (base : List UInt8) (k n : Nat) (h : Nw S W0 w v base) (hk : k = 2 ∨ k = 4 ∨ k = 8) (hl : base.length ≤ 100000) (hn : n < 18446744073709551616) :
    Calls Try.prog 52 #[v, .int .u64 (n : Int), .int .i64 (k : Int)] w fun e w' => ∃ v', e = .returned v' ∧ Nw S W0 w' v' (base ++ be k n) := by
  obtain ⟨inf, hi0, hz0, hz1, hz2⟩ := info_parts Try.info5
  have H := hide h
  clear h
  go_enter Try.func52, Try.ntmps52
  go_wp2_with fail
  go_loopw [0, 7] (fun o y W => ∃ (r : Nat) (z : Int) (B : List UInt8), r ≤ k ∧ y = .int .i64 z ∧ z = (r : Int) - 1 ∧ Nw S W0 W o B ∧ B ++ be r n = base ++ be k n ∧ B.length + r = base.length + k) (fun _ y _ => (intOf y + 1).toNat)
  case atStart => exact ⟨k, _, base, Nat.le_refl _, rfl, rfl, unhide H, rfl, rfl⟩
  case round =>
    clear H
    obtain ⟨r, z, B, hr, rfl, hz, hN, hB, hBl⟩ := hrel
    have hrk : r ≤ 8 := by rcases hk with rfl | rfl | rfl <;> omega
    have hkk : k ≤ 8 := by rcases hk with rfl | rfl | rfl <;> omega
    rcases Nat.eq_zero_or_pos r with rfl | hpos
    · obtain rfl : z = -1 := by omega
      rw [show B = base ++ be k n by rw [← hB]; simp [be]] at hN
      have HN2 := hide hN
      clear hN hB hBl hr hrk hz
      go_wp2_with fail
      go_ret
      exact ⟨_, rfl, unhide HN2⟩
    · obtain ⟨r, rfl⟩ : ∃ r', r = r' + 1 := ⟨r - 1, by omega⟩
      obtain ⟨oa, oc, rfl⟩ := hN.shape
      have HN := hide hN
      have hBL : B.length ≤ 100100 := by omega
      have HX := hide (be_byte n r)
      have HBE : Hid (B ++ [UInt8.ofNat (n / 256 ^ r)] ++ be r n = base ++ be k n) := hide (by rw [← hB]; simp [be])
      have HBL : Hid (B.length + 1 + r = base.length + k) := hide (by omega)
      have HRK : Hid (r ≤ k) := hide (by omega)
      obtain ⟨x8, hx8⟩ : ∃ x8, x8 = UInt8.ofNat (n / 256 ^ r) := ⟨_, rfl⟩
      rw [← hx8] at HX HBE
      clear hN hB hBl hx8 hr
      rcases (show r = 0 ∨ r = 1 ∨ r = 2 ∨ r = 3 ∨ r = 4 ∨ r = 5 ∨ r = 6 ∨ r = 7 by omega) with rfl | rfl | rfl | rfl | rfl | rfl | rfl | rfl
      · obtain rfl : z = 0 := by omega
        clear hz hpos hrk
        go_wp2_with (refine wpList_app rfl (.tmp 14) (.tmp 21) 23 rfl 5 inf _ 1 1 Try.underlying23 hi0 hz0 hz1 hz2 rfl (by decide) _ B.length (bvs B) rfl _ rfl 1 (bvs [x8]) ?hown ?hx ?h1 ?hb ?h63 ?hK)
        case hown => exact ((unhide HN).alloc _).own
        case hx => exact sr1 _ _ _ (by rw [unhide HX]; simp <;> omega)
        case h1 => exact bvs_one _
        case hb => omega
        case h63 => simp only [maxLen]; omega
        case hK =>
          intro ao' cap' w' ho hg hpl
          have HNN : Hid (Nw S W0 w' (.slice ao' (B.length + 1) cap') (B ++ [x8])) := hide (((unhide HN).alloc _).grown (x := [x8]) ho hg (by rcases hpl with e | ⟨k, e, hk⟩; exact .inl e; exact .inr ⟨k, e, by simp at hk ⊢; omega⟩))
          clear ho hg hpl
          go_wp2_with fail
          go_roundw
          case rel => exact ⟨_, _, B ++ [x8], unhide HRK, rfl, by first | rfl | omega, by simpa using unhide HNN, unhide HBE, by simpa using unhide HBL⟩
          case measure => simp [intOf]
      · obtain rfl : z = 1 := by omega
        clear hz hpos hrk
        go_wp2_with (refine wpList_app rfl (.tmp 14) (.tmp 21) 23 rfl 5 inf _ 1 1 Try.underlying23 hi0 hz0 hz1 hz2 rfl (by decide) _ B.length (bvs B) rfl _ rfl 1 (bvs [x8]) ?hown ?hx ?h1 ?hb ?h63 ?hK)
        case hown => exact ((unhide HN).alloc _).own
        case hx => exact sr1 _ _ _ (by rw [unhide HX]; simp <;> omega)
        case h1 => exact bvs_one _
        case hb => omega
        case h63 => simp only [maxLen]; omega
        case hK =>
          intro ao' cap' w' ho hg hpl
          have HNN : Hid (Nw S W0 w' (.slice ao' (B.length + 1) cap') (B ++ [x8])) := hide (((unhide HN).alloc _).grown (x := [x8]) ho hg (by rcases hpl with e | ⟨k, e, hk⟩; exact .inl e; exact .inr ⟨k, e, by simp at hk ⊢; omega⟩))
          clear ho hg hpl
          go_wp2_with fail
          go_roundw
          case rel => exact ⟨_, _, B ++ [x8], unhide HRK, rfl, by first | rfl | omega, by simpa using unhide HNN, unhide HBE, by simpa using unhide HBL⟩
          case measure => simp [intOf]
      · obtain rfl : z = 2 := by omega
        clear hz hpos hrk
        go_wp2_with (refine wpList_app rfl (.tmp 14) (.tmp 21) 23 rfl 5 inf _ 1 1 Try.underlying23 hi0 hz0 hz1 hz2 rfl (by decide) _ B.length (bvs B) rfl _ rfl 1 (bvs [x8]) ?hown ?hx ?h1 ?hb ?h63 ?hK)
        case hown => exact ((unhide HN).alloc _).own
        case hx => exact sr1 _ _ _ (by rw [unhide HX]; simp <;> omega)
        case h1 => exact bvs_one _
        case hb => omega
        case h63 => simp only [maxLen]; omega
        case hK =>
          intro ao' cap' w' ho hg hpl
          have HNN : Hid (Nw S W0 w' (.slice ao' (B.length + 1) cap') (B ++ [x8])) := hide (((unhide HN).alloc _).grown (x := [x8]) ho hg (by rcases hpl with e | ⟨k, e, hk⟩; exact .inl e; exact .inr ⟨k, e, by simp at hk ⊢; omega⟩))
          clear ho hg hpl
          go_wp2_with fail
          go_roundw
          case rel => exact ⟨_, _, B ++ [x8], unhide HRK, rfl, by first | rfl | omega, by simpa using unhide HNN, unhide HBE, by simpa using unhide HBL⟩
          case measure => simp [intOf]
      · obtain rfl : z = 3 := by omega
        clear hz hpos hrk
        go_wp2_with (refine wpList_app rfl (.tmp 14) (.tmp 21) 23 rfl 5 inf _ 1 1 Try.underlying23 hi0 hz0 hz1 hz2 rfl (by decide) _ B.length (bvs B) rfl _ rfl 1 (bvs [x8]) ?hown ?hx ?h1 ?hb ?h63 ?hK)
        case hown => exact ((unhide HN).alloc _).own
        case hx => exact sr1 _ _ _ (by rw [unhide HX]; simp <;> omega)
        case h1 => exact bvs_one _
        case hb => omega
        case h63 => simp only [maxLen]; omega
        case hK =>
          intro ao' cap' w' ho hg hpl
          have HNN : Hid (Nw S W0 w' (.slice ao' (B.length + 1) cap') (B ++ [x8])) := hide (((unhide HN).alloc _).grown (x := [x8]) ho hg (by rcases hpl with e | ⟨k, e, hk⟩; exact .inl e; exact .inr ⟨k, e, by simp at hk ⊢; omega⟩))
          clear ho hg hpl
          go_wp2_with fail
          go_roundw
          case rel => exact ⟨_, _, B ++ [x8], unhide HRK, rfl, by first | rfl | omega, by simpa using unhide HNN, unhide HBE, by simpa using unhide HBL⟩
          case measure => simp [intOf]
      · obtain rfl : z = 4 := by omega
        clear hz hpos hrk
        go_wp2_with (refine wpList_app rfl (.tmp 14) (.tmp 21) 23 rfl 5 inf _ 1 1 Try.underlying23 hi0 hz0 hz1 hz2 rfl (by decide) _ B.length (bvs B) rfl _ rfl 1 (bvs [x8]) ?hown ?hx ?h1 ?hb ?h63 ?hK)
        case hown => exact ((unhide HN).alloc _).own
        case hx => exact sr1 _ _ _ (by rw [unhide HX]; simp <;> omega)
        case h1 => exact bvs_one _
        case hb => omega
        case h63 => simp only [maxLen]; omega
        case hK =>
          intro ao' cap' w' ho hg hpl
          have HNN : Hid (Nw S W0 w' (.slice ao' (B.length + 1) cap') (B ++ [x8])) := hide (((unhide HN).alloc _).grown (x := [x8]) ho hg (by rcases hpl with e | ⟨k, e, hk⟩; exact .inl e; exact .inr ⟨k, e, by simp at hk ⊢; omega⟩))
          clear ho hg hpl
          go_wp2_with fail
          go_roundw
          case rel => exact ⟨_, _, B ++ [x8], unhide HRK, rfl, by first | rfl | omega, by simpa using unhide HNN, unhide HBE, by simpa using unhide HBL⟩
          case measure => simp [intOf]
      · obtain rfl : z = 5 := by omega
        clear hz hpos hrk
        go_wp2_with (refine wpList_app rfl (.tmp 14) (.tmp 21) 23 rfl 5 inf _ 1 1 Try.underlying23 hi0 hz0 hz1 hz2 rfl (by decide) _ B.length (bvs B) rfl _ rfl 1 (bvs [x8]) ?hown ?hx ?h1 ?hb ?h63 ?hK)
        case hown => exact ((unhide HN).alloc _).own
        case hx => exact sr1 _ _ _ (by rw [unhide HX]; simp <;> omega)
        case h1 => exact bvs_one _
        case hb => omega
        case h63 => simp only [maxLen]; omega
        case hK =>
          intro ao' cap' w' ho hg hpl
          have HNN : Hid (Nw S W0 w' (.slice ao' (B.length + 1) cap') (B ++ [x8])) := hide (((unhide HN).alloc _).grown (x := [x8]) ho hg (by rcases hpl with e | ⟨k, e, hk⟩; exact .inl e; exact .inr ⟨k, e, by simp at hk ⊢; omega⟩))
          clear ho hg hpl
          go_wp2_with fail
          go_roundw
          case rel => exact ⟨_, _, B ++ [x8], unhide HRK, rfl, by first | rfl | omega, by simpa using unhide HNN, unhide HBE, by simpa using unhide HBL⟩
          case measure => simp [intOf]
      · obtain rfl : z = 6 := by omega
        clear hz hpos hrk
        go_wp2_with (refine wpList_app rfl (.tmp 14) (.tmp 21) 23 rfl 5 inf _ 1 1 Try.underlying23 hi0 hz0 hz1 hz2 rfl (by decide) _ B.length (bvs B) rfl _ rfl 1 (bvs [x8]) ?hown ?hx ?h1 ?hb ?h63 ?hK)
        case hown => exact ((unhide HN).alloc _).own
        case hx => exact sr1 _ _ _ (by rw [unhide HX]; simp <;> omega)
        case h1 => exact bvs_one _
        case hb => omega
        case h63 => simp only [maxLen]; omega
        case hK =>
          intro ao' cap' w' ho hg hpl
          have HNN : Hid (Nw S W0 w' (.slice ao' (B.length + 1) cap') (B ++ [x8])) := hide (((unhide HN).alloc _).grown (x := [x8]) ho hg (by rcases hpl with e | ⟨k, e, hk⟩; exact .inl e; exact .inr ⟨k, e, by simp at hk ⊢; omega⟩))
          clear ho hg hpl
          go_wp2_with fail
          go_roundw
          case rel => exact ⟨_, _, B ++ [x8], unhide HRK, rfl, by first | rfl | omega, by simpa using unhide HNN, unhide HBE, by simpa using unhide HBL⟩
          case measure => simp [intOf]
      · obtain rfl : z = 7 := by omega
        clear hz hpos hrk
        go_wp2_with (refine wpList_app rfl (.tmp 14) (.tmp 21) 23 rfl 5 inf _ 1 1 Try.underlying23 hi0 hz0 hz1 hz2 rfl (by decide) _ B.length (bvs B) rfl _ rfl 1 (bvs [x8]) ?hown ?hx ?h1 ?hb ?h63 ?hK)
        case hown => exact ((unhide HN).alloc _).own
        case hx => exact sr1 _ _ _ (by rw [unhide HX]; simp <;> omega)
        case h1 => exact bvs_one _
        case hb => omega
        case h63 => simp only [maxLen]; omega
        case hK =>
          intro ao' cap' w' ho hg hpl
          have HNN : Hid (Nw S W0 w' (.slice ao' (B.length + 1) cap') (B ++ [x8])) := hide (((unhide HN).alloc _).grown (x := [x8]) ho hg (by rcases hpl with e | ⟨k, e, hk⟩; exact .inl e; exact .inr ⟨k, e, by simp at hk ⊢; omega⟩))
          clear ho hg hpl
          go_wp2_with fail
          go_roundw
          case rel => exact ⟨_, _, B ++ [x8], unhide HRK, rfl, by first | rfl | omega, by simpa using unhide HNN, unhide HBE, by simpa using unhide HBL⟩
          case measure => simp [intOf]
end Go.Proofs.Ytgodlfoidjeekaa

namespace Go.Proofs.Ytgodlfoidjeekaa
set_option linter.unusedVariables false
set_option linter.unusedSimpArgs false
open Go.RowKit Go.Lib
set_option linter.unusedVariables false
set_option linter.unusedSimpArgs false

attribute [local go_sem ↓] Go.wp_at_zero Go.wp_at_succ

theorem app0 (w : World) {g n cap : Nat} {l : List UInt8} (hn : l.length = n) (ho : w.ownsRow 0 5 1 (.slice (some ⟨g, 0, none⟩) n cap) n (bvs l)) (k : Nat) (hk : n + k ≤ 100000) : ∃ v w', (Builtin.append_ #[23, 3] 23 #[.slice (some ⟨g, 0, none⟩) n cap, .int .i64 (k : Int)]).run Try.prog w = .ok v w' ∧ w'.ownsRow 0 5 1 v (n + k) (bvs (l ++ List.replicate k 0)) ∧ w.grownBy w' (some g) ∧ (v.ownBlock = some g ∨ v.ownBlock = some w.heap.size) := by
  obtain ⟨inf, hi0, hz0, hz1, hz2⟩ := info_parts Try.info5
  have hlen : (bvs (l ++ List.replicate k 0)).length = (n + k) * 1 := by rw [bvs_length]; simp; omega
  have hxl : (bvs l).length = n := by rw [bvs_length]; exact hn
  have hw : IntKind.i64.wrap (k : Int) = k := by rw [IntKind.wrap_i64]; omega
  rcases ho.2 with ⟨h, -⟩ | ⟨g', cap', cur, h, hbg, hg, hnc, hcm, hcs, htake⟩
  · simp at h
  · simp only [Value.slice.injEq, Option.some.injEq, Addr.mk.injEq, and_true, true_and] at h
    obtain ⟨rfl, rfl⟩ := h
    have hcs' : cur.size = cap := by simpa using hcs
    by_cases hroom : n + k ≤ cap
    · have hst := run_storeCells_at Try.prog g n 5 (bvs (List.replicate k 0)) 0 cur w hg (by rw [bvs_length]; simp; omega) (bvs_one _)
      simp only [Nat.add_zero, bvs_length, List.length_replicate] at hst
      refine ⟨.slice (some ⟨g, 0, none⟩) (n + k) cap, w.setRow g (cur.toList.take n ++ bvs (List.replicate k 0) ++ cur.toList.drop (n + k)).toArray, ?_, ⟨hlen, .inr ⟨g, cap, _, rfl, hbg, setRow_heap w g cur _ 5 _ hg, hroom, hcm, ?_, ?_⟩⟩, ⟨rfl, rfl, rfl, by simp, fun j _ hj => setRow_other w g j _ (fun e => hj (by simp [e]))⟩, .inl rfl⟩
      · by_cases hk0 : k = 0
        · subst hk0
          have e : w.setRow g (cur.toList.take n ++ bvs (List.replicate 0 0) ++ cur.toList.drop (n + 0)).toArray = w := by
            have : (cur.toList.take n ++ bvs (List.replicate 0 0) ++ cur.toList.drop (n + 0)).toArray = cur := by simp [bvs]
            rw [this]; exact setRow_self w g cur 5 (0, 0) hg
          rw [e]
          simp [Builtin.append_, run_underlying Try.underlying23, run_underlying Try.underlying3, sizeOf, typeInfo, hi0, hz1, asInt, asIntOf, IntKind.wrap_i64, hnc, storeCells]
        · have h48 : ¬ (281474976710656 < (k : Int) * (inf.bytes : Int)) := by rw [hz2]; omega
          have hneg : ¬ ((k : Int) < 0) := by omega
          simp [Builtin.append_, run_underlying Try.underlying23, run_underlying Try.underlying3, sizeOf, typeInfo, zeroValue, hi0, hz0, hz1, asInt, asIntOf, hw, hroom, hneg, h48, hk0, zeros_u8, Addr.add_lit, hst]
      · simp only [List.size_toArray, List.length_append, List.length_take, List.length_drop, Array.length_toList, bvs_length, List.length_replicate]
        omega
      · have ht' : cur.toList.take n = bvs l := by simpa using htake
        rw [ht', ← bvs_append, ← hlen]
        exact List.take_left
    · have hold : (Builtin.firstCells inf.size n (.slice (some ⟨g, 0, none⟩) n cap)).run Try.prog w.drew = .ok (bvs l).toArray w.drew := by
        have := run_loadCells_list (P := Try.prog) w.drew ⟨g, 0, none⟩ (bvs l) (fun j v hv => ho.cells (g := g) rfl j v hv)
        simp only [Builtin.firstCells, hz1, Nat.mul_one]
        rw [hxl] at this
        exact this
      have hr := run_append_grow_zeros (P := Try.prog) w 23 3 23 5 inf _ .i64 .i64 Try.underlying23 Try.underlying3 hi0 hz0 (some ⟨g, 0, none⟩) n cap (bvs l) hold k (by omega) (by rw [hz1]; decide) (by omega) (by omega) (by rw [hz2]; omega) (by rw [hz2]; exact growslice_fits (by omega) (by omega))
      rw [zeros_u8, zeros_u8] at hr
      have hge := grownCap_ge w (n + k) cap 5
      have hcm2 : grownCap w (n + k) cap 5 ≤ maxLen := grownCap_le_maxLen w (n + k) cap 5 (by simp only [maxLen]; omega)
      refine ⟨_, _, hr, ⟨hlen, .inr ⟨w.heap.size, _, _, rfl, Nat.zero_le _, heap_alloc_new w.drew _, hge, hcm2, ?_, ?_⟩⟩, ⟨rfl, rfl, rfl, by simp, fun j hj _ => Below.heap_alloc w.drew _ j hj⟩, .inr rfl⟩
      · simp only [Array.size_append, List.size_toArray, bvs_length, List.length_replicate]
        omega
      · simp only [Array.toList_append, List.append_assoc]
        rw [← List.append_assoc, ← bvs_append, ← hlen]
        exact List.take_left
theorem wpList_app0 {w : World} {ops : Array Oper} {rest : List Oper} {o : Oper} {a : Act} {Q : Exit → Act → World → Prop} (hgd : o.guard = none) (hty : o.type = 23) (s x : Operand) (ho : o.op = .call { callee := .builtin .append, args := #[s, x], argTypes := #[23, 3] }) {g n cap k : Nat} {l : List UInt8} (hn : l.length = n) (hs : a.eval s = .slice (some ⟨g, 0, none⟩) n cap) {kz : Int} (hx : a.eval x = .int .i64 kz) (hkz : kz = (k : Int)) (hown : w.ownsRow 0 5 1 (.slice (some ⟨g, 0, none⟩) n cap) n (bvs l)) (hk : n + k ≤ 100000)
    (h : ∀ ao c w', w'.ownsRow 0 5 1 (.slice ao (n + k) c) (n + k) (bvs (l ++ List.replicate k 0)) → w.grownBy w' (some g) → ((Value.slice ao (n + k) c).ownBlock = some g ∨ (Value.slice ao (n + k) c).ownBlock = some w.heap.size) → wpList Try.prog ops Q rest (a.put o.dst (.slice ao (n + k) c)) w') : wpList Try.prog ops Q (o :: rest) a w := by
  subst hkz
  refine wpList_plain hgd fun K hK => ?_
  obtain ⟨v', w', hr, h2, h3, h4⟩ := app0 w hn hown k hk
  unfold Oper.wp execOp
  simp only [ho, hty, resolve, invoke, builtin, Sem.run_bind, Sem.run_pure, Result.andThen_ok, List.map_toArray, List.map_cons, List.map_nil, hs, hx, hr]
  obtain ⟨ao, c, rfl⟩ := owns_shape h2
  exact hK _ _ (h ao c w' h2 h3 h4)

theorem wp_app0 {w : World} {o : Oper} {a : Act} {K : Act → World → Prop} {Q : Exit → Act → World → Prop} (hty : o.type = 23) (s x : Operand) (ho : o.op = .call { callee := .builtin .append, args := #[s, x], argTypes := #[23, 3] }) {g n cap k : Nat} {l : List UInt8} (hn : l.length = n) (hs : a.eval s = .slice (some ⟨g, 0, none⟩) n cap) {kz : Int} (hx : a.eval x = .int .i64 kz) (hkz : kz = (k : Int)) (hown : w.ownsRow 0 5 1 (.slice (some ⟨g, 0, none⟩) n cap) n (bvs l)) (hk : n + k ≤ 100000)
    (h : ∀ ao c w', w'.ownsRow 0 5 1 (.slice ao (n + k) c) (n + k) (bvs (l ++ List.replicate k 0)) → w.grownBy w' (some g) → ((Value.slice ao (n + k) c).ownBlock = some g ∨ (Value.slice ao (n + k) c).ownBlock = some w.heap.size) → K (a.put o.dst (.slice ao (n + k) c)) w') : o.wp Try.prog a w K Q := by
  subst hkz
  obtain ⟨v', w', hr, h2, h3, h4⟩ := app0 w hn hown k hk
  unfold Oper.wp execOp
  simp only [ho, hty, resolve, invoke, builtin, Sem.run_bind, Sem.run_pure, Result.andThen_ok, List.map_toArray, List.map_cons, List.map_nil, hs, hx, hr]
  obtain ⟨ao, c, rfl⟩ := owns_shape h2
  exact h ao c w' h2 h3 h4
theorem Nw.zeros {S : Nat → Prop} {W0 W W' : World} {g n cap k c : Nat} {ao : Option Addr} {l : List UInt8} (h : Nw S W0 W (.slice (some ⟨g, 0, none⟩) n cap) l) (hn : l.length = n) (o : W'.ownsRow 0 5 1 (.slice ao (n + k) c) (n + k) (bvs (l ++ List.replicate k 0))) (hg : W.grownBy W' (some g)) (hp : (Value.slice ao (n + k) c).ownBlock = some g ∨ (Value.slice ao (n + k) c).ownBlock = some W.heap.size) : Nw S W0 W' (.slice ao (n + k) c) (l ++ List.replicate k 0) := by
  refine ⟨by rw [List.length_append, hn, List.length_replicate]; exact o, h.fr.grown hg (fun j hj e => ?_), fun j e => ?_⟩
  · rcases h.new j e with h1 | h1
    · exact h1
    · omega
  · rcases hp with e2 | e2
    · rw [e2] at e; exact h.new j e
    · rw [e2] at e; simp at e; have := h.fr.size; right; omega
theorem Nw.block {S : Nat → Prop} {W0 W : World} {v : Value} {l : List UInt8} (h : Nw S W0 W v l) (hl : 0 < l.length) : ∃ g c, v = .slice (some ⟨g, 0, none⟩) l.length c := by
  obtain ⟨h1, h2 | ⟨g, cap, cur, h3, h4⟩⟩ := h.own
  · omega
  · exact ⟨g, cap, h3⟩
set_option maxRecDepth 100000 in
set_option maxHeartbeats 4000000 in
theorem filledS_any (S : Nat → Prop) (W0 w : World) (v : Value) (l : List UInt8) (h : Nw S W0 w v l) (h0 : 0 < l.length) (h1 : l.length ≤ 384) : Calls Try.prog 53 #[v] w fun e w' => ∃ v', e = .returned v' ∧ Nw S W0 w' v' (l ++ List.replicate (384 - l.length) 0) := by
  obtain ⟨g, c, rfl⟩ := h.block h0
  have H := hide h
  obtain ⟨n, hn⟩ : ∃ n, n = l.length := ⟨_, rfl⟩
  rw [← hn] at H h0 h1 ⊢
  have HN := hide hn
  clear h hn
  go_enter Try.func53, Try.ntmps53
  go_wp2_with (refine wpList_app0 rfl rfl (.tmp 3) (.tmp 6) rfl (n := n) (k := 384 - n) (unhide HN).symm rfl rfl (by omega) ?hown (by omega) ?hK)
  case hown => have := (unhide H).own; rw [← unhide HN] at this; exact this
  case hK =>
    intro ao' c' w' ho hg hp
    have e9 : n + (384 - n) = 384 := by omega
    have hz := Nw.zeros (n := n) (k := 384 - n) (ao := ao') (c := c') (unhide H) (unhide HN).symm (by rw [e9]; exact ho) hg (by rw [e9]; exact hp)
    rw [e9] at hz
    have HZ := hide hz
    clear hz e9
    clear ho hg hp
    go_wp2_with fail
    go_ret
    exact ⟨_, rfl, unhide HZ⟩
end Go.Proofs.Ytgodlfoidjeekaa

namespace Go.Proofs.Ytgodlfoidjeekaa
set_option linter.unusedVariables false
set_option linter.unusedSimpArgs false
open Go.RowKit Go.Lib
set_option linter.unusedVariables false
set_option linter.unusedSimpArgs false

attribute [local go_sem ↓] Go.wp_at_zero Go.wp_at_succ

/-- Where the bytes stand behind k steps. -/
def StC (S : Nat → Prop) (W : World) (cs : List (Option (Nat × List UInt8))) (k : Nat) (a : Act) (w : World) : Prop := ∀ s l, cs[k]? = some (some (s, l)) → Nw S W w (a.tmps.getD s undef) l
def offC (cs : List (Option (Nat × List UInt8))) (s : Nat) : Bool := match cs with
  | [] => true
  | some p :: r => (p.1 != s) && offC r s
  | none :: r => offC r s
theorem offC_get {cs : List (Option (Nat × List UInt8))} {s k : Nat} {p : Nat × List UInt8} (h : offC cs s = true) (e : cs[k]? = some (some p)) : s ≠ p.1 := by
  induction cs generalizing k with
  | nil => simp at e
  | cons c r ih =>
    cases k with
    | zero =>
      simp at e
      subst e
      simp [offC] at h
      exact fun e => h.1 e.symm
    | succ k =>
      simp at e
      cases c with
      | none => exact ih (by simpa [offC] using h) e
      | some q => simp [offC] at h; exact ih h.2 e
theorem StC.put {S : Nat → Prop} {W : World} {cs : List (Option (Nat × List UInt8))} {k s : Nat} {a : Act} {w w' : World} {v : Value} (h : StC S W cs k a w) (hs : offC cs s = true) (f : Fr (fun _ => False) w w') : StC S W cs k (a.put (some s) v) w' := by
  intro s' l e
  rw [put_getD (offC_get hs e)]
  exact (h s' l e).kept f
theorem StC.next {S : Nat → Prop} {W : World} {cs : List (Option (Nat × List UInt8))} {k s : Nat} {a : Act} {w : World} {v : Value} {l : List UInt8} (hc : cs[k]? = some (some (s, l))) (hs : s < a.tmps.size) (h : Nw S W w v l) : StC S W cs k (a.put (some s) v) w := by
  intro s' l' e
  rw [hc] at e
  simp at e
  obtain ⟨rfl, rfl⟩ := e
  rw [put_self hs]
  exact h
section
variable {o : Oper} {a : Act} {w W : World} {Q : Exit → Act → World → Prop} {S : Nat → Prop} {T : Nat → Value → World → Prop} {calls : List Nat} {cs : List (Option (Nat × List UInt8))} {i k s d : Nat} {l : List UInt8}
theorem Nw.self {S : Nat → Prop} {W w : World} {v : Value} {l : List UInt8} (h : Nw S W w v l) : Nw (fun b => v.ownBlock = some b) w w v l := ⟨h.own, Fr.refl _ _, fun _ e => .inl e⟩
/-- A move along the chain. -/
theorem ch_move {x : Operand} (hi : i ∈ calls) (ho : o.op = .move x ∨ o.op = .assign x) (hx : a.eval x = a.tmps.getD s undef) (hd : o.dst = some d) (hds : d < a.tmps.size) (hc : cs[k + 1]? = some (some (d, l))) (hn : Nw S W w (a.tmps.getD s undef) l) (hT : ∀ v w, T i v w) : o.wp Try.prog a w (LeftA (RY (fun b => S b ∨ W.heap.size ≤ b)) (StC S W cs) T calls i o k a w) Q :=
  la_valC (a.tmps.getD s undef) w hi (by rcases ho with ho | ho; exact x_move ho hx; exact x_assign ho hx) (hT _ _) (RY.of_fr (Fr.refl _ _)) (by rw [hd]; exact StC.next hc hds hn)
/-- The document's put along the chain. -/
theorem ch_put {n q : Nat} {x y : Operand} {t : Array TypeId} (hi : i ∈ calls) (ho : o.op = .call { callee := .value (.func 52), args := #[x, y, .const (.int .i64 (q : Int))], argTypes := t }) (hf : a.eval (.func 52) = .func (.func 52) #[] #[]) (hx : a.eval x = a.tmps.getD s undef) (hy : a.eval y = .int .u64 (n : Int)) (hz : a.eval (.const (.int .i64 (q : Int))) = .int .i64 (q : Int)) (hq : q = 2 ∨ q = 4 ∨ q = 8) (hl : l.length ≤ 100000) (hn64 : n < 18446744073709551616) (hd : o.dst = some d) (hds : d < a.tmps.size) (hc : cs[k + 1]? = some (some (d, l ++ be q n))) (hn : Nw S W w (a.tmps.getD s undef) l) (hT : ∀ v w, T i v w) : o.wp Try.prog a w (LeftA (RY (fun b => S b ∨ W.heap.size ≤ b)) (StC S W cs) T calls i o k a w) Q :=
  la_callC 52 _ hi (e_call3 ho hf hx hy hz (fun _ _ => by simp [go_sem])) ((rputS_any _ w w _ l q n hn.self hq hl hn64).mono (by
    rintro e w2 ⟨v2, rfl, hv2⟩
    exact ⟨_, rfl, hT _ _, RY.own hn.own hv2.fr hn.new, by rw [hd]; exact StC.next hc hds (hn.to hv2)⟩))
/-- filled along the chain. -/
theorem ch_filled {x : Operand} {t : Array TypeId} (hi : i ∈ calls) (ho : o.op = .call { callee := .value (.func 53), args := #[x], argTypes := t }) (hf : a.eval (.func 53) = .func (.func 53) #[] #[]) (hx : a.eval x = a.tmps.getD s undef) (h0 : 0 < l.length) (h1 : l.length ≤ 384) (hd : o.dst = some d) (hds : d < a.tmps.size) (hc : cs[k + 1]? = some (some (d, l ++ List.replicate (384 - l.length) 0))) (hn : Nw S W w (a.tmps.getD s undef) l) (hT : ∀ v w, T i v w) : o.wp Try.prog a w (LeftA (RY (fun b => S b ∨ W.heap.size ≤ b)) (StC S W cs) T calls i o k a w) Q :=
  la_callC 53 _ hi (e_call1 ho hf hx (fun _ _ => by simp [go_sem])) ((filledS_any _ w w _ l hn.self h0 h1).mono (by
    rintro e w2 ⟨v2, rfl, hv2⟩
    exact ⟨_, rfl, hT _ _, RY.own hn.own hv2.fr hn.new, by rw [hd]; exact StC.next hc hds (hn.to hv2)⟩))
/-- Zeros along the chain. -/
theorem ch_zeros {q : Nat} {x : Operand} (hi : i ∈ calls) (hty : o.type = 23) (ho : o.op = .call { callee := .builtin .append, args := #[x, .const (.int .i64 (q : Int))], argTypes := #[23, 3] }) (hx : a.eval x = a.tmps.getD s undef) (hz : a.eval (.const (.int .i64 (q : Int))) = .int .i64 (q : Int)) (h0 : 0 < l.length) (h1 : l.length + q ≤ 100000) (hd : o.dst = some d) (hds : d < a.tmps.size) (hc : cs[k + 1]? = some (some (d, l ++ List.replicate q 0))) (hn : Nw S W w (a.tmps.getD s undef) l) (hT : ∀ v w, T i v w) : o.wp Try.prog a w (LeftA (RY (fun b => S b ∨ W.heap.size ≤ b)) (StC S W cs) T calls i o k a w) Q := by
  obtain ⟨g, c, e⟩ := hn.block h0
  rw [e] at hn hx
  refine wp_app0 hty x _ ho rfl hx hz rfl hn.own h1 ?_
  intro ao c2 w2 h2 h3 h4
  have hz2 := hn.zeros rfl h2 h3 h4
  exact ⟨_, rfl, hT _ _, RY.own hn.own ((Fr.refl _ _).grown h3 (fun _ _ e => e)) hn.new, by rw [if_pos hi, hd]; exact StC.next hc hds hz2⟩
/-- Bytes appended along the chain. -/
theorem ch_app {x y : Operand} {u : Value} {bs : List UInt8} (hi : i ∈ calls) (hty : o.type = 23) (ho : o.op = .call { callee := .builtin .append, args := #[x, y], argTypes := #[23, 23] }) (hx : a.eval x = a.tmps.getD s undef) (hy : a.eval y = u) (hr : Rd w u bs) (h1 : l.length + bs.length ≤ 100000) (hd : o.dst = some d) (hds : d < a.tmps.size) (hc : cs[k + 1]? = some (some (d, l ++ bs))) (hn : Nw S W w (a.tmps.getD s undef) l) (hT : ∀ v w, T i v w) : o.wp Try.prog a w (LeftA (RY (fun b => S b ∨ W.heap.size ≤ b)) (StC S W cs) T calls i o k a w) Q := by
  obtain ⟨inf, hi0, hz0, hz1, hz2⟩ := info_parts Try.info5
  refine wp_app x y 23 ho 5 inf _ 1 1 Try.underlying23 (by rw [← hi0]) hz0 hz1 hz2 rfl (by decide) _ _ _ hx _ hy _ _ hn.own hr.sr (bvs_one _) (by omega) (by simp only [maxLen]; omega) ?_
  intro ao c2 w2 ho2 hg hpl
  exact ⟨_, rfl, hT _ _, RY.own hn.own ((Fr.refl _ _).grown hg (fun _ _ e => e)) hn.new, by rw [if_pos hi, hd]; exact StC.next hc hds (hn.grown ho2 hg hpl)⟩
/-- Four bytes, new. -/
theorem ch_build {b0 b1 b2 b3 : UInt8} {z0 z1 z2 z3 : Int} (h0 : z0 = ((b0.toNat : Nat) : Int)) (h1 : z1 = ((b1.toNat : Nat) : Int)) (h2 : z2 = ((b2.toNat : Nat) : Int)) (h3 : z3 = ((b3.toNat : Nat) : Int)) (hi : i ∈ calls) (ho : o.op = .buildSlice 23 4 #[(0, .const (.int .u8 z0)), (1, .const (.int .u8 z1)), (2, .const (.int .u8 z2)), (3, .const (.int .u8 z3))]) (hd : o.dst = some d) (hds : d < a.tmps.size) (hc : cs[k + 1]? = some (some (d, [b0, b1, b2, b3]))) (hR : RY (fun b => S b ∨ W.heap.size ≤ b) W w) (hF : Fr S W w) (hT : ∀ v w, T i v w) : o.wp Try.prog a w (LeftA (RY (fun b => S b ∨ W.heap.size ≤ b)) (StC S W cs) T calls i o k a w) Q := by
  subst h0 h1 h2 h3
  refine la_valC (.slice (some ⟨w.heap.size, 0, none⟩) 4 4) (w.alloc (.cells (bvs [b0, b1, b2, b3]).toArray 5)) hi (by simp [execOp, ho, go_sem, bvs, Act.eval]) (hT _ _) (RY.of_fr ((Fr.refl _ _).alloc _)) (by rw [hd]; exact StC.next hc hds ⟨⟨rfl, .inr ⟨_, _, _, rfl, Nat.zero_le _, heap_alloc_new w _, by simp, by decide, by simp [bvs], by simp [bvs]⟩⟩, hF.alloc _, fun k e => by simp [Value.ownBlock] at e; subst e; exact .inr hF.size⟩)
end
end Go.Proofs.Ytgodlfoidjeekaa

namespace Go.Proofs.Ytgodlfoidjeekaa
set_option linter.unusedVariables false
set_option linter.unusedSimpArgs false
open Go.RowKit Go.Lib
set_option linter.unusedVariables false
set_option linter.unusedSimpArgs false

attribute [local go_sem ↓] Go.wp_at_zero Go.wp_at_succ

set_option maxRecDepth 100000 in
set_option maxHeartbeats 4000000 in
theorem rputM_any (W0 w : World) (v : Value) (base : List UInt8) (k n : Nat) (h : Nm W0 w v base) (hb0 : 0 < base.length) (hk : k = 2 ∨ k = 4 ∨ k = 8) (hl : base.length ≤ 1000) (hn : n < 18446744073709551616) :
    Calls Try.prog 52 #[v, .int .u64 (n : Int), .int .i64 (k : Int)] w fun e w' => ∃ v', e = .returned v' ∧ Nb W0 w' v' (base ++ be k n) := by
  obtain ⟨inf, hi0, hz0, hz1, hz2⟩ := info_parts Try.info5
  have H := hide h
  have HB0 := hide hb0
  clear h hb0
  go_enter Try.func52, Try.ntmps52
  go_wp2_with fail
  go_loopw [0, 7] (fun o y W => ∃ (r : Nat) (z : Int) (B : List UInt8), r ≤ k ∧ y = .int .i64 z ∧ z = (r : Int) - 1 ∧ Nx base W0 W o B ∧ B ++ be r n = base ++ be k n ∧ B.length + r = base.length + k) (fun _ y _ => (intOf y + 1).toNat)
  case atStart => exact ⟨k, _, base, Nat.le_refl _, rfl, rfl, .inr ⟨unhide H, rfl⟩, rfl, rfl⟩
  case round =>
    clear H
    obtain ⟨r, z, B, hr, rfl, hz, hN, hB, hBl⟩ := hrel
    have hrk : r ≤ 8 := by rcases hk with rfl | rfl | rfl <;> omega
    have hkk : k ≤ 8 := by rcases hk with rfl | rfl | rfl <;> omega
    rcases Nat.eq_zero_or_pos r with rfl | hpos
    · obtain rfl : z = -1 := by omega
      rw [show B = base ++ be k n by rw [← hB]; simp [be]] at hN
      have HN2 := hide (hN.nb (by rw [List.length_append, be_length]; omega))
      clear hN hB hBl hr hrk hz
      go_wp2_with fail
      go_ret
      exact ⟨_, rfl, unhide HN2⟩
    · obtain ⟨r, rfl⟩ : ∃ r', r = r' + 1 := ⟨r - 1, by omega⟩
      obtain ⟨oa, oc, rfl⟩ := hN.shape
      have HN := hide hN
      have hBL : B.length ≤ 1100 := by omega
      have HX := hide (be_byte n r)
      have HBE : Hid (B ++ [UInt8.ofNat (n / 256 ^ r)] ++ be r n = base ++ be k n) := hide (by rw [← hB]; simp [be])
      have HBL : Hid (B.length + 1 + r = base.length + k) := hide (by omega)
      have HRK : Hid (r ≤ k) := hide (by omega)
      obtain ⟨x8, hx8⟩ : ∃ x8, x8 = UInt8.ofNat (n / 256 ^ r) := ⟨_, rfl⟩
      rw [← hx8] at HX HBE
      clear hN hB hBl hx8 hr
      rcases (show r = 0 ∨ r = 1 ∨ r = 2 ∨ r = 3 ∨ r = 4 ∨ r = 5 ∨ r = 6 ∨ r = 7 by omega) with rfl | rfl | rfl | rfl | rfl | rfl | rfl | rfl
      · obtain rfl : z = 0 := by omega
        clear hz hpos hrk
        rcases unhide HN with HNb | ⟨HNm, hBl⟩
        · have HN := hide HNb
          clear HNb
          go_wp2_with (refine wpList_app rfl (.tmp 14) (.tmp 21) 23 rfl 5 inf _ 1 1 Try.underlying23 hi0 hz0 hz1 hz2 rfl (by decide) _ B.length (bvs B) rfl _ rfl 1 (bvs [x8]) ?hown ?hx ?h1 ?hb ?h63 ?hK)
          case hown => exact ((unhide HN).alloc _).own
          case hx => exact sr1 _ _ _ (by rw [unhide HX]; simp <;> omega)
          case h1 => exact bvs_one _
          case hb => omega
          case h63 => simp only [maxLen]; omega
          case hK =>
            intro ao' cap' w' ho hg hpl
            have HNN : Hid (Nb W0 w' (.slice ao' (B.length + 1) cap') (B ++ [x8])) := hide (((unhide HN).alloc _).grown (x := [x8]) ho hg (by rcases hpl with e | ⟨k, e, hk⟩; exact .inl e; exact .inr ⟨k, e, by simp at hk ⊢; omega⟩))
            clear ho hg hpl
            go_wp2_with fail
            go_roundw
            case rel => exact ⟨_, _, B ++ [x8], unhide HRK, rfl, by first | rfl | omega, .inl (by simpa using unhide HNN), unhide HBE, by simpa using unhide HBL⟩
            case measure => simp [intOf]
        · have HL00 := unhide HB0
          rw [← hBl] at HL00
          have HM := hide HNm
          clear HNm hBl HN
          go_wp2_with (refine wpList_appM (W0 := W0) (l := B) (xs := [x8]) (m := 1) rfl rfl (.tmp 14) (.tmp 21) rfl rfl rfl ?hm9 HL00 ?hs9 rfl (by decide) ?hk9 ?hK9)
          case hm9 => exact (unhide HM).kept ((Fr.refl _ _).alloc _)
          case hs9 => exact sr1 _ _ _ (by rw [unhide HX]; simp <;> omega)
          case hk9 => omega
          case hK9 =>
            intro ao' cap' w' hN9 hf9 hp9
            have HNN : Hid (Nb W0 w' (.slice ao' (B.length + 1) cap') (B ++ [x8])) := hide hN9
            clear hN9 hf9 hp9
            go_wp2_with fail
            go_roundw
            case rel => exact ⟨_, _, B ++ [x8], unhide HRK, rfl, by first | rfl | omega, .inl (by simpa using unhide HNN), unhide HBE, by simpa using unhide HBL⟩
            case measure => simp [intOf]
      · obtain rfl : z = 1 := by omega
        clear hz hpos hrk
        rcases unhide HN with HNb | ⟨HNm, hBl⟩
        · have HN := hide HNb
          clear HNb
          go_wp2_with (refine wpList_app rfl (.tmp 14) (.tmp 21) 23 rfl 5 inf _ 1 1 Try.underlying23 hi0 hz0 hz1 hz2 rfl (by decide) _ B.length (bvs B) rfl _ rfl 1 (bvs [x8]) ?hown ?hx ?h1 ?hb ?h63 ?hK)
          case hown => exact ((unhide HN).alloc _).own
          case hx => exact sr1 _ _ _ (by rw [unhide HX]; simp <;> omega)
          case h1 => exact bvs_one _
          case hb => omega
          case h63 => simp only [maxLen]; omega
          case hK =>
            intro ao' cap' w' ho hg hpl
            have HNN : Hid (Nb W0 w' (.slice ao' (B.length + 1) cap') (B ++ [x8])) := hide (((unhide HN).alloc _).grown (x := [x8]) ho hg (by rcases hpl with e | ⟨k, e, hk⟩; exact .inl e; exact .inr ⟨k, e, by simp at hk ⊢; omega⟩))
            clear ho hg hpl
            go_wp2_with fail
            go_roundw
            case rel => exact ⟨_, _, B ++ [x8], unhide HRK, rfl, by first | rfl | omega, .inl (by simpa using unhide HNN), unhide HBE, by simpa using unhide HBL⟩
            case measure => simp [intOf]
        · have HL00 := unhide HB0
          rw [← hBl] at HL00
          have HM := hide HNm
          clear HNm hBl HN
          go_wp2_with (refine wpList_appM (W0 := W0) (l := B) (xs := [x8]) (m := 1) rfl rfl (.tmp 14) (.tmp 21) rfl rfl rfl ?hm9 HL00 ?hs9 rfl (by decide) ?hk9 ?hK9)
          case hm9 => exact (unhide HM).kept ((Fr.refl _ _).alloc _)
          case hs9 => exact sr1 _ _ _ (by rw [unhide HX]; simp <;> omega)
          case hk9 => omega
          case hK9 =>
            intro ao' cap' w' hN9 hf9 hp9
            have HNN : Hid (Nb W0 w' (.slice ao' (B.length + 1) cap') (B ++ [x8])) := hide hN9
            clear hN9 hf9 hp9
            go_wp2_with fail
            go_roundw
            case rel => exact ⟨_, _, B ++ [x8], unhide HRK, rfl, by first | rfl | omega, .inl (by simpa using unhide HNN), unhide HBE, by simpa using unhide HBL⟩
            case measure => simp [intOf]
      · obtain rfl : z = 2 := by omega
        clear hz hpos hrk
        rcases unhide HN with HNb | ⟨HNm, hBl⟩
        · have HN := hide HNb
          clear HNb
          go_wp2_with (refine wpList_app rfl (.tmp 14) (.tmp 21) 23 rfl 5 inf _ 1 1 Try.underlying23 hi0 hz0 hz1 hz2 rfl (by decide) _ B.length (bvs B) rfl _ rfl 1 (bvs [x8]) ?hown ?hx ?h1 ?hb ?h63 ?hK)
          case hown => exact ((unhide HN).alloc _).own
          case hx => exact sr1 _ _ _ (by rw [unhide HX]; simp <;> omega)
          case h1 => exact bvs_one _
          case hb => omega
          case h63 => simp only [maxLen]; omega
          case hK =>
            intro ao' cap' w' ho hg hpl
            have HNN : Hid (Nb W0 w' (.slice ao' (B.length + 1) cap') (B ++ [x8])) := hide (((unhide HN).alloc _).grown (x := [x8]) ho hg (by rcases hpl with e | ⟨k, e, hk⟩; exact .inl e; exact .inr ⟨k, e, by simp at hk ⊢; omega⟩))
            clear ho hg hpl
            go_wp2_with fail
            go_roundw
            case rel => exact ⟨_, _, B ++ [x8], unhide HRK, rfl, by first | rfl | omega, .inl (by simpa using unhide HNN), unhide HBE, by simpa using unhide HBL⟩
            case measure => simp [intOf]
        · have HL00 := unhide HB0
          rw [← hBl] at HL00
          have HM := hide HNm
          clear HNm hBl HN
          go_wp2_with (refine wpList_appM (W0 := W0) (l := B) (xs := [x8]) (m := 1) rfl rfl (.tmp 14) (.tmp 21) rfl rfl rfl ?hm9 HL00 ?hs9 rfl (by decide) ?hk9 ?hK9)
          case hm9 => exact (unhide HM).kept ((Fr.refl _ _).alloc _)
          case hs9 => exact sr1 _ _ _ (by rw [unhide HX]; simp <;> omega)
          case hk9 => omega
          case hK9 =>
            intro ao' cap' w' hN9 hf9 hp9
            have HNN : Hid (Nb W0 w' (.slice ao' (B.length + 1) cap') (B ++ [x8])) := hide hN9
            clear hN9 hf9 hp9
            go_wp2_with fail
            go_roundw
            case rel => exact ⟨_, _, B ++ [x8], unhide HRK, rfl, by first | rfl | omega, .inl (by simpa using unhide HNN), unhide HBE, by simpa using unhide HBL⟩
            case measure => simp [intOf]
      · obtain rfl : z = 3 := by omega
        clear hz hpos hrk
        rcases unhide HN with HNb | ⟨HNm, hBl⟩
        · have HN := hide HNb
          clear HNb
          go_wp2_with (refine wpList_app rfl (.tmp 14) (.tmp 21) 23 rfl 5 inf _ 1 1 Try.underlying23 hi0 hz0 hz1 hz2 rfl (by decide) _ B.length (bvs B) rfl _ rfl 1 (bvs [x8]) ?hown ?hx ?h1 ?hb ?h63 ?hK)
          case hown => exact ((unhide HN).alloc _).own
          case hx => exact sr1 _ _ _ (by rw [unhide HX]; simp <;> omega)
          case h1 => exact bvs_one _
          case hb => omega
          case h63 => simp only [maxLen]; omega
          case hK =>
            intro ao' cap' w' ho hg hpl
            have HNN : Hid (Nb W0 w' (.slice ao' (B.length + 1) cap') (B ++ [x8])) := hide (((unhide HN).alloc _).grown (x := [x8]) ho hg (by rcases hpl with e | ⟨k, e, hk⟩; exact .inl e; exact .inr ⟨k, e, by simp at hk ⊢; omega⟩))
            clear ho hg hpl
            go_wp2_with fail
            go_roundw
            case rel => exact ⟨_, _, B ++ [x8], unhide HRK, rfl, by first | rfl | omega, .inl (by simpa using unhide HNN), unhide HBE, by simpa using unhide HBL⟩
            case measure => simp [intOf]
        · have HL00 := unhide HB0
          rw [← hBl] at HL00
          have HM := hide HNm
          clear HNm hBl HN
          go_wp2_with (refine wpList_appM (W0 := W0) (l := B) (xs := [x8]) (m := 1) rfl rfl (.tmp 14) (.tmp 21) rfl rfl rfl ?hm9 HL00 ?hs9 rfl (by decide) ?hk9 ?hK9)
          case hm9 => exact (unhide HM).kept ((Fr.refl _ _).alloc _)
          case hs9 => exact sr1 _ _ _ (by rw [unhide HX]; simp <;> omega)
          case hk9 => omega
          case hK9 =>
            intro ao' cap' w' hN9 hf9 hp9
            have HNN : Hid (Nb W0 w' (.slice ao' (B.length + 1) cap') (B ++ [x8])) := hide hN9
            clear hN9 hf9 hp9
            go_wp2_with fail
            go_roundw
            case rel => exact ⟨_, _, B ++ [x8], unhide HRK, rfl, by first | rfl | omega, .inl (by simpa using unhide HNN), unhide HBE, by simpa using unhide HBL⟩
            case measure => simp [intOf]
      · obtain rfl : z = 4 := by omega
        clear hz hpos hrk
        rcases unhide HN with HNb | ⟨HNm, hBl⟩
        · have HN := hide HNb
          clear HNb
          go_wp2_with (refine wpList_app rfl (.tmp 14) (.tmp 21) 23 rfl 5 inf _ 1 1 Try.underlying23 hi0 hz0 hz1 hz2 rfl (by decide) _ B.length (bvs B) rfl _ rfl 1 (bvs [x8]) ?hown ?hx ?h1 ?hb ?h63 ?hK)
          case hown => exact ((unhide HN).alloc _).own
          case hx => exact sr1 _ _ _ (by rw [unhide HX]; simp <;> omega)
          case h1 => exact bvs_one _
          case hb => omega
          case h63 => simp only [maxLen]; omega
          case hK =>
            intro ao' cap' w' ho hg hpl
            have HNN : Hid (Nb W0 w' (.slice ao' (B.length + 1) cap') (B ++ [x8])) := hide (((unhide HN).alloc _).grown (x := [x8]) ho hg (by rcases hpl with e | ⟨k, e, hk⟩; exact .inl e; exact .inr ⟨k, e, by simp at hk ⊢; omega⟩))
            clear ho hg hpl
            go_wp2_with fail
            go_roundw
            case rel => exact ⟨_, _, B ++ [x8], unhide HRK, rfl, by first | rfl | omega, .inl (by simpa using unhide HNN), unhide HBE, by simpa using unhide HBL⟩
            case measure => simp [intOf]
        · have HL00 := unhide HB0
          rw [← hBl] at HL00
          have HM := hide HNm
          clear HNm hBl HN
          go_wp2_with (refine wpList_appM (W0 := W0) (l := B) (xs := [x8]) (m := 1) rfl rfl (.tmp 14) (.tmp 21) rfl rfl rfl ?hm9 HL00 ?hs9 rfl (by decide) ?hk9 ?hK9)
          case hm9 => exact (unhide HM).kept ((Fr.refl _ _).alloc _)
          case hs9 => exact sr1 _ _ _ (by rw [unhide HX]; simp <;> omega)
          case hk9 => omega
          case hK9 =>
            intro ao' cap' w' hN9 hf9 hp9
            have HNN : Hid (Nb W0 w' (.slice ao' (B.length + 1) cap') (B ++ [x8])) := hide hN9
            clear hN9 hf9 hp9
            go_wp2_with fail
            go_roundw
            case rel => exact ⟨_, _, B ++ [x8], unhide HRK, rfl, by first | rfl | omega, .inl (by simpa using unhide HNN), unhide HBE, by simpa using unhide HBL⟩
            case measure => simp [intOf]
      · obtain rfl : z = 5 := by omega
        clear hz hpos hrk
        rcases unhide HN with HNb | ⟨HNm, hBl⟩
        · have HN := hide HNb
          clear HNb
          go_wp2_with (refine wpList_app rfl (.tmp 14) (.tmp 21) 23 rfl 5 inf _ 1 1 Try.underlying23 hi0 hz0 hz1 hz2 rfl (by decide) _ B.length (bvs B) rfl _ rfl 1 (bvs [x8]) ?hown ?hx ?h1 ?hb ?h63 ?hK)
          case hown => exact ((unhide HN).alloc _).own
          case hx => exact sr1 _ _ _ (by rw [unhide HX]; simp <;> omega)
          case h1 => exact bvs_one _
          case hb => omega
          case h63 => simp only [maxLen]; omega
          case hK =>
            intro ao' cap' w' ho hg hpl
            have HNN : Hid (Nb W0 w' (.slice ao' (B.length + 1) cap') (B ++ [x8])) := hide (((unhide HN).alloc _).grown (x := [x8]) ho hg (by rcases hpl with e | ⟨k, e, hk⟩; exact .inl e; exact .inr ⟨k, e, by simp at hk ⊢; omega⟩))
            clear ho hg hpl
            go_wp2_with fail
            go_roundw
            case rel => exact ⟨_, _, B ++ [x8], unhide HRK, rfl, by first | rfl | omega, .inl (by simpa using unhide HNN), unhide HBE, by simpa using unhide HBL⟩
            case measure => simp [intOf]
        · have HL00 := unhide HB0
          rw [← hBl] at HL00
          have HM := hide HNm
          clear HNm hBl HN
          go_wp2_with (refine wpList_appM (W0 := W0) (l := B) (xs := [x8]) (m := 1) rfl rfl (.tmp 14) (.tmp 21) rfl rfl rfl ?hm9 HL00 ?hs9 rfl (by decide) ?hk9 ?hK9)
          case hm9 => exact (unhide HM).kept ((Fr.refl _ _).alloc _)
          case hs9 => exact sr1 _ _ _ (by rw [unhide HX]; simp <;> omega)
          case hk9 => omega
          case hK9 =>
            intro ao' cap' w' hN9 hf9 hp9
            have HNN : Hid (Nb W0 w' (.slice ao' (B.length + 1) cap') (B ++ [x8])) := hide hN9
            clear hN9 hf9 hp9
            go_wp2_with fail
            go_roundw
            case rel => exact ⟨_, _, B ++ [x8], unhide HRK, rfl, by first | rfl | omega, .inl (by simpa using unhide HNN), unhide HBE, by simpa using unhide HBL⟩
            case measure => simp [intOf]
      · obtain rfl : z = 6 := by omega
        clear hz hpos hrk
        rcases unhide HN with HNb | ⟨HNm, hBl⟩
        · have HN := hide HNb
          clear HNb
          go_wp2_with (refine wpList_app rfl (.tmp 14) (.tmp 21) 23 rfl 5 inf _ 1 1 Try.underlying23 hi0 hz0 hz1 hz2 rfl (by decide) _ B.length (bvs B) rfl _ rfl 1 (bvs [x8]) ?hown ?hx ?h1 ?hb ?h63 ?hK)
          case hown => exact ((unhide HN).alloc _).own
          case hx => exact sr1 _ _ _ (by rw [unhide HX]; simp <;> omega)
          case h1 => exact bvs_one _
          case hb => omega
          case h63 => simp only [maxLen]; omega
          case hK =>
            intro ao' cap' w' ho hg hpl
            have HNN : Hid (Nb W0 w' (.slice ao' (B.length + 1) cap') (B ++ [x8])) := hide (((unhide HN).alloc _).grown (x := [x8]) ho hg (by rcases hpl with e | ⟨k, e, hk⟩; exact .inl e; exact .inr ⟨k, e, by simp at hk ⊢; omega⟩))
            clear ho hg hpl
            go_wp2_with fail
            go_roundw
            case rel => exact ⟨_, _, B ++ [x8], unhide HRK, rfl, by first | rfl | omega, .inl (by simpa using unhide HNN), unhide HBE, by simpa using unhide HBL⟩
            case measure => simp [intOf]
        · have HL00 := unhide HB0
          rw [← hBl] at HL00
          have HM := hide HNm
          clear HNm hBl HN
          go_wp2_with (refine wpList_appM (W0 := W0) (l := B) (xs := [x8]) (m := 1) rfl rfl (.tmp 14) (.tmp 21) rfl rfl rfl ?hm9 HL00 ?hs9 rfl (by decide) ?hk9 ?hK9)
          case hm9 => exact (unhide HM).kept ((Fr.refl _ _).alloc _)
          case hs9 => exact sr1 _ _ _ (by rw [unhide HX]; simp <;> omega)
          case hk9 => omega
          case hK9 =>
            intro ao' cap' w' hN9 hf9 hp9
            have HNN : Hid (Nb W0 w' (.slice ao' (B.length + 1) cap') (B ++ [x8])) := hide hN9
            clear hN9 hf9 hp9
            go_wp2_with fail
            go_roundw
            case rel => exact ⟨_, _, B ++ [x8], unhide HRK, rfl, by first | rfl | omega, .inl (by simpa using unhide HNN), unhide HBE, by simpa using unhide HBL⟩
            case measure => simp [intOf]
      · obtain rfl : z = 7 := by omega
        clear hz hpos hrk
        rcases unhide HN with HNb | ⟨HNm, hBl⟩
        · have HN := hide HNb
          clear HNb
          go_wp2_with (refine wpList_app rfl (.tmp 14) (.tmp 21) 23 rfl 5 inf _ 1 1 Try.underlying23 hi0 hz0 hz1 hz2 rfl (by decide) _ B.length (bvs B) rfl _ rfl 1 (bvs [x8]) ?hown ?hx ?h1 ?hb ?h63 ?hK)
          case hown => exact ((unhide HN).alloc _).own
          case hx => exact sr1 _ _ _ (by rw [unhide HX]; simp <;> omega)
          case h1 => exact bvs_one _
          case hb => omega
          case h63 => simp only [maxLen]; omega
          case hK =>
            intro ao' cap' w' ho hg hpl
            have HNN : Hid (Nb W0 w' (.slice ao' (B.length + 1) cap') (B ++ [x8])) := hide (((unhide HN).alloc _).grown (x := [x8]) ho hg (by rcases hpl with e | ⟨k, e, hk⟩; exact .inl e; exact .inr ⟨k, e, by simp at hk ⊢; omega⟩))
            clear ho hg hpl
            go_wp2_with fail
            go_roundw
            case rel => exact ⟨_, _, B ++ [x8], unhide HRK, rfl, by first | rfl | omega, .inl (by simpa using unhide HNN), unhide HBE, by simpa using unhide HBL⟩
            case measure => simp [intOf]
        · have HL00 := unhide HB0
          rw [← hBl] at HL00
          have HM := hide HNm
          clear HNm hBl HN
          go_wp2_with (refine wpList_appM (W0 := W0) (l := B) (xs := [x8]) (m := 1) rfl rfl (.tmp 14) (.tmp 21) rfl rfl rfl ?hm9 HL00 ?hs9 rfl (by decide) ?hk9 ?hK9)
          case hm9 => exact (unhide HM).kept ((Fr.refl _ _).alloc _)
          case hs9 => exact sr1 _ _ _ (by rw [unhide HX]; simp <;> omega)
          case hk9 => omega
          case hK9 =>
            intro ao' cap' w' hN9 hf9 hp9
            have HNN : Hid (Nb W0 w' (.slice ao' (B.length + 1) cap') (B ++ [x8])) := hide hN9
            clear hN9 hf9 hp9
            go_wp2_with fail
            go_roundw
            case rel => exact ⟨_, _, B ++ [x8], unhide HRK, rfl, by first | rfl | omega, .inl (by simpa using unhide HNN), unhide HBE, by simpa using unhide HBL⟩
            case measure => simp [intOf]
end Go.Proofs.Ytgodlfoidjeekaa

namespace Go.Proofs.Ytgodlfoidjeekaa
set_option linter.unusedVariables false
set_option linter.unusedSimpArgs false
open Go.RowKit Go.Lib
set_option linter.unusedVariables false
set_option linter.unusedSimpArgs false

attribute [local go_sem ↓] Go.wp_at_zero Go.wp_at_succ

theorem Fr.marked (w : World) (o1 o2 : Obj) : Fr (fun k => k = w.heap.size) (w.alloc o1) (w.alloc o2) :=
  ⟨rfl, rfl, rfl, by simp, fun j hj hne => by
    have h1 : j < w.heap.size := by simp at hj; omega
    rw [Below.heap_alloc w _ j h1, Below.heap_alloc w _ j h1]⟩
/-- The world is as it was at the region's start, but for what is new. -/
def RF (W a b : World) : Prop := Fr (fun _ => False) W a → Fr (fun _ => False) W b
theorem RF.of_fr {W a b : World} (f : Fr (fun _ => False) a b) : RF W a b := fun h => h.trans f (fun _ _ e => e)
theorem RF.trans {W a b c : World} (h : RF W a b) (k : RF W b c) : RF W a c := fun f => k (h f)
/-- Behind so many of the five. -/
structure StK (W : World) (C l3 l4 : List UInt8) (s1 s2 s3 s4 : Nat) (k : Nat) (a : Act) (w : World) : Prop where
  k0 : k = 0 → Fr (fun _ => False) W w
  k1 : k = 1 → ∃ w0, Fr (fun _ => False) W w0 ∧ w = w0.alloc (.cells (bvs C).toArray 5) ∧ a.tmps.getD s1 undef = .slice (some ⟨w0.heap.size, 0, none⟩) C.length C.length
  k2 : k = 2 → Nm W w (a.tmps.getD s2 undef) C
  k3 : k = 3 → Nb W w (a.tmps.getD s3 undef) l3
  k4 : k = 4 → Nb W w (a.tmps.getD s4 undef) l4
  k5 : k = 5 → Nb W w (a.tmps.getD 4 undef) l4
theorem StK.put {W : World} {C l3 l4 : List UInt8} {s1 s2 s3 s4 k s : Nat} {a : Act} {w : World} {v : Value} (h : StK W C l3 l4 s1 s2 s3 s4 k a w) (h1 : s ≠ s1) (h2 : s ≠ s2) (h3 : s ≠ s3) (h4 : s ≠ s4) (h5 : s ≠ 4) : StK W C l3 l4 s1 s2 s3 s4 k (a.put (some s) v) w :=
  ⟨h.k0, fun e => by rw [put_getD h1]; exact h.k1 e, fun e => by rw [put_getD h2]; exact h.k2 e, fun e => by rw [put_getD h3]; exact h.k3 e, fun e => by rw [put_getD h4]; exact h.k4 e, fun e => by rw [put_getD h5]; exact h.k5 e⟩
theorem ld22c : ∀ W a u, World.cell? W a = some u → (Instr.loadAt 22 (.pointer (some a))).run Try.prog W = .ok u W := ld22
section
variable {ρ : Operand → Value} {o : Oper} {w : World} {x : Operand} {b : Nat}
theorem x_conv2 {s t : TypeId} {v u : Value} {w2 : World} (ho : o.op = .convert s t x) (hx : ρ x = v) (hc : (convert s t v).run Try.prog w = .ok u w2) : (execOp ρ o).run Try.prog w = .ok (.value u) w2 := by
  subst hx; simp [execOp, ho, hc, go_sem]
theorem x_bs4 {b0 b1 b2 b3 : UInt8} {z0 z1 z2 z3 : Int} (h0 : z0 = ((b0.toNat : Nat) : Int)) (h1 : z1 = ((b1.toNat : Nat) : Int)) (h2 : z2 = ((b2.toNat : Nat) : Int)) (h3 : z3 = ((b3.toNat : Nat) : Int)) {y0 y1 y2 y3 : Operand} (ho : o.op = .buildSlice 23 4 #[(0, y0), (1, y1), (2, y2), (3, y3)]) (g0 : ρ y0 = .int .u8 z0) (g1 : ρ y1 = .int .u8 z1) (g2 : ρ y2 = .int .u8 z2) (g3 : ρ y3 = .int .u8 z3) : (execOp ρ o).run Try.prog w = .ok (.value (.slice (some ⟨w.heap.size, 0, none⟩) 4 4)) (w.alloc (.cells (bvs [b0, b1, b2, b3]).toArray 5)) := by
  subst h0 h1 h2 h3
  simp [execOp, ho, g0, g1, g2, g3, go_sem, bvs]
theorem x_f27_0 (ho : o.op = .fieldAddr 27 x 0) (hx : ρ x = .pointer (some ⟨b, 0, none⟩)) : (execOp ρ o).run Try.prog w = .ok (.value (.pointer (some ⟨b, 0, none⟩))) w := by
  simp [execOp, ho, hx, go_sem]
theorem x_f27_1 (ho : o.op = .fieldAddr 27 x 1) (hx : ρ x = .pointer (some ⟨b, 0, none⟩)) : (execOp ρ o).run Try.prog w = .ok (.value (.pointer (some ⟨b, 1, none⟩))) w := by
  simp [execOp, ho, hx, go_sem]
theorem x_f27_2 (ho : o.op = .fieldAddr 27 x 2) (hx : ρ x = .pointer (some ⟨b, 0, none⟩)) : (execOp ρ o).run Try.prog w = .ok (.value (.pointer (some ⟨b, 2, none⟩))) w := by
  simp [execOp, ho, hx, go_sem]
theorem x_f27_3 (ho : o.op = .fieldAddr 27 x 3) (hx : ρ x = .pointer (some ⟨b, 0, none⟩)) : (execOp ρ o).run Try.prog w = .ok (.value (.pointer (some ⟨b, 3, none⟩))) w := by
  simp [execOp, ho, hx, go_sem]
theorem x_f27_4 (ho : o.op = .fieldAddr 27 x 4) (hx : ρ x = .pointer (some ⟨b, 0, none⟩)) : (execOp ρ o).run Try.prog w = .ok (.value (.pointer (some ⟨b, 4, none⟩))) w := by
  simp [execOp, ho, hx, go_sem]
theorem x_f27_5 (ho : o.op = .fieldAddr 27 x 5) (hx : ρ x = .pointer (some ⟨b, 0, none⟩)) : (execOp ρ o).run Try.prog w = .ok (.value (.pointer (some ⟨b, 5, none⟩))) w := by
  simp [execOp, ho, hx, go_sem]
theorem x_f25_0 (ho : o.op = .fieldAddr 25 x 0) (hx : ρ x = .pointer (some ⟨b, 0, none⟩)) : (execOp ρ o).run Try.prog w = .ok (.value (.pointer (some ⟨b, 0, none⟩))) w := by
  simp [execOp, ho, hx, go_sem]
theorem x_f25_1 (ho : o.op = .fieldAddr 25 x 1) (hx : ρ x = .pointer (some ⟨b, 0, none⟩)) : (execOp ρ o).run Try.prog w = .ok (.value (.pointer (some ⟨b, 1, none⟩))) w := by
  simp [execOp, ho, hx, go_sem]
theorem x_f25_2 (ho : o.op = .fieldAddr 25 x 2) (hx : ρ x = .pointer (some ⟨b, 0, none⟩)) : (execOp ρ o).run Try.prog w = .ok (.value (.pointer (some ⟨b, 2, none⟩))) w := by
  simp [execOp, ho, hx, go_sem]
theorem x_f25_3 (ho : o.op = .fieldAddr 25 x 3) (hx : ρ x = .pointer (some ⟨b, 0, none⟩)) : (execOp ρ o).run Try.prog w = .ok (.value (.pointer (some ⟨b, 3, none⟩))) w := by
  simp [execOp, ho, hx, go_sem]
theorem x_f25_4 (ho : o.op = .fieldAddr 25 x 4) (hx : ρ x = .pointer (some ⟨b, 0, none⟩)) : (execOp ρ o).run Try.prog w = .ok (.value (.pointer (some ⟨b, 4, none⟩))) w := by
  simp [execOp, ho, hx, go_sem]
theorem x_f25_5 (ho : o.op = .fieldAddr 25 x 5) (hx : ρ x = .pointer (some ⟨b, 0, none⟩)) : (execOp ρ o).run Try.prog w = .ok (.value (.pointer (some ⟨b, 5, none⟩))) w := by
  simp [execOp, ho, hx, go_sem]
theorem x_f25_6 (ho : o.op = .fieldAddr 25 x 6) (hx : ρ x = .pointer (some ⟨b, 0, none⟩)) : (execOp ρ o).run Try.prog w = .ok (.value (.pointer (some ⟨b, 6, none⟩))) w := by
  simp [execOp, ho, hx, go_sem]
end
set_option maxHeartbeats 8000000 in
set_option maxRecDepth 100000 in
theorem gr14 {W : World} {p n0 n1 : Nat} {x2 x3 x4 x5 : Value} {u0 u2 u3 u4 u5 u6 u7 u8 u9 u10 u11 u12 u13 u14 u15 u16 u17 u18 u19 u20 u21 u22 u23 u24 u25 u26 u27 u28 u29 u30 u31 u32 u33 u34 u35 u36 u37 u38 u39 u40 u41 u42 u43 u44 u45 u46 u47 u48 u49 u50 u51 u52 u53 u54 u55 u56 u57 u58 u59 u60 u61 u62 u63 u64 u65 : Value} {Q : Exit → Act → World → Prop} (hp : W.heap[p]? = some (.cells #[.int .u64 (n0 : Int), .int .u64 (n1 : Int), x2, x3, x4, x5] 27 (0, 0))) (hn0 : n0 < 18446744073709551616) (hn1 : n1 < 18446744073709551616)
    (hQ : ∀ (y43 y44 y45 y46 y47 y48 y49 y50 : Value) (v' : Value) (W' : World), Nb W W' v' ([74, 83, 85, 80] ++ be 8 n0 ++ be 8 n1) → Q .normal ⟨#[u0, .pointer (some ⟨p, 0, none⟩), u2, u3, v', u5, u6, u7, u8, u9, u10, u11, u12, u13, u14, u15, u16, u17, u18, u19, u20, u21, u22, u23, u24, u25, u26, u27, u28, u29, u30, u31, u32, u33, u34, u35, u36, u37, u38, u39, u40, u41, u42, y43, y44, y45, y46, y47, y48, y49, y50, u51, u52, u53, u54, u55, u56, u57, u58, u59, u60, u61, u62, u63, u64, u65], []⟩ W') : (rgF Try.f14 3).wp Try.prog Q ⟨#[u0, .pointer (some ⟨p, 0, none⟩), u2, u3, u4, u5, u6, u7, u8, u9, u10, u11, u12, u13, u14, u15, u16, u17, u18, u19, u20, u21, u22, u23, u24, u25, u26, u27, u28, u29, u30, u31, u32, u33, u34, u35, u36, u37, u38, u39, u40, u41, u42, u43, u44, u45, u46, u47, u48, u49, u50, u51, u52, u53, u54, u55, u56, u57, u58, u59, u60, u61, u62, u63, u64, u65], []⟩ W := by
  have HQ := hide hQ
  clear hQ
  have lp := lt_of_heap hp
  conv => arg 2; whnf
  refine wp_nm ?_
  intro a0 hA
  have s1 : a0.tmps.getD 1 undef = .pointer (some ⟨p, 0, none⟩) := by rw [hA]; rfl
  have hsz : a0.tmps.size = 66 := by rw [hA]; rfl
  have hdf : a0.defers = [] := by rw [hA]
  refine wp_region_chainA (by kernel_rfl) (by kernel_rfl) (by decide +kernel) (by rw [hsz]; decide +kernel) (fun w w' => RF W w w') (fun _ => (Fr.refl _ _).drew) (fun _ _ _ => RF.trans) (Tw [KV.any, KV.any, KV.eq (.pointer (some ⟨p, 0, none⟩)), KV.eq (.int .u64 (n0 : Int)), KV.any, KV.eq (.pointer (some ⟨p, 1, none⟩)), KV.eq (.int .u64 (n1 : Int)), KV.any, KV.any]) (Tw.mono _) [0, 1, 4, 7, 8] (by decide) (by decide) (fun k i j h1 h2 => ?cp) (StK W [74, 83, 85, 80] ([74, 83, 85, 80] ++ be 8 n0) ([74, 83, 85, 80] ++ be 8 n0 ++ be 8 n1) 43 44 47 50) ?st0 ?steps ?done
  case cp =>
    match k, h1, h2 with
    | 0, h1, h2 => simp at h1 h2; subst h1; subst h2; exact .one rfl (by kernel_rfl)
    | 1, h1, h2 => simp at h1 h2; subst h1; subst h2; exact .one rfl (by kernel_rfl)
    | 2, h1, h2 => simp at h1 h2; subst h1; subst h2; exact .one rfl (by kernel_rfl)
    | 3, h1, h2 => simp at h1 h2; subst h1; subst h2; exact .one rfl (by kernel_rfl)
    | 4, h1, h2 => simp at h2
    | k + 5, h1, h2 => simp at h2
  case st0 => exact ⟨fun _ => (Fr.refl _ _).drew, fun e => by omega, fun e => by omega, fun e => by omega, fun e => by omega, fun e => by omega⟩
  case steps =>
    have HC0 : ∀ w', RF W W w' → w'.cell? ⟨p, 0, none⟩ = some (.int .u64 (n0 : Int)) := fun w' f => by rw [(f (Fr.refl _ _)).cell lp id, cell_of_heap hp]; rfl
    have HC1 : ∀ w', RF W W w' → w'.cell? ⟨p, 1, none⟩ = some (.int .u64 (n1 : Int)) := fun w' f => by rw [(f (Fr.refl _ _)).cell lp id, cell_of_heap hp]; rfl
    refine ⟨?_, ?_⟩
    · intro a' w' k hb hR hst hck hle hd
      obtain rfl : 0 = k := hck 0 rfl
      exact .inl ⟨wanted_none rfl, la_valC _ _ (by decide) (x_bs4 (b0 := 74) (b1 := 83) (b2 := 85) (b3 := 80) rfl rfl rfl rfl rfl rfl rfl rfl rfl) trivial (RF.of_fr ((Fr.refl _ _).alloc _)) ⟨fun e => by omega, fun _ => ⟨w', hst.k0 rfl, rfl, by rw [put_self (by rw [hb.size, hsz]; decide)]; rfl⟩, fun e => by omega, fun e => by omega, fun e => by omega, fun e => by omega⟩⟩
    refine ⟨?_, ?_⟩
    · intro a' w' k hb hR hst hck hle hd
      obtain rfl : 1 = k := hck 1 rfl
      obtain ⟨w0, f0, rfl, e1⟩ := hst.k1 rfl
      have kc := run_convert_bytes_const (P := Try.prog) w0 23 5 (bvs [74, 83, 85, 80]).toArray 4 4 Try.underlying23 Try.underlying5
      exact .inl ⟨wanted_none rfl, la_valC _ _ (by decide) (x_conv2 rfl e1 kc) trivial (fun _ => f0.alloc _) ⟨fun e => by omega, fun e => by omega, fun _ => by rw [put_self (by rw [hb.size, hsz]; decide)]; exact nm_const W w0 f0 [74, 83, 85, 80] _ _ rfl (by simp), fun e => by omega, fun e => by omega, fun e => by omega⟩⟩
    refine ⟨?_, ?_⟩
    · intro a' w' k hb hR hst hck hle hd
      exact .inl ⟨wanted_none rfl, la_val _ _ (by decide) (x_f27_0 rfl ((hb.old 1 (by decide +kernel)).trans s1)) rfl (RF.of_fr (Fr.refl _ _)) (hst.put (by decide) (by decide) (by decide) (by decide) (by decide))⟩
    refine ⟨?_, ?_⟩
    · intro a' w' k hb hR hst hck hle hd
      exact .inl ⟨wanted_none rfl, la_val _ _ (by decide) (x_load1 ld22 rfl (hd 2 (by kernel_rfl) 45 rfl) (HC0 w' hR)) rfl (RF.of_fr (Fr.refl _ _)) (hst.put (by decide) (by decide) (by decide) (by decide) (by decide))⟩
    refine ⟨?_, ?_⟩
    · intro a' w' k hb hR hst hck hle hd
      obtain rfl : 2 = k := hck 2 rfl
      have hn := hst.k2 rfl
      have e1 : a'.tmps.getD 46 undef = .int .u64 (n0 : Int) := hd 3 (by kernel_rfl) 46 rfl
      refine .inl ⟨wanted_none rfl, la_callC 52 _ (by decide) (e_call3 rfl rfl rfl e1 rfl (fun _ _ => by simp [go_sem])) ((rputM_any W w' _ [74, 83, 85, 80] 8 n0 hn (by simp) (.inr (.inr rfl)) (by simp) hn0).mono ?_)⟩
      rintro e w2 ⟨v2, rfl, hv2⟩
      exact ⟨_, rfl, trivial, fun _ => hv2.fr, ⟨fun e => by omega, fun e => by omega, fun e => by omega, fun _ => by rw [put_self (by rw [hb.size, hsz]; decide)]; exact hv2, fun e => by omega, fun e => by omega⟩⟩
    refine ⟨?_, ?_⟩
    · intro a' w' k hb hR hst hck hle hd
      exact .inl ⟨wanted_none rfl, la_val _ _ (by decide) (x_f27_1 rfl ((hb.old 1 (by decide +kernel)).trans s1)) rfl (RF.of_fr (Fr.refl _ _)) (hst.put (by decide) (by decide) (by decide) (by decide) (by decide))⟩
    refine ⟨?_, ?_⟩
    · intro a' w' k hb hR hst hck hle hd
      exact .inl ⟨wanted_none rfl, la_val _ _ (by decide) (x_load1 ld22 rfl (hd 5 (by kernel_rfl) 48 rfl) (HC1 w' hR)) rfl (RF.of_fr (Fr.refl _ _)) (hst.put (by decide) (by decide) (by decide) (by decide) (by decide))⟩
    refine ⟨?_, ?_⟩
    · intro a' w' k hb hR hst hck hle hd
      obtain rfl : 3 = k := hck 3 rfl
      have hn := hst.k3 rfl
      have e1 : a'.tmps.getD 49 undef = .int .u64 (n1 : Int) := hd 6 (by kernel_rfl) 49 rfl
      refine .inl ⟨wanted_none rfl, la_callC 52 _ (by decide) (e_call3 rfl rfl rfl e1 rfl (fun _ _ => by simp [go_sem])) ((rputS_any _ w' w' _ ([74, 83, 85, 80] ++ be 8 n0) 8 n1 hn.nw (.inr (.inr rfl)) (by simp [be_length]) hn1).mono ?_)⟩
      rintro e w2 ⟨v2, rfl, hv2⟩
      exact ⟨_, rfl, trivial, fun _ => (hn.then hv2).fr, ⟨fun e => by omega, fun e => by omega, fun e => by omega, fun e => by omega, fun _ => by rw [put_self (by rw [hb.size, hsz]; decide)]; exact hn.then hv2, fun e => by omega⟩⟩
    refine ⟨?_, ?_⟩
    · intro a' w' k hb hR hst hck hle hd
      obtain rfl : 4 = k := hck 4 rfl
      have hn := hst.k4 rfl
      exact .inl ⟨wanted_none rfl, la_valC _ _ (by decide) (x_assign rfl rfl) trivial (RF.of_fr (Fr.refl _ _)) ⟨fun e => by omega, fun e => by omega, fun e => by omega, fun e => by omega, fun e => by omega, fun _ => by rw [put_self (by rw [hb.size, hsz]; decide)]; exact hn⟩⟩
    exact trivial
  case done =>
    intro a' w' hb hR hst hall
    have hn := hst.k5 rfl
    have hfr := frame_eq (a := a') (vs := [u0, .pointer (some ⟨p, 0, none⟩), u2, u3, a'.tmps.getD 4 undef, u5, u6, u7, u8, u9, u10, u11, u12, u13, u14, u15, u16, u17, u18, u19, u20, u21, u22, u23, u24, u25, u26, u27, u28, u29, u30, u31, u32, u33, u34, u35, u36, u37, u38, u39, u40, u41, u42, a'.tmps.getD 43 undef, a'.tmps.getD 44 undef, a'.tmps.getD 45 undef, a'.tmps.getD 46 undef, a'.tmps.getD 47 undef, a'.tmps.getD 48 undef, a'.tmps.getD 49 undef, a'.tmps.getD 50 undef, u51, u52, u53, u54, u55, u56, u57, u58, u59, u60, u61, u62, u63, u64, u65]) (by rw [hb.size, hsz]; rfl) (by rw [hb.defers, hdf]) ⟨(hb.old 0 (by decide +kernel)).trans (by rw [hA]; rfl), (hb.old 1 (by decide +kernel)).trans (by rw [hA]; rfl), (hb.old 2 (by decide +kernel)).trans (by rw [hA]; rfl), (hb.old 3 (by decide +kernel)).trans (by rw [hA]; rfl), rfl, (hb.old 5 (by decide +kernel)).trans (by rw [hA]; rfl), (hb.old 6 (by decide +kernel)).trans (by rw [hA]; rfl), (hb.old 7 (by decide +kernel)).trans (by rw [hA]; rfl), (hb.old 8 (by decide +kernel)).trans (by rw [hA]; rfl), (hb.old 9 (by decide +kernel)).trans (by rw [hA]; rfl), (hb.old 10 (by decide +kernel)).trans (by rw [hA]; rfl), (hb.old 11 (by decide +kernel)).trans (by rw [hA]; rfl), (hb.old 12 (by decide +kernel)).trans (by rw [hA]; rfl), (hb.old 13 (by decide +kernel)).trans (by rw [hA]; rfl), (hb.old 14 (by decide +kernel)).trans (by rw [hA]; rfl), (hb.old 15 (by decide +kernel)).trans (by rw [hA]; rfl), (hb.old 16 (by decide +kernel)).trans (by rw [hA]; rfl), (hb.old 17 (by decide +kernel)).trans (by rw [hA]; rfl), (hb.old 18 (by decide +kernel)).trans (by rw [hA]; rfl), (hb.old 19 (by decide +kernel)).trans (by rw [hA]; rfl), (hb.old 20 (by decide +kernel)).trans (by rw [hA]; rfl), (hb.old 21 (by decide +kernel)).trans (by rw [hA]; rfl), (hb.old 22 (by decide +kernel)).trans (by rw [hA]; rfl), (hb.old 23 (by decide +kernel)).trans (by rw [hA]; rfl), (hb.old 24 (by decide +kernel)).trans (by rw [hA]; rfl), (hb.old 25 (by decide +kernel)).trans (by rw [hA]; rfl), (hb.old 26 (by decide +kernel)).trans (by rw [hA]; rfl), (hb.old 27 (by decide +kernel)).trans (by rw [hA]; rfl), (hb.old 28 (by decide +kernel)).trans (by rw [hA]; rfl), (hb.old 29 (by decide +kernel)).trans (by rw [hA]; rfl), (hb.old 30 (by decide +kernel)).trans (by rw [hA]; rfl), (hb.old 31 (by decide +kernel)).trans (by rw [hA]; rfl), (hb.old 32 (by decide +kernel)).trans (by rw [hA]; rfl), (hb.old 33 (by decide +kernel)).trans (by rw [hA]; rfl), (hb.old 34 (by decide +kernel)).trans (by rw [hA]; rfl), (hb.old 35 (by decide +kernel)).trans (by rw [hA]; rfl), (hb.old 36 (by decide +kernel)).trans (by rw [hA]; rfl), (hb.old 37 (by decide +kernel)).trans (by rw [hA]; rfl), (hb.old 38 (by decide +kernel)).trans (by rw [hA]; rfl), (hb.old 39 (by decide +kernel)).trans (by rw [hA]; rfl), (hb.old 40 (by decide +kernel)).trans (by rw [hA]; rfl), (hb.old 41 (by decide +kernel)).trans (by rw [hA]; rfl), (hb.old 42 (by decide +kernel)).trans (by rw [hA]; rfl), rfl, rfl, rfl, rfl, rfl, rfl, rfl, rfl, (hb.old 51 (by decide +kernel)).trans (by rw [hA]; rfl), (hb.old 52 (by decide +kernel)).trans (by rw [hA]; rfl), (hb.old 53 (by decide +kernel)).trans (by rw [hA]; rfl), (hb.old 54 (by decide +kernel)).trans (by rw [hA]; rfl), (hb.old 55 (by decide +kernel)).trans (by rw [hA]; rfl), (hb.old 56 (by decide +kernel)).trans (by rw [hA]; rfl), (hb.old 57 (by decide +kernel)).trans (by rw [hA]; rfl), (hb.old 58 (by decide +kernel)).trans (by rw [hA]; rfl), (hb.old 59 (by decide +kernel)).trans (by rw [hA]; rfl), (hb.old 60 (by decide +kernel)).trans (by rw [hA]; rfl), (hb.old 61 (by decide +kernel)).trans (by rw [hA]; rfl), (hb.old 62 (by decide +kernel)).trans (by rw [hA]; rfl), (hb.old 63 (by decide +kernel)).trans (by rw [hA]; rfl), (hb.old 64 (by decide +kernel)).trans (by rw [hA]; rfl), (hb.old 65 (by decide +kernel)).trans (by rw [hA]; rfl), trivial⟩
    rw [hfr]
    exact unhide HQ _ _ _ _ _ _ _ _ _ w' hn
set_option maxHeartbeats 8000000 in
set_option maxRecDepth 100000 in
theorem gr12 {W : World} {p n0 n1 : Nat} {x2 x3 x4 x5 x6 : Value} {u0 u2 u3 u4 u5 u6 u7 u8 u9 u10 u11 u12 u13 u14 u15 u16 u17 u18 u19 u20 u21 u22 u23 u24 u25 u26 u27 u28 u29 u30 u31 u32 u33 u34 u35 u36 u37 u38 u39 u40 u41 u42 u43 u44 u45 u46 u47 u48 u49 u50 u51 u52 u53 u54 u55 u56 u57 u58 u59 u60 u61 u62 u63 u64 u65 u66 u67 u68 u69 u70 u71 u72 u73 u74 u75 u76 u77 u78 u79 u80 u81 u82 u83 u84 u85 u86 u87 u88 u89 u90 u91 u92 u93 u94 u95 u96 u97 u98 u99 u100 u101 u102 u103 u104 u105 u106 u107 : Value} {Q : Exit → Act → World → Prop} (hp : W.heap[p]? = some (.cells #[.int .u64 (n0 : Int), .int .u64 (n1 : Int), x2, x3, x4, x5, x6] 25 (0, 0))) (hn0 : n0 < 18446744073709551616) (hn1 : n1 < 18446744073709551616)
    (hQ : ∀ (y72 y73 y74 y75 y76 y77 y78 y79 : Value) (v' : Value) (W' : World), Nb W W' v' ([74, 76, 79, 71] ++ be 8 n0 ++ be 8 n1) → Q .normal ⟨#[u0, .pointer (some ⟨p, 0, none⟩), u2, u3, v', u5, u6, u7, u8, u9, u10, u11, u12, u13, u14, u15, u16, u17, u18, u19, u20, u21, u22, u23, u24, u25, u26, u27, u28, u29, u30, u31, u32, u33, u34, u35, u36, u37, u38, u39, u40, u41, u42, u43, u44, u45, u46, u47, u48, u49, u50, u51, u52, u53, u54, u55, u56, u57, u58, u59, u60, u61, u62, u63, u64, u65, u66, u67, u68, u69, u70, u71, y72, y73, y74, y75, y76, y77, y78, y79, u80, u81, u82, u83, u84, u85, u86, u87, u88, u89, u90, u91, u92, u93, u94, u95, u96, u97, u98, u99, u100, u101, u102, u103, u104, u105, u106, u107], []⟩ W') : (rgF Try.f12 3).wp Try.prog Q ⟨#[u0, .pointer (some ⟨p, 0, none⟩), u2, u3, u4, u5, u6, u7, u8, u9, u10, u11, u12, u13, u14, u15, u16, u17, u18, u19, u20, u21, u22, u23, u24, u25, u26, u27, u28, u29, u30, u31, u32, u33, u34, u35, u36, u37, u38, u39, u40, u41, u42, u43, u44, u45, u46, u47, u48, u49, u50, u51, u52, u53, u54, u55, u56, u57, u58, u59, u60, u61, u62, u63, u64, u65, u66, u67, u68, u69, u70, u71, u72, u73, u74, u75, u76, u77, u78, u79, u80, u81, u82, u83, u84, u85, u86, u87, u88, u89, u90, u91, u92, u93, u94, u95, u96, u97, u98, u99, u100, u101, u102, u103, u104, u105, u106, u107], []⟩ W := by
  have HQ := hide hQ
  clear hQ
  have lp := lt_of_heap hp
  conv => arg 2; whnf
  refine wp_nm ?_
  intro a0 hA
  have s1 : a0.tmps.getD 1 undef = .pointer (some ⟨p, 0, none⟩) := by rw [hA]; rfl
  have hsz : a0.tmps.size = 108 := by rw [hA]; rfl
  have hdf : a0.defers = [] := by rw [hA]
  refine wp_region_chainA (by kernel_rfl) (by kernel_rfl) (by decide +kernel) (by rw [hsz]; decide +kernel) (fun w w' => RF W w w') (fun _ => (Fr.refl _ _).drew) (fun _ _ _ => RF.trans) (Tw [KV.any, KV.any, KV.eq (.pointer (some ⟨p, 0, none⟩)), KV.eq (.int .u64 (n0 : Int)), KV.any, KV.eq (.pointer (some ⟨p, 1, none⟩)), KV.eq (.int .u64 (n1 : Int)), KV.any, KV.any]) (Tw.mono _) [0, 1, 4, 7, 8] (by decide) (by decide) (fun k i j h1 h2 => ?cp) (StK W [74, 76, 79, 71] ([74, 76, 79, 71] ++ be 8 n0) ([74, 76, 79, 71] ++ be 8 n0 ++ be 8 n1) 72 73 76 79) ?st0 ?steps ?done
  case cp =>
    match k, h1, h2 with
    | 0, h1, h2 => simp at h1 h2; subst h1; subst h2; exact .one rfl (by kernel_rfl)
    | 1, h1, h2 => simp at h1 h2; subst h1; subst h2; exact .one rfl (by kernel_rfl)
    | 2, h1, h2 => simp at h1 h2; subst h1; subst h2; exact .one rfl (by kernel_rfl)
    | 3, h1, h2 => simp at h1 h2; subst h1; subst h2; exact .one rfl (by kernel_rfl)
    | 4, h1, h2 => simp at h2
    | k + 5, h1, h2 => simp at h2
  case st0 => exact ⟨fun _ => (Fr.refl _ _).drew, fun e => by omega, fun e => by omega, fun e => by omega, fun e => by omega, fun e => by omega⟩
  case steps =>
    have HC0 : ∀ w', RF W W w' → w'.cell? ⟨p, 0, none⟩ = some (.int .u64 (n0 : Int)) := fun w' f => by rw [(f (Fr.refl _ _)).cell lp id, cell_of_heap hp]; rfl
    have HC1 : ∀ w', RF W W w' → w'.cell? ⟨p, 1, none⟩ = some (.int .u64 (n1 : Int)) := fun w' f => by rw [(f (Fr.refl _ _)).cell lp id, cell_of_heap hp]; rfl
    refine ⟨?_, ?_⟩
    · intro a' w' k hb hR hst hck hle hd
      obtain rfl : 0 = k := hck 0 rfl
      exact .inl ⟨wanted_none rfl, la_valC _ _ (by decide) (x_bs4 (b0 := 74) (b1 := 76) (b2 := 79) (b3 := 71) rfl rfl rfl rfl rfl rfl rfl rfl rfl) trivial (RF.of_fr ((Fr.refl _ _).alloc _)) ⟨fun e => by omega, fun _ => ⟨w', hst.k0 rfl, rfl, by rw [put_self (by rw [hb.size, hsz]; decide)]; rfl⟩, fun e => by omega, fun e => by omega, fun e => by omega, fun e => by omega⟩⟩
    refine ⟨?_, ?_⟩
    · intro a' w' k hb hR hst hck hle hd
      obtain rfl : 1 = k := hck 1 rfl
      obtain ⟨w0, f0, rfl, e1⟩ := hst.k1 rfl
      have kc := run_convert_bytes_const (P := Try.prog) w0 23 5 (bvs [74, 76, 79, 71]).toArray 4 4 Try.underlying23 Try.underlying5
      exact .inl ⟨wanted_none rfl, la_valC _ _ (by decide) (x_conv2 rfl e1 kc) trivial (fun _ => f0.alloc _) ⟨fun e => by omega, fun e => by omega, fun _ => by rw [put_self (by rw [hb.size, hsz]; decide)]; exact nm_const W w0 f0 [74, 76, 79, 71] _ _ rfl (by simp), fun e => by omega, fun e => by omega, fun e => by omega⟩⟩
    refine ⟨?_, ?_⟩
    · intro a' w' k hb hR hst hck hle hd
      exact .inl ⟨wanted_none rfl, la_val _ _ (by decide) (x_f25_0 rfl ((hb.old 1 (by decide +kernel)).trans s1)) rfl (RF.of_fr (Fr.refl _ _)) (hst.put (by decide) (by decide) (by decide) (by decide) (by decide))⟩
    refine ⟨?_, ?_⟩
    · intro a' w' k hb hR hst hck hle hd
      exact .inl ⟨wanted_none rfl, la_val _ _ (by decide) (x_load1 ld22 rfl (hd 2 (by kernel_rfl) 74 rfl) (HC0 w' hR)) rfl (RF.of_fr (Fr.refl _ _)) (hst.put (by decide) (by decide) (by decide) (by decide) (by decide))⟩
    refine ⟨?_, ?_⟩
    · intro a' w' k hb hR hst hck hle hd
      obtain rfl : 2 = k := hck 2 rfl
      have hn := hst.k2 rfl
      have e1 : a'.tmps.getD 75 undef = .int .u64 (n0 : Int) := hd 3 (by kernel_rfl) 75 rfl
      refine .inl ⟨wanted_none rfl, la_callC 52 _ (by decide) (e_call3 rfl rfl rfl e1 rfl (fun _ _ => by simp [go_sem])) ((rputM_any W w' _ [74, 76, 79, 71] 8 n0 hn (by simp) (.inr (.inr rfl)) (by simp) hn0).mono ?_)⟩
      rintro e w2 ⟨v2, rfl, hv2⟩
      exact ⟨_, rfl, trivial, fun _ => hv2.fr, ⟨fun e => by omega, fun e => by omega, fun e => by omega, fun _ => by rw [put_self (by rw [hb.size, hsz]; decide)]; exact hv2, fun e => by omega, fun e => by omega⟩⟩
    refine ⟨?_, ?_⟩
    · intro a' w' k hb hR hst hck hle hd
      exact .inl ⟨wanted_none rfl, la_val _ _ (by decide) (x_f25_1 rfl ((hb.old 1 (by decide +kernel)).trans s1)) rfl (RF.of_fr (Fr.refl _ _)) (hst.put (by decide) (by decide) (by decide) (by decide) (by decide))⟩
    refine ⟨?_, ?_⟩
    · intro a' w' k hb hR hst hck hle hd
      exact .inl ⟨wanted_none rfl, la_val _ _ (by decide) (x_load1 ld22 rfl (hd 5 (by kernel_rfl) 77 rfl) (HC1 w' hR)) rfl (RF.of_fr (Fr.refl _ _)) (hst.put (by decide) (by decide) (by decide) (by decide) (by decide))⟩
    refine ⟨?_, ?_⟩
    · intro a' w' k hb hR hst hck hle hd
      obtain rfl : 3 = k := hck 3 rfl
      have hn := hst.k3 rfl
      have e1 : a'.tmps.getD 78 undef = .int .u64 (n1 : Int) := hd 6 (by kernel_rfl) 78 rfl
      refine .inl ⟨wanted_none rfl, la_callC 52 _ (by decide) (e_call3 rfl rfl rfl e1 rfl (fun _ _ => by simp [go_sem])) ((rputS_any _ w' w' _ ([74, 76, 79, 71] ++ be 8 n0) 8 n1 hn.nw (.inr (.inr rfl)) (by simp [be_length]) hn1).mono ?_)⟩
      rintro e w2 ⟨v2, rfl, hv2⟩
      exact ⟨_, rfl, trivial, fun _ => (hn.then hv2).fr, ⟨fun e => by omega, fun e => by omega, fun e => by omega, fun e => by omega, fun _ => by rw [put_self (by rw [hb.size, hsz]; decide)]; exact hn.then hv2, fun e => by omega⟩⟩
    refine ⟨?_, ?_⟩
    · intro a' w' k hb hR hst hck hle hd
      obtain rfl : 4 = k := hck 4 rfl
      have hn := hst.k4 rfl
      exact .inl ⟨wanted_none rfl, la_valC _ _ (by decide) (x_assign rfl rfl) trivial (RF.of_fr (Fr.refl _ _)) ⟨fun e => by omega, fun e => by omega, fun e => by omega, fun e => by omega, fun e => by omega, fun _ => by rw [put_self (by rw [hb.size, hsz]; decide)]; exact hn⟩⟩
    exact trivial
  case done =>
    intro a' w' hb hR hst hall
    have hn := hst.k5 rfl
    have hfr := frame_eq (a := a') (vs := [u0, .pointer (some ⟨p, 0, none⟩), u2, u3, a'.tmps.getD 4 undef, u5, u6, u7, u8, u9, u10, u11, u12, u13, u14, u15, u16, u17, u18, u19, u20, u21, u22, u23, u24, u25, u26, u27, u28, u29, u30, u31, u32, u33, u34, u35, u36, u37, u38, u39, u40, u41, u42, u43, u44, u45, u46, u47, u48, u49, u50, u51, u52, u53, u54, u55, u56, u57, u58, u59, u60, u61, u62, u63, u64, u65, u66, u67, u68, u69, u70, u71, a'.tmps.getD 72 undef, a'.tmps.getD 73 undef, a'.tmps.getD 74 undef, a'.tmps.getD 75 undef, a'.tmps.getD 76 undef, a'.tmps.getD 77 undef, a'.tmps.getD 78 undef, a'.tmps.getD 79 undef, u80, u81, u82, u83, u84, u85, u86, u87, u88, u89, u90, u91, u92, u93, u94, u95, u96, u97, u98, u99, u100, u101, u102, u103, u104, u105, u106, u107]) (by rw [hb.size, hsz]; rfl) (by rw [hb.defers, hdf]) ⟨(hb.old 0 (by decide +kernel)).trans (by rw [hA]; rfl), (hb.old 1 (by decide +kernel)).trans (by rw [hA]; rfl), (hb.old 2 (by decide +kernel)).trans (by rw [hA]; rfl), (hb.old 3 (by decide +kernel)).trans (by rw [hA]; rfl), rfl, (hb.old 5 (by decide +kernel)).trans (by rw [hA]; rfl), (hb.old 6 (by decide +kernel)).trans (by rw [hA]; rfl), (hb.old 7 (by decide +kernel)).trans (by rw [hA]; rfl), (hb.old 8 (by decide +kernel)).trans (by rw [hA]; rfl), (hb.old 9 (by decide +kernel)).trans (by rw [hA]; rfl), (hb.old 10 (by decide +kernel)).trans (by rw [hA]; rfl), (hb.old 11 (by decide +kernel)).trans (by rw [hA]; rfl), (hb.old 12 (by decide +kernel)).trans (by rw [hA]; rfl), (hb.old 13 (by decide +kernel)).trans (by rw [hA]; rfl), (hb.old 14 (by decide +kernel)).trans (by rw [hA]; rfl), (hb.old 15 (by decide +kernel)).trans (by rw [hA]; rfl), (hb.old 16 (by decide +kernel)).trans (by rw [hA]; rfl), (hb.old 17 (by decide +kernel)).trans (by rw [hA]; rfl), (hb.old 18 (by decide +kernel)).trans (by rw [hA]; rfl), (hb.old 19 (by decide +kernel)).trans (by rw [hA]; rfl), (hb.old 20 (by decide +kernel)).trans (by rw [hA]; rfl), (hb.old 21 (by decide +kernel)).trans (by rw [hA]; rfl), (hb.old 22 (by decide +kernel)).trans (by rw [hA]; rfl), (hb.old 23 (by decide +kernel)).trans (by rw [hA]; rfl), (hb.old 24 (by decide +kernel)).trans (by rw [hA]; rfl), (hb.old 25 (by decide +kernel)).trans (by rw [hA]; rfl), (hb.old 26 (by decide +kernel)).trans (by rw [hA]; rfl), (hb.old 27 (by decide +kernel)).trans (by rw [hA]; rfl), (hb.old 28 (by decide +kernel)).trans (by rw [hA]; rfl), (hb.old 29 (by decide +kernel)).trans (by rw [hA]; rfl), (hb.old 30 (by decide +kernel)).trans (by rw [hA]; rfl), (hb.old 31 (by decide +kernel)).trans (by rw [hA]; rfl), (hb.old 32 (by decide +kernel)).trans (by rw [hA]; rfl), (hb.old 33 (by decide +kernel)).trans (by rw [hA]; rfl), (hb.old 34 (by decide +kernel)).trans (by rw [hA]; rfl), (hb.old 35 (by decide +kernel)).trans (by rw [hA]; rfl), (hb.old 36 (by decide +kernel)).trans (by rw [hA]; rfl), (hb.old 37 (by decide +kernel)).trans (by rw [hA]; rfl), (hb.old 38 (by decide +kernel)).trans (by rw [hA]; rfl), (hb.old 39 (by decide +kernel)).trans (by rw [hA]; rfl), (hb.old 40 (by decide +kernel)).trans (by rw [hA]; rfl), (hb.old 41 (by decide +kernel)).trans (by rw [hA]; rfl), (hb.old 42 (by decide +kernel)).trans (by rw [hA]; rfl), (hb.old 43 (by decide +kernel)).trans (by rw [hA]; rfl), (hb.old 44 (by decide +kernel)).trans (by rw [hA]; rfl), (hb.old 45 (by decide +kernel)).trans (by rw [hA]; rfl), (hb.old 46 (by decide +kernel)).trans (by rw [hA]; rfl), (hb.old 47 (by decide +kernel)).trans (by rw [hA]; rfl), (hb.old 48 (by decide +kernel)).trans (by rw [hA]; rfl), (hb.old 49 (by decide +kernel)).trans (by rw [hA]; rfl), (hb.old 50 (by decide +kernel)).trans (by rw [hA]; rfl), (hb.old 51 (by decide +kernel)).trans (by rw [hA]; rfl), (hb.old 52 (by decide +kernel)).trans (by rw [hA]; rfl), (hb.old 53 (by decide +kernel)).trans (by rw [hA]; rfl), (hb.old 54 (by decide +kernel)).trans (by rw [hA]; rfl), (hb.old 55 (by decide +kernel)).trans (by rw [hA]; rfl), (hb.old 56 (by decide +kernel)).trans (by rw [hA]; rfl), (hb.old 57 (by decide +kernel)).trans (by rw [hA]; rfl), (hb.old 58 (by decide +kernel)).trans (by rw [hA]; rfl), (hb.old 59 (by decide +kernel)).trans (by rw [hA]; rfl), (hb.old 60 (by decide +kernel)).trans (by rw [hA]; rfl), (hb.old 61 (by decide +kernel)).trans (by rw [hA]; rfl), (hb.old 62 (by decide +kernel)).trans (by rw [hA]; rfl), (hb.old 63 (by decide +kernel)).trans (by rw [hA]; rfl), (hb.old 64 (by decide +kernel)).trans (by rw [hA]; rfl), (hb.old 65 (by decide +kernel)).trans (by rw [hA]; rfl), (hb.old 66 (by decide +kernel)).trans (by rw [hA]; rfl), (hb.old 67 (by decide +kernel)).trans (by rw [hA]; rfl), (hb.old 68 (by decide +kernel)).trans (by rw [hA]; rfl), (hb.old 69 (by decide +kernel)).trans (by rw [hA]; rfl), (hb.old 70 (by decide +kernel)).trans (by rw [hA]; rfl), (hb.old 71 (by decide +kernel)).trans (by rw [hA]; rfl), rfl, rfl, rfl, rfl, rfl, rfl, rfl, rfl, (hb.old 80 (by decide +kernel)).trans (by rw [hA]; rfl), (hb.old 81 (by decide +kernel)).trans (by rw [hA]; rfl), (hb.old 82 (by decide +kernel)).trans (by rw [hA]; rfl), (hb.old 83 (by decide +kernel)).trans (by rw [hA]; rfl), (hb.old 84 (by decide +kernel)).trans (by rw [hA]; rfl), (hb.old 85 (by decide +kernel)).trans (by rw [hA]; rfl), (hb.old 86 (by decide +kernel)).trans (by rw [hA]; rfl), (hb.old 87 (by decide +kernel)).trans (by rw [hA]; rfl), (hb.old 88 (by decide +kernel)).trans (by rw [hA]; rfl), (hb.old 89 (by decide +kernel)).trans (by rw [hA]; rfl), (hb.old 90 (by decide +kernel)).trans (by rw [hA]; rfl), (hb.old 91 (by decide +kernel)).trans (by rw [hA]; rfl), (hb.old 92 (by decide +kernel)).trans (by rw [hA]; rfl), (hb.old 93 (by decide +kernel)).trans (by rw [hA]; rfl), (hb.old 94 (by decide +kernel)).trans (by rw [hA]; rfl), (hb.old 95 (by decide +kernel)).trans (by rw [hA]; rfl), (hb.old 96 (by decide +kernel)).trans (by rw [hA]; rfl), (hb.old 97 (by decide +kernel)).trans (by rw [hA]; rfl), (hb.old 98 (by decide +kernel)).trans (by rw [hA]; rfl), (hb.old 99 (by decide +kernel)).trans (by rw [hA]; rfl), (hb.old 100 (by decide +kernel)).trans (by rw [hA]; rfl), (hb.old 101 (by decide +kernel)).trans (by rw [hA]; rfl), (hb.old 102 (by decide +kernel)).trans (by rw [hA]; rfl), (hb.old 103 (by decide +kernel)).trans (by rw [hA]; rfl), (hb.old 104 (by decide +kernel)).trans (by rw [hA]; rfl), (hb.old 105 (by decide +kernel)).trans (by rw [hA]; rfl), (hb.old 106 (by decide +kernel)).trans (by rw [hA]; rfl), (hb.old 107 (by decide +kernel)).trans (by rw [hA]; rfl), trivial⟩
    rw [hfr]
    exact unhide HQ _ _ _ _ _ _ _ _ _ w' hn
end Go.Proofs.Ytgodlfoidjeekaa
