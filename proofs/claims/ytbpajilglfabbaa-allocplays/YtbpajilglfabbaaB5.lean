/-
  The walk of the law's live and num.
-/
import Derived.Test.YtbpajilglfabbaaB4
namespace Go.Proofs.Ytbpajilglfabbaa
open Go.RowKit
set_option linter.unusedVariables false

attribute [local go_sem ↓] Go.wp_at_zero Go.wp_at_succ

theorem num_any (w : World) (n : Int) : Calls Try.prog 13 #[.int .i64 n] w fun e w' => e = .returned (.int .i64 n) ∧ w = w' := by
  go_enter Try.func13, Try.ntmps13
  go_wp2_with fail
  go_ret
  exact ⟨rfl, rfl⟩

/-- What State tells. -/
def stI (s : List UInt8) (b : Int) : Int := if 0 ≤ b then (match s[b.toNat]? with | some v => ((v.toNat : Nat) : Int) | none => -1) else -1
theorem stateI_any (w : World) (p : Nat) (X : Ly) (K : Kc) (b : Int) (H : KA w p X K) : Calls Try.prog 22 #[ptr p, .int .i64 b] w fun e w' => e = .returned (.int .i64 (stI K.s b)) ∧ w = w' := state_any w p X K b H

def L1 : Kc := ⟨[0, 0, 2, 0], [0, 0, 1, 0], 1, 0, 0⟩
def L2 : Kc := ⟨[0, 0, 2, 2], [0, 0, 1, 2], 2, 0, 0⟩
def L3 : Kc := ⟨[2, 0, 2, 2], [3, 0, 1, 2], 3, 0, 0⟩
def L4 : Kc := ⟨[2, 0, 2, 0], [3, 0, 1, 4], 4, 0, 0⟩
def L5 : Kc := ⟨[1, 0, 1, 0], [5, 0, 6, 4], 6, 0, 0⟩
def L6 : Kc := ⟨[1, 0, 3, 0], [5, 0, 7, 4], 7, 0, 0⟩
def L7 : Kc := ⟨[1, 0, 3, 2], [5, 0, 7, 8], 8, 0, 0⟩
theorem lv1 : (kc0 4).take 2 = (L1, 2, 0) := by kernel_rfl
theorem lv2 : L1.take 2 = (L2, 3, 0) := by kernel_rfl
theorem lv3 : L2.take 2 = (L3, 0, 0) := by kernel_rfl
theorem lv4 : L3.give 3 = (L4, 0) := by kernel_rfl
theorem lv5 : L4.commit = L5 := by kernel_rfl
theorem lv5a : idx L4.s 2 = [0, 2] := by kernel_rfl
theorem lv5b : idx L4.s 3 = [] := by kernel_rfl
theorem lv6 : L5.give 2 = (L6, 0) := by kernel_rfl
theorem lv7 : L6.take 2 = (L7, 3, 0) := by kernel_rfl
theorem lv8 : L7.reserve 9 = (L7, 100) := by kernel_rfl
theorem lv9 : ldE 3 [8] = 102 := by kernel_rfl
theorem lv10 : bm L7.s = [5] := by kernel_rfl
theorem lv11 : fr L7.s = 1 := by kernel_rfl
theorem lv13 : stI L7.s 2 = 3 := by kernel_rfl
theorem lv12 : L7.s.length = 4 := rfl

theorem bat_eight (w : World) : Rd (w.alloc (.cells #[.int .u8 8] 5)) (.slice (some ⟨w.heap.size, 0, none⟩) 1 1) [8] := by
  have := (bat_new w [8]).rd (by simp [maxLen])
  exact this
theorem rd_two (w : World) : RdV (w.alloc (.cells #[.int .i64 0, .int .i64 2] 3)) (.slice (some ⟨w.heap.size, 0, none⟩) 2 2) (ivs [0, 2]) := by
  refine .inr ⟨⟨w.heap.size, 0, none⟩, 2, rfl, by simp [ivs], by simp [maxLen], fun j hj => ?_⟩
  rw [Addr.add_lit, cell_of_heap (heap_alloc_new w _)]
  simp [ivs] at hj
  have : j = 0 ∨ j = 1 := by omega
  rcases this with rfl | rfl <;> rfl

set_option maxRecDepth 100000 in
set_option maxHeartbeats 4000000 in
theorem live_any (w : World) : Calls Try.prog 10 #[] w fun e w' => e = .returned (.bool true) ∧ Fr (fun _ => False) w w' := by
  have HN := hide (new_ok w 4 (by decide) (by decide))
  go_enter Try.func10, Try.ntmps10
  go_wp2_with fail
  refine (unhide HN).mono ?_
  rintro e w0 ⟨⟨p, X, rfl, hK0, hnew⟩, f0⟩
  have HBL : Hid (∀ W W', Fr (Bl p X) W W' → Fr (fun _ => False) w W → Fr (fun _ => False) w W') := hide (fun W W' f g => g.trans f (fun k hk e => by have := hnew k e; omega))
  have HF0 := hide f0
  have H1 := take_any w0 p X _ hK0 2 (by decide)
  rw [lv1] at H1
  have HC1 := hide H1
  clear H1 hK0 f0
  unfold ptr at *
  go_wp2_with (first | (go_at_call 13; refine (num_any _ _).mono ?_; rintro e w' ⟨rfl, rfl⟩))
  refine (unhide HC1).mono ?_
  rintro e w1 ⟨rfl, hK1, f1⟩
  have HF1 := hide (unhide HBL _ _ f1 (unhide HF0))
  have H2 := take_any w1 p X _ hK1 2 (by decide)
  rw [lv2] at H2
  have HC2 := hide H2
  clear H2 hK1 f1 HC1 HF0
  unfold ptr at *
  go_wp2_with fail
  refine (unhide HC2).mono ?_
  rintro e w2 ⟨rfl, hK2, f2⟩
  have HF2 := hide (unhide HBL _ _ f2 (unhide HF1))
  have H3 := take_any w2 p X _ hK2 2 (by decide)
  rw [lv3] at H3
  have HC3 := hide H3
  clear H3 hK2 f2 HC2 HF1
  unfold ptr at *
  go_wp2_with fail
  refine (unhide HC3).mono ?_
  rintro e w3 ⟨rfl, hK3, f3⟩
  have HF3 := hide (unhide HBL _ _ f3 (unhide HF2))
  have H4 := give_any w3 p X _ hK3 3 (by decide)
  rw [lv4] at H4
  have HC4 := hide H4
  clear H4 hK3 f3 HC3 HF2
  unfold ptr at *
  go_wp2_with fail
  refine (unhide HC4).mono ?_
  rintro e w4 ⟨rfl, hK4, f4⟩
  have HF4 := hide (unhide HBL _ _ f4 (unhide HF3))
  have H5 := commit_any w4 p X _ hK4 (by decide)
  rw [lv5, lv5a, lv5b] at H5
  have HC5 := hide H5
  have HLT4 := hide hK4.lt
  clear H5 hK4 f4 HC4 HF3
  unfold ptr at *
  go_wp2_with fail
  refine (unhide HC5).mono ?_
  rintro e w5 ⟨⟨x, y, rfl, hx, hy⟩, hK5, f5⟩
  have HF5 := hide (unhide HBL _ _ f5 (unhide HF4))
  have H6 := give_any w5 p X _ hK5 2 (by decide)
  rw [lv6] at H6
  have HC6 := hide H6
  have HX5 := hide hx
  have HFAR := hide (hx.far (unhide HLT4))
  obtain ⟨yo, yn, yc, rfl, hyn⟩ := hy.shape
  obtain rfl : yn = 0 := hyn
  clear H6 hK5 f5 HC5 HF4 hx hy
  unfold ptr at *
  go_wp2_with fail
  refine (unhide HC6).mono ?_
  rintro e w6 ⟨rfl, hK6, f6⟩
  have HF6 := hide (unhide HBL _ _ f6 (unhide HF5))
  have HX6 := hide ((unhide HX5).kept f6 (unhide HFAR))
  have H7 := take_any w6 p X _ hK6 2 (by decide)
  rw [lv7] at H7
  have HC7 := hide H7
  clear H7 hK6 f6 HC6 HF5 HX5
  unfold ptr at *
  go_wp2_with fail
  refine (unhide HC7).mono ?_
  rintro e w7 ⟨rfl, hK7, f7⟩
  have HF7 := hide (unhide HBL _ _ f7 (unhide HF6))
  have HX7 := hide ((unhide HX6).kept f7 (unhide HFAR))
  have H8 := reserve_any w7 p X _ hK7 9
  rw [lv8] at H8
  have HC8 := hide H8
  clear H8 hK7 f7 HC7 HF6 HX6
  unfold ptr at *
  go_wp2_with fail
  refine (unhide HC8).mono ?_
  rintro e w8 ⟨rfl, hK8, f8⟩
  have HF8 := hide (unhide HBL _ _ f8 (unhide HF7))
  have HX8 := hide ((unhide HX7).kept f8 (unhide HFAR))
  have HK8 := hide hK8
  have HC9 := hide (load_any _ 3 _ [8] (bat_eight w8))
  have HFA : Hid (Fr (fun _ => False) w8 (w8.alloc (.cells #[.int .u8 8] 5))) := hide ((Fr.refl _ _).alloc _)
  clear hK8 f8 HC8 HF7 HX7
  unfold ptr at *
  go_wp2_with fail
  refine (unhide HC9).mono ?_
  rintro e w9 ⟨h9, f9⟩
  rw [lv9] at h9
  rcases h9 with ⟨h9, -⟩ | ⟨-, rfl⟩
  · exact absurd h9 (by decide)
  have HF9 := hide ((unhide HFA).trans f9 (fun _ _ h => h))
  have HK9 := hide ((unhide HK8).kept (unhide HF9) (fun _ _ h => h))
  have HX9 := hide ((unhide HX8).kept (unhide HF9) (fun _ _ h => h))
  have HFT := hide ((unhide HF8).trans (unhide HF9) (fun _ _ h => h))
  clear f9 HC9 HFA HF8 HF9 HX8 HK8
  have HFB : Hid (Fr (fun _ => False) w9 (w9.alloc (.cells #[.int .i64 0, .int .i64 2] 3))) := hide ((Fr.refl _ _).alloc _)
  have HI := hide (ints_any _ x _ [0, 2] [0, 2] ((unhide HX9).kept (unhide HFB) (fun _ _ h => h)).rd (rd_two w9))
  rw [decide_eq_true (show [0, 2] = [0, 2] from rfl)] at HI
  obtain ⟨xo, xn, xc, rfl, -⟩ := (unhide HX9).shape
  go_wp2_with (first | (go_at_call 13; refine (num_any _ _).mono ?_; rintro e w' ⟨rfl, rfl⟩))
  refine (unhide HI).mono ?_
  rintro e w10 ⟨rfl, nd, hw10⟩
  have HF10 : Hid (Fr (fun _ => False) w9 w10) := hide (by rw [hw10]; exact (unhide HFB).drewN nd)
  have HK10 := hide ((unhide HK9).kept (unhide HF10) (fun _ _ h => h))
  have HS := hide (stateI_any w10 p X L7 2 (unhide HK10))
  rw [lv13] at HS
  have HB := hide (bitmap_any w10 p X _ (unhide HK10))
  unfold ptr at *
  clear hw10
  go_wp2_with (first | (go_at_call 13; refine (num_any _ _).mono ?_; rintro e w' ⟨rfl, rfl⟩))
  refine (unhide HS).mono ?_
  rintro e w' ⟨rfl, rfl⟩
  go_wp2_with (first | (go_at_call 13; refine (num_any _ _).mono ?_; rintro e w' ⟨rfl, rfl⟩))
  refine (unhide HB).mono ?_
  rintro e w11 ⟨⟨q, N, rfl, hN, hBA, -⟩, f11⟩
  rw [lv10] at hN hBA
  obtain rfl : N = 1 := hN
  have HCV := hide (conv_rd (P := Try.prog) (hBA.rd (by simp [maxLen])) 22 9 5 Try.underlying22 Try.underlying5 Try.underlying9)
  have hcv : (convert 22 9 (.slice (some ⟨q, 0, none⟩) 1 1)).run Try.prog w11 = .ok (.string { data := #[5] }) w11 := unhide HCV
  have HK11 := hide ((unhide HK10).kept f11 (fun _ _ h => h))
  have HFr := hide (free_any w11 p X _ (unhide HK11))
  have HF11 := hide (((unhide HFT).trans (unhide HF10) (fun _ _ h => h)).trans f11 (fun _ _ h => h))
  rw [lv11] at HFr
  unfold ptr at *
  clear f11 hBA
  go_wp2_with fail
  refine (unhide HFr).mono ?_
  rintro e w' ⟨rfl, rfl⟩
  go_wp2_with fail
  go_ret
  exact ⟨rfl, unhide HF11⟩
end Go.Proofs.Ytbpajilglfabbaa
