/-
  The walk of the law RsUpdates.
-/
import Derived.Test.YtckmddkhkdcmmaaRs23
import Derived.Test.YtckmddkhkdcmmaaLent
import Derived.Test.YtckmddkhkdcmmaaRs17
import Derived.Test.YtckmddkhkdcmmaaRs12
namespace Go.Proofs.Ytckmddkhkdcmmaa
open Go.RowKit
set_option linter.unusedVariables false

attribute [local go_sem ↓] Go.wp_at_zero Go.wp_at_succ

theorem okB_nat3 {k m : Int} (h : okB k m = true) : ∃ k' m' : Nat, k = (k' : Int) ∧ m = (m' : Int) ∧ (1 ≤ k' ∧ k' ≤ 16) ∧ m' ≤ 8 := by
  have h' : 1 ≤ k ∧ k ≤ 16 ∧ 0 ≤ m ∧ m ≤ 8 := by simpa [okB] using h
  exact ⟨k.toNat, m.toNat, by omega, by omega, by omega, by omega⟩

theorem upR_length (k m : Nat) (ls : List (List UInt8)) (a : Int) (l x : List UInt8) : (upR k m ls a l x).length ≤ m := by
  unfold upR
  split
  · rw [updL_length]; omega
  · simp

theorem upR_wid (k m : Nat) (ls : List (List UInt8)) (a : Int) (l x : List UInt8) (hl : l.length ≤ 100000) : ∀ y ∈ upR k m ls a l x, y.length ≤ 100000 := by
  unfold upR
  intro y hy
  split at hy
  · unfold updL at hy
    obtain ⟨p, -, rfl⟩ := List.mem_map.1 hy
    simp [addt, sm]
    omega
  · simp at hy

section
variable (w : World) (v lv xv : Value) (ls : List (List UInt8)) (l x : List UInt8) (a : Int)

set_option maxHeartbeats 4000000 in
set_option maxRecDepth 100000 in
theorem updWalk_no (k m : Int) (h : okB k m = false) (hR : RdL w v ls) (hl : Rd w lv l) (hx : Rd w xv x) (hll : ls.length ≤ 1048576) (hb : ∀ l ∈ ls, l.length ≤ 1048576) (hlb : l.length ≤ 1048576) (hxb : x.length ≤ 1048576) :
    Calls Try.prog 9 #[.int .i64 k, .int .i64 m, v, .int .i64 a, lv, xv] w fun e w' => e = .returned (.bool true) ∧ Fr (fun _ => False) w w' := by
  have HB := hide (both_no w k m h)
  have HH := hide (huge_any w v ls hR hll hb)
  obtain ⟨ao, ac, rfl⟩ := hR.shape
  obtain ⟨lo, lc, rfl⟩ := hl.shape
  obtain ⟨xo, xc, rfl⟩ := hx.shape
  generalize hugeB ls = hu at *
  obtain ⟨s, hs⟩ : ∃ s, s = l.length + x.length := ⟨_, rfl⟩
  have es : (l.length : Int) + (x.length : Int) = (s : Int) := by omega
  have b4 : IntKind.i64.wrap (s : Int) = (s : Int) := by rw [IntKind.wrap_i64]; omega
  clear h hR hb hl hx hs
  rcases hu with _ | _
  · by_cases h9 : 9000 < s
    · have b5 : decide ((9000 : Int) < (s : Int)) = true := by simp; omega
      go_enter Try.func9, Try.ntmps9
      go_wp2_with fail
      refine (unhide HB).mono ?_
      rintro e w1 ⟨rfl, rfl⟩
      go_wp2_with (first | (go_at_call 43; refine (unhide HH).mono ?_; rintro e w2 ⟨rfl, rfl⟩) | (go_at_call 38; refine (live3_any _).mono ?_; rintro e w3 ⟨rfl, f3⟩))
      go_ret
      exact ⟨rfl, f3⟩
    · have b5 : decide ((9000 : Int) < (s : Int)) = false := by simp; omega
      go_enter Try.func9, Try.ntmps9
      go_wp2_with fail
      refine (unhide HB).mono ?_
      rintro e w1 ⟨rfl, rfl⟩
      go_wp2_with (first | (go_at_call 43; refine (unhide HH).mono ?_; rintro e w2 ⟨rfl, rfl⟩) | (go_at_call 38; refine (live3_any _).mono ?_; rintro e w3 ⟨rfl, f3⟩))
      go_ret
      exact ⟨rfl, f3⟩
  · go_enter Try.func9, Try.ntmps9
    go_wp2_with fail
    refine (unhide HB).mono ?_
    rintro e w1 ⟨rfl, rfl⟩
    go_wp2_with (first | (go_at_call 43; refine (unhide HH).mono ?_; rintro e w2 ⟨rfl, rfl⟩) | (go_at_call 38; refine (live3_any _).mono ?_; rintro e w3 ⟨rfl, f3⟩))
    go_ret
    exact ⟨rfl, f3⟩

set_option maxHeartbeats 4000000 in
set_option maxRecDepth 100000 in
theorem updWalk_huge (k m : Nat) (hk : 1 ≤ k ∧ k ≤ 16) (hm : m ≤ 8) (hR : RdL w v ls) (hl : Rd w lv l) (hx : Rd w xv x) (hll : ls.length ≤ 1048576) (hb : ∀ l ∈ ls, l.length ≤ 1048576) (hlb : l.length ≤ 1048576) (hxb : x.length ≤ 1048576) (hu : hugeB ls = true ∨ 9000 < l.length + x.length) :
    Calls Try.prog 9 #[.int .i64 (k : Int), .int .i64 (m : Int), v, .int .i64 a, lv, xv] w fun e w' => e = .returned (.bool true) ∧ Fr (fun _ => False) w w' := by
  have HB := hide (both_ok w k m hk hm)
  have HH := hide (fun W (f : Fr (fun _ => False) w W) => huge_any W v ls (hR.kept f) hll hb)
  obtain ⟨ao, ac, rfl⟩ := hR.shape
  obtain ⟨lo, lc, rfl⟩ := hl.shape
  obtain ⟨xo, xc, rfl⟩ := hx.shape
  generalize hugeB ls = hg at *
  obtain ⟨s, hs⟩ : ∃ s, s = l.length + x.length := ⟨_, rfl⟩
  have es : (l.length : Int) + (x.length : Int) = (s : Int) := by omega
  have b4 : IntKind.i64.wrap (s : Int) = (s : Int) := by rw [IntKind.wrap_i64]; omega
  rw [← hs] at hu
  clear hR hb hl hx hs
  rcases hg with _ | _
  · have h9 : 9000 < s := hu.resolve_left (by decide)
    have b5 : decide ((9000 : Int) < (s : Int)) = true := by simp; omega
    clear hu
    go_enter Try.func9, Try.ntmps9
    go_wp2_with fail
    refine (unhide HB).mono ?_
    rintro e w1 ⟨⟨p, q, rfl, -, -, -, -⟩, f1⟩
    have HF1 := hide f1
    clear f1
    go_wp2_with (first | (go_at_call 43; refine (unhide HH _ (unhide HF1)).mono ?_; rintro e w2 ⟨rfl, rfl⟩) | (go_at_call 38; refine (live3_any _).mono ?_; rintro e w3 ⟨rfl, f3⟩))
    go_ret
    exact ⟨rfl, (unhide HF1).trans f3 (fun _ _ h => h)⟩
  · clear hu
    go_enter Try.func9, Try.ntmps9
    go_wp2_with fail
    refine (unhide HB).mono ?_
    rintro e w1 ⟨⟨p, q, rfl, -, -, -, -⟩, f1⟩
    have HF1 := hide f1
    clear f1
    go_wp2_with (first | (go_at_call 43; refine (unhide HH _ (unhide HF1)).mono ?_; rintro e w2 ⟨rfl, rfl⟩) | (go_at_call 38; refine (live3_any _).mono ?_; rintro e w3 ⟨rfl, f3⟩))
    go_ret
    exact ⟨rfl, (unhide HF1).trans f3 (fun _ _ h => h)⟩

set_option maxHeartbeats 4000000 in
set_option maxRecDepth 100000 in
theorem updWalk_ok (k m : Nat) (hk : 1 ≤ k ∧ k ≤ 16) (hm : m ≤ 8) (hR : RdL w v ls) (hl : Rd w lv l) (hx : Rd w xv x) (hll : ls.length ≤ 1048576) (hb : ∀ l ∈ ls, l.length ≤ 1048576) (hu : hugeB ls = false) (h9 : ¬ 9000 < l.length + x.length) :
    Calls Try.prog 9 #[.int .i64 (k : Int), .int .i64 (m : Int), v, .int .i64 a, lv, xv] w fun e w' => e = .returned (.bool true) ∧ Fr (fun _ => False) w w' := by
  have HB := hide (both_ok w k m hk hm)
  have HH := hide (fun W (f : Fr (fun _ => False) w W) => huge_any W v ls (hR.kept f) hll hb)
  rw [hu] at HH
  obtain ⟨hl1, hl2⟩ := hugeB_no hu
  have HW := hide hl2
  have HR := hide hR
  have Hl := hide hl
  have Hx := hide hx
  obtain ⟨ao, ac, rfl⟩ := hR.shape
  obtain ⟨lo, lc, rfl⟩ := hl.shape
  obtain ⟨xo, xc, rfl⟩ := hx.shape
  obtain ⟨s, hs⟩ : ∃ s, s = l.length + x.length := ⟨_, rfl⟩
  have es : (l.length : Int) + (x.length : Int) = (s : Int) := by omega
  have b4 : IntKind.i64.wrap (s : Int) = (s : Int) := by rw [IntKind.wrap_i64]; omega
  rw [← hs] at h9
  have b5 : decide ((9000 : Int) < (s : Int)) = false := by simp; omega
  have hll9 : l.length ≤ 9000 := by omega
  clear hR hb hu hl2 hl hx hs
  go_enter Try.func9, Try.ntmps9
  go_wp2_with fail
  refine (unhide HB).mono ?_
  rintro e w1 ⟨⟨cp, dp, rfl, hcp, hdp, hC, hD⟩, f1⟩
  have HC1 := hide hC
  have HD1 := hide hD
  have HF1 := hide f1
  clear f1 hC hD HB
  go_wp2_with (go_at_call 43; refine (unhide HH _ (unhide HF1)).mono ?_; rintro e w2 ⟨rfl, rfl⟩)
  have HLA := hide (lent_al w1 _ ls ((unhide HR).kept (unhide HF1)) (by omega) (unhide HW))
  refine (unhide HLA).mono ?_
  rintro e w2 ⟨⟨go, gc, rfl, hG⟩, f2⟩
  have HG2 := hide hG.ln
  have HF2 := hide f2
  have HEN := hide (update_any w2 cp k m _ _ _ ls l x a ((unhide HC1).kept f2 (fun _ _ h => h)) hG.ln.rdl ((unhide Hl).kept ((unhide HF1).trans f2 (fun _ _ h => h)) (fun _ _ h => h)) ((unhide Hx).kept ((unhide HF1).trans f2 (fun _ _ h => h)) (fun _ _ h => h)) (by omega))
  clear hG f2 HLA HH b5 es b4
  go_wp2_with fail
  refine (unhide HEN).mono ?_
  rintro e w3 ⟨⟨po, pn, pc, rfl, hP⟩, f3⟩
  have HP3 := hide hP
  have HS3 := hide f3
  have hF3 := ((unhide HF1).trans ((unhide HF2).trans f3 (fun _ _ h => h)) (fun _ _ h => h))
  have HRE := hide (rupdate_any w3 dp k m _ _ _ ls l x a ((unhide HD1).kept ((unhide HF2).trans f3 (fun _ _ h => h)) (fun h => h)) hk hm ((unhide HR).kept hF3) ((unhide Hl).kept hF3 (fun _ _ h => h)) ((unhide Hx).kept hF3 (fun _ _ h => h)) (by omega))
  clear hP f3 HEN hF3
  go_wp2_with fail
  refine (unhide HRE).mono ?_
  rintro e w4 ⟨⟨qo, qn, qc, rfl, hQ⟩, f4⟩
  have hen := upR_length k m ls a l x
  have HSM := hide (rsame_any w4 _ _ _ _ ((unhide HP3).kept f4).rdl hQ.rdl (by omega))
  rw [show decide (upR k m ls a l x = upR k m ls a l x) = true by simp] at HSM
  have HF4 := hide ((unhide HS3).trans f4 (fun _ _ h => h))
  have HP4 := hide ((unhide HP3).kept f4)
  clear hQ f4 HRE HP3 HS3 hen
  generalize upE k m ls a l x = ue at *
  go_wp2_with (first | (go_at_call 48; refine (num3_any _ _).mono ?_; rintro e w' ⟨rfl, rfl⟩) | (go_at_call 47; refine (unhide HSM).mono ?_; rintro e w5 ⟨rfl, f5⟩))
  have HF5 := hide ((unhide HF4).trans f5 (fun _ _ h => h))
  have HSP := hide (spoil_any w2.heap.size w5 _ _ ((unhide HP4).kept f5) (by have := upR_length k m ls a l x; omega) (upR_wid k m ls a l x (by omega)))
  clear f5 HSM HF4 HP4
  refine (unhide HSP).mono ?_
  rintro e w12 ⟨rfl, f12⟩
  have HF12 := hide ((unhide HF5).trans f12 (fun b hb h => by omega))
  have HSM := hide (rsame_any w12 _ _ _ _ ((unhide HG2).kept (unhide HF12)).rdl ((unhide HR).kept ((unhide HF1).trans ((unhide HF2).trans (unhide HF12) (fun _ _ h => h)) (fun _ _ h => h))) (by omega))
  rw [show decide (ls = ls) = true by simp] at HSM
  clear f12 HSP
  go_wp2_with (first
    | (go_at_call 47; refine (unhide HSM).mono ?_; rintro e w13 ⟨rfl, f13⟩)
    | (go_at_call 38; refine (live3_any _).mono ?_; rintro e w14 ⟨rfl, f14⟩))
  go_ret
  exact ⟨rfl, (unhide HF1).trans ((unhide HF2).trans ((unhide HF12).trans (f13.trans f14 (fun _ _ h => h)) (fun _ _ h => h)) (fun _ _ h => h)) (fun _ _ h => h)⟩
end

end Go.Proofs.Ytckmddkhkdcmmaa
