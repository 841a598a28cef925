/-
  The walk of the law RsSplits.
-/
import Derived.Test.YtckmddkhkdcmmaaRs26
import Derived.Test.YtckmddkhkdcmmaaRs27
import Derived.Test.YtckmddkhkdcmmaaRs28
import Derived.Test.YtckmddkhkdcmmaaLent
import Derived.Test.YtckmddkhkdcmmaaRs12
namespace Go.Proofs.Ytckmddkhkdcmmaa
open Go.RowKit
set_option linter.unusedVariables false

attribute [local go_sem ↓] Go.wp_at_zero Go.wp_at_succ

theorem okB_nat4 {k m : Int} (h : okB k m = true) : ∃ k' m' : Nat, k = (k' : Int) ∧ m = (m' : Int) ∧ (1 ≤ k' ∧ k' ≤ 16) ∧ m' ≤ 8 := by
  have h' : 1 ≤ k ∧ k ≤ 16 ∧ 0 ≤ m ∧ m ≤ 8 := by simpa [okB] using h
  exact ⟨k.toNat, m.toNat, by omega, by omega, by omega, by omega⟩

theorem splL_flat (k n : Nat) (l : List UInt8) : (splL k n l).flatten = (List.range (k * n)).map (gt l) := by
  induction k with
  | zero => simp [splL]
  | succ k ih =>
    have e : splL (k + 1) n l = splL k n l ++ [spl n l k] := by simp [splL, List.range_succ]
    rw [e, List.flatten_append, ih, List.flatten_singleton, Nat.succ_mul, List.range_add, List.map_append, List.map_map]
    rfl

theorem spN_le {k : Nat} (hk : 1 ≤ k) (l : List UInt8) : l.length ≤ k * spN k l := by
  unfold spN
  have h1 := Nat.div_add_mod (l.length + k - 1) k
  have h2 := Nat.mod_lt (l.length + k - 1) (show k > 0 by omega)
  omega

theorem splL_back {k n : Nat} {l : List UInt8} (h : l.length ≤ k * n) : (splL k n l).flatten.take l.length = l := by
  rw [splL_flat]
  apply List.ext_getElem
  · simp; omega
  · intro i h1 h2
    rw [List.getElem_take, List.getElem_map, List.getElem_range, gt_of h2]

theorem splL_one {k n : Nat} (hk : 1 ≤ k) (l : List UInt8) : oneL (splL k n l) (k : Int) = (n, true) := by
  have hw : ∀ y ∈ splL k n l, y.length = n := fun y hy => by
    unfold splL at hy
    obtain ⟨i, -, rfl⟩ := List.mem_map.1 hy
    exact spl_length n l i
  have hh : ((splL k n l).headD []).length = n := by
    have hlen := splL_length k n l
    cases e : splL k n l with
    | nil => rw [e] at hlen; simp at hlen; omega
    | cons a t => rw [List.headD_cons]; exact hw a (by rw [e]; exact List.mem_cons_self ..)
  unfold oneL
  rw [if_pos ⟨by rw [splL_length], fun y hy => by rw [hh]; exact hw y hy⟩, hh]

theorem spl_join {k : Nat} (hk : 1 ≤ k) (l : List UInt8) : joR k (splL k (spN k l) l) (l.length : Int) = l ∧ joE k (splL k (spN k l) l) (l.length : Int) = 0 := by
  have hle := spN_le hk l
  have hb : joB k (splL k (spN k l) l) (l.length : Int) = true := by
    unfold joB
    rw [splL_one hk]
    simp
    exact_mod_cast hle
  unfold joR joE
  rw [if_pos hb, if_pos hb, Int.toNat_natCast]
  exact ⟨splL_back hle, rfl⟩

theorem sumL_flat (ls : List (List UInt8)) : sumL ls ls.length = ls.flatten.length := by
  unfold sumL
  rw [List.take_length, List.length_flatten]

theorem huge_one {ls : List (List UInt8)} {k : Nat} (hk : k ≤ 16) (h : hugeB ls = false) : k * (oneL ls (k : Int)).1 ≤ 100000 := by
  rcases hb : (oneL ls (k : Int)).2 with _ | _
  · unfold oneL at hb ⊢
    by_cases h1 : (ls.length : Int) = (k : Int) ∧ ∀ l ∈ ls, l.length = (ls.headD []).length
    · rw [if_pos h1] at hb; simp at hb
    · rw [if_neg h1]; simp
  · rw [← (oneL_flat hb).1, ← sumL_flat]
    unfold hugeB at h
    rw [Bool.or_eq_false_iff] at h
    have h1 : ls.length ≤ 30 := by simpa using h.1
    have h2 : sumL ls (min ls.length 31) ≤ 9000 := by simpa using h.2
    rw [show min ls.length 31 = ls.length by omega] at h2
    omega

theorem spR_length (k : Nat) (l : List UInt8) : (spR k l).length ≤ k := by
  unfold spR
  split
  · rw [splL_length]; omega
  · simp

theorem spR_wid (k : Nat) (l : List UInt8) : ∀ y ∈ spR k l, y.length ≤ 100000 := by
  unfold spR
  intro y hy
  by_cases hn : spN k l ≤ 4096
  · rw [if_pos hn] at hy
    unfold splL at hy
    obtain ⟨i, -, rfl⟩ := List.mem_map.1 hy
    rw [spl_length]; omega
  · rw [if_neg hn] at hy; simp at hy

section
variable (w : World) (v lv : Value) (ls : List (List UInt8)) (l : List UInt8) (a : Int)

set_option maxHeartbeats 4000000 in
set_option maxRecDepth 100000 in
theorem splWalk_no (k m : Int) (h : okB k m = false) (hR : RdL w v ls) (hl : Rd w lv l) (hll : ls.length ≤ 1048576) (hb : ∀ l ∈ ls, l.length ≤ 1048576) (hlb : l.length ≤ 1048576) :
    Calls Try.prog 10 #[.int .i64 k, .int .i64 m, lv, v, .int .i64 a] w fun e w' => e = .returned (.bool true) ∧ Fr (fun _ => False) w w' := by
  have HB := hide (both_no w k m h)
  have HH := hide (huge_any w v ls hR hll hb)
  obtain ⟨ao, ac, rfl⟩ := hR.shape
  obtain ⟨lo, lc, rfl⟩ := hl.shape
  generalize hugeB ls = hu at *
  clear h hR hb hl
  rcases hu with _ | _
  · by_cases h9 : 69632 < l.length
    · have b5 : decide ((69632 : Int) < (l.length : Int)) = true := by simp; omega
      go_enter Try.func10, Try.ntmps10
      go_wp2_with fail
      refine (unhide HB).mono ?_
      rintro e w1 ⟨rfl, rfl⟩
      go_wp2_with (first | (go_at_call 43; refine (unhide HH).mono ?_; rintro e w2 ⟨rfl, rfl⟩) | (go_at_call 38; refine (live3_any _).mono ?_; rintro e w3 ⟨rfl, f3⟩))
      go_ret
      exact ⟨rfl, f3⟩
    · have b5 : decide ((69632 : Int) < (l.length : Int)) = false := by simp; omega
      go_enter Try.func10, Try.ntmps10
      go_wp2_with fail
      refine (unhide HB).mono ?_
      rintro e w1 ⟨rfl, rfl⟩
      go_wp2_with (first | (go_at_call 43; refine (unhide HH).mono ?_; rintro e w2 ⟨rfl, rfl⟩) | (go_at_call 38; refine (live3_any _).mono ?_; rintro e w3 ⟨rfl, f3⟩))
      go_ret
      exact ⟨rfl, f3⟩
  · go_enter Try.func10, Try.ntmps10
    go_wp2_with fail
    refine (unhide HB).mono ?_
    rintro e w1 ⟨rfl, rfl⟩
    go_wp2_with (first | (go_at_call 43; refine (unhide HH).mono ?_; rintro e w2 ⟨rfl, rfl⟩) | (go_at_call 38; refine (live3_any _).mono ?_; rintro e w3 ⟨rfl, f3⟩))
    go_ret
    exact ⟨rfl, f3⟩

set_option maxHeartbeats 4000000 in
set_option maxRecDepth 100000 in
theorem splWalk_huge (k m : Nat) (hk : 1 ≤ k ∧ k ≤ 16) (hm : m ≤ 8) (hR : RdL w v ls) (hl : Rd w lv l) (hll : ls.length ≤ 1048576) (hb : ∀ l ∈ ls, l.length ≤ 1048576) (hlb : l.length ≤ 1048576) (hu : hugeB ls = true ∨ 69632 < l.length) :
    Calls Try.prog 10 #[.int .i64 (k : Int), .int .i64 (m : Int), lv, v, .int .i64 a] w fun e w' => e = .returned (.bool true) ∧ Fr (fun _ => False) w w' := by
  have HB := hide (both_ok w k m hk hm)
  have HH := hide (fun W (f : Fr (fun _ => False) w W) => huge_any W v ls (hR.kept f) hll hb)
  obtain ⟨ao, ac, rfl⟩ := hR.shape
  obtain ⟨lo, lc, rfl⟩ := hl.shape
  generalize hugeB ls = hg at *
  clear hR hb hl
  rcases hg with _ | _
  · have h9 : 69632 < l.length := hu.resolve_left (by decide)
    have b5 : decide ((69632 : Int) < (l.length : Int)) = true := by simp; omega
    clear hu
    go_enter Try.func10, Try.ntmps10
    go_wp2_with fail
    refine (unhide HB).mono ?_
    rintro e w1 ⟨⟨p, q, rfl, -, -, -, -⟩, f1⟩
    have HF1 := hide f1
    clear f1
    go_wp2_with (first | (go_at_call 43; refine (unhide HH _ (unhide HF1)).mono ?_; rintro e w2 ⟨rfl, rfl⟩) | (go_at_call 38; refine (live3_any _).mono ?_; rintro e w3 ⟨rfl, f3⟩))
    go_ret
    exact ⟨rfl, (unhide HF1).trans f3 (fun _ _ h => h)⟩
  · clear hu
    go_enter Try.func10, Try.ntmps10
    go_wp2_with fail
    refine (unhide HB).mono ?_
    rintro e w1 ⟨⟨p, q, rfl, -, -, -, -⟩, f1⟩
    have HF1 := hide f1
    clear f1
    go_wp2_with (first | (go_at_call 43; refine (unhide HH _ (unhide HF1)).mono ?_; rintro e w2 ⟨rfl, rfl⟩) | (go_at_call 38; refine (live3_any _).mono ?_; rintro e w3 ⟨rfl, f3⟩))
    go_ret
    exact ⟨rfl, (unhide HF1).trans f3 (fun _ _ h => h)⟩

set_option maxHeartbeats 8000000 in
set_option maxRecDepth 100000 in
theorem splWalk_ok (k m : Nat) (hk : 1 ≤ k ∧ k ≤ 16) (hm : m ≤ 8) (hR : RdL w v ls) (hl : Rd w lv l) (hll : ls.length ≤ 1048576) (hb : ∀ l ∈ ls, l.length ≤ 1048576) (hu : hugeB ls = false) (h9 : ¬ 69632 < l.length) :
    Calls Try.prog 10 #[.int .i64 (k : Int), .int .i64 (m : Int), lv, v, .int .i64 a] w fun e w' => e = .returned (.bool true) ∧ Fr (fun _ => False) w w' := by
  have HB := hide (both_ok w k m hk hm)
  have HH := hide (fun W (f : Fr (fun _ => False) w W) => huge_any W v ls (hR.kept f) hll hb)
  have HJB := hide (huge_one hk.2 hu)
  rw [hu] at HH
  obtain ⟨hl1, hl2⟩ := hugeB_no hu
  have HW := hide hl2
  have HR := hide hR
  have Hl := hide hl
  obtain ⟨ao, ac, rfl⟩ := hR.shape
  obtain ⟨lo, lc, rfl⟩ := hl.shape
  have b5 : decide ((69632 : Int) < (l.length : Int)) = false := by simp; omega
  obtain ⟨inf5, hi5, hy0, hy1, hy2⟩ := info_parts Try.info5
  clear hR hb hu hl2 hl
  go_enter Try.func10, Try.ntmps10
  go_wp2_with fail
  refine (unhide HB).mono ?_
  rintro e w1 ⟨⟨cp, dp, rfl, hcp, hdp, hC, hD⟩, f1⟩
  have HC1 := hide hC
  have HD1 := hide hD
  have HF1 := hide f1
  have HSX := hide (show Sr (w1.alloc (Obj.cells #[] 5)) 1 (.slice lo l.length lc) l.length (bvs l) from Rd.sr (((unhide Hl).kept f1 (fun _ _ h => h)).kept ((Fr.refl (fun _ => False) w1).alloc (Obj.cells #[] 5)) (fun _ _ h => h)))
  clear f1 hC hD HB
  go_wp2_with (first
    | (go_at_call 43; refine (unhide HH _ (unhide HF1)).mono ?_; rintro e w2 ⟨rfl, rfl⟩)
    | (at_builtin; refine wpList_app rfl (.tmp 51) (.tmp 52) 22 rfl 5 inf5 _ 1 1 Try.underlying22 hi5 hy0 hy1 hy2 rfl (by decide) (.slice (some ⟨w1.heap.size, 0, none⟩) 0 0) 0 [] rfl (.slice lo l.length lc) rfl l.length (bvs l) (owns_new (heap_alloc_new w1 _)) (unhide HSX) (bvs_one _) (by omega) (by simp only [maxLen]; omega) ?_))
  intro go gc w2 o2 g2 p2
  have f2 := grown_fr (wr := w1) ((Fr.refl _ _).alloc _) g2 (fun k hk => by simp [Value.ownBlock] at hk; omega)
  obtain ⟨g1, rfl⟩ : ∃ g1, go = some ⟨g1, 0, none⟩ := by
    rcases o2.2 with ⟨hv, -⟩ | ⟨g, _, _, hv, -⟩
    · rw [hv] at p2; simp [Value.ownBlock] at p2
    · simp only [Value.slice.injEq] at hv; exact ⟨g, hv.1⟩
  have hR2 : Rd w2 (.slice (some ⟨g1, 0, none⟩) l.length gc) l := Rd.of_owns (base := 0) o2
  have HR2 := hide hR2
  have HF2 := hide f2
  have HF02 := hide ((unhide HF1).trans f2 (fun _ _ h => h))
  have HSP := hide (split_any w2 cp k m g1 0 gc l ((unhide HC1).kept f2 (fun _ _ h => h)) hR2 (by omega))
  clear o2 g2 p2 f2 hR2 HSX HH b5
  by_cases hn : spN k l ≤ 4096
  · skip
    have hE : spE k l = 0 := by unfold spE; rw [if_pos hn]
    rw [hE] at HSP
    go_wp2_with fail
    refine (unhide HSP).mono ?_
    rintro e w3 ⟨⟨po, pn, pc, rfl, hP⟩, f3⟩
    have HP3 := hide hP
    have HLS := hide (LS.of_ln hP)
    have HF3 := hide f3
    have HF03 := hide ((unhide HF02).trans f3 (fun _ _ h => h))
    have HRE := hide (rsplit_any w3 dp k m _ l ((unhide HD1).kept ((unhide HF2).trans f3 (fun _ _ h => h)) (fun h => h)) hk ((unhide Hl).kept (unhide HF03) (fun _ _ h => h)) (by omega))
    rw [hE] at HRE
    clear hP f3 HSP hE
    go_wp2_with fail
    refine (unhide HRE).mono ?_
    rintro e w4 ⟨⟨qo, qn, qc, rfl, hQ⟩, f4⟩
    have hen := spR_length k l
    have HSM := hide (rsame_any w4 _ _ _ _ ((unhide HP3).kept f4).rdl hQ.rdl (by omega))
    rw [show decide (spR k l = spR k l) = true by simp] at HSM
    have HF4 := hide f4
    clear hQ f4 HRE hen
    go_wp2_with fail
    refine (unhide HSM).mono ?_
    rintro e w5 ⟨rfl, f5⟩
    have HF5 := hide ((unhide HF4).trans f5 (fun _ _ h => h))
    have hspR : spR k l = splL k (spN k l) l := by unfold spR; rw [if_pos hn]
    have HJ := hide (join_any w5 cp k m _ (spR k l) (l.length : Int) ((unhide HC1).kept (((unhide HF2).trans (unhide HF3) (fun _ _ h => h)).trans (unhide HF5) (fun _ _ h => h)) (fun _ _ h => h)) ((unhide HP3).kept (unhide HF5)).rdl (by have := spR_length k l; omega) (by rw [hspR, splL_one hk.1]; have := Nat.mul_le_mul hk.2 hn; simp only; omega))
    have ej1 : joR k (spR k l) (l.length : Int) = l := by rw [hspR]; exact (spl_join hk.1 l).1
    have ej2 : joE k (spR k l) (l.length : Int) = 0 := by rw [hspR]; exact (spl_join hk.1 l).2
    rw [ej1, ej2] at HJ
    clear hspR f5 ej1 ej2
    go_wp2_with (go_at_call 48; refine (num3_any _ _).mono ?_; rintro e w' ⟨rfl, rfl⟩)
    refine (unhide HJ).mono ?_
    rintro e w6 ⟨⟨jo, jc, rfl, hRJ, -⟩, f6⟩
    have HF6 := hide ((unhide HF5).trans f6 (fun _ _ h => h))
    have k1 := conv_rd (P := Try.prog) hRJ 22 9 5 Try.underlying22 Try.underlying5 Try.underlying9
    have k2 := conv_rd (P := Try.prog) ((unhide Hl).kept ((unhide HF03).trans (unhide HF6) (fun _ _ h => h)) (fun _ _ h => h)) 22 9 5 Try.underlying22 Try.underlying5 Try.underlying9
    clear hRJ f6
    go_wp2_with (go_at_call 48; refine (num3_any _ _).mono ?_; rintro e w' ⟨rfl, rfl⟩)
    clear k1 k2
    have HF7 := hide (unhide HF6)
    have HLA := hide (lent_al w6 _ ls ((unhide HR).kept ((unhide HF03).trans (unhide HF7) (fun _ _ h => h))) (by omega) (unhide HW))
    refine (unhide HLA).mono ?_
    rintro e w8 ⟨⟨ho, hc, rfl, hA⟩, f8⟩
    have HF8 := hide ((unhide HF7).trans f8 (fun _ _ h => h))
    have hs3 := (unhide HF8).size
    have HJ2 := hide (join_any w8 cp k m _ ls a ((unhide HC1).kept (((unhide HF2).trans (unhide HF3) (fun _ _ h => h)).trans (unhide HF8) (fun _ _ h => h)) (fun _ _ h => h)) hA.ln.rdl (by omega) (unhide HJB))
    clear hA f8 HLA
    go_wp2_with fail
    refine (unhide HJ2).mono ?_
    rintro e w9 ⟨⟨ja, jac, rfl, hRa, hna⟩, f9⟩
    have HF9 := hide ((unhide HF8).trans f9 (fun _ _ h => h))
    have hs8 := f9.size
    have HJ3 := hide (rjoin_any w9 dp k m _ ls a ((unhide HD1).kept (((unhide HF2).trans (unhide HF3) (fun _ _ h => h)).trans (unhide HF9) (fun _ _ h => h)) (fun h => h)) hk ((unhide HR).kept ((unhide HF03).trans (unhide HF9) (fun _ _ h => h))) (by omega) (unhide HJB))
    have HRa := hide hRa
    have HNa := hide hna
    clear hRa hna f9 HJ2
    go_wp2_with fail
    refine (unhide HJ3).mono ?_
    rintro e w10 ⟨⟨jb, jbc, rfl, hRb, hnb⟩, f10⟩
    have HF10 := hide ((unhide HF9).trans f10 (fun _ _ h => h))
    have HSPL := hide (spoil_ls _ w10 _ _ ((unhide HLS).kept (unhide HF10)) (by have := spR_length k l; omega) (spR_wid k l))
    have HRa2 := hide ((unhide HRa).kept f10 (fun _ _ h => h))
    have HRb := hide hRb
    have HNb := hide hnb
    clear hRb hnb f10 HJ3 HRa
    generalize joR k ls a = jr at *
    generalize joE k ls a = je at *
    go_wp2_with fail
    refine (unhide HSPL).mono ?_
    rintro e w11 ⟨rfl, f11⟩
    have F211 := ((unhide HF3).trans (unhide HF10) (fun _ _ h => h)).trans f11 (fun b hb h => absurd h.1 (by omega))
    have HF11 := hide ((unhide HF02).trans F211 (fun _ _ h => h))
    have q1 := conv_rd (P := Try.prog) ((unhide HRa2).kept f11 (fun b hb h => by have := unhide HNa b hb; omega)) 22 9 5 Try.underlying22 Try.underlying5 Try.underlying9
    have q2 := conv_rd (P := Try.prog) ((unhide HRb).kept f11 (fun b hb h => by have := unhide HNb b hb; omega)) 22 9 5 Try.underlying22 Try.underlying5 Try.underlying9
    have q3 := conv_rd (P := Try.prog) ((unhide HR2).kept F211 (fun _ _ h => h)) 22 9 5 Try.underlying22 Try.underlying5 Try.underlying9
    have q4 := conv_rd (P := Try.prog) ((unhide Hl).kept (unhide HF11) (fun _ _ h => h)) 22 9 5 Try.underlying22 Try.underlying5 Try.underlying9
    clear f11 F211 HSPL
    go_wp2_with (first
      | (go_at_call 48; refine (num3_any _ _).mono ?_; rintro e w' ⟨rfl, rfl⟩)
      | (go_at_call 38; refine (live3_any _).mono ?_; rintro e w14 ⟨rfl, f14⟩))
    go_ret
    exact ⟨rfl, (unhide HF11).trans f14 (fun _ _ h => h)⟩
  · skip
    have hE : spE k l = 1 := by unfold spE; rw [if_neg hn]
    rw [hE] at HSP
    go_wp2_with fail
    refine (unhide HSP).mono ?_
    rintro e w3 ⟨⟨po, pn, pc, rfl, hP⟩, f3⟩
    have HP3 := hide hP
    have HLS := hide (LS.of_ln hP)
    have HF3 := hide f3
    have HF03 := hide ((unhide HF02).trans f3 (fun _ _ h => h))
    have HRE := hide (rsplit_any w3 dp k m _ l ((unhide HD1).kept ((unhide HF2).trans f3 (fun _ _ h => h)) (fun h => h)) hk ((unhide Hl).kept (unhide HF03) (fun _ _ h => h)) (by omega))
    rw [hE] at HRE
    clear hP f3 HSP hE
    go_wp2_with fail
    refine (unhide HRE).mono ?_
    rintro e w4 ⟨⟨qo, qn, qc, rfl, hQ⟩, f4⟩
    have hen := spR_length k l
    have HSM := hide (rsame_any w4 _ _ _ _ ((unhide HP3).kept f4).rdl hQ.rdl (by omega))
    rw [show decide (spR k l = spR k l) = true by simp] at HSM
    have HF4 := hide f4
    clear hQ f4 HRE hen
    go_wp2_with (first | (go_at_call 48; refine (num3_any _ _).mono ?_; rintro e w' ⟨rfl, rfl⟩) | (go_at_call 47; refine (unhide HSM).mono ?_; rintro e w6 ⟨rfl, f5⟩; have HF7 := hide ((unhide HF4).trans f5 (fun _ _ h => h))))
    have HLA := hide (lent_al w6 _ ls ((unhide HR).kept ((unhide HF03).trans (unhide HF7) (fun _ _ h => h))) (by omega) (unhide HW))
    refine (unhide HLA).mono ?_
    rintro e w8 ⟨⟨ho, hc, rfl, hA⟩, f8⟩
    have HF8 := hide ((unhide HF7).trans f8 (fun _ _ h => h))
    have hs3 := (unhide HF8).size
    have HJ2 := hide (join_any w8 cp k m _ ls a ((unhide HC1).kept (((unhide HF2).trans (unhide HF3) (fun _ _ h => h)).trans (unhide HF8) (fun _ _ h => h)) (fun _ _ h => h)) hA.ln.rdl (by omega) (unhide HJB))
    clear hA f8 HLA
    go_wp2_with fail
    refine (unhide HJ2).mono ?_
    rintro e w9 ⟨⟨ja, jac, rfl, hRa, hna⟩, f9⟩
    have HF9 := hide ((unhide HF8).trans f9 (fun _ _ h => h))
    have hs8 := f9.size
    have HJ3 := hide (rjoin_any w9 dp k m _ ls a ((unhide HD1).kept (((unhide HF2).trans (unhide HF3) (fun _ _ h => h)).trans (unhide HF9) (fun _ _ h => h)) (fun h => h)) hk ((unhide HR).kept ((unhide HF03).trans (unhide HF9) (fun _ _ h => h))) (by omega) (unhide HJB))
    have HRa := hide hRa
    have HNa := hide hna
    clear hRa hna f9 HJ2
    go_wp2_with fail
    refine (unhide HJ3).mono ?_
    rintro e w10 ⟨⟨jb, jbc, rfl, hRb, hnb⟩, f10⟩
    have HF10 := hide ((unhide HF9).trans f10 (fun _ _ h => h))
    have HSPL := hide (spoil_ls _ w10 _ _ ((unhide HLS).kept (unhide HF10)) (by have := spR_length k l; omega) (spR_wid k l))
    have HRa2 := hide ((unhide HRa).kept f10 (fun _ _ h => h))
    have HRb := hide hRb
    have HNb := hide hnb
    clear hRb hnb f10 HJ3 HRa
    generalize joR k ls a = jr at *
    generalize joE k ls a = je at *
    go_wp2_with fail
    refine (unhide HSPL).mono ?_
    rintro e w11 ⟨rfl, f11⟩
    have F211 := ((unhide HF3).trans (unhide HF10) (fun _ _ h => h)).trans f11 (fun b hb h => absurd h.1 (by omega))
    have HF11 := hide ((unhide HF02).trans F211 (fun _ _ h => h))
    have q1 := conv_rd (P := Try.prog) ((unhide HRa2).kept f11 (fun b hb h => by have := unhide HNa b hb; omega)) 22 9 5 Try.underlying22 Try.underlying5 Try.underlying9
    have q2 := conv_rd (P := Try.prog) ((unhide HRb).kept f11 (fun b hb h => by have := unhide HNb b hb; omega)) 22 9 5 Try.underlying22 Try.underlying5 Try.underlying9
    have q3 := conv_rd (P := Try.prog) ((unhide HR2).kept F211 (fun _ _ h => h)) 22 9 5 Try.underlying22 Try.underlying5 Try.underlying9
    have q4 := conv_rd (P := Try.prog) ((unhide Hl).kept (unhide HF11) (fun _ _ h => h)) 22 9 5 Try.underlying22 Try.underlying5 Try.underlying9
    clear f11 F211 HSPL
    go_wp2_with (first
      | (go_at_call 48; refine (num3_any _ _).mono ?_; rintro e w' ⟨rfl, rfl⟩)
      | (go_at_call 38; refine (live3_any _).mono ?_; rintro e w14 ⟨rfl, f14⟩))
    go_ret
    exact ⟨rfl, (unhide HF11).trans f14 (fun _ _ h => h)⟩
end

end Go.Proofs.Ytckmddkhkdcmmaa
