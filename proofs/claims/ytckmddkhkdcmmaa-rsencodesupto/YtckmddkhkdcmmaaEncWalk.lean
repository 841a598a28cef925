/-
  The walk of the law RsEncodes.
-/
import Derived.Test.YtckmddkhkdcmmaaRs20
import Derived.Test.YtckmddkhkdcmmaaLent
import Derived.Test.YtckmddkhkdcmmaaRs12
namespace Go.Proofs.Ytckmddkhkdcmmaa
open Go.RowKit
set_option linter.unusedVariables false

attribute [local go_sem ↓] Go.wp_at_zero Go.wp_at_succ

theorem rows_one1 {w : World} {vs : List Value} {ls : List (List UInt8)} (hl : vs.length = ls.length) (h : ∀ (i : Nat) (x : Value) (l : List UInt8), vs[i]? = some x → ls[i]? = some l → Rd w x l) (u : Value) (hu : u ∈ vs) : u.oneCell' = true := by
  obtain ⟨i, hi, rfl⟩ := List.getElem_of_mem hu
  obtain ⟨a, c, e⟩ := (h i _ (ls[i]'(by omega)) (List.getElem?_eq_getElem hi) (List.getElem?_eq_getElem (by omega))).shape
  rw [e]; rfl

theorem RdV.sr1 {w : World} {v : Value} {vs : List Value} (h : RdV w v vs) : Sr w 1 v vs.length vs := by
  rcases h with ⟨rfl, rfl⟩ | ⟨ad, cap, rfl, h1, h2, h3⟩
  · exact .inl ⟨rfl, rfl, rfl⟩
  · refine .inr ⟨ad, cap, rfl, by simp, fun j u hu => ?_⟩
    obtain ⟨hj, e⟩ := List.getElem?_eq_some_iff.1 hu
    rw [h3 j hj, e]

theorem okB_natE {k m : Int} (h : okB k m = true) : ∃ k' m' : Nat, k = (k' : Int) ∧ m = (m' : Int) ∧ (1 ≤ k' ∧ k' ≤ 16) ∧ m' ≤ 8 := by
  have h' : 1 ≤ k ∧ k ≤ 16 ∧ 0 ≤ m ∧ m ≤ 8 := by simpa [okB] using h
  exact ⟨k.toNat, m.toNat, by omega, by omega, by omega, by omega⟩

theorem encR_length (k m : Nat) (ls : List (List UInt8)) : (encR k m ls).length ≤ m := by
  unfold encR
  by_cases h : (shl ls (k : Int)).2 = 0
  · rw [if_pos h, encL_length]; omega
  · rw [if_neg h]; simp

theorem encR_wid (k m : Nat) (ls : List (List UInt8)) : ∀ l ∈ encR k m ls, l.length ≤ 100000 := by
  unfold encR
  intro l hl
  by_cases h : (shl ls (k : Int)).2 = 0
  · rw [if_pos h] at hl
    unfold encL at hl
    obtain ⟨p, -, rfl⟩ := List.mem_map.1 hl
    rw [mixL_length]
    have := (shl_ok h).2.2
    omega
  · rw [if_neg h] at hl; simp at hl

set_option maxHeartbeats 4000000 in
set_option maxRecDepth 100000 in
theorem encWalk_no (w : World) (k m : Int) (v : Value) (ls : List (List UInt8)) (h : okB k m = false) (hR : RdL w v ls) (hl : ls.length ≤ 1048576) (hb : ∀ l ∈ ls, l.length ≤ 1048576) : Calls Try.prog 7 #[.int .i64 k, .int .i64 m, v] w fun e w' => e = .returned (.bool true) ∧ Fr (fun _ => False) w w' := by
  have HB := hide (both_no w k m h)
  have HH := hide (huge_any w v ls hR hl hb)
  obtain ⟨ao, ac, rfl⟩ := hR.shape
  generalize hugeB ls = hu at *
  clear h hR hb
  rcases hu with _ | _
  all_goals
    go_enter Try.func7, Try.ntmps7
    go_wp2_with fail
    refine (unhide HB).mono ?_
    rintro e w1 ⟨rfl, rfl⟩
    go_wp2_with (first | (go_at_call 43; refine (unhide HH).mono ?_; rintro e w2 ⟨rfl, rfl⟩) | (go_at_call 38; refine (live3_any _).mono ?_; rintro e w3 ⟨rfl, f3⟩))
    go_ret
    exact ⟨rfl, f3⟩

set_option maxHeartbeats 4000000 in
set_option maxRecDepth 100000 in
theorem encWalk_huge (w : World) (k m : Nat) (hk : 1 ≤ k ∧ k ≤ 16) (hm : m ≤ 8) (v : Value) (ls : List (List UInt8)) (hR : RdL w v ls) (hl : ls.length ≤ 1048576) (hb : ∀ l ∈ ls, l.length ≤ 1048576) (hu : hugeB ls = true) : Calls Try.prog 7 #[.int .i64 (k : Int), .int .i64 (m : Int), v] w fun e w' => e = .returned (.bool true) ∧ Fr (fun _ => False) w w' := by
  have HB := hide (both_ok w k m hk hm)
  have HH := hide (fun W (f : Fr (fun _ => False) w W) => huge_any W v ls (hR.kept f) hl hb)
  rw [hu] at HH
  obtain ⟨ao, ac, rfl⟩ := hR.shape
  clear hR hb hu
  go_enter Try.func7, Try.ntmps7
  go_wp2_with fail
  refine (unhide HB).mono ?_
  rintro e w1 ⟨⟨p, q, rfl, -, -, -, -⟩, f1⟩
  have HF1 := hide f1
  clear f1
  go_wp2_with (first | (go_at_call 43; refine (unhide HH _ (unhide HF1)).mono ?_; rintro e w2 ⟨rfl, rfl⟩) | (go_at_call 38; refine (live3_any _).mono ?_; rintro e w3 ⟨rfl, f3⟩))
  go_ret
  exact ⟨rfl, (unhide HF1).trans f3 (fun _ _ h => h)⟩

set_option maxHeartbeats 4000000 in
set_option maxRecDepth 100000 in
theorem encWalk_ok (w : World) (k m : Nat) (hk : 1 ≤ k ∧ k ≤ 16) (hm : m ≤ 8) (v : Value) (ls : List (List UInt8)) (hR : RdL w v ls) (hl : ls.length ≤ 1048576) (hb : ∀ l ∈ ls, l.length ≤ 1048576) (hu : hugeB ls = false) : Calls Try.prog 7 #[.int .i64 (k : Int), .int .i64 (m : Int), v] w fun e w' => e = .returned (.bool true) ∧ Fr (fun _ => False) w w' := by
  have HB := hide (both_ok w k m hk hm)
  have HH := hide (fun W (f : Fr (fun _ => False) w W) => huge_any W v ls (hR.kept f) hl hb)
  rw [hu] at HH
  obtain ⟨hl1, hl2⟩ := hugeB_no hu
  have HW := hide hl2
  have HR := hide hR
  obtain ⟨ao, ac, rfl⟩ := hR.shape
  clear hR hb hu hl2
  go_enter Try.func7, Try.ntmps7
  go_wp2_with fail
  refine (unhide HB).mono ?_
  rintro e w1 ⟨⟨cp, dp, rfl, hcp, hdp, hC, hD⟩, f1⟩
  have HC1 := hide hC
  have HD1 := hide hD
  have HF1 := hide f1
  clear f1 hC hD HB
  go_wp2_with (go_at_call 43; refine (unhide HH _ (unhide HF1)).mono ?_; rintro e w2 ⟨rfl, rfl⟩)
  have HLA := hide (lent_al w1 _ ls ((unhide HR).kept (unhide HF1)) (by omega) (unhide HW))
  refine (unhide HLA).mono ?_
  rintro e w2 ⟨⟨go, gc, rfl, hG⟩, f2⟩
  have HG2 := hide hG.ln
  have HF2 := hide f2
  have HEN := hide (encode_any w2 cp k m _ ls ((unhide HC1).kept f2 (fun _ _ h => h)) hG.ln.rdl (by omega))
  clear hG f2 HLA HH
  go_wp2_with fail
  refine (unhide HEN).mono ?_
  rintro e w3 ⟨⟨po, pn, pc, rfl, hP⟩, f3⟩
  have HP3 := hide hP
  have HF3 := hide ((unhide HF2).trans f3 (fun _ _ h => h))
  have HS3 := hide f3
  have HRE := hide (rencode_any w3 dp k m _ ls ((unhide HD1).kept (unhide HF3) (fun h => h)) hk hm ((unhide HR).kept ((unhide HF1).trans (unhide HF3) (fun _ _ h => h))) (by omega))
  clear hP f3 HEN
  go_wp2_with fail
  refine (unhide HRE).mono ?_
  rintro e w4 ⟨⟨qo, qn, qc, rfl, hQ⟩, f4⟩
  have hqn : qn = (encR k m ls).length := by
    obtain ⟨_, _, e⟩ := hQ.rdl.shape
    simp only [Value.slice.injEq] at e
    exact e.2.1
  have hen := encR_length k m ls
  have HSM := hide (rsame_any w4 _ _ _ _ ((unhide HP3).kept f4).rdl hQ.rdl (by omega))
  rw [show decide (encR k m ls = encR k m ls) = true by simp] at HSM
  have HQN := hide hqn
  have HQ4 := hide hQ
  have HF4 := hide ((unhide HS3).trans f4 (fun _ _ h => h))
  have HP4 := hide ((unhide HP3).kept f4)
  clear hQ f4 HRE HP3 HF3 HS3 hqn hen
  go_wp2_with (first | (go_at_call 48; refine (num3_any _ _).mono ?_; rintro e w' ⟨rfl, rfl⟩) | (go_at_call 47; refine (unhide HSM).mono ?_; rintro e w5 ⟨rfl, f5⟩))
  have HF5 := hide ((unhide HF4).trans f5 (fun _ _ h => h))
  have HQ5 := hide ((unhide HQ4).kept f5)
  have HP5 := hide ((unhide HP4).kept f5)
  have HCK := hide (chk_any w5 cp k m _ ls ((unhide HC1).kept ((unhide HF2).trans (unhide HF5) (fun _ _ h => h)) (fun _ _ h => h)) ((unhide HG2).kept (unhide HF5)).rdl (by omega))
  clear f5 HSM HQ4 HF4 HP4
  refine (unhide HCK).mono ?_
  rintro e w6 ⟨rfl, f6⟩
  have HF6 := hide ((unhide HF5).trans f6 (fun _ _ h => h))
  have HQ6 := hide ((unhide HQ5).kept f6)
  have HP6 := hide ((unhide HP5).kept f6)
  have HRC := hide (rchk_any w6 dp k m _ ls ((unhide HD1).kept ((unhide HF2).trans (unhide HF6) (fun _ _ h => h)) (fun h => h)) hk hm ((unhide HR).kept ((unhide HF1).trans ((unhide HF2).trans (unhide HF6) (fun _ _ h => h)) (fun _ _ h => h))) (by omega))
  clear f6 HCK HQ5 HP5 HF5
  generalize chR k m ls = cb at *
  go_wp2_with fail
  refine (unhide HRC).mono ?_
  rintro e w7 ⟨rfl, f7⟩
  have HF7 := hide ((unhide HF6).trans f7 (fun _ _ h => h))
  have HQ7 := hide ((unhide HQ6).kept f7)
  have HP7 := hide ((unhide HP6).kept f7)
  have HLA := hide (lent_al w7 _ ls ((unhide HR).kept ((unhide HF1).trans ((unhide HF2).trans (unhide HF7) (fun _ _ h => h)) (fun _ _ h => h))) (by omega) (unhide HW))
  clear f7 HRC HQ6 HP6 HF6
  obtain ⟨inf, hi0, hz0, hz1, hz2⟩ := info_parts Try.info22
  have hq8 : qn ≤ 8 := by have := unhide HQN; have := encR_length k m ls; omega
  obtain ⟨vsQ, rvQ, lenQ, rowsQ, newQ⟩ := unhide HQ7
  have lQ : vsQ.length = qn := by rw [lenQ, unhide HQN]
  have oQ := rows_one1 lenQ (fun i x l hx hl => (rowsQ i x l hx hl).1)
  have HsQ := hide (show ∀ W, Fr (fun _ => False) w7 W → Sr W 1 (.slice qo qn qc) qn vsQ from fun W f => by have := (rvQ.kept f (fun _ _ h => h)).sr1; rwa [lQ] at this)
  have HrQ := hide rowsQ
  have HlQ := hide lQ
  clear rvQ lenQ rowsQ newQ lQ
  go_wp2_with (first
    | (go_at_call 48; refine (num3_any _ _).mono ?_; rintro e w' ⟨rfl, rfl⟩)
    | (go_at_call 44; refine (unhide HLA).mono ?_; rintro e w8 ⟨⟨ho, hc, rfl, hA⟩, f8⟩; obtain ⟨vs8, hO8, hl8, hr8⟩ := hA.ex; have HO8 := hide hO8; rw [hl8] at HO8; have HL8 := hide hl8; have HR8 := hide hr8; have HN8 := hide hA.new; have HF8 := hide f8; clear hA hO8 hl8 hr8 f8)
    | (at_builtin; refine wpList_app rfl (.tmp 91) (.tmp 92) 65 rfl 22 inf _ 1 24 Try.underlying65 hi0 hz0 hz1 hz2 rfl (by decide) (.slice ho ls.length hc) ls.length vs8 rfl (.slice qo qn qc) rfl qn vsQ (unhide HO8) (unhide HsQ _ (unhide HF8)) oQ (by omega) (by simp only [maxLen]; omega) ?_))
  intro ao9 ac9 w9 o9 g9 p9
  have f9 : Fr (fun _ => False) w7 w9 := grown_fr (unhide HF8) g9 (unhide HN8)
  have hall : RdL w9 (.slice ao9 (ls.length + qn) ac9) (ls ++ encR k m ls) := by
    refine ⟨vs8 ++ vsQ, RdV.of_owns (e := 22) (base := 0) (by rw [List.length_append, unhide HL8, unhide HlQ]; exact o9), by rw [List.length_append, List.length_append, unhide HL8, unhide HlQ, unhide HQN], fun i x l hx hl => ?_⟩
    by_cases e : i < ls.length
    · rw [List.getElem?_append_left (by rw [unhide HL8]; exact e)] at hx
      rw [List.getElem?_append_left e] at hl
      have f89 : Fr (fun k => (Value.slice ho ls.length hc).ownBlock = some k) w8 w9 := Fr.grown (S := fun k => (Value.slice ho ls.length hc).ownBlock = some k) (Fr.refl _ _) g9 (fun k hk e => e)
      have r := unhide HR8 i x l hx hl
      exact r.1.kept f89 (fun b hb' e' => TyAt.ne (r.2 b hb').2 (owns_ty (unhide HO8) e') (by decide) rfl)
    · rw [List.getElem?_append_right (by rw [unhide HL8]; omega), unhide HL8] at hx
      rw [List.getElem?_append_right (by omega)] at hl
      exact (unhide HrQ _ x l hx hl).1.kept f9 (fun _ _ h => h)
  have HAll := hide hall
  have HF9 := hide ((unhide HF7).trans f9 (fun _ _ h => h))
  have HP9 := hide ((unhide HP7).kept f9)
  have hal : (ls ++ encR k m ls).length ≤ 100000 := by rw [List.length_append, ← unhide HQN]; omega
  have HAL := hide hal
  have HCK := hide (chk_any w9 cp k m _ _ ((unhide HC1).kept ((unhide HF2).trans (unhide HF9) (fun _ _ h => h)) (fun _ _ h => h)) hall hal)
  clear hall hal o9 g9 p9 f9 HsQ HrQ HlQ HO8 HL8 HR8 HN8 HF8 HLA HF7 HP7 HQ7 oQ
  go_wp2_with fail
  refine (unhide HCK).mono ?_
  rintro e w10 ⟨rfl, f10⟩
  have HF10 := hide ((unhide HF9).trans f10 (fun _ _ h => h))
  have HP10 := hide ((unhide HP9).kept f10)
  have HRC := hide (rchk_any w10 dp k m _ _ ((unhide HD1).kept ((unhide HF2).trans (unhide HF10) (fun _ _ h => h)) (fun h => h)) hk hm ((unhide HAll).kept f10) (unhide HAL))
  clear f10 HCK HF9 HP9
  generalize chR k m (ls ++ encR k m ls) = cb2 at *
  go_wp2_with fail
  refine (unhide HRC).mono ?_
  rintro e w11 ⟨rfl, f11⟩
  have HF11 := hide ((unhide HF10).trans f11 (fun _ _ h => h))
  have HSP := hide (spoil_any w2.heap.size w11 _ _ ((unhide HP10).kept f11) (by have := encR_length k m ls; omega) (encR_wid k m ls))
  clear f11 HRC HF10 HP10
  go_wp2_with fail
  refine (unhide HSP).mono ?_
  rintro e w12 ⟨rfl, f12⟩
  have HF12 := hide ((unhide HF11).trans f12 (fun b hb h => by omega))
  have HSM := hide (rsame_any w12 _ _ _ _ ((unhide HG2).kept (unhide HF12)).rdl ((unhide HR).kept ((unhide HF1).trans ((unhide HF2).trans (unhide HF12) (fun _ _ h => h)) (fun _ _ h => h))) (by omega))
  rw [show decide (ls = ls) = true by simp] at HSM
  clear f12 HSP
  go_wp2_with (first
    | (go_at_call 48; refine (num3_any _ _).mono ?_; rintro e w' ⟨rfl, rfl⟩)
    | (go_at_call 47; refine (unhide HSM).mono ?_; rintro e w13 ⟨rfl, f13⟩)
    | (go_at_call 38; refine (live3_any _).mono ?_; rintro e w14 ⟨rfl, f14⟩))
  go_ret
  exact ⟨rfl, (unhide HF1).trans ((unhide HF2).trans ((unhide HF12).trans (f13.trans f14 (fun _ _ h => h)) (fun _ _ h => h)) (fun _ _ h => h)) (fun _ _ h => h)⟩

end Go.Proofs.Ytckmddkhkdcmmaa
