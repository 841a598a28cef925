/-
  The walk of the law RsRebuilds, and its proof, over arguments of a bounded bulk.
-/
import Derived.Test.YtckmddkhkdcmmaaRr3
import Derived.Test.YtckmddkhkdcmmaaLent
import Derived.Test.YtckmddkhkdcmmaaRs12
import Derived.Test.YtckmddkhkdcmmaaArg
import Derived.WalkKit
import Derived.JoinedCond
namespace Go.Proofs.Ytckmddkhkdcmmaa
open Go.RowKit
set_option linter.unusedVariables false

attribute [local go_sem ↓] Go.wp_at_zero Go.wp_at_succ

theorem info4R : (Try.prog.info? 4).map (fun i => (i.zero, i.size, i.bytes)) = some (some (.bool false), 1, 1) := by kernel_rfl

theorem owns_newR {w : World} {b : Nat} {e : TypeId} (hb : w.heap[b]? = some (.cells #[] e (0, 0))) : w.ownsRow 0 e 1 (.slice (some ⟨b, 0, none⟩) 0 0) 0 [] :=
  ⟨rfl, .inr ⟨b, 0, #[], rfl, Nat.zero_le _, hb, Nat.le_refl _, by simp [maxLen], rfl, rfl⟩⟩

theorem RdV.srR {w : World} {v : Value} {vs : List Value} (h : RdV w v vs) : Sr w 1 v vs.length vs := by
  rcases h with ⟨rfl, rfl⟩ | ⟨ad, cap, rfl, h1, h2, h3⟩
  · exact .inl ⟨rfl, rfl, rfl⟩
  · refine .inr ⟨ad, cap, rfl, by simp, fun j u hu => ?_⟩
    obtain ⟨hj, e⟩ := List.getElem?_eq_some_iff.1 hu
    rw [h3 j hj, e]

theorem okB_natR {k m : Int} (h : okB k m = true) : ∃ k' m' : Nat, k = (k' : Int) ∧ m = (m' : Int) ∧ (1 ≤ k' ∧ k' ≤ 16) ∧ m' ≤ 8 := by
  have h' : 1 ≤ k ∧ k ≤ 16 ∧ 0 ≤ m ∧ m ≤ 8 := by simpa [okB] using h
  exact ⟨k.toNat, m.toNat, by omega, by omega, by omega, by omega⟩

theorem rebR_length (k m : Nat) (ls : List (List UInt8)) (bs : List Bool) : (rebR k m ls bs).length ≤ k + m := by
  unfold rebR
  split
  · rw [rebL_length]; omega
  · simp

theorem rebR_wid (k m : Nat) (ls : List (List UInt8)) (bs : List Bool) (hw : ∀ l ∈ ls, l.length ≤ 9000) : ∀ l ∈ rebR k m ls bs, l.length ≤ 100000 := by
  unfold rebR
  intro l hl'
  split at hl'
  · rename_i h
    unfold rebL at hl'
    obtain ⟨i, -, rfl⟩ := List.mem_map.1 hl'
    split
    · rcases hc : ls[i]? with _ | x
      · simp
      · have := hw x (List.mem_of_getElem? hc)
        simp only [Option.getD_some]
        omega
    · rw [mixL_length]
      have := (shl_ok h.2.2.1).2.2
      omega
  · simp at hl'

theorem rreb_any (w : World) (p k m : Nat) (v hv : Value) (ls : List (List UInt8)) (bs : List Bool) (hD : DAt w p k m) (hk : 1 ≤ k ∧ k ≤ 16) (hm : m ≤ 8) (h : RdL w v ls) (hb : RdV w hv (bs.map Value.bool)) (hl1 : ls.length ≤ 100000) (hl2 : bs.length ≤ 100000) :
    Calls Try.prog 53 #[.pointer (some ⟨p, 0, none⟩), v, hv] w fun e w' => (∃ po pn pc, e = .returned (.tuple #[.slice po pn pc, .int .i64 (rebE k m ls bs)]) ∧ LN w.heap.size w' (.slice po pn pc) (rebR k m ls bs)) ∧ Fr (fun _ => False) w w' := by
  by_cases hn : ls.length = k + m ∧ bs.length = k + m
  · exact rreb_len w p k m v hv ls bs hD hk hm h hb hn.1 hn.2
  · exact rreb_no w p k m v hv ls bs hD hk hm h hb hl1 hl2 hn

theorem reb_any (w : World) (p k m : Nat) (v hv : Value) (ls : List (List UInt8)) (bs : List Bool) (hC : CAt w p k m) (h : RdL w v ls) (hb : RdV w hv (bs.map Value.bool)) :
    Calls Try.prog 52 #[.pointer (some ⟨p, 0, none⟩), v, hv] w fun e w' => (∃ po pn pc, e = .returned (.tuple #[.slice po pn pc, .int .i64 (rebE k m ls bs)]) ∧ LN w.heap.size w' (.slice po pn pc) (rebR k m ls bs)) ∧ Fr (fun _ => False) w w' := by
  by_cases hn : ls.length = k + m ∧ bs.length = k + m
  · by_cases he : (shl (hl ls bs) ((wl bs).length : Int)).2 = 0
    · by_cases hf : (wl bs).length < k
      · obtain ⟨e1, e2⟩ := reb_few hn he hf
        rw [e1, e2]
        refine (rebuild_few w p k m v hv ls bs hC h hb hn.1 hn.2 he hf).mono ?_
        rintro e w' ⟨rfl, f⟩
        exact ⟨⟨none, 0, 0, rfl, LN.none _ _⟩, f⟩
      · obtain ⟨e1, e2⟩ := reb_good hn he (by omega)
        rw [e1, e2]
        refine (rebuild_ok w p k m v hv ls bs hC h hb hn.1 hn.2 he (by omega)).mono ?_
        rintro e w' ⟨⟨g, rfl, hL⟩, f⟩
        exact ⟨⟨_, _, _, rfl, hL⟩, f⟩
    · obtain ⟨e1, e2⟩ := reb_bad hn he
      rw [e1, e2]
      refine (rebuild_len w p k m v hv ls bs hC h hb hn.1 hn.2 he).mono ?_
      rintro e w' ⟨rfl, f⟩
      exact ⟨⟨none, 0, 0, rfl, LN.none _ _⟩, f⟩
  · obtain ⟨e1, e2⟩ := reb_nolen hn
    rw [e1, e2]
    obtain ⟨vo, vc, rfl⟩ := h.shape
    obtain ⟨bo, bc, rfl⟩ := hb.shape
    rw [List.length_map]
    refine (rebuild_arg w p k m vo bo _ vc _ bc hC (by omega)).mono ?_
    rintro e w' ⟨rfl, f⟩
    exact ⟨⟨none, 0, 0, rfl, LN.none _ _⟩, f⟩

section
variable (w : World) (v hv : Value) (ls : List (List UInt8)) (bs : List Bool)

set_option maxHeartbeats 4000000 in
set_option maxRecDepth 100000 in
theorem rebWalk_no (k m : Int) (h : okB k m = false) (hR : RdL w v ls) (hl : ls.length ≤ 1048576) (hb : ∀ l ∈ ls, l.length ≤ 1048576) (hB : RdV w hv (bs.map Value.bool)) (hbl : bs.length ≤ 1048576) : Calls Try.prog 8 #[.int .i64 k, .int .i64 m, v, hv] w fun e w' => e = .returned (.bool true) ∧ Fr (fun _ => False) w w' := by
  have HB := hide (both_no w k m h)
  have HH := hide (huge_any w v ls hR hl hb)
  obtain ⟨ao, ac, rfl⟩ := hR.shape
  obtain ⟨bo, bc, rfl⟩ := hB.shape
  rw [List.length_map]
  generalize hugeB ls = hu at *
  clear h hR hb hB
  rcases hu with _ | _
  · by_cases h9 : 30 < bs.length
    · have b5 : decide ((30 : Int) < (bs.length : Int)) = true := by simp; omega
      go_enter Try.func8, Try.ntmps8
      go_wp2_with fail
      refine (unhide HB).mono ?_
      rintro e w1 ⟨rfl, rfl⟩
      go_wp2_with (first | (go_at_call 43; refine (unhide HH).mono ?_; rintro e w2 ⟨rfl, rfl⟩) | (go_at_call 38; refine (live3_any _).mono ?_; rintro e w3 ⟨rfl, f3⟩))
      go_ret
      exact ⟨rfl, f3⟩
    · have b5 : decide ((30 : Int) < (bs.length : Int)) = false := by simp; omega
      go_enter Try.func8, Try.ntmps8
      go_wp2_with fail
      refine (unhide HB).mono ?_
      rintro e w1 ⟨rfl, rfl⟩
      go_wp2_with (first | (go_at_call 43; refine (unhide HH).mono ?_; rintro e w2 ⟨rfl, rfl⟩) | (go_at_call 38; refine (live3_any _).mono ?_; rintro e w3 ⟨rfl, f3⟩))
      go_ret
      exact ⟨rfl, f3⟩
  · go_enter Try.func8, Try.ntmps8
    go_wp2_with fail
    refine (unhide HB).mono ?_
    rintro e w1 ⟨rfl, rfl⟩
    go_wp2_with (first | (go_at_call 43; refine (unhide HH).mono ?_; rintro e w2 ⟨rfl, rfl⟩) | (go_at_call 38; refine (live3_any _).mono ?_; rintro e w3 ⟨rfl, f3⟩))
    go_ret
    exact ⟨rfl, f3⟩

set_option maxHeartbeats 4000000 in
set_option maxRecDepth 100000 in
theorem rebWalk_huge (k m : Nat) (hk : 1 ≤ k ∧ k ≤ 16) (hm : m ≤ 8) (hR : RdL w v ls) (hl : ls.length ≤ 1048576) (hb : ∀ l ∈ ls, l.length ≤ 1048576) (hB : RdV w hv (bs.map Value.bool)) (hbl : bs.length ≤ 1048576) (hu : hugeB ls = true ∨ 30 < bs.length) : Calls Try.prog 8 #[.int .i64 (k : Int), .int .i64 (m : Int), v, hv] w fun e w' => e = .returned (.bool true) ∧ Fr (fun _ => False) w w' := by
  have HB := hide (both_ok w k m hk hm)
  have HH := hide (fun W (f : Fr (fun _ => False) w W) => huge_any W v ls (hR.kept f) hl hb)
  obtain ⟨ao, ac, rfl⟩ := hR.shape
  obtain ⟨bo, bc, rfl⟩ := hB.shape
  rw [List.length_map]
  generalize hugeB ls = hg at *
  clear hR hb hB
  rcases hg with _ | _
  · have h9 : 30 < bs.length := hu.resolve_left (by decide)
    have b5 : decide ((30 : Int) < (bs.length : Int)) = true := by simp; omega
    clear hu
    go_enter Try.func8, Try.ntmps8
    go_wp2_with fail
    refine (unhide HB).mono ?_
    rintro e w1 ⟨⟨p, q, rfl, -, -, -, -⟩, f1⟩
    have HF1 := hide f1
    clear f1
    go_wp2_with (first | (go_at_call 43; refine (unhide HH _ (unhide HF1)).mono ?_; rintro e w2 ⟨rfl, rfl⟩) | (go_at_call 38; refine (live3_any _).mono ?_; rintro e w3 ⟨rfl, f3⟩))
    go_ret
    exact ⟨rfl, (unhide HF1).trans f3 (fun _ _ h => h)⟩
  · clear hu
    go_enter Try.func8, Try.ntmps8
    go_wp2_with fail
    refine (unhide HB).mono ?_
    rintro e w1 ⟨⟨p, q, rfl, -, -, -, -⟩, f1⟩
    have HF1 := hide f1
    clear f1
    go_wp2_with (first | (go_at_call 43; refine (unhide HH _ (unhide HF1)).mono ?_; rintro e w2 ⟨rfl, rfl⟩) | (go_at_call 38; refine (live3_any _).mono ?_; rintro e w3 ⟨rfl, f3⟩))
    go_ret
    exact ⟨rfl, (unhide HF1).trans f3 (fun _ _ h => h)⟩

set_option maxHeartbeats 4000000 in
set_option maxRecDepth 100000 in
theorem rebWalk_ok (k m : Nat) (hk : 1 ≤ k ∧ k ≤ 16) (hm : m ≤ 8) (hR : RdL w v ls) (hl : ls.length ≤ 1048576) (hb : ∀ l ∈ ls, l.length ≤ 1048576) (hB : RdV w hv (bs.map Value.bool)) (hu : hugeB ls = false) (h9 : ¬ 30 < bs.length) : Calls Try.prog 8 #[.int .i64 (k : Int), .int .i64 (m : Int), v, hv] w fun e w' => e = .returned (.bool true) ∧ Fr (fun _ => False) w w' := by
  have HB := hide (both_ok w k m hk hm)
  have HH := hide (fun W (f : Fr (fun _ => False) w W) => huge_any W v ls (hR.kept f) hl hb)
  rw [hu] at HH
  obtain ⟨hl1, hl2⟩ := hugeB_no hu
  have HW := hide hl2
  have HR := hide hR
  have HBV := hide hB
  obtain ⟨ao, ac, rfl⟩ := hR.shape
  obtain ⟨bo, bc, rfl⟩ := hB.shape
  have hbm : (bs.map Value.bool).length = bs.length := by simp
  rw [hbm] at HBV ⊢
  have HBM := hide hbm
  have b5 : decide ((30 : Int) < (bs.length : Int)) = false := by simp; omega
  have hb30 : bs.length ≤ 30 := by omega
  clear hR hb hu hl2 hB hbm
  obtain ⟨inf4, hi4, hy0, hy1, hy2⟩ := info_parts info4R
  go_enter Try.func8, Try.ntmps8
  go_wp2_with fail
  refine (unhide HB).mono ?_
  rintro e w1 ⟨⟨cp, dp, rfl, hcp, hdp, hC, hD⟩, f1⟩
  have HC1 := hide hC
  have HD1 := hide hD
  have HF1 := hide f1
  clear f1 hC hD HB
  go_wp2_with (go_at_call 43; refine (unhide HH _ (unhide HF1)).mono ?_; rintro e w2 ⟨rfl, rfl⟩)
  have HLA := hide (lent_al w1 _ ls ((unhide HR).kept (unhide HF1)) (by omega) (unhide HW))
  refine (unhide HLA).mono ?_
  rintro e w2 ⟨⟨go, gc, rfl, hG⟩, f2⟩
  have HG2 := hide hG.ln
  have HF2 := hide f2
  have HSR := hide (show Sr (w2.alloc (Obj.cells #[] 4)) 1 (.slice bo bs.length bc) bs.length (bs.map Value.bool) from by
    have := (((unhide HBV).kept ((unhide HF1).trans f2 (fun _ _ h => h)) (fun _ _ h => h)).kept ((Fr.refl (fun _ => False) w2).alloc (Obj.cells #[] 4)) (fun _ _ h => h)).srR
    rwa [unhide HBM] at this)
  clear hG f2 HLA HH
  go_wp2_with (at_builtin; refine wpList_app rfl (.tmp 48) (.tmp 49) 79 rfl 4 inf4 _ 1 1 Try.underlying79 hi4 hy0 hy1 hy2 rfl (by decide) (.slice (some ⟨w2.heap.size, 0, none⟩) 0 0) 0 [] rfl (.slice bo bs.length bc) rfl bs.length (bs.map Value.bool) (owns_newR (heap_alloc_new w2 _)) (unhide HSR) (fun u hu => by obtain ⟨x, -, rfl⟩ := List.mem_map.1 hu; rfl) (by omega) (by simp only [maxLen]; omega) ?_)
  intro ho3 hc3 w3 o3 g3 p3
  try simp only [Nat.zero_add, List.nil_append] at o3 p3 ⊢
  have f3 := grown_fr (wr := w2) ((Fr.refl _ _).alloc _) g3 (fun k hk => by simp [Value.ownBlock] at hk; omega)
  have hb3 : RdV w3 (.slice ho3 bs.length hc3) (bs.map Value.bool) := RdV.of_owns (e := 4) (base := 0) (by rw [unhide HBM]; exact o3)
  have HG3 := hide ((unhide HG2).kept f3)
  have HF3 := hide ((unhide HF2).trans f3 (fun _ _ h => h))
  have HEN := hide (reb_any w3 cp k m _ _ ls bs ((unhide HC1).kept (unhide HF3) (fun _ _ h => h)) (unhide HG3).rdl hb3)
  clear o3 g3 p3 f3 hb3 HG2 HF2 HSR
  go_wp2_with fail
  refine (unhide HEN).mono ?_
  rintro e w4 ⟨⟨po, pn, pc, rfl, hP⟩, f4⟩
  have HP4 := hide hP
  have HF4 := hide f4
  have F14 := (unhide HF3).trans f4 (fun _ _ h => h)
  have F04 := (unhide HF1).trans F14 (fun _ _ h => h)
  have HRE := hide (rreb_any w4 dp k m _ _ ls bs ((unhide HD1).kept F14 (fun h => h)) hk hm ((unhide HR).kept F04) ((unhide HBV).kept F04 (fun _ _ h => h)) (by omega) (by omega))
  clear hP f4 HEN F14 F04
  go_wp2_with fail
  refine (unhide HRE).mono ?_
  rintro e w5 ⟨⟨qo, qn, qc, rfl, hQ⟩, f5⟩
  have hen := rebR_length k m ls bs
  have HSM := hide (rsame_any w5 _ _ _ _ ((unhide HP4).kept f5).rdl hQ.rdl (by omega))
  rw [show decide (rebR k m ls bs = rebR k m ls bs) = true by simp] at HSM
  have HF5 := hide ((unhide HF4).trans f5 (fun _ _ h => h))
  have HP5 := hide ((unhide HP4).kept f5)
  have HWD := hide (rebR_wid k m ls bs (unhide HW))
  have hen2 : (rebR k m ls bs).length ≤ 100000 := by omega
  have HEN2 := hide hen2
  clear hQ f5 HRE HP4 HF4 hen hen2
  generalize rebE k m ls bs = ee at *
  generalize rebR k m ls bs = rr at *
  go_wp2_with (first | (go_at_call 48; refine (num3_any _ _).mono ?_; rintro e w' ⟨rfl, rfl⟩) | (go_at_call 47; refine (unhide HSM).mono ?_; rintro e w6 ⟨rfl, f6⟩))
  have HF6 := hide ((unhide HF5).trans f6 (fun _ _ h => h))
  have HSP := hide (spoil_any w3.heap.size w6 _ _ ((unhide HP5).kept f6) (unhide HEN2) (unhide HWD))
  clear f6 HSM HF5 HP5
  refine (unhide HSP).mono ?_
  rintro e w7 ⟨rfl, f7⟩
  have HF7 := hide ((unhide HF6).trans f7 (fun b hb h => by omega))
  have HSM := hide (rsame_any w7 _ _ _ _ ((unhide HG3).kept (unhide HF7)).rdl ((unhide HR).kept ((unhide HF1).trans ((unhide HF3).trans (unhide HF7) (fun _ _ h => h)) (fun _ _ h => h))) (by omega))
  rw [show decide (ls = ls) = true by simp] at HSM
  clear f7 HSP HF6
  go_wp2_with (first
    | (go_at_call 47; refine (unhide HSM).mono ?_; rintro e w13 ⟨rfl, f13⟩)
    | (go_at_call 38; refine (live3_any _).mono ?_; rintro e w14 ⟨rfl, f14⟩))
  go_ret
  exact ⟨rfl, (unhide HF1).trans ((unhide HF3).trans ((unhide HF7).trans (f13.trans f14 (fun _ _ h => h)) (fun _ _ h => h)) (fun _ _ h => h)) (fun _ _ h => h)⟩
end

end Go.Proofs.Ytckmddkhkdcmmaa

namespace Go.Proofs.Ytckmddkhkdcmmaa.rsRebuilds
open Go.ChangeShapes Go.WideShapes Go.ChangeAt Go.RowKit
set_option linter.unusedVariables false

theorem own : ownKnob Try.prog.godebug = none := by kernel_rfl
theorem laidOut : laidOutB Try.prog = true := by kernel_rfl

theorem walk (a0 : Int) (a1 : Int) (a2 : Option Addr) (len2 cap2 : Nat) (l2 : List (List UInt8)) (a3 : Option Addr) (len3 cap3 : Nat) (l3 : List Bool) (w : World) (w0 : (Lit.int .i64 a0).wf = true) (w1 : (Lit.int .i64 a1).wf = true) (r2 : RdL w (.slice a2 len2 cap2) l2) (b2 : l2.length ≤ 1048576) (c2 : ∀ l ∈ l2, l.length ≤ 1048576) (r3 : RdV w (.slice a3 len3 cap3) (l3.map Value.bool)) (b3 : l3.length ≤ 1048576) :
    Calls Try.prog 8 #[.int .i64 a0, .int .i64 a1, .slice a2 len2 cap2, .slice a3 len3 cap3] w fun e w' => e = .returned (.bool true) ∧ Below w.heap.size w w' := by
  rcases h : okB a0 a1 with _ | _
  · refine (rebWalk_no w _ _ l2 l3 a0 a1 h r2 b2 c2 r3 b3).mono ?_
    rintro e w' ⟨rfl, f⟩
    exact ⟨rfl, f.below (Nat.le_refl _) (fun _ _ h => h)⟩
  · obtain ⟨k, m, rfl, rfl, hk, hm⟩ := okB_natR h
    by_cases hu : hugeB l2 = true ∨ 30 < l3.length
    · refine (rebWalk_huge w _ _ l2 l3 k m hk hm r2 b2 c2 r3 b3 hu).mono ?_
      rintro e w' ⟨rfl, f⟩
      exact ⟨rfl, f.below (Nat.le_refl _) (fun _ _ h => h)⟩
    · have hu' := not_or.1 hu
      refine (rebWalk_ok w _ _ l2 l3 k m hk hm r2 b2 c2 r3 (by simpa using hu'.1) hu'.2).mono ?_
      rintro e w' ⟨rfl, f⟩
      exact ⟨rfl, f.below (Nat.le_refl _) (fun _ _ h => h)⟩

set_option maxRecDepth 100000 in
theorem lifted (os : Os) (started : os.Started) (H : Type) (enc : TypeId × Value → H) (F : Stop.Interp) :
    ReturnsInHanded {} Try.checked os 8 .any ((Rows.OpenSpec.upto Rows.rsRebuildsSpec).pre6 enc Try.prog Try.f8 Rows.rsRebuildsUptoRow.domain false) (((Rows.OpenSpec.upto Rows.rsRebuildsSpec).at F).post enc Try.prog Try.f8 false true false false) := by
  refine returnsInHanded_of_cond (C := Try.checked) (s := Rows.OpenSpec.upto Rows.rsRebuildsSpec) (k := Rows.uptoSmall) rfl own started (by kernel_rfl) Try.func8
    (OpenSpec.witness (enc := enc) (C := Try.checked) (s := Rows.OpenSpec.upto Rows.rsRebuildsSpec) (k := Rows.uptoSmall) rfl false ⟨#[], #[.int .i64 0, .int .i64 0, .slice none 0 0, .slice none 0 0], []⟩ 8 (by kernel_rfl) (by kernel_rfl) (by kernel_rfl)
      (x := ([.lit (.int .i64 0), .lit (.int .i64 0), .nil, .nil], [], [])) (by kernel_rfl) rfl (by kernel_rfl)) ?_
  intro W base args ds gs before hval0 hW _ hk _
  have hval : ∀ (j : Nat) t v, Try.f8.params[j]? = some t → args[j]? = some v → Value.okWide Try.prog W .any base t v := hval0
  have hW' := hW
  obtain ⟨p, q, hA0, hV, rfl, hfz, hnd⟩ := hW
  have hA : DataW.TrodAll enc Try.prog W 0 (fun _ => true) true Try.f8.params.toList args.toList ds p := hA0
  rw [Try.params8] at hA hval
  obtain ⟨v0, vs0, d0, ds0, p0, q0, hargs, rfl, rfl, h0, q_0⟩ := trodAll_cons hA
  obtain ⟨v1, vs1, d1, ds1, p1, q1, rfl, rfl, rfl, h1, q_1⟩ := trodAll_cons q_0
  obtain ⟨v2, vs2, d2, ds2, p2, q2, rfl, rfl, rfl, h2, q_2⟩ := trodAll_cons q_1
  obtain ⟨v3, vs3, d3, ds3, p3, q3, rfl, rfl, rfl, h3, q_3⟩ := trodAll_cons q_2
  obtain ⟨rfl, rfl, rfl⟩ := trodAll_nil q_3
  obtain rfl : args = #[v0, v1, v2, v3] := by cases args; simp_all
  obtain ⟨rfl, rfl⟩ := trodVars_none hV
  simp only [List.append_nil] at hW' hk
  have hbk : Rows.uptoBulkAll [d0, d1, d2, d3] ≤ 1048576 := of_decide_eq_true hk
  have hb0 := Nat.le_trans (bulk_mem (show d0 ∈ [d0, d1, d2, d3] by simp)) hbk
  have hb1 := Nat.le_trans (bulk_mem (show d1 ∈ [d0, d1, d2, d3] by simp)) hbk
  have hb2 := Nat.le_trans (bulk_mem (show d2 ∈ [d0, d1, d2, d3] by simp)) hbk
  have hb3 := Nat.le_trans (bulk_mem (show d3 ∈ [d0, d1, d2, d3] by simp)) hbk
  clear hk hbk
  obtain ⟨a0, rfl, rfl, rfl, w0⟩ := open_int Try.underlying3 (hval 0 3 v0 rfl rfl) h0
  obtain ⟨a1, rfl, rfl, rfl, w1⟩ := open_int Try.underlying3 (hval 1 3 v1 rfl rfl) h1
  obtain ⟨a2, len2, cap2, rfl⟩ := okWide_slice Try.underlying65 (hval 2 65 v2 rfl rfl)
  have k2 := h2
  have lt2 : ∀ x ∈ p2, x.block < W.heap.size := by obtain ⟨m, hm⟩ := k2; exact DataW.trod_lt m _ _ _ hm
  obtain ⟨fuel2, hf2⟩ := h2
  obtain ⟨l2, r2, b2, c2⟩ := open_rdl hf2
  obtain ⟨a3, len3, cap3, rfl⟩ := okWide_slice Try.underlying79 (hval 3 79 v3 rfl rfl)
  have k3 := h3
  have lt3 : ∀ x ∈ p3, x.block < W.heap.size := by obtain ⟨m, hm⟩ := k3; exact DataW.trod_lt m _ _ _ hm
  obtain ⟨fuel3, hf3⟩ := h3
  obtain ⟨l3, r3, b3⟩ := open_rdb hf3
  clear hA0 hval0
  refine (walk a0 a1 a2 len2 cap2 l2 a3 len3 cap3 l3 W w0 w1 r2 (Nat.le_trans b2 hb2) (fun l hl => Nat.le_trans (c2 l hl) hb2) r3 (Nat.le_trans b3 hb3)).mono fun e W' ⟨he, bel⟩ => ?_
  subst he
  exact ⟨_, rfl, _, _, _, [], _, [], hW', trodAll_mk1 (shut_bool Try.underlying4 _), (trodAll_cons_mk (shut_int Try.underlying3 w0) (trodAll_cons_mk (shut_int Try.underlying3 w1) (trodAll_cons_mk (Below.trod laidOut (by kernel_rfl) (of_decide_eq_true (by kernel_rfl)) k2 bel lt2) (trodAll_cons_mk (Below.trod laidOut (by kernel_rfl) (of_decide_eq_true (by kernel_rfl)) k3 bel lt3) trodAll_mk0)))), rfl, bel.frame _, fun h => by cases h⟩

theorem proved : Rows.RsRebuildsUptoSaid :=
  OpenClaim.holds_of_cond 8 Try.f8 rfl rfl rfl rfl rfl rfl rfl ⟨rfl, rfl, rfl, rfl, rfl⟩ rfl rfl rfl rfl rfl (by kernel_rfl) Try.func8 (by kernel_rfl)
    (of_decide_eq_true (by kernel_rfl)) (by unfold Func.isWrapper; first | (rw [if_pos (by decide +kernel)]; kernel_rfl) | (rw [if_neg (by decide +kernel)]; exact ⟨rfl, rfl⟩))
    (fun os started H enc _ F => lifted os started H enc F)
end Go.Proofs.Ytckmddkhkdcmmaa.rsRebuilds

namespace Go.Proofs.Ytckmddkhkdcmmaa
theorem rsRebuildsUpto_holds : Rows.RsRebuildsUptoSaid := rsRebuilds.proved
#print axioms rsRebuildsUpto_holds
end Go.Proofs.Ytckmddkhkdcmmaa
