/-
  The walks of package gf's Sum, and of the document's own Sum and Eval.
-/
import Derived.Test.YtbbgfbjchlefeaaVec
namespace Go.Proofs.Ytbbgfbjchlefeaa
open Go.RowKit
set_option linter.unusedVariables false

attribute [local go_sem ↓] Go.wp_at_zero Go.wp_at_succ

set_option maxHeartbeats 1000000 in
theorem reval_any (w : World) (v : Value) (p : List UInt8) (x : UInt8) (hv : Rd w v p) (hp : p.length ≤ 4096) : Calls Try.prog 33 #[v, .int .u8 (x.toNat : Int)] w fun e w' => e = .returned (.int .u8 ((ev p x).toNat : Int)) ∧ Fr (fun _ => False) w w' := by
  obtain ⟨ao, cap, rfl⟩ := hv.shape
  have HV := hide hv
  clear hv
  go_enter Try.func33, Try.ntmps33
  go_wp2_with fail
  go_loopw [5, 6] (fun y i w' => ∃ k : Nat, k ≤ p.length ∧ i = .int .i64 ((k : Int) - 1) ∧ y = .int .u8 (((ev (p.drop k) x).toNat : Nat) : Int) ∧ ∃ n, w' = w.drewN n) (fun _ i _ => (intOf i + 1).toNat)
  case atStart => exact ⟨p.length, Nat.le_refl _, rfl, by rw [List.drop_length]; rfl, 0, rfl⟩
  case round =>
    obtain ⟨k, hk, rfl, rfl, nn, rfl⟩ := hrel
    by_cases h0 : k = 0
    · subst h0
      go_wp2_with fail
      go_ret
      exact ⟨by rw [List.drop_zero]; rfl, Fr.ofDrewN w nn⟩
    · obtain ⟨j, rfl⟩ : ∃ j, k = j + 1 := ⟨k - 1, by omega⟩
      have hj : j < p.length := by omega
      obtain ⟨b, o, rfl, -, hcap, hcm, hcell⟩ := (unhide HV).lits (by omega)
      have hc := hcell j hj
      unfold maxLen at hcm
      have HE := hide (ev_drop p x j hj)
      obtain ⟨y, hy⟩ : ∃ y, y = ev (p.drop (j + 1)) x := ⟨_, rfl⟩
      rw [← hy] at HE ⊢
      obtain ⟨pj, hpj⟩ : ∃ z, z = p[j] := ⟨_, rfl⟩
      rw [← hpj] at HE hc
      have HX := hide (xorV (mul y x) pj)
      have HM := hide (fun W => rmul_any W y x)
      have e1 : ((j + 1 : Nat) : Int) - 1 = (j : Int) := by omega
      rw [e1]
      clear hcell hy hpj e1
      go_wp2_with fail
      go_region_with ((go_at_call 20; refine (unhide HM _).mono ?_; rintro e w3 ⟨rfl, rfl⟩))
      all_goals
        go_wp2_with fail
        go_roundw
        case rel => exact ⟨j, by omega, rfl, by rw [unhide HX, ← unhide HE], _, rfl⟩
        case measure => first | (simp [intOf]; omega) | simp [intOf]

/-- The sum of two vectors. -/
def sm (l m : List UInt8) : List UInt8 := List.zipWith (fun a b => a ^^^ b) l m

theorem sm_length {l m : List UInt8} (h : l.length = m.length) : (sm l m).length = l.length := by simp [sm]; omega

theorem sm_step (l m : List UInt8) (k : Nat) (h : k < l.length) (hm : l.length = m.length) : sm (l.take (k + 1)) (m.take (k + 1)) = sm (l.take k) (m.take k) ++ [gt l k ^^^ gt m k] := by
  unfold sm gt
  rw [List.take_succ_eq_append_getElem h, List.take_succ_eq_append_getElem (show k < m.length by omega), List.zipWith_append (by simp; omega), List.getElem?_eq_getElem h, List.getElem?_eq_getElem (show k < m.length by omega)]
  rfl

theorem gsum_side (w : World) (ao bo : Option Addr) (n m ca cb : Nat) (h : n ≠ m) : Calls Try.prog 26 #[.slice ao n ca, .slice bo m cb] w fun e w' => e = .returned (.tuple #[.slice none 0 0, .int .i64 23]) ∧ w = w' := by
  have hb : ((n : Int) != (m : Int)) = true := by simp; omega
  clear h
  go_enter Try.func26, Try.ntmps26
  go_wp2
  go_ret2
  exact ⟨rfl, rfl⟩

theorem rsum_side (w : World) (ao bo : Option Addr) (n m ca cb : Nat) (h : n ≠ m) : Calls Try.prog 27 #[.slice ao n ca, .slice bo m cb] w fun e w' => e = .returned (.tuple #[.slice none 0 0, .int .i64 23]) ∧ w = w' := by
  have hb : ((n : Int) != (m : Int)) = true := by simp; omega
  clear h
  go_enter Try.func27, Try.ntmps27
  go_wp2
  go_ret2
  exact ⟨rfl, rfl⟩

set_option maxHeartbeats 2000000 in
set_option maxRecDepth 100000 in
theorem gsum_ok (w : World) (v m : Value) (l x : List UInt8) (hv : Rd w v l) (hm : Rd w m x) (he : l.length = x.length) (hl : l.length ≤ 4096) :
    Calls Try.prog 26 #[v, m] w fun e w' => (∃ ao cap, e = .returned (.tuple #[.slice ao l.length cap, .int .i64 0]) ∧ Rd w' (.slice ao l.length cap) (sm l x)) ∧ Fr (fun _ => False) w w' := by
  have HV := hide hv
  have HM := hide hm
  obtain ⟨vo, vcap, rfl⟩ := hv.shape
  obtain ⟨mo, mcap, rfl⟩ := hm.shape
  have HSL := hide (sm_length he)
  have HE := hide he
  rw [← he]
  have hmk := run_make5 l.length (by omega)
  have HB0 := hide (show BAt (w.alloc (Obj.cells (bvs (List.replicate l.length 0)).toArray 5)) w.heap.size (List.replicate l.length 0) from heap_alloc_new w _)
  have HF0 := hide (show Fr (fun _ => False) w (w.alloc (Obj.cells (bvs (List.replicate l.length 0)).toArray 5)) from (Fr.refl _ _).alloc _)
  clear hv hm he
  go_enter Try.func26, Try.ntmps26
  go_wp2_with fail
  clear hmk
  go_loopw [18] (fun i w' => ∃ k : Nat, k ≤ l.length ∧ i = .int .i64 (k : Int) ∧ BAt w' w.heap.size (sm (l.take k) (x.take k) ++ List.replicate (l.length - k) 0) ∧ Fr (fun _ => False) w w') (fun i _ => l.length - (intOf i).toNat)
  case atStart => exact ⟨0, by omega, rfl, by simpa [sm] using unhide HB0, unhide HF0⟩
  case round =>
    obtain ⟨k, hk, rfl, hB, hf⟩ := hrel
    by_cases hlt : k < l.length
    · have hxl := unhide HE
      obtain ⟨vb, vof, rfl, -, hvcap, hvcm, hcv⟩ := ((unhide HV).kept hf (fun _ _ h => h)).lits (by omega)
      obtain ⟨mb, mof, rfl, -, hmcap, hmcm, hcm⟩ := ((unhide HM).kept hf (fun _ _ h => h)).lits (by omega)
      have v1 := Rd.gt (n := 0) (cap := 0) hcv k hlt
      have m1 := Rd.gt (n := 0) (cap := 0) hcm k (by omega)
      unfold maxLen at hvcm hmcm
      have hs1 : (sm (l.take k) (x.take k)).length = k := by rw [sm_length (by simp; omega)]; simp; omega
      have hlen : (sm (l.take k) (x.take k) ++ List.replicate (l.length - k) 0).length = l.length := by rw [List.length_append, hs1]; simp; omega
      have c1 := hB.cell k (by omega)
      have z1 := hB.frozen k
      generalize (sm (l.take k) (x.take k) ++ List.replicate (l.length - k) 0)[k]'(by omega) = old at c1
      have HST := hide (show (sm (l.take k) (x.take k) ++ List.replicate (l.length - k) 0).set k (gt l k ^^^ gt x k) = sm (l.take (k + 1)) (x.take (k + 1)) ++ List.replicate (l.length - (k + 1)) 0 by
        rw [List.set_append_right _ _ (by omega), hs1, Nat.sub_self, show l.length - k = (l.length - (k + 1)) + 1 by omega, List.replicate_succ, List.set_cons_zero, sm_step l x k hlt hxl]
        simp)
      have HX := hide (xorV (gt l k) (gt x k))
      have HB := hide hB
      have Hf := hide hf
      have b2 : k < x.length := by omega
      clear hB hf hcv hcm hs1 hlen hxl
      generalize gt l k = lk at *
      generalize gt x k = xk at *
      go_wp2_with fail
      go_region
      all_goals
        go_wp2_with fail
        go_roundw
        case rel =>
          refine ⟨k + 1, by omega, by go_num, ?_, (by first | exact ((unhide Hf).drew).setCell (fun h => absurd h (by simp)) _ | exact ((unhide Hf).setCell (fun h => absurd h (by simp)) _).drew)⟩
          rw [← unhide HST, unhide HX]
          exact BAt.set (w := wr.drew) (unhide HB) k _
        case measure => simp [intOf]; omega
    · have hke : k = l.length := by omega
      subst hke
      have HB := hide hB
      clear hB
      go_wp2_with fail
      go_ret2
      refine ⟨⟨_, _, rfl, ?_⟩, hf⟩
      have hB := unhide HB
      rw [List.take_length, unhide HE, List.take_length, Nat.sub_self, List.replicate_zero, List.append_nil] at hB
      have := hB.rd (by rw [unhide HSL]; unfold maxLen; omega)
      rwa [unhide HSL] at this

set_option maxHeartbeats 2000000 in
set_option maxRecDepth 100000 in
theorem rsum_ok (w : World) (v m : Value) (l x : List UInt8) (hv : Rd w v l) (hm : Rd w m x) (he : l.length = x.length) (hl : l.length ≤ 4096) :
    Calls Try.prog 27 #[v, m] w fun e w' => (∃ ao cap, e = .returned (.tuple #[.slice ao l.length cap, .int .i64 0]) ∧ Rd w' (.slice ao l.length cap) (sm l x)) ∧ Fr (fun _ => False) w w' := by
  have HV := hide hv
  have HM := hide hm
  obtain ⟨vo, vcap, rfl⟩ := hv.shape
  obtain ⟨mo, mcap, rfl⟩ := hm.shape
  have HSL := hide (sm_length he)
  have HE := hide he
  rw [← he]
  obtain ⟨inf, hi, hz0, hz1, hz2⟩ := info_parts Try.info5
  clear hv hm he
  go_enter Try.func27, Try.ntmps27
  go_wp2_with fail
  go_loopw [6, 7] (fun s i w' => ∃ k : Nat, k ≤ l.length ∧ i = .int .i64 (k : Int) ∧ (∃ ao cap, s = .slice ao k cap ∧ w'.ownsRow 0 5 1 (.slice ao k cap) k (bvs (sm (l.take k) (x.take k))) ∧ (∀ b, (Value.slice ao k cap).ownBlock = some b → w.heap.size ≤ b)) ∧ Fr (fun _ => False) w w') (fun _ i _ => l.length - (intOf i).toNat)
  case atStart => exact ⟨0, by omega, rfl, ⟨none, 0, rfl, by simpa [bvs, sm] using owns_nil w, fun b hb => by simp [Value.ownBlock] at hb⟩, Fr.refl _ _⟩
  case round =>
    obtain ⟨k, hk, rfl, ⟨ao, cap, rfl, hO, hN⟩, hf⟩ := hrel
    by_cases hlt : k < l.length
    · have hxl := unhide HE
      obtain ⟨vb, vof, rfl, -, hvcap, hvcm, hcv⟩ := ((unhide HV).kept hf (fun _ _ h => h)).lits (by omega)
      obtain ⟨mb, mof, rfl, -, hmcap, hmcm, hcm⟩ := ((unhide HM).kept hf (fun _ _ h => h)).lits (by omega)
      have v1 := Rd.gt (n := 0) (cap := 0) hcv k hlt
      have m1 := Rd.gt (n := 0) (cap := 0) hcm k (by omega)
      unfold maxLen at hvcm hmcm
      have HT := hide (sm_step l x k hlt hxl)
      have b2 : k < x.length := by omega
      have HO := hide hO
      have HN := hide hN
      have Hf := hide hf
      clear hO hN hf hcv hcm hxl
      generalize gt l k = lk at *
      generalize gt x k = xk at *
      obtain ⟨sv, hsv⟩ : ∃ z, z = lk ^^^ xk := ⟨_, rfl⟩
      have hx1 := xorV lk xk
      rw [← hsv] at HT hx1
      have H1 := hide (one_cell wr sv)
      clear hsv
      go_wp2_with fail
      go_region_law ((refine step_app rfl (.tmp 19) (.tmp 29) 43 rfl 5 inf _ 1 1 Try.underlying43 hi hz0 hz1 hz2 rfl (by decide) (.slice ao k cap) k (bvs (sm (l.take k) (x.take k))) (by rfl) (.slice (some ⟨wr.heap.size, 0, none⟩) 1 1) (by rfl) 1 (bvs [sv]) (by exact (unhide HO).alloc _) (by exact unhide H1) (bvs_one _) (by omega) (by simp only [maxLen]; omega) ?_; intro ao2 cap2 w2 ho2 hg2 hpl2))
      all_goals
        have hnew : ∀ b, (Value.slice ao2 (k + 1) cap2).ownBlock = some b → w.heap.size ≤ b := by
          intro b' hb'
          have z := (unhide Hf).size
          rcases hpl2 with e | ⟨k', e, hk'⟩
          · rw [e] at hb'; exact unhide HN b' hb'
          · rw [e] at hb'; simp at hb' hk'; omega
        have F2 : Fr (fun _ => False) w w2 := Fr.grown (S := fun _ => False) (w := wr.alloc _) ((unhide Hf).alloc _) (by exact ⟨hg2.os, hg2.tape, hg2.output, hg2.size, hg2.block⟩) (fun j hj e => by have := unhide HN j e; omega)
        rw [← bvs_append, ← unhide HT] at ho2
        have HO2 := hide ho2
        have HN2 := hide hnew
        have HF2 := hide F2
        clear ho2 hg2 hpl2 hnew F2
        go_wp2_with fail
        go_roundw
        case rel => exact ⟨k + 1, by omega, by go_num, ⟨ao2, cap2, rfl, unhide HO2, unhide HN2⟩, unhide HF2⟩
        case measure => simp [intOf]; omega
    · have hke : k = l.length := by omega
      subst hke
      rw [List.take_length, unhide HE, List.take_length] at hO
      have HO := hide hO
      clear hO hN
      go_wp2_with fail
      go_ret2
      refine ⟨⟨ao, cap, rfl, ?_⟩, hf⟩
      have := Rd.of_owns (l := sm l x) (by rw [unhide HSL, unhide HE]; exact unhide HO)
      rw [unhide HE]
      exact this

#print axioms rsum_ok
#print axioms gsum_ok
end Go.Proofs.Ytbbgfbjchlefeaa
