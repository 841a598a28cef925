/-
  The walks of package gf's Sum, and of the document's own Sum and Eval.
-/
import Derived.Test.YtckmddkhkdcmmaaVec
namespace Go.Proofs.Ytckmddkhkdcmmaa
open Go.RowKit
set_option linter.unusedVariables false

attribute [local go_sem ↓] Go.wp_at_zero Go.wp_at_succ

/-- The sum of two vectors. -/
def sm (l m : List UInt8) : List UInt8 := List.zipWith (fun a b => a ^^^ b) l m

theorem sm_length {l m : List UInt8} (h : l.length = m.length) : (sm l m).length = l.length := by simp [sm]; omega

theorem sm_step (l m : List UInt8) (k : Nat) (h : k < l.length) (hm : l.length = m.length) : sm (l.take (k + 1)) (m.take (k + 1)) = sm (l.take k) (m.take k) ++ [gt l k ^^^ gt m k] := by
  unfold sm gt
  rw [List.take_succ_eq_append_getElem h, List.take_succ_eq_append_getElem (show k < m.length by omega), List.zipWith_append (by simp; omega), List.getElem?_eq_getElem h, List.getElem?_eq_getElem (show k < m.length by omega)]
  rfl

theorem gsum_side (w : World) (ao bo : Option Addr) (n m ca cb : Nat) (h : n ≠ m) : Calls Try.prog 100 #[.slice ao n ca, .slice bo m cb] w fun e w' => e = .returned (.tuple #[.slice none 0 0, .int .i64 23]) ∧ w = w' := by
  have hb : ((n : Int) != (m : Int)) = true := by simp; omega
  clear h
  go_enter Try.func100, Try.ntmps100
  go_wp2
  go_ret2
  exact ⟨rfl, rfl⟩

set_option maxHeartbeats 2000000 in
set_option maxRecDepth 100000 in
theorem gsum_ok (w : World) (v m : Value) (l x : List UInt8) (hv : Rd w v l) (hm : Rd w m x) (he : l.length = x.length) (hl : l.length ≤ 4096) :
    Calls Try.prog 100 #[v, m] w fun e w' => (∃ ao cap, e = .returned (.tuple #[.slice ao l.length cap, .int .i64 0]) ∧ Rd w' (.slice ao l.length cap) (sm l x)) ∧ Fr (fun _ => False) w w' := by
  have HV := hide hv
  have HM := hide hm
  obtain ⟨vo, vcap, rfl⟩ := hv.shape
  obtain ⟨mo, mcap, rfl⟩ := hm.shape
  have HSL := hide (sm_length he)
  have HE := hide he
  rw [← he]
  have hmk := run_make5 l.length (by omega)
  have HB0 := hide (show BAt (w.alloc (Obj.cells (bvs (List.replicate l.length 0)).toArray 5)) w.heap.size (List.replicate l.length 0) from heap_alloc_new w _)
  have HF0 := hide (show Fr (fun _ => False) w (w.alloc (Obj.cells (bvs (List.replicate l.length 0)).toArray 5)) from (Fr.refl _ _).alloc _)
  clear hv hm he
  go_enter Try.func100, Try.ntmps100
  go_wp2_with fail
  clear hmk
  go_loopw [18] (fun i w' => ∃ k : Nat, k ≤ l.length ∧ i = .int .i64 (k : Int) ∧ BAt w' w.heap.size (sm (l.take k) (x.take k) ++ List.replicate (l.length - k) 0) ∧ Fr (fun _ => False) w w') (fun i _ => l.length - (intOf i).toNat)
  case atStart => exact ⟨0, by omega, rfl, by simpa [sm] using unhide HB0, unhide HF0⟩
  case round =>
    obtain ⟨k, hk, rfl, hB, hf⟩ := hrel
    by_cases hlt : k < l.length
    · have hxl := unhide HE
      obtain ⟨vb, vof, rfl, -, hvcap, hvcm, hcv⟩ := ((unhide HV).kept hf (fun _ _ h => h)).lits (by omega)
      obtain ⟨mb, mof, rfl, -, hmcap, hmcm, hcm⟩ := ((unhide HM).kept hf (fun _ _ h => h)).lits (by omega)
      have v1 := Rd.gt (n := 0) (cap := 0) hcv k hlt
      have m1 := Rd.gt (n := 0) (cap := 0) hcm k (by omega)
      unfold maxLen at hvcm hmcm
      have hs1 : (sm (l.take k) (x.take k)).length = k := by rw [sm_length (by simp; omega)]; simp; omega
      have hlen : (sm (l.take k) (x.take k) ++ List.replicate (l.length - k) 0).length = l.length := by rw [List.length_append, hs1]; simp; omega
      have c1 := hB.cell k (by omega)
      have z1 := hB.frozen k
      generalize (sm (l.take k) (x.take k) ++ List.replicate (l.length - k) 0)[k]'(by omega) = old at c1
      have HST := hide (show (sm (l.take k) (x.take k) ++ List.replicate (l.length - k) 0).set k (gt l k ^^^ gt x k) = sm (l.take (k + 1)) (x.take (k + 1)) ++ List.replicate (l.length - (k + 1)) 0 by
        rw [List.set_append_right _ _ (by omega), hs1, Nat.sub_self, show l.length - k = (l.length - (k + 1)) + 1 by omega, List.replicate_succ, List.set_cons_zero, sm_step l x k hlt hxl]
        simp)
      have HX := hide (xorV (gt l k) (gt x k))
      have HB := hide hB
      have Hf := hide hf
      have b2 : k < x.length := by omega
      clear hB hf hcv hcm hs1 hlen hxl
      generalize gt l k = lk at *
      generalize gt x k = xk at *
      go_wp2_with fail
      go_region
      all_goals
        go_wp2_with fail
        go_roundw
        case rel =>
          refine ⟨k + 1, by omega, by go_num, ?_, (by first | exact ((unhide Hf).drew).setCell (fun h => absurd h (by simp)) _ | exact ((unhide Hf).setCell (fun h => absurd h (by simp)) _).drew)⟩
          rw [← unhide HST, unhide HX]
          exact BAt.set (w := wr.drew) (unhide HB) k _
        case measure => simp [intOf]; omega
    · have hke : k = l.length := by omega
      subst hke
      have HB := hide hB
      clear hB
      go_wp2_with fail
      go_ret2
      refine ⟨⟨_, _, rfl, ?_⟩, hf⟩
      have hB := unhide HB
      rw [List.take_length, unhide HE, List.take_length, Nat.sub_self, List.replicate_zero, List.append_nil] at hB
      have := hB.rd (by rw [unhide HSL]; unfold maxLen; omega)
      rwa [unhide HSL] at this

end Go.Proofs.Ytckmddkhkdcmmaa
