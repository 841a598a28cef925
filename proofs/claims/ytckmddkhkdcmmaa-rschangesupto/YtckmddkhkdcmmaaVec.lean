/-
  The walks of package gf's Scale and Sum, and of the document's own Scale, Sum and Eval.
-/
import Derived.Test.YtckmddkhkdcmmaaOwn
namespace Go.Proofs.Ytckmddkhkdcmmaa
open Go.RowKit
set_option linter.unusedVariables false

attribute [local go_sem ↓] Go.wp_at_zero Go.wp_at_succ

theorem addt_zeros (c : UInt8) (l : List UInt8) : addt c (List.replicate l.length 0) l = scl c l := by
  apply List.ext_getElem
  · simp [addt, scl]
  · intro i h1 h2
    simp [addt, scl]

theorem addTimes_empty (w : World) (p b : Nat) (c : UInt8) (ao : Option Addr) (cap : Nat) :
    Calls Try.prog 116 #[.pointer (some ⟨p, 0, none⟩), .slice (some ⟨b, 0, none⟩) 0 0, .int .u8 (c.toNat : Int), .slice ao 0 cap] w fun e w' => e = .returned (.tuple #[]) ∧ w = w' := by
  by_cases hc : c = 0
  · subst hc
    go_enter Try.func116, Try.ntmps116
    go_wp2_with fail
    exact bodyPost_ret (results_none rfl _ _ _) rfl ⟨rfl, rfl⟩
  · have hcb : (((c.toNat : Nat) : Int) == 0) = false := by simpa using fun e => hc (natB.1 e)
    go_enter Try.func116, Try.ntmps116
    go_wp2_with fail
    go_loopw [14] (fun i w' => i = .int .i64 0 ∧ w = w') (fun _ _ => 0)
    case atStart => exact ⟨rfl, rfl⟩
    case round =>
      obtain ⟨rfl, rfl⟩ := hrel
      go_wp2_with fail
      go_end0
      exact ⟨rfl, rfl⟩

theorem gscale_any (w : World) (c : UInt8) (v : Value) (l : List UInt8) (hv : Rd w v l) (hl : l.length ≤ 4096) :
    Calls Try.prog 114 #[.int .u8 (c.toNat : Int), v] w fun e w' => (∃ ao cap, e = .returned (.slice ao l.length cap) ∧ Rd w' (.slice ao l.length cap) (scl c l) ∧ ∀ k, (Value.slice ao l.length cap).ownBlock = some k → w.heap.size ≤ k) ∧ Fr (fun _ => False) w w' := by
  have HV := hide hv
  obtain ⟨vo, vcap, rfl⟩ := hv.shape
  have hsl : (scl c l).length = l.length := by simp [scl]
  by_cases h0 : 0 < l.length
  · obtain ⟨vb, vof, rfl, -, hcap, hcm, hcell⟩ := hv.lits h0
    have hlt := Rd.ilt hcell h0
    have hmk := run_make5 l.length (by omega)
    have HB0 := hide (show BAt (w.alloc (Obj.cells (bvs (List.replicate l.length 0)).toArray 5)) w.heap.size (List.replicate l.length 0) from heap_alloc_new w _)
    have HF0 := hide (show Fr (fun _ => False) w (w.alloc (Obj.cells (bvs (List.replicate l.length 0)).toArray 5)) from (Fr.refl _ _).alloc _)
    have hsz : (w.alloc (Obj.cells (bvs (List.replicate l.length 0)).toArray 5)).heap.size = w.heap.size + 1 := by simp
    have HSZ := hide hsz
    clear hv hcell hsz
    go_enter Try.func114, Try.ntmps114
    go_wp2_with fail
    refine (newField_any _).mono ?_
    rintro e w1 ⟨rfl, hF, f1⟩
    rw [unhide HSZ] at hF ⊢
    have B1 := (unhide HB0).kept f1 id
    have F1 := (unhide HF0).trans f1 (fun _ _ h => h)
    have HA := hide (addTimes_any w1 _ w.heap.size _ c _ l hF B1 ((unhide HV).kept F1 (fun _ _ h => h)) (by simp [Value.ownBlock]; omega) (by omega) (by simp; omega) (by simp))
    rw [List.length_replicate, addt_zeros] at HA
    have HF1 := hide F1
    clear hF f1 B1 F1 hmk
    go_wp2_with fail
    refine (unhide HA).mono ?_
    rintro e w2 ⟨rfl, B2, f2⟩
    have HB2 := hide B2
    clear B2
    go_wp2_with fail
    go_ret
    refine ⟨⟨_, _, rfl, ?_, fun k hk => by simp [Value.ownBlock] at hk; omega⟩, (unhide HF1).trans f2 (fun i hi h => by omega)⟩
    have := (unhide HB2).rd (by rw [hsl]; unfold maxLen; omega)
    rwa [hsl] at this
  · have e0 : l = [] := List.eq_nil_of_length_eq_zero (by omega)
    subst e0
    have hmk : ∀ w, (Instr.makeSlice 22 (.int .i64 0) (.int .i64 0)).run Try.prog w = .ok (.slice (some ⟨w.heap.size, 0, none⟩) 0 0) (w.alloc (.cells (bvs (List.replicate 0 0)).toArray 5)) := run_make5 0 (by omega)
    have HF0 := hide (show Fr (fun _ => False) w (w.alloc (Obj.cells (bvs (List.replicate 0 0)).toArray 5)) from (Fr.refl _ _).alloc _)
    generalize bvs (List.replicate 0 0) = A at *
    clear hv h0 hsl
    go_enter Try.func114, Try.ntmps114
    go_wp2_with fail
    refine (newField_any _).mono ?_
    rintro e w1 ⟨rfl, hF, f1⟩
    have F1 := hide ((unhide HF0).trans f1 (fun _ _ h => h))
    clear hF f1 hmk
    go_wp2_with fail
    refine (addTimes_empty _ _ _ c _ _).mono ?_
    rintro e w2 ⟨rfl, rfl⟩
    go_wp2_with fail
    go_ret
    exact ⟨⟨_, 0, rfl, .inr ⟨_, 0, rfl, Nat.le_refl _, by simp [maxLen], fun j hj => by simp [scl] at hj⟩, fun k hk => by simp [Value.ownBlock] at hk; omega⟩, unhide F1⟩

end Go.Proofs.Ytckmddkhkdcmmaa
