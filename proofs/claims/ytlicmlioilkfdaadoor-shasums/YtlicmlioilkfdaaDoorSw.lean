/-
  The walk of the law of sums.
-/
import Derived.Test.YtlicmlioilkfdaaDoorR6
import Derived.Test.YtlicmlioilkfdaaDoorCm
import Derived.Test.YtlicmlioilkfdaaDoorLv
import Derived.Test.YtlicmlioilkfdaaDoorArg
namespace Go.Proofs.YtlicmlioilkfdaaDoor
open Go.RowKit
set_option linter.unusedVariables false
set_option linter.unusedSimpArgs false

attribute [local go_sem ↓] Go.wp_at_zero Go.wp_at_succ

set_option maxHeartbeats 1000000 in
set_option maxRecDepth 100000 in
theorem shaSums_any (w : World) (T : Tb w) (a0 : Option Addr) (len0 cap0 : Nat) (q : List UInt8) (hv : Rd w (.slice a0 len0 cap0) q) (c : Wd) : Calls Tryd.prog 3 #[.slice a0 len0 cap0, .int .u32 (N c)] w fun e w' => e = .returned (.bool true) ∧ Fr (fun _ => False) w w' := by
  obtain ⟨ao, cap, e⟩ := hv.shape
  cases e
  have HT := hide T
  have HV := hide hv
  clear T hv
  by_cases hbig : 9000 < q.length
  · have hbi : (9000 : Int) < (q.length : Int) := by omega
    go_enter Tryd.func3, Tryd.ntmps3
    go_wp2_with fail
    refine (live_any w (unhide HT)).mono ?_
    rintro e w1 ⟨rfl, f1⟩
    have F1 := hide f1
    clear f1
    go_wp2_with fail
    go_ret
    exact ⟨rfl, unhide F1⟩
  · have hbi : ¬ (9000 : Int) < (q.length : Int) := by omega
    obtain ⟨D, hD⟩ : ∃ D, D = sha q := ⟨_, rfl⟩
    have hDl : D.length = 32 := by rw [hD]; rfl
    have heq := fun W => run_eqD W D hDl
    have HD := hide hD
    clear hD
    go_enter Tryd.func3, Tryd.ntmps3
    go_wp2_with (refine wpList_appO rfl (.tmp 10) (.tmp 11) rfl (.slice (some ⟨w.heap.size, 0, none⟩) 0 0) [] (.slice a0 q.length cap0) q rfl rfl (owns_empty (heap_alloc_new w _)) ((unhide HV).kept ((Fr.refl (fun _ => False) w).alloc _) (fun _ _ h => h)) (by simp; omega) ?_)
    intro ao1 cap1 w1 o1 g1
    have f1 : Fr (fun _ => False) w w1 := ((Fr.refl (fun _ => False) w).alloc _).trans (unhide g1).1 (fun i hi e => by simp [Value.ownBlock] at e; omega)
    have hl1 := (unhide o1).lt
    have hR1 := (unhide o1).rd
    have F1 := hide f1
    have HR1 := hide hR1
    have HL1 := hide hl1
    clear f1 g1 o1 hR1 hl1
    go_wp2_with fail
    refine (Sum_any w1 _ q ((unhide HT).kept (unhide F1) id id) (unhide HR1)).mono ?_
    rintro e w2 ⟨rfl, f2⟩
    have F2 := hide ((unhide F1).trans f2 (fun _ _ h => h))
    have HR2 := hide ((unhide HR1).kept f2 (fun _ _ h => h))
    clear f2
    rw [← unhide HD]
    go_wp2_with fail
    refine (RSum_any w2 _ q ((unhide HV).kept (unhide F2) (fun _ _ h => h)) (by omega)).mono ?_
    rintro e w3 ⟨rfl, f3⟩
    have F3 := hide ((unhide F2).trans f3 (fun _ _ h => h))
    have HR3 := hide ((unhide HR2).kept f3 (fun _ _ h => h))
    clear f3
    rw [← unhide HD]
    go_wp2_with fail
    refine (crc_any w3 _ q ((unhide HT).kept (unhide F3) id id) (unhide HR3)).mono ?_
    rintro e w4 ⟨rfl, rfl⟩
    go_wp2_with fail
    refine (rcrc_any w3 _ q ((unhide HV).kept (unhide F3) (fun _ _ h => h))).mono ?_
    rintro e w4 ⟨rfl, rfl⟩
    go_wp2_with fail
    refine (more_any w3 c _ q ((unhide HT).kept (unhide F3) id id) (unhide HR3)).mono ?_
    rintro e w4 ⟨rfl, rfl⟩
    go_wp2_with fail
    refine (rmore_any w3 c _ q ((unhide HV).kept (unhide F3) (fun _ _ h => h))).mono ?_
    rintro e w4 ⟨rfl, rfl⟩
    have cv1 := conv_rd (unhide HR3) 22 9 5 Tryd.underlying22 Tryd.underlying5 Tryd.u9
    have cv2 := conv_rd ((unhide HV).kept (unhide F3) (fun _ _ h => h)) 22 9 5 Tryd.underlying22 Tryd.underlying5 Tryd.u9
    go_wp2_with fail
    refine (live_any w3 ((unhide HT).kept (unhide F3) id id)).mono ?_
    rintro e w4 ⟨rfl, f4⟩
    have F4 := hide ((unhide F3).trans f4 (fun _ _ h => h))
    clear f4
    go_wp2_with fail
    go_ret
    exact ⟨rfl, unhide F4⟩

theorem shaSums_in (w : World) (T : Tb w) (a0 : Option Addr) (len0 cap0 : Nat) (q : List UInt8) (hv : Rd w (.slice a0 len0 cap0) q) (n : Int) (hn : (Lit.int .u32 n).wf = true) : Calls Tryd.prog 3 #[.slice a0 len0 cap0, .int .u32 n] w fun e w' => e = .returned (.bool true) ∧ Fr (fun _ => False) w w' := by
  obtain ⟨c, rfl⟩ := word_in n hn
  exact shaSums_any w T a0 len0 cap0 q hv c
end Go.Proofs.YtlicmlioilkfdaaDoor
