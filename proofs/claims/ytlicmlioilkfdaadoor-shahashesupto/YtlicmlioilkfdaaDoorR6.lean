/-
  The document's Sum; what a nil hash answers.
-/
import Derived.Test.YtlicmlioilkfdaaDoorR5
namespace Go.Proofs.YtlicmlioilkfdaaDoor
open Go.RowKit
set_option linter.unusedVariables false
set_option linter.unusedSimpArgs false

attribute [local go_sem ↓] Go.wp_at_zero Go.wp_at_succ

set_option maxHeartbeats 400000 in
theorem RSum_any (w : World) (v : Value) (q : List UInt8) (hv : Rd w v q) (hq : q.length ≤ 1000000) : Calls Tryd.prog 12 #[v] w fun e w' => e = .returned (.agg (bvs (sha q)).toArray) ∧ Fr (fun _ => False) w w' := by
  have HV := hide hv
  have hb := hv.blk
  clear hv
  go_enter Tryd.func12, Tryd.ntmps12
  go_wp2_with fail
  refine wpC_world ?_
  intro w0 hw0
  have f0 : Fr (fun _ => False) w w0 := by rw [hw0]; exact (Fr.refl _ _).alloc _
  have hR0 : ZAt w0 w.heap.size 26 32 := by rw [hw0]; exact ZAt.new w _ 26 32 rfl
  have F0 := hide f0
  have HR0 := hide hR0
  have hs0 : w.heap.size < w0.heap.size := by obtain ⟨cs, h, -⟩ := hR0; exact lt_of_heap h
  clear hw0 f0 hR0
  refine (rnew_any w0).mono ?_
  rintro e w1 ⟨⟨p, rfl, hp, h1⟩, f1⟩
  have F1 := hide ((unhide F0).trans f1 (fun _ _ h => h))
  have HR1 := hide ((unhide HR0).kept f1 id)
  have H1 := hide h1
  clear h1 f1
  go_wp2_with fail
  refine (rwrite_any w1 p s0 0 _ [] v q (unhide H1) ((unhide HV).kept (unhide F1) (fun _ _ h => h)) (fun b hbb => (hb b hbb).imp_right (fun h => by omega)) hq).mono ?_
  rintro e w2 ⟨rfl, ⟨v2, h2, -⟩, f2⟩
  rw [List.nil_append, Nat.zero_add] at h2
  have F2 : Hid (Fr (fun _ => False) w w2) := hide ((unhide F1).trans f2 (fun i hi e => by omega))
  have HR2 := hide ((unhide HR1).kept f2 (by omega))
  have H2 := hide h2
  clear h2 f2
  go_wp2_with fail
  refine (rsum_any w2 p _ _ v2 _ (unhide H2) (by rw [feed_length]; omega)).mono ?_
  rintro e w3 ⟨rfl, f3⟩
  have F3 := hide ((unhide F2).trans f3 (fun _ _ h => h))
  have hR3 := (unhide HR2).kept f3 id
  obtain ⟨D, hD⟩ : ∃ D, D = sha q := ⟨_, rfl⟩
  have hsl : D.length = 32 := by rw [hD]; rfl
  have hD' : sumH (feed s0 q).1 (q.length % 18446744073709551616) (feed s0 q).2 = D := hD.symm
  rw [hD']
  have HDD := hide hD
  clear hD hD' f3
  have hszD : (bvs D).toArray.size = 32 := by simpa [bvs_length] using hsl
  have hi : (Tryd.prog.info? 26).map (·.size) = some (bvs D).length := by rw [bvs_length, hsl]; exact Tryd.s26
  have hi2 : (Tryd.prog.info? 26).map (·.size) = some (bvs D).toArray.size := by rw [hszD]; exact Tryd.s26
  have hone := bvs_oneA D
  have hth : w3.there w.heap.size 0 (bvs D).toArray.size := by rw [hszD]; exact hR3.there
  have hres := hR3.putB D hsl
  have fin : Fr (fun _ => False) w (w3.setCells w.heap.size 0 (bvs D)) := (unhide F3).trans (setCells_frame _ _ _ _) (fun i hi e => by omega)
  clear hR3 hsl hszD
  go_wp2_with (refine wpList_store_mid0 rfl rfl 26 _ _ rfl w.heap.size 0 (bvs D).toArray rfl rfl hth hi2 hone ?_)
  refine bodyPost_ret (ret_agg rfl _ _ w.heap.size 0 _ _ rfl (bat_range hres) Tryd.u26 rfl hi) rfl ?_
  rw [← unhide HDD]
  exact ⟨rfl, fin⟩

theorem len_nil (w : World) : Calls Tryd.prog 29 #[.pointer none] w fun e w' => e = .returned (.int .u64 0) ∧ w = w' := by
  go_enter Tryd.func29, Tryd.ntmps29
  go_wp2
  go_ret
  exact ⟨rfl, rfl⟩

theorem save_nil (w : World) : Calls Tryd.prog 22 #[.pointer none] w fun e w' => e = .returned (.slice none 0 0) ∧ w = w' := by
  go_enter Tryd.func22, Tryd.ntmps22
  go_wp2
  go_ret
  exact ⟨rfl, rfl⟩

set_option maxHeartbeats 400000 in
theorem sum_nil (w : World) (T : Tb w) : Calls Tryd.prog 27 #[.pointer none] w fun e w' => e = .returned (.agg (bvs (sha [])).toArray) ∧ Fr (fun _ => False) w w' := by
  have HT := hide T
  clear T
  go_enter Tryd.func27, Tryd.ntmps27
  go_wp2_with fail
  refine wpC_world ?_
  intro w0 hw0
  have f0 : Fr (fun _ => False) w w0 := by rw [hw0]; exact (Fr.refl _ _).alloc _
  have hR0 : ZAt w0 w.heap.size 26 32 := by rw [hw0]; exact ZAt.new w _ 26 32 rfl
  have F0 := hide f0
  have HR0 := hide hR0
  have hs0 : w.heap.size < w0.heap.size := by obtain ⟨cs, h, -⟩ := hR0; exact lt_of_heap h
  clear hw0 f0 hR0
  refine (new_any w0).mono ?_
  rintro e w1 ⟨rfl, h1, f1⟩
  have F1 := hide ((unhide F0).trans f1 (fun _ _ h => h))
  have HR1 := hide ((unhide HR0).kept f1 id)
  have H1 := hide (HH.new h1)
  have hs1 : w0.heap.size < w1.heap.size := h1.lt
  clear h1 f1
  go_wp2_with fail
  refine (sum_any w1 w0.heap.size _ _ _ ((unhide HT).kept (unhide F1) id id) (unhide H1)).mono ?_
  rintro e w3 ⟨rfl, f3⟩
  have F3 := hide ((unhide F1).trans f3 (fun _ _ h => h))
  have hR3 := (unhide HR1).kept f3 id
  obtain ⟨D, hD⟩ : ∃ D, D = sha [] := ⟨_, rfl⟩
  have hsl : D.length = 32 := by rw [hD]; rfl
  have hD' : sumH s0 0 [] = D := by rw [hD]; unfold sha; rw [feed_few s0 [] (by decide)]; rfl
  rw [hD']
  have HDD := hide hD
  clear hD hD' f3
  have hszD : (bvs D).toArray.size = 32 := by simpa [bvs_length] using hsl
  have hi : (Tryd.prog.info? 26).map (·.size) = some (bvs D).length := by rw [bvs_length, hsl]; exact Tryd.s26
  have hi2 : (Tryd.prog.info? 26).map (·.size) = some (bvs D).toArray.size := by rw [hszD]; exact Tryd.s26
  have hone := bvs_oneA D
  have hth : w3.there w.heap.size 0 (bvs D).toArray.size := by rw [hszD]; exact hR3.there
  have hres := hR3.putB D hsl
  have fin : Fr (fun _ => False) w (w3.setCells w.heap.size 0 (bvs D)) := (unhide F3).trans (setCells_frame _ _ _ _) (fun i hi e => by omega)
  clear hR3 hsl hszD
  go_wp2_with (refine wpList_store_mid0 rfl rfl 26 _ _ rfl w.heap.size 0 (bvs D).toArray rfl rfl hth hi2 hone ?_)
  refine bodyPost_ret (ret_agg rfl _ _ w.heap.size 0 _ _ rfl (bat_range hres) Tryd.u26 rfl hi) rfl ?_
  rw [← unhide HDD]
  exact ⟨rfl, fin⟩
end Go.Proofs.YtlicmlioilkfdaaDoor
