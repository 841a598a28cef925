/-
  The laws' live.
-/
import Derived.Test.YtbenailemoefhaaG1
import Derived.Test.YtbenailemoefhaaG2
import Derived.Test.YtbenailemoefhaaG3
import Derived.Deep.DeepCutAuto
import Derived.Deep.CutBlock
namespace Go.Proofs.Ytbenailemoefhaa
open Go.RowKit Go.Lib
set_option linter.unusedVariables false
set_option linter.unusedSimpArgs false

attribute [local go_sem ↓] Go.wp_at_zero Go.wp_at_succ

theorem rowN_h {w : World} {n : Nat} {x : In} (h : w.heap[n]? = some (.cells x.cs 25 (0, 0))) : rowN w n 14 = true := by
  have hr : row? w n = some x.cs := by unfold row?; rw [h]; rfl
  unfold rowN; rw [hr]; simp
theorem rowD_h {w : World} {n : Nat} {x : In} (h : w.heap[n]? = some (.cells x.cs 25 (0, 0))) : rowD w n = x.cs := by
  have hr : row? w n = some x.cs := by unfold row?; rw [h]; rfl
  unfold rowD; rw [hr]; rfl
theorem bsa52 : Try.prog.built 52 [(0, .int .i64 8), (4, .int .u64 9)] = some (Sa.cs ⟨8, 0, 0, 0, 9, 0, 0⟩) := by kernel_rfl
theorem wl_sa52 {ops : Array Oper} {rest : List Oper} {o : Oper} {a : Act} {w : World} {Q : Exit → Act → World → Prop} (hg : o.guard = none) (ho : o.op = .build 52 #[(0, .const (.int .i64 8)), (4, .const (.int .u64 9))]) (h : wpList Try.prog ops Q rest (a.put o.dst (.agg (Sa.cs ⟨8, 0, 0, 0, 9, 0, 0⟩))) w) : wpList Try.prog ops Q (o :: rest) a w := by
  have hb : Try.prog.built 52 (#[(0, .const (.int .i64 8)), (4, .const (.int .u64 9))].map fun (i, x) => (i, a.eval x) : Array (Nat × Value)).toList = some (Sa.cs ⟨8, 0, 0, 0, 9, 0, 0⟩) := by
    simp only [List.map_toArray, List.map_cons, List.map_nil]
    exact bsa52
  exact wpList_build hg 52 _ ho (by rw [hb]; rfl) (by rw [hb]; exact h)
theorem bha8 : Try.prog.built 72 [(1, .int .u64 8), (2, .int .u32 1)] = some lvH.cs := by kernel_rfl
theorem wl_h8 {ops : Array Oper} {rest : List Oper} {o : Oper} {a : Act} {w : World} {Q : Exit → Act → World → Prop} (hg : o.guard = none) (ho : o.op = .build 72 #[(1, .const (.int .u64 8)), (2, .const (.int .u32 1))]) (h : wpList Try.prog ops Q rest (a.put o.dst (.agg lvH.cs)) w) : wpList Try.prog ops Q (o :: rest) a w := by
  have hb : Try.prog.built 72 (#[(1, .const (.int .u64 8)), (2, .const (.int .u32 1))].map fun (i, x) => (i, a.eval x) : Array (Nat × Value)).toList = some lvH.cs := by
    simp only [List.map_toArray, List.map_cons, List.map_nil]
    exact bha8
  exact wpList_build hg 72 _ ho (by rw [hb]; rfl) (by rw [hb]; exact h)
def lvS : Sa := ⟨8, 0, 0, 0, 9, 0, 0⟩
def lvY : In := ⟨8, 1, 1, 416, 1, 1, 2, 9, 0, 5, 6, 6, 0, ⟨#[]⟩⟩
theorem lv_y : ResP (apX lvF lvS 6) (apS lvF lvS) (apE lvF lvS) = .tuple #[lvY.v, .bool true, .int .i64 0] := by kernel_rfl
theorem lv_z : ResP (apX lvD lvS 6) (apS lvD lvS) (apE lvD lvS) = .tuple #[In.zero.v, .bool false, .int .i64 122] := by kernel_rfl
set_option maxRecDepth 100000 in
set_option maxHeartbeats 8000000 in
theorem live_any (w : World) : Calls Try.prog 12 #[] w fun e w' => e = .returned (.bool true) ∧ Fr (fun _ => False) w w' := by
  go_enter Try.func12, Try.ntmps12
  go_wp2_with fail
  refine (new_any 7 1 2 16877 0 0 5 _ (by decide) (by decide)).mono ?_
  rintro e w1 ⟨rfl, f1⟩
  rw [lv_d]
  obtain ⟨d, hd⟩ : ∃ d, d = lvD := ⟨_, rfl⟩
  rw [← hd]
  have HDD := hide hd
  have F1 := hide f1
  clear hd f1
  go_wp2_with (first | (apply wl_store25 _ _ rfl rfl _ rfl _ rfl; (case hr => simp [go_sem]); (case hw => (simp [go_sem]; try exact rfl))))
  have HD := hide (heap_alloc_new w1 (.cells d.cs 25))
  have F1 := hide ((unhide F1).alloc (.cells d.cs 25))
  refine (new_any 8 1 1 416 1 2 5 _ (by decide) (by decide)).mono ?_
  rintro e w2 ⟨rfl, f2⟩
  rw [lv_f]
  obtain ⟨f, hf⟩ : ∃ f, f = lvF := ⟨_, rfl⟩
  rw [← hf]
  have HFF := hide hf
  clear hf
  have HD := hide (((f2).block _ (lt_of_heap (unhide HD)) id).trans (unhide HD))
  have F2 := hide ((unhide F1).trans f2 (fun _ _ e => e))
  clear f2 F1
  go_wp2_with (first | (apply wl_store25 _ _ rfl rfl _ rfl _ rfl; (case hr => simp [go_sem]); (case hw => (simp [go_sem]; try exact rfl))) | (apply wl_load25 _ rfl rfl _ rfl; (case hr => (first | (simp [go_sem]; done) | (simp (disch := first | rfl | (simp; done) | (simp; omega)) only [rowN_ext, rowN_alloc_past, In.rowN]; done))); (case hc => (first | (simp [go_sem]; done) | (simp (disch := first | rfl | (simp; done) | (simp; omega)) only [rowD_ext, rowD_alloc_past, rowD_alloc_at]; try exact rfl)))))
  have HD := hide ((Below.heap_alloc w2 (.cells f.cs 25) _ (lt_of_heap (unhide HD))).trans (unhide HD))
  have HF := hide (heap_alloc_new w2 (.cells f.cs 25))
  have F2 := hide ((unhide F2).alloc (.cells f.cs 25))
  refine (put_any f (by rw [unhide HFF]; exact lvF_ok) _).mono ?_
  rintro e w3 ⟨v3, rfl, h3⟩
  rw [show ck f = 0 from by rw [unhide HFF]; exact lv_ck]
  obtain ⟨B, hB⟩ : ∃ B, B = pR lvF := ⟨_, rfl⟩
  rw [show pR f = B from by rw [unhide HFF, hB]] at h3
  have HBB := hide hB
  have hB84 : B.length = 84 := by rw [hB]; exact lv_pR
  obtain ⟨va, vc, rfl⟩ := h3.shape
  rw [hB84]
  have hrd := h3.rd
  rw [hB84] at hrd
  have HRD := hide hrd
  have HD := hide (((h3.fr).block _ (lt_of_heap (unhide HD)) id).trans (unhide HD))
  have HF := hide (((h3.fr).block _ (lt_of_heap (unhide HF)) id).trans (unhide HF))
  have F3 := hide ((unhide F2).trans h3.fr (fun _ _ e => e))
  clear h3 hrd hB hB84 F2
  go_wp2_with fail
  refine (get_any _ _ B (unhide HRD)).mono ?_
  rintro e w4 ⟨rfl, f4⟩
  rw [show gE B = 0 from by rw [unhide HBB]; exact lv_gE, show gX B = f from by rw [unhide HBB, unhide HFF]; exact lv_gX, show Res f 0 = .tuple #[f.v, .int .i64 0] by simp [Res]]
  have HD := hide (((f4).block _ (lt_of_heap (unhide HD)) id).trans (unhide HD))
  have HF := hide (((f4).block _ (lt_of_heap (unhide HF)) id).trans (unhide HF))
  have F4 := hide ((unhide F3).trans f4 (fun _ _ e => e))
  clear f4 F3 HRD HBB
  go_upto_region 5 with (first | (apply wl_store25 _ _ rfl rfl _ rfl _ rfl; (case hr => simp [go_sem]); (case hw => (simp [go_sem]; try exact rfl))))
  have HD := hide ((Below.heap_alloc w4 (.cells f.cs 25) _ (lt_of_heap (unhide HD))).trans (unhide HD))
  have HF := hide ((Below.heap_alloc w4 (.cells f.cs 25) _ (lt_of_heap (unhide HF))).trans (unhide HF))
  have HX := hide (heap_alloc_new w4 (.cells f.cs 25))
  have F4 := hide ((unhide F4).alloc (.cells f.cs 25))
  go_wp2_with (first | (apply wl_load25 _ rfl rfl _ rfl; (case hr => exact rowN_h (unhide HF)); (case hc => exact rowD_h (unhide HF))) | (refine wl_sa52 rfl rfl ?_))
  refine (apply_any f lvS 6 _).mono ?_
  rintro e w5 ⟨rfl, f5⟩
  rw [show ResP (apX f lvS 6) (apS f lvS) (apE f lvS) = .tuple #[lvY.v, .bool true, .int .i64 0] from by rw [unhide HFF]; exact lv_y]
  obtain ⟨y, hy⟩ : ∃ y, y = lvY := ⟨_, rfl⟩
  rw [← hy]
  have HYY := hide hy
  clear hy
  have HD := hide (((f5).block _ (lt_of_heap (unhide HD)) id).trans (unhide HD))
  have HF := hide (((f5).block _ (lt_of_heap (unhide HF)) id).trans (unhide HF))
  have HX := hide (((f5).block _ (lt_of_heap (unhide HX)) id).trans (unhide HX))
  have F5 := hide ((unhide F4).trans f5 (fun _ _ e => e))
  clear f5 F4
  go_upto_region 6 with (first | (apply wl_store25 _ _ rfl rfl _ rfl _ rfl; (case hr => simp [go_sem]); (case hw => (simp [go_sem]; try exact rfl))))
  have HD := hide ((Below.heap_alloc w5 (.cells y.cs 25) _ (lt_of_heap (unhide HD))).trans (unhide HD))
  have HF := hide ((Below.heap_alloc w5 (.cells y.cs 25) _ (lt_of_heap (unhide HF))).trans (unhide HF))
  have HX := hide ((Below.heap_alloc w5 (.cells y.cs 25) _ (lt_of_heap (unhide HX))).trans (unhide HX))
  have HY := hide (heap_alloc_new w5 (.cells y.cs 25))
  have F5 := hide ((unhide F5).alloc (.cells y.cs 25))
  go_wp2_with (first | (apply wl_load25 _ rfl rfl _ rfl; (case hr => exact rowN_h (unhide HD)); (case hc => exact rowD_h (unhide HD))) | (refine wl_sa52 rfl rfl ?_))
  refine (apply_any d lvS 6 _).mono ?_
  rintro e w6 ⟨rfl, f6⟩
  rw [show ResP (apX d lvS 6) (apS d lvS) (apE d lvS) = .tuple #[In.zero.v, .bool false, .int .i64 122] from by rw [unhide HDD]; exact lv_z]
  have HD := hide (((f6).block _ (lt_of_heap (unhide HD)) id).trans (unhide HD))
  have HF := hide (((f6).block _ (lt_of_heap (unhide HF)) id).trans (unhide HF))
  have HX := hide (((f6).block _ (lt_of_heap (unhide HX)) id).trans (unhide HX))
  have HY := hide (((f6).block _ (lt_of_heap (unhide HY)) id).trans (unhide HY))
  have F6 := hide ((unhide F5).trans f6 (fun _ _ e => e))
  clear f6 F5
  go_upto_region 7 with (first | (apply wl_store25 _ _ rfl rfl _ rfl _ rfl; (case hr => simp [go_sem]); (case hw => (simp [go_sem]; try exact rfl))))
  have HD := hide ((Below.heap_alloc w6 (.cells In.zero.cs 25) _ (lt_of_heap (unhide HD))).trans (unhide HD))
  have HF := hide ((Below.heap_alloc w6 (.cells In.zero.cs 25) _ (lt_of_heap (unhide HF))).trans (unhide HF))
  have HX := hide ((Below.heap_alloc w6 (.cells In.zero.cs 25) _ (lt_of_heap (unhide HX))).trans (unhide HX))
  have HY := hide ((Below.heap_alloc w6 (.cells In.zero.cs 25) _ (lt_of_heap (unhide HY))).trans (unhide HY))
  have HZ := hide (heap_alloc_new w6 (.cells In.zero.cs 25))
  have F6 := hide ((unhide F6).alloc (.cells In.zero.cs 25))
  go_wp2_with (first | (refine wl_h8 rfl rfl ?_))
  refine (putH_any lvH lvH_ok _).mono ?_
  rintro e w7 ⟨v7, rfl, h7⟩
  rw [lv_hE]
  obtain ⟨B7, hB7⟩ : ∃ B, B = hR lvH := ⟨_, rfl⟩
  rw [← hB7] at h7
  have HB7 := hide hB7
  have hB20 : B7.length = 20 := by rw [hB7]; exact lv_hR
  obtain ⟨vb, vd, rfl⟩ := h7.shape
  rw [hB20]
  have hrd := h7.rd
  rw [hB20] at hrd
  have HRD := hide hrd
  have HD := hide (((h7.fr).block _ (lt_of_heap (unhide HD)) id).trans (unhide HD))
  have HF := hide (((h7.fr).block _ (lt_of_heap (unhide HF)) id).trans (unhide HF))
  have HX := hide (((h7.fr).block _ (lt_of_heap (unhide HX)) id).trans (unhide HX))
  have HY := hide (((h7.fr).block _ (lt_of_heap (unhide HY)) id).trans (unhide HY))
  have HZ := hide (((h7.fr).block _ (lt_of_heap (unhide HZ)) id).trans (unhide HZ))
  have F7 := hide ((unhide F6).trans h7.fr (fun _ _ e => e))
  clear h7 hrd hB7 hB20 F6
  go_wp2_with fail
  refine (getH_any _ _ B7 (unhide HRD)).mono ?_
  rintro e w8 ⟨rfl, f8⟩
  rw [show ghE B7 = 0 from by rw [unhide HB7]; exact lv_ghE, show ghX B7 = lvH from by rw [unhide HB7]; exact lv_ghX, show ResH lvH 0 = .tuple #[lvH.v, .int .i64 0] by simp [ResH]]
  obtain ⟨q, hq⟩ : ∃ q, q = lvH := ⟨_, rfl⟩
  rw [← hq]
  have HQQ := hide hq
  clear hq
  have HD := hide (((f8).block _ (lt_of_heap (unhide HD)) id).trans (unhide HD))
  have HF := hide (((f8).block _ (lt_of_heap (unhide HF)) id).trans (unhide HF))
  have HX := hide (((f8).block _ (lt_of_heap (unhide HX)) id).trans (unhide HX))
  have HY := hide (((f8).block _ (lt_of_heap (unhide HY)) id).trans (unhide HY))
  have HZ := hide (((f8).block _ (lt_of_heap (unhide HZ)) id).trans (unhide HZ))
  have F8 := hide ((unhide F7).trans f8 (fun _ _ e => e))
  clear f8 F7 HRD HB7
  go_upto_region 9 with (first | (apply wl_store72 _ _ rfl rfl _ rfl _ rfl; (case hr => simp [go_sem]); (case hw => (simp [go_sem]; try exact rfl))))
  have HD := hide ((Below.heap_alloc w8 (.cells q.cs 72) _ (lt_of_heap (unhide HD))).trans (unhide HD))
  have HF := hide ((Below.heap_alloc w8 (.cells q.cs 72) _ (lt_of_heap (unhide HF))).trans (unhide HF))
  have HX := hide ((Below.heap_alloc w8 (.cells q.cs 72) _ (lt_of_heap (unhide HX))).trans (unhide HX))
  have HY := hide ((Below.heap_alloc w8 (.cells q.cs 72) _ (lt_of_heap (unhide HY))).trans (unhide HY))
  have HZ := hide ((Below.heap_alloc w8 (.cells q.cs 72) _ (lt_of_heap (unhide HZ))).trans (unhide HZ))
  have HQ := hide (heap_alloc_new w8 (.cells q.cs 72))
  have F8 := hide ((unhide F8).alloc (.cells q.cs 72))
  refine wp_world ?_
  intro W8 hW8
  rw [← hW8] at HD HF HX HY HZ HQ F8
  have c1 : W8.cell? ⟨w1.heap.size, 3, none⟩ = some (.int .u32 493) := by rw [cell_of_heap (unhide HD), unhide HDD]; rfl
  have c2 : W8.cell? ⟨w1.heap.size, 4, none⟩ = some (.int .u32 2) := by rw [cell_of_heap (unhide HD), unhide HDD]; rfl
  have c3 : W8.cell? ⟨w5.heap.size, 7, none⟩ = some (.int .u64 9) := by rw [cell_of_heap (unhide HY), unhide HYY]; rfl
  have c4 : W8.cell? ⟨w5.heap.size, 10, none⟩ = some (.int .u64 6) := by rw [cell_of_heap (unhide HY), unhide HYY]; rfl
  have c5 : W8.cell? ⟨w8.heap.size, 1, none⟩ = some (.int .u64 8) := by rw [cell_of_heap (unhide HQ), unhide HQQ]; rfl
  clear hW8 HD HY HZ HQ HYY HQQ HDD
  have HEQ : eqB f f = true := eqB_same f
  try simp only [List.append_eq, List.cons_append, List.nil_append]
  go_wp2_with (first | (go_at_call 17; refine (num_any _ _).mono ?_; rintro e w' ⟨rfl, hw'⟩; have hw2 := hw'.symm; subst hw2; clear hw') | (apply wl_load25 _ rfl rfl _ rfl; (case hr => exact rowN_h (unhide HF)); (case hc => exact rowD_h (unhide HF))) | (apply wl_load25 _ rfl rfl _ rfl; (case hr => exact rowN_h (unhide HX)); (case hc => exact rowD_h (unhide HX))))
  refine (access_any f (by rw [unhide HFF]; exact lvF_ok) 1 (.slice none 0 0) [] 63 _ (.inl ⟨rfl, rfl⟩) (by decide)).mono ?_
  rintro e w9 ⟨rfl, f9⟩
  rw [show acR f 1 [] 63 = 13 from by rw [unhide HFF]; exact lv_a1]
  have HF := hide ((f9.block _ (lt_of_heap (unhide HF)) id).trans (unhide HF))
  have F9 := hide ((unhide F8).trans f9 (fun _ _ e => e))
  clear f9 F8 c1 c2 c3 c4 c5 HX HEQ
  go_wp2_with (first | (apply wl_load25 _ rfl rfl _ rfl; (case hr => exact rowN_h (unhide HF)); (case hc => exact rowD_h (unhide HF))))
  refine (access_any f (by rw [unhide HFF]; exact lvF_ok) 3 _ [2] 63 _ (.inr ⟨w9.heap.size, 1, rfl, by decide, by decide, fun j hj => ?_⟩) (by decide)).mono ?_
  · have hj0 : j = 0 := by simpa using hj
    subst hj0
    rw [cell_of_heap (heap_alloc_new w9 _)]; rfl
  rintro e w10 ⟨rfl, f10⟩
  rw [show acR f 3 [2] 63 = 1 from by rw [unhide HFF]; exact lv_a2]
  have F10 := hide (((unhide F9).alloc (.cells #[.int .u32 2] 23)).trans f10 (fun _ _ e => e))
  clear f10 F9 HF
  go_wp2_with fail
  go_ret
  exact ⟨rfl, unhide F10⟩
end Go.Proofs.Ytbenailemoefhaa
