/-
  The walk of the law of texts.
-/
import Derived.Test.YtlicmlioilkfdaaDoorHx
import Derived.Test.YtlicmlioilkfdaaDoorX4
import Derived.Test.YtlicmlioilkfdaaDoorLv
import Derived.Test.YtlicmlioilkfdaaDoorAd
namespace Go.Proofs.YtlicmlioilkfdaaDoor
open Go.RowKit
set_option linter.unusedVariables false
set_option linter.unusedSimpArgs false

attribute [local go_sem ↓] Go.wp_at_zero Go.wp_at_succ

theorem cfv33 (args : Array Value) (W : World) : Sem.run Tryd.prog (callFunc 33 args) W = .ok (.enter 33 args) W := by simp [go_sem]
theorem cfv10 (args : Array Value) (W : World) : Sem.run Tryd.prog (callFunc 10 args) W = .ok (.enter 10 args) W := by simp [go_sem]

set_option maxHeartbeats 4000000 in
set_option maxRecDepth 100000 in
theorem shaHex_any (w : World) (T : Tb w) (d : List UInt8) (hdl : d.length = 32) (s : List UInt8) : Calls Tryd.prog 5 #[.agg (bvs d).toArray, .string (str s)] w fun e w' => e = .returned (.bool true) ∧ Fr (fun _ => False) w w' := by
  have hsz : (str s).size = s.length := str_size s
  have HT0 := hide T
  clear T
  by_cases hbig : 9000 < s.length
  · have hbi : (9000 : Int) < (s.length : Int) := by omega
    go_enter Tryd.func5, Tryd.ntmps5
    go_wp2_with fail
    refine wpC_world ?_
    intro w0 hw0
    have F0 : Hid (Fr (fun _ => False) w w0) := hide (by rw [hw0]; exact (Fr.refl _ _).alloc _)
    clear hw0
    refine (live_any w0 ((unhide HT0).kept (unhide F0) id id)).mono ?_
    rintro e w1 ⟨rfl, f1⟩
    have F1 := hide ((unhide F0).trans f1 (fun _ _ h => h))
    clear f1
    go_wp2_with fail
    go_ret
    exact ⟨rfl, unhide F1⟩
  · have hbi : ¬ (9000 : Int) < (s.length : Int) := by omega
    have hi : (Tryd.prog.info? 26).map (·.size) = some (bvs d).length := by rw [bvs_length, hdl]; exact Tryd.s26
    have hszd : (bvs d).toArray.size = 32 := by simpa [bvs_length] using hdl
    have hi2 : (Tryd.prog.info? 26).map (·.size) = some (bvs d).toArray.size := by rw [hszd]; exact Tryd.s26
    have honed := bvs_oneA d
    obtain ⟨D5, er, pl, hp⟩ : ∃ D5 er pl, prs s = (D5, er, pl) := ⟨_, _, _, rfl⟩
    have hDl5 : D5.length = 32 := by have := prs_length s; rw [hp] at this; exact this
    have hszD : (bvs D5).toArray.size = 32 := by simpa [bvs_length] using hDl5
    have hi5 : (Tryd.prog.info? 26).map (·.size) = some (bvs D5).toArray.size := by rw [hszD]; exact Tryd.s26
    have hone5 := bvs_oneA D5
    have HP := hide hp
    have hsl : s.length ≤ 9000 := by omega
    have HPH := hide (prs_hex d hdl)
    have hhl := hexL_length d
    clear hp
    go_enter Tryd.func5, Tryd.ntmps5
    go_wp2_with fail
    refine wpC_world ?_
    intro w0 hw0
    have f0 : Fr (fun _ => False) w w0 := by rw [hw0]; exact (Fr.refl _ _).alloc _
    have hB0 : w0.heap[w.heap.size]? = some (.cells (bvs d).toArray 26 (0, 0)) := by rw [hw0]; exact heap_alloc_new w _
    have F0 := hide f0
    have HB0 := hide hB0
    have hs0 : w.heap.size < w0.heap.size := lt_of_heap hB0
    clear hw0 f0 hB0
    have hps := parse_any w0 s (by omega)
    rw [unhide HP] at hps
    refine hps.mono ?_
    rintro e w1 ⟨rfl, f1⟩
    have F1 := hide ((unhide F0).trans f1 (fun _ _ h => h))
    have HB1 := hide ((f1.block w.heap.size hs0 id).trans (unhide HB0))
    have hs1 : w0.heap.size ≤ w1.heap.size := f1.size
    have hth1 : ∀ cs : Array Value, cs.size = 32 → (w1.alloc (.cells cs 26)).there w1.heap.size 0 (bvs D5).toArray.size := fun cs hcs => by rw [hszD]; exact (ZAt.new w1 cs 26 32 hcs).there
    clear hps f1
    go_wp2_with (refine wpList_storeN rfl rfl 26 _ _ rfl w1.heap.size 0 (bvs D5).toArray rfl rfl (hth1 _ rfl) hi5 hone5 ?_)
    intro w2 hw2
    replace hw2 := unhide hw2
    have hB2 : w2.heap[w1.heap.size]? = some (.cells (bvs D5).toArray 26 (0, 0)) := by rw [hw2]; exact (ZAt.new w1 _ 26 32 rfl).putB D5 hDl5
    have f2 : Fr (fun _ => False) w1 w2 := by rw [hw2]; exact ((Fr.refl _ _).alloc _).trans (setCells_frame _ _ _ _) (fun i hi e => by omega)
    have F2 := hide ((unhide F1).trans f2 (fun _ _ h => h))
    have HB2 := hide ((f2.block w.heap.size (by omega) id).trans (unhide HB1))
    have HC2 := hide hB2
    have hs2 : w1.heap.size < w2.heap.size := lt_of_heap hB2
    clear hw2 f2 hB2 hth1
    go_wp2_with fail
    have hps := rparse_any w2 s (by omega)
    rw [unhide HP] at hps
    refine hps.mono ?_
    rintro e w3 ⟨rfl, f3⟩
    have F3 := hide ((unhide F2).trans f3 (fun _ _ h => h))
    have HB3 := hide ((f3.block w.heap.size (by omega) id).trans (unhide HB2))
    have HC3 := hide ((f3.block w1.heap.size (by omega) id).trans (unhide HC2))
    have hs3 : w2.heap.size ≤ w3.heap.size := f3.size
    have hth3 : ∀ cs : Array Value, cs.size = 32 → (w3.alloc (.cells cs 26)).there w3.heap.size 0 (bvs D5).toArray.size := fun cs hcs => by rw [hszD]; exact (ZAt.new w3 cs 26 32 hcs).there
    clear hps f3
    go_wp2_with (refine wpList_storeN rfl rfl 26 _ _ rfl w3.heap.size 0 (bvs D5).toArray rfl rfl (hth3 _ rfl) hi5 hone5 ?_)
    intro w4 hw4
    replace hw4 := unhide hw4
    have hB4 : w4.heap[w3.heap.size]? = some (.cells (bvs D5).toArray 26 (0, 0)) := by rw [hw4]; exact (ZAt.new w3 _ 26 32 rfl).putB D5 hDl5
    have f4 : Fr (fun _ => False) w3 w4 := by rw [hw4]; exact ((Fr.refl _ _).alloc _).trans (setCells_frame _ _ _ _) (fun i hi e => by omega)
    have F4 := hide ((unhide F3).trans f4 (fun _ _ h => h))
    have HB4 := hide ((f4.block w.heap.size (by omega) id).trans (unhide HB3))
    have HC4 := hide ((f4.block w1.heap.size (by omega) id).trans (unhide HC3))
    have HD4 := hide hB4
    have hs4 : w3.heap.size < w4.heap.size := lt_of_heap hB4
    have hrng := bat_range (unhide HB4)
    clear hw4 f4 hB4 hth3
    go_wp2_with (refine wpList_load_mid rfl 26 _ rfl w.heap.size 0 rfl (bvs d) _ hrng Tryd.u26 rfl hi ?_)
    refine (hex_any w4 d hdl).mono ?_
    rintro e w5 ⟨rfl, f5⟩
    have F5 := hide ((unhide F4).trans f5 (fun _ _ h => h))
    have HB5 := hide ((f5.block w.heap.size (by omega) id).trans (unhide HB4))
    have HC5 := hide ((f5.block w1.heap.size (by omega) id).trans (unhide HC4))
    have HD5 := hide ((f5.block w3.heap.size (by omega) id).trans (unhide HD4))
    have hs5 : w4.heap.size ≤ w5.heap.size := f5.size
    clear f5 hrng
    go_wp2_with fail
    have hps := parse_any w5 (hexL d) (by omega)
    rw [unhide HPH] at hps
    refine hps.mono ?_
    rintro e w6 ⟨rfl, f6⟩
    have F6 := hide ((unhide F5).trans f6 (fun _ _ h => h))
    have HB6 := hide ((f6.block w.heap.size (by omega) id).trans (unhide HB5))
    have HC6 := hide ((f6.block w1.heap.size (by omega) id).trans (unhide HC5))
    have HD6 := hide ((f6.block w3.heap.size (by omega) id).trans (unhide HD5))
    have hs6 : w5.heap.size ≤ w6.heap.size := f6.size
    have hth6 : ∀ cs : Array Value, cs.size = 32 → (w6.alloc (.cells cs 26)).there w6.heap.size 0 (bvs d).toArray.size := fun cs hcs => by rw [hszd]; exact (ZAt.new w6 cs 26 32 hcs).there
    clear hps f6
    go_wp2_with (refine wpList_storeN rfl rfl 26 _ _ rfl w6.heap.size 0 (bvs d).toArray rfl rfl (hth6 _ rfl) hi2 honed ?_)
    intro W hW
    replace hW := unhide hW
    have hB7 : W.heap[w6.heap.size]? = some (.cells (bvs d).toArray 26 (0, 0)) := by rw [hW]; exact (ZAt.new w6 _ 26 32 rfl).putB d hdl
    have f7 : Fr (fun _ => False) w6 W := by rw [hW]; exact ((Fr.refl _ _).alloc _).trans (setCells_frame _ _ _ _) (fun i hi e => by omega)
    have HF := hide ((unhide F6).trans f7 (fun _ _ h => h))
    have HR2 := hide (bat_range ((f7.block w.heap.size (by omega) id).trans (unhide HB6)))
    have HR5 := hide (bat_range ((f7.block w1.heap.size (by omega) id).trans (unhide HC6)))
    have HR8 := hide (bat_range ((f7.block w3.heap.size (by omega) id).trans (unhide HD6)))
    have HR11 := hide (bat_range hB7)
    have HT := hide ((unhide HT0).kept (unhide HF) id id)
    have hNw : W.heap.size ≤ W.heap.size := Nat.le_refl _
    clear hW f7 hB7 hth6
    go_wp2_with fail
    generalize hg2 : w.heap.size = g2 at *
    generalize hg5 : w1.heap.size = g5 at *
    generalize hg8 : w3.heap.size = g8 at *
    generalize hg11 : w6.heap.size = g11 at *
    refine wp_name ?_
    intro a0 hA
    have h2 : a0.tmps.getD 2 undef = .pointer (some ⟨g2, 0, none⟩) := by rw [hA]; rfl
    have h5 : a0.tmps.getD 5 undef = .pointer (some ⟨g5, 0, none⟩) := by rw [hA]; rfl
    have h6 : a0.tmps.getD 6 undef = .int .i64 er := by rw [hA]; rfl
    have h7 : a0.tmps.getD 7 undef = .int .i64 pl := by rw [hA]; rfl
    have h8 : a0.tmps.getD 8 undef = .pointer (some ⟨g8, 0, none⟩) := by rw [hA]; rfl
    have h9 : a0.tmps.getD 9 undef = .int .i64 er := by rw [hA]; rfl
    have h10 : a0.tmps.getD 10 undef = .int .i64 pl := by rw [hA]; rfl
    have h11 : a0.tmps.getD 11 undef = .pointer (some ⟨g11, 0, none⟩) := by rw [hA]; rfl
    have h12 : a0.tmps.getD 12 undef = .int .i64 0 := by rw [hA]; rfl
    have hsz : a0.tmps.size = 71 := by rw [hA]; rfl
    have hdf : a0.defers = [] := by rw [hA]
    clear hA
    refine wp_region_freeR (R := Cg (W.heap.size)) (fun w => Cg.drew w) (fun a b c h k => Cg.trans a b c h k) (by kernel_rfl) (by kernel_rfl) (by decide +kernel) (by rw [hsz]; decide +kernel) (Tk (W.heap.size) [.eq (.agg (bvs d).toArray), .eq (.string (str (hexL d))), .eq (.agg (bvs d).toArray), .eq (.string (str (hexL d))), .eq (.bool true), .eq (.bool true), .eq (.agg (bvs D5).toArray), .eq (.agg (bvs D5).toArray), .eq (.bool true), .eq (.bool true), .eq (.bool true), .eq (.int .i64 er), .eq (.int .i64 er), .eq (.int .i64 er), .eq (.bool true), .eq (.bool true), .eq (.bool true), .eq (.int .i64 pl), .eq (.int .i64 pl), .eq (.bool true), .eq (.bool true), .eq (.bool true), .eq (.int .i64 0), .eq (.int .i64 0), .eq (.bool true), .eq (.bool true), .eq (.bool true), .eq (.agg (bvs d).toArray), .eq (.agg (bvs d).toArray), .eq (.bool true), .eq (.bool true), .eq (.bool true), .eq (.bool true), .eq (.bool true), .eq (.bool true)]) (Tk.mono _) ?steps ?done
    case steps =>
      refine ⟨?_, ?_⟩
      · intro a' w' hb hf hd
        exact ⟨wanted_none rfl, ex_val (.agg (bvs d).toArray) (ex_load26 rfl ((hb.old 2 (by decide +kernel)).trans h2) (hdl) (hf.range (unhide HR2))) rfl⟩
      refine ⟨?_, ?_⟩
      · intro a' w' hb hf hd
        exact ⟨wanted_none rfl, ex_call 32 _ (en_call1 rfl rfl (hd 0 (by kernel_rfl) 37 rfl) cfv32) ((hex_any w' d hdl).mono (by rintro e w7 ⟨rfl, f⟩; exact ⟨⟨_, rfl, rfl⟩, f⟩))⟩
      refine ⟨?_, ?_⟩
      · intro a' w' hb hf hd
        exact ⟨wanted_none rfl, ex_val (.agg (bvs d).toArray) (ex_load26 rfl ((hb.old 2 (by decide +kernel)).trans h2) (hdl) (hf.range (unhide HR2))) rfl⟩
      refine ⟨?_, ?_⟩
      · intro a' w' hb hf hd
        exact ⟨wanted_none rfl, ex_call 33 _ (en_call1 rfl rfl (hd 2 (by kernel_rfl) 39 rfl) cfv33) ((rhex_any w' d hdl).mono (by rintro e w7 ⟨rfl, f⟩; exact ⟨⟨_, rfl, rfl⟩, f⟩))⟩
      refine ⟨?_, ?_⟩
      · intro a' w' hb hf hd
        exact ⟨wanted_none rfl, ex_val (.bool true) (ex_eqS rfl (hd 1 (by kernel_rfl) 38 rfl) (hd 3 (by kernel_rfl) 40 rfl)) rfl⟩
      refine ⟨?_, ?_⟩
      · intro a' w' hb hf hd
        exact ⟨wanted_none rfl, ex_val (.bool true) (ex_move rfl (hd 4 (by kernel_rfl) 41 rfl)) rfl⟩
      refine ⟨?_, ?_⟩
      · intro a' w' hb hf hd
        exact ⟨wanted_of (d := 42) rfl rfl (by rw [hb.size, hsz]; omega) (hd 5 (by kernel_rfl) 42 rfl), ex_val (.agg (bvs D5).toArray) (ex_load26 rfl ((hb.old 5 (by decide +kernel)).trans h5) (hDl5) (hf.range (unhide HR5))) rfl⟩
      refine ⟨?_, ?_⟩
      · intro a' w' hb hf hd
        exact ⟨wanted_of (d := 42) rfl rfl (by rw [hb.size, hsz]; omega) (hd 5 (by kernel_rfl) 42 rfl), ex_val (.agg (bvs D5).toArray) (ex_load26 rfl ((hb.old 8 (by decide +kernel)).trans h8) (hDl5) (hf.range (unhide HR8))) rfl⟩
      refine ⟨?_, ?_⟩
      · intro a' w' hb hf hd
        exact ⟨wanted_of (d := 42) rfl rfl (by rw [hb.size, hsz]; omega) (hd 5 (by kernel_rfl) 42 rfl), ex_val (.bool true) (ex_eqD rfl (hd 6 (by kernel_rfl) 43 rfl) (hd 7 (by kernel_rfl) 44 rfl) (hDl5)) rfl⟩
      refine ⟨?_, ?_⟩
      · intro a' w' hb hf hd
        exact ⟨wanted_none rfl, ex_val (.bool true) (ex_pick rfl (hd 5 (by kernel_rfl) 42 rfl) (hd 8 (by kernel_rfl) 45 rfl)) rfl⟩
      refine ⟨?_, ?_⟩
      · intro a' w' hb hf hd
        exact ⟨wanted_none rfl, ex_val (.bool true) (ex_move rfl (hd 9 (by kernel_rfl) 46 rfl)) rfl⟩
      refine ⟨?_, ?_⟩
      · intro a' w' hb hf hd
        exact ⟨wanted_of (d := 47) rfl rfl (by rw [hb.size, hsz]; omega) (hd 10 (by kernel_rfl) 47 rfl), ex_val (.int .i64 er) (ex_move rfl ((hb.old 6 (by decide +kernel)).trans h6)) rfl⟩
      refine ⟨?_, ?_⟩
      · intro a' w' hb hf hd
        exact ⟨wanted_of (d := 47) rfl rfl (by rw [hb.size, hsz]; omega) (hd 10 (by kernel_rfl) 47 rfl), ex_call 25 _ (en_call1 rfl rfl (hd 11 (by kernel_rfl) 48 rfl) cfv25) ((num_any w' _).mono (by rintro e w7 ⟨rfl, rfl⟩; exact ⟨⟨_, rfl, rfl⟩, Fr.refl _ _⟩))⟩
      refine ⟨?_, ?_⟩
      · intro a' w' hb hf hd
        exact ⟨wanted_of (d := 47) rfl rfl (by rw [hb.size, hsz]; omega) (hd 10 (by kernel_rfl) 47 rfl), ex_val (.int .i64 er) (ex_move rfl ((hb.old 9 (by decide +kernel)).trans h9)) rfl⟩
      refine ⟨?_, ?_⟩
      · intro a' w' hb hf hd
        exact ⟨wanted_of (d := 47) rfl rfl (by rw [hb.size, hsz]; omega) (hd 10 (by kernel_rfl) 47 rfl), ex_val (.bool true) (ex_eqI Tryd.underlying3 rfl (hd 12 (by kernel_rfl) 49 rfl) (hd 13 (by kernel_rfl) 50 rfl)) rfl⟩
      refine ⟨?_, ?_⟩
      · intro a' w' hb hf hd
        exact ⟨wanted_none rfl, ex_val (.bool true) (ex_pick rfl (hd 10 (by kernel_rfl) 47 rfl) (hd 14 (by kernel_rfl) 51 rfl)) rfl⟩
      refine ⟨?_, ?_⟩
      · intro a' w' hb hf hd
        exact ⟨wanted_none rfl, ex_val (.bool true) (ex_move rfl (hd 15 (by kernel_rfl) 52 rfl)) rfl⟩
      refine ⟨?_, ?_⟩
      · intro a' w' hb hf hd
        exact ⟨wanted_of (d := 53) rfl rfl (by rw [hb.size, hsz]; omega) (hd 16 (by kernel_rfl) 53 rfl), ex_val (.int .i64 pl) (ex_move rfl ((hb.old 7 (by decide +kernel)).trans h7)) rfl⟩
      refine ⟨?_, ?_⟩
      · intro a' w' hb hf hd
        exact ⟨wanted_of (d := 53) rfl rfl (by rw [hb.size, hsz]; omega) (hd 16 (by kernel_rfl) 53 rfl), ex_val (.int .i64 pl) (ex_move rfl ((hb.old 10 (by decide +kernel)).trans h10)) rfl⟩
      refine ⟨?_, ?_⟩
      · intro a' w' hb hf hd
        exact ⟨wanted_of (d := 53) rfl rfl (by rw [hb.size, hsz]; omega) (hd 16 (by kernel_rfl) 53 rfl), ex_val (.bool true) (ex_eqI Tryd.underlying3 rfl (hd 17 (by kernel_rfl) 54 rfl) (hd 18 (by kernel_rfl) 55 rfl)) rfl⟩
      refine ⟨?_, ?_⟩
      · intro a' w' hb hf hd
        exact ⟨wanted_none rfl, ex_val (.bool true) (ex_pick rfl (hd 16 (by kernel_rfl) 53 rfl) (hd 19 (by kernel_rfl) 56 rfl)) rfl⟩
      refine ⟨?_, ?_⟩
      · intro a' w' hb hf hd
        exact ⟨wanted_none rfl, ex_val (.bool true) (ex_move rfl (hd 20 (by kernel_rfl) 57 rfl)) rfl⟩
      refine ⟨?_, ?_⟩
      · intro a' w' hb hf hd
        exact ⟨wanted_of (d := 58) rfl rfl (by rw [hb.size, hsz]; omega) (hd 21 (by kernel_rfl) 58 rfl), ex_val (.int .i64 0) (ex_move rfl ((hb.old 12 (by decide +kernel)).trans h12)) rfl⟩
      refine ⟨?_, ?_⟩
      · intro a' w' hb hf hd
        exact ⟨wanted_of (d := 58) rfl rfl (by rw [hb.size, hsz]; omega) (hd 21 (by kernel_rfl) 58 rfl), ex_call 25 _ (en_call1 rfl rfl (hd 22 (by kernel_rfl) 59 rfl) cfv25) ((num_any w' _).mono (by rintro e w7 ⟨rfl, rfl⟩; exact ⟨⟨_, rfl, rfl⟩, Fr.refl _ _⟩))⟩
      refine ⟨?_, ?_⟩
      · intro a' w' hb hf hd
        exact ⟨wanted_of (d := 58) rfl rfl (by rw [hb.size, hsz]; omega) (hd 21 (by kernel_rfl) 58 rfl), ex_val (.bool true) (ex_eqI Tryd.underlying3 rfl (hd 23 (by kernel_rfl) 60 rfl) (rfl)) rfl⟩
      refine ⟨?_, ?_⟩
      · intro a' w' hb hf hd
        exact ⟨wanted_none rfl, ex_val (.bool true) (ex_pick rfl (hd 21 (by kernel_rfl) 58 rfl) (hd 24 (by kernel_rfl) 61 rfl)) rfl⟩
      refine ⟨?_, ?_⟩
      · intro a' w' hb hf hd
        exact ⟨wanted_none rfl, ex_val (.bool true) (ex_move rfl (hd 25 (by kernel_rfl) 62 rfl)) rfl⟩
      refine ⟨?_, ?_⟩
      · intro a' w' hb hf hd
        exact ⟨wanted_of (d := 63) rfl rfl (by rw [hb.size, hsz]; omega) (hd 26 (by kernel_rfl) 63 rfl), ex_val (.agg (bvs d).toArray) (ex_load26 rfl ((hb.old 11 (by decide +kernel)).trans h11) (hdl) (hf.range (unhide HR11))) rfl⟩
      refine ⟨?_, ?_⟩
      · intro a' w' hb hf hd
        exact ⟨wanted_of (d := 63) rfl rfl (by rw [hb.size, hsz]; omega) (hd 26 (by kernel_rfl) 63 rfl), ex_val (.agg (bvs d).toArray) (ex_load26 rfl ((hb.old 2 (by decide +kernel)).trans h2) (hdl) (hf.range (unhide HR2))) rfl⟩
      refine ⟨?_, ?_⟩
      · intro a' w' hb hf hd
        exact ⟨wanted_of (d := 63) rfl rfl (by rw [hb.size, hsz]; omega) (hd 26 (by kernel_rfl) 63 rfl), ex_val (.bool true) (ex_eqD rfl (hd 27 (by kernel_rfl) 64 rfl) (hd 28 (by kernel_rfl) 65 rfl) (hdl)) rfl⟩
      refine ⟨?_, ?_⟩
      · intro a' w' hb hf hd
        exact ⟨wanted_none rfl, ex_val (.bool true) (ex_pick rfl (hd 26 (by kernel_rfl) 63 rfl) (hd 29 (by kernel_rfl) 66 rfl)) rfl⟩
      refine ⟨?_, ?_⟩
      · intro a' w' hb hf hd
        exact ⟨wanted_none rfl, ex_val (.bool true) (ex_move rfl (hd 30 (by kernel_rfl) 67 rfl)) rfl⟩
      refine ⟨?_, ?_⟩
      · intro a' w' hb hf hd
        exact ⟨wanted_of (d := 68) rfl rfl (by rw [hb.size, hsz]; omega) (hd 31 (by kernel_rfl) 68 rfl), ex_call 10 _ (en_call0 rfl rfl cfv10) ((live_any w' (hf.tb (unhide HT))).mono (by rintro e w7 ⟨rfl, f⟩; exact ⟨⟨_, rfl, rfl⟩, f⟩))⟩
      refine ⟨?_, ?_⟩
      · intro a' w' hb hf hd
        exact ⟨wanted_none rfl, ex_val (.bool true) (ex_pick rfl (hd 31 (by kernel_rfl) 68 rfl) (hd 32 (by kernel_rfl) 69 rfl)) rfl⟩
      refine ⟨?_, ?_⟩
      · intro a' w' hb hf hd
        exact ⟨wanted_none rfl, ex_val (.bool true) (ex_assign rfl (hd 33 (by kernel_rfl) 70 rfl)) rfl⟩
      exact trivial
    case done =>
      intro a' w' hb hf hall
      have hres : a'.tmps.getD 4 undef = .bool true := hall 34 (by decide) 4 rfl
      have hdf' : a'.defers = [] := by rw [hb.defers]; exact hdf
      have hF : Fr (fun _ => False) w w' := (unhide HF).trans hf.fr (fun _ _ h => h)
      have hr : bodyPost Tryd.prog Tryd.f5 (fun e w' => e = Ending.returned (Value.bool true) ∧ Fr (fun x => False) w w') .ret a' w' :=
        bodyPost_ret (v := .bool true) (by
          have h6' : a'.tmps[4]?.getD undef = .bool true := by simpa using hres
          simp [results, Tryd.results5, go_sem, h6']) hdf' ⟨rfl, hF⟩
      clear hall hb
      apply_assumption
      exact wp_ret hr

theorem shaHex_in (w : World) (T : Tb w) (d : List UInt8) (hdl : d.length = 32) (s : ByteArray) (hs : s.size ≤ maxLen) : Calls Tryd.prog 5 #[.agg (bvs d).toArray, .string s] w fun e w' => e = .returned (.bool true) ∧ Fr (fun _ => False) w w' := by
  have := shaHex_any w T d hdl s.data.toList
  rwa [str_of] at this
end Go.Proofs.YtlicmlioilkfdaaDoor
