/-
  The walk of the laws' own live.
-/
import Derived.Test.YtlicmlioilkfdaaDoorFree2
namespace Go.Proofs.YtlicmlioilkfdaaDoor
open Go.RowKit
set_option linter.unusedVariables false
set_option linter.unusedSimpArgs false

attribute [local go_sem ↓] Go.wp_at_zero Go.wp_at_succ

theorem wp_name {P : Program} {C : Code} {Q : Exit → Act → World → Prop} {a : Act} {w : World} (h : ∀ a0, a0 = a → C.wp P Q a0 w) : C.wp P Q a w := h a rfl

theorem cfv32 (args : Array Value) (W : World) : Sem.run Tryd.prog (callFunc 32 args) W = .ok (.enter 32 args) W := by simp [go_sem]
theorem cfv27 (args : Array Value) (W : World) : Sem.run Tryd.prog (callFunc 27 args) W = .ok (.enter 27 args) W := by simp [go_sem]
theorem cfv13 (args : Array Value) (W : World) : Sem.run Tryd.prog (callFunc 13 args) W = .ok (.enter 13 args) W := by simp [go_sem]
theorem cfv38 (args : Array Value) (W : World) : Sem.run Tryd.prog (callFunc 38 args) W = .ok (.enter 38 args) W := by simp [go_sem]
theorem cfv25 (args : Array Value) (W : World) : Sem.run Tryd.prog (callFunc 25 args) W = .ok (.enter 25 args) W := by simp [go_sem]

theorem ex_convM {ρ : Operand → Value} {o : Oper} {w w2 : World} {x : Operand} {v : Value} (ho : o.op = .convert 22 22 x) (hx : ρ x = v) (hc : (convert 22 22 v).run Tryd.prog w = .ok v w2) : (execOp ρ o).run Tryd.prog w = .ok (.value v) w2 := by
  simp [execOp, ho, hx, hc]

/-- A new literal, marked. -/
theorem rd_mark (w : World) (l : List UInt8) (hl : l.length ≤ 1000) (fz : Nat × Nat) : Rd (w.alloc (.cells (bvs l).toArray 5 fz)) (.slice (some ⟨w.heap.size, 0, none⟩) l.length l.length) l :=
  Rd.lit rfl (Nat.le_refl _) (by simp only [maxLen]; omega) fun j hj => by
    rw [Nat.zero_add, cell_of_row _ _ _ _ _ _ (heap_alloc_new w _), List.getElem?_toArray]
    exact bvs_get l j hj

set_option maxHeartbeats 4000000 in
set_option maxRecDepth 100000 in
theorem live_any (w : World) (T : Tb w) : Calls Tryd.prog 10 #[] w fun e w' => e = .returned (.bool true) ∧ Fr (fun _ => False) w w' := by
  have hcv := fun (W : World) (C : Array Value) (n c : Nat) => Lib.run_convert_bytes_const (P := Tryd.prog) W 22 5 C n c Tryd.underlying22 Tryd.underlying5
  obtain ⟨D, hD⟩ : ∃ D, D = sha [97, 98, 99] := ⟨_, rfl⟩
  have hDl : D.length = 32 := by rw [hD]; rfl
  have HHEX : Hid (hexL D = [98, 97, 55, 56, 49, 54, 98, 102, 56, 102, 48, 49, 99, 102, 101, 97, 52, 49, 52, 49, 52, 48, 100, 101, 53, 100, 97, 101, 50, 50, 50, 51, 98, 48, 48, 51, 54, 49, 97, 51, 57, 54, 49, 55, 55, 97, 57, 99, 98, 52, 49, 48, 102, 102, 54, 49, 102, 50, 48, 48, 49, 53, 97, 100]) := hide (by rw [hD]; exact abc_sum)
  have HDD := hide hD
  have HT0 := hide T
  clear T hD
  go_enter Tryd.func10, Tryd.ntmps10
  go_wp2_with fail
  have fA : Fr (fun _ => False) w (w.alloc (Obj.cells #[Value.int IntKind.u8 97, Value.int IntKind.u8 98, Value.int IntKind.u8 99] 5 (3, 4))) := (Fr.refl _ _).alloc _
  refine (Sum_any _ _ [97, 98, 99] ((unhide HT0).kept fA id id) (rd_mark w [97, 98, 99] (by decide) (3, 4))).mono ?_
  rintro e w1 ⟨rfl, f1⟩
  rw [← unhide HDD]
  have F1 := hide (fA.trans f1 (fun _ _ h => h))
  have hi2 : (Tryd.prog.info? 26).map (·.size) = some (bvs D).toArray.size := by rw [List.size_toArray, bvs_length, hDl]; exact Tryd.s26
  have hone := bvs_oneA D
  have hszD : (bvs D).toArray.size = 32 := by simpa [bvs_length] using hDl
  have hth : ∀ cs : Array Value, cs.size = 32 → (w1.alloc (.cells cs 26)).there w1.heap.size 0 (bvs D).toArray.size := fun cs hcs => by rw [hszD]; exact (ZAt.new w1 cs 26 32 hcs).there
  clear fA f1 hszD
  go_wp2_with (refine wpList_storeN rfl rfl 26 _ _ rfl w1.heap.size 0 (bvs D).toArray rfl rfl (hth _ rfl) hi2 hone ?_)
  intro w2 hw2
  replace hw2 := unhide hw2
  have hB2 : w2.heap[w1.heap.size]? = some (.cells (bvs D).toArray 26 (0, 0)) := by rw [hw2]; exact (ZAt.new w1 _ 26 32 rfl).putB D hDl
  have f12 : Fr (fun _ => False) w1 w2 := by rw [hw2]; exact ((Fr.refl _ _).alloc _).trans (setCells_frame _ _ _ _) (fun i hi e => by omega)
  have F2 := hide ((unhide F1).trans f12 (fun _ _ h => h))
  have HB2 := hide hB2
  have hs2 : w1.heap.size < w2.heap.size := lt_of_heap hB2
  clear hw2 hB2 f12 hth
  go_wp2_with fail
  refine (new_any w2).mono ?_
  rintro e w3 ⟨rfl, h3, f3⟩
  have H3 := hide (HH.new h3)
  have hs3 : w2.heap.size < w3.heap.size := h3.lt
  have HB3 := hide ((f3.block w1.heap.size hs2 id).trans (unhide HB2))
  have F3 := hide ((unhide F2).trans f3 (fun _ _ h => h))
  clear h3 f3
  go_wp2_with fail
  refine wpC_world ?_
  intro w4 hw4
  have f34 : Fr (fun _ => False) w3 w4 := by rw [hw4]; exact (Fr.refl _ _).alloc _
  have hR4 : Rd w4 (.slice (some ⟨w3.heap.size, 0, none⟩) 1 1) [97] := by rw [hw4]; exact rd_mark w3 [97] (by decide) (1, 2)
  have F4 := hide ((unhide F3).trans f34 (fun _ _ h => h))
  refine (write_any w4 w2.heap.size _ _ _ _ [97] ((unhide HT0).kept (unhide F4) id id) ((unhide H3).kept f34 id) hR4 (fun b hb => .inr <| by simp [Value.ownBlock] at hb; omega)).mono ?_
  rintro e w5 ⟨rfl, h5, f5⟩
  have f35 : Fr (fun b => b = w2.heap.size) w3 w5 := (f34.mono (fun _ _ h => h.elim)).trans f5 (fun _ _ h => h)
  have F5 : Hid (Fr (fun _ => False) w w5) := hide ((unhide F3).trans f35 (fun i hi e => by have := (unhide F2).size; omega))
  have HB5 := hide ((f35.block w1.heap.size (by omega) (by omega)).trans (unhide HB3))
  have H5 := hide h5
  have hs5 : w3.heap.size ≤ w5.heap.size := f35.size
  clear hw4 f34 hR4 h5 f5 f35
  go_wp2_with fail
  refine wpC_world ?_
  intro w6 hw6
  have f56 : Fr (fun _ => False) w5 w6 := by rw [hw6]; exact (Fr.refl _ _).alloc _
  have hR6 : Rd w6 (.slice (some ⟨w5.heap.size, 0, none⟩) 2 2) [98, 99] := by rw [hw6]; exact rd_mark w5 [98, 99] (by decide) (2, 3)
  have F6 := hide ((unhide F5).trans f56 (fun _ _ h => h))
  refine (write_any w6 w2.heap.size _ _ _ _ [98, 99] ((unhide HT0).kept (unhide F6) id id) ((unhide H5).kept f56 id) hR6 (fun b hb => .inr <| by simp [Value.ownBlock] at hb; omega)).mono ?_
  rintro e w7 ⟨rfl, h7, f7⟩
  rw [feed_app] at h7
  have f57 : Fr (fun b => b = w2.heap.size) w5 w7 := (f56.mono (fun _ _ h => h.elim)).trans f7 (fun _ _ h => h)
  have F7 : Hid (Fr (fun _ => False) w w7) := hide ((unhide F5).trans f57 (fun i hi e => by have := (unhide F2).size; omega))
  have HB7 := hide ((f57.block w1.heap.size (by omega) (by omega)).trans (unhide HB5))
  have HSUM : Hid (sumH (feed s0 ([] ++ [97] ++ [98, 99])).1 (((0 + [97].length) % 18446744073709551616 + [98, 99].length) % 18446744073709551616) (feed s0 ([] ++ [97] ++ [98, 99])).2 = D) := hide (unhide HDD).symm
  generalize (feed s0 ([] ++ [97] ++ [98, 99])).1 = S7 at *
  generalize (feed s0 ([] ++ [97] ++ [98, 99])).2 = R7 at *
  generalize ((0 + [97].length) % 18446744073709551616 + [98, 99].length) % 18446744073709551616 = n7 at *
  have H7 := hide h7
  have hs7 : w5.heap.size ≤ w7.heap.size := f57.size
  clear hw6 f56 hR6 h7 f7 f57
  have hstr : ({ data := #[120] } : ByteArray) = str [120] := rfl
  go_wp2_with fail
  have hps := parse_any w7 [120] (by decide)
  rw [prs_x] at hps
  refine hps.mono ?_
  rintro e w8 ⟨rfl, f8⟩
  have F8 := hide ((unhide F7).trans f8 (fun _ _ h => h))
  have HB8 := hide ((f8.block w1.heap.size (by omega) id).trans (unhide HB7))
  have H8 := hide ((unhide H7).kept f8 id)
  have hs8 : w7.heap.size ≤ w8.heap.size := f8.size
  have hth8 : ∀ cs : Array Value, cs.size = 32 → (w8.alloc (.cells cs 26)).there w8.heap.size 0 (bvs (List.replicate 32 0)).toArray.size := fun cs hcs => (ZAt.new w8 cs 26 32 hcs).there
  have hone8 := bvs_oneA (List.replicate 32 0)
  clear hps f8
  go_wp2_with (refine wpList_storeN rfl rfl 26 _ _ rfl w8.heap.size 0 (bvs (List.replicate 32 0)).toArray rfl rfl (hth8 _ rfl) Tryd.s26 hone8 ?_)
  intro W hW
  replace hW := unhide hW
  have f89 : Fr (fun _ => False) w8 W := by rw [hW]; exact ((Fr.refl _ _).alloc _).trans (setCells_frame _ _ _ _) (fun i hi e => by omega)
  have HF := hide ((unhide F8).trans f89 (fun _ _ h => h))
  have HRG := hide (bat_range ((f89.block w1.heap.size (by omega) id).trans (unhide HB8)))
  have HH0 := hide ((unhide H8).kept f89 id)
  have HT := hide ((unhide HT0).kept (unhide HF) id id)
  have hp : w2.heap.size < W.heap.size := by have := f89.size; omega
  have hNw : W.heap.size ≤ W.heap.size := Nat.le_refl _
  clear hW f89 hth8 hone8 hi2 hone
  go_wp2_with fail
  clear hcv hstr
  generalize hq1 : w1.heap.size = q1 at *
  generalize hp1 : w2.heap.size = p at *
  refine wp_name ?_
  intro a0 hA
  have h1 : a0.tmps.getD 1 undef = .pointer (some ⟨q1, 0, none⟩) := by rw [hA]; rfl
  have h2 : a0.tmps.getD 2 undef = .pointer (some ⟨p, 0, none⟩) := by rw [hA]; rfl
  have h4 : a0.tmps.getD 4 undef = .int .i64 50 := by rw [hA]; rfl
  have h5 : a0.tmps.getD 5 undef = .int .i64 0 := by rw [hA]; rfl
  have hsz : a0.tmps.size = 56 := by rw [hA]; rfl
  have hdf : a0.defers = [] := by rw [hA]
  clear hA
  refine wp_region_freeR (R := Cg (W.heap.size)) (fun w => Cg.drew w) (fun a b c h k => Cg.trans a b c h k) (by kernel_rfl) (by kernel_rfl) (by decide +kernel) (by rw [hsz]; decide +kernel) (Tk (W.heap.size) [.eq (.agg (bvs D).toArray), .eq (.string (str [98, 97, 55, 56, 49, 54, 98, 102, 56, 102, 48, 49, 99, 102, 101, 97, 52, 49, 52, 49, 52, 48, 100, 101, 53, 100, 97, 101, 50, 50, 50, 51, 98, 48, 48, 51, 54, 49, 97, 51, 57, 54, 49, 55, 55, 97, 57, 99, 98, 52, 49, 48, 102, 102, 54, 49, 102, 50, 48, 48, 49, 53, 97, 100])), .eq (.bool true), .eq (.bool true), .eq (.pointer (some ⟨p, 0, none⟩)), .eq (.agg (bvs D).toArray), .eq (.agg (bvs D).toArray), .eq (.bool true), .eq (.bool true), .eq (.bool true), .nb (9) ([49, 50, 51, 52, 53, 54, 55, 56, 57]), .nb (9) ([49, 50, 51, 52, 53, 54, 55, 56, 57]), .eq (.int .u32 3808858755), .eq (.bool true), .eq (.bool true), .eq (.bool true), .eq (.agg (bvs D).toArray), .dl (D), .eq (.agg (bvs D).toArray), .eq (.agg (bvs D).toArray), .eq (.bool true), .eq (.bool true), .eq (.bool true), .eq (.int .i64 50), .eq (.int .i64 50), .eq (.bool true), .eq (.bool true), .eq (.bool true), .eq (.int .i64 0), .eq (.bool true), .eq (.bool true), .eq (.bool true)]) (Tk.mono _) ?steps ?done
  case steps =>
    refine ⟨?_, ?_⟩
    · intro a' w' hb hf hd
      exact ⟨wanted_none rfl, ex_val (.agg (bvs D).toArray) (ex_load26 rfl ((hb.old 1 (by decide +kernel)).trans h1) (hDl) (hf.range (unhide HRG))) rfl⟩
    refine ⟨?_, ?_⟩
    · intro a' w' hb hf hd
      exact ⟨wanted_none rfl, ex_call 32 _ (en_call1 rfl rfl (hd 0 (by kernel_rfl) 25 rfl) cfv32) ((hex_any w' D hDl).mono (by rintro e w7 ⟨rfl, f⟩; exact ⟨⟨_, rfl, congrArg (fun l => Value.string (str l)) (unhide HHEX)⟩, f⟩))⟩
    refine ⟨?_, ?_⟩
    · intro a' w' hb hf hd
      exact ⟨wanted_none rfl, ex_val (.bool true) (ex_eqS rfl (hd 1 (by kernel_rfl) 26 rfl) (rfl)) rfl⟩
    refine ⟨?_, ?_⟩
    · intro a' w' hb hf hd
      exact ⟨wanted_none rfl, ex_val (.bool true) (ex_move rfl (hd 2 (by kernel_rfl) 27 rfl)) rfl⟩
    refine ⟨?_, ?_⟩
    · intro a' w' hb hf hd
      exact ⟨wanted_of (d := 28) rfl rfl (by rw [hb.size, hsz]; omega) (hd 3 (by kernel_rfl) 28 rfl), ex_val (.pointer (some ⟨p, 0, none⟩)) (ex_move rfl ((hb.old 2 (by decide +kernel)).trans h2)) rfl⟩
    refine ⟨?_, ?_⟩
    · intro a' w' hb hf hd
      exact ⟨wanted_of (d := 28) rfl rfl (by rw [hb.size, hsz]; omega) (hd 3 (by kernel_rfl) 28 rfl), ex_call 27 _ (en_call1 rfl rfl (hd 4 (by kernel_rfl) 29 rfl) cfv27) ((sum_any w' p _ _ _ (hf.tb (unhide HT)) (hf.hh (unhide HH0) hp)).mono (by rintro e w7 ⟨rfl, f⟩; exact ⟨⟨_, rfl, congrArg (fun l => Value.agg (bvs l).toArray) (unhide HSUM)⟩, f⟩))⟩
    refine ⟨?_, ?_⟩
    · intro a' w' hb hf hd
      exact ⟨wanted_of (d := 28) rfl rfl (by rw [hb.size, hsz]; omega) (hd 3 (by kernel_rfl) 28 rfl), ex_val (.agg (bvs D).toArray) (ex_load26 rfl ((hb.old 1 (by decide +kernel)).trans h1) (hDl) (hf.range (unhide HRG))) rfl⟩
    refine ⟨?_, ?_⟩
    · intro a' w' hb hf hd
      exact ⟨wanted_of (d := 28) rfl rfl (by rw [hb.size, hsz]; omega) (hd 3 (by kernel_rfl) 28 rfl), ex_val (.bool true) (ex_eqD rfl (hd 5 (by kernel_rfl) 30 rfl) (hd 6 (by kernel_rfl) 31 rfl) (hDl)) rfl⟩
    refine ⟨?_, ?_⟩
    · intro a' w' hb hf hd
      exact ⟨wanted_none rfl, ex_val (.bool true) (ex_pick rfl (hd 3 (by kernel_rfl) 28 rfl) (hd 7 (by kernel_rfl) 32 rfl)) rfl⟩
    refine ⟨?_, ?_⟩
    · intro a' w' hb hf hd
      exact ⟨wanted_none rfl, ex_val (.bool true) (ex_move rfl (hd 8 (by kernel_rfl) 33 rfl)) rfl⟩
    refine ⟨?_, ?_⟩
    · intro a' w' hb hf hd
      exact ⟨wanted_of (d := 34) rfl rfl (by rw [hb.size, hsz]; omega) (hd 9 (by kernel_rfl) 34 rfl), ex_new _ (w'.alloc (.cells (bvs [49, 50, 51, 52, 53, 54, 55, 56, 57]).toArray 5)) (by simp [execOp, go_sem]; rfl) ⟨w'.heap.size, 9, rfl, Nat.le_trans hNw hf.size, by simp, BAt.rd (l := [49, 50, 51, 52, 53, 54, 55, 56, 57]) (bat_new w' [49, 50, 51, 52, 53, 54, 55, 56, 57]) (by simp [maxLen])⟩ (Cg.of_fr ((Fr.refl _ _).alloc _))⟩
    refine ⟨?_, ?_⟩
    · intro a' w' hb hf hd
      obtain ⟨b, cap, hv, hN, hbs, R⟩ := hd 10 (by kernel_rfl) 35 rfl; obtain ⟨w2, hr, hc, hz⟩ := conv_mark w' b 9 cap hbs W.heap.size hN; exact ⟨wanted_of (d := 34) rfl rfl (by rw [hb.size, hsz]; omega) (hd 9 (by kernel_rfl) 34 rfl), ex_new _ w2 (ex_convM rfl hv hr) ⟨b, cap, rfl, hN, by rw [hz]; exact hbs, hc.rd R⟩ hc⟩
    refine ⟨?_, ?_⟩
    · intro a' w' hb hf hd
      obtain ⟨b, cap, hv, hN, hbs, R⟩ := hd 11 (by kernel_rfl) 36 rfl; exact ⟨wanted_of (d := 34) rfl rfl (by rw [hb.size, hsz]; omega) (hd 9 (by kernel_rfl) 34 rfl), ex_call 13 _ (en_call1 rfl rfl hv cfv13) ((crc_any w' _ _ (hf.tb (unhide HT)) R).mono (by rintro e w7 ⟨rfl, rfl⟩; exact ⟨⟨_, rfl, congrArg (fun l => Value.int .u32 l) crc_nine⟩, Fr.refl _ _⟩))⟩
    refine ⟨?_, ?_⟩
    · intro a' w' hb hf hd
      exact ⟨wanted_of (d := 34) rfl rfl (by rw [hb.size, hsz]; omega) (hd 9 (by kernel_rfl) 34 rfl), ex_val (.bool true) (ex_eqI Tryd.underlying23 rfl (hd 12 (by kernel_rfl) 37 rfl) (rfl)) rfl⟩
    refine ⟨?_, ?_⟩
    · intro a' w' hb hf hd
      exact ⟨wanted_none rfl, ex_val (.bool true) (ex_pick rfl (hd 9 (by kernel_rfl) 34 rfl) (hd 13 (by kernel_rfl) 38 rfl)) rfl⟩
    refine ⟨?_, ?_⟩
    · intro a' w' hb hf hd
      exact ⟨wanted_none rfl, ex_val (.bool true) (ex_move rfl (hd 14 (by kernel_rfl) 39 rfl)) rfl⟩
    refine ⟨?_, ?_⟩
    · intro a' w' hb hf hd
      exact ⟨wanted_of (d := 40) rfl rfl (by rw [hb.size, hsz]; omega) (hd 15 (by kernel_rfl) 40 rfl), ex_val (.agg (bvs D).toArray) (ex_load26 rfl ((hb.old 1 (by decide +kernel)).trans h1) (hDl) (hf.range (unhide HRG))) rfl⟩
    refine ⟨?_, ?_⟩
    · intro a' w' hb hf hd
      exact ⟨wanted_of (d := 40) rfl rfl (by rw [hb.size, hsz]; omega) (hd 15 (by kernel_rfl) 40 rfl), ex_new _ _ (ex_build59 (hDl) rfl (hd 16 (by kernel_rfl) 41 rfl)) ⟨w'.heap.size, 0, 1, rfl, bat_range (heap_alloc_new w' _)⟩ (Cg.of_fr ((Fr.refl _ _).alloc _))⟩
    refine ⟨?_, ?_⟩
    · intro a' w' hb hf hd
      obtain ⟨b, o, c, hv, R⟩ := hd 17 (by kernel_rfl) 42 rfl; exact ⟨wanted_of (d := 40) rfl rfl (by rw [hb.size, hsz]; omega) (hd 15 (by kernel_rfl) 40 rfl), ex_call 38 _ (en_call1 rfl rfl hv cfv38) ((rootOne_any w' b o c D hDl R).mono (by rintro e w7 ⟨rfl, f⟩; exact ⟨⟨_, rfl, rfl⟩, f⟩))⟩
    refine ⟨?_, ?_⟩
    · intro a' w' hb hf hd
      exact ⟨wanted_of (d := 40) rfl rfl (by rw [hb.size, hsz]; omega) (hd 15 (by kernel_rfl) 40 rfl), ex_val (.agg (bvs D).toArray) (ex_load26 rfl ((hb.old 1 (by decide +kernel)).trans h1) (hDl) (hf.range (unhide HRG))) rfl⟩
    refine ⟨?_, ?_⟩
    · intro a' w' hb hf hd
      exact ⟨wanted_of (d := 40) rfl rfl (by rw [hb.size, hsz]; omega) (hd 15 (by kernel_rfl) 40 rfl), ex_val (.bool true) (ex_eqD rfl (hd 18 (by kernel_rfl) 43 rfl) (hd 19 (by kernel_rfl) 44 rfl) (hDl)) rfl⟩
    refine ⟨?_, ?_⟩
    · intro a' w' hb hf hd
      exact ⟨wanted_none rfl, ex_val (.bool true) (ex_pick rfl (hd 15 (by kernel_rfl) 40 rfl) (hd 20 (by kernel_rfl) 45 rfl)) rfl⟩
    refine ⟨?_, ?_⟩
    · intro a' w' hb hf hd
      exact ⟨wanted_none rfl, ex_val (.bool true) (ex_move rfl (hd 21 (by kernel_rfl) 46 rfl)) rfl⟩
    refine ⟨?_, ?_⟩
    · intro a' w' hb hf hd
      exact ⟨wanted_of (d := 47) rfl rfl (by rw [hb.size, hsz]; omega) (hd 22 (by kernel_rfl) 47 rfl), ex_val (.int .i64 50) (ex_move rfl ((hb.old 4 (by decide +kernel)).trans h4)) rfl⟩
    refine ⟨?_, ?_⟩
    · intro a' w' hb hf hd
      exact ⟨wanted_of (d := 47) rfl rfl (by rw [hb.size, hsz]; omega) (hd 22 (by kernel_rfl) 47 rfl), ex_call 25 _ (en_call1 rfl rfl (hd 23 (by kernel_rfl) 48 rfl) cfv25) ((num_any w' 50).mono (by rintro e w7 ⟨rfl, rfl⟩; exact ⟨⟨_, rfl, rfl⟩, Fr.refl _ _⟩))⟩
    refine ⟨?_, ?_⟩
    · intro a' w' hb hf hd
      exact ⟨wanted_of (d := 47) rfl rfl (by rw [hb.size, hsz]; omega) (hd 22 (by kernel_rfl) 47 rfl), ex_val (.bool true) (ex_eqI Tryd.underlying3 rfl (hd 24 (by kernel_rfl) 49 rfl) (rfl)) rfl⟩
    refine ⟨?_, ?_⟩
    · intro a' w' hb hf hd
      exact ⟨wanted_none rfl, ex_val (.bool true) (ex_pick rfl (hd 22 (by kernel_rfl) 47 rfl) (hd 25 (by kernel_rfl) 50 rfl)) rfl⟩
    refine ⟨?_, ?_⟩
    · intro a' w' hb hf hd
      exact ⟨wanted_none rfl, ex_val (.bool true) (ex_move rfl (hd 26 (by kernel_rfl) 51 rfl)) rfl⟩
    refine ⟨?_, ?_⟩
    · intro a' w' hb hf hd
      exact ⟨wanted_of (d := 52) rfl rfl (by rw [hb.size, hsz]; omega) (hd 27 (by kernel_rfl) 52 rfl), ex_val (.int .i64 0) (ex_move rfl ((hb.old 5 (by decide +kernel)).trans h5)) rfl⟩
    refine ⟨?_, ?_⟩
    · intro a' w' hb hf hd
      exact ⟨wanted_of (d := 52) rfl rfl (by rw [hb.size, hsz]; omega) (hd 27 (by kernel_rfl) 52 rfl), ex_val (.bool true) (ex_eqI Tryd.underlying3 rfl (hd 28 (by kernel_rfl) 53 rfl) (rfl)) rfl⟩
    refine ⟨?_, ?_⟩
    · intro a' w' hb hf hd
      exact ⟨wanted_none rfl, ex_val (.bool true) (ex_pick rfl (hd 27 (by kernel_rfl) 52 rfl) (hd 29 (by kernel_rfl) 54 rfl)) rfl⟩
    refine ⟨?_, ?_⟩
    · intro a' w' hb hf hd
      exact ⟨wanted_none rfl, ex_val (.bool true) (ex_assign rfl (hd 30 (by kernel_rfl) 55 rfl)) rfl⟩
    exact trivial
  case done =>
    intro a' w' hb hf hall
    have hres : a'.tmps.getD 0 undef = .bool true := hall 31 (by decide) 0 rfl
    have hdf' : a'.defers = [] := by rw [hb.defers]; exact hdf
    have hF : Fr (fun _ => False) w w' := (unhide HF).trans hf.fr (fun _ _ h => h)
    have hr : bodyPost Tryd.prog Tryd.f10 (fun e w' => e = Ending.returned (Value.bool true) ∧ Fr (fun x => False) w w') .ret a' w' :=
      bodyPost_ret (v := .bool true) (by
        have h6' : a'.tmps[0]?.getD undef = .bool true := by simpa using hres
        simp [results, Tryd.results10, go_sem, h6']) hdf' ⟨rfl, hF⟩
    clear hall hb
    apply_assumption
    exact wp_ret hr
end Go.Proofs.YtlicmlioilkfdaaDoor
