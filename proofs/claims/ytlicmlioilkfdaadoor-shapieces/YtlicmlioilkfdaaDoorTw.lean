/-
  The walk of the law ShaTrees.
-/
import Derived.Test.YtlicmlioilkfdaaDoorT11
import Derived.Test.YtlicmlioilkfdaaDoorLv
namespace Go.Proofs.YtlicmlioilkfdaaDoor
open Go.RowKit
set_option linter.unusedVariables false
set_option linter.unusedSimpArgs false

attribute [local go_sem ↓] Go.wp_at_zero Go.wp_at_succ

/-- Digests that are appended. -/
theorem DRd.sr {w : World} {v : Value} {ls : List Dg} (h : DRd w v ls) (hn : v = .slice none 0 0 ∨ ∃ ad n c, v = .slice (some ad) n c) : Sr w 32 v ls.length (dcs ls) := by
  obtain ⟨h0, ⟨ao, cap, rfl, rfl⟩ | ⟨b, o, cap, rfl, h1, h2, h3⟩⟩ := h
  · rcases hn with e | ⟨ad, n, c, e⟩
    · simp at e
      obtain ⟨rfl, rfl⟩ := e
      exact .inl ⟨rfl, rfl, rfl⟩
    · simp at e
      obtain ⟨rfl, rfl, rfl⟩ := e
      exact .inr ⟨ad, cap, rfl, rfl, fun j u hu => by simp [dcs] at hu⟩
  · refine .inr ⟨_, _, rfl, dcs_length ls h0, fun j u hu => ?_⟩
    have hj : j < ls.length * 32 := by have := (List.getElem?_eq_some_iff.1 hu).1; rwa [dcs_length ls h0] at this
    have hq : j / 32 < ls.length := by omega
    have e : 32 * (j / 32) + j % 32 = j := by omega
    have h4 := dcs_get ls h0 (j / 32) (j % 32) hq (by omega)
    rw [e, hu] at h4
    have h5 := h3 (j / 32) hq (j % 32) u h4.symm
    rw [Addr.add_lit]
    rwa [Nat.add_assoc, e] at h5

/-- A list of digests is copied. -/
theorem app_all {w : World} {v : Value} {ls : List Dg} {g0 : Nat} (hg0 : w.heap[g0]? = some (.cells #[] 26 (0, 0))) (h : DRd w v ls) (hn : v = .slice none 0 0 ∨ ∃ ad n c, v = .slice (some ad) n c) (hl : ls.length ≤ 1000000) (ty : TypeId) :
    ∃ ao cap w', (Builtin.append_ #[59, 59] ty #[.slice (some ⟨g0, 0, none⟩) 0 0, v]).run Tryd.prog w = .ok (.slice ao ls.length cap) w' ∧ DOw g0 w' (.slice ao ls.length cap) ls ∧ Fr (fun k => k = g0) w w' := by
  obtain ⟨i, z, hi, hz, hsz, hby, hzs⟩ := info26_parts
  have hown : w.ownsRow 0 26 32 (.slice (some ⟨g0, 0, none⟩) 0 0) 0 [] := ⟨rfl, .inr ⟨g0, 0, #[], rfl, Nat.zero_le _, hg0, Nat.le_refl _, by simp [maxLen], rfl, rfl⟩⟩
  obtain ⟨v', w', hr, h2, h3, h4⟩ := run_app (P := Tryd.prog) w 59 ty 26 i z 32 32 Tryd.u59 hi hz hsz hby hzs (by decide) _ 0 [] hown v ls.length (dcs ls) (h.sr hn) (fun u hu => by
    simp only [dcs, List.mem_flatMap] at hu
    obtain ⟨d, _, hu⟩ := hu
    exact bvs_one _ u hu) (by omega) (by unfold maxLen; omega)
  rw [Nat.zero_add] at h2
  obtain ⟨ao, cap, rfl⟩ := owns_shape h2
  have hlt := lt_of_heap hg0
  refine ⟨ao, cap, w', hr, ⟨h.1, h2.1, ?_⟩, (Fr.refl (fun k => k = g0) w).grown h3 (fun k hk e => by simp [Value.ownBlock] at e; exact e.symm)⟩
  rcases h2.2 with h5 | ⟨g, cap', cur, e, _, r⟩
  · exact .inl h5
  · refine .inr ⟨g, cap', cur, e, ?_, r⟩
    rcases h4 with e2 | e2
    · rw [e] at e2; simp [Value.ownBlock] at e2; omega
    · rw [e] at e2; simp [Value.ownBlock] at e2; omega

theorem wpList_exG {P : Program} {ops : Array Oper} {rest : List Oper} {o : Oper} {a : Act} {w w2 : World} {v : Value} {Q : Exit → Act → World → Prop} (hw : Region.wanted o (yielded ops a.tmps) = true) (h : (execOp a.eval o).run P w = .ok (.value v) w2) (k : wpList P ops Q rest (a.put o.dst v) w2) : wpList P ops Q (o :: rest) a w :=
  BigFrame.wpList_want hw fun K hK => by unfold Oper.wp; rw [h, Oper.upon_value]; exact hK _ _ k

set_option maxHeartbeats 4000000 in
set_option maxRecDepth 100000 in
theorem shaTrees_any (w : World) (T : Tb w) (v : Value) (ls : List Dg) (i : Int) (d : Dg) (n : Int) (pv : Value) (ps : List Dg) (hv : DRd w v ls) (hn : v = .slice none 0 0 ∨ ∃ ad n c, v = .slice (some ad) n c) (hd : d.length = 32) (hp : DRd w pv ps) :
    Calls Tryd.prog 6 #[v, .int .i64 i, .agg (bvs d).toArray, .int .i64 n, pv] w fun e w' => e = .returned (.bool true) ∧ Fr (fun _ => False) w w' := by
  obtain ⟨ao, cap, rfl⟩ := hv.shape
  obtain ⟨aop, capp, rfl⟩ := hp.shape
  have f0 : Fr (fun _ => False) w (w.alloc (.cells (bvs d).toArray 26)) := (Fr.refl _ _).alloc _
  by_cases hbig : 60 < (ls.length : Int) ∨ 60 < (ps.length : Int)
  · have HL := hide (live_any _ (T.kept f0 id id))
    have F0 := hide f0
    clear hv hn hp T f0 hd
    by_cases h1 : 60 < (ls.length : Int)
    · go_enter Tryd.func6, Tryd.ntmps6
      go_wp2_with fail
      refine (unhide HL).mono ?_
      rintro e w1 ⟨rfl, f1⟩
      go_wp2_with fail
      go_ret
      exact ⟨rfl, (unhide F0).trans f1 (fun _ _ h => h)⟩
    · have h2 : 60 < (ps.length : Int) := by omega
      go_enter Tryd.func6, Tryd.ntmps6
      go_wp2_with fail
      refine (unhide HL).mono ?_
      rintro e w1 ⟨rfl, f1⟩
      go_wp2_with fail
      go_ret
      exact ⟨rfl, (unhide F0).trans f1 (fun _ _ h => h)⟩
  · have h1 : ¬ 60 < (ls.length : Int) := by omega
    have h2 : ¬ 60 < (ps.length : Int) := by omega
    have hll : ls.length ≤ 1000000 := by omega
    clear hbig
    have hbx := heap_alloc_new w (.cells (bvs d).toArray 26)
    obtain ⟨aoG, capG, wG, hrG, oG, fG0⟩ := app_all (w := (w.alloc (.cells (bvs d).toArray 26)).alloc (.cells #[] 26)) (g0 := w.heap.size + 1) (BlockAt.one w _ _) (hv.kept (f0.alloc _)) hn hll 59
    have fG : Fr (fun _ => False) w wG := (f0.alloc (.cells #[] 26)).trans fG0 (fun k hk e => by omega)
    have bxG : wG.heap[w.heap.size]? = some (.cells (bvs d).toArray 26 (0, 0)) := by
      rw [fG0.block w.heap.size (by simp; omega) (by omega)]
      exact BlockAt.two w _ _
    have hd32 := hd
    have PD := Put.of hd
    have hid := PD.hi
    have TG := T.kept fG id id
    have vG := hv.kept fG
    have pG := hp.kept fG
    have HPA := hide (path_any wG _ ls i hll TG oG.rd)
    have OG := hide oG
    have FG := hide fG
    have BX := hide bxG
    have hszG := fG.size
    have hbxl := lt_of_heap bxG
    have HD32 := hide hd32
    have HTG := hide TG
    have HVG := hide vG
    have HPG := hide pG
    have HHN := hide hn
    clear hv hp T f0 hbx oG fG0 fG bxG hd hd32 TG vG pG hn PD hszG
    go_enter Tryd.func6, Tryd.ntmps6
    go_wp2_with (at_builtin; refine wpList_ex rfl (ex_app59 rfl rfl rfl hrG) ?_)
    refine (unhide HPA).mono ?_
    rintro e w1 ⟨v1, rfl, o1, f1⟩
    obtain ⟨ao1, cap1, rfl⟩ := o1.shape
    have HPB := hide (rpath_any w1 _ ls i hll ((unhide HVG).kept f1))
    have O1 := hide o1
    have F1 := hide f1
    clear o1 f1 HPA hrG
    go_wp2_with fail
    refine (unhide HPB).mono ?_
    rintro e w2 ⟨v2, rfl, o2, f2⟩
    obtain ⟨ao2, cap2, rfl⟩ := o2.shape
    have O2 := hide o2
    have F2 := hide ((unhide F1).trans f2 (fun _ _ h => h))
    have hr2 : w2.rangeAt w.heap.size 0 (bvs d) := rangeAt_kept (bat_range (unhide BX)) (unhide F2) hbxl id
    have hb2 : w.heap.size < w2.heap.size := Nat.lt_of_lt_of_le hbxl (unhide F2).size
    have O1' := hide ((unhide O1).kept f2)
    have HCA := hide (climbR_any w2 d i n _ ps (unhide HD32) ((unhide HTG).kept (unhide F2) id id) ((unhide HPG).kept (unhide F2)))
    have hcl := clR_length d i n ps (unhide HD32)
    clear o2 f2 HPB F1 O1
    generalize hpl : paR ls i = PA at *
    obtain ⟨paL, paE⟩ := PA
    clear hpl
    generalize hcr : clR d i n ps = CR at *
    obtain ⟨D, DE⟩ := CR
    dsimp only at *
    have P := Put.of hcl
    have hi2 := P.hi2
    have hi1 := P.hi
    have hone := P.oneA
    have HCL := hide hcl
    clear hcl
    go_wp2_with (refine wpList_load_mid rfl 26 _ rfl w.heap.size 0 rfl (bvs d) _ hr2 Tryd.u26 rfl hid ?_)
    refine (unhide HCA).mono ?_
    rintro e w3 ⟨rfl, f3⟩
    have hth3 : ∀ cs : Array Value, cs.size = 32 → (w3.alloc (.cells cs 26)).there w3.heap.size 0 (bvs D).toArray.size := fun cs hcs => P.there (ZAt.new w3 cs 26 32 hcs)
    have HP3 : Hid (∀ (cs : Array Value) (w' : World), cs.size = 32 → Hid (w' = (w3.alloc (.cells cs 26)).setCells w3.heap.size 0 (bvs D).toArray.toList) → w'.heap[w3.heap.size]? = some (.cells (bvs D).toArray 26 (0, 0)) ∧ Fr (fun _ => False) w3 w') :=
      hide fun cs w' hcs hw => (by rw [unhide hw]; exact ⟨(ZAt.new w3 cs 26 32 hcs).putB D (unhide HCL), ((Fr.refl _ _).alloc _).trans (setCells_frame _ _ _ _) (fun k hk e => by omega)⟩)
    have F3 := hide ((unhide F2).trans f3 (fun _ _ h => h))
    have hr3 := rangeAt_kept hr2 f3 hb2 id
    have hb3 : w.heap.size < w3.heap.size := Nat.lt_of_lt_of_le hb2 f3.size
    have O13 := hide ((unhide O1').kept f3)
    have O23 := hide ((unhide O2).kept f3)
    clear f3 HCA O1' O2
    go_wp2_with (first | (refine wpList_storeN rfl rfl 26 _ _ rfl w3.heap.size 0 (bvs D).toArray rfl rfl (hth3 _ rfl) hi2 hone ?_; intro w4 hw4; have h34 := unhide HP3 _ _ (by rfl) hw4; have f34 : Fr (fun _ => False) w3 w4 := h34.2; have bx4 : w4.heap[w3.heap.size]? = some (.cells (bvs D).toArray 26 (0, 0)) := h34.1; have F4 := hide ((unhide F3).trans f34 (fun _ _ h => h)); have hr4 := rangeAt_kept hr3 f34 hb3 id; have hb4 : w.heap.size < w4.heap.size := Nat.lt_of_lt_of_le hb3 f34.size; have O14 := hide ((unhide O13).kept f34); have O24 := hide ((unhide O23).kept f34); have HCB := hide (rclimbR_any w4 d i n _ ps (unhide HD32) ((unhide HPG).kept (unhide F4))); rw [hcr] at HCB; clear hw4 h34 f34 O13 O23 HP3 hth3 F3; dsimp only at HCB; have BX4 := hide bx4; have hl4 := lt_of_heap bx4; clear bx4) | (refine wpList_load_mid rfl 26 _ rfl w.heap.size 0 rfl (bvs d) _ hr4 Tryd.u26 rfl hid ?_))
    refine (unhide HCB).mono ?_
    rintro e w5 ⟨rfl, f5⟩
    have hth5 : ∀ cs : Array Value, cs.size = 32 → (w5.alloc (.cells cs 26)).there w5.heap.size 0 (bvs D).toArray.size := fun cs hcs => P.there (ZAt.new w5 cs 26 32 hcs)
    have HP5 : Hid (∀ (cs : Array Value) (w' : World), cs.size = 32 → Hid (w' = (w5.alloc (.cells cs 26)).setCells w5.heap.size 0 (bvs D).toArray.toList) → w'.heap[w5.heap.size]? = some (.cells (bvs D).toArray 26 (0, 0)) ∧ Fr (fun _ => False) w5 w') :=
      hide fun cs w' hcs hw => (by rw [unhide hw]; exact ⟨(ZAt.new w5 cs 26 32 hcs).putB D (unhide HCL), ((Fr.refl _ _).alloc _).trans (setCells_frame _ _ _ _) (fun k hk e => by omega)⟩)
    have F5 := hide ((unhide F4).trans f5 (fun _ _ h => h))
    have bx5 : w5.heap[w3.heap.size]? = some (.cells (bvs D).toArray 26 (0, 0)) := by rw [f5.block w3.heap.size hl4 id]; exact unhide BX4
    have O15 := hide ((unhide O14).kept f5)
    have O25 := hide ((unhide O24).kept f5)
    clear f5 HCB O14 O24 BX4 hr4 hr3 hr2
    go_wp2_with (refine wpList_storeN rfl rfl 26 _ _ rfl w5.heap.size 0 (bvs D).toArray rfl rfl (hth5 _ rfl) hi2 hone ?_; intro w6 hw6)
    have h56 := unhide HP5 _ _ (by rfl) hw6
    have f56 : Fr (fun _ => False) w5 w6 := h56.2
    have bB6 : w6.heap[w5.heap.size]? = some (.cells (bvs D).toArray 26 (0, 0)) := h56.1
    have bA6 : w6.heap[w3.heap.size]? = some (.cells (bvs D).toArray 26 (0, 0)) := by rw [f56.block w3.heap.size (lt_of_heap bx5) id]; exact bx5
    have F6 := (unhide F5).trans f56 (fun _ _ h => h)
    have OG6 := (unhide OG).kept F6
    have O16 := (unhide O15).kept f56
    have O26 := (unhide O25).kept f56
    have v6 := (unhide HVG).kept F6
    have T6 := (unhide HTG).kept F6 id id
    have KK : Hid (∀ W, Fr (fun _ => False) w6 W → W.rangeAt w3.heap.size 0 (bvs D) ∧ W.rangeAt w5.heap.size 0 (bvs D) ∧ Tb W ∧ DRd W (.slice ao ls.length cap) ls ∧ DRd W (.slice aoG ls.length capG) ls ∧ DRd W (.slice ao1 paL.length cap1) paL ∧ DRd W (.slice ao2 paL.length cap2) paL ∧ Fr (fun _ => False) w W) := hide fun W f =>
      ⟨rangeAt_kept (bat_range bA6) f (lt_of_heap bA6) id, rangeAt_kept (bat_range bB6) f (lt_of_heap bB6) id, T6.kept f id id, v6.kept f, OG6.rd.kept f, O16.rd.kept f, O26.rd.kept f, (((unhide FG).trans F6 (fun _ _ h => h)).trans f (fun _ _ h => h))⟩
    have hrt := root_length ls v6.1
    have HRT := hide hrt
    clear hw6 h56 f56 bB6 bA6 bx5 F6 OG6 O16 O26 v6 T6 hth5 HP5 F5 F4 F2 FG OG O15 O25 BX hid hcr hrt P hi2 hi1 hone HVG HTG HPG HHN HD32
    obtain ⟨-, -, q1, q2, q3, -, -, -⟩ := unhide KK w6 (Fr.refl _ _)
    have HRA := hide (root_any ls.length w6 _ ls rfl hll q1 q3)
    clear q1 q2 q3
    have hrr := fun (W : World) (h : DRd W (.slice ao ls.length cap) ls) => rroot_any ls.length W _ ls rfl hll h
    have HRR := hide hrr
    clear hrr
    generalize root ls = RT at *
    go_wp2_with fail
    refine (unhide HRA).mono ?_
    rintro e w7 ⟨rfl, f7⟩
    have F7 := hide f7
    have HR7 := hide (unhide HRR w7 (unhide KK w7 f7).2.2.2.1)
    clear f7 HRA HRR
    go_wp2_with fail
    refine (unhide HR7).mono ?_
    rintro e w8 ⟨rfl, f8⟩
    have F8 := hide ((unhide F7).trans f8 (fun _ _ h => h))
    have HS8 := hide (rsame_any w8 _ _ paL (unhide KK w8 (unhide F8)).2.2.2.2.2.1 (unhide KK w8 (unhide F8)).2.2.2.2.2.2.1)
    clear f8 HR7 F7
    go_wp2_with (refine wpList_ex rfl (ex_eqD rfl rfl rfl (unhide HRT)) ?_)
    refine (unhide HS8).mono ?_
    rintro e w9 ⟨rfl, f9⟩
    have F9 := hide ((unhide F8).trans f9 (fun _ _ h => h))
    have hl1 := (unhide KK w9 (unhide F9)).1
    have hl2 := (unhide KK w9 (unhide F9)).2.1
    have HS9 := hide (rsame_any w9 _ _ ls (unhide KK w9 (unhide F9)).2.2.2.2.1 (unhide KK w9 (unhide F9)).2.2.2.1)
    have hcD := (Put.of (unhide HCL)).hi
    clear f9 HS8 F8
    go_wp2_with (first | (go_at_call 25; refine (num_any _ _).mono ?_; rintro e w' ⟨rfl, rfl⟩) | refine wpList_exG (by rfl) (ex_eqD rfl rfl rfl (unhide HCL)) ?_ | refine wpList_exG (by rfl) (ex_load26 rfl rfl (unhide HCL) hl1) ?_ | refine wpList_exG (by rfl) (ex_load26 rfl rfl (unhide HCL) hl2) ?_)
    refine (unhide HS9).mono ?_
    rintro e w10 ⟨rfl, f10⟩
    have F10 := hide ((unhide F9).trans f10 (fun _ _ h => h))
    have HL10 := hide (live_any w10 (unhide KK w10 (unhide F10)).2.2.1)
    clear f10 HS9 F9 hl1 hl2
    go_wp2_with fail
    refine (unhide HL10).mono ?_
    rintro e w11 ⟨rfl, f11⟩
    go_wp2_with fail
    go_ret
    exact ⟨rfl, (unhide KK _ ((unhide F10).trans f11 (fun _ _ h => h))).2.2.2.2.2.2.2⟩

/-- As the card's shell calls it. -/
theorem shaTrees_in (w : World) (T : Tb w) (v : Value) (ls : List Dg) (hv : DRd w v ls) (hn : v = .slice none 0 0 ∨ ∃ ad n c, v = .slice (some ad) n c) (i : Int) (wi : (Lit.int .i64 i).wf = true) (d : Dg) (hd : d.length = 32) (n : Int) (wn : (Lit.int .i64 n).wf = true) (pv : Value) (ps : List Dg) (hp : DRd w pv ps) (hpn : pv = .slice none 0 0 ∨ ∃ ad n c, pv = .slice (some ad) n c) :
    Calls Tryd.prog 6 #[v, .int .i64 i, .agg (bvs d).toArray, .int .i64 n, pv] w fun e w' => e = .returned (.bool true) ∧ Fr (fun _ => False) w w' := shaTrees_any w T v ls i d n pv ps hv hn hd hp

#print axioms shaTrees_in
end Go.Proofs.YtlicmlioilkfdaaDoor
