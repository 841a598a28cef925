/-
  The walk of package sha's stirred.
-/
import Derived.Test.YtlicmlioilkfdaaDoorSc
namespace Go.Proofs.YtlicmlioilkfdaaDoor
open Go.RowKit
set_option linter.unusedVariables false
set_option linter.unusedSimpArgs false

attribute [local go_sem ↓] Go.wp_at_zero Go.wp_at_succ

/-- What four bits that have moved out come to. -/
def QL : List Wd := [0, 274646895, 549293790, 820201905, 1098587580, 1361435347, 1640403810, 1905808397, 2197175160, 2460548119, 2722870694, 2987750089, 3280807620, 3553878443, 3811616794, 4084100981]

/-- The tables are there. -/
structure Tb (w : World) : Prop where
  r : ∀ j, j < 64 → w.cell? ⟨1, j, none⟩ = some (.int .u32 (N (KL.getD j 0)))
  q : ∀ j, j < 16 → w.cell? ⟨0, j, none⟩ = some (.int .u32 (N (QL.getD j 0)))

theorem Tb.kept {S : Nat → Prop} {w w' : World} (h : Tb w) (f : Fr S w w') (h0 : ¬ S 0) (h1 : ¬ S 1) : Tb w' :=
  ⟨fun j hj => by rw [f.cell (World.block_lt_of_cell? w _ (h.r j hj)) h1]; exact h.r j hj, fun j hj => by rw [f.cell (World.block_lt_of_cell? w _ (h.q j hj)) h0]; exact h.q j hj⟩

theorem not32' (a : Wd) : bits BinOp.xor IntKind.u32 (if IntKind.u32.signed = true then -1 else IntKind.u32.max) (N a) = N (~~~a) := not32 a

/-- The first i words of a state, summed up. -/
def mixd (s r : St) (i : Nat) : List Wd := (s.add r).l.take i ++ s.l.drop i

theorem mixd_step (s r : St) (i : Nat) (hi : i < 8) : (mixd s r i).set i ((mixd s r i).getD i 0 + r.l.getD i 0) = mixd s r (i + 1) := by
  rcases (by omega : i = 0 ∨ i = 1 ∨ i = 2 ∨ i = 3 ∨ i = 4 ∨ i = 5 ∨ i = 6 ∨ i = 7) with rfl | rfl | rfl | rfl | rfl | rfl | rfl | rfl <;> rfl

theorem Tryd.u23 : Tryd.prog.underlying 23 = some (.int .u32) := by kernel_rfl
theorem Tryd.s23 : (Tryd.prog.info? 23).map (·.size) = some 1 := by kernel_rfl

theorem run_index50 (w : World) (cs : Array Value) (i : Nat) (v : Value) (hi : i < 8) (hv : cs[i]? = some v) : Sem.run Tryd.prog (Instr.index 50 (.agg cs) (.int .i64 (i : Int))) w = .ok v w := by
  obtain ⟨t, ht, hs⟩ : ∃ t, Tryd.prog.info? 23 = some t ∧ t.size = 1 := by
    have := Tryd.s23
    cases h : Tryd.prog.info? 23 with
    | none => rw [h] at this; simp at this
    | some t => rw [h] at this; exact ⟨t, rfl, by simpa using this⟩
  have h8 : (i : Int) < 8 := by omega
  simp [Instr.index, asIntOf, run_underlying Tryd.u50, sizeOf, typeInfo, ht, hs, h8, hi, part, isAgg, run_underlying Tryd.u23, hv]

theorem wp_world {P : Program} {C : Code} {Q : Exit → Act → World → Prop} {a : Act} {w : World} (h : ∀ w2, w2 = w → C.wp P Q a w2) : C.wp P Q a w := h w rfl

theorem BlockAt.one (w : World) (o1 o2 : Obj) : ((w.alloc o1).alloc o2).heap[w.heap.size + 1]? = some o2 := by
  have := heap_alloc_new (w.alloc o1) o2
  rwa [World.size_alloc] at this
theorem BlockAt.two (w : World) (o1 o2 : Obj) : ((w.alloc o1).alloc o2).heap[w.heap.size]? = some o1 := by
  have := Below.heap_alloc (w.alloc o1) o2 w.heap.size (by simp)
  rw [this]
  exact heap_alloc_new w o1

set_option maxHeartbeats 1000000 in
set_option maxRecDepth 100000 in
theorem stirred_any (w : World) (s : St) (p o : Nat) (l : List UInt8) (h : PAt w p o l) (T : Tb w) : Calls Tryd.prog 43 #[.agg #[.int .u32 (N s.a), .int .u32 (N s.b), .int .u32 (N s.c), .int .u32 (N s.d), .int .u32 (N s.e), .int .u32 (N s.f), .int .u32 (N s.g), .int .u32 (N s.h)], .pointer (some ⟨p, o, none⟩)] w fun e w' => e = .returned (.agg #[.int .u32 (N (stir s l).a), .int .u32 (N (stir s l).b), .int .u32 (N (stir s l).c), .int .u32 (N (stir s l).d), .int .u32 (N (stir s l).e), .int .u32 (N (stir s l).f), .int .u32 (N (stir s l).g), .int .u32 (N (stir s l).h)]) ∧ Fr (fun _ => False) w w' := by
  have hp : p < w.heap.size := World.block_lt_of_cell? w _ (h.2 0 (by omega))
  have HT := hide T
  have HH := hide h
  clear h T
  go_enter Tryd.func43, Tryd.ntmps43
  go_wp2_with fail
  refine (schedule_any _ p o l ((unhide HH).kept (((Fr.refl (fun _ => False) w).alloc _).alloc _) id)).mono ?_
  rintro e w1 ⟨rfl, f1⟩
  have hWl := sch_length l 48
  have HSTIR : Hid (∀ t, t = 64 → s.add (rn (sch l 48) s t) = stir s l) := hide (fun t ht => by rw [ht]; rfl)
  generalize sch l 48 = W at *
  have hA : WAt w1 w.heap.size 50 s.l := WAt.kept (w := (w.alloc _).alloc _) (BlockAt.two w _ _) f1 id
  have hR : ZAt w1 (w.heap.size + 1) 50 8 := ZAt.kept (w := (w.alloc _).alloc _) ⟨_, BlockAt.one w _ _, rfl⟩ f1 id
  have f01 : Fr (fun _ => False) w w1 := (((Fr.refl (fun _ => False) w).alloc _).alloc _).trans f1 (fun _ _ h => h)
  have hs1 : w.heap.size + 2 ≤ w1.heap.size := by have := f1.size; simpa using this
  have hl : (wvs W).length = 64 := by rw [wvs_length]; exact hWl
  have hsz : (wvs W).toArray.size = 64 := by simpa using hl
  have hi2 : (Tryd.prog.info? 98).map (·.size) = some (wvs W).toArray.size := by rw [hsz]; exact Tryd.s98
  have hone := wvs_one W
  have hth2 : ∀ cs : Array Value, cs.size = 64 → (w1.alloc (.cells cs 98)).there w1.heap.size 0 (wvs W).toArray.size := fun cs hcs => by rw [hsz]; exact (ZAt.new w1 cs 98 64 hcs).there
  have hput : ∀ cs : Array Value, cs.size = 64 → WAt ((w1.alloc (.cells cs 98)).setCells w1.heap.size 0 (wvs W)) w1.heap.size 98 W := fun cs hcs => (ZAt.new w1 cs 98 64 hcs).put _ hWl
  have fput : ∀ cs : Array Value, Fr (fun _ => False) w1 ((w1.alloc (.cells cs 98)).setCells w1.heap.size 0 (wvs W)) := fun cs => ((Fr.refl _ _).alloc _).trans (setCells_frame _ _ _ _) (fun i hi e => by omega)
  have HA := hide hA
  have HR := hide hR
  have HF01 := hide f01
  have HP := hide hput
  have HFP := hide fput
  clear hA hR f1 f01 hl hsz hput fput
  go_wp2_with (refine wpList_store_mid rfl 98 _ _ rfl w1.heap.size 0 (wvs W).toArray rfl rfl (hth2 _ rfl) hi2 hone ?_)
  simp only [Act.put]
  refine wp_world ?_
  intro w2 hw2
  have hW : WAt w2 w1.heap.size 98 W := by rw [hw2]; exact unhide HP _ rfl
  have f12 : Fr (fun _ => False) w1 w2 := by rw [hw2]; exact unhide HFP _
  have hA := (unhide HA).kept f12 id
  have hR := (unhide HR).kept f12 id
  have f02 : Fr (fun _ => False) w w2 := (unhide HF01).trans f12 (fun _ _ h => h)
  have T2 := (unhide HT).kept f02 id id
  have hs2 : w1.heap.size < w2.heap.size := lt_of_heap hW
  have c0 := hA.cell 0 (by simp [St.l])
  have c1 := hA.cell 1 (by simp [St.l])
  have c2 := hA.cell 2 (by simp [St.l])
  have c3 := hA.cell 3 (by simp [St.l])
  have c4 := hA.cell 4 (by simp [St.l])
  have c5 := hA.cell 5 (by simp [St.l])
  have c6 := hA.cell 6 (by simp [St.l])
  have c7 := hA.cell 7 (by simp [St.l])
  simp only [St.l, List.getD_cons_zero, List.getD_cons_succ] at c0 c1 c2 c3 c4 c5 c6 c7
  clear hw2 HP HFP hth2 hi2 hone HR HA
  have HW := hide hW
  have HAA := hide hA
  have HRR := hide hR
  have HF2 := hide f02
  have HT2 := hide T2
  clear hW f12 hA hR f02 T2
  go_quiet (fail)
  clear c0 c1 c2 c3 c4 c5 c6 c7
  go_wp2_with fail
  go_loopw [6, 7, 8, 9, 10, 11, 12, 13, 37] (fun v6 v7 v8 v9 v10 v11 v12 v13 v37 w' => ∃ t n : Nat, t ≤ 64 ∧ v37 = .int .i64 (t : Int) ∧ w' = w2.drewN n ∧ v6 = .int .u32 (N (rn W s t).a) ∧ v7 = .int .u32 (N (rn W s t).b) ∧ v8 = .int .u32 (N (rn W s t).c) ∧ v9 = .int .u32 (N (rn W s t).d) ∧ v10 = .int .u32 (N (rn W s t).e) ∧ v11 = .int .u32 (N (rn W s t).f) ∧ v12 = .int .u32 (N (rn W s t).g) ∧ v13 = .int .u32 (N (rn W s t).h)) (fun _ _ _ _ _ _ _ _ v37 _ => 64 - (intOf v37).toNat)
  case atStart => exact ⟨0, nq, by omega, rfl, rfl, rfl, rfl, rfl, rfl, rfl, rfl, rfl, rfl⟩
  case round =>
    obtain ⟨t, n, ht, rfl, rfl, rfl, rfl, rfl, rfl, rfl, rfl, rfl, rfl⟩ := hrel
    by_cases hlt : t < 64
    · have ck := (unhide HT2).r t hlt
      have cw := (unhide HW).cell t (by omega)
      have HN : Hid (rn W s (t + 1) = rnd (rn W s t) (KL.getD t 0) (W.getD t 0)) := hide rfl
      generalize KL.getD t 0 = kt at *
      generalize W.getD t 0 = wt at *
      generalize hS' : rn W s (t + 1) = S' at *
      have HS' := hide hS'
      clear hS'
      generalize hS : rn W s t = S at *
      have HSS := hide hS
      clear hS
      obtain ⟨a, b, c, d, e, f, g, h⟩ := S
      simp only
      go_wp2_with fail
      have R2 : ∀ (m : Nat) (x : Wd) (k : Int), 0 < k → k < 32 → Calls Tryd.prog 64 #[.int .u32 (N x), .int .i64 k] (w2.drewN (n + m)) fun e w'' => e = .returned (.int .u32 (N (rot x k.toNat))) ∧ ∃ m, w'' = w2.drewN (n + m) := fun m x k h0 h1 => right_q _ x k h0 h1 (fun w'' e => ⟨m, e⟩)
      go_quiet (exact R2 _ _ _ (by decide) (by decide))
      have R3 : ∀ (W : World) (x : Wd) (k : Int), 0 < k → k < 32 → Calls Tryd.prog 64 #[.int .u32 (N x), .int .i64 k] W fun e w'' => e = .returned (.int .u32 (N (rot x k.toNat))) ∧ W = w'' := fun W x k h0 h1 => right_q _ x k h0 h1 (fun w'' e => e.symm)
      go_wp2_with (go_at_call 64; refine (R3 _ _ _ (by decide) (by decide)).mono ?_; rintro e w' ⟨rfl, rfl⟩)
      have hN := unhide HN
      have hS := unhide HS'
      subst hN
      refine ⟨⟨t + 1, n + nq, by omega, by go_num, rfl, ?_, by rw [hS]; rfl, by rw [hS]; rfl, by rw [hS]; rfl, ?_, by rw [hS]; rfl, by rw [hS]; rfl, by rw [hS]; rfl⟩, by simp [intOf]; omega⟩
      · rw [hS]
        simp only [not32', xor32, and32, add5, add32]
        rfl
      · rw [hS]
        simp only [not32', xor32, and32, add5, add32]
        rfl
    · have t64 : t = 64 := by omega
      have hst := unhide HSTIR t t64
      generalize rn W s t = r at *
      have HST := hide hst
      clear hst HSTIR
      go_wp2_with fail
      go_loopw [109] (fun v w' => ∃ i : Nat, i ≤ 8 ∧ v = .int .i64 (i : Int) ∧ WAt w' w.heap.size 50 (mixd s r i) ∧ ZAt w' (w.heap.size + 1) 50 8 ∧ Fr (fun _ => False) w w') (fun v _ => 8 - (intOf v).toNat)
      case atStart => exact ⟨0, by omega, rfl, (unhide HAA).kept (frD w2 n (fun _ => False)) id, (unhide HRR).kept (frD w2 n (fun _ => False)) id, (unhide HF2).drewN n⟩
      case round =>
        obtain ⟨i, hi, rfl, hA, hR, hF⟩ := hrel
        by_cases hlt : i < 8
        · have hz := hA.frozen i
          have hl8 : (mixd s r i).length = 8 := by rw [mixd]; simp [St.l]; omega
          have hc := hA.cell i (by omega)
          have h2 := hA.set i ((mixd s r i).getD i 0 + r.l.getD i 0)
          have hm := mixd_step s r i hlt
          rw [hm] at h2
          have hcell : (mixd s r i).getD i 0 = s.l.getD i 0 := by
            rcases (by omega : i = 0 ∨ i = 1 ∨ i = 2 ∨ i = 3 ∨ i = 4 ∨ i = 5 ∨ i = 6 ∨ i = 7) with rfl | rfl | rfl | rfl | rfl | rfl | rfl | rfl <;> rfl
          have hidx : (#[Value.int .u32 (N r.a), Value.int .u32 (N r.b), Value.int .u32 (N r.c), Value.int .u32 (N r.d), Value.int .u32 (N r.e), Value.int .u32 (N r.f), Value.int .u32 (N r.g), Value.int .u32 (N r.h)] : Array Value)[i]? = some (.int .u32 (N (r.l.getD i 0))) := by
            rcases (by omega : i = 0 ∨ i = 1 ∨ i = 2 ∨ i = 3 ∨ i = 4 ∨ i = 5 ∨ i = 6 ∨ i = 7) with rfl | rfl | rfl | rfl | rfl | rfl | rfl | rfl <;> rfl
          have hrun := fun w' => run_index50 w' _ i _ hlt hidx
          clear hidx
          generalize (mixd s r i).getD i 0 = x at *
          generalize r.l.getD i 0 = y at *
          have ha := add32 x y
          have H2 := hide h2
          have HR3 := hide hR
          have HF3 := hide hF
          clear hA h2 hm hR hF hl8 hcell
          go_wp2_with fail
          go_roundw
          case rel =>
            refine ⟨i + 1, by omega, by go_num, unhide H2, (unhide HR3).setCell _ _ _, (unhide HF3).setCell (fun h => absurd h (by simp)) _⟩
          case measure => simp [intOf]; omega
        · have : i = 8 := by omega
          subst this
          obtain ⟨z, hz⟩ : ∃ z, z = stir s l := ⟨_, rfl⟩
          have hm8 : mixd s r 8 = z.l := by rw [hz, ← unhide HST]; rfl
          rw [hm8] at hA
          have HZ := hide hz
          clear hz hm8
          have hrng := hA.range
          have hi : (Tryd.prog.info? 50).map (·.size) = some (wvs z.l).length := Tryd.s50
          have hi2 : (Tryd.prog.info? 50).map (·.size) = some (wvs z.l).toArray.size := Tryd.s50
          have hone := wvs_one z.l
          have hth : wr.there (w.heap.size + 1) 0 (wvs z.l).toArray.size := hR.there
          have hres := hR.put z.l rfl
          have fin : Fr (fun _ => False) w (wr.setCells (w.heap.size + 1) 0 (wvs z.l)) := hF.trans (setCells_frame _ _ _ _) (fun i hi e => by omega)
          clear hA hR hF
          go_wp2_with (first | refine wpList_load_mid rfl 50 _ rfl w.heap.size 0 rfl (wvs z.l) _ hrng Tryd.u50 rfl hi ?_ | refine wpList_store_mid rfl 50 _ _ rfl (w.heap.size + 1) 0 (wvs z.l).toArray rfl rfl hth hi2 hone ?_)
          refine bodyPost_ret (ret_agg rfl _ _ (w.heap.size + 1) 0 _ _ rfl hres.range Tryd.u50 rfl hi) rfl ?_
          rw [← unhide HZ]
          exact ⟨rfl, fin⟩
end Go.Proofs.YtlicmlioilkfdaaDoor
