/-
  The walk of a Hash's Sum.
-/
import Derived.Test.YtlicmlioilkfdaaDoorL2
namespace Go.Proofs.YtlicmlioilkfdaaDoor
open Go.RowKit Go.Sort
set_option linter.unusedVariables false
set_option linter.unusedSimpArgs false

attribute [local go_sem ↓] Go.wp_at_zero Go.wp_at_succ

/-- The digest of a hash. -/
def sumH (s : St) (n : Nat) (r : List UInt8) : List UInt8 := sb (feed s (r ++ pad n)).1

theorem sumH_length (s : St) (n : Nat) (r : List UInt8) : (sumH s n r).length = 32 := rfl

theorem Tryd.u79 : ∃ d, Tryd.prog.underlying 79 = some d ∧ d.isRow = true := by
  have h : (Tryd.prog.underlying 79).map (fun d => d.isRow) = some true := by kernel_rfl
  cases e : Tryd.prog.underlying 79 with
  | none => rw [e] at h; simp at h
  | some d => exact ⟨d, rfl, by rw [e] at h; simpa using h⟩

theorem wpList_storeN {P : Program} {ops : Array Oper} {rest : List Oper} {op : Oper} {a : Act} {w : World} {Q : Exit → Act → World → Prop} (hgd : op.guard = none) (hdst : op.dst = none) (ty : TypeId) (x y : Operand) (ho : op.op = .store ty x y)
    (b o : Nat) (cells : Array Value) (hx : a.eval x = .pointer (some ⟨b, o, none⟩)) (hy : a.eval y = .agg cells)
    (ht : w.there b o cells.size) (hi : (P.info? ty).map (·.size) = some cells.size) (h1 : cells.all (·.oneCell') = true)
    (h : ∀ w2, Hid (w2 = w.setCells b o cells.toList) → wpList P ops Q rest a w2) : wpList P ops Q (op :: rest) a w :=
  wpList_store_mid0 hgd hdst ty x y ho b o cells hx hy ht hi h1 (h _ (hide rfl))

theorem Tryd.s79 : (Tryd.prog.info? 79).map (·.size) = some 73 := by kernel_rfl
theorem Tryd.u26 : Tryd.prog.underlying 26 = some (.array 32 5) := by kernel_rfl
theorem Tryd.s26 : (Tryd.prog.info? 26).map (·.size) = some 32 := by kernel_rfl

theorem hcs_one (s : St) (n : Nat) (pc : List UInt8) : (hcs s n pc).toArray.all (·.oneCell') = true :=
  all_oneCell_toArray fun v hv => by
    unfold hcs at hv
    rcases List.mem_append.1 hv with h | h
    · obtain ⟨_, _, rfl⟩ := List.mem_map.1 h; rfl
    · rcases List.mem_cons.1 h with rfl | h
      · rfl
      · exact bvs_one _ v h

theorem HAt.range {w : World} {p : Nat} {s : St} {n : Nat} {pc : List UInt8} (h : HAt w p s n pc) : w.rangeAt p 0 (hcs s n pc) := by
  intro j v hv
  rw [Nat.zero_add, cell_of_heap h.heap]
  simpa using hv

/-- A Hash laid into a block that is there. -/
theorem ZAt.putH {w : World} {b : Nat} (h : ZAt w b 79 73) (s : St) (n : Nat) (pc : List UInt8) (hl : pc.length = 64) (hn : n < 18446744073709551616) : HAt (w.setCells b 0 (hcs s n pc)) b s n pc := by
  obtain ⟨cs, h, hs⟩ := h
  have := setCells_whole b 79 (hcs s n pc) 0 w cs.toList h (by rw [hcs_length, hl]; simp [hs])
  refine ⟨?_, hl, hn⟩
  rw [this]
  simp [hcs_length, hl, hs]

/-- Bytes laid into a block that is there. -/
theorem bat_range {w : World} {b t : Nat} {l : List UInt8} (h : w.heap[b]? = some (.cells (bvs l).toArray t (0, 0))) : w.rangeAt b 0 (bvs l) := by
  intro j v hv
  rw [Nat.zero_add, cell_of_heap h]
  simpa using hv

theorem bvs_oneA (l : List UInt8) : (bvs l).toArray.all (·.oneCell') = true := all_oneCell_toArray (bvs_one l)

theorem ZAt.putB {w : World} {b t n : Nat} (h : ZAt w b t n) (l : List UInt8) (hl : l.length = n) : (w.setCells b 0 (bvs l)).heap[b]? = some (.cells (bvs l).toArray t (0, 0)) := by
  obtain ⟨cs, h, hn⟩ := h
  have := setCells_whole b t (bvs l) 0 w cs.toList h (by simp [bvs_length]; omega)
  rw [this]
  simp [bvs_length, hl, hn]

theorem wpC_world {P : Program} {f : FuncId} {args : Array Value} {w : World} {R : Ending → World → Prop} (h : ∀ w2, w2 = w → Calls P f args w2 R) : Calls P f args w R := h w rfl

theorem step_copyG {w : World} {ops : Array Oper} {o : Oper} {a : Act} {K : Act → World → Prop} {Q : Exit → Act → World → Prop} {E : Prop} (hgd : o.guard = none) (s x : Operand)
    (ho : o.op = .call { callee := .builtin .copy, args := #[s, x], argTypes := #[22, 22] }) (hty : o.type = 3)
    (g off dLen dCap : Nat) (cur : List Value) (t : TypeId) (xv : Value) (q : List UInt8) (hs : a.eval s = .slice (some ⟨g, off, none⟩) dLen dCap) (hxv : a.eval x = xv) (hg : w.heap[g]? = some (.cells cur.toArray t (0, 0))) (hx : Rd w xv q) (hq : 0 < min q.length dLen) (hfit : off + dLen ≤ cur.length)
    (h : ∀ w', w'.heap[g]? = some (.cells (cur.take off ++ bvs (q.take dLen) ++ cur.drop (off + min q.length dLen)).toArray t (0, 0)) → Fr (fun b => b = g) w w' → K (a.put o.dst (.int .i64 ((min q.length dLen : Nat) : Int))) w') :
    if Region.wanted o (yielded ops a.tmps) = true then Oper.wp Tryd.prog o a w K Q else E := by
  have hw : Region.wanted o (yielded ops a.tmps) = true := by simp [Region.wanted, hgd]
  rw [if_pos hw]
  obtain ⟨w', hr, h2, h3⟩ := copy_gen w g off dLen dCap cur t hg xv q hx hq hfit
  unfold Oper.wp execOp
  simp only [ho, hty, resolve, invoke, builtin, Sem.run_bind, Sem.run_pure, Result.andThen_ok, List.map_toArray, List.map_cons, List.map_nil, hs, hxv, hr]
  exact h w' h2 h3

set_option maxHeartbeats 1000000 in
set_option maxRecDepth 100000 in
theorem sum_any (w : World) (p : Nat) (s : St) (n : Nat) (r : List UInt8) (T : Tb w) (h : HH w p s n r) :
    Calls Tryd.prog 27 #[.pointer (some ⟨p, 0, none⟩)] w fun e w' => e = .returned (.agg (bvs (sumH s n r)).toArray) ∧ Fr (fun _ => False) w w' := by
  obtain ⟨pc, hH, hr⟩ := h
  have hlt := hH.lt
  have hfit := hH.fit
  have HT := hide T
  have HH0 := hide hH
  have HR := hide hr
  clear T hr
  obtain ⟨d79, u79, r79⟩ := Tryd.u79
  have hi : (Tryd.prog.info? 79).map (·.size) = some (hcs s n pc).length := by rw [hcs_length, hH.len]; exact Tryd.s79
  have hi2 : (Tryd.prog.info? 79).map (·.size) = some (hcs s n pc).toArray.size := by rw [List.size_toArray, hcs_length, hH.len]; exact Tryd.s79
  have hone := hcs_one s n pc
  have hsz : (hcs s n pc).toArray.size = 73 := by rw [List.size_toArray, hcs_length, hH.len]
  have c8 := hH.num
  have hrng : ∀ o, (w.alloc o).rangeAt p 0 (hcs s n pc) := fun o => (hH.kept ((Fr.refl (fun _ => False) w).alloc o) id).range
  have z79 : Tryd.zeroCells79.size = 73 := by kernel_rfl
  have hth : ∀ o, ((w.alloc o).alloc (.cells Tryd.zeroCells79 79)).there (w.heap.size + 1) 0 (hcs s n pc).toArray.size := fun o => by
    rw [hsz]
    exact ZAt.there ⟨_, BlockAt.one w o _, z79⟩
  clear hsz hH
  go_enter Tryd.func27, Tryd.ntmps27
  go_wp2_with (first | refine wpList_load_mid rfl 79 _ rfl p 0 rfl (hcs s n pc) _ (hrng _) u79 r79 hi ?_ | refine wpList_storeN rfl rfl 79 _ _ rfl (w.heap.size + 1) 0 (hcs s n pc).toArray rfl rfl (hth _) hi2 hone ?_)
  intro w1 hw1
  replace hw1 := unhide hw1
  have hH1 : HAt w1 (w.heap.size + 1) s n pc := by rw [hw1]; exact ZAt.putH ⟨_, BlockAt.one w _ _, z79⟩ s n pc (unhide HH0).len hfit
  have f1 : Fr (fun _ => False) w w1 := by rw [hw1]; exact (((Fr.refl _ _).alloc _).alloc _).trans (setCells_frame _ _ _ _) (fun i hi e => by omega)
  have hR1 : ZAt w1 w.heap.size 26 32 := by
    rw [hw1]
    exact ZAt.kept (S := fun k => k = w.heap.size + 1) ⟨_, BlockAt.two w _ _, rfl⟩ (setCells_frame _ _ _ _) (by simp)
  have c81 : w1.cell? ⟨p, 8, none⟩ = some (.int .u64 ((n : Nat) : Int)) := (f1.cell (a := ⟨p, 8, none⟩) hlt id).trans c8
  have hs1 : w.heap.size + 1 < w1.heap.size := hH1.lt
  have HH1 := hide hH1
  have HR1 := hide hR1
  have F1 := hide f1
  clear hw1 hH1 f1 hR1 hth hrng hi hi2 hone c8
  go_wp2_with fail
  refine (padding_any w1 n hfit).mono ?_
  rintro e w2 ⟨v2, rfl, h2, f2, k2, hk2, hk2'⟩
  have F2 := hide ((unhide F1).trans f2 (fun _ _ h => h))
  have HH2 := hide ((unhide HH1).kept f2 id)
  have HR2 := hide ((unhide HR1).kept f2 id)
  have H2 := hide h2
  have HK2 := hide hk2
  clear f2 h2 hk2
  go_wp2_with fail
  refine (write_any w2 (w.heap.size + 1) s n r v2 (pad n) ((unhide HT).kept (unhide F2) id id) ⟨pc, unhide HH2, unhide HR⟩ (unhide H2).rd (fun b hb => .inr <| by rw [unhide HK2] at hb; simp at hb; omega)).mono ?_
  rintro e w3 ⟨rfl, h3, f3⟩
  have F3 : Hid (Fr (fun _ => False) w w3) := hide ((unhide F2).trans f3 (fun i hi e => by omega))
  have HR3 := hide ((unhide HR2).kept f3 (by simp))
  obtain ⟨pc3, hH3, -⟩ := h3
  have hsum : sb (feed s (r ++ pad n)).1 = sumH s n r := rfl
  have HSUM := hide hsum
  generalize (feed s (r ++ pad n)).1 = S3 at *
  generalize (n + (pad n).length) % 18446744073709551616 = n3 at *
  have HH3 := hide hH3
  have hs3 := hH3.lt
  clear f3 hH3 hsum
  go_wp2_with fail
  refine wp_world ?_
  intro w4 hw4
  have f34 : Fr (fun _ => False) w3 w4 := by rw [hw4]; exact (Fr.refl _ _).alloc _
  have hB4 : w4.heap[w3.heap.size]? = some (.cells (bvs (List.replicate 32 0)).toArray 26 (0, 0)) := by rw [hw4]; exact heap_alloc_new w3 _
  have hH4 := (unhide HH3).kept f34 id
  have F4 := hide ((unhide F3).trans f34 (fun _ _ h => h))
  have HR4 := hide ((unhide HR3).kept f34 id)
  have hL : ∀ W, Fr (fun _ => False) w4 W → Calls Tryd.prog 45 #[.slice none 0 0, .pointer (some ⟨w.heap.size + 1, 0, none⟩)] W fun e w' => ∃ ao cap, e = .returned (.slice ao 32 cap) ∧ Rd w' (.slice ao 32 cap) (sb S3) ∧ Fr (fun _ => False) W w' := fun W f => by
    have hHW := hH4.kept f id
    refine (layState_any W (.slice none 0 0) [] (w.heap.size + 1) 0 S3 (Ow.nil W) (fun j hj => by rw [Nat.zero_add]; exact hHW.word j hj) (fun k hk => by simp [Value.ownBlock] at hk) (by simp)).mono ?_
    rintro e w' ⟨v', rfl, h1, h2⟩
    obtain ⟨ao, cap, rfl⟩ := h1.shape
    exact ⟨ao, cap, rfl, h1.rd, h2.1.mono (fun i hi e => by simp [Value.ownBlock] at e)⟩
  have HL := hide hL
  have HB4 := hide hB4
  have hs4 : w3.heap.size < w4.heap.size := lt_of_heap hB4
  clear hw4 f34 hB4 hH4 hL
  go_region_held3 (fun _ => True) (trivial) ((first
    | (go_at_call 45; refine (unhide HL _ (by first | exact (Fr.refl _ _).drew | exact Fr.refl _ _)).mono ?_; rintro e w5 ⟨ao5, cap5, rfl, h5, f5⟩)
    | (refine step_copyG rfl (.tmp 18) (.tmp 20) rfl rfl w3.heap.size 0 32 32 (bvs (List.replicate 32 0)) 26 _ (sb S3) (by rfl) (by rfl) (by exact (f5.block w3.heap.size (by first | exact hs4 | simpa using hs4) id).trans (unhide HB4)) h5 (by rw [sb_length]; decide) (by rw [bvs_length]; decide) ?_; intro w6 h6 f6)))
  have h6' : w6.heap[w3.heap.size]? = some (.cells (bvs (sb S3)).toArray 26 (0, 0)) := by
    rw [h6]
    have e1 : (sb S3).take 32 = sb S3 := List.take_of_length_le (by rw [sb_length]; exact Nat.le_refl 32)
    have e2 : (bvs (List.replicate 32 0)).drop (0 + min (sb S3).length 32) = [] := List.drop_of_length_le (by rw [sb_length, bvs_length]; decide)
    rw [e1, e2]
    simp
  have f46 : Fr (fun b => b = w3.heap.size) w4 w6 := ((Fr.refl (fun b => b = w3.heap.size) w4).drew).trans ((f5.mono (fun _ _ h => h.elim)).trans f6 (fun _ _ h => h)) (fun _ _ h => h)
  have hR6 := (unhide HR4).kept f46 (by omega)
  have f06 : Fr (fun _ => False) w w6 := (unhide F4).trans f46 (fun i hi e => by omega)
  rw [unhide HSUM] at h6'
  have hrng := bat_range h6'
  have hsl := sumH_length s n r
  obtain ⟨D, hD⟩ : ∃ D, D = sumH s n r := ⟨_, rfl⟩
  rw [← hD] at h6' hrng hsl
  have HDD := hide hD
  clear hD
  have hszD : (bvs D).toArray.size = 32 := by simpa [bvs_length] using hsl
  have hi : (Tryd.prog.info? 26).map (·.size) = some (bvs D).length := by rw [bvs_length, hsl]; exact Tryd.s26
  have hi2 : (Tryd.prog.info? 26).map (·.size) = some (bvs D).toArray.size := by rw [hszD]; exact Tryd.s26
  have hone := bvs_oneA D
  have hth : w6.there w.heap.size 0 (bvs D).toArray.size := by rw [hszD]; exact hR6.there
  have hres := hR6.putB D hsl
  have fin : Fr (fun _ => False) w (w6.setCells w.heap.size 0 (bvs D)) := f06.trans (setCells_frame _ _ _ _) (fun i hi e => by omega)
  clear h6 h6' f46 hR6 f06 h5 f5 f6 hsl hszD
  go_wp2_with (first | refine wpList_load_mid rfl 26 _ rfl w3.heap.size 0 rfl (bvs D) _ hrng Tryd.u26 rfl hi ?_ | refine wpList_store_mid0 rfl rfl 26 _ _ rfl w.heap.size 0 (bvs D).toArray rfl rfl hth hi2 hone ?_)
  refine bodyPost_ret (ret_agg rfl _ _ w.heap.size 0 _ _ rfl (bat_range hres) Tryd.u26 rfl hi) rfl ?_
  rw [← unhide HDD]
  exact ⟨rfl, fin⟩

/-- The digest of bytes. -/
def sha (p : List UInt8) : List UInt8 := sumH (feed s0 p).1 (p.length % 18446744073709551616) (feed s0 p).2

theorem sha_length (p : List UInt8) : (sha p).length = 32 := rfl

theorem HH.new {w : World} {p : Nat} (h : HAt w p s0 0 (List.replicate 64 0)) : HH w p s0 0 [] := ⟨_, h, rfl⟩

set_option maxHeartbeats 400000 in
theorem Sum_any (w : World) (v : Value) (q : List UInt8) (T : Tb w) (hv : Rd w v q) : Calls Tryd.prog 11 #[v] w fun e w' => e = .returned (.agg (bvs (sha q)).toArray) ∧ Fr (fun _ => False) w w' := by
  have HT := hide T
  have HV := hide hv
  clear T
  go_enter Tryd.func11, Tryd.ntmps11
  go_wp2_with fail
  refine wpC_world ?_
  intro w0 hw0
  have f0 : Fr (fun _ => False) w w0 := by rw [hw0]; exact (Fr.refl _ _).alloc _
  have hR0 : ZAt w0 w.heap.size 26 32 := by rw [hw0]; exact ZAt.new w _ 26 32 rfl
  have F0 := hide f0
  have HR0 := hide hR0
  have hs0 : w.heap.size < w0.heap.size := by obtain ⟨cs, h, -⟩ := hR0; exact lt_of_heap h
  clear hw0 f0 hR0
  refine (new_any w0).mono ?_
  rintro e w1 ⟨rfl, h1, f1⟩
  have F1 := hide ((unhide F0).trans f1 (fun _ _ h => h))
  have HR1 := hide ((unhide HR0).kept f1 id)
  have H1 := hide (HH.new h1)
  have hs1 : w0.heap.size < w1.heap.size := h1.lt
  clear h1 f1
  go_wp2_with fail
  refine (write_any w1 w0.heap.size s0 0 [] v q ((unhide HT).kept (unhide F1) id id) (unhide H1) ((unhide HV).kept (unhide F1) (fun _ _ h => h)) (fun b hbb => (hv.blk b hbb).imp_right (fun h => by omega))).mono ?_
  rintro e w2 ⟨rfl, h2, f2⟩
  rw [List.nil_append, Nat.zero_add] at h2
  have F2 : Hid (Fr (fun _ => False) w w2) := hide ((unhide F1).trans f2 (fun i hi e => by omega))
  have HR2 := hide ((unhide HR1).kept f2 (by omega))
  have H2 := hide h2
  clear h2 f2
  go_wp2_with fail
  refine (sum_any w2 w0.heap.size _ _ _ ((unhide HT).kept (unhide F2) id id) (unhide H2)).mono ?_
  rintro e w3 ⟨rfl, f3⟩
  have F3 := hide ((unhide F2).trans f3 (fun _ _ h => h))
  have hR3 := (unhide HR2).kept f3 id
  obtain ⟨D, hD⟩ : ∃ D, D = sha q := ⟨_, rfl⟩
  have hsl : D.length = 32 := by rw [hD]; rfl
  have hD' : sumH (feed s0 q).1 (q.length % 18446744073709551616) (feed s0 q).2 = D := hD.symm
  rw [hD']
  have HDD := hide hD
  clear hD hD' f3
  have hszD : (bvs D).toArray.size = 32 := by simpa [bvs_length] using hsl
  have hi : (Tryd.prog.info? 26).map (·.size) = some (bvs D).length := by rw [bvs_length, hsl]; exact Tryd.s26
  have hi2 : (Tryd.prog.info? 26).map (·.size) = some (bvs D).toArray.size := by rw [hszD]; exact Tryd.s26
  have hone := bvs_oneA D
  have hth : w3.there w.heap.size 0 (bvs D).toArray.size := by rw [hszD]; exact hR3.there
  have hres := hR3.putB D hsl
  have fin : Fr (fun _ => False) w (w3.setCells w.heap.size 0 (bvs D)) := (unhide F3).trans (setCells_frame _ _ _ _) (fun i hi e => by omega)
  clear hR3 hsl hszD
  go_wp2_with (refine wpList_store_mid0 rfl rfl 26 _ _ rfl w.heap.size 0 (bvs D).toArray rfl rfl hth hi2 hone ?_)
  refine bodyPost_ret (ret_agg rfl _ _ w.heap.size 0 _ _ rfl (bat_range hres) Tryd.u26 rfl hi) rfl ?_
  rw [← unhide HDD]
  exact ⟨rfl, fin⟩
end Go.Proofs.YtlicmlioilkfdaaDoor
