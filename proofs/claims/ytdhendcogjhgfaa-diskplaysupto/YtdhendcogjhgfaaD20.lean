/-
  The walk of package disk's Queue.
-/
import Derived.Test.YtdhendcogjhgfaaD19
namespace Go.Proofs.Ytdhendcogjhgfaa
open Go.RowKit
set_option linter.unusedVariables false

attribute [local go_sem ↓] Go.wp_at_zero Go.wp_at_succ

/-- A list of sectors as cells. -/
def sC (q : Int × List UInt8) : List Value := [.int .i64 q.1, .string (str q.2)]
def sF (L : List (Int × List UInt8)) : List Value := (L.map sC).flatten
theorem sC_len (L : List (Int × List UInt8)) : ∀ c ∈ L.map sC, c.length = 2 := by
  intro c hc
  obtain ⟨q, -, rfl⟩ := List.mem_map.1 hc
  rfl
theorem sF_len (L : List (Int × List UInt8)) : (sF L).length = L.length * 2 := by
  unfold sF; rw [flat_len (sC_len L), List.length_map]
theorem sF_get0 (L : List (Int × List UInt8)) (i : Nat) (hi : i < L.length) : (sF L)[i * 2]? = some (.int .i64 (L[i]).1) := by
  have := flat_get (sC_len L) i 0 (by simpa using hi) (by omega)
  unfold sF
  rw [Nat.add_zero] at this
  rw [this]
  simp [sC]
theorem sF_get1 (L : List (Int × List UInt8)) (i : Nat) (hi : i < L.length) : (sF L)[i * 2 + 1]? = some (.string (str (L[i]).2)) := by
  have := flat_get (sC_len L) i 1 (by simpa using hi) (by omega)
  unfold sF
  rw [this]
  simp [sC]

/-- Sectors in a block of their own. -/
def SAt (w : World) (g : Nat) (L : List (Int × List UInt8)) : Prop := w.heap[g]? = some (.cells (sF L).toArray 55 (0, 0))
theorem SAt.kept {S : Nat → Prop} {w w' : World} {g : Nat} {L : List (Int × List UInt8)} (h : SAt w g L) (f : Fr S w w') (hs : ¬ S g) : SAt w' g L := by
  unfold SAt; rw [f.block g (lt_of_heap h) hs]; exact h
theorem SAt.at {w : World} {g : Nat} {L : List (Int × List UInt8)} (h : SAt w g L) (i : Nat) (hi : i < L.length) : w.cell? ⟨g, i * 2, none⟩ = some (.int .i64 (L[i]).1) ∧ w.cell? ⟨g, i * 2 + 1, none⟩ = some (.string (str (L[i]).2)) := by
  rw [cell_of_heap h, cell_of_heap h, List.getElem?_toArray, List.getElem?_toArray, sF_get0 L i hi, sF_get1 L i hi]
  exact ⟨rfl, rfl⟩
theorem SAt.put {w : World} {g : Nat} {L : List (Int × List UInt8)} (h : SAt w g L) (i : Nat) (hi : i < L.length) (q : Int × List UInt8) : SAt ((w.setCell ⟨g, i * 2, none⟩ (.int .i64 q.1)).setCell ⟨g, i * 2 + 1, none⟩ (.string (str q.2))) g (L.set i q) ∧ Fr (fun k => k = g) w ((w.setCell ⟨g, i * 2, none⟩ (.int .i64 q.1)).setCell ⟨g, i * 2 + 1, none⟩ (.string (str q.2))) := by
  refine ⟨?_, ((Fr.refl (fun k => k = g) w).setCell (p := ⟨g, i * 2, none⟩) (fun _ => rfl) _).setCell (p := ⟨g, i * 2 + 1, none⟩) (fun _ => rfl) _⟩
  unfold SAt
  have h1 := heap_setCell_same w g (i * 2) _ 55 (.int .i64 q.1) h
  have h2 := heap_setCell_same _ g (i * 2 + 1) _ 55 (.string (str q.2)) h1
  rw [h2, List.setIfInBounds_toArray, List.setIfInBounds_toArray]
  have e1 := flat_set (sC_len L) i 0 (by simpa using hi) (by omega) (.int .i64 q.1)
  rw [Nat.add_zero] at e1
  have hl : ∀ c ∈ (L.map sC).set i (((L.map sC)[i]'(by simpa using hi)).set 0 (.int .i64 q.1)), c.length = 2 := by
    intro c hc
    rcases List.mem_or_eq_of_mem_set hc with hc | rfl
    · exact sC_len L c hc
    · rw [List.length_set]; exact sC_len L _ (List.getElem_mem _)
  have e2 := flat_set hl i 1 (by simpa using hi) (by omega) (.string (str q.2))
  unfold sF
  rw [e1, e2]
  congr 3
  rw [List.set_set, List.map_set]
  congr 1
  simp [sC]

theorem Try.info55 : (Try.prog.info? 55).map (fun i => (i.size, i.bytes)) = some (2, 24) := by kernel_rfl
theorem Try.zero55 : ((Try.prog.info? 55).bind (fun i => i.zero)).map (fun z => z.cells.toList) = some [Value.int .i64 0, Value.string ByteArray.empty] := by kernel_rfl
theorem Try.u47 : Try.prog.underlying 47 = some (.slice 55) := by kernel_rfl

theorem mks_any (w : World) (n : Nat) (hn : n ≤ 100000) : ∃ w1, (Instr.makeSlice 47 (.int .i64 (n : Int)) (.int .i64 (n : Int))).run Try.prog w = .ok (.slice (some ⟨w.heap.size, 0, none⟩) n n) w1 ∧ SAt w1 w.heap.size (List.replicate n (0, [])) ∧ Fr (fun _ => False) w w1 := by
  obtain ⟨i, z, hi, hz0, hz1, hz2, hz3⟩ := info_zero Try.info55 Try.zero55
  have := run_make (P := Try.prog) w 47 55 i _ Try.u47 hi hz0 .i64 .i64 (n : Int) (n : Int) (by omega) (Int.le_refl _) (by rw [hz2]; omega) (by omega)
  rw [hz1, Int.toNat_natCast] at this
  refine ⟨_, this, ?_, (Fr.refl _ _).alloc _⟩
  have em : madeCells z.cells (n * 2) = (sF (List.replicate n (0, []))).toArray := ?_
  · unfold SAt
    rw [heap_alloc_new, em]
  apply Array.toList_inj.1
  have hzs : z.cells.size = 2 := by rw [← Array.length_toList, hz3]; rfl
  apply List.ext_getElem
  · simp [size_madeCells, sF_len]
  · intro j h1 h2
    have hj : j < n * 2 := by simpa [size_madeCells] using h1
    have hg0 : z.cells[0]'(by omega) = .int .i64 0 := by
      have : z.cells.toList[0]'(by rw [hz3]; decide) = .int .i64 0 := by simp only [hz3]; rfl
      simpa using this
    have hg1 : z.cells[1]'(by omega) = .string ByteArray.empty := by
      have : z.cells.toList[1]'(by rw [hz3]; decide) = .string ByteArray.empty := by simp only [hz3]; rfl
      simpa using this
    have e1 : (madeCells z.cells (n * 2)).toList[j]'h1 = z.cells[j % 2]'(by omega) := by
      have hm : j % z.cells.size < z.cells.size := Nat.mod_lt _ (by omega)
      simp only [madeCells, Array.getElem_toList, Array.getElem_map, Array.getElem_range]
      rw [getElem!_pos z.cells (j % z.cells.size) hm]
      simp only [hzs]
    rw [e1]
    have hk : j / 2 < (List.replicate n ((0 : Int), ([] : List UInt8))).length := by simp; omega
    rcases Nat.mod_two_eq_zero_or_one j with h | h
    · have e2 := sF_get0 (List.replicate n ((0 : Int), ([] : List UInt8))) (j / 2) hk
      rw [show j / 2 * 2 = j by omega] at e2
      have e3 : (sF (List.replicate n ((0 : Int), ([] : List UInt8)))).toArray.toList[j]'h2 = .int .i64 0 := by
        have := (List.getElem?_eq_some_iff.1 e2).2
        simpa using this
      rw [e3]
      simp only [h, hg0]
    · have e2 := sF_get1 (List.replicate n ((0 : Int), ([] : List UInt8))) (j / 2) hk
      rw [show j / 2 * 2 + 1 = j by omega] at e2
      have e3 : (sF (List.replicate n ((0 : Int), ([] : List UInt8)))).toArray.toList[j]'h2 = .string (str []) := by
        have := (List.getElem?_eq_some_iff.1 e2).2
        simpa using this
      rw [e3]
      simp only [h, hg1]
      rfl

/-- What Queue tells. -/
def quL (d : Dk) : List (Int × List UInt8) := d.Q.map fun q => ((q.1 : Int), q.2)

section
variable (w : World) (p gs : Nat) (qv : Value) (d : Dk)

set_option maxHeartbeats 1000000 in
set_option maxRecDepth 100000 in
theorem queue_any (h : KAt w p gs qv d) : Calls Try.prog 21 #[.pointer (some ⟨p, 0, none⟩)] w fun e w' => e = .returned (.slice (some ⟨w.heap.size, 0, none⟩) d.Q.length d.Q.length) ∧ SAt w' w.heap.size (quL d) ∧ Fr (fun _ => False) w w' := by
  have c2 := cell_of_heap h.heap 2
  have c0 := cell_of_heap h.heap 0
  simp at c0 c2
  have hroom := h.ok.room
  have hsz := h.ok.size
  have hplt := lt_of_heap h.heap
  have H := hide h
  obtain ⟨qo, qc, rfl⟩ := owns_shape h.queue
  obtain ⟨w1, hmk, hS1, hf1⟩ := mks_any w d.Q.length (by omega)
  have HS1 := hide hS1
  have HF1 := hide hf1
  have c21 : w1.cell? ⟨p, 2, none⟩ = some (.slice qo d.Q.length qc) := (hf1.cell (a := ⟨p, 2, none⟩) hplt id).trans c2
  clear h hS1 hf1
  go_enter Try.func21, Try.ntmps21
  go_wp2_with fail
  clear hmk
  go_loopw [19] (fun x w' => ∃ i : Nat, i ≤ d.Q.length ∧ x = .int .i64 (i : Int) ∧ SAt w' w.heap.size ((quL d).take i ++ List.replicate (d.Q.length - i) (0, [])) ∧ Fr (fun _ => False) w w') (fun x _ => d.Q.length - (intOf x).toNat)
  case atStart => exact ⟨0, by omega, rfl, by simpa using unhide HS1, unhide HF1⟩
  case round =>
    clear HS1 HF1 c21
    obtain ⟨i, hi, rfl, hS, hf⟩ := hrel
    have hK := (unhide H).kept hf id id (fun _ _ h => h)
    have r2 : wr.cell? ⟨p, 2, none⟩ = some (.slice qo d.Q.length qc) := (hf.cell (a := ⟨p, 2, none⟩) hplt id).trans c2
    have r0 : wr.cell? ⟨p, 0, none⟩ = some (.int .i64 (d.size : Int)) := (hf.cell (a := ⟨p, 0, none⟩) hplt id).trans c0
    by_cases hlt : i < d.Q.length
    · obtain ⟨g, cap, hv, hcap, -, y1, rb⟩ := hK.wbytes i hlt
      simp only [Value.slice.injEq] at hv
      obtain ⟨rfl, -, rfl⟩ := hv
      have hql := ((unhide H).ok.wr _ (List.getElem_mem hlt)).1
      have hrd : ∀ n, Rd (wr.drewN n) (.slice (some ⟨g, i * 513 + 1, none⟩) d.size 512) (d.Q[i]).2 := fun n => by
        obtain ⟨b', o', e, -, -, -, hc⟩ := (rb.kept (Fr.ofDrewN (S := fun _ => False) wr n) (fun _ _ h => h)).lits (by rw [pad_length (by rw [hql]; exact hsz.2)]; omega)
        simp only [Option.some.injEq, Addr.mk.injEq] at e
        obtain ⟨rfl, rfl, -⟩ := e
        refine Rd.lit hql hsz.2 (by simp [maxLen]) fun j hj => ?_
        have := hc j (by rw [pad_length (by rw [hql]; exact hsz.2)]; omega)
        rw [this]
        simp [pad, List.getElem_append_left hj]
      have hcv := fun n => conv_rd (P := Try.prog) (hrd n) 36 9 5 Try.underlying36 Try.underlying5 Try.underlying9
      have hSl : ((quL d).take i ++ List.replicate (d.Q.length - i) ((0 : Int), ([] : List UInt8))).length = d.Q.length := by simp [quL]; omega
      obtain ⟨k0, k1⟩ := hS.at i (by rw [hSl]; exact hlt)
      have z0 := frozen_of_heap hS (i * 2)
      have z1 := frozen_of_heap hS (i * 2 + 1)
      have hset : ((quL d).take i ++ List.replicate (d.Q.length - i) ((0 : Int), ([] : List UInt8))).set i (((d.Q[i]).1 : Int), (d.Q[i]).2) = (quL d).take (i + 1) ++ List.replicate (d.Q.length - (i + 1)) (0, []) := by
        have hlq : i < (quL d).length := by simpa [quL] using hlt
        rw [List.set_append_right _ _ (by rw [List.length_take]; omega), List.length_take, Nat.min_eq_left (by omega), Nat.sub_self, show d.Q.length - i = (d.Q.length - (i + 1)) + 1 by omega, List.replicate_succ, List.set_cons_zero, List.take_succ_eq_append_getElem hlq]
        simp [quL]
      have hput := fun n => (hS.kept (Fr.ofDrewN (S := fun _ => False) wr n) id).put i (by rw [hSl]; exact hlt) (((d.Q[i]).1 : Int), (d.Q[i]).2)
      rw [hset] at hput
      have hic : i < qc := by omega
      have HP := hide hput
      have HF := hide hf
      have hd1 : (0 : Int) ≤ (d.size : Int) := by omega
      have hd2 : (d.size : Int) ≤ 512 := by omega
      generalize (((quL d).take i ++ List.replicate (d.Q.length - i) ((0 : Int), ([] : List UInt8)))[i]'(by rw [hSl]; exact hlt)) = old at k0 k1
      generalize d.Q[i] = q at *
      clear hK hS hf rb hrd hput hset hql hSl
      go_wp2_with fail
      refine wp_region_quietTail 17 (by kernel_rfl) (by kernel_rfl) ?_
      simp only [List.take_succ_cons, List.take_zero]
      repeat (go_big_quiet_step (fail))
      refine wpQuiet_nil ?_
      intro _ hw'
      obtain ⟨nq, hw''⟩ := hw'
      subst hw''
      simp only [List.drop_succ_cons, List.drop_zero]
      go_wp2_with fail
      obtain ⟨hP1, hP2⟩ := unhide HP nq
      exact ⟨⟨i + 1, by omega, by go_num, hP1, (unhide HF).trans ((Fr.ofDrewN (S := fun k => k = w.heap.size) wr nq).trans hP2 (fun _ _ h => h)) (fun k hk e => by omega)⟩, by simp [intOf]; omega⟩
    · have hie : i = d.Q.length := by omega
      subst hie
      have HS := hide hS
      have HF := hide hf
      clear hS hf hK
      go_wp2_with fail
      go_ret
      refine ⟨rfl, ?_, unhide HF⟩
      have := unhide HS
      rw [Nat.sub_self, List.replicate_zero, List.append_nil, List.take_of_length_le (by simp [quL])] at this
      exact this
end
end Go.Proofs.Ytdhendcogjhgfaa
