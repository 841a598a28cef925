/-
  The walk of package disk's Copy.
-/
import Derived.Test.YtdhendcogjhgfaaD19
import Derived.Lib.SliceRun
namespace Go.Proofs.Ytdhendcogjhgfaa
open Go.RowKit
set_option linter.unusedVariables false

attribute [local go_sem ↓] Go.wp_at_zero Go.wp_at_succ

theorem owns_newE (w : World) (e size : Nat) : (w.alloc (.cells #[] e)).ownsRow 0 e size (.slice (some ⟨w.heap.size, 0, none⟩) 0 0) 0 [] :=
  ⟨by simp, .inr ⟨w.heap.size, 0, #[], rfl, Nat.zero_le _, heap_alloc_new w _, Nat.le_refl _, by simp [maxLen], by simp, by simp⟩⟩

theorem sr_of_owns {w : World} {e size n : Nat} {v : Value} {xs : List Value} (h : w.ownsRow 0 e size v n xs) : Sr w size v n xs := by
  have h1 := h.1
  rcases h.2 with ⟨rfl, rfl⟩ | ⟨g, cap, cur, rfl, hb, hg, hnc, hcm, hcs, htake⟩
  · exact .inl ⟨rfl, rfl, List.eq_nil_of_length_eq_zero (by omega)⟩
  · refine .inr ⟨_, _, rfl, h1, fun j u hu => ?_⟩
    rw [Addr.add_lit, Nat.zero_add, owns_cells h j (List.getElem?_eq_some_iff.1 hu).1]
    exact hu

/-- A slice that was copied: where it lies. -/
def Cl (N : Nat) (w : World) (e n : Nat) (v : Value) (xs : List Value) : Prop := w.ownsRow 0 e 513 v n xs ∧ ∀ k, v.ownBlock = some k → N ≤ k

set_option maxHeartbeats 1000000 in
set_option maxRecDepth 100000 in
theorem clone_sec (w : World) (v : Value) (n : Nat) (xs : List Value) (h : w.ownsRow 0 92 513 v n xs) (hx : ∀ u ∈ xs, u.oneCell' = true) (hn : n ≤ 1000000) : Calls Try.prog 51 #[v] w fun e w' => ∃ ao c, e = .returned (.slice ao n c) ∧ Cl w.heap.size w' 92 n (.slice ao n c) xs ∧ Fr (fun _ => False) w w' := by
  obtain ⟨ao, c, rfl⟩ := owns_shape h
  obtain ⟨inf, zv, hi0, hz0, hz1, hz2, hz3⟩ := info_zero Try.size92 Try.zero92
  have hzs : zv.cells.size = 513 := by rw [← Array.length_toList, hz3, List.length_replicate]
  have hsr := sr_of_owns h
  have q5 : ∀ (w : World) (a : Option Addr) (n c n' c' : Nat), (binOp .eql 75 (.slice a n c) (.slice none n' c')).run Try.prog w = .ok (.bool a.isNone) w := fun w a n c n' c' => Lib.run_eql_slice_nil w 75 92 a n c n' c' Try.underlying75
  cases ao with
  | none =>
    have hn0 : n = 0 ∧ c = 0 := by
      rcases h.2 with ⟨hv, -⟩ | ⟨g, cap, cur, hv, -⟩
      · simpa using hv
      · simp at hv
    obtain ⟨rfl, rfl⟩ := hn0
    have H := hide h
    clear h hsr hz3
    go_enter Try.func51, Try.ntmps51
    go_wp2_with fail
    go_ret
    exact ⟨_, _, rfl, ⟨unhide H, fun k hk => by simp [Value.ownBlock] at hk⟩, Fr.refl _ _⟩
  | some ad =>
    have hsr' : ∀ W, Fr (fun _ => False) w W → Sr W 513 (.slice (some ad) n c) n xs := fun W f => by
      rcases hsr with ⟨hv, -⟩ | ⟨ad', c', hv, hl, hc⟩
      · simp at hv
      · refine .inr ⟨ad', c', hv, hl, fun j u hu => ?_⟩
        have := hc j u hu
        rw [f.cell (World.block_lt_of_cell? w _ this) id]
        exact this
    have HS := hide (hsr' _ ((Fr.refl _ w).alloc (.cells #[] 92)))
    have HO := hide (owns_newE w 92 513)
    clear h hsr hsr' hz3
    go_enter Try.func51, Try.ntmps51
    go_wp2_with (refine wpList_app rfl (.tmp 5) (.tmp 6) 75 rfl 92 inf zv 513 513 Try.underlying75 hi0 hz0 hz1 hz2 hzs (by decide) (.slice (some ⟨w.heap.size, 0, none⟩) 0 0) 0 [] rfl (.slice (some ad) n c) rfl n xs (unhide HO) (unhide HS) hx (by omega) (by simp only [maxLen]; omega) ?_)
    intro ao4 ac4 w4 o4 g4 n4
    have HR : Hid (Cl w.heap.size w4 92 n (.slice ao4 n ac4) xs) := hide ⟨o4, fun k hk => by
      rcases n4 with e | ⟨k', e, hk'⟩
      · rw [e] at hk
        simp [Value.ownBlock] at hk
        omega
      · rw [e] at hk
        simp at hk hk'
        omega⟩
    have HF : Hid (Fr (fun _ => False) w w4) := hide (((Fr.refl (fun _ => False) w).alloc (.cells #[] 92)).grown g4 (fun k hk e => by simp [Value.ownBlock] at e; omega))
    clear o4 g4 n4
    go_wp2_with fail
    go_ret
    exact ⟨_, _, rfl, unhide HR, unhide HF⟩
set_option maxHeartbeats 1000000 in
set_option maxRecDepth 100000 in
theorem clone_wr (w : World) (v : Value) (n : Nat) (xs : List Value) (h : w.ownsRow 0 95 513 v n xs) (hx : ∀ u ∈ xs, u.oneCell' = true) (hn : n ≤ 1000000) : Calls Try.prog 52 #[v] w fun e w' => ∃ ao c, e = .returned (.slice ao n c) ∧ Cl w.heap.size w' 95 n (.slice ao n c) xs ∧ Fr (fun _ => False) w w' := by
  obtain ⟨ao, c, rfl⟩ := owns_shape h
  obtain ⟨inf, zv, hi0, hz0, hz1, hz2, hz3⟩ := info_zero Try.size95 Try.zero95
  have hzs : zv.cells.size = 513 := by rw [← Array.length_toList, hz3, List.length_cons, List.length_replicate]
  have hsr := sr_of_owns h
  have q5 : ∀ (w : World) (a : Option Addr) (n c n' c' : Nat), (binOp .eql 76 (.slice a n c) (.slice none n' c')).run Try.prog w = .ok (.bool a.isNone) w := fun w a n c n' c' => Lib.run_eql_slice_nil w 76 95 a n c n' c' Try.u76
  cases ao with
  | none =>
    have hn0 : n = 0 ∧ c = 0 := by
      rcases h.2 with ⟨hv, -⟩ | ⟨g, cap, cur, hv, -⟩
      · simpa using hv
      · simp at hv
    obtain ⟨rfl, rfl⟩ := hn0
    have H := hide h
    clear h hsr hz3
    go_enter Try.func52, Try.ntmps52
    go_wp2_with fail
    go_ret
    exact ⟨_, _, rfl, ⟨unhide H, fun k hk => by simp [Value.ownBlock] at hk⟩, Fr.refl _ _⟩
  | some ad =>
    have hsr' : ∀ W, Fr (fun _ => False) w W → Sr W 513 (.slice (some ad) n c) n xs := fun W f => by
      rcases hsr with ⟨hv, -⟩ | ⟨ad', c', hv, hl, hc⟩
      · simp at hv
      · refine .inr ⟨ad', c', hv, hl, fun j u hu => ?_⟩
        have := hc j u hu
        rw [f.cell (World.block_lt_of_cell? w _ this) id]
        exact this
    have HS := hide (hsr' _ ((Fr.refl _ w).alloc (.cells #[] 95)))
    have HO := hide (owns_newE w 95 513)
    clear h hsr hsr' hz3
    go_enter Try.func52, Try.ntmps52
    go_wp2_with (refine wpList_app rfl (.tmp 5) (.tmp 6) 76 rfl 95 inf zv 513 520 Try.u76 hi0 hz0 hz1 hz2 hzs (by decide) (.slice (some ⟨w.heap.size, 0, none⟩) 0 0) 0 [] rfl (.slice (some ad) n c) rfl n xs (unhide HO) (unhide HS) hx (by omega) (by simp only [maxLen]; omega) ?_)
    intro ao4 ac4 w4 o4 g4 n4
    have HR : Hid (Cl w.heap.size w4 95 n (.slice ao4 n ac4) xs) := hide ⟨o4, fun k hk => by
      rcases n4 with e | ⟨k', e, hk'⟩
      · rw [e] at hk
        simp [Value.ownBlock] at hk
        omega
      · rw [e] at hk
        simp at hk hk'
        omega⟩
    have HF : Hid (Fr (fun _ => False) w w4) := hide (((Fr.refl (fun _ => False) w).alloc (.cells #[] 95)).grown g4 (fun k hk e => by simp [Value.ownBlock] at e; omega))
    clear o4 g4 n4
    go_wp2_with fail
    go_ret
    exact ⟨_, _, rfl, unhide HR, unhide HF⟩

theorem secF_one {d : Dk} : ∀ u ∈ secF d.S, u.oneCell' = true := by
  intro u hu
  unfold secF at hu
  rw [List.mem_flatten] at hu
  obtain ⟨c, hc, hu⟩ := hu
  obtain ⟨s, -, rfl⟩ := List.mem_map.1 hc
  unfold secC at hu
  rcases List.mem_append.1 hu with hu | hu
  · exact bvs_one _ u hu
  · simp at hu; subst hu; rfl
theorem wrF_one {d : Dk} : ∀ u ∈ wrF d.Q, u.oneCell' = true := by
  intro u hu
  unfold wrF at hu
  rw [List.mem_flatten] at hu
  obtain ⟨c, hc, hu⟩ := hu
  obtain ⟨s, -, rfl⟩ := List.mem_map.1 hc
  unfold wrC at hu
  rcases List.mem_cons.1 hu with rfl | hu
  · rfl
  · exact bvs_one _ u hu

/-- The sectors' slice is owned. -/
theorem KAt.sown {w : World} {p gs : Nat} {qv : Value} {d : Dk} (h : KAt w p gs qv d) : w.ownsRow 0 92 513 (.slice (some ⟨gs, 0, none⟩) d.S.length d.cap) d.S.length (secF d.S) := by
  have hl := h.ok.lay
  have hs := secF_len h.ok
  refine ⟨hs, .inr ⟨gs, d.cap, _, rfl, Nat.zero_le _, h.secs, hl.1, hl.2.1, ?_, ?_⟩⟩
  · rw [List.size_toArray, List.length_append, hs, hl.2.2, ← Nat.add_mul]
    congr 1
    omega
  · rw [List.take_append_of_le_length (by omega), List.take_of_length_le (by omega)]

/-- What a disk is, but for where its sectors lie. -/
def core (d : Dk) : Dk := { d with cap := 0, rest := [] }

section
variable (w : World) (p gs : Nat) (qv : Value) (d : Dk)

set_option maxHeartbeats 1000000 in
set_option maxRecDepth 100000 in
theorem copy_any (h : KAt w p gs qv d) : Calls Try.prog 22 #[.pointer (some ⟨p, 0, none⟩)] w fun e w' => (∃ p2 g2 q2 d2, e = .returned (.pointer (some ⟨p2, 0, none⟩)) ∧ core d2 = core d ∧ KAt w' p2 g2 q2 d2 ∧ w.heap.size ≤ p2 ∧ w.heap.size ≤ g2 ∧ ∀ b, q2.ownBlock = some b → w.heap.size ≤ b) ∧ Fr (fun _ => False) w w' := by
  have c0 := cell_of_heap h.heap 0
  have c1 := cell_of_heap h.heap 1
  have c2 := cell_of_heap h.heap 2
  have c3 := cell_of_heap h.heap 3
  have c4 := cell_of_heap h.heap 4
  simp at c0 c1 c2 c3 c4
  have hplt := lt_of_heap h.heap
  have hlen := h.ok.len
  have hroom := h.ok.room
  have H := hide h
  obtain ⟨qo, qc, rfl⟩ := owns_shape h.queue
  clear h
  go_enter Try.func22, Try.ntmps22
  go_wp2_with fail
  have f01 : Fr (fun _ => False) w (w.alloc (Obj.cells #[.int .i64 (d.size : Int), .slice (some ⟨gs, 0, none⟩) d.S.length d.cap, .slice qo d.Q.length qc, .bool d.off, .int .i64 (d.n : Int)] 78)) := (Fr.refl _ _).alloc _
  have hp1 : (w.alloc (Obj.cells #[.int .i64 (d.size : Int), .slice (some ⟨gs, 0, none⟩) d.S.length d.cap, .slice qo d.Q.length qc, .bool d.off, .int .i64 (d.n : Int)] 78)).heap[w.heap.size]? = some (.cells #[.int .i64 (d.size : Int), .slice (some ⟨gs, 0, none⟩) d.S.length d.cap, .slice qo d.Q.length qc, .bool d.off, .int .i64 (d.n : Int)] 78 (0, 0)) := heap_alloc_new w _
  have hK1 := (unhide H).kept f01 id id (fun _ _ h => h)
  refine (clone_sec _ _ _ _ hK1.sown secF_one (by omega)).mono ?_
  rintro e w2 ⟨ao2, cc2, rfl, ⟨ho2, hn2⟩, f12⟩
  have hp2 : w2.heap[w.heap.size]? = _ := (f12.block w.heap.size (lt_of_heap hp1) id).trans hp1
  have x1 := cell_of_heap hp2 1
  have z1 := frozen_of_heap hp2 1
  simp at x1
  have f02 := f01.trans f12 (fun _ _ h => h)
  obtain ⟨w3, hw3⟩ : ∃ w3, w3 = w2.setCell ⟨w.heap.size, 1, none⟩ (.slice ao2 d.S.length cc2) := ⟨_, rfl⟩
  have f23 : Fr (fun k => k = w.heap.size) w2 w3 := by rw [hw3]; exact (Fr.refl (fun k => k = w.heap.size) w2).setCell (p := ⟨w.heap.size, 1, none⟩) (fun _ => rfl) _
  have hp3 : w3.heap[w.heap.size]? = some (.cells #[.int .i64 (d.size : Int), .slice ao2 d.S.length cc2, .slice qo d.Q.length qc, .bool d.off, .int .i64 (d.n : Int)] 78 (0, 0)) := by
    rw [hw3, heap_setCell_same w2 w.heap.size 1 _ 78 _ hp2]; rfl
  have f03 : Fr (fun _ => False) w w3 := f02.trans f23 (fun k hk e => by omega)
  have hK3 := (unhide H).kept f03 id id (fun _ _ h => h)
  have y2 := cell_of_heap hK3.heap 2
  simp at y2
  have x2 := cell_of_heap hp3 2
  have z2 := frozen_of_heap hp3 2
  simp at x2
  have hs1 : w.heap.size + 1 ≤ w2.heap.size := by have := lt_of_heap hp2; omega
  have ho3 : w3.ownsRow 0 92 513 (.slice ao2 d.S.length cc2) d.S.length (secF d.S) := owns_kept ho2 f23 (fun b hb e => by
    have := hn2 b hb
    simp at this
    omega)
  have y22 : w2.cell? ⟨p, 2, none⟩ = some (.slice qo d.Q.length qc) := (f02.cell (a := ⟨p, 2, none⟩) hplt id).trans c2
  have hpn : ¬ (w.heap.size = p) := by omega
  have hpn' : ¬ (p = w.heap.size) := by omega
  have HO3 := hide ho3
  have HN2 := hide hn2
  have HP3 := hide hp3
  have HF3 := hide f03
  have HK3 := hide hK3
  clear f01 hp1 hK1 ho2 hn2 f12 f02 f23 f03 hK3 ho3 hp2
  go_wp2_with fail
  rw [← hw3]
  clear hw3 x1 z1
  refine (clone_wr _ _ _ _ (unhide HK3).queue wrF_one (by omega)).mono ?_
  rintro e w4 ⟨ao4, cc4, rfl, ⟨ho4, hn4⟩, f34⟩
  have hp4 : w4.heap[w.heap.size]? = _ := (f34.block w.heap.size (lt_of_heap (unhide HP3)) id).trans (unhide HP3)
  have x2' := cell_of_heap hp4 2
  have z2' := frozen_of_heap hp4 2
  simp at x2'
  have HP4 := hide hp4
  have HO4 := hide ho4
  have HN4 := hide hn4
  have HF4 := hide f34
  clear hp4 ho4 hn4 f34 x2 z2 y2
  go_wp2_with fail
  go_ret
  have hp4 := unhide HP4
  have hs3 : w.heap.size < w3.heap.size := lt_of_heap (unhide HP3)
  have f45 : Fr (fun k => k = w.heap.size) w4 (w4.setCell ⟨w.heap.size, 2, none⟩ (.slice ao4 d.Q.length cc4)) := (Fr.refl (fun k => k = w.heap.size) w4).setCell (p := ⟨w.heap.size, 2, none⟩) (fun _ => rfl) _
  have hp5 := heap_setCell_same w4 w.heap.size 2 _ 78 (.slice ao4 d.Q.length cc4) hp4
  have ho4' := owns_kept (unhide HO3) (unhide HF4) (fun _ _ h => h)
  have hq4 : ∀ b, (Value.slice ao4 d.Q.length cc4).ownBlock = some b → b ≠ w.heap.size := fun b hb e => by
    have := unhide HN4 b hb
    omega
  obtain ⟨g2, cap2, cur2, hv2, -, hg2, hc2, hm2, hcs2, htk2⟩ := (ho4'.2).resolve_left (fun h => by have := h.2; omega)
  simp only [Value.slice.injEq] at hv2
  obtain ⟨rfl, -, rfl⟩ := hv2
  have hg2n : g2 ≠ w.heap.size := fun e => by
    have := unhide HN2 g2 rfl
    simp at this
    omega
  have hF : Fr (fun _ => False) w (w4.setCell ⟨w.heap.size, 2, none⟩ (.slice ao4 d.Q.length cc4)) := ((unhide HF3).trans (unhide HF4) (fun _ _ h => h)).trans f45 (fun k hk e => by omega)
  have hok := (unhide H).ok
  refine ⟨⟨w.heap.size, g2, .slice ao4 d.Q.length cc4, { d with cap := cc2, rest := cur2.toList.drop (d.S.length * 513) }, rfl, rfl, ⟨?_, ?_, ?_, ⟨hok.size, hok.len, hok.sec, hok.wr, hok.room, hok.few, hc2, hm2, ?_⟩⟩, Nat.le_refl _, ?_, fun b hb => ?_⟩, hF⟩
  · rw [hp5]; rfl
  · rw [f45.block g2 (lt_of_heap hg2) hg2n, hg2]
    show _ = some (Obj.cells (secF d.S ++ cur2.toList.drop (d.S.length * 513)).toArray 92 (0, 0))
    rw [← htk2, List.take_append_drop]
  · exact owns_kept (unhide HO4) f45 hq4
  · rw [List.length_drop, Array.length_toList, hcs2, Nat.sub_mul]
  · have := unhide HN2 g2 rfl
    simp at this
    omega
  · have := unhide HN4 b hb
    omega
end
end Go.Proofs.Ytdhendcogjhgfaa
