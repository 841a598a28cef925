/-
  The walks of the document's Lose, stable, Flush, Crash, Injured.
-/
import Derived.Test.YtdhendcogjhgfaaR1
namespace Go.Proofs.Ytdhendcogjhgfaa
open Go.RowKit
set_option linter.unusedVariables false

attribute [local go_sem ↓] Go.wp_at_zero Go.wp_at_succ

theorem RAt.putStr {w : World} {p sg hg : Nat} {qv : Value} {d : Dk} (h : RAt w p sg hg qv d) (i : Nat) (hi : i < d.S.length) (l : List UInt8) (hl : l.length = d.size) :
    RAt (w.setCell ⟨sg, i, none⟩ (.string (str l))) p sg hg qv (seD d i (l, (d.S[i]).2)) ∧ Fr (fun k => k = sg) w (w.setCell ⟨sg, i, none⟩ (.string (str l))) := by
  have f : Fr (fun k => k = sg) w (w.setCell ⟨sg, i, none⟩ (.string (str l))) := (Fr.refl (fun k => k = sg) w).setCell (p := ⟨sg, i, none⟩) (fun _ => rfl) _
  obtain ⟨n1, n2, n3, n4⟩ := h.ne
  have hsl := h.ok.sec _ (List.getElem_mem hi)
  refine ⟨⟨?_, ?_, ?_, owns_kept h.queue f (fun b hb e => (n4 b hb).2.1 e), seD_ok h.ok i _ ⟨hl, hsl.2⟩⟩, f⟩
  · rw [f.block p (lt_of_heap h.heap) n1, h.heap]; simp [seD]
  · rw [heap_setCell_same w sg i _ 9 _ h.strs, List.setIfInBounds_toArray]
    show _ = some (Obj.cells (stV (d.S.set i (l, (d.S[i]).2))).toArray 9 (0, 0))
    unfold stV
    rw [List.map_set]
  · rw [f.block hg (lt_of_heap h.hurt) (fun e => n3 e.symm), h.hurt]
    show _ = some (Obj.cells (huV (d.S.set i (l, (d.S[i]).2))).toArray 3 (0, 0))
    have : huV (d.S.set i (l, (d.S[i]).2)) = huV d.S := by
      unfold huV
      rw [List.map_set]
      apply List.ext_getElem
      · simp
      · intro j h1 h2
        rw [List.getElem_set]
        split
        · rename_i e; subst e; simp
        · rfl
    rw [this]

theorem RAt.putHurt {w : World} {p sg hg : Nat} {qv : Value} {d : Dk} (h : RAt w p sg hg qv d) (i : Nat) (hi : i < d.S.length) (c : UInt8) (hc : c.toNat ≤ 2) :
    RAt (w.setCell ⟨hg, i, none⟩ (.int .i64 ((c.toNat : Nat) : Int))) p sg hg qv (seD d i ((d.S[i]).1, c)) ∧ Fr (fun k => k = hg) w (w.setCell ⟨hg, i, none⟩ (.int .i64 ((c.toNat : Nat) : Int))) := by
  have f : Fr (fun k => k = hg) w (w.setCell ⟨hg, i, none⟩ (.int .i64 ((c.toNat : Nat) : Int))) := (Fr.refl (fun k => k = hg) w).setCell (p := ⟨hg, i, none⟩) (fun _ => rfl) _
  obtain ⟨n1, n2, n3, n4⟩ := h.ne
  have hsl := h.ok.sec _ (List.getElem_mem hi)
  refine ⟨⟨?_, ?_, ?_, owns_kept h.queue f (fun b hb e => (n4 b hb).2.2 e), seD_ok h.ok i _ ⟨hsl.1, hc⟩⟩, f⟩
  · rw [f.block p (lt_of_heap h.heap) n2, h.heap]; simp [seD]
  · rw [f.block sg (lt_of_heap h.strs) n3, h.strs]
    show _ = some (Obj.cells (stV (d.S.set i ((d.S[i]).1, c))).toArray 9 (0, 0))
    have : stV (d.S.set i ((d.S[i]).1, c)) = stV d.S := by
      unfold stV
      rw [List.map_set]
      apply List.ext_getElem
      · simp
      · intro j h1 h2
        rw [List.getElem_set]
        split
        · rename_i e; subst e; simp
        · rfl
    rw [this]
  · rw [heap_setCell_same w hg i _ 3 _ h.hurt, List.setIfInBounds_toArray]
    show _ = some (Obj.cells (huV (d.S.set i ((d.S[i]).1, c))).toArray 3 (0, 0))
    unfold huV
    rw [List.map_set]

theorem RAt.putN {w : World} {p sg hg : Nat} {qv : Value} {d : Dk} (h : RAt w p sg hg qv d) (n : Nat) (hn : n ≤ 1000000000) : RAt (w.setCell ⟨p, 4, none⟩ (.int .i64 (n : Int))) p sg hg qv { d with n := n } ∧ Fr (fun k => k = p) w (w.setCell ⟨p, 4, none⟩ (.int .i64 (n : Int))) := by
  have f : Fr (fun k => k = p) w (w.setCell ⟨p, 4, none⟩ (.int .i64 (n : Int))) := (Fr.refl (fun k => k = p) w).setCell (p := ⟨p, 4, none⟩) (fun _ => rfl) _
  obtain ⟨n1, n2, n3, n4⟩ := h.ne
  refine ⟨⟨by rw [heap_setCell_same w p 4 _ 81 _ h.heap]; rfl, ?_, ?_, owns_kept h.queue f (fun b hb e => (n4 b hb).1 e), ⟨h.ok.size, h.ok.len, h.ok.sec, h.ok.wr, h.ok.room, hn, h.ok.lay⟩⟩, f⟩
  · rw [f.block sg (lt_of_heap h.strs) (fun e => n1 e.symm)]; exact h.strs
  · rw [f.block hg (lt_of_heap h.hurt) (fun e => n2 e.symm)]; exact h.hurt

theorem wp_world {P : Program} {C : Code} {Q : Exit → Act → World → Prop} {a : Act} {w : World} (h : ∀ w2, w2 = w → C.wp P Q a w2) : C.wp P Q a w := h w rfl

theorem RAt.empty {w : World} {p sg hg : Nat} {qv : Value} {d : Dk} (h : RAt w p sg hg qv d) : RAt (w.setCell ⟨p, 2, none⟩ (.slice none 0 0)) p sg hg (.slice none 0 0) (emD d) ∧ Fr (fun k => k = p) w (w.setCell ⟨p, 2, none⟩ (.slice none 0 0)) := by
  have f : Fr (fun k => k = p) w (w.setCell ⟨p, 2, none⟩ (.slice none 0 0)) := (Fr.refl (fun k => k = p) w).setCell (p := ⟨p, 2, none⟩) (fun _ => rfl) _
  obtain ⟨n1, n2, n3, n4⟩ := h.ne
  refine ⟨⟨by rw [heap_setCell_same w p 2 _ 81 _ h.heap]; rfl, ?_, ?_, ⟨by simp [emD, quL, sF], .inl ⟨rfl, rfl⟩⟩, ⟨h.ok.size, h.ok.len, h.ok.sec, fun q hq => by simp [emD] at hq, by simp [emD], h.ok.few, h.ok.lay⟩⟩, f⟩
  · rw [f.block sg (lt_of_heap h.strs) (fun e => n1 e.symm)]; exact h.strs
  · rw [f.block hg (lt_of_heap h.hurt) (fun e => n2 e.symm)]; exact h.hurt

section
variable (w : World) (p sg hg : Nat) (qv : Value) (d : Dk)

set_option maxHeartbeats 1000000 in
theorem rlose_any (a : Int) (h : RAt w p sg hg qv d) : Calls Try.prog 46 #[.pointer (some ⟨p, 0, none⟩), .int .i64 a] w fun e w' => e = .returned (.int .i64 (reE d a true)) ∧ RSt w w' p sg hg qv (loD d a) := by
  have HR := hide (rhurt_any w p sg hg qv d a true h)
  unfold loD
  by_cases he : reE d a true = 0
  · rw [he] at HR ⊢
    rw [if_pos rfl]
    obtain ⟨i, rfl, hi, -, -, -⟩ := reE_zero he
    have c1 := cell_of_heap h.heap 1
    simp at c1
    have r2 := h.hrt i hi
    have z2 := frozen_of_heap h.hurt i
    have hlen := h.ok.len
    have hgd : d.S.getD i ([], 0) = d.S[i] := by simp [List.getD, hi]
    rw [Int.toNat_natCast, hgd]
    have hK := h.putHurt i hi 1 (by decide)
    have HK := hide hK
    generalize ((d.S[i]).2.toNat : Int) = old at r2
    clear h hK he hgd
    go_enter Try.func46, Try.ntmps46
    go_wp2_with (go_at_call 59; refine (unhide HR).mono ?_; rintro e w' ⟨rfl, rfl⟩)
    go_ret
    exact ⟨rfl, ⟨⟨qv, (unhide HK).1, fun b hb => .inl hb⟩, (unhide HK).2.mono (fun _ _ e => .inr (.inr (.inl e)))⟩⟩
  · rw [if_neg he]
    have b1 : (reE d a true == 0) = false := by simpa using he
    generalize reE d a true = re at *
    have HK := hide (RSt.same h)
    clear h he
    go_enter Try.func46, Try.ntmps46
    go_wp2_with (go_at_call 59; refine (unhide HR).mono ?_; rintro e w' ⟨rfl, rfl⟩)
    go_ret
    exact ⟨rfl, unhide HK⟩

set_option maxHeartbeats 1000000 in
theorem rstable_any (x : Nat) (l : List UInt8) (hx : x < d.S.length) (hl : l.length = d.size) (hn : d.n < 1000000000) (h : RAt w p sg hg qv d) : Calls Try.prog 61 #[.pointer (some ⟨p, 0, none⟩), .agg #[.int .i64 (x : Int), .string (str l)]] w fun e w' => e = .returned (.tuple #[]) ∧ RAt w' p sg hg qv (seW d (x, l)) ∧ Fr (fun k => k = p ∨ k = sg ∨ k = hg) w w' := by
  have c0 := cell_of_heap h.heap 0
  have c1 := cell_of_heap h.heap 1
  have c4 := cell_of_heap h.heap 4
  have z4 := frozen_of_heap h.heap 4
  simp at c0 c1 c4
  have hlen := h.ok.len
  have hplt := lt_of_heap h.heap
  have hslt := lt_of_heap h.strs
  have hhlt := lt_of_heap h.hurt
  obtain ⟨n1, n2, n3, n4⟩ := h.ne
  have r1 := h.stc x hx
  have z1 := frozen_of_heap h.strs x
  have r2 := h.hrt x hx
  have z2 := frozen_of_heap h.hurt x
  have H := hide h
  have HL := hide hl
  generalize hss : str l = ss at *
  have HSS := hide hss
  generalize str (d.S[x]).1 = so at r1
  generalize (((d.S[x]).2.toNat : Nat) : Int) = ho at r2
  have m1 : ¬ (w.heap.size = p) := by omega
  have m2 : ¬ (w.heap.size = sg) := by omega
  have m3 : ¬ (w.heap.size = hg) := by omega
  clear h hl hss n4
  go_enter Try.func61, Try.ntmps61
  go_wp2_with fail
  refine wp_region_quietTail 9 (by kernel_rfl) (by kernel_rfl) ?_
  simp only [List.take_succ_cons, List.take_zero]
  repeat (go_big_quiet_step (fail))
  refine wpQuiet_nil ?_
  intro _ hw'
  obtain ⟨nq, hw''⟩ := hw'
  subst hw''
  simp only [List.drop_succ_cons, List.drop_zero]
  go_wp2_with fail
  refine wp_world ?_
  intro w1 hw1
  have fa : Fr (fun _ => False) w ((w.alloc (Obj.cells #[.int .i64 (x : Int), .string ss] 55)).drewN nq) := ((Fr.refl (fun _ => False) w).alloc _).drewN nq
  have hK1 := ((unhide H).kept0 fa).putStr x hx l (unhide HL)
  rw [unhide HSS, ← hw1] at hK1
  obtain ⟨hK1, f1⟩ := hK1
  have hb1 : w1.heap[w.heap.size]? = some (.cells #[.int .i64 (x : Int), .string ss] 55 (0, 0)) := by
    rw [f1.block w.heap.size (by simp) m2]
    exact (Fr.ofDrewN (S := fun _ => False) _ nq).block _ (by simp) id |>.trans (heap_alloc_new w _)
  have d1 := cell_of_heap hb1 0
  simp at d1
  have e1 := cell_of_heap hK1.heap 1
  simp [seD] at e1
  have hx2 : x < (seD d x (l, (d.S[x]).2)).S.length := by simpa [seD] using hx
  have e2 := hK1.hrt x hx2
  have y2 := frozen_of_heap hK1.hurt x
  have e4 := cell_of_heap hK1.heap 4
  have y4 := frozen_of_heap hK1.heap 4
  simp [seD] at e4
  have hg1 : (seD d x (l, (d.S[x]).2)).S[x] = (l, (d.S[x]).2) := by simp [seD]
  have hH := fun n => (hK1.kept0 (Fr.ofDrewN w1 n)).putHurt x hx2 0 (by decide)
  rw [hg1] at e2 hH
  have e5 : seD (seD d x (l, (d.S[x]).2)) x ((l, (d.S[x]).2).1, 0) = seD d x (l, 0) := by simp [seD]
  rw [e5] at hH
  have F1 : Hid (Fr (fun k => k = p ∨ k = sg ∨ k = hg) w w1) := hide ((fa.mono (fun _ _ h => h.elim)).trans f1 (fun _ _ e => .inr (.inl e)))
  have HH := hide hH
  generalize (((l, (d.S[x]).2).2.toNat : Nat) : Int) = oh at e2
  have wn : IntKind.i64.wrap ((d.n : Int) + 1) = (d.n : Int) + 1 := by rw [IntKind.wrap_i64]; omega
  clear hw1 hK1 f1 hb1 hx2 hg1 hH fa e5
  refine wp_region_quietTail 7 (by kernel_rfl) (by kernel_rfl) ?_
  simp only [List.take_succ_cons, List.take_zero]
  repeat (go_big_quiet_step (fail))
  refine wpQuiet_nil ?_
  intro _ hw'
  obtain ⟨nr, hw''⟩ := hw'
  subst hw''
  simp only [List.drop_succ_cons, List.drop_zero]
  go_wp2_with fail
  go_end0
  obtain ⟨hK2, f2⟩ := unhide HH nr
  obtain ⟨hK3, f3⟩ := hK2.putN (d.n + 1) (by omega)
  refine ⟨rfl, ?_, ?_⟩
  · have e6 : (((d.n + 1 : Nat) : Int)) = (d.n : Int) + 1 := by omega
    rw [e6] at hK3
    exact hK3
  · have e6 : (((d.n + 1 : Nat) : Int)) = (d.n : Int) + 1 := by omega
    rw [e6] at f3
    exact (((unhide F1).trans (Fr.ofDrewN (S := fun k => k = p ∨ k = sg ∨ k = hg) w1 nr) (fun _ _ h => h)).trans f2 (fun _ _ e => .inr (.inr e))).trans f3 (fun _ _ e => .inl e)
end
end Go.Proofs.Ytdhendcogjhgfaa
