/-
  The walks of the document's Injured, Write, Replace.
-/
import Derived.Test.YtdhendcogjhgfaaR3
namespace Go.Proofs.Ytdhendcogjhgfaa
open Go.RowKit
set_option linter.unusedVariables false

attribute [local go_sem ↓] Go.wp_at_zero Go.wp_at_succ

section
variable (w : World) (p sg hg : Nat) (qv : Value) (d : Dk)

set_option maxHeartbeats 1000000 in
set_option maxRecDepth 100000 in
theorem rinjured_any (h : RAt w p sg hg qv d) : Calls Try.prog 47 #[.pointer (some ⟨p, 0, none⟩)] w fun e w' => (∃ ao c, e = .returned (.slice ao (inI d d.S.length).length c) ∧ w'.ownsRow 0 3 1 (.slice ao (inI d d.S.length).length c) (inI d d.S.length).length (ivs (inI d d.S.length)) ∧ ∀ b, (Value.slice ao (inI d d.S.length).length c).ownBlock = some b → w.heap.size ≤ b) ∧ Fr (fun _ => False) w w' := by
  have c1 := cell_of_heap h.heap 1
  simp at c1
  have hplt := lt_of_heap h.heap
  have hlen := h.ok.len
  have H := hide h
  obtain ⟨inf, hi0, hz0, hz1, hz2⟩ := info_parts Try.info3
  clear h
  go_enter Try.func47, Try.ntmps47
  go_wp2_with fail
  go_loopw [3, 4] (fun hx y w' => ∃ i : Nat, i ≤ d.S.length ∧ y = .int .i64 (i : Int) ∧ (∃ ao N ac, hx = .slice ao N ac ∧ N = (inI d i).length ∧ w'.ownsRow 0 3 1 (.slice ao N ac) N (ivs (inI d i)) ∧ ∀ b, (Value.slice ao N ac).ownBlock = some b → w.heap.size ≤ b) ∧ Fr (fun _ => False) w w') (fun _ y _ => d.S.length - (intOf y).toNat)
  case atStart => exact ⟨0, by omega, rfl, ⟨none, 0, 0, rfl, rfl, owns_nilE _ 3, fun b hb => by simp [Value.ownBlock] at hb⟩, Fr.refl _ _⟩
  case round =>
    obtain ⟨i, hi, rfl, ⟨ao, N, ac, rfl, hN, hO, hnew⟩, hf⟩ := hrel
    by_cases hlt : i < d.S.length
    · have hKr := (unhide H).kept0 hf
      have r2 := hKr.hrt i hlt
      have r1 : wr.cell? ⟨p, 1, none⟩ = some (.slice (some ⟨hg, 0, none⟩) d.S.length d.S.length) := by rw [hf.cell (a := ⟨p, 1, none⟩) hplt id]; exact c1
      have hgd : d.S.getD i ([], 0) = d.S[i] := by simp [List.getD, hlt]
      have hst : inI d (i + 1) = if (d.S[i]).2 = 0 then inI d i else inI d i ++ [i] := by
        show (if (d.S.getD i ([], 0)).2 = 0 then inI d i else inI d i ++ [i]) = _
        simp only [hgd]
      have HST := hide hst
      have hNl : N ≤ i := by rw [hN]; exact inI_len d i
      have HO := hide hO
      have Hf := hide hf
      have HNW := hide hnew
      have HN := hide hN
      generalize d.S[i] = s at *
      clear hO hf hnew hKr hgd hst hN
      by_cases hs : s.2 = 0
      · have e1 : ((s.2.toNat : Nat) : Int) = 0 := by rw [hs]; rfl
        rw [e1] at r2
        have HE := hide (show inI d (i + 1) = inI d i by rw [unhide HST, if_pos hs])
        clear e1 hs HST
        go_wp2_with fail
        go_roundw
        case rel => exact ⟨i + 1, by omega, by go_num, ⟨ao, N, ac, rfl, by rw [unhide HE]; exact unhide HN, by rw [unhide HE]; exact unhide HO, unhide HNW⟩, unhide Hf⟩
        case measure => simp [intOf]; omega
      · have e1 : (((s.2.toNat : Nat) : Int) != 0) = true := by
          simp only [bne_iff_ne, ne_eq]
          intro e
          have e' : s.2.toNat = 0 := by omega
          exact hs (UInt8.toNat_inj.1 e')
        generalize hhv : ((s.2.toNat : Nat) : Int) = hv at *
        have HE := hide (show inI d (i + 1) = inI d i ++ [i] by rw [unhide HST, if_neg hs])
        clear hs hhv HST
        go_wp2_with (at_builtin; refine wpList_app rfl (.tmp 22) (.tmp 24) 37 rfl 3 inf _ 1 8 Try.underlying37 hi0 hz0 hz1 hz2 rfl (by decide) (.slice ao N ac) N _ rfl (.slice (some ⟨wr.heap.size, 0, none⟩) 1 1) rfl 1 [.int .i64 (i : Int)] ((unhide HO).alloc _) (one_cellV wr _ 3) (fun u hu => by simp at hu; subst hu; rfl) (by omega) (by simp only [maxLen]; omega) ?_)
        intro ao4 ac4 w4 o4 g4 p4
        have n4 : ∀ b, (Value.slice ao4 (N + 1) ac4).ownBlock = some b → w.heap.size ≤ b := by
          intro b hb
          rcases p4 with e | ⟨k', e, hk'⟩
          · rw [e] at hb; exact unhide HNW b hb
          · rw [e] at hb; simp at hb; have := (unhide Hf).size; omega
        have hO4 : w4.ownsRow 0 3 1 (.slice ao4 (N + 1) ac4) (N + 1) (ivs (inI d (i + 1))) := by
          rw [unhide HE]
          have e : ivs (inI d i ++ [i]) = ivs (inI d i) ++ [Value.int .i64 (i : Int)] := by simp [ivs]
          rw [e]; exact o4
        have HO4 := hide hO4
        have HN4 := hide n4
        have HF4 := hide (((unhide Hf).alloc _).grown g4 (fun k hk e => by have := unhide HNW k e; omega))
        have HNN := hide (show N + 1 = (inI d (i + 1)).length by rw [unhide HE, List.length_append, ← unhide HN]; rfl)
        clear o4 g4 p4 n4 hO4
        go_wp2_with fail
        go_roundw
        case rel => exact ⟨i + 1, by omega, by go_num, ⟨ao4, N + 1, ac4, rfl, unhide HNN, unhide HO4, unhide HN4⟩, unhide HF4⟩
        case measure => simp [intOf]; omega
    · have r1 : wr.cell? ⟨p, 1, none⟩ = some (.slice (some ⟨hg, 0, none⟩) d.S.length d.S.length) := by rw [hf.cell (a := ⟨p, 1, none⟩) hplt id]; exact c1
      have hie : i = d.S.length := by omega
      subst hie
      have HO := hide hO
      have Hf := hide hf
      have HNW := hide hnew
      subst hN
      clear hO hf hnew
      go_wp2_with fail
      go_ret
      exact ⟨⟨_, _, rfl, unhide HO, unhide HNW⟩, unhide Hf⟩

theorem wrE_zero {d : Dk} {a : Int} {l : List UInt8} (he : wrE d a l = 0) : hasB d a = true ∧ l.length = d.size ∧ d.off = false ∧ d.Q.length < 4096 := by
  unfold wrE at he
  split at he
  · rename_i h1
    split at he
    · rename_i h2
      split at he
      · simp at he
      · rename_i h3
        split at he
        · simp at he
        · exact ⟨h1, h2, by simpa using h3, by omega⟩
    · simp at he
  · simp at he

set_option maxHeartbeats 1000000 in
theorem rwrite_no (a : Int) (l : List UInt8) (h : RAt w p sg hg qv d) (he : wrE d a l ≠ 0) : Calls Try.prog 41 #[.pointer (some ⟨p, 0, none⟩), .int .i64 a, .string (str l)] w fun e w' => e = .returned (.int .i64 (wrE d a l)) ∧ w = w' := by
  have HH := hide (rin_any w p sg hg qv d a h)
  have c2 := cell_of_heap h.heap 2
  have c3 := cell_of_heap h.heap 3
  have c5 := cell_of_heap h.heap 5
  simp at c2 c3 c5
  obtain ⟨qo, qc, rfl⟩ := owns_shape h.queue
  have hss := str_size l
  unfold wrE at he ⊢
  generalize hasB d a = hb at *
  generalize str l = ss at *
  clear h
  rcases hb with _ | _
  · simp only [Bool.false_eq_true, if_false]
    clear he
    go_enter Try.func41, Try.ntmps41
    go_wp2_with (go_at_call 60; refine (unhide HH).mono ?_; rintro e w' ⟨rfl, rfl⟩)
    go_ret
    exact ⟨rfl, rfl⟩
  · simp only [if_true] at he ⊢
    by_cases hs : l.length = d.size
    · rw [if_pos hs] at he ⊢
      rw [hs] at hss
      have b1 : ((ss.size : Int) != (d.size : Int)) = false := by rw [hss]; simp
      generalize d.off = of at *
      rcases of with _ | _
      · simp only [Bool.false_eq_true, if_false] at he ⊢
        have h4 : 4096 ≤ d.Q.length := by
          rcases Nat.lt_or_ge d.Q.length 4096 with h5 | h5
          · rw [if_neg (by omega)] at he; exact absurd rfl he
          · exact h5
        rw [if_pos h4]
        have b2 : decide ((4096 : Int) ≤ (d.Q.length : Int)) = true := by simp; omega
        clear he hs hss
        go_enter Try.func41, Try.ntmps41
        go_wp2_with (go_at_call 60; refine (unhide HH).mono ?_; rintro e w' ⟨rfl, rfl⟩)
        go_ret
        exact ⟨rfl, rfl⟩
      · simp only [if_true]
        clear he hs hss
        go_enter Try.func41, Try.ntmps41
        go_wp2_with (go_at_call 60; refine (unhide HH).mono ?_; rintro e w' ⟨rfl, rfl⟩)
        go_ret
        exact ⟨rfl, rfl⟩
    · rw [if_neg hs]
      have b1 : ((ss.size : Int) != (d.size : Int)) = true := by rw [hss]; simp; omega
      clear he hss hs
      go_enter Try.func41, Try.ntmps41
      go_wp2_with (go_at_call 60; refine (unhide HH).mono ?_; rintro e w' ⟨rfl, rfl⟩)
      go_ret
      exact ⟨rfl, rfl⟩

set_option maxHeartbeats 1000000 in
theorem rwrite_ok (a : Int) (l : List UInt8) (h : RAt w p sg hg qv d) (he : wrE d a l = 0) : Calls Try.prog 41 #[.pointer (some ⟨p, 0, none⟩), .int .i64 a, .string (str l)] w fun e w' => e = .returned (.int .i64 0) ∧ RSt w w' p sg hg qv (wrD d a l) := by
  have HH := hide (rin_any w p sg hg qv d a h)
  have c2 := cell_of_heap h.heap 2
  have c3 := cell_of_heap h.heap 3
  have c5 := cell_of_heap h.heap 5
  simp at c2 c3 c5
  obtain ⟨h1, h2, h3, h4⟩ := wrE_zero he
  rw [h1] at HH
  rw [h3] at c3
  have hss := str_size l
  rw [h2] at hss
  have b1 : (((str l).size : Int) != (d.size : Int)) = false := by rw [hss]; simp
  have b2 : decide ((4096 : Int) ≤ (d.Q.length : Int)) = false := by simp; omega
  obtain ⟨i, rfl, hi⟩ := hasB_iff.1 h1
  obtain ⟨qo, qc, rfl⟩ := owns_shape h.queue
  obtain ⟨inf, zv, hi0, hz0, hz1, hz2, hz3⟩ := info_zero Try.info55 Try.zero55
  have hzs : zv.cells.size = 2 := by rw [← Array.length_toList, hz3]; rfl
  have hplt := lt_of_heap h.heap
  obtain ⟨n1, n2, n3, n4⟩ := h.ne
  have H := hide h
  have N4 := hide n4
  generalize hst : str l = ss at *
  have HST := hide hst
  have ho1 := owns_kept h.queue ((Fr.refl (fun _ => False) w).alloc (.cells #[.int .i64 (i : Int), .string ss] 55)) (fun _ _ h => h)
  have HO1 := hide ho1
  have hsr : Sr (w.alloc (.cells #[.int .i64 (i : Int), .string ss] 55)) 2 (.slice (some ⟨w.heap.size, 0, none⟩) 1 1) 1 [.int .i64 (i : Int), .string ss] := .inr ⟨_, _, rfl, rfl, fun j u hu => by
    rw [Addr.add_lit, Nat.zero_add, cell_of_heap (heap_alloc_new w _)]
    simpa using hu⟩
  have HSR := hide hsr
  clear h he h1 hss hst ho1 hsr hz3 n4
  go_enter Try.func41, Try.ntmps41
  go_wp2_with (first
    | (go_at_call 60; refine (unhide HH).mono ?_; rintro e w' ⟨rfl, rfl⟩)
    | (at_builtin; refine wpList_app rfl (.tmp 36) (.tmp 40) 47 rfl 55 inf zv 2 24 Try.u47 hi0 hz0 hz1 hz2 hzs (by decide) (.slice qo d.Q.length qc) d.Q.length _ rfl (.slice (some ⟨w.heap.size, 0, none⟩) 1 1) rfl 1 [.int .i64 (i : Int), .string ss] (unhide HO1) (unhide HSR) (fun u hu => by simp at hu; rcases hu with rfl | rfl <;> rfl) (by omega) (by simp only [maxLen]; omega) ?_))
  intro ao4 ac4 w4 o4 g4 p4
  have fa : Fr (fun _ => False) w (w.alloc (.cells #[.int .i64 (i : Int), .string ss] 55)) := (Fr.refl _ _).alloc _
  have f4 : Fr (fun k => (Value.slice qo d.Q.length qc).ownBlock = some k) w w4 := (fa.mono (fun _ _ h => h.elim)).grown g4 (fun k _ e => e)
  have hp4 : w4.heap[p]? = _ := (f4.block p hplt (fun e => (unhide N4 p e).1 rfl)).trans (unhide H).heap
  have n4' : ∀ b, (Value.slice ao4 (d.Q.length + 1) ac4).ownBlock = some b → (Value.slice qo d.Q.length qc).ownBlock = some b ∨ w.heap.size ≤ b := by
    intro b hb
    rcases p4 with e | ⟨k', e, hk'⟩
    · rw [e] at hb; exact .inl hb
    · rw [e] at hb; simp at hb hk'; right; omega
  have y2 := cell_of_heap hp4 2
  have z2 := frozen_of_heap hp4 2
  simp at y2
  have HP4 := hide hp4
  have F4 := hide f4
  have O4 := hide o4
  have NN4 := hide n4'
  clear hp4 f4 o4 g4 p4 n4' fa
  go_wp2_with fail
  go_ret
  have e0 : wrD d (i : Int) l = { d with Q := d.Q ++ [(i, l)] } := by unfold wrD; rw [if_pos (by unfold wrE; rw [if_pos (hasB_iff.2 ⟨i, rfl, hi⟩), if_pos h2, h3, if_neg (by decide), if_neg (by omega)]), Int.toNat_natCast]
  rw [e0]
  have fs : Fr (fun k => k = p) w4 (w4.setCell ⟨p, 2, none⟩ (.slice ao4 (d.Q.length + 1) ac4)) := (Fr.refl (fun k => k = p) w4).setCell (p := ⟨p, 2, none⟩) (fun _ => rfl) _
  have hok := (unhide H).ok
  have hs4 : w4.heap[sg]? = _ := ((unhide F4).block sg (lt_of_heap (unhide H).strs) (fun e => (unhide N4 sg e).2.1 rfl)).trans (unhide H).strs
  have hh4 : w4.heap[hg]? = _ := ((unhide F4).block hg (lt_of_heap (unhide H).hurt) (fun e => (unhide N4 hg e).2.2 rfl)).trans (unhide H).hurt
  refine ⟨rfl, ⟨⟨.slice ao4 (d.Q.length + 1) ac4, ⟨?_, ?_, ?_, ?_, ?_⟩, unhide NN4⟩, ((unhide F4).mono (fun _ _ e => .inr (.inr (.inr e)))).trans fs (fun _ _ e => .inl e)⟩⟩
  · rw [heap_setCell_same w4 p 2 _ 81 _ (unhide HP4)]; rfl
  · rw [fs.block sg (lt_of_heap hs4) (fun e => n1 e.symm), hs4]
  · rw [fs.block hg (lt_of_heap hh4) (fun e => n2 e.symm), hh4]
  · have e1 : sF (quL { d with Q := d.Q ++ [(i, l)] }) = sF (quL d) ++ [.int .i64 (i : Int), .string ss] := by
      unfold sF quL
      rw [List.map_append, List.map_append, List.flatten_append, ← unhide HST]
      rfl
    have e2 : (d.Q ++ [(i, l)]).length = d.Q.length + 1 := by simp
    show (w4.setCell _ _).ownsRow 0 55 2 _ (d.Q ++ [(i, l)]).length (sF (quL { d with Q := d.Q ++ [(i, l)] }))
    rw [e1, e2]
    exact owns_kept (unhide O4) fs (fun b hb e => by subst e; rcases unhide NN4 _ hb with e | e; exact (unhide N4 _ e).1 rfl; omega)
  · refine ⟨hok.size, hok.len, hok.sec, fun q hq => ?_, by simp; omega, hok.few, hok.lay⟩
    rcases List.mem_append.1 hq with hq | hq
    · exact hok.wr q hq
    · simp at hq; subst hq; exact ⟨h2, hi⟩

/-- The first i sectors replaced. -/
def rpI (d : Dk) (i : Nat) : Dk := { d with S := List.replicate i (List.replicate d.size 0, 0) ++ d.S.drop i, Q := [], off := false }

theorem rp_step (d : Dk) (i : Nat) (hlt : i < d.S.length) (x : UInt8) : seD (seD (rpI d i) i (List.replicate d.size 0, x)) i (List.replicate d.size 0, 0) = rpI d (i + 1) := by
  unfold seD rpI
  simp only [List.set_set]
  congr 1
  rw [List.set_append_right _ _ (by simp), List.length_replicate, Nat.sub_self, List.drop_eq_getElem_cons hlt, List.set_cons_zero, List.replicate_succ']
  simp

set_option maxHeartbeats 1000000 in
theorem rreplace_any (h : RAt w p sg hg qv d) : Calls Try.prog 45 #[.pointer (some ⟨p, 0, none⟩)] w fun e w' => e = .returned (.tuple #[]) ∧ RSt w w' p sg hg qv (rpD d) := by
  have c0 := cell_of_heap h.heap 0
  have c1 := cell_of_heap h.heap 1
  have c2 := cell_of_heap h.heap 2
  have c3 := cell_of_heap h.heap 3
  have c5 := cell_of_heap h.heap 5
  have z2 := frozen_of_heap h.heap 2
  have z3 := frozen_of_heap h.heap 3
  simp at c0 c1 c2 c3 c5
  obtain ⟨n1, n2, n3, n4⟩ := h.ne
  have hsz := h.ok.size
  have hlen := h.ok.len
  have h1 := heap_setCell_same w p 3 _ 81 (.bool false) h.heap
  have h2 := heap_setCell_same _ p 2 _ 81 (.slice none 0 0) h1
  have f : Fr (fun k => k = p) w ((w.setCell ⟨p, 3, none⟩ (.bool false)).setCell ⟨p, 2, none⟩ (.slice none 0 0)) := ((Fr.refl (fun k => k = p) w).setCell (p := ⟨p, 3, none⟩) (fun _ => rfl) _).setCell (p := ⟨p, 2, none⟩) (fun _ => rfl) _
  have hK : RAt ((w.setCell ⟨p, 3, none⟩ (.bool false)).setCell ⟨p, 2, none⟩ (.slice none 0 0)) p sg hg (.slice none 0 0) (rpI d 0) := by
    refine ⟨by rw [h2]; simp [rpI], ?_, ?_, ⟨by simp [rpI, quL, sF], .inl ⟨rfl, rfl⟩⟩, ⟨h.ok.size, by simpa [rpI] using h.ok.len, by simpa [rpI] using h.ok.sec, fun q hq => by simp [rpI] at hq, by simp [rpI], h.ok.few, by simpa [rpI] using h.ok.lay⟩⟩
    · rw [f.block sg (lt_of_heap h.strs) (fun e => n1 e.symm), h.strs]; simp [rpI]
    · rw [f.block hg (lt_of_heap h.hurt) (fun e => n2 e.symm), h.hurt]; simp [rpI]
  have HK := hide hK
  have HF := hide f
  clear h h1 h2 hK f n4
  go_enter Try.func45, Try.ntmps45
  go_wp2_with fail
  refine (rzeros_any _ d.size (by omega)).mono ?_
  rintro e w1 ⟨rfl, f1⟩
  have HK1 := hide ((unhide HK).kept0 f1)
  have HF1 := hide ((unhide HF).trans f1 (fun _ _ h => h.elim))
  generalize hzz : str (List.replicate d.size 0) = zz
  have HZ := hide hzz
  clear f1 hzz HK HF
  go_wp2_with fail
  go_loopw [3] (fun x w' => ∃ i : Nat, i ≤ d.S.length ∧ x = .int .i64 (i : Int) ∧ RAt w' p sg hg (.slice none 0 0) (rpI d i) ∧ Fr (fun k => k = p ∨ k = sg ∨ k = hg) w w') (fun x _ => d.S.length - (intOf x).toNat)
  case atStart => exact ⟨0, by omega, rfl, unhide HK1, (unhide HF1).mono (fun _ _ e => .inl e)⟩
  case round =>
    clear HK1 HF1
    obtain ⟨i, hi, rfl, hR, hf⟩ := hrel
    have hSl : (rpI d i).S.length = d.S.length := by simp [rpI]; omega
    have r0 := cell_of_heap hR.heap 0
    have r1 := cell_of_heap hR.heap 1
    simp [hSl] at r0 r1
    by_cases hlt : i < d.S.length
    · have hi2 : i < (rpI d i).S.length := by omega
      have s0 := hR.stc i hi2
      have s1 := hR.hrt i hi2
      have y0 := frozen_of_heap hR.strs i
      have y1 := frozen_of_heap hR.hurt i
      obtain ⟨hP1, g1⟩ := hR.putStr i hi2 (List.replicate d.size 0) (by simp [rpI])
      have hi3 : i < (seD (rpI d i) i (List.replicate d.size 0, ((rpI d i).S[i]).2)).S.length := by simp [seD]; omega
      obtain ⟨hP2, g2⟩ := hP1.putHurt i hi3 0 (by decide)
      have e1 : seD (seD (rpI d i) i (List.replicate d.size 0, ((rpI d i).S[i]).2)) i (((seD (rpI d i) i (List.replicate d.size 0, ((rpI d i).S[i]).2)).S[i]'hi3).1, 0) = rpI d (i + 1) := by
        have hfst : ((seD (rpI d i) i (List.replicate d.size 0, ((rpI d i).S[i]).2)).S[i]'hi3).1 = List.replicate d.size 0 := by simp [seD]
        rw [hfst]
        exact rp_step d i hlt _
      rw [e1, unhide HZ] at hP2
      rw [unhide HZ] at g1 g2
      have HP := hide hP2
      have HF := hide ((hf.trans g1 (fun _ _ e => .inr (.inl e))).trans g2 (fun _ _ e => .inr (.inr e)))
      generalize str ((rpI d i).S[i]).1 = os at s0
      generalize ((((rpI d i).S[i]).2.toNat : Nat) : Int) = oh at s1
      have m1 : ¬ (sg = hg) := n3
      have m2 : ¬ (hg = sg) := fun e => n3 e.symm
      have m3 : ¬ (sg = p) := fun e => n1 e.symm
      have m4 : ¬ (hg = p) := fun e => n2 e.symm
      clear hR hf hP1 g1 hP2 g2 e1 hi2 hi3 hSl
      go_wp2_with fail
      go_roundw
      case rel => exact ⟨i + 1, by omega, by go_num, unhide HP, unhide HF⟩
      case measure => simp [intOf]; omega
    · have hie : i = d.S.length := by omega
      subst hie
      have e1 : rpI d d.S.length = rpD d := by
        unfold rpI rpD
        rw [List.drop_of_length_le (Nat.le_refl _), List.append_nil]
      rw [e1] at hR
      have HR := hide hR
      have HF := hide hf
      clear hR hf e1 hSl
      go_wp2_with fail
      go_end0
      exact ⟨rfl, ⟨⟨_, unhide HR, fun b hb => by simp [Value.ownBlock] at hb⟩, (unhide HF).mono (fun _ _ e => by rcases e with e | e | e; exact .inl e; exact .inr (.inl e); exact .inr (.inr (.inl e)))⟩⟩
end
end Go.Proofs.Ytdhendcogjhgfaa
