/-
  The cache's use, forget, take.
-/
import Derived.Test.YtdgmlopaeonacaaA8
namespace Go.Proofs.Ytdgmlopaeonacaa
open Go.RowKit
set_option linter.unusedVariables false

attribute [local go_sem ↓] Go.wp_at_zero Go.wp_at_succ

theorem perm_erase {α : Type} {x : α} : ∀ (l : List α) (j : Nat), l[j]? = some x → (x :: l.eraseIdx j).Perm l
  | [], _, h => by simp at h
  | y :: l, 0, h => by simp at h; subst h; exact List.Perm.refl _
  | y :: l, j + 1, h => by
    have := perm_erase l j (by simpa using h)
    exact (List.Perm.swap y x _).trans (this.cons y)

section
variable (w : World) (p h r u : Nat) (L : List (Int × Nat)) (R : List (Nat × Pl)) (c : Ca)

theorem mid_not {u : Nat} {R1 R2 : List (Nat × Pl)} {q : Nat × Pl} (h : (u :: adr (R1 ++ q :: R2)).Nodup) : q.1 ∉ u :: adr (R1 ++ R2) := by
  have e : (u :: adr (R1 ++ q :: R2)).Perm (q.1 :: u :: adr (R1 ++ R2)) := by
    have := List.perm_middle (a := q.1) (l₁ := u :: adr R1) (l₂ := adr R2)
    simpa [adr] using this
  exact (List.nodup_cons.1 ((e.nodup_iff).1 h)).1

set_option maxRecDepth 100000 in
theorem use_any (R1 R2 : List (Nat × Pl)) (q : Nat × Pl) (H : KAt w p h r u L (R1 ++ q :: R2) c) : Calls Try.prog 48 #[ptr p, ptr q.1] w fun e w' => e = .returned (.tuple #[]) ∧ KAt w' p h r u L (R1 ++ R2 ++ [q]) c ∧ Fr (fun k => k ∈ u :: adr (R1 ++ q :: R2)) w w' := by
  have HU := hide (ring_unlink w u R1 R2 q H.ring)
  have hq := mid_not H.ring.nd
  have HQ := hide hq
  have HK := hide H
  clear H hq
  obtain ⟨qa, qx⟩ := q
  dsimp only at HU HQ HK ⊢
  unfold ptr
  go_enter Try.func48, Try.ntmps48
  go_wp2_with fail
  refine (unhide HU).mono ?_
  rintro e w1 ⟨rfl, h1, h2, f1⟩
  have hp : ∀ k, k ∈ u :: adr (R1 ++ (qa, qx) :: R2) → ¬ k = p := fun k hk e => by
    have := (unhide HK).ring.knd hk
    rw [e, knd_cells (unhide HK).heap] at this
    exact absurd this (by decide)
  have hh1 := (f1.block p (lt_of_heap (unhide HK).heap) (fun e => hp _ e rfl)).trans (unhide HK).heap
  have c3 := cell_of_heap hh1 3
  simp at c3
  unfold ptr at c3
  have HL := hide (ring_link w1 u (R1 ++ R2) qa qx _ _ h1 h2 (unhide HQ))
  have F1 := hide f1
  clear h1 h2 f1 hh1 HU
  go_wp2_with fail
  refine (unhide HL).mono ?_
  rintro e w2 ⟨rfl, h3, f2⟩
  have hF : Fr (fun k => k ∈ u :: adr (R1 ++ (qa, qx) :: R2)) w w2 := (unhide F1).trans f2 (fun k _ hk => by
    rcases hk with rfl | hk
    · simp [adr]
    · simp [adr] at hk ⊢
      rcases hk with h | h | h
      · exact .inl h
      · exact .inr (.inl h)
      · exact .inr (.inr (.inr h)))
  have hK2 : KAt w2 p h r u L (R1 ++ R2 ++ [(qa, qx)]) c := by
    have H := unhide HK
    refine ⟨(hF.block p (lt_of_heap H.heap) (fun e => hp _ e rfl)).trans H.heap, h3, H.mp.kept hF (fun e => ?_), H.pm.trans ?_, fun x hx => H.ok x ?_, H.num⟩
    · have := H.ring.knd e
      rw [H.mp.knd] at this
      exact absurd this (by decide)
    · refine List.Perm.map _ ?_
      have : (R1 ++ (qa, qx) :: R2).Perm (R1 ++ (R2 ++ [(qa, qx)])) := List.Perm.append_left R1 (by
        have := (List.perm_append_singleton (qa, qx) R2).symm
        exact this)
      rw [List.append_assoc]; exact this
    · simp at hx ⊢
      rcases hx with h | h | h
      · exact .inl h
      · exact .inr (.inr h)
      · exact .inr (.inl h)
  have HK2 := hide hK2
  have HF := hide hF
  clear h3 f2 hF hK2 HL F1
  go_wp2_with fail
  go_end0
  exact ⟨rfl, unhide HK2, unhide HF⟩

set_option maxRecDepth 100000 in
theorem forget_any (R1 R2 : List (Nat × Pl)) (q : Nat × Pl) (H : KAt w p h r u L (R1 ++ q :: R2) c) : Calls Try.prog 51 #[ptr p, ptr q.1] w fun e w' => e = .returned (.tuple #[]) ∧ (∃ L', KAt w' p h r u L' (R1 ++ R2) c) ∧ Fr (KB p r u (R1 ++ q :: R2)) w w' := by
  have HU := hide (ring_unlink w u R1 R2 q H.ring)
  have HK := hide H
  clear H
  obtain ⟨qa, qx⟩ := q
  dsimp only at HU HK ⊢
  unfold ptr
  go_enter Try.func51, Try.ntmps51
  go_wp2_with fail
  refine (unhide HU).mono ?_
  rintro e w1 ⟨rfl, h1, h2, f1⟩
  have hp : ∀ k, k ∈ u :: adr (R1 ++ (qa, qx) :: R2) → ¬ k = p := fun k hk e => by
    have := (unhide HK).ring.knd hk
    rw [e, knd_cells (unhide HK).heap] at this
    exact absurd this (by decide)
  have hh1 := (f1.block p (lt_of_heap (unhide HK).heap) (fun e => hp _ e rfl)).trans (unhide HK).heap
  have hm1 := (unhide HK).mp.kept f1 (fun e => by
    have := (unhide HK).ring.knd e
    rw [(unhide HK).mp.knd] at this
    exact absurd this (by decide))
  have c2 := cell_of_heap hh1 2
  simp at c2
  have d2 := h2.c2
  have HH1 := hide hh1
  have HM1 := hide hm1
  have H1 := hide h1
  have F1 := hide f1
  clear h1 h2 f1 hh1 HU hm1
  go_wp2_with fail
  refine wp_region_quietTail 9 (by kernel_rfl) (by kernel_rfl) ?_
  simp only [List.take_succ_cons, List.take_zero]
  repeat (go_big_quiet_step (fail))
  refine wpQuiet_nil ?_
  intro _ hw'
  obtain ⟨nq, hw''⟩ := hw'
  subst hw''
  have fd : Fr (fun _ => False) w1 (w1.drewN nq) := Fr.ofDrewN _ _
  obtain ⟨w2, hdel, ⟨j, hj, hm2⟩, f2⟩ := run_del_in ((unhide HM1).kept fd id) ((unhide HK).look (q := (qa, qx)) (by simp))
  dsimp only at hdel hj
  have a1 : Fr (KB p r u (R1 ++ (qa, qx) :: R2)) w w1 := (unhide F1).mono (fun k _ e => .inr (.inr e))
  have a2 := a1.trans fd (fun _ _ e => e.elim)
  have hF : Fr (KB p r u (R1 ++ (qa, qx) :: R2)) w w2 := a2.trans f2 (fun k _ e => .inr (.inl e))
  have f12 : Fr (fun k => k = r) w1 w2 := (fd.mono (fun _ _ e => e.elim)).trans f2 (fun _ _ e => e)
  have hK2 : KAt w2 p h r u (L.eraseIdx j) (R1 ++ R2) c := by
    have H := unhide HK
    refine ⟨(f12.block p (lt_of_heap (unhide HH1)) (fun e => ?_)).trans (unhide HH1), (unhide H1).kept f12 (fun k hk e => ?_), hm2, ?_, fun x hx => H.ok x ?_, H.num⟩
    · have := knd_cells H.heap
      rw [show p = r from e, H.mp.knd] at this
      exact absurd this (by decide)
    · have := (unhide H1).knd hk
      rw [show k = r from e, (unhide HM1).knd] at this
      exact absurd this (by decide)
    · have e1 := perm_erase L j hj
      have e2 := e1.trans H.pm
      rw [List.map_append, List.map_cons] at e2
      have e3 := e2.trans List.perm_middle
      have := List.Perm.cons_inv e3
      rwa [← List.map_append] at this
    · simp at hx ⊢
      rcases hx with h | h
      · exact .inl h
      · exact .inr (.inr h)
  have HK2 := hide hK2
  have HF := hide hF
  clear hK2 hF f12 a1 a2 fd f2 hm2 hj
  simp only [List.drop_succ_cons, List.drop_zero]
  go_wp2_with fail
  go_end0
  exact ⟨rfl, ⟨_, unhide HK2⟩, unhide HF⟩

set_option maxRecDepth 100000 in
theorem take_any (b : Int) (hb : ∀ q ∈ R, q.2.b ≠ b) (hb0 : 0 ≤ b) (H : KAt w p h r u L R c) : Calls Try.prog 46 #[ptr p, .int .i64 b] w fun e w' => e = .returned (ptr w.heap.size) ∧ (∃ L', KAt w' p h r u L' (R ++ [(w.heap.size, zeroP b)]) c) ∧ Fr (KB p r u R) w w' := by
  have HB := hide hb
  obtain ⟨O, hO⟩ : ∃ O, O = Obj.cells ((((Try.zeroCells91.setIfInBounds 2 (Value.int .i64 b)).setIfInBounds 3 (Value.int .u64 0)).setIfInBounds 4 (Value.int .u64 0)).setIfInBounds 5 (Value.int .i64 0)) 91 := ⟨_, rfl⟩
  have hO2 : O = Obj.cells (nodeC (.pointer none) (.pointer none) (zeroP b)).toArray 91 := by
    rw [hO, zero91]; simp [nodeC, zeroP]
  have fa := (Fr.refl (fun _ => False) w).alloc O
  have H1 := H.kept0 fa
  have hN : NAt (w.alloc O) w.heap.size (.pointer none) (.pointer none) (zeroP b) := by
    unfold NAt; rw [heap_alloc_new, hO2]
  have c3 := cell_of_heap H1.heap 3
  simp at c3
  have hna : w.heap.size ∉ u :: adr R := fun e => by
    obtain ⟨o, n, y, h1⟩ := H.ring.at e
    have := lt_of_heap h1
    omega
  have HL := hide (ring_link (w.alloc O) u R w.heap.size (zeroP b) _ _ H1.ring hN hna)
  have HK1 := hide H1
  have FA := hide fa
  have HK := hide H
  clear H1 hN fa H hb hO2
  rw [hO] at c3 HL HK1 FA
  clear hO
  unfold ptr at *
  go_enter Try.func46, Try.ntmps46
  go_wp2_with fail
  refine (unhide HL).mono ?_
  rintro e w1 ⟨rfl, h1, f1⟩
  have hkk : ∀ k, (k = w.heap.size ∨ k ∈ u :: adr R) → knd (w.alloc (Obj.cells ((((Try.zeroCells91.setIfInBounds 2 (Value.int .i64 b)).setIfInBounds 3 (Value.int .u64 0)).setIfInBounds 4 (Value.int .u64 0)).setIfInBounds 5 (Value.int .i64 0)) 91)) k = 91 := fun k hk => by
    rcases hk with rfl | hk
    · exact knd_cells (heap_alloc_new w _)
    · exact (unhide HK1).ring.knd hk
  have hh1 := (f1.block p (lt_of_heap (unhide HK1).heap) (fun e => by have := hkk _ e; rw [knd_cells (unhide HK1).heap] at this; exact absurd this (by decide))).trans (unhide HK1).heap
  have hm1 := (unhide HK1).mp.kept f1 (fun e => by have := hkk _ e; rw [(unhide HK1).mp.knd] at this; exact absurd this (by decide))
  obtain ⟨w2, hput, hm2, f2⟩ := run_put_out hm1 ((unhide HK).lookNo (unhide HB)) w.heap.size
  have c2 := cell_of_heap hh1 2
  simp at c2
  have hr1 := h1
  have hpr : ¬ p = r := fun e => by have := knd_cells hh1; rw [e, hm1.knd] at this; exact absurd this (by decide)
  have hK2 : KAt w2 p h r u (L ++ [(b, w.heap.size)]) (R ++ [(w.heap.size, zeroP b)]) c := by
    have H := unhide HK
    refine ⟨(f2.block p (lt_of_heap hh1) hpr).trans hh1, hr1.kept f2 (fun k hk e => ?_), hm2, ?_, fun x hx => ?_, H.num⟩
    · have := hr1.knd hk
      rw [show k = r from e, hm1.knd] at this
      exact absurd this (by decide)
    · rw [List.map_append]
      exact H.pm.append (List.Perm.refl _)
    · rcases List.mem_append.1 hx with h | h
      · exact H.ok x h
      · simp at h
        subst h
        exact ⟨by simp [zeroP], hb0, by simp [zeroP], by simp [zeroP], by simp [zeroP]⟩
  have a0 : Fr (KB p r u R) w _ := (unhide FA).mono (fun _ _ e => e.elim)
  have a1 := a0.trans f1 (fun k hk e => by
    rcases e with e | e
    · omega
    · exact .inr (.inr e))
  have hF : Fr (KB p r u R) w w2 := a1.trans f2 (fun k _ e => .inr (.inl e))
  clear a0 a1
  have HK2 := hide hK2
  have HF := hide hF
  unfold ptr at hput
  clear hK2 hF hm2 f2 f1 h1 hr1 hm1 hh1 HL
  go_wp2_with fail
  go_ret
  exact ⟨rfl, ⟨_, unhide HK2⟩, unhide HF⟩
end
end Go.Proofs.Ytdgmlopaeonacaa
