/-
  The walk of set: a block is brought to a state.
-/
import Derived.Test.YtbpajilglfabbaaA1
namespace Go.Proofs.Ytbpajilglfabbaa
open Go.RowKit
set_option linter.unusedVariables false

attribute [local go_sem ↓] Go.wp_at_zero Go.wp_at_succ

theorem heapC_set {w : World} {p : Nat} {cs : List Value} {t : TypeId} (h : w.heap[p]? = some (.cells cs.toArray t (0, 0))) (i : Nat) (v : Value) : (w.setCell ⟨p, i, none⟩ v).heap[p]? = some (.cells (cs.set i v).toArray t (0, 0)) := by
  rw [heap_setCell_same w p i _ t v h, List.setIfInBounds_toArray]
theorem heapC_other {w : World} {k p : Nat} {o : Obj} (h : w.heap[k]? = some o) (hk : k ≠ p) (i : Nat) (v : Value) : (w.setCell ⟨p, i, none⟩ v).heap[k]? = some o := by
  rw [Below.heap_setCell _ _ _ _ hk]; exact h

def Kc.set (K : Kc) (b : Nat) (v : UInt8) : Kc := ⟨K.s.set b v, K.c.set b (K.ch + 1), K.ch + 1, K.r, K.h⟩

theorem bvs_setX (l : List UInt8) (x : List Value) (b : Nat) (hb : b < l.length) (v : UInt8) : (bvs l ++ x).set b (.int .u8 ((v.toNat : Nat) : Int)) = bvs (l.set b v) ++ x := by
  rw [List.set_append_left _ _ (by rw [bvs_length]; exact hb)]
  simp [bvs, List.map_set]
theorem uvs_setX (l : List Nat) (x : List Value) (b : Nat) (hb : b < l.length) (v : Nat) : (uvs l ++ x).set b (.int .u64 (v : Int)) = uvs (l.set b v) ++ x := by
  rw [List.set_append_left _ _ (by rw [uvs_length]; exact hb)]
  simp [uvs, List.map_set]


section
variable (w : World) (p q u b n cq cu ch f0 f2 un vn : Nat) (rv hv : Value) (Lq Lu : List Value)

/-- The three blocks behind set. -/
def SetEnd (w : World) (p q u b n cq cu ch f2 vn : Nat) (rv hv : Value) (Lq Lu : List Value) (w' : World) : Prop :=
  w'.heap[p]? = some (.cells [.slice (some ⟨q, 0, none⟩) n cq, .slice (some ⟨u, 0, none⟩) n cu, .int .u64 ((ch : Int) + 1), .int .i64 (f2 : Int), rv, hv].toArray 75 (0, 0)) ∧
  w'.heap[q]? = some (.cells (Lq.set b (.int .u8 (vn : Int))).toArray 5 (0, 0)) ∧ w'.heap[u]? = some (.cells (Lu.set b (.int .u64 ((ch : Int) + 1))).toArray 73 (0, 0)) ∧ Fr (fun k => k = p ∨ k = q ∨ k = u) w w'

theorem set_tail (w1 : World) (x : Value) (h1 : w1.heap[p]? = some (.cells [.slice (some ⟨q, 0, none⟩) n cq, .slice (some ⟨u, 0, none⟩) n cu, x, .int .i64 (f2 : Int), rv, hv].toArray 75 (0, 0)))
    (h2 : w1.heap[q]? = some (.cells Lq.toArray 5 (0, 0))) (h3 : w1.heap[u]? = some (.cells Lu.toArray 73 (0, 0))) (hpq : p ≠ q) (hpu : p ≠ u) (hqu : q ≠ u) (hF : Fr (fun k => k = p ∨ k = q ∨ k = u) w w1) (nd : Nat) :
    SetEnd w p q u b n cq cu ch f2 vn rv hv Lq Lu ((((w1.setCell ⟨q, b, none⟩ (.int .u8 (vn : Int))).setCell ⟨p, 2, none⟩ (.int .u64 ((ch : Int) + 1))).drewN nd).setCell ⟨u, b, none⟩ (.int .u64 ((ch : Int) + 1))) := by
  have fd : ∀ W : World, Fr (fun _ => False) W (W.drewN nd) := fun W => Fr.ofDrewN _ _
  have kd : ∀ (W : World) (k : Nat) (o : Obj), W.heap[k]? = some o → (W.drewN nd).heap[k]? = some o := fun W k o h => by rw [(fd W).block k (lt_of_heap h) id]; exact h
  refine ⟨?_, ?_, ?_, ?_⟩
  · refine heapC_other (kd _ _ _ ?_) hpu _ _
    exact heapC_set (heapC_other h1 hpq _ _) 2 _
  · refine heapC_other (kd _ _ _ (heapC_other ?_ hpq.symm _ _)) hqu _ _
    exact heapC_set h2 _ _
  · refine heapC_set (kd _ _ _ (heapC_other (heapC_other h3 hqu.symm _ _) hpu.symm _ _)) _ _
  · exact ((((hF.setCell (p := ⟨q, b, none⟩) (fun _ => .inr (.inl rfl)) _).setCell (p := ⟨p, 2, none⟩) (fun _ => .inl rfl) _)).drewN nd).setCell (p := ⟨u, b, none⟩) (fun _ => .inr (.inr rfl)) _

set_option maxHeartbeats 1000000 in
theorem set_raw (h1 : w.heap[p]? = some (.cells [.slice (some ⟨q, 0, none⟩) n cq, .slice (some ⟨u, 0, none⟩) n cu, .int .u64 (ch : Int), .int .i64 (f0 : Int), rv, hv].toArray 75 (0, 0)))
    (h2 : w.heap[q]? = some (.cells Lq.toArray 5 (0, 0))) (h3 : w.heap[u]? = some (.cells Lu.toArray 73 (0, 0))) (hpq : p ≠ q) (hpu : p ≠ u) (hqu : q ≠ u)
    (hb : b < n) (hn : n ≤ 65536) (h4 : Lq[b]? = some (.int .u8 (un : Int))) (h5 : b < Lu.length) (hch : ch < 4611686018427387904) (hf : f0 ≤ 65536) (hvb : vn < 256)
    (hfp : un = 0 → 1 ≤ f0) (hfe : f2 = f0 - (if un = 0 then 1 else 0) + (if vn = 0 then 1 else 0)) :
    Calls Try.prog 42 #[ptr p, .int .i64 (b : Int), .int .u8 (vn : Int)] w fun e w' => e = .returned (.tuple #[]) ∧ SetEnd w p q u b n cq cu ch f2 vn rv hv Lq Lu w' := by
  have HT := hide (fun w1 x => set_tail w p q u b n cq cu ch f2 vn rv hv Lq Lu w1 x)
  have c0 : w.cell? ⟨p, 0, none⟩ = some (.slice (some ⟨q, 0, none⟩) n cq) := by rw [cell_of_heap h1]; rfl
  have c1 : w.cell? ⟨p, 1, none⟩ = some (.slice (some ⟨u, 0, none⟩) n cu) := by rw [cell_of_heap h1]; rfl
  have c2 : w.cell? ⟨p, 2, none⟩ = some (.int .u64 (ch : Int)) := by rw [cell_of_heap h1]; rfl
  have c3 : w.cell? ⟨p, 3, none⟩ = some (.int .i64 (f0 : Int)) := by rw [cell_of_heap h1]; rfl
  have cs : w.cell? ⟨q, b, none⟩ = some (.int .u8 (un : Int)) := by rw [cell_of_heap h2]; simpa using h4
  obtain ⟨y, hy⟩ : ∃ y, Lu[b]? = some y := ⟨_, List.getElem?_eq_getElem h5⟩
  have cc : w.cell? ⟨u, b, none⟩ = some y := by rw [cell_of_heap h3]; simpa using hy
  have z3 := frozen_of_heap h1 3
  have z2 := frozen_of_heap h1 2
  have zq := frozen_of_heap h2 b
  have zu := frozen_of_heap h3 b
  have HN := hide (And.intro h1 (And.intro h2 h3))
  have HF := hide hfe
  clear h1 h2 h3 h4 h5 hy hfe
  unfold ptr
  by_cases e1 : un = 0 <;> by_cases e2 : vn = 0
  · subst e1 e2
    have hp := hfp rfl
    clear hfp
    go_enter Try.func42, Try.ntmps42
    go_wp2_with fail
    refine wp_region_quietTail 10 (by kernel_rfl) (by kernel_rfl) ?_
    simp only [List.take_succ_cons, List.take_zero]
    repeat (go_big_quiet_step (fail))
    refine wpQuiet_nil ?_
    intro _ hw'
    obtain ⟨nq, hw''⟩ := hw'
    subst hw''
    simp only [List.drop_succ_cons, List.drop_zero]
    go_wp2_with fail
    go_end0
    obtain ⟨h1, h2, h3⟩ := unhide HN
    refine ⟨rfl, unhide HT _ (.int .u64 (ch : Int)) ?_ (heapC_other (heapC_other h2 hpq.symm _ _) hpq.symm _ _) (heapC_other (heapC_other h3 hpu.symm _ _) hpu.symm _ _) hpq hpu hqu (((Fr.refl _ _).setCell (p := ⟨p, 3, none⟩) (fun _ => .inl rfl) _).setCell (p := ⟨p, 3, none⟩) (fun _ => .inl rfl) _) _⟩
    rw [heapC_set (heapC_set h1 3 _) 3 _]
    have : f2 = f0 := by rw [unhide HF]; simp; omega
    rw [this]
    rfl
  · subst e1
    have hp := hfp rfl
    clear hfp
    go_enter Try.func42, Try.ntmps42
    go_wp2_with fail
    refine wp_region_quietTail 10 (by kernel_rfl) (by kernel_rfl) ?_
    simp only [List.take_succ_cons, List.take_zero]
    repeat (go_big_quiet_step (fail))
    refine wpQuiet_nil ?_
    intro _ hw'
    obtain ⟨nq, hw''⟩ := hw'
    subst hw''
    simp only [List.drop_succ_cons, List.drop_zero]
    go_wp2_with fail
    go_end0
    obtain ⟨h1, h2, h3⟩ := unhide HN
    refine ⟨rfl, unhide HT _ (.int .u64 (ch : Int)) ?_ (heapC_other h2 hpq.symm _ _) (heapC_other h3 hpu.symm _ _) hpq hpu hqu ((Fr.refl _ _).setCell (p := ⟨p, 3, none⟩) (fun _ => .inl rfl) _) _⟩
    rw [heapC_set h1 3 _]
    have : ((f2 : Nat) : Int) = (f0 : Int) - 1 := by rw [unhide HF]; simp [e2]; omega
    rw [this]
    rfl
  · subst e2
    clear hfp
    go_enter Try.func42, Try.ntmps42
    go_wp2_with fail
    refine wp_region_quietTail 10 (by kernel_rfl) (by kernel_rfl) ?_
    simp only [List.take_succ_cons, List.take_zero]
    repeat (go_big_quiet_step (fail))
    refine wpQuiet_nil ?_
    intro _ hw'
    obtain ⟨nq, hw''⟩ := hw'
    subst hw''
    simp only [List.drop_succ_cons, List.drop_zero]
    go_wp2_with fail
    go_end0
    obtain ⟨h1, h2, h3⟩ := unhide HN
    refine ⟨rfl, unhide HT _ (.int .u64 (ch : Int)) ?_ (heapC_other h2 hpq.symm _ _) (heapC_other h3 hpu.symm _ _) hpq hpu hqu ((Fr.refl _ _).setCell (p := ⟨p, 3, none⟩) (fun _ => .inl rfl) _) _⟩
    rw [heapC_set h1 3 _]
    have : ((f2 : Nat) : Int) = (f0 : Int) + 1 := by rw [unhide HF]; simp [e1]
    rw [this]
    rfl
  · clear hfp
    go_enter Try.func42, Try.ntmps42
    go_wp2_with fail
    refine wp_region_quietTail 10 (by kernel_rfl) (by kernel_rfl) ?_
    simp only [List.take_succ_cons, List.take_zero]
    repeat (go_big_quiet_step (fail))
    refine wpQuiet_nil ?_
    intro _ hw'
    obtain ⟨nq, hw''⟩ := hw'
    subst hw''
    simp only [List.drop_succ_cons, List.drop_zero]
    go_wp2_with fail
    go_end0
    obtain ⟨h1, h2, h3⟩ := unhide HN
    have : f2 = f0 := by rw [unhide HF]; simp [e1, e2]
    exact ⟨rfl, unhide HT _ (.int .u64 (ch : Int)) (by rw [h1, this]) h2 h3 hpq hpu hqu (Fr.refl _ _) _⟩
end

section
variable (w : World) (p : Nat) (X : Ly) (K : Kc)
theorem toNat_zero {v : UInt8} : v.toNat = 0 ↔ v = 0 := ⟨fun h => UInt8.toNat_inj.1 (by simpa using h), fun h => by rw [h]; rfl⟩

theorem set_any (H : KA w p X K) (b : Nat) (v u : UInt8) (hu : K.s[b]? = some u) (hc : K.ch + 1 < 4611686018427387904) : Calls Try.prog 42 #[ptr p, .int .i64 (b : Int), .int .u8 ((v.toNat : Nat) : Int)] w fun e w' => e = .returned (.tuple #[]) ∧ KA w' p X (K.set b v) ∧ Fr (Bl p X) w w' := by
  have hb := (List.getElem?_eq_some_iff.1 hu).1
  have hl := H.cl
  have hn := H.n2
  refine (set_raw w p X.q X.u b K.s.length _ _ K.ch (fr K.s) (fr (K.s.set b v)) u.toNat v.toNat _ _ _ _ H.hd H.st H.cm H.pq H.pu H.qu hb H.n2 ?_ ?_ H.cb (Nat.le_trans (fr_le _) H.n2) v.toNat_lt (fun e => ?_) ?_).mono ?_
  · rw [List.getElem?_append_left (by rw [bvs_length]; exact hb)]
    simp [bvs, hu]
  · rw [List.length_append, uvs_length]; omega
  · rw [toNat_zero.1 e] at hu; exact fr_pos hu
  · rw [fr_set hu]; simp only [toNat_zero]
  · rintro e w' ⟨rfl, h1, h2, h3, hF⟩
    have e1 : ((K.ch : Int) + 1) = ((K.ch + 1 : Nat) : Int) := by omega
    rw [bvs_setX _ _ _ hb] at h2
    rw [e1, uvs_setX _ _ _ (by omega)] at h3
    rw [e1] at h1
    exact ⟨rfl, ⟨by rw [h1]; simp [hdC, Kc.set], h2, h3, by simp [Kc.set, hl], by simpa [Kc.set] using H.n1, by simpa [Kc.set] using H.n2, by simpa [Kc.set] using H.m1, by simpa [Kc.set] using H.m2, hc, H.hb, H.rb⟩, hF⟩
end
end Go.Proofs.Ytbpajilglfabbaa
