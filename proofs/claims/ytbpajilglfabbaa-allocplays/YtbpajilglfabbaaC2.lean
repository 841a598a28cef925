/-
  The document's allocator: a state, what was taken, what was given are set; the walks of take, Take, TakeReserved.
-/
import Derived.Test.YtbpajilglfabbaaC1
namespace Go.Proofs.Ytbpajilglfabbaa
open Go.RowKit
set_option linter.unusedVariables false

attribute [local go_sem ↓] Go.wp_at_zero Go.wp_at_succ

theorem ivs_snoc (l : List Nat) (b : Nat) : ivs (l ++ [b]) = ivs l ++ [.int .i64 (b : Int)] := by simp [ivs]
theorem svs_set (s : List UInt8) (b : Nat) (v : UInt8) : (svs s).set b (.int .i64 ((v.toNat : Nat) : Int)) = svs (s.set b v) := by simp [svs, List.map_set]

section
variable {w : World} {p : Nat} {Y : Lr} {M : Rc}
theorem RA.setS (H : RA w p Y M) (b : Nat) (v : UInt8) : RA (w.setCell ⟨Y.q, b, none⟩ (.int .i64 ((v.toNat : Nat) : Int))) p Y { M with s := M.s.set b v } := by
  have fq : Fr (fun k => k = Y.q) w (w.setCell ⟨Y.q, b, none⟩ (.int .i64 ((v.toNat : Nat) : Int))) := Fr.setCell (S := fun k => k = Y.q) (Fr.refl _ _) (p := ⟨Y.q, b, none⟩) (fun _ => rfl) _
  exact { H with
    hd := by rw [heapC_other H.hd H.pq _ _]; simp
    st := by rw [heapC_set H.st, svs_set]
    tO := owns_kept H.tO fq (fun k hk e => H.tq (by rw [hk, e]))
    gO := owns_kept H.gO fq (fun k hk e => H.gq (by rw [hk, e]))
    n1 := by simpa using H.n1
    n2 := by simpa using H.n2 }
theorem RA.setR (H : RA w p Y M) (r' : Nat) (h : r' ≤ 65536) : RA (w.setCell ⟨p, 3, none⟩ (.int .i64 (r' : Int))) p Y { M with r := r' } := by
  have fq : Fr (fun k => k = p) w (w.setCell ⟨p, 3, none⟩ (.int .i64 (r' : Int))) := Fr.setCell (S := fun k => k = p) (Fr.refl _ _) (p := ⟨p, 3, none⟩) (fun _ => rfl) _
  exact { H with
    hd := heapC_set H.hd 3 _
    st := heapC_other H.st H.pq.symm _ _
    tO := owns_kept H.tO fq (fun k hk e => H.pt (by rw [hk, e]))
    gO := owns_kept H.gO fq (fun k hk e => H.pg (by rw [hk, e]))
    rb := h }
theorem RA.setH (H : RA w p Y M) (r' : Nat) (h : r' < 4611686018427387904) : RA (w.setCell ⟨p, 4, none⟩ (.int .i64 (r' : Int))) p Y { M with h := r' } := by
  have fq : Fr (fun k => k = p) w (w.setCell ⟨p, 4, none⟩ (.int .i64 (r' : Int))) := Fr.setCell (S := fun k => k = p) (Fr.refl _ _) (p := ⟨p, 4, none⟩) (fun _ => rfl) _
  exact { H with
    hd := heapC_set H.hd 4 _
    st := heapC_other H.st H.pq.symm _ _
    tO := owns_kept H.tO fq (fun k hk e => H.pt (by rw [hk, e]))
    gO := owns_kept H.gO fq (fun k hk e => H.pg (by rw [hk, e]))
    hb := h }

/-- What was taken is another list now: in its own block, or in a new one. -/
theorem RA.putT (H : RA w p Y M) {w4 : World} (f4 : Fr (fun k => Y.tv.ownBlock = some k) w w4) (ao : Option Addr) (c : Nat) (t' : List Nat) (N : Nat) (hN : N = t'.length) (hO : w4.ownsRow 0 3 1 (.slice ao N c) N (ivs t')) (hb : ∀ k, (Value.slice ao N c).ownBlock = some k → Y.tv.ownBlock = some k ∨ w.heap.size ≤ k) (hl : N ≤ 1000000) :
    RA (w4.setCell ⟨p, 1, none⟩ (.slice ao N c)) p { Y with tv := .slice ao N c } { M with t := t' } ∧ Fr (Rb p Y) w (w4.setCell ⟨p, 1, none⟩ (.slice ao N c)) ∧ ∀ k, Rb p { Y with tv := .slice ao N c } k → Rb p Y k ∨ w.heap.size ≤ k := by
  subst hN
  have hp4 : w4.heap[p]? = _ := (f4.block p (lt_of_heap H.hd) H.pt).trans H.hd
  have hq4 : w4.heap[Y.q]? = _ := (f4.block Y.q (lt_of_heap H.st) H.tq).trans H.st
  have hg4 := owns_kept H.gO f4 (fun k hk e => H.tg k e hk)
  have fp : Fr (fun k => k = p) w4 (w4.setCell ⟨p, 1, none⟩ (.slice ao t'.length c)) := Fr.setCell (S := fun k => k = p) (Fr.refl _ _) (p := ⟨p, 1, none⟩) (fun _ => rfl) _
  have hqb : (Value.slice ao t'.length c).ownBlock ≠ some Y.q := fun e => by
    rcases hb _ e with h | h
    · exact H.tq h
    · have := lt_of_heap H.st; omega
  have hpb : (Value.slice ao t'.length c).ownBlock ≠ some p := fun e => by
    rcases hb _ e with h | h
    · exact H.pt h
    · have := lt_of_heap H.hd; omega
  refine ⟨{ H with
    hd := heapC_set hp4 1 _
    st := heapC_other hq4 H.pq.symm _ _
    ts := ⟨_, _, rfl⟩
    tO := owns_kept hO fp (fun k hk e => hpb (by rw [hk, e]))
    gO := owns_kept hg4 fp (fun k hk e => H.pg (by rw [hk, e]))
    tq := hqb
    tg := fun b h1 h2 => ?_
    tb := hl }, ?_, ?_⟩
  · rcases hb _ h1 with h | h
    · exact H.tg b h h2
    · have := H.lt b (.inr (.inr (.inr h2))); omega
  · exact (f4.mono (fun k _ h => .inr (.inr (.inl h)))).setCell (p := ⟨p, 1, none⟩) (fun _ => .inl rfl) _
  · rintro k (h | h | h | h)
    · exact .inl (.inl h)
    · exact .inl (.inr (.inl h))
    · rcases hb k h with h | h
      · exact .inl (.inr (.inr (.inl h)))
      · exact .inr h
    · exact .inl (.inr (.inr (.inr h)))
/-- What was given is another list now. -/
theorem RA.putG (H : RA w p Y M) {w4 : World} (f4 : Fr (fun k => Y.gv.ownBlock = some k) w w4) (ao : Option Addr) (c : Nat) (t' : List Nat) (N : Nat) (hN : N = t'.length) (hO : w4.ownsRow 0 3 1 (.slice ao N c) N (ivs t')) (hb : ∀ k, (Value.slice ao N c).ownBlock = some k → Y.gv.ownBlock = some k ∨ w.heap.size ≤ k) (hl : N ≤ 1000000) :
    RA (w4.setCell ⟨p, 2, none⟩ (.slice ao N c)) p { Y with gv := .slice ao N c } { M with g := t' } ∧ Fr (Rb p Y) w (w4.setCell ⟨p, 2, none⟩ (.slice ao N c)) ∧ ∀ k, Rb p { Y with gv := .slice ao N c } k → Rb p Y k ∨ w.heap.size ≤ k := by
  subst hN
  have hp4 : w4.heap[p]? = _ := (f4.block p (lt_of_heap H.hd) H.pg).trans H.hd
  have hq4 : w4.heap[Y.q]? = _ := (f4.block Y.q (lt_of_heap H.st) H.gq).trans H.st
  have hg4 := owns_kept H.tO f4 (fun k hk e => H.tg k hk e)
  have fp : Fr (fun k => k = p) w4 (w4.setCell ⟨p, 2, none⟩ (.slice ao t'.length c)) := Fr.setCell (S := fun k => k = p) (Fr.refl _ _) (p := ⟨p, 2, none⟩) (fun _ => rfl) _
  have hqb : (Value.slice ao t'.length c).ownBlock ≠ some Y.q := fun e => by
    rcases hb _ e with h | h
    · exact H.gq h
    · have := lt_of_heap H.st; omega
  have hpb : (Value.slice ao t'.length c).ownBlock ≠ some p := fun e => by
    rcases hb _ e with h | h
    · exact H.pg h
    · have := lt_of_heap H.hd; omega
  refine ⟨{ H with
    hd := heapC_set hp4 2 _
    st := heapC_other hq4 H.pq.symm _ _
    gs := ⟨_, _, rfl⟩
    gO := owns_kept hO fp (fun k hk e => hpb (by rw [hk, e]))
    tO := owns_kept hg4 fp (fun k hk e => H.pt (by rw [hk, e]))
    gq := hqb
    tg := fun b h1 h2 => ?_
    gb := hl }, ?_, ?_⟩
  · rcases hb _ h2 with h | h
    · exact H.tg b h1 h
    · have := H.lt b (.inr (.inr (.inl h1))); omega
  · exact (f4.mono (fun k _ h => .inr (.inr (.inr h)))).setCell (p := ⟨p, 2, none⟩) (fun _ => .inl rfl) _
  · rintro k (h | h | h | h)
    · exact .inl (.inl h)
    · exact .inl (.inr (.inl h))
    · exact .inl (.inr (.inr (.inl h)))
    · rcases hb k h with h | h
      · exact .inl (.inr (.inr (.inr h)))
      · exact .inr h
end

/-- What a call of the document's allocator leaves. -/
def RE (w : World) (p : Nat) (Y : Lr) (M' : Rc) (w' : World) : Prop := ∃ Y', RA w' p Y' M' ∧ Fr (Rb p Y) w w' ∧ ∀ k, Rb p Y' k → Rb p Y k ∨ w.heap.size ≤ k

theorem RE.refl {w : World} {p : Nat} {Y : Lr} {M : Rc} (H : RA w p Y M) : RE w p Y M w := ⟨Y, H, Fr.refl _ _, fun k hk => .inl hk⟩
theorem RE.trans {w w1 w2 : World} {p : Nat} {Y Y1 : Lr} {M2 : Rc} (f1 : Fr (Rb p Y) w w1) (h1 : ∀ k, Rb p Y1 k → Rb p Y k ∨ w.heap.size ≤ k) (h : RE w1 p Y1 M2 w2) : RE w p Y M2 w2 := by
  obtain ⟨Y', H, f2, h2⟩ := h
  refine ⟨Y', H, f1.trans f2 (fun k hk e => ?_), fun k hk => ?_⟩
  · rcases h1 k e with h | h
    · exact h
    · omega
  · rcases h2 k hk with h | h
    · exact h1 k h
    · exact .inr (Nat.le_trans f1.size h)

theorem one_cellS (w : World) (a : Addr) (v x : Value) (e : TypeId) : Sr ((w.setCell a v).alloc (Obj.cells #[x] e)) 1 (.slice (some ⟨w.heap.size, 0, none⟩) 1 1) 1 [x] := by
  have h := one_cellV (w.setCell a v) x e
  have hs : (w.setCell a v).heap.size = w.heap.size := by simp [World.setCell]
  rw [hs] at h
  exact h

def Rc.tk (M : Rc) (b : Nat) : Rc := { M with s := M.s.set b 2, t := M.t ++ [b] }

/-- A state is set, and the block comes to those that were taken. -/
theorem RA.tkEnd {w : World} {p : Nat} {Y : Lr} {M : Rc} (H : RA w p Y M) (b : Nat) (v : UInt8) {w4 : World} {ao tao : Option Addr} {c tc tl : Nat} (htl : tl = M.t.length) (hlt : tl < 1000000) (hts : Y.tv = .slice tao tl tc) (x : Value)
    (o4 : w4.ownsRow 0 3 1 (.slice ao (tl + 1) c) (tl + 1) (ivs M.t ++ [.int .i64 (b : Int)])) (g4 : ((w.setCell ⟨Y.q, b, none⟩ (.int .i64 ((v.toNat : Nat) : Int))).alloc (.cells #[x] 3)).grownBy w4 (Value.slice tao tl tc).ownBlock)
    (p4 : (Value.slice ao (tl + 1) c).ownBlock = (Value.slice tao tl tc).ownBlock ∨ ∃ k, (Value.slice ao (tl + 1) c).ownBlock = some k ∧ w.heap.size + 1 ≤ k) :
    w4.cell? ⟨p, 1, none⟩ = some (.slice tao tl tc) ∧ w4.frozen? ⟨p, 1, none⟩ = false ∧ RE w p Y { M with s := M.s.set b v, t := M.t ++ [b] } (w4.setCell ⟨p, 1, none⟩ (.slice ao (tl + 1) c)) := by
  have H1 := H.setS b v
  have f0 : Fr (Rb p Y) w (w.setCell ⟨Y.q, b, none⟩ (.int .i64 ((v.toNat : Nat) : Int))) := (Fr.refl _ _).setCell (p := ⟨Y.q, b, none⟩) (fun _ => .inr (.inl rfl)) _
  rw [← hts] at g4 p4
  have f4 : Fr (fun k => Y.tv.ownBlock = some k) (w.setCell ⟨Y.q, b, none⟩ (.int .i64 ((v.toNat : Nat) : Int))) w4 := ((Fr.refl _ _).alloc _).grown g4 (fun k _ e => e)
  have hp4 : w4.heap[p]? = _ := (f4.block p (lt_of_heap H1.hd) H1.pt).trans H1.hd
  have hs : (w.setCell ⟨Y.q, b, none⟩ (.int .i64 ((v.toNat : Nat) : Int))).heap.size = w.heap.size := by simp [World.setCell]
  obtain ⟨r1, r2, r3⟩ := H1.putT f4 ao c (M.t ++ [b]) (tl + 1) (by simp [htl]) (by rw [ivs_snoc]; exact o4) (fun k hk => by
      rcases p4 with e | ⟨k', e, hk'⟩
      · rw [e] at hk; exact .inl hk
      · rw [e] at hk; simp at hk; right; rw [hs]; omega) (by omega)
  refine ⟨by rw [cell_of_heap hp4, ← hts]; rfl, frozen_of_heap hp4 1, _, r1, f0.trans r2 (fun _ _ h => h), fun k hk => ?_⟩
  rcases r3 k hk with h | h
  · exact .inl h
  · rw [hs] at h; exact .inr h
/-- A state is set, and the block comes to those that were given. -/
theorem RA.gvEnd {w : World} {p : Nat} {Y : Lr} {M : Rc} (H : RA w p Y M) (b : Nat) (v : UInt8) {w4 : World} {ao tao : Option Addr} {c tc tl : Nat} (htl : tl = M.g.length) (hlt : tl < 1000000) (hts : Y.gv = .slice tao tl tc) (x : Value)
    (o4 : w4.ownsRow 0 3 1 (.slice ao (tl + 1) c) (tl + 1) (ivs M.g ++ [.int .i64 (b : Int)])) (g4 : ((w.setCell ⟨Y.q, b, none⟩ (.int .i64 ((v.toNat : Nat) : Int))).alloc (.cells #[x] 3)).grownBy w4 (Value.slice tao tl tc).ownBlock)
    (p4 : (Value.slice ao (tl + 1) c).ownBlock = (Value.slice tao tl tc).ownBlock ∨ ∃ k, (Value.slice ao (tl + 1) c).ownBlock = some k ∧ w.heap.size + 1 ≤ k) :
    w4.cell? ⟨p, 2, none⟩ = some (.slice tao tl tc) ∧ w4.frozen? ⟨p, 2, none⟩ = false ∧ RE w p Y { M with s := M.s.set b v, g := M.g ++ [b] } (w4.setCell ⟨p, 2, none⟩ (.slice ao (tl + 1) c)) := by
  have H1 := H.setS b v
  have f0 : Fr (Rb p Y) w (w.setCell ⟨Y.q, b, none⟩ (.int .i64 ((v.toNat : Nat) : Int))) := (Fr.refl _ _).setCell (p := ⟨Y.q, b, none⟩) (fun _ => .inr (.inl rfl)) _
  rw [← hts] at g4 p4
  have f4 : Fr (fun k => Y.gv.ownBlock = some k) (w.setCell ⟨Y.q, b, none⟩ (.int .i64 ((v.toNat : Nat) : Int))) w4 := ((Fr.refl _ _).alloc _).grown g4 (fun k _ e => e)
  have hp4 : w4.heap[p]? = _ := (f4.block p (lt_of_heap H1.hd) H1.pg).trans H1.hd
  have hs : (w.setCell ⟨Y.q, b, none⟩ (.int .i64 ((v.toNat : Nat) : Int))).heap.size = w.heap.size := by simp [World.setCell]
  obtain ⟨r1, r2, r3⟩ := H1.putG f4 ao c (M.g ++ [b]) (tl + 1) (by simp [htl]) (by rw [ivs_snoc]; exact o4) (fun k hk => by
      rcases p4 with e | ⟨k', e, hk'⟩
      · rw [e] at hk; exact .inl hk
      · rw [e] at hk; simp at hk; right; rw [hs]; omega) (by omega)
  refine ⟨by rw [cell_of_heap hp4, ← hts]; rfl, frozen_of_heap hp4 2, _, r1, f0.trans r2 (fun _ _ h => h), fun k hk => ?_⟩
  rcases r3 k hk with h | h
  · exact .inl h
  · rw [hs] at h; exact .inr h

section
variable (w : World) (p : Nat) (Y : Lr) (M : Rc)

theorem pk_at {s : List UInt8} {a i n : Nat} (hn : n = s.length) (ha : a < n) (hi : i < n) (hno : ∀ j, j < i → ¬ s[if a + j < n then a + j else a + j - n]? = some 0) (hy : s[if a + i < n then a + i else a + i - n]? = some 0) : pk s a = (if a + i < n then a + i else a + i - n) := by
  unfold pk
  by_cases h : a + i < n
  · rw [if_pos h] at hy ⊢
    rw [nx_is (b := a + i) (by omega) hy (fun j h1 h2 => by
      have := hno (j - a) (by omega)
      rw [if_pos (by omega), show a + (j - a) = j by omega] at this
      exact this)]
  · rw [if_neg h] at hy ⊢
    rw [nx_no (a := a) (fun j h1 h2 => by
      have hj := (List.getElem?_eq_some_iff.1 h2).1
      have := hno (j - a) (by omega)
      rw [if_pos (by omega), show a + (j - a) = j by omega] at this
      exact this h2)]
    simp only
    rw [nx_is (b := a + i - n) (by omega) hy (fun j h1 h2 => by
      have := hno (j + n - a) (by omega)
      rw [if_neg (by omega), show a + (j + n - a) - n = j by omega] at this
      exact this)]
    rfl

set_option maxRecDepth 100000 in
set_option maxHeartbeats 1000000 in
theorem rtake_any (H : RA w p Y M) (a : Nat) (ha : a < M.s.length) (hf : 0 < fr M.s) (hl : M.t.length < 1000000) : Calls Try.prog 68 #[ptr p, .int .i64 (a : Int)] w fun e w' => e = .returned (.int .i64 (pk M.s a : Int)) ∧ RE w p Y (M.tk (pk M.s a)) w' := by
  obtain ⟨inf, hi0, hz0, hz1, hz2⟩ := info_parts Try.info3
  have HH := hide H
  have c0 := H.c0
  have c1 := H.c1
  have zq : Hid (∀ b, w.frozen? ⟨Y.q, b, none⟩ = false) := hide (fun b => frozen_of_heap H.st b)
  have HS : Hid (∀ i v, M.s[i]? = some v → w.cell? ⟨Y.q, i, none⟩ = some (.int .i64 ((v.toNat : Nat) : Int))) := hide (fun i v hv => H.state hv)
  have hn2 := H.n2
  have hpq := H.pq
  obtain ⟨n, hn⟩ : ∃ n, n = M.s.length := ⟨_, rfl⟩
  rw [← hn] at c0 hn2 ha
  have HN := hide hn
  have HFR := hide hf
  have HL := hide hl
  obtain ⟨tao, tc, hts⟩ := H.ts
  have HTS := hide hts
  rw [hts] at c1
  obtain ⟨tl, htl⟩ : ∃ n, n = M.t.length := ⟨_, rfl⟩
  rw [← htl] at c1 HTS hl
  have HTL := hide htl
  have hlt2 : tl < 1000000 := hl
  clear H hn hf hl hts htl
  unfold ptr
  go_enter Try.func68, Try.ntmps68
  go_wp2_with fail
  go_loopw [5] (fun x W => ∃ i : Nat, i ≤ n ∧ x = .int .i64 (i : Int) ∧ (∀ j, j < i → ¬ M.s[if a + j < n then a + j else a + j - n]? = some 0) ∧ W = w) (fun x _ => n - (intOf x).toNat)
  case atStart => exact ⟨0, by omega, rfl, fun j hj => by omega, rfl⟩
  case round =>
    obtain ⟨i, hi, rfl, hno, rfl⟩ := hrel
    have HNO := hide hno
    by_cases hlt : i < n
    · obtain ⟨b, hb⟩ : ∃ b, b = (if a + i < n then a + i else a + i - n) := ⟨_, rfl⟩
      have hbn : b < n := by rw [hb]; split <;> omega
      obtain ⟨v, hv⟩ := get_ex (show b < M.s.length by have := unhide HN; omega)
      have cs := unhide HS b v hv
      have zb := unhide zq b
      have HB := hide hb
      have HV := hide hv
      clear hno hv
      have hrem : ((a : Int) + (i : Int)) % (n : Int) = (((a + i) % n : Nat) : Int) := by rw [Int.natCast_emod, Int.natCast_add]
      by_cases hz : v = 0
      · subst hz
        have HPK : Hid (pk M.s a = b) := hide (by
          rw [unhide HB]
          exact pk_at (unhide HN) ha hlt (unhide HNO) (by rw [← unhide HB]; exact unhide HV))
        have HR1 := hide ((unhide HH).setS b 2)
        have HTO := hide (unhide HR1).tO
        rw [unhide HTS, ← unhide HTL] at HTO
        by_cases hw : a + i < n
        · rw [if_pos hw] at hb
          have b1 : decide (n ≤ a + i) = false := by simp; omega
          have hm : ((a : Int) + (i : Int)) % (n : Int) = (b : Int) := by rw [hrem, Nat.mod_eq_of_lt hw, hb]
          clear hrem hb
          go_wp2_with (at_builtin; refine wpList_app rfl (.tmp 61) (.tmp 63) 51 rfl 3 inf _ 1 8 Try.underlying51 hi0 hz0 hz1 hz2 rfl (by decide) (.slice tao tl tc) tl (ivs M.t) rfl (.slice (some ⟨wr.heap.size, 0, none⟩) 1 1) rfl 1 [.int .i64 (b : Int)] ((unhide HTO).alloc _) (one_cellS wr _ _ _ 3) (fun u hu => by simp at hu; subst hu; rfl) (by omega) (by simp only [maxLen]; omega) ?_)
          intro ao4 ac4 w4 o4 g4 p4
          obtain ⟨d1, z1, HE⟩ := (unhide HH).tkEnd b 2 (unhide HTL) hlt2 (unhide HTS) _ o4 g4 p4
          have HE := hide HE
          clear o4 g4 p4
          go_wp2_with fail
          go_ret
          rw [unhide HPK]
          exact ⟨rfl, unhide HE⟩
        · rw [if_neg hw] at hb
          have b1 : decide (n ≤ a + i) = true := by simp; omega
          have hm : (a : Int) + (i : Int) - (n : Int) = (b : Int) := by omega
          have hr0 : n ≠ 0 := by omega
          clear hrem hb
          go_wp2_with (at_builtin; refine wpList_app rfl (.tmp 61) (.tmp 63) 51 rfl 3 inf _ 1 8 Try.underlying51 hi0 hz0 hz1 hz2 rfl (by decide) (.slice tao tl tc) tl (ivs M.t) rfl (.slice (some ⟨wr.heap.size, 0, none⟩) 1 1) rfl 1 [.int .i64 (b : Int)] ((unhide HTO).alloc _) (one_cellS wr _ _ _ 3) (fun u hu => by simp at hu; subst hu; rfl) (by omega) (by simp only [maxLen]; omega) ?_)
          intro ao4 ac4 w4 o4 g4 p4
          obtain ⟨d1, z1, HE⟩ := (unhide HH).tkEnd b 2 (unhide HTL) hlt2 (unhide HTS) _ o4 g4 p4
          have HE := hide HE
          clear o4 g4 p4
          go_wp2_with fail
          go_ret
          rw [unhide HPK]
          exact ⟨rfl, unhide HE⟩
      · have b0 : (((v.toNat : Nat) : Int) == 0) = false := by
          simp only [beq_eq_false_iff_ne, ne_eq]
          exact fun e => hz (toNat_zero.1 (by omega))
        have HNX : Hid (∀ j, j < i + 1 → ¬ M.s[if a + j < n then a + j else a + j - n]? = some 0) := hide (fun j hj => by
          by_cases e : j = i
          · subst e
            rw [← unhide HB, unhide HV]
            simpa using hz
          · exact unhide HNO j (by omega))
        generalize v.toNat = vn at *
        by_cases hw : a + i < n
        · rw [if_pos hw] at hb
          have b1 : decide (n ≤ a + i) = false := by simp; omega
          have hm : ((a : Int) + (i : Int)) % (n : Int) = (b : Int) := by rw [hrem, Nat.mod_eq_of_lt hw, hb]
          clear hrem hb hz
          go_wp2_with fail
          go_roundw
          case rel => exact ⟨i + 1, by omega, by go_num, unhide HNX, trivial⟩
          case measure => simp [intOf]; omega
        · rw [if_neg hw] at hb
          have b1 : decide (n ≤ a + i) = true := by simp; omega
          have hm : (a : Int) + (i : Int) - (n : Int) = (b : Int) := by omega
          clear hrem hb hz
          go_wp2_with fail
          go_roundw
          case rel => exact ⟨i + 1, by omega, by go_num, unhide HNX, trivial⟩
          case measure => simp [intOf]; omega
    · exfalso
      obtain ⟨b, hb⟩ := fr_free (unhide HFR)
      have hbn := (List.getElem?_eq_some_iff.1 hb).1
      have hN := unhide HN
      by_cases hab : a ≤ b
      · have := hno (b - a) (by omega)
        rw [if_pos (by omega), show a + (b - a) = b by omega] at this
        exact this hb
      · have := hno (b + n - a) (by omega)
        rw [if_neg (by omega), show a + (b + n - a) - n = b by omega] at this
        exact this hb
end
end Go.Proofs.Ytbpajilglfabbaa
