/-
  The walks of package xdr's Reader, function by function.
-/
import Derived.Test.YtmnbdpdblpgnlaaWr2
import Derived.Deep.QuietTactic
import Derived.BigQuiet
namespace Go.Proofs.Ytmnbdpdblpgnlaa
open Go.RowKit
set_option linter.unusedVariables false

attribute [local go_sem ↓] Go.wp_at_zero Go.wp_at_succ

/-- Only the tape has gone on. -/
structure Qt (w w' : World) : Prop where
  os : w'.os = w.os
  tape : w'.tape = w.tape
  output : w'.output = w.output
  heap : w'.heap = w.heap

theorem Qt.refl (w : World) : Qt w w := ⟨rfl, rfl, rfl, rfl⟩
theorem Qt.trans {a b c : World} (h : Qt a b) (k : Qt b c) : Qt a c := ⟨k.os.trans h.os, k.tape.trans h.tape, k.output.trans h.output, k.heap.trans h.heap⟩
theorem Qt.fr {w w' : World} (h : Qt w w') (S : Nat → Prop) : Fr S w w' := ⟨h.os, h.tape, h.output, by rw [h.heap]; exact Nat.le_refl _, fun k _ _ => by rw [h.heap]⟩
theorem Qt.drew (w : World) : Qt w w.drew := ⟨rfl, rfl, rfl, rfl⟩
theorem Qt.drewN (w : World) (n : Nat) : Qt w (w.drewN n) := ⟨rfl, rfl, rfl, rfl⟩

/-- A reader lies at block p, its bytes D in block q (if any): at is the place, E the error. -/
def RAt (w : World) (p : Nat) (q : Option Nat) (D : List UInt8) (at' : Nat) (E : Int) : Prop :=
  ∃ v, w.heap[p]? = some (.cells #[v, .int .i64 (at' : Int), .int .i64 E] 86 (0, 0)) ∧ v.ownBlock = q ∧ w.ownsRow 0 5 1 v D.length (bvs D) ∧ at' ≤ D.length

theorem RAt.cell0 {w : World} {p : Nat} {a b c : Value} (h : w.heap[p]? = some (.cells #[a, b, c] 86 (0, 0))) : w.cell? ⟨p, 0, none⟩ = some a := by rw [cell_of_heap h]; rfl
theorem RAt.cell1 {w : World} {p : Nat} {a b c : Value} (h : w.heap[p]? = some (.cells #[a, b, c] 86 (0, 0))) : w.cell? ⟨p, 1, none⟩ = some b := by rw [cell_of_heap h]; rfl
theorem RAt.cell2 {w : World} {p : Nat} {a b c : Value} (h : w.heap[p]? = some (.cells #[a, b, c] 86 (0, 0))) : w.cell? ⟨p, 2, none⟩ = some c := by rw [cell_of_heap h]; rfl

theorem RAt.apart {w : World} {p : Nat} {v b c : Value} {n : Nat} {xs : List Value} (h : w.heap[p]? = some (.cells #[v, b, c] 86 (0, 0))) (ho : w.ownsRow 0 5 1 v n xs) : ¬ v.ownBlock = some p := by
  intro e
  rcases ho.2 with ⟨rfl, _⟩ | ⟨g, cap, cur, rfl, _, hg, _⟩
  · simp [Value.ownBlock] at e
  · simp only [Value.ownBlock, Option.some.injEq] at e
    subst e
    rw [hg] at h
    simp at h

theorem RAt.kept {w w' : World} {p : Nat} {q : Option Nat} {D : List UInt8} {a : Nat} {E : Int} {S : Nat → Prop} (h : RAt w p q D a E) (f : Fr S w w') (hp : ¬ S p) (hq : ∀ k, q = some k → ¬ S k) : RAt w' p q D a E := by
  obtain ⟨v, h1, h2, h3, h5⟩ := h
  refine ⟨v, by rw [f.block p (lt_of_heap h1) hp]; exact h1, h2, ⟨h3.1, ?_⟩, h5⟩
  rcases h3.2 with h4 | ⟨g, cap, cur, rfl, hb, hg, r⟩
  · exact .inl h4
  · exact .inr ⟨g, cap, cur, rfl, hb, by rw [f.block g (lt_of_heap hg) (hq g h2.symm)]; exact hg, r⟩

theorem RAt.lt {w : World} {p : Nat} {q : Option Nat} {D : List UInt8} {a : Nat} {E : Int} (h : RAt w p q D a E) : p < w.heap.size ∧ ∀ k, q = some k → k < w.heap.size := by
  obtain ⟨v, h1, h2, h3, _⟩ := h
  exact ⟨lt_of_heap h1, fun k e => (h3.lt k (h2.trans e)).2⟩

theorem RAt.ne {w : World} {p : Nat} {q : Option Nat} {D : List UInt8} {a : Nat} {E : Int} (h : RAt w p q D a E) : ¬ q = some p := by
  obtain ⟨v, h1, h2, h3, _⟩ := h
  rw [← h2]; exact RAt.apart h1 h3

/-- A store of place and error into the reader. -/
theorem RAt.put {w : World} {p : Nat} {q : Option Nat} {D : List UInt8} {v : Value} {x y : Value} (h1 : w.heap[p]? = some (.cells #[v, x, y] 86 (0, 0))) (h2 : v.ownBlock = q) (h3 : w.ownsRow 0 5 1 v D.length (bvs D)) (w' : World) (a' : Nat) (E' : Int)
    (hw : w'.heap[p]? = some (.cells #[v, .int .i64 (a' : Int), .int .i64 E'] 86 (0, 0))) (f : Fr (fun k => k = p) w w') (ha : a' ≤ D.length) : RAt w' p q D a' E' := by
  have hne := RAt.apart h1 h3
  refine ⟨v, hw, h2, ⟨h3.1, ?_⟩, ha⟩
  rcases h3.2 with h4 | ⟨g, cap, cur, rfl, hb, hg, r⟩
  · exact .inl h4
  · exact .inr ⟨g, cap, cur, rfl, hb, by rw [f.block g (lt_of_heap hg) (fun e => hne (by simp [Value.ownBlock, e]))]; exact hg, r⟩

theorem rstuck_nil (w : World) : Calls Try.prog 75 #[.pointer none] w fun e w' => e = .returned (.bool true) ∧ w = w' := by
  go_enter Try.func75, Try.ntmps75
  go_wp2
  go_ret
  exact ⟨rfl, rfl⟩

theorem rstuck_any (w : World) (p : Nat) (E : Int) (h : w.cell? ⟨p, 2, none⟩ = some (.int .i64 E)) : Calls Try.prog 75 #[.pointer (some ⟨p, 0, none⟩)] w fun e w' => e = .returned (.bool (E != 0)) ∧ w = w' := by
  go_enter Try.func75, Try.ntmps75
  go_wp2
  go_ret
  exact ⟨rfl, rfl⟩

theorem at_nil (w : World) : Calls Try.prog 19 #[.pointer none] w fun e w' => e = .returned (.int .i64 0) ∧ w = w' := by
  go_enter Try.func19, Try.ntmps19
  go_wp2
  go_ret
  exact ⟨rfl, rfl⟩

theorem at_any (w : World) (p : Nat) (a : Int) (h : w.cell? ⟨p, 1, none⟩ = some (.int .i64 a)) : Calls Try.prog 19 #[.pointer (some ⟨p, 0, none⟩)] w fun e w' => e = .returned (.int .i64 a) ∧ w = w' := by
  go_enter Try.func19, Try.ntmps19
  go_wp2
  go_ret
  exact ⟨rfl, rfl⟩

theorem left_nil (w : World) : Calls Try.prog 20 #[.pointer none] w fun e w' => e = .returned (.int .i64 0) ∧ w = w' := by
  go_enter Try.func20, Try.ntmps20
  go_wp2
  go_ret
  exact ⟨rfl, rfl⟩

theorem left_any (w : World) (p : Nat) (a n : Nat) (ao : Option Addr) (cap : Nat) (h0 : w.cell? ⟨p, 0, none⟩ = some (.slice ao n cap)) (h : w.cell? ⟨p, 1, none⟩ = some (.int .i64 (a : Int))) (ha : a ≤ n) (hn : n ≤ maxLen) :
    Calls Try.prog 20 #[.pointer (some ⟨p, 0, none⟩)] w fun e w' => e = .returned (.int .i64 ((n : Int) - (a : Int))) ∧ Qt w w' := by
  unfold maxLen at hn
  go_enter Try.func20, Try.ntmps20
  go_wp2
  go_quiet (fail)
  go_wp2
  go_ret
  exact ⟨rfl, Qt.drewN _ _⟩

theorem fail_nil (w : World) (why a : Int) : Calls Try.prog 76 #[.pointer none, .int .i64 why, .int .i64 a] w fun e w' => e = .returned (.tuple #[]) ∧ w = w' := by
  go_enter Try.func76, Try.ntmps76
  go_wp2_with (go_at_call 75; refine (rstuck_nil _).mono ?_; rintro e w' ⟨rfl, rfl⟩)
  exact bodyPost_ret (results_none rfl _ _ _) rfl ⟨rfl, rfl⟩

theorem fail_er (w : World) (p : Nat) (E why a : Int) (h : w.cell? ⟨p, 2, none⟩ = some (.int .i64 E)) (hE : E ≠ 0) : Calls Try.prog 76 #[.pointer (some ⟨p, 0, none⟩), .int .i64 why, .int .i64 a] w fun e w' => e = .returned (.tuple #[]) ∧ w = w' := by
  have hb : (E != 0) = true := by simpa using hE
  go_enter Try.func76, Try.ntmps76
  go_wp2_with (go_at_call 75; refine (rstuck_any _ _ E h).mono ?_; rintro e w' ⟨rfl, rfl⟩)
  exact bodyPost_ret (results_none rfl _ _ _) rfl ⟨rfl, rfl⟩

theorem fail_ok (w : World) (p : Nat) (q : Option Nat) (D : List UInt8) (a : Nat) (why : Int) (a' : Nat) (h : RAt w p q D a 0) (ha : a' ≤ D.length) :
    Calls Try.prog 76 #[.pointer (some ⟨p, 0, none⟩), .int .i64 why, .int .i64 (a' : Int)] w fun e w' => e = .returned (.tuple #[]) ∧ RAt w' p q D a' why ∧ Fr (fun k => k = p) w w' := by
  obtain ⟨v, h1, h2, h3, h5⟩ := h
  have c1 := RAt.cell1 h1
  have c2 := RAt.cell2 h1
  have z1 := frozen_of_heap h1 1
  have z2 := frozen_of_heap h1 2
  have H1 := hide h1
  clear h1
  go_enter Try.func76, Try.ntmps76
  go_wp2_with (go_at_call 75; refine (rstuck_any _ _ 0 c2).mono ?_; rintro e w' ⟨rfl, rfl⟩)
  go_end0
  have e1 : ((w.setCell ⟨p, 2, none⟩ (.int .i64 why)).setCell ⟨p, 1, none⟩ (.int .i64 (a' : Int))).heap[p]? = some (.cells #[v, .int .i64 (a' : Int), .int .i64 why] 86 (0, 0)) :=
    heap_setCell_same _ p 1 _ 86 _ (heap_setCell_same w p 2 _ 86 _ (unhide H1))
  have f : Fr (fun k => k = p) w ((w.setCell ⟨p, 2, none⟩ (.int .i64 why)).setCell ⟨p, 1, none⟩ (.int .i64 (a' : Int))) := ((Fr.refl (fun k => k = p) w).setCell (fun _ => rfl) _).setCell (fun _ => rfl) _
  exact ⟨rfl, RAt.put (unhide H1) h2 h3 _ a' why e1 f ha, f⟩

/-- take, where nothing is to be taken. -/
theorem take_no (w : World) (r : Value) (n a : Int) (hn : n ≤ 0) : Calls Try.prog 73 #[r, .int .i64 n, .int .i64 a] w fun e w' => e = .returned (.slice none 0 0) ∧ w = w' := by
  go_enter Try.func73, Try.ntmps73
  go_wp2
  go_ret
  exact ⟨rfl, rfl⟩

theorem take_nil (w : World) (n a : Int) : Calls Try.prog 73 #[.pointer none, .int .i64 n, .int .i64 a] w fun e w' => e = .returned (.slice none 0 0) ∧ w = w' := by
  by_cases hn : n ≤ 0
  · exact take_no w _ n a hn
  · go_enter Try.func73, Try.ntmps73
    go_wp2_with (go_at_call 75; refine (rstuck_nil _).mono ?_; rintro e w' ⟨rfl, rfl⟩)
    go_ret
    exact ⟨rfl, rfl⟩

theorem take_er (w : World) (p : Nat) (n a E : Int) (h : w.cell? ⟨p, 2, none⟩ = some (.int .i64 E)) (hE : E ≠ 0) : Calls Try.prog 73 #[.pointer (some ⟨p, 0, none⟩), .int .i64 n, .int .i64 a] w fun e w' => e = .returned (.slice none 0 0) ∧ w = w' := by
  by_cases hn : n ≤ 0
  · exact take_no w _ n a hn
  · have hb : (E != 0) = true := by simpa using hE
    go_enter Try.func73, Try.ntmps73
    go_wp2_with (go_at_call 75; refine (rstuck_any _ _ E h).mono ?_; rintro e w' ⟨rfl, rfl⟩)
    go_ret
    exact ⟨rfl, rfl⟩

set_option maxHeartbeats 400000 in
theorem take_short (w : World) (p : Nat) (q : Option Nat) (D : List UInt8) (at' n fr : Nat) (h : RAt w p q D at' 0) (hn0 : 0 < n) (hn : n ≤ 9223372036854775807) (hD : D.length ≤ maxLen) (hs : D.length - at' < n + (4 - n % 4) % 4) (hfr : fr ≤ D.length) :
    Calls Try.prog 73 #[.pointer (some ⟨p, 0, none⟩), .int .i64 (n : Int), .int .i64 (fr : Int)] w fun e w' => e = .returned (.slice none 0 0) ∧ RAt w' p q D fr 3 ∧ Fr (fun k => k = p) w w' := by
  unfold maxLen at hD
  obtain ⟨v, h1, h2, h3, h5⟩ := id h
  obtain ⟨ao, cap, rfl⟩ := owns_shape h3
  have c0 := RAt.cell0 h1
  have c1 := RAt.cell1 h1
  have c2 := RAt.cell2 h1
  clear h1 h2 h3
  obtain ⟨pd, hpd, hpd4, hcon⟩ : ∃ pd, (4 - n % 4) % 4 = pd ∧ pd < 4 ∧ ∀ wx, Calls Try.prog 68 #[.int .i64 (n : Int)] wx fun e w' => e = .returned (.int .i64 (pd : Int)) ∧ wx = w' :=
    ⟨_, rfl, Nat.mod_lt _ (by omega), fun wx => padding_any wx n (by unfold maxLen; omega)⟩
  rw [hpd] at hs
  have HC := hide hcon
  clear hcon hpd
  by_cases hc : (D.length : Int) - (at' : Int) < (n : Int)
  · go_enter Try.func73, Try.ntmps73
    go_wp2_with (first | (go_at_call 75; refine (rstuck_any _ _ 0 c2).mono ?_; rintro e w' ⟨rfl, rfl⟩) | (go_at_call 68; refine (unhide HC _).mono ?_; rintro e w' ⟨rfl, rfl⟩) | (go_at_call 20; refine (left_any _ p at' D.length ao cap c0 c1 h5 (by unfold maxLen; omega)).mono ?_; rintro e w' ⟨rfl, hq⟩) | (go_at_call 76; refine (fail_ok _ p q D at' 3 fr (h.kept (hq.fr (fun _ => False)) id (fun _ _ h => h)) hfr).mono ?_; rintro e w2 ⟨rfl, hr2, hf2⟩))
    go_ret
    exact ⟨rfl, hr2, (hq.fr _).trans hf2 (fun _ _ h => h)⟩
  · have hc2 : (D.length : Int) - (at' : Int) - (n : Int) < (pd : Int) := by omega
    go_enter Try.func73, Try.ntmps73
    go_wp2_with (first | (go_at_call 75; refine (rstuck_any _ _ 0 c2).mono ?_; rintro e w' ⟨rfl, rfl⟩) | (go_at_call 68; refine (unhide HC _).mono ?_; rintro e w' ⟨rfl, rfl⟩) | (go_at_call 20; refine (left_any _ p at' D.length ao cap c0 c1 h5 (by unfold maxLen; omega)).mono ?_; rintro e w' ⟨rfl, hq⟩) | (go_at_call 76; refine (fail_ok _ p q D at' 3 fr (h.kept (hq.fr (fun _ => False)) id (fun _ _ h => h)) hfr).mono ?_; rintro e w2 ⟨rfl, hr2, hf2⟩))
    go_ret
    exact ⟨rfl, hr2, (hq.fr _).trans hf2 (fun _ _ h => h)⟩

set_option maxHeartbeats 400000 in
theorem take_ok (w : World) (p : Nat) (q : Option Nat) (D : List UInt8) (at' n fr : Nat) (h : RAt w p q D at' 0) (hn0 : 0 < n) (hD : D.length ≤ maxLen) (hs : n + (4 - n % 4) % 4 ≤ D.length - at') (hz : (D.drop (at' + n)).take ((4 - n % 4) % 4) = pad n) :
    Calls Try.prog 73 #[.pointer (some ⟨p, 0, none⟩), .int .i64 (n : Int), .int .i64 (fr : Int)] w fun e w' => ∃ v, e = .returned v ∧ Rd w' v ((D.drop at').take n) ∧ v.ownBlock = q ∧ RAt w' p q D (at' + n + (4 - n % 4) % 4) 0 ∧ Fr (fun k => k = p) w w' := by
  unfold maxLen at hD
  obtain ⟨v, h1, h2, h3, h5⟩ := id h
  obtain ⟨g, cap, rfl⟩ : ∃ g cap, v = .slice (some ⟨g, 0, none⟩) D.length cap := by
    rcases h3.2 with ⟨_, e⟩ | ⟨g, cap, _, e, _⟩
    · omega
    · exact ⟨g, cap, e⟩
  have hcap : D.length ≤ cap ∧ cap ≤ maxLen := by
    rcases h3.2 with ⟨e, _⟩ | ⟨_, _, _, e, _, _, h6, h7, _⟩
    · simp at e
    · simp at e; obtain ⟨_, rfl⟩ := e; exact ⟨h6, h7⟩
  have c0 := RAt.cell0 h1
  have c1 := RAt.cell1 h1
  have c2 := RAt.cell2 h1
  obtain ⟨pd, hpd, hpd4, hcon⟩ : ∃ pd, (4 - n % 4) % 4 = pd ∧ pd < 4 ∧ ∀ wx, Calls Try.prog 68 #[.int .i64 (n : Int)] wx fun e w' => e = .returned (.int .i64 (pd : Int)) ∧ wx = w' :=
    ⟨_, rfl, Nat.mod_lt _ (by omega), fun wx => padding_any wx n (by unfold maxLen; omega)⟩
  have hzb : ∀ j, j < pd → w.cell? ⟨g, at' + n + j, none⟩ = some (.int .u8 0) := by
    intro j hj
    have hlt : at' + n + j < D.length := by omega
    have hc := h3.cellAt (at' + n + j) (by omega)
    rw [hc, bvs_get D _ hlt]
    have hg : ((D.drop (at' + n)).take pd)[j]? = some 0 := by
      rw [← hpd, hz]; unfold pad; rw [hpd]; simp [hj]
    rw [List.getElem?_take, if_pos hj, List.getElem?_drop, List.getElem?_eq_getElem hlt] at hg
    simp at hg
    rw [hg]; rfl
  rw [hpd] at hs ⊢
  have HC := hide hcon
  have H1 := hide h1
  have H3 := hide h3
  clear hcon hpd hz h1 h3
  have hs1 : (n : Int) ≤ (D.length : Int) - (at' : Int) := by omega
  have hs2 : (pd : Int) ≤ (D.length : Int) - (at' : Int) - (n : Int) := by omega
  have hm := hcap.2
  unfold maxLen at hm
  go_enter Try.func73, Try.ntmps73
  go_wp2_with (first | (go_at_call 75; refine (rstuck_any _ _ 0 c2).mono ?_; rintro e w' ⟨rfl, rfl⟩) | (go_at_call 68; refine (unhide HC _).mono ?_; rintro e w' ⟨rfl, rfl⟩))
  refine (left_any _ p at' D.length _ cap c0 c1 h5 (by unfold maxLen; omega)).mono ?_
  rintro e w1 ⟨rfl, hq⟩
  have d0 : w1.cell? ⟨p, 0, none⟩ = some (.slice (some ⟨g, 0, none⟩) D.length cap) := by rw [World.cell?_of_block (w := w) (by rw [hq.heap])]; exact c0
  have d1 : w1.cell? ⟨p, 1, none⟩ = some (.int .i64 (at' : Int)) := by rw [World.cell?_of_block (w := w) (by rw [hq.heap])]; exact c1
  have y1 : w1.frozen? ⟨p, 1, none⟩ = false := by rw [World.frozen?_of_block (w := w) (by rw [hq.heap])]; exact frozen_of_heap (unhide H1) 1
  have dz : ∀ j, j < pd → w1.cell? ⟨g, at' + n + j, none⟩ = some (.int .u8 0) := by intro j hj; rw [World.cell?_of_block (w := w) (by rw [hq.heap])]; exact hzb j hj
  have hc1 := hcap.1
  clear c0 c1 c2 hzb hcap
  have hca : ¬ cap = at' := by omega
  have hrd : Rd w1 (.slice (some ⟨g, at', none⟩) n (cap - at')) ((D.drop at').take n) := by
    have hln : ((D.drop at').take n).length = n := by simp; omega
    refine Rd.lit hln (by omega) (by unfold maxLen; omega) fun j hj => ?_
    rw [World.cell?_of_block (w := w) (by rw [hq.heap]), World.ownsRow.cellAt (unhide H3) (at' + j) (by omega), bvs_get D _ (by omega)]
    simp
  have HR := hide hrd
  clear hrd
  have fin : ∀ (W : World) (X : Int) (m c : Nat), Qt w1 W → X = (at' : Int) + (n : Int) + (pd : Int) → m = n → c = cap - at' → ∃ v, Ending.returned (.slice (some ⟨g, at', none⟩) m c) = .returned v ∧ Rd (W.setCell ⟨p, 1, none⟩ (.int .i64 X)) v ((D.drop at').take n) ∧ v.ownBlock = q ∧ RAt (W.setCell ⟨p, 1, none⟩ (.int .i64 X)) p q D (at' + n + pd) 0 ∧ Fr (fun k => k = p) w (W.setCell ⟨p, 1, none⟩ (.int .i64 X)) := by
    intro W X m c hW hX hm' hc'
    rw [hX, hm', hc']
    clear hX hm' hc' X m c
    have hne : ¬ g = p := fun e => RAt.apart (unhide H1) (unhide H3) (by simp [Value.ownBlock, e])
    have f : Fr (fun k => k = p) w (W.setCell ⟨p, 1, none⟩ (.int .i64 ((at' : Int) + (n : Int) + (pd : Int)))) := ((hq.trans hW).fr (fun k => k = p)).setCell (fun _ => rfl) _
    have f1 : Fr (fun k => k = p) w1 (W.setCell ⟨p, 1, none⟩ (.int .i64 ((at' : Int) + (n : Int) + (pd : Int)))) := (hW.fr (fun k => k = p)).setCell (fun _ => rfl) _
    refine ⟨_, rfl, (unhide HR).kept f1 (fun b hb e => hne (by simp [Value.ownBlock] at hb; rw [hb, e])), by rw [← h2]; rfl, ?_, f⟩
    refine RAt.put (unhide H1) h2 (unhide H3) _ (at' + n + pd) 0 ?_ f (by omega)
    have e1 : W.heap[p]? = some (.cells #[.slice (some ⟨g, 0, none⟩) D.length cap, .int .i64 (at' : Int), .int .i64 0] 86 (0, 0)) := by rw [(hq.trans hW).heap]; exact unhide H1
    exact heap_setCell_same W p 1 _ 86 _ e1
  have FIN := hide fin
  clear fin
  by_cases hce : cap = at' + n
  · have hp0 : pd = 0 := by omega
    subst hp0
    clear dz
    go_wp2_with fail
    go_loop [52] (fun i => i = .int .i64 0) (fun _ => 0)
    case atStart => rfl
    case round =>
      subst hrel
      go_wp2_with fail
      go_quiet (fail)
      go_wp2_with fail
      go_ret
      exact unhide FIN _ _ _ _ (Qt.drewN _ _) (by omega) (by omega) (by omega)
  · go_wp2_with fail
    go_loop [52] (fun i => ∃ k : Nat, k ≤ pd ∧ i = .int .i64 k) (fun i => pd - (intOf i).toNat)
    case atStart => exact ⟨0, Nat.zero_le _, rfl⟩
    case round =>
      obtain ⟨k, hk, rfl⟩ := hrel
      by_cases hlt : k < pd
      · have hcell := dz k hlt
        go_wp2_with fail
        go_round
        case rel => exact ⟨k + 1, by omega, by go_num⟩
        case measure => simp [intOf]; omega
      · go_wp2_with fail
        go_quiet (fail)
        go_wp2_with fail
        go_ret
        exact unhide FIN _ _ _ _ (Qt.drewN _ _) (by omega) (by omega) (by omega)

set_option maxHeartbeats 400000 in
theorem take_pad (w : World) (p : Nat) (q : Option Nat) (D : List UInt8) (at' n fr : Nat) (h : RAt w p q D at' 0) (hn0 : 0 < n) (hD : D.length ≤ maxLen) (hs : n + (4 - n % 4) % 4 ≤ D.length - at') (hfr : fr ≤ D.length)
    (k0 : Nat) (hk0 : k0 < (4 - n % 4) % 4) (hbz : ∀ j (hj : j < D.length), at' + n ≤ j → j < at' + n + k0 → D[j] = 0) (hb0 : ∀ hj : at' + n + k0 < D.length, D[at' + n + k0] ≠ 0) :
    Calls Try.prog 73 #[.pointer (some ⟨p, 0, none⟩), .int .i64 (n : Int), .int .i64 (fr : Int)] w fun e w' => e = .returned (.slice none 0 0) ∧ RAt w' p q D fr 11 ∧ Fr (fun k => k = p) w w' := by
  unfold maxLen at hD
  obtain ⟨v, h1, h2, h3, h5⟩ := id h
  obtain ⟨g, cap, rfl⟩ : ∃ g cap, v = .slice (some ⟨g, 0, none⟩) D.length cap := by
    rcases h3.2 with ⟨_, e⟩ | ⟨g, cap, _, e, _⟩
    · omega
    · exact ⟨g, cap, e⟩
  have hcap : D.length ≤ cap ∧ cap ≤ maxLen := by
    rcases h3.2 with ⟨e, _⟩ | ⟨_, _, _, e, _, _, h6, h7, _⟩
    · simp at e
    · simp at e; obtain ⟨_, rfl⟩ := e; exact ⟨h6, h7⟩
  have c0 := RAt.cell0 h1
  have c1 := RAt.cell1 h1
  have c2 := RAt.cell2 h1
  obtain ⟨pd, hpd, hpd4, hcon⟩ : ∃ pd, (4 - n % 4) % 4 = pd ∧ pd < 4 ∧ ∀ wx, Calls Try.prog 68 #[.int .i64 (n : Int)] wx fun e w' => e = .returned (.int .i64 (pd : Int)) ∧ wx = w' :=
    ⟨_, rfl, Nat.mod_lt _ (by omega), fun wx => padding_any wx n (by unfold maxLen; omega)⟩
  rw [hpd] at hs hk0
  have hzb : ∀ j, j < k0 → w.cell? ⟨g, at' + n + j, none⟩ = some (.int .u8 0) := by
    intro j hj
    have hlt : at' + n + j < D.length := by omega
    have hc := h3.cellAt (at' + n + j) (by omega)
    rw [hc, bvs_get D _ hlt, hbz _ hlt (by omega) (by omega)]
    rfl
  obtain ⟨bv, hbv, hb1⟩ : ∃ bv : Int, w.cell? ⟨g, at' + n + k0, none⟩ = some (.int .u8 bv) ∧ (bv != 0) = true := by
    have hlt : at' + n + k0 < D.length := by omega
    have hc := h3.cellAt (at' + n + k0) (by omega)
    refine ⟨(D[at' + n + k0].toNat : Int), by rw [hc, bvs_get D _ hlt], ?_⟩
    have := hb0 hlt
    simp only [bne_iff_ne, ne_eq]
    intro e
    exact this (UInt8.toNat.inj (by simpa using e))
  have HC := hide hcon
  clear hcon hpd h1 h2 h3 hbz hb0
  have hs1 : (n : Int) ≤ (D.length : Int) - (at' : Int) := by omega
  have hs2 : (pd : Int) ≤ (D.length : Int) - (at' : Int) - (n : Int) := by omega
  have hm := hcap.2
  unfold maxLen at hm
  go_enter Try.func73, Try.ntmps73
  go_wp2_with (first | (go_at_call 75; refine (rstuck_any _ _ 0 c2).mono ?_; rintro e w' ⟨rfl, rfl⟩) | (go_at_call 68; refine (unhide HC _).mono ?_; rintro e w' ⟨rfl, rfl⟩))
  refine (left_any _ p at' D.length _ cap c0 c1 h5 (by unfold maxLen; omega)).mono ?_
  rintro e w1 ⟨rfl, hq⟩
  have d0 : w1.cell? ⟨p, 0, none⟩ = some (.slice (some ⟨g, 0, none⟩) D.length cap) := by rw [World.cell?_of_block (w := w) (by rw [hq.heap])]; exact c0
  have d1 : w1.cell? ⟨p, 1, none⟩ = some (.int .i64 (at' : Int)) := by rw [World.cell?_of_block (w := w) (by rw [hq.heap])]; exact c1
  have dz : ∀ j, j < k0 → w1.cell? ⟨g, at' + n + j, none⟩ = some (.int .u8 0) := by intro j hj; rw [World.cell?_of_block (w := w) (by rw [hq.heap])]; exact hzb j hj
  have db : w1.cell? ⟨g, at' + n + k0, none⟩ = some (.int .u8 bv) := by rw [World.cell?_of_block (w := w) (by rw [hq.heap])]; exact hbv
  have hc1 := hcap.1
  clear c0 c1 c2 hzb hcap hbv
  have hca : ¬ cap = at' := by omega
  have hce : ¬ cap = at' + n := by omega
  have HF := hide (fail_ok w1 p q D at' 11 fr (h.kept (hq.fr (fun _ => False)) id (fun _ _ h => h)) hfr)
  clear h
  go_wp2_with fail
  go_loop [52] (fun i => ∃ k : Nat, k ≤ k0 ∧ i = .int .i64 k) (fun i => pd - (intOf i).toNat)
  case atStart => exact ⟨0, Nat.zero_le _, rfl⟩
  case round =>
    obtain ⟨k, hk, rfl⟩ := hrel
    by_cases hlt : k < k0
    · have hcell := dz k hlt
      go_wp2_with fail
      go_round
      case rel => exact ⟨k + 1, by omega, by go_num⟩
      case measure => simp [intOf]; omega
    · obtain rfl : k = k0 := by omega
      go_wp2_with fail
      refine (unhide HF).mono ?_
      rintro e w2 ⟨rfl, hr2, hf2⟩
      go_wp2_with fail
      go_ret
      exact ⟨rfl, hr2, (hq.fr _).trans hf2 (fun _ _ h => h)⟩

end Go.Proofs.Ytmnbdpdblpgnlaa
