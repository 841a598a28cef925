/-
  The walk of package gf's Inverse.
-/
import Derived.Test.YtckmddkhkdcmmaaMk
namespace Go.Proofs.Ytckmddkhkdcmmaa
open Go.RowKit
set_option linter.unusedVariables false

attribute [local go_sem ↓] Go.wp_at_zero Go.wp_at_succ

/-- The identity's cells. -/
def eyeC (r c : Nat) : UInt8 := if r = c then 1 else 0

/-- The rows of a matrix with the identity beside them, cleared. -/
def invR (n : Nat) (l : List UInt8) : List (List UInt8) × Nat := redK (bsd l n n eyeC n) n
/-- The inverse's cells. -/
def invL (n : Nat) (l : List UInt8) : List UInt8 := fl n (fun r c => cel (invR n l).1 r (n + c)) (n * n)

theorem cf76 (args : Array Value) (W : World) : Sem.run Try.prog (callFunc 77 args) W = .ok (.enter 77 args) W := by simp [go_sem]

theorem inv1_any (w : World) (bL bn g m n : Nat) (bs : List Nat) (ls : List (List UInt8)) (r c : Nat) (hL : w.heap[bL]? = some (.cells #[.slice (some ⟨g, 0, none⟩) n n] 65 (0, 0))) (hn : w.heap[bn]? = some (.cells #[.int .i64 (n : Int)] 3 (0, 0))) (h : Ls w g bs m ls) (hb : bs.length = n) (hr : r < n) (hc : n + c < m) (hm : m ≤ 4096) :
    Calls Try.prog 77 #[.int .i64 (r : Int), .int .i64 (c : Int), .pointer (some ⟨bL, 0, none⟩), .pointer (some ⟨bn, 0, none⟩)] w fun e w' => e = .returned (.int .u8 (((cel ls r (n + c)).toNat : Nat) : Int)) ∧ ∃ k, w' = w.drewN k := by
  have c0 := cell_of_heap hL 0
  have c1 := cell_of_heap hn 0
  simp at c0 c1
  have c2 := h.cell r (by omega)
  have c3 := h.byte' r (n + c) (by omega) hc
  generalize bs[r] = b at *
  generalize cel ls r (n + c) = res at *
  obtain ⟨ij, hij⟩ : ∃ ij, n + c = ij := ⟨_, rfl⟩
  rw [hij] at c3 hc
  have e1 : (n : Int) + (c : Int) = (ij : Int) := by omega
  have e2 : IntKind.i64.wrap (ij : Int) = (ij : Int) := by rw [IntKind.wrap_i64]; omega
  clear hL hn h hb hij
  go_enter Try.func77, Try.ntmps77
  go_wp2_with fail
  go_quiet (fail)
  go_wp2_with fail
  go_ret
  exact ⟨rfl, _, rfl⟩

theorem zeroM (w : World) : MAt w (.agg #[.int .i64 0, .int .i64 0, .slice none 0 0]) 0 0 [] := ⟨_, rfl, Rd.nil w⟩
theorem zeroN (w : World) : New w (.agg #[.int .i64 0, .int .i64 0, .slice none 0 0]) := by
  intro r' c' v b e hb
  simp at e
  obtain ⟨-, -, rfl⟩ := e
  simp [Value.ownBlock] at hb

theorem two_allocs (w : World) (A B : Array Value) : ((w.alloc (Obj.cells A 24)).alloc (Obj.cells B 24)).heap[w.heap.size]? = some (.cells A 24 (0, 0)) ∧ ((w.alloc (Obj.cells A 24)).alloc (Obj.cells B 24)).heap[w.heap.size + 1]? = some (.cells B 24 (0, 0)) := by
  constructor
  · rw [Below.heap_alloc _ _ _ (by simp)]; exact heap_alloc_new w _
  · have := heap_alloc_new (w.alloc (Obj.cells A 24)) (Obj.cells B 24)
    simpa using this

set_option maxHeartbeats 1000000 in
set_option maxRecDepth 100000 in
theorem inverse_check (w : World) (r c : Int) (v : Value) (l : List UInt8) (hv : Rd w v l) (hc : chk r c l.length ≠ 0) :
    Calls Try.prog 19 #[.agg #[.int .i64 r, .int .i64 c, v]] w fun e w' => e = .returned (.tuple #[.agg #[.int .i64 0, .int .i64 0, .slice none 0 0], .int .i64 (chk r c l.length)]) ∧ Fr (fun _ => False) w w' := by
  obtain ⟨ao, cap, rfl⟩ := hv.shape
  clear hv
  have hne : (chk r c l.length != 0) = true := by simpa using hc
  have HN := hide hne
  clear hne hc
  go_enter Try.func19, Try.ntmps19
  go_wp2_with fail
  refine (check_any _ _ _ _ _ _).mono ?_
  rintro e w1 ⟨rfl, f1⟩
  have T := two_allocs w #[.int .i64 r, .int .i64 c, .slice ao l.length cap] #[.int .i64 0, .int .i64 0, .slice none 0 0]
  have hb1 := (f1.block _ (lt_of_heap T.2) id).trans T.2
  have F1 := hide ((((Fr.refl (fun _ => False) w).alloc _).alloc _).trans f1 (fun _ _ h => h))
  have hlt := lt_of_heap hb1
  have c0 := cell_of_heap hb1 0
  have c1 := cell_of_heap hb1 1
  have c2 := cell_of_heap hb1 2
  have z0 := frozen_of_heap hb1
  simp at c0 c1 c2
  have hne := unhide HN
  clear T f1 hb1
  go_wp2_with fail
  have f3 := fr_three w1 (w.heap.size + 1) (.int .i64 0) (.int .i64 0) (.slice none 0 0)
  refine bodyPost_ret (v := .tuple #[.agg #[.int .i64 0, .int .i64 0, .slice none 0 0], .int .i64 (chk r c l.length)]) (by simp [results, Try.results19, go_sem, c0, c1, c2]) rfl ⟨rfl, (unhide F1).trans f3 (fun i hi h => by omega)⟩

set_option maxHeartbeats 1000000 in
set_option maxRecDepth 100000 in
theorem inverse_side (w : World) (r c : Int) (v : Value) (l : List UInt8) (hv : Rd w v l) (hc : chk r c l.length = 0) (hrc : r ≠ c) :
    Calls Try.prog 19 #[.agg #[.int .i64 r, .int .i64 c, v]] w fun e w' => e = .returned (.tuple #[.agg #[.int .i64 0, .int .i64 0, .slice none 0 0], .int .i64 23]) ∧ Fr (fun _ => False) w w' := by
  obtain ⟨ao, cap, rfl⟩ := hv.shape
  clear hv
  have hne : (r != c) = true := by simpa using hrc
  have HN := hide hne
  have HC := hide hc
  clear hne hc hrc
  go_enter Try.func19, Try.ntmps19
  go_wp2_with fail
  refine (check_any _ _ _ _ _ _).mono ?_
  rintro e w1 ⟨rfl, f1⟩
  rw [unhide HC]
  have T := two_allocs w #[.int .i64 r, .int .i64 c, .slice ao l.length cap] #[.int .i64 0, .int .i64 0, .slice none 0 0]
  have ha1 := (f1.block _ (lt_of_heap T.1) id).trans T.1
  have hb1 := (f1.block _ (lt_of_heap T.2) id).trans T.2
  have F1 := hide ((((Fr.refl (fun _ => False) w).alloc _).alloc _).trans f1 (fun _ _ h => h))
  have hlt := lt_of_heap hb1
  have c0 := cell_of_heap hb1 0
  have c1 := cell_of_heap hb1 1
  have c2 := cell_of_heap hb1 2
  have a0 := cell_of_heap ha1 0
  have a1 := cell_of_heap ha1 1
  have z0 := frozen_of_heap hb1
  simp at c0 c1 c2 a0 a1
  have hne := unhide HN
  clear T f1 hb1 ha1
  go_wp2_with fail
  have f3 := fr_three w1 (w.heap.size + 1) (.int .i64 0) (.int .i64 0) (.slice none 0 0)
  refine bodyPost_ret (v := .tuple #[.agg #[.int .i64 0, .int .i64 0, .slice none 0 0], .int .i64 23]) (by simp [results, Try.results19, go_sem, c0, c1, c2]) rfl ⟨rfl, (unhide F1).trans f3 (fun i hi h => by omega)⟩

set_option maxHeartbeats 2000000 in
set_option maxRecDepth 100000 in
theorem inverse_sq (w : World) (n : Nat) (v : Value) (l : List UInt8) (hv : Rd w v l) (hl : l.length = n * n) (h1 : 1 ≤ n ∧ n ≤ 64) :
    Calls Try.prog 19 #[.agg #[.int .i64 (n : Int), .int .i64 (n : Int), v]] w fun e w' => (∃ val, e = .returned (.tuple #[val, .int .i64 (if (invR n l).2 < n then 22 else 0)]) ∧ (if (invR n l).2 < n then MAt w' val 0 0 [] else MAt w' val n n (invL n l)) ∧ New w val) ∧ Fr (fun _ => False) w w' := by
  have hck : chk n n l.length = 0 := by
    unfold chk sideB
    rw [if_pos ⟨by simp; omega, by simp; omega⟩, if_pos (by rw [hl]; simp)]
  obtain ⟨ao, cap, rfl⟩ := hv.shape
  have HV := hide hv
  have HL := hide hl
  have HCK := hide hck
  clear hv hl hck
  go_enter Try.func19, Try.ntmps19
  go_wp2_with fail
  refine (check_any _ _ _ _ _ _).mono ?_
  rintro e w1 ⟨rfl, f1⟩
  rw [unhide HCK]
  have T := two_allocs w #[.int .i64 (n : Int), .int .i64 (n : Int), .slice ao l.length cap] #[.int .i64 0, .int .i64 0, .slice none 0 0]
  have ha1 := (f1.block _ (lt_of_heap T.1) id).trans T.1
  have hb1 := (f1.block _ (lt_of_heap T.2) id).trans T.2
  have F1 := (((Fr.refl (fun _ => False) w).alloc _).alloc _).trans f1 (fun _ _ h => h)
  have a0 := cell_of_heap ha1 0
  have a1 := cell_of_heap ha1 1
  have a2 := cell_of_heap ha1 2
  simp at a0 a1 a2
  have hlt := lt_of_heap hb1
  have hv2 := (unhide HV).kept (F1.alloc (Obj.cells #[.int .i64 (n : Int)] 3)) (fun _ _ h => h)
  have HB1 := hide hb1
  have HF1 := hide F1
  have HBe := hide (beside_any (w1.alloc (Obj.cells #[.int .i64 (n : Int)] 3)) n n n _ l 75 #[] (.func (.func 75) #[] #[]) eyeC hv2 (unhide HL) h1 h1 h1.2 (.inr rfl) cf74 (fun W q r c hr hc => by
    refine (one_any W (r : Int) (c : Int)).mono ?_
    rintro e W' ⟨rfl, rfl⟩
    refine ⟨?_, Fr.refl _ _⟩
    unfold eyeC
    by_cases e : r = c
    · rw [if_pos e, if_pos (by omega)]
    · rw [if_neg e, if_neg (by omega)]))
  have hlt0 := lt_of_heap ha1
  clear T f1 F1 ha1 hb1 hv2
  go_wp2_with fail
  refine (unhide HBe).mono ?_
  rintro e w2 ⟨rfl, ⟨bs, hbs, hbn, L2⟩, f2⟩
  have hsz : (w1.alloc (Obj.cells #[Value.int IntKind.i64 (n : Int)] 3)).heap.size = w1.heap.size + 1 := by simp
  rw [hsz] at hbn L2 ⊢
  have f2' : Fr (fun _ => False) w1 w2 := ((Fr.refl (fun _ => False) w1).alloc _).trans f2 (fun _ _ h => h)
  have hn2 : w2.heap[w1.heap.size]? = some (.cells #[.int .i64 (n : Int)] 3 (0, 0)) := by
    have := heap_alloc_new w1 (Obj.cells #[Value.int IntKind.i64 (n : Int)] 3)
    exact (f2.block _ (lt_of_heap this) id).trans this
  have hb2 := (f2'.block _ (lt_of_heap (unhide HB1)) id).trans (unhide HB1)
  have hl2 := lt_of_heap hn2
  have hgl := L2.lt
  have hbl : ∀ x ∈ bs, x < w2.heap.size := by
    intro x hx
    obtain ⟨i, hi, rfl⟩ := List.getElem_of_mem hx
    exact lt_of_heap (L2.row i hi)
  have d1 := cell_of_heap hn2 0
  simp at d1
  have fA : Fr (fun _ => False) w2 (w2.alloc (Obj.cells #[.slice (some ⟨w1.heap.size + 1 + 1, 0, none⟩) n n] 65)) := (Fr.refl (fun _ => False) w2).alloc _
  have hA := heap_alloc_new w2 (Obj.cells #[.slice (some ⟨w1.heap.size + 1 + 1, 0, none⟩) n n] 65)
  have HRd := hide (fun W (q : Fr (fun _ => False) (w2.alloc (Obj.cells #[.slice (some ⟨w1.heap.size + 1 + 1, 0, none⟩) n n] 65)) W) => reduce_any W (w1.heap.size + 1 + 1) (n + n) n bs _ n ((L2.kept fA id (fun _ _ h => h)).kept q id (fun _ _ h => h)) hbs (by omega) (by omega) (by omega))
  have HN2 := hide hn2
  have HB2 := hide hb2
  have HA := hide hA
  have HFA := hide fA
  have HBN := hide hbn
  have HBL := hide hbl
  have HF2 := hide ((unhide HF1).trans f2' (fun _ _ h => h))
  have hsz2 := f2'.size
  have HCQ := hide (show ∀ W, Fr (fun k => k = w1.heap.size + 1 + 1 ∨ k ∈ bs) (w2.alloc (Obj.cells #[.slice (some ⟨w1.heap.size + 1 + 1, 0, none⟩) n n] 65)) W → W.cell? ⟨w1.heap.size, 0, none⟩ = some (.int .i64 (n : Int)) from fun W q => by
    have h3 := (fA.block _ (lt_of_heap hn2) id).trans hn2
    have h4 := (q.block _ (lt_of_heap h3) (fun h => by
      rcases h with h | h
      · omega
      · have := hbn _ h; omega)).trans h3
    have := cell_of_heap h4 0
    simpa using this)
  have HT := hide (show ∀ W, Fr (fun k => k = w1.heap.size + 1 + 1 ∨ k ∈ bs) (w2.alloc (Obj.cells #[.slice (some ⟨w1.heap.size + 1 + 1, 0, none⟩) n n] 65)) W →
      W.heap[w1.heap.size]? = some (.cells #[.int .i64 (n : Int)] 3 (0, 0)) ∧ W.heap[w2.heap.size]? = some (.cells #[.slice (some ⟨w1.heap.size + 1 + 1, 0, none⟩) n n] 65 (0, 0)) ∧
      W.heap[w.heap.size + 1]? = some (.cells #[.int .i64 0, .int .i64 0, .slice none 0 0] 24 (0, 0)) ∧ Fr (fun _ => False) w W from fun W q => by
    have h3 := (fA.block _ (lt_of_heap hn2) id).trans hn2
    have h4 := (fA.block _ (lt_of_heap hb2) id).trans hb2
    refine ⟨(q.block _ (lt_of_heap h3) ?_).trans h3, (q.block _ (lt_of_heap hA) ?_).trans hA, (q.block _ (lt_of_heap h4) ?_).trans h4, ((unhide HF2).trans fA (fun _ _ h => h)).trans q ?_⟩
    · rintro (h | h)
      · omega
      · have := hbn _ h; omega
    · rintro (h | h)
      · omega
      · have := hbl _ h; omega
    · rintro (h | h)
      · omega
      · have := hbn _ h; omega
    · rintro i hi (h | h)
      · omega
      · have := hbn _ h; omega)
  clear L2 hbn f2 f2' hn2 hb2 hbl HBe a0 a1 a2 hsz fA hA
  go_wp2_with fail
  go_region_with ((go_at_call 76; refine (unhide HRd _ (by first | exact Fr.ofDrewN _ 1 | exact Fr.ofDrewN _ _)).mono ?_; rintro e w4 ⟨rfl, ⟨bs4, hb4, hs4, L4⟩, f4⟩; have q1 := unhide HCQ w4 ((Fr.ofDrewN _ 1).trans f4 (fun _ _ h => h))))
  all_goals
    have T4 := unhide HT w4 ((Fr.ofDrewN _ 1).trans f4 (fun _ _ h => h))
    obtain ⟨t1, t2, t3, t4⟩ := T4
    have hl4 := lt_of_heap t2
    have g0 := cell_of_heap t3 0
    have g1 := cell_of_heap t3 1
    have g2 := cell_of_heap t3 2
    have z0 := frozen_of_heap t3
    have e0 := cell_of_heap t1 0
    simp at g0 g1 g2 e0
    by_cases hs : (invR n l).2 < n
    · have hs' : (redK (bsd l n n eyeC n) n).2 < n := hs
      have T4 := hide t4
      have HSS := hide hs
      clear t1 t2 t3 t4 L4 f4 hs4
      go_wp2_with fail
      have f5 := fr_three w4 (w.heap.size + 1) (.int .i64 0) (.int .i64 0) (.slice none 0 0)
      refine bodyPost_ret (v := .tuple #[.agg #[.int .i64 0, .int .i64 0, .slice none 0 0], .int .i64 22]) (by simp [results, Try.results19, go_sem, g0, g1, g2]) rfl ⟨⟨_, rfl, zeroM _, zeroN _⟩, (unhide T4).trans f5 (fun i hi h => by omega)⟩
    · have hs' : ¬ (redK (bsd l n n eyeC n) n).2 < n := hs
      have T4 := hide t4
      have T3 := hide t3
      have HSS := hide hs
      have HFi := hide (filled_any w4 n n 77 #[.pointer (some ⟨w2.heap.size, 0, none⟩), .pointer (some ⟨w1.heap.size, 0, none⟩)] (fun r c => cel (invR n l).1 r (n + c)) h1 h1 cf76 (fun W q r c hr hc => by
        refine (inv1_any W w2.heap.size w1.heap.size (w1.heap.size + 1 + 1) (n + n) n bs4 (invR n l).1 r c ((q.block _ (lt_of_heap t2) id).trans t2) ((q.block _ (lt_of_heap t1) id).trans t1) (L4.kept q id (fun _ _ h => h)) hb4 hr (by omega) (by omega)).mono ?_
        rintro e W' ⟨rfl, k, rfl⟩
        exact ⟨rfl, Fr.ofDrewN _ _⟩))
      clear t1 t2 t3 t4 L4 f4 hs4
      go_wp2_with fail
      refine (unhide HFi).mono ?_
      rintro e w5 ⟨rfl, B5, f5⟩
      have t5 := (f5.block _ (lt_of_heap (unhide T3)) id).trans (unhide T3)
      have k0 := cell_of_heap t5 0
      have k1 := cell_of_heap t5 1
      have k2 := cell_of_heap t5 2
      have y0 := frozen_of_heap t5
      simp at k0 k1 k2
      have HB5 := hide B5
      have F5 := hide ((unhide T4).trans f5 (fun _ _ h => h))
      have sz4 := (unhide T4).size
      clear t5 B5 f5 g0 g1 g2 z0 e0 q1
      go_wp2_with fail
      have f6 := fr_three w5 (w.heap.size + 1) (.int .i64 (n : Int)) (.int .i64 (n : Int)) (.slice (some ⟨w4.heap.size + 1, 0, none⟩) (n * n) (n * n))
      refine bodyPost_ret (v := .tuple #[.agg #[.int .i64 (n : Int), .int .i64 (n : Int), .slice (some ⟨w4.heap.size + 1, 0, none⟩) (n * n) (n * n)], .int .i64 0]) (by simp [results, Try.results19, go_sem, k0, k1, k2]) rfl ⟨⟨_, rfl, ?_, New.of _ _ _ _ _ _ (by omega)⟩, (unhide F5).trans f6 (fun i hi h => by omega)⟩
      refine ⟨_, rfl, ?_⟩
      have hB := (unhide HB5).kept f6 (by omega)
      have hq := Nat.mul_le_mul h1.2 h1.2
      have hlen : (invL n l).length = n * n := fl_length _ _ _
      have := hB.rd (by rw [show (fl n (fun r c => cel (invR n l).1 r (n + c)) (n * n)).length = n * n from fl_length _ _ _]; unfold maxLen; omega)
      rw [show (fl n (fun r c => cel (invR n l).1 r (n + c)) (n * n)).length = n * n from fl_length _ _ _] at this
      exact this
end Go.Proofs.Ytckmddkhkdcmmaa
