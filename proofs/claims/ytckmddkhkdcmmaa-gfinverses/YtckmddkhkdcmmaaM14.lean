/-
  The walks of the document's Same, and of the laws' live.
  The walk of the document's Row.
  The walks of the laws' huge, and of package rs's functions at a nil Code.
-/
import Derived.Test.YtckmddkhkdcmmaaM13
namespace Go.Proofs.Ytckmddkhkdcmmaa
set_option linter.unusedVariables false
set_option linter.unusedSimpArgs false
open Go.RowKit
set_option linter.unusedVariables false

attribute [local go_sem ↓] Go.wp_at_zero Go.wp_at_succ

theorem str_eq (l1 l2 : List UInt8) : ((str l1).toList == (str l2).toList) = decide (l1 = l2) := by
  rw [ByteArray.toList_eq, ByteArray.toList_eq, str_data, str_data, Bool.eq_iff_iff]; simp

set_option maxHeartbeats 1000000 in
theorem rsame_any (w : World) (v u : Value) (ls ms : List (List UInt8)) (h1 : RdL w v ls) (h2 : RdL w u ms) (hl : ls.length ≤ 100000) :
    Calls Try.prog 47 #[v, u] w fun e w' => e = .returned (.bool (decide (ls = ms))) ∧ Fr (fun _ => False) w w' := by
  have H1 := hide h1
  have H2 := hide h2
  obtain ⟨ao, ac, rfl⟩ := h1.shape
  obtain ⟨bo, bc, rfl⟩ := h2.shape
  clear h1 h2
  by_cases he : ls.length = ms.length
  · rw [← he] at H2 ⊢
    have HE := hide he
    clear he
    obtain ⟨n, hn⟩ : ∃ n, n = ls.length := ⟨_, rfl⟩
    rw [← hn] at H1 H2 hl ⊢
    have HN := hide hn
    clear hn
    go_enter Try.func47, Try.ntmps47
    go_wp2_with fail
    go_loopw [5] (fun x w' => ∃ i : Nat, i ≤ n ∧ x = .int .i64 (i : Int) ∧ ls.take i = ms.take i ∧ Fr (fun _ => False) w w') (fun x _ => n - (intOf x).toNat)
    case atStart => exact ⟨0, by omega, rfl, by simp, Fr.refl _ _⟩
    case round =>
      obtain ⟨i, hi, rfl, ht, hf⟩ := hrel
      by_cases hlt : i < n
      · have i1 : i < ls.length := by have := unhide HN; omega
        have i2 : i < ms.length := by have := unhide HN; have := unhide HE; omega
        obtain ⟨b1, o1, x1, y1, rfl, c1, r1⟩ := ((unhide H1).kept hf).get i i1
        obtain ⟨b2, o2, x2, y2, rfl, c2, r2⟩ := ((unhide H2).kept hf).get i i2
        have k1 := fun j => conv_rd (P := Try.prog) (r1.kept (Fr.ofDrewN (S := fun _ => False) wr j) (fun _ _ h => h)) 22 9 5 Try.underlying22 Try.underlying5 Try.underlying9
        have k2 := fun j => conv_rd (P := Try.prog) (r2.kept (Fr.ofDrewN (S := fun _ => False) wr j) (fun _ _ h => h)) 22 9 5 Try.underlying22 Try.underlying5 Try.underlying9
        have hs := str_eq ls[i] ms[i]
        have HT := hide ht
        have Hf := hide hf
        have htk1 := List.take_succ_eq_append_getElem i1
        have htk2 := List.take_succ_eq_append_getElem i2
        have hget : ls = ms → ls[i] = ms[i] := by rintro rfl; rfl
        have T1 := hide htk1
        have T2 := hide htk2
        have HG := hide hget
        generalize ls[i] = li at *
        generalize ms[i] = mi at *
        clear ht hf r1 r2 htk1 htk2 hget
        by_cases hd : li = mi
        · have hb : ((str li).toList == (str mi).toList) = true := by rw [hs]; simpa using hd
          have HD := hide hd
          clear hs hd
          generalize str li = s1 at *
          generalize str mi = s2 at *
          generalize li.length = n1 at *
          generalize mi.length = n2 at *
          go_wp2_with fail
          go_quiet (fail)
          go_wp2_with fail
          go_roundw
          case rel => exact ⟨i + 1, by omega, by go_num, by rw [unhide T1, unhide T2, unhide HT, unhide HD], (unhide Hf).drewN _⟩
          case measure => simp [intOf]; omega
        · have hb : ((str li).toList == (str mi).toList) = false := by rw [hs]; simpa using hd
          have HD := hide hd
          clear hs hd
          generalize str li = s1 at *
          generalize str mi = s2 at *
          generalize li.length = n1 at *
          generalize mi.length = n2 at *
          go_wp2_with fail
          go_quiet (fail)
          go_wp2_with fail
          go_ret
          have e : decide (ls = ms) = false := by
            simp only [decide_eq_false_iff_not]
            exact fun h => unhide HD (unhide HG h)
          rw [e]
          exact ⟨rfl, (unhide Hf).drewN _⟩
      · have HT := hide ht
        have Hf := hide hf
        clear ht hf
        go_wp2_with fail
        go_ret
        have e : decide (ls = ms) = true := by
          simp only [decide_eq_true_eq]
          have h := unhide HT
          rwa [List.take_of_length_le (by have := unhide HN; omega), List.take_of_length_le (by have := unhide HN; have := unhide HE; omega)] at h
        rw [e]
        exact ⟨rfl, unhide Hf⟩
  · have e : decide (ls = ms) = false := by
      simp only [decide_eq_false_iff_not]
      rintro rfl
      exact he rfl
    rw [e]
    have hb : ((ls.length : Int) != (ms.length : Int)) = true := by
      simp only [bne_iff_ne, ne_eq]; omega
    clear he e
    go_enter Try.func47, Try.ntmps47
    go_wp2_with fail
    go_ret
    exact ⟨rfl, Fr.refl _ _⟩

theorem RdL.of_heap {w : World} {g t : Nat} {vs : List Value} {ls : List (List UInt8)} (hg : w.heap[g]? = some (.cells vs.toArray t (0, 0))) (hl : vs.length = ls.length) (hm : vs.length ≤ maxLen) (hr : ∀ (i : Nat) (x : Value) (l : List UInt8), vs[i]? = some x → ls[i]? = some l → Rd w x l) : RdL w (.slice (some ⟨g, 0, none⟩) vs.length vs.length) ls :=
  ⟨vs, .inr ⟨_, _, rfl, Nat.le_refl _, hm, fun j hj => by rw [Addr.add_lit, Nat.zero_add, cell_of_heap hg]; simp [hj]⟩, hl, hr⟩

theorem RdV.of_heap {w : World} {g t : Nat} {vs : List Value} (hg : w.heap[g]? = some (.cells vs.toArray t (0, 0))) (hm : vs.length ≤ maxLen) : RdV w (.slice (some ⟨g, 0, none⟩) vs.length vs.length) vs :=
  .inr ⟨_, _, rfl, Nat.le_refl _, hm, fun j hj => by rw [Addr.add_lit, Nat.zero_add, cell_of_heap hg]; simp [hj]⟩

theorem rd_oneB (w : World) (b : UInt8) : Rd (w.alloc (Obj.cells #[.int .u8 ((b.toNat : Nat) : Int)] 5)) (.slice (some ⟨w.heap.size, 0, none⟩) 1 1) [b] := by
  refine Rd.lit rfl (Nat.le_refl _) (by simp [maxLen]) fun j hj => ?_
  rw [Nat.zero_add, cell_of_heap (heap_alloc_new w _)]
  simp at hj
  subst hj
  rfl

theorem lv_1 : shl [[1], [1]] 2 = (1, 0) := by decide +kernel
theorem lv_2 : encL 2 1 [[1], [1]] 1 = [[122]] := by decide +kernel
theorem lv_3 : wl [false, true, true] = [1, 2] := by decide +kernel
theorem lv_4 : wl [false, false, true] = [2] := by decide +kernel
theorem lv_5 : shl (hl [[], [1], [122]] [false, true, true]) 2 = (1, 0) := by decide +kernel
theorem lv_6 : rebL 2 1 [[], [1], [122]] [false, true, true] 1 = [[1], [1], [122]] := by decide +kernel
theorem lv_7 : shl (hl [[], [], [122]] [false, false, true]) 1 = (1, 0) := by decide +kernel

/-- Two shards of one byte each, in memory of their own. -/
theorem live_a (w : World) (b c : UInt8) : RdL (((w.alloc (Obj.cells #[.int .u8 ((b.toNat : Nat) : Int)] 5)).alloc (Obj.cells #[.int .u8 ((c.toNat : Nat) : Int)] 5)).alloc (Obj.cells #[.slice (some ⟨w.heap.size, 0, none⟩) 1 1, .slice (some ⟨w.heap.size + 1, 0, none⟩) 1 1] 22)) (.slice (some ⟨w.heap.size + 1 + 1, 0, none⟩) 2 2) [[b], [c]] := by
  have r1 := rd_oneB w b
  have r2 := rd_oneB (w.alloc (Obj.cells #[.int .u8 ((b.toNat : Nat) : Int)] 5)) c
  have hs : (w.alloc (Obj.cells #[.int .u8 ((b.toNat : Nat) : Int)] 5)).heap.size = w.heap.size + 1 := by simp
  rw [hs] at r2
  have hg := heap_alloc_new ((w.alloc (Obj.cells #[.int .u8 ((b.toNat : Nat) : Int)] 5)).alloc (Obj.cells #[.int .u8 ((c.toNat : Nat) : Int)] 5)) (Obj.cells #[.slice (some ⟨w.heap.size, 0, none⟩) 1 1, .slice (some ⟨w.heap.size + 1, 0, none⟩) 1 1] 22)
  rw [show ((w.alloc (Obj.cells #[.int .u8 ((b.toNat : Nat) : Int)] 5)).alloc (Obj.cells #[.int .u8 ((c.toNat : Nat) : Int)] 5)).heap.size = w.heap.size + 1 + 1 by simp] at hg
  refine RdL.of_heap (vs := [.slice (some ⟨w.heap.size, 0, none⟩) 1 1, .slice (some ⟨w.heap.size + 1, 0, none⟩) 1 1]) hg rfl (by simp [maxLen]) ?_
  intro i x l hx hl
  rcases i with _ | _ | i
  · simp at hx hl; subst hx hl
    exact r1.kept (((Fr.refl (fun _ => False) _).alloc _).alloc _) (fun _ _ h => h)
  · simp at hx hl; subst hx hl
    exact r2.kept ((Fr.refl (fun _ => False) _).alloc _) (fun _ _ h => h)
  · simp at hx

theorem live_row {w : World} {g t : Nat} {x y z : Value} {a b c : List UInt8} (hg : w.heap[g]? = some (.cells #[x, y, z] t (0, 0))) (h1 : Rd w x a) (h2 : Rd w y b) (h3 : Rd w z c) : RdL w (.slice (some ⟨g, 0, none⟩) 3 3) [a, b, c] := by
  refine RdL.of_heap (vs := [x, y, z]) hg rfl (by simp [maxLen]) ?_
  intro i u l hu hl
  rcases i with _ | _ | _ | i
  · simp at hu hl; subst hu hl; exact h1
  · simp at hu hl; subst hu hl; exact h2
  · simp at hu hl; subst hu hl; exact h3
  · simp at hu

theorem live_b (w : World) : RdL ((((w.alloc (Obj.cells #[.int .u8 1] 5)).alloc (Obj.cells #[.int .u8 122] 5)).alloc (Obj.cells #[.slice none 0 0, .slice (some ⟨w.heap.size, 0, none⟩) 1 1, .slice (some ⟨w.heap.size + 1, 0, none⟩) 1 1] 22)).alloc (Obj.cells #[.bool false, .bool true, .bool true] 4)) (.slice (some ⟨w.heap.size + 1 + 1, 0, none⟩) 3 3) [[], [1], [122]] ∧
    RdV ((((w.alloc (Obj.cells #[.int .u8 1] 5)).alloc (Obj.cells #[.int .u8 122] 5)).alloc (Obj.cells #[.slice none 0 0, .slice (some ⟨w.heap.size, 0, none⟩) 1 1, .slice (some ⟨w.heap.size + 1, 0, none⟩) 1 1] 22)).alloc (Obj.cells #[.bool false, .bool true, .bool true] 4)) (.slice (some ⟨w.heap.size + 1 + 1 + 1, 0, none⟩) 3 3) ([false, true, true].map Value.bool) := by
  have r1 := rd_oneB w 1
  have r2 := rd_oneB (w.alloc (Obj.cells #[.int .u8 1] 5)) 122
  have s1 : (w.alloc (Obj.cells #[.int .u8 1] 5)).heap.size = w.heap.size + 1 := by simp
  rw [s1] at r2
  have s2 : ((w.alloc (Obj.cells #[.int .u8 1] 5)).alloc (Obj.cells #[.int .u8 122] 5)).heap.size = w.heap.size + 1 + 1 := by simp
  have hg := heap_alloc_new ((w.alloc (Obj.cells #[.int .u8 1] 5)).alloc (Obj.cells #[.int .u8 122] 5)) (Obj.cells #[.slice none 0 0, .slice (some ⟨w.heap.size, 0, none⟩) 1 1, .slice (some ⟨w.heap.size + 1, 0, none⟩) 1 1] 22)
  rw [s2] at hg
  have s3 : (((w.alloc (Obj.cells #[.int .u8 1] 5)).alloc (Obj.cells #[.int .u8 122] 5)).alloc (Obj.cells #[.slice none 0 0, .slice (some ⟨w.heap.size, 0, none⟩) 1 1, .slice (some ⟨w.heap.size + 1, 0, none⟩) 1 1] 22)).heap.size = w.heap.size + 1 + 1 + 1 := by simp
  have hh := heap_alloc_new (((w.alloc (Obj.cells #[.int .u8 1] 5)).alloc (Obj.cells #[.int .u8 122] 5)).alloc (Obj.cells #[.slice none 0 0, .slice (some ⟨w.heap.size, 0, none⟩) 1 1, .slice (some ⟨w.heap.size + 1, 0, none⟩) 1 1] 22)) (Obj.cells #[.bool false, .bool true, .bool true] 4)
  rw [s3] at hh
  refine ⟨?_, RdV.of_heap (vs := [false, true, true].map Value.bool) hh (by simp [maxLen])⟩
  exact live_row (by rw [Below.heap_alloc _ _ _ (by rw [s3]; omega)]; exact hg) (Rd.nil _) (r1.kept ((((Fr.refl (fun _ => False) _).alloc _).alloc _).alloc _) (fun _ _ h => h)) (r2.kept (((Fr.refl (fun _ => False) _).alloc _).alloc _) (fun _ _ h => h))

theorem live_c (w : World) : RdL (((w.alloc (Obj.cells #[.int .u8 122] 5)).alloc (Obj.cells #[.slice none 0 0, .slice none 0 0, .slice (some ⟨w.heap.size, 0, none⟩) 1 1] 22)).alloc (Obj.cells #[.bool false, .bool false, .bool true] 4)) (.slice (some ⟨w.heap.size + 1, 0, none⟩) 3 3) [[], [], [122]] ∧
    RdV (((w.alloc (Obj.cells #[.int .u8 122] 5)).alloc (Obj.cells #[.slice none 0 0, .slice none 0 0, .slice (some ⟨w.heap.size, 0, none⟩) 1 1] 22)).alloc (Obj.cells #[.bool false, .bool false, .bool true] 4)) (.slice (some ⟨w.heap.size + 1 + 1, 0, none⟩) 3 3) ([false, false, true].map Value.bool) := by
  have r1 := rd_oneB w 122
  have s1 : (w.alloc (Obj.cells #[.int .u8 122] 5)).heap.size = w.heap.size + 1 := by simp
  have hg := heap_alloc_new (w.alloc (Obj.cells #[.int .u8 122] 5)) (Obj.cells #[.slice none 0 0, .slice none 0 0, .slice (some ⟨w.heap.size, 0, none⟩) 1 1] 22)
  rw [s1] at hg
  have s3 : ((w.alloc (Obj.cells #[.int .u8 122] 5)).alloc (Obj.cells #[.slice none 0 0, .slice none 0 0, .slice (some ⟨w.heap.size, 0, none⟩) 1 1] 22)).heap.size = w.heap.size + 1 + 1 := by simp
  have hh := heap_alloc_new ((w.alloc (Obj.cells #[.int .u8 122] 5)).alloc (Obj.cells #[.slice none 0 0, .slice none 0 0, .slice (some ⟨w.heap.size, 0, none⟩) 1 1] 22)) (Obj.cells #[.bool false, .bool false, .bool true] 4)
  rw [s3] at hh
  refine ⟨?_, RdV.of_heap (vs := [false, false, true].map Value.bool) hh (by simp [maxLen])⟩
  exact live_row (by rw [Below.heap_alloc _ _ _ (by rw [s3]; omega)]; exact hg) (Rd.nil _) (Rd.nil _) (r1.kept (((Fr.refl (fun _ => False) _).alloc _).alloc _) (fun _ _ h => h))

theorem live_d (w : World) : RdL ((((w.alloc (Obj.cells #[.int .u8 1] 5)).alloc (Obj.cells #[.int .u8 1] 5)).alloc (Obj.cells #[.int .u8 122] 5)).alloc (Obj.cells #[.slice (some ⟨w.heap.size, 0, none⟩) 1 1, .slice (some ⟨w.heap.size + 1, 0, none⟩) 1 1, .slice (some ⟨w.heap.size + 1 + 1, 0, none⟩) 1 1] 22)) (.slice (some ⟨w.heap.size + 1 + 1 + 1, 0, none⟩) 3 3) [[1], [1], [122]] := by
  have r1 := rd_oneB w 1
  have r2 := rd_oneB (w.alloc (Obj.cells #[.int .u8 1] 5)) 1
  have r3 := rd_oneB ((w.alloc (Obj.cells #[.int .u8 1] 5)).alloc (Obj.cells #[.int .u8 1] 5)) 122
  have s1 : (w.alloc (Obj.cells #[.int .u8 1] 5)).heap.size = w.heap.size + 1 := by simp
  rw [s1] at r2
  have s2 : ((w.alloc (Obj.cells #[.int .u8 1] 5)).alloc (Obj.cells #[.int .u8 1] 5)).heap.size = w.heap.size + 1 + 1 := by simp
  rw [s2] at r3
  have s3 : (((w.alloc (Obj.cells #[.int .u8 1] 5)).alloc (Obj.cells #[.int .u8 1] 5)).alloc (Obj.cells #[.int .u8 122] 5)).heap.size = w.heap.size + 1 + 1 + 1 := by simp
  have hg := heap_alloc_new (((w.alloc (Obj.cells #[.int .u8 1] 5)).alloc (Obj.cells #[.int .u8 1] 5)).alloc (Obj.cells #[.int .u8 122] 5)) (Obj.cells #[.slice (some ⟨w.heap.size, 0, none⟩) 1 1, .slice (some ⟨w.heap.size + 1, 0, none⟩) 1 1, .slice (some ⟨w.heap.size + 1 + 1, 0, none⟩) 1 1] 22)
  rw [s3] at hg
  exact live_row hg (r1.kept ((((Fr.refl (fun _ => False) _).alloc _).alloc _).alloc _) (fun _ _ h => h)) (r2.kept (((Fr.refl (fun _ => False) _).alloc _).alloc _) (fun _ _ h => h)) (r3.kept ((Fr.refl (fun _ => False) _).alloc _) (fun _ _ h => h))

set_option maxHeartbeats 4000000 in
set_option maxRecDepth 100000 in
theorem live3_any (w : World) : Calls Try.prog 38 #[] w fun e w' => e = .returned (.bool true) ∧ Fr (fun _ => False) w w' := by
  have HN := hide (new_ok w 2 1 (by omega) (by omega))
  go_enter Try.func38, Try.ntmps38
  go_wp2_with fail
  refine (unhide HN).mono ?_
  rintro e w1 ⟨⟨p, rfl, -, hC⟩, f1⟩
  have HC := hide hC
  have HF1 := hide f1
  clear hC f1 HN
  go_wp2_with (go_at_call 48; refine (num3_any _ _).mono ?_; rintro e w' ⟨rfl, rfl⟩)
  have q2 : Fr (fun _ => False) w1 (((w1.alloc (Obj.cells #[.int .u8 1] 5)).alloc (Obj.cells #[.int .u8 1] 5)).alloc (Obj.cells #[.slice (some ⟨w1.heap.size, 0, none⟩) 1 1, .slice (some ⟨w1.heap.size + 1, 0, none⟩) 1 1] 22)) := (((Fr.refl _ _).alloc _).alloc _).alloc _
  have HE := hide (encode_ok _ p 2 1 _ [[1], [1]] ((unhide HC).kept q2 (fun _ _ h => h)) (live_a w1 1 1) (by show (shl [[1], [1]] 2).2 = 0; rw [lv_1]))
  rw [show ((2 : Nat) : Int) = 2 from rfl, lv_1] at HE
  simp only [lv_2] at HE
  have HQ2 := hide q2
  clear q2
  refine (unhide HE).mono ?_
  rintro e w2 ⟨⟨g2, rfl, hL2⟩, f2⟩
  have F2 := (unhide HQ2).trans f2 (fun _ _ h => h)
  obtain ⟨b, o, xo, xc, e, c1, hr⟩ := hL2.rdl.get 0 (by decide)
  simp only [Option.some.injEq, Addr.mk.injEq] at e
  obtain ⟨rfl, rfl, -⟩ := e
  have k1 := conv_rd (P := Try.prog) hr 22 9 5 Try.underlying22 Try.underlying5 Try.underlying9
  have hb : ((str [122]).toList == [122]) = true := by rw [ByteArray.toList_eq, str_data]; rfl
  simp only [List.getElem_cons_zero, List.length_cons, List.length_nil, Nat.zero_add] at c1 k1
  generalize str [122] = s1 at *
  have HF2 := hide ((unhide HF1).trans F2 (fun _ _ h => h))
  have HC2 := hide ((unhide HC).kept F2 (fun _ _ h => h))
  clear hL2 f2 hr F2 HE HQ2 HF1 HC
  go_wp2_with (go_at_call 48; refine (num3_any _ _).mono ?_; rintro e w' ⟨rfl, rfl⟩)
  clear c1 k1
  have q3 : Fr (fun _ => False) w2 ((((w2.alloc (Obj.cells #[.int .u8 1] 5)).alloc (Obj.cells #[.int .u8 122] 5)).alloc (Obj.cells #[.slice none 0 0, .slice (some ⟨w2.heap.size, 0, none⟩) 1 1, .slice (some ⟨w2.heap.size + 1, 0, none⟩) 1 1] 22)).alloc (Obj.cells #[.bool false, .bool true, .bool true] 4)) := ((((Fr.refl _ _).alloc _).alloc _).alloc _).alloc _
  have HR := hide (rebuild_ok _ p 2 1 _ _ [[], [1], [122]] [false, true, true] ((unhide HC2).kept q3 (fun _ _ h => h)) (live_b w2).1 (live_b w2).2 rfl rfl (by rw [lv_3]; show (shl (hl [[], [1], [122]] [false, true, true]) 2).2 = 0; rw [lv_5]) (by rw [lv_3]; decide))
  rw [lv_3] at HR
  simp only [List.length_cons, List.length_nil, Nat.zero_add, Nat.reduceAdd] at HR
  rw [show ((2 : Nat) : Int) = 2 from rfl, lv_5] at HR
  simp only [lv_6] at HR
  have HQ3 := hide q3
  clear q3
  refine (unhide HR).mono ?_
  rintro e w3 ⟨⟨g3, rfl, hL3⟩, f3⟩
  have F3 := (unhide HQ3).trans f3 (fun _ _ h => h)
  have HL3 := hide hL3.rdl
  have HF3 := hide ((unhide HF2).trans F3 (fun _ _ h => h))
  have HC3 := hide ((unhide HC2).kept F3 (fun _ _ h => h))
  clear hL3 f3 F3 HR HQ3 HF2 HC2
  go_wp2_with fail
  have q4 : Fr (fun _ => False) w3 (((w3.alloc (Obj.cells #[.int .u8 122] 5)).alloc (Obj.cells #[.slice none 0 0, .slice none 0 0, .slice (some ⟨w3.heap.size, 0, none⟩) 1 1] 22)).alloc (Obj.cells #[.bool false, .bool false, .bool true] 4)) := (((Fr.refl _ _).alloc _).alloc _).alloc _
  have HR := hide (rebuild_few _ p 2 1 _ _ [[], [], [122]] [false, false, true] ((unhide HC3).kept q4 (fun _ _ h => h)) (live_c w3).1 (live_c w3).2 rfl rfl (by rw [lv_4]; show (shl (hl [[], [], [122]] [false, false, true]) 1).2 = 0; rw [lv_7]) (by rw [lv_4]; decide))
  have HQ4 := hide q4
  clear q4
  refine (unhide HR).mono ?_
  rintro e w4 ⟨rfl, f4⟩
  have F4 := (unhide HQ4).trans f4 (fun _ _ h => h)
  have HL4 := hide ((unhide HL3).kept F4)
  have HF4 := hide ((unhide HF3).trans F4 (fun _ _ h => h))
  have q5 : Fr (fun _ => False) w4 ((((w4.alloc (Obj.cells #[.int .u8 1] 5)).alloc (Obj.cells #[.int .u8 1] 5)).alloc (Obj.cells #[.int .u8 122] 5)).alloc (Obj.cells #[.slice (some ⟨w4.heap.size, 0, none⟩) 1 1, .slice (some ⟨w4.heap.size + 1, 0, none⟩) 1 1, .slice (some ⟨w4.heap.size + 1 + 1, 0, none⟩) 1 1] 22)) := ((((Fr.refl _ _).alloc _).alloc _).alloc _).alloc _
  have HS := hide (rsame_any _ _ _ _ _ ((unhide HL4).kept q5) (live_d w4) (by decide))
  rw [show decide (([[1], [1], [122]] : List (List UInt8)) = [[1], [1], [122]]) = true from by decide] at HS
  have HQ5 := hide q5
  clear f4 F4 HR HQ4 HF3 HC3 HL3 q5
  go_wp2_with (first | (go_at_call 48; refine (num3_any _ _).mono ?_; rintro e w' ⟨rfl, rfl⟩) | (go_at_call 47; refine (unhide HS).mono ?_; rintro e w5 ⟨rfl, f5⟩))
  go_ret
  exact ⟨rfl, ((unhide HF4).trans (unhide HQ5) (fun _ _ h => h)).trans f5 (fun _ _ h => h)⟩

end Go.Proofs.Ytckmddkhkdcmmaa

namespace Go.Proofs.Ytckmddkhkdcmmaa
set_option linter.unusedVariables false
set_option linter.unusedSimpArgs false
open Go.RowKit
set_option linter.unusedVariables false

attribute [local go_sem ↓] Go.wp_at_zero Go.wp_at_succ

theorem rowL_same {k i j : Nat} (h : j < k) (h0 : co k i j = 0) : (rowL k i).take (j + 1) ++ List.replicate (k - (j + 1)) 0 = (rowL k i).take j ++ List.replicate (k - j) 0 := by
  have hl : ((rowL k i).take j).length = j := by rw [List.length_take, rowL_length]; omega
  rw [List.take_succ_eq_append_getElem (by rw [rowL_length]; exact h), rowL_get, h0, show k - j = (k - (j + 1)) + 1 by omega, List.replicate_succ]
  simp

set_option maxHeartbeats 2000000 in
theorem rRow_ok (w : World) (p k m i : Nat) (hD : DAt w p k m) (hk : 1 ≤ k ∧ k ≤ 16) (hm : m ≤ 8) (hi : i < k + m) : Calls Try.prog 42 #[.pointer (some ⟨p, 0, none⟩), .int .i64 (i : Int)] w fun e w' => (∃ q, e = .returned (.slice (some ⟨q, 0, none⟩) k k) ∧ w.heap.size ≤ q ∧ BAt w' q (rowL k i)) ∧ Fr (fun _ => False) w w' := by
  have hplt := lt_of_heap hD
  have c0 := cell_of_heap hD 0
  have c1 := cell_of_heap hD 1
  simp at c0 c1
  have HD := hide hD
  clear hD
  have b1 : decide ((i : Int) < 0) = false := by simp
  have b2 : decide ((k : Int) + (m : Int) ≤ (i : Int)) = false := by simp; omega
  have hmk := run_make5 k (by omega)
  go_enter Try.func42, Try.ntmps42
  go_wp2_with fail
  go_quiet (fail)
  generalize hw1 : w.drewN nq = w1 at *
  have f1 : Fr (fun _ => False) w w1 := by rw [← hw1]; exact Fr.ofDrewN _ _
  have d0 : w1.cell? ⟨p, 0, none⟩ = some (.int .i64 (k : Int)) := by rw [f1.cell (a := ⟨p, 0, none⟩) hplt id]; exact c0
  have hmk1 := hmk w1
  have HB1 := hide (bat_new w1 (List.replicate k 0))
  have HF1 := hide (f1.alloc (Obj.cells (bvs (List.replicate k 0)).toArray 5))
  have hs1 := f1.size
  clear hw1 f1 hmk
  generalize w1.alloc (Obj.cells (bvs (List.replicate k 0)).toArray 5) = w2 at *
  go_wp2_with fail
  clear hmk1
  go_loopw [6] (fun x w' => ∃ j : Nat, j ≤ k ∧ x = .int .i64 (j : Int) ∧ BAt w' w1.heap.size ((rowL k i).take j ++ List.replicate (k - j) 0) ∧ Fr (fun _ => False) w w') (fun x _ => k - (intOf x).toNat)
  case atStart => exact ⟨0, by omega, rfl, by simpa using unhide HB1, unhide HF1⟩
  case round =>
    obtain ⟨j, hj, rfl, hB, hf⟩ := hrel
    have d0r : wr.cell? ⟨p, 0, none⟩ = some (.int .i64 (k : Int)) := by rw [hf.cell (a := ⟨p, 0, none⟩) hplt id]; exact c0
    have hpr : p < wr.heap.size := Nat.lt_of_lt_of_le hplt hf.size
    by_cases hjl : j < k
    · have hl : j < ((rowL k i).take j ++ List.replicate (k - j) 0).length := by rw [List.length_append, List.length_take, rowL_length, List.length_replicate]; omega
      have HB := hide hB
      have Hf := hide hf
      by_cases hik : i < k
      · have g1 : decide ((i : Int) < (k : Int)) = true := by simp; omega
        have g2 : decide ((k : Int) ≤ (i : Int)) = false := by simp; omega
        by_cases hij : i = j
        · subst hij
          have c := hB.cell i hl
          have z := hB.frozen i
          generalize ((rowL k i).take i ++ List.replicate (k - i) 0)[i] = old at c
          have hne : ∀ u, (wr.setCell ⟨w1.heap.size, i, none⟩ u).cell? ⟨p, 0, none⟩ = some (.int .i64 (k : Int)) := fun u => by
            rw [← d0r]
            exact ((Fr.refl (fun b => b = w1.heap.size) wr).setCell (p := ⟨w1.heap.size, i, none⟩) (fun _ => rfl) u).cell (a := ⟨p, 0, none⟩) hpr (by show ¬ p = w1.heap.size; omega)
          have hst := rowL_step (k := k) (i := i) hjl
          rw [show co k i i = 1 by unfold co; rw [if_pos hik, if_pos rfl]] at hst
          have HST := hide hst
          clear hB hf hl hst
          go_wp2_with fail
          go_roundw
          case rel =>
            refine ⟨i + 1, by omega, by go_num, ?_, (unhide Hf).setCell (fun h => absurd h (by simp; omega)) _⟩
            rw [← unhide HST]
            exact (unhide HB).set i 1
          case measure => simp [intOf]; omega
        · have g3 : ((i : Int) == (j : Int)) = false := by simp; omega
          have hst := rowL_same (k := k) (i := i) hjl (by unfold co; rw [if_pos hik, if_neg hij])
          have HST := hide hst
          clear hB hf hl hst
          go_wp2_with fail
          go_roundw
          case rel => exact ⟨j + 1, by omega, by go_num, by rw [unhide HST]; exact unhide HB, unhide Hf⟩
          case measure => simp [intOf]; omega
      · have g1 : decide ((i : Int) < (k : Int)) = false := by simp; omega
        have g2 : decide ((k : Int) ≤ (i : Int)) = true := by simp; omega
        have hw1 := byteV (show i < 256 by omega)
        have hw2 := byteV (show j < 256 by omega)
        have hco := co_inv hik hjl (by omega)
        have HI := hide (rinv_any wr (UInt8.ofNat i ^^^ UInt8.ofNat j))
        rw [hco.1, hco.2] at HI
        have hx := xorV (UInt8.ofNat i) (UInt8.ofNat j)
        have c := hB.cell j hl
        have z := hB.frozen j
        generalize ((rowL k i).take j ++ List.replicate (k - j) 0)[j] = old at c
        have HST := hide (rowL_step (k := k) (i := i) hjl)
        generalize co k i j = cc at *
        generalize UInt8.ofNat i = bi at *
        generalize UInt8.ofNat j = bj at *
        clear hB hf hl hco
        go_wp2_with fail
        refine (unhide HI).mono ?_
        rintro e w' ⟨rfl, rfl⟩
        go_wp2_with fail
        go_roundw
        case rel =>
          refine ⟨j + 1, by omega, by go_num, ?_, (unhide Hf).setCell (fun h => absurd h (by simp; omega)) _⟩
          rw [← unhide HST]
          exact (unhide HB).set j _
        case measure => simp [intOf]; omega
    · have hje : j = k := by omega
      subst hje
      have HB := hide hB
      have Hf := hide hf
      clear hB hf
      go_wp2_with fail
      go_ret
      have hB := unhide HB
      rw [Nat.sub_self, List.replicate_zero, List.append_nil, List.take_of_length_le (by rw [rowL_length]; omega)] at hB
      exact ⟨⟨_, rfl, hs1, hB⟩, unhide Hf⟩

theorem rRow_no (w : World) (p k m : Nat) (i : Int) (hD : DAt w p k m) (hk : 1 ≤ k ∧ k ≤ 16) (hm : m ≤ 8) (hi : ¬ (0 ≤ i ∧ i < (k + m : Nat))) : Calls Try.prog 42 #[.pointer (some ⟨p, 0, none⟩), .int .i64 i] w fun e w' => e = .returned (.slice none 0 0) ∧ Fr (fun _ => False) w w' := by
  have c0 := cell_of_heap hD 0
  have c1 := cell_of_heap hD 1
  simp at c0 c1
  clear hD
  by_cases hn : i < 0
  · have b1 : decide (i < 0) = true := by simpa using hn
    clear hi
    go_enter Try.func42, Try.ntmps42
    go_wp2_with fail
    go_quiet (fail)
    go_wp2_with fail
    go_ret
    exact ⟨rfl, Fr.ofDrewN _ _⟩
  · have b1 : decide (i < 0) = false := by simpa using hn
    have b2 : decide ((k : Int) + (m : Int) ≤ i) = true := by simp; omega
    clear hi
    go_enter Try.func42, Try.ntmps42
    go_wp2_with fail
    go_quiet (fail)
    go_wp2_with fail
    go_ret
    exact ⟨rfl, Fr.ofDrewN _ _⟩

theorem rRow_any (w : World) (p k m : Nat) (i : Int) (hD : DAt w p k m) (hk : 1 ≤ k ∧ k ≤ 16) (hm : m ≤ 8) : Calls Try.prog 42 #[.pointer (some ⟨p, 0, none⟩), .int .i64 i] w fun e w' => (∃ ao cap, e = .returned (.slice ao (rowX k m i).length cap) ∧ Rd w' (.slice ao (rowX k m i).length cap) (rowX k m i)) ∧ Fr (fun _ => False) w w' := by
  unfold rowX
  by_cases h : 0 ≤ i ∧ i < (k + m : Nat)
  · rw [if_pos h]
    obtain ⟨j, rfl⟩ : ∃ j : Nat, i = (j : Int) := ⟨i.toNat, by omega⟩
    refine (rRow_ok w p k m j hD hk hm (by omega)).mono ?_
    rintro e w' ⟨⟨q, rfl, -, hB⟩, f⟩
    have := hB.rd (by rw [rowL_length]; simp only [maxLen]; omega)
    rw [Int.toNat_natCast]
    rw [rowL_length] at this ⊢
    exact ⟨⟨_, _, rfl, this⟩, f⟩
  · rw [if_neg h]
    refine (rRow_no w p k m i hD hk hm h).mono ?_
    rintro e w' ⟨rfl, f⟩
    exact ⟨⟨none, 0, rfl, Rd.nil _⟩, f⟩

end Go.Proofs.Ytckmddkhkdcmmaa

namespace Go.Proofs.Ytckmddkhkdcmmaa
set_option linter.unusedVariables false
set_option linter.unusedSimpArgs false
open Go.RowKit
set_option linter.unusedVariables false

attribute [local go_sem ↓] Go.wp_at_zero Go.wp_at_succ

/-- How many bytes the first i have. -/
def sumL (ls : List (List UInt8)) (i : Nat) : Nat := ((ls.take i).map List.length).sum

theorem sumL_succ {ls : List (List UInt8)} {i : Nat} (h : i < ls.length) : sumL ls (i + 1) = sumL ls i + (ls[i]).length := by
  unfold sumL
  rw [List.take_succ_eq_append_getElem h, List.map_append, List.sum_append]
  simp

theorem sumL_le {ls : List (List UInt8)} {B : Nat} (hb : ∀ l ∈ ls, l.length ≤ B) (i : Nat) (hi : i ≤ ls.length) : sumL ls i ≤ i * B := by
  induction i with
  | zero => simp [sumL]
  | succ i ih =>
    rw [sumL_succ (by omega), Nat.succ_mul]
    have := ih (by omega)
    have := hb _ (List.getElem_mem (show i < ls.length by omega))
    omega

def hugeB (ls : List (List UInt8)) : Bool := decide (30 < ls.length) || decide (9000 < sumL ls (min ls.length 31))

theorem mem_sum {l : List Nat} {x : Nat} (h : x ∈ l) : x ≤ l.sum := by
  induction l with
  | nil => simp at h
  | cons y t ih =>
    rw [List.sum_cons]
    rcases List.mem_cons.1 h with rfl | h
    · omega
    · have := ih h; omega

theorem hugeB_no {ls : List (List UInt8)} (h : hugeB ls = false) : ls.length ≤ 30 ∧ ∀ l ∈ ls, l.length ≤ 9000 := by
  unfold hugeB at h
  rw [Bool.or_eq_false_iff] at h
  have h1 : ls.length ≤ 30 := by simpa using h.1
  have h2 : sumL ls (min ls.length 31) ≤ 9000 := by simpa using h.2
  rw [show min ls.length 31 = ls.length by omega] at h2
  refine ⟨h1, fun l hl => ?_⟩
  unfold sumL at h2
  rw [List.take_length] at h2
  have := mem_sum (List.mem_map.2 ⟨l, hl, rfl⟩ : l.length ∈ ls.map List.length)
  omega

set_option maxHeartbeats 1000000 in
theorem huge_any (w : World) (v : Value) (ls : List (List UInt8)) (h : RdL w v ls) (hl : ls.length ≤ 1048576) (hb : ∀ l ∈ ls, l.length ≤ 1048576) :
    Calls Try.prog 43 #[v] w fun e w' => e = .returned (.bool (hugeB ls)) ∧ w = w' := by
  have H := hide h
  obtain ⟨ao, ac, rfl⟩ := h.shape
  have HB := hide hb
  clear h hb
  go_enter Try.func43, Try.ntmps43
  go_wp2_with fail
  go_loopw [3, 4] (fun s x w' => ∃ i : Nat, i ≤ ls.length ∧ i ≤ 31 ∧ x = .int .i64 (i : Int) ∧ s = .int .i64 ((sumL ls i : Nat) : Int) ∧ w = w') (fun _ x _ => 31 - (intOf x).toNat)
  case atStart => exact ⟨0, by omega, by omega, rfl, rfl, rfl⟩
  case round =>
    obtain ⟨i, hi, hi2, rfl, rfl, rfl⟩ := hrel
    have hs1 : sumL ls i ≤ 31 * 1048576 := Nat.le_trans (sumL_le (unhide HB) i hi) (Nat.mul_le_mul_right _ hi2)
    by_cases hlt : i < ls.length ∧ i ≤ 30
    · obtain ⟨b, o, xo, xc, rfl, c1, -⟩ := (unhide H).get i hlt.1
      have g1 : decide ((i : Int) < (ls.length : Int)) = true := by simp; omega
      have g2 : decide ((i : Int) ≤ 30) = true := by simp; omega
      have hsu := sumL_succ hlt.1
      have hle := unhide HB _ (List.getElem_mem hlt.1)
      have HS := hide hsu
      generalize (ls[i]).length = li at *
      generalize sumL ls i = si at *
      have g3 : i < ls.length := hlt.1
      have g4 : i ≤ 30 := hlt.2
      clear hsu hlt
      go_wp2_with fail
      go_roundw
      case rel => exact ⟨i + 1, by omega, by omega, by go_num, by rw [unhide HS]; go_num, trivial⟩
      case measure => simp [intOf]; omega
    · have he : sumL ls i = sumL ls (min ls.length 31) ∨ 30 < ls.length := by
        by_cases h30 : 30 < ls.length
        · exact .inr h30
        · exact .inl (by rw [show min ls.length 31 = i by omega])
      have hend : hugeB ls = (decide ((30 : Int) < (ls.length : Int)) || decide ((9000 : Int) < ((sumL ls i : Nat) : Int))) := by
        unfold hugeB
        by_cases h30 : 30 < ls.length
        · have a1 : decide (30 < ls.length) = true := by simpa using h30
          have a2 : decide ((30 : Int) < (ls.length : Int)) = true := by simp; omega
          rw [a1, a2]; rfl
        · rw [he.resolve_right h30]
          have a1 : decide (30 < ls.length) = false := by simpa using h30
          have a2 : decide ((30 : Int) < (ls.length : Int)) = false := by simp; omega
          rw [a1, a2]
          generalize sumL ls (min ls.length 31) = s
          by_cases h9 : 9000 < s
          · have a3 : decide (9000 < s) = true := by simpa using h9
            have a4 : decide ((9000 : Int) < (s : Int)) = true := by simp; omega
            rw [a3, a4]
          · have a3 : decide (9000 < s) = false := by simpa using h9
            have a4 : decide ((9000 : Int) < (s : Int)) = false := by simp; omega
            rw [a3, a4]
      have HE := hide hend
      generalize sumL ls i = si at *
      clear he hend
      by_cases h1 : i < ls.length
      · have g2 : decide ((i : Int) ≤ 30) = false := by simp; omega
        have g3 : decide ((30 : Int) < (ls.length : Int)) = true := by simp; omega
        clear hlt
        go_wp2_with fail
        go_ret
        exact ⟨by rw [unhide HE, g3]; rfl, rfl⟩
      · by_cases h30 : 30 < ls.length
        · have g3 : decide ((30 : Int) < (ls.length : Int)) = true := by simp; omega
          clear hlt
          go_wp2_with fail
          go_ret
          exact ⟨by rw [unhide HE, g3]; rfl, rfl⟩
        · have g3 : decide ((30 : Int) < (ls.length : Int)) = false := by simp; omega
          clear hlt
          go_wp2_with fail
          go_ret
          exact ⟨by rw [unhide HE, g3]; rfl, rfl⟩

theorem check_nil (w : World) (ao : Option Addr) (n c : Nat) : Calls Try.prog 49 #[.pointer none, .slice ao n c] w fun e w' => e = .returned (.tuple #[.bool false, .int .i64 7]) ∧ w = w' := by
  go_enter Try.func49, Try.ntmps49
  go_wp2_with fail
  go_ret2
  exact ⟨rfl, rfl⟩

set_option maxRecDepth 100000 in
theorem update_nil (w : World) (ao bo co : Option Addr) (n c n' c' n2 c2 : Nat) (i : Int) : Calls Try.prog 54 #[.pointer none, .slice ao n c, .int .i64 i, .slice bo n' c', .slice co n2 c2] w fun e w' => e = .returned (.tuple #[.slice none 0 0, .int .i64 7]) ∧ w = w' := by
  go_enter Try.func54, Try.ntmps54
  go_wp2_with fail
  go_ret2
  exact ⟨rfl, rfl⟩

theorem split_nil (w : World) (ao : Option Addr) (n c : Nat) : Calls Try.prog 56 #[.pointer none, .slice ao n c] w fun e w' => e = .returned (.tuple #[.slice none 0 0, .int .i64 7]) ∧ w = w' := by
  go_enter Try.func56, Try.ntmps56
  go_wp2_with fail
  go_ret2
  exact ⟨rfl, rfl⟩

theorem join_nil (w : World) (ao : Option Addr) (n c : Nat) (i : Int) : Calls Try.prog 58 #[.pointer none, .slice ao n c, .int .i64 i] w fun e w' => e = .returned (.tuple #[.slice none 0 0, .int .i64 7]) ∧ w = w' := by
  go_enter Try.func58, Try.ntmps58
  go_wp2_with fail
  go_ret2
  exact ⟨rfl, rfl⟩

end Go.Proofs.Ytckmddkhkdcmmaa
