/-
  The walks of the document's Same, and of the laws' live.
-/
import Derived.Test.YtckmddkhkdcmmaaRs9
namespace Go.Proofs.Ytckmddkhkdcmmaa
open Go.RowKit
set_option linter.unusedVariables false

attribute [local go_sem ↓] Go.wp_at_zero Go.wp_at_succ

theorem str_eq (l1 l2 : List UInt8) : ((str l1).toList == (str l2).toList) = decide (l1 = l2) := by
  rw [ByteArray.toList_eq, ByteArray.toList_eq, str_data, str_data, Bool.eq_iff_iff]; simp

set_option maxHeartbeats 1000000 in
theorem rsame_any (w : World) (v u : Value) (ls ms : List (List UInt8)) (h1 : RdL w v ls) (h2 : RdL w u ms) (hl : ls.length ≤ 100000) :
    Calls Try.prog 47 #[v, u] w fun e w' => e = .returned (.bool (decide (ls = ms))) ∧ Fr (fun _ => False) w w' := by
  have H1 := hide h1
  have H2 := hide h2
  obtain ⟨ao, ac, rfl⟩ := h1.shape
  obtain ⟨bo, bc, rfl⟩ := h2.shape
  clear h1 h2
  by_cases he : ls.length = ms.length
  · rw [← he] at H2 ⊢
    have HE := hide he
    clear he
    obtain ⟨n, hn⟩ : ∃ n, n = ls.length := ⟨_, rfl⟩
    rw [← hn] at H1 H2 hl ⊢
    have HN := hide hn
    clear hn
    go_enter Try.func47, Try.ntmps47
    go_wp2_with fail
    go_loopw [5] (fun x w' => ∃ i : Nat, i ≤ n ∧ x = .int .i64 (i : Int) ∧ ls.take i = ms.take i ∧ Fr (fun _ => False) w w') (fun x _ => n - (intOf x).toNat)
    case atStart => exact ⟨0, by omega, rfl, by simp, Fr.refl _ _⟩
    case round =>
      obtain ⟨i, hi, rfl, ht, hf⟩ := hrel
      by_cases hlt : i < n
      · have i1 : i < ls.length := by have := unhide HN; omega
        have i2 : i < ms.length := by have := unhide HN; have := unhide HE; omega
        obtain ⟨b1, o1, x1, y1, rfl, c1, r1⟩ := ((unhide H1).kept hf).get i i1
        obtain ⟨b2, o2, x2, y2, rfl, c2, r2⟩ := ((unhide H2).kept hf).get i i2
        have k1 := fun j => conv_rd (P := Try.prog) (r1.kept (Fr.ofDrewN (S := fun _ => False) wr j) (fun _ _ h => h)) 22 9 5 Try.underlying22 Try.underlying5 Try.underlying9
        have k2 := fun j => conv_rd (P := Try.prog) (r2.kept (Fr.ofDrewN (S := fun _ => False) wr j) (fun _ _ h => h)) 22 9 5 Try.underlying22 Try.underlying5 Try.underlying9
        have hs := str_eq ls[i] ms[i]
        have HT := hide ht
        have Hf := hide hf
        have htk1 := List.take_succ_eq_append_getElem i1
        have htk2 := List.take_succ_eq_append_getElem i2
        have hget : ls = ms → ls[i] = ms[i] := by rintro rfl; rfl
        have T1 := hide htk1
        have T2 := hide htk2
        have HG := hide hget
        generalize ls[i] = li at *
        generalize ms[i] = mi at *
        clear ht hf r1 r2 htk1 htk2 hget
        by_cases hd : li = mi
        · have hb : ((str li).toList == (str mi).toList) = true := by rw [hs]; simpa using hd
          have HD := hide hd
          clear hs hd
          generalize str li = s1 at *
          generalize str mi = s2 at *
          generalize li.length = n1 at *
          generalize mi.length = n2 at *
          go_wp2_with fail
          go_quiet (fail)
          go_wp2_with fail
          go_roundw
          case rel => exact ⟨i + 1, by omega, by go_num, by rw [unhide T1, unhide T2, unhide HT, unhide HD], (unhide Hf).drewN _⟩
          case measure => simp [intOf]; omega
        · have hb : ((str li).toList == (str mi).toList) = false := by rw [hs]; simpa using hd
          have HD := hide hd
          clear hs hd
          generalize str li = s1 at *
          generalize str mi = s2 at *
          generalize li.length = n1 at *
          generalize mi.length = n2 at *
          go_wp2_with fail
          go_quiet (fail)
          go_wp2_with fail
          go_ret
          have e : decide (ls = ms) = false := by
            simp only [decide_eq_false_iff_not]
            exact fun h => unhide HD (unhide HG h)
          rw [e]
          exact ⟨rfl, (unhide Hf).drewN _⟩
      · have HT := hide ht
        have Hf := hide hf
        clear ht hf
        go_wp2_with fail
        go_ret
        have e : decide (ls = ms) = true := by
          simp only [decide_eq_true_eq]
          have h := unhide HT
          rwa [List.take_of_length_le (by have := unhide HN; omega), List.take_of_length_le (by have := unhide HN; have := unhide HE; omega)] at h
        rw [e]
        exact ⟨rfl, unhide Hf⟩
  · have e : decide (ls = ms) = false := by
      simp only [decide_eq_false_iff_not]
      rintro rfl
      exact he rfl
    rw [e]
    have hb : ((ls.length : Int) != (ms.length : Int)) = true := by
      simp only [bne_iff_ne, ne_eq]; omega
    clear he e
    go_enter Try.func47, Try.ntmps47
    go_wp2_with fail
    go_ret
    exact ⟨rfl, Fr.refl _ _⟩

theorem RdL.of_heap {w : World} {g t : Nat} {vs : List Value} {ls : List (List UInt8)} (hg : w.heap[g]? = some (.cells vs.toArray t (0, 0))) (hl : vs.length = ls.length) (hm : vs.length ≤ maxLen) (hr : ∀ (i : Nat) (x : Value) (l : List UInt8), vs[i]? = some x → ls[i]? = some l → Rd w x l) : RdL w (.slice (some ⟨g, 0, none⟩) vs.length vs.length) ls :=
  ⟨vs, .inr ⟨_, _, rfl, Nat.le_refl _, hm, fun j hj => by rw [Addr.add_lit, Nat.zero_add, cell_of_heap hg]; simp [hj]⟩, hl, hr⟩

theorem RdV.of_heap {w : World} {g t : Nat} {vs : List Value} (hg : w.heap[g]? = some (.cells vs.toArray t (0, 0))) (hm : vs.length ≤ maxLen) : RdV w (.slice (some ⟨g, 0, none⟩) vs.length vs.length) vs :=
  .inr ⟨_, _, rfl, Nat.le_refl _, hm, fun j hj => by rw [Addr.add_lit, Nat.zero_add, cell_of_heap hg]; simp [hj]⟩

theorem rd_oneB (w : World) (b : UInt8) : Rd (w.alloc (Obj.cells #[.int .u8 ((b.toNat : Nat) : Int)] 5)) (.slice (some ⟨w.heap.size, 0, none⟩) 1 1) [b] := by
  refine Rd.lit rfl (Nat.le_refl _) (by simp [maxLen]) fun j hj => ?_
  rw [Nat.zero_add, cell_of_heap (heap_alloc_new w _)]
  simp at hj
  subst hj
  rfl

theorem lv_1 : shl [[1], [1]] 2 = (1, 0) := by decide +kernel
theorem lv_2 : encL 2 1 [[1], [1]] 1 = [[122]] := by decide +kernel
theorem lv_3 : wl [false, true, true] = [1, 2] := by decide +kernel
theorem lv_4 : wl [false, false, true] = [2] := by decide +kernel
theorem lv_5 : shl (hl [[], [1], [122]] [false, true, true]) 2 = (1, 0) := by decide +kernel
theorem lv_6 : rebL 2 1 [[], [1], [122]] [false, true, true] 1 = [[1], [1], [122]] := by decide +kernel
theorem lv_7 : shl (hl [[], [], [122]] [false, false, true]) 1 = (1, 0) := by decide +kernel

/-- Two shards of one byte each, in memory of their own. -/
theorem live_a (w : World) (b c : UInt8) : RdL (((w.alloc (Obj.cells #[.int .u8 ((b.toNat : Nat) : Int)] 5)).alloc (Obj.cells #[.int .u8 ((c.toNat : Nat) : Int)] 5)).alloc (Obj.cells #[.slice (some ⟨w.heap.size, 0, none⟩) 1 1, .slice (some ⟨w.heap.size + 1, 0, none⟩) 1 1] 22)) (.slice (some ⟨w.heap.size + 1 + 1, 0, none⟩) 2 2) [[b], [c]] := by
  have r1 := rd_oneB w b
  have r2 := rd_oneB (w.alloc (Obj.cells #[.int .u8 ((b.toNat : Nat) : Int)] 5)) c
  have hs : (w.alloc (Obj.cells #[.int .u8 ((b.toNat : Nat) : Int)] 5)).heap.size = w.heap.size + 1 := by simp
  rw [hs] at r2
  have hg := heap_alloc_new ((w.alloc (Obj.cells #[.int .u8 ((b.toNat : Nat) : Int)] 5)).alloc (Obj.cells #[.int .u8 ((c.toNat : Nat) : Int)] 5)) (Obj.cells #[.slice (some ⟨w.heap.size, 0, none⟩) 1 1, .slice (some ⟨w.heap.size + 1, 0, none⟩) 1 1] 22)
  rw [show ((w.alloc (Obj.cells #[.int .u8 ((b.toNat : Nat) : Int)] 5)).alloc (Obj.cells #[.int .u8 ((c.toNat : Nat) : Int)] 5)).heap.size = w.heap.size + 1 + 1 by simp] at hg
  refine RdL.of_heap (vs := [.slice (some ⟨w.heap.size, 0, none⟩) 1 1, .slice (some ⟨w.heap.size + 1, 0, none⟩) 1 1]) hg rfl (by simp [maxLen]) ?_
  intro i x l hx hl
  rcases i with _ | _ | i
  · simp at hx hl; subst hx hl
    exact r1.kept (((Fr.refl (fun _ => False) _).alloc _).alloc _) (fun _ _ h => h)
  · simp at hx hl; subst hx hl
    exact r2.kept ((Fr.refl (fun _ => False) _).alloc _) (fun _ _ h => h)
  · simp at hx

theorem live_row {w : World} {g t : Nat} {x y z : Value} {a b c : List UInt8} (hg : w.heap[g]? = some (.cells #[x, y, z] t (0, 0))) (h1 : Rd w x a) (h2 : Rd w y b) (h3 : Rd w z c) : RdL w (.slice (some ⟨g, 0, none⟩) 3 3) [a, b, c] := by
  refine RdL.of_heap (vs := [x, y, z]) hg rfl (by simp [maxLen]) ?_
  intro i u l hu hl
  rcases i with _ | _ | _ | i
  · simp at hu hl; subst hu hl; exact h1
  · simp at hu hl; subst hu hl; exact h2
  · simp at hu hl; subst hu hl; exact h3
  · simp at hu

theorem live_b (w : World) : RdL ((((w.alloc (Obj.cells #[.int .u8 1] 5)).alloc (Obj.cells #[.int .u8 122] 5)).alloc (Obj.cells #[.slice none 0 0, .slice (some ⟨w.heap.size, 0, none⟩) 1 1, .slice (some ⟨w.heap.size + 1, 0, none⟩) 1 1] 22)).alloc (Obj.cells #[.bool false, .bool true, .bool true] 4)) (.slice (some ⟨w.heap.size + 1 + 1, 0, none⟩) 3 3) [[], [1], [122]] ∧
    RdV ((((w.alloc (Obj.cells #[.int .u8 1] 5)).alloc (Obj.cells #[.int .u8 122] 5)).alloc (Obj.cells #[.slice none 0 0, .slice (some ⟨w.heap.size, 0, none⟩) 1 1, .slice (some ⟨w.heap.size + 1, 0, none⟩) 1 1] 22)).alloc (Obj.cells #[.bool false, .bool true, .bool true] 4)) (.slice (some ⟨w.heap.size + 1 + 1 + 1, 0, none⟩) 3 3) ([false, true, true].map Value.bool) := by
  have r1 := rd_oneB w 1
  have r2 := rd_oneB (w.alloc (Obj.cells #[.int .u8 1] 5)) 122
  have s1 : (w.alloc (Obj.cells #[.int .u8 1] 5)).heap.size = w.heap.size + 1 := by simp
  rw [s1] at r2
  have s2 : ((w.alloc (Obj.cells #[.int .u8 1] 5)).alloc (Obj.cells #[.int .u8 122] 5)).heap.size = w.heap.size + 1 + 1 := by simp
  have hg := heap_alloc_new ((w.alloc (Obj.cells #[.int .u8 1] 5)).alloc (Obj.cells #[.int .u8 122] 5)) (Obj.cells #[.slice none 0 0, .slice (some ⟨w.heap.size, 0, none⟩) 1 1, .slice (some ⟨w.heap.size + 1, 0, none⟩) 1 1] 22)
  rw [s2] at hg
  have s3 : (((w.alloc (Obj.cells #[.int .u8 1] 5)).alloc (Obj.cells #[.int .u8 122] 5)).alloc (Obj.cells #[.slice none 0 0, .slice (some ⟨w.heap.size, 0, none⟩) 1 1, .slice (some ⟨w.heap.size + 1, 0, none⟩) 1 1] 22)).heap.size = w.heap.size + 1 + 1 + 1 := by simp
  have hh := heap_alloc_new (((w.alloc (Obj.cells #[.int .u8 1] 5)).alloc (Obj.cells #[.int .u8 122] 5)).alloc (Obj.cells #[.slice none 0 0, .slice (some ⟨w.heap.size, 0, none⟩) 1 1, .slice (some ⟨w.heap.size + 1, 0, none⟩) 1 1] 22)) (Obj.cells #[.bool false, .bool true, .bool true] 4)
  rw [s3] at hh
  refine ⟨?_, RdV.of_heap (vs := [false, true, true].map Value.bool) hh (by simp [maxLen])⟩
  exact live_row (by rw [Below.heap_alloc _ _ _ (by rw [s3]; omega)]; exact hg) (Rd.nil _) (r1.kept ((((Fr.refl (fun _ => False) _).alloc _).alloc _).alloc _) (fun _ _ h => h)) (r2.kept (((Fr.refl (fun _ => False) _).alloc _).alloc _) (fun _ _ h => h))

theorem live_c (w : World) : RdL (((w.alloc (Obj.cells #[.int .u8 122] 5)).alloc (Obj.cells #[.slice none 0 0, .slice none 0 0, .slice (some ⟨w.heap.size, 0, none⟩) 1 1] 22)).alloc (Obj.cells #[.bool false, .bool false, .bool true] 4)) (.slice (some ⟨w.heap.size + 1, 0, none⟩) 3 3) [[], [], [122]] ∧
    RdV (((w.alloc (Obj.cells #[.int .u8 122] 5)).alloc (Obj.cells #[.slice none 0 0, .slice none 0 0, .slice (some ⟨w.heap.size, 0, none⟩) 1 1] 22)).alloc (Obj.cells #[.bool false, .bool false, .bool true] 4)) (.slice (some ⟨w.heap.size + 1 + 1, 0, none⟩) 3 3) ([false, false, true].map Value.bool) := by
  have r1 := rd_oneB w 122
  have s1 : (w.alloc (Obj.cells #[.int .u8 122] 5)).heap.size = w.heap.size + 1 := by simp
  have hg := heap_alloc_new (w.alloc (Obj.cells #[.int .u8 122] 5)) (Obj.cells #[.slice none 0 0, .slice none 0 0, .slice (some ⟨w.heap.size, 0, none⟩) 1 1] 22)
  rw [s1] at hg
  have s3 : ((w.alloc (Obj.cells #[.int .u8 122] 5)).alloc (Obj.cells #[.slice none 0 0, .slice none 0 0, .slice (some ⟨w.heap.size, 0, none⟩) 1 1] 22)).heap.size = w.heap.size + 1 + 1 := by simp
  have hh := heap_alloc_new ((w.alloc (Obj.cells #[.int .u8 122] 5)).alloc (Obj.cells #[.slice none 0 0, .slice none 0 0, .slice (some ⟨w.heap.size, 0, none⟩) 1 1] 22)) (Obj.cells #[.bool false, .bool false, .bool true] 4)
  rw [s3] at hh
  refine ⟨?_, RdV.of_heap (vs := [false, false, true].map Value.bool) hh (by simp [maxLen])⟩
  exact live_row (by rw [Below.heap_alloc _ _ _ (by rw [s3]; omega)]; exact hg) (Rd.nil _) (Rd.nil _) (r1.kept (((Fr.refl (fun _ => False) _).alloc _).alloc _) (fun _ _ h => h))

theorem live_d (w : World) : RdL ((((w.alloc (Obj.cells #[.int .u8 1] 5)).alloc (Obj.cells #[.int .u8 1] 5)).alloc (Obj.cells #[.int .u8 122] 5)).alloc (Obj.cells #[.slice (some ⟨w.heap.size, 0, none⟩) 1 1, .slice (some ⟨w.heap.size + 1, 0, none⟩) 1 1, .slice (some ⟨w.heap.size + 1 + 1, 0, none⟩) 1 1] 22)) (.slice (some ⟨w.heap.size + 1 + 1 + 1, 0, none⟩) 3 3) [[1], [1], [122]] := by
  have r1 := rd_oneB w 1
  have r2 := rd_oneB (w.alloc (Obj.cells #[.int .u8 1] 5)) 1
  have r3 := rd_oneB ((w.alloc (Obj.cells #[.int .u8 1] 5)).alloc (Obj.cells #[.int .u8 1] 5)) 122
  have s1 : (w.alloc (Obj.cells #[.int .u8 1] 5)).heap.size = w.heap.size + 1 := by simp
  rw [s1] at r2
  have s2 : ((w.alloc (Obj.cells #[.int .u8 1] 5)).alloc (Obj.cells #[.int .u8 1] 5)).heap.size = w.heap.size + 1 + 1 := by simp
  rw [s2] at r3
  have s3 : (((w.alloc (Obj.cells #[.int .u8 1] 5)).alloc (Obj.cells #[.int .u8 1] 5)).alloc (Obj.cells #[.int .u8 122] 5)).heap.size = w.heap.size + 1 + 1 + 1 := by simp
  have hg := heap_alloc_new (((w.alloc (Obj.cells #[.int .u8 1] 5)).alloc (Obj.cells #[.int .u8 1] 5)).alloc (Obj.cells #[.int .u8 122] 5)) (Obj.cells #[.slice (some ⟨w.heap.size, 0, none⟩) 1 1, .slice (some ⟨w.heap.size + 1, 0, none⟩) 1 1, .slice (some ⟨w.heap.size + 1 + 1, 0, none⟩) 1 1] 22)
  rw [s3] at hg
  exact live_row hg (r1.kept ((((Fr.refl (fun _ => False) _).alloc _).alloc _).alloc _) (fun _ _ h => h)) (r2.kept (((Fr.refl (fun _ => False) _).alloc _).alloc _) (fun _ _ h => h)) (r3.kept ((Fr.refl (fun _ => False) _).alloc _) (fun _ _ h => h))

set_option maxHeartbeats 4000000 in
set_option maxRecDepth 100000 in
theorem live3_any (w : World) : Calls Try.prog 38 #[] w fun e w' => e = .returned (.bool true) ∧ Fr (fun _ => False) w w' := by
  have HN := hide (new_ok w 2 1 (by omega) (by omega))
  go_enter Try.func38, Try.ntmps38
  go_wp2_with fail
  refine (unhide HN).mono ?_
  rintro e w1 ⟨⟨p, rfl, -, hC⟩, f1⟩
  have HC := hide hC
  have HF1 := hide f1
  clear hC f1 HN
  go_wp2_with (go_at_call 48; refine (num3_any _ _).mono ?_; rintro e w' ⟨rfl, rfl⟩)
  have q2 : Fr (fun _ => False) w1 (((w1.alloc (Obj.cells #[.int .u8 1] 5)).alloc (Obj.cells #[.int .u8 1] 5)).alloc (Obj.cells #[.slice (some ⟨w1.heap.size, 0, none⟩) 1 1, .slice (some ⟨w1.heap.size + 1, 0, none⟩) 1 1] 22)) := (((Fr.refl _ _).alloc _).alloc _).alloc _
  have HE := hide (encode_ok _ p 2 1 _ [[1], [1]] ((unhide HC).kept q2 (fun _ _ h => h)) (live_a w1 1 1) (by show (shl [[1], [1]] 2).2 = 0; rw [lv_1]))
  rw [show ((2 : Nat) : Int) = 2 from rfl, lv_1] at HE
  simp only [lv_2] at HE
  have HQ2 := hide q2
  clear q2
  refine (unhide HE).mono ?_
  rintro e w2 ⟨⟨g2, rfl, hL2⟩, f2⟩
  have F2 := (unhide HQ2).trans f2 (fun _ _ h => h)
  obtain ⟨b, o, xo, xc, e, c1, hr⟩ := hL2.rdl.get 0 (by decide)
  simp only [Option.some.injEq, Addr.mk.injEq] at e
  obtain ⟨rfl, rfl, -⟩ := e
  have k1 := conv_rd (P := Try.prog) hr 22 9 5 Try.underlying22 Try.underlying5 Try.underlying9
  have hb : ((str [122]).toList == [122]) = true := by rw [ByteArray.toList_eq, str_data]; rfl
  simp only [List.getElem_cons_zero, List.length_cons, List.length_nil, Nat.zero_add] at c1 k1
  generalize str [122] = s1 at *
  have HF2 := hide ((unhide HF1).trans F2 (fun _ _ h => h))
  have HC2 := hide ((unhide HC).kept F2 (fun _ _ h => h))
  clear hL2 f2 hr F2 HE HQ2 HF1 HC
  go_wp2_with (go_at_call 48; refine (num3_any _ _).mono ?_; rintro e w' ⟨rfl, rfl⟩)
  clear c1 k1
  have q3 : Fr (fun _ => False) w2 ((((w2.alloc (Obj.cells #[.int .u8 1] 5)).alloc (Obj.cells #[.int .u8 122] 5)).alloc (Obj.cells #[.slice none 0 0, .slice (some ⟨w2.heap.size, 0, none⟩) 1 1, .slice (some ⟨w2.heap.size + 1, 0, none⟩) 1 1] 22)).alloc (Obj.cells #[.bool false, .bool true, .bool true] 4)) := ((((Fr.refl _ _).alloc _).alloc _).alloc _).alloc _
  have HR := hide (rebuild_ok _ p 2 1 _ _ [[], [1], [122]] [false, true, true] ((unhide HC2).kept q3 (fun _ _ h => h)) (live_b w2).1 (live_b w2).2 rfl rfl (by rw [lv_3]; show (shl (hl [[], [1], [122]] [false, true, true]) 2).2 = 0; rw [lv_5]) (by rw [lv_3]; decide))
  rw [lv_3] at HR
  simp only [List.length_cons, List.length_nil, Nat.zero_add, Nat.reduceAdd] at HR
  rw [show ((2 : Nat) : Int) = 2 from rfl, lv_5] at HR
  simp only [lv_6] at HR
  have HQ3 := hide q3
  clear q3
  refine (unhide HR).mono ?_
  rintro e w3 ⟨⟨g3, rfl, hL3⟩, f3⟩
  have F3 := (unhide HQ3).trans f3 (fun _ _ h => h)
  have HL3 := hide hL3.rdl
  have HF3 := hide ((unhide HF2).trans F3 (fun _ _ h => h))
  have HC3 := hide ((unhide HC2).kept F3 (fun _ _ h => h))
  clear hL3 f3 F3 HR HQ3 HF2 HC2
  go_wp2_with fail
  have q4 : Fr (fun _ => False) w3 (((w3.alloc (Obj.cells #[.int .u8 122] 5)).alloc (Obj.cells #[.slice none 0 0, .slice none 0 0, .slice (some ⟨w3.heap.size, 0, none⟩) 1 1] 22)).alloc (Obj.cells #[.bool false, .bool false, .bool true] 4)) := (((Fr.refl _ _).alloc _).alloc _).alloc _
  have HR := hide (rebuild_few _ p 2 1 _ _ [[], [], [122]] [false, false, true] ((unhide HC3).kept q4 (fun _ _ h => h)) (live_c w3).1 (live_c w3).2 rfl rfl (by rw [lv_4]; show (shl (hl [[], [], [122]] [false, false, true]) 1).2 = 0; rw [lv_7]) (by rw [lv_4]; decide))
  have HQ4 := hide q4
  clear q4
  refine (unhide HR).mono ?_
  rintro e w4 ⟨rfl, f4⟩
  have F4 := (unhide HQ4).trans f4 (fun _ _ h => h)
  have HL4 := hide ((unhide HL3).kept F4)
  have HF4 := hide ((unhide HF3).trans F4 (fun _ _ h => h))
  have q5 : Fr (fun _ => False) w4 ((((w4.alloc (Obj.cells #[.int .u8 1] 5)).alloc (Obj.cells #[.int .u8 1] 5)).alloc (Obj.cells #[.int .u8 122] 5)).alloc (Obj.cells #[.slice (some ⟨w4.heap.size, 0, none⟩) 1 1, .slice (some ⟨w4.heap.size + 1, 0, none⟩) 1 1, .slice (some ⟨w4.heap.size + 1 + 1, 0, none⟩) 1 1] 22)) := ((((Fr.refl _ _).alloc _).alloc _).alloc _).alloc _
  have HS := hide (rsame_any _ _ _ _ _ ((unhide HL4).kept q5) (live_d w4) (by decide))
  rw [show decide (([[1], [1], [122]] : List (List UInt8)) = [[1], [1], [122]]) = true from by decide] at HS
  have HQ5 := hide q5
  clear f4 F4 HR HQ4 HF3 HC3 HL3 q5
  go_wp2_with (first | (go_at_call 48; refine (num3_any _ _).mono ?_; rintro e w' ⟨rfl, rfl⟩) | (go_at_call 47; refine (unhide HS).mono ?_; rintro e w5 ⟨rfl, f5⟩))
  go_ret
  exact ⟨rfl, ((unhide HF4).trans (unhide HQ5) (fun _ _ h => h)).trans f5 (fun _ _ h => h)⟩

end Go.Proofs.Ytckmddkhkdcmmaa
