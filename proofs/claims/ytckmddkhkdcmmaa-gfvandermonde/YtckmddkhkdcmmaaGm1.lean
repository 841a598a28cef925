/-
  The walks of gf's Rank, Product and Rows, where they answer.
-/
import Derived.Test.YtckmddkhkdcmmaaInv
import Derived.Test.YtckmddkhkdcmmaaGau
import Derived.Deep.RegionHeld3
namespace Go.Proofs.Ytckmddkhkdcmmaa
open Go.RowKit
set_option linter.unusedVariables false
set_option linter.unusedSimpArgs false

attribute [local go_sem ↓] Go.wp_at_zero Go.wp_at_succ

theorem chk_ok {rows cols n : Nat} (h1 : 1 ≤ rows ∧ rows ≤ 64) (h2 : 1 ≤ cols ∧ cols ≤ 64) (hl : n = rows * cols) : chk rows cols n = 0 := by
  unfold chk sideB
  rw [if_pos ⟨by simp; omega, by simp; omega⟩, if_pos (by rw [hl]; simp)]

set_option maxHeartbeats 2000000 in
set_option maxRecDepth 100000 in
theorem rank_ok (w : World) (rows cols : Nat) (v : Value) (l : List UInt8) (hv : Rd w v l) (hl : l.length = rows * cols) (h1 : 1 ≤ rows ∧ rows ≤ 64) (h2 : 1 ≤ cols ∧ cols ≤ 64) :
    Calls Try.prog 29 #[.agg #[.int .i64 (rows : Int), .int .i64 (cols : Int), v]] w fun e w' => e = .returned (.tuple #[.int .i64 (((redK (bsd l cols 0 eyeC rows) cols).2 : Nat) : Int), .int .i64 0]) ∧ Fr (fun _ => False) w w' := by
  have hck := chk_ok h1 h2 hl
  obtain ⟨ao, cap, rfl⟩ := hv.shape
  have HV := hide hv
  have HL := hide hl
  have HCK := hide hck
  clear hv hl hck
  go_enter Try.func29, Try.ntmps29
  go_wp2_with fail
  refine (check_any _ _ _ _ _ _).mono ?_
  rintro e w1 ⟨rfl, f1⟩
  rw [unhide HCK]
  have T := heap_alloc_new w (Obj.cells #[.int .i64 (rows : Int), .int .i64 (cols : Int), .slice ao l.length cap] 24)
  have ha1 := (f1.block _ (lt_of_heap T) id).trans T
  have F1 := ((Fr.refl (fun _ => False) w).alloc _).trans f1 (fun _ _ h => h)
  have a0 := cell_of_heap ha1 0
  have a1 := cell_of_heap ha1 1
  have a2 := cell_of_heap ha1 2
  simp at a0 a1 a2
  have hlt := lt_of_heap ha1
  have hv1 := (unhide HV).kept F1 (fun _ _ h => h)
  have HBe := hide (show ∀ W, Fr (fun _ => False) w1 W → Calls Try.prog 74 #[.agg #[.int .i64 (rows : Int), .int .i64 (cols : Int), .slice ao l.length cap], .int .i64 0, .nilFunc] W fun e w' => (∃ g bs, e = .returned (.slice (some ⟨g, 0, none⟩) rows rows) ∧ w1.heap.size ≤ g ∧ bs.length = rows ∧ (∀ b ∈ bs, w1.heap.size ≤ b) ∧ Ls w' g bs cols (bsd l cols 0 eyeC rows)) ∧ Fr (fun _ => False) w1 w' from fun W f => by
    refine (beside_any W rows cols 0 _ l 75 #[] .nilFunc eyeC (hv1.kept f (fun _ _ h => h)) (unhide HL) h1 h2 (by omega) (.inl rfl) cf74 (fun W q r c hr hc => absurd hc (by omega))).mono ?_
    rintro e w' ⟨rfl, ⟨bs, hbs, hbn, hL⟩, f'⟩
    have := f.size
    exact ⟨⟨_, bs, rfl, by omega, hbs, fun b hb => by have := hbn b hb; omega, hL⟩, f.trans f' (fun _ _ h => h)⟩)
  have HA1 := hide ha1
  have HF1 := hide F1
  have HC := hide (show ∀ W, Fr (fun k => w1.heap.size ≤ k) w1 W → W.cell? ⟨w.heap.size, 0, none⟩ = some (.int .i64 (rows : Int)) ∧ W.cell? ⟨w.heap.size, 1, none⟩ = some (.int .i64 (cols : Int)) ∧ W.cell? ⟨w.heap.size, 2, none⟩ = some (.slice ao l.length cap) from fun W f => by
    have h := (f.block _ hlt (by omega)).trans ha1
    have a0 := cell_of_heap h 0
    have a1 := cell_of_heap h 1
    have a2 := cell_of_heap h 2
    simp at a0 a1 a2
    exact ⟨a0, a1, a2⟩)
  have HRd := hide (fun (W : World) (g : Nat) (bs : List Nat) (hb : bs.length = rows) (hL : Ls W g bs cols (bsd l cols 0 eyeC rows)) => reduce_any W g cols rows bs _ cols hL hb (Nat.le_refl _) (by omega) (by omega))
  generalize hrk : redK (bsd l cols 0 eyeC rows) cols = rk at HRd
  have HRK := hide hrk
  clear hrk
  clear T f1 F1 ha1 hv1
  go_wp2_with fail
  go_region_held3 (fun W => W.cell? ⟨w.heap.size, 0, none⟩ = some (.int .i64 (rows : Int)) ∧ W.cell? ⟨w.heap.size, 1, none⟩ = some (.int .i64 (cols : Int)) ∧ W.cell? ⟨w.heap.size, 2, none⟩ = some (.slice ao l.length cap)) (go_keep) ((first
    | (go_at_call 74; refine (unhide HBe _ (by first | exact Fr.ofDrewN _ 1 | exact Fr.ofDrewN _ _)).mono ?_; rintro e w2 ⟨⟨g, bs, rfl, hg, hbs, hbn, hL⟩, f2⟩; have s2 := (unhide HC w2 (f2.mono (fun _ _ h => h.elim))).1; have s2' := (unhide HC w2 (f2.mono (fun _ _ h => h.elim))).2.1; have s2'' := (unhide HC w2 (f2.mono (fun _ _ h => h.elim))).2.2)
    | (go_at_call 76; refine (unhide HRd _ g bs hbs hL).mono ?_; rintro e w3 ⟨rfl, -, f3⟩; have F3 : Fr (fun k => w1.heap.size ≤ k) w1 w3 := (f2.mono (fun _ _ h => h.elim)).trans f3 (fun k hk e => e.elim (fun e => by omega) (fun e => hbn k e)); have s3 := (unhide HC w3 F3).1; have s3' := (unhide HC w3 F3).2.1; have s3'' := (unhide HC w3 F3).2.2)))
  all_goals
    have HF3 := hide ((unhide HF1).trans F3 (fun k hk e => by have := (unhide HF1).size; omega))
    clear f2 f3 F3 s2 s2' s2'' s3 s3' s3'' hL hbs hbn
    go_wp2_with fail
    go_ret2
    exact ⟨by rw [unhide HRK]; rfl, by first | exact unhide HF3 | exact (unhide HF3).drew⟩

theorem cf67 (args : Array Value) (W : World) : Sem.run Try.prog (callFunc 67 args) W = .ok (.enter 67 args) W := by simp [go_sem]

set_option maxHeartbeats 2000000 in
set_option maxRecDepth 100000 in
/-- One cell of a product. -/
theorem prod1_any (w : World) (bA bf bB p : Nat) (rows cols wide : Nat) (va vb : Value) (la lb : List UInt8) (r c : Nat) (hA : w.heap[bA]? = some (.cells #[.int .i64 (rows : Int), .int .i64 (cols : Int), va] 24 (0, 0))) (hf : w.heap[bf]? = some (.cells #[.pointer (some ⟨p, 0, none⟩)] 100 (0, 0))) (hB : w.heap[bB]? = some (.cells #[.int .i64 (cols : Int), .int .i64 (wide : Int), vb] 24 (0, 0))) (hF : FAt w p)
    (ha : Rd w va la) (hb : Rd w vb lb) (hla : la.length = rows * cols) (hlb : lb.length = cols * wide) (h1 : 1 ≤ rows ∧ rows ≤ 64) (h2 : 1 ≤ cols ∧ cols ≤ 64) (h3 : 1 ≤ wide ∧ wide ≤ 64) (hr : r < rows) (hc : c < wide) :
    Calls Try.prog 67 #[.int .i64 (r : Int), .int .i64 (c : Int), .pointer (some ⟨bA, 0, none⟩), .pointer (some ⟨bf, 0, none⟩), .pointer (some ⟨bB, 0, none⟩)] w fun e w' => e = .returned (.int .u8 (((sg cols (fun i => mul (mc la cols r i) (mc lb wide i c))).toNat : Nat) : Int)) ∧ Fr (fun _ => False) w w' := by
  have HC := hide (show ∀ W, Fr (fun _ => False) w W → (W.cell? ⟨bA, 0, none⟩ = some (.int .i64 (rows : Int)) ∧ W.cell? ⟨bA, 1, none⟩ = some (.int .i64 (cols : Int)) ∧ W.cell? ⟨bA, 2, none⟩ = some va) ∧ W.cell? ⟨bf, 0, none⟩ = some (.pointer (some ⟨p, 0, none⟩)) ∧ (W.cell? ⟨bB, 0, none⟩ = some (.int .i64 (cols : Int)) ∧ W.cell? ⟨bB, 1, none⟩ = some (.int .i64 (wide : Int)) ∧ W.cell? ⟨bB, 2, none⟩ = some vb) from fun W f => by
    have hA' := (f.block _ (lt_of_heap hA) id).trans hA
    have hB' := (f.block _ (lt_of_heap hB) id).trans hB
    have hf' := (f.block _ (lt_of_heap hf) id).trans hf
    have a0 := cell_of_heap hA' 0
    have a1 := cell_of_heap hA' 1
    have a2 := cell_of_heap hA' 2
    have b0 := cell_of_heap hB' 0
    have b1 := cell_of_heap hB' 1
    have b2 := cell_of_heap hB' 2
    have e0 := cell_of_heap hf' 0
    simp at a0 a1 a2 b0 b1 b2 e0
    exact ⟨⟨a0, a1, a2⟩, e0, b0, b1, b2⟩)
  have HAt1 := hide (show ∀ W, Fr (fun _ => False) w W → ∀ i, i < cols → Calls Try.prog 69 #[.agg #[.int .i64 (rows : Int), .int .i64 (cols : Int), va], .int .i64 (r : Int), .int .i64 (i : Int)] W fun e w' => e = .returned (.int .u8 (((mc la cols r i).toNat : Nat) : Int)) ∧ Fr (fun _ => False) w w' from fun W f i hi => by
    have hlt : r * cols + i < la.length := by rw [hla]; exact mul_step hr hi
    refine (at_any W rows r i cols va la (ha.kept f (fun _ _ h => h)) (by omega) (by omega) h2.2 hlt).mono ?_
    rintro e w' ⟨rfl, f'⟩
    exact ⟨by unfold mc; rw [List.getElem?_eq_getElem hlt]; rfl, f.trans f' (fun _ _ h => h)⟩)
  have HAt2 := hide (show ∀ W, Fr (fun _ => False) w W → ∀ i, i < cols → Calls Try.prog 69 #[.agg #[.int .i64 (cols : Int), .int .i64 (wide : Int), vb], .int .i64 (i : Int), .int .i64 (c : Int)] W fun e w' => e = .returned (.int .u8 (((mc lb wide i c).toNat : Nat) : Int)) ∧ Fr (fun _ => False) w w' from fun W f i hi => by
    have hlt : i * wide + c < lb.length := by rw [hlb]; exact mul_step hi hc
    refine (at_any W cols i c wide vb lb (hb.kept f (fun _ _ h => h)) (by omega) (by omega) h3.2 hlt).mono ?_
    rintro e w' ⟨rfl, f'⟩
    exact ⟨by unfold mc; rw [List.getElem?_eq_getElem hlt]; rfl, f.trans f' (fun _ _ h => h)⟩)
  have HMul := hide (show ∀ W, Fr (fun _ => False) w W → ∀ x y : UInt8, Calls Try.prog 68 #[.pointer (some ⟨p, 0, none⟩), .int .u8 ((x.toNat : Nat) : Int), .int .u8 ((y.toNat : Nat) : Int)] W fun e w' => e = .returned (.int .u8 (((mul x y).toNat : Nat) : Int)) ∧ Fr (fun _ => False) w w' from fun W f x y => by
    refine (fmul_any W p x y (hF.kept f id)).mono ?_
    rintro e w' ⟨rfl, n, rfl⟩
    exact ⟨rfl, f.trans (Fr.ofDrewN _ _) (fun _ _ h => h)⟩)
  obtain ⟨⟨-, c1, -⟩, -⟩ := unhide HC w (Fr.refl _ _)
  obtain ⟨ao, ac, rfl⟩ := ha.shape
  obtain ⟨bo, bc, rfl⟩ := hb.shape
  clear hA hf hB hF ha hb hla hlb
  go_enter Try.func67, Try.ntmps67
  go_wp2_with fail
  go_loopw [8, 9, 12] (fun x _ y w' => ∃ i : Nat, i ≤ cols ∧ y = .int .i64 (i : Int) ∧ x = .int .u8 (((sg i (fun i => mul (mc la cols r i) (mc lb wide i c))).toNat : Nat) : Int) ∧ Fr (fun _ => False) w w') (fun _ _ y _ => cols - (intOf y).toNat)
  case atStart => exact ⟨0, Nat.zero_le _, rfl, rfl, Fr.refl _ _⟩
  case round =>
    obtain ⟨i, hi, rfl, rfl, hf⟩ := hrel
    by_cases hlt : i < cols
    · obtain ⟨⟨a0, a1, a2⟩, e0, b0, b1, b2⟩ := unhide HC wr hf
      have Hf := hide hf
      clear hf
      go_wp2_with fail
      go_region_held3 (fun W => W.cell? ⟨bA, 0, none⟩ = some (.int .i64 (rows : Int)) ∧ W.cell? ⟨bA, 1, none⟩ = some (.int .i64 (cols : Int)) ∧ W.cell? ⟨bA, 2, none⟩ = some (.slice ao la.length ac) ∧ W.cell? ⟨bf, 0, none⟩ = some (.pointer (some ⟨p, 0, none⟩)) ∧ W.cell? ⟨bB, 0, none⟩ = some (.int .i64 (cols : Int)) ∧ W.cell? ⟨bB, 1, none⟩ = some (.int .i64 (wide : Int)) ∧ W.cell? ⟨bB, 2, none⟩ = some (.slice bo lb.length bc)) (go_keep) ((first
        | (go_at_call 68; refine (unhide HMul _ F3 _ _).mono ?_; rintro e w4 ⟨rfl, F4⟩; obtain ⟨⟨u0, u1, u2⟩, u3, u4, u5, u6⟩ := unhide HC w4 F4)
        | (go_at_call 69; refine (unhide HAt2 _ F2 i hlt).mono ?_; rintro e w3 ⟨rfl, F3⟩; obtain ⟨⟨t0, t1, t2⟩, t3, t4, t5, t6⟩ := unhide HC w3 F3)
        | (go_at_call 69; refine (unhide HAt1 _ ((unhide Hf).trans (by first | exact Fr.ofDrewN _ 1 | exact Fr.ofDrewN _ _) (fun _ _ h => h)) i hlt).mono ?_; rintro e w2 ⟨rfl, F2⟩; obtain ⟨⟨s0, s1, s2⟩, s3, s4, s5, s6⟩ := unhide HC w2 F2)))
      all_goals
        have HF4 := hide F4
        clear F2 F3 F4 s0 s1 s2 s3 s4 s5 s6 t0 t1 t2 t3 t4 t5 t6 u0 u1 u2 u3 u4 u5 u6
        go_wp2_with fail
        go_roundw
        case rel => exact ⟨i + 1, by omega, by go_num, by rw [xorV]; rfl, by first | exact unhide HF4 | exact (unhide HF4).drew⟩
        case measure => simp [intOf]; omega
    · obtain rfl : i = cols := by omega
      have Hf := hide hf
      clear hf
      go_wp2_with fail
      go_ret
      exact ⟨rfl, unhide Hf⟩

theorem three_allocs (w : World) (A B C : Array Value) (tb : TypeId) : let W := ((w.alloc (Obj.cells A 24)).alloc (Obj.cells B tb)).alloc (Obj.cells C 24)
    W.heap[w.heap.size]? = some (.cells A 24 (0, 0)) ∧ W.heap[w.heap.size + 1]? = some (.cells B tb (0, 0)) ∧ W.heap[w.heap.size + 2]? = some (.cells C 24 (0, 0)) := by
  refine ⟨?_, ?_, ?_⟩
  · rw [Below.heap_alloc _ _ _ (by simp; omega), Below.heap_alloc _ _ _ (by simp)]; exact heap_alloc_new w _
  · rw [Below.heap_alloc _ _ _ (by simp)]
    have := heap_alloc_new (w.alloc (Obj.cells A 24)) (Obj.cells B tb)
    simpa using this
  · have := heap_alloc_new ((w.alloc (Obj.cells A 24)).alloc (Obj.cells B tb)) (Obj.cells C 24)
    simpa using this

/-- A product of two matrices. -/
def prL (rows cols wide : Nat) (la lb : List UInt8) : List UInt8 := fl wide (fun r c => sg cols (fun i => mul (mc la cols r i) (mc lb wide i c))) (rows * wide)
theorem prL_length (rows cols wide : Nat) (la lb : List UInt8) : (prL rows cols wide la lb).length = rows * wide := fl_length _ _ _

set_option maxHeartbeats 2000000 in
set_option maxRecDepth 100000 in
theorem product_ok (w : World) (rows cols wide : Nat) (va vb : Value) (la lb : List UInt8) (ha : Rd w va la) (hb : Rd w vb lb) (hla : la.length = rows * cols) (hlb : lb.length = cols * wide) (h1 : 1 ≤ rows ∧ rows ≤ 64) (h2 : 1 ≤ cols ∧ cols ≤ 64) (h3 : 1 ≤ wide ∧ wide ≤ 64) :
    Calls Try.prog 17 #[.agg #[.int .i64 (rows : Int), .int .i64 (cols : Int), va], .agg #[.int .i64 (cols : Int), .int .i64 (wide : Int), vb]] w fun e w' => (∃ q, e = .returned (.tuple #[.agg #[.int .i64 (rows : Int), .int .i64 (wide : Int), .slice (some ⟨q, 0, none⟩) (rows * wide) (rows * wide)], .int .i64 0]) ∧ BAt w' q (prL rows cols wide la lb)) ∧ Fr (fun _ => False) w w' := by
  have hck1 := chk_ok h1 h2 hla
  have hck2 := chk_ok h2 h3 hlb
  obtain ⟨ao, ac, rfl⟩ := ha.shape
  obtain ⟨bo, bc, rfl⟩ := hb.shape
  have HA := hide ha
  have HB := hide hb
  have HLA := hide hla
  have HLB := hide hlb
  have HC1 := hide hck1
  have HC2 := hide hck2
  clear ha hb hla hlb hck1 hck2
  go_enter Try.func17, Try.ntmps17
  go_wp2_with fail
  refine (check_any _ _ _ _ _ _).mono ?_
  rintro e w1 ⟨rfl, f1⟩
  rw [unhide HC1]
  have T := three_allocs w #[.int .i64 (rows : Int), .int .i64 (cols : Int), .slice ao la.length ac] #[.int .i64 (cols : Int), .int .i64 (wide : Int), .slice bo lb.length bc] #[.int .i64 0, .int .i64 0, .slice none 0 0] 24
  have ta := (f1.block _ (lt_of_heap T.1) id).trans T.1
  have tb := (f1.block _ (lt_of_heap T.2.1) id).trans T.2.1
  have tc := (f1.block _ (lt_of_heap T.2.2) id).trans T.2.2
  have F1 := ((((Fr.refl (fun _ => False) w).alloc _).alloc _).alloc _).trans f1 (fun _ _ h => h)
  have b0 := cell_of_heap tb 0
  have b1 := cell_of_heap tb 1
  have b2 := cell_of_heap tb 2
  simp at b0 b1 b2
  have HTA := hide ta
  have HTB := hide tb
  have HTC := hide tc
  have HF1 := hide F1
  clear T f1 ta tb tc F1
  go_wp2_with fail
  refine (check_any _ _ _ _ _ _).mono ?_
  rintro e w2 ⟨rfl, f2⟩
  rw [unhide HC2]
  have ta := (f2.block _ (lt_of_heap (unhide HTA)) id).trans (unhide HTA)
  have tb := (f2.block _ (lt_of_heap (unhide HTB)) id).trans (unhide HTB)
  have tc := (f2.block _ (lt_of_heap (unhide HTC)) id).trans (unhide HTC)
  have F2 := (unhide HF1).trans f2 (fun _ _ h => h)
  have a0 := cell_of_heap ta 0
  have a1 := cell_of_heap ta 1
  have b0 := cell_of_heap tb 0
  have b1 := cell_of_heap tb 1
  simp at a0 a1 b0 b1
  have HTA := hide ta
  have HTB := hide tb
  have HTC := hide tc
  have HF2 := hide F2
  clear f2 ta tb tc F2 HF1
  go_wp2_with fail
  refine (newField_any _).mono ?_
  rintro e w3 ⟨rfl, hF, f3⟩
  have F3 := (unhide HF2).trans f3 (fun _ _ h => h)
  have fA : Fr (fun _ => False) w3 (w3.alloc (Obj.cells #[.pointer (some ⟨w2.heap.size, 0, none⟩)] 100)) := (Fr.refl _ _).alloc _
  have fB := f3.trans fA (fun _ _ h => h)
  have hm := heap_alloc_new w3 (Obj.cells #[.pointer (some ⟨w2.heap.size, 0, none⟩)] 100)
  have ta := (fB.block _ (lt_of_heap (unhide HTA)) id).trans (unhide HTA)
  have tb := (fB.block _ (lt_of_heap (unhide HTB)) id).trans (unhide HTB)
  have tc := (fB.block _ (lt_of_heap (unhide HTC)) id).trans (unhide HTC)
  have F4 := (unhide HF2).trans fB (fun _ _ h => h)
  have hF4 := hF.kept fA id
  have hva := (unhide HA).kept F4 (fun _ _ h => h)
  have hvb := (unhide HB).kept F4 (fun _ _ h => h)
  have HFi := hide (filled_any (w3.alloc (Obj.cells #[.pointer (some ⟨w2.heap.size, 0, none⟩)] 100)) rows wide 67 #[.pointer (some ⟨w.heap.size, 0, none⟩), .pointer (some ⟨w3.heap.size, 0, none⟩), .pointer (some ⟨w.heap.size + 1, 0, none⟩)] (fun r c => sg cols (fun i => mul (mc la cols r i) (mc lb wide i c))) h1 h3 cf67 (fun W q i j hi hj =>
    prod1_any W w.heap.size w3.heap.size (w.heap.size + 1) w2.heap.size rows cols wide _ _ la lb i j ((q.block _ (lt_of_heap ta) id).trans ta) ((q.block _ (lt_of_heap hm) id).trans hm) ((q.block _ (lt_of_heap tb) id).trans tb) (hF4.kept q id) (hva.kept q (fun _ _ h => h)) (hvb.kept q (fun _ _ h => h)) (unhide HLA) (unhide HLB) h1 h2 h3 hi hj))
  have a0 := cell_of_heap ta 0
  have b1 := cell_of_heap tb 1
  simp at a0 b1
  have HTC := hide tc
  have HF4 := hide F4
  have hta := lt_of_heap ta
  have htb := lt_of_heap tb
  clear f3 F3 fA fB hm ta tb tc F4 hF4 hva hvb hF
  go_wp2_with fail
  refine (unhide HFi).mono ?_
  rintro e w5 ⟨rfl, B5, f5⟩
  have hp := (f5.block _ (lt_of_heap (unhide HTC)) id).trans (unhide HTC)
  have c0 := cell_of_heap hp 0
  have c1 := cell_of_heap hp 1
  have c2 := cell_of_heap hp 2
  have z0 := frozen_of_heap hp
  simp at c0 c1 c2
  have HB5 := hide B5
  have HF5 := hide ((unhide HF4).trans f5 (fun _ _ h => h))
  obtain ⟨q, hq⟩ : ∃ q, q = (w3.alloc (Obj.cells #[Value.pointer (some ⟨w2.heap.size, 0, none⟩)] 100)).heap.size + 1 := ⟨_, rfl⟩
  rw [← hq] at HB5 ⊢
  have hlt := lt_of_heap hp
  have hqs : w.heap.size + 2 < q := by have := lt_of_heap (unhide HTC); omega
  clear B5 f5 hp hq HFi
  go_wp2_with fail
  have f6 := fr_three w5 (w.heap.size + 2) (.int .i64 (rows : Int)) (.int .i64 (wide : Int)) (.slice (some ⟨q, 0, none⟩) (rows * wide) (rows * wide))
  refine bodyPost_ret (v := .tuple #[.agg #[.int .i64 (rows : Int), .int .i64 (wide : Int), .slice (some ⟨q, 0, none⟩) (rows * wide) (rows * wide)], .int .i64 0]) (by simp [results, Try.results17, go_sem, c0, c1, c2]) rfl ⟨⟨q, rfl, (unhide HB5).kept f6 (by omega)⟩, (unhide HF5).trans f6 (fun i hi h => by omega)⟩
end Go.Proofs.Ytckmddkhkdcmmaa
