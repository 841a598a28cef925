/-
  gf's Solve.
-/
import Derived.Test.YtckmddkhkdcmmaaM06
namespace Go.Proofs.Ytckmddkhkdcmmaa
set_option linter.unusedVariables false
set_option linter.unusedSimpArgs false
open Go.RowKit Go.Lib
set_option linter.unusedVariables false
set_option linter.unusedSimpArgs false

attribute [local go_sem ↓] Go.wp_at_zero Go.wp_at_succ

/-- A slice of bytes and a number come back. -/
def VR (w w' : World) (e : Ending) (L : List UInt8) (E : Int) : Prop := (∃ v, e = .returned (.tuple #[v, .int .i64 E]) ∧ Rd w' v L) ∧ Fr (fun _ => False) w w'
theorem cf84' (args : Array Value) (W : World) : Sem.run Try.prog (callFunc 84 args) W = .ok (.enter 84 args) W := by simp [go_sem]
theorem sol1_any (w : World) (b : Nat) (r c : Nat) (v : Value) (y : List UInt8) (hb : w.heap[b]? = some (.cells #[v] 22 (0, 0))) (hv : Rd w v y) (hr : r < y.length) :
    Calls Try.prog 84 #[.int .i64 (r : Int), .int .i64 (c : Int), .pointer (some ⟨b, 0, none⟩)] w fun e w' => e = .returned (.int .u8 ((((y[r]?.getD 0)).toNat : Nat) : Int)) ∧ Fr (fun _ => False) w w' := by
  have c0 := cell_of_heap hb 0
  simp at c0
  obtain ⟨ao, cap, rfl⟩ := hv.shape
  obtain ⟨q, o, rfl, -, -, hmx, hc⟩ := hv.lits (by omega)
  have d0 := hc r hr
  rw [List.getElem?_eq_getElem hr]
  simp only [Option.getD_some]
  generalize y[r] = x at *
  obtain ⟨n, hn⟩ : ∃ n, n = y.length := ⟨_, rfl⟩
  rw [← hn] at c0 hr
  clear hv hc hn hb
  go_enter Try.func84, Try.ntmps84
  go_wp2_with fail
  go_ret
  exact ⟨rfl, by first | exact Fr.refl _ _ | exact Fr.ofDrewN _ _⟩

theorem two_allocs' (w : World) (A B : Array Value) (tb : TypeId) : ((w.alloc (Obj.cells A 24)).alloc (Obj.cells B tb)).heap[w.heap.size]? = some (.cells A 24 (0, 0)) ∧ ((w.alloc (Obj.cells A 24)).alloc (Obj.cells B tb)).heap[w.heap.size + 1]? = some (.cells B tb (0, 0)) := by
  constructor
  · rw [Below.heap_alloc _ _ _ (by simp)]; exact heap_alloc_new w _
  · have := heap_alloc_new (w.alloc (Obj.cells A 24)) (Obj.cells B tb)
    simpa using this

set_option maxHeartbeats 2000000 in
set_option maxRecDepth 100000 in
theorem solve_no1 (w : World) (r c : Int) (va vy : Value) (l y : List UInt8) (ha : Rd w va l) (hy : Rd w vy y) (h1 : chk r c l.length ≠ 0) :
    Calls Try.prog 31 #[.agg #[.int .i64 r, .int .i64 c, va], vy] w fun e w' => VR w w' e [] (chk r c l.length) := by
  obtain ⟨ao, ac, rfl⟩ := ha.shape
  obtain ⟨yo, yc, rfl⟩ := hy.shape
  have H1 : Hid ((chk r c l.length != 0) = true) := hide (by simpa using h1)
  clear h1
  clear ha hy
  go_enter Try.func31, Try.ntmps31
  go_wp2_with fail
  refine (check_any _ _ _ _ _ _).mono ?_
  rintro e w1 ⟨rfl, f1⟩
  have T := two_allocs' w #[.int .i64 r, .int .i64 c, .slice ao l.length ac] #[.slice yo y.length yc] 22
  have HTA := hide ((f1.block _ (lt_of_heap T.1) id).trans T.1)
  have HTB := hide ((f1.block _ (lt_of_heap T.2) id).trans T.2)
  have F1 := hide ((((Fr.refl (fun _ => False) w).alloc _).alloc _).trans f1 (fun _ _ h => h))
  clear T f1
  have hne := unhide H1
  go_wp2_with fail
  refine bodyPost_ret (v := .tuple #[.slice none 0 0, .int .i64 (chk r c l.length)]) (by simp [results, Try.results31, go_sem]) rfl ⟨⟨_, rfl, Rd.nil _⟩, by first | exact unhide F1 | exact (unhide F1).drew⟩
set_option maxHeartbeats 2000000 in
set_option maxRecDepth 100000 in
theorem solve_no2 (w : World) (r c : Int) (va vy : Value) (l y : List UInt8) (ha : Rd w va l) (hy : Rd w vy y) (h1 : chk r c l.length = 0) (h2 : r ≠ c) :
    Calls Try.prog 31 #[.agg #[.int .i64 r, .int .i64 c, va], vy] w fun e w' => VR w w' e [] (23) := by
  obtain ⟨ao, ac, rfl⟩ := ha.shape
  obtain ⟨yo, yc, rfl⟩ := hy.shape
  have H1 := hide h1
  have H2 : Hid ((r != c) = true) := hide (by simpa using h2)
  clear h1 h2
  clear ha hy
  go_enter Try.func31, Try.ntmps31
  go_wp2_with fail
  refine (check_any _ _ _ _ _ _).mono ?_
  rintro e w1 ⟨rfl, f1⟩
  have T := two_allocs' w #[.int .i64 r, .int .i64 c, .slice ao l.length ac] #[.slice yo y.length yc] 22
  have HTA := hide ((f1.block _ (lt_of_heap T.1) id).trans T.1)
  have HTB := hide ((f1.block _ (lt_of_heap T.2) id).trans T.2)
  have F1 := hide ((((Fr.refl (fun _ => False) w).alloc _).alloc _).trans f1 (fun _ _ h => h))
  clear T f1
  rw [unhide H1]
  have a0 := cell_of_heap (unhide HTA) 0
  have a1 := cell_of_heap (unhide HTA) 1
  have b0 := cell_of_heap (unhide HTB) 0
  simp at a0 a1 b0
  have hne := unhide H2
  go_wp2_with fail
  refine bodyPost_ret (v := .tuple #[.slice none 0 0, .int .i64 (23)]) (by simp [results, Try.results31, go_sem]) rfl ⟨⟨_, rfl, Rd.nil _⟩, by first | exact unhide F1 | exact (unhide F1).drew⟩
set_option maxHeartbeats 2000000 in
set_option maxRecDepth 100000 in
theorem solve_no3 (w : World) (r c : Int) (va vy : Value) (l y : List UInt8) (ha : Rd w va l) (hy : Rd w vy y) (h1 : chk r c l.length = 0) (h2 : r = c) (h3 : (y.length : Int) ≠ r) :
    Calls Try.prog 31 #[.agg #[.int .i64 r, .int .i64 c, va], vy] w fun e w' => VR w w' e [] (23) := by
  obtain ⟨ao, ac, rfl⟩ := ha.shape
  obtain ⟨yo, yc, rfl⟩ := hy.shape
  have H1 := hide h1
  subst h2
  have H2 : Hid ((((y.length : Nat) : Int) != r) = true) := hide (by simpa using h3)
  clear h1 h3
  clear ha hy
  go_enter Try.func31, Try.ntmps31
  go_wp2_with fail
  refine (check_any _ _ _ _ _ _).mono ?_
  rintro e w1 ⟨rfl, f1⟩
  have T := two_allocs' w #[.int .i64 r, .int .i64 r, .slice ao l.length ac] #[.slice yo y.length yc] 22
  have HTA := hide ((f1.block _ (lt_of_heap T.1) id).trans T.1)
  have HTB := hide ((f1.block _ (lt_of_heap T.2) id).trans T.2)
  have F1 := hide ((((Fr.refl (fun _ => False) w).alloc _).alloc _).trans f1 (fun _ _ h => h))
  clear T f1
  rw [unhide H1]
  have a0 := cell_of_heap (unhide HTA) 0
  have a1 := cell_of_heap (unhide HTA) 1
  have b0 := cell_of_heap (unhide HTB) 0
  simp at a0 a1 b0
  have hne := unhide H2
  obtain ⟨ny, hny⟩ : ∃ ny : Nat, ny = y.length := ⟨_, rfl⟩
  rw [← hny] at hne b0
  go_wp2_with fail
  refine bodyPost_ret (v := .tuple #[.slice none 0 0, .int .i64 (23)]) (by simp [results, Try.results31, go_sem]) rfl ⟨⟨_, rfl, Rd.nil _⟩, by first | exact unhide F1 | exact (unhide F1).drew⟩
def slL (n : Nat) (l y : List UInt8) : List UInt8 := if (redK (bsd l n 1 (fun r _ => y[r]?.getD 0) n) n).2 < n then [] else fl 1 (fun r _ => cel (redK (bsd l n 1 (fun r _ => y[r]?.getD 0) n) n).1 r n) n
def slE (n : Nat) (l y : List UInt8) : Int := if (redK (bsd l n 1 (fun r _ => y[r]?.getD 0) n) n).2 < n then 22 else 0
set_option maxHeartbeats 2000000 in
set_option maxRecDepth 100000 in
theorem solve_sq (w : World) (n : Nat) (va vy : Value) (l y : List UInt8) (ha : Rd w va l) (hy : Rd w vy y) (hl : l.length = n * n) (hyl : y.length = n) (h1 : 1 ≤ n ∧ n ≤ 64) :
    Calls Try.prog 31 #[.agg #[.int .i64 (n : Int), .int .i64 (n : Int), va], vy] w fun e w' => VR w w' e (slL n l y) (slE n l y) := by
  have hck := chk_ok h1 h1 hl
  obtain ⟨S, hS⟩ : ∃ S, S = redK (bsd l n 1 (fun r _ => y[r]?.getD 0) n) n := ⟨_, rfl⟩
  obtain ⟨XL, hXL⟩ : ∃ XL, XL = slL n l y := ⟨_, rfl⟩
  obtain ⟨XE, hXE⟩ : ∃ XE, XE = slE n l y := ⟨_, rfl⟩
  rw [← hXL, ← hXE]
  have HP : Hid ((S.2 < n → XL = [] ∧ XE = 22) ∧ (¬ S.2 < n → XL = fl 1 (fun r _ => cel S.1 r n) n ∧ XE = 0)) := hide (by
    rw [hXL, hXE, hS]; unfold slL slE
    exact ⟨fun h => by rw [if_pos h, if_pos h]; exact ⟨rfl, rfl⟩, fun h => by rw [if_neg h, if_neg h]; exact ⟨rfl, rfl⟩⟩)
  have HS := hide hS
  clear hS hXL hXE
  obtain ⟨ao, ac, rfl⟩ := ha.shape
  obtain ⟨yo, yc, hvy⟩ := hy.shape
  rw [hyl] at hvy
  subst hvy
  have HA := hide ha
  have HY := hide hy
  have HL := hide hl
  have HYL := hide hyl
  have HCK := hide hck
  clear ha hy hl hyl hck
  go_enter Try.func31, Try.ntmps31
  go_wp2_with fail
  refine (check_any _ _ _ _ _ _).mono ?_
  rintro e w1 ⟨rfl, f1⟩
  rw [unhide HCK]
  have T := two_allocs' w #[.int .i64 (n : Int), .int .i64 (n : Int), .slice ao l.length ac] #[.slice yo n yc] 22
  have ta := (f1.block _ (lt_of_heap T.1) id).trans T.1
  have tb := (f1.block _ (lt_of_heap T.2) id).trans T.2
  have F1 := (((Fr.refl (fun _ => False) w).alloc _).alloc _).trans f1 (fun _ _ h => h)
  have a0 := cell_of_heap ta 0
  have a1 := cell_of_heap ta 1
  have a2 := cell_of_heap ta 2
  have b0 := cell_of_heap tb 0
  simp at a0 a1 a2 b0
  have hva := (unhide HA).kept F1 (fun _ _ h => h)
  have hvy := (unhide HY).kept F1 (fun _ _ h => h)
  have HBe := hide (beside_any w1 n n 1 _ l 84 #[.pointer (some ⟨w.heap.size + 1, 0, none⟩)] (.func (.func 84) #[] #[.pointer (some ⟨w.heap.size + 1, 0, none⟩)]) (fun r _ => y[r]?.getD 0) hva (unhide HL) h1 h1 (by omega) (.inr rfl) cf84' (fun W q r c hr hc =>
    sol1_any W (w.heap.size + 1) r c _ y ((q.block _ (lt_of_heap tb) id).trans tb) (hvy.kept q (fun _ _ h => h)) (by rw [unhide HYL]; exact hr)))
  have HF1 := hide F1
  have hta := lt_of_heap ta
  have htb := lt_of_heap tb
  clear T f1 F1 ta tb hva hvy
  go_wp2_with fail
  refine (unhide HBe).mono ?_
  rintro e w2 ⟨rfl, ⟨bs, hbs, hbn, L2⟩, f2⟩
  have HF2 := hide ((unhide HF1).trans f2 (fun _ _ h => h))
  have hg := L2.lt
  have HRd := hide (reduce_any w2 (w1.heap.size + 1) (n + 1) n bs _ n L2 hbs (by omega) (by omega) (by omega))
  have HBN := hide hbn
  have hsz1 := (unhide HF1).size
  have hsz2 := f2.size
  rw [← unhide HS] at HRd
  clear L2 hbn f2 HBe a0 a1 a2 b0
  go_wp2_with fail
  refine (unhide HRd).mono ?_
  rintro e w3 ⟨rfl, ⟨bs3, hb3, hs3, L3⟩, f3⟩
  have HF3 := hide ((unhide HF2).trans f3 (fun i hi h => by
    rcases h with h | h
    · omega
    · have := unhide HBN _ h; omega))
  have hlt3 := L3.lt
  have hbl3 : ∀ b ∈ bs3, b < w3.heap.size := by
    intro x hx
    obtain ⟨i, hi, rfl⟩ := List.getElem_of_mem hx
    exact lt_of_heap (L3.row i hi)
  have HL3 := hide L3
  have HBL := hide hbl3
  clear f3 HS
  obtain ⟨S1, hS1⟩ : ∃ S1, S1 = S.1 := ⟨_, rfl⟩
  obtain ⟨S2, hS2⟩ : ∃ S2, S2 = S.2 := ⟨_, rfl⟩
  have HS1 := hide hS1
  have HS2 := hide hS2
  rw [← hS1] at HL3 HP
  rw [← hS2] at HP ⊢
  clear hS1 hS2
  clear hs3 L3 HRd hbl3 HF2 HF1
  by_cases hs : S2 < n
  · have hs' : ((S2 : Nat) : Int) < (n : Int) := by omega
    go_wp2_with fail
    refine bodyPost_ret (v := .tuple #[.slice none 0 0, .int .i64 22]) (by simp [results, Try.results31, go_sem]) rfl ⟨⟨_, by rw [((unhide HP).1 hs).2], by rw [((unhide HP).1 hs).1]; exact Rd.nil _⟩, by first | exact unhide HF3 | exact (unhide HF3).drew⟩
  · have hs' : ¬ ((S2 : Nat) : Int) < (n : Int) := by omega
    have mk := run_make5 n (by omega)
    go_wp2_with fail
    have hq := heap_alloc_new w3 (Obj.cells (bvs (List.replicate n 0)).toArray 5)
    have fA : Fr (fun _ => False) w3 (w3.alloc (Obj.cells (bvs (List.replicate n 0)).toArray 5)) := (Fr.refl (fun _ => False) w3).alloc _
    have HB0 := hide (show BAt (w3.alloc (Obj.cells (bvs (List.replicate n 0)).toArray 5)) w3.heap.size (List.replicate n 0) from hq)
    have HL4 := hide ((unhide HL3).kept fA id (fun _ _ h => h))
    have HF4 := hide ((unhide HF3).trans fA (fun _ _ h => h))
    have hws := (unhide HF3).size
    clear hq fA mk
    generalize w3.alloc (Obj.cells (bvs (List.replicate n 0)).toArray 5) = w4 at *
    go_loopw [10, 41] (fun _ i w' => ∃ k : Nat, k ≤ n ∧ i = .int .i64 (k : Int) ∧ BAt w' w3.heap.size (fl 1 (fun r _ => cel S1 r n) k ++ List.replicate (n - k) 0) ∧ Ls w' (w1.heap.size + 1) bs3 (n + 1) S1 ∧ Fr (fun _ => False) w w') (fun _ i _ => n - (intOf i).toNat)
    case atStart => exact ⟨0, by omega, rfl, by simpa [fl] using unhide HB0, unhide HL4, unhide HF4⟩
    case round =>
      clear HB0 HL4 HF4 HF3
      obtain ⟨k, hk, rfl, hB, hLs, hF⟩ := hrel
      have HB := hide hB
      have HLs := hide hLs
      have HF := hide hF
      by_cases hlt : k < n
      · have c1 := hLs.cell k (by omega)
        have c2 := hLs.byte' k n (by omega) (by omega)
        have hbk := unhide HBL (bs3[k]'(by omega)) (List.getElem_mem _)
        have cq := hB.cell k (by rw [List.length_append, fl_length, List.length_replicate]; omega)
        have fq := hB.frozen k
        generalize (fl 1 (fun r _ => cel S1 r n) k ++ List.replicate (n - k) 0)[k]'(by rw [List.length_append, fl_length, List.length_replicate]; omega) = old at cq
        generalize bs3[k]'(by omega) = qk at *
        have hnk : (k : Int) < (n : Int) := by omega
        clear hB hLs hF
        go_wp2_with fail
        go_roundw
        case rel =>
          refine ⟨k + 1, by omega, by go_num, ?_, ?_, ?_⟩
          · rw [← fl_step 1 (fun r _ => cel S1 r n) n k hlt]
            have := (unhide HB).set k (cel S1 k n)
            simpa using this
          · exact (unhide HLs).kept (S := fun i => i = w3.heap.size) ((Fr.refl (fun i => i = w3.heap.size) _).setCell (p := ⟨w3.heap.size, k, none⟩) (fun _ => rfl) _) (by omega) (fun b hb => by have := unhide HBL b hb; omega)
          · exact (unhide HF).setCell (fun h => by simp at h; omega) _
        case measure => simp [intOf]; omega
      · obtain rfl : k = n := by omega
        have hnk : ¬ (k : Int) < (k : Int) := by omega
        clear hB hLs hF
        go_wp2_with fail
        refine bodyPost_ret (v := .tuple #[.slice (some ⟨w3.heap.size, 0, none⟩) k k, .int .i64 0]) (by simp [results, Try.results31, go_sem]) rfl ⟨⟨_, by rw [((unhide HP).2 hs).2], ?_⟩, by first | exact unhide HF | exact (unhide HF).drew⟩
        have hB := unhide HB
        rw [((unhide HP).2 hs).1]
        rw [Nat.sub_self, List.replicate_zero, List.append_nil] at hB
        have := hB.rd (by rw [fl_length]; unfold maxLen; omega)
        rw [fl_length] at this
        exact this
end Go.Proofs.Ytckmddkhkdcmmaa
