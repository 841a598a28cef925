/-
  The document's matrices: Check, both, At, Turn.
-/
import Derived.Test.YtckmddkhkdcmmaaM06
import Derived.Test.YtckmddkhkdcmmaaM18
namespace Go.Proofs.Ytckmddkhkdcmmaa
set_option linter.unusedVariables false
set_option linter.unusedSimpArgs false
open Go.RowKit Go.Lib
set_option linter.unusedVariables false
set_option linter.unusedSimpArgs false

attribute [local go_sem ↓] Go.wp_at_zero Go.wp_at_succ

/-- A matrix's head in memory. -/
def Hd (w : World) (b : Nat) (R C : Int) (v : Value) : Prop := w.heap[b]? = some (.cells #[.int .i64 R, .int .i64 C, v] 24 (0, 0))
theorem Hd.lt {w : World} {b : Nat} {R C : Int} {v : Value} (h : Hd w b R C v) : b < w.heap.size := lt_of_heap h
theorem Hd.kept {S : Nat → Prop} {w w' : World} {b : Nat} {R C : Int} {v : Value} (h : Hd w b R C v) (f : Fr S w w') (hs : ¬ S b) : Hd w' b R C v := (f.block _ (lt_of_heap h) hs).trans h
theorem Hd.facts {w : World} {b : Nat} {R C : Int} {v : Value} (h : Hd w b R C v) : ∀ W, Fr (fun _ => False) w W → W.cell? ⟨b, 0, none⟩ = some (.int .i64 R) ∧ W.cell? ⟨b, 1, none⟩ = some (.int .i64 C) ∧ W.cell? ⟨b, 2, none⟩ = some v ∧ W.rangeAt b 0 [.int .i64 R, .int .i64 C, v] := by
  intro W k
  have h2 : W.heap[b]? = _ := h.kept k id
  refine ⟨by rw [cell_of_heap h2]; rfl, by rw [cell_of_heap h2]; rfl, by rw [cell_of_heap h2]; rfl, fun j v hv => ?_⟩
  rw [Nat.zero_add, cell_of_heap h2]
  simpa using hv
/-- What a function of matrices leaves: its answer, plainly. -/
def MR (w w' : World) (e : Ending) (R C : Int) (L : List UInt8) (E : Int) : Prop := (∃ v, e = .returned (.tuple #[.agg #[.int .i64 R, .int .i64 C, v], .int .i64 E]) ∧ Rd w' v L) ∧ Fr (fun _ => False) w w'
theorem chk_pos {r c : Int} {n : Nat} (h : chk r c n = 0) : ∃ a b : Nat, r = a ∧ c = b ∧ (1 ≤ a ∧ a ≤ 64) ∧ (1 ≤ b ∧ b ≤ 64) ∧ n = a * b := by
  unfold chk at h
  by_cases h1 : sideB r = true ∧ sideB c = true
  · rw [if_pos h1] at h
    have r1 := side_le h1.1
    have r2 := side_le h1.2
    obtain ⟨a, rfl⟩ := Int.eq_ofNat_of_zero_le (show 0 ≤ r by omega)
    obtain ⟨b, rfl⟩ := Int.eq_ofNat_of_zero_le (show 0 ≤ c by omega)
    refine ⟨a, b, rfl, rfl, by omega, by omega, ?_⟩
    by_cases h3 : (n : Int) = (a : Int) * (b : Int)
    · exact_mod_cast h3
    · rw [if_neg h3] at h; omega
  · rw [if_neg h1] at h; omega
set_option maxHeartbeats 2000000 in
set_option maxRecDepth 100000 in
theorem rchk_any (w : World) (r c : Int) (ao : Option Addr) (l cap : Nat) : Calls Try.prog 24 #[.agg #[.int .i64 r, .int .i64 c, .slice ao l cap]] w fun e w' => e = .returned (.int .i64 (chk r c l)) ∧ Fr (fun _ => False) w w' := by
  by_cases h1 : sideB r = true
  · have r1 := side_le h1
    by_cases h2 : sideB c = true
    · have r2 := side_le h2
      have hp : 1 ≤ r * c := by have := Int.mul_le_mul r1.1 r2.1 (by omega) (by omega); omega
      have hq : r * c ≤ 4096 := by have := Int.mul_le_mul r1.2 r2.2 (by omega) (by omega); omega
      have b1 : ¬ r < 1 := by omega
      have b2 : ¬ (64 : Int) < r := by omega
      have b3 : ¬ c < 1 := by omega
      have b4 : ¬ (64 : Int) < c := by omega
      by_cases h3 : (l : Int) = r * c
      · have e : chk r c l = 0 := by unfold chk; rw [if_pos ⟨h1, h2⟩, if_pos h3]
        rw [e]
        have hb : ((l : Int) != r * c) = false := by simpa using h3
        have H3 := hide h3
        clear h3 e h1 h2
        go_enter Try.func24, Try.ntmps24
        go_wp2_with fail
        go_ret
        exact ⟨rfl, (Fr.refl _ _).alloc _⟩
      · have e : chk r c l = 23 := by unfold chk; rw [if_pos ⟨h1, h2⟩, if_neg h3]
        rw [e]
        have hb : ((l : Int) != r * c) = true := by simpa using h3
        clear h3 e h1 h2
        go_enter Try.func24, Try.ntmps24
        go_wp2_with fail
        go_ret
        exact ⟨rfl, (Fr.refl _ _).alloc _⟩
    · have e : chk r c l = 2 := by unfold chk; rw [if_neg (fun h => h2 h.2)]
      rw [e]
      have b1 : ¬ r < 1 := by omega
      have b2 : ¬ (64 : Int) < r := by omega
      have h2' : c < 1 ∨ (¬ c < 1 ∧ (64 : Int) < c) := by have : ¬ (1 ≤ c ∧ c ≤ 64) := by simpa [sideB] using h2
                                                          omega
      clear h1 h2 e
      rcases h2' with b3 | ⟨b3, b4⟩
      · go_enter Try.func24, Try.ntmps24
        go_wp2_with fail
        go_ret
        exact ⟨rfl, (Fr.refl _ _).alloc _⟩
      · go_enter Try.func24, Try.ntmps24
        go_wp2_with fail
        go_ret
        exact ⟨rfl, (Fr.refl _ _).alloc _⟩
  · have e : chk r c l = 2 := by unfold chk; rw [if_neg (fun h => h1 h.1)]
    rw [e]
    have h1' : r < 1 ∨ (¬ r < 1 ∧ (64 : Int) < r) := by have : ¬ (1 ≤ r ∧ r ≤ 64) := by simpa [sideB] using h1
                                                        omega
    clear h1 e
    rcases h1' with b1 | ⟨b1, b2⟩
    · go_enter Try.func24, Try.ntmps24
      go_wp2_with fail
      go_ret
      exact ⟨rfl, (Fr.refl _ _).alloc _⟩
    · go_enter Try.func24, Try.ntmps24
      go_wp2_with fail
      go_ret
      exact ⟨rfl, (Fr.refl _ _).alloc _⟩
set_option maxHeartbeats 2000000 in
set_option maxRecDepth 100000 in
theorem both_any (w : World) (r c r2 c2 : Int) (ao bo : Option Addr) (l l2 cap bcap : Nat) : Calls Try.prog 70 #[.agg #[.int .i64 r, .int .i64 c, .slice ao l cap], .agg #[.int .i64 r2, .int .i64 c2, .slice bo l2 bcap]] w fun e w' => e = .returned (.int .i64 (if chk r c l = 0 then chk r2 c2 l2 else chk r c l)) ∧ Fr (fun _ => False) w w' := by
  obtain ⟨E, hE⟩ : ∃ E, E = (if chk r c l = 0 then chk r2 c2 l2 else chk r c l) := ⟨_, rfl⟩
  rw [← hE]
  go_enter Try.func70, Try.ntmps70
  go_wp2_with fail
  refine (rchk_any _ _ _ _ _ _).mono ?_
  rintro e w1 ⟨rfl, f1⟩
  have HB := hide (((f1.block _ (lt_of_heap (e_c w (.cells #[.int .i64 r, .int .i64 c, .slice ao l cap] 24) (.cells #[.int .i64 r2, .int .i64 c2, .slice bo l2 bcap] 24))) id).trans (e_c w _ _)))
  have F1 := hide ((((Fr.refl (fun _ => False) w).alloc _).alloc _).trans f1 (fun _ _ h => h))
  clear f1
  by_cases h1 : chk r c l = 0
  · rw [if_pos h1] at hE
    subst hE
    rw [h1]
    have b0 := cell_of_heap (unhide HB) 0
    have b1 := cell_of_heap (unhide HB) 1
    have b2 := cell_of_heap (unhide HB) 2
    simp at b0 b1 b2
    clear HB
    go_wp2_with fail
    refine (rchk_any _ _ _ _ _ _).mono ?_
    rintro e w2 ⟨rfl, f2⟩
    go_wp2_with fail
    go_ret
    exact ⟨rfl, (unhide F1).trans f2 (fun _ _ h => h)⟩
  · rw [if_neg h1] at hE
    subst hE
    have hne : (chk r c l != 0) = true := by simpa using h1
    clear h1 HB
    go_wp2_with fail
    go_ret
    exact ⟨rfl, unhide F1⟩
theorem ratR_any (w : World) (R : Int) (r c cols : Nat) (v : Value) (l : List UInt8) (hv : Rd w v l) (hr : r ≤ 64) (hc : c ≤ 64) (hcols : cols ≤ 64) (hi : r * cols + c < l.length) :
    Calls Try.prog 73 #[.agg #[.int .i64 R, .int .i64 (cols : Int), v], .int .i64 (r : Int), .int .i64 (c : Int)] w fun e w' => e = .returned (.int .u8 (((mc l cols r c).toNat : Nat) : Int)) ∧ Fr (fun _ => False) w w' := by
  have hx : mc l cols r c = l[r * cols + c] := by unfold mc; rw [List.getElem?_eq_getElem hi]; rfl
  rw [hx]
  have hv2 := hv.kept ((Fr.refl (fun _ => False) w).alloc (Obj.cells #[.int .i64 R, .int .i64 (cols : Int), v] 24)) (fun _ _ h => h)
  obtain ⟨ao, cap, rfl⟩ := hv.shape
  obtain ⟨b, o, rfl, -, hcap, hcm, hcell⟩ := hv2.lits (by omega)
  have hk := hcell (r * cols + c) hi
  have e1 : ((r : Int) * (cols : Int) + (c : Int)) = ((r * cols + c : Nat) : Int) := by simp
  have p1 : r * cols ≤ 64 * 64 := Nat.mul_le_mul hr hcols
  have q1 : (0 : Int) ≤ (r : Int) * (cols : Int) := by rw [← Int.natCast_mul]; omega
  have q2 : (r : Int) * (cols : Int) ≤ 4096 := by rw [← Int.natCast_mul]; omega
  unfold maxLen at hcm
  have b1 : (0 : Int) ≤ (r : Int) * (cols : Int) + (c : Int) := by omega
  have b2 : (r : Int) * (cols : Int) + (c : Int) < (l.length : Int) := by rw [e1]; omega
  have b3 : ((r : Int) * (cols : Int) + (c : Int)).toNat = r * cols + c := by rw [e1]; rfl
  clear hcell hv2 hv e1 hx
  go_enter Try.func73, Try.ntmps73
  go_wp2
  go_ret
  exact ⟨rfl, (Fr.refl _ _).alloc _⟩
/-- A matrix being turned. -/
def tK (f : Nat → Nat → UInt8) (r c : Nat) : Nat → Nat → UInt8 := fun i j => if j < r ∨ (j = r ∧ i < c) then f j i else 0
theorem tK_zero (f : Nat → Nat → UInt8) (i j : Nat) : tK f 0 0 i j = 0 := by unfold tK; simp
theorem tK_step (f : Nat → Nat → UInt8) (r c : Nat) : upd (tK f r c) c r (f r c) = tK f r (c + 1) := by
  funext i j
  unfold upd tK
  by_cases h : i = c ∧ j = r
  · rw [if_pos h, if_pos (by omega), h.1, h.2]
  · rw [if_neg h]
    by_cases h2 : j < r ∨ (j = r ∧ i < c)
    · rw [if_pos h2, if_pos (by omega)]
    · rw [if_neg h2, if_neg (by omega)]
theorem tK_row (f : Nat → Nat → UInt8) (r n i j : Nat) (hi : i < n) : tK f r n i j = tK f (r + 1) 0 i j := by
  unfold tK
  by_cases h2 : j < r ∨ (j = r ∧ i < n)
  · rw [if_pos h2, if_pos (by omega)]
  · rw [if_neg h2, if_neg (by omega)]
set_option maxHeartbeats 2000000 in
set_option maxRecDepth 100000 in
theorem rturn_no (w : World) (r c : Int) (v : Value) (l : List UInt8) (hv : Rd w v l) (h1 : chk r c l.length ≠ 0) :
    Calls Try.prog 28 #[.agg #[.int .i64 r, .int .i64 c, v]] w fun e w' => MR w w' e 0 0 [] (chk r c l.length) := by
  obtain ⟨ao, cap, rfl⟩ := hv.shape
  clear hv
  have H1 : Hid ((chk r c l.length != 0) = true) := hide (by simpa using h1)
  clear h1
  go_enter Try.func28, Try.ntmps28
  go_wp2_with fail
  refine (rchk_any _ _ _ _ _ _).mono ?_
  rintro e w1 ⟨rfl, f1⟩
  have T := two_allocs w #[.int .i64 r, .int .i64 c, .slice ao l.length cap] #[.int .i64 0, .int .i64 0, .slice none 0 0]
  have HR := hide ((f1.block _ (lt_of_heap T.2) id).trans T.2)
  have F1 := hide ((((Fr.refl (fun _ => False) w).alloc _).alloc _).trans f1 (fun _ _ h => h))
  clear T f1
  have hne := unhide H1
  have hlt := lt_of_heap (unhide HR)
  have k0 := cell_of_heap (unhide HR) 0
  have k1 := cell_of_heap (unhide HR) 1
  have k2 := cell_of_heap (unhide HR) 2
  have z0 := frozen_of_heap (unhide HR)
  simp at k0 k1 k2
  go_wp2_with fail
  have f3 := fr_three w1 (w.heap.size + 1) (.int .i64 0) (.int .i64 0) (.slice none 0 0)
  refine bodyPost_ret (v := .tuple #[.agg #[.int .i64 0, .int .i64 0, .slice none 0 0], .int .i64 (chk r c l.length)]) (by simp [results, Try.results28, go_sem, k0, k1, k2]) rfl ⟨⟨_, rfl, Rd.nil _⟩, (unhide F1).trans f3 (fun i hi h => by omega)⟩
set_option maxHeartbeats 2000000 in
set_option maxRecDepth 100000 in
theorem rturn_ok (w : World) (rows cols : Nat) (v : Value) (l : List UInt8) (hv : Rd w v l) (hl : l.length = rows * cols) (h1 : 1 ≤ rows ∧ rows ≤ 64) (h2 : 1 ≤ cols ∧ cols ≤ 64) :
    Calls Try.prog 28 #[.agg #[.int .i64 (rows : Int), .int .i64 (cols : Int), v]] w fun e w' => MR w w' e cols rows (tuL rows cols l) 0 := by
  have hck := chk_ok h1 h2 hl
  have hN : cols * rows ≤ 4096 := Nat.mul_le_mul h2.2 h1.2
  obtain ⟨ao, cap, hvs⟩ := hv.shape
  have HV := hide hv
  have HL := hide hl
  have HCK := hide hck
  clear hv hl hck
  obtain ⟨N, hNN⟩ : ∃ N, N = cols * rows := ⟨_, rfl⟩
  rw [← hNN] at hN
  have HNN := hide hNN
  clear hNN
  go_enter Try.func28, Try.ntmps28
  go_wp2_with fail
  rw [hvs]
  refine (rchk_any _ _ _ _ _ _).mono ?_
  rintro e w2 ⟨rfl, f2⟩
  rw [unhide HCK, ← hvs]
  have T := two_allocs w #[.int .i64 (rows : Int), .int .i64 (cols : Int), v] #[.int .i64 0, .int .i64 0, .slice none 0 0]
  rw [← hvs] at f2
  have hA2 : Hd w2 w.heap.size rows cols v := (f2.block _ (lt_of_heap T.1) id).trans T.1
  have hZ2 : Z3 w2 (w.heap.size + 1) := ⟨_, _, _, (f2.block _ (lt_of_heap T.2) id).trans T.2⟩
  have F2 : Fr (fun _ => False) w w2 := (((Fr.refl (fun _ => False) w).alloc _).alloc _).trans f2 (fun _ _ h => h)
  have hsz2 : w.heap.size + 2 ≤ w2.heap.size := by obtain ⟨x, y, z, hz⟩ := hZ2; have := lt_of_heap hz; omega
  obtain ⟨a0, a1, a2, -⟩ := hA2.facts w2 (Fr.refl _ _)
  have HA2 := hide hA2
  have HZ2 := hide hZ2
  have HF2 := hide F2
  have HNEW := hide (rnew_any w2 cols rows h2.2 h1.2)
  rw [← unhide HNN] at HNEW
  clear T f2 F2 hA2 hZ2
  go_wp2_with fail
  refine (unhide HNEW).mono ?_
  rintro e w3 ⟨rfl, hB3, f3⟩
  have HA3 := hide ((unhide HA2).kept f3 id)
  have HZ3 := hide ((unhide HZ2).kept f3 id)
  have HF3 := hide ((unhide HF2).trans f3 (fun _ _ h => h))
  have hle3 := f3.size
  obtain ⟨q, hq⟩ : ∃ q, q = w2.heap.size + 1 := ⟨_, rfl⟩
  rw [← hq] at hB3 ⊢
  have hltq : q < w3.heap.size := lt_of_heap hB3
  have HB3 := hide hB3
  clear HNEW HA2 HZ2 HF2 f3 hB3 a0 a1 a2
  go_wp2_with fail
  refine wp_nameW' ?_
  intro w4 hw4
  obtain ⟨M, hM⟩ : ∃ M, M = w3.heap.size := ⟨_, rfl⟩
  have hX4 : XAt w4 M q cols rows N (fun _ _ => 0) := XAt.of_new (unhide HNN) (by omega) (by rw [hw4, hM, hq]; exact heap_alloc_new w3 _) (by rw [hw4]; exact (((Fr.refl (fun _ => False) w3).alloc _).block q hltq id).trans (unhide HB3))
  have f4 : Fr (fun _ => False) w3 w4 := by rw [hw4]; exact (Fr.refl _ _).alloc _
  rw [← hM] at hltq ⊢
  have HX4 := hide hX4
  have HA4 := hide ((unhide HA3).kept f4 id)
  have HZ4 := hide ((unhide HZ3).kept f4 id)
  have HF4 := hide ((unhide HF3).trans f4 (fun _ _ h => h))
  have hqw : w.heap.size + 2 < q := by omega
  clear hX4 f4 hw4 HA3 HZ3 HF3 HB3 hM hq hle3 hsz2
  obtain ⟨f, hf⟩ : ∃ f, f = mc l cols := ⟨_, rfl⟩
  have HFF0 := hide hf
  clear hf
  go_loopw [6] (fun x w' => ∃ r : Nat, r ≤ rows ∧ x = .int .i64 (r : Int) ∧ XAt w' M q cols rows N (tK f r 0) ∧ Hd w' w.heap.size rows cols v ∧ Z3 w' (w.heap.size + 1) ∧ Fr (fun _ => False) w w') (fun x _ => rows - (intOf x).toNat)
  case atStart => exact ⟨0, Nat.zero_le _, rfl, (unhide HX4).congr (by omega) (fun i j _ _ => (tK_zero f i j).symm), unhide HA4, unhide HZ4, unhide HF4⟩
  case round =>
    clear HX4 HA4 HZ4 HF4
    obtain ⟨r, hr, rfl, hX, hA, hZ, hF⟩ := hrel
    have HX := hide hX
    have HA := hide hA
    have HZ := hide hZ
    have HF := hide hF
    obtain ⟨a0, a1, a2, -⟩ := hA.facts wr (Fr.refl _ _)
    clear hA hZ hF
    by_cases hrn : r < rows
    · have hri : (r : Int) < (rows : Int) := by omega
      clear hX
      go_wp2_with fail
      go_loopw [7] (fun y w' => ∃ c : Nat, c ≤ cols ∧ y = .int .i64 (c : Int) ∧ XAt w' M q cols rows N (tK f r c) ∧ Hd w' w.heap.size rows cols v ∧ Z3 w' (w.heap.size + 1) ∧ Fr (fun _ => False) w w') (fun y _ => cols - (intOf y).toNat)
      case atStart => exact ⟨0, Nat.zero_le _, rfl, unhide HX, unhide HA, unhide HZ, unhide HF⟩
      case round =>
        clear HX HA HZ HF a0 a1 a2
        obtain ⟨c, hc, rfl, hX, hA, hZ, hF⟩ := hrel
        have HX := hide hX
        have HA := hide hA
        have HZ := hide hZ
        have HF := hide hF
        obtain ⟨a0, a1, a2, -⟩ := hA.facts wr (Fr.refl _ _)
        clear hZ
        by_cases hcn : c < cols
        · have hci : (c : Int) < (cols : Int) := by omega
          have b1 : c * rows + r < N := by rw [unhide HNN]; exact flat_lt hcn hrn
          have b3 : c * rows ≤ 1000000 := by omega
          have hcx := hX.cell c r hcn hrn
          obtain ⟨x, hx⟩ : ∃ x, x = f r c := ⟨_, rfl⟩
          obtain ⟨old, hold⟩ : ∃ old, old = tK f r c c r := ⟨_, rfl⟩
          rw [← hold] at hcx
          have HSTEP := hide (tK_step f r c)
          rw [← hx] at HSTEP
          have hxx : x = mc l cols r c := by rw [hx, unhide HFF0]
          have HAT := hide (fun W (g : Fr (fun _ => False) wr W) => ratR_any W rows r c cols v l ((unhide HV).kept (hF.trans g (fun _ _ h => h)) (fun _ _ h => h)) (by omega) (by omega) h2.2 (by rw [unhide HL]; exact flat_lt hrn hcn))
          rw [← hxx] at HAT
          have HM2 := hide (fun W (g : Fr (fun _ => False) wr W) => ((unhide HX).factsN (unhide HNN) W g).2.2.1)
          have HB0 := hide (fun W (g : Fr (fun _ => False) wr W) => ((unhide HA).facts W g).1)
          have HBR := hide (fun W (g : Fr (fun _ => False) wr W) => ((unhide HA).facts W g).2.2.2)
          have HQC := hide (fun W (g : Fr (fun _ => False) wr W) => (g.cell (a := ⟨q, c * rows + r, none⟩) hcx.2.2 id).trans hcx.1)
          have HQZ := hide (fun W (g : Fr (fun _ => False) wr W) => (g.frozen (a := ⟨q, c * rows + r, none⟩) hcx.2.2 id).trans hcx.2.1)
          clear hX hA hx hold hcx hF hxx
          go_wp2_with fail
          refine wp_name' ?_
          intro a0 hA
          have h1 : a0.tmps.getD 1 undef = .pointer (some ⟨w.heap.size, 0, none⟩) := by rw [hA]; rfl
          have h5 : a0.tmps.getD 5 undef = .pointer (some ⟨M, 0, none⟩) := by rw [hA]; rfl
          have h6 : a0.tmps.getD 6 undef = .int .i64 ((r : Nat) : Int) := by rw [hA]; rfl
          have h7 : a0.tmps.getD 7 undef = .int .i64 ((c : Nat) : Int) := by rw [hA]; rfl
          have hsz : a0.tmps.size = 45 := by rw [hA]; rfl
          have hdf : a0.defers = [] := by rw [hA]
          have HA0 := hide hA
          clear hA
          refine wp_region_last (by kernel_rfl) (by kernel_rfl) (by kernel_rfl) (by decide +kernel) (by rw [hsz]; decide +kernel) _ rfl (Tk [.eq (.pointer (some ⟨M, 2, none⟩)), .eq (.slice (some ⟨q, 0, none⟩) N N), .eq (.int .i64 ((c : Nat) : Int)), .eq (.pointer (some ⟨w.heap.size, 0, none⟩)), .eq (.int .i64 ((rows : Nat) : Int)), .eq (.int .i64 ((c * rows : Nat) : Int)), .eq (.int .i64 ((r : Nat) : Int)), .eq (.int .i64 ((c * rows + r : Nat) : Int)), .eq (.agg #[.int .i64 ((rows : Nat) : Int), .int .i64 ((cols : Nat) : Int), v]), .eq (.int .i64 ((r : Nat) : Int)), .eq (.int .i64 ((c : Nat) : Int)), .eq (.int .u8 (((x).toNat : Nat) : Int)), .eq (.pointer (some ⟨q, c * rows + r, none⟩))]) (Tk.mono _) ?steps ?last
          case steps =>
            refine ⟨?_, ?_⟩
            · intro a' w' hb hf hd
              exact ⟨wanted_none rfl, ex_val (.pointer (some ⟨M, 2, none⟩)) (ex_f24_2 rfl ((hb.old 5 (by decide +kernel)).trans h5)) rfl⟩
            refine ⟨?_, ?_⟩
            · intro a' w' hb hf hd
              exact ⟨wanted_none rfl, ex_val (.slice (some ⟨q, 0, none⟩) N N) (ex_load22 rfl (hd 0 (by kernel_rfl) 31 rfl) (unhide HM2 w' hf)) rfl⟩
            refine ⟨?_, ?_⟩
            · intro a' w' hb hf hd
              exact ⟨wanted_none rfl, ex_val (.int .i64 ((c : Nat) : Int)) (ex_move rfl ((hb.old 7 (by decide +kernel)).trans h7)) rfl⟩
            refine ⟨?_, ?_⟩
            · intro a' w' hb hf hd
              exact ⟨wanted_none rfl, ex_val (.pointer (some ⟨w.heap.size, 0, none⟩)) (ex_f24_0 rfl ((hb.old 1 (by decide +kernel)).trans h1)) rfl⟩
            refine ⟨?_, ?_⟩
            · intro a' w' hb hf hd
              exact ⟨wanted_none rfl, ex_val (.int .i64 ((rows : Nat) : Int)) (ex_load3 rfl (hd 3 (by kernel_rfl) 34 rfl) (unhide HB0 w' hf)) rfl⟩
            refine ⟨?_, ?_⟩
            · intro a' w' hb hf hd
              exact ⟨wanted_none rfl, ex_val (.int .i64 ((c * rows : Nat) : Int)) (ex_mulN rfl (hd 2 (by kernel_rfl) 33 rfl) (hd 4 (by kernel_rfl) 35 rfl) (b3)) rfl⟩
            refine ⟨?_, ?_⟩
            · intro a' w' hb hf hd
              exact ⟨wanted_none rfl, ex_val (.int .i64 ((r : Nat) : Int)) (ex_move rfl ((hb.old 6 (by decide +kernel)).trans h6)) rfl⟩
            refine ⟨?_, ?_⟩
            · intro a' w' hb hf hd
              exact ⟨wanted_none rfl, ex_val (.int .i64 ((c * rows + r : Nat) : Int)) (ex_addN rfl (hd 5 (by kernel_rfl) 36 rfl) (hd 6 (by kernel_rfl) 37 rfl) (by omega)) rfl⟩
            refine ⟨?_, ?_⟩
            · intro a' w' hb hf hd
              exact ⟨wanted_none rfl, ex_val (.agg #[.int .i64 ((rows : Nat) : Int), .int .i64 ((cols : Nat) : Int), v]) (ex_load24 rfl ((hb.old 1 (by decide +kernel)).trans h1) (unhide HBR w' hf)) rfl⟩
            refine ⟨?_, ?_⟩
            · intro a' w' hb hf hd
              exact ⟨wanted_none rfl, ex_val (.int .i64 ((r : Nat) : Int)) (ex_move rfl ((hb.old 6 (by decide +kernel)).trans h6)) rfl⟩
            refine ⟨?_, ?_⟩
            · intro a' w' hb hf hd
              exact ⟨wanted_none rfl, ex_val (.int .i64 ((c : Nat) : Int)) (ex_move rfl ((hb.old 7 (by decide +kernel)).trans h7)) rfl⟩
            refine ⟨?_, ?_⟩
            · intro a' w' hb hf hd
              exact ⟨wanted_none rfl, ex_call 73 _ (en_call3 rfl rfl (hd 8 (by kernel_rfl) 39 rfl) (hd 9 (by kernel_rfl) 40 rfl) (hd 10 (by kernel_rfl) 41 rfl) cfv73) ((unhide HAT w' hf).mono (by rintro e w7 ⟨rfl, f7⟩; exact ⟨⟨_, rfl, rfl⟩, f7⟩))⟩
            refine ⟨?_, ?_⟩
            · intro a' w' hb hf hd
              exact ⟨wanted_none rfl, ex_val (.pointer (some ⟨q, c * rows + r, none⟩)) (ex_idx0 rfl (hd 1 (by kernel_rfl) 32 rfl) (hd 7 (by kernel_rfl) 38 rfl) (b1)) rfl⟩
            exact trivial
          case last =>
            intro a' w' hb hf hall
            refine ⟨wanted_none rfl, wp_store5 rfl (hall 12 (by decide) 43 rfl) (hall 11 (by decide) 42 rfl) (unhide HQC w' hf) (unhide HQZ w' hf) ?_⟩
            have e0_ : a'.tmps.getD 0 undef = a0.tmps.getD 0 undef := hb.old 0 (by decide +kernel)
            have e1_ : a'.tmps.getD 1 undef = .pointer (some ⟨w.heap.size, 0, none⟩) := (hb.old 1 (by decide +kernel)).trans h1
            have e2_ : a'.tmps.getD 2 undef = a0.tmps.getD 2 undef := hb.old 2 (by decide +kernel)
            have e3_ : a'.tmps.getD 3 undef = a0.tmps.getD 3 undef := hb.old 3 (by decide +kernel)
            have e4_ : a'.tmps.getD 4 undef = a0.tmps.getD 4 undef := hb.old 4 (by decide +kernel)
            have e5_ : a'.tmps.getD 5 undef = .pointer (some ⟨M, 0, none⟩) := (hb.old 5 (by decide +kernel)).trans h5
            have e6_ : a'.tmps.getD 6 undef = .int .i64 ((r : Nat) : Int) := (hb.old 6 (by decide +kernel)).trans h6
            have e7_ : a'.tmps.getD 7 undef = .int .i64 ((c : Nat) : Int) := (hb.old 7 (by decide +kernel)).trans h7
            have e8_ : a'.tmps.getD 8 undef = a0.tmps.getD 8 undef := hb.old 8 (by decide +kernel)
            have e9_ : a'.tmps.getD 9 undef = a0.tmps.getD 9 undef := hb.old 9 (by decide +kernel)
            have e10_ : a'.tmps.getD 10 undef = a0.tmps.getD 10 undef := hb.old 10 (by decide +kernel)
            have e11_ : a'.tmps.getD 11 undef = a0.tmps.getD 11 undef := hb.old 11 (by decide +kernel)
            have e12_ : a'.tmps.getD 12 undef = a0.tmps.getD 12 undef := hb.old 12 (by decide +kernel)
            have e13_ : a'.tmps.getD 13 undef = a0.tmps.getD 13 undef := hb.old 13 (by decide +kernel)
            have e14_ : a'.tmps.getD 14 undef = a0.tmps.getD 14 undef := hb.old 14 (by decide +kernel)
            have e15_ : a'.tmps.getD 15 undef = a0.tmps.getD 15 undef := hb.old 15 (by decide +kernel)
            have e16_ : a'.tmps.getD 16 undef = a0.tmps.getD 16 undef := hb.old 16 (by decide +kernel)
            have e17_ : a'.tmps.getD 17 undef = a0.tmps.getD 17 undef := hb.old 17 (by decide +kernel)
            have e18_ : a'.tmps.getD 18 undef = a0.tmps.getD 18 undef := hb.old 18 (by decide +kernel)
            have e19_ : a'.tmps.getD 19 undef = a0.tmps.getD 19 undef := hb.old 19 (by decide +kernel)
            have e20_ : a'.tmps.getD 20 undef = a0.tmps.getD 20 undef := hb.old 20 (by decide +kernel)
            have e21_ : a'.tmps.getD 21 undef = a0.tmps.getD 21 undef := hb.old 21 (by decide +kernel)
            have e22_ : a'.tmps.getD 22 undef = a0.tmps.getD 22 undef := hb.old 22 (by decide +kernel)
            have e23_ : a'.tmps.getD 23 undef = a0.tmps.getD 23 undef := hb.old 23 (by decide +kernel)
            have e24_ : a'.tmps.getD 24 undef = a0.tmps.getD 24 undef := hb.old 24 (by decide +kernel)
            have e25_ : a'.tmps.getD 25 undef = a0.tmps.getD 25 undef := hb.old 25 (by decide +kernel)
            have e26_ : a'.tmps.getD 26 undef = a0.tmps.getD 26 undef := hb.old 26 (by decide +kernel)
            have e27_ : a'.tmps.getD 27 undef = a0.tmps.getD 27 undef := hb.old 27 (by decide +kernel)
            have e28_ : a'.tmps.getD 28 undef = a0.tmps.getD 28 undef := hb.old 28 (by decide +kernel)
            have e29_ : a'.tmps.getD 29 undef = a0.tmps.getD 29 undef := hb.old 29 (by decide +kernel)
            have e30_ : a'.tmps.getD 30 undef = a0.tmps.getD 30 undef := hb.old 30 (by decide +kernel)
            have e31_ : a'.tmps.getD 31 undef = .pointer (some ⟨M, 2, none⟩) := hall 0 (by decide) 31 rfl
            have e32_ : a'.tmps.getD 32 undef = .slice (some ⟨q, 0, none⟩) N N := hall 1 (by decide) 32 rfl
            have e33_ : a'.tmps.getD 33 undef = .int .i64 ((c : Nat) : Int) := hall 2 (by decide) 33 rfl
            have e34_ : a'.tmps.getD 34 undef = .pointer (some ⟨w.heap.size, 0, none⟩) := hall 3 (by decide) 34 rfl
            have e35_ : a'.tmps.getD 35 undef = .int .i64 ((rows : Nat) : Int) := hall 4 (by decide) 35 rfl
            have e36_ : a'.tmps.getD 36 undef = .int .i64 ((c * rows : Nat) : Int) := hall 5 (by decide) 36 rfl
            have e37_ : a'.tmps.getD 37 undef = .int .i64 ((r : Nat) : Int) := hall 6 (by decide) 37 rfl
            have e38_ : a'.tmps.getD 38 undef = .int .i64 ((c * rows + r : Nat) : Int) := hall 7 (by decide) 38 rfl
            have e39_ : a'.tmps.getD 39 undef = .agg #[.int .i64 ((rows : Nat) : Int), .int .i64 ((cols : Nat) : Int), v] := hall 8 (by decide) 39 rfl
            have e40_ : a'.tmps.getD 40 undef = .int .i64 ((r : Nat) : Int) := hall 9 (by decide) 40 rfl
            have e41_ : a'.tmps.getD 41 undef = .int .i64 ((c : Nat) : Int) := hall 10 (by decide) 41 rfl
            have e42_ : a'.tmps.getD 42 undef = .int .u8 (((x).toNat : Nat) : Int) := hall 11 (by decide) 42 rfl
            have e43_ : a'.tmps.getD 43 undef = .pointer (some ⟨q, c * rows + r, none⟩) := hall 12 (by decide) 43 rfl
            have e44_ : a'.tmps.getD 44 undef = a0.tmps.getD 44 undef := hb.old 44 (by decide +kernel)
            have hfr := frame_eq (a := a') (vs := [a0.tmps.getD 0 undef, .pointer (some ⟨w.heap.size, 0, none⟩), a0.tmps.getD 2 undef, a0.tmps.getD 3 undef, a0.tmps.getD 4 undef, .pointer (some ⟨M, 0, none⟩), .int .i64 ((r : Nat) : Int), .int .i64 ((c : Nat) : Int), a0.tmps.getD 8 undef, a0.tmps.getD 9 undef, a0.tmps.getD 10 undef, a0.tmps.getD 11 undef, a0.tmps.getD 12 undef, a0.tmps.getD 13 undef, a0.tmps.getD 14 undef, a0.tmps.getD 15 undef, a0.tmps.getD 16 undef, a0.tmps.getD 17 undef, a0.tmps.getD 18 undef, a0.tmps.getD 19 undef, a0.tmps.getD 20 undef, a0.tmps.getD 21 undef, a0.tmps.getD 22 undef, a0.tmps.getD 23 undef, a0.tmps.getD 24 undef, a0.tmps.getD 25 undef, a0.tmps.getD 26 undef, a0.tmps.getD 27 undef, a0.tmps.getD 28 undef, a0.tmps.getD 29 undef, a0.tmps.getD 30 undef, .pointer (some ⟨M, 2, none⟩), .slice (some ⟨q, 0, none⟩) N N, .int .i64 ((c : Nat) : Int), .pointer (some ⟨w.heap.size, 0, none⟩), .int .i64 ((rows : Nat) : Int), .int .i64 ((c * rows : Nat) : Int), .int .i64 ((r : Nat) : Int), .int .i64 ((c * rows + r : Nat) : Int), .agg #[.int .i64 ((rows : Nat) : Int), .int .i64 ((cols : Nat) : Int), v], .int .i64 ((r : Nat) : Int), .int .i64 ((c : Nat) : Int), .int .u8 (((x).toNat : Nat) : Int), .pointer (some ⟨q, c * rows + r, none⟩), a0.tmps.getD 44 undef]) (by rw [hb.size, hsz]; rfl) (by rw [hb.defers]; exact hdf) ⟨e0_, e1_, e2_, e3_, e4_, e5_, e6_, e7_, e8_, e9_, e10_, e11_, e12_, e13_, e14_, e15_, e16_, e17_, e18_, e19_, e20_, e21_, e22_, e23_, e24_, e25_, e26_, e27_, e28_, e29_, e30_, e31_, e32_, e33_, e34_, e35_, e36_, e37_, e38_, e39_, e40_, e41_, e42_, e43_, e44_, trivial⟩
            have HFF := hide hf
            clear hall hb hf e0_ e1_ e2_ e3_ e4_ e5_ e6_ e7_ e8_ e9_ e10_ e11_ e12_ e13_ e14_ e15_ e16_ e17_ e18_ e19_ e20_ e21_ e22_ e23_ e24_ e25_ e26_ e27_ e28_ e29_ e30_ e31_ e32_ e33_ e34_ e35_ e36_ e37_ e38_ e39_ e40_ e41_ e42_ e43_ e44_ h1 h5 h6 h7
            subst hfr
            rw [unhide HA0]
            clear HA0 hsz hdf
            apply_assumption
            go_wp2_with fail
            go_roundw
            case rel =>
              have hX' := ((unhide HX).keptF (unhide HFF)).set c r x hcn hrn
              rw [unhide HSTEP] at hX'
              have fs : Fr (fun k => k = q) w' (w'.setCell ⟨q, c * rows + r, none⟩ (.int .u8 ((x.toNat : Nat) : Int))) := (Fr.refl (fun k => k = q) _).setCell (p := ⟨q, c * rows + r, none⟩) (fun _ => rfl) _
              exact ⟨c + 1, by omega, by go_num, hX', ((unhide HA).kept (unhide HFF) id).kept fs (by omega), ((unhide HZ).kept (unhide HFF) id).kept fs (by omega), ((unhide HF).trans (unhide HFF) (fun _ _ h => h)).setCell (p := ⟨q, c * rows + r, none⟩) (fun h' => by simp at h'; omega) _⟩
            case measure => simp [intOf]; omega
        · have hce : c = cols := by omega
          subst hce
          have hci : ¬ (c : Int) < (c : Int) := by omega
          clear hA hF
          go_wp2_with fail
          go_roundw
          case rel => exact ⟨r + 1, by omega, by go_num, hX.congr (by omega) (fun a b ha _ => tK_row f r c a b ha), unhide HA, unhide HZ, unhide HF⟩
          case measure => simp [intOf]; omega
    · have hre : r = rows := by omega
      subst hre
      have hri : ¬ (r : Int) < (r : Int) := by omega
      obtain ⟨y0, y1, y2, -⟩ := hX.factsN (unhide HNN) wr (Fr.refl _ _)
      have hz3 := (unhide HZ).there
      have hput := (unhide HZ).put (.int .i64 ((cols : Nat) : Int)) (.int .i64 ((r : Nat) : Int)) (.slice (some ⟨q, 0, none⟩) N N)
      have hfs := setCells_frame (w.heap.size + 1) [.int .i64 ((cols : Nat) : Int), .int .i64 ((r : Nat) : Int), .slice (some ⟨q, 0, none⟩) N N] 0 wr
      have hown := owns_kept (hX.congr (g := fun i j => f j i) (by omega) (fun a b ha hb => by unfold tK; rw [if_pos (.inl hb)])).own hfs (fun b hb => by simp [Value.ownBlock] at hb; omega)
      have hRd : Rd (wr.setCells (w.heap.size + 1) 0 [.int .i64 ((cols : Nat) : Int), .int .i64 ((r : Nat) : Int), .slice (some ⟨q, 0, none⟩) N N]) (.slice (some ⟨q, 0, none⟩) N N) (tuL r cols l) := by
        have e9 : fl r (fun i j => f j i) (cols * r) = tuL r cols l := by rw [unhide HFF0]; rfl
        rw [e9, ← unhide HNN] at hown
        exact Rd.of_owns (base := 0) (by rw [tuL_length, ← unhide HNN]; exact hown)
      have hFF : Fr (fun _ => False) w (wr.setCells (w.heap.size + 1) 0 [.int .i64 ((cols : Nat) : Int), .int .i64 ((r : Nat) : Int), .slice (some ⟨q, 0, none⟩) N N]) := (unhide HF).trans hfs (fun i hi e => by omega)
      have HPUT := hide hput
      have HOWN := hide hRd
      have HFIN := hide hFF
      clear hput hfs hown hRd hFF hX
      go_wp2_with (refine wpList_store_mid rfl 24 _ _ rfl (w.heap.size + 1) 0 #[.int .i64 ((cols : Nat) : Int), .int .i64 ((r : Nat) : Int), .slice (some ⟨q, 0, none⟩) N N] rfl rfl hz3 info24_size (by simp [Value.oneCell']) ?_)
      generalize wr.setCells (w.heap.size + 1) 0 _ = W at *
      have c0 := cell_of_heap (unhide HPUT) 0
      have c1 := cell_of_heap (unhide HPUT) 1
      have c2 := cell_of_heap (unhide HPUT) 2
      simp at c0 c1 c2
      refine bodyPost_ret (v := .tuple #[.agg #[.int .i64 ((cols : Nat) : Int), .int .i64 ((r : Nat) : Int), .slice (some ⟨q, 0, none⟩) N N], .int .i64 0]) (by simp [results, Try.results28, go_sem, c0, c1, c2]) rfl ⟨⟨_, rfl, unhide HOWN⟩, unhide HFIN⟩
end Go.Proofs.Ytckmddkhkdcmmaa
