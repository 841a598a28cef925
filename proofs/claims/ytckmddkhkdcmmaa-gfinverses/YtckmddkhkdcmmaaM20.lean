/-
  The document's Product.
-/
import Derived.Test.YtckmddkhkdcmmaaM19
namespace Go.Proofs.Ytckmddkhkdcmmaa
set_option linter.unusedVariables false
set_option linter.unusedSimpArgs false
open Go.RowKit Go.Lib
set_option linter.unusedVariables false
set_option linter.unusedSimpArgs false

attribute [local go_sem ↓] Go.wp_at_zero Go.wp_at_succ

/-- A product under way. -/
def pK (t : Nat → Nat → Nat → UInt8) (n r c k : Nat) : Nat → Nat → UInt8 := fun i j => if i < r ∨ (i = r ∧ j < c) then sg n (t i j) else if i = r ∧ j = c then sg k (t i j) else 0
theorem pK_zero (t : Nat → Nat → Nat → UInt8) (n i j : Nat) : pK t n 0 0 0 i j = 0 := by
  unfold pK
  rw [if_neg (by omega)]
  by_cases h : i = 0 ∧ j = 0
  · rw [if_pos h]; rfl
  · rw [if_neg h]
theorem pK_at (t : Nat → Nat → Nat → UInt8) (n r c k : Nat) : pK t n r c k r c = sg k (t r c) := by
  unfold pK
  rw [if_neg (by omega), if_pos ⟨rfl, rfl⟩]
theorem pK_step (t : Nat → Nat → Nat → UInt8) (n r c k : Nat) : upd (pK t n r c k) r c (sg k (t r c) ^^^ t r c k) = pK t n r c (k + 1) := by
  funext i j
  unfold upd pK
  by_cases h : i = r ∧ j = c
  · rw [if_pos h, if_neg (by omega), if_pos h, h.1, h.2]; rfl
  · rw [if_neg h, if_neg h, if_neg h]
theorem pK_col (t : Nat → Nat → Nat → UInt8) (n r c : Nat) : pK t n r c n = pK t n r (c + 1) 0 := by
  funext i j
  unfold pK
  by_cases h : i < r ∨ (i = r ∧ j < c)
  · rw [if_pos h, if_pos (by omega)]
  · rw [if_neg h]
    by_cases h2 : i = r ∧ j = c
    · rw [if_pos h2, if_pos (by omega)]
    · rw [if_neg h2, if_neg (by omega)]
      by_cases h3 : i = r ∧ j = c + 1
      · rw [if_pos h3]; rfl
      · rw [if_neg h3]
theorem pK_row (t : Nat → Nat → Nat → UInt8) (n r m i j : Nat) (hj : j < m) : pK t n r m 0 i j = pK t n (r + 1) 0 0 i j := by
  unfold pK
  by_cases h : i < r ∨ (i = r ∧ j < m)
  · rw [if_pos h, if_pos (by omega)]
  · rw [if_neg h, if_neg (by omega), if_neg (by omega)]
    by_cases h3 : i = r + 1 ∧ j = 0
    · rw [if_pos h3]; rfl
    · rw [if_neg h3]
set_option maxHeartbeats 2000000 in
set_option maxRecDepth 100000 in
theorem rproduct_no0 (w : World) (r c r2 c2 : Int) (va vb : Value) (l l2 : List UInt8) (ha : Rd w va l) (hb : Rd w vb l2) (E : Int) (hE : E = if chk r c l.length = 0 then chk r2 c2 l2.length else chk r c l.length) (h1 : (E != 0) = true) :
    Calls Try.prog 18 #[.agg #[.int .i64 r, .int .i64 c, va], .agg #[.int .i64 r2, .int .i64 c2, vb]] w fun e w' => MR w w' e 0 0 [] (E) := by
  obtain ⟨ao, cap, rfl⟩ := ha.shape
  obtain ⟨bo, bcap, rfl⟩ := hb.shape
  clear ha hb
  have H1 := hide h1
  clear h1
  have HE := hide hE
  clear hE
  go_enter Try.func18, Try.ntmps18
  go_wp2_with fail
  refine (both_any _ _ _ _ _ _ _ _ _ _ _).mono ?_
  rintro e w1 ⟨rfl, f1⟩
  have T := three_allocs w #[.int .i64 r, .int .i64 c, .slice ao l.length cap] #[.int .i64 r2, .int .i64 c2, .slice bo l2.length bcap] #[.int .i64 0, .int .i64 0, .slice none 0 0] 24
  have HA := hide ((f1.block _ (lt_of_heap T.1) id).trans T.1)
  have HB := hide ((f1.block _ (lt_of_heap T.2.1) id).trans T.2.1)
  have HR := hide ((f1.block _ (lt_of_heap T.2.2) id).trans T.2.2)
  have F1 := hide (((((Fr.refl (fun _ => False) w).alloc _).alloc _).alloc _).trans f1 (fun _ _ h => h))
  clear T f1
  rw [← unhide HE]
  have hne := unhide H1
  have hlt := lt_of_heap (unhide HR)
  have k0 := cell_of_heap (unhide HR) 0
  have k1 := cell_of_heap (unhide HR) 1
  have k2 := cell_of_heap (unhide HR) 2
  have z0 := frozen_of_heap (unhide HR)
  simp at k0 k1 k2
  go_wp2_with fail
  have f3 := fr_three w1 (w.heap.size + 1 + 1) (.int .i64 0) (.int .i64 0) (.slice none 0 0)
  refine bodyPost_ret (v := .tuple #[.agg #[.int .i64 0, .int .i64 0, .slice none 0 0], .int .i64 (E)]) (by simp [results, Try.results18, go_sem, k0, k1, k2]) rfl ⟨⟨_, rfl, Rd.nil _⟩, (unhide F1).trans f3 (fun i hi h => by omega)⟩
set_option maxHeartbeats 2000000 in
set_option maxRecDepth 100000 in
theorem rproduct_side (w : World) (r c r2 c2 : Int) (va vb : Value) (l l2 : List UInt8) (ha : Rd w va l) (hb : Rd w vb l2) (h1 : chk r c l.length = 0) (h2 : chk r2 c2 l2.length = 0) (h3 : c ≠ r2) :
    Calls Try.prog 18 #[.agg #[.int .i64 r, .int .i64 c, va], .agg #[.int .i64 r2, .int .i64 c2, vb]] w fun e w' => MR w w' e 0 0 [] (23) := by
  obtain ⟨ao, cap, rfl⟩ := ha.shape
  obtain ⟨bo, bcap, rfl⟩ := hb.shape
  clear ha hb
  have H1 := hide h1
  clear h1
  have H2 := hide h2
  have H3 : Hid ((c != r2) = true) := hide (by simpa using h3)
  clear h2 h3
  go_enter Try.func18, Try.ntmps18
  go_wp2_with fail
  refine (both_any _ _ _ _ _ _ _ _ _ _ _).mono ?_
  rintro e w1 ⟨rfl, f1⟩
  have T := three_allocs w #[.int .i64 r, .int .i64 c, .slice ao l.length cap] #[.int .i64 r2, .int .i64 c2, .slice bo l2.length bcap] #[.int .i64 0, .int .i64 0, .slice none 0 0] 24
  have HA := hide ((f1.block _ (lt_of_heap T.1) id).trans T.1)
  have HB := hide ((f1.block _ (lt_of_heap T.2.1) id).trans T.2.1)
  have HR := hide ((f1.block _ (lt_of_heap T.2.2) id).trans T.2.2)
  have F1 := hide (((((Fr.refl (fun _ => False) w).alloc _).alloc _).alloc _).trans f1 (fun _ _ h => h))
  clear T f1
  rw [if_pos (unhide H1), unhide H2]
  have a1 := cell_of_heap (unhide HA) 1
  have b0 := cell_of_heap (unhide HB) 0
  simp at a1 b0
  have hne := unhide H3
  have hlt := lt_of_heap (unhide HR)
  have k0 := cell_of_heap (unhide HR) 0
  have k1 := cell_of_heap (unhide HR) 1
  have k2 := cell_of_heap (unhide HR) 2
  have z0 := frozen_of_heap (unhide HR)
  simp at k0 k1 k2
  go_wp2_with fail
  have f3 := fr_three w1 (w.heap.size + 1 + 1) (.int .i64 0) (.int .i64 0) (.slice none 0 0)
  refine bodyPost_ret (v := .tuple #[.agg #[.int .i64 0, .int .i64 0, .slice none 0 0], .int .i64 (23)]) (by simp [results, Try.results18, go_sem, k0, k1, k2]) rfl ⟨⟨_, rfl, Rd.nil _⟩, (unhide F1).trans f3 (fun i hi h => by omega)⟩
theorem rproduct_no (w : World) (r c r2 c2 : Int) (va vb : Value) (l l2 : List UInt8) (ha : Rd w va l) (hb : Rd w vb l2) (h1 : (if chk r c l.length = 0 then chk r2 c2 l2.length else chk r c l.length) ≠ 0) :
    Calls Try.prog 18 #[.agg #[.int .i64 r, .int .i64 c, va], .agg #[.int .i64 r2, .int .i64 c2, vb]] w fun e w' => MR w w' e 0 0 [] (if chk r c l.length = 0 then chk r2 c2 l2.length else chk r c l.length) := rproduct_no0 w r c r2 c2 va vb l l2 ha hb _ rfl (by simpa using h1)
set_option maxHeartbeats 2000000 in
set_option maxRecDepth 100000 in
theorem rproduct_ok (w : World) (rows cols wide : Nat) (va vb : Value) (la lb : List UInt8) (ha : Rd w va la) (hb : Rd w vb lb) (hla : la.length = rows * cols) (hlb : lb.length = cols * wide) (h1 : 1 ≤ rows ∧ rows ≤ 64) (h2 : 1 ≤ cols ∧ cols ≤ 64) (h3 : 1 ≤ wide ∧ wide ≤ 64) :
    Calls Try.prog 18 #[.agg #[.int .i64 (rows : Int), .int .i64 (cols : Int), va], .agg #[.int .i64 (cols : Int), .int .i64 (wide : Int), vb]] w fun e w' => MR w w' e rows wide (prL rows cols wide la lb) 0 := by
  have hck : (if chk rows cols la.length = 0 then chk cols wide lb.length else chk rows cols la.length) = 0 := by rw [if_pos (chk_ok h1 h2 hla)]; exact chk_ok h2 h3 hlb
  have hN : rows * wide ≤ 4096 := Nat.mul_le_mul h1.2 h3.2
  obtain ⟨ao, acap, hvs⟩ := ha.shape
  obtain ⟨bo, bcap, hvt⟩ := hb.shape
  have HVA := hide ha
  have HVB := hide hb
  have HLA := hide hla
  have HLB := hide hlb
  have HCK := hide hck
  clear ha hb hla hlb hck
  obtain ⟨N, hNN⟩ : ∃ N, N = rows * wide := ⟨_, rfl⟩
  rw [← hNN] at hN
  have HNN := hide hNN
  clear hNN
  go_enter Try.func18, Try.ntmps18
  go_wp2_with fail
  rw [hvs, hvt]
  refine (both_any _ _ _ _ _ _ _ _ _ _ _).mono ?_
  rintro e w2 ⟨rfl, f2⟩
  rw [unhide HCK, ← hvs, ← hvt]
  rw [← hvs, ← hvt] at f2
  have T := three_allocs w #[.int .i64 (rows : Int), .int .i64 (cols : Int), va] #[.int .i64 (cols : Int), .int .i64 (wide : Int), vb] #[.int .i64 0, .int .i64 0, .slice none 0 0] 24
  have hA2 : Hd w2 w.heap.size rows cols va := (f2.block _ (lt_of_heap T.1) id).trans T.1
  have hB2 : Hd w2 (w.heap.size + 1) cols wide vb := (f2.block _ (lt_of_heap T.2.1) id).trans T.2.1
  have hZ2 : Z3 w2 (w.heap.size + 1 + 1) := ⟨_, _, _, (f2.block _ (lt_of_heap T.2.2) id).trans T.2.2⟩
  have F2 : Fr (fun _ => False) w w2 := ((((Fr.refl (fun _ => False) w).alloc _).alloc _).alloc _).trans f2 (fun _ _ h => h)
  have hsz2 : w.heap.size + 3 ≤ w2.heap.size := by obtain ⟨x, y, z, hz⟩ := hZ2; have := lt_of_heap hz; omega
  obtain ⟨a0, a1, a2, -⟩ := hA2.facts w2 (Fr.refl _ _)
  obtain ⟨b0, b1, b2, -⟩ := hB2.facts w2 (Fr.refl _ _)
  have HA2 := hide hA2
  have HB2 := hide hB2
  have HZ2 := hide hZ2
  have HF2 := hide F2
  have HNEW := hide (rnew_any w2 rows wide h1.2 h3.2)
  rw [← unhide HNN] at HNEW
  have hcc : ((cols : Int) != (cols : Int)) = false := by simp
  clear T f2 F2 hA2 hB2 hZ2
  go_wp2_with fail
  refine (unhide HNEW).mono ?_
  rintro e w3 ⟨rfl, hB3, f3⟩
  have HA3 := hide ((unhide HA2).kept f3 id)
  have HB3' := hide ((unhide HB2).kept f3 id)
  have HZ3 := hide ((unhide HZ2).kept f3 id)
  have HF3 := hide ((unhide HF2).trans f3 (fun _ _ h => h))
  have hle3 := f3.size
  obtain ⟨q, hq⟩ : ∃ q, q = w2.heap.size + 1 := ⟨_, rfl⟩
  rw [← hq] at hB3 ⊢
  have hltq : q < w3.heap.size := lt_of_heap hB3
  have HB3 := hide hB3
  clear HNEW HA2 HB2 HZ2 HF2 f3 hB3 a0 a1 a2 b0 b1 b2 hcc
  go_wp2_with fail
  refine wp_nameW' ?_
  intro w4 hw4
  obtain ⟨M, hM⟩ : ∃ M, M = w3.heap.size := ⟨_, rfl⟩
  have hX4 : XAt w4 M q rows wide N (fun _ _ => 0) := XAt.of_new (unhide HNN) (by omega) (by rw [hw4, hM, hq]; exact heap_alloc_new w3 _) (by rw [hw4]; exact (((Fr.refl (fun _ => False) w3).alloc _).block q hltq id).trans (unhide HB3))
  have f4 : Fr (fun _ => False) w3 w4 := by rw [hw4]; exact (Fr.refl _ _).alloc _
  rw [← hM] at hltq ⊢
  have HX4 := hide hX4
  have HA4 := hide ((unhide HA3).kept f4 id)
  have HB4 := hide ((unhide HB3').kept f4 id)
  have HZ4 := hide ((unhide HZ3).kept f4 id)
  have HF4 := hide ((unhide HF3).trans f4 (fun _ _ h => h))
  have hqw : w.heap.size + 3 < q := by omega
  clear hX4 f4 hw4 HA3 HB3' HZ3 HF3 HB3 hM hq hle3 hsz2
  obtain ⟨f, hf⟩ : ∃ f : Nat → Nat → Nat → UInt8, f = fun r c i => mul (mc la cols r i) (mc lb wide i c) := ⟨_, rfl⟩
  have HFF0 := hide hf
  clear hf
  go_loopw [8] (fun x w' => ∃ r : Nat, r ≤ rows ∧ x = .int .i64 (r : Int) ∧ XAt w' M q rows wide N (pK f cols r 0 0) ∧ Hd w' w.heap.size rows cols va ∧ Hd w' (w.heap.size + 1) cols wide vb ∧ Z3 w' (w.heap.size + 1 + 1) ∧ Fr (fun _ => False) w w') (fun x _ => rows - (intOf x).toNat)
  case atStart => exact ⟨0, Nat.zero_le _, rfl, (unhide HX4).congr (by omega) (fun i j _ _ => (pK_zero f cols i j).symm), unhide HA4, unhide HB4, unhide HZ4, unhide HF4⟩
  case round =>
    clear HX4 HA4 HB4 HZ4 HF4
    obtain ⟨r, hr, rfl, hX, hA, hB, hZ, hF⟩ := hrel
    have HX := hide hX
    have HA := hide hA
    have HB := hide hB
    have HZ := hide hZ
    have HF := hide hF
    obtain ⟨a0, a1, a2, -⟩ := hA.facts wr (Fr.refl _ _)
    obtain ⟨b0, b1, b2, -⟩ := hB.facts wr (Fr.refl _ _)
    clear hA hB hZ
    by_cases hrn : r < rows
    · have hri : (r : Int) < (rows : Int) := by omega
      clear hX hF
      go_wp2_with fail
      go_loopw [9] (fun y w' => ∃ c : Nat, c ≤ wide ∧ y = .int .i64 (c : Int) ∧ XAt w' M q rows wide N (pK f cols r c 0) ∧ Hd w' w.heap.size rows cols va ∧ Hd w' (w.heap.size + 1) cols wide vb ∧ Z3 w' (w.heap.size + 1 + 1) ∧ Fr (fun _ => False) w w') (fun y _ => wide - (intOf y).toNat)
      case atStart => exact ⟨0, Nat.zero_le _, rfl, unhide HX, unhide HA, unhide HB, unhide HZ, unhide HF⟩
      case round =>
        clear HX HA HB HZ HF a0 a1 a2 b0 b1 b2
        obtain ⟨c, hc, rfl, hX, hA, hB, hZ, hF⟩ := hrel
        have HX := hide hX
        have HA := hide hA
        have HB := hide hB
        have HZ := hide hZ
        have HF := hide hF
        obtain ⟨a0, a1, a2, -⟩ := hA.facts wr (Fr.refl _ _)
        obtain ⟨b0, b1, b2, -⟩ := hB.facts wr (Fr.refl _ _)
        clear hA hB hZ
        by_cases hcn : c < wide
        · have hci : (c : Int) < (wide : Int) := by omega
          clear hX hF
          go_wp2_with fail
          go_loopw [10] (fun y w' => ∃ k : Nat, k ≤ cols ∧ y = .int .i64 (k : Int) ∧ XAt w' M q rows wide N (pK f cols r c k) ∧ Hd w' w.heap.size rows cols va ∧ Hd w' (w.heap.size + 1) cols wide vb ∧ Z3 w' (w.heap.size + 1 + 1) ∧ Fr (fun _ => False) w w') (fun y _ => cols - (intOf y).toNat)
          case atStart => exact ⟨0, Nat.zero_le _, rfl, unhide HX, unhide HA, unhide HB, unhide HZ, unhide HF⟩
          case round =>
            clear HX HA HB HZ HF a0 a1 a2 b0 b1 b2
            obtain ⟨k, hk, rfl, hX, hA, hB, hZ, hF⟩ := hrel
            have HX := hide hX
            have HA := hide hA
            have HB := hide hB
            have HZ := hide hZ
            have HF := hide hF
            obtain ⟨a0, a1, a2, -⟩ := hA.facts wr (Fr.refl _ _)
            obtain ⟨b0, b1, b2, -⟩ := hB.facts wr (Fr.refl _ _)
            clear hA hB hZ
            by_cases hkn : k < cols
            · have hki : (k : Int) < (cols : Int) := by omega
              have hcx := hX.cell r c hrn hcn
              rw [pK_at] at hcx
              have b1 : r * wide + c < N := by rw [unhide HNN]; exact flat_lt hrn hcn
              have b3 : r * wide ≤ 1000000 := by omega
              obtain ⟨x, hx⟩ : ∃ x, x = mc la cols r k := ⟨_, rfl⟩
              obtain ⟨y, hy⟩ : ∃ y, y = mc lb wide k c := ⟨_, rfl⟩
              obtain ⟨old, hold⟩ : ∃ old, old = sg k (f r c) := ⟨_, rfl⟩
              rw [← hold] at hcx
              have HSTEP := hide (pK_step f cols r c k)
              have hfx : f r c k = mul x y := by rw [unhide HFF0, hx, hy]
              rw [hfx, ← hold] at HSTEP
              have HAX := hide (fun W (g : Fr (fun _ => False) wr W) => ratR_any W rows r k cols va la ((unhide HVA).kept (hF.trans g (fun _ _ h => h)) (fun _ _ h => h)) (by omega) (by omega) h2.2 (by rw [unhide HLA]; exact flat_lt hrn hkn))
              have HAY := hide (fun W (g : Fr (fun _ => False) wr W) => ratR_any W cols k c wide vb lb ((unhide HVB).kept (hF.trans g (fun _ _ h => h)) (fun _ _ h => h)) (by omega) (by omega) h3.2 (by rw [unhide HLB]; exact flat_lt hkn hcn))
              rw [← hx] at HAX
              rw [← hy] at HAY
              have HM2 := hide (fun W (g : Fr (fun _ => False) wr W) => ((unhide HX).factsN (unhide HNN) W g).2.2.1)
              have HPR := hide (fun W (g : Fr (fun _ => False) wr W) => ((unhide HA).facts W g).2.2.2)
              have HQ1 := hide (fun W (g : Fr (fun _ => False) wr W) => ((unhide HB).facts W g).2.1)
              have HQR := hide (fun W (g : Fr (fun _ => False) wr W) => ((unhide HB).facts W g).2.2.2)
              have HQC := hide (fun W (g : Fr (fun _ => False) wr W) => (g.cell (a := ⟨q, r * wide + c, none⟩) hcx.2.2 id).trans hcx.1)
              have HQZ := hide (fun W (g : Fr (fun _ => False) wr W) => (g.frozen (a := ⟨q, r * wide + c, none⟩) hcx.2.2 id).trans hcx.2.1)
              clear hX hx hy hold hcx hF hfx
              go_wp2_with fail
              refine wp_name' ?_
              intro a0 hA
              have h2 : a0.tmps.getD 2 undef = .pointer (some ⟨w.heap.size, 0, none⟩) := by rw [hA]; rfl
              have h3 : a0.tmps.getD 3 undef = .pointer (some ⟨w.heap.size + 1, 0, none⟩) := by rw [hA]; rfl
              have h7 : a0.tmps.getD 7 undef = .pointer (some ⟨M, 0, none⟩) := by rw [hA]; rfl
              have h8 : a0.tmps.getD 8 undef = .int .i64 ((r : Nat) : Int) := by rw [hA]; rfl
              have h9 : a0.tmps.getD 9 undef = .int .i64 ((c : Nat) : Int) := by rw [hA]; rfl
              have h10 : a0.tmps.getD 10 undef = .int .i64 ((k : Nat) : Int) := by rw [hA]; rfl
              have hsz : a0.tmps.size = 77 := by rw [hA]; rfl
              have hdf : a0.defers = [] := by rw [hA]
              have HA0 := hide hA
              clear hA
              refine wp_region_last (by kernel_rfl) (by kernel_rfl) (by kernel_rfl) (by decide +kernel) (by rw [hsz]; decide +kernel) _ rfl (Tk [.eq (.pointer (some ⟨M, 2, none⟩)), .eq (.slice (some ⟨q, 0, none⟩) N N), .eq (.int .i64 ((r : Nat) : Int)), .eq (.pointer (some ⟨w.heap.size + 1, 1, none⟩)), .eq (.int .i64 ((wide : Nat) : Int)), .eq (.int .i64 ((r * wide : Nat) : Int)), .eq (.int .i64 ((c : Nat) : Int)), .eq (.int .i64 ((r * wide + c : Nat) : Int)), .eq (.pointer (some ⟨M, 2, none⟩)), .eq (.slice (some ⟨q, 0, none⟩) N N), .eq (.int .i64 ((r : Nat) : Int)), .eq (.pointer (some ⟨w.heap.size + 1, 1, none⟩)), .eq (.int .i64 ((wide : Nat) : Int)), .eq (.int .i64 ((r * wide : Nat) : Int)), .eq (.int .i64 ((c : Nat) : Int)), .eq (.int .i64 ((r * wide + c : Nat) : Int)), .eq (.pointer (some ⟨q, r * wide + c, none⟩)), .eq (.int .u8 (((old).toNat : Nat) : Int)), .eq (.agg #[.int .i64 ((rows : Nat) : Int), .int .i64 ((cols : Nat) : Int), va]), .eq (.int .i64 ((r : Nat) : Int)), .eq (.int .i64 ((k : Nat) : Int)), .eq (.int .u8 (((x).toNat : Nat) : Int)), .eq (.agg #[.int .i64 ((cols : Nat) : Int), .int .i64 ((wide : Nat) : Int), vb]), .eq (.int .i64 ((k : Nat) : Int)), .eq (.int .i64 ((c : Nat) : Int)), .eq (.int .u8 (((y).toNat : Nat) : Int)), .eq (.int .u8 (((mul x y).toNat : Nat) : Int)), .eq (.int .u8 (((old ^^^ mul x y).toNat : Nat) : Int)), .eq (.pointer (some ⟨q, r * wide + c, none⟩))]) (Tk.mono _) ?steps ?last
              case steps =>
                refine ⟨?_, ?_⟩
                · intro a' w' hb hf hd
                  exact ⟨wanted_none rfl, ex_val (.pointer (some ⟨M, 2, none⟩)) (ex_f24_2 rfl ((hb.old 7 (by decide +kernel)).trans h7)) rfl⟩
                refine ⟨?_, ?_⟩
                · intro a' w' hb hf hd
                  exact ⟨wanted_none rfl, ex_val (.slice (some ⟨q, 0, none⟩) N N) (ex_load22 rfl (hd 0 (by kernel_rfl) 47 rfl) (unhide HM2 w' hf)) rfl⟩
                refine ⟨?_, ?_⟩
                · intro a' w' hb hf hd
                  exact ⟨wanted_none rfl, ex_val (.int .i64 ((r : Nat) : Int)) (ex_move rfl ((hb.old 8 (by decide +kernel)).trans h8)) rfl⟩
                refine ⟨?_, ?_⟩
                · intro a' w' hb hf hd
                  exact ⟨wanted_none rfl, ex_val (.pointer (some ⟨w.heap.size + 1, 1, none⟩)) (ex_f24_1 rfl ((hb.old 3 (by decide +kernel)).trans h3)) rfl⟩
                refine ⟨?_, ?_⟩
                · intro a' w' hb hf hd
                  exact ⟨wanted_none rfl, ex_val (.int .i64 ((wide : Nat) : Int)) (ex_load3 rfl (hd 3 (by kernel_rfl) 50 rfl) (unhide HQ1 w' hf)) rfl⟩
                refine ⟨?_, ?_⟩
                · intro a' w' hb hf hd
                  exact ⟨wanted_none rfl, ex_val (.int .i64 ((r * wide : Nat) : Int)) (ex_mulN rfl (hd 2 (by kernel_rfl) 49 rfl) (hd 4 (by kernel_rfl) 51 rfl) (b3)) rfl⟩
                refine ⟨?_, ?_⟩
                · intro a' w' hb hf hd
                  exact ⟨wanted_none rfl, ex_val (.int .i64 ((c : Nat) : Int)) (ex_move rfl ((hb.old 9 (by decide +kernel)).trans h9)) rfl⟩
                refine ⟨?_, ?_⟩
                · intro a' w' hb hf hd
                  exact ⟨wanted_none rfl, ex_val (.int .i64 ((r * wide + c : Nat) : Int)) (ex_addN rfl (hd 5 (by kernel_rfl) 52 rfl) (hd 6 (by kernel_rfl) 53 rfl) (by omega)) rfl⟩
                refine ⟨?_, ?_⟩
                · intro a' w' hb hf hd
                  exact ⟨wanted_none rfl, ex_val (.pointer (some ⟨M, 2, none⟩)) (ex_f24_2 rfl ((hb.old 7 (by decide +kernel)).trans h7)) rfl⟩
                refine ⟨?_, ?_⟩
                · intro a' w' hb hf hd
                  exact ⟨wanted_none rfl, ex_val (.slice (some ⟨q, 0, none⟩) N N) (ex_load22 rfl (hd 8 (by kernel_rfl) 55 rfl) (unhide HM2 w' hf)) rfl⟩
                refine ⟨?_, ?_⟩
                · intro a' w' hb hf hd
                  exact ⟨wanted_none rfl, ex_val (.int .i64 ((r : Nat) : Int)) (ex_move rfl ((hb.old 8 (by decide +kernel)).trans h8)) rfl⟩
                refine ⟨?_, ?_⟩
                · intro a' w' hb hf hd
                  exact ⟨wanted_none rfl, ex_val (.pointer (some ⟨w.heap.size + 1, 1, none⟩)) (ex_f24_1 rfl ((hb.old 3 (by decide +kernel)).trans h3)) rfl⟩
                refine ⟨?_, ?_⟩
                · intro a' w' hb hf hd
                  exact ⟨wanted_none rfl, ex_val (.int .i64 ((wide : Nat) : Int)) (ex_load3 rfl (hd 11 (by kernel_rfl) 58 rfl) (unhide HQ1 w' hf)) rfl⟩
                refine ⟨?_, ?_⟩
                · intro a' w' hb hf hd
                  exact ⟨wanted_none rfl, ex_val (.int .i64 ((r * wide : Nat) : Int)) (ex_mulN rfl (hd 10 (by kernel_rfl) 57 rfl) (hd 12 (by kernel_rfl) 59 rfl) (b3)) rfl⟩
                refine ⟨?_, ?_⟩
                · intro a' w' hb hf hd
                  exact ⟨wanted_none rfl, ex_val (.int .i64 ((c : Nat) : Int)) (ex_move rfl ((hb.old 9 (by decide +kernel)).trans h9)) rfl⟩
                refine ⟨?_, ?_⟩
                · intro a' w' hb hf hd
                  exact ⟨wanted_none rfl, ex_val (.int .i64 ((r * wide + c : Nat) : Int)) (ex_addN rfl (hd 13 (by kernel_rfl) 60 rfl) (hd 14 (by kernel_rfl) 61 rfl) (by omega)) rfl⟩
                refine ⟨?_, ?_⟩
                · intro a' w' hb hf hd
                  exact ⟨wanted_none rfl, ex_val (.pointer (some ⟨q, r * wide + c, none⟩)) (ex_idx0 rfl (hd 9 (by kernel_rfl) 56 rfl) (hd 15 (by kernel_rfl) 62 rfl) (b1)) rfl⟩
                refine ⟨?_, ?_⟩
                · intro a' w' hb hf hd
                  exact ⟨wanted_none rfl, ex_val (.int .u8 (((old).toNat : Nat) : Int)) (ex_load5 rfl (hd 16 (by kernel_rfl) 63 rfl) (unhide HQC w' hf)) rfl⟩
                refine ⟨?_, ?_⟩
                · intro a' w' hb hf hd
                  exact ⟨wanted_none rfl, ex_val (.agg #[.int .i64 ((rows : Nat) : Int), .int .i64 ((cols : Nat) : Int), va]) (ex_load24 rfl ((hb.old 2 (by decide +kernel)).trans h2) (unhide HPR w' hf)) rfl⟩
                refine ⟨?_, ?_⟩
                · intro a' w' hb hf hd
                  exact ⟨wanted_none rfl, ex_val (.int .i64 ((r : Nat) : Int)) (ex_move rfl ((hb.old 8 (by decide +kernel)).trans h8)) rfl⟩
                refine ⟨?_, ?_⟩
                · intro a' w' hb hf hd
                  exact ⟨wanted_none rfl, ex_val (.int .i64 ((k : Nat) : Int)) (ex_move rfl ((hb.old 10 (by decide +kernel)).trans h10)) rfl⟩
                refine ⟨?_, ?_⟩
                · intro a' w' hb hf hd
                  exact ⟨wanted_none rfl, ex_call 73 _ (en_call3 rfl rfl (hd 18 (by kernel_rfl) 65 rfl) (hd 19 (by kernel_rfl) 66 rfl) (hd 20 (by kernel_rfl) 67 rfl) cfv73) ((unhide HAX w' hf).mono (by rintro e w7 ⟨rfl, f7⟩; exact ⟨⟨_, rfl, rfl⟩, f7⟩))⟩
                refine ⟨?_, ?_⟩
                · intro a' w' hb hf hd
                  exact ⟨wanted_none rfl, ex_val (.agg #[.int .i64 ((cols : Nat) : Int), .int .i64 ((wide : Nat) : Int), vb]) (ex_load24 rfl ((hb.old 3 (by decide +kernel)).trans h3) (unhide HQR w' hf)) rfl⟩
                refine ⟨?_, ?_⟩
                · intro a' w' hb hf hd
                  exact ⟨wanted_none rfl, ex_val (.int .i64 ((k : Nat) : Int)) (ex_move rfl ((hb.old 10 (by decide +kernel)).trans h10)) rfl⟩
                refine ⟨?_, ?_⟩
                · intro a' w' hb hf hd
                  exact ⟨wanted_none rfl, ex_val (.int .i64 ((c : Nat) : Int)) (ex_move rfl ((hb.old 9 (by decide +kernel)).trans h9)) rfl⟩
                refine ⟨?_, ?_⟩
                · intro a' w' hb hf hd
                  exact ⟨wanted_none rfl, ex_call 73 _ (en_call3 rfl rfl (hd 22 (by kernel_rfl) 69 rfl) (hd 23 (by kernel_rfl) 70 rfl) (hd 24 (by kernel_rfl) 71 rfl) cfv73) ((unhide HAY w' hf).mono (by rintro e w7 ⟨rfl, f7⟩; exact ⟨⟨_, rfl, rfl⟩, f7⟩))⟩
                refine ⟨?_, ?_⟩
                · intro a' w' hb hf hd
                  exact ⟨wanted_none rfl, ex_call 72 _ (en_call2 rfl rfl (hd 21 (by kernel_rfl) 68 rfl) (hd 25 (by kernel_rfl) 72 rfl) cfw72) ((rmul_any w' x y).mono (by rintro e w7 ⟨rfl, rfl⟩; exact ⟨⟨_, rfl, rfl⟩, Fr.refl _ _⟩))⟩
                refine ⟨?_, ?_⟩
                · intro a' w' hb hf hd
                  exact ⟨wanted_none rfl, ex_val (.int .u8 (((old ^^^ mul x y).toNat : Nat) : Int)) (ex_xor5 rfl (hd 17 (by kernel_rfl) 64 rfl) (hd 26 (by kernel_rfl) 73 rfl)) rfl⟩
                refine ⟨?_, ?_⟩
                · intro a' w' hb hf hd
                  exact ⟨wanted_none rfl, ex_val (.pointer (some ⟨q, r * wide + c, none⟩)) (ex_idx0 rfl (hd 1 (by kernel_rfl) 48 rfl) (hd 7 (by kernel_rfl) 54 rfl) (b1)) rfl⟩
                exact trivial
              case last =>
                intro a' w' hb hf hall
                refine ⟨wanted_none rfl, wp_store5 rfl (hall 28 (by decide) 75 rfl) (hall 27 (by decide) 74 rfl) (unhide HQC w' hf) (unhide HQZ w' hf) ?_⟩
                have e0_ : a'.tmps.getD 0 undef = a0.tmps.getD 0 undef := hb.old 0 (by decide +kernel)
                have e1_ : a'.tmps.getD 1 undef = a0.tmps.getD 1 undef := hb.old 1 (by decide +kernel)
                have e2_ : a'.tmps.getD 2 undef = .pointer (some ⟨w.heap.size, 0, none⟩) := (hb.old 2 (by decide +kernel)).trans h2
                have e3_ : a'.tmps.getD 3 undef = .pointer (some ⟨w.heap.size + 1, 0, none⟩) := (hb.old 3 (by decide +kernel)).trans h3
                have e4_ : a'.tmps.getD 4 undef = a0.tmps.getD 4 undef := hb.old 4 (by decide +kernel)
                have e5_ : a'.tmps.getD 5 undef = a0.tmps.getD 5 undef := hb.old 5 (by decide +kernel)
                have e6_ : a'.tmps.getD 6 undef = a0.tmps.getD 6 undef := hb.old 6 (by decide +kernel)
                have e7_ : a'.tmps.getD 7 undef = .pointer (some ⟨M, 0, none⟩) := (hb.old 7 (by decide +kernel)).trans h7
                have e8_ : a'.tmps.getD 8 undef = .int .i64 ((r : Nat) : Int) := (hb.old 8 (by decide +kernel)).trans h8
                have e9_ : a'.tmps.getD 9 undef = .int .i64 ((c : Nat) : Int) := (hb.old 9 (by decide +kernel)).trans h9
                have e10_ : a'.tmps.getD 10 undef = .int .i64 ((k : Nat) : Int) := (hb.old 10 (by decide +kernel)).trans h10
                have e11_ : a'.tmps.getD 11 undef = a0.tmps.getD 11 undef := hb.old 11 (by decide +kernel)
                have e12_ : a'.tmps.getD 12 undef = a0.tmps.getD 12 undef := hb.old 12 (by decide +kernel)
                have e13_ : a'.tmps.getD 13 undef = a0.tmps.getD 13 undef := hb.old 13 (by decide +kernel)
                have e14_ : a'.tmps.getD 14 undef = a0.tmps.getD 14 undef := hb.old 14 (by decide +kernel)
                have e15_ : a'.tmps.getD 15 undef = a0.tmps.getD 15 undef := hb.old 15 (by decide +kernel)
                have e16_ : a'.tmps.getD 16 undef = a0.tmps.getD 16 undef := hb.old 16 (by decide +kernel)
                have e17_ : a'.tmps.getD 17 undef = a0.tmps.getD 17 undef := hb.old 17 (by decide +kernel)
                have e18_ : a'.tmps.getD 18 undef = a0.tmps.getD 18 undef := hb.old 18 (by decide +kernel)
                have e19_ : a'.tmps.getD 19 undef = a0.tmps.getD 19 undef := hb.old 19 (by decide +kernel)
                have e20_ : a'.tmps.getD 20 undef = a0.tmps.getD 20 undef := hb.old 20 (by decide +kernel)
                have e21_ : a'.tmps.getD 21 undef = a0.tmps.getD 21 undef := hb.old 21 (by decide +kernel)
                have e22_ : a'.tmps.getD 22 undef = a0.tmps.getD 22 undef := hb.old 22 (by decide +kernel)
                have e23_ : a'.tmps.getD 23 undef = a0.tmps.getD 23 undef := hb.old 23 (by decide +kernel)
                have e24_ : a'.tmps.getD 24 undef = a0.tmps.getD 24 undef := hb.old 24 (by decide +kernel)
                have e25_ : a'.tmps.getD 25 undef = a0.tmps.getD 25 undef := hb.old 25 (by decide +kernel)
                have e26_ : a'.tmps.getD 26 undef = a0.tmps.getD 26 undef := hb.old 26 (by decide +kernel)
                have e27_ : a'.tmps.getD 27 undef = a0.tmps.getD 27 undef := hb.old 27 (by decide +kernel)
                have e28_ : a'.tmps.getD 28 undef = a0.tmps.getD 28 undef := hb.old 28 (by decide +kernel)
                have e29_ : a'.tmps.getD 29 undef = a0.tmps.getD 29 undef := hb.old 29 (by decide +kernel)
                have e30_ : a'.tmps.getD 30 undef = a0.tmps.getD 30 undef := hb.old 30 (by decide +kernel)
                have e31_ : a'.tmps.getD 31 undef = a0.tmps.getD 31 undef := hb.old 31 (by decide +kernel)
                have e32_ : a'.tmps.getD 32 undef = a0.tmps.getD 32 undef := hb.old 32 (by decide +kernel)
                have e33_ : a'.tmps.getD 33 undef = a0.tmps.getD 33 undef := hb.old 33 (by decide +kernel)
                have e34_ : a'.tmps.getD 34 undef = a0.tmps.getD 34 undef := hb.old 34 (by decide +kernel)
                have e35_ : a'.tmps.getD 35 undef = a0.tmps.getD 35 undef := hb.old 35 (by decide +kernel)
                have e36_ : a'.tmps.getD 36 undef = a0.tmps.getD 36 undef := hb.old 36 (by decide +kernel)
                have e37_ : a'.tmps.getD 37 undef = a0.tmps.getD 37 undef := hb.old 37 (by decide +kernel)
                have e38_ : a'.tmps.getD 38 undef = a0.tmps.getD 38 undef := hb.old 38 (by decide +kernel)
                have e39_ : a'.tmps.getD 39 undef = a0.tmps.getD 39 undef := hb.old 39 (by decide +kernel)
                have e40_ : a'.tmps.getD 40 undef = a0.tmps.getD 40 undef := hb.old 40 (by decide +kernel)
                have e41_ : a'.tmps.getD 41 undef = a0.tmps.getD 41 undef := hb.old 41 (by decide +kernel)
                have e42_ : a'.tmps.getD 42 undef = a0.tmps.getD 42 undef := hb.old 42 (by decide +kernel)
                have e43_ : a'.tmps.getD 43 undef = a0.tmps.getD 43 undef := hb.old 43 (by decide +kernel)
                have e44_ : a'.tmps.getD 44 undef = a0.tmps.getD 44 undef := hb.old 44 (by decide +kernel)
                have e45_ : a'.tmps.getD 45 undef = a0.tmps.getD 45 undef := hb.old 45 (by decide +kernel)
                have e46_ : a'.tmps.getD 46 undef = a0.tmps.getD 46 undef := hb.old 46 (by decide +kernel)
                have e47_ : a'.tmps.getD 47 undef = .pointer (some ⟨M, 2, none⟩) := hall 0 (by decide) 47 rfl
                have e48_ : a'.tmps.getD 48 undef = .slice (some ⟨q, 0, none⟩) N N := hall 1 (by decide) 48 rfl
                have e49_ : a'.tmps.getD 49 undef = .int .i64 ((r : Nat) : Int) := hall 2 (by decide) 49 rfl
                have e50_ : a'.tmps.getD 50 undef = .pointer (some ⟨w.heap.size + 1, 1, none⟩) := hall 3 (by decide) 50 rfl
                have e51_ : a'.tmps.getD 51 undef = .int .i64 ((wide : Nat) : Int) := hall 4 (by decide) 51 rfl
                have e52_ : a'.tmps.getD 52 undef = .int .i64 ((r * wide : Nat) : Int) := hall 5 (by decide) 52 rfl
                have e53_ : a'.tmps.getD 53 undef = .int .i64 ((c : Nat) : Int) := hall 6 (by decide) 53 rfl
                have e54_ : a'.tmps.getD 54 undef = .int .i64 ((r * wide + c : Nat) : Int) := hall 7 (by decide) 54 rfl
                have e55_ : a'.tmps.getD 55 undef = .pointer (some ⟨M, 2, none⟩) := hall 8 (by decide) 55 rfl
                have e56_ : a'.tmps.getD 56 undef = .slice (some ⟨q, 0, none⟩) N N := hall 9 (by decide) 56 rfl
                have e57_ : a'.tmps.getD 57 undef = .int .i64 ((r : Nat) : Int) := hall 10 (by decide) 57 rfl
                have e58_ : a'.tmps.getD 58 undef = .pointer (some ⟨w.heap.size + 1, 1, none⟩) := hall 11 (by decide) 58 rfl
                have e59_ : a'.tmps.getD 59 undef = .int .i64 ((wide : Nat) : Int) := hall 12 (by decide) 59 rfl
                have e60_ : a'.tmps.getD 60 undef = .int .i64 ((r * wide : Nat) : Int) := hall 13 (by decide) 60 rfl
                have e61_ : a'.tmps.getD 61 undef = .int .i64 ((c : Nat) : Int) := hall 14 (by decide) 61 rfl
                have e62_ : a'.tmps.getD 62 undef = .int .i64 ((r * wide + c : Nat) : Int) := hall 15 (by decide) 62 rfl
                have e63_ : a'.tmps.getD 63 undef = .pointer (some ⟨q, r * wide + c, none⟩) := hall 16 (by decide) 63 rfl
                have e64_ : a'.tmps.getD 64 undef = .int .u8 (((old).toNat : Nat) : Int) := hall 17 (by decide) 64 rfl
                have e65_ : a'.tmps.getD 65 undef = .agg #[.int .i64 ((rows : Nat) : Int), .int .i64 ((cols : Nat) : Int), va] := hall 18 (by decide) 65 rfl
                have e66_ : a'.tmps.getD 66 undef = .int .i64 ((r : Nat) : Int) := hall 19 (by decide) 66 rfl
                have e67_ : a'.tmps.getD 67 undef = .int .i64 ((k : Nat) : Int) := hall 20 (by decide) 67 rfl
                have e68_ : a'.tmps.getD 68 undef = .int .u8 (((x).toNat : Nat) : Int) := hall 21 (by decide) 68 rfl
                have e69_ : a'.tmps.getD 69 undef = .agg #[.int .i64 ((cols : Nat) : Int), .int .i64 ((wide : Nat) : Int), vb] := hall 22 (by decide) 69 rfl
                have e70_ : a'.tmps.getD 70 undef = .int .i64 ((k : Nat) : Int) := hall 23 (by decide) 70 rfl
                have e71_ : a'.tmps.getD 71 undef = .int .i64 ((c : Nat) : Int) := hall 24 (by decide) 71 rfl
                have e72_ : a'.tmps.getD 72 undef = .int .u8 (((y).toNat : Nat) : Int) := hall 25 (by decide) 72 rfl
                have e73_ : a'.tmps.getD 73 undef = .int .u8 (((mul x y).toNat : Nat) : Int) := hall 26 (by decide) 73 rfl
                have e74_ : a'.tmps.getD 74 undef = .int .u8 (((old ^^^ mul x y).toNat : Nat) : Int) := hall 27 (by decide) 74 rfl
                have e75_ : a'.tmps.getD 75 undef = .pointer (some ⟨q, r * wide + c, none⟩) := hall 28 (by decide) 75 rfl
                have e76_ : a'.tmps.getD 76 undef = a0.tmps.getD 76 undef := hb.old 76 (by decide +kernel)
                have hfr := frame_eq (a := a') (vs := [a0.tmps.getD 0 undef, a0.tmps.getD 1 undef, .pointer (some ⟨w.heap.size, 0, none⟩), .pointer (some ⟨w.heap.size + 1, 0, none⟩), a0.tmps.getD 4 undef, a0.tmps.getD 5 undef, a0.tmps.getD 6 undef, .pointer (some ⟨M, 0, none⟩), .int .i64 ((r : Nat) : Int), .int .i64 ((c : Nat) : Int), .int .i64 ((k : Nat) : Int), a0.tmps.getD 11 undef, a0.tmps.getD 12 undef, a0.tmps.getD 13 undef, a0.tmps.getD 14 undef, a0.tmps.getD 15 undef, a0.tmps.getD 16 undef, a0.tmps.getD 17 undef, a0.tmps.getD 18 undef, a0.tmps.getD 19 undef, a0.tmps.getD 20 undef, a0.tmps.getD 21 undef, a0.tmps.getD 22 undef, a0.tmps.getD 23 undef, a0.tmps.getD 24 undef, a0.tmps.getD 25 undef, a0.tmps.getD 26 undef, a0.tmps.getD 27 undef, a0.tmps.getD 28 undef, a0.tmps.getD 29 undef, a0.tmps.getD 30 undef, a0.tmps.getD 31 undef, a0.tmps.getD 32 undef, a0.tmps.getD 33 undef, a0.tmps.getD 34 undef, a0.tmps.getD 35 undef, a0.tmps.getD 36 undef, a0.tmps.getD 37 undef, a0.tmps.getD 38 undef, a0.tmps.getD 39 undef, a0.tmps.getD 40 undef, a0.tmps.getD 41 undef, a0.tmps.getD 42 undef, a0.tmps.getD 43 undef, a0.tmps.getD 44 undef, a0.tmps.getD 45 undef, a0.tmps.getD 46 undef, .pointer (some ⟨M, 2, none⟩), .slice (some ⟨q, 0, none⟩) N N, .int .i64 ((r : Nat) : Int), .pointer (some ⟨w.heap.size + 1, 1, none⟩), .int .i64 ((wide : Nat) : Int), .int .i64 ((r * wide : Nat) : Int), .int .i64 ((c : Nat) : Int), .int .i64 ((r * wide + c : Nat) : Int), .pointer (some ⟨M, 2, none⟩), .slice (some ⟨q, 0, none⟩) N N, .int .i64 ((r : Nat) : Int), .pointer (some ⟨w.heap.size + 1, 1, none⟩), .int .i64 ((wide : Nat) : Int), .int .i64 ((r * wide : Nat) : Int), .int .i64 ((c : Nat) : Int), .int .i64 ((r * wide + c : Nat) : Int), .pointer (some ⟨q, r * wide + c, none⟩), .int .u8 (((old).toNat : Nat) : Int), .agg #[.int .i64 ((rows : Nat) : Int), .int .i64 ((cols : Nat) : Int), va], .int .i64 ((r : Nat) : Int), .int .i64 ((k : Nat) : Int), .int .u8 (((x).toNat : Nat) : Int), .agg #[.int .i64 ((cols : Nat) : Int), .int .i64 ((wide : Nat) : Int), vb], .int .i64 ((k : Nat) : Int), .int .i64 ((c : Nat) : Int), .int .u8 (((y).toNat : Nat) : Int), .int .u8 (((mul x y).toNat : Nat) : Int), .int .u8 (((old ^^^ mul x y).toNat : Nat) : Int), .pointer (some ⟨q, r * wide + c, none⟩), a0.tmps.getD 76 undef]) (by rw [hb.size, hsz]; rfl) (by rw [hb.defers]; exact hdf) ⟨e0_, e1_, e2_, e3_, e4_, e5_, e6_, e7_, e8_, e9_, e10_, e11_, e12_, e13_, e14_, e15_, e16_, e17_, e18_, e19_, e20_, e21_, e22_, e23_, e24_, e25_, e26_, e27_, e28_, e29_, e30_, e31_, e32_, e33_, e34_, e35_, e36_, e37_, e38_, e39_, e40_, e41_, e42_, e43_, e44_, e45_, e46_, e47_, e48_, e49_, e50_, e51_, e52_, e53_, e54_, e55_, e56_, e57_, e58_, e59_, e60_, e61_, e62_, e63_, e64_, e65_, e66_, e67_, e68_, e69_, e70_, e71_, e72_, e73_, e74_, e75_, e76_, trivial⟩
                have HFF := hide hf
                clear hall hb hf e0_ e1_ e2_ e3_ e4_ e5_ e6_ e7_ e8_ e9_ e10_ e11_ e12_ e13_ e14_ e15_ e16_ e17_ e18_ e19_ e20_ e21_ e22_ e23_ e24_ e25_ e26_ e27_ e28_ e29_ e30_ e31_ e32_ e33_ e34_ e35_ e36_ e37_ e38_ e39_ e40_ e41_ e42_ e43_ e44_ e45_ e46_ e47_ e48_ e49_ e50_ e51_ e52_ e53_ e54_ e55_ e56_ e57_ e58_ e59_ e60_ e61_ e62_ e63_ e64_ e65_ e66_ e67_ e68_ e69_ e70_ e71_ e72_ e73_ e74_ e75_ e76_ h2 h3 h7 h8 h9 h10
                subst hfr
                rw [unhide HA0]
                clear HA0 hsz hdf
                apply_assumption
                go_wp2_with fail
                go_roundw
                case rel =>
                  have hX' := ((unhide HX).keptF (unhide HFF)).set r c (old ^^^ mul x y) hrn hcn
                  rw [unhide HSTEP] at hX'
                  have fs : Fr (fun k => k = q) w' (w'.setCell ⟨q, r * wide + c, none⟩ (.int .u8 (((old ^^^ mul x y).toNat : Nat) : Int))) := (Fr.refl (fun k => k = q) _).setCell (p := ⟨q, r * wide + c, none⟩) (fun _ => rfl) _
                  exact ⟨k + 1, by omega, by go_num, hX', ((unhide HA).kept (unhide HFF) id).kept fs (by omega), ((unhide HB).kept (unhide HFF) id).kept fs (by omega), ((unhide HZ).kept (unhide HFF) id).kept fs (by omega), ((unhide HF).trans (unhide HFF) (fun _ _ h => h)).setCell (p := ⟨q, r * wide + c, none⟩) (fun h' => by simp at h'; omega) _⟩
                case measure => simp [intOf]; omega
            · have hke : k = cols := by omega
              subst hke
              have hki : ¬ (k : Int) < (k : Int) := by omega
              rw [pK_col] at hX
              have HX2 := hide hX
              clear hF hX HX
              go_wp2_with fail
              go_roundw
              case rel => exact ⟨c + 1, by omega, by go_num, unhide HX2, unhide HA, unhide HB, unhide HZ, unhide HF⟩
              case measure => simp [intOf]; omega
        · have hce : c = wide := by omega
          subst hce
          have hci : ¬ (c : Int) < (c : Int) := by omega
          clear hF
          go_wp2_with fail
          go_roundw
          case rel => exact ⟨r + 1, by omega, by go_num, hX.congr (by omega) (fun a b _ hb => pK_row f cols r c a b hb), unhide HA, unhide HB, unhide HZ, unhide HF⟩
          case measure => simp [intOf]; omega
    · have hre : r = rows := by omega
      subst hre
      have hri : ¬ (r : Int) < (r : Int) := by omega
      obtain ⟨y0, y1, y2, -⟩ := hX.factsN (unhide HNN) wr (Fr.refl _ _)
      have hz3 := (unhide HZ).there
      have hput := (unhide HZ).put (.int .i64 ((r : Nat) : Int)) (.int .i64 ((wide : Nat) : Int)) (.slice (some ⟨q, 0, none⟩) N N)
      have hfs := setCells_frame (w.heap.size + 1 + 1) [.int .i64 ((r : Nat) : Int), .int .i64 ((wide : Nat) : Int), .slice (some ⟨q, 0, none⟩) N N] 0 wr
      have hown := owns_kept (hX.congr (g := fun i j => sg cols (f i j)) (by omega) (fun a b ha hb => by unfold pK; rw [if_pos (.inl ha)])).own hfs (fun b hb => by simp [Value.ownBlock] at hb; omega)
      have hRd : Rd (wr.setCells (w.heap.size + 1 + 1) 0 [.int .i64 ((r : Nat) : Int), .int .i64 ((wide : Nat) : Int), .slice (some ⟨q, 0, none⟩) N N]) (.slice (some ⟨q, 0, none⟩) N N) (prL r cols wide la lb) := by
        have e9 : fl wide (fun i j => sg cols (f i j)) (r * wide) = prL r cols wide la lb := by rw [unhide HFF0]; rfl
        rw [e9, ← unhide HNN] at hown
        exact Rd.of_owns (base := 0) (by rw [prL_length, ← unhide HNN]; exact hown)
      have hFF : Fr (fun _ => False) w (wr.setCells (w.heap.size + 1 + 1) 0 [.int .i64 ((r : Nat) : Int), .int .i64 ((wide : Nat) : Int), .slice (some ⟨q, 0, none⟩) N N]) := (unhide HF).trans hfs (fun i hi e => by omega)
      have HPUT := hide hput
      have HOWN := hide hRd
      have HFIN := hide hFF
      clear hput hfs hown hRd hFF hX hF
      go_wp2_with (refine wpList_store_mid rfl 24 _ _ rfl (w.heap.size + 1 + 1) 0 #[.int .i64 ((r : Nat) : Int), .int .i64 ((wide : Nat) : Int), .slice (some ⟨q, 0, none⟩) N N] rfl rfl hz3 info24_size (by simp [Value.oneCell']) ?_)
      generalize wr.setCells (w.heap.size + 1 + 1) 0 _ = W at *
      have c0 := cell_of_heap (unhide HPUT) 0
      have c1 := cell_of_heap (unhide HPUT) 1
      have c2 := cell_of_heap (unhide HPUT) 2
      simp at c0 c1 c2
      refine bodyPost_ret (v := .tuple #[.agg #[.int .i64 ((r : Nat) : Int), .int .i64 ((wide : Nat) : Int), .slice (some ⟨q, 0, none⟩) N N], .int .i64 0]) (by simp [results, Try.results18, go_sem, c0, c1, c2]) rfl ⟨⟨_, rfl, unhide HOWN⟩, unhide HFIN⟩
end Go.Proofs.Ytckmddkhkdcmmaa
