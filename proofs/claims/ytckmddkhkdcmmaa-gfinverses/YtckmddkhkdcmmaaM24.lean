/-
  The document's Rows.
-/
import Derived.Test.YtckmddkhkdcmmaaM20
import Derived.Test.YtckmddkhkdcmmaaM06
namespace Go.Proofs.Ytckmddkhkdcmmaa
set_option linter.unusedVariables false
set_option linter.unusedSimpArgs false
open Go.RowKit Go.Lib
set_option linter.unusedVariables false
set_option linter.unusedSimpArgs false

attribute [local go_sem ↓] Go.wp_at_zero Go.wp_at_succ

/-- Cells that are laid row by row. -/
def wK (f : Nat → Nat → UInt8) (r c : Nat) : Nat → Nat → UInt8 := fun i j => if i < r ∨ (i = r ∧ j < c) then f i j else 0
theorem wK_zero (f : Nat → Nat → UInt8) (i j : Nat) : wK f 0 0 i j = 0 := by unfold wK; simp
theorem wK_step (f : Nat → Nat → UInt8) (r c : Nat) : upd (wK f r c) r c (f r c) = wK f r (c + 1) := by
  funext i j
  unfold upd wK
  by_cases h : i = r ∧ j = c
  · obtain ⟨rfl, rfl⟩ := h
    rw [if_pos ⟨rfl, rfl⟩, if_pos (.inr ⟨rfl, by omega⟩)]
  · rw [if_neg h]
    by_cases h2 : i < r ∨ (i = r ∧ j < c)
    · rw [if_pos h2, if_pos (by omega)]
    · rw [if_neg h2, if_neg (by omega)]
theorem wK_row (f : Nat → Nat → UInt8) (r n i j : Nat) (hj : j < n) : wK f r n i j = wK f (r + 1) 0 i j := by
  unfold wK
  by_cases h2 : i < r ∨ (i = r ∧ j < n)
  · rw [if_pos h2, if_pos (by omega)]
  · rw [if_neg h2, if_neg (by omega)]
section
variable {o : Oper} {w : World} {ρ : Operand → Value}
theorem ex_index25 {x y : Operand} {b of n c k : Nat} (ho : o.op = .indexAddr 25 x y) (hx : ρ x = .slice (some ⟨b, of, none⟩) n c) (hy : ρ y = .int .i64 ((k : Nat) : Int)) (hk : k < n) : (execOp ρ o).run Try.prog w = .ok (.value (.pointer (some ⟨b, of + k, none⟩))) w := by
  simp [execOp, ho, hx, hy, go_sem, hk]
end
set_option maxHeartbeats 2000000 in
set_option maxRecDepth 100000 in
theorem rrows_no1 (w : World) (r c : Int) (va wv : Value) (l : List UInt8) (xs : List Int) (ha : Rd w va l) (hw : RdV w wv (ivs xs)) (h1 : chk r c l.length ≠ 0) :
    Calls Try.prog 26 #[.agg #[.int .i64 r, .int .i64 c, va], wv] w fun e w' => MR w w' e 0 0 [] (chk r c l.length) := by
  obtain ⟨ao, ac, rfl⟩ := ha.shape
  obtain ⟨wo, wc, rfl⟩ := hw.shape
  rw [ivs_length]
  have H1 : Hid ((chk r c l.length != 0) = true) := hide (by simpa using h1)
  clear h1
  clear ha hw
  go_enter Try.func26, Try.ntmps26
  go_wp2_with fail
  refine (rchk_any _ _ _ _ _ _).mono ?_
  rintro e w1 ⟨rfl, f1⟩
  have T := two_allocs w #[.int .i64 r, .int .i64 c, .slice ao l.length ac] #[.int .i64 0, .int .i64 0, .slice none 0 0]
  have HR := hide ((f1.block _ (lt_of_heap T.2) id).trans T.2)
  have F1 := hide ((((Fr.refl (fun _ => False) w).alloc _).alloc _).trans f1 (fun _ _ h => h))
  clear T f1
  have hne := unhide H1
  have hlt := lt_of_heap (unhide HR)
  have k0 := cell_of_heap (unhide HR) 0
  have k1 := cell_of_heap (unhide HR) 1
  have k2 := cell_of_heap (unhide HR) 2
  have z0 := frozen_of_heap (unhide HR)
  simp at k0 k1 k2
  go_wp2_with fail
  have f3 := fr_three w1 (w.heap.size + 1) (.int .i64 0) (.int .i64 0) (.slice none 0 0)
  refine bodyPost_ret (v := .tuple #[.agg #[.int .i64 0, .int .i64 0, .slice none 0 0], .int .i64 (chk r c l.length)]) (by simp [results, Try.results26, go_sem, k0, k1, k2]) rfl ⟨⟨_, rfl, Rd.nil _⟩, (unhide F1).trans f3 (fun i hi h => by omega)⟩
set_option maxHeartbeats 2000000 in
set_option maxRecDepth 100000 in
theorem rrows_no2a (w : World) (r c : Int) (va wv : Value) (l : List UInt8) (xs : List Int) (ha : Rd w va l) (hw : RdV w wv (ivs xs)) (h1 : chk r c l.length = 0) (h2 : xs.length < 1) :
    Calls Try.prog 26 #[.agg #[.int .i64 r, .int .i64 c, va], wv] w fun e w' => MR w w' e 0 0 [] (2) := by
  obtain ⟨ao, ac, rfl⟩ := ha.shape
  obtain ⟨wo, wc, rfl⟩ := hw.shape
  rw [ivs_length]
  have H1 := hide h1
  have hlen : ((xs.length : Nat) : Int) < 1 := by omega
  obtain ⟨n, hn⟩ : ∃ n, n = xs.length := ⟨_, rfl⟩
  rw [← hn] at hlen ⊢
  clear h1 h2
  clear ha hw
  go_enter Try.func26, Try.ntmps26
  go_wp2_with fail
  refine (rchk_any _ _ _ _ _ _).mono ?_
  rintro e w1 ⟨rfl, f1⟩
  have T := two_allocs w #[.int .i64 r, .int .i64 c, .slice ao l.length ac] #[.int .i64 0, .int .i64 0, .slice none 0 0]
  have HR := hide ((f1.block _ (lt_of_heap T.2) id).trans T.2)
  have F1 := hide ((((Fr.refl (fun _ => False) w).alloc _).alloc _).trans f1 (fun _ _ h => h))
  clear T f1
  rw [unhide H1]
  have hlt := lt_of_heap (unhide HR)
  have k0 := cell_of_heap (unhide HR) 0
  have k1 := cell_of_heap (unhide HR) 1
  have k2 := cell_of_heap (unhide HR) 2
  have z0 := frozen_of_heap (unhide HR)
  simp at k0 k1 k2
  go_wp2_with fail
  have f3 := fr_three w1 (w.heap.size + 1) (.int .i64 0) (.int .i64 0) (.slice none 0 0)
  refine bodyPost_ret (v := .tuple #[.agg #[.int .i64 0, .int .i64 0, .slice none 0 0], .int .i64 (2)]) (by simp [results, Try.results26, go_sem, k0, k1, k2]) rfl ⟨⟨_, rfl, Rd.nil _⟩, (unhide F1).trans f3 (fun i hi h => by omega)⟩
set_option maxHeartbeats 2000000 in
set_option maxRecDepth 100000 in
theorem rrows_no2b (w : World) (r c : Int) (va wv : Value) (l : List UInt8) (xs : List Int) (ha : Rd w va l) (hw : RdV w wv (ivs xs)) (h1 : chk r c l.length = 0) (h2 : 64 < xs.length) :
    Calls Try.prog 26 #[.agg #[.int .i64 r, .int .i64 c, va], wv] w fun e w' => MR w w' e 0 0 [] (2) := by
  obtain ⟨ao, ac, rfl⟩ := ha.shape
  obtain ⟨wo, wc, rfl⟩ := hw.shape
  rw [ivs_length]
  have H1 := hide h1
  have hlen : ¬ ((xs.length : Nat) : Int) < 1 := by omega
  have hlen2 : (64 : Int) < ((xs.length : Nat) : Int) := by omega
  obtain ⟨n, hn⟩ : ∃ n, n = xs.length := ⟨_, rfl⟩
  rw [← hn] at hlen hlen2 ⊢
  clear h1 h2 hn
  clear ha hw
  go_enter Try.func26, Try.ntmps26
  go_wp2_with fail
  refine (rchk_any _ _ _ _ _ _).mono ?_
  rintro e w1 ⟨rfl, f1⟩
  have T := two_allocs w #[.int .i64 r, .int .i64 c, .slice ao l.length ac] #[.int .i64 0, .int .i64 0, .slice none 0 0]
  have HR := hide ((f1.block _ (lt_of_heap T.2) id).trans T.2)
  have F1 := hide ((((Fr.refl (fun _ => False) w).alloc _).alloc _).trans f1 (fun _ _ h => h))
  clear T f1
  rw [unhide H1]
  have hlt := lt_of_heap (unhide HR)
  have k0 := cell_of_heap (unhide HR) 0
  have k1 := cell_of_heap (unhide HR) 1
  have k2 := cell_of_heap (unhide HR) 2
  have z0 := frozen_of_heap (unhide HR)
  simp at k0 k1 k2
  go_wp2_with fail
  have f3 := fr_three w1 (w.heap.size + 1) (.int .i64 0) (.int .i64 0) (.slice none 0 0)
  refine bodyPost_ret (v := .tuple #[.agg #[.int .i64 0, .int .i64 0, .slice none 0 0], .int .i64 (2)]) (by simp [results, Try.results26, go_sem, k0, k1, k2]) rfl ⟨⟨_, rfl, Rd.nil _⟩, (unhide F1).trans f3 (fun i hi h => by omega)⟩
set_option maxHeartbeats 2000000 in
set_option maxRecDepth 100000 in
theorem rrows_any (w : World) (rows cols : Nat) (v wv : Value) (l : List UInt8) (xs : List Int) (hv : Rd w v l) (hw : RdV w wv (ivs xs)) (hl : l.length = rows * cols) (h1 : 1 ≤ rows ∧ rows ≤ 64) (h2 : 1 ≤ cols ∧ cols ≤ 64) (h3 : 1 ≤ xs.length ∧ xs.length ≤ 64)
    (XR XC XE : Int) (XL : List UInt8) (hno : xs.any (offB rows) = true → XR = 0 ∧ XC = 0 ∧ XL = [] ∧ XE = 2) (hyes : xs.any (offB rows) = false → XR = xs.length ∧ XC = cols ∧ XL = rwsL cols l (xs.map Int.toNat) ∧ XE = 0) :
    Calls Try.prog 26 #[.agg #[.int .i64 (rows : Int), .int .i64 (cols : Int), v], wv] w fun e w' => MR w w' e XR XC XL XE := by
  have hck := chk_ok h1 h2 hl
  have hN : xs.length * cols ≤ 4096 := Nat.mul_le_mul h3.2 h2.2
  obtain ⟨ao, cap, hvs⟩ := hv.shape
  have HVS := hide hvs
  clear hvs
  have HW := hide hw
  obtain ⟨wo, wc, rfl⟩ := hw.shape
  obtain ⟨bw, ow, rfl, -, -, -, hcs⟩ := hw.lits (by rw [ivs_length]; omega)
  have HCS := hide (fun i (h : i < xs.length) => (hcs i (by rw [ivs_length]; exact h)).trans (congrArg some (ivs_get xs i h)))
  rw [ivs_length] at HW ⊢
  have HV := hide hv
  have HL := hide hl
  have HCK := hide hck
  have HNO := hide hno
  have HYES := hide hyes
  obtain ⟨n, hn⟩ : ∃ n, n = xs.length := ⟨_, rfl⟩
  have HLEN := hide hn
  rw [← hn] at h3 hN HW ⊢
  clear hv hl hck hw hcs hn hno hyes
  obtain ⟨N, hNN⟩ : ∃ N, N = n * cols := ⟨_, rfl⟩
  rw [← hNN] at hN
  have HNN := hide hNN
  clear hNN
  have hg1 : ¬ ((n : Nat) : Int) < 1 := by omega
  have hg2 : ¬ (64 : Int) < ((n : Nat) : Int) := by omega
  go_enter Try.func26, Try.ntmps26
  go_wp2_with fail
  rw [unhide HVS]
  refine (rchk_any _ _ _ _ _ _).mono ?_
  rintro e w2 ⟨rfl, f2⟩
  rw [unhide HCK, ← unhide HVS]
  have T := two_allocs w #[.int .i64 (rows : Int), .int .i64 (cols : Int), v] #[.int .i64 0, .int .i64 0, .slice none 0 0]
  rw [← unhide HVS] at f2
  have hA2 : Hd w2 w.heap.size rows cols v := (f2.block _ (lt_of_heap T.1) id).trans T.1
  have hZ2 : Z3 w2 (w.heap.size + 1) := ⟨_, _, _, (f2.block _ (lt_of_heap T.2) id).trans T.2⟩
  have F2 : Fr (fun _ => False) w w2 := (((Fr.refl (fun _ => False) w).alloc _).alloc _).trans f2 (fun _ _ h => h)
  have hsz2 : w.heap.size + 2 ≤ w2.heap.size := by obtain ⟨x, y, z, hz⟩ := hZ2; have := lt_of_heap hz; omega
  obtain ⟨a0, a1, a2, -⟩ := hA2.facts w2 (Fr.refl _ _)
  have HA2 := hide hA2
  have HZ2 := hide hZ2
  have HF2 := hide F2
  have HNEW := hide (rnew_any w2 n cols h3.2 h2.2)
  rw [← unhide HNN] at HNEW
  clear T f2 F2 hA2 hZ2
  go_wp2_with fail
  refine (unhide HNEW).mono ?_
  rintro e w3 ⟨rfl, hB3, f3⟩
  have HA3 := hide ((unhide HA2).kept f3 id)
  have HZ3 := hide ((unhide HZ2).kept f3 id)
  have HF3 := hide ((unhide HF2).trans f3 (fun _ _ h => h))
  have hle3 := f3.size
  obtain ⟨q, hq⟩ : ∃ q, q = w2.heap.size + 1 := ⟨_, rfl⟩
  rw [← hq] at hB3 ⊢
  have hltq : q < w3.heap.size := lt_of_heap hB3
  have HB3 := hide hB3
  clear HNEW HA2 HZ2 HF2 f3 hB3 a0 a1 a2 hg1 hg2
  go_wp2_with fail
  refine wp_nameW' ?_
  intro w4 hw4
  obtain ⟨M, hM⟩ : ∃ M, M = w3.heap.size := ⟨_, rfl⟩
  have hX4 : XAt w4 M q n cols N (fun _ _ => 0) := XAt.of_new (unhide HNN) (by omega) (by rw [hw4, hM, hq]; exact heap_alloc_new w3 _) (by rw [hw4]; exact (((Fr.refl (fun _ => False) w3).alloc _).block q hltq id).trans (unhide HB3))
  have f4 : Fr (fun _ => False) w3 w4 := by rw [hw4]; exact (Fr.refl _ _).alloc _
  rw [← hM] at hltq ⊢
  have HX4 := hide hX4
  have HA4 := hide ((unhide HA3).kept f4 id)
  have HZ4 := hide ((unhide HZ3).kept f4 id)
  have HF4 := hide ((unhide HF3).trans f4 (fun _ _ h => h))
  have hqw : w.heap.size + 2 < q := by omega
  clear hX4 f4 hw4 HA3 HZ3 HF3 HB3 hM hq hle3 hsz2
  obtain ⟨f, hf⟩ : ∃ f : Nat → Nat → UInt8, f = fun i j => mc l cols ((xs.map Int.toNat)[i]?.getD 0) j := ⟨_, rfl⟩
  have HFF0 := hide hf
  clear hf
  go_loopw [5, 8, 9] (fun _ x _ w' => ∃ r : Nat, r ≤ n ∧ x = .int .i64 (r : Int) ∧ (∀ j (h : j < xs.length), j < r → offB rows xs[j] = false) ∧ XAt w' M q n cols N (wK f r 0) ∧ Hd w' w.heap.size rows cols v ∧ Z3 w' (w.heap.size + 1) ∧ Fr (fun _ => False) w w') (fun _ x _ _ => n - (intOf x).toNat)
  case atStart => exact ⟨0, Nat.zero_le _, rfl, fun j _ h => absurd h (by omega), (unhide HX4).congr (by omega) (fun i j _ _ => (wK_zero f i j).symm), unhide HA4, unhide HZ4, unhide HF4⟩
  case round =>
    clear HX4 HA4 HZ4 HF4
    obtain ⟨r, hr, rfl, hok, hX, hA, hZ, hF⟩ := hrel
    have HX := hide hX
    have HA := hide hA
    have HZ := hide hZ
    have HF := hide hF
    have HOK := hide hok
    obtain ⟨a0, a1, a2, -⟩ := hA.facts wr (Fr.refl _ _)
    clear hA hZ hok
    by_cases hrn : r < n
    · have hri : (r : Int) < (n : Int) := by omega
      have hrx : r < xs.length := by have := unhide HLEN; omega
      have hcw := unhide HCS r hrx
      have hbw := World.block_lt_of_cell? w _ hcw
      simp only at hbw
      have hcr := (hF.cell (a := ⟨bw, ow + r, none⟩) hbw id).trans hcw
      have HCW := hide hcw
      clear hX hF hcw
      obtain ⟨y, hy⟩ : ∃ y, y = xs[r] := ⟨_, rfl⟩
      have HY := hide hy
      rw [← hy] at hcr HCW
      by_cases hoff : offB rows y = true
      · have HNO2 := hide (unhide HNO (List.any_eq_true.2 ⟨y, by rw [hy]; exact List.getElem_mem _, hoff⟩))
        have hoff2 : y < 0 ∨ (rows : Int) ≤ y := by simpa [offB] using hoff
        clear hy hoff
        obtain ⟨z0, z1, z2, hz⟩ := unhide HZ
        have hlt := lt_of_heap hz
        have k0 := cell_of_heap hz 0
        have k1 := cell_of_heap hz 1
        have k2 := cell_of_heap hz 2
        have zf := frozen_of_heap hz
        simp at k0 k1 k2
        clear hz
        have hdo : ∀ (P : Prop), (y < 0 → P) → (¬ y < 0 → (rows : Int) ≤ y → P) → P := by
          intro P p1 p2
          by_cases h : y < 0
          · exact p1 h
          · exact p2 h (by omega)
        clear hoff2
        refine hdo _ (fun hn0 => ?_) (fun hn0 hn1 => ?_)
        all_goals
          clear hdo
          go_wp2_with fail
          go_quiet (fail)
          go_wp2_with fail
          obtain ⟨e1, e2, e3, e4⟩ := unhide HNO2
          refine bodyPost_ret (v := .tuple #[.agg #[.int .i64 0, .int .i64 0, .slice none 0 0], .int .i64 2]) (by simp [results, Try.results26, go_sem, k0, k1, k2]) rfl ?_
          rw [e1, e2, e3, e4]
          exact ⟨⟨_, rfl, Rd.nil _⟩, ((unhide HF).trans (Fr.ofDrewN _ _) (fun _ _ h => h)).trans (fr_three _ _ _ _ _) (fun i hi h => by omega)⟩
      · have hyr : 0 ≤ y ∧ y < (rows : Int) := by
          have h9 : ¬ (y < 0 ∨ (rows : Int) ≤ y) := by simpa [offB] using hoff
          omega
        have HOFF : Hid (offB rows y = false) := hide (by simpa using hoff)
        obtain ⟨xr, hxr⟩ : ∃ xr : Nat, y = (xr : Int) := ⟨y.toNat, by omega⟩
        clear hoff
        subst hxr
        have hxlt : xr < rows := by omega
        have hn0 : ¬ ((xr : Nat) : Int) < 0 := by omega
        have hn1 : ¬ (rows : Int) ≤ ((xr : Nat) : Int) := by omega
        have hd0 : decide (((xr : Nat) : Int) < 0) = false := by simp
        have hd1 : decide (rows ≤ xr) = false := by simp; omega
        have HFR : Hid (∀ c, f r c = mc l cols xr c) := hide (fun c => by
          rw [unhide HFF0]
          simp only [List.getElem?_map, List.getElem?_eq_getElem hrx, Option.map_some, Option.getD_some]
          rw [← hy, Int.toNat_natCast])
        clear hy hyr
        go_wp2_with fail
        go_quiet (fail)
        go_wp2_with fail
        clear hn0 hn1 hcr hd0 hd1
        go_loopw [9] (fun y' w' => ∃ c : Nat, c ≤ cols ∧ y' = .int .i64 (c : Int) ∧ XAt w' M q n cols N (wK f r c) ∧ Hd w' w.heap.size rows cols v ∧ Z3 w' (w.heap.size + 1) ∧ Fr (fun _ => False) w w') (fun y' _ => cols - (intOf y').toNat)
        case atStart => exact ⟨0, Nat.zero_le _, rfl, (unhide HX).keptF (Fr.ofDrewN _ _), (unhide HA).kept (show Fr (fun _ => False) _ _ from Fr.ofDrewN _ _) id, (unhide HZ).kept (show Fr (fun _ => False) _ _ from Fr.ofDrewN _ _) id, (unhide HF).trans (Fr.ofDrewN _ _) (fun _ _ h => h)⟩
        case round =>
          clear HX HA HZ HF a0 a1 a2
          obtain ⟨c, hc, rfl, hX, hA, hZ, hF⟩ := hrel
          have HX := hide hX
          have HA := hide hA
          have HZ := hide hZ
          have HF := hide hF
          obtain ⟨a0, a1, a2, -⟩ := hA.facts wr (Fr.refl _ _)
          clear hZ
          by_cases hcn : c < cols
          · have hci : (c : Int) < (cols : Int) := by omega
            have b1 : r * cols + c < N := by rw [unhide HNN]; exact flat_lt hrn hcn
            have b3 : r * cols ≤ 1000000 := by omega
            have hcx := hX.cell r c hrn hcn
            obtain ⟨x, hx⟩ : ∃ x, x = f r c := ⟨_, rfl⟩
            obtain ⟨old, hold⟩ : ∃ old, old = wK f r c r c := ⟨_, rfl⟩
            rw [← hold] at hcx
            have HSTEP := hide (wK_step f r c)
            rw [← hx] at HSTEP
            have hxx : x = mc l cols xr c := by rw [hx, unhide HFR]
            have HAT := hide (fun W (g : Fr (fun _ => False) wr W) => ratR_any W rows xr c cols v l ((unhide HV).kept (hF.trans g (fun _ _ h => h)) (fun _ _ h => h)) (by omega) (by omega) h2.2 (by rw [unhide HL]; exact flat_lt hxlt hcn))
            rw [← hxx] at HAT
            have HXR := hide (fun W (g : Fr (fun _ => False) wr W) => ((hF.trans g (fun _ _ h => h)).cell (a := ⟨bw, ow + r, none⟩) hbw id).trans (unhide HCW))
            have HM2 := hide (fun W (g : Fr (fun _ => False) wr W) => ((unhide HX).factsN (unhide HNN) W g).2.2.1)
            have HB1 := hide (fun W (g : Fr (fun _ => False) wr W) => ((unhide HA).facts W g).2.1)
            have HBR := hide (fun W (g : Fr (fun _ => False) wr W) => ((unhide HA).facts W g).2.2.2)
            have HQC := hide (fun W (g : Fr (fun _ => False) wr W) => (g.cell (a := ⟨q, r * cols + c, none⟩) hcx.2.2 id).trans hcx.1)
            have HQZ := hide (fun W (g : Fr (fun _ => False) wr W) => (g.frozen (a := ⟨q, r * cols + c, none⟩) hcx.2.2 id).trans hcx.2.1)
            clear hX hA hx hold hcx hF hxx
            go_wp2_with fail
            refine wp_name' ?_
            intro a0 hA
            have h1 : a0.tmps.getD 1 undef = .slice (some ⟨bw, ow, none⟩) n wc := by rw [hA]; rfl
            have h2 : a0.tmps.getD 2 undef = .pointer (some ⟨w.heap.size, 0, none⟩) := by rw [hA]; rfl
            have h7 : a0.tmps.getD 7 undef = .pointer (some ⟨M, 0, none⟩) := by rw [hA]; rfl
            have h8 : a0.tmps.getD 8 undef = .int .i64 ((r : Nat) : Int) := by rw [hA]; rfl
            have h9 : a0.tmps.getD 9 undef = .int .i64 ((c : Nat) : Int) := by rw [hA]; rfl
            have hsz : a0.tmps.size = 74 := by rw [hA]; rfl
            have hdf : a0.defers = [] := by rw [hA]
            have HA0 := hide hA
            clear hA
            refine wp_region_last (by kernel_rfl) (by kernel_rfl) (by kernel_rfl) (by decide +kernel) (by rw [hsz]; decide +kernel) _ rfl (Tk [.eq (.pointer (some ⟨M, 2, none⟩)), .eq (.slice (some ⟨q, 0, none⟩) N N), .eq (.int .i64 ((r : Nat) : Int)), .eq (.pointer (some ⟨w.heap.size, 1, none⟩)), .eq (.int .i64 ((cols : Nat) : Int)), .eq (.int .i64 ((r * cols : Nat) : Int)), .eq (.int .i64 ((c : Nat) : Int)), .eq (.int .i64 ((r * cols + c : Nat) : Int)), .eq (.agg #[.int .i64 ((rows : Nat) : Int), .int .i64 ((cols : Nat) : Int), v]), .eq (.slice (some ⟨bw, ow, none⟩) n wc), .eq (.int .i64 ((r : Nat) : Int)), .eq (.pointer (some ⟨bw, ow + r, none⟩)), .eq (.int .i64 ((xr : Nat) : Int)), .eq (.int .i64 ((c : Nat) : Int)), .eq (.int .u8 (((x).toNat : Nat) : Int)), .eq (.pointer (some ⟨q, r * cols + c, none⟩))]) (Tk.mono _) ?steps ?last
            case steps =>
              refine ⟨?_, ?_⟩
              · intro a' w' hb hf hd
                exact ⟨wanted_none rfl, ex_val (.pointer (some ⟨M, 2, none⟩)) (ex_f24_2 rfl ((hb.old 7 (by decide +kernel)).trans h7)) rfl⟩
              refine ⟨?_, ?_⟩
              · intro a' w' hb hf hd
                exact ⟨wanted_none rfl, ex_val (.slice (some ⟨q, 0, none⟩) N N) (ex_load22 rfl (hd 0 (by kernel_rfl) 57 rfl) (unhide HM2 w' hf)) rfl⟩
              refine ⟨?_, ?_⟩
              · intro a' w' hb hf hd
                exact ⟨wanted_none rfl, ex_val (.int .i64 ((r : Nat) : Int)) (ex_move rfl ((hb.old 8 (by decide +kernel)).trans h8)) rfl⟩
              refine ⟨?_, ?_⟩
              · intro a' w' hb hf hd
                exact ⟨wanted_none rfl, ex_val (.pointer (some ⟨w.heap.size, 1, none⟩)) (ex_f24_1 rfl ((hb.old 2 (by decide +kernel)).trans h2)) rfl⟩
              refine ⟨?_, ?_⟩
              · intro a' w' hb hf hd
                exact ⟨wanted_none rfl, ex_val (.int .i64 ((cols : Nat) : Int)) (ex_load3 rfl (hd 3 (by kernel_rfl) 60 rfl) (unhide HB1 w' hf)) rfl⟩
              refine ⟨?_, ?_⟩
              · intro a' w' hb hf hd
                exact ⟨wanted_none rfl, ex_val (.int .i64 ((r * cols : Nat) : Int)) (ex_mulN rfl (hd 2 (by kernel_rfl) 59 rfl) (hd 4 (by kernel_rfl) 61 rfl) (b3)) rfl⟩
              refine ⟨?_, ?_⟩
              · intro a' w' hb hf hd
                exact ⟨wanted_none rfl, ex_val (.int .i64 ((c : Nat) : Int)) (ex_move rfl ((hb.old 9 (by decide +kernel)).trans h9)) rfl⟩
              refine ⟨?_, ?_⟩
              · intro a' w' hb hf hd
                exact ⟨wanted_none rfl, ex_val (.int .i64 ((r * cols + c : Nat) : Int)) (ex_addN rfl (hd 5 (by kernel_rfl) 62 rfl) (hd 6 (by kernel_rfl) 63 rfl) (by omega)) rfl⟩
              refine ⟨?_, ?_⟩
              · intro a' w' hb hf hd
                exact ⟨wanted_none rfl, ex_val (.agg #[.int .i64 ((rows : Nat) : Int), .int .i64 ((cols : Nat) : Int), v]) (ex_load24 rfl ((hb.old 2 (by decide +kernel)).trans h2) (unhide HBR w' hf)) rfl⟩
              refine ⟨?_, ?_⟩
              · intro a' w' hb hf hd
                exact ⟨wanted_none rfl, ex_val (.slice (some ⟨bw, ow, none⟩) n wc) (ex_move rfl ((hb.old 1 (by decide +kernel)).trans h1)) rfl⟩
              refine ⟨?_, ?_⟩
              · intro a' w' hb hf hd
                exact ⟨wanted_none rfl, ex_val (.int .i64 ((r : Nat) : Int)) (ex_move rfl ((hb.old 8 (by decide +kernel)).trans h8)) rfl⟩
              refine ⟨?_, ?_⟩
              · intro a' w' hb hf hd
                exact ⟨wanted_none rfl, ex_val (.pointer (some ⟨bw, ow + r, none⟩)) (ex_index25 rfl (hd 9 (by kernel_rfl) 66 rfl) (hd 10 (by kernel_rfl) 67 rfl) hrn) rfl⟩
              refine ⟨?_, ?_⟩
              · intro a' w' hb hf hd
                exact ⟨wanted_none rfl, ex_val (.int .i64 ((xr : Nat) : Int)) (ex_load3 rfl (hd 11 (by kernel_rfl) 68 rfl) (unhide HXR w' hf)) rfl⟩
              refine ⟨?_, ?_⟩
              · intro a' w' hb hf hd
                exact ⟨wanted_none rfl, ex_val (.int .i64 ((c : Nat) : Int)) (ex_move rfl ((hb.old 9 (by decide +kernel)).trans h9)) rfl⟩
              refine ⟨?_, ?_⟩
              · intro a' w' hb hf hd
                exact ⟨wanted_none rfl, ex_call 73 _ (en_call3 rfl rfl (hd 8 (by kernel_rfl) 65 rfl) (hd 12 (by kernel_rfl) 69 rfl) (hd 13 (by kernel_rfl) 70 rfl) cfv73) ((unhide HAT w' hf).mono (by rintro e w7 ⟨rfl, f7⟩; exact ⟨⟨_, rfl, rfl⟩, f7⟩))⟩
              refine ⟨?_, ?_⟩
              · intro a' w' hb hf hd
                exact ⟨wanted_none rfl, ex_val (.pointer (some ⟨q, r * cols + c, none⟩)) (ex_idx0 rfl (hd 1 (by kernel_rfl) 58 rfl) (hd 7 (by kernel_rfl) 64 rfl) (b1)) rfl⟩
              exact trivial
            case last =>
              intro a' w' hb hf hall
              refine ⟨wanted_none rfl, wp_store5 rfl (hall 15 (by decide) 72 rfl) (hall 14 (by decide) 71 rfl) (unhide HQC w' hf) (unhide HQZ w' hf) ?_⟩
              have e0_ : a'.tmps.getD 0 undef = a0.tmps.getD 0 undef := hb.old 0 (by decide +kernel)
              have e1_ : a'.tmps.getD 1 undef = .slice (some ⟨bw, ow, none⟩) n wc := (hb.old 1 (by decide +kernel)).trans h1
              have e2_ : a'.tmps.getD 2 undef = .pointer (some ⟨w.heap.size, 0, none⟩) := (hb.old 2 (by decide +kernel)).trans h2
              have e3_ : a'.tmps.getD 3 undef = a0.tmps.getD 3 undef := hb.old 3 (by decide +kernel)
              have e4_ : a'.tmps.getD 4 undef = a0.tmps.getD 4 undef := hb.old 4 (by decide +kernel)
              have e5_ : a'.tmps.getD 5 undef = a0.tmps.getD 5 undef := hb.old 5 (by decide +kernel)
              have e6_ : a'.tmps.getD 6 undef = a0.tmps.getD 6 undef := hb.old 6 (by decide +kernel)
              have e7_ : a'.tmps.getD 7 undef = .pointer (some ⟨M, 0, none⟩) := (hb.old 7 (by decide +kernel)).trans h7
              have e8_ : a'.tmps.getD 8 undef = .int .i64 ((r : Nat) : Int) := (hb.old 8 (by decide +kernel)).trans h8
              have e9_ : a'.tmps.getD 9 undef = .int .i64 ((c : Nat) : Int) := (hb.old 9 (by decide +kernel)).trans h9
              have e10_ : a'.tmps.getD 10 undef = a0.tmps.getD 10 undef := hb.old 10 (by decide +kernel)
              have e11_ : a'.tmps.getD 11 undef = a0.tmps.getD 11 undef := hb.old 11 (by decide +kernel)
              have e12_ : a'.tmps.getD 12 undef = a0.tmps.getD 12 undef := hb.old 12 (by decide +kernel)
              have e13_ : a'.tmps.getD 13 undef = a0.tmps.getD 13 undef := hb.old 13 (by decide +kernel)
              have e14_ : a'.tmps.getD 14 undef = a0.tmps.getD 14 undef := hb.old 14 (by decide +kernel)
              have e15_ : a'.tmps.getD 15 undef = a0.tmps.getD 15 undef := hb.old 15 (by decide +kernel)
              have e16_ : a'.tmps.getD 16 undef = a0.tmps.getD 16 undef := hb.old 16 (by decide +kernel)
              have e17_ : a'.tmps.getD 17 undef = a0.tmps.getD 17 undef := hb.old 17 (by decide +kernel)
              have e18_ : a'.tmps.getD 18 undef = a0.tmps.getD 18 undef := hb.old 18 (by decide +kernel)
              have e19_ : a'.tmps.getD 19 undef = a0.tmps.getD 19 undef := hb.old 19 (by decide +kernel)
              have e20_ : a'.tmps.getD 20 undef = a0.tmps.getD 20 undef := hb.old 20 (by decide +kernel)
              have e21_ : a'.tmps.getD 21 undef = a0.tmps.getD 21 undef := hb.old 21 (by decide +kernel)
              have e22_ : a'.tmps.getD 22 undef = a0.tmps.getD 22 undef := hb.old 22 (by decide +kernel)
              have e23_ : a'.tmps.getD 23 undef = a0.tmps.getD 23 undef := hb.old 23 (by decide +kernel)
              have e24_ : a'.tmps.getD 24 undef = a0.tmps.getD 24 undef := hb.old 24 (by decide +kernel)
              have e25_ : a'.tmps.getD 25 undef = a0.tmps.getD 25 undef := hb.old 25 (by decide +kernel)
              have e26_ : a'.tmps.getD 26 undef = a0.tmps.getD 26 undef := hb.old 26 (by decide +kernel)
              have e27_ : a'.tmps.getD 27 undef = a0.tmps.getD 27 undef := hb.old 27 (by decide +kernel)
              have e28_ : a'.tmps.getD 28 undef = a0.tmps.getD 28 undef := hb.old 28 (by decide +kernel)
              have e29_ : a'.tmps.getD 29 undef = a0.tmps.getD 29 undef := hb.old 29 (by decide +kernel)
              have e30_ : a'.tmps.getD 30 undef = a0.tmps.getD 30 undef := hb.old 30 (by decide +kernel)
              have e31_ : a'.tmps.getD 31 undef = a0.tmps.getD 31 undef := hb.old 31 (by decide +kernel)
              have e32_ : a'.tmps.getD 32 undef = a0.tmps.getD 32 undef := hb.old 32 (by decide +kernel)
              have e33_ : a'.tmps.getD 33 undef = a0.tmps.getD 33 undef := hb.old 33 (by decide +kernel)
              have e34_ : a'.tmps.getD 34 undef = a0.tmps.getD 34 undef := hb.old 34 (by decide +kernel)
              have e35_ : a'.tmps.getD 35 undef = a0.tmps.getD 35 undef := hb.old 35 (by decide +kernel)
              have e36_ : a'.tmps.getD 36 undef = a0.tmps.getD 36 undef := hb.old 36 (by decide +kernel)
              have e37_ : a'.tmps.getD 37 undef = a0.tmps.getD 37 undef := hb.old 37 (by decide +kernel)
              have e38_ : a'.tmps.getD 38 undef = a0.tmps.getD 38 undef := hb.old 38 (by decide +kernel)
              have e39_ : a'.tmps.getD 39 undef = a0.tmps.getD 39 undef := hb.old 39 (by decide +kernel)
              have e40_ : a'.tmps.getD 40 undef = a0.tmps.getD 40 undef := hb.old 40 (by decide +kernel)
              have e41_ : a'.tmps.getD 41 undef = a0.tmps.getD 41 undef := hb.old 41 (by decide +kernel)
              have e42_ : a'.tmps.getD 42 undef = a0.tmps.getD 42 undef := hb.old 42 (by decide +kernel)
              have e43_ : a'.tmps.getD 43 undef = a0.tmps.getD 43 undef := hb.old 43 (by decide +kernel)
              have e44_ : a'.tmps.getD 44 undef = a0.tmps.getD 44 undef := hb.old 44 (by decide +kernel)
              have e45_ : a'.tmps.getD 45 undef = a0.tmps.getD 45 undef := hb.old 45 (by decide +kernel)
              have e46_ : a'.tmps.getD 46 undef = a0.tmps.getD 46 undef := hb.old 46 (by decide +kernel)
              have e47_ : a'.tmps.getD 47 undef = a0.tmps.getD 47 undef := hb.old 47 (by decide +kernel)
              have e48_ : a'.tmps.getD 48 undef = a0.tmps.getD 48 undef := hb.old 48 (by decide +kernel)
              have e49_ : a'.tmps.getD 49 undef = a0.tmps.getD 49 undef := hb.old 49 (by decide +kernel)
              have e50_ : a'.tmps.getD 50 undef = a0.tmps.getD 50 undef := hb.old 50 (by decide +kernel)
              have e51_ : a'.tmps.getD 51 undef = a0.tmps.getD 51 undef := hb.old 51 (by decide +kernel)
              have e52_ : a'.tmps.getD 52 undef = a0.tmps.getD 52 undef := hb.old 52 (by decide +kernel)
              have e53_ : a'.tmps.getD 53 undef = a0.tmps.getD 53 undef := hb.old 53 (by decide +kernel)
              have e54_ : a'.tmps.getD 54 undef = a0.tmps.getD 54 undef := hb.old 54 (by decide +kernel)
              have e55_ : a'.tmps.getD 55 undef = a0.tmps.getD 55 undef := hb.old 55 (by decide +kernel)
              have e56_ : a'.tmps.getD 56 undef = a0.tmps.getD 56 undef := hb.old 56 (by decide +kernel)
              have e57_ : a'.tmps.getD 57 undef = .pointer (some ⟨M, 2, none⟩) := hall 0 (by decide) 57 rfl
              have e58_ : a'.tmps.getD 58 undef = .slice (some ⟨q, 0, none⟩) N N := hall 1 (by decide) 58 rfl
              have e59_ : a'.tmps.getD 59 undef = .int .i64 ((r : Nat) : Int) := hall 2 (by decide) 59 rfl
              have e60_ : a'.tmps.getD 60 undef = .pointer (some ⟨w.heap.size, 1, none⟩) := hall 3 (by decide) 60 rfl
              have e61_ : a'.tmps.getD 61 undef = .int .i64 ((cols : Nat) : Int) := hall 4 (by decide) 61 rfl
              have e62_ : a'.tmps.getD 62 undef = .int .i64 ((r * cols : Nat) : Int) := hall 5 (by decide) 62 rfl
              have e63_ : a'.tmps.getD 63 undef = .int .i64 ((c : Nat) : Int) := hall 6 (by decide) 63 rfl
              have e64_ : a'.tmps.getD 64 undef = .int .i64 ((r * cols + c : Nat) : Int) := hall 7 (by decide) 64 rfl
              have e65_ : a'.tmps.getD 65 undef = .agg #[.int .i64 ((rows : Nat) : Int), .int .i64 ((cols : Nat) : Int), v] := hall 8 (by decide) 65 rfl
              have e66_ : a'.tmps.getD 66 undef = .slice (some ⟨bw, ow, none⟩) n wc := hall 9 (by decide) 66 rfl
              have e67_ : a'.tmps.getD 67 undef = .int .i64 ((r : Nat) : Int) := hall 10 (by decide) 67 rfl
              have e68_ : a'.tmps.getD 68 undef = .pointer (some ⟨bw, ow + r, none⟩) := hall 11 (by decide) 68 rfl
              have e69_ : a'.tmps.getD 69 undef = .int .i64 ((xr : Nat) : Int) := hall 12 (by decide) 69 rfl
              have e70_ : a'.tmps.getD 70 undef = .int .i64 ((c : Nat) : Int) := hall 13 (by decide) 70 rfl
              have e71_ : a'.tmps.getD 71 undef = .int .u8 (((x).toNat : Nat) : Int) := hall 14 (by decide) 71 rfl
              have e72_ : a'.tmps.getD 72 undef = .pointer (some ⟨q, r * cols + c, none⟩) := hall 15 (by decide) 72 rfl
              have e73_ : a'.tmps.getD 73 undef = a0.tmps.getD 73 undef := hb.old 73 (by decide +kernel)
              have hfr := frame_eq (a := a') (vs := [a0.tmps.getD 0 undef, .slice (some ⟨bw, ow, none⟩) n wc, .pointer (some ⟨w.heap.size, 0, none⟩), a0.tmps.getD 3 undef, a0.tmps.getD 4 undef, a0.tmps.getD 5 undef, a0.tmps.getD 6 undef, .pointer (some ⟨M, 0, none⟩), .int .i64 ((r : Nat) : Int), .int .i64 ((c : Nat) : Int), a0.tmps.getD 10 undef, a0.tmps.getD 11 undef, a0.tmps.getD 12 undef, a0.tmps.getD 13 undef, a0.tmps.getD 14 undef, a0.tmps.getD 15 undef, a0.tmps.getD 16 undef, a0.tmps.getD 17 undef, a0.tmps.getD 18 undef, a0.tmps.getD 19 undef, a0.tmps.getD 20 undef, a0.tmps.getD 21 undef, a0.tmps.getD 22 undef, a0.tmps.getD 23 undef, a0.tmps.getD 24 undef, a0.tmps.getD 25 undef, a0.tmps.getD 26 undef, a0.tmps.getD 27 undef, a0.tmps.getD 28 undef, a0.tmps.getD 29 undef, a0.tmps.getD 30 undef, a0.tmps.getD 31 undef, a0.tmps.getD 32 undef, a0.tmps.getD 33 undef, a0.tmps.getD 34 undef, a0.tmps.getD 35 undef, a0.tmps.getD 36 undef, a0.tmps.getD 37 undef, a0.tmps.getD 38 undef, a0.tmps.getD 39 undef, a0.tmps.getD 40 undef, a0.tmps.getD 41 undef, a0.tmps.getD 42 undef, a0.tmps.getD 43 undef, a0.tmps.getD 44 undef, a0.tmps.getD 45 undef, a0.tmps.getD 46 undef, a0.tmps.getD 47 undef, a0.tmps.getD 48 undef, a0.tmps.getD 49 undef, a0.tmps.getD 50 undef, a0.tmps.getD 51 undef, a0.tmps.getD 52 undef, a0.tmps.getD 53 undef, a0.tmps.getD 54 undef, a0.tmps.getD 55 undef, a0.tmps.getD 56 undef, .pointer (some ⟨M, 2, none⟩), .slice (some ⟨q, 0, none⟩) N N, .int .i64 ((r : Nat) : Int), .pointer (some ⟨w.heap.size, 1, none⟩), .int .i64 ((cols : Nat) : Int), .int .i64 ((r * cols : Nat) : Int), .int .i64 ((c : Nat) : Int), .int .i64 ((r * cols + c : Nat) : Int), .agg #[.int .i64 ((rows : Nat) : Int), .int .i64 ((cols : Nat) : Int), v], .slice (some ⟨bw, ow, none⟩) n wc, .int .i64 ((r : Nat) : Int), .pointer (some ⟨bw, ow + r, none⟩), .int .i64 ((xr : Nat) : Int), .int .i64 ((c : Nat) : Int), .int .u8 (((x).toNat : Nat) : Int), .pointer (some ⟨q, r * cols + c, none⟩), a0.tmps.getD 73 undef]) (by rw [hb.size, hsz]; rfl) (by rw [hb.defers]; exact hdf) ⟨e0_, e1_, e2_, e3_, e4_, e5_, e6_, e7_, e8_, e9_, e10_, e11_, e12_, e13_, e14_, e15_, e16_, e17_, e18_, e19_, e20_, e21_, e22_, e23_, e24_, e25_, e26_, e27_, e28_, e29_, e30_, e31_, e32_, e33_, e34_, e35_, e36_, e37_, e38_, e39_, e40_, e41_, e42_, e43_, e44_, e45_, e46_, e47_, e48_, e49_, e50_, e51_, e52_, e53_, e54_, e55_, e56_, e57_, e58_, e59_, e60_, e61_, e62_, e63_, e64_, e65_, e66_, e67_, e68_, e69_, e70_, e71_, e72_, e73_, trivial⟩
              have HFF := hide hf
              clear hall hb hf e0_ e1_ e2_ e3_ e4_ e5_ e6_ e7_ e8_ e9_ e10_ e11_ e12_ e13_ e14_ e15_ e16_ e17_ e18_ e19_ e20_ e21_ e22_ e23_ e24_ e25_ e26_ e27_ e28_ e29_ e30_ e31_ e32_ e33_ e34_ e35_ e36_ e37_ e38_ e39_ e40_ e41_ e42_ e43_ e44_ e45_ e46_ e47_ e48_ e49_ e50_ e51_ e52_ e53_ e54_ e55_ e56_ e57_ e58_ e59_ e60_ e61_ e62_ e63_ e64_ e65_ e66_ e67_ e68_ e69_ e70_ e71_ e72_ e73_ h1 h2 h7 h8 h9
              subst hfr
              rw [unhide HA0]
              clear HA0 hsz hdf
              apply_assumption
              go_wp2_with fail
              go_roundw
              case rel =>
                have hX' := ((unhide HX).keptF (unhide HFF)).set r c x hrn hcn
                rw [unhide HSTEP] at hX'
                have fs : Fr (fun k => k = q) w' (w'.setCell ⟨q, r * cols + c, none⟩ (.int .u8 ((x.toNat : Nat) : Int))) := (Fr.refl (fun k => k = q) _).setCell (p := ⟨q, r * cols + c, none⟩) (fun _ => rfl) _
                exact ⟨c + 1, by omega, by go_num, hX', ((unhide HA).kept (unhide HFF) id).kept fs (by omega), ((unhide HZ).kept (unhide HFF) id).kept fs (by omega), ((unhide HF).trans (unhide HFF) (fun _ _ h => h)).setCell (p := ⟨q, r * cols + c, none⟩) (fun h' => by simp at h'; omega) _⟩
              case measure => simp [intOf]; omega
          · have hce : c = cols := by omega
            subst hce
            have hci : ¬ (c : Int) < (c : Int) := by omega
            clear hA hF
            go_wp2_with fail
            go_roundw
            case rel =>
              refine ⟨r + 1, by omega, by go_num, ?_, hX.congr (by omega) (fun a b _ hb => wK_row f r c a b hb), unhide HA, unhide HZ, unhide HF⟩
              intro j hj hjr
              by_cases e : j = r
              · subst e
                rw [← unhide HY]; exact unhide HOFF
              · exact unhide HOK j hj (by omega)
            case measure => simp [intOf]; omega
    · obtain rfl : r = n := by omega
      have hri : ¬ (r : Int) < (r : Int) := by omega
      have hall : xs.any (offB rows) = false := by
        rw [List.any_eq_false]
        intro x hx
        obtain ⟨j, hj, rfl⟩ := List.getElem_of_mem hx
        rw [unhide HOK j hj (by have := unhide HLEN; omega)]
        simp
      obtain ⟨e1, e2, e3, e4⟩ := unhide HYES hall
      obtain ⟨y0, y1, y2, -⟩ := hX.factsN (unhide HNN) wr (Fr.refl _ _)
      have hz3 := (unhide HZ).there
      have hput := (unhide HZ).put (.int .i64 ((r : Nat) : Int)) (.int .i64 ((cols : Nat) : Int)) (.slice (some ⟨q, 0, none⟩) N N)
      have hfs := setCells_frame (w.heap.size + 1) [.int .i64 ((r : Nat) : Int), .int .i64 ((cols : Nat) : Int), .slice (some ⟨q, 0, none⟩) N N] 0 wr
      have hown := owns_kept (hX.congr (g := f) (by omega) (fun a b ha hb => by unfold wK; rw [if_pos (.inl ha)])).own hfs (fun b hb => by simp [Value.ownBlock] at hb; omega)
      have hRd : Rd (wr.setCells (w.heap.size + 1) 0 [.int .i64 ((r : Nat) : Int), .int .i64 ((cols : Nat) : Int), .slice (some ⟨q, 0, none⟩) N N]) (.slice (some ⟨q, 0, none⟩) N N) (rwsL cols l (xs.map Int.toNat)) := by
        have e9 : fl cols f (r * cols) = rwsL cols l (xs.map Int.toNat) := by rw [unhide HFF0]; unfold rwsL; rw [List.length_map, ← unhide HLEN]
        rw [e9, ← unhide HNN] at hown
        exact Rd.of_owns (base := 0) (by rw [rwsL_length, List.length_map, ← unhide HLEN, ← unhide HNN]; exact hown)
      have hFF : Fr (fun _ => False) w (wr.setCells (w.heap.size + 1) 0 [.int .i64 ((r : Nat) : Int), .int .i64 ((cols : Nat) : Int), .slice (some ⟨q, 0, none⟩) N N]) := (unhide HF).trans hfs (fun i hi e => by omega)
      have HPUT := hide hput
      have HOWN := hide hRd
      have HFIN := hide hFF
      have HE := hide (And.intro e1 (And.intro e2 (And.intro e3 e4)))
      clear hput hfs hown hRd hFF hX hF e1 e2 e3 e4 hall
      go_wp2_with (refine wpList_store_mid rfl 24 _ _ rfl (w.heap.size + 1) 0 #[.int .i64 ((r : Nat) : Int), .int .i64 ((cols : Nat) : Int), .slice (some ⟨q, 0, none⟩) N N] rfl rfl hz3 info24_size (by simp [Value.oneCell']) ?_)
      generalize wr.setCells (w.heap.size + 1) 0 _ = W at *
      have c0 := cell_of_heap (unhide HPUT) 0
      have c1 := cell_of_heap (unhide HPUT) 1
      have c2 := cell_of_heap (unhide HPUT) 2
      simp at c0 c1 c2
      obtain ⟨e1, e2, e3, e4⟩ := unhide HE
      refine bodyPost_ret (v := .tuple #[.agg #[.int .i64 ((r : Nat) : Int), .int .i64 ((cols : Nat) : Int), .slice (some ⟨q, 0, none⟩) N N], .int .i64 0]) (by simp [results, Try.results26, go_sem, c0, c1, c2]) rfl ?_
      rw [e1, e2, e3, e4, ← unhide HLEN]
      exact ⟨⟨_, rfl, unhide HOWN⟩, unhide HFIN⟩
end Go.Proofs.Ytckmddkhkdcmmaa
