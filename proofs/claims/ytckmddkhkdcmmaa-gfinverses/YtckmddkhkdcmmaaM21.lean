/-
  The document's Rank and Inverse.
-/
import Derived.Test.YtckmddkhkdcmmaaM20
namespace Go.Proofs.Ytckmddkhkdcmmaa
set_option linter.unusedVariables false
set_option linter.unusedSimpArgs false
open Go.RowKit Go.Lib
set_option linter.unusedVariables false
set_option linter.unusedSimpArgs false

attribute [local go_sem ↓] Go.wp_at_zero Go.wp_at_succ

set_option maxHeartbeats 2000000 in
set_option maxRecDepth 100000 in
theorem rrank_no (w : World) (r c : Int) (v : Value) (l : List UInt8) (hv : Rd w v l) (h1 : chk r c l.length ≠ 0) :
    Calls Try.prog 30 #[.agg #[.int .i64 r, .int .i64 c, v]] w fun e w' => e = .returned (.tuple #[.int .i64 0, .int .i64 (chk r c l.length)]) ∧ Fr (fun _ => False) w w' := by
  obtain ⟨ao, cap, rfl⟩ := hv.shape
  clear hv
  have H1 : Hid ((chk r c l.length != 0) = true) := hide (by simpa using h1)
  clear h1
  go_enter Try.func30, Try.ntmps30
  go_wp2_with fail
  refine (rchk_any _ _ _ _ _ _).mono ?_
  rintro e w1 ⟨rfl, f1⟩
  have F1 := hide (((Fr.refl (fun _ => False) w).alloc _).trans f1 (fun _ _ h => h))
  clear f1
  have hne := unhide H1
  go_wp2_with fail
  refine bodyPost_ret (v := .tuple #[.int .i64 0, .int .i64 (chk r c l.length)]) (by simp [results, Try.results30, go_sem]) rfl ⟨rfl, unhide F1⟩
set_option maxHeartbeats 2000000 in
set_option maxRecDepth 100000 in
theorem rinv_no (w : World) (r c : Int) (v : Value) (l : List UInt8) (hv : Rd w v l) (h1 : chk r c l.length ≠ 0) :
    Calls Try.prog 20 #[.agg #[.int .i64 r, .int .i64 c, v]] w fun e w' => MR w w' e 0 0 [] (chk r c l.length) := by
  obtain ⟨ao, cap, rfl⟩ := hv.shape
  clear hv
  have H1 := hide h1
  clear h1
  go_enter Try.func20, Try.ntmps20
  go_wp2_with fail
  refine (rchk_any _ _ _ _ _ _).mono ?_
  rintro e w1 ⟨rfl, f1⟩
  have T := two_allocs w #[.int .i64 r, .int .i64 c, .slice ao l.length cap] #[.int .i64 0, .int .i64 0, .slice none 0 0]
  have HA := hide ((f1.block _ (lt_of_heap T.1) id).trans T.1)
  have HR := hide ((f1.block _ (lt_of_heap T.2) id).trans T.2)
  have F1 := hide ((((Fr.refl (fun _ => False) w).alloc _).alloc _).trans f1 (fun _ _ h => h))
  clear T f1
  have hne : (chk r c l.length != 0) = true := by simpa using unhide H1
  have hlt := lt_of_heap (unhide HR)
  have k0 := cell_of_heap (unhide HR) 0
  have k1 := cell_of_heap (unhide HR) 1
  have k2 := cell_of_heap (unhide HR) 2
  have z0 := frozen_of_heap (unhide HR)
  simp at k0 k1 k2
  go_wp2_with fail
  have f3 := fr_three w1 (w.heap.size + 1) (.int .i64 0) (.int .i64 0) (.slice none 0 0)
  refine bodyPost_ret (v := .tuple #[.agg #[.int .i64 0, .int .i64 0, .slice none 0 0], .int .i64 (chk r c l.length)]) (by simp [results, Try.results20, go_sem, k0, k1, k2]) rfl ⟨⟨_, rfl, Rd.nil _⟩, (unhide F1).trans f3 (fun i hi h => by omega)⟩
set_option maxHeartbeats 2000000 in
set_option maxRecDepth 100000 in
theorem rinv_side (w : World) (r c : Int) (v : Value) (l : List UInt8) (hv : Rd w v l) (h1 : chk r c l.length = 0) (h2 : r ≠ c) :
    Calls Try.prog 20 #[.agg #[.int .i64 r, .int .i64 c, v]] w fun e w' => MR w w' e 0 0 [] (23) := by
  obtain ⟨ao, cap, rfl⟩ := hv.shape
  clear hv
  have H1 := hide h1
  clear h1
  have H2 : Hid ((r != c) = true) := hide (by simpa using h2)
  clear h2
  go_enter Try.func20, Try.ntmps20
  go_wp2_with fail
  refine (rchk_any _ _ _ _ _ _).mono ?_
  rintro e w1 ⟨rfl, f1⟩
  have T := two_allocs w #[.int .i64 r, .int .i64 c, .slice ao l.length cap] #[.int .i64 0, .int .i64 0, .slice none 0 0]
  have HA := hide ((f1.block _ (lt_of_heap T.1) id).trans T.1)
  have HR := hide ((f1.block _ (lt_of_heap T.2) id).trans T.2)
  have F1 := hide ((((Fr.refl (fun _ => False) w).alloc _).alloc _).trans f1 (fun _ _ h => h))
  clear T f1
  rw [unhide H1]
  have a0 := cell_of_heap (unhide HA) 0
  have a1 := cell_of_heap (unhide HA) 1
  simp at a0 a1
  have hne := unhide H2
  have hlt := lt_of_heap (unhide HR)
  have k0 := cell_of_heap (unhide HR) 0
  have k1 := cell_of_heap (unhide HR) 1
  have k2 := cell_of_heap (unhide HR) 2
  have z0 := frozen_of_heap (unhide HR)
  simp at k0 k1 k2
  go_wp2_with fail
  have f3 := fr_three w1 (w.heap.size + 1) (.int .i64 0) (.int .i64 0) (.slice none 0 0)
  refine bodyPost_ret (v := .tuple #[.agg #[.int .i64 0, .int .i64 0, .slice none 0 0], .int .i64 (23)]) (by simp [results, Try.results20, go_sem, k0, k1, k2]) rfl ⟨⟨_, rfl, Rd.nil _⟩, (unhide F1).trans f3 (fun i hi h => by omega)⟩
set_option maxHeartbeats 2000000 in
set_option maxRecDepth 100000 in
theorem rinv_full (w : World) (n : Nat) (v : Value) (l : List UInt8) (h1 : 1 ≤ n ∧ n ≤ 64) (hl : l.length = n * n) (hv : Rd w v l) (hfull : (invR n l).2 = n) :
    Calls Try.prog 20 #[.agg #[.int .i64 ((n : Nat) : Int), .int .i64 ((n : Nat) : Int), v]] w fun e w' => (∃ q cap, e = .returned (.tuple #[.agg #[.int .i64 ((n : Nat) : Int), .int .i64 ((n : Nat) : Int), .slice (some ⟨q, 0, none⟩) (n * n) cap], .int .i64 0]) ∧ w.heap.size ≤ q ∧ w'.ownsRow 0 5 1 (.slice (some ⟨q, 0, none⟩) (n * n) cap) (n * n) (bvs (invL n l))) ∧ Fr (fun _ => False) w w' := by
  have hN : n * n ≤ 4096 := Nat.mul_le_mul h1.2 h1.2
  obtain ⟨m2, hm2⟩ : ∃ m2, m2 = 2 * n := ⟨_, rfl⟩
  have e1 : 2 * (n : Int) = ((m2 : Nat) : Int) := by rw [hm2]; simp
  have e2 : ((m2 : Nat) : Int) * (n : Int) = ((n * m2 : Nat) : Int) := by rw [Nat.mul_comm]; simp
  have hN2 : n * m2 ≤ 8192 := by rw [hm2]; exact Nat.mul_le_mul h1.2 (show 2 * n ≤ 128 by omega)
  obtain ⟨N2, hN2e⟩ : ∃ N2, N2 = n * m2 := ⟨_, rfl⟩
  rw [← hN2e] at e2 hN2
  have HN2 := hide hN2e
  have hmk := run_make5 N2 (by omega)
  clear hN2e
  have hfl : fl n (mc l n) (n * n) = l := by rw [← hl]; exact fl_self n l (by omega)
  obtain ⟨ao, capa, hvs⟩ := hv.shape
  rw [hl] at hvs
  have HVS := hide hvs
  clear hvs
  have HV := hide hv
  clear hfl
  have HFU := hide hfull
  have HL := hide hl
  clear hv hfull hl
  obtain ⟨N, hNN⟩ : ∃ N, N = n * n := ⟨_, rfl⟩
  rw [← hNN] at hN HVS ⊢
  have HNN := hide hNN
  have HM2 := hide hm2
  clear hNN hm2
  go_enter Try.func20, Try.ntmps20
  go_wp2_with fail
  refine wpC_world ?_
  intro w1 hw1
  have hA1 : Hd w1 w.heap.size n n v := by rw [hw1]; exact e_b w _ _
  have hz1 : Z3 w1 (w.heap.size + 1) := ⟨_, _, _, by rw [hw1]; exact e_c w _ _⟩
  have f1 : Fr (fun _ => False) w w1 := by rw [hw1]; exact ((Fr.refl _ _).alloc _).alloc _
  have HA1 := hide hA1
  have HZ1 := hide hz1
  have HF1 := hide f1
  clear hA1 hz1 f1 hw1
  rw [unhide HVS]
  refine (rchkm_ok w1 n N capa ao h1 (unhide HNN)).mono ?_
  rintro e w2 ⟨rfl, f2⟩
  rw [← unhide HVS]
  have HA2 := hide ((unhide HA1).kept f2 id)
  have HZ2 := hide ((unhide HZ1).kept f2 id)
  have HF2 := hide ((unhide HF1).trans f2 (fun _ _ h => h))
  have hlt2 : w.heap.size + 2 ≤ w2.heap.size := by
    obtain ⟨x, y, z, hz⟩ := unhide HZ2
    have := lt_of_heap hz
    omega
  have hX0 := (unhide HA2).facts w2 (Fr.refl _ _)
  have a0 := hX0.1
  have a1 := hX0.2.1
  have a2 := hX0.2.2.1
  clear HA1 HZ1 HF1 f2 hX0
  go_wp2_with fail
  refine wp_nameW' ?_
  intro w3 hw3
  have hX3 : XAt w3 (w2.heap.size + 1) w2.heap.size n m2 N2 (fun _ _ => 0) := XAt.of_new (unhide HN2) (by omega) (by rw [hw3]; exact e_c w2 _ _) (by rw [hw3]; exact e_b w2 _ _)
  have f3 : Fr (fun _ => False) w2 w3 := by rw [hw3]; exact ((Fr.refl _ _).alloc _).alloc _
  obtain ⟨q1, hq1⟩ : ∃ q1, q1 = w2.heap.size := ⟨_, rfl⟩
  rw [← hq1] at hX3 ⊢
  have hqw : w.heap.size + 2 ≤ q1 := by omega
  have HX3 := hide hX3
  have HA3 := hide ((unhide HA2).kept f3 id)
  have HZ3 := hide ((unhide HZ2).kept f3 id)
  have HF3 := hide ((unhide HF2).trans f3 (fun _ _ h => h))
  clear hX3 f3 hw3 HA2 HZ2 HF2 a0 a1 a2 hq1 hmk hlt2
  obtain ⟨f, hf⟩ : ∃ f, f = mc l n := ⟨_, rfl⟩
  have HFF0 := hide hf
  clear hf
  go_loopw [7] (fun x w' => ∃ r : Nat, r ≤ n ∧ x = .int .i64 (r : Int) ∧ XAt w' (q1 + 1) q1 n m2 N2 (bK f n r 0) ∧ Hd w' w.heap.size n n v ∧ Z3 w' (w.heap.size + 1) ∧ Fr (fun _ => False) w w') (fun x _ => n - (intOf x).toNat)
  case atStart => exact ⟨0, Nat.zero_le _, rfl, (unhide HX3).congr (by omega) (fun i j _ _ => (bK_zero f n i j).symm), unhide HA3, unhide HZ3, unhide HF3⟩
  case round =>
    clear HX3 HA3 HZ3 HF3
    obtain ⟨r, hr, rfl, hX, hA, hZ, hF⟩ := hrel
    have HX := hide hX
    have HA := hide hA
    have HZ := hide hZ
    have HF := hide hF
    clear hX hA hZ hF
    by_cases hrn : r < n
    · have hri : (r : Int) < (n : Int) := by omega
      go_wp2_with fail
      go_loopw [8] (fun y w' => ∃ c : Nat, c ≤ n ∧ y = .int .i64 (c : Int) ∧ XAt w' (q1 + 1) q1 n m2 N2 (bK f n r c) ∧ Hd w' w.heap.size n n v ∧ Z3 w' (w.heap.size + 1) ∧ Fr (fun _ => False) w w') (fun y _ => n - (intOf y).toNat)
      case atStart => exact ⟨0, Nat.zero_le _, rfl, unhide HX, unhide HA, unhide HZ, unhide HF⟩
      case round =>
        clear HX HA HZ HF
        obtain ⟨c, hc, rfl, hX, hA, hZ, hF⟩ := hrel
        have HX := hide hX
        have HA := hide hA
        have HZ := hide hZ
        have HF := hide hF
        clear hZ
        by_cases hcn : c < n
        · have hci : (c : Int) < (n : Int) := by omega
          have hm2 := unhide HM2
          have b0 : (2 * n) * r + c = r * m2 + c := by rw [hm2, Nat.mul_comm]
          have b1 : r * m2 + c < n * m2 := flat_lt hrn (by omega)
          have b2 : (2 * n) * r + c < N2 := by rw [unhide HN2, b0]; exact b1
          have b3 : (2 * n) * r ≤ 1000000 := by omega
          have hcx := hX.cell r c hrn (by omega)
          rw [← b0] at hcx
          obtain ⟨x, hx⟩ : ∃ x, x = f r c := ⟨_, rfl⟩
          obtain ⟨old, hold⟩ : ∃ old, old = bK f n r c r c := ⟨_, rfl⟩
          rw [← hold] at hcx
          have HSTEP := hide (bK_step f n r c)
          rw [← hx] at HSTEP
          have HM1 := hide (fun W (g : Fr (fun _ => False) wr W) => ((unhide HX).factsN (unhide HN2) W g).2.1)
          have HM2' := hide (fun W (g : Fr (fun _ => False) wr W) => ((unhide HX).factsN (unhide HN2) W g).2.2.1)
          have HAR := hide (fun W (g : Fr (fun _ => False) wr W) => ((unhide HA).facts W g).2.2.2)
          have HQA := hide (fun W (g : Fr (fun _ => False) wr W) => ratR_any W n r c n v l ((unhide HV).kept (hF.trans g (fun _ _ h => h)) (fun _ _ h => h)) (by omega) (by omega) h1.2 (by rw [unhide HL]; exact flat_lt hrn hcn))
          have hxx : x = mc l n r c := by rw [hx, unhide HFF0]
          rw [← hxx] at HQA
          have HQC := hide (fun W (g : Fr (fun _ => False) wr W) => (g.cell (a := ⟨q1, (2 * n) * r + c, none⟩) hcx.2.2 id).trans hcx.1)
          have HQZ := hide (fun W (g : Fr (fun _ => False) wr W) => (g.frozen (a := ⟨q1, (2 * n) * r + c, none⟩) hcx.2.2 id).trans hcx.2.1)
          have HB0 := hide b0
          have hNle : N ≤ 100000 := by omega
          have hlt5 : r * n + c < N := by rw [unhide HNN]; exact flat_lt hrn hcn
          clear hX hA hx hold hcx hm2 b0 b1 hF hxx
          go_wp2_with fail
          refine wp_name' ?_
          intro a0 hA
          have h1 : a0.tmps.getD 1 undef = .pointer (some ⟨w.heap.size, 0, none⟩) := by rw [hA]; rfl
          have h5 : a0.tmps.getD 5 undef = .int .i64 ((n : Nat) : Int) := by rw [hA]; rfl
          have h6 : a0.tmps.getD 6 undef = .pointer (some ⟨q1 + 1, 0, none⟩) := by rw [hA]; rfl
          have h7 : a0.tmps.getD 7 undef = .int .i64 ((r : Nat) : Int) := by rw [hA]; rfl
          have h8 : a0.tmps.getD 8 undef = .int .i64 ((c : Nat) : Int) := by rw [hA]; rfl
          have hsz : a0.tmps.size = 108 := by rw [hA]; rfl
          have hdf : a0.defers = [] := by rw [hA]
          have HA0 := hide hA
          clear hA
          refine wp_region_last (by kernel_rfl) (by kernel_rfl) (by kernel_rfl) (by decide +kernel) (by rw [hsz]; decide +kernel) _ rfl (Tk [.eq (.pointer (some ⟨q1 + 1, 2, none⟩)), .eq (.slice (some ⟨q1, 0, none⟩) N2 N2), .eq (.int .i64 ((n : Nat) : Int)), .eq (.int .i64 ((2 * n : Nat) : Int)), .eq (.int .i64 ((r : Nat) : Int)), .eq (.int .i64 (((2 * n) * r : Nat) : Int)), .eq (.int .i64 ((c : Nat) : Int)), .eq (.int .i64 (((2 * n) * r + c : Nat) : Int)), .eq (.agg #[.int .i64 ((n : Nat) : Int), .int .i64 ((n : Nat) : Int), v]), .eq (.int .i64 ((r : Nat) : Int)), .eq (.int .i64 ((c : Nat) : Int)), .eq (.int .u8 (((x).toNat : Nat) : Int)), .eq (.pointer (some ⟨q1, (2 * n) * r + c, none⟩))]) (Tk.mono _) ?steps ?last
          case steps =>
            refine ⟨?_, ?_⟩
            · intro a' w' hb hf hd
              exact ⟨wanted_none rfl, ex_val (.pointer (some ⟨q1 + 1, 2, none⟩)) (ex_f24_2 rfl ((hb.old 6 (by decide +kernel)).trans h6)) rfl⟩
            refine ⟨?_, ?_⟩
            · intro a' w' hb hf hd
              exact ⟨wanted_none rfl, ex_val (.slice (some ⟨q1, 0, none⟩) N2 N2) (ex_load22 rfl (hd 0 (by kernel_rfl) 46 rfl) (unhide HM2' w' hf)) rfl⟩
            refine ⟨?_, ?_⟩
            · intro a' w' hb hf hd
              exact ⟨wanted_none rfl, ex_val (.int .i64 ((n : Nat) : Int)) (ex_move rfl ((hb.old 5 (by decide +kernel)).trans h5)) rfl⟩
            refine ⟨?_, ?_⟩
            · intro a' w' hb hf hd
              exact ⟨wanted_none rfl, ex_val (.int .i64 ((2 * n : Nat) : Int)) (ex_mulN rfl (rfl) (hd 2 (by kernel_rfl) 48 rfl) (by omega)) rfl⟩
            refine ⟨?_, ?_⟩
            · intro a' w' hb hf hd
              exact ⟨wanted_none rfl, ex_val (.int .i64 ((r : Nat) : Int)) (ex_move rfl ((hb.old 7 (by decide +kernel)).trans h7)) rfl⟩
            refine ⟨?_, ?_⟩
            · intro a' w' hb hf hd
              exact ⟨wanted_none rfl, ex_val (.int .i64 (((2 * n) * r : Nat) : Int)) (ex_mulN rfl (hd 3 (by kernel_rfl) 49 rfl) (hd 4 (by kernel_rfl) 50 rfl) (b3)) rfl⟩
            refine ⟨?_, ?_⟩
            · intro a' w' hb hf hd
              exact ⟨wanted_none rfl, ex_val (.int .i64 ((c : Nat) : Int)) (ex_move rfl ((hb.old 8 (by decide +kernel)).trans h8)) rfl⟩
            refine ⟨?_, ?_⟩
            · intro a' w' hb hf hd
              exact ⟨wanted_none rfl, ex_val (.int .i64 (((2 * n) * r + c : Nat) : Int)) (ex_addN rfl (hd 5 (by kernel_rfl) 51 rfl) (hd 6 (by kernel_rfl) 52 rfl) (by omega)) rfl⟩
            refine ⟨?_, ?_⟩
            · intro a' w' hb hf hd
              exact ⟨wanted_none rfl, ex_val (.agg #[.int .i64 ((n : Nat) : Int), .int .i64 ((n : Nat) : Int), v]) (ex_load24 rfl ((hb.old 1 (by decide +kernel)).trans h1) (unhide HAR w' hf)) rfl⟩
            refine ⟨?_, ?_⟩
            · intro a' w' hb hf hd
              exact ⟨wanted_none rfl, ex_val (.int .i64 ((r : Nat) : Int)) (ex_move rfl ((hb.old 7 (by decide +kernel)).trans h7)) rfl⟩
            refine ⟨?_, ?_⟩
            · intro a' w' hb hf hd
              exact ⟨wanted_none rfl, ex_val (.int .i64 ((c : Nat) : Int)) (ex_move rfl ((hb.old 8 (by decide +kernel)).trans h8)) rfl⟩
            refine ⟨?_, ?_⟩
            · intro a' w' hb hf hd
              exact ⟨wanted_none rfl, ex_call 73 _ (en_call3 rfl rfl (hd 8 (by kernel_rfl) 54 rfl) (hd 9 (by kernel_rfl) 55 rfl) (hd 10 (by kernel_rfl) 56 rfl) cfv73) ((unhide HQA w' hf).mono (by rintro e w7 ⟨rfl, f7⟩; exact ⟨⟨_, rfl, rfl⟩, f7⟩))⟩
            refine ⟨?_, ?_⟩
            · intro a' w' hb hf hd
              exact ⟨wanted_none rfl, ex_val (.pointer (some ⟨q1, (2 * n) * r + c, none⟩)) (ex_idx0 rfl (hd 1 (by kernel_rfl) 47 rfl) (hd 7 (by kernel_rfl) 53 rfl) (b2)) rfl⟩
            exact trivial
          case last =>
            intro a' w' hb hf hall
            refine ⟨wanted_none rfl, wp_store5 rfl (hall 12 (by decide) 58 rfl) (hall 11 (by decide) 57 rfl) (unhide HQC w' hf) (unhide HQZ w' hf) ?_⟩
            have e0_ : a'.tmps.getD 0 undef = a0.tmps.getD 0 undef := hb.old 0 (by decide +kernel)
            have e1_ : a'.tmps.getD 1 undef = .pointer (some ⟨w.heap.size, 0, none⟩) := (hb.old 1 (by decide +kernel)).trans h1
            have e2_ : a'.tmps.getD 2 undef = a0.tmps.getD 2 undef := hb.old 2 (by decide +kernel)
            have e3_ : a'.tmps.getD 3 undef = a0.tmps.getD 3 undef := hb.old 3 (by decide +kernel)
            have e4_ : a'.tmps.getD 4 undef = a0.tmps.getD 4 undef := hb.old 4 (by decide +kernel)
            have e5_ : a'.tmps.getD 5 undef = .int .i64 ((n : Nat) : Int) := (hb.old 5 (by decide +kernel)).trans h5
            have e6_ : a'.tmps.getD 6 undef = .pointer (some ⟨q1 + 1, 0, none⟩) := (hb.old 6 (by decide +kernel)).trans h6
            have e7_ : a'.tmps.getD 7 undef = .int .i64 ((r : Nat) : Int) := (hb.old 7 (by decide +kernel)).trans h7
            have e8_ : a'.tmps.getD 8 undef = .int .i64 ((c : Nat) : Int) := (hb.old 8 (by decide +kernel)).trans h8
            have e9_ : a'.tmps.getD 9 undef = a0.tmps.getD 9 undef := hb.old 9 (by decide +kernel)
            have e10_ : a'.tmps.getD 10 undef = a0.tmps.getD 10 undef := hb.old 10 (by decide +kernel)
            have e11_ : a'.tmps.getD 11 undef = a0.tmps.getD 11 undef := hb.old 11 (by decide +kernel)
            have e12_ : a'.tmps.getD 12 undef = a0.tmps.getD 12 undef := hb.old 12 (by decide +kernel)
            have e13_ : a'.tmps.getD 13 undef = a0.tmps.getD 13 undef := hb.old 13 (by decide +kernel)
            have e14_ : a'.tmps.getD 14 undef = a0.tmps.getD 14 undef := hb.old 14 (by decide +kernel)
            have e15_ : a'.tmps.getD 15 undef = a0.tmps.getD 15 undef := hb.old 15 (by decide +kernel)
            have e16_ : a'.tmps.getD 16 undef = a0.tmps.getD 16 undef := hb.old 16 (by decide +kernel)
            have e17_ : a'.tmps.getD 17 undef = a0.tmps.getD 17 undef := hb.old 17 (by decide +kernel)
            have e18_ : a'.tmps.getD 18 undef = a0.tmps.getD 18 undef := hb.old 18 (by decide +kernel)
            have e19_ : a'.tmps.getD 19 undef = a0.tmps.getD 19 undef := hb.old 19 (by decide +kernel)
            have e20_ : a'.tmps.getD 20 undef = a0.tmps.getD 20 undef := hb.old 20 (by decide +kernel)
            have e21_ : a'.tmps.getD 21 undef = a0.tmps.getD 21 undef := hb.old 21 (by decide +kernel)
            have e22_ : a'.tmps.getD 22 undef = a0.tmps.getD 22 undef := hb.old 22 (by decide +kernel)
            have e23_ : a'.tmps.getD 23 undef = a0.tmps.getD 23 undef := hb.old 23 (by decide +kernel)
            have e24_ : a'.tmps.getD 24 undef = a0.tmps.getD 24 undef := hb.old 24 (by decide +kernel)
            have e25_ : a'.tmps.getD 25 undef = a0.tmps.getD 25 undef := hb.old 25 (by decide +kernel)
            have e26_ : a'.tmps.getD 26 undef = a0.tmps.getD 26 undef := hb.old 26 (by decide +kernel)
            have e27_ : a'.tmps.getD 27 undef = a0.tmps.getD 27 undef := hb.old 27 (by decide +kernel)
            have e28_ : a'.tmps.getD 28 undef = a0.tmps.getD 28 undef := hb.old 28 (by decide +kernel)
            have e29_ : a'.tmps.getD 29 undef = a0.tmps.getD 29 undef := hb.old 29 (by decide +kernel)
            have e30_ : a'.tmps.getD 30 undef = a0.tmps.getD 30 undef := hb.old 30 (by decide +kernel)
            have e31_ : a'.tmps.getD 31 undef = a0.tmps.getD 31 undef := hb.old 31 (by decide +kernel)
            have e32_ : a'.tmps.getD 32 undef = a0.tmps.getD 32 undef := hb.old 32 (by decide +kernel)
            have e33_ : a'.tmps.getD 33 undef = a0.tmps.getD 33 undef := hb.old 33 (by decide +kernel)
            have e34_ : a'.tmps.getD 34 undef = a0.tmps.getD 34 undef := hb.old 34 (by decide +kernel)
            have e35_ : a'.tmps.getD 35 undef = a0.tmps.getD 35 undef := hb.old 35 (by decide +kernel)
            have e36_ : a'.tmps.getD 36 undef = a0.tmps.getD 36 undef := hb.old 36 (by decide +kernel)
            have e37_ : a'.tmps.getD 37 undef = a0.tmps.getD 37 undef := hb.old 37 (by decide +kernel)
            have e38_ : a'.tmps.getD 38 undef = a0.tmps.getD 38 undef := hb.old 38 (by decide +kernel)
            have e39_ : a'.tmps.getD 39 undef = a0.tmps.getD 39 undef := hb.old 39 (by decide +kernel)
            have e40_ : a'.tmps.getD 40 undef = a0.tmps.getD 40 undef := hb.old 40 (by decide +kernel)
            have e41_ : a'.tmps.getD 41 undef = a0.tmps.getD 41 undef := hb.old 41 (by decide +kernel)
            have e42_ : a'.tmps.getD 42 undef = a0.tmps.getD 42 undef := hb.old 42 (by decide +kernel)
            have e43_ : a'.tmps.getD 43 undef = a0.tmps.getD 43 undef := hb.old 43 (by decide +kernel)
            have e44_ : a'.tmps.getD 44 undef = a0.tmps.getD 44 undef := hb.old 44 (by decide +kernel)
            have e45_ : a'.tmps.getD 45 undef = a0.tmps.getD 45 undef := hb.old 45 (by decide +kernel)
            have e46_ : a'.tmps.getD 46 undef = .pointer (some ⟨q1 + 1, 2, none⟩) := hall 0 (by decide) 46 rfl
            have e47_ : a'.tmps.getD 47 undef = .slice (some ⟨q1, 0, none⟩) N2 N2 := hall 1 (by decide) 47 rfl
            have e48_ : a'.tmps.getD 48 undef = .int .i64 ((n : Nat) : Int) := hall 2 (by decide) 48 rfl
            have e49_ : a'.tmps.getD 49 undef = .int .i64 ((2 * n : Nat) : Int) := hall 3 (by decide) 49 rfl
            have e50_ : a'.tmps.getD 50 undef = .int .i64 ((r : Nat) : Int) := hall 4 (by decide) 50 rfl
            have e51_ : a'.tmps.getD 51 undef = .int .i64 (((2 * n) * r : Nat) : Int) := hall 5 (by decide) 51 rfl
            have e52_ : a'.tmps.getD 52 undef = .int .i64 ((c : Nat) : Int) := hall 6 (by decide) 52 rfl
            have e53_ : a'.tmps.getD 53 undef = .int .i64 (((2 * n) * r + c : Nat) : Int) := hall 7 (by decide) 53 rfl
            have e54_ : a'.tmps.getD 54 undef = .agg #[.int .i64 ((n : Nat) : Int), .int .i64 ((n : Nat) : Int), v] := hall 8 (by decide) 54 rfl
            have e55_ : a'.tmps.getD 55 undef = .int .i64 ((r : Nat) : Int) := hall 9 (by decide) 55 rfl
            have e56_ : a'.tmps.getD 56 undef = .int .i64 ((c : Nat) : Int) := hall 10 (by decide) 56 rfl
            have e57_ : a'.tmps.getD 57 undef = .int .u8 (((x).toNat : Nat) : Int) := hall 11 (by decide) 57 rfl
            have e58_ : a'.tmps.getD 58 undef = .pointer (some ⟨q1, (2 * n) * r + c, none⟩) := hall 12 (by decide) 58 rfl
            have e59_ : a'.tmps.getD 59 undef = a0.tmps.getD 59 undef := hb.old 59 (by decide +kernel)
            have e60_ : a'.tmps.getD 60 undef = a0.tmps.getD 60 undef := hb.old 60 (by decide +kernel)
            have e61_ : a'.tmps.getD 61 undef = a0.tmps.getD 61 undef := hb.old 61 (by decide +kernel)
            have e62_ : a'.tmps.getD 62 undef = a0.tmps.getD 62 undef := hb.old 62 (by decide +kernel)
            have e63_ : a'.tmps.getD 63 undef = a0.tmps.getD 63 undef := hb.old 63 (by decide +kernel)
            have e64_ : a'.tmps.getD 64 undef = a0.tmps.getD 64 undef := hb.old 64 (by decide +kernel)
            have e65_ : a'.tmps.getD 65 undef = a0.tmps.getD 65 undef := hb.old 65 (by decide +kernel)
            have e66_ : a'.tmps.getD 66 undef = a0.tmps.getD 66 undef := hb.old 66 (by decide +kernel)
            have e67_ : a'.tmps.getD 67 undef = a0.tmps.getD 67 undef := hb.old 67 (by decide +kernel)
            have e68_ : a'.tmps.getD 68 undef = a0.tmps.getD 68 undef := hb.old 68 (by decide +kernel)
            have e69_ : a'.tmps.getD 69 undef = a0.tmps.getD 69 undef := hb.old 69 (by decide +kernel)
            have e70_ : a'.tmps.getD 70 undef = a0.tmps.getD 70 undef := hb.old 70 (by decide +kernel)
            have e71_ : a'.tmps.getD 71 undef = a0.tmps.getD 71 undef := hb.old 71 (by decide +kernel)
            have e72_ : a'.tmps.getD 72 undef = a0.tmps.getD 72 undef := hb.old 72 (by decide +kernel)
            have e73_ : a'.tmps.getD 73 undef = a0.tmps.getD 73 undef := hb.old 73 (by decide +kernel)
            have e74_ : a'.tmps.getD 74 undef = a0.tmps.getD 74 undef := hb.old 74 (by decide +kernel)
            have e75_ : a'.tmps.getD 75 undef = a0.tmps.getD 75 undef := hb.old 75 (by decide +kernel)
            have e76_ : a'.tmps.getD 76 undef = a0.tmps.getD 76 undef := hb.old 76 (by decide +kernel)
            have e77_ : a'.tmps.getD 77 undef = a0.tmps.getD 77 undef := hb.old 77 (by decide +kernel)
            have e78_ : a'.tmps.getD 78 undef = a0.tmps.getD 78 undef := hb.old 78 (by decide +kernel)
            have e79_ : a'.tmps.getD 79 undef = a0.tmps.getD 79 undef := hb.old 79 (by decide +kernel)
            have e80_ : a'.tmps.getD 80 undef = a0.tmps.getD 80 undef := hb.old 80 (by decide +kernel)
            have e81_ : a'.tmps.getD 81 undef = a0.tmps.getD 81 undef := hb.old 81 (by decide +kernel)
            have e82_ : a'.tmps.getD 82 undef = a0.tmps.getD 82 undef := hb.old 82 (by decide +kernel)
            have e83_ : a'.tmps.getD 83 undef = a0.tmps.getD 83 undef := hb.old 83 (by decide +kernel)
            have e84_ : a'.tmps.getD 84 undef = a0.tmps.getD 84 undef := hb.old 84 (by decide +kernel)
            have e85_ : a'.tmps.getD 85 undef = a0.tmps.getD 85 undef := hb.old 85 (by decide +kernel)
            have e86_ : a'.tmps.getD 86 undef = a0.tmps.getD 86 undef := hb.old 86 (by decide +kernel)
            have e87_ : a'.tmps.getD 87 undef = a0.tmps.getD 87 undef := hb.old 87 (by decide +kernel)
            have e88_ : a'.tmps.getD 88 undef = a0.tmps.getD 88 undef := hb.old 88 (by decide +kernel)
            have e89_ : a'.tmps.getD 89 undef = a0.tmps.getD 89 undef := hb.old 89 (by decide +kernel)
            have e90_ : a'.tmps.getD 90 undef = a0.tmps.getD 90 undef := hb.old 90 (by decide +kernel)
            have e91_ : a'.tmps.getD 91 undef = a0.tmps.getD 91 undef := hb.old 91 (by decide +kernel)
            have e92_ : a'.tmps.getD 92 undef = a0.tmps.getD 92 undef := hb.old 92 (by decide +kernel)
            have e93_ : a'.tmps.getD 93 undef = a0.tmps.getD 93 undef := hb.old 93 (by decide +kernel)
            have e94_ : a'.tmps.getD 94 undef = a0.tmps.getD 94 undef := hb.old 94 (by decide +kernel)
            have e95_ : a'.tmps.getD 95 undef = a0.tmps.getD 95 undef := hb.old 95 (by decide +kernel)
            have e96_ : a'.tmps.getD 96 undef = a0.tmps.getD 96 undef := hb.old 96 (by decide +kernel)
            have e97_ : a'.tmps.getD 97 undef = a0.tmps.getD 97 undef := hb.old 97 (by decide +kernel)
            have e98_ : a'.tmps.getD 98 undef = a0.tmps.getD 98 undef := hb.old 98 (by decide +kernel)
            have e99_ : a'.tmps.getD 99 undef = a0.tmps.getD 99 undef := hb.old 99 (by decide +kernel)
            have e100_ : a'.tmps.getD 100 undef = a0.tmps.getD 100 undef := hb.old 100 (by decide +kernel)
            have e101_ : a'.tmps.getD 101 undef = a0.tmps.getD 101 undef := hb.old 101 (by decide +kernel)
            have e102_ : a'.tmps.getD 102 undef = a0.tmps.getD 102 undef := hb.old 102 (by decide +kernel)
            have e103_ : a'.tmps.getD 103 undef = a0.tmps.getD 103 undef := hb.old 103 (by decide +kernel)
            have e104_ : a'.tmps.getD 104 undef = a0.tmps.getD 104 undef := hb.old 104 (by decide +kernel)
            have e105_ : a'.tmps.getD 105 undef = a0.tmps.getD 105 undef := hb.old 105 (by decide +kernel)
            have e106_ : a'.tmps.getD 106 undef = a0.tmps.getD 106 undef := hb.old 106 (by decide +kernel)
            have e107_ : a'.tmps.getD 107 undef = a0.tmps.getD 107 undef := hb.old 107 (by decide +kernel)
            have hfr := frame_eq (a := a') (vs := [a0.tmps.getD 0 undef, .pointer (some ⟨w.heap.size, 0, none⟩), a0.tmps.getD 2 undef, a0.tmps.getD 3 undef, a0.tmps.getD 4 undef, .int .i64 ((n : Nat) : Int), .pointer (some ⟨q1 + 1, 0, none⟩), .int .i64 ((r : Nat) : Int), .int .i64 ((c : Nat) : Int), a0.tmps.getD 9 undef, a0.tmps.getD 10 undef, a0.tmps.getD 11 undef, a0.tmps.getD 12 undef, a0.tmps.getD 13 undef, a0.tmps.getD 14 undef, a0.tmps.getD 15 undef, a0.tmps.getD 16 undef, a0.tmps.getD 17 undef, a0.tmps.getD 18 undef, a0.tmps.getD 19 undef, a0.tmps.getD 20 undef, a0.tmps.getD 21 undef, a0.tmps.getD 22 undef, a0.tmps.getD 23 undef, a0.tmps.getD 24 undef, a0.tmps.getD 25 undef, a0.tmps.getD 26 undef, a0.tmps.getD 27 undef, a0.tmps.getD 28 undef, a0.tmps.getD 29 undef, a0.tmps.getD 30 undef, a0.tmps.getD 31 undef, a0.tmps.getD 32 undef, a0.tmps.getD 33 undef, a0.tmps.getD 34 undef, a0.tmps.getD 35 undef, a0.tmps.getD 36 undef, a0.tmps.getD 37 undef, a0.tmps.getD 38 undef, a0.tmps.getD 39 undef, a0.tmps.getD 40 undef, a0.tmps.getD 41 undef, a0.tmps.getD 42 undef, a0.tmps.getD 43 undef, a0.tmps.getD 44 undef, a0.tmps.getD 45 undef, .pointer (some ⟨q1 + 1, 2, none⟩), .slice (some ⟨q1, 0, none⟩) N2 N2, .int .i64 ((n : Nat) : Int), .int .i64 ((2 * n : Nat) : Int), .int .i64 ((r : Nat) : Int), .int .i64 (((2 * n) * r : Nat) : Int), .int .i64 ((c : Nat) : Int), .int .i64 (((2 * n) * r + c : Nat) : Int), .agg #[.int .i64 ((n : Nat) : Int), .int .i64 ((n : Nat) : Int), v], .int .i64 ((r : Nat) : Int), .int .i64 ((c : Nat) : Int), .int .u8 (((x).toNat : Nat) : Int), .pointer (some ⟨q1, (2 * n) * r + c, none⟩), a0.tmps.getD 59 undef, a0.tmps.getD 60 undef, a0.tmps.getD 61 undef, a0.tmps.getD 62 undef, a0.tmps.getD 63 undef, a0.tmps.getD 64 undef, a0.tmps.getD 65 undef, a0.tmps.getD 66 undef, a0.tmps.getD 67 undef, a0.tmps.getD 68 undef, a0.tmps.getD 69 undef, a0.tmps.getD 70 undef, a0.tmps.getD 71 undef, a0.tmps.getD 72 undef, a0.tmps.getD 73 undef, a0.tmps.getD 74 undef, a0.tmps.getD 75 undef, a0.tmps.getD 76 undef, a0.tmps.getD 77 undef, a0.tmps.getD 78 undef, a0.tmps.getD 79 undef, a0.tmps.getD 80 undef, a0.tmps.getD 81 undef, a0.tmps.getD 82 undef, a0.tmps.getD 83 undef, a0.tmps.getD 84 undef, a0.tmps.getD 85 undef, a0.tmps.getD 86 undef, a0.tmps.getD 87 undef, a0.tmps.getD 88 undef, a0.tmps.getD 89 undef, a0.tmps.getD 90 undef, a0.tmps.getD 91 undef, a0.tmps.getD 92 undef, a0.tmps.getD 93 undef, a0.tmps.getD 94 undef, a0.tmps.getD 95 undef, a0.tmps.getD 96 undef, a0.tmps.getD 97 undef, a0.tmps.getD 98 undef, a0.tmps.getD 99 undef, a0.tmps.getD 100 undef, a0.tmps.getD 101 undef, a0.tmps.getD 102 undef, a0.tmps.getD 103 undef, a0.tmps.getD 104 undef, a0.tmps.getD 105 undef, a0.tmps.getD 106 undef, a0.tmps.getD 107 undef]) (by rw [hb.size, hsz]; rfl) (by rw [hb.defers]; exact hdf) ⟨e0_, e1_, e2_, e3_, e4_, e5_, e6_, e7_, e8_, e9_, e10_, e11_, e12_, e13_, e14_, e15_, e16_, e17_, e18_, e19_, e20_, e21_, e22_, e23_, e24_, e25_, e26_, e27_, e28_, e29_, e30_, e31_, e32_, e33_, e34_, e35_, e36_, e37_, e38_, e39_, e40_, e41_, e42_, e43_, e44_, e45_, e46_, e47_, e48_, e49_, e50_, e51_, e52_, e53_, e54_, e55_, e56_, e57_, e58_, e59_, e60_, e61_, e62_, e63_, e64_, e65_, e66_, e67_, e68_, e69_, e70_, e71_, e72_, e73_, e74_, e75_, e76_, e77_, e78_, e79_, e80_, e81_, e82_, e83_, e84_, e85_, e86_, e87_, e88_, e89_, e90_, e91_, e92_, e93_, e94_, e95_, e96_, e97_, e98_, e99_, e100_, e101_, e102_, e103_, e104_, e105_, e106_, e107_, trivial⟩
            have HFF := hide hf
            clear hall hb hf e0_ e1_ e2_ e3_ e4_ e5_ e6_ e7_ e8_ e9_ e10_ e11_ e12_ e13_ e14_ e15_ e16_ e17_ e18_ e19_ e20_ e21_ e22_ e23_ e24_ e25_ e26_ e27_ e28_ e29_ e30_ e31_ e32_ e33_ e34_ e35_ e36_ e37_ e38_ e39_ e40_ e41_ e42_ e43_ e44_ e45_ e46_ e47_ e48_ e49_ e50_ e51_ e52_ e53_ e54_ e55_ e56_ e57_ e58_ e59_ e60_ e61_ e62_ e63_ e64_ e65_ e66_ e67_ e68_ e69_ e70_ e71_ e72_ e73_ e74_ e75_ e76_ e77_ e78_ e79_ e80_ e81_ e82_ e83_ e84_ e85_ e86_ e87_ e88_ e89_ e90_ e91_ e92_ e93_ e94_ e95_ e96_ e97_ e98_ e99_ e100_ e101_ e102_ e103_ e104_ e105_ e106_ e107_ h1 h5 h6 h7 h8
            subst hfr
            rw [unhide HA0]
            clear HA0 hsz hdf
            apply_assumption
            go_wp2_with fail
            go_roundw
            case rel =>
              have hX' := ((unhide HX).keptF (unhide HFF)).set r c x hrn (by have := unhide HM2; omega)
              rw [unhide HSTEP, ← unhide HB0] at hX'
              have fs : Fr (fun k => k = q1) w' (w'.setCell ⟨q1, (2 * n) * r + c, none⟩ (.int .u8 ((x.toNat : Nat) : Int))) := (Fr.refl (fun k => k = q1) _).setCell (p := ⟨q1, (2 * n) * r + c, none⟩) (fun _ => rfl) _
              exact ⟨c + 1, by omega, by go_num, hX', ((unhide HA).kept (unhide HFF) id).kept fs (by omega), ((unhide HZ).kept (unhide HFF) id).kept fs (by omega), ((unhide HF).trans (unhide HFF) (fun _ _ h => h)).setCell (p := ⟨q1, (2 * n) * r + c, none⟩) (fun h' => by simp at h'; omega) _⟩
            case measure => simp [intOf]; omega
        · have hce : c = n := by omega
          subst hce
          clear hF
          have hci : ¬ (c : Int) < (c : Int) := by omega
          have hm2 := unhide HM2
          have b1 : r * m2 + (c + r) < c * m2 := flat_lt hrn (by omega)
          have b0 : m2 * r + c + r = r * m2 + (c + r) := by rw [Nat.mul_comm]; omega
          have hcx := hX.cell r (c + r) hrn (by omega)
          rw [← b0] at hcx b1
          rw [← unhide HN2] at b1
          have e3 : ((m2 : Nat) : Int) * (r : Int) = ((m2 * r : Nat) : Int) := by simp
          have HB0 := hide b0
          have m2c := ((unhide HX).factsN (unhide HN2) wr (Fr.refl _ _)).2.2.1
          obtain ⟨cx, zx, -⟩ := hcx
          generalize bK f c r c r (c + r) = old at *
          clear hX hA hm2 b0
          generalize hmr : m2 * r = mr at *
          have HMR := hide hmr
          have b2 : ((mr : Nat) : Int) + (c : Int) + (r : Int) < ((N2 : Nat) : Int) := by omega
          have b4 : (((mr : Nat) : Int) + (c : Int) + (r : Int)).toNat = mr + c + r := by omega
          clear hmr
          go_wp2_with fail
          go_roundw
          case rel =>
            have hX' := (unhide HX).set r (c + r) 1 hrn (by have := unhide HM2; omega)
            rw [← unhide HB0] at hX'
            have fs : Fr (fun k => k = q1) wr (wr.setCell ⟨q1, mr + c + r, none⟩ (.int .u8 1)) := (Fr.refl (fun k => k = q1) _).setCell (p := ⟨q1, mr + c + r, none⟩) (fun _ => rfl) _
            exact ⟨r + 1, by omega, by go_num, hX'.congr (by omega) (fun i j _ _ => bK_row f c r i j), (unhide HA).kept fs (by omega), (unhide HZ).kept fs (by omega), (unhide HF).setCell (p := ⟨q1, mr + c + r, none⟩) (fun h' => by simp at h'; omega) _⟩
          case measure => simp [intOf]; omega
    · have hre : r = n := by omega
      subst hre
      have hri : ¬ (r : Int) < (r : Int) := by omega
      have hm2 := unhide HM2
      have hbl := unhide HL
      have hwid : Wid (bsd l r r eyeC r) m2 := by rw [hm2, Nat.two_mul]; exact wid_bsd hbl
      have hXc : XAt wr (q1 + 1) q1 r m2 N2 (cel (bsd l r r eyeC r)) := (unhide HX).congr (by omega) (fun i j hi hj => by
        rw [cel_bsd hbl hi (by omega)]
        unfold bK
        rw [if_pos hi, unhide HFF0])
      have hRd : Rd wr (.slice (some ⟨q1, 0, none⟩) N2 N2) (fl m2 (cel (bsd l r r eyeC r)) (r * m2)) := by
        have h := hXc.own
        have h2 : (fl m2 (cel (bsd l r r eyeC r)) (r * m2)).length = r * m2 := fl_length _ _ _
        rw [unhide HN2]
        have h3 := Rd.of_owns (l := fl m2 (cel (bsd l r r eyeC r)) (r * m2)) (v := .slice (some ⟨q1, 0, none⟩) (r * m2) N2) (base := 0) (by rw [h2]; exact h)
        rw [unhide HN2] at h3
        exact h3
      have HCL := hide (cleared_any wr _ (bsd l r r eyeC r) r m2 r ⟨by omega, by omega⟩ ⟨by omega, by omega⟩ (by omega) (bsd_length _ _ _ _ _) hwid hRd)
      have hX0 := hXc.factsN (unhide HN2) wr (Fr.refl _ _)
      have x0 := hX0.1
      have x1 := hX0.2.1
      have x2 := hX0.2.2.1
      have hinv : redK (bsd l r r eyeC r) r = invR r l := rfl
      rw [hinv] at HCL
      rw [unhide HFU] at HCL
      obtain ⟨S, hS⟩ : ∃ S, S = (invR r l).1 := ⟨_, rfl⟩
      rw [← hS] at HCL
      have HS := hide hS
      have HXC := hide hXc
      clear hm2 hbl hwid hXc hRd hX0 hinv hS HX
      go_wp2_with fail
      refine (unhide HCL).mono ?_
      rintro e w4 ⟨⟨q3, cap3, rfl, hq3, ho3⟩, f4⟩
      have hZM : Z3 w4 (q1 + 1) := ⟨_, _, _, ((unhide HXC).keptF f4).head⟩
      have hth := hZM.there
      have hq3w : q1 + 1 < q3 := Nat.lt_of_lt_of_le (unhide HXC).lt hq3
      have ho3r := ho3
      rw [← unhide HN2] at ho3 ⊢
      have hput := hZM.put (.int .i64 ((r : Nat) : Int)) (.int .i64 ((m2 : Nat) : Int)) (.slice (some ⟨q3, 0, none⟩) N2 cap3)
      have hfs := setCells_frame (q1 + 1) [.int .i64 ((r : Nat) : Int), .int .i64 ((m2 : Nat) : Int), .slice (some ⟨q3, 0, none⟩) N2 cap3] 0 w4
      have hX5 : XAt (w4.setCells (q1 + 1) 0 [.int .i64 ((r : Nat) : Int), .int .i64 ((m2 : Nat) : Int), .slice (some ⟨q3, 0, none⟩) N2 cap3]) (q1 + 1) q3 r m2 cap3 (cel S) := ⟨by rw [← unhide HN2]; exact hput, by
        exact owns_kept ho3r hfs (fun b hb => by simp [Value.ownBlock] at hb; omega)⟩
      have hZ5 : Z3 (w4.setCells (q1 + 1) 0 [.int .i64 ((r : Nat) : Int), .int .i64 ((m2 : Nat) : Int), .slice (some ⟨q3, 0, none⟩) N2 cap3]) (w.heap.size + 1) := ((unhide HZ).kept f4 id).kept hfs (by omega)
      have hF5 : Fr (fun _ => False) w (w4.setCells (q1 + 1) 0 [.int .i64 ((r : Nat) : Int), .int .i64 ((m2 : Nat) : Int), .slice (some ⟨q3, 0, none⟩) N2 cap3]) := ((unhide HF).trans f4 (fun _ _ h => h)).trans hfs (fun i hi e => by omega)
      have HX5 := hide hX5
      have HZ5 := hide hZ5
      have HF5 := hide hF5
      clear hX5 hZ5 hF5 hput hfs hZM ho3 ho3r f4 HCL HXC HZ HF HA x0 x1 x2
      go_wp2_with (refine wpList_store_mid rfl 24 _ _ rfl (q1 + 1) 0 #[.int .i64 ((r : Nat) : Int), .int .i64 ((m2 : Nat) : Int), .slice (some ⟨q3, 0, none⟩) N2 cap3] rfl rfl hth info24_size (by simp [Value.oneCell']) ?_)
      generalize w4.setCells (q1 + 1) 0 _ = w5 at *
      have HNEW := hide (rnew_any w5 r r h1.2 h1.2)
      rw [← unhide HNN] at HNEW
      refine (unhide HNEW).mono ?_
      rintro e w6 ⟨rfl, hB6, f6⟩
      have HX6 := hide ((unhide HX5).keptF f6)
      have HZ6 := hide ((unhide HZ5).kept f6 id)
      have HF6 := hide ((unhide HF5).trans f6 (fun _ _ h => h))
      have hq5 : q3 < w5.heap.size ∧ w.heap.size + 2 ≤ w5.heap.size := by
        have h5 := ((unhide HX5).cell 0 0 (by omega) (by have := unhide HM2; omega)).2.2
        exact ⟨h5, by omega⟩
      have hB6' := hB6
      clear HX5 HZ5 HF5 HNEW f6 hth
      obtain ⟨q5, hq5e⟩ : ∃ q5, q5 = w5.heap.size + 1 := ⟨_, rfl⟩
      rw [← hq5e] at hB6 hB6' ⊢
      have hltq : q5 < w6.heap.size := lt_of_heap hB6
      go_wp2_with fail
      refine wp_nameW' ?_
      intro w7 hw7
      have hY7 : XAt w7 w6.heap.size q5 r r N (fun _ _ => 0) := XAt.of_new (unhide HNN) (by omega) (by rw [hw7, hq5e]; exact heap_alloc_new w6 _) (by rw [hw7]; exact (((Fr.refl (fun _ => False) w6).alloc _).block q5 hltq id).trans hB6)
      have f7 : Fr (fun _ => False) w6 w7 := by rw [hw7]; exact (Fr.refl _ _).alloc _
      obtain ⟨M5, hM5⟩ : ∃ M5, M5 = w6.heap.size := ⟨_, rfl⟩
      rw [← hM5] at hY7 ⊢
      have HY7 := hide hY7
      have HX7 := hide ((unhide HX6).keptF f7)
      have HZ7 := hide ((unhide HZ6).kept f7 id)
      have HF7 := hide ((unhide HF6).trans f7 (fun _ _ h => h))
      have hM5w : w.heap.size + 2 ≤ M5 ∧ q3 < M5 ∧ q3 < q5 ∧ w.heap.size + 2 ≤ q5 := by omega
      clear hY7 f7 hw7 HX6 HZ6 HF6 hB6 hB6' hltq hM5 hq5e hq5
      obtain ⟨g, hg⟩ : ∃ g : Nat → Nat → UInt8, g = fun i j => cel S i (r + j) := ⟨_, rfl⟩
      have HG := hide hg
      clear hg
      go_loopw [11] (fun x w' => ∃ i : Nat, i ≤ r ∧ x = .int .i64 (i : Int) ∧ XAt w' M5 q5 r r N (gK g i 0) ∧ XAt w' (q1 + 1) q3 r m2 cap3 (cel S) ∧ Z3 w' (w.heap.size + 1) ∧ Fr (fun _ => False) w w') (fun x _ => r - (intOf x).toNat)
      case atStart => exact ⟨0, Nat.zero_le _, rfl, (unhide HY7).congr (by omega) (fun i j _ _ => (gK_zero g i j).symm), unhide HX7, unhide HZ7, unhide HF7⟩
      case round =>
        clear HY7 HX7 HZ7 HF7
        obtain ⟨i, hi, rfl, hY, hX, hZ, hF⟩ := hrel
        have HY := hide hY
        have HX := hide hX
        have HZ := hide hZ
        have HF := hide hF
        clear hX hZ hF
        by_cases hin : i < r
        · have hii : (i : Int) < (r : Int) := by omega
          clear hY
          go_wp2_with fail
          go_loopw [12] (fun y w' => ∃ c : Nat, c ≤ r ∧ y = .int .i64 (c : Int) ∧ XAt w' M5 q5 r r N (gK g i c) ∧ XAt w' (q1 + 1) q3 r m2 cap3 (cel S) ∧ Z3 w' (w.heap.size + 1) ∧ Fr (fun _ => False) w w') (fun y _ => r - (intOf y).toNat)
          case atStart => exact ⟨0, Nat.zero_le _, rfl, unhide HY, unhide HX, unhide HZ, unhide HF⟩
          case round =>
            clear HY HX HZ HF
            obtain ⟨c, hc, rfl, hY, hX, hZ, hF⟩ := hrel
            have HY := hide hY
            have HX := hide hX
            have HZ := hide hZ
            have HF := hide hF
            clear hZ hF
            by_cases hcn : c < r
            · have hci : (c : Int) < (r : Int) := by omega
              have hm2 := unhide HM2
              have b0 : r * i + c = i * r + c := by rw [Nat.mul_comm]
              have b1 : r * i + c < N := by rw [unhide HNN, b0]; exact flat_lt hin hcn
              have b3 : r * i ≤ 1000000 := by omega
              have hcy := hY.cell i c hin hcn
              have hcx := hX.cell i (r + c) hin (by omega)
              rw [← b0] at hcy
              have hgx : g i c = cel S i (r + c) := by rw [unhide HG]
              obtain ⟨x, hx⟩ : ∃ x, x = g i c := ⟨_, rfl⟩
              rw [← hgx, ← hx] at hcx
              obtain ⟨old, hold⟩ : ∃ old, old = gK g i c i c := ⟨_, rfl⟩
              rw [← hold] at hcy
              have HSTEP := hide (gK_step g i c)
              rw [← hx] at HSTEP
              have HY2 := hide (fun W (k : Fr (fun _ => False) wr W) => ((unhide HY).factsN (unhide HNN) W k).2.2.1)
              have HXR := hide (fun W (k : Fr (fun _ => False) wr W) => ((unhide HX).factsN (unhide HN2) W k).2.2.2)
              have HQX := hide (fun W (k : Fr (fun _ => False) wr W) => (k.cell (a := ⟨q3, i * m2 + (r + c), none⟩) hcx.2.2 id).trans hcx.1)
              have HQC := hide (fun W (k : Fr (fun _ => False) wr W) => (k.cell (a := ⟨q5, r * i + c, none⟩) hcy.2.2 id).trans hcy.1)
              have HQZ := hide (fun W (k : Fr (fun _ => False) wr W) => (k.frozen (a := ⟨q5, r * i + c, none⟩) hcy.2.2 id).trans hcy.2.1)
              have HB0 := hide b0
              have hNle : N2 ≤ 100000 := by omega
              have hlt5 : i * m2 + (r + c) < N2 := by rw [unhide HN2]; exact flat_lt hin (by omega)
              clear hX hY hx hold hcx hcy hm2 b0 hgx
              go_wp2_with fail
              refine wp_name' ?_
              intro a0 hA
              have h5 : a0.tmps.getD 5 undef = .int .i64 ((r : Nat) : Int) := by rw [hA]; rfl
              have h6 : a0.tmps.getD 6 undef = .pointer (some ⟨q1 + 1, 0, none⟩) := by rw [hA]; rfl
              have h10 : a0.tmps.getD 10 undef = .pointer (some ⟨M5, 0, none⟩) := by rw [hA]; rfl
              have h11 : a0.tmps.getD 11 undef = .int .i64 ((i : Nat) : Int) := by rw [hA]; rfl
              have h12 : a0.tmps.getD 12 undef = .int .i64 ((c : Nat) : Int) := by rw [hA]; rfl
              have hsz : a0.tmps.size = 108 := by rw [hA]; rfl
              have hdf : a0.defers = [] := by rw [hA]
              have HA0 := hide hA
              clear hA
              refine wp_region_last (by kernel_rfl) (by kernel_rfl) (by kernel_rfl) (by decide +kernel) (by rw [hsz]; decide +kernel) _ rfl (Tk [.eq (.pointer (some ⟨M5, 2, none⟩)), .eq (.slice (some ⟨q5, 0, none⟩) N N), .eq (.int .i64 ((r : Nat) : Int)), .eq (.int .i64 ((i : Nat) : Int)), .eq (.int .i64 ((r * i : Nat) : Int)), .eq (.int .i64 ((c : Nat) : Int)), .eq (.int .i64 ((r * i + c : Nat) : Int)), .eq (.agg #[.int .i64 ((r : Nat) : Int), .int .i64 ((m2 : Nat) : Int), .slice (some ⟨q3, 0, none⟩) N2 cap3]), .eq (.int .i64 ((i : Nat) : Int)), .eq (.int .i64 ((r : Nat) : Int)), .eq (.int .i64 ((c : Nat) : Int)), .eq (.int .i64 ((r + c : Nat) : Int)), .eq (.int .u8 (((x).toNat : Nat) : Int)), .eq (.pointer (some ⟨q5, r * i + c, none⟩))]) (Tk.mono _) ?steps ?last
              case steps =>
                refine ⟨?_, ?_⟩
                · intro a' w' hb hf hd
                  exact ⟨wanted_none rfl, ex_val (.pointer (some ⟨M5, 2, none⟩)) (ex_f24_2 rfl ((hb.old 10 (by decide +kernel)).trans h10)) rfl⟩
                refine ⟨?_, ?_⟩
                · intro a' w' hb hf hd
                  exact ⟨wanted_none rfl, ex_val (.slice (some ⟨q5, 0, none⟩) N N) (ex_load22 rfl (hd 0 (by kernel_rfl) 93 rfl) (unhide HY2 w' hf)) rfl⟩
                refine ⟨?_, ?_⟩
                · intro a' w' hb hf hd
                  exact ⟨wanted_none rfl, ex_val (.int .i64 ((r : Nat) : Int)) (ex_move rfl ((hb.old 5 (by decide +kernel)).trans h5)) rfl⟩
                refine ⟨?_, ?_⟩
                · intro a' w' hb hf hd
                  exact ⟨wanted_none rfl, ex_val (.int .i64 ((i : Nat) : Int)) (ex_move rfl ((hb.old 11 (by decide +kernel)).trans h11)) rfl⟩
                refine ⟨?_, ?_⟩
                · intro a' w' hb hf hd
                  exact ⟨wanted_none rfl, ex_val (.int .i64 ((r * i : Nat) : Int)) (ex_mulN rfl (hd 2 (by kernel_rfl) 95 rfl) (hd 3 (by kernel_rfl) 96 rfl) (b3)) rfl⟩
                refine ⟨?_, ?_⟩
                · intro a' w' hb hf hd
                  exact ⟨wanted_none rfl, ex_val (.int .i64 ((c : Nat) : Int)) (ex_move rfl ((hb.old 12 (by decide +kernel)).trans h12)) rfl⟩
                refine ⟨?_, ?_⟩
                · intro a' w' hb hf hd
                  exact ⟨wanted_none rfl, ex_val (.int .i64 ((r * i + c : Nat) : Int)) (ex_addN rfl (hd 4 (by kernel_rfl) 97 rfl) (hd 5 (by kernel_rfl) 98 rfl) (by omega)) rfl⟩
                refine ⟨?_, ?_⟩
                · intro a' w' hb hf hd
                  exact ⟨wanted_none rfl, ex_val (.agg #[.int .i64 ((r : Nat) : Int), .int .i64 ((m2 : Nat) : Int), .slice (some ⟨q3, 0, none⟩) N2 cap3]) (ex_load24 rfl ((hb.old 6 (by decide +kernel)).trans h6) (unhide HXR w' hf)) rfl⟩
                refine ⟨?_, ?_⟩
                · intro a' w' hb hf hd
                  exact ⟨wanted_none rfl, ex_val (.int .i64 ((i : Nat) : Int)) (ex_move rfl ((hb.old 11 (by decide +kernel)).trans h11)) rfl⟩
                refine ⟨?_, ?_⟩
                · intro a' w' hb hf hd
                  exact ⟨wanted_none rfl, ex_val (.int .i64 ((r : Nat) : Int)) (ex_move rfl ((hb.old 5 (by decide +kernel)).trans h5)) rfl⟩
                refine ⟨?_, ?_⟩
                · intro a' w' hb hf hd
                  exact ⟨wanted_none rfl, ex_val (.int .i64 ((c : Nat) : Int)) (ex_move rfl ((hb.old 12 (by decide +kernel)).trans h12)) rfl⟩
                refine ⟨?_, ?_⟩
                · intro a' w' hb hf hd
                  exact ⟨wanted_none rfl, ex_val (.int .i64 ((r + c : Nat) : Int)) (ex_addN rfl (hd 9 (by kernel_rfl) 102 rfl) (hd 10 (by kernel_rfl) 103 rfl) (by omega)) rfl⟩
                refine ⟨?_, ?_⟩
                · intro a' w' hb hf hd
                  exact ⟨wanted_none rfl, ex_call 73 _ (en_call3 rfl rfl (hd 7 (by kernel_rfl) 100 rfl) (hd 8 (by kernel_rfl) 101 rfl) (hd 11 (by kernel_rfl) 104 rfl) cfv73) ((rat_any w' r m2 q3 N2 cap3 i (r + c) x hlt5 hNle (unhide HQX w' hf)).mono (by rintro e w7 ⟨rfl, f7⟩; exact ⟨⟨_, rfl, rfl⟩, f7⟩))⟩
                refine ⟨?_, ?_⟩
                · intro a' w' hb hf hd
                  exact ⟨wanted_none rfl, ex_val (.pointer (some ⟨q5, r * i + c, none⟩)) (ex_idx0 rfl (hd 1 (by kernel_rfl) 94 rfl) (hd 6 (by kernel_rfl) 99 rfl) (b1)) rfl⟩
                exact trivial
              case last =>
                intro a' w' hb hf hall
                refine ⟨wanted_none rfl, wp_store5 rfl (hall 13 (by decide) 106 rfl) (hall 12 (by decide) 105 rfl) (unhide HQC w' hf) (unhide HQZ w' hf) ?_⟩
                have e0_ : a'.tmps.getD 0 undef = a0.tmps.getD 0 undef := hb.old 0 (by decide +kernel)
                have e1_ : a'.tmps.getD 1 undef = a0.tmps.getD 1 undef := hb.old 1 (by decide +kernel)
                have e2_ : a'.tmps.getD 2 undef = a0.tmps.getD 2 undef := hb.old 2 (by decide +kernel)
                have e3_ : a'.tmps.getD 3 undef = a0.tmps.getD 3 undef := hb.old 3 (by decide +kernel)
                have e4_ : a'.tmps.getD 4 undef = a0.tmps.getD 4 undef := hb.old 4 (by decide +kernel)
                have e5_ : a'.tmps.getD 5 undef = .int .i64 ((r : Nat) : Int) := (hb.old 5 (by decide +kernel)).trans h5
                have e6_ : a'.tmps.getD 6 undef = .pointer (some ⟨q1 + 1, 0, none⟩) := (hb.old 6 (by decide +kernel)).trans h6
                have e7_ : a'.tmps.getD 7 undef = a0.tmps.getD 7 undef := hb.old 7 (by decide +kernel)
                have e8_ : a'.tmps.getD 8 undef = a0.tmps.getD 8 undef := hb.old 8 (by decide +kernel)
                have e9_ : a'.tmps.getD 9 undef = a0.tmps.getD 9 undef := hb.old 9 (by decide +kernel)
                have e10_ : a'.tmps.getD 10 undef = .pointer (some ⟨M5, 0, none⟩) := (hb.old 10 (by decide +kernel)).trans h10
                have e11_ : a'.tmps.getD 11 undef = .int .i64 ((i : Nat) : Int) := (hb.old 11 (by decide +kernel)).trans h11
                have e12_ : a'.tmps.getD 12 undef = .int .i64 ((c : Nat) : Int) := (hb.old 12 (by decide +kernel)).trans h12
                have e13_ : a'.tmps.getD 13 undef = a0.tmps.getD 13 undef := hb.old 13 (by decide +kernel)
                have e14_ : a'.tmps.getD 14 undef = a0.tmps.getD 14 undef := hb.old 14 (by decide +kernel)
                have e15_ : a'.tmps.getD 15 undef = a0.tmps.getD 15 undef := hb.old 15 (by decide +kernel)
                have e16_ : a'.tmps.getD 16 undef = a0.tmps.getD 16 undef := hb.old 16 (by decide +kernel)
                have e17_ : a'.tmps.getD 17 undef = a0.tmps.getD 17 undef := hb.old 17 (by decide +kernel)
                have e18_ : a'.tmps.getD 18 undef = a0.tmps.getD 18 undef := hb.old 18 (by decide +kernel)
                have e19_ : a'.tmps.getD 19 undef = a0.tmps.getD 19 undef := hb.old 19 (by decide +kernel)
                have e20_ : a'.tmps.getD 20 undef = a0.tmps.getD 20 undef := hb.old 20 (by decide +kernel)
                have e21_ : a'.tmps.getD 21 undef = a0.tmps.getD 21 undef := hb.old 21 (by decide +kernel)
                have e22_ : a'.tmps.getD 22 undef = a0.tmps.getD 22 undef := hb.old 22 (by decide +kernel)
                have e23_ : a'.tmps.getD 23 undef = a0.tmps.getD 23 undef := hb.old 23 (by decide +kernel)
                have e24_ : a'.tmps.getD 24 undef = a0.tmps.getD 24 undef := hb.old 24 (by decide +kernel)
                have e25_ : a'.tmps.getD 25 undef = a0.tmps.getD 25 undef := hb.old 25 (by decide +kernel)
                have e26_ : a'.tmps.getD 26 undef = a0.tmps.getD 26 undef := hb.old 26 (by decide +kernel)
                have e27_ : a'.tmps.getD 27 undef = a0.tmps.getD 27 undef := hb.old 27 (by decide +kernel)
                have e28_ : a'.tmps.getD 28 undef = a0.tmps.getD 28 undef := hb.old 28 (by decide +kernel)
                have e29_ : a'.tmps.getD 29 undef = a0.tmps.getD 29 undef := hb.old 29 (by decide +kernel)
                have e30_ : a'.tmps.getD 30 undef = a0.tmps.getD 30 undef := hb.old 30 (by decide +kernel)
                have e31_ : a'.tmps.getD 31 undef = a0.tmps.getD 31 undef := hb.old 31 (by decide +kernel)
                have e32_ : a'.tmps.getD 32 undef = a0.tmps.getD 32 undef := hb.old 32 (by decide +kernel)
                have e33_ : a'.tmps.getD 33 undef = a0.tmps.getD 33 undef := hb.old 33 (by decide +kernel)
                have e34_ : a'.tmps.getD 34 undef = a0.tmps.getD 34 undef := hb.old 34 (by decide +kernel)
                have e35_ : a'.tmps.getD 35 undef = a0.tmps.getD 35 undef := hb.old 35 (by decide +kernel)
                have e36_ : a'.tmps.getD 36 undef = a0.tmps.getD 36 undef := hb.old 36 (by decide +kernel)
                have e37_ : a'.tmps.getD 37 undef = a0.tmps.getD 37 undef := hb.old 37 (by decide +kernel)
                have e38_ : a'.tmps.getD 38 undef = a0.tmps.getD 38 undef := hb.old 38 (by decide +kernel)
                have e39_ : a'.tmps.getD 39 undef = a0.tmps.getD 39 undef := hb.old 39 (by decide +kernel)
                have e40_ : a'.tmps.getD 40 undef = a0.tmps.getD 40 undef := hb.old 40 (by decide +kernel)
                have e41_ : a'.tmps.getD 41 undef = a0.tmps.getD 41 undef := hb.old 41 (by decide +kernel)
                have e42_ : a'.tmps.getD 42 undef = a0.tmps.getD 42 undef := hb.old 42 (by decide +kernel)
                have e43_ : a'.tmps.getD 43 undef = a0.tmps.getD 43 undef := hb.old 43 (by decide +kernel)
                have e44_ : a'.tmps.getD 44 undef = a0.tmps.getD 44 undef := hb.old 44 (by decide +kernel)
                have e45_ : a'.tmps.getD 45 undef = a0.tmps.getD 45 undef := hb.old 45 (by decide +kernel)
                have e46_ : a'.tmps.getD 46 undef = a0.tmps.getD 46 undef := hb.old 46 (by decide +kernel)
                have e47_ : a'.tmps.getD 47 undef = a0.tmps.getD 47 undef := hb.old 47 (by decide +kernel)
                have e48_ : a'.tmps.getD 48 undef = a0.tmps.getD 48 undef := hb.old 48 (by decide +kernel)
                have e49_ : a'.tmps.getD 49 undef = a0.tmps.getD 49 undef := hb.old 49 (by decide +kernel)
                have e50_ : a'.tmps.getD 50 undef = a0.tmps.getD 50 undef := hb.old 50 (by decide +kernel)
                have e51_ : a'.tmps.getD 51 undef = a0.tmps.getD 51 undef := hb.old 51 (by decide +kernel)
                have e52_ : a'.tmps.getD 52 undef = a0.tmps.getD 52 undef := hb.old 52 (by decide +kernel)
                have e53_ : a'.tmps.getD 53 undef = a0.tmps.getD 53 undef := hb.old 53 (by decide +kernel)
                have e54_ : a'.tmps.getD 54 undef = a0.tmps.getD 54 undef := hb.old 54 (by decide +kernel)
                have e55_ : a'.tmps.getD 55 undef = a0.tmps.getD 55 undef := hb.old 55 (by decide +kernel)
                have e56_ : a'.tmps.getD 56 undef = a0.tmps.getD 56 undef := hb.old 56 (by decide +kernel)
                have e57_ : a'.tmps.getD 57 undef = a0.tmps.getD 57 undef := hb.old 57 (by decide +kernel)
                have e58_ : a'.tmps.getD 58 undef = a0.tmps.getD 58 undef := hb.old 58 (by decide +kernel)
                have e59_ : a'.tmps.getD 59 undef = a0.tmps.getD 59 undef := hb.old 59 (by decide +kernel)
                have e60_ : a'.tmps.getD 60 undef = a0.tmps.getD 60 undef := hb.old 60 (by decide +kernel)
                have e61_ : a'.tmps.getD 61 undef = a0.tmps.getD 61 undef := hb.old 61 (by decide +kernel)
                have e62_ : a'.tmps.getD 62 undef = a0.tmps.getD 62 undef := hb.old 62 (by decide +kernel)
                have e63_ : a'.tmps.getD 63 undef = a0.tmps.getD 63 undef := hb.old 63 (by decide +kernel)
                have e64_ : a'.tmps.getD 64 undef = a0.tmps.getD 64 undef := hb.old 64 (by decide +kernel)
                have e65_ : a'.tmps.getD 65 undef = a0.tmps.getD 65 undef := hb.old 65 (by decide +kernel)
                have e66_ : a'.tmps.getD 66 undef = a0.tmps.getD 66 undef := hb.old 66 (by decide +kernel)
                have e67_ : a'.tmps.getD 67 undef = a0.tmps.getD 67 undef := hb.old 67 (by decide +kernel)
                have e68_ : a'.tmps.getD 68 undef = a0.tmps.getD 68 undef := hb.old 68 (by decide +kernel)
                have e69_ : a'.tmps.getD 69 undef = a0.tmps.getD 69 undef := hb.old 69 (by decide +kernel)
                have e70_ : a'.tmps.getD 70 undef = a0.tmps.getD 70 undef := hb.old 70 (by decide +kernel)
                have e71_ : a'.tmps.getD 71 undef = a0.tmps.getD 71 undef := hb.old 71 (by decide +kernel)
                have e72_ : a'.tmps.getD 72 undef = a0.tmps.getD 72 undef := hb.old 72 (by decide +kernel)
                have e73_ : a'.tmps.getD 73 undef = a0.tmps.getD 73 undef := hb.old 73 (by decide +kernel)
                have e74_ : a'.tmps.getD 74 undef = a0.tmps.getD 74 undef := hb.old 74 (by decide +kernel)
                have e75_ : a'.tmps.getD 75 undef = a0.tmps.getD 75 undef := hb.old 75 (by decide +kernel)
                have e76_ : a'.tmps.getD 76 undef = a0.tmps.getD 76 undef := hb.old 76 (by decide +kernel)
                have e77_ : a'.tmps.getD 77 undef = a0.tmps.getD 77 undef := hb.old 77 (by decide +kernel)
                have e78_ : a'.tmps.getD 78 undef = a0.tmps.getD 78 undef := hb.old 78 (by decide +kernel)
                have e79_ : a'.tmps.getD 79 undef = a0.tmps.getD 79 undef := hb.old 79 (by decide +kernel)
                have e80_ : a'.tmps.getD 80 undef = a0.tmps.getD 80 undef := hb.old 80 (by decide +kernel)
                have e81_ : a'.tmps.getD 81 undef = a0.tmps.getD 81 undef := hb.old 81 (by decide +kernel)
                have e82_ : a'.tmps.getD 82 undef = a0.tmps.getD 82 undef := hb.old 82 (by decide +kernel)
                have e83_ : a'.tmps.getD 83 undef = a0.tmps.getD 83 undef := hb.old 83 (by decide +kernel)
                have e84_ : a'.tmps.getD 84 undef = a0.tmps.getD 84 undef := hb.old 84 (by decide +kernel)
                have e85_ : a'.tmps.getD 85 undef = a0.tmps.getD 85 undef := hb.old 85 (by decide +kernel)
                have e86_ : a'.tmps.getD 86 undef = a0.tmps.getD 86 undef := hb.old 86 (by decide +kernel)
                have e87_ : a'.tmps.getD 87 undef = a0.tmps.getD 87 undef := hb.old 87 (by decide +kernel)
                have e88_ : a'.tmps.getD 88 undef = a0.tmps.getD 88 undef := hb.old 88 (by decide +kernel)
                have e89_ : a'.tmps.getD 89 undef = a0.tmps.getD 89 undef := hb.old 89 (by decide +kernel)
                have e90_ : a'.tmps.getD 90 undef = a0.tmps.getD 90 undef := hb.old 90 (by decide +kernel)
                have e91_ : a'.tmps.getD 91 undef = a0.tmps.getD 91 undef := hb.old 91 (by decide +kernel)
                have e92_ : a'.tmps.getD 92 undef = a0.tmps.getD 92 undef := hb.old 92 (by decide +kernel)
                have e93_ : a'.tmps.getD 93 undef = .pointer (some ⟨M5, 2, none⟩) := hall 0 (by decide) 93 rfl
                have e94_ : a'.tmps.getD 94 undef = .slice (some ⟨q5, 0, none⟩) N N := hall 1 (by decide) 94 rfl
                have e95_ : a'.tmps.getD 95 undef = .int .i64 ((r : Nat) : Int) := hall 2 (by decide) 95 rfl
                have e96_ : a'.tmps.getD 96 undef = .int .i64 ((i : Nat) : Int) := hall 3 (by decide) 96 rfl
                have e97_ : a'.tmps.getD 97 undef = .int .i64 ((r * i : Nat) : Int) := hall 4 (by decide) 97 rfl
                have e98_ : a'.tmps.getD 98 undef = .int .i64 ((c : Nat) : Int) := hall 5 (by decide) 98 rfl
                have e99_ : a'.tmps.getD 99 undef = .int .i64 ((r * i + c : Nat) : Int) := hall 6 (by decide) 99 rfl
                have e100_ : a'.tmps.getD 100 undef = .agg #[.int .i64 ((r : Nat) : Int), .int .i64 ((m2 : Nat) : Int), .slice (some ⟨q3, 0, none⟩) N2 cap3] := hall 7 (by decide) 100 rfl
                have e101_ : a'.tmps.getD 101 undef = .int .i64 ((i : Nat) : Int) := hall 8 (by decide) 101 rfl
                have e102_ : a'.tmps.getD 102 undef = .int .i64 ((r : Nat) : Int) := hall 9 (by decide) 102 rfl
                have e103_ : a'.tmps.getD 103 undef = .int .i64 ((c : Nat) : Int) := hall 10 (by decide) 103 rfl
                have e104_ : a'.tmps.getD 104 undef = .int .i64 ((r + c : Nat) : Int) := hall 11 (by decide) 104 rfl
                have e105_ : a'.tmps.getD 105 undef = .int .u8 (((x).toNat : Nat) : Int) := hall 12 (by decide) 105 rfl
                have e106_ : a'.tmps.getD 106 undef = .pointer (some ⟨q5, r * i + c, none⟩) := hall 13 (by decide) 106 rfl
                have e107_ : a'.tmps.getD 107 undef = a0.tmps.getD 107 undef := hb.old 107 (by decide +kernel)
                have hfr := frame_eq (a := a') (vs := [a0.tmps.getD 0 undef, a0.tmps.getD 1 undef, a0.tmps.getD 2 undef, a0.tmps.getD 3 undef, a0.tmps.getD 4 undef, .int .i64 ((r : Nat) : Int), .pointer (some ⟨q1 + 1, 0, none⟩), a0.tmps.getD 7 undef, a0.tmps.getD 8 undef, a0.tmps.getD 9 undef, .pointer (some ⟨M5, 0, none⟩), .int .i64 ((i : Nat) : Int), .int .i64 ((c : Nat) : Int), a0.tmps.getD 13 undef, a0.tmps.getD 14 undef, a0.tmps.getD 15 undef, a0.tmps.getD 16 undef, a0.tmps.getD 17 undef, a0.tmps.getD 18 undef, a0.tmps.getD 19 undef, a0.tmps.getD 20 undef, a0.tmps.getD 21 undef, a0.tmps.getD 22 undef, a0.tmps.getD 23 undef, a0.tmps.getD 24 undef, a0.tmps.getD 25 undef, a0.tmps.getD 26 undef, a0.tmps.getD 27 undef, a0.tmps.getD 28 undef, a0.tmps.getD 29 undef, a0.tmps.getD 30 undef, a0.tmps.getD 31 undef, a0.tmps.getD 32 undef, a0.tmps.getD 33 undef, a0.tmps.getD 34 undef, a0.tmps.getD 35 undef, a0.tmps.getD 36 undef, a0.tmps.getD 37 undef, a0.tmps.getD 38 undef, a0.tmps.getD 39 undef, a0.tmps.getD 40 undef, a0.tmps.getD 41 undef, a0.tmps.getD 42 undef, a0.tmps.getD 43 undef, a0.tmps.getD 44 undef, a0.tmps.getD 45 undef, a0.tmps.getD 46 undef, a0.tmps.getD 47 undef, a0.tmps.getD 48 undef, a0.tmps.getD 49 undef, a0.tmps.getD 50 undef, a0.tmps.getD 51 undef, a0.tmps.getD 52 undef, a0.tmps.getD 53 undef, a0.tmps.getD 54 undef, a0.tmps.getD 55 undef, a0.tmps.getD 56 undef, a0.tmps.getD 57 undef, a0.tmps.getD 58 undef, a0.tmps.getD 59 undef, a0.tmps.getD 60 undef, a0.tmps.getD 61 undef, a0.tmps.getD 62 undef, a0.tmps.getD 63 undef, a0.tmps.getD 64 undef, a0.tmps.getD 65 undef, a0.tmps.getD 66 undef, a0.tmps.getD 67 undef, a0.tmps.getD 68 undef, a0.tmps.getD 69 undef, a0.tmps.getD 70 undef, a0.tmps.getD 71 undef, a0.tmps.getD 72 undef, a0.tmps.getD 73 undef, a0.tmps.getD 74 undef, a0.tmps.getD 75 undef, a0.tmps.getD 76 undef, a0.tmps.getD 77 undef, a0.tmps.getD 78 undef, a0.tmps.getD 79 undef, a0.tmps.getD 80 undef, a0.tmps.getD 81 undef, a0.tmps.getD 82 undef, a0.tmps.getD 83 undef, a0.tmps.getD 84 undef, a0.tmps.getD 85 undef, a0.tmps.getD 86 undef, a0.tmps.getD 87 undef, a0.tmps.getD 88 undef, a0.tmps.getD 89 undef, a0.tmps.getD 90 undef, a0.tmps.getD 91 undef, a0.tmps.getD 92 undef, .pointer (some ⟨M5, 2, none⟩), .slice (some ⟨q5, 0, none⟩) N N, .int .i64 ((r : Nat) : Int), .int .i64 ((i : Nat) : Int), .int .i64 ((r * i : Nat) : Int), .int .i64 ((c : Nat) : Int), .int .i64 ((r * i + c : Nat) : Int), .agg #[.int .i64 ((r : Nat) : Int), .int .i64 ((m2 : Nat) : Int), .slice (some ⟨q3, 0, none⟩) N2 cap3], .int .i64 ((i : Nat) : Int), .int .i64 ((r : Nat) : Int), .int .i64 ((c : Nat) : Int), .int .i64 ((r + c : Nat) : Int), .int .u8 (((x).toNat : Nat) : Int), .pointer (some ⟨q5, r * i + c, none⟩), a0.tmps.getD 107 undef]) (by rw [hb.size, hsz]; rfl) (by rw [hb.defers]; exact hdf) ⟨e0_, e1_, e2_, e3_, e4_, e5_, e6_, e7_, e8_, e9_, e10_, e11_, e12_, e13_, e14_, e15_, e16_, e17_, e18_, e19_, e20_, e21_, e22_, e23_, e24_, e25_, e26_, e27_, e28_, e29_, e30_, e31_, e32_, e33_, e34_, e35_, e36_, e37_, e38_, e39_, e40_, e41_, e42_, e43_, e44_, e45_, e46_, e47_, e48_, e49_, e50_, e51_, e52_, e53_, e54_, e55_, e56_, e57_, e58_, e59_, e60_, e61_, e62_, e63_, e64_, e65_, e66_, e67_, e68_, e69_, e70_, e71_, e72_, e73_, e74_, e75_, e76_, e77_, e78_, e79_, e80_, e81_, e82_, e83_, e84_, e85_, e86_, e87_, e88_, e89_, e90_, e91_, e92_, e93_, e94_, e95_, e96_, e97_, e98_, e99_, e100_, e101_, e102_, e103_, e104_, e105_, e106_, e107_, trivial⟩
                have HFF := hide hf
                clear hall hb hf e0_ e1_ e2_ e3_ e4_ e5_ e6_ e7_ e8_ e9_ e10_ e11_ e12_ e13_ e14_ e15_ e16_ e17_ e18_ e19_ e20_ e21_ e22_ e23_ e24_ e25_ e26_ e27_ e28_ e29_ e30_ e31_ e32_ e33_ e34_ e35_ e36_ e37_ e38_ e39_ e40_ e41_ e42_ e43_ e44_ e45_ e46_ e47_ e48_ e49_ e50_ e51_ e52_ e53_ e54_ e55_ e56_ e57_ e58_ e59_ e60_ e61_ e62_ e63_ e64_ e65_ e66_ e67_ e68_ e69_ e70_ e71_ e72_ e73_ e74_ e75_ e76_ e77_ e78_ e79_ e80_ e81_ e82_ e83_ e84_ e85_ e86_ e87_ e88_ e89_ e90_ e91_ e92_ e93_ e94_ e95_ e96_ e97_ e98_ e99_ e100_ e101_ e102_ e103_ e104_ e105_ e106_ e107_ h5 h6 h10 h11 h12
                subst hfr
                rw [unhide HA0]
                clear HA0 hsz hdf
                apply_assumption
                go_wp2_with fail
                go_roundw
                case rel =>
                  have hY' := ((unhide HY).keptF (unhide HFF)).set i c x hin hcn
                  rw [unhide HSTEP, ← unhide HB0] at hY'
                  have fs : Fr (fun k => k = q5) w' (w'.setCell ⟨q5, r * i + c, none⟩ (.int .u8 ((x.toNat : Nat) : Int))) := (Fr.refl (fun k => k = q5) _).setCell (p := ⟨q5, r * i + c, none⟩) (fun _ => rfl) _
                  exact ⟨c + 1, by omega, by go_num, hY', ((unhide HX).keptF (unhide HFF)).kept fs (by omega) (by omega), ((unhide HZ).kept (unhide HFF) id).kept fs (by omega), ((unhide HF).trans (unhide HFF) (fun _ _ h => h)).setCell (p := ⟨q5, r * i + c, none⟩) (fun h' => by simp at h'; omega) _⟩
                case measure => simp [intOf]; omega
            · have hce : c = r := by omega
              subst hce
              have hci : ¬ (c : Int) < (c : Int) := by omega
              clear hX
              go_wp2_with fail
              go_roundw
              case rel => exact ⟨i + 1, by omega, by go_num, hY.congr (by omega) (fun a b _ hb => gK_row g i c a b hb), unhide HX, unhide HZ, unhide HF⟩
              case measure => simp [intOf]; omega
        · have hie : i = r := by omega
          subst hie
          have hii : ¬ (i : Int) < (i : Int) := by omega
          have hY0 := hY.factsN (unhide HNN) wr (Fr.refl _ _)
          have y0 := hY0.1
          have y1 := hY0.2.1
          have y2 := hY0.2.2.1
          have hz3 := (unhide HZ).there
          have hput := (unhide HZ).put (.int .i64 ((i : Nat) : Int)) (.int .i64 ((i : Nat) : Int)) (.slice (some ⟨q5, 0, none⟩) N N)
          have hfs := setCells_frame (w.heap.size + 1) [.int .i64 ((i : Nat) : Int), .int .i64 ((i : Nat) : Int), .slice (some ⟨q5, 0, none⟩) N N] 0 wr
          have hown := owns_kept (hY.congr (g := g) (by omega) (fun a b ha hb => by unfold gK; rw [if_pos (.inl ha)])).own hfs (fun b hb => by simp [Value.ownBlock] at hb; omega)
          have hil : fl i g (i * i) = invL i l := by rw [unhide HG, unhide HS]; rfl
          rw [hil] at hown
          have hown2 := hown
          rw [← unhide HNN] at hown2
          have hFF : Fr (fun _ => False) w (wr.setCells (w.heap.size + 1) 0 [.int .i64 ((i : Nat) : Int), .int .i64 ((i : Nat) : Int), .slice (some ⟨q5, 0, none⟩) N N]) := (unhide HF).trans hfs (fun i hi e => by omega)
          have HPUT := hide hput
          have HOWN := hide hown2
          have HFIN := hide hFF
          clear hput hfs hown hown2 hFF hil hY hY0
          go_wp2_with (refine wpList_store_mid rfl 24 _ _ rfl (w.heap.size + 1) 0 #[.int .i64 ((i : Nat) : Int), .int .i64 ((i : Nat) : Int), .slice (some ⟨q5, 0, none⟩) N N] rfl rfl hz3 info24_size (by simp [Value.oneCell']) ?_)
          generalize wr.setCells (w.heap.size + 1) 0 _ = W at *
          have c0 := cell_of_heap (unhide HPUT) 0
          have c1 := cell_of_heap (unhide HPUT) 1
          have c2 := cell_of_heap (unhide HPUT) 2
          simp at c0 c1 c2
          refine bodyPost_ret (v := .tuple #[.agg #[.int .i64 ((i : Nat) : Int), .int .i64 ((i : Nat) : Int), .slice (some ⟨q5, 0, none⟩) N N], .int .i64 0]) (by simp [results, Try.results20, go_sem, c0, c1, c2]) rfl ⟨⟨q5, N, rfl, by omega, unhide HOWN⟩, unhide HFIN⟩
end Go.Proofs.Ytckmddkhkdcmmaa
