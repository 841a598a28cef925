/-
  The walk of AllocCounts: each block is in one state; free ones are never fewer than are reserved.
-/
import Derived.Test.YtbpajilglfabbaaF2
import Derived.Test.YtbpajilglfabbaaBackWalk
namespace Go.Proofs.Ytbpajilglfabbaa
open Go.RowKit
set_option linter.unusedVariables false
set_option linter.unusedSimpArgs false

attribute [local go_sem ↓] Go.wp_at_zero Go.wp_at_succ

section
variable {ρ : Operand → Value} {o : Oper} {w : World}
theorem x_idx46 {x y : Operand} {b of : Nat} {i : Nat} (ho : o.op = .indexAddr 46 x y) (hx : ρ x = .pointer (some ⟨b, of, none⟩)) (hy : ρ y = .int .i64 (i : Int)) (hi : i < 5) : (execOp ρ o).run Try.prog w = .ok (.value (.pointer (some ⟨b, of + i, none⟩))) w := by
  have : (Instr.indexAt 46 (.pointer (some ⟨b, of, none⟩)) (.int .i64 (i : Int))).run Try.prog w = .ok (.pointer (some ⟨b, of + i, none⟩)) w := by
    have h1 : ¬ (i : Int) < 0 := by omega
    simp [go_sem, h1]
    intro h
    omega
  simp [execOp, ho, hx, hy, this]
theorem x_gtI {x y : Operand} {n m : Int} {b : Bool} (ho : o.op = .binOp .gtr 3 x y 3) (hx : ρ x = .int .i64 n) (hy : ρ y = .int .i64 m) (hb : decide (m < n) = b) : (execOp ρ o).run Try.prog w = .ok (.value (.bool b)) w := by
  subst hb; simp [execOp, ho, hx, hy, go_sem]
theorem x_geI {x y : Operand} {n m : Int} {b : Bool} (ho : o.op = .binOp .geq 3 x y 3) (hx : ρ x = .int .i64 n) (hy : ρ y = .int .i64 m) (hb : decide (m ≤ n) = b) : (execOp ρ o).run Try.prog w = .ok (.value (.bool b)) w := by
  subst hb; simp [execOp, ho, hx, hy, go_sem]
theorem x_leI {x y : Operand} {n m : Int} {b : Bool} (ho : o.op = .binOp .leq 3 x y 3) (hx : ρ x = .int .i64 n) (hy : ρ y = .int .i64 m) (hb : decide (n ≤ m) = b) : (execOp ρ o).run Try.prog w = .ok (.value (.bool b)) w := by
  subst hb; simp [execOp, ho, hx, hy, go_sem]
end

set_option maxRecDepth 100000 in
set_option maxHeartbeats 8000000 in
theorem allocCounts_any (w : World) (nb : Int) (v : Value) (l : List (Int × Int)) (hl : RdA w v l) : Calls Try.prog 5 #[.int .i64 nb, v] w fun e w' => e = .returned (.bool true) ∧ Fr (fun _ => False) w w' := by
  obtain ⟨ao, cap, rfl⟩ := hl.shape
  have HL := hide hl
  obtain ⟨L, hL⟩ : ∃ L, L = l.length := ⟨_, rfl⟩
  rw [← hL] at HL ⊢
  have HLL := hide hL
  clear hl hL
  have HLV : Hid (∀ W, Fr (fun _ => False) w W → Calls Try.prog 10 #[] W fun e w' => e = .returned (.bool true) ∧ Fr (fun _ => False) w w') := hide (fun W f => (live_any W).mono (fun e w' h => ⟨h.1, f.trans h.2 (fun _ _ h => h)⟩))
  by_cases g0 : 80 < L
  · have b0 : decide ((80 : Int) < (L : Int)) = true := by simp; omega
    clear g0
    go_enter Try.func5, Try.ntmps5
    go_wp2_with fail
    refine (unhide HLV _ (Fr.refl _ _)).mono ?_
    rintro e w2 ⟨rfl, f2⟩
    have HF2 := hide f2
    clear f2
    go_wp2_with fail
    go_ret
    exact ⟨rfl, unhide HF2⟩
  have b0 : decide ((80 : Int) < (L : Int)) = false := by simp; omega
  by_cases g1 : 200 < nb
  · have b1 : decide (200 < nb) = true := by simp; omega
    clear g1 g0
    go_enter Try.func5, Try.ntmps5
    go_wp2_with fail
    refine (unhide HLV _ (Fr.refl _ _)).mono ?_
    rintro e w2 ⟨rfl, f2⟩
    have HF2 := hide f2
    clear f2
    go_wp2_with fail
    go_ret
    exact ⟨rfl, unhide HF2⟩
  have b1 : decide (200 < nb) = false := by simp; omega
  by_cases hn1 : nb < 1
  · have HB : Hid (∀ W, Calls Try.prog 21 #[.int .i64 nb, .slice ao L cap] W fun e w' => e = .returned (.pointer none) ∧ W = w') := hide (fun W => begun_no W nb _ (.inl hn1))
    have b6 : decide (nb < 1) = true := by simpa using hn1
    clear hn1 g0 g1
    go_enter Try.func5, Try.ntmps5
    go_wp2_with fail
    refine (unhide HB _).mono ?_
    rintro e w' ⟨rfl, rfl⟩
    go_wp2_with fail
    refine (unhide HLV _ (Fr.refl _ _)).mono ?_
    rintro e w2 ⟨rfl, f2⟩
    have HF2 := hide f2
    clear f2
    go_wp2_with fail
    go_ret
    exact ⟨rfl, unhide HF2⟩
  obtain ⟨n, rfl⟩ : ∃ n : Nat, nb = (n : Int) := ⟨nb.toNat, by omega⟩
  have hm1 : 1 ≤ n := by omega
  have hm2 : n ≤ 200 := by omega
  have HB := hide (begun_ok w n hm1 (by omega) _ l (unhide HL) (by have := unhide HLL; omega))
  clear g0 g1 hn1
  go_enter Try.func5, Try.ntmps5
  go_wp2_with fail
  refine (unhide HB).mono ?_
  rintro e w2 ⟨p, X, K, M, rfl, hK, hM, hKl, hnew, f2, hch, hhh⟩
  have HK2 := hide hK
  have HM := hide hM
  have HKL := hide hKl
  have HF2 := hide f2
  have HLT := hide hK.lt
  obtain ⟨w3, hw3⟩ : ∃ w3, w3 = w2.alloc (.cells #[.int .i64 0, .int .i64 0, .int .i64 0, .int .i64 0, .int .i64 0] 46) := ⟨_, rfl⟩
  have f3 : Fr (fun _ => False) w2 w3 := by rw [hw3]; exact (Fr.refl _ _).alloc _
  have HG3 : Hid (w3.heap[w2.heap.size]? = some (.cells (ivs (cn K.s 0)).toArray 46 (0, 0))) := hide (by rw [hw3, heap_alloc_new]; rfl)
  have HF3 := hide f3
  have HW3 := hide hw3
  obtain ⟨g, hg⟩ : ∃ g, g = w2.heap.size := ⟨_, rfl⟩
  rw [← hg] at HG3
  have HG := hide hg
  have HGB : Hid (∀ j, Bl p X j → j ≠ g) := hide (fun j hj e => by have := hK.lt j hj; omega)
  have HGN : Hid (w.heap.size ≤ g) := hide (by have := f2.size; omega)
  clear hK hM hKl hnew f2 hch hhh HB f3 hw3
  unfold ptr at *
  go_wp2_with fail
  rw [show (w2.alloc (Obj.cells #[.int .i64 0, .int .i64 0, .int .i64 0, .int .i64 0, .int .i64 0] 46)) = w3 from (unhide HW3).symm]
  rw [← hg]
  go_loopw [7] (fun y W => ∃ i : Nat, i ≤ n ∧ y = .int .i64 (i : Int) ∧ W.heap[g]? = some (.cells (ivs (cn K.s i)).toArray 46 (0, 0)) ∧ KA W p X K ∧ Fr (fun _ => False) w W) (fun y _ => n - (intOf y).toNat)
  case atStart => exact ⟨0, by omega, rfl, unhide HG3, (unhide HK2).kept (unhide HF3) (fun _ _ h => h), (unhide HF2).trans (unhide HF3) (fun _ _ h => h)⟩
  case round =>
    clear HG3 HF3 hg HG
    obtain ⟨i, hi, rfl, hH, hK, hF⟩ := hrel
    have HH := hide hH
    have HK := hide hK
    have HF := hide hF
    by_cases hlt : i < n
    · obtain ⟨z, hz⟩ := get_ex (show i < K.s.length by have := unhide HKL; omega)
      have HSA := hide (stateI_any wr p X K (i : Int) hK)
      rw [stI_in hz] at HSA
      have hle := (unhide HM).st i z hz
      obtain ⟨f0, h0⟩ : ∃ f, f = (idk K.s 0 i).length := ⟨_, rfl⟩
      obtain ⟨f1, h1⟩ : ∃ f, f = (idk K.s 1 i).length := ⟨_, rfl⟩
      obtain ⟨f2, h2⟩ : ∃ f, f = (idk K.s 2 i).length := ⟨_, rfl⟩
      obtain ⟨f3, h3⟩ : ∃ f, f = (idk K.s 3 i).length := ⟨_, rfl⟩
      obtain ⟨f4, h4⟩ : ∃ f, f = (idk K.s 4 i).length := ⟨_, rfl⟩
      have hcn : cn K.s i = [f0, f1, f2, f3, f4] := by unfold cn; rw [h0, h1, h2, h3, h4]
      have e0 : f0 ≤ 200 := by rw [h0]; have := idk_length K.s 0 i; omega
      have e1 : f1 ≤ 200 := by rw [h1]; have := idk_length K.s 1 i; omega
      have e2 : f2 ≤ 200 := by rw [h2]; have := idk_length K.s 2 i; omega
      have e3 : f3 ≤ 200 := by rw [h3]; have := idk_length K.s 3 i; omega
      have e4 : f4 ≤ 200 := by rw [h4]; have := idk_length K.s 4 i; omega
      rw [hcn] at hH
      have c0 : wr.cell? ⟨g, 0, none⟩ = some (.int .i64 (f0 : Int)) := by rw [cell_of_heap hH]; rfl
      have c1 : wr.cell? ⟨g, 1, none⟩ = some (.int .i64 (f1 : Int)) := by rw [cell_of_heap hH]; rfl
      have c2 : wr.cell? ⟨g, 2, none⟩ = some (.int .i64 (f2 : Int)) := by rw [cell_of_heap hH]; rfl
      have c3 : wr.cell? ⟨g, 3, none⟩ = some (.int .i64 (f3 : Int)) := by rw [cell_of_heap hH]; rfl
      have c4 : wr.cell? ⟨g, 4, none⟩ = some (.int .i64 (f4 : Int)) := by rw [cell_of_heap hH]; rfl
      have z0 := frozen_of_heap hH 0
      have z1 := frozen_of_heap hH 1
      have z2 := frozen_of_heap hH 2
      have z3 := frozen_of_heap hH 3
      have z4 := frozen_of_heap hH 4
      have HMV : Hid (∀ t u, KA (wr.setCell ⟨g, t, none⟩ u) p X K ∧ Fr (fun _ => False) w (wr.setCell ⟨g, t, none⟩ u)) := hide (fun t u => by
        have fg : Fr (fun k => k = g) wr (wr.setCell ⟨g, t, none⟩ u) := Fr.setCell (S := fun k => k = g) (Fr.refl _ _) (p := ⟨g, t, none⟩) (fun _ => rfl) _
        exact ⟨hK.kept fg (fun j hj e => unhide HGB j hj e), hF.trans fg (fun j hj e => by have := unhide HGN; omega)⟩)
      have HCN := hide hcn
      have HH5 := hide hH
      unfold ptr at *
      clear hH hK hF HH h0 h1 h2 h3 h4 hcn
      rcases le4 hle with rfl | rfl | rfl | rfl | rfl
      · have HS := hide (cn0 hz (unhide HCN))
        clear hz hle
        go_wp2_with fail
        refine (unhide HSA).mono ?_
        rintro e w' ⟨rfl, rfl⟩
        go_wp2_with fail
        go_roundw
        case rel =>
          obtain ⟨r1, r2⟩ := unhide HMV 0 (.int .i64 ((f0 : Int) + 1))
          refine ⟨i + 1, by omega, by go_num, ?_, r1, r2⟩
          rw [unhide HS]
          exact heapC_set (unhide HH5) 0 _
        case measure => simp [intOf]; omega
      · have HS := hide (cn1 hz (unhide HCN))
        clear hz hle
        go_wp2_with fail
        refine (unhide HSA).mono ?_
        rintro e w' ⟨rfl, rfl⟩
        go_wp2_with fail
        go_roundw
        case rel =>
          obtain ⟨r1, r2⟩ := unhide HMV 1 (.int .i64 ((f1 : Int) + 1))
          refine ⟨i + 1, by omega, by go_num, ?_, r1, r2⟩
          rw [unhide HS]
          exact heapC_set (unhide HH5) 1 _
        case measure => simp [intOf]; omega
      · have HS := hide (cn2 hz (unhide HCN))
        clear hz hle
        go_wp2_with fail
        refine (unhide HSA).mono ?_
        rintro e w' ⟨rfl, rfl⟩
        go_wp2_with fail
        go_roundw
        case rel =>
          obtain ⟨r1, r2⟩ := unhide HMV 2 (.int .i64 ((f2 : Int) + 1))
          refine ⟨i + 1, by omega, by go_num, ?_, r1, r2⟩
          rw [unhide HS]
          exact heapC_set (unhide HH5) 2 _
        case measure => simp [intOf]; omega
      · have HS := hide (cn3 hz (unhide HCN))
        clear hz hle
        go_wp2_with fail
        refine (unhide HSA).mono ?_
        rintro e w' ⟨rfl, rfl⟩
        go_wp2_with fail
        go_roundw
        case rel =>
          obtain ⟨r1, r2⟩ := unhide HMV 3 (.int .i64 ((f3 : Int) + 1))
          refine ⟨i + 1, by omega, by go_num, ?_, r1, r2⟩
          rw [unhide HS]
          exact heapC_set (unhide HH5) 3 _
        case measure => simp [intOf]; omega
      · have HS := hide (cn4 hz (unhide HCN))
        clear hz hle
        go_wp2_with fail
        refine (unhide HSA).mono ?_
        rintro e w' ⟨rfl, rfl⟩
        go_wp2_with fail
        go_roundw
        case rel =>
          obtain ⟨r1, r2⟩ := unhide HMV 4 (.int .i64 ((f4 : Int) + 1))
          refine ⟨i + 1, by omega, by go_num, ?_, r1, r2⟩
          rw [unhide HS]
          exact heapC_set (unhide HH5) 4 _
        case measure => simp [intOf]; omega
    · have hie : i = n := by omega
      subst hie
      have HRN := hide (runs_any wr p X K hK)
      clear hH hK hF
      unfold ptr at *
      go_wp2_with fail
      refine (unhide HRN).mono ?_
      rintro e w5 ⟨⟨x, rfl, hx⟩, f5⟩
      have HK5 := hide ((unhide HK).kept f5 (fun _ _ h => h))
      have HF5 := hide ((unhide HF).trans f5 (fun _ _ h => h))
      have HH5 : Hid (w5.heap[g]? = some (.cells (ivs (cn K.s i)).toArray 46 (0, 0))) := hide (by rw [f5.block g (lt_of_heap (unhide HH)) id]; exact unhide HH)
      have HX := hide hx
      have hfr : fr K.s ≤ 200 := by have := fr_le K.s; have := unhide HKL; omega
      have HFRL := hide hfr
      have HSQ := hide (sq_rn K.s)
      obtain ⟨xo, xc, rfl⟩ := hx.shape
      have hrl : (rn K.s).length ≤ 200 := by unfold rn; have := rnK_len K.s K.s.length; have := unhide HKL; omega
      obtain ⟨R, hR⟩ : ∃ R, R = (rn K.s).length := ⟨_, rfl⟩
      rw [← hR] at HX hrl ⊢
      have HR := hide hR
      clear hx f5 HRN HK HF HH hR hfr
      go_wp2_with fail
      go_loopw [11, 9] (fun y s W => ∃ j m : Nat, j ≤ R ∧ y = .int .i64 (j : Int) ∧ s = .int .i64 (m : Int) ∧ m = sq ((rn K.s).take j) ∧ W = w5) (fun y _ _ => R - (intOf y).toNat)
      case atStart => exact ⟨0, 0, by omega, rfl, rfl, by simp [sq], rfl⟩
      case round =>
        obtain ⟨j, m, hj, rfl, rfl, hm, rfl⟩ := hrel
        have hmle : m ≤ 200 := by rw [hm]; have h1 := sq_take_le (rn K.s) j; have h2 := unhide HSQ; have h3 := unhide HFRL; omega
        have HMM := hide hm
        clear hm
        by_cases hjl : j < R
        · have j1 : j < (rn K.s).length := by have := unhide HR; omega
          obtain ⟨rg, rcc, hv, hrc, hcc⟩ := (unhide HX).cells (by omega)
          simp only [Value.slice.injEq] at hv
          obtain ⟨rfl, -, rfl⟩ := hv
          obtain ⟨y0, y1⟩ := hcc j j1
          have HST := hide (sq_take (rn K.s) j j1)
          have hq2 : (rn K.s)[j].2 ≤ 200 := by
            have h1 := sq_take_le (rn K.s) (j + 1)
            have h2 := unhide HSQ
            have h3 := unhide HFRL
            have h4 := unhide HST
            omega
          generalize (rn K.s)[j].2 = qq at *
          have hjc : j < xc := by have := unhide HR; omega
          clear hcc y0 j1 hrc
          go_wp2_with fail
          go_roundw
          case rel => exact ⟨j + 1, m + qq, by omega, by go_num, by go_num, by rw [unhide HST, unhide HMM], trivial⟩
          case measure => simp [intOf]; omega
        · have hje : j = R := by omega
          subst hje
          have hmf : m = fr K.s := by rw [unhide HMM, List.take_of_length_le (by have := unhide HR; omega), unhide HSQ]
          subst hmf
          obtain ⟨f0, h0⟩ : ∃ f, f = (idk K.s 0 i).length := ⟨_, rfl⟩
          obtain ⟨f1, h1⟩ : ∃ f, f = (idk K.s 1 i).length := ⟨_, rfl⟩
          obtain ⟨f2, h2⟩ : ∃ f, f = (idk K.s 2 i).length := ⟨_, rfl⟩
          obtain ⟨f3, h3⟩ : ∃ f, f = (idk K.s 3 i).length := ⟨_, rfl⟩
          obtain ⟨f4, h4⟩ : ∃ f, f = (idk K.s 4 i).length := ⟨_, rfl⟩
          have hcn : cn K.s i = [f0, f1, f2, f3, f4] := by unfold cn; rw [h0, h1, h2, h3, h4]
          have HFR0 : Hid (fr K.s = f0) := hide (by rw [fr_idx, h0]; unfold idx; rw [unhide HKL])
          have HT2 : Hid (M.t.length = f2) := hide (by rw [← (unhide HM).perm_t.length_eq, h2]; unfold idx; rw [unhide HKL])
          have HT3 : Hid (M.g.length = f3) := hide (by rw [← (unhide HM).perm_g.length_eq, h3]; unfold idx; rw [unhide HKL])
          have HT4 : Hid (f4 = 0 ∨ (¬ f4 = 0 ∧ 0 < K.h)) := hide (by
            by_cases hf : f4 = 0
            · exact .inl hf
            · refine .inr ⟨hf, ?_⟩
              rcases Nat.eq_zero_or_pos K.h with hk | hk
              · exfalso
                apply hf
                rw [h4]
                have : idk K.s 4 i = [] := by
                  rw [List.eq_nil_iff_forall_not_mem]
                  intro b hb
                  exact (unhide HM).hh hk b (mem_idk.1 hb).2
                rw [this]; rfl
              · exact hk)
          have HRF := hide (unhide HM).rf
          have HHC : Hid (wr.heap[g]? = some (.cells (ivs [f0, f1, f2, f3, f4]).toArray 46 (0, 0))) := hide (by rw [← hcn]; exact unhide HH5)
          clear h0 h1 h2 h3 h4 hcn HH5 HX HMM HSQ hjl hmle
          rw [unhide HFR0]
          go_wp2_with fail
          rcases unhide HT4 with h4 | ⟨h5, h6⟩
          · refine wp_nameK ?_
            intro a0 hA
            have h5 : a0.tmps.getD 5 undef = .pointer (some ⟨p, 0, none⟩) := by rw [hA]; rfl
            have h6 : a0.tmps.getD 6 undef = .pointer (some ⟨g, 0, none⟩) := by rw [hA]; rfl
            have h9 : a0.tmps.getD 9 undef = .int .i64 (f0 : Int) := by rw [hA]; rfl
            have hsz : a0.tmps.size = 116 := by rw [hA]; rfl
            have hdf : a0.defers = [] := by rw [hA]
            clear hA
            refine wp_region_kinds3 (fun _ => False) (by kernel_rfl) (by kernel_rfl) (by decide +kernel) (by rw [hsz]; decide +kernel) [.eq (.pointer (some ⟨g, 0, none⟩)), .eq (.int .i64 (f0 : Int)), .eq (.pointer (some ⟨p, 0, none⟩)), .eq (.int .i64 (f0 : Int)), .eq (.bool true), .eq (.bool true), .eq (.int .i64 (f0 : Int)), .eq (.pointer (some ⟨p, 0, none⟩)), .eq (.int .i64 (f0 : Int)), .eq (.bool true), .eq (.bool true), .eq (.bool true), .eq (.pointer (some ⟨g, 2, none⟩)), .eq (.int .i64 (f2 : Int)), .eq (.pointer (some ⟨p, 0, none⟩)), kLn f2, .eq (.int .i64 (f2 : Int)), .eq (.bool true), .eq (.bool true), .eq (.bool true), .eq (.pointer (some ⟨g, 3, none⟩)), .eq (.int .i64 (f3 : Int)), .eq (.pointer (some ⟨p, 0, none⟩)), kLn f3, .eq (.int .i64 (f3 : Int)), .eq (.bool true), .eq (.bool true), .eq (.bool true), .eq (.pointer (some ⟨g, 4, none⟩)), .eq (.int .i64 (f4 : Int)), .eq (.bool true), .eq (.bool true), .eq undef, .eq undef, .eq undef, .eq (.bool true), .eq (.bool true), .eq (.bool true), .eq (.pointer (some ⟨p, 0, none⟩)), .eq (.int .i64 (K.r : Int)), .eq (.bool true), .eq (.bool true), .eq (.bool true), .eq (.pointer (some ⟨p, 0, none⟩)), .eq (.int .i64 (K.r : Int)), .eq (.pointer (some ⟨p, 0, none⟩)), .eq (.int .i64 (f0 : Int)), .eq (.bool true), .eq (.bool true), .eq (.bool true), .eq (.bool true), .eq (.bool true), .eq (.bool true)] [] (by decide) (by decide) (nopaths) (fun _ W => Fr (fun _ => False) wr W) (Fr.refl _ _).drew ?steps ?done
            case steps =>
              refine ⟨?_, ?_⟩
              · intro a' w' k' hb hf hs hc hq hg hd
                exact .inl ⟨wantedN rfl, k_val (.pointer (some ⟨g, 0, none⟩)) (by decide) hs (x_idx46 (of := 0) (i := 0) rfl ((hb.old 6 (by decide +kernel)).trans h6) rfl (by decide)) rfl⟩
              refine ⟨?_, ?_⟩
              · intro a' w' k' hb hf hs hc hq hg hd
                have hgg : w'.heap[g]? = _ := (hs.block g (lt_of_heap (unhide HHC)) id).trans (unhide HHC); exact .inl ⟨wantedN rfl, k_val (.int .i64 (f0 : Int)) (by decide) hs (x_load1 ld3 rfl (hd 0 (by kernel_rfl) 64 rfl) (by rw [cell_of_heap hgg]; rfl)) rfl⟩
              refine ⟨?_, ?_⟩
              · intro a' w' k' hb hf hs hc hq hg hd
                exact .inl ⟨wantedN rfl, k_val (.pointer (some ⟨p, 0, none⟩)) (by decide) hs (x_move rfl ((hb.old 5 (by decide +kernel)).trans h5)) rfl⟩
              refine ⟨?_, ?_⟩
              · intro a' w' k' hb hf hs hc hq hg hd
                exact .inl ⟨wantedN rfl, k_call 19 _ (by decide) (e_call1 rfl rfl (hd 2 (by kernel_rfl) 66 rfl) cf19) ((free_any _ p X K ((unhide HK5).kept hs (fun _ _ h => h))).mono (by rintro e w7 ⟨rfl, rfl⟩; exact ⟨_, rfl, (show Value.int .i64 _ = _ by rw [unhide HFR0]), Fr.refl _ _, hs⟩))⟩
              refine ⟨?_, ?_⟩
              · intro a' w' k' hb hf hs hc hq hg hd
                exact .inl ⟨wantedN rfl, k_val (.bool true) (by decide) hs (x_eqI Try.underlying3 rfl (hd 1 (by kernel_rfl) 65 rfl) (hd 3 (by kernel_rfl) 67 rfl) (by first | rfl | decide | simp)) rfl⟩
              refine ⟨?_, ?_⟩
              · intro a' w' k' hb hf hs hc hq hg hd
                exact .inl ⟨wantedN rfl, k_val (.bool true) (by decide) hs (x_move rfl (hd 4 (by kernel_rfl) 68 rfl)) rfl⟩
              refine ⟨?_, ?_⟩
              · intro a' w' k' hb hf hs hc hq hg hd
                exact .inl ⟨wantedT (d := 69) rfl rfl (by rw [hb.size, hsz]; omega) (hd 5 (by kernel_rfl) 69 rfl), k_val (.int .i64 (f0 : Int)) (by decide) hs (x_move rfl ((hb.old 9 (by decide +kernel)).trans h9)) rfl⟩
              refine ⟨?_, ?_⟩
              · intro a' w' k' hb hf hs hc hq hg hd
                exact .inl ⟨wantedT (d := 69) rfl rfl (by rw [hb.size, hsz]; omega) (hd 5 (by kernel_rfl) 69 rfl), k_val (.pointer (some ⟨p, 0, none⟩)) (by decide) hs (x_move rfl ((hb.old 5 (by decide +kernel)).trans h5)) rfl⟩
              refine ⟨?_, ?_⟩
              · intro a' w' k' hb hf hs hc hq hg hd
                exact .inl ⟨wantedT (d := 69) rfl rfl (by rw [hb.size, hsz]; omega) (hd 5 (by kernel_rfl) 69 rfl), k_call 19 _ (by decide) (e_call1 rfl rfl (hd 7 (by kernel_rfl) 71 rfl) cf19) ((free_any _ p X K ((unhide HK5).kept hs (fun _ _ h => h))).mono (by rintro e w7 ⟨rfl, rfl⟩; exact ⟨_, rfl, (show Value.int .i64 _ = _ by rw [unhide HFR0]), Fr.refl _ _, hs⟩))⟩
              refine ⟨?_, ?_⟩
              · intro a' w' k' hb hf hs hc hq hg hd
                exact .inl ⟨wantedT (d := 69) rfl rfl (by rw [hb.size, hsz]; omega) (hd 5 (by kernel_rfl) 69 rfl), k_val (.bool true) (by decide) hs (x_eqI Try.underlying3 rfl (hd 6 (by kernel_rfl) 70 rfl) (hd 8 (by kernel_rfl) 72 rfl) (by first | rfl | decide | simp)) rfl⟩
              refine ⟨?_, ?_⟩
              · intro a' w' k' hb hf hs hc hq hg hd
                exact .inl ⟨wantedN rfl, k_val (.bool true) (by decide) hs (x_pickT rfl (hd 5 (by kernel_rfl) 69 rfl) (hd 9 (by kernel_rfl) 73 rfl)) rfl⟩
              refine ⟨?_, ?_⟩
              · intro a' w' k' hb hf hs hc hq hg hd
                exact .inl ⟨wantedN rfl, k_val (.bool true) (by decide) hs (x_move rfl (hd 10 (by kernel_rfl) 74 rfl)) rfl⟩
              refine ⟨?_, ?_⟩
              · intro a' w' k' hb hf hs hc hq hg hd
                exact .inl ⟨wantedT (d := 75) rfl rfl (by rw [hb.size, hsz]; omega) (hd 11 (by kernel_rfl) 75 rfl), k_val (.pointer (some ⟨g, 2, none⟩)) (by decide) hs (x_idx46 (of := 0) (i := 2) rfl ((hb.old 6 (by decide +kernel)).trans h6) rfl (by decide)) rfl⟩
              refine ⟨?_, ?_⟩
              · intro a' w' k' hb hf hs hc hq hg hd
                have hgg : w'.heap[g]? = _ := (hs.block g (lt_of_heap (unhide HHC)) id).trans (unhide HHC); exact .inl ⟨wantedT (d := 75) rfl rfl (by rw [hb.size, hsz]; omega) (hd 11 (by kernel_rfl) 75 rfl), k_val (.int .i64 (f2 : Int)) (by decide) hs (x_load1 ld3 rfl (hd 12 (by kernel_rfl) 76 rfl) (by rw [cell_of_heap hgg]; rfl)) rfl⟩
              refine ⟨?_, ?_⟩
              · intro a' w' k' hb hf hs hc hq hg hd
                exact .inl ⟨wantedT (d := 75) rfl rfl (by rw [hb.size, hsz]; omega) (hd 11 (by kernel_rfl) 75 rfl), k_val (.pointer (some ⟨p, 0, none⟩)) (by decide) hs (x_move rfl ((hb.old 5 (by decide +kernel)).trans h5)) rfl⟩
              refine ⟨?_, ?_⟩
              · intro a' w' k' hb hf hs hc hq hg hd
                exact .inl ⟨wantedT (d := 75) rfl rfl (by rw [hb.size, hsz]; omega) (hd 11 (by kernel_rfl) 75 rfl), k_call 24 _ (by decide) (e_call1 rfl rfl (hd 14 (by kernel_rfl) 78 rfl) cf24) ((taken_ln _ p X _ _ ((unhide HK5).kept hs (fun _ _ h => h)) (unhide HM) f2 (unhide HT2)).mono (by rintro e w7 ⟨v7, rfl, h7, f⟩; exact ⟨_, rfl, h7, f, Fr.trans hs f (fun _ _ h => h)⟩))⟩
              refine ⟨?_, ?_⟩
              · intro a' w' k' hb hf hs hc hq hg hd
                obtain ⟨ao7, c7, hh⟩ : ∃ ao c, a'.tmps.getD 79 undef = .slice ao f2 c := (hd 15 (by kernel_rfl) 79 rfl); exact .inl ⟨wantedT (d := 75) rfl rfl (by rw [hb.size, hsz]; omega) (hd 11 (by kernel_rfl) 75 rfl), k_val (.int .i64 (f2 : Int)) (by decide) hs (x_len51 (n := f2) rfl hh) rfl⟩
              refine ⟨?_, ?_⟩
              · intro a' w' k' hb hf hs hc hq hg hd
                exact .inl ⟨wantedT (d := 75) rfl rfl (by rw [hb.size, hsz]; omega) (hd 11 (by kernel_rfl) 75 rfl), k_val (.bool true) (by decide) hs (x_eqI Try.underlying3 rfl (hd 13 (by kernel_rfl) 77 rfl) (hd 16 (by kernel_rfl) 80 rfl) (by first | rfl | decide | simp)) rfl⟩
              refine ⟨?_, ?_⟩
              · intro a' w' k' hb hf hs hc hq hg hd
                exact .inl ⟨wantedN rfl, k_val (.bool true) (by decide) hs (x_pickT rfl (hd 11 (by kernel_rfl) 75 rfl) (hd 17 (by kernel_rfl) 81 rfl)) rfl⟩
              refine ⟨?_, ?_⟩
              · intro a' w' k' hb hf hs hc hq hg hd
                exact .inl ⟨wantedN rfl, k_val (.bool true) (by decide) hs (x_move rfl (hd 18 (by kernel_rfl) 82 rfl)) rfl⟩
              refine ⟨?_, ?_⟩
              · intro a' w' k' hb hf hs hc hq hg hd
                exact .inl ⟨wantedT (d := 83) rfl rfl (by rw [hb.size, hsz]; omega) (hd 19 (by kernel_rfl) 83 rfl), k_val (.pointer (some ⟨g, 3, none⟩)) (by decide) hs (x_idx46 (of := 0) (i := 3) rfl ((hb.old 6 (by decide +kernel)).trans h6) rfl (by decide)) rfl⟩
              refine ⟨?_, ?_⟩
              · intro a' w' k' hb hf hs hc hq hg hd
                have hgg : w'.heap[g]? = _ := (hs.block g (lt_of_heap (unhide HHC)) id).trans (unhide HHC); exact .inl ⟨wantedT (d := 83) rfl rfl (by rw [hb.size, hsz]; omega) (hd 19 (by kernel_rfl) 83 rfl), k_val (.int .i64 (f3 : Int)) (by decide) hs (x_load1 ld3 rfl (hd 20 (by kernel_rfl) 84 rfl) (by rw [cell_of_heap hgg]; rfl)) rfl⟩
              refine ⟨?_, ?_⟩
              · intro a' w' k' hb hf hs hc hq hg hd
                exact .inl ⟨wantedT (d := 83) rfl rfl (by rw [hb.size, hsz]; omega) (hd 19 (by kernel_rfl) 83 rfl), k_val (.pointer (some ⟨p, 0, none⟩)) (by decide) hs (x_move rfl ((hb.old 5 (by decide +kernel)).trans h5)) rfl⟩
              refine ⟨?_, ?_⟩
              · intro a' w' k' hb hf hs hc hq hg hd
                exact .inl ⟨wantedT (d := 83) rfl rfl (by rw [hb.size, hsz]; omega) (hd 19 (by kernel_rfl) 83 rfl), k_call 25 _ (by decide) (e_call1 rfl rfl (hd 22 (by kernel_rfl) 86 rfl) cf25) ((given_ln _ p X _ _ ((unhide HK5).kept hs (fun _ _ h => h)) (unhide HM) f3 (unhide HT3)).mono (by rintro e w7 ⟨v7, rfl, h7, f⟩; exact ⟨_, rfl, h7, f, Fr.trans hs f (fun _ _ h => h)⟩))⟩
              refine ⟨?_, ?_⟩
              · intro a' w' k' hb hf hs hc hq hg hd
                obtain ⟨ao7, c7, hh⟩ : ∃ ao c, a'.tmps.getD 87 undef = .slice ao f3 c := (hd 23 (by kernel_rfl) 87 rfl); exact .inl ⟨wantedT (d := 83) rfl rfl (by rw [hb.size, hsz]; omega) (hd 19 (by kernel_rfl) 83 rfl), k_val (.int .i64 (f3 : Int)) (by decide) hs (x_len51 (n := f3) rfl hh) rfl⟩
              refine ⟨?_, ?_⟩
              · intro a' w' k' hb hf hs hc hq hg hd
                exact .inl ⟨wantedT (d := 83) rfl rfl (by rw [hb.size, hsz]; omega) (hd 19 (by kernel_rfl) 83 rfl), k_val (.bool true) (by decide) hs (x_eqI Try.underlying3 rfl (hd 21 (by kernel_rfl) 85 rfl) (hd 24 (by kernel_rfl) 88 rfl) (by first | rfl | decide | simp)) rfl⟩
              refine ⟨?_, ?_⟩
              · intro a' w' k' hb hf hs hc hq hg hd
                exact .inl ⟨wantedN rfl, k_val (.bool true) (by decide) hs (x_pickT rfl (hd 19 (by kernel_rfl) 83 rfl) (hd 25 (by kernel_rfl) 89 rfl)) rfl⟩
              refine ⟨?_, ?_⟩
              · intro a' w' k' hb hf hs hc hq hg hd
                exact .inl ⟨wantedN rfl, k_val (.bool true) (by decide) hs (x_move rfl (hd 26 (by kernel_rfl) 90 rfl)) rfl⟩
              refine ⟨?_, ?_⟩
              · intro a' w' k' hb hf hs hc hq hg hd
                exact .inl ⟨wantedT (d := 91) rfl rfl (by rw [hb.size, hsz]; omega) (hd 27 (by kernel_rfl) 91 rfl), k_val (.pointer (some ⟨g, 4, none⟩)) (by decide) hs (x_idx46 (of := 0) (i := 4) rfl ((hb.old 6 (by decide +kernel)).trans h6) rfl (by decide)) rfl⟩
              refine ⟨?_, ?_⟩
              · intro a' w' k' hb hf hs hc hq hg hd
                have hgg : w'.heap[g]? = _ := (hs.block g (lt_of_heap (unhide HHC)) id).trans (unhide HHC); exact .inl ⟨wantedT (d := 91) rfl rfl (by rw [hb.size, hsz]; omega) (hd 27 (by kernel_rfl) 91 rfl), k_val (.int .i64 (f4 : Int)) (by decide) hs (x_load1 ld3 rfl (hd 28 (by kernel_rfl) 92 rfl) (by rw [cell_of_heap hgg]; rfl)) rfl⟩
              refine ⟨?_, ?_⟩
              · intro a' w' k' hb hf hs hc hq hg hd
                exact .inl ⟨wantedT (d := 91) rfl rfl (by rw [hb.size, hsz]; omega) (hd 27 (by kernel_rfl) 91 rfl), k_val (.bool true) (by decide) hs (x_eqI Try.underlying3 rfl (hd 29 (by kernel_rfl) 93 rfl) rfl (by rw [h4]; rfl)) rfl⟩
              refine ⟨?_, ?_⟩
              · intro a' w' k' hb hf hs hc hq hg hd
                exact .inl ⟨wantedT (d := 91) rfl rfl (by rw [hb.size, hsz]; omega) (hd 27 (by kernel_rfl) 91 rfl), k_val (.bool true) (by decide) hs (x_move rfl (hd 30 (by kernel_rfl) 94 rfl)) rfl⟩
              refine ⟨?_, ?_⟩
              · intro a' w' k' hb hf hs hc hq hg hd
                exact .inr ⟨offF (d := 95) rfl rfl (by rw [hb.size, hsz]; omega) (hd 31 (by kernel_rfl) 95 rfl), by decide, rfl, Fr.refl _ _⟩
              refine ⟨?_, ?_⟩
              · intro a' w' k' hb hf hs hc hq hg hd
                exact .inr ⟨offF (d := 95) rfl rfl (by rw [hb.size, hsz]; omega) (hd 31 (by kernel_rfl) 95 rfl), by decide, rfl, Fr.refl _ _⟩
              refine ⟨?_, ?_⟩
              · intro a' w' k' hb hf hs hc hq hg hd
                exact .inr ⟨offF (d := 95) rfl rfl (by rw [hb.size, hsz]; omega) (hd 31 (by kernel_rfl) 95 rfl), by decide, rfl, Fr.refl _ _⟩
              refine ⟨?_, ?_⟩
              · intro a' w' k' hb hf hs hc hq hg hd
                exact .inl ⟨wantedT (d := 91) rfl rfl (by rw [hb.size, hsz]; omega) (hd 27 (by kernel_rfl) 91 rfl), k_val (.bool true) (by decide) hs (x_pickT rfl (hd 31 (by kernel_rfl) 95 rfl) rfl) rfl⟩
              refine ⟨?_, ?_⟩
              · intro a' w' k' hb hf hs hc hq hg hd
                exact .inl ⟨wantedN rfl, k_val (.bool true) (by decide) hs (x_pickT rfl (hd 27 (by kernel_rfl) 91 rfl) (hd 35 (by kernel_rfl) 99 rfl)) rfl⟩
              refine ⟨?_, ?_⟩
              · intro a' w' k' hb hf hs hc hq hg hd
                exact .inl ⟨wantedN rfl, k_val (.bool true) (by decide) hs (x_move rfl (hd 36 (by kernel_rfl) 100 rfl)) rfl⟩
              refine ⟨?_, ?_⟩
              · intro a' w' k' hb hf hs hc hq hg hd
                exact .inl ⟨wantedT (d := 101) rfl rfl (by rw [hb.size, hsz]; omega) (hd 37 (by kernel_rfl) 101 rfl), k_val (.pointer (some ⟨p, 0, none⟩)) (by decide) hs (x_move rfl ((hb.old 5 (by decide +kernel)).trans h5)) rfl⟩
              refine ⟨?_, ?_⟩
              · intro a' w' k' hb hf hs hc hq hg hd
                exact .inl ⟨wantedT (d := 101) rfl rfl (by rw [hb.size, hsz]; omega) (hd 37 (by kernel_rfl) 101 rfl), k_call 27 _ (by decide) (e_call1 rfl rfl (hd 38 (by kernel_rfl) 102 rfl) cf27) ((reserved_any _ p X K ((unhide HK5).kept hs (fun _ _ h => h))).mono (by rintro e w7 ⟨rfl, rfl⟩; exact ⟨_, rfl, rfl, Fr.refl _ _, hs⟩))⟩
              refine ⟨?_, ?_⟩
              · intro a' w' k' hb hf hs hc hq hg hd
                exact .inl ⟨wantedT (d := 101) rfl rfl (by rw [hb.size, hsz]; omega) (hd 37 (by kernel_rfl) 101 rfl), k_val (.bool true) (by decide) hs (x_geI rfl (hd 39 (by kernel_rfl) 103 rfl) rfl (by simp)) rfl⟩
              refine ⟨?_, ?_⟩
              · intro a' w' k' hb hf hs hc hq hg hd
                exact .inl ⟨wantedN rfl, k_val (.bool true) (by decide) hs (x_pickT rfl (hd 37 (by kernel_rfl) 101 rfl) (hd 40 (by kernel_rfl) 104 rfl)) rfl⟩
              refine ⟨?_, ?_⟩
              · intro a' w' k' hb hf hs hc hq hg hd
                exact .inl ⟨wantedN rfl, k_val (.bool true) (by decide) hs (x_move rfl (hd 41 (by kernel_rfl) 105 rfl)) rfl⟩
              refine ⟨?_, ?_⟩
              · intro a' w' k' hb hf hs hc hq hg hd
                exact .inl ⟨wantedT (d := 106) rfl rfl (by rw [hb.size, hsz]; omega) (hd 42 (by kernel_rfl) 106 rfl), k_val (.pointer (some ⟨p, 0, none⟩)) (by decide) hs (x_move rfl ((hb.old 5 (by decide +kernel)).trans h5)) rfl⟩
              refine ⟨?_, ?_⟩
              · intro a' w' k' hb hf hs hc hq hg hd
                exact .inl ⟨wantedT (d := 106) rfl rfl (by rw [hb.size, hsz]; omega) (hd 42 (by kernel_rfl) 106 rfl), k_call 27 _ (by decide) (e_call1 rfl rfl (hd 43 (by kernel_rfl) 107 rfl) cf27) ((reserved_any _ p X K ((unhide HK5).kept hs (fun _ _ h => h))).mono (by rintro e w7 ⟨rfl, rfl⟩; exact ⟨_, rfl, rfl, Fr.refl _ _, hs⟩))⟩
              refine ⟨?_, ?_⟩
              · intro a' w' k' hb hf hs hc hq hg hd
                exact .inl ⟨wantedT (d := 106) rfl rfl (by rw [hb.size, hsz]; omega) (hd 42 (by kernel_rfl) 106 rfl), k_val (.pointer (some ⟨p, 0, none⟩)) (by decide) hs (x_move rfl ((hb.old 5 (by decide +kernel)).trans h5)) rfl⟩
              refine ⟨?_, ?_⟩
              · intro a' w' k' hb hf hs hc hq hg hd
                exact .inl ⟨wantedT (d := 106) rfl rfl (by rw [hb.size, hsz]; omega) (hd 42 (by kernel_rfl) 106 rfl), k_call 19 _ (by decide) (e_call1 rfl rfl (hd 45 (by kernel_rfl) 109 rfl) cf19) ((free_any _ p X K ((unhide HK5).kept hs (fun _ _ h => h))).mono (by rintro e w7 ⟨rfl, rfl⟩; exact ⟨_, rfl, (show Value.int .i64 _ = _ by rw [unhide HFR0]), Fr.refl _ _, hs⟩))⟩
              refine ⟨?_, ?_⟩
              · intro a' w' k' hb hf hs hc hq hg hd
                exact .inl ⟨wantedT (d := 106) rfl rfl (by rw [hb.size, hsz]; omega) (hd 42 (by kernel_rfl) 106 rfl), k_val (.bool true) (by decide) hs (x_leI rfl (hd 44 (by kernel_rfl) 108 rfl) (hd 46 (by kernel_rfl) 110 rfl) (by have := unhide HRF; rw [unhide HFR0] at this; simp; omega)) rfl⟩
              refine ⟨?_, ?_⟩
              · intro a' w' k' hb hf hs hc hq hg hd
                exact .inl ⟨wantedN rfl, k_val (.bool true) (by decide) hs (x_pickT rfl (hd 42 (by kernel_rfl) 106 rfl) (hd 47 (by kernel_rfl) 111 rfl)) rfl⟩
              refine ⟨?_, ?_⟩
              · intro a' w' k' hb hf hs hc hq hg hd
                exact .inl ⟨wantedN rfl, k_val (.bool true) (by decide) hs (x_move rfl (hd 48 (by kernel_rfl) 112 rfl)) rfl⟩
              refine ⟨?_, ?_⟩
              · intro a' w' k' hb hf hs hc hq hg hd
                exact .inl ⟨wantedT (d := 113) rfl rfl (by rw [hb.size, hsz]; omega) (hd 49 (by kernel_rfl) 113 rfl), k_call 10 _ (by decide) (e_call0 rfl rfl cf10) ((live_any _).mono (by rintro e w7 ⟨rfl, f⟩; exact ⟨_, rfl, rfl, f, Fr.trans hs f (fun _ _ h => h)⟩))⟩
              refine ⟨?_, ?_⟩
              · intro a' w' k' hb hf hs hc hq hg hd
                exact .inl ⟨wantedN rfl, k_val (.bool true) (by decide) hs (x_pickT rfl (hd 49 (by kernel_rfl) 113 rfl) (hd 50 (by kernel_rfl) 114 rfl)) rfl⟩
              refine ⟨?_, ?_⟩
              · intro a' w' k' hb hf hs hc hq hg hd
                exact .inl ⟨wantedN rfl, k_val (.bool true) (by decide) hs (x_assign rfl (hd 51 (by kernel_rfl) 115 rfl)) rfl⟩
              exact trivial
            case done =>
              intro a' w' hb hf hs hall
              have hres : a'.tmps.getD 4 undef = .bool true := hall 52 (by decide) 4 rfl
              have hdf' : a'.defers = [] := by rw [hb.defers]; exact hdf
              have hF : Fr (fun _ => False) w w' := (unhide HF5).trans hf (fun _ _ h => h)
              have hr : bodyPost Try.prog Try.f5 (fun e w' => e = Ending.returned (Value.bool true) ∧ Fr (fun x => False) w w') .ret a' w' :=
                bodyPost_ret (v := .bool true) (by
                  have h6' : a'.tmps[4]?.getD undef = .bool true := by simpa using hres
                  simp [results, Try.results5, go_sem, h6']) hdf' ⟨rfl, hF⟩
              clear hall hb
              apply_assumption
              exact wp_ret hr
          · refine wp_nameK ?_
            intro a0 hA
            have h5 : a0.tmps.getD 5 undef = .pointer (some ⟨p, 0, none⟩) := by rw [hA]; rfl
            have h6 : a0.tmps.getD 6 undef = .pointer (some ⟨g, 0, none⟩) := by rw [hA]; rfl
            have h9 : a0.tmps.getD 9 undef = .int .i64 (f0 : Int) := by rw [hA]; rfl
            have hsz : a0.tmps.size = 116 := by rw [hA]; rfl
            have hdf : a0.defers = [] := by rw [hA]
            clear hA
            refine wp_region_kinds3 (fun _ => False) (by kernel_rfl) (by kernel_rfl) (by decide +kernel) (by rw [hsz]; decide +kernel) [.eq (.pointer (some ⟨g, 0, none⟩)), .eq (.int .i64 (f0 : Int)), .eq (.pointer (some ⟨p, 0, none⟩)), .eq (.int .i64 (f0 : Int)), .eq (.bool true), .eq (.bool true), .eq (.int .i64 (f0 : Int)), .eq (.pointer (some ⟨p, 0, none⟩)), .eq (.int .i64 (f0 : Int)), .eq (.bool true), .eq (.bool true), .eq (.bool true), .eq (.pointer (some ⟨g, 2, none⟩)), .eq (.int .i64 (f2 : Int)), .eq (.pointer (some ⟨p, 0, none⟩)), kLn f2, .eq (.int .i64 (f2 : Int)), .eq (.bool true), .eq (.bool true), .eq (.bool true), .eq (.pointer (some ⟨g, 3, none⟩)), .eq (.int .i64 (f3 : Int)), .eq (.pointer (some ⟨p, 0, none⟩)), kLn f3, .eq (.int .i64 (f3 : Int)), .eq (.bool true), .eq (.bool true), .eq (.bool true), .eq (.pointer (some ⟨g, 4, none⟩)), .eq (.int .i64 (f4 : Int)), .eq (.bool false), .eq (.bool false), .eq (.pointer (some ⟨p, 0, none⟩)), .eq (.int .i64 (K.h : Int)), .eq (.bool true), .eq (.bool true), .eq (.bool true), .eq (.bool true), .eq (.pointer (some ⟨p, 0, none⟩)), .eq (.int .i64 (K.r : Int)), .eq (.bool true), .eq (.bool true), .eq (.bool true), .eq (.pointer (some ⟨p, 0, none⟩)), .eq (.int .i64 (K.r : Int)), .eq (.pointer (some ⟨p, 0, none⟩)), .eq (.int .i64 (f0 : Int)), .eq (.bool true), .eq (.bool true), .eq (.bool true), .eq (.bool true), .eq (.bool true), .eq (.bool true)] [] (by decide) (by decide) (nopaths) (fun _ W => Fr (fun _ => False) wr W) (Fr.refl _ _).drew ?steps ?done
            case steps =>
              refine ⟨?_, ?_⟩
              · intro a' w' k' hb hf hs hc hq hg hd
                exact .inl ⟨wantedN rfl, k_val (.pointer (some ⟨g, 0, none⟩)) (by decide) hs (x_idx46 (of := 0) (i := 0) rfl ((hb.old 6 (by decide +kernel)).trans h6) rfl (by decide)) rfl⟩
              refine ⟨?_, ?_⟩
              · intro a' w' k' hb hf hs hc hq hg hd
                have hgg : w'.heap[g]? = _ := (hs.block g (lt_of_heap (unhide HHC)) id).trans (unhide HHC); exact .inl ⟨wantedN rfl, k_val (.int .i64 (f0 : Int)) (by decide) hs (x_load1 ld3 rfl (hd 0 (by kernel_rfl) 64 rfl) (by rw [cell_of_heap hgg]; rfl)) rfl⟩
              refine ⟨?_, ?_⟩
              · intro a' w' k' hb hf hs hc hq hg hd
                exact .inl ⟨wantedN rfl, k_val (.pointer (some ⟨p, 0, none⟩)) (by decide) hs (x_move rfl ((hb.old 5 (by decide +kernel)).trans h5)) rfl⟩
              refine ⟨?_, ?_⟩
              · intro a' w' k' hb hf hs hc hq hg hd
                exact .inl ⟨wantedN rfl, k_call 19 _ (by decide) (e_call1 rfl rfl (hd 2 (by kernel_rfl) 66 rfl) cf19) ((free_any _ p X K ((unhide HK5).kept hs (fun _ _ h => h))).mono (by rintro e w7 ⟨rfl, rfl⟩; exact ⟨_, rfl, (show Value.int .i64 _ = _ by rw [unhide HFR0]), Fr.refl _ _, hs⟩))⟩
              refine ⟨?_, ?_⟩
              · intro a' w' k' hb hf hs hc hq hg hd
                exact .inl ⟨wantedN rfl, k_val (.bool true) (by decide) hs (x_eqI Try.underlying3 rfl (hd 1 (by kernel_rfl) 65 rfl) (hd 3 (by kernel_rfl) 67 rfl) (by first | rfl | decide | simp)) rfl⟩
              refine ⟨?_, ?_⟩
              · intro a' w' k' hb hf hs hc hq hg hd
                exact .inl ⟨wantedN rfl, k_val (.bool true) (by decide) hs (x_move rfl (hd 4 (by kernel_rfl) 68 rfl)) rfl⟩
              refine ⟨?_, ?_⟩
              · intro a' w' k' hb hf hs hc hq hg hd
                exact .inl ⟨wantedT (d := 69) rfl rfl (by rw [hb.size, hsz]; omega) (hd 5 (by kernel_rfl) 69 rfl), k_val (.int .i64 (f0 : Int)) (by decide) hs (x_move rfl ((hb.old 9 (by decide +kernel)).trans h9)) rfl⟩
              refine ⟨?_, ?_⟩
              · intro a' w' k' hb hf hs hc hq hg hd
                exact .inl ⟨wantedT (d := 69) rfl rfl (by rw [hb.size, hsz]; omega) (hd 5 (by kernel_rfl) 69 rfl), k_val (.pointer (some ⟨p, 0, none⟩)) (by decide) hs (x_move rfl ((hb.old 5 (by decide +kernel)).trans h5)) rfl⟩
              refine ⟨?_, ?_⟩
              · intro a' w' k' hb hf hs hc hq hg hd
                exact .inl ⟨wantedT (d := 69) rfl rfl (by rw [hb.size, hsz]; omega) (hd 5 (by kernel_rfl) 69 rfl), k_call 19 _ (by decide) (e_call1 rfl rfl (hd 7 (by kernel_rfl) 71 rfl) cf19) ((free_any _ p X K ((unhide HK5).kept hs (fun _ _ h => h))).mono (by rintro e w7 ⟨rfl, rfl⟩; exact ⟨_, rfl, (show Value.int .i64 _ = _ by rw [unhide HFR0]), Fr.refl _ _, hs⟩))⟩
              refine ⟨?_, ?_⟩
              · intro a' w' k' hb hf hs hc hq hg hd
                exact .inl ⟨wantedT (d := 69) rfl rfl (by rw [hb.size, hsz]; omega) (hd 5 (by kernel_rfl) 69 rfl), k_val (.bool true) (by decide) hs (x_eqI Try.underlying3 rfl (hd 6 (by kernel_rfl) 70 rfl) (hd 8 (by kernel_rfl) 72 rfl) (by first | rfl | decide | simp)) rfl⟩
              refine ⟨?_, ?_⟩
              · intro a' w' k' hb hf hs hc hq hg hd
                exact .inl ⟨wantedN rfl, k_val (.bool true) (by decide) hs (x_pickT rfl (hd 5 (by kernel_rfl) 69 rfl) (hd 9 (by kernel_rfl) 73 rfl)) rfl⟩
              refine ⟨?_, ?_⟩
              · intro a' w' k' hb hf hs hc hq hg hd
                exact .inl ⟨wantedN rfl, k_val (.bool true) (by decide) hs (x_move rfl (hd 10 (by kernel_rfl) 74 rfl)) rfl⟩
              refine ⟨?_, ?_⟩
              · intro a' w' k' hb hf hs hc hq hg hd
                exact .inl ⟨wantedT (d := 75) rfl rfl (by rw [hb.size, hsz]; omega) (hd 11 (by kernel_rfl) 75 rfl), k_val (.pointer (some ⟨g, 2, none⟩)) (by decide) hs (x_idx46 (of := 0) (i := 2) rfl ((hb.old 6 (by decide +kernel)).trans h6) rfl (by decide)) rfl⟩
              refine ⟨?_, ?_⟩
              · intro a' w' k' hb hf hs hc hq hg hd
                have hgg : w'.heap[g]? = _ := (hs.block g (lt_of_heap (unhide HHC)) id).trans (unhide HHC); exact .inl ⟨wantedT (d := 75) rfl rfl (by rw [hb.size, hsz]; omega) (hd 11 (by kernel_rfl) 75 rfl), k_val (.int .i64 (f2 : Int)) (by decide) hs (x_load1 ld3 rfl (hd 12 (by kernel_rfl) 76 rfl) (by rw [cell_of_heap hgg]; rfl)) rfl⟩
              refine ⟨?_, ?_⟩
              · intro a' w' k' hb hf hs hc hq hg hd
                exact .inl ⟨wantedT (d := 75) rfl rfl (by rw [hb.size, hsz]; omega) (hd 11 (by kernel_rfl) 75 rfl), k_val (.pointer (some ⟨p, 0, none⟩)) (by decide) hs (x_move rfl ((hb.old 5 (by decide +kernel)).trans h5)) rfl⟩
              refine ⟨?_, ?_⟩
              · intro a' w' k' hb hf hs hc hq hg hd
                exact .inl ⟨wantedT (d := 75) rfl rfl (by rw [hb.size, hsz]; omega) (hd 11 (by kernel_rfl) 75 rfl), k_call 24 _ (by decide) (e_call1 rfl rfl (hd 14 (by kernel_rfl) 78 rfl) cf24) ((taken_ln _ p X _ _ ((unhide HK5).kept hs (fun _ _ h => h)) (unhide HM) f2 (unhide HT2)).mono (by rintro e w7 ⟨v7, rfl, h7, f⟩; exact ⟨_, rfl, h7, f, Fr.trans hs f (fun _ _ h => h)⟩))⟩
              refine ⟨?_, ?_⟩
              · intro a' w' k' hb hf hs hc hq hg hd
                obtain ⟨ao7, c7, hh⟩ : ∃ ao c, a'.tmps.getD 79 undef = .slice ao f2 c := (hd 15 (by kernel_rfl) 79 rfl); exact .inl ⟨wantedT (d := 75) rfl rfl (by rw [hb.size, hsz]; omega) (hd 11 (by kernel_rfl) 75 rfl), k_val (.int .i64 (f2 : Int)) (by decide) hs (x_len51 (n := f2) rfl hh) rfl⟩
              refine ⟨?_, ?_⟩
              · intro a' w' k' hb hf hs hc hq hg hd
                exact .inl ⟨wantedT (d := 75) rfl rfl (by rw [hb.size, hsz]; omega) (hd 11 (by kernel_rfl) 75 rfl), k_val (.bool true) (by decide) hs (x_eqI Try.underlying3 rfl (hd 13 (by kernel_rfl) 77 rfl) (hd 16 (by kernel_rfl) 80 rfl) (by first | rfl | decide | simp)) rfl⟩
              refine ⟨?_, ?_⟩
              · intro a' w' k' hb hf hs hc hq hg hd
                exact .inl ⟨wantedN rfl, k_val (.bool true) (by decide) hs (x_pickT rfl (hd 11 (by kernel_rfl) 75 rfl) (hd 17 (by kernel_rfl) 81 rfl)) rfl⟩
              refine ⟨?_, ?_⟩
              · intro a' w' k' hb hf hs hc hq hg hd
                exact .inl ⟨wantedN rfl, k_val (.bool true) (by decide) hs (x_move rfl (hd 18 (by kernel_rfl) 82 rfl)) rfl⟩
              refine ⟨?_, ?_⟩
              · intro a' w' k' hb hf hs hc hq hg hd
                exact .inl ⟨wantedT (d := 83) rfl rfl (by rw [hb.size, hsz]; omega) (hd 19 (by kernel_rfl) 83 rfl), k_val (.pointer (some ⟨g, 3, none⟩)) (by decide) hs (x_idx46 (of := 0) (i := 3) rfl ((hb.old 6 (by decide +kernel)).trans h6) rfl (by decide)) rfl⟩
              refine ⟨?_, ?_⟩
              · intro a' w' k' hb hf hs hc hq hg hd
                have hgg : w'.heap[g]? = _ := (hs.block g (lt_of_heap (unhide HHC)) id).trans (unhide HHC); exact .inl ⟨wantedT (d := 83) rfl rfl (by rw [hb.size, hsz]; omega) (hd 19 (by kernel_rfl) 83 rfl), k_val (.int .i64 (f3 : Int)) (by decide) hs (x_load1 ld3 rfl (hd 20 (by kernel_rfl) 84 rfl) (by rw [cell_of_heap hgg]; rfl)) rfl⟩
              refine ⟨?_, ?_⟩
              · intro a' w' k' hb hf hs hc hq hg hd
                exact .inl ⟨wantedT (d := 83) rfl rfl (by rw [hb.size, hsz]; omega) (hd 19 (by kernel_rfl) 83 rfl), k_val (.pointer (some ⟨p, 0, none⟩)) (by decide) hs (x_move rfl ((hb.old 5 (by decide +kernel)).trans h5)) rfl⟩
              refine ⟨?_, ?_⟩
              · intro a' w' k' hb hf hs hc hq hg hd
                exact .inl ⟨wantedT (d := 83) rfl rfl (by rw [hb.size, hsz]; omega) (hd 19 (by kernel_rfl) 83 rfl), k_call 25 _ (by decide) (e_call1 rfl rfl (hd 22 (by kernel_rfl) 86 rfl) cf25) ((given_ln _ p X _ _ ((unhide HK5).kept hs (fun _ _ h => h)) (unhide HM) f3 (unhide HT3)).mono (by rintro e w7 ⟨v7, rfl, h7, f⟩; exact ⟨_, rfl, h7, f, Fr.trans hs f (fun _ _ h => h)⟩))⟩
              refine ⟨?_, ?_⟩
              · intro a' w' k' hb hf hs hc hq hg hd
                obtain ⟨ao7, c7, hh⟩ : ∃ ao c, a'.tmps.getD 87 undef = .slice ao f3 c := (hd 23 (by kernel_rfl) 87 rfl); exact .inl ⟨wantedT (d := 83) rfl rfl (by rw [hb.size, hsz]; omega) (hd 19 (by kernel_rfl) 83 rfl), k_val (.int .i64 (f3 : Int)) (by decide) hs (x_len51 (n := f3) rfl hh) rfl⟩
              refine ⟨?_, ?_⟩
              · intro a' w' k' hb hf hs hc hq hg hd
                exact .inl ⟨wantedT (d := 83) rfl rfl (by rw [hb.size, hsz]; omega) (hd 19 (by kernel_rfl) 83 rfl), k_val (.bool true) (by decide) hs (x_eqI Try.underlying3 rfl (hd 21 (by kernel_rfl) 85 rfl) (hd 24 (by kernel_rfl) 88 rfl) (by first | rfl | decide | simp)) rfl⟩
              refine ⟨?_, ?_⟩
              · intro a' w' k' hb hf hs hc hq hg hd
                exact .inl ⟨wantedN rfl, k_val (.bool true) (by decide) hs (x_pickT rfl (hd 19 (by kernel_rfl) 83 rfl) (hd 25 (by kernel_rfl) 89 rfl)) rfl⟩
              refine ⟨?_, ?_⟩
              · intro a' w' k' hb hf hs hc hq hg hd
                exact .inl ⟨wantedN rfl, k_val (.bool true) (by decide) hs (x_move rfl (hd 26 (by kernel_rfl) 90 rfl)) rfl⟩
              refine ⟨?_, ?_⟩
              · intro a' w' k' hb hf hs hc hq hg hd
                exact .inl ⟨wantedT (d := 91) rfl rfl (by rw [hb.size, hsz]; omega) (hd 27 (by kernel_rfl) 91 rfl), k_val (.pointer (some ⟨g, 4, none⟩)) (by decide) hs (x_idx46 (of := 0) (i := 4) rfl ((hb.old 6 (by decide +kernel)).trans h6) rfl (by decide)) rfl⟩
              refine ⟨?_, ?_⟩
              · intro a' w' k' hb hf hs hc hq hg hd
                have hgg : w'.heap[g]? = _ := (hs.block g (lt_of_heap (unhide HHC)) id).trans (unhide HHC); exact .inl ⟨wantedT (d := 91) rfl rfl (by rw [hb.size, hsz]; omega) (hd 27 (by kernel_rfl) 91 rfl), k_val (.int .i64 (f4 : Int)) (by decide) hs (x_load1 ld3 rfl (hd 28 (by kernel_rfl) 92 rfl) (by rw [cell_of_heap hgg]; rfl)) rfl⟩
              refine ⟨?_, ?_⟩
              · intro a' w' k' hb hf hs hc hq hg hd
                exact .inl ⟨wantedT (d := 91) rfl rfl (by rw [hb.size, hsz]; omega) (hd 27 (by kernel_rfl) 91 rfl), k_val (.bool false) (by decide) hs (x_eqI Try.underlying3 rfl (hd 29 (by kernel_rfl) 93 rfl) rfl (by simp; omega)) rfl⟩
              refine ⟨?_, ?_⟩
              · intro a' w' k' hb hf hs hc hq hg hd
                exact .inl ⟨wantedT (d := 91) rfl rfl (by rw [hb.size, hsz]; omega) (hd 27 (by kernel_rfl) 91 rfl), k_val (.bool false) (by decide) hs (x_move rfl (hd 30 (by kernel_rfl) 94 rfl)) rfl⟩
              refine ⟨?_, ?_⟩
              · intro a' w' k' hb hf hs hc hq hg hd
                exact .inl ⟨wantedF (d := 95) rfl rfl (by rw [hb.size, hsz]; omega) (hd 31 (by kernel_rfl) 95 rfl), k_val (.pointer (some ⟨p, 0, none⟩)) (by decide) hs (x_move rfl ((hb.old 5 (by decide +kernel)).trans h5)) rfl⟩
              refine ⟨?_, ?_⟩
              · intro a' w' k' hb hf hs hc hq hg hd
                exact .inl ⟨wantedF (d := 95) rfl rfl (by rw [hb.size, hsz]; omega) (hd 31 (by kernel_rfl) 95 rfl), k_call 26 _ (by decide) (e_call1 rfl rfl (hd 32 (by kernel_rfl) 96 rfl) cf26) ((holds_any _ p X K ((unhide HK5).kept hs (fun _ _ h => h))).mono (by rintro e w7 ⟨rfl, rfl⟩; exact ⟨_, rfl, rfl, Fr.refl _ _, hs⟩))⟩
              refine ⟨?_, ?_⟩
              · intro a' w' k' hb hf hs hc hq hg hd
                exact .inl ⟨wantedF (d := 95) rfl rfl (by rw [hb.size, hsz]; omega) (hd 31 (by kernel_rfl) 95 rfl), k_val (.bool true) (by decide) hs (x_gtI rfl (hd 33 (by kernel_rfl) 97 rfl) rfl (by simp; omega)) rfl⟩
              refine ⟨?_, ?_⟩
              · intro a' w' k' hb hf hs hc hq hg hd
                exact .inl ⟨wantedT (d := 91) rfl rfl (by rw [hb.size, hsz]; omega) (hd 27 (by kernel_rfl) 91 rfl), k_val (.bool true) (by decide) hs (x_pickF rfl (hd 31 (by kernel_rfl) 95 rfl) (hd 34 (by kernel_rfl) 98 rfl)) rfl⟩
              refine ⟨?_, ?_⟩
              · intro a' w' k' hb hf hs hc hq hg hd
                exact .inl ⟨wantedN rfl, k_val (.bool true) (by decide) hs (x_pickT rfl (hd 27 (by kernel_rfl) 91 rfl) (hd 35 (by kernel_rfl) 99 rfl)) rfl⟩
              refine ⟨?_, ?_⟩
              · intro a' w' k' hb hf hs hc hq hg hd
                exact .inl ⟨wantedN rfl, k_val (.bool true) (by decide) hs (x_move rfl (hd 36 (by kernel_rfl) 100 rfl)) rfl⟩
              refine ⟨?_, ?_⟩
              · intro a' w' k' hb hf hs hc hq hg hd
                exact .inl ⟨wantedT (d := 101) rfl rfl (by rw [hb.size, hsz]; omega) (hd 37 (by kernel_rfl) 101 rfl), k_val (.pointer (some ⟨p, 0, none⟩)) (by decide) hs (x_move rfl ((hb.old 5 (by decide +kernel)).trans h5)) rfl⟩
              refine ⟨?_, ?_⟩
              · intro a' w' k' hb hf hs hc hq hg hd
                exact .inl ⟨wantedT (d := 101) rfl rfl (by rw [hb.size, hsz]; omega) (hd 37 (by kernel_rfl) 101 rfl), k_call 27 _ (by decide) (e_call1 rfl rfl (hd 38 (by kernel_rfl) 102 rfl) cf27) ((reserved_any _ p X K ((unhide HK5).kept hs (fun _ _ h => h))).mono (by rintro e w7 ⟨rfl, rfl⟩; exact ⟨_, rfl, rfl, Fr.refl _ _, hs⟩))⟩
              refine ⟨?_, ?_⟩
              · intro a' w' k' hb hf hs hc hq hg hd
                exact .inl ⟨wantedT (d := 101) rfl rfl (by rw [hb.size, hsz]; omega) (hd 37 (by kernel_rfl) 101 rfl), k_val (.bool true) (by decide) hs (x_geI rfl (hd 39 (by kernel_rfl) 103 rfl) rfl (by simp)) rfl⟩
              refine ⟨?_, ?_⟩
              · intro a' w' k' hb hf hs hc hq hg hd
                exact .inl ⟨wantedN rfl, k_val (.bool true) (by decide) hs (x_pickT rfl (hd 37 (by kernel_rfl) 101 rfl) (hd 40 (by kernel_rfl) 104 rfl)) rfl⟩
              refine ⟨?_, ?_⟩
              · intro a' w' k' hb hf hs hc hq hg hd
                exact .inl ⟨wantedN rfl, k_val (.bool true) (by decide) hs (x_move rfl (hd 41 (by kernel_rfl) 105 rfl)) rfl⟩
              refine ⟨?_, ?_⟩
              · intro a' w' k' hb hf hs hc hq hg hd
                exact .inl ⟨wantedT (d := 106) rfl rfl (by rw [hb.size, hsz]; omega) (hd 42 (by kernel_rfl) 106 rfl), k_val (.pointer (some ⟨p, 0, none⟩)) (by decide) hs (x_move rfl ((hb.old 5 (by decide +kernel)).trans h5)) rfl⟩
              refine ⟨?_, ?_⟩
              · intro a' w' k' hb hf hs hc hq hg hd
                exact .inl ⟨wantedT (d := 106) rfl rfl (by rw [hb.size, hsz]; omega) (hd 42 (by kernel_rfl) 106 rfl), k_call 27 _ (by decide) (e_call1 rfl rfl (hd 43 (by kernel_rfl) 107 rfl) cf27) ((reserved_any _ p X K ((unhide HK5).kept hs (fun _ _ h => h))).mono (by rintro e w7 ⟨rfl, rfl⟩; exact ⟨_, rfl, rfl, Fr.refl _ _, hs⟩))⟩
              refine ⟨?_, ?_⟩
              · intro a' w' k' hb hf hs hc hq hg hd
                exact .inl ⟨wantedT (d := 106) rfl rfl (by rw [hb.size, hsz]; omega) (hd 42 (by kernel_rfl) 106 rfl), k_val (.pointer (some ⟨p, 0, none⟩)) (by decide) hs (x_move rfl ((hb.old 5 (by decide +kernel)).trans h5)) rfl⟩
              refine ⟨?_, ?_⟩
              · intro a' w' k' hb hf hs hc hq hg hd
                exact .inl ⟨wantedT (d := 106) rfl rfl (by rw [hb.size, hsz]; omega) (hd 42 (by kernel_rfl) 106 rfl), k_call 19 _ (by decide) (e_call1 rfl rfl (hd 45 (by kernel_rfl) 109 rfl) cf19) ((free_any _ p X K ((unhide HK5).kept hs (fun _ _ h => h))).mono (by rintro e w7 ⟨rfl, rfl⟩; exact ⟨_, rfl, (show Value.int .i64 _ = _ by rw [unhide HFR0]), Fr.refl _ _, hs⟩))⟩
              refine ⟨?_, ?_⟩
              · intro a' w' k' hb hf hs hc hq hg hd
                exact .inl ⟨wantedT (d := 106) rfl rfl (by rw [hb.size, hsz]; omega) (hd 42 (by kernel_rfl) 106 rfl), k_val (.bool true) (by decide) hs (x_leI rfl (hd 44 (by kernel_rfl) 108 rfl) (hd 46 (by kernel_rfl) 110 rfl) (by have := unhide HRF; rw [unhide HFR0] at this; simp; omega)) rfl⟩
              refine ⟨?_, ?_⟩
              · intro a' w' k' hb hf hs hc hq hg hd
                exact .inl ⟨wantedN rfl, k_val (.bool true) (by decide) hs (x_pickT rfl (hd 42 (by kernel_rfl) 106 rfl) (hd 47 (by kernel_rfl) 111 rfl)) rfl⟩
              refine ⟨?_, ?_⟩
              · intro a' w' k' hb hf hs hc hq hg hd
                exact .inl ⟨wantedN rfl, k_val (.bool true) (by decide) hs (x_move rfl (hd 48 (by kernel_rfl) 112 rfl)) rfl⟩
              refine ⟨?_, ?_⟩
              · intro a' w' k' hb hf hs hc hq hg hd
                exact .inl ⟨wantedT (d := 113) rfl rfl (by rw [hb.size, hsz]; omega) (hd 49 (by kernel_rfl) 113 rfl), k_call 10 _ (by decide) (e_call0 rfl rfl cf10) ((live_any _).mono (by rintro e w7 ⟨rfl, f⟩; exact ⟨_, rfl, rfl, f, Fr.trans hs f (fun _ _ h => h)⟩))⟩
              refine ⟨?_, ?_⟩
              · intro a' w' k' hb hf hs hc hq hg hd
                exact .inl ⟨wantedN rfl, k_val (.bool true) (by decide) hs (x_pickT rfl (hd 49 (by kernel_rfl) 113 rfl) (hd 50 (by kernel_rfl) 114 rfl)) rfl⟩
              refine ⟨?_, ?_⟩
              · intro a' w' k' hb hf hs hc hq hg hd
                exact .inl ⟨wantedN rfl, k_val (.bool true) (by decide) hs (x_assign rfl (hd 51 (by kernel_rfl) 115 rfl)) rfl⟩
              exact trivial
            case done =>
              intro a' w' hb hf hs hall
              have hres : a'.tmps.getD 4 undef = .bool true := hall 52 (by decide) 4 rfl
              have hdf' : a'.defers = [] := by rw [hb.defers]; exact hdf
              have hF : Fr (fun _ => False) w w' := (unhide HF5).trans hf (fun _ _ h => h)
              have hr : bodyPost Try.prog Try.f5 (fun e w' => e = Ending.returned (Value.bool true) ∧ Fr (fun x => False) w w') .ret a' w' :=
                bodyPost_ret (v := .bool true) (by
                  have h6' : a'.tmps[4]?.getD undef = .bool true := by simpa using hres
                  simp [results, Try.results5, go_sem, h6']) hdf' ⟨rfl, hF⟩
              clear hall hb
              apply_assumption
              exact wp_ret hr
end Go.Proofs.Ytbpajilglfabbaa
