/-
  The walk of the document's own Through, where there is no error.
-/
import Derived.Test.YtbbgfbjchlefeaaRThr
import Derived.Test.YtbbgfbjchlefeaaElementsWalk
namespace Go.Proofs.Ytbbgfbjchlefeaa
open Go.RowKit
set_option linter.unusedVariables false

attribute [local go_sem ↓] Go.wp_at_zero Go.wp_at_succ

theorem nxK_high (r : UInt8) (out : List UInt8) (c : Nat) (hc : ∀ j, c ≤ j → j < out.length → gt out j = 0) : nxK r 0 out (c + 1) = out := by
  apply List.ext_getElem
  · exact nxK_length _ _ _ _
  · intro i h1 h2
    rw [nxK_get]
    have e : out[i] = gt out i := by unfold gt; rw [List.getElem?_eq_getElem h2]; rfl
    by_cases h : i < c + 1
    · rw [if_pos h, e]
    · rw [if_neg h, if_neg (by omega), e, hc i (by omega) h2, hc (i - 1) (by omega) (by omega), mul_zero]
      rfl

theorem gt_pl_high (X : Nat → UInt8) (n i k j : Nat) (hk : cnt i k ≤ j) (hj : j < n) : gt (pl X n i k) j = 0 := by
  unfold gt; rw [pl_high X n i k j hk hj]; rfl

set_option maxHeartbeats 8000000 in
set_option maxRecDepth 100000 in
theorem rthrough_ok (w : World) (xv yv : Value) (xs ys : List UInt8) (hx : Rd w xv xs) (hy : Rd w yv ys) (hl : xs.length = ys.length) (hn : xs.length ≤ 4096) (h0 : 0 < xs.length) (hd : xs.Nodup) :
    Calls Try.prog 29 #[xv, yv] w fun e w' => (∃ q, e = .returned (.tuple #[.slice (some ⟨q, 0, none⟩) xs.length xs.length, .int .i64 0]) ∧ Rd w' (.slice (some ⟨q, 0, none⟩) xs.length xs.length) (thr xs ys)) ∧ Fr (fun _ => False) w w' := by
  obtain ⟨n, hnn⟩ : ∃ n, n = xs.length := ⟨_, rfl⟩
  obtain ⟨xo, xcap, rfl⟩ := hx.shape
  obtain ⟨yo, ycap, rfl⟩ := hy.shape
  obtain ⟨xb, xof, rfl, -, hxcap, hxcm, hcx⟩ := hx.lits h0
  obtain ⟨yb, yof, rfl, -, hycap, hycm, hcy⟩ := hy.lits (by omega)
  have xlt := Rd.ilt hcx h0
  have ylt := Rd.ilt hcy (by omega)
  have HCX := hide (show ∀ W, Fr (fun _ => False) w W → ∀ k, k < n → W.cell? ⟨xb, xof + k, none⟩ = some (.int .u8 (((gt xs k).toNat : Nat) : Int)) from fun W f k hk => (f.cell (a := ⟨xb, xof + k, none⟩) xlt id).trans (Rd.gt (n := 0) (cap := 0) hcx k (by omega)))
  have HCY := hide (show ∀ W, Fr (fun _ => False) w W → ∀ k, k < n → W.cell? ⟨yb, yof + k, none⟩ = some (.int .u8 (((gt ys k).toNat : Nat) : Int)) from fun W f k hk => (f.cell (a := ⟨yb, yof + k, none⟩) ylt id).trans (Rd.gt (n := 0) (cap := 0) hcy k (by omega)))
  have HD := hide hd
  have HOU := hide (ou_thr xs ys hd)
  have hinj : ∀ a b, a < n → b < n → gt xs a = gt xs b → a = b := by
    intro a b ha hb e
    unfold gt at e
    rw [List.getElem?_eq_getElem (by omega), List.getElem?_eq_getElem (by omega)] at e
    simp only [Option.getD_some] at e
    exact (List.getElem_inj hd).1 e
  have HINJ := hide hinj
  unfold maxLen at hxcm hycm
  rw [← hl, ← hnn] at hycap ⊢
  rw [← hnn] at hn h0 hxcap
  rw [← hnn] at HOU
  have hmk := run_make5 n (by omega)
  have HMK := hide hmk
  clear hx hy hl hcx hcy hd hnn hinj hmk
  generalize gt xs = X at *
  generalize gt ys = Y at *
  generalize thr xs ys = T at *
  go_enter Try.func29, Try.ntmps29
  go_wp2_with fail
  go_loopw [6] (fun ii w' => ∃ i : Nat, i ≤ n ∧ ii = .int .i64 (i : Int) ∧ ∃ m, w' = w.drewN m) (fun ii _ => n - (intOf ii).toNat)
  case atStart => exact ⟨0, by omega, rfl, 0, rfl⟩
  case round =>
    obtain ⟨i, hi, rfl, m, rfl⟩ := hrel
    by_cases hlt : i < n
    · have xi := unhide HCX w (Fr.refl _ _) i hlt
      go_wp2_with fail
      go_loopw [7] (fun kk w' => ∃ k : Nat, k ≤ i ∧ kk = .int .i64 (k : Int) ∧ ∃ m, w' = w.drewN m) (fun kk _ => i - (intOf kk).toNat)
      case atStart => exact ⟨0, by omega, rfl, m, rfl⟩
      case round =>
        obtain ⟨k, hk, rfl, m2, rfl⟩ := hrel
        by_cases hlt2 : k < i
        · have xk := unhide HCX w (Fr.refl _ _) k (by omega)
          have he : X i ≠ X k := fun e => by have := unhide HINJ i k hlt (by omega) e; omega
          have hb : ((((X i).toNat : Nat) : Int) == (((X k).toNat : Nat) : Int)) = false := by rw [eqV]; simpa using he
          generalize X i = a at *
          generalize X k = b at *
          clear he
          go_wp2_with fail
          go_quiet (fail)
          go_wp2_with fail
          go_roundw
          case rel => exact ⟨k + 1, by omega, by go_num, _, rfl⟩
          case measure => simp [intOf]; omega
        · have hke : k = i := by omega
          subst hke
          go_wp2_with fail
          go_roundw
          case rel => exact ⟨k + 1, by omega, by go_num, _, rfl⟩
          case measure => simp [intOf]; omega
    · have hie : i = n := by omega
      subst hie
      have hmk := unhide HMK
      have HB0 := hide (show BAt ((w.drewN m).alloc (Obj.cells (bvs (List.replicate i 0)).toArray 5)) w.heap.size (ou X Y i 0) from heap_alloc_new (w.drewN m) _)
      have HF0 := hide (show Fr (fun _ => False) w ((w.drewN m).alloc (Obj.cells (bvs (List.replicate i 0)).toArray 5)) from (Fr.ofDrewN w m).alloc _)
      go_wp2_with fail
      clear hmk
      go_loopw [9] (fun ii w' => ∃ k : Nat, k ≤ i ∧ ii = .int .i64 (k : Int) ∧ BAt w' w.heap.size (ou X Y i k) ∧ Fr (fun _ => False) w w') (fun ii _ => i - (intOf ii).toNat)
      case atStart => exact ⟨0, by omega, rfl, unhide HB0, unhide HF0⟩
      case round =>
        clear HB0 HF0
        obtain ⟨t, ht, rfl, hB, hf⟩ := hrel
        by_cases hlt2 : t < i
        · have hmk := unhide HMK
          have hBp : BAt (wr.alloc (Obj.cells (bvs (List.replicate i 0)).toArray 5)) wr.heap.size (List.replicate i 0) := heap_alloc_new wr _
          have cN := hBp.cell 0 (by simp; omega)
          rw [List.getElem_replicate] at cN
          have zN := hBp.frozen 0
          have HP0 := hide (show BAt (wr.alloc (Obj.cells ((bvs (List.replicate i 0)).set 0 (Value.int IntKind.u8 1)).toArray 5)) wr.heap.size (pl X i t 0) by
            have := heap_alloc_new wr (Obj.cells ((bvs (List.replicate i 0)).set 0 (Value.int IntKind.u8 1)).toArray 5)
            have e : (bvs (List.replicate i 0)).set 0 (Value.int IntKind.u8 1) = bvs (pl X i t 0) := by simp [bvs, pl, List.map_set]
            rw [e] at this ⊢
            exact this)
          have HPF := hide (show Fr (fun _ => False) wr (wr.alloc (Obj.cells ((bvs (List.replicate i 0)).set 0 (Value.int IntKind.u8 1)).toArray 5)) from (Fr.refl _ _).alloc _)
          have hq0 := lt_of_heap hB
          have HB := hide hB
          have Hf := hide hf
          have xt' := unhide HCX wr hf t hlt2
          have yt' := unhide HCY wr hf t hlt2
          clear hB hf hBp
          go_wp2_with fail
          clear hmk cN zN
          rename World => wq
          go_loopw [11, 12, 13] (fun nn sc kk w' => ∃ k : Nat, k ≤ i ∧ kk = .int .i64 (k : Int) ∧ nn = .int .i64 (cnt t k : Int) ∧ sc = .int .u8 (((ev (pl X i t k) (X t)).toNat : Nat) : Int) ∧ BAt w' wq.heap.size (pl X i t k) ∧ Fr (fun _ => False) wq w') (fun _ _ kk _ => i - (intOf kk).toNat)
          case atStart => exact ⟨0, by omega, rfl, by simp [cnt], by rw [ev_pl_zero X i t (by omega)]; rfl, unhide HP0, unhide HPF⟩
          case round =>
            clear HP0 HPF
            obtain ⟨k, hk, rfl, rfl, rfl, hB2, hf2⟩ := hrel
            have hfw := (unhide Hf).trans hf2 (fun _ _ h => h)
            by_cases hlt3 : k < i
            · have xt2 := unhide HCX wr hfw t hlt2
              have xk2 := unhide HCX wr hfw k hlt3
              by_cases hkt : k = t
              · subst hkt
                have hc1 : cnt k (k + 1) = cnt k k := by unfold cnt; rw [if_pos (by omega), if_neg (by omega)]; omega
                have hp1 : pl X i k (k + 1) = pl X i k k := by simp [pl]
                have HC1 := hide hc1
                have HP1 := hide hp1
                have HB2 := hide hB2
                have Hf2 := hide hf2
                clear hB2 hf2 hc1 hp1 hfw
                go_wp2_with fail
                go_roundw
                case rel => exact ⟨k + 1, by omega, by go_num, by rw [unhide HC1], by rw [unhide HP1], by rw [unhide HP1]; exact unhide HB2, unhide Hf2⟩
                case measure => simp [intOf]; omega
              · have hkb : ((k : Int) == (t : Int)) = false := by simp; omega
                have hcn : cnt t k < i := by unfold cnt; split <;> omega
                have hc1 : cnt t (k + 1) = cnt t k + 1 := by unfold cnt; split <;> split <;> omega
                have hev := ev_pl X i t k hlt2 hlt3 hkt (X t)
                have hpl : pl X i t (k + 1) = nxK (X k) 0 (pl X i t k) 0 := by rw [nxK_end]; simp only [pl]; rw [if_neg hkt]
                have hst := nxK_high (X k) (pl X i t k) (cnt t k) (fun j h1 h2 => gt_pl_high X i t k j h1 (by rw [pl_length] at h2; exact h2))
                have hln := pl_length X i t k
                have HC1 := hide hc1
                have HEV := hide hev
                have HPL := hide hpl
                have HST := hide hst
                have HLN := hide hln
                have HB2 := hide hB2
                have Hf2 := hide hf2
                have Hfw := hide hfw
                clear hB2 hf2 hc1 hev hpl hst hln hfw
                obtain ⟨cc, hcc⟩ : ∃ cc, cc = cnt t k := ⟨_, rfl⟩
                rw [← hcc] at hcn HC1 HST ⊢
                clear hcc
                generalize pl X i t k = out at *
                go_wp2_with fail
                go_loopw [14] (fun jj w' => ∃ j : Nat, j ≤ cc + 1 ∧ jj = .int .i64 ((j : Int) - 1) ∧ BAt w' wq.heap.size (nxK (X k) 0 out j) ∧ Fr (fun _ => False) wq w') (fun jj _ => (intOf jj + 1).toNat)
                case atStart => exact ⟨cc + 1, by omega, by go_num, by rw [unhide HST]; exact unhide HB2, unhide Hf2⟩
                case round =>
                  clear HB2 Hf2 Hfw xt2 xk2
                  obtain ⟨j, hj, rfl, hB3, hf3⟩ := hrel
                  have hfw := (unhide Hf).trans hf3 (fun _ _ h => h)
                  have xt3 := unhide HCX wr hfw t hlt2
                  have xk3 := unhide HCX wr hfw k hlt3
                  by_cases hj0 : j = 0
                  · subst hj0
                    rw [← unhide HPL] at hB3
                    have HB3 := hide hB3
                    have Hf3 := hide hf3
                    obtain ⟨sc, hsc⟩ : ∃ z, z = ev out (X t) := ⟨_, rfl⟩
                    rw [← hsc] at HEV ⊢
                    have hx1 := xorV (X t) (X k)
                    obtain ⟨df, hdf⟩ : ∃ z, z = X t ^^^ X k := ⟨_, rfl⟩
                    rw [← hdf] at HEV hx1
                    clear hB3 hf3 hfw hsc hdf
                    go_wp2_with fail
                    go_region_with ((go_at_call 20; refine (rmul_any _ sc df).mono ?_; rintro e w5 ⟨rfl, rfl⟩))
                    all_goals
                      go_wp2_with fail
                      go_roundw
                      case rel => exact ⟨k + 1, by omega, by go_num, by rw [unhide HC1]; go_num, by rw [unhide HEV], unhide HB3, (unhide Hf3).drewN 1⟩
                      case measure => simp [intOf]; omega
                  · obtain ⟨tt, rfl⟩ : ∃ tt, j = tt + 1 := ⟨j - 1, by omega⟩
                    have e1 : ((tt + 1 : Nat) : Int) - 1 = (tt : Int) := by omega
                    rw [e1]
                    have hnl : (nxK (X k) 0 out (tt + 1)).length = i := by rw [nxK_length]; exact unhide HLN
                    have d1 := hB3.cell tt (by omega)
                    rw [nxK_get, if_pos (by omega)] at d1
                    have z1 := hB3.frozen tt
                    have HS := hide (nxK_step (X k) 0 out tt (by rw [unhide HLN]; omega))
                    have b2 : tt < i := by omega
                    by_cases htt : tt = 0
                    · subst htt
                      rw [if_pos rfl] at HS
                      rw [mul_comm] at HS
                      have HB3 := hide hB3
                      have Hf3 := hide hf3
                      obtain ⟨o0, ho0⟩ : ∃ z, z = gt out 0 := ⟨_, rfl⟩
                      rw [← ho0] at HS d1
                      have HX1 := hide (show bits BinOp.xor IntKind.u8 0 (((mul o0 (X k)).toNat : Nat) : Int) = (((0 ^^^ mul o0 (X k)).toNat : Nat) : Int) from xorV 0 (mul o0 (X k)))
                      clear hB3 hf3 hfw ho0 hnl xt3
                      go_wp2_with fail
                      go_region_with ((go_at_call 20; refine (rmul_any _ o0 (X k)).mono ?_; rintro e w5 ⟨rfl, rfl⟩))
                      all_goals
                        go_wp2_with fail
                        go_roundw
                        case rel =>
                          refine ⟨0, by omega, by first | rfl | go_num, ?_, ((unhide Hf3).drewN 1).setCell (fun h => absurd h (by simp)) _⟩
                          rw [← unhide HS, unhide HX1]
                          exact BAt.set (w := wr.drewN 1) (unhide HB3) 0 _
                        case measure => first | (simp [intOf]; omega) | simp [intOf]
                    · rw [if_neg htt, mul_comm] at HS
                      have d2 := hB3.cell (tt - 1) (by omega)
                      rw [nxK_get, if_pos (by omega)] at d2
                      have HB3 := hide hB3
                      have Hf3 := hide hf3
                      obtain ⟨o0, ho0⟩ : ∃ z, z = gt out tt := ⟨_, rfl⟩
                      obtain ⟨o1, ho1⟩ : ∃ z, z = gt out (tt - 1) := ⟨_, rfl⟩
                      rw [← ho0] at HS d1
                      rw [← ho1] at HS d2
                      obtain ⟨t1, ht1⟩ : ∃ t1, t1 = tt - 1 := ⟨_, rfl⟩
                      rw [← ht1] at d2
                      have e2 : (tt : Int) - 1 = (t1 : Int) := by omega
                      have b3 : t1 < i := by omega
                      have b4 : (0 : Int) < (tt : Int) := by omega
                      have HX1 := hide (xorV o1 (mul o0 (X k)))
                      clear hB3 hf3 hfw ho0 ho1 hnl xt3 ht1 htt
                      go_wp2_with fail
                      go_region_with ((go_at_call 20; refine (rmul_any _ o0 (X k)).mono ?_; rintro e w5 ⟨rfl, rfl⟩))
                      all_goals
                        go_wp2_with fail
                        go_roundw
                        case rel =>
                          refine ⟨tt, by omega, by first | rfl | rw [← e2], ?_, ((unhide Hf3).drewN 1).setCell (fun h => absurd h (by simp)) _⟩
                          rw [← unhide HS, unhide HX1]
                          exact BAt.set (w := wr.drewN 1) (unhide HB3) tt _
                        case measure => first | (simp [intOf]; omega) | simp [intOf]
            · have hke : k = i := by omega
              subst hke
              have hne := ev_pl_ne X k t k hlt2 (Nat.le_refl _) (unhide HINJ)
              have hdv : dv (Y t) (ev (pl X k t k) (X t)) = (div (Y t) (ev (pl X k t k) (X t)), 0) := by unfold dv; rw [if_neg hne]
              have HDV := hide (fun W => rdiv_at hdv W)
              have yt3 := unhide HCY wr hfw t hlt2
              have hou : ou X Y k (t + 1) = addt (div (Y t) (ev (pl X k t k) (X t))) (ou X Y k t) (pl X k t k) := rfl
              have HOU2 := hide hou
              have hol := ou_length X Y k t
              have hpl := pl_length X k t k
              have hB4 := (unhide HB).kept hf2 id
              have HB4 := hide hB4
              have HB2 := hide hB2
              have Hfw := hide hfw
              have hqlt : w.heap.size < wq.heap.size := hq0
              clear hB2 hf2 hfw hne hdv hou hB4
              generalize ev (pl X k t k) (X t) = sc at *
              generalize pl X k t k = P at *
              generalize ou X Y k t = O at *
              have HOL := hide hol
              have HPL := hide hpl
              clear hol hpl
              obtain ⟨cf, hcf⟩ : ∃ z, z = div (Y t) sc := ⟨_, rfl⟩
              rw [← hcf] at HDV HOU2
              clear hcf
              generalize Y t = yt at *
              go_wp2_with fail
              refine (unhide HDV _).mono ?_
              rintro e w5 ⟨rfl, rfl⟩
              go_wp2_with fail
              go_loopw [18] (fun jj w' => ∃ j : Nat, j ≤ k ∧ jj = .int .i64 (j : Int) ∧ BAt w' w.heap.size (addt cf (O.take j) (P.take j) ++ O.drop j) ∧ BAt w' wq.heap.size P ∧ Fr (fun _ => False) w w') (fun jj _ => k - (intOf jj).toNat)
              case atStart => exact ⟨0, by omega, rfl, by simpa [addt] using unhide HB4, unhide HB2, unhide Hfw⟩
              case round =>
                clear HB4 HB2 Hfw HDV
                obtain ⟨j, hj, rfl, hO, hP, hf5⟩ := hrel
                have hol := unhide HOL
                have hpl := unhide HPL
                by_cases hlt5 : j < k
                · have hlen : (addt cf (O.take j) (P.take j)).length = j := by simp [addt]; omega
                  have hlen2 : (addt cf (O.take j) (P.take j) ++ O.drop j).length = k := by simp [hlen]; omega
                  have d1 := hO.cell j (by omega)
                  have z1 := hO.frozen j
                  have eo : (addt cf (O.take j) (P.take j) ++ O.drop j)[j]'(by omega) = O[j]'(by omega) := by
                    rw [List.getElem_append_right (by omega)]
                    simp [hlen]
                  rw [eo] at d1
                  have p1 := hP.cell j (by omega)
                  have HS := hide (addt_step cf O P j (by omega) (by omega))
                  obtain ⟨oj, hoj⟩ : ∃ z, z = O[j]'(by omega) := ⟨_, rfl⟩
                  obtain ⟨pj, hpj⟩ : ∃ z, z = P[j]'(by omega) := ⟨_, rfl⟩
                  rw [← hoj] at d1 HS
                  rw [← hpj] at p1 HS
                  have HX := hide (xorV oj (mul cf pj))
                  have HO := hide hO
                  have HPP := hide hP
                  have Hf5 := hide hf5
                  clear hO hP hf5 hlen hlen2 eo hoj hpj hol hpl
                  go_wp2_with fail
                  go_region_with ((go_at_call 20; refine (rmul_any _ cf pj).mono ?_; rintro e w6 ⟨rfl, rfl⟩))
                  all_goals
                    go_wp2_with fail
                    go_roundw
                    case rel =>
                      refine ⟨j + 1, by omega, by go_num, ?_, ?_, ((unhide Hf5).drewN 1).setCell (fun h => absurd h (by simp)) _⟩
                      · rw [← unhide HS, unhide HX]
                        exact BAt.set (w := wr.drewN 1) (unhide HO) j _
                      · rw [unhide HX]
                        exact BAt.kept (S := fun x => x = w.heap.size) (w := wr) (unhide HPP) ((Fr.ofDrewN (S := fun x => x = w.heap.size) wr 1).setCell (p := ⟨w.heap.size, j, none⟩) (fun _ => rfl) _) (show ¬ wq.heap.size = w.heap.size by omega)
                    case measure => simp [intOf]; omega
                · have hje : j = k := by omega
                  subst hje
                  rw [List.take_of_length_le (by omega), List.take_of_length_le (by omega), List.drop_of_length_le (by omega), List.append_nil, ← unhide HOU2] at hO
                  have HO := hide hO
                  have Hf5 := hide hf5
                  clear hO hP hf5 hol hpl
                  go_wp2_with fail
                  go_roundw
                  case rel => exact ⟨t + 1, by omega, by go_num, unhide HO, unhide Hf5⟩
                  case measure => simp [intOf]; omega
        · have hte : t = i := by omega
          subst hte
          have HB := hide hB
          clear hB
          go_wp2_with fail
          go_ret2
          refine ⟨⟨_, rfl, ?_⟩, hf⟩
          have hB := unhide HB
          have hlen := ou_length X Y t t
          have := hB.rd (by rw [hlen]; unfold maxLen; omega)
          rw [hlen, unhide HOU] at this
          exact this

#print axioms rthrough_ok
end Go.Proofs.Ytbbgfbjchlefeaa
