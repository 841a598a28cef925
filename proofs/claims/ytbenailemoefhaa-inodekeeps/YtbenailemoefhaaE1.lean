/-
  Bytes of a constant, full and not to be appended to in place: what is laid behind them lies in new memory.
-/
import Derived.Test.YtbenailemoefhaaC3
import Derived.Lib.SlBytesConst
namespace Go.Proofs.Ytbenailemoefhaa
open Go.RowKit Go.Lib
set_option linter.unusedVariables false
set_option linter.unusedSimpArgs false

attribute [local go_sem ↓] Go.wp_at_zero Go.wp_at_succ

/-- A full slice that reads these bytes; what was there in W0 is as it was. -/
structure Nm (W0 W : World) (v : Value) (l : List UInt8) : Prop where
  sh : ∃ g, v = .slice (some ⟨g, 0, none⟩) l.length l.length ∧ W0.heap.size ≤ g ∧ g < W.heap.size
  rd : Rd W v l
  fr : Fr (fun _ => False) W0 W
theorem Nm.kept {W0 W W' : World} {v : Value} {l : List UInt8} (h : Nm W0 W v l) (f : Fr (fun _ => False) W W') : Nm W0 W' v l := by
  obtain ⟨g, e, h1, h2⟩ := h.sh
  exact ⟨⟨g, e, h1, Nat.lt_of_lt_of_le h2 f.size⟩, h.rd.kept f (fun _ _ e => e), h.fr.trans f (fun _ _ e => e)⟩
theorem run_appM {W0 W : World} {v : Value} {l xs : List UInt8} {x : Value} {m : Nat} (h : Nm W0 W v l) (hl : 0 < l.length) (hx : Sr W 1 x m (bvs xs)) (hm : xs.length = m) (hpos : 0 < m) (hk : l.length + m ≤ 100000) : ∃ ao c w', (Builtin.append_ #[26, 26] 26 #[v, x]).run Try.prog W = .ok (.slice ao (l.length + m) c) w' ∧ Nb W0 w' (.slice ao (l.length + m) c) (l ++ xs) ∧ Fr (fun _ => False) W w' ∧ (Value.slice ao (l.length + m) c).ownBlock = some W.heap.size := by
  obtain ⟨inf, hi0, hz0, hz1, hz2⟩ := info_parts Try.info5
  obtain ⟨g, rfl, hg1, hg2⟩ := h.sh
  rcases hx with ⟨rfl, rfl, -⟩ | ⟨ad, c, rfl, hnl, hc⟩
  · omega
  obtain ⟨b9, o9, e9, -, -, -, hcl⟩ := h.rd.lits hl
  simp only [Option.some.injEq, Addr.mk.injEq, true_and] at e9
  obtain ⟨rfl, rfl, -⟩ := e9
  have hr := run_append_grow (P := Try.prog) W 26 26 5 inf _ Try.underlying26 hi0 hz0 ⟨g, 0, none⟩ l.length l.length (bvs l) (by rw [hz1, bvs_length]; omega) (fun j u hu => by
    have hj : j < l.length := by have := (List.getElem?_eq_some_iff.1 hu).1; rwa [bvs_length] at this
    rw [bvs_get l j hj] at hu
    rw [Addr.add_lit]
    have := hcl j hj
    simp only [Option.some.injEq] at hu
    rw [← hu]; exact this) ad m c (bvs xs) (by rw [hz1]; omega) hc (by omega) (by omega) (by rw [hz2]; exact growslice_fits (by omega) (by omega))
  have hge := grownCap_ge W (l.length + m) l.length 5
  have hcm2 : grownCap W (l.length + m) l.length 5 ≤ maxLen := grownCap_le_maxLen W (l.length + m) l.length 5 (by simp only [maxLen]; omega)
  rw [zeros_u8] at hr
  have hlen : (l ++ xs).length = l.length + m := by rw [List.length_append, hm]
  refine ⟨_, _, _, hr, ⟨?_, ?_, ?_⟩, ?_, rfl⟩
  · rw [hlen]
    refine ⟨by rw [bvs_length, hlen]; omega, .inr ⟨W.heap.size, _, _, rfl, Nat.zero_le _, heap_alloc_new W.drew _, hge, hcm2, ?_, ?_⟩⟩
    · simp only [Array.size_append, List.size_toArray, bvs_length, List.length_replicate]
      omega
    · simp only [Array.toList_append]
      rw [← bvs_append, show (l.length + m) * 1 = (bvs (l ++ xs)).length by rw [bvs_length, hlen]; omega]
      exact List.take_left
  · exact (h.fr.drew).alloc _
  · intro k hk
    simp [Value.ownBlock] at hk
    have := h.fr.size
    omega
  · exact ((Fr.refl _ _).drew).alloc _
theorem wpList_appM {W0 w : World} {ops : Array Oper} {rest : List Oper} {o : Oper} {a : Act} {Q : Exit → Act → World → Prop} (hgd : o.guard = none) (hty : o.type = 26) (s x : Operand) (ho : o.op = .call { callee := .builtin .append, args := #[s, x], argTypes := #[26, 26] }) {v xv : Value} {l xs : List UInt8} {m : Nat} (hs : a.eval s = v) (hx : a.eval x = xv) (h : Nm W0 w v l) (hl : 0 < l.length) (hsr : Sr w 1 xv m (bvs xs)) (hm : xs.length = m) (hpos : 0 < m) (hk : l.length + m ≤ 100000)
    (hK : ∀ ao c w', Nb W0 w' (.slice ao (l.length + m) c) (l ++ xs) → Fr (fun _ => False) w w' → (Value.slice ao (l.length + m) c).ownBlock = some w.heap.size → wpList Try.prog ops Q rest (a.put o.dst (.slice ao (l.length + m) c)) w') : wpList Try.prog ops Q (o :: rest) a w := by
  refine wpList_plain hgd fun K hK2 => ?_
  obtain ⟨ao, c, w', hr, h2, h3, h4⟩ := run_appM h hl hsr hm hpos hk
  unfold Oper.wp execOp
  simp only [ho, hty, resolve, invoke, builtin, Sem.run_bind, Sem.run_pure, Result.andThen_ok, List.map_toArray, List.map_cons, List.map_nil, hs, hx, hr]
  exact hK2 _ _ (hK ao c w' h2 h3 h4)
set_option maxHeartbeats 1000000 in
theorem fourM_any (W0 w : World) (v : Value) (l : List UInt8) (z : Int) (n : Nat) (hz : z = (n : Int)) (h : Nm W0 w v l) (hl0 : 0 < l.length) (hn : n < 4294967296) (hl : l.length ≤ 1000) : Calls Try.prog 42 #[v, .int .u32 z] w fun e w' => ∃ v', e = .returned v' ∧ Nb W0 w' v' (l ++ be 4 n) ∧ Fr (fun k => W0.heap.size ≤ k) w w' := by
  subst hz
  have HO := hide h
  clear h
  go_enter Try.func42, Try.ntmps42
  go_wp2_with (refine wpList_appM (W0 := W0) (l := l) (xs := be 4 n) (m := 4) rfl rfl (.tmp 5) (.tmp 17) rfl rfl rfl ?hown hl0 ?hx (be_length 4 n) (by decide) (by omega) ?hK)
  case hown => exact (unhide HO).kept ((Fr.refl _ _).alloc _)
  case hx => exact sr4 _ _ _ _ _ n (by omega) (by omega) (by omega) (by omega)
  case hK =>
    intro ao' cap' w' ho hg hpl
    have H1 := hide ho
    have H2 : Hid (Fr (fun k => W0.heap.size ≤ k) w w') := hide ((((Fr.refl (fun _ => False) _).alloc _).trans hg (fun _ _ e => e)).mono (fun _ _ e => e.elim))
    clear ho hg hpl
    go_wp2_with fail
    go_ret
    exact ⟨_, rfl, unhide H1, unhide H2⟩
set_option maxRecDepth 100000 in
set_option maxHeartbeats 4000000 in
theorem layM_any (W0 w : World) (v : Value) (l : List UInt8) (bb n : Nat) (h : Nm W0 w v l) (hl0 : 0 < l.length) (hy : w.cell? ⟨bb, 0, none⟩ = some (.int .u64 (n : Int))) (hv : ∀ c, v.ownBlock = some c → bb ≠ c) (hl : l.length ≤ 1000) (hn : n < 18446744073709551616) :
    Calls Try.prog 40 #[v, .int .i64 4, .slice (some ⟨bb, 0, none⟩) 1 1] w fun e w' => ∃ v', e = .returned v' ∧ Nb W0 w' v' (l ++ be 4 n) := by
  obtain ⟨inf, hi0, hz0, hz1, hz2⟩ := info_parts Try.info5
  have H := hide h
  have HV := hide hv
  have HY := hide hy
  have hbw : bb < w.heap.size := World.block_lt_of_cell? w _ hy
  have HBW := hide hbw
  clear h hv hbw
  go_enter Try.func40, Try.ntmps40
  go_wp2_with fail
  go_loopw [0, 12] (fun o y W => (y = .int .i64 0 ∧ o = v ∧ W = w) ∨ (y = .int .i64 1 ∧ Nb W0 W o (l ++ be 4 n))) (fun _ y _ => 1 - (intOf y).toNat)
  case atStart => exact .inl ⟨rfl, rfl, rfl⟩
  case round =>
    rcases hrel with ⟨rfl, hov, hww⟩ | ⟨rfl, hN⟩
    · have hov' := hov.symm
      have hww' := hww.symm
      subst hov' hww'
      clear hov hww
      go_wp2_with fail
      go_loopw [0, 9] (fun o y W => (y = .int .i64 3 ∧ o = v ∧ W = w) ∨ (∃ (r : Nat) (z : Int) (B : List UInt8), r ≤ 3 ∧ y = .int .i64 z ∧ z = (r : Int) - 1 ∧ Nb W0 W o B ∧ B ++ be r n = l ++ be 4 n ∧ B.length + r = l.length + 4 ∧ W.cell? ⟨bb, 0, none⟩ = some (.int .u64 (n : Int)) ∧ (∀ c, o.ownBlock = some c → bb ≠ c))) (fun _ y _ => (intOf y + 1).toNat)
      case atStart => exact .inl ⟨rfl, rfl, rfl⟩
      case round =>
        rcases hrel with ⟨rfl, hov, hww⟩ | ⟨r, z, B, hr, rfl, hz, hN, hB, hBl, hR, hap⟩
        · have hov' := hov.symm
          have hww' := hww.symm
          subst hov' hww'
          clear hov hww
          have HX := hide (be_byte n 3)
          obtain ⟨x8, hx8⟩ : ∃ x8, x8 = UInt8.ofNat (n / 256 ^ 3) := ⟨_, rfl⟩
          rw [← hx8] at HX
          have HB : Hid (l ++ [x8] ++ be 3 n = l ++ be 4 n) := hide (by rw [hx8]; simp [be])
          clear hx8
          go_wp2_with (refine wpList_appM (W0 := W0) (l := l) (xs := [x8]) (m := 1) rfl rfl (.tmp 22) (.tmp 28) rfl rfl rfl ?hown hl0 ?hx rfl (by decide) (by omega) ?hK)
          case hown => exact (unhide H).kept ((Fr.refl _ _).alloc _)
          case hx => exact sr1 _ _ _ (by rw [unhide HX]; simp <;> omega)
          case hK =>
            intro ao' cap' w' ho hg hpl
            have HNN := hide ho
            have HR2 : Hid (w'.cell? ⟨bb, 0, none⟩ = some (.int .u64 (n : Int))) := hide (by
              rw [(((Fr.refl (fun _ => False) w).alloc _).trans hg (fun _ _ e => e)).cell (unhide HBW) id]; exact unhide HY)
            have HP2 : Hid (∀ c, (Value.slice ao' (l.length + 1) cap').ownBlock = some c → bb ≠ c) := hide (fun c hc => by
              rw [hpl] at hc; simp at hc; have := unhide HBW; omega)
            clear ho hg hpl
            go_wp2_with fail
            go_roundw
            case rel => exact .inr ⟨3, 2, l ++ [x8], by omega, rfl, rfl, unhide HNN, unhide HB, by simp <;> omega, unhide HR2, unhide HP2⟩
            case measure => simp [intOf]
        · rcases Nat.eq_zero_or_pos r with rfl | hpos
          · obtain rfl : z = -1 := by omega
            have HN2 : Hid (Nb W0 wr u0 (l ++ be 4 n)) := hide (by rw [← hB]; simpa [be] using hN)
            clear hN hR hap hB hBl hr hz
            go_wp2_with fail
            go_roundw
            case rel => exact .inr ⟨rfl, unhide HN2⟩
            case measure => simp [intOf]
          · obtain ⟨r, rfl⟩ : ∃ r', r = r' + 1 := ⟨r - 1, by omega⟩
            obtain ⟨oa, oc, rfl⟩ := hN.shape
            have HN := hide hN
            have HR := hide hR
            have HAP := hide hap
            have hBL : B.length ≤ 1100 := by omega
            have HX := hide (be_byte n r)
            have HBE : Hid (B ++ [UInt8.ofNat (n / 256 ^ r)] ++ be r n = l ++ be 4 n) := hide (by rw [← hB]; simp [be])
            have HBL : Hid (B.length + 1 + r = l.length + 4) := hide (by omega)
            have HRK : Hid (r ≤ 3) := hide (by omega)
            obtain ⟨x8, hx8⟩ : ∃ x8, x8 = UInt8.ofNat (n / 256 ^ r) := ⟨_, rfl⟩
            rw [← hx8] at HX HBE
            clear hN hap hB hBl hx8
            rcases (show r = 0 ∨ r = 1 ∨ r = 2 by omega) with rfl | rfl | rfl
            · obtain rfl : z = 0 := by omega
              clear hz hpos hr
              go_wp2_with (refine wpList_app rfl (.tmp 22) (.tmp 28) 26 rfl 5 inf _ 1 1 Try.underlying26 hi0 hz0 hz1 hz2 rfl (by decide) _ B.length (bvs B) rfl _ rfl 1 (bvs [x8]) ?hown ?hx ?h1 ?hb ?h63 ?hK)
              case hown => exact ((unhide HN).alloc _).own
              case hx => exact sr1 _ _ _ (by rw [unhide HX]; simp <;> omega)
              case h1 => exact bvs_one _
              case hb => omega
              case h63 => simp only [maxLen]; omega
              case hK =>
                intro ao' cap' w' ho hg hpl
                have HNN : Hid (Nb W0 w' (.slice ao' (B.length + 1) cap') (B ++ [x8])) := hide (((unhide HN).alloc _).grown (x := [x8]) ho hg (by rcases hpl with e | ⟨k, e, hk⟩; exact .inl e; exact .inr ⟨k, e, by simp at hk ⊢; omega⟩))
                have HFR : Hid (Fr (fun k => (Value.slice oa B.length oc).ownBlock = some k) wr w') := hide (Fr.grown ((Fr.refl _ _).alloc _) hg (fun k _ e => e))
                have hbr : bb < wr.heap.size := World.block_lt_of_cell? wr _ (unhide HR)
                have HR2 : Hid (w'.cell? ⟨bb, 0, none⟩ = some (.int .u64 (n : Int))) := hide (by
                  rw [(unhide HFR).cell hbr (fun e => unhide HAP bb e rfl)]; exact unhide HR)
                have HP2 : Hid (∀ c, (Value.slice ao' (B.length + 1) cap').ownBlock = some c → bb ≠ c) := hide (fun c hc => by
                  rcases hpl with e | ⟨k, e, hk⟩
                  · rw [e] at hc; exact unhide HAP c hc
                  · rw [e] at hc
                    simp at hc hk
                    omega)
                clear ho hg hpl hbr
                go_wp2_with fail
                go_roundw
                case rel => exact .inr ⟨_, _, B ++ [x8], unhide HRK, rfl, by first | rfl | omega, by simpa using unhide HNN, unhide HBE, by simpa using unhide HBL, unhide HR2, by simpa using unhide HP2⟩
                case measure => simp [intOf]
            · obtain rfl : z = 1 := by omega
              clear hz hpos hr
              go_wp2_with (refine wpList_app rfl (.tmp 22) (.tmp 28) 26 rfl 5 inf _ 1 1 Try.underlying26 hi0 hz0 hz1 hz2 rfl (by decide) _ B.length (bvs B) rfl _ rfl 1 (bvs [x8]) ?hown ?hx ?h1 ?hb ?h63 ?hK)
              case hown => exact ((unhide HN).alloc _).own
              case hx => exact sr1 _ _ _ (by rw [unhide HX]; simp <;> omega)
              case h1 => exact bvs_one _
              case hb => omega
              case h63 => simp only [maxLen]; omega
              case hK =>
                intro ao' cap' w' ho hg hpl
                have HNN : Hid (Nb W0 w' (.slice ao' (B.length + 1) cap') (B ++ [x8])) := hide (((unhide HN).alloc _).grown (x := [x8]) ho hg (by rcases hpl with e | ⟨k, e, hk⟩; exact .inl e; exact .inr ⟨k, e, by simp at hk ⊢; omega⟩))
                have HFR : Hid (Fr (fun k => (Value.slice oa B.length oc).ownBlock = some k) wr w') := hide (Fr.grown ((Fr.refl _ _).alloc _) hg (fun k _ e => e))
                have hbr : bb < wr.heap.size := World.block_lt_of_cell? wr _ (unhide HR)
                have HR2 : Hid (w'.cell? ⟨bb, 0, none⟩ = some (.int .u64 (n : Int))) := hide (by
                  rw [(unhide HFR).cell hbr (fun e => unhide HAP bb e rfl)]; exact unhide HR)
                have HP2 : Hid (∀ c, (Value.slice ao' (B.length + 1) cap').ownBlock = some c → bb ≠ c) := hide (fun c hc => by
                  rcases hpl with e | ⟨k, e, hk⟩
                  · rw [e] at hc; exact unhide HAP c hc
                  · rw [e] at hc
                    simp at hc hk
                    omega)
                clear ho hg hpl hbr
                go_wp2_with fail
                go_roundw
                case rel => exact .inr ⟨_, _, B ++ [x8], unhide HRK, rfl, by first | rfl | omega, by simpa using unhide HNN, unhide HBE, by simpa using unhide HBL, unhide HR2, by simpa using unhide HP2⟩
                case measure => simp [intOf]
            · obtain rfl : z = 2 := by omega
              clear hz hpos hr
              go_wp2_with (refine wpList_app rfl (.tmp 22) (.tmp 28) 26 rfl 5 inf _ 1 1 Try.underlying26 hi0 hz0 hz1 hz2 rfl (by decide) _ B.length (bvs B) rfl _ rfl 1 (bvs [x8]) ?hown ?hx ?h1 ?hb ?h63 ?hK)
              case hown => exact ((unhide HN).alloc _).own
              case hx => exact sr1 _ _ _ (by rw [unhide HX]; simp <;> omega)
              case h1 => exact bvs_one _
              case hb => omega
              case h63 => simp only [maxLen]; omega
              case hK =>
                intro ao' cap' w' ho hg hpl
                have HNN : Hid (Nb W0 w' (.slice ao' (B.length + 1) cap') (B ++ [x8])) := hide (((unhide HN).alloc _).grown (x := [x8]) ho hg (by rcases hpl with e | ⟨k, e, hk⟩; exact .inl e; exact .inr ⟨k, e, by simp at hk ⊢; omega⟩))
                have HFR : Hid (Fr (fun k => (Value.slice oa B.length oc).ownBlock = some k) wr w') := hide (Fr.grown ((Fr.refl _ _).alloc _) hg (fun k _ e => e))
                have hbr : bb < wr.heap.size := World.block_lt_of_cell? wr _ (unhide HR)
                have HR2 : Hid (w'.cell? ⟨bb, 0, none⟩ = some (.int .u64 (n : Int))) := hide (by
                  rw [(unhide HFR).cell hbr (fun e => unhide HAP bb e rfl)]; exact unhide HR)
                have HP2 : Hid (∀ c, (Value.slice ao' (B.length + 1) cap').ownBlock = some c → bb ≠ c) := hide (fun c hc => by
                  rcases hpl with e | ⟨k, e, hk⟩
                  · rw [e] at hc; exact unhide HAP c hc
                  · rw [e] at hc
                    simp at hc hk
                    omega)
                clear ho hg hpl hbr
                go_wp2_with fail
                go_roundw
                case rel => exact .inr ⟨_, _, B ++ [x8], unhide HRK, rfl, by first | rfl | omega, by simpa using unhide HNN, unhide HBE, by simpa using unhide HBL, unhide HR2, by simpa using unhide HP2⟩
                case measure => simp [intOf]
    · have HN2 := hide hN
      clear hN
      go_wp2_with fail
      go_ret
      exact ⟨_, rfl, unhide HN2⟩
end Go.Proofs.Ytbenailemoefhaa
