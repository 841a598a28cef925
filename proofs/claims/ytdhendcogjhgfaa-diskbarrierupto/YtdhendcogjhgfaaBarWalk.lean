/-
  The walk of 'granarylaw04.DiskBarrier'.
-/
import Derived.Test.YtdhendcogjhgfaaL9
namespace Go.Proofs.Ytdhendcogjhgfaa
open Go.RowKit
set_option linter.unusedVariables false

attribute [local go_sem ↓] Go.wp_at_zero Go.wp_at_succ

theorem str_dec (a b : List UInt8) : ((str a).toList == (str b).toList) = decide (a = b) := by
  by_cases h : a = b
  · rw [h, decide_eq_true rfl]; simp
  · rw [str_ne h, decide_eq_false h]

theorem RdV.sr {w : World} {ko : Option Addr} {kc : Nat} {K : List Int} (h : RdV w (.slice ko K.length kc) (K.map (Value.int .i64))) : Sr w 1 (.slice ko K.length kc) K.length (K.map (Value.int .i64)) := by
  rcases h with ⟨hv, hl⟩ | ⟨ad, cap, hv, h1, h2, h3⟩
  · have hl' : K.length = 0 := by have := congrArg List.length hl; simpa using this
    simp only [Value.slice.injEq] at hv
    exact .inl ⟨by rw [hv.1, hl', hv.2.2], hl', hl⟩
  · rw [List.length_map] at hv
    exact .inr ⟨ad, cap, hv, by simp, fun j u hu => by
      have hj := (List.getElem?_eq_some_iff.1 hu).1
      rw [h3 j hj]
      rw [List.getElem?_eq_getElem hj] at hu
      exact hu⟩

set_option maxHeartbeats 4000000 in
set_option maxRecDepth 100000 in
theorem diskBarrier_any (w : World) (s : Int) (v kv : Value) (l : List Sp) (K : List Int) (h : RdS w v l) (hk : RdV w kv (K.map (Value.int .i64))) (lK : K.length ≤ 1048576) : Calls Try.prog 5 #[.int .i64 s, v, kv] w fun e w' => e = .returned (.bool true) ∧ Fr (fun _ => False) w w' := by
  have H := hide h
  have HK := hide hk
  obtain ⟨ao, ac, rfl⟩ := h.shape
  obtain ⟨ko, kc, rfl⟩ := hk.shape
  rw [List.length_map] at *
  clear h hk
  go_enter Try.func5, Try.ntmps5
  go_wp2_with fail
  have HL := hide (long_any w _ l (unhide H))
  rcases hb : loB l with _ | _
  · rw [hb] at HL
    refine (unhide HL).mono ?_
    rintro e w' ⟨rfl, n1, rfl⟩
    clear HL
    by_cases h200 : 200 < K.length
    · have b0 : decide ((200 : Int) < (K.length : Int)) = true := by simp; omega
      go_wp2_with fail
      refine (live_any _).mono ?_
      rintro e w' ⟨rfl, f⟩
      have HG := hide f
      clear f
      go_wp2_with fail
      go_ret
      exact ⟨rfl, (Fr.ofDrewN _ _).trans (unhide HG) (fun _ _ h => h)⟩
    have b0 : decide ((200 : Int) < (K.length : Int)) = false := by simp; omega
    by_cases h40 : 40 < s
    · have b1 : decide (40 < s) = true := by simpa using h40
      go_wp2_with fail
      refine (live_any _).mono ?_
      rintro e w' ⟨rfl, f⟩
      have HG := hide f
      clear f
      go_wp2_with fail
      go_ret
      exact ⟨rfl, (Fr.ofDrewN _ _).trans (unhide HG) (fun _ _ h => h)⟩
    · have b1 : decide (40 < s) = false := by simpa using h40
      by_cases h0 : s < 1
      · go_wp2_with fail
        refine (played_no _ s (by omega) ao _ _).mono ?_
        rintro e w' ⟨rfl, rfl⟩
        go_wp2_with fail
        refine (live_any _).mono ?_
        rintro e w' ⟨rfl, f⟩
        have HG := hide f
        clear f
        go_wp2_with fail
        go_ret
        exact ⟨rfl, (Fr.ofDrewN _ _).trans (unhide HG) (fun _ _ h => h)⟩
      · obtain ⟨z, rfl⟩ : ∃ z : Nat, s = (z : Int) := ⟨s.toNat, by omega⟩
        have hz : 1 ≤ z ∧ z ≤ 65536 := by omega
        go_wp2_with fail
        refine (played_ok _ z hz _ l ((unhide H).kept (Fr.ofDrewN w n1)) hb).mono ?_
        rintro e w1 ⟨p, gs, q, p2, sg, hg, q2, rfl, hP, hnn⟩
        have hSL : (plI (newD z 16) l l.length).S.length = z := by rw [(plI_shape _ _ _).1]; simp [newD]
        generalize plI (newD z 16) l l.length = d at *
        have F0 := (Fr.ofDrewN (S := fun _ => False) w n1).size
        have HN1 : Hid (Nd w w1 p gs q d) := hide ⟨hP.k, (Fr.ofDrewN w n1).trans hP.f (fun _ _ h => h), fun b hb => Nat.le_trans F0 (hP.hk b (.inr (.inr hb))), Nat.le_trans F0 (hP.hk _ (.inl rfl)), Nat.le_trans F0 (hP.hk _ (.inr (.inl rfl)))⟩
        have hroom := hP.k.ok.room
        clear hP hb h0 H F0 h40
        go_wp2_with fail
        have hfa := failed_any _ _ _ _ _ (unhide HN1).k
        rcases hof : d.off with _ | _
        · rw [hof] at hfa
          refine hfa.mono ?_
          clear hfa
          rintro e w' ⟨rfl, rfl⟩
          go_wp2_with fail
          refine (queue_any _ _ _ _ _ (unhide HN1).k).mono ?_
          rintro e w2 ⟨rfl, hs2, f2⟩
          have D2 : Hid (Ds w w2 (fun b => b = w1.heap.size) [(p, gs, q, d)]) := hide ⟨fun x hx => by simp at hx; subst hx; exact (unhide HN1).fr f2, List.pairwise_singleton _ _, fun b hb => by
            subst hb
            refine ⟨lt_of_heap hs2, fun x hx hk => ?_⟩
            simp at hx; subst hx
            have := (unhide HN1).k.ltB hk
            omega⟩
          generalize w1.heap.size = gQ at *
          have S2 := hide hs2
          have HOF := hide hof
          obtain ⟨nQ, hnQ⟩ : ∃ n, n = d.Q.length := ⟨_, rfl⟩
          rw [← hnQ]
          have HNQ := hide hnQ
          rw [← hnQ] at hroom
          clear hs2 f2 HN1 hof hnQ
          go_wp2_with fail
          refine (copy_any _ _ _ _ _ ((unhide D2).nd (p, gs, q, d) (by simp)).k).mono ?_
          rintro e w3 ⟨⟨pa, ga, qa, da, rfl, ca, ka, xa, ya, za⟩, fa⟩
          have D3 : Hid (Ds w w3 (fun b => b = gQ) ([(p, gs, q, d), (pa, ga, qa, da)])) := hide ((unhide D2).add ((unhide D2).nd (p, gs, q, d) (by simp)).f.size fa ((unhide D2).nd (p, gs, q, d) (by simp)).f ka xa ya za)
          have S3 := hide ((unhide S2).kept fa id)
          have Ca := hide (core_set ca)
          clear ca ka xa ya za fa D2 S2
          go_wp2_with fail
          refine (copy_any _ _ _ _ _ ((unhide D3).nd (p, gs, q, d) (by simp)).k).mono ?_
          rintro e w4 ⟨⟨pb, gb, qb, db, rfl, cb, kb, xb, yb, zb⟩, fb⟩
          have D4 : Hid (Ds w w4 (fun b => b = gQ) ([(p, gs, q, d), (pa, ga, qa, da), (pb, gb, qb, db)])) := hide ((unhide D3).add ((unhide D3).nd (p, gs, q, d) (by simp)).f.size fb ((unhide D3).nd (p, gs, q, d) (by simp)).f kb xb yb zb)
          have S4 := hide ((unhide S3).kept fb id)
          have Cb := hide (core_set cb)
          clear cb kb xb yb zb fb D3 S3
          go_wp2_with fail
          refine (copy_any _ _ _ _ _ ((unhide D4).nd (p, gs, q, d) (by simp)).k).mono ?_
          rintro e w5 ⟨⟨pc, gc, qc, dc, rfl, cc, kc, xc, yc, zc⟩, fc⟩
          have D5 : Hid (Ds w w5 (fun b => b = gQ) ([(p, gs, q, d), (pa, ga, qa, da), (pb, gb, qb, db), (pc, gc, qc, dc)])) := hide ((unhide D4).add ((unhide D4).nd (p, gs, q, d) (by simp)).f.size fc ((unhide D4).nd (p, gs, q, d) (by simp)).f kc xc yc zc)
          have S5 := hide ((unhide S4).kept fc id)
          have Cc := hide (core_set cc)
          clear cc kc xc yc zc fc D4 S4
          go_wp2_with fail
          refine (copy_any _ _ _ _ _ ((unhide D5).nd (p, gs, q, d) (by simp)).k).mono ?_
          rintro e w6 ⟨⟨pe, ge, qe, de, rfl, ce, ke, xe, ye, ze⟩, fe⟩
          have D6 : Hid (Ds w w6 (fun b => b = gQ) ([(p, gs, q, d), (pa, ga, qa, da), (pb, gb, qb, db), (pc, gc, qc, dc), (pe, ge, qe, de)])) := hide ((unhide D5).add ((unhide D5).nd (p, gs, q, d) (by simp)).f.size fe ((unhide D5).nd (p, gs, q, d) (by simp)).f ke xe ye ze)
          have S6 := hide ((unhide S5).kept fe id)
          have Ce := hide (core_set ce)
          clear ce ke xe ye ze fe D5 S5
          go_wp2_with fail
          obtain ⟨inf, hi0, hz0, hz1, hz2⟩ := info_parts Try.info3
          go_loopw [14, 15] (fun x y W => ∃ i : Nat, i ≤ nQ ∧ y = .int .i64 (i : Int) ∧ (∃ al Nl cl, x = .slice al Nl cl ∧ Nl = i ∧ W.ownsRow 0 3 1 (.slice al Nl cl) Nl (ivs (List.range i)) ∧ ∀ b, (Value.slice al Nl cl).ownBlock = some b → w6.heap.size ≤ b) ∧ Fr (fun _ => False) w6 W) (fun _ y _ => nQ - (intOf y).toNat)
          case atStart => exact ⟨0, by omega, rfl, ⟨none, 0, 0, rfl, rfl, owns_nilE _ 3, fun b hb => by simp [Value.ownBlock] at hb⟩, Fr.refl _ _⟩
          case round =>
            obtain ⟨i, hi, rfl, ⟨al, Nl, cl, rfl, hN, hO, hnew⟩, hf⟩ := hrel
            by_cases hlt : i < nQ
            · subst hN
              have bl : decide ((Nl : Int) < (nQ : Int)) = true := by simp; omega
              have HO := hide hO
              have Hf := hide hf
              have HNW := hide hnew
              clear hO hf hnew
              rename World => wo
              go_wp2_with (at_builtin; refine wpList_app rfl (.tmp 81) (.tmp 83) 37 rfl 3 inf _ 1 8 Try.underlying37 hi0 hz0 hz1 hz2 rfl (by decide) (.slice al Nl cl) Nl _ rfl (.slice (some ⟨wo.heap.size, 0, none⟩) 1 1) rfl 1 [.int .i64 (Nl : Int)] ((unhide HO).alloc _) (one_cellV wo _ 3) (fun u hu => by simp at hu; subst hu; rfl) (by omega) (by simp only [maxLen]; omega) ?_)
              intro ao4 ac4 w4 o4 g4 p4
              have n4 : ∀ b, (Value.slice ao4 (Nl + 1) ac4).ownBlock = some b → w6.heap.size ≤ b := by
                intro b hb
                rcases p4 with e | ⟨k', e, hk'⟩
                · rw [e] at hb; exact unhide HNW b hb
                · rw [e] at hb; simp at hb; have := (unhide Hf).size; omega
              have hO4 : w4.ownsRow 0 3 1 (.slice ao4 (Nl + 1) ac4) (Nl + 1) (ivs (List.range (Nl + 1))) := by
                have e : ivs (List.range (Nl + 1)) = ivs (List.range Nl) ++ [Value.int .i64 (Nl : Int)] := by simp [ivs, List.range_succ]
                rw [e]; exact o4
              have HO4 := hide hO4
              have HN4' := hide n4
              have HF4 := hide (((unhide Hf).alloc _).grown g4 (fun k hk e => by have := unhide HNW k e; omega))
              clear o4 g4 p4 n4 hO4
              go_wp2_with fail
              go_roundw
              case rel => exact ⟨Nl + 1, by omega, by go_num, ⟨ao4, Nl + 1, ac4, rfl, rfl, unhide HO4, unhide HN4'⟩, unhide HF4⟩
              case measure => simp [intOf]; omega
            · have bl : decide ((i : Int) < (nQ : Int)) = false := by simp; omega
              have hie : i = nQ := by omega
              subst hie
              subst hN
              rename World => wo
              have hrn : RdV wo (.slice al Nl cl) ((iz (List.range Nl)).map (Value.int .i64)) := by
                rw [iz_ivs]
                refine RdV.of_owns (base := 0) (e := 3) ?_
                rw [ivs_length, List.length_range]
                exact hO
              have D7 : Hid (Ds w wo (fun b => b = gQ ∨ (Value.slice al Nl cl).ownBlock = some b) [(p, gs, q, d), (pa, ga, qa, da), (pb, gb, qb, db), (pc, gc, qc, dc), (pe, ge, qe, de)]) := hide (((unhide D6).fr hf).more (fun b hb => by
                obtain ⟨cs, hc⟩ := owns_ty hO hb
                exact ⟨lt_of_heap hc, (unhide D6).far (hnew b hb)⟩))
              have S7 := hide ((unhide S6).kept hf id)
              have R7 := hide hrn
              clear hO hnew hf hrn D6 S6 hi hlt
              have hnum := unhide HNQ
              have hmq : ∀ x : Dk, (∃ c r, x = setC d c r) → x.n + x.Q.length < 1000000000 := by
                rintro x ⟨c, r, rfl⟩
                show d.n + d.Q.length < _
                omega
              have HMQ := hide hmq
              clear hmq hnum
              go_wp2_with fail
              refine (crash_nd _ (iz (List.range Nl)) ((unhide D7).nd (pa, ga, qa, da) (by simp)) (unhide HMQ _ ⟨_, _, unhide Ca⟩) (unhide R7)).mono ?_
              rintro e w8 ⟨rfl, qa8, n8, m8⟩
              have x7 := (unhide D7).xs
              have D8 : Hid (Ds w w8 (fun b => b = gQ ∨ (Value.slice al Nl cl).ownBlock = some b) [(p, gs, q, d), (pa, ga, qa8, crD da (iz (List.range Nl))), (pb, gb, qb, db), (pc, gc, qc, dc), (pe, ge, qe, de)]) := hide (Ds.go (A := [(p, gs, q, d)]) (unhide D7) n8 m8)
              have S8 := hide ((unhide S7).kept m8.f (fun e => (x7 _ (.inl rfl)).2 (pa, ga, qa, da) (by simp) e))
              have R8 := hide ((unhide R7).kept m8.f (fun b hb e => (x7 b (.inr hb)).2 (pa, ga, qa, da) (by simp) e))
              clear n8 m8 x7 D7 S7 R7
              go_wp2_with fail
              refine (crash_nd _ [] ((unhide D8).nd (pb, gb, qb, db) (by simp)) (unhide HMQ _ ⟨_, _, unhide Cb⟩) (.inl ⟨rfl, rfl⟩)).mono ?_
              rintro e w9 ⟨rfl, qb9, n9, m9⟩
              have x8 := (unhide D8).xs
              have D9 : Hid (Ds w w9 (fun b => b = gQ ∨ (Value.slice al Nl cl).ownBlock = some b) [(p, gs, q, d), (pa, ga, qa8, crD da (iz (List.range Nl))), (pb, gb, qb9, crD db []), (pc, gc, qc, dc), (pe, ge, qe, de)]) := hide (Ds.go (A := [(p, gs, q, d), (pa, ga, qa8, crD da (iz (List.range Nl)))]) (unhide D8) n9 m9)
              have S9 := hide ((unhide S8).kept m9.f (fun e => (x8 _ (.inl rfl)).2 (pb, gb, qb, db) (by simp) e))
              have R9 := hide ((unhide R8).kept m9.f (fun b hb e => (x8 b (.inr hb)).2 (pb, gb, qb, db) (by simp) e))
              have hK9 := (unhide HK).kept ((unhide D9).nd (p, gs, q, d) (by simp)).f (fun _ _ h => h)
              have HSR := hide (hK9.kept ((Fr.refl (fun _ => False) w9).alloc (Obj.cells #[] 3)) (fun _ _ h => h)).sr
              have HO9 := hide (owns_newE w9 3 1)
              have ho1 : ∀ u ∈ K.map (Value.int .i64), u.oneCell' = true := fun u hu => by obtain ⟨x, -, rfl⟩ := List.mem_map.1 hu; rfl
              clear n9 m9 x8 D8 S8 R8 hK9
              go_wp2_with (at_builtin; refine wpList_app rfl (.tmp 91) (.tmp 92) 37 rfl 3 inf _ 1 8 Try.underlying37 hi0 hz0 hz1 hz2 rfl (by decide) (.slice (some ⟨w9.heap.size, 0, none⟩) 0 0) 0 [] rfl (.slice ko K.length kc) rfl K.length _ (unhide HO9) (unhide HSR) ho1 (by omega) (by simp only [maxLen]; omega) ?_)
              intro ao4 ac4 w4 o4 g4 p4
              have g5 : Fr (fun k => k = w9.heap.size) (w9.alloc (Obj.cells #[] 3)) w4 := (Fr.refl _ _).grown g4 (fun k _ e => by simp [Value.ownBlock] at e; exact e.symm)
              have fw : Fr (fun _ => False) w9 w4 := ((Fr.refl (fun _ => False) w9).alloc (Obj.cells #[] 3)).trans g5 (fun k hk e => by omega)
              have hrd4 : RdV w4 (.slice ao4 K.length ac4) (K.map (Value.int .i64)) := by
                have o5 : w4.ownsRow 0 3 1 (.slice ao4 K.length ac4) (K.map (Value.int .i64)).length (K.map (Value.int .i64)) := by simpa using o4
                exact RdV.of_owns o5
              have D4 := hide ((unhide D9).fr fw)
              have S4 := hide ((unhide S9).kept fw id)
              have R4 := hide ((unhide R9).kept fw (fun _ _ h => h))
              have HK4 := hide hrd4
              clear o4 g4 p4 g5 fw hrd4 D9 S9 R9 HSR HO9 ho1
              go_wp2_with fail
              refine (crash_nd _ K ((unhide D4).nd (pe, ge, qe, de) (by simp)) (unhide HMQ _ ⟨_, _, unhide Ce⟩) (unhide HK4)).mono ?_
              rintro e wA ⟨rfl, qeA, nA, mA⟩
              have x4 := (unhide D4).xs
              have DA : Hid (Ds w wA (fun b => b = gQ ∨ (Value.slice al Nl cl).ownBlock = some b) [(p, gs, q, d), (pa, ga, qa8, crD da (iz (List.range Nl))), (pb, gb, qb9, crD db []), (pc, gc, qc, dc), (pe, ge, qeA, crD de K)]) := hide (Ds.go (A := [(p, gs, q, d), (pa, ga, qa8, crD da (iz (List.range Nl))), (pb, gb, qb9, crD db []), (pc, gc, qc, dc)]) (unhide D4) nA mA)
              have SA := hide ((unhide S4).kept mA.f (fun e => (x4 _ (.inl rfl)).2 (pe, ge, qe, de) (by simp) e))
              have RA := hide ((unhide R4).kept mA.f (fun b hb e => (x4 b (.inr hb)).2 (pe, ge, qe, de) (by simp) e))
              clear nA mA x4 D4 S4 R4 HK4
              go_wp2_with fail
              have hflc := flush_nd ((unhide DA).nd (pc, gc, qc, dc) (by simp)) (Nat.le_of_lt (unhide HMQ _ ⟨_, _, unhide Cc⟩))
              have hofc : flE dc = 0 := by
                unfold flE
                rw [show dc.off = false by rw [unhide Cc]; exact unhide HOF]
                rfl
              rw [show flE (pc, gc, qc, dc).2.2.2 = 0 from hofc] at hflc
              refine hflc.mono ?_
              clear hflc hofc
              rintro e wB ⟨rfl, qcB, nB, mB⟩
              have xA := (unhide DA).xs
              have DB : Hid (Ds w wB (fun b => b = gQ ∨ (Value.slice al Nl cl).ownBlock = some b) [(p, gs, q, d), (pa, ga, qa8, crD da (iz (List.range Nl))), (pb, gb, qb9, crD db []), (pc, gc, qcB, flD dc), (pe, ge, qeA, crD de K)]) := hide (Ds.go (A := [(p, gs, q, d), (pa, ga, qa8, crD da (iz (List.range Nl))), (pb, gb, qb9, crD db [])]) (unhide DA) nB mB)
              have SB := hide ((unhide SA).kept mB.f (fun e => (xA _ (.inl rfl)).2 (pc, gc, qc, dc) (by simp) e))
              have RB' := hide ((unhide RA).kept mB.f (fun b hb e => (xA b (.inr hb)).2 (pc, gc, qc, dc) (by simp) e))
              clear nB mB xA DA SA RA
              go_wp2_with (go_at_call 14; refine (num_any _ _).mono ?_; rintro e w' ⟨rfl, rfl⟩)
              have hsa := same_any _ _ _ _ _ _ _ _ _ ((unhide DB).nd (pa, ga, qa8, crD da (iz (List.range Nl))) (by simp)).k ((unhide DB).nd (pc, gc, qcB, flD dc) (by simp)).k
              have hsm : smB (crD da (iz (List.range Nl))) (flD dc) = true := by
                rw [unhide Ca, unhide Cc, crD_set, flD_set, unhide HNQ, cr_all (unhide HOF)]
                exact smB_iff.mpr ⟨rfl, rfl, rfl, rfl⟩
              rw [hsm] at hsa
              refine hsa.mono ?_
              clear hsa hsm
              rintro e w' ⟨rfl, nC, rfl⟩
              have DC := hide ((unhide DB).fr (Fr.ofDrewN _ nC))
              have SC := hide ((unhide SB).kept (Fr.ofDrewN (S := fun _ => False) _ nC) id)
              have RC := hide ((unhide RB').kept (Fr.ofDrewN (S := fun _ => False) _ nC) (fun _ _ h => h))
              clear DB SB RB'
              go_wp2_with fail
              have hqe := queue_any _ _ _ _ _ ((unhide DC).nd (pe, ge, qeA, crD de K) (by simp)).k
              rw [show (crD de K).Q.length = 0 from rfl] at hqe
              refine hqe.mono ?_
              clear hqe
              rintro e wD ⟨rfl, -, fD⟩
              have DD := hide ((unhide DC).fr fD)
              have SD := hide ((unhide SC).kept fD id)
              have RD := hide ((unhide RC).kept fD (fun _ _ h => h))
              clear fD DC SC RC
              go_wp2_with fail
              clear bl
              go_loopw [16] (fun y W => ∃ i : Nat, i ≤ z ∧ y = .int .i64 (i : Int) ∧ Fr (fun _ => False) wD W) (fun y _ => z - (intOf y).toNat)
              case atStart => exact ⟨0, by omega, rfl, Fr.refl _ _⟩
              case round =>
                obtain ⟨i, hi, rfl, hfr⟩ := hrel
                have HR := hide hfr
                clear hfr
                by_cases hlt : i < z
                · have bl : decide ((i : Int) < (z : Int)) = true := by simp; omega
                  go_wp2_with fail
                  refine (stable_any _ _ _ _ _ (i : Int) (((unhide DD).fr (unhide HR)).nd (p, gs, q, d) (by simp)).k).mono ?_
                  rintro e wE ⟨⟨oE, cE, rfl, hrE, -⟩, fE⟩
                  have HE := hide hrE
                  have HRE := hide ((unhide HR).trans fE (fun _ _ h => h))
                  clear hrE fE HR
                  go_wp2_with fail
                  refine (stable_any _ _ _ _ _ (i : Int) (((unhide DD).fr (unhide HRE)).nd (pb, gb, qb9, crD db []) (by simp)).k).mono ?_
                  rintro e wF ⟨⟨oF, cF, rfl, hrF, -⟩, fF⟩
                  have HE2 := hide ((unhide HE).kept fF (fun _ _ h => h))
                  have HFF := hide hrF
                  have HRF := hide ((unhide HRE).trans fF (fun _ _ h => h))
                  clear hrF fF HRE HE
                  go_wp2_with fail
                  refine (stable_any _ _ _ _ _ (i : Int) (((unhide DD).fr (unhide HRF)).nd (pe, ge, qeA, crD de K) (by simp)).k).mono ?_
                  rintro e wG ⟨⟨oG, cG, rfl, hrG, -⟩, fG⟩
                  have eB : stD (crD db []) (i : Int) = stD d (i : Int) := by rw [unhide Cb, crD_set, cr_none]; rfl
                  have eE : stD (crD de K) (i : Int) = stD (crD d K) (i : Int) := by rw [unhide Ce, crD_set]; rfl
                  have hmay := cr_may d K i (by omega)
                  have rE := (unhide HE2).kept fG (fun _ _ h => h)
                  have rF := (unhide HFF).kept fG (fun _ _ h => h)
                  dsimp only at rE rF hrG ⊢
                  rw [eB] at rF ⊢
                  rw [eE] at hrG ⊢
                  have SG := hide ((unhide SD).kept ((unhide HRF).trans fG (fun _ _ h => h)) id)
                  have HRG := hide ((unhide HRF).trans fG (fun _ _ h => h))
                  generalize stD d (i : Int) = A at *
                  generalize stD (crD d K) (i : Int) = B at *
                  have kE0 := conv_rd (P := Try.prog) rE 36 9 5 Try.underlying36 Try.underlying5 Try.underlying9
                  have kG0 := conv_rd (P := Try.prog) hrG 36 9 5 Try.underlying36 Try.underlying5 Try.underlying9
                  have kE := fun n => conv_rd (P := Try.prog) (rE.kept (Fr.ofDrewN (S := fun _ => False) wG n) (fun _ _ h => h)) 36 9 5 Try.underlying36 Try.underlying5 Try.underlying9
                  have kF := fun n => conv_rd (P := Try.prog) (rF.kept (Fr.ofDrewN (S := fun _ => False) wG n) (fun _ _ h => h)) 36 9 5 Try.underlying36 Try.underlying5 Try.underlying9
                  have kG := fun n => conv_rd (P := Try.prog) (hrG.kept (Fr.ofDrewN (S := fun _ => False) wG n) (fun _ _ h => h)) 36 9 5 Try.underlying36 Try.underlying5 Try.underlying9
                  have bs : ((str B).toList == (str A).toList) = decide (B = A) := str_dec B A
                  obtain ⟨ba, hba⟩ : ∃ b, b = decide (B = A) := ⟨_, rfl⟩
                  rw [← hba] at bs hmay
                  have HMY := hide hmay
                  have bAA : ((str A).toList == (str A).toList) = true := by simp
                  clear hrG fG rE rF eB eE HE2 HFF HRF hmay hba
                  go_wp2_with fail
                  go_loopw [23, 24] (fun u y W => ∃ k : Nat, k ≤ Nl ∧ y = .int .i64 (k : Int) ∧ u = .bool (ba || mayB (d.Q.take k) i B) ∧ ∃ n, W = wG.drewN n) (fun _ y _ => Nl - (intOf y).toNat)
                  case atStart => exact ⟨0, by omega, rfl, by simp [mayB], 0, rfl⟩
                  case round =>
                    obtain ⟨k, hk, rfl, rfl, nn, rfl⟩ := hrel
                    by_cases hkl : k < Nl
                    · have bk : decide ((k : Int) < (Nl : Int)) = true := by simp; omega
                      have hkQ : k < d.Q.length := by have := unhide HNQ; omega
                      have HT := hide (may_succ d.Q k i B hkQ)
                      obtain ⟨r1, r2⟩ := (unhide SG).at k (by simp [quL]; exact hkQ)
                      have er1 : ((quL d)[k]'(by simp [quL]; exact hkQ)).1 = (((d.Q[k]).1 : Nat) : Int) := by simp [quL]
                      have er2 : ((quL d)[k]'(by simp [quL]; exact hkQ)).2 = (d.Q[k]).2 := by simp [quL]
                      rw [er1] at r1
                      rw [er2] at r2
                      generalize (d.Q[k]).1 = y at *
                      generalize (d.Q[k]).2 = D at *
                      clear er1 er2
                      rcases hbv : (ba || mayB (d.Q.take k) i B) with _ | _
                      · have HV := hide hbv
                        clear hbv
                        by_cases hyi : y = i
                        · have bq : (((y : Nat) : Int) == ((i : Nat) : Int)) = true := by rw [hyi]; simp
                          have bD : ((str D).toList == (str B).toList) = decide (D = B) := str_dec D B
                          have HTT := hide (show (ba || mayB (d.Q.take (k + 1)) i B) = decide (D = B) by rw [unhide HT, ← Bool.or_assoc, unhide HV, Bool.false_or, hyi]; simp)
                          generalize decide (D = B) = db' at *
                          clear hyi
                          go_wp2_with fail
                          go_quiet (fail)
                          go_wp2_with fail
                          go_roundw
                          case rel => exact ⟨k + 1, by omega, by go_num, by rw [unhide HTT], _, rfl⟩
                          case measure => simp [intOf]; omega
                        · have bq : (((y : Nat) : Int) == ((i : Nat) : Int)) = false := by simp; omega
                          have byi : (y == i) = false := by simpa using hyi
                          have HTT := hide (show (ba || mayB (d.Q.take (k + 1)) i B) = false by rw [unhide HT, ← Bool.or_assoc, unhide HV, byi]; rfl)
                          clear hyi byi
                          go_wp2_with fail
                          go_quiet (fail)
                          go_wp2_with fail
                          go_roundw
                          case rel => exact ⟨k + 1, by omega, by go_num, by rw [unhide HTT], _, rfl⟩
                          case measure => simp [intOf]; omega
                      · have HTT := hide (show (ba || mayB (d.Q.take (k + 1)) i B) = true by rw [unhide HT, ← Bool.or_assoc, hbv]; rfl)
                        clear hbv
                        go_wp2_with fail
                        go_quiet (fail)
                        go_wp2_with fail
                        go_roundw
                        case rel => exact ⟨k + 1, by omega, by go_num, by rw [unhide HTT], _, rfl⟩
                        case measure => simp [intOf]; omega
                    · have bk : decide ((k : Int) < (Nl : Int)) = false := by simp; omega
                      have hke : k = d.Q.length := by have := unhide HNQ; omega
                      have hfin : (ba || mayB (d.Q.take k) i B) = true := by rw [hke, List.take_length]; exact unhide HMY
                      rw [hfin]
                      have HX := hide ((unhide HRG).trans (Fr.ofDrewN (S := fun _ => False) wG nn) (fun _ _ h => h))
                      have hkN : k = Nl := by omega
                      have kE1 := kE nn
                      have kF1 := kF nn
                      clear hke HMY SG HRG kE0 kG0 kE kF kG hfin
                      subst hkN
                      go_wp2_with fail
                      go_roundw
                      case rel => exact ⟨i + 1, by omega, by go_num, unhide HX⟩
                      case measure => simp [intOf]; omega
                · have bl : decide ((i : Int) < (z : Int)) = false := by simp; omega
                  have DE := hide ((unhide DD).fr (unhide HR))
                  have RE := hide ((unhide RD).kept (unhide HR) (fun _ _ h => h))
                  clear HR DD SD RD
                  go_wp2_with fail
                  refine (copy_any _ _ _ _ _ ((unhide DE).nd (pe, ge, qeA, crD de K) (by simp)).k).mono ?_
                  rintro e wF ⟨⟨pg, gg, qg, dg, rfl, cg, kg, xg, yg, zg⟩, fg⟩
                  have DF : Hid (Ds w wF (fun b => b = gQ ∨ (Value.slice al Nl cl).ownBlock = some b) [(p, gs, q, d), (pa, ga, qa8, crD da (iz (List.range Nl))), (pb, gb, qb9, crD db []), (pc, gc, qcB, flD dc), (pe, ge, qeA, crD de K), (pg, gg, qg, dg)]) := hide ((unhide DE).add ((unhide DE).nd (p, gs, q, d) (by simp)).f.size fg ((unhide DE).nd (p, gs, q, d) (by simp)).f kg xg yg zg)
                  have RF := hide ((unhide RE).kept fg (fun _ _ h => h))
                  have hcg := core_facts cg
                  dsimp only at hcg
                  have hQg : dg.Q = [] := hcg.2.2.1
                  have hng : dg.n + dg.Q.length < 1000000000 := by
                    rw [hQg, hcg.2.2.2.2]
                    have h1 : (crD de K).n ≤ de.n + de.Q.length := crI_n de _ _
                    have h2 := unhide HMQ de ⟨_, _, unhide Ce⟩
                    have h3 : de.n + de.Q.length = d.n + d.Q.length := by rw [unhide Ce]; rfl
                    have h4 := unhide HNQ
                    simp only [List.length_nil]
                    omega
                  have HSM := hide (show smB (crD dg (iz (List.range Nl))) (crD de K) = true by
                    rw [cr_empty hQg]
                    exact smB_iff.mpr ⟨hcg.1, hcg.2.2.2.1, hcg.2.1, hcg.2.2.1⟩)
                  clear cg kg xg yg zg fg DE RE hcg hQg
                  go_wp2_with fail
                  refine (crash_nd _ (iz (List.range Nl)) ((unhide DF).nd (pg, gg, qg, dg) (by simp)) hng (unhide RF)).mono ?_
                  rintro e wH ⟨rfl, qgH, nH, mH⟩
                  have DH : Hid (Ds w wH (fun b => b = gQ ∨ (Value.slice al Nl cl).ownBlock = some b) [(p, gs, q, d), (pa, ga, qa8, crD da (iz (List.range Nl))), (pb, gb, qb9, crD db []), (pc, gc, qcB, flD dc), (pe, ge, qeA, crD de K), (pg, gg, qgH, crD dg (iz (List.range Nl)))]) := hide (Ds.go (A := [(p, gs, q, d), (pa, ga, qa8, crD da (iz (List.range Nl))), (pb, gb, qb9, crD db []), (pc, gc, qcB, flD dc), (pe, ge, qeA, crD de K)]) (B := []) (unhide DF) nH mH)
                  clear nH mH DF RF hng
                  go_wp2_with fail
                  have hsa := same_any _ _ _ _ _ _ _ _ _ ((unhide DH).nd (pg, gg, qgH, crD dg (iz (List.range Nl))) (by simp)).k ((unhide DH).nd (pe, ge, qeA, crD de K) (by simp)).k
                  rw [show smB (pg, gg, qgH, crD dg (iz (List.range Nl))).2.2.2 (pe, ge, qeA, crD de K).2.2.2 = true from unhide HSM] at hsa
                  refine hsa.mono ?_
                  clear hsa HSM
                  rintro e w' ⟨rfl, nI, rfl⟩
                  go_wp2_with fail
                  refine (live_any _).mono ?_
                  rintro e w' ⟨rfl, f⟩
                  have HG := hide (((unhide DH).nd (p, gs, q, d) (by simp)).f.trans ((Fr.ofDrewN _ _).trans f (fun _ _ h => h)) (fun _ _ h => h))
                  clear f
                  go_wp2_with fail
                  go_ret
                  exact ⟨rfl, unhide HG⟩
        · rw [hof] at hfa
          refine hfa.mono ?_
          clear hfa
          rintro e w' ⟨rfl, rfl⟩
          go_wp2_with fail
          refine (live_any _).mono ?_
          rintro e w' ⟨rfl, f⟩
          have HG := hide f
          clear f
          go_wp2_with fail
          go_ret
          exact ⟨rfl, (unhide HN1).f.trans (unhide HG) (fun _ _ h => h)⟩
  · rw [hb] at HL
    refine (unhide HL).mono ?_
    rintro e w' ⟨rfl, n1, rfl⟩
    go_wp2_with fail
    refine (live_any _).mono ?_
    rintro e w' ⟨rfl, f⟩
    have HG := hide f
    clear f
    go_wp2_with fail
    go_ret
    exact ⟨rfl, (Fr.ofDrewN _ _).trans (unhide HG) (fun _ _ h => h)⟩
end Go.Proofs.Ytdhendcogjhgfaa
