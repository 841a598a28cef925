/-
  The walk of the document's Sum of a hash.
-/
import Derived.Test.YtlicmlioilkfdaaDoorR4
namespace Go.Proofs.YtlicmlioilkfdaaDoor
open Go.RowKit
set_option linter.unusedVariables false
set_option linter.unusedSimpArgs false

attribute [local go_sem ↓] Go.wp_at_zero Go.wp_at_succ

theorem tmod64 (L : Nat) : (((L : Nat) : Int) + 8).tmod 64 = (((L + 8) % 64 : Nat) : Int) := by
  rw [Int.tmod_eq_emod_of_nonneg (by omega)]; omega

theorem fill_step (D : List UInt8) (i : Nat) (hD : D.length = 32) (hi : i < 32) (h : i < D.length) : (bvs (D.take i ++ List.replicate (32 - i) 0)).toArray.setIfInBounds i (.int .u8 ((D[i].toNat : Nat) : Int)) = (bvs (D.take (i + 1) ++ List.replicate (32 - (i + 1)) 0)).toArray := by
  rw [List.setIfInBounds_toArray]
  congr 1
  unfold bvs
  rw [← List.map_set (f := fun b : UInt8 => Value.int .u8 ((b.toNat : Nat) : Int))]
  congr 1
  have e : D.take (i + 1) = D.take i ++ [D[i]] := by rw [List.take_add_one]; simp [h]
  rw [e, List.set_append_right _ _ (by simp; omega)]
  rw [show 32 - i = (32 - (i + 1)) + 1 by omega, List.replicate_succ]
  simp [show min i D.length = i by omega, - List.take_append_getElem, e]

set_option maxHeartbeats 4000000 in
set_option maxRecDepth 100000 in
theorem rsum_any (w : World) (p : Nat) (s : St) (n : Nat) (v : Value) (r : List UInt8) (h : GAt w p s n v r) (hr : r.length = n % 64) :
    Calls Tryd.prog 28 #[.pointer (some ⟨p, 0, none⟩)] w fun e w' => e = .returned (.agg (bvs (sumH s n r)).toArray) ∧ Fr (fun _ => False) w w' := by
  have c9 := h.val
  have hplt := h.lt
  have hrl : r.length < 64 := by rw [hr]; exact Nat.mod_lt _ (by decide)
  have HG := hide h
  have HR := hide hr
  have hfit := h.fit
  clear h hr
  have e2 : IntKind.u64.wrap (8 * ((n : Nat) : Int)) = ((8 * n % 18446744073709551616 : Nat) : Int) := by
    simp only [IntKind.wrap, IntKind.bits, IntKind.signed]; simp
  have hpad : pad n = 128 :: List.replicate (zn n) 0 ++ lb (8 * n % 18446744073709551616) := rfl
  have HPAD := hide hpad
  clear hpad
  have hzn : zn n = (119 - r.length) % 64 := by unfold zn; rw [unhide HR]
  have HZN := hide hzn
  clear hzn
  go_enter Tryd.func28, Tryd.ntmps28
  go_wp2_with (refine wpList_appO rfl (.tmp 8) (.tmp 12) rfl (.slice (some ⟨w.heap.size + 1, 0, none⟩) 0 0) [] v r rfl rfl (owns_empty (BlockAt.one w _ _)) ((unhide HG).rest.kept (((Fr.refl (fun _ => False) w).alloc _).alloc _) (fun _ _ h => h)) (by simp; omega) ?_)
  intro ao1 cap1 w1 o1 g1
  have f01 : Fr (fun _ => False) w w1 := (((Fr.refl (fun _ => False) w).alloc _).alloc _).trans (unhide g1).1 (fun i hi e => by simp [Value.ownBlock] at e; omega)
  have hR1 : ZAt w1 w.heap.size 26 32 := ZAt.kept (S := fun k => (Value.slice (some ⟨w.heap.size + 1, 0, none⟩) 0 0).ownBlock = some k) ⟨_, BlockAt.two w _ _, rfl⟩ (unhide g1).1 (by simp [Value.ownBlock])
  have hn1 : ∀ b, (Value.slice ao1 r.length cap1).ownBlock = some b → w.heap.size < b := by
    intro b hb
    rcases (unhide g1).2 with e | ⟨k, e, hk⟩
    · rw [e] at hb; simp [Value.ownBlock] at hb; omega
    · rw [e] at hb; simp at hb hk; omega
  have F1 := hide f01
  have HR1 := hide hR1
  have HN1 := hide hn1
  clear f01 hR1 hn1 g1 c9
  go_wp2_with (refine wpList_appO rfl (.tmp 13) (.tmp 14) rfl (.slice ao1 r.length cap1) r (.slice (some ⟨w1.heap.size, 0, none⟩) 1 1) [128] rfl rfl ((unhide o1).kept ((Fr.refl (fun _ => False) _).alloc _) (fun _ _ h => h)) (BAt.rd (l := [128]) (bat_new w1 [128]) (by simp [maxLen])) (by simp; omega) ?_)
  intro ao2 cap2 w2 o2 g2
  have f12 : Fr (fun k => (Value.slice ao1 r.length cap1).ownBlock = some k) w1 w2 := ((Fr.refl _ w1).alloc _).trans (unhide g2).1 (fun i hi e => e)
  have F2 := hide ((unhide F1).trans f12 (fun i hi e => absurd (unhide HN1 i e) (by omega)))
  have HR2 := hide ((unhide HR1).kept f12 (fun e => absurd (unhide HN1 _ e) (by omega)))
  have hn2 : ∀ b, (Value.slice ao2 (r.length + 1) cap2).ownBlock = some b → w.heap.size < b := by
    intro b hb
    rcases (unhide g2).2 with e | ⟨k, e, hk⟩
    · rw [e] at hb; exact unhide HN1 b hb
    · rw [e] at hb; simp at hb hk; have := (unhide F1).size; omega
  have HN2 := hide hn2
  have hfirst : r ++ [128] = r ++ 128 :: List.replicate 0 0 := rfl
  rw [hfirst] at o2
  clear f12 hn2 g2 o1 hfirst
  go_wp2_with fail
  go_loopw [3] (fun x w' => ∃ (z : Nat) (a3 : Option Addr) (L c3 : Nat), L = r.length + 1 + z ∧ z ≤ zn n ∧ x = .slice a3 L c3 ∧ Ow w' (.slice a3 L c3) (r ++ 128 :: List.replicate z 0) ∧ (∀ b, (Value.slice a3 L c3).ownBlock = some b → w.heap.size < b) ∧ ZAt w' w.heap.size 26 32 ∧ Fr (fun _ => False) w w') (fun x _ => 200 - slLen x)
  case atStart => exact ⟨0, ao2, r.length + 1, cap2, rfl, by omega, rfl, unhide o2, unhide HN2, unhide HR2, unhide F2⟩
  case round =>
    obtain ⟨z, a3, L, c3, hL, hz, rfl, hO, hN, hZ, hF⟩ := hrel
    have hz64 : zn n < 64 := by rw [unhide HZN]; exact Nat.mod_lt _ (by decide)
    have hlen : (r ++ 128 :: List.replicate z (0 : UInt8)).length = L := by simp; omega
    have ht := tmod64 L
    by_cases hlt : z < zn n
    · have hne : ((((L + 8) % 64 : Nat) : Int) != 0) = true := by
        simp only [bne_iff_ne, ne_eq]
        have hzn := unhide HZN
        omega
      generalize (L + 8) % 64 = M at *
      have HO := hide hO
      have HF := hide hF
      have HN := hide hN
      have HZ := hide hZ
      have HL := hide hL
      have HLEN := hide hlen
      have hLs : L < 200 := by omega
      clear hO hF hN hZ hL hlen
      go_wp2_with (refine wpList_appO rfl (.tmp 21) (.tmp 22) rfl (.slice a3 L c3) (r ++ 128 :: List.replicate z 0) (.slice (some ⟨wr.heap.size, 0, none⟩) 1 1) [0] rfl rfl ((unhide HO).kept ((Fr.refl (fun _ => False) _).alloc _) (fun _ _ h => h)) (BAt.rd (l := [0]) (bat_new wr [0]) (by simp [maxLen])) (by rw [unhide HLEN]; simp; omega) ?_)
      intro ao4 cap4 w4 o4 g4
      have f4 : Fr (fun k => (Value.slice a3 L c3).ownBlock = some k) wr w4 := ((Fr.refl _ wr).alloc _).trans (unhide g4).1 (fun i hi e => e)
      have F4 := hide ((unhide HF).trans f4 (fun i hi e => absurd (unhide HN i e) (by omega)))
      have HZ4 := hide ((unhide HZ).kept f4 (fun e => absurd (unhide HN _ e) (by omega)))
      have hn4 : ∀ b, (Value.slice ao4 (r.length + (z + 1) + 1) cap4).ownBlock = some b → w.heap.size < b := by
        intro b hb
        rcases (unhide g4).2 with e | ⟨k, e, hk⟩
        · rw [e] at hb; exact unhide HN b hb
        · rw [e] at hb; simp at hb hk; have := (unhide HF).size; omega
      have HN4 := hide hn4
      clear f4 hn4 g4
      go_wp2_with fail
      go_roundw
      case rel =>
        refine ⟨z + 1, ao4, r.length + (z + 1) + 1, cap4, by omega, by omega, rfl, ?_, unhide HN4, unhide HZ4, unhide F4⟩
        have := unhide o4
        rwa [← List.replicate_succ'] at this
      case measure => have := unhide HL; simp [slLen]; omega
    · have hze : z = zn n := by omega
      have hne : ((((L + 8) % 64 : Nat) : Int) != 0) = false := by
        simp only [bne_eq_false_iff_eq]
        have hzn := unhide HZN
        omega
      rw [hze] at hO hlen hL
      generalize (L + 8) % 64 = M at *
      have c8 : wr.cell? ⟨p, 8, none⟩ = some (.int .u64 ((n : Nat) : Int)) := (hF.cell (a := ⟨p, 8, none⟩) hplt id).trans (unhide HG).num
      obtain ⟨n8, hn8⟩ : ∃ n8, n8 = 8 * n % 18446744073709551616 := ⟨_, rfl⟩
      rw [← hn8] at e2
      have HN8 := hide hn8
      have HO := hide hO
      have HF := hide hF
      have HN := hide hN
      have HZ := hide hZ
      have HL := hide hL
      have HLEN := hide hlen
      have hLs : L < 200 := by omega
      clear hO hF hN hZ hL hlen hn8 hze hz
      go_wp2_with fail
      refine (eight_any wr n8).mono ?_
      rintro e w4 ⟨⟨b4, rfl, hb4, hR4⟩, f4⟩
      have HO4 := hide ((unhide HO).kept f4 (fun _ _ h => h))
      have HZ4 := hide ((unhide HZ).kept f4 id)
      have F4 := hide ((unhide HF).trans f4 (fun _ _ h => h))
      have HR4 := hide hR4
      clear f4 hR4 c8
      go_wp2_with (refine wpList_appO rfl (.tmp 24) (.tmp 30) rfl (.slice a3 L c3) (r ++ 128 :: List.replicate (zn n) 0) (.slice (some ⟨b4, 0, none⟩) 8 8) (lb n8) rfl rfl (unhide HO4) (unhide HR4) (by rw [unhide HLEN, lb_length]; omega) ?_)
      intro ao5 cap5 w5 o5 g5
      obtain ⟨BB, hBB⟩ : ∃ BB, BB = r ++ pad n := ⟨_, rfl⟩
      have hB1 : r ++ 128 :: (List.replicate (zn n) 0 ++ lb n8) = BB := by rw [hBB, unhide HPAD, unhide HN8]; rfl
      have hBL : BB.length = L + 8 := by rw [← hB1]; have := unhide HLEN; simp [lb_length] at this ⊢; omega
      have hB64 : BB.length % 64 = 0 := by
        have h1 := unhide HL
        have h2 := unhide HZN
        rw [hBL]; omega
      rw [hB1] at o5
      have f5 : Fr (fun k => (Value.slice a3 L c3).ownBlock = some k) w4 w5 := (unhide g5).1
      have F5 := hide ((unhide F4).trans f5 (fun i hi e => absurd (unhide HN i e) (by omega)))
      have HZ5 := hide ((unhide HZ4).kept f5 (fun e => absurd (unhide HN _ e) (by omega)))
      have hn5 : ∀ b, (Value.slice ao5 (r.length + (zn n + 1) + (lb n8).length) cap5).ownBlock = some b → w.heap.size < b := by
        intro b hb
        rcases (unhide g5).2 with e | ⟨k, e, hk⟩
        · rw [e] at hb; exact unhide HN b hb
        · rw [e] at hb
          have e1 : k = b := by simpa [Value.ownBlock] using hb
          have hlt4 : w.heap.size < w4.heap.size := by obtain ⟨cs, h, -⟩ := unhide HZ4; exact lt_of_heap h
          omega
      have hLb : r.length + (zn n + 1) + (lb n8).length = BB.length := by rw [hBL, unhide HL, lb_length]; omega
      generalize r.length + (zn n + 1) + (lb n8).length = Lb at *
      have HLB := hide hLb
      have HN5 := hide hn5
      have hR5 := (unhide o5).rd
      have HR5 := hide hR5
      have HBB := hide hBB
      have HB64 := hide hB64
      have hBs : BB.length < 300 := by omega
      have hA5 : w5.rangeAt p 0 (wvs s.l) := fun j u hu => by
        have hj : j < 8 := by have := (List.getElem?_eq_some_iff.1 hu).1; rwa [wvs_length] at this
        rw [Nat.zero_add, (unhide F5).cell (a := ⟨p, j, none⟩) hplt id, (unhide HG).word j hj]
        rw [wvs_get _ _ hj] at hu
        exact hu
      have hone := wvs_one s.l
      have hth : ∀ cs : Array Value, cs.size = 8 → (w5.alloc (.cells cs 50)).there w5.heap.size 0 (wvs s.l).toArray.size := fun cs hcs => (ZAt.new w5 cs 50 8 hcs).there
      clear f5 g5 hn5 hLb hR5 hB1 hBL hB64 hBB o5
      go_wp2_with (first | refine wpList_load_mid rfl 50 _ rfl p 0 rfl (wvs s.l) _ hA5 Tryd.u50 rfl Tryd.s50 ?_ | refine wpList_storeN rfl rfl 50 _ _ rfl w5.heap.size 0 (wvs s.l).toArray rfl rfl (hth _ rfl) Tryd.s50 hone ?_)
      intro w6 hw6
      replace hw6 := unhide hw6
      have hS6 : WAt w6 w5.heap.size 50 s.l := by rw [hw6]; exact (ZAt.new w5 _ 50 8 rfl).put s.l rfl
      have f56 : Fr (fun _ => False) w5 w6 := by rw [hw6]; exact ((Fr.refl _ _).alloc _).trans (setCells_frame _ _ _ _) (fun i hi e => by omega)
      have F6 := hide ((unhide F5).trans f56 (fun _ _ h => h))
      have HZ6 := hide ((unhide HZ5).kept f56 id)
      have HR6 := hide ((unhide HR5).kept f56 (fun _ _ h => h))
      have HS6 := hide hS6
      have h06 : w.heap.size < w5.heap.size := by obtain ⟨cs, h, -⟩ := unhide HZ5; exact lt_of_heap h
      have hOB : ∀ b, (Value.slice ao5 Lb cap5).ownBlock = some b → b < w5.heap.size := by
        intro b hb
        rcases unhide HR5 with ⟨hv, -⟩ | ⟨ad, cc, hv, -, -, h3⟩
        · rw [hv] at hb; simp [Value.ownBlock] at hb
        · rw [hv] at hb
          simp [Value.ownBlock] at hb
          subst hb
          have := World.block_lt_of_cell? w5 _ (h3 0 (by have := unhide HLB; have := unhide HB64; have := unhide HBB; rw [this]; simp [pad]; omega))
          rwa [add_block] at this
      have HOB := hide hOB
      clear hw6 hS6 f56 hth hone hA5 hOB
      generalize hsq : w5.heap.size = sq at *
      have HSQ := hide hsq
      clear hsq
      go_wp2_with fail
      go_loopw [3] (fun x w' => ∃ (s2 : St) (b2 : List UInt8) (a6 : Option Addr) (L6 c6 : Nat), L6 = b2.length ∧ x = .slice a6 L6 c6 ∧ Rd w' (.slice a6 L6 c6) b2 ∧ b2.length < 300 ∧ b2.length % 64 = 0 ∧ (∀ b, (Value.slice a6 L6 c6).ownBlock = some b → w.heap.size < b ∧ b < sq) ∧ WAt w' sq 50 s2.l ∧ ZAt w' w.heap.size 26 32 ∧ feed s2 b2 = feed s BB ∧ Fr (fun _ => False) w w') (fun x _ => slLen x)
      case atStart => exact ⟨s, BB, ao5, Lb, cap5, unhide HLB, rfl, unhide HR6, hBs, unhide HB64, fun b hb => ⟨unhide HN5 b hb, unhide HOB b hb⟩, unhide HS6, unhide HZ6, rfl, unhide F6⟩
      case round =>
        obtain ⟨s2, b2, a6, L6, c6, hL6, rfl, hR, hbs, hb64, hOb, hS, hZ, hfeed, hF⟩ := hrel
        by_cases hq0 : b2 = []
        · subst hq0
          have hres : sb s2 = sumH s n r := by
            have h1 := feed_few s2 [] (by decide)
            rw [hfeed, unhide HBB] at h1
            show sb s2 = sb (feed s (r ++ pad n)).1
            rw [h1]
          obtain ⟨D, hD⟩ : ∃ D, D = sb s2 := ⟨_, rfl⟩
          have hDl : D.length = 32 := by rw [hD]; rfl
          have hrng := hS.range
          have hL0 : L6 = 0 := by simpa using hL6
          subst hL0
          have HRES := hide (hD.trans hres)
          have HD := hide hD
          have HZ := hide hZ
          have HF := hide hF
          have hw0 : w.heap.size < wr.heap.size := by obtain ⟨cs, h, -⟩ := hZ; exact lt_of_heap h
          clear hR hbs hb64 hOb hS hZ hF hfeed hres hD hL6
          go_wp2_with (refine wpList_load_mid rfl 50 _ rfl sq 0 rfl (wvs s2.l) _ hrng Tryd.u50 rfl Tryd.s50 ?_)
          refine (words_any wr s2).mono ?_
          rintro e w7 ⟨⟨v7, rfl, hO7, -⟩, f7⟩
          rw [← unhide HD] at hO7
          obtain ⟨ao7, cap7, rfl⟩ := hO7.shape
          rw [hDl] at hO7 ⊢
          have HO7 := hide hO7
          have F7 := hide ((unhide HF).trans f7 (fun _ _ h => h))
          have HZ7 := hide ((unhide HZ).kept f7 id)
          have hw7 : wr.heap.size ≤ w7.heap.size := f7.size
          clear f7 hrng hO7
          go_wp2_with fail
          refine wp_world ?_
          intro w8 hw8
          have f78 : Fr (fun _ => False) w7 w8 := by rw [hw8]; exact (Fr.refl _ _).alloc _
          have hB8 : w8.heap[w7.heap.size]? = some (.cells (bvs (D.take 0 ++ List.replicate (32 - 0) 0)).toArray 26 (0, 0)) := by rw [hw8]; exact heap_alloc_new w7 _
          have HO8 := hide ((unhide HO7).kept f78 (fun _ _ h => h))
          have F8 := hide ((unhide F7).trans f78 (fun _ _ h => h))
          have HZ8 := hide ((unhide HZ7).kept f78 id)
          have HB8 := hide hB8
          have hOl := (unhide HO7).lt
          have HOL := hide hOl
          clear hw8 f78 hB8 hOl
          generalize hqb : w7.heap.size = qb at *
          have hqw : w.heap.size < qb := by omega
          clear hqb
          go_loopw [7] (fun x w' => ∃ i : Nat, i ≤ 32 ∧ x = .int .i64 (i : Int) ∧ w'.heap[qb]? = some (.cells (bvs (D.take i ++ List.replicate (32 - i) 0)).toArray 26 (0, 0)) ∧ Ow w' (.slice ao7 32 cap7) D ∧ ZAt w' w.heap.size 26 32 ∧ Fr (fun _ => False) w w') (fun x _ => 32 - (intOf x).toNat)
          case atStart => exact ⟨0, by omega, rfl, unhide HB8, unhide HO8, unhide HZ8, unhide F8⟩
          case round =>
            obtain ⟨i, hi, rfl, hB, hO, hZ, hF⟩ := hrel
            by_cases hlt : i < 32
            · obtain ⟨bb, bo, rfl, -, hnc, hcm, hcell⟩ := hO.rd.lits (by omega)
              have hc := hcell i (by omega)
              have hdi : D[i]? = some (D.getD i 0) := by simp [show i < D.length by omega]
              have hq : wr.cell? ⟨qb, i, none⟩ = some (.int .u8 (((0 : UInt8).toNat : Nat) : Int)) := by
                rw [cell_of_heap hB, List.getElem?_toArray, bvs, List.getElem?_map, List.getElem?_append_right (by simp; omega)]
                simp [List.getElem?_replicate]
                omega
              have zq := frozen_of_heap hB i
              have hset : (wr.setCell ⟨qb, i, none⟩ (.int .u8 ((D[i].toNat : Nat) : Int))).heap[qb]? = some (.cells (bvs (D.take (i + 1) ++ List.replicate (32 - (i + 1)) 0)).toArray 26 (0, 0)) := by
                rw [heap_setCell_same wr qb i _ 26 _ hB, fill_step D i hDl hlt]
              have fset : Fr (fun k => k = qb) wr (wr.setCell ⟨qb, i, none⟩ (.int .u8 ((D[i].toNat : Nat) : Int))) := (Fr.refl (fun k => k = qb) wr).setCell (p := ⟨qb, i, none⟩) (fun _ => rfl) _
              have HB := hide hset
              have HO := hide (hO.kept fset (fun k hk e => absurd (unhide HOL k hk) (by omega)))
              have HZ := hide (hZ.kept fset (by omega))
              have HF : Hid (Fr (fun _ => False) w _) := hide (hF.trans fset (fun k hk e => by omega))
              clear hset fset hB hO hZ hF hcell hdi
              go_wp2_with fail
              go_roundw
              case rel => exact ⟨i + 1, by omega, by simp, unhide HB, unhide HO, unhide HZ, unhide HF⟩
              case measure => simp [intOf]; omega
            · have h32 : i = 32 := by omega
              subst h32
              have hB2 : wr.heap[qb]? = some (.cells (bvs D).toArray 26 (0, 0)) := by
                rw [hB]; simp [List.take_of_length_le (show D.length ≤ 32 by omega)]
              have hrng := bat_range hB2
              have hszD : (bvs D).toArray.size = 32 := by simpa [bvs_length] using hDl
              have hi3 : (Tryd.prog.info? 26).map (·.size) = some (bvs D).length := by rw [bvs_length, hDl]; exact Tryd.s26
              have hi2 : (Tryd.prog.info? 26).map (·.size) = some (bvs D).toArray.size := by rw [hszD]; exact Tryd.s26
              have hone := bvs_oneA D
              have hth : wr.there w.heap.size 0 (bvs D).toArray.size := by rw [hszD]; exact hZ.there
              have hres := hZ.putB D hDl
              have fin : Fr (fun _ => False) w (wr.setCells w.heap.size 0 (bvs D)) := hF.trans (setCells_frame _ _ _ _) (fun i hi e => by omega)
              have HDL := hide hDl
              clear hB hB2 hO hZ hF hszD hDl
              go_wp2_with (first | refine wpList_load_mid rfl 26 _ rfl qb 0 rfl (bvs D) _ hrng Tryd.u26 rfl hi3 ?_ | refine wpList_store_mid0 rfl rfl 26 _ _ rfl w.heap.size 0 (bvs D).toArray rfl rfl hth hi2 hone ?_)
              refine bodyPost_ret (ret_agg rfl _ _ w.heap.size 0 _ _ rfl (bat_range hres) Tryd.u26 rfl hi3) rfl ?_
              rw [← unhide HRES]
              exact ⟨rfl, fin⟩
        · have hge : 64 ≤ b2.length := by have := List.length_pos_iff.2 hq0; omega
          obtain ⟨bb, bo, rfl, -, hnc, hcm, hcell⟩ := hR.lits (by omega)
          have hpc := piece_any wr s2 bb bo L6 c6 b2 hge hR
          have hdrop := hR.dropN (k := 64) hge
          have hfd := feed_more s2 b2 hge
          rw [hfeed, stir_take s2 b2 hge] at hfd
          have hrng := hS.range
          have HFD := hide hfd
          have HD := hide hdrop
          have HS := hide hS
          have HZ := hide hZ
          have HF := hide hF
          have HOb := hide hOb
          have HPC := hide hpc
          have HB2 := hide hb64
          have HL6 := hide hL6
          clear hR hS hZ hF hOb hfeed hcell hdrop hfd hpc hb64 hL6
          have h64 : (64 : Int) ≤ (L6 : Int) := by have := unhide HL6; omega
          have h64' : 64 ≤ L6 := by omega
          have h0 : (0 : Int) < (L6 : Int) := by omega
          go_wp2_with (refine wpList_load_mid rfl 50 _ rfl sq 0 rfl (wvs s2.l) _ hrng Tryd.u50 rfl Tryd.s50 ?_)
          refine (unhide HPC).mono ?_
          rintro e w7 ⟨rfl, f7⟩
          have hS7 := (unhide HS).kept f7 id
          have hth : w7.there sq 0 (wvs (stir s2 b2).l).toArray.size := fun j hj => ⟨by rw [Nat.zero_add, hS7.cell j hj]; rfl, frozen_of_heap hS7 _⟩
          have hone := wvs_one (stir s2 b2).l
          have F7 := hide ((unhide HF).trans f7 (fun _ _ h => h))
          have HD7 := hide ((unhide HD).kept f7 (fun _ _ h => h))
          have HZ7 := hide ((unhide HZ).kept f7 id)
          have HS7 := hide hS7
          clear f7 hS7 hrng
          go_wp2_with (refine wpList_storeN rfl rfl 50 _ _ rfl sq 0 (wvs (stir s2 b2).l).toArray rfl rfl hth Tryd.s50 hone ?_)
          intro w8 hw8
          replace hw8 := unhide hw8
          have hS8 : WAt w8 sq 50 (stir s2 b2).l := by rw [hw8]; exact ZAt.put ⟨_, unhide HS7, rfl⟩ (stir s2 b2).l rfl
          have f78 : Fr (fun k => k = sq) w7 w8 := by rw [hw8]; exact setCells_frame _ _ _ _
          have F8 : Hid (Fr (fun _ => False) w w8) := hide ((unhide F7).trans f78 (fun i hi e => by omega))
          have HZ8 := hide ((unhide HZ7).kept f78 (by omega))
          have HS8 := hide hS8
          have hown : ∀ c l1 c1, (Value.slice (if c6 = 64 then some (⟨bb, bo, none⟩ : Addr) else some ⟨bb, bo + 64, none⟩) l1 c1).ownBlock = some c → w.heap.size < c ∧ c < sq := by
            intro c l1 c1 hc
            have := unhide HOb bb rfl
            split at hc <;> (simp [Value.ownBlock] at hc; omega)
          have HD8 := hide ((unhide HD7).kept f78 (fun c hc e => absurd (hown c _ _ hc).2 (by omega)))
          obtain ⟨a8, ha8⟩ : ∃ a8, (if c6 = 64 then some (⟨bb, bo, none⟩ : Addr) else some ⟨bb, bo + 64, none⟩) = a8 := ⟨_, rfl⟩
          rw [ha8] at HD8 hown
          have HOWN := hide hown
          clear hw8 hS8 f78 hown hth hone
          go_wp2_with fail
          go_roundw
          case rel =>
            have hl6 := unhide HL6
            have hl : L6 - 64 = (b2.drop 64).length := by simp; omega
            have hd := unhide HD8
            rw [hl] at hd ⊢
            have h2 := unhide HB2
            exact ⟨stir s2 b2, b2.drop 64, a8, (b2.drop 64).length, c6 - 64, rfl, rfl, hd, by simp; omega, by simp; omega, fun b hb => unhide HOWN b _ _ hb, unhide HS8, unhide HZ8, (unhide HFD).symm, unhide F8⟩
          case measure => simp [slLen]; omega
end Go.Proofs.YtlicmlioilkfdaaDoor
