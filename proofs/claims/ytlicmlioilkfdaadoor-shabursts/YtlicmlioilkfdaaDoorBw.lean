/-
  The walk of the law of bursts.
-/
import Derived.Test.YtlicmlioilkfdaaDoorBu
import Derived.Test.YtlicmlioilkfdaaDoorLv
import Derived.Test.YtlicmlioilkfdaaDoorR4
import Derived.Test.YtlicmlioilkfdaaDoorArg
namespace Go.Proofs.YtlicmlioilkfdaaDoor
open Go.RowKit
set_option linter.unusedVariables false
set_option linter.unusedSimpArgs false

attribute [local go_sem ↓] Go.wp_at_zero Go.wp_at_succ

theorem Ow.lit {w : World} {v : Value} {l : List UInt8} (h : Ow w v l) (hl : 0 < l.length) : ∃ g cap, v = .slice (some ⟨g, 0, none⟩) l.length cap ∧ (∀ j, w.frozen? ⟨g, j, none⟩ = false) ∧
    ∀ j b, j < l.length → Ow (w.setCell ⟨g, j, none⟩ (.int .u8 ((b.toNat : Nat) : Int))) (.slice (some ⟨g, 0, none⟩) l.length cap) (l.set j b) := by
  obtain ⟨h1, h2⟩ := h
  rcases h2 with ⟨-, h2⟩ | ⟨g, cap, cur, rfl, -, hg, hc1, hc2, hc3, hc4⟩
  · omega
  · refine ⟨g, cap, rfl, frozen_of_heap hg, fun j b hj => ⟨by simp [bvs_length], .inr ⟨g, cap, cur.setIfInBounds j (.int .u8 ((b.toNat : Nat) : Int)), by simp, Nat.zero_le _, heap_setCell_same w g j cur 5 _ hg, by simpa using hc1, hc2, by simpa using hc3, ?_⟩⟩⟩
    rw [Array.toList_setIfInBounds, List.length_set, List.take_set, hc4]
    simp [bvs, List.map_set]

theorem wrap_u8b (c : UInt8) : IntKind.u8.wrap ((c.toNat : Nat) : Int) = ((c.toNat : Nat) : Int) := by
  have := c.toNat_lt
  generalize c.toNat = n at *
  simp only [IntKind.wrap, IntKind.bits, IntKind.signed]
  simp
  omega

theorem xor8 (a b : UInt8) : bits BinOp.xor IntKind.u8 ((a.toNat : Nat) : Int) ((b.toNat : Nat) : Int) = (((a ^^^ b).toNat : Nat) : Int) := by
  show IntKind.u8.wrap ((BitVec.ofInt 8 ((a.toNat : Nat) : Int) ^^^ BitVec.ofInt 8 ((b.toNat : Nat) : Int)).toNat : Int) = _
  rw [BitVec.ofInt_natCast, BitVec.ofInt_natCast, ← UInt8.toBitVec_ofNat', ← UInt8.toBitVec_ofNat', UInt8.ofNat_toNat, UInt8.ofNat_toNat, ← UInt8.toBitVec_xor, UInt8.toNat_toBitVec]
  exact wrap_u8b _

theorem shl8 (j : Nat) (hj : j < 8) : (2 : Int) ^ j % 256 = (((b1 j).toNat : Nat) : Int) := by
  have h : ∀ j : Fin 8, (2 : Int) ^ j.val % 256 = (((b1 j.val).toNat : Nat) : Int) := by decide +kernel
  exact h ⟨j, hj⟩

set_option maxHeartbeats 1000000 in
set_option maxRecDepth 100000 in
theorem shaBursts_any (w : World) (T : Tb w) (a0 : Option Addr) (len0 cap0 : Nat) (q : List UInt8) (hv : Rd w (.slice a0 len0 cap0) q) (at_ : Int) (c : Wd) : Calls Tryd.prog 8 #[.slice a0 len0 cap0, .int .i64 at_, .int .u32 (N c)] w fun e w' => e = .returned (.bool true) ∧ Fr (fun _ => False) w w' := by
  obtain ⟨ao, cap, e⟩ := hv.shape
  cases e
  have HT := hide T
  have HV := hide hv
  clear T hv
  have hlive : ∀ W, Fr (fun _ => False) w W → Calls Tryd.prog 10 #[] W fun e w' => e = .returned (.bool true) ∧ Fr (fun _ => False) w w' := fun W f => by
    refine (live_any W ((unhide HT).kept f id id)).mono ?_
    rintro e w1 ⟨rfl, f1⟩
    exact ⟨rfl, f.trans f1 (fun _ _ h => h)⟩
  have HLV := hide hlive
  clear hlive
  by_cases hbig : 9000 < q.length
  · have hbi : (9000 : Int) < (q.length : Int) := by omega
    go_enter Tryd.func8, Tryd.ntmps8
    go_wp2_with fail
    refine (unhide HLV w (Fr.refl _ _)).mono ?_
    rintro e w1 ⟨rfl, f1⟩
    have F1 := hide f1
    clear f1
    go_wp2_with fail
    go_ret
    exact ⟨rfl, unhide F1⟩
  · have hbi : ¬ (9000 : Int) < (q.length : Int) := by omega
    by_cases hz : q.length = 0
    · have hbz : ((q.length : Int) == 0) = true := by rw [hz]; rfl
      go_enter Tryd.func8, Tryd.ntmps8
      go_wp2_with fail
      refine (unhide HLV w (Fr.refl _ _)).mono ?_
      rintro e w1 ⟨rfl, f1⟩
      have F1 := hide f1
      clear f1
      go_wp2_with fail
      go_ret
      exact ⟨rfl, unhide F1⟩
    · have hbz : ((q.length : Int) == 0) = false := by simpa using hz
      by_cases hneg : at_ < 0
      · go_enter Tryd.func8, Tryd.ntmps8
        go_wp2_with fail
        refine (unhide HLV w (Fr.refl _ _)).mono ?_
        rintro e w1 ⟨rfl, f1⟩
        have F1 := hide f1
        clear f1
        go_wp2_with fail
        go_ret
        exact ⟨rfl, unhide F1⟩
      · obtain ⟨A, rfl⟩ : ∃ A : Nat, at_ = (A : Int) := ⟨at_.toNat, by omega⟩
        by_cases hge : 8 * q.length ≤ A
        · have hgi : (8 * (q.length : Int)) ≤ (A : Int) := by omega
          have hww : IntKind.i64.wrap (8 * (q.length : Int)) = 8 * (q.length : Int) := by
            simp only [IntKind.wrap, IntKind.bits, IntKind.signed]; simp; omega
          go_enter Tryd.func8, Tryd.ntmps8
          go_wp2_with fail
          refine (unhide HLV w (Fr.refl _ _)).mono ?_
          rintro e w1 ⟨rfl, f1⟩
          have F1 := hide f1
          clear f1
          go_wp2_with fail
          go_ret
          exact ⟨rfl, unhide F1⟩
        · have hgi : ¬ (8 * (q.length : Int)) ≤ (A : Int) := by omega
          have hww : IntKind.i64.wrap (8 * (q.length : Int)) = 8 * (q.length : Int) := by
            simp only [IntKind.wrap, IntKind.bits, IntKind.signed]; simp; omega
          go_enter Tryd.func8, Tryd.ntmps8
          go_wp2_with (refine wpList_appO rfl (.tmp 30) (.tmp 31) rfl (.slice (some ⟨w.heap.size, 0, none⟩) 0 0) [] (.slice a0 q.length cap0) q rfl rfl (owns_empty (heap_alloc_new w _)) ((unhide HV).kept ((Fr.refl (fun _ => False) w).alloc _) (fun _ _ h => h)) (by simp; omega) ?_)
          intro ao1 cap1 w1 o1 g1
          have f1 : Fr (fun _ => False) w w1 := ((Fr.refl (fun _ => False) w).alloc _).trans (unhide g1).1 (fun i hi e => by simp [Value.ownBlock] at e; omega)
          have hn1 : ∀ b, (Value.slice ao1 q.length cap1).ownBlock = some b → w.heap.size ≤ b := by
            intro b hb
            rcases (unhide g1).2 with e | ⟨k, e, hk⟩
            · rw [e] at hb; simp [Value.ownBlock] at hb; omega
            · rw [e] at hb; simp at hb hk; omega
          obtain ⟨g, cap2, e, -, -⟩ := (unhide o1).lit (by first | omega | (simp; omega))
          simp at e
          obtain ⟨rfl, rfl⟩ := e
          have hg := hn1 g rfl
          have F1 := hide f1
          clear f1 g1 hn1
          go_wp2_with fail
          have hQ0 : q.foldl crcB (~~~(0 : Wd)) = q.foldl crcB (~~~(0 : Wd)) ^^^ bitn (8 * q.length - A) 0#32 := by rw [bitn_zero, BitVec.xor_zero]
          have HQ0 := hide hQ0
          clear hQ0
          go_loopw [8, 9] (fun x y w' => ∃ (i : Nat) (Q : List UInt8) (M : Wd), i ≤ 32 ∧ y = .int .i64 (i : Int) ∧ x = .bool (decide (M ≠ 0#32)) ∧ Q.length = q.length ∧ Ow w' (.slice (some ⟨g, 0, none⟩) q.length cap1) Q ∧ (∀ j, i ≤ j → M.getLsbD j = false) ∧ Q.foldl crcB (~~~(0 : Wd)) = q.foldl crcB (~~~(0 : Wd)) ^^^ bitn (8 * q.length - A) M ∧ Fr (fun _ => False) w w') (fun _ y _ => 32 - (intOf y).toNat)
          case atStart => exact ⟨0, q, 0#32, by omega, rfl, by simp, rfl, unhide o1, fun j _ => by simp, unhide HQ0, unhide F1⟩
          case round =>
            obtain ⟨i, Q, M, hi, rfl, rfl, hQl, hO, hM, hQ, hF⟩ := hrel
            by_cases hlt : i < 32
            · have s1 := shr32 c i
              have s2 := and1 (c >>> i)
              have s3 := lsb_and (c >>> i)
              have hwi : IntKind.i64.wrap ((A : Int) + (i : Int)) = (A : Int) + (i : Int) := by
                simp only [IntKind.wrap, IntKind.bits, IntKind.signed]; simp; omega
              cases hb : (c >>> i).getLsbD 0
              · rw [hb] at s3
                have HO := hide hO
                have HM := hide hM
                have HQ := hide hQ
                have HF := hide hF
                have HQL := hide hQl
                clear hO hM hQ hF hQl hb
                go_wp2_with fail
                refine ⟨⟨i + 1, Q, M, by omega, by go_num, rfl, unhide HQL, unhide HO, fun j hj => unhide HM j (by omega), unhide HQ, unhide HF⟩, by simp [intOf]; omega⟩
              · rw [hb] at s3
                by_cases hin : A + i < 8 * q.length
                · have hini : (A : Int) + (i : Int) < 8 * (q.length : Int) := by omega
                  have hk : (A + i) / 8 < q.length := by omega
                  have tq : ((A : Int) + (i : Int)).tdiv 8 = (((A + i) / 8 : Nat) : Int) := by
                    rw [Int.tdiv_eq_ediv_of_nonneg (by omega)]; omega
                  have tr : ((A : Int) + (i : Int)).tmod 8 = (((A + i) % 8 : Nat) : Int) := by
                    rw [Int.tmod_eq_emod_of_nonneg (by omega)]; omega
                  have hbs := burst_step q Q _ M A i hQl hlt hin hM hQ
                  obtain ⟨g', cap', e, hfz, hset⟩ := hO.lit (by omega)
                  simp at e
                  obtain ⟨⟨rfl, -⟩, -, rfl⟩ := e
                  obtain ⟨b', o', e, -, -, -, hcell⟩ := hO.rd.lits (by omega)
                  simp at e
                  obtain ⟨rfl, rfl⟩ := e
                  have hc1 := hcell ((A + i) / 8) (by omega)
                  rw [Nat.zero_add] at hc1
                  have hz1 := hfz ((A + i) / 8)
                  have hs1 := hset ((A + i) / 8) (Q.getD ((A + i) / 8) 0 ^^^ b1 ((A + i) % 8)) (by omega)
                  have hgd : Q.getD ((A + i) / 8) 0 = Q[(A + i) / 8]'(by omega) := by simp [show (A + i) / 8 < Q.length by omega]
                  rw [← hgd] at hc1
                  have hj8 : (A + i) % 8 < 8 := Nat.mod_lt _ (by decide)
                  have hsh := shl8 _ hj8
                  have hx := xor8 (Q.getD ((A + i) / 8) 0) (b1 ((A + i) % 8))
                  have HO := hide hs1
                  have HB := hide hbs
                  have HF := hide hF
                  have HQL := hide hQl
                  clear hO hM hQ hF hQl hb hset hfz hcell hgd hs1 hbs
                  generalize Q.getD ((A + i) / 8) 0 = y at *
                  generalize (A + i) / 8 = k at *
                  generalize (A + i) % 8 = j at *
                  go_wp2_with fail
                  rw [show y.toNat ^^^ (b1 j).toNat = (y ^^^ b1 j).toNat from (UInt8.toNat_xor _ _).symm]
                  obtain ⟨hb1, hb2, hb3⟩ := unhide HB
                  refine ⟨⟨i + 1, Q.set k (y ^^^ b1 j), M ^^^ 1#32 <<< i, by omega, by go_num, by simp [hb3], by rw [List.length_set]; exact unhide HQL, ?_, hb2, hb1, (unhide HF).setCell (p := ⟨g, k, none⟩) (fun h => absurd h (by simp; omega)) _⟩, by simp [intOf]; omega⟩
                  have := unhide HO
                  rwa [unhide HQL] at this
                · have hini : ¬ (A : Int) + (i : Int) < 8 * (q.length : Int) := by omega
                  have HO := hide hO
                  have HM := hide hM
                  have HQ := hide hQ
                  have HF := hide hF
                  have HQL := hide hQl
                  clear hO hM hQ hF hQl hb
                  go_wp2_with fail
                  refine ⟨⟨i + 1, Q, M, by omega, by go_num, rfl, unhide HQL, unhide HO, fun j hj => unhide HM j (by omega), unhide HQ, unhide HF⟩, by simp [intOf]; omega⟩
            · have hbe := burst_end q Q M _ hQ
              have hR := hO.rd
              have hcq := crc_any wr _ Q ((unhide HT).kept hF id id) hR
              have hcp := crc_any wr _ q ((unhide HT).kept hF id id) ((unhide HV).kept hF (fun _ _ h => h))
              have HCQ := hide hcq
              have HCP := hide hcp
              have HF := hide hF
              clear hO hM hQ hF hR hcq hcp
              have hnb : (N (crc Q) != N (crc q)) = decide (M ≠ 0#32) := by
                rw [← hbe, bne, N_beq]; simp
              clear hbe
              generalize decide (M ≠ 0#32) = z at *
              go_wp2_with fail
              refine (unhide HCQ).mono ?_
              rintro e w4 ⟨rfl, rfl⟩
              go_wp2_with fail
              refine (unhide HCP).mono ?_
              rintro e w4 ⟨rfl, rfl⟩
              have hzz : (z == z) = true := by simp
              go_wp2_with fail
              refine (unhide HLV wr (unhide HF)).mono ?_
              rintro e w5 ⟨rfl, f5⟩
              have F5 := hide f5
              clear f5
              go_wp2_with fail
              go_ret
              exact ⟨rfl, unhide F5⟩

theorem shaBursts_in (w : World) (T : Tb w) (a0 : Option Addr) (len0 cap0 : Nat) (q : List UInt8) (hv : Rd w (.slice a0 len0 cap0) q) (m : Int) (hm : (Lit.int .i64 m).wf = true) (n : Int) (hn : (Lit.int .u32 n).wf = true) : Calls Tryd.prog 8 #[.slice a0 len0 cap0, .int .i64 m, .int .u32 n] w fun e w' => e = .returned (.bool true) ∧ Fr (fun _ => False) w w' := by
  obtain ⟨c, rfl⟩ := word_in n hn
  exact shaBursts_any w T a0 len0 cap0 q hv m c
end Go.Proofs.YtlicmlioilkfdaaDoor
