/-
  The walk of the document's Load.
-/
import Derived.Test.YtlicmlioilkfdaaDoorP3
import Derived.Test.YtlicmlioilkfdaaDoorR7
namespace Go.Proofs.YtlicmlioilkfdaaDoor
open Go.RowKit
set_option linter.unusedVariables false
set_option linter.unusedSimpArgs false

attribute [local go_sem ↓] Go.wp_at_zero Go.wp_at_succ

theorem wd4_nat (a b c d : UInt8) : (wd4 a b c d).toNat = ((a.toNat * 256 + b.toNat) * 256 + c.toNat) * 256 + d.toNat := by
  have ha : a.toNat < 256 := a.toNat_lt
  have hb : b.toNat < 256 := b.toNat_lt
  have hc : c.toNat < 256 := c.toNat_lt
  have hd : d.toNat < 256 := d.toNat_lt
  have e8 : ∀ x : UInt8, (B8 x).toNat = x.toNat := fun x => by
    have := x.toNat_lt
    unfold B8
    rw [BitVec.toNat_ofNat]; omega
  have s : ∀ (x : UInt8) (k m : Nat), 2 ^ k = m → x.toNat * m < 4294967296 → (B8 x <<< k).toNat = x.toNat * m := fun x k m e h => by
    rw [BitVec.toNat_shiftLeft, e8, Nat.shiftLeft_eq, e]
    exact Nat.mod_eq_of_lt h
  have g1 : (a.toNat * 256 + b.toNat) * 65536 = a.toNat * 16777216 + b.toNat * 65536 := by omega
  have g2 : ((a.toNat * 256 + b.toNat) * 256 + c.toNat) * 256 = a.toNat * 16777216 + b.toNat * 65536 + c.toNat * 256 := by simp only [Nat.add_mul, Nat.mul_assoc, Nat.reduceMul]
  unfold wd4
  rw [BitVec.toNat_or, BitVec.toNat_or, BitVec.toNat_or, s a 24 16777216 (by simp) (by omega), s b 16 65536 (by simp) (by omega), s c 8 256 (by simp) (by omega), e8 d]
  have o1 := Nat.shiftLeft_add_eq_or_of_lt (i := 24) (b := b.toNat * 65536) (by show _ < 16777216; omega) a.toNat
  rw [Nat.shiftLeft_eq, show 2 ^ 24 = 16777216 from rfl] at o1
  rw [← o1]
  have o2 := Nat.shiftLeft_add_eq_or_of_lt (i := 16) (b := c.toNat * 256) (by show _ < 65536; omega) (a.toNat * 256 + b.toNat)
  rw [Nat.shiftLeft_eq, show 2 ^ 16 = 65536 from rfl, g1] at o2
  rw [← o2]
  have o3 := Nat.shiftLeft_add_eq_or_of_lt (i := 8) (b := d.toNat) (by show _ < 256; omega) ((a.toNat * 256 + b.toNat) * 256 + c.toNat)
  rw [Nat.shiftLeft_eq, show 2 ^ 8 = 256 from rfl, g2] at o3
  rw [← o3, ← g2]

/-- The number that the first bytes behind the state tell. -/
def ldM (L : List UInt8) : Nat → Nat
  | 0 => 0
  | i + 1 => ldM L i * 256 + (L.getD (32 + i) 0).toNat

theorem ldM_lt (L : List UInt8) : ∀ i, ldM L i < 256 ^ i
  | 0 => by simp [ldM]
  | i + 1 => by
    have h := ldM_lt L i
    have := (L.getD (32 + i) 0).toNat_lt
    rw [Nat.pow_succ]
    show ldM L i * 256 + (L.getD (32 + i) 0).toNat < _
    have h2 : (ldM L i + 1) * 256 ≤ 256 ^ i * 256 := Nat.mul_le_mul_right _ h
    omega

theorem ldM_8 (L : List UInt8) : ldM L 8 = ldN L := by
  unfold ldN ln8 wdAt
  rw [wd4_nat, wd4_nat]
  have g : ∀ j, (L.drop 32).getD j 0 = L.getD (32 + j) 0 := fun j => by simp [List.getD]
  simp only [g, ldM]
  simp only [Nat.mul_zero, Nat.mul_one, Nat.zero_add, Nat.add_zero, Nat.reduceAdd]
  omega

theorem or8 (m : Nat) (b : UInt8) (h : m < 72057594037927936) : bits BinOp.or IntKind.u64 ((m : Int) * 256) ((b.toNat : Nat) : Int) = ((m * 256 + b.toNat : Nat) : Int) := by
  have hb := b.toNat_lt
  have e1 : (m : Int) * 256 = ((m * 256 : Nat) : Int) := by omega
  rw [e1]
  show IntKind.u64.wrap ((BitVec.ofInt 64 _ ||| BitVec.ofInt 64 _).toNat : Int) = _
  rw [ofInt64, ofInt64, BitVec.toNat_or, BitVec.toNat_ofNat, BitVec.toNat_ofNat, Nat.mod_eq_of_lt (by omega), Nat.mod_eq_of_lt (by omega)]
  have e3 : m * 256 ||| b.toNat = m * 256 + b.toNat := by
    have := Nat.shiftLeft_add_eq_or_of_lt (i := 8) (b := b.toNat) (by omega) m
    rw [Nat.shiftLeft_eq] at this
    exact this.symm
  rw [e3, wr64 _ (by omega) (by omega)]

theorem gcs_setW (s : St) (n : Nat) (v : Value) (j : Nat) (x : Wd) (hj : j < 8) : (gcs s n v).toArray.setIfInBounds j (.int .u32 (N x)) = (gcs (s.put j x) n v).toArray := by
  rw [List.setIfInBounds_toArray]
  congr 1
  unfold gcs
  rw [List.set_append_left _ _ (by rw [wvs_length]; exact hj), St.put_l s x j hj]
  simp [wvs, List.map_set]

theorem wp_nameW {P : Program} {C : Code} {Q : Exit → Act → World → Prop} {a : Act} {w : World} (h : ∀ w2, w2 = w → C.wp P Q a w2) : C.wp P Q a w := h w rfl

set_option maxHeartbeats 2000000 in
set_option maxRecDepth 100000 in
theorem rload_any (w : World) (v : Value) (L : List UInt8) (hv : Rd w v L) (hL : L.length ≤ 1000000) :
    Calls Tryd.prog 26 #[v] w fun e w' => Fr (fun _ => False) w w' ∧ ((ldOk L ∧ ∃ g v', w.heap.size ≤ g ∧ e = .returned (.tuple #[.pointer (some ⟨g, 0, none⟩), .int .i64 0]) ∧ GAt w' g (ldS L) (ldN L) v' (L.drop 40) ∧ ∀ k, v'.ownBlock = some k → w.heap.size ≤ k) ∨ (¬ ldOk L ∧ e = .returned (.tuple #[.pointer none, .int .i64 51]))) := by
  obtain ⟨ao, cap, rfl⟩ := hv.shape
  by_cases h40 : L.length < 40
  · have hno : ¬ ldOk L := fun h => by have := h.1; omega
    have HNO := hide hno
    have i1 : ((L.length : Nat) : Int) < 40 := by omega
    clear hno hv
    go_enter Tryd.func26, Tryd.ntmps26
    go_wp2_with fail
    go_ret2
    exact ⟨Fr.refl _ _, .inr ⟨unhide HNO, rfl⟩⟩
  · obtain ⟨b, o, rfl, -, hnc, hcm, hcell⟩ := hv.lits (by omega)
    have hb : b < w.heap.size := World.block_lt_of_cell? w _ (hcell 0 (by omega))
    have hcell2 : ∀ j, j < L.length → w.cell? ⟨b, o + j, none⟩ = some (.int .u8 ((((L.getD j 0).toNat : Nat)) : Int)) := fun j hj => by
      rw [hcell j hj]; simp [hj]
    have hq := hv.dropN (k := 40) (by omega)
    have i1 : ¬ ((L.length : Nat) : Int) < 40 := by omega
    have i2 : (40 : Int) ≤ ((L.length : Nat) : Int) := by omega
    have HV := hide hv
    have HC := hide hcell2
    have HQ := hide hq
    clear hv hcell hcell2 hq
    go_enter Tryd.func26, Tryd.ntmps26
    go_wp2_with (refine wpList_appO rfl (.tmp 9) (.tmp 11) rfl (.slice (some ⟨w.heap.size, 0, none⟩) 0 0) [] _ (L.drop 40) rfl rfl (owns_empty (heap_alloc_new w _)) ((unhide HQ).kept ((Fr.refl (fun _ => False) w).alloc _) (fun _ _ h => h)) (by simp; omega) ?_)
    all_goals
      intro ao1 cap1 w1 o1 g1
      have f01 : Fr (fun _ => False) w w1 := ((Fr.refl (fun _ => False) w).alloc _).trans (unhide g1).1 (fun i hi e => by simp [Value.ownBlock] at e; omega)
      have hn1 : ∀ k, (Value.slice ao1 (L.length - 40) cap1).ownBlock = some k → w.heap.size ≤ k := by
        intro k hk
        rcases (unhide g1).2 with e | ⟨k', e, hk'⟩
        · rw [e] at hk; simp [Value.ownBlock] at hk; omega
        · rw [e] at hk; simp at hk hk'; omega
      have hlt1 := (unhide o1).lt
      have hR1 := (unhide o1).rd
      have hcl : ∀ j, j < L.length → w1.cell? ⟨b, o + j, none⟩ = some (.int .u8 ((((L.getD j 0).toNat : Nat)) : Int)) := fun j hj => (f01.cell (a := ⟨b, o + j, none⟩) hb id).trans (unhide HC j hj)
      have hb1 : b < w1.heap.size := Nat.lt_of_lt_of_le hb f01.size
      have F1 := hide f01
      have HN1 := hide hn1
      have HR1 := hide hR1
      have HLT := hide hlt1
      have HC1 := hide hcl
      clear f01 hn1 hlt1 hR1 hcl o1 g1 HQ HC
      go_wp2_with fail
      go_loopw [5] (fun x w' => ∃ i : Nat, i ≤ 8 ∧ x = .int .i64 (i : Int) ∧ w'.heap[w1.heap.size]? = some (.cells (gcs (ldU L i) (ldM L i) (.slice ao1 (L.length - 40) cap1)).toArray 52 (0, 0)) ∧ Fr (fun _ => False) w1 w') (fun x _ => 8 - (intOf x).toNat)
      case atStart => exact ⟨0, by omega, rfl, heap_alloc_new w1 _, (Fr.refl _ _).alloc _⟩
      case round =>
        obtain ⟨i, hi, rfl, hH, hf⟩ := hrel
        by_cases hlt : i < 8
        · have hc := fun j hj => (hf.cell (a := ⟨b, o + j, none⟩) hb1 id).trans (unhide HC1 j hj)
          have h0 := hc (4 * i) (by omega)
          have h1 := hc (4 * i + 1) (by omega)
          have h2 := hc (4 * i + 2) (by omega)
          have h3 := hc (4 * i + 3) (by omega)
          have h4 := hc (32 + i) (by omega)
          have hwd : wdAt L i = wd4 (L.getD (4 * i) 0) (L.getD (4 * i + 1) 0) (L.getD (4 * i + 2) 0) (L.getD (4 * i + 3) 0) := rfl
          have hld : ldM L (i + 1) = ldM L i * 256 + (L.getD (32 + i) 0).toNat := rfl
          have hlu : ldU L (i + 1) = (ldU L i).put i (wdAt L i) := rfl
          have hml : ldM L i < 72057594037927936 := by
            have h5 := ldM_lt L i
            have h6 : 256 ^ i ≤ 256 ^ 7 := Nat.pow_le_pow_right (by omega) (by omega)
            have h7 : 256 ^ 7 = 72057594037927936 := by decide
            omega
          generalize L.getD (4 * i) 0 = x0 at *
          generalize L.getD (4 * i + 1) 0 = x1 at *
          generalize L.getD (4 * i + 2) 0 = x2 at *
          generalize L.getD (4 * i + 3) 0 = x3 at *
          generalize L.getD (32 + i) 0 = x4 at *
          have a0 := wrap_N (B8 x0)
          have a1 := wrap_N (B8 x1)
          have a2 := wrap_N (B8 x2)
          have a3 := wrap_N (B8 x3)
          have e0 := shlB x0 24 16777216 (by decide)
          have e1 := shlB x1 16 65536 (by decide)
          have e2 := shlB x2 8 256 (by decide)
          rw [← N_B8] at h0 h1 h2 h3 e0 e1 e2
          have o1 := or32 (B8 x0 <<< 24) (B8 x1 <<< 16)
          have o2 := or32 (B8 x0 <<< 24 ||| B8 x1 <<< 16) (B8 x2 <<< 8)
          have o3 := or32 (B8 x0 <<< 24 ||| B8 x1 <<< 16 ||| B8 x2 <<< 8) (B8 x3)
          have hd : B8 x0 <<< 24 ||| B8 x1 <<< 16 ||| B8 x2 <<< 8 ||| B8 x3 = wd4 x0 x1 x2 x3 := rfl
          rw [hd, ← hwd] at o3
          clear hd hwd
          generalize wdAt L i = res at *
          generalize B8 x0 <<< 24 ||| B8 x1 <<< 16 ||| B8 x2 <<< 8 = y2 at *
          generalize B8 x0 <<< 24 ||| B8 x1 <<< 16 = y1 at *
          generalize B8 x0 <<< 24 = y0 at *
          generalize B8 x1 <<< 16 = z1 at *
          generalize B8 x2 <<< 8 = z2 at *
          have o4 := or8 (ldM L i) x4 hml
          rw [← hld] at o4
          have hx4 : x4.toNat < 256 := x4.toNat_lt
          have a4 : IntKind.u64.wrap ((x4.toNat : Nat) : Int) = ((x4.toNat : Nat) : Int) := wr64 _ (by omega) (by omega)
          have c8 : wr.cell? ⟨w1.heap.size, 8, none⟩ = some (.int .u64 ((ldM L i : Nat) : Int)) := by rw [cell_of_heap hH]; rfl
          have cx : wr.cell? ⟨w1.heap.size, i, none⟩ = some (.int .u32 (N ((ldU L i).l.getD i 0))) := by
            rw [cell_of_heap hH, List.getElem?_toArray, gcs, List.getElem?_append_left (by rw [wvs_length]; exact hlt)]
            exact wvs_get _ _ hlt
          have zx : ∀ j, wr.frozen? ⟨w1.heap.size, j, none⟩ = false := fun j => frozen_of_heap hH j
          have z8 := zx 8
          have zi := zx i
          have HHH := hide hH
          have HF := hide hf
          have HLU := hide hlu
          generalize hm2 : ldM L (i + 1) = m2 at *
          have HM2 := hide hm2
          clear hm2
          generalize ldM L i = m at *
          have b1 : (0 : Int) ≤ 4 * (i : Int) := by omega
          have b2 : 4 * (i : Int) < ((L.length : Nat) : Int) := by omega
          have b3 : (4 * (i : Int)).toNat = 4 * i := by omega
          have b21 : 4 * (i : Int) + 1 < ((L.length : Nat) : Int) := by omega
          have b31 : (4 * (i : Int) + 1).toNat = 4 * i + 1 := by omega
          have b22 : 4 * (i : Int) + 2 < ((L.length : Nat) : Int) := by omega
          have b32 : (4 * (i : Int) + 2).toNat = 4 * i + 2 := by omega
          have b23 : 4 * (i : Int) + 3 < ((L.length : Nat) : Int) := by omega
          have b33 : (4 * (i : Int) + 3).toNat = 4 * i + 3 := by omega
          have b24 : 32 + (i : Int) < ((L.length : Nat) : Int) := by omega
          have b34 : (32 + (i : Int)).toNat = 32 + i := by omega
          have b5 : (i : Int) < 8 := by omega
          have b6 : ((m : Nat) : Int) * 256 % 18446744073709551616 = ((m : Nat) : Int) * 256 := by omega
          clear hc hf hlu hld hH zx
          go_wp2_with fail
          refine wp_region_quietTail 38 (by kernel_rfl) (by kernel_rfl) ?_
          simp only [List.take_succ_cons, List.take_zero]
          repeat (go_big_quiet_step (fail))
          refine wpQuiet_nil ?_
          intro _ hw'
          obtain ⟨nq, hw''⟩ := hw'
          subst hw''
          simp only [List.drop_succ_cons, List.drop_zero]
          go_wp2_with fail
          refine wp_nameW ?_
          intro w2 hw2
          have hH1 : (wr.drewN nq).heap[w1.heap.size]? = some (.cells (gcs (ldU L i) m (.slice ao1 (L.length - 40) cap1)).toArray 52 (0, 0)) := unhide HHH
          have hH2 : w2.heap[w1.heap.size]? = some (.cells (gcs (ldU L (i + 1)) m (.slice ao1 (L.length - 40) cap1)).toArray 52 (0, 0)) := by
            rw [hw2, heap_setCell_same _ _ i _ 52 _ hH1, gcs_setW _ _ _ i _ hlt, unhide HLU]
          have f2 : Fr (fun k => k = w1.heap.size) wr w2 := by rw [hw2]; exact (frD wr nq (fun k => k = w1.heap.size)).setCell (p := ⟨w1.heap.size, i, none⟩) (fun _ => rfl) _
          have hbr : b < wr.heap.size := Nat.lt_of_lt_of_le hb1 (unhide HF).size
          have h42 : w2.cell? ⟨b, o + (32 + i), none⟩ = some (.int .u8 ((x4.toNat : Nat) : Int)) := (f2.cell (a := ⟨b, o + (32 + i), none⟩) hbr (by show ¬ b = w1.heap.size; omega)).trans h4
          have c82 : w2.cell? ⟨w1.heap.size, 8, none⟩ = some (.int .u64 ((m : Nat) : Int)) := by rw [cell_of_heap hH2]; rfl
          have z82 : w2.frozen? ⟨w1.heap.size, 8, none⟩ = false := frozen_of_heap hH2 8
          have HH2 := hide hH2
          have F2 := hide ((unhide HF).trans f2 (fun i hi e => by omega))
          clear h0 h1 h2 h3 h4 c8 cx z8 zi hw2 hH1 hH2 f2 o1 o2 o3 a0 a1 a2 a3 e0 e1 e2
          go_wp2_with fail
          refine wp_region_quietTail 15 (by kernel_rfl) (by kernel_rfl) ?_
          simp only [List.take_succ_cons, List.take_zero]
          repeat (go_big_quiet_step (fail))
          refine wpQuiet_nil ?_
          intro _ hw'
          obtain ⟨nr, hw''⟩ := hw'
          subst hw''
          simp only [List.drop_succ_cons, List.drop_zero]
          go_wp2_with fail
          go_roundw
          case rel =>
            have hH3 : (w2.drewN nr).heap[w1.heap.size]? = some (.cells (gcs (ldU L (i + 1)) m (.slice ao1 (L.length - 40) cap1)).toArray 52 (0, 0)) := unhide HH2
            refine ⟨i + 1, by omega, by go_num, ?_, ((unhide F2).drewN nr).setCell (p := ⟨w1.heap.size, 8, none⟩) (fun h => absurd h (by simp)) _⟩
            rw [heap_setCell_same _ _ 8 _ 52 _ hH3, gcs_setN, unhide HM2]
          case measure => simp [intOf]; omega
        · have : i = 8 := by omega
          subst this
          have hne : ∀ k, (Value.slice ao1 (L.length - 40) cap1).ownBlock = some k → k ≠ w1.heap.size ∧ k < wr.heap.size := fun k hk => by
            have h5 := unhide HLT k hk
            have h6 := hf.size
            exact ⟨by omega, by omega⟩
          have hG : GAt wr w1.heap.size (ldS L) (ldN L) (.slice ao1 (L.length - 40) cap1) (L.drop 40) := by
            refine ⟨?_, ?_, (unhide HR1).kept hf (fun _ _ h => h), hne, by simp; omega⟩
            · rw [← ldM_8]; exact hH
            · exact ln8_lt _ _
          have c8 := hG.num
          have c9 := hG.val
          have hfit := hG.fit
          have hok : ldOk L ↔ L.length - 40 = ldN L % 64 := ⟨fun h => h.2, fun h => ⟨by omega, h⟩⟩
          have e1 : ((ldN L : Nat) : Int).tmod 64 = ((ldN L % 64 : Nat) : Int) := by
            rw [Int.tmod_eq_emod_of_nonneg (by omega)]; omega
          have FF := hide ((unhide F1).trans hf (fun _ _ h => h))
          have e2 : IntKind.u64.wrap (((L.length - 40 : Nat) : Nat) : Int) = ((L.length - 40 : Nat) : Int) := wr64 _ (by omega) (by omega)
          have HG := hide hG
          have HOK := hide hok
          have hs1 := (unhide F1).size
          have HS1 := hide hs1
          clear hG hH hf hne hok
          by_cases hE : L.length - 40 = ldN L % 64
          · have HE := hide hE
            generalize ldN L % 64 = k at *
            have i5 : ((L.length - 40 : Nat) : Int) = ((k : Nat) : Int) := by omega
            generalize L.length - 40 = k2 at *
            subst hE
            generalize hNN : ldN L = nn at *
            have HNN := hide hNN
            clear hNN
            go_wp2_with fail
            go_quiet (fail)
            go_wp2_with fail
            go_ret2
            exact ⟨(unhide FF).drewN _, .inl ⟨(unhide HOK).2 (unhide HE), _, _, unhide HS1, rfl, by rw [unhide HNN]; exact (unhide HG).kept (frD wr nq (fun _ => False)) id (fun _ _ h => h), fun k hk => unhide HN1 k hk⟩⟩
          · have HE := hide hE
            generalize ldN L % 64 = k at *
            generalize L.length - 40 = k2 at *
            have i5 : ¬ ((k : Nat) : Int) = ((k2 : Nat) : Int) := by omega
            generalize hNN : ldN L = nn at *
            have HNN := hide hNN
            clear hNN
            go_wp2_with fail
            go_quiet (fail)
            go_wp2_with fail
            go_ret2
            exact ⟨(unhide FF).drewN _, .inr ⟨fun h => unhide HE ((unhide HOK).1 h), rfl⟩⟩
end Go.Proofs.YtlicmlioilkfdaaDoor
