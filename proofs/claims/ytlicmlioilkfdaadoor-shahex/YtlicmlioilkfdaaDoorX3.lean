/-
  The walk of the document's digit, Parse and Hex.
-/
import Derived.Test.YtlicmlioilkfdaaDoorX2
namespace Go.Proofs.YtlicmlioilkfdaaDoor
open Go.RowKit
set_option linter.unusedVariables false
set_option linter.unusedSimpArgs false

attribute [local go_sem ↓] Go.wp_at_zero Go.wp_at_succ

theorem add16 : ∀ x : Fin 256, ∀ v : Fin 16, (((x.1 : Nat) : Int) * 16 + ((v.1 : Nat) : Int)) % 256 = ((((UInt8.ofNat x.1) * 16 + UInt8.ofNat v.1).toNat : Nat) : Int) := by decide +kernel
theorem add16b (x : UInt8) (n : Int) (h0 : 0 ≤ n) (h1 : n < 16) : (((x.toNat : Nat) : Int) * 16 + n) % 256 = (((x * 16 + UInt8.ofNat n.toNat).toNat : Nat) : Int) := by
  have := add16 ⟨x.toNat, x.toNat_lt⟩ ⟨n.toNat, by omega⟩
  simp only [UInt8.ofNat_toNat] at this
  rw [← this]
  congr 1
  · omega

def nodg (c : UInt8) (i : Nat) : Bool := (List.range i).all fun j => dg j != c

theorem dvl_at : ∀ c : Fin 256, ∀ i : Fin 16, nodg (UInt8.ofNat c.1) i.1 = true → (dg i.1 == UInt8.ofNat c.1) = true → dvl (UInt8.ofNat c.1) = ((i.1 : Nat) : Int) := by decide +kernel
theorem dvl_no : ∀ c : Fin 256, nodg (UInt8.ofNat c.1) 16 = true → dvl (UInt8.ofNat c.1) = -1 := by decide +kernel
theorem nodg_step (c : UInt8) (i : Nat) (h : nodg c i = true) (h2 : (dg i == c) = false) : nodg c (i + 1) = true := by
  unfold nodg at *
  rw [List.range_succ, List.all_append, h]
  simpa [bne] using h2

theorem eq8 (a b : UInt8) : ((((a.toNat : Nat) : Int)) == ((b.toNat : Nat) : Int)) = (a == b) := by
  rw [Bool.eq_iff_iff]
  simp only [beq_iff_eq]
  exact ⟨fun h => UInt8.toNat_inj.1 (by omega), fun h => by rw [h]⟩

theorem digit_any (w : World) (c : UInt8) : Calls Tryd.prog 53 #[.int .u8 ((c.toNat : Nat) : Int)] w fun e w' => e = .returned (.int .i64 (dvl c)) ∧ w = w' := by
  go_enter Tryd.func53, Tryd.ntmps53
  go_wp2_with fail
  go_loopw [3] (fun y w' => ∃ i : Nat, i ≤ 16 ∧ y = .int .i64 (i : Int) ∧ nodg c i = true ∧ w' = w) (fun y _ => 16 - (intOf y).toNat)
  case atStart => exact ⟨0, by omega, rfl, rfl, rfl⟩
  case round =>
    obtain ⟨i, hi, rfl, hn, rfl⟩ := hrel
    by_cases hlt : i < 16
    · have hd := fun W => run_digit W .i64 i hlt
      have he := eq8 (dg i) c
      cases hc : (dg i == c)
      · rw [hc] at he
        have hn2 := nodg_step c i hn hc
        generalize dg i = x at *
        have HN := hide hn2
        clear hn2 hn hc
        go_wp2_with fail
        refine ⟨⟨i + 1, by omega, by go_num, unhide HN, by first | rfl | trivial⟩, by simp [intOf]; omega⟩
      · rw [hc] at he
        have hr := dvl_at ⟨c.toNat, c.toNat_lt⟩ ⟨i, hlt⟩ (by simpa using hn) (by simpa using hc)
        simp only [UInt8.ofNat_toNat] at hr
        have HR := hide hr
        clear hr hc hn
        generalize dg i = x at *
        go_wp2_with fail
        go_ret
        rw [unhide HR]
        exact ⟨rfl, rfl⟩
    · have : i = 16 := by omega
      subst this
      have hr := dvl_no ⟨c.toNat, c.toNat_lt⟩ (by simpa using hn)
      simp only [UInt8.ofNat_toNat] at hr
      have HR := hide hr
      clear hr hn
      go_wp2_with fail
      go_ret
      rw [unhide HR]
      exact ⟨rfl, rfl⟩

set_option maxHeartbeats 2000000 in
set_option maxRecDepth 100000 in
theorem rparse_any (w : World) (s : List UInt8) (hs : s.length ≤ 1000000000) : Calls Tryd.prog 31 #[.string (str s)] w fun e w' => e = .returned (.tuple #[.agg (bvs (prs s).1).toArray, .int .i64 (prs s).2.1, .int .i64 (prs s).2.2]) ∧ Fr (fun _ => False) w w' := by
  have hsz : (str s).size = s.length := str_size s
  obtain ⟨m, hm⟩ : ∃ m : Nat, m = min 64 s.length := ⟨_, rfl⟩
  have HM := hide hm
  clear hm
  go_enter Tryd.func31, Tryd.ntmps31
  go_wp2_with fail
  go_loopw [6] (fun y w' => ∃ i : Nat, i ≤ m ∧ y = .int .i64 (i : Int) ∧ okTo s i ∧ w'.heap[w.heap.size + 1]? = some (.cells (bvs (pst s i)).toArray 26 (0, 0)) ∧ ZAt w' w.heap.size 26 32 ∧ Fr (fun _ => False) w w') (fun y _ => m - (intOf y).toNat)
  case atStart => exact ⟨0, by omega, rfl, fun j hj => by omega, BlockAt.one w _ _, ⟨_, BlockAt.two w _ _, rfl⟩, ((Fr.refl _ _).alloc _).alloc _⟩
  case round =>
    obtain ⟨i, hi, rfl, hok, hB, hZ, hF⟩ := hrel
    by_cases hlt : i < m
    · have hm := unhide HM
      have hil : i < s.length := by omega
      have hst := fun W => str_at W s i hil
      have hidx := fun W => digit_any W (s.getD i 0)
      have hdr := dvl_range (s.getD i 0)
      have i64 : i < 64 := by omega
      have hc1 : (i : Int) < (s.length : Int) := by omega
      have hc2 : (i : Int) < 64 := by omega
      clear hm
      by_cases hb : dvl (s.getD i 0) < 0
      · have hp := prs_bad hok hil i64 hb
        have hres := hZ.putB (List.replicate 32 0) (by decide)
        have hth : wr.there w.heap.size 0 (bvs (List.replicate 32 0)).toArray.size := hZ.there
        have fin : Fr (fun _ => False) w (wr.setCells w.heap.size 0 (bvs (List.replicate 32 0))) := hF.trans (setCells_frame _ _ _ _) (fun i hi e => by omega)
        have hone := bvs_oneA (List.replicate 32 0)
        have HP := hide hp
        have HR := hide hres
        clear hp hres hok hB hZ hF hdr
        generalize s.getD i 0 = c at *
        generalize dvl c = v at *
        go_wp2_with (first | (go_at_call 53; refine (hidx _).mono ?_; rintro e w' ⟨rfl, rfl⟩) | refine wpList_store_mid0 rfl rfl 26 _ _ rfl w.heap.size 0 (bvs (List.replicate 32 0)).toArray rfl rfl hth Tryd.s26 hone ?_)
        refine bodyPost_ret (ret_agg2 rfl _ _ w.heap.size 0 _ _ rfl (bat_range (unhide HR)) Tryd.u26 rfl Tryd.s26) rfl ?_
        rw [unhide HP]
        exact ⟨rfl, fin⟩
      · have hk : i / 2 < 32 := by omega
        have hbl := pst_length s i
        have hc : wr.cell? ⟨w.heap.size + 1, i / 2, none⟩ = some (.int .u8 ((((pst s i).getD (i / 2) 0).toNat : Nat) : Int)) := by
          rw [cell_of_heap hB, List.getElem?_toArray, bvs_get _ _ (by omega)]
          simp [hbl, hk]
        have hz : wr.frozen? ⟨w.heap.size + 1, i / 2, none⟩ = false := frozen_of_heap hB _
        have hor := add16b ((pst s i).getD (i / 2) 0) (dvl (s.getD i 0)) (by omega) hdr.2
        have hB2 : (wr.setCell ⟨w.heap.size + 1, i / 2, none⟩ (.int .u8 ((((pst s i).getD (i / 2) 0 * 16 + dby (s.getD i 0)).toNat : Nat) : Int))).heap[w.heap.size + 1]? = some (.cells (bvs (pst s (i + 1))).toArray 26 (0, 0)) := by
          rw [heap_setCell_same wr _ _ _ 26 _ hB, bvs_set]
          rfl
        have hok2 : okTo s (i + 1) := fun j hj => by
          by_cases e : j = i
          · subst e; exact hb
          · exact hok j (by omega)
        have ewr := wrap_u8v (dvl (s.getD i 0)) (by omega) hdr.2
        have e2 : ((i : Nat) : Int).tdiv 2 = ((i / 2 : Nat) : Int) := by
          rw [Int.tdiv_eq_ediv_of_nonneg (by omega)]; omega
        have hdb : (pst s i).getD (i / 2) 0 * 16 + dby (s.getD i 0) = (pst s i).getD (i / 2) 0 * 16 + UInt8.ofNat (dvl (s.getD i 0)).toNat := rfl
        rw [← hdb] at hor
        generalize (pst s i).getD (i / 2) 0 * 16 + dby (s.getD i 0) = r at *
        generalize (pst s i).getD (i / 2) 0 = x at *
        have HB2 := hide hB2
        have HOK := hide hok2
        have HZ := hide hZ
        have HF := hide hF
        have HDR := hide hdr
        have hnn : 0 ≤ dvl (s.getD i 0) := by omega
        clear hB hB2 hok hok2 hZ hF hdb hdr hbl
        generalize s.getD i 0 = c at *
        generalize dvl c = v at *
        generalize i / 2 = k at *
        go_wp2_with (go_at_call 53; refine (hidx _).mono ?_; rintro e w' ⟨rfl, rfl⟩)
        go_roundw
        case rel => exact ⟨i + 1, by omega, by go_num, unhide HOK, unhide HB2, (unhide HZ).setCell _ _ _, (unhide HF).setCell (fun h => absurd h (by simp)) _⟩
        case measure => simp [intOf]; omega
    · have him : i = m := by omega
      subst him
      have hm := unhide HM
      have hgood := prs_good (by rw [← hm]; exact hok)
      have hone := bvs_oneA (List.replicate 32 0)
      have hth : wr.there w.heap.size 0 (bvs (List.replicate 32 0)).toArray.size := hZ.there
      have hres := hZ.putB (List.replicate 32 0) (by decide)
      have fin : Fr (fun _ => False) w (wr.setCells w.heap.size 0 (bvs (List.replicate 32 0))) := hF.trans (setCells_frame _ _ _ _) (fun i hi e => by omega)
      by_cases h1 : s.length < 64
      · rw [if_pos h1] at hgood
        have hil : i = s.length := by omega
        clear HM
        subst hil
        have hlt0 : ((s.length : Int) < (s.length : Int)) = False := by simp
        have HG := hide hgood
        have HR := hide hres
        clear hgood hres hok hB hZ hF hm hi hlt
        have h1' : (s.length : Int) < 64 := by omega
        clear h1
        go_wp2_with (refine wpList_store_mid0 rfl rfl 26 _ _ rfl w.heap.size 0 (bvs (List.replicate 32 0)).toArray rfl rfl hth Tryd.s26 hone ?_)
        refine bodyPost_ret (ret_agg2 rfl _ _ w.heap.size 0 _ _ rfl (bat_range (unhide HR)) Tryd.u26 rfl Tryd.s26) rfl ?_
        rw [unhide HG]
        exact ⟨rfl, fin⟩
      · rw [if_neg h1] at hgood
        have hi64 : i = 64 := by omega
        clear HM
        subst hi64
        by_cases h2 : 64 < s.length
        · rw [if_pos h2] at hgood
          have HG := hide hgood
          have HR := hide hres
          clear hgood hres hok hB hZ hF hm hi hlt
          have h2' : (64 : Int) < (s.length : Int) := by omega
          have h1' : ((s.length : Int) < 64) = False := by simp; omega
          clear h1 h2
          go_wp2_with (refine wpList_store_mid0 rfl rfl 26 _ _ rfl w.heap.size 0 (bvs (List.replicate 32 0)).toArray rfl rfl hth Tryd.s26 hone ?_)
          refine bodyPost_ret (ret_agg2 rfl _ _ w.heap.size 0 _ _ rfl (bat_range (unhide HR)) Tryd.u26 rfl Tryd.s26) rfl ?_
          rw [unhide HG]
          exact ⟨rfl, fin⟩
        · rw [if_neg h2] at hgood
          have hpl := pst_length s 64
          obtain ⟨D, hD⟩ : ∃ D, D = pst s 64 := ⟨_, rfl⟩
          rw [← hD] at hB hpl hgood
          have hrng := bat_range hB
          have hi : (Tryd.prog.info? 26).map (·.size) = some (bvs D).length := by rw [bvs_length, hpl]; exact Tryd.s26
          have hszD : (bvs D).toArray.size = 32 := by simpa [bvs_length] using hpl
          have hi2 : (Tryd.prog.info? 26).map (·.size) = some (bvs D).toArray.size := by rw [hszD]; exact Tryd.s26
          have honeD := bvs_oneA D
          have hthD : wr.there w.heap.size 0 (bvs D).toArray.size := by rw [hszD]; exact hZ.there
          have hresD := hZ.putB D hpl
          have finD : Fr (fun _ => False) w (wr.setCells w.heap.size 0 (bvs D)) := hF.trans (setCells_frame _ _ _ _) (fun i hi e => by omega)
          have HG := hide hgood
          have HR := hide hresD
          clear hgood hres hok hB hZ hF hm hlt fin hth hone hD hszD hresD hpl
          have h1' : ((s.length : Int) < 64) = False := by simp; omega
          have h2' : ((64 : Int) < (s.length : Int)) = False := by simp; omega
          clear h1 h2
          go_wp2_with (first | refine wpList_load_mid rfl 26 _ rfl (w.heap.size + 1) 0 rfl (bvs D) _ hrng Tryd.u26 rfl hi ?_ | refine wpList_store_mid0 rfl rfl 26 _ _ rfl w.heap.size 0 (bvs D).toArray rfl rfl hthD hi2 honeD ?_)
          refine bodyPost_ret (ret_agg2 rfl _ _ w.heap.size 0 _ _ rfl (bat_range (unhide HR)) Tryd.u26 rfl hi) rfl ?_
          rw [unhide HG]
          exact ⟨rfl, finD⟩
end Go.Proofs.YtlicmlioilkfdaaDoor
