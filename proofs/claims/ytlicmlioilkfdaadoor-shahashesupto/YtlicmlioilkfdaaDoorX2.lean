/-
  The walk of Parse.
-/
import Derived.Test.YtlicmlioilkfdaaDoorX1
import Derived.Laws.Externs
namespace Go.Proofs.YtlicmlioilkfdaaDoor
open Go.RowKit
set_option linter.unusedVariables false
set_option linter.unusedSimpArgs false

attribute [local go_sem ↓] Go.wp_at_zero Go.wp_at_succ

/-- The value of a digit; -1: it is none. -/
def dvl (c : UInt8) : Int := firstIdx { data := #[48, 49, 50, 51, 52, 53, 54, 55, 56, 57, 97, 98, 99, 100, 101, 102] } c

theorem dvl_all : ∀ c : Fin 256, -1 ≤ dvl (UInt8.ofNat c.1) ∧ dvl (UInt8.ofNat c.1) < 16 := by decide +kernel
theorem dvl_range (c : UInt8) : -1 ≤ dvl c ∧ dvl c < 16 := by
  have := dvl_all ⟨c.toNat, c.toNat_lt⟩
  simpa using this

theorem ext71 (c : UInt8) (w : World) : Sem.run Tryd.prog (callFunc 71 #[.string { data := #[48, 49, 50, 51, 52, 53, 54, 55, 56, 57, 97, 98, 99, 100, 101, 102] }, .int .u8 ((c.toNat : Nat) : Int)]) w = .ok (.value (.int .i64 (dvl c))) w := by
  have he : Extern.find Tryd.f71 = some Extern.BytealgIndexByte.indexByte := by rfl
  rw [run_callFunc_extern Tryd.func71 (by kernel_rfl) (by kernel_rfl) (by kernel_rfl) he, run_indexByte_string]
  simp [dvl]

theorem indexByte_any (w : World) (c : UInt8) : Calls Tryd.prog 52 #[.string { data := #[48, 49, 50, 51, 52, 53, 54, 55, 56, 57, 97, 98, 99, 100, 101, 102] }, .int .u8 ((c.toNat : Nat) : Int)] w fun e w' => e = .returned (.int .i64 (dvl c)) ∧ w = w' := by
  have h := ext71 c
  have h68 : Calls Tryd.prog 68 #[.string { data := #[48, 49, 50, 51, 52, 53, 54, 55, 56, 57, 97, 98, 99, 100, 101, 102] }, .int .u8 ((c.toNat : Nat) : Int)] w fun e w' => e = .returned (.int .i64 (dvl c)) ∧ w = w' := by
    go_enter Tryd.func68, Tryd.ntmps68
    go_wp2_with fail
    go_ret
    exact ⟨rfl, rfl⟩
  clear h
  go_enter Tryd.func52, Tryd.ntmps52
  go_wp2_with fail
  refine h68.mono ?_
  rintro e w' ⟨rfl, rfl⟩
  go_wp2_with fail
  go_ret
  exact ⟨rfl, rfl⟩

/-- The value of a digit, as a byte. -/
def dby (c : UInt8) : UInt8 := UInt8.ofNat (dvl c).toNat

/-- The digest under way, behind i digits. -/
def pst (s : List UInt8) : Nat → List UInt8
  | 0 => List.replicate 32 0
  | i + 1 => (pst s i).set (i / 2) ((pst s i).getD (i / 2) 0 * 16 + dby (s.getD i 0))

theorem pst_length (s : List UInt8) (i : Nat) : (pst s i).length = 32 := by
  induction i with
  | zero => rfl
  | succ i ih => simp [pst, ih]

/-- Where the first sign that is no digit stands, among the first 64. -/
def bad (s : List UInt8) : Nat := (s.take 64).findIdx fun c => decide (dvl c < 0)

/-- What Parse answers: a digest, an error, a place. -/
def prs (s : List UInt8) : List UInt8 × Int × Int :=
  if bad s < (s.take 64).length then (List.replicate 32 0, 50, (bad s : Int))
  else if s.length < 64 then (List.replicate 32 0, 3, (s.length : Int))
  else if 64 < s.length then (List.replicate 32 0, 4, 64)
  else (pst s 64, 0, 0)

theorem prs_length (s : List UInt8) : (prs s).1.length = 32 := by
  unfold prs
  have h := pst_length s 64
  generalize pst s 64 = d at *
  split
  · exact List.length_replicate
  · split
    · exact List.length_replicate
    · split
      · exact List.length_replicate
      · exact h

/-- Digits ahead of i. -/
def okTo (s : List UInt8) (i : Nat) : Prop := ∀ j, j < i → ¬ dvl (s.getD j 0) < 0

theorem prs_bad {s : List UInt8} {i : Nat} (h : okTo s i) (hi : i < s.length) (h64 : i < 64) (hb : dvl (s.getD i 0) < 0) : prs s = (List.replicate 32 0, 50, (i : Int)) := by
  have hl : (s.take 64).length = min 64 s.length := List.length_take ..
  have hg : ∀ j (hj : j < (s.take 64).length), (s.take 64)[j] = s.getD j 0 := fun j hj => by
    rw [List.getElem_take]
    have : j < s.length := by omega
    simp [this]
  have e : bad s = i := by
    unfold bad
    rw [List.findIdx_eq (by omega)]
    refine ⟨by rw [hg i (by omega)]; simpa using hb, fun j hj => ?_⟩
    have := h j hj
    rw [hg j (by omega)]
    simpa using this
  unfold prs
  rw [e, if_pos (by omega)]

theorem prs_good {s : List UInt8} (h : okTo s (min 64 s.length)) : prs s = if s.length < 64 then (List.replicate 32 0, 3, (s.length : Int)) else if 64 < s.length then (List.replicate 32 0, 4, 64) else (pst s 64, 0, 0) := by
  have hl : (s.take 64).length = min 64 s.length := List.length_take ..
  have : ¬ bad s < (s.take 64).length := by
    intro hb
    have h1 := List.findIdx_getElem (w := hb)
    have h2 := h (bad s) (by omega)
    have h3 : bad s < s.length := by omega
    apply h2
    have e : s.getD (bad s) 0 = (s.take 64)[bad s]'hb := by rw [List.getElem_take]; simp [h3]
    rw [e]
    exact of_decide_eq_true h1
  unfold prs
  rw [if_neg this]

theorem or16 : ∀ x : Fin 256, ∀ v : Fin 16, bits BinOp.or IntKind.u8 (((x.1 * 16 % 256 : Nat) : Int)) ((v.1 : Nat) : Int) = ((((UInt8.ofNat x.1) * 16 + UInt8.ofNat v.1).toNat : Nat) : Int) := by decide +kernel

theorem or16b (x : UInt8) (n : Int) (h0 : 0 ≤ n) (h1 : n < 16) : bits BinOp.or IntKind.u8 (((x.toNat : Nat) : Int) * 16 % 256) n = (((x * 16 + UInt8.ofNat n.toNat).toNat : Nat) : Int) := by
  have := or16 ⟨x.toNat, x.toNat_lt⟩ ⟨n.toNat, by omega⟩
  simp only [UInt8.ofNat_toNat] at this
  rw [← this]
  congr 1
  · omega

theorem str_at (w : World) (s : List UInt8) (i : Nat) (hi : i < s.length) : Sem.run Tryd.prog (Instr.index 9 (.string (str s)) (.int .i64 (i : Int))) w = .ok (.int .u8 (((s.getD i 0).toNat : Nat) : Int)) w := by
  have hsz : (str s).size = s.length := str_size s
  rw [run_index_string w 9 _ _ _ Tryd.u9, dif_pos ⟨by omega, by omega⟩]
  congr 3
  have : (str s)[(i : Int).toNat]'(by omega) = s[i] := by
    show s.toArray[(i : Int).toNat] = s[i]
    simp
  rw [this]
  simp [hi]

theorem wrap_u8v (v : Int) (h0 : 0 ≤ v) (h1 : v < 16) : IntKind.u8.wrap v = v := by
  simp only [IntKind.wrap, IntKind.bits, IntKind.signed]; simp; omega

set_option maxHeartbeats 2000000 in
set_option maxRecDepth 100000 in
theorem parse_any (w : World) (s : List UInt8) (hs : s.length ≤ 1000000000) : Calls Tryd.prog 30 #[.string (str s)] w fun e w' => e = .returned (.tuple #[.agg (bvs (prs s).1).toArray, .int .i64 (prs s).2.1, .int .i64 (prs s).2.2]) ∧ Fr (fun _ => False) w w' := by
  have hsz : (str s).size = s.length := str_size s
  obtain ⟨m, hm, hmin⟩ : ∃ m : Nat, m = min 64 s.length ∧ (if (64 : Int) < (s.length : Int) then (64 : Int) else (s.length : Int)) = (m : Int) := ⟨min 64 s.length, rfl, by split <;> omega⟩
  have HM := hide hm
  clear hm
  go_enter Tryd.func30, Tryd.ntmps30
  go_wp2_with fail
  go_loopw [11] (fun y w' => ∃ i : Nat, i ≤ m ∧ y = .int .i64 (i : Int) ∧ okTo s i ∧ w'.heap[w.heap.size + 1]? = some (.cells (bvs (pst s i)).toArray 26 (0, 0)) ∧ ZAt w' w.heap.size 26 32 ∧ Fr (fun _ => False) w w') (fun y _ => m - (intOf y).toNat)
  case atStart => exact ⟨0, by omega, rfl, fun j hj => by omega, BlockAt.one w _ _, ⟨_, BlockAt.two w _ _, rfl⟩, ((Fr.refl _ _).alloc _).alloc _⟩
  case round =>
    obtain ⟨i, hi, rfl, hok, hB, hZ, hF⟩ := hrel
    by_cases hlt : i < m
    · have hm := unhide HM
      have hil : i < s.length := by omega
      have hst := fun W => str_at W s i hil
      have hidx := fun W => indexByte_any W (s.getD i 0)
      have hdr := dvl_range (s.getD i 0)
      have i64 : i < 64 := by omega
      clear hm
      by_cases hb : dvl (s.getD i 0) < 0
      · have hp := prs_bad hok hil i64 hb
        have hres := hZ.putB (List.replicate 32 0) (by decide)
        have hth : wr.there w.heap.size 0 (bvs (List.replicate 32 0)).toArray.size := hZ.there
        have fin : Fr (fun _ => False) w (wr.setCells w.heap.size 0 (bvs (List.replicate 32 0))) := hF.trans (setCells_frame _ _ _ _) (fun i hi e => by omega)
        have hone := bvs_oneA (List.replicate 32 0)
        have HP := hide hp
        have HR := hide hres
        clear hp hres hok hB hZ hF hdr
        generalize s.getD i 0 = c at *
        generalize dvl c = v at *
        go_wp2_with (first | (go_at_call 52; refine (hidx _).mono ?_; rintro e w' ⟨rfl, rfl⟩) | refine wpList_store_mid0 rfl rfl 26 _ _ rfl w.heap.size 0 (bvs (List.replicate 32 0)).toArray rfl rfl hth Tryd.s26 hone ?_)
        refine bodyPost_ret (ret_agg2 rfl _ _ w.heap.size 0 _ _ rfl (bat_range (unhide HR)) Tryd.u26 rfl Tryd.s26) rfl ?_
        rw [unhide HP]
        exact ⟨rfl, fin⟩
      · have hk : i / 2 < 32 := by omega
        have hbl := pst_length s i
        have hc : wr.cell? ⟨w.heap.size + 1, i / 2, none⟩ = some (.int .u8 ((((pst s i).getD (i / 2) 0).toNat : Nat) : Int)) := by
          rw [cell_of_heap hB, List.getElem?_toArray, bvs_get _ _ (by omega)]
          simp [hbl, hk]
        have hz : wr.frozen? ⟨w.heap.size + 1, i / 2, none⟩ = false := frozen_of_heap hB _
        have hor := or16b ((pst s i).getD (i / 2) 0) (dvl (s.getD i 0)) (by omega) hdr.2
        have hB2 : (wr.setCell ⟨w.heap.size + 1, i / 2, none⟩ (.int .u8 ((((pst s i).getD (i / 2) 0 * 16 + dby (s.getD i 0)).toNat : Nat) : Int))).heap[w.heap.size + 1]? = some (.cells (bvs (pst s (i + 1))).toArray 26 (0, 0)) := by
          rw [heap_setCell_same wr _ _ _ 26 _ hB, bvs_set]
          rfl
        have hok2 : okTo s (i + 1) := fun j hj => by
          by_cases e : j = i
          · subst e; exact hb
          · exact hok j (by omega)
        have ewr := wrap_u8v (dvl (s.getD i 0)) (by omega) hdr.2
        have e2 : ((i : Nat) : Int).tdiv 2 = ((i / 2 : Nat) : Int) := by
          rw [Int.tdiv_eq_ediv_of_nonneg (by omega)]; omega
        have hdb : (pst s i).getD (i / 2) 0 * 16 + dby (s.getD i 0) = (pst s i).getD (i / 2) 0 * 16 + UInt8.ofNat (dvl (s.getD i 0)).toNat := rfl
        rw [← hdb] at hor
        generalize (pst s i).getD (i / 2) 0 * 16 + dby (s.getD i 0) = r at *
        generalize (pst s i).getD (i / 2) 0 = x at *
        have HB2 := hide hB2
        have HOK := hide hok2
        have HZ := hide hZ
        have HF := hide hF
        have HDR := hide hdr
        have hnn : 0 ≤ dvl (s.getD i 0) := by omega
        clear hB hB2 hok hok2 hZ hF hdb hdr hbl
        generalize s.getD i 0 = c at *
        generalize dvl c = v at *
        generalize i / 2 = k at *
        go_wp2_with (go_at_call 52; refine (hidx _).mono ?_; rintro e w' ⟨rfl, rfl⟩)
        go_roundw
        case rel => exact ⟨i + 1, by omega, by go_num, unhide HOK, unhide HB2, (unhide HZ).setCell _ _ _, (unhide HF).setCell (fun h => absurd h (by simp)) _⟩
        case measure => simp [intOf]; omega
    · have him : i = m := by omega
      subst him
      have hm := unhide HM
      clear hmin
      have hgood := prs_good (by rw [← hm]; exact hok)
      have hone := bvs_oneA (List.replicate 32 0)
      have hth : wr.there w.heap.size 0 (bvs (List.replicate 32 0)).toArray.size := hZ.there
      have hres := hZ.putB (List.replicate 32 0) (by decide)
      have fin : Fr (fun _ => False) w (wr.setCells w.heap.size 0 (bvs (List.replicate 32 0))) := hF.trans (setCells_frame _ _ _ _) (fun i hi e => by omega)
      by_cases h1 : s.length < 64
      · rw [if_pos h1] at hgood
        have HG := hide hgood
        have HR := hide hres
        clear hgood hres hok hB hZ hF hm
        have h1' : (s.length : Int) < 64 := by omega
        clear h1
        go_wp2_with (refine wpList_store_mid0 rfl rfl 26 _ _ rfl w.heap.size 0 (bvs (List.replicate 32 0)).toArray rfl rfl hth Tryd.s26 hone ?_)
        refine bodyPost_ret (ret_agg2 rfl _ _ w.heap.size 0 _ _ rfl (bat_range (unhide HR)) Tryd.u26 rfl Tryd.s26) rfl ?_
        rw [unhide HG]
        exact ⟨rfl, fin⟩
      · rw [if_neg h1] at hgood
        by_cases h2 : 64 < s.length
        · rw [if_pos h2] at hgood
          have HG := hide hgood
          have HR := hide hres
          clear hgood hres hok hB hZ hF hm
          have h2' : (64 : Int) < (s.length : Int) := by omega
          have h1' : ((s.length : Int) < 64) = False := by simp; omega
          clear h1 h2
          go_wp2_with (refine wpList_store_mid0 rfl rfl 26 _ _ rfl w.heap.size 0 (bvs (List.replicate 32 0)).toArray rfl rfl hth Tryd.s26 hone ?_)
          refine bodyPost_ret (ret_agg2 rfl _ _ w.heap.size 0 _ _ rfl (bat_range (unhide HR)) Tryd.u26 rfl Tryd.s26) rfl ?_
          rw [unhide HG]
          exact ⟨rfl, fin⟩
        · rw [if_neg h2] at hgood
          have hi64 : i = 64 := by omega
          rw [hi64] at hB
          have hpl := pst_length s 64
          obtain ⟨D, hD⟩ : ∃ D, D = pst s 64 := ⟨_, rfl⟩
          rw [← hD] at hB hpl hgood
          have hrng := bat_range hB
          have hi : (Tryd.prog.info? 26).map (·.size) = some (bvs D).length := by rw [bvs_length, hpl]; exact Tryd.s26
          have hszD : (bvs D).toArray.size = 32 := by simpa [bvs_length] using hpl
          have hi2 : (Tryd.prog.info? 26).map (·.size) = some (bvs D).toArray.size := by rw [hszD]; exact Tryd.s26
          have honeD := bvs_oneA D
          have hthD : wr.there w.heap.size 0 (bvs D).toArray.size := by rw [hszD]; exact hZ.there
          have hresD := hZ.putB D hpl
          have finD : Fr (fun _ => False) w (wr.setCells w.heap.size 0 (bvs D)) := hF.trans (setCells_frame _ _ _ _) (fun i hi e => by omega)
          have HG := hide hgood
          have HR := hide hresD
          clear hgood hres hok hB hZ hF hm fin hth hone hD hszD hresD hpl
          have h1' : ((s.length : Int) < 64) = False := by simp; omega
          have h2' : ((64 : Int) < (s.length : Int)) = False := by simp; omega
          clear h1 h2
          go_wp2_with (first | refine wpList_load_mid rfl 26 _ rfl (w.heap.size + 1) 0 rfl (bvs D) _ hrng Tryd.u26 rfl hi ?_ | refine wpList_store_mid0 rfl rfl 26 _ _ rfl w.heap.size 0 (bvs D).toArray rfl rfl hthD hi2 honeD ?_)
          refine bodyPost_ret (ret_agg2 rfl _ _ w.heap.size 0 _ _ rfl (bat_range (unhide HR)) Tryd.u26 rfl hi) rfl ?_
          rw [unhide HG]
          exact ⟨rfl, finD⟩
end Go.Proofs.YtlicmlioilkfdaaDoor
