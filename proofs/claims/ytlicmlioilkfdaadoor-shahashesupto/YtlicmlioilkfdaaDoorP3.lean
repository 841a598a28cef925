/-
  The walk of package sha's Load.
-/
import Derived.Test.YtlicmlioilkfdaaDoorP2
namespace Go.Proofs.YtlicmlioilkfdaaDoor
open Go.RowKit
set_option linter.unusedVariables false
set_option linter.unusedSimpArgs false

attribute [local go_sem ↓] Go.wp_at_zero Go.wp_at_succ

/-- copy into the middle of a row of any kind, or of nothing. -/
theorem wpList_copyG0 {w : World} {ops : Array Oper} {rest : List Oper} {o : Oper} {a : Act} {Q : Exit → Act → World → Prop} (hgd : o.guard = none) (s x : Operand)
    (ho : o.op = .call { callee := .builtin .copy, args := #[s, x], argTypes := #[22, 22] }) (hty : o.type = 3)
    (g off dLen dCap : Nat) (cur : List Value) (t : TypeId) (xv : Value) (q : List UInt8) (hs : a.eval s = .slice (some ⟨g, off, none⟩) dLen dCap) (hxv : a.eval x = xv) (hg : w.heap[g]? = some (.cells cur.toArray t (0, 0))) (hx : Rd w xv q) (hfit : off + dLen ≤ cur.length)
    (h : ∀ w', w'.heap[g]? = some (.cells (cur.take off ++ bvs (q.take dLen) ++ cur.drop (off + min q.length dLen)).toArray t (0, 0)) → Fr (fun b => b = g) w w' → wpList Tryd.prog ops Q rest (a.put o.dst (.int .i64 ((min q.length dLen : Nat) : Int))) w') : wpList Tryd.prog ops Q (o :: rest) a w := by
  by_cases hq : 0 < min q.length dLen
  · exact wpList_copyG hgd s x ho hty g off dLen dCap cur t xv q hs hxv hg hx hq hfit h
  · have he : min q.length dLen = 0 := by omega
    have h0 : q.take dLen = [] := by
      apply List.eq_nil_of_length_eq_zero
      rw [List.length_take]; omega
    have h2 := h w (by rw [he, h0]; simp [bvs, hg]) (Fr.refl _ _)
    obtain ⟨ao, cap, rfl⟩ := hx.shape
    have := run_copy_none (P := Tryd.prog) w 22 22 3 5 (some ⟨g, off, none⟩) ao dLen dCap q.length cap Tryd.underlying22 (by kernel_rfl) he
    refine wpList_plain hgd fun _ hK => ?_
    unfold Oper.wp execOp
    simp only [ho, hty, resolve, invoke, builtin, Sem.run_bind, Sem.run_pure, Result.andThen_ok, List.map_toArray, List.map_cons, List.map_nil, hs, hxv, this]
    rw [he] at h2
    exact hK _ _ h2

/-- A state with one word laid. -/
def St.put (s : St) (j : Nat) (x : Wd) : St := match j with
  | 0 => { s with a := x } | 1 => { s with b := x } | 2 => { s with c := x } | 3 => { s with d := x }
  | 4 => { s with e := x } | 5 => { s with f := x } | 6 => { s with g := x } | _ => { s with h := x }

theorem St.put_l (s : St) (x : Wd) : ∀ j, j < 8 → (s.put j x).l = s.l.set j x := by
  intro j hj
  rcases j with _ | _ | _ | _ | _ | _ | _ | _ | j
  all_goals first | rfl | omega

theorem HAt.setW {w : World} {p : Nat} {s : St} {n : Nat} {pc : List UInt8} (h : HAt w p s n pc) (j : Nat) (x : Wd) (hj : j < 8) : HAt (w.setCell ⟨p, j, none⟩ (.int .u32 (N x))) p (s.put j x) n pc := by
  refine ⟨?_, h.len, h.fit⟩
  rw [heap_setCell_same w p j _ 79 _ h.heap, List.setIfInBounds_toArray]
  have : (hcs s n pc).set j (.int .u32 (N x)) = hcs (s.put j x) n pc := by
    unfold hcs
    rw [List.set_append_left _ _ (by rw [wvs_length]; exact hj), St.put_l s x j hj]
    simp [wvs, List.map_set]
  rw [this]

def sz : St := ⟨0, 0, 0, 0, 0, 0, 0, 0⟩
/-- The first words of saved bytes, laid into a state. -/
def ldU (L : List UInt8) : Nat → St
  | 0 => sz
  | i + 1 => (ldU L i).put i (wdAt L i)
/-- The state, the length of saved bytes. -/
def ldS (L : List UInt8) : St := ldU L 8
def ldN (L : List UInt8) : Nat := ln8 (wdAt (L.drop 32) 0) (wdAt (L.drop 32) 1)
def ldOk (L : List UInt8) : Prop := 40 ≤ L.length ∧ L.length - 40 = ldN L % 64

theorem ld_cells : Tryd.zeroCells79 = (hcs sz 0 (List.replicate 64 0)).toArray := by kernel_rfl
theorem ld_cells2 (n : Nat) : Tryd.zeroCells79.setIfInBounds 8 (.int .u64 ((n : Nat) : Int)) = (hcs sz n (List.replicate 64 0)).toArray := by
  rw [ld_cells, List.setIfInBounds_toArray]
  rfl

set_option maxHeartbeats 1000000 in
set_option maxRecDepth 100000 in
theorem load_any (w : World) (v : Value) (L : List UInt8) (hv : Rd w v L) :
    Calls Tryd.prog 24 #[v] w fun e w' => Fr (fun _ => False) w w' ∧ ((ldOk L ∧ ∃ g, w.heap.size ≤ g ∧ e = .returned (.tuple #[.pointer (some ⟨g, 0, none⟩), .int .i64 0]) ∧ HH w' g (ldS L) (ldN L) (L.drop 40)) ∨ (¬ ldOk L ∧ e = .returned (.tuple #[.pointer none, .int .i64 51]))) := by
  obtain ⟨ao, cap, rfl⟩ := hv.shape
  by_cases h40 : L.length < 40
  · have hno : ¬ ldOk L := fun h => by have := h.1; omega
    have HNO := hide hno
    have i1 : ((L.length : Nat) : Int) < 40 := by omega
    clear hno hv
    go_enter Tryd.func24, Tryd.ntmps24
    go_wp2_with fail
    go_ret2
    exact ⟨Fr.refl _ _, .inr ⟨unhide HNO, rfl⟩⟩
  · obtain ⟨b, o, rfl, -, hnc, hcm, hcell⟩ := hv.lits (by omega)
    have hb : b < w.heap.size := World.block_lt_of_cell? w _ (hcell 0 (by omega))
    have hcell2 : ∀ j, j < L.length → w.cell? ⟨b, o + j, none⟩ = some (.int .u8 ((((L.getD j 0).toNat : Nat)) : Int)) := fun j hj => by
      rw [hcell j hj]; simp [hj]
    have hlong := long_any w b (o + 32) (L.length - 32) (cap - 32) (L.drop 32) (by omega) (by omega) (fun j hj => by
      rw [show o + 32 + j = o + (32 + j) by omega, hcell2 (32 + j) (by omega)]
      simp [List.getD])
    have hfit := ln8_lt (wdAt (L.drop 32) 0) (wdAt (L.drop 32) 1)
    have hN : ln8 (wdAt (L.drop 32) 0) (wdAt (L.drop 32) 1) = ldN L := rfl
    rw [hN] at hfit hlong
    obtain ⟨n, hn⟩ : ∃ n, n = ldN L := ⟨_, rfl⟩
    rw [← hn] at hfit hlong
    have HN := hide hn
    have HLONG := hide hlong
    have HV := hide hv
    have HC := hide hcell2
    clear hn hN hlong hv hcell hcell2
    have i1 : ¬ ((L.length : Nat) : Int) < 40 := by omega
    have i2 : (32 : Int) ≤ ((L.length : Nat) : Int) := by omega
    have i3 : (cap = 32) = False := by simp; omega
    go_enter Tryd.func24, Tryd.ntmps24
    go_wp2_with (go_at_call 49; refine (unhide HLONG).mono ?_; rintro e w' ⟨rfl, nk, rfl⟩)
    refine wpC_world ?_
    intro w1 hw1
    have f1 : Fr (fun _ => False) w w1 := by rw [hw1]; exact (frD w nk (fun _ => False)).trans ((Fr.refl _ _).alloc _) (fun _ _ h => h)
    have hH1 : HAt w1 w.heap.size sz n (List.replicate 64 0) := by
      refine ⟨?_, by simp, hfit⟩
      rw [hw1, ld_cells2]
      exact heap_alloc_new (w.drewN nk) _
    have F1 := hide f1
    have HH1 := hide hH1
    have hs1 := hH1.lt
    clear hw1 f1 hH1
    refine (left_any w1 _ _ _ _ (unhide HH1)).mono ?_
    rintro e w1' ⟨rfl, rfl⟩
    by_cases hE : L.length - 40 = n % 64
    · have hok : ldOk L := ⟨by omega, by rw [← unhide HN]; exact hE⟩
      have HOK := hide hok
      have i4 : ((L.length : Nat) : Int) - 40 = ((n % 64 : Nat) : Int) := by omega
      have hk : n % 64 < 64 := Nat.mod_lt _ (by decide)
      generalize hkk : n % 64 = k at *
      have HKK := hide hkk
      have HE := hide hE
      have i5 : wrap64 ((k : Nat) : Int) = (k : Int) := by unfold wrap64; omega
      clear hok hkk hE
      go_wp2_with fail
      go_loopw [20] (fun x w' => ∃ i : Nat, i ≤ 8 ∧ x = .int .i64 (i : Int) ∧ HAt w' w.heap.size (ldU L i) n (List.replicate 64 0) ∧ Fr (fun _ => False) w w') (fun x _ => 8 - (intOf x).toNat)
      case atStart => exact ⟨0, by omega, rfl, unhide HH1, unhide F1⟩
      case round =>
        obtain ⟨i, hi, rfl, hH, hf⟩ := hrel
        by_cases hlt : i < 8
        · have hc := fun j hj => (hf.cell (a := ⟨b, o + j, none⟩) hb id).trans (unhide HC j hj)
          have hw := fun m => word_at (wr.drewN m) b (o + 4 * i) (L.length - 4 * i) (cap - 4 * i) _ _ _ _ (by omega) (hc (4 * i) (by omega)) (hc (4 * i + 1) (by omega)) (hc (4 * i + 2) (by omega)) (hc (4 * i + 3) (by omega))
          have hW : ∀ m, Calls Tryd.prog 50 #[.slice (some ⟨b, o + 4 * i, none⟩) (L.length - 4 * i) (cap - 4 * i)] (wr.drewN m) fun e w'' => e = .returned (.int .u32 (N (wdAt L i))) ∧ ∃ m, w'' = wr.drewN m := fun m => (hw m).mono (by
            rintro e w' ⟨rfl, k, rfl⟩
            exact ⟨rfl, m + k, by simp⟩)
          have hcx := hH.word i hlt
          have hz := hH.frozen i
          have HW := hide hW
          have HHH := hide hH
          have HF := hide hf
          clear hc hw hH hf
          have b1 : (0 : Int) ≤ 4 * (i : Int) := by omega
          have b2 : 4 * (i : Int) ≤ ((L.length : Nat) : Int) := by omega
          have b3 : (4 * (i : Int)).toNat = 4 * i := by omega
          have b4 : (cap = 4 * i) = False := by simp; omega
          have b5 : (i : Int) < 8 := by omega
          go_wp2_with fail
          refine wp_region_quietTail 10 (by kernel_rfl) (by kernel_rfl) ?_
          simp only [List.take_succ_cons, List.take_zero]
          repeat (go_big_quiet_step (exact hW _))
          refine wpQuiet_nil ?_
          intro _ hw'
          obtain ⟨nq, hw''⟩ := hw'
          subst hw''
          simp only [List.drop_succ_cons, List.drop_zero]
          go_wp2_with fail
          go_roundw
          case rel =>
            refine ⟨i + 1, by omega, by go_num, ((unhide HHH).kept (frD wr nq (fun _ => False)) id).setW i _ hlt, ((unhide HF).drewN nq).setCell (fun h => absurd h (by simp)) _⟩
          case measure => simp [intOf]; omega
        · have : i = 8 := by omega
          subst this
          have hq := ((unhide HV).kept hf (fun _ _ h => h)).dropN (k := 40) (by omega)
          have hH0 := hH.heap
          have HHH := hide hH
          have HF := hide hf
          have HQ := hide hq
          have HH0 := hide hH0
          clear hH hf hq hH0
          have b2 : (40 : Int) ≤ ((L.length : Nat) : Int) := by omega
          go_wp2_with fail
          refine wp_region_quietTail 6 (by kernel_rfl) (by kernel_rfl) ?_
          simp only [List.take_succ_cons, List.take_zero]
          repeat (go_big_quiet_step (fail))
          refine wpQuiet_nil ?_
          intro _ hw'
          obtain ⟨nq, hw''⟩ := hw'
          subst hw''
          simp only [List.drop_succ_cons, List.drop_zero]
          refine wpList_copyG0 rfl _ _ rfl rfl w.heap.size 9 64 64 (hcs (ldU L 8) n (List.replicate 64 0)) 79 _ (L.drop 40) rfl rfl (by exact unhide HH0) (by exact (unhide HQ).kept (frD wr nq (fun _ => False)) (fun _ _ h => h)) (by rw [hcs_length]; simp) ?_
          intro w3 h3 f3
          have hE := unhide HE
          have hll : (L.drop 40).length = k := by rw [List.length_drop]; exact hE
          have e1 : (L.drop 40).take 64 = L.drop 40 := List.take_of_length_le (by omega)
          have e2 : min (L.drop 40).length 64 = (L.drop 40).length := by omega
          have hput := hcs_put (ldU L 8) n (List.replicate 64 0) 0 (L.drop 40) (by simp; omega)
          rw [e1, e2] at h3
          rw [Nat.add_zero] at hput
          rw [hput] at h3
          have hH3 : HAt w3 w.heap.size (ldU L 8) n ((List.replicate 64 0).take 0 ++ L.drop 40 ++ (List.replicate 64 0).drop (0 + (L.drop 40).length)) := ⟨h3, by simp; omega, hfit⟩
          have hHH : HH w3 w.heap.size (ldS L) (ldN L) (L.drop 40) := by
            rw [← unhide HN]
            refine ⟨_, hH3, ?_⟩
            rw [unhide HKK, List.take_zero, List.nil_append, List.take_append_of_le_length (by omega), List.take_of_length_le (by omega)]
          have F3 : Hid (Fr (fun _ => False) w w3) := hide (((unhide HF).drewN nq).trans f3 (fun i hi e => by omega))
          have H3 := hide hHH
          clear h3 f3 hput hH3 hHH hll e1 e2
          go_wp2_with fail
          all_goals go_ret2
          all_goals exact ⟨unhide F3, .inl ⟨unhide HOK, _, Nat.le_refl _, rfl, unhide H3⟩⟩
    · have hno : ¬ ldOk L := fun h => hE (by rw [unhide HN]; exact h.2)
      have HNO := hide hno
      have i4 : ¬ ((L.length : Nat) : Int) - 40 = ((n % 64 : Nat) : Int) := by omega
      have i5 : wrap64 (((L.length : Nat) : Int) - 40) = ((L.length : Nat) : Int) - 40 := by simp only [maxLen] at hcm; unfold wrap64; omega
      generalize n % 64 = k at *
      clear hno hE
      go_wp2_with fail
      go_ret2
      exact ⟨unhide F1, .inr ⟨unhide HNO, rfl⟩⟩
end Go.Proofs.YtlicmlioilkfdaaDoor
