/-
  The walks of package rs: sums of shards, Encode; lists of lists in new memory.
-/
import Derived.Test.YtckmddkhkdcmmaaRs4
namespace Go.Proofs.Ytckmddkhkdcmmaa
open Go.RowKit
set_option linter.unusedVariables false

attribute [local go_sem ↓] Go.wp_at_zero Go.wp_at_succ

/-- The sum of the first k shards, each times its coefficient. -/
def mixL (r : Nat → UInt8) (ls : List (List UInt8)) (k n : Nat) : List UInt8 := (List.range n).map (fun t => sg k (fun j => mul (r j) (cel ls j t)))

theorem mixL_length (r : Nat → UInt8) (ls : List (List UInt8)) (k n : Nat) : (mixL r ls k n).length = n := by simp [mixL]
theorem mixL_get (r : Nat → UInt8) (ls : List (List UInt8)) (k n t : Nat) (h : t < (mixL r ls k n).length) : (mixL r ls k n)[t] = sg k (fun j => mul (r j) (cel ls j t)) := by simp [mixL]
theorem mixL_zero (r : Nat → UInt8) (ls : List (List UInt8)) (n : Nat) : mixL r ls 0 n = List.replicate n 0 := by
  apply List.ext_getElem
  · simp [mixL]
  · intro t h1 h2
    rw [mixL_get]
    simp [sg]

theorem mixL_step (r : Nat → UInt8) (ls : List (List UInt8)) (j n : Nat) (hj : j < ls.length) (hl : (ls[j]).length = n) : addt (r j) (mixL r ls j n) ls[j] = mixL r ls (j + 1) n := by
  apply List.ext_getElem
  · rw [addt_length _ _ _ (by rw [mixL_length, hl]), mixL_length, mixL_length]
  · intro t h1 h2
    have ht : t < n := by rwa [mixL_length] at h2
    have e : cel ls j t = (ls[j])[t]'(by omega) := by rw [cel_of hj, List.getElem?_eq_getElem (by omega)]; rfl
    simp only [addt, List.getElem_zipWith, mixL_get, sg, e]

theorem mixL_congr {r s : Nat → UInt8} {ls : List (List UInt8)} {k n : Nat} (h : ∀ j, j < k → r j = s j) : mixL r ls k n = mixL s ls k n := by
  unfold mixL
  refine List.map_congr_left (fun t _ => sg_congr (fun j hj => by rw [h j hj]))

theorem gt_of {l : List UInt8} {j : Nat} (h : j < l.length) : gt l j = l[j] := by
  unfold gt; rw [List.getElem?_eq_getElem h]; rfl

set_option maxHeartbeats 1000000 in
theorem sumOf_any (w : World) (rv v : Value) (rl : List UInt8) (ls : List (List UInt8)) (n : Nat) (hr : Rd w rv rl) (h : RdL w v ls) (hle : ls.length ≤ rl.length) (hrl : rl.length ≤ 100) (hw : ∀ l ∈ ls, l.length = n) (hn : n ≤ 4096) :
    Calls Try.prog 94 #[rv, v, .int .i64 (n : Int)] w fun e w' => e = .returned (.slice (some ⟨w.heap.size, 0, none⟩) n n) ∧ BAt w' w.heap.size (mixL (gt rl) ls ls.length n) ∧ Fr (fun _ => False) w w' := by
  obtain ⟨w1, hmk, hB1, hf1⟩ := mk_any w n (by omega)
  have HB1 := hide hB1
  have HF1 := hide hf1
  have HR := hide hr
  have HL := hide h
  have HW := hide hw
  obtain ⟨ro, rc, rfl⟩ := hr.shape
  obtain ⟨vo, vc, rfl⟩ := h.shape
  clear hB1 hf1 hr h hw
  go_enter Try.func94, Try.ntmps94
  go_wp2_with fail
  clear hmk
  go_loopw [14] (fun x w' => ∃ i : Nat, i ≤ ls.length ∧ x = .int .i64 (i : Int) ∧ BAt w' w.heap.size (mixL (gt rl) ls i n) ∧ Fr (fun _ => False) w w') (fun x _ => ls.length - (intOf x).toNat)
  case atStart => exact ⟨0, by omega, rfl, by rw [mixL_zero]; exact unhide HB1, unhide HF1⟩
  case round =>
    obtain ⟨i, hi, rfl, hB, hf⟩ := hrel
    by_cases hlt : i < ls.length
    · obtain ⟨b, o, xo, xc, rfl, c1, hx⟩ := ((unhide HL).kept hf).get i hlt
      obtain ⟨rb, ro', rfl, -, hrcap, hrcm, hcr⟩ := ((unhide HR).kept hf (fun _ _ h => h)).lits (by omega)
      have r1 := hcr i (by omega)
      have hlen : (ls[i]).length = n := unhide HW _ (List.getElem_mem _)
      have HA := hide (rsAddTimes_any wr w.heap.size _ rl[i] _ ls[i] hB hx (by rw [mixL_length]; exact hn) (by rw [mixL_length]; exact hlen))
      rw [mixL_length, ← gt_of (show i < rl.length by omega), mixL_step _ _ _ _ hlt hlen] at HA
      rw [← gt_of (show i < rl.length by omega)] at r1
      generalize gt rl i = ri at *
      have Hf := hide hf
      have hrc2 : i < rc := by omega
      clear hB hf hcr hx hrcm
      rw [hlen] at c1 HA
      clear hlen
      go_wp2_with fail
      refine (unhide HA).mono ?_
      rintro e w2 ⟨rfl, hB2, f2⟩
      have HB2 := hide hB2
      have F2 := hide f2
      clear hB2 f2
      go_wp2_with fail
      go_roundw
      case rel => exact ⟨i + 1, by omega, by go_num, unhide HB2, (unhide Hf).trans (unhide F2) (fun b hb h => by omega)⟩
      case measure => simp [intOf]; omega
    · have hie : i = ls.length := by omega
      subst hie
      have HB := hide hB
      have Hf := hide hf
      clear hB hf
      go_wp2_with fail
      go_ret
      exact ⟨rfl, unhide HB, unhide Hf⟩

/-- A block of elements of this type. -/
def TyAt (w : World) (b t : Nat) : Prop := ∃ cs, w.heap[b]? = some (.cells cs t (0, 0))

theorem TyAt.kept {w w' : World} {b t : Nat} (h : TyAt w b t) (f : Fr (fun _ => False) w w') : TyAt w' b t := by
  obtain ⟨cs, h⟩ := h
  exact ⟨cs, by rw [f.block b (lt_of_heap h) id]; exact h⟩

theorem TyAt.ne {w : World} {b c s t : Nat} (h : TyAt w b s) (k : TyAt w c t) (hst : s ≠ t) : b ≠ c := by
  obtain ⟨cs, h⟩ := h
  obtain ⟨ds, k⟩ := k
  rintro rfl
  rw [h] at k
  simp at k
  exact hst k.2

theorem TyAt.setCell {w : World} {b t : Nat} (h : TyAt w b t) (g i : Nat) (u : Value) : TyAt (w.setCell ⟨g, i, none⟩ u) b t := by
  obtain ⟨cs, h⟩ := h
  by_cases e : b = g
  · subst e
    exact ⟨_, heap_setCell_same w b i cs t u h⟩
  · exact ⟨cs, by rw [Below.heap_setCell _ _ _ _ e]; exact h⟩

/-- A slice of bytes in new memory, which may be written. -/
def Wb (N : Nat) (w : World) (x : Value) : Prop := ∀ b, x.ownBlock = some b → N ≤ b ∧ TyAt w b 5

theorem Wb.kept {N : Nat} {w w' : World} {x : Value} (h : Wb N w x) (f : Fr (fun _ => False) w w') : Wb N w' x := fun b hb => ⟨(h b hb).1, (h b hb).2.kept f⟩
theorem Wb.mono {N M : Nat} {w : World} {x : Value} (h : Wb N w x) (hm : M ≤ N) : Wb M w x := fun b hb => ⟨Nat.le_trans hm (h b hb).1, (h b hb).2⟩
theorem Wb.of_bat {N : Nat} {w : World} {b n c : Nat} {l : List UInt8} (h : BAt w b l) (hb : N ≤ b) : Wb N w (.slice (some ⟨b, 0, none⟩) n c) := by
  intro k hk
  simp [Value.ownBlock] at hk
  subst hk
  exact ⟨hb, _, h⟩

/-- A list of lists of bytes, all in new memory. -/
def LN (N : Nat) (w : World) (v : Value) (ls : List (List UInt8)) : Prop := ∃ vs : List Value, RdV w v vs ∧ vs.length = ls.length ∧ (∀ (i : Nat) (x : Value) (l : List UInt8), vs[i]? = some x → ls[i]? = some l → Rd w x l ∧ Wb N w x) ∧ ∀ b, v.ownBlock = some b → N ≤ b ∧ TyAt w b 22

theorem LN.rdl {N : Nat} {w : World} {v : Value} {ls : List (List UInt8)} (h : LN N w v ls) : RdL w v ls := by
  obtain ⟨vs, h1, h2, h3, -⟩ := h
  exact ⟨vs, h1, h2, fun i x l hx hl => (h3 i x l hx hl).1⟩

theorem LN.kept {N : Nat} {w w' : World} {v : Value} {ls : List (List UInt8)} (h : LN N w v ls) (f : Fr (fun _ => False) w w') : LN N w' v ls := by
  obtain ⟨vs, h1, h2, h3, h4⟩ := h
  exact ⟨vs, h1.kept f (fun _ _ h => h), h2, fun i x l hx hl => ⟨(h3 i x l hx hl).1.kept f (fun _ _ h => h), (h3 i x l hx hl).2.kept f⟩, fun b hb => ⟨(h4 b hb).1, (h4 b hb).2.kept f⟩⟩

theorem LN.mono {N M : Nat} {w : World} {v : Value} {ls : List (List UInt8)} (h : LN N w v ls) (hm : M ≤ N) : LN M w v ls := by
  obtain ⟨vs, h1, h2, h3, h4⟩ := h
  exact ⟨vs, h1, h2, fun i x l hx hl => ⟨(h3 i x l hx hl).1, (h3 i x l hx hl).2.mono hm⟩, fun b hb => ⟨Nat.le_trans hm (h4 b hb).1, (h4 b hb).2⟩⟩

theorem LN.nil (N : Nat) (w : World) : LN N w (.slice none 0 0) [] := ⟨[], .inl ⟨rfl, rfl⟩, rfl, fun i x l hx hl => by simp at hx, fun b hb => by simp [Value.ownBlock] at hb⟩

/-- A list under way in a block that was made: the first ones are laid. -/
structure PL (N : Nat) (w : World) (g m : Nat) (vs : List Value) (ls : List (List UInt8)) : Prop where
  heap : w.heap[g]? = some (.cells (vs ++ List.replicate (m - vs.length) (Value.slice none 0 0)).toArray 22 (0, 0))
  le : vs.length ≤ m
  len : vs.length = ls.length
  row : ∀ (i : Nat) (x : Value) (l : List UInt8), vs[i]? = some x → ls[i]? = some l → Rd w x l ∧ Wb N w x

theorem PL.kept {N : Nat} {w w' : World} {g m : Nat} {vs : List Value} {ls : List (List UInt8)} (h : PL N w g m vs ls) (f : Fr (fun _ => False) w w') : PL N w' g m vs ls :=
  ⟨by rw [f.block g (lt_of_heap h.heap) id]; exact h.heap, h.le, h.len, fun i x l hx hl => ⟨(h.row i x l hx hl).1.kept f (fun _ _ h => h), (h.row i x l hx hl).2.kept f⟩⟩

theorem PL.put {N : Nat} {w : World} {g m : Nat} {vs : List Value} {ls : List (List UInt8)} (h : PL N w g m vs ls) (hm : vs.length < m) (x : Value) (l : List UInt8) (hx : Rd w x l) (hb : Wb N w x) : PL N (w.setCell ⟨g, vs.length, none⟩ x) g m (vs ++ [x]) (ls ++ [l]) := by
  have hg : TyAt w g 22 := ⟨_, h.heap⟩
  have f : Fr (fun k => k = g) w (w.setCell ⟨g, vs.length, none⟩ x) := (Fr.refl (fun k => k = g) w).setCell (p := ⟨g, vs.length, none⟩) (fun _ => rfl) x
  have key : ∀ y l', Rd w y l' → Wb N w y → Rd (w.setCell ⟨g, vs.length, none⟩ x) y l' ∧ Wb N (w.setCell ⟨g, vs.length, none⟩ x) y := by
    intro y l' h1 h2
    refine ⟨h1.kept f (fun b hb' e => ?_), fun b hb' => ⟨(h2 b hb').1, (h2 b hb').2.setCell _ _ _⟩⟩
    exact TyAt.ne (h2 b hb').2 hg (by decide) e
  refine ⟨?_, by simp; omega, by simp [h.len], ?_⟩
  · have e := heap_setCell_same w g vs.length _ 22 x h.heap
    rw [e, List.setIfInBounds_toArray, List.set_append_right _ _ (Nat.le_refl _), Nat.sub_self, show m - vs.length = (m - (vs.length + 1)) + 1 by omega, List.replicate_succ, List.set_cons_zero]
    simp
  · intro i y l' hy hl'
    by_cases e : i < vs.length
    · rw [List.getElem?_append_left e] at hy
      rw [List.getElem?_append_left (by rw [← h.len]; exact e)] at hl'
      exact key y l' (h.row i y l' hy hl').1 (h.row i y l' hy hl').2
    · rw [List.getElem?_append_right (by omega)] at hy
      rw [List.getElem?_append_right (by rw [← h.len]; omega)] at hl'
      have hi := (List.getElem?_eq_some_iff.1 hy).1
      simp at hi
      have h0 : i - vs.length = 0 := by omega
      rw [h0] at hy
      rw [← h.len, h0] at hl'
      simp at hy hl'
      subst hy hl'
      exact key x l hx hb

theorem PL.done {N : Nat} {w : World} {g m : Nat} {vs : List Value} {ls : List (List UInt8)} (h : PL N w g m vs ls) (hm : vs.length = m) (hg : N ≤ g) (hml : m ≤ maxLen) : LN N w (.slice (some ⟨g, 0, none⟩) m m) ls := by
  subst hm
  refine ⟨vs, .inr ⟨⟨g, 0, none⟩, vs.length, rfl, Nat.le_refl _, hml, fun j hj => ?_⟩, h.len, h.row, fun b hb => ?_⟩
  · rw [Addr.add_lit, Nat.zero_add, cell_of_heap h.heap]
    simp [hj]
  · simp [Value.ownBlock] at hb
    subst hb
    exact ⟨hg, _, h.heap⟩

theorem PL.cell {N : Nat} {w : World} {g m : Nat} {vs : List Value} {ls : List (List UInt8)} (h : PL N w g m vs ls) (hm : vs.length < m) : w.cell? ⟨g, vs.length, none⟩ = some (.slice none 0 0) ∧ w.frozen? ⟨g, vs.length, none⟩ = false := by
  refine ⟨?_, frozen_of_heap h.heap _⟩
  rw [cell_of_heap h.heap, List.getElem?_toArray, List.getElem?_append_right (Nat.le_refl _), Nat.sub_self, List.getElem?_replicate, if_pos (by omega)]

/-- make([][]byte, n): the new world by a name of its own. -/
theorem mkl_any (N : Nat) (w : World) (n : Nat) (hn : n ≤ 100000) : ∃ w1, (Instr.makeSlice 65 (.int .i64 (n : Int)) (.int .i64 (n : Int))).run Try.prog w = .ok (.slice (some ⟨w.heap.size, 0, none⟩) n n) w1 ∧ PL N w1 w.heap.size n [] [] ∧ Fr (fun _ => False) w w1 :=
  ⟨_, run_make43 n (by omega) w, ⟨by simpa using heap_alloc_new w (Obj.cells (List.replicate n (Value.slice none 0 0)).toArray 22), Nat.zero_le _, rfl, fun i x l hx hl => by simp at hx⟩, (Fr.refl _ _).alloc _⟩

theorem encode_nil (w : World) (v : Value) (n c : Nat) (ao : Option Addr) (hv : v = .slice ao n c) : Calls Try.prog 45 #[.pointer none, v] w fun e w' => e = .returned (.tuple #[.slice none 0 0, .int .i64 7]) ∧ w = w' := by
  subst hv
  go_enter Try.func45, Try.ntmps45
  go_wp2
  go_ret2
  exact ⟨rfl, rfl⟩

/-- The parity shards. -/
def encL (k m : Nat) (ls : List (List UInt8)) (n : Nat) : List (List UInt8) := (List.range m).map (fun p => mixL (co k (k + p)) ls k n)
theorem encL_length (k m : Nat) (ls : List (List UInt8)) (n : Nat) : (encL k m ls n).length = m := by simp [encL]
theorem encL_take (k m : Nat) (ls : List (List UInt8)) (n i : Nat) (hi : i < m) : (encL k m ls n).take (i + 1) = (encL k m ls n).take i ++ [mixL (co k (k + i)) ls k n] := by
  rw [List.take_succ_eq_append_getElem (by rw [encL_length]; exact hi)]
  simp [encL]

theorem shl_ok {ls : List (List UInt8)} {c : Int} (h : (shl ls c).2 = 0) : (ls.length : Int) = c ∧ (∀ l ∈ ls, l.length = (shl ls c).1) ∧ (shl ls c).1 ≤ 4096 := by
  unfold shl at h ⊢
  unfold oneL at h ⊢
  by_cases h1 : (ls.length : Int) = c ∧ ∀ l ∈ ls, l.length = (ls.headD []).length
  · simp only [if_pos h1, if_true] at h ⊢
    by_cases h2 : (ls.headD []).length ≤ 4096
    · simp only [if_pos h2] at h ⊢
      exact ⟨h1.1, h1.2, h2⟩
    · simp only [if_neg h2] at h
      exact absurd h (by decide)
  · simp only [if_neg h1] at h
    exact absurd h (by decide)

set_option maxHeartbeats 1000000 in
theorem encode_no (w : World) (p k m : Nat) (v : Value) (ls : List (List UInt8)) (hC : CAt w p k m) (h : RdL w v ls) (hl : ls.length ≤ 100000) (he : (shl ls (k : Int)).2 ≠ 0) :
    Calls Try.prog 45 #[.pointer (some ⟨p, 0, none⟩), v] w fun e w' => e = .returned (.tuple #[.slice none 0 0, .int .i64 (shl ls (k : Int)).2]) ∧ w = w' := by
  obtain ⟨q, h1, -⟩ := hC.ex
  have c0 := cell_of_heap h1 0
  simp at c0
  have HS := hide (shardLength_any w v ls (k : Int) h hl)
  obtain ⟨vo, vc, rfl⟩ := h.shape
  clear hC h1 h
  generalize shl ls (k : Int) = r at *
  obtain ⟨n, e⟩ := r
  have b1 : (e != 0) = true := by simpa using he
  go_enter Try.func45, Try.ntmps45
  go_wp2_with fail
  refine (unhide HS).mono ?_
  rintro e w' ⟨rfl, rfl⟩
  go_wp2_with fail
  go_ret2
  exact ⟨rfl, rfl⟩

set_option maxHeartbeats 1000000 in
theorem encode_ok (w : World) (p k m : Nat) (v : Value) (ls : List (List UInt8)) (hC : CAt w p k m) (h : RdL w v ls) (he : (shl ls (k : Int)).2 = 0) :
    Calls Try.prog 45 #[.pointer (some ⟨p, 0, none⟩), v] w fun e w' => (∃ g, e = .returned (.tuple #[.slice (some ⟨g, 0, none⟩) m m, .int .i64 0]) ∧ LN w.heap.size w' (.slice (some ⟨g, 0, none⟩) m m) (encL k m ls (shl ls (k : Int)).1)) ∧ Fr (fun _ => False) w w' := by
  obtain ⟨hl1, hl2, hl3⟩ := shl_ok he
  have hl : ls.length = k := by omega
  have hk := hC.hk
  have hm := hC.hm
  obtain ⟨q, h1, -⟩ := hC.ex
  have c0 := cell_of_heap h1 0
  have c1 := cell_of_heap h1 1
  simp at c0 c1
  have HS := hide (shardLength_any w v ls (k : Int) h (by omega))
  rw [he] at HS
  generalize (shl ls (k : Int)).1 = n at *
  obtain ⟨w1, hmk, hP1, hf1⟩ := mkl_any w.heap.size w m (by omega)
  have HP1 := hide hP1
  have HF1 := hide hf1
  have HC := hide hC
  have HL := hide h
  have HW := hide hl2
  have HLE := hide hl
  have hplt := lt_of_heap h1
  obtain ⟨vo, vc, rfl⟩ := h.shape
  clear hC h1 h hP1 hf1 hl2 hl he hl1
  go_enter Try.func45, Try.ntmps45
  go_wp2_with fail
  refine (unhide HS).mono ?_
  rintro e w' ⟨rfl, rfl⟩
  go_wp2_with fail
  clear hmk
  go_loopw [31] (fun x w' => ∃ i : Nat, i ≤ m ∧ x = .int .i64 (i : Int) ∧ (∃ vs, vs.length = i ∧ PL w.heap.size w' w.heap.size m vs ((encL k m ls n).take i)) ∧ Fr (fun _ => False) w w') (fun x _ => m - (intOf x).toNat)
  case atStart => exact ⟨0, by omega, rfl, ⟨[], rfl, unhide HP1⟩, unhide HF1⟩
  case round =>
    obtain ⟨i, hi, rfl, ⟨vs, hvs, hP⟩, hf⟩ := hrel
    by_cases hlt : i < m
    · have hCr := (unhide HC).kept hf (fun _ _ h => h)
      have c0' : wr.cell? ⟨p, 0, none⟩ = some (.int .i64 (k : Int)) := by rw [hf.cell (a := ⟨p, 0, none⟩) hplt id]; exact c0
      obtain ⟨ki, hki⟩ : ∃ ki, ki = k + i := ⟨_, rfl⟩
      have HR := hide (row_any wr p k m ki hCr (by omega))
      have eI : (k : Int) + (i : Int) = (ki : Int) := by omega
      have HKI := hide hki
      have HP := hide hP
      have Hf := hide hf
      have HVS := hide hvs
      clear hCr hP hf hvs hki
      go_wp2_with fail
      refine (unhide HR).mono ?_
      rintro e w2 ⟨⟨q2, rfl, hR2, -⟩, f2⟩
      have F2 := (unhide Hf).trans f2 (fun _ _ h => h)
      have HSu := hide (sumOf_any w2 _ _ _ ls n hR2 ((unhide HL).kept F2) (by rw [rowL_length, unhide HLE]; omega) (by rw [rowL_length]; omega) (unhide HW) hl3)
      have HP2 := hide ((unhide HP).kept f2)
      have HF2 := hide F2
      clear hR2 f2 F2
      go_wp2_with fail
      refine (unhide HSu).mono ?_
      rintro e w3 ⟨rfl, hB3, f3⟩
      have F3 := (unhide HF2).trans f3 (fun _ _ h => h)
      have hP3 := (unhide HP2).kept f3
      have hc := hP3.cell (by rw [unhide HVS]; exact hlt)
      rw [unhide HVS] at hc
      have hsz := F3.size
      have hsz2 := (unhide HF2).size
      have hR3 := hB3.rd (by rw [mixL_length]; simp only [maxLen]; omega)
      rw [mixL_length] at hR3
      have hP4 := hP3.put (by rw [unhide HVS]; exact hlt) _ _ hR3 (Wb.of_bat hB3 hsz2)
      rw [unhide HVS] at hP4
      have e1 : mixL (gt (rowL k ki)) ls ls.length n = mixL (co k (k + i)) ls k n := by
        rw [unhide HLE, ← unhide HKI]
        exact mixL_congr (fun j hj => by rw [gt_of (by rw [rowL_length]; exact hj), rowL_get])
      rw [e1, ← encL_take k m ls n i hlt] at hP4
      have HP4 := hide hP4
      have HF3 := hide F3
      have hc1 := hc.1
      have hc2 := hc.2
      clear hP3 hc hR3 hP4 hB3 f3 F3
      go_wp2_with fail
      go_roundw
      case rel => exact ⟨i + 1, by omega, by go_num, ⟨_, by simp [unhide HVS], unhide HP4⟩, (unhide HF3).setCell (fun h => absurd h (by simp)) _⟩
      case measure => simp [intOf]; omega
    · have hie : i = m := by omega
      subst hie
      have HP := hide hP
      have Hf := hide hf
      have HVS := hide hvs
      clear hP hf hvs
      go_wp2_with fail
      go_ret2
      have := (unhide HP).done (unhide HVS) (Nat.le_refl _) (by simp only [maxLen]; omega)
      rw [List.take_of_length_le (by rw [encL_length]; omega)] at this
      exact ⟨⟨_, rfl, this⟩, unhide Hf⟩

end Go.Proofs.Ytckmddkhkdcmmaa
