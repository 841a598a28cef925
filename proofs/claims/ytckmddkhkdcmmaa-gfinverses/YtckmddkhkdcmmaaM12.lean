/-
  The walks of package rs: sums of shards, Encode; lists of lists in new memory.
  The walks of package rs: the shards at hand.
  The walks of package rs: the rows of some shards.
-/
import Derived.Test.YtckmddkhkdcmmaaM11
namespace Go.Proofs.Ytckmddkhkdcmmaa
set_option linter.unusedVariables false
set_option linter.unusedSimpArgs false
open Go.RowKit
set_option linter.unusedVariables false

attribute [local go_sem ↓] Go.wp_at_zero Go.wp_at_succ

/-- The sum of the first k shards, each times its coefficient. -/
def mixL (r : Nat → UInt8) (ls : List (List UInt8)) (k n : Nat) : List UInt8 := (List.range n).map (fun t => sg k (fun j => mul (r j) (cel ls j t)))

theorem mixL_length (r : Nat → UInt8) (ls : List (List UInt8)) (k n : Nat) : (mixL r ls k n).length = n := by simp [mixL]
theorem mixL_get (r : Nat → UInt8) (ls : List (List UInt8)) (k n t : Nat) (h : t < (mixL r ls k n).length) : (mixL r ls k n)[t] = sg k (fun j => mul (r j) (cel ls j t)) := by simp [mixL]
theorem mixL_zero (r : Nat → UInt8) (ls : List (List UInt8)) (n : Nat) : mixL r ls 0 n = List.replicate n 0 := by
  apply List.ext_getElem
  · simp [mixL]
  · intro t h1 h2
    rw [mixL_get]
    simp [sg]

theorem mixL_step (r : Nat → UInt8) (ls : List (List UInt8)) (j n : Nat) (hj : j < ls.length) (hl : (ls[j]).length = n) : addt (r j) (mixL r ls j n) ls[j] = mixL r ls (j + 1) n := by
  apply List.ext_getElem
  · rw [addt_length _ _ _ (by rw [mixL_length, hl]), mixL_length, mixL_length]
  · intro t h1 h2
    have ht : t < n := by rwa [mixL_length] at h2
    have e : cel ls j t = (ls[j])[t]'(by omega) := by rw [cel_of hj, List.getElem?_eq_getElem (by omega)]; rfl
    simp only [addt, List.getElem_zipWith, mixL_get, sg, e]

theorem mixL_congr {r s : Nat → UInt8} {ls : List (List UInt8)} {k n : Nat} (h : ∀ j, j < k → r j = s j) : mixL r ls k n = mixL s ls k n := by
  unfold mixL
  refine List.map_congr_left (fun t _ => sg_congr (fun j hj => by rw [h j hj]))

theorem gt_of {l : List UInt8} {j : Nat} (h : j < l.length) : gt l j = l[j] := by
  unfold gt; rw [List.getElem?_eq_getElem h]; rfl

set_option maxHeartbeats 1000000 in
theorem sumOf_any (w : World) (rv v : Value) (rl : List UInt8) (ls : List (List UInt8)) (n : Nat) (hr : Rd w rv rl) (h : RdL w v ls) (hle : ls.length ≤ rl.length) (hrl : rl.length ≤ 100) (hw : ∀ l ∈ ls, l.length = n) (hn : n ≤ 4096) :
    Calls Try.prog 94 #[rv, v, .int .i64 (n : Int)] w fun e w' => e = .returned (.slice (some ⟨w.heap.size, 0, none⟩) n n) ∧ BAt w' w.heap.size (mixL (gt rl) ls ls.length n) ∧ Fr (fun _ => False) w w' := by
  obtain ⟨w1, hmk, hB1, hf1⟩ := mk_any w n (by omega)
  have HB1 := hide hB1
  have HF1 := hide hf1
  have HR := hide hr
  have HL := hide h
  have HW := hide hw
  obtain ⟨ro, rc, rfl⟩ := hr.shape
  obtain ⟨vo, vc, rfl⟩ := h.shape
  clear hB1 hf1 hr h hw
  go_enter Try.func94, Try.ntmps94
  go_wp2_with fail
  clear hmk
  go_loopw [14] (fun x w' => ∃ i : Nat, i ≤ ls.length ∧ x = .int .i64 (i : Int) ∧ BAt w' w.heap.size (mixL (gt rl) ls i n) ∧ Fr (fun _ => False) w w') (fun x _ => ls.length - (intOf x).toNat)
  case atStart => exact ⟨0, by omega, rfl, by rw [mixL_zero]; exact unhide HB1, unhide HF1⟩
  case round =>
    obtain ⟨i, hi, rfl, hB, hf⟩ := hrel
    by_cases hlt : i < ls.length
    · obtain ⟨b, o, xo, xc, rfl, c1, hx⟩ := ((unhide HL).kept hf).get i hlt
      obtain ⟨rb, ro', rfl, -, hrcap, hrcm, hcr⟩ := ((unhide HR).kept hf (fun _ _ h => h)).lits (by omega)
      have r1 := hcr i (by omega)
      have hlen : (ls[i]).length = n := unhide HW _ (List.getElem_mem _)
      have HA := hide (rsAddTimes_any wr w.heap.size _ rl[i] _ ls[i] hB hx (by rw [mixL_length]; exact hn) (by rw [mixL_length]; exact hlen))
      rw [mixL_length, ← gt_of (show i < rl.length by omega), mixL_step _ _ _ _ hlt hlen] at HA
      rw [← gt_of (show i < rl.length by omega)] at r1
      generalize gt rl i = ri at *
      have Hf := hide hf
      have hrc2 : i < rc := by omega
      clear hB hf hcr hx hrcm
      rw [hlen] at c1 HA
      clear hlen
      go_wp2_with fail
      refine (unhide HA).mono ?_
      rintro e w2 ⟨rfl, hB2, f2⟩
      have HB2 := hide hB2
      have F2 := hide f2
      clear hB2 f2
      go_wp2_with fail
      go_roundw
      case rel => exact ⟨i + 1, by omega, by go_num, unhide HB2, (unhide Hf).trans (unhide F2) (fun b hb h => by omega)⟩
      case measure => simp [intOf]; omega
    · have hie : i = ls.length := by omega
      subst hie
      have HB := hide hB
      have Hf := hide hf
      clear hB hf
      go_wp2_with fail
      go_ret
      exact ⟨rfl, unhide HB, unhide Hf⟩

/-- A block of elements of this type. -/
def TyAt (w : World) (b t : Nat) : Prop := ∃ cs, w.heap[b]? = some (.cells cs t (0, 0))

theorem TyAt.kept {w w' : World} {b t : Nat} (h : TyAt w b t) (f : Fr (fun _ => False) w w') : TyAt w' b t := by
  obtain ⟨cs, h⟩ := h
  exact ⟨cs, by rw [f.block b (lt_of_heap h) id]; exact h⟩

theorem TyAt.ne {w : World} {b c s t : Nat} (h : TyAt w b s) (k : TyAt w c t) (hst : s ≠ t) : b ≠ c := by
  obtain ⟨cs, h⟩ := h
  obtain ⟨ds, k⟩ := k
  rintro rfl
  rw [h] at k
  simp at k
  exact hst k.2

theorem TyAt.setCell {w : World} {b t : Nat} (h : TyAt w b t) (g i : Nat) (u : Value) : TyAt (w.setCell ⟨g, i, none⟩ u) b t := by
  obtain ⟨cs, h⟩ := h
  by_cases e : b = g
  · subst e
    exact ⟨_, heap_setCell_same w b i cs t u h⟩
  · exact ⟨cs, by rw [Below.heap_setCell _ _ _ _ e]; exact h⟩

/-- A slice of bytes in new memory, which may be written. -/
def Wb (N : Nat) (w : World) (x : Value) : Prop := ∀ b, x.ownBlock = some b → N ≤ b ∧ TyAt w b 5

theorem Wb.kept {N : Nat} {w w' : World} {x : Value} (h : Wb N w x) (f : Fr (fun _ => False) w w') : Wb N w' x := fun b hb => ⟨(h b hb).1, (h b hb).2.kept f⟩
theorem Wb.mono {N M : Nat} {w : World} {x : Value} (h : Wb N w x) (hm : M ≤ N) : Wb M w x := fun b hb => ⟨Nat.le_trans hm (h b hb).1, (h b hb).2⟩
theorem Wb.of_bat {N : Nat} {w : World} {b n c : Nat} {l : List UInt8} (h : BAt w b l) (hb : N ≤ b) : Wb N w (.slice (some ⟨b, 0, none⟩) n c) := by
  intro k hk
  simp [Value.ownBlock] at hk
  subst hk
  exact ⟨hb, _, h⟩

/-- A list of lists of bytes, all in new memory. -/
def LN (N : Nat) (w : World) (v : Value) (ls : List (List UInt8)) : Prop := ∃ vs : List Value, RdV w v vs ∧ vs.length = ls.length ∧ (∀ (i : Nat) (x : Value) (l : List UInt8), vs[i]? = some x → ls[i]? = some l → Rd w x l ∧ Wb N w x) ∧ ∀ b, v.ownBlock = some b → N ≤ b ∧ TyAt w b 22

theorem LN.rdl {N : Nat} {w : World} {v : Value} {ls : List (List UInt8)} (h : LN N w v ls) : RdL w v ls := by
  obtain ⟨vs, h1, h2, h3, -⟩ := h
  exact ⟨vs, h1, h2, fun i x l hx hl => (h3 i x l hx hl).1⟩

theorem LN.kept {N : Nat} {w w' : World} {v : Value} {ls : List (List UInt8)} (h : LN N w v ls) (f : Fr (fun _ => False) w w') : LN N w' v ls := by
  obtain ⟨vs, h1, h2, h3, h4⟩ := h
  exact ⟨vs, h1.kept f (fun _ _ h => h), h2, fun i x l hx hl => ⟨(h3 i x l hx hl).1.kept f (fun _ _ h => h), (h3 i x l hx hl).2.kept f⟩, fun b hb => ⟨(h4 b hb).1, (h4 b hb).2.kept f⟩⟩

theorem LN.mono {N M : Nat} {w : World} {v : Value} {ls : List (List UInt8)} (h : LN N w v ls) (hm : M ≤ N) : LN M w v ls := by
  obtain ⟨vs, h1, h2, h3, h4⟩ := h
  exact ⟨vs, h1, h2, fun i x l hx hl => ⟨(h3 i x l hx hl).1, (h3 i x l hx hl).2.mono hm⟩, fun b hb => ⟨Nat.le_trans hm (h4 b hb).1, (h4 b hb).2⟩⟩

theorem LN.nil (N : Nat) (w : World) : LN N w (.slice none 0 0) [] := ⟨[], .inl ⟨rfl, rfl⟩, rfl, fun i x l hx hl => by simp at hx, fun b hb => by simp [Value.ownBlock] at hb⟩

/-- A list under way in a block that was made: the first ones are laid. -/
structure PL (N : Nat) (w : World) (g m : Nat) (vs : List Value) (ls : List (List UInt8)) : Prop where
  heap : w.heap[g]? = some (.cells (vs ++ List.replicate (m - vs.length) (Value.slice none 0 0)).toArray 22 (0, 0))
  le : vs.length ≤ m
  len : vs.length = ls.length
  row : ∀ (i : Nat) (x : Value) (l : List UInt8), vs[i]? = some x → ls[i]? = some l → Rd w x l ∧ Wb N w x

theorem PL.kept {N : Nat} {w w' : World} {g m : Nat} {vs : List Value} {ls : List (List UInt8)} (h : PL N w g m vs ls) (f : Fr (fun _ => False) w w') : PL N w' g m vs ls :=
  ⟨by rw [f.block g (lt_of_heap h.heap) id]; exact h.heap, h.le, h.len, fun i x l hx hl => ⟨(h.row i x l hx hl).1.kept f (fun _ _ h => h), (h.row i x l hx hl).2.kept f⟩⟩

theorem PL.put {N : Nat} {w : World} {g m : Nat} {vs : List Value} {ls : List (List UInt8)} (h : PL N w g m vs ls) (hm : vs.length < m) (x : Value) (l : List UInt8) (hx : Rd w x l) (hb : Wb N w x) : PL N (w.setCell ⟨g, vs.length, none⟩ x) g m (vs ++ [x]) (ls ++ [l]) := by
  have hg : TyAt w g 22 := ⟨_, h.heap⟩
  have f : Fr (fun k => k = g) w (w.setCell ⟨g, vs.length, none⟩ x) := (Fr.refl (fun k => k = g) w).setCell (p := ⟨g, vs.length, none⟩) (fun _ => rfl) x
  have key : ∀ y l', Rd w y l' → Wb N w y → Rd (w.setCell ⟨g, vs.length, none⟩ x) y l' ∧ Wb N (w.setCell ⟨g, vs.length, none⟩ x) y := by
    intro y l' h1 h2
    refine ⟨h1.kept f (fun b hb' e => ?_), fun b hb' => ⟨(h2 b hb').1, (h2 b hb').2.setCell _ _ _⟩⟩
    exact TyAt.ne (h2 b hb').2 hg (by decide) e
  refine ⟨?_, by simp; omega, by simp [h.len], ?_⟩
  · have e := heap_setCell_same w g vs.length _ 22 x h.heap
    rw [e, List.setIfInBounds_toArray, List.set_append_right _ _ (Nat.le_refl _), Nat.sub_self, show m - vs.length = (m - (vs.length + 1)) + 1 by omega, List.replicate_succ, List.set_cons_zero]
    simp
  · intro i y l' hy hl'
    by_cases e : i < vs.length
    · rw [List.getElem?_append_left e] at hy
      rw [List.getElem?_append_left (by rw [← h.len]; exact e)] at hl'
      exact key y l' (h.row i y l' hy hl').1 (h.row i y l' hy hl').2
    · rw [List.getElem?_append_right (by omega)] at hy
      rw [List.getElem?_append_right (by rw [← h.len]; omega)] at hl'
      have hi := (List.getElem?_eq_some_iff.1 hy).1
      simp at hi
      have h0 : i - vs.length = 0 := by omega
      rw [h0] at hy
      rw [← h.len, h0] at hl'
      simp at hy hl'
      subst hy hl'
      exact key x l hx hb

theorem PL.done {N : Nat} {w : World} {g m : Nat} {vs : List Value} {ls : List (List UInt8)} (h : PL N w g m vs ls) (hm : vs.length = m) (hg : N ≤ g) (hml : m ≤ maxLen) : LN N w (.slice (some ⟨g, 0, none⟩) m m) ls := by
  subst hm
  refine ⟨vs, .inr ⟨⟨g, 0, none⟩, vs.length, rfl, Nat.le_refl _, hml, fun j hj => ?_⟩, h.len, h.row, fun b hb => ?_⟩
  · rw [Addr.add_lit, Nat.zero_add, cell_of_heap h.heap]
    simp [hj]
  · simp [Value.ownBlock] at hb
    subst hb
    exact ⟨hg, _, h.heap⟩

theorem PL.cell {N : Nat} {w : World} {g m : Nat} {vs : List Value} {ls : List (List UInt8)} (h : PL N w g m vs ls) (hm : vs.length < m) : w.cell? ⟨g, vs.length, none⟩ = some (.slice none 0 0) ∧ w.frozen? ⟨g, vs.length, none⟩ = false := by
  refine ⟨?_, frozen_of_heap h.heap _⟩
  rw [cell_of_heap h.heap, List.getElem?_toArray, List.getElem?_append_right (Nat.le_refl _), Nat.sub_self, List.getElem?_replicate, if_pos (by omega)]

/-- make([][]byte, n): the new world by a name of its own. -/
theorem mkl_any (N : Nat) (w : World) (n : Nat) (hn : n ≤ 100000) : ∃ w1, (Instr.makeSlice 65 (.int .i64 (n : Int)) (.int .i64 (n : Int))).run Try.prog w = .ok (.slice (some ⟨w.heap.size, 0, none⟩) n n) w1 ∧ PL N w1 w.heap.size n [] [] ∧ Fr (fun _ => False) w w1 :=
  ⟨_, run_make43 n (by omega) w, ⟨by simpa using heap_alloc_new w (Obj.cells (List.replicate n (Value.slice none 0 0)).toArray 22), Nat.zero_le _, rfl, fun i x l hx hl => by simp at hx⟩, (Fr.refl _ _).alloc _⟩

theorem encode_nil (w : World) (v : Value) (n c : Nat) (ao : Option Addr) (hv : v = .slice ao n c) : Calls Try.prog 45 #[.pointer none, v] w fun e w' => e = .returned (.tuple #[.slice none 0 0, .int .i64 7]) ∧ w = w' := by
  subst hv
  go_enter Try.func45, Try.ntmps45
  go_wp2
  go_ret2
  exact ⟨rfl, rfl⟩

/-- The parity shards. -/
def encL (k m : Nat) (ls : List (List UInt8)) (n : Nat) : List (List UInt8) := (List.range m).map (fun p => mixL (co k (k + p)) ls k n)
theorem encL_length (k m : Nat) (ls : List (List UInt8)) (n : Nat) : (encL k m ls n).length = m := by simp [encL]
theorem encL_take (k m : Nat) (ls : List (List UInt8)) (n i : Nat) (hi : i < m) : (encL k m ls n).take (i + 1) = (encL k m ls n).take i ++ [mixL (co k (k + i)) ls k n] := by
  rw [List.take_succ_eq_append_getElem (by rw [encL_length]; exact hi)]
  simp [encL]

theorem shl_ok {ls : List (List UInt8)} {c : Int} (h : (shl ls c).2 = 0) : (ls.length : Int) = c ∧ (∀ l ∈ ls, l.length = (shl ls c).1) ∧ (shl ls c).1 ≤ 4096 := by
  unfold shl at h ⊢
  unfold oneL at h ⊢
  by_cases h1 : (ls.length : Int) = c ∧ ∀ l ∈ ls, l.length = (ls.headD []).length
  · simp only [if_pos h1, if_true] at h ⊢
    by_cases h2 : (ls.headD []).length ≤ 4096
    · simp only [if_pos h2] at h ⊢
      exact ⟨h1.1, h1.2, h2⟩
    · simp only [if_neg h2] at h
      exact absurd h (by decide)
  · simp only [if_neg h1] at h
    exact absurd h (by decide)

set_option maxHeartbeats 1000000 in
theorem encode_no (w : World) (p k m : Nat) (v : Value) (ls : List (List UInt8)) (hC : CAt w p k m) (h : RdL w v ls) (hl : ls.length ≤ 100000) (he : (shl ls (k : Int)).2 ≠ 0) :
    Calls Try.prog 45 #[.pointer (some ⟨p, 0, none⟩), v] w fun e w' => e = .returned (.tuple #[.slice none 0 0, .int .i64 (shl ls (k : Int)).2]) ∧ w = w' := by
  obtain ⟨q, h1, -⟩ := hC.ex
  have c0 := cell_of_heap h1 0
  simp at c0
  have HS := hide (shardLength_any w v ls (k : Int) h hl)
  obtain ⟨vo, vc, rfl⟩ := h.shape
  clear hC h1 h
  generalize shl ls (k : Int) = r at *
  obtain ⟨n, e⟩ := r
  have b1 : (e != 0) = true := by simpa using he
  go_enter Try.func45, Try.ntmps45
  go_wp2_with fail
  refine (unhide HS).mono ?_
  rintro e w' ⟨rfl, rfl⟩
  go_wp2_with fail
  go_ret2
  exact ⟨rfl, rfl⟩

set_option maxHeartbeats 1000000 in
theorem encode_ok (w : World) (p k m : Nat) (v : Value) (ls : List (List UInt8)) (hC : CAt w p k m) (h : RdL w v ls) (he : (shl ls (k : Int)).2 = 0) :
    Calls Try.prog 45 #[.pointer (some ⟨p, 0, none⟩), v] w fun e w' => (∃ g, e = .returned (.tuple #[.slice (some ⟨g, 0, none⟩) m m, .int .i64 0]) ∧ LN w.heap.size w' (.slice (some ⟨g, 0, none⟩) m m) (encL k m ls (shl ls (k : Int)).1)) ∧ Fr (fun _ => False) w w' := by
  obtain ⟨hl1, hl2, hl3⟩ := shl_ok he
  have hl : ls.length = k := by omega
  have hk := hC.hk
  have hm := hC.hm
  obtain ⟨q, h1, -⟩ := hC.ex
  have c0 := cell_of_heap h1 0
  have c1 := cell_of_heap h1 1
  simp at c0 c1
  have HS := hide (shardLength_any w v ls (k : Int) h (by omega))
  rw [he] at HS
  generalize (shl ls (k : Int)).1 = n at *
  obtain ⟨w1, hmk, hP1, hf1⟩ := mkl_any w.heap.size w m (by omega)
  have HP1 := hide hP1
  have HF1 := hide hf1
  have HC := hide hC
  have HL := hide h
  have HW := hide hl2
  have HLE := hide hl
  have hplt := lt_of_heap h1
  obtain ⟨vo, vc, rfl⟩ := h.shape
  clear hC h1 h hP1 hf1 hl2 hl he hl1
  go_enter Try.func45, Try.ntmps45
  go_wp2_with fail
  refine (unhide HS).mono ?_
  rintro e w' ⟨rfl, rfl⟩
  go_wp2_with fail
  clear hmk
  go_loopw [31] (fun x w' => ∃ i : Nat, i ≤ m ∧ x = .int .i64 (i : Int) ∧ (∃ vs, vs.length = i ∧ PL w.heap.size w' w.heap.size m vs ((encL k m ls n).take i)) ∧ Fr (fun _ => False) w w') (fun x _ => m - (intOf x).toNat)
  case atStart => exact ⟨0, by omega, rfl, ⟨[], rfl, unhide HP1⟩, unhide HF1⟩
  case round =>
    obtain ⟨i, hi, rfl, ⟨vs, hvs, hP⟩, hf⟩ := hrel
    by_cases hlt : i < m
    · have hCr := (unhide HC).kept hf (fun _ _ h => h)
      have c0' : wr.cell? ⟨p, 0, none⟩ = some (.int .i64 (k : Int)) := by rw [hf.cell (a := ⟨p, 0, none⟩) hplt id]; exact c0
      obtain ⟨ki, hki⟩ : ∃ ki, ki = k + i := ⟨_, rfl⟩
      have HR := hide (row_any wr p k m ki hCr (by omega))
      have eI : (k : Int) + (i : Int) = (ki : Int) := by omega
      have HKI := hide hki
      have HP := hide hP
      have Hf := hide hf
      have HVS := hide hvs
      clear hCr hP hf hvs hki
      go_wp2_with fail
      refine (unhide HR).mono ?_
      rintro e w2 ⟨⟨q2, rfl, hR2, -⟩, f2⟩
      have F2 := (unhide Hf).trans f2 (fun _ _ h => h)
      have HSu := hide (sumOf_any w2 _ _ _ ls n hR2 ((unhide HL).kept F2) (by rw [rowL_length, unhide HLE]; omega) (by rw [rowL_length]; omega) (unhide HW) hl3)
      have HP2 := hide ((unhide HP).kept f2)
      have HF2 := hide F2
      clear hR2 f2 F2
      go_wp2_with fail
      refine (unhide HSu).mono ?_
      rintro e w3 ⟨rfl, hB3, f3⟩
      have F3 := (unhide HF2).trans f3 (fun _ _ h => h)
      have hP3 := (unhide HP2).kept f3
      have hc := hP3.cell (by rw [unhide HVS]; exact hlt)
      rw [unhide HVS] at hc
      have hsz := F3.size
      have hsz2 := (unhide HF2).size
      have hR3 := hB3.rd (by rw [mixL_length]; simp only [maxLen]; omega)
      rw [mixL_length] at hR3
      have hP4 := hP3.put (by rw [unhide HVS]; exact hlt) _ _ hR3 (Wb.of_bat hB3 hsz2)
      rw [unhide HVS] at hP4
      have e1 : mixL (gt (rowL k ki)) ls ls.length n = mixL (co k (k + i)) ls k n := by
        rw [unhide HLE, ← unhide HKI]
        exact mixL_congr (fun j hj => by rw [gt_of (by rw [rowL_length]; exact hj), rowL_get])
      rw [e1, ← encL_take k m ls n i hlt] at hP4
      have HP4 := hide hP4
      have HF3 := hide F3
      have hc1 := hc.1
      have hc2 := hc.2
      clear hP3 hc hR3 hP4 hB3 f3 F3
      go_wp2_with fail
      go_roundw
      case rel => exact ⟨i + 1, by omega, by go_num, ⟨_, by simp [unhide HVS], unhide HP4⟩, (unhide HF3).setCell (fun h => absurd h (by simp)) _⟩
      case measure => simp [intOf]; omega
    · have hie : i = m := by omega
      subst hie
      have HP := hide hP
      have Hf := hide hf
      have HVS := hide hvs
      clear hP hf hvs
      go_wp2_with fail
      go_ret2
      have := (unhide HP).done (unhide HVS) (Nat.le_refl _) (by simp only [maxLen]; omega)
      rw [List.take_of_length_le (by rw [encL_length]; omega)] at this
      exact ⟨⟨_, rfl, this⟩, unhide Hf⟩

end Go.Proofs.Ytckmddkhkdcmmaa

namespace Go.Proofs.Ytckmddkhkdcmmaa
set_option linter.unusedVariables false
set_option linter.unusedSimpArgs false
open Go.RowKit
set_option linter.unusedVariables false

attribute [local go_sem ↓] Go.wp_at_zero Go.wp_at_succ

theorem Try.info3 : (Try.prog.info? 3).map (fun i => (i.zero, i.size, i.bytes)) = some (some (.int .i64 0), 1, 8) := by kernel_rfl

theorem one_cellV (w : World) (x : Value) (e : TypeId) : Sr (w.alloc (Obj.cells #[x] e)) 1 (.slice (some ⟨w.heap.size, 0, none⟩) 1 1) 1 [x] := by
  refine .inr ⟨_, _, rfl, rfl, fun j u hu => ?_⟩
  rw [Addr.add_lit, Nat.zero_add, cell_of_heap (heap_alloc_new w _)]
  simpa using hu

theorem owns_nilE (w : World) (e : TypeId) : w.ownsRow 0 e 1 (.slice none 0 0) 0 [] := ⟨rfl, .inl ⟨rfl, rfl⟩⟩

theorem owns_ty {w : World} {e : TypeId} {v : Value} {n : Nat} {xs : List Value} (h : w.ownsRow 0 e 1 v n xs) {b : Nat} (hb : v.ownBlock = some b) : TyAt w b e := by
  rcases h.2 with ⟨rfl, -⟩ | ⟨g, cap, cur, rfl, -, hg, -⟩
  · simp [Value.ownBlock] at hb
  · simp [Value.ownBlock] at hb
    subst hb
    exact ⟨_, hg⟩

/-- Two rows of unlike types lie in two blocks. -/
theorem owns_apart {w : World} {e f : TypeId} {v u : Value} {n m : Nat} {xs ys : List Value} (h : w.ownsRow 0 e 1 v n xs) (k : w.ownsRow 0 f 1 u m ys) (hef : e ≠ f) {b : Nat} (hb : v.ownBlock = some b) : ¬ u.ownBlock = some b :=
  fun hu => TyAt.ne (owns_ty h hb) (owns_ty k hu) hef rfl

/-- The numbers of those with have, of the first i. -/
def wlK (bs : List Bool) (i : Nat) : List Nat := (List.range i).filter (fun j => bs[j]?.getD false)
def wl (bs : List Bool) : List Nat := wlK bs bs.length
theorem wlK_yes {bs : List Bool} {i : Nat} (h : bs[i]?.getD false = true) : wlK bs (i + 1) = wlK bs i ++ [i] := by
  unfold wlK
  rw [List.range_succ, List.filter_append]
  simp [h]
theorem wlK_no {bs : List Bool} {i : Nat} (h : bs[i]?.getD false = false) : wlK bs (i + 1) = wlK bs i := by
  unfold wlK
  rw [List.range_succ, List.filter_append]
  simp [h]
theorem wlK_le (bs : List Bool) (i : Nat) : (wlK bs i).length ≤ i := by
  unfold wlK
  have := List.length_filter_le (fun j => bs[j]?.getD false) (List.range i)
  simpa using this
theorem wlK_lt {bs : List Bool} {i j : Nat} (h : j ∈ wlK bs i) : j < i := by
  unfold wlK at h
  exact List.mem_range.1 (List.mem_filter.1 h).1
theorem wl_nodup (bs : List Bool) : (wl bs).Nodup := List.nodup_range.filter _

def ints (l : List Nat) : List Value := l.map (fun (i : Nat) => Value.int .i64 (i : Int))
/-- The shards with have. -/
def hl (ls : List (List UInt8)) (bs : List Bool) : List (List UInt8) := (wl bs).map (fun j => ls[j]?.getD [])

theorem hl_length (ls : List (List UInt8)) (bs : List Bool) : (hl ls bs).length = (wl bs).length := by simp [hl]

def vals (vs : List Value) (l : List Nat) : List Value := l.map (fun j => vs[j]?.getD (.slice none 0 0))

theorem vals_one {vs : List Value} {l : List Nat} (h : ∀ x ∈ vs, x.oneCell' = true) (u : Value) (hu : u ∈ vals vs l) : u.oneCell' = true := by
  obtain ⟨j, hj, rfl⟩ := List.mem_map.1 hu
  cases e : vs[j]? with
  | none => rfl
  | some x => exact h x (List.mem_of_getElem? e)

set_option maxHeartbeats 2000000 in
set_option maxRecDepth 100000 in
theorem atHand_any (w : World) (v hv : Value) (ls : List (List UInt8)) (bs : List Bool) (h : RdL w v ls) (hb : RdV w hv (bs.map Value.bool)) (hl1 : ls.length ≤ 100) (hlb : bs.length = ls.length) :
    Calls Try.prog 98 #[v, hv] w fun e w' => (∃ ao ac wo wc, e = .returned (.tuple #[.slice ao (wl bs).length ac, .slice wo (wl bs).length wc]) ∧ RdL w' (.slice ao (wl bs).length ac) (hl ls bs) ∧ RdV w' (.slice wo (wl bs).length wc) (ints (wl bs))) ∧ Fr (fun _ => False) w w' := by
  obtain ⟨vs, hV, hvl, hrow⟩ := h
  have hRV := hV.shape
  obtain ⟨vo, vc, rfl⟩ := hRV
  obtain ⟨bo, bc, rfl⟩ := hb.shape
  rw [List.length_map] at hb ⊢
  obtain ⟨n, hn⟩ : ∃ n, n = vs.length := ⟨_, rfl⟩
  have hone : ∀ (i : Nat) (x : Value), vs[i]? = some x → ∃ xo xl xc, x = .slice xo xl xc := by
    intro i x hx
    have hi := (List.getElem?_eq_some_iff.1 hx).1
    have := hrow i x (ls[i]'(by omega)) hx (List.getElem?_eq_getElem _)
    obtain ⟨a1, a2, rfl⟩ := this.shape
    exact ⟨a1, _, a2, rfl⟩
  obtain ⟨inf, hi0, hz0, hz1, hz2⟩ := info_parts Try.info22
  obtain ⟨inf3, hi3, hy0, hy1, hy2⟩ := info_parts Try.info3
  have HV := hide hV
  have HB := hide hb
  have HR := hide hrow
  have HO := hide hone
  have hbn : bs.length = n := by omega
  rw [← hn] at HV ⊢
  rw [hbn] at HB ⊢
  have hn1 : n ≤ 100 := by omega
  have HN := hide hn
  have HLN := hide hvl
  have HBN := hide hbn
  clear hV hb hrow hone hn hvl hlb hbn hl1
  go_enter Try.func98, Try.ntmps98
  go_wp2_with fail
  go_loopw [6, 7, 12] (fun hx wx x w' => ∃ i : Nat, i ≤ n ∧ x = .int .i64 (i : Int) ∧
      (∃ ao ac, hx = .slice ao (wlK bs i).length ac ∧ w'.ownsRow 0 22 1 (.slice ao (wlK bs i).length ac) (wlK bs i).length (vals vs (wlK bs i)) ∧ ∀ b, (Value.slice ao (wlK bs i).length ac).ownBlock = some b → w.heap.size ≤ b) ∧
      (∃ wo wc, wx = .slice wo (wlK bs i).length wc ∧ w'.ownsRow 0 3 1 (.slice wo (wlK bs i).length wc) (wlK bs i).length (ints (wlK bs i)) ∧ ∀ b, (Value.slice wo (wlK bs i).length wc).ownBlock = some b → w.heap.size ≤ b) ∧ Fr (fun _ => False) w w') (fun _ _ x _ => n - (intOf x).toNat)
  case atStart => exact ⟨0, by omega, rfl, ⟨none, 0, rfl, owns_nilE w 22, fun b hb => by simp [Value.ownBlock] at hb⟩, ⟨none, 0, rfl, owns_nilE w 3, fun b hb => by simp [Value.ownBlock] at hb⟩, Fr.refl _ _⟩
  case round =>
    obtain ⟨i, hi, rfl, ⟨ao, ac, rfl, hO1, hN1⟩, ⟨wo, wc, rfl, hO2, hN2⟩, hf⟩ := hrel
    by_cases hlt : i < n
    · obtain ⟨b, o, rfl, -, -, -, hcv⟩ := ((unhide HV).kept hf (fun _ _ h => h)).lits (by have := unhide HN; omega)
      obtain ⟨b2, o2, rfl, -, -, -, hcb⟩ := ((unhide HB).kept hf (fun _ _ h => h)).lits (by have := unhide HBN; simp; omega)
      have hib : i < bs.length := by have := unhide HBN; omega
      have hiv : i < vs.length := by have := unhide HN; omega
      have c1 := hcv i hiv
      have c2 := hcb i (by simpa using hib)
      rw [List.getElem_map] at c2
      obtain ⟨xo, xl, xc, hxs⟩ := unhide HO i vs[i] (List.getElem?_eq_getElem _)
      have hbi : bs[i]?.getD false = bs[i] := by rw [List.getElem?_eq_getElem hib]; rfl
      have hxi : vs[i]?.getD (.slice none 0 0) = vs[i] := by rw [List.getElem?_eq_getElem hiv]; rfl
      have HO1 := hide hO1
      have HO2 := hide hO2
      have HN1 := hide hN1
      have HN2 := hide hN2
      have Hf := hide hf
      have HXI := hide hxi
      have hle := wlK_le bs i
      clear hcv hcb hO1 hO2 hN1 hN2 hf hxi
      rw [hxs] at c1 HXI
      clear hxs
      rcases hbv : bs[i] with _ | _
      · rw [hbv] at hbi c2
        have HW := hide (wlK_no hbi)
        clear hbi hbv
        go_wp2_with fail
        go_roundw
        case rel => exact ⟨i + 1, by omega, by go_num, by rw [unhide HW]; exact ⟨ao, ac, rfl, unhide HO1, unhide HN1⟩, by rw [unhide HW]; exact ⟨wo, wc, rfl, unhide HO2, unhide HN2⟩, unhide Hf⟩
        case measure => simp [intOf]; omega
      · rw [hbv] at hbi c2
        have HW := hide (wlK_yes hbi)
        clear hbi hbv
        obtain ⟨kk, hkk⟩ : ∃ kk, kk = (wlK bs i).length := ⟨_, rfl⟩
        rw [← hkk] at HO1 HO2 HN1 HN2 hle ⊢
        have HKK := hide hkk
        clear hkk
        go_wp2_with (at_builtin; refine wpList_app rfl (.tmp 21) (.tmp 23) 65 rfl 22 inf _ 1 24 Try.underlying65 hi0 hz0 hz1 hz2 rfl (by decide) (.slice ao kk ac) kk (vals vs (wlK bs i)) rfl (.slice (some ⟨wr.heap.size, 0, none⟩) 1 1) rfl 1 [.slice xo xl xc] ((unhide HO1).alloc _) (one_cellV wr _ 22) (fun u hu => by simp at hu; subst hu; rfl) (by omega) (by simp only [maxLen]; omega) ?_)
        intro ao2 ac2 w2 o2' hg2 hpl2
        have f2 : Fr (fun k => (Value.slice ao kk ac).ownBlock = some k) wr w2 := Fr.grown (S := fun k => (Value.slice ao kk ac).ownBlock = some k) (w := wr.alloc _) ((Fr.refl _ _).alloc _) hg2 (fun k hk e => e)
        have hO2b := owns_kept (unhide HO2) f2 (fun k hk => owns_apart (unhide HO2) (unhide HO1) (by decide) hk)
        have F2 : Fr (fun _ => False) w w2 := (unhide Hf).trans f2 (fun k hk e => by have := unhide HN1 k e; omega)
        have hn1 : ∀ b, (Value.slice ao2 (kk + 1) ac2).ownBlock = some b → w.heap.size ≤ b := by
          intro b hb
          rcases hpl2 with e | ⟨k', e, hk'⟩
          · rw [e] at hb; exact unhide HN1 b hb
          · rw [e] at hb
            have z1 := (unhide Hf).size
            simp at hb hk'
            omega
        have HO1' := hide o2'
        have HO2' := hide hO2b
        have HF2 := hide F2
        have HN1' := hide hn1
        clear o2' hg2 hpl2 f2 hO2b F2 hn1
        go_wp2_with (at_builtin; refine wpList_app rfl (.tmp 25) (.tmp 27) 25 rfl 3 inf3 _ 1 8 Try.underlying25 hi3 hy0 hy1 hy2 rfl (by decide) (.slice wo kk wc) kk (ints (wlK bs i)) rfl (.slice (some ⟨w2.heap.size, 0, none⟩) 1 1) rfl 1 [.int .i64 (i : Int)] ((unhide HO2').alloc _) (one_cellV w2 _ 3) (fun u hu => by simp at hu; subst hu; rfl) (by omega) (by simp only [maxLen]; omega) ?_)
        intro wo3 wc3 w3 o3 hg3 hpl3
        have f3 : Fr (fun k => (Value.slice wo kk wc).ownBlock = some k) w2 w3 := Fr.grown (S := fun k => (Value.slice wo kk wc).ownBlock = some k) (w := w2.alloc _) ((Fr.refl _ _).alloc _) hg3 (fun k hk e => e)
        have hO1c := owns_kept (unhide HO1') f3 (fun k hk => owns_apart (unhide HO1') (unhide HO2') (by decide) hk)
        have F3 : Fr (fun _ => False) w w3 := (unhide HF2).trans f3 (fun k hk e => by have := unhide HN2 k e; omega)
        have hn2 : ∀ b, (Value.slice wo3 (kk + 1) wc3).ownBlock = some b → w.heap.size ≤ b := by
          intro b hb
          rcases hpl3 with e | ⟨k', e, hk'⟩
          · rw [e] at hb; exact unhide HN2 b hb
          · rw [e] at hb
            have z1 := (unhide HF2).size
            simp at hb hk'
            omega
        have HO1'' := hide hO1c
        have HO2'' := hide o3
        have HF3 := hide F3
        have HN2' := hide hn2
        clear o3 hg3 hpl3 f3 hO1c F3 hn2
        go_wp2_with fail
        go_roundw
        case rel =>
          have hw := unhide HW
          have hlen : (wlK bs (i + 1)).length = kk + 1 := by rw [hw, List.length_append, ← unhide HKK]; rfl
          have e1 : vals vs (wlK bs (i + 1)) = vals vs (wlK bs i) ++ [.slice xo xl xc] := by rw [hw]; unfold vals; rw [List.map_append]; simp [unhide HXI]
          have e2 : ints (wlK bs (i + 1)) = ints (wlK bs i) ++ [.int .i64 (i : Int)] := by rw [hw]; unfold ints; rw [List.map_append]; rfl
          refine ⟨i + 1, by omega, by go_num, ?_, ?_, unhide HF3⟩
          · rw [hlen, e1]; exact ⟨ao2, ac2, rfl, unhide HO1'', unhide HN1'⟩
          · rw [hlen, e2]; exact ⟨wo3, wc3, rfl, unhide HO2'', unhide HN2'⟩
        case measure => simp [intOf]; omega
    · have hie : i = n := by omega
      subst hie
      have HO1 := hide hO1
      have HO2 := hide hO2
      have Hf := hide hf
      clear hO1 hO2 hN1 hN2 hf
      go_wp2_with fail
      go_ret2
      have ewl : wlK bs i = wl bs := by unfold wl; rw [unhide HBN]
      rw [ewl] at HO1 HO2 ⊢
      refine ⟨⟨ao, ac, wo, wc, rfl, ⟨vals vs (wl bs), ?_, by simp [vals, hl], ?_⟩, ?_⟩, unhide Hf⟩
      · have := RdV.of_owns (l := vals vs (wl bs)) (v := .slice ao (wl bs).length ac) (w := wr) (e := 22) (base := 0) (by rw [show (vals vs (wl bs)).length = (wl bs).length by simp [vals]]; exact unhide HO1)
        exact this
      · intro j x l hx hl'
        unfold vals at hx
        unfold hl at hl'
        rw [List.getElem?_map] at hx hl'
        cases ej : (wl bs)[j]? with
        | none => rw [ej] at hx; simp at hx
        | some jj =>
          rw [ej] at hx hl'
          have hjj : jj < i := by
            have := List.mem_of_getElem? ej
            rw [← ewl] at this
            exact wlK_lt this
          have h1 : jj < vs.length := by rw [← unhide HN]; exact hjj
          have h2 : jj < ls.length := by rw [← unhide HLN]; exact h1
          simp [List.getElem?_eq_getElem h1] at hx
          simp [List.getElem?_eq_getElem h2] at hl'
          subst hx hl'
          exact (unhide HR jj _ _ (List.getElem?_eq_getElem h1) (List.getElem?_eq_getElem h2)).kept (unhide Hf) (fun _ _ h => h)
      · exact RdV.of_owns (l := ints (wl bs)) (v := .slice wo (wl bs).length wc) (w := wr) (e := 3) (base := 0) (by rw [show (ints (wl bs)).length = (wl bs).length by simp [ints]]; exact unhide HO2)

end Go.Proofs.Ytckmddkhkdcmmaa

namespace Go.Proofs.Ytckmddkhkdcmmaa
set_option linter.unusedVariables false
set_option linter.unusedSimpArgs false
open Go.RowKit
set_option linter.unusedVariables false

attribute [local go_sem ↓] Go.wp_at_zero Go.wp_at_succ

theorem fl_rowG (k i : Nat) (cell : Nat → Nat → UInt8) (hk : 1 ≤ k) : fl k cell ((i + 1) * k) = fl k cell (i * k) ++ (List.range k).map (cell i) := by
  apply List.ext_getElem
  · simp [fl_length, Nat.succ_mul]
  · intro j h1 h2
    rw [fl_length, Nat.succ_mul] at h1
    rw [fl_get]
    by_cases h : j < i * k
    · rw [List.getElem_append_left (by rw [fl_length]; exact h), fl_get]
    · rw [List.getElem_append_right (by rw [fl_length]; omega)]
      obtain ⟨c, rfl⟩ : ∃ c, j = i * k + c := ⟨j - i * k, by omega⟩
      have hc : c < k := by omega
      have e : i * k + c - (fl k cell (i * k)).length = c := by rw [fl_length]; omega
      simp only [e, List.getElem_map, List.getElem_range]
      rw [Nat.mul_comm i k, Nat.mul_add_div (by omega), Nat.div_eq_of_lt hc, Nat.mul_add_mod, Nat.mod_eq_of_lt hc, Nat.add_zero]

theorem fl_copyG (k i n : Nat) (cell : Nat → Nat → UInt8) (row : List UInt8) (hrow : row = (List.range k).map (cell i)) (hk : 1 ≤ k) (hi : (i + 1) * k ≤ n) :
    (fl k cell (i * k) ++ List.replicate (n - i * k) 0).take (i * k) ++ row ++ (fl k cell (i * k) ++ List.replicate (n - i * k) 0).drop (i * k + row.length) = fl k cell ((i + 1) * k) ++ List.replicate (n - (i + 1) * k) 0 := by
  rw [Nat.succ_mul] at hi
  have hl : row.length = k := by rw [hrow]; simp
  rw [fl_rowG k i cell hk, hl, ← hrow, List.take_append_of_le_length (by rw [fl_length]; omega), List.take_of_length_le (by rw [fl_length]; omega), List.drop_append, fl_length, List.drop_of_length_le (by rw [fl_length]; omega), List.nil_append, List.drop_replicate, Nat.succ_mul]
  congr 2
  omega

theorem fr_cells3 (w : World) (p : Nat) (a b c : Value) : Fr (fun k => k = p) w (((w.setCell ⟨p, 0, none⟩ a).setCell ⟨p, 1, none⟩ b).setCell ⟨p, 2, none⟩ c) := fr_three w p a b c

set_option maxHeartbeats 2000000 in
set_option maxRecDepth 100000 in
theorem rows_any (w : World) (p k m : Nat) (wv : Value) (which : List Nat) (hC : CAt w p k m) (hR : RdV w wv (ints which)) (hlen : which.length = k) (hb : ∀ i ∈ which, i < k + m) :
    Calls Try.prog 113 #[.pointer (some ⟨p, 0, none⟩), wv] w fun e w' => (∃ q, e = .returned (.agg #[.int .i64 (k : Int), .int .i64 (k : Int), .slice (some ⟨q, 0, none⟩) (k * k) (k * k)]) ∧ BAt w' q (cw k which)) ∧ Fr (fun _ => False) w w' := by
  have hk := hC.hk
  have hm := hC.hm
  obtain ⟨q, h1, -⟩ := hC.ex
  have hplt := lt_of_heap h1
  have c0 := cell_of_heap h1 0
  simp at c0
  obtain ⟨wo, wc, rfl⟩ := hR.shape
  have hwl : (ints which).length = k := by simp [ints, hlen]
  rw [hwl] at hR ⊢
  obtain ⟨n, hn⟩ : ∃ n, n = k * k := ⟨_, rfl⟩
  have hn1 : n ≤ 16 * 16 := by rw [hn]; exact Nat.mul_le_mul hk.2 hk.2
  have eN : (k : Int) * (k : Int) = (n : Int) := by rw [hn]; simp
  have b4 : IntKind.i64.wrap (n : Int) = (n : Int) := by rw [IntKind.wrap_i64]; omega
  have hmk := run_make5 n (by omega)
  rw [← hn]
  have HN := hide hn
  have HC := hide hC
  have HR := hide hR
  have HLN := hide hlen
  have HBd := hide hb
  clear hC h1 hR hwl hn hlen hb
  go_enter Try.func113, Try.ntmps113
  go_wp2_with fail
  go_region
  clear hmk
  have HF1 := hide ((((Fr.refl (fun _ => False) w).alloc (Obj.cells #[Value.int IntKind.i64 0, Value.int IntKind.i64 0, Value.slice none 0 0] 24)).alloc (Obj.cells (bvs (List.replicate n 0)).toArray 5)).drew)
  have HB1 := hide (show BAt ((w.alloc (Obj.cells #[Value.int IntKind.i64 0, Value.int IntKind.i64 0, Value.slice none 0 0] 24)).alloc (Obj.cells (bvs (List.replicate n 0)).toArray 5)).drew (w.heap.size + 1) (List.replicate n 0) from by
    have := bat_new (w.alloc (Obj.cells #[Value.int IntKind.i64 0, Value.int IntKind.i64 0, Value.slice none 0 0] 24)) (List.replicate n 0)
    rw [show (w.alloc (Obj.cells #[Value.int IntKind.i64 0, Value.int IntKind.i64 0, Value.slice none 0 0] 24)).heap.size = w.heap.size + 1 by simp] at this
    exact this)
  have HX1 := hide (show ((w.alloc (Obj.cells #[Value.int IntKind.i64 0, Value.int IntKind.i64 0, Value.slice none 0 0] 24)).alloc (Obj.cells (bvs (List.replicate n 0)).toArray 5)).drew.heap[w.heap.size]? = some (.cells #[Value.int IntKind.i64 0, Value.int IntKind.i64 0, Value.slice none 0 0] 24 (0, 0)) from by
    show ((w.alloc (Obj.cells #[Value.int IntKind.i64 0, Value.int IntKind.i64 0, Value.slice none 0 0] 24)).alloc (Obj.cells (bvs (List.replicate n 0)).toArray 5)).heap[w.heap.size]? = _
    rw [Below.heap_alloc _ _ _ (by simp)]
    exact heap_alloc_new w _)
  generalize ((w.alloc (Obj.cells #[Value.int IntKind.i64 0, Value.int IntKind.i64 0, Value.slice none 0 0] 24)).alloc (Obj.cells (bvs (List.replicate n 0)).toArray 5)).drew = w1 at *
  go_wp2_with fail
  go_loopw [20] (fun x w' => ∃ i : Nat, i ≤ k ∧ x = .int .i64 (i : Int) ∧ BAt w' (w.heap.size + 1) (fl k (fun r c => co k (which[r]?.getD 0) c) (i * k) ++ List.replicate (n - i * k) 0) ∧ w'.heap[w.heap.size]? = some (.cells #[Value.int IntKind.i64 0, Value.int IntKind.i64 0, Value.slice none 0 0] 24 (0, 0)) ∧ Fr (fun _ => False) w w') (fun x _ => k - (intOf x).toNat)
  case atStart => exact ⟨0, by omega, rfl, by simpa [fl] using unhide HB1, unhide HX1, unhide HF1⟩
  case round =>
    obtain ⟨i, hi, rfl, hB, hX, hf⟩ := hrel
    have c0' : wr.cell? ⟨p, 0, none⟩ = some (.int .i64 (k : Int)) := by rw [hf.cell (a := ⟨p, 0, none⟩) hplt id]; exact c0
    by_cases hlt : i < k
    · have hle : (i + 1) * k ≤ n := by rw [unhide HN]; exact Nat.mul_le_mul_right _ hlt
      have hiw : i < which.length := by rw [unhide HLN]; exact hlt
      obtain ⟨wb, wof, rfl, -, -, -, hcw⟩ := ((unhide HR).kept hf (fun _ _ h => h)).lits (by simp [ints]; omega)
      have c1 := hcw i (by simpa [ints] using hiw)
      have ew : (ints which)[i]'(by simpa [ints] using hiw) = .int .i64 ((which[i] : Nat) : Int) := by simp [ints]
      rw [ew] at c1
      have hwi := unhide HBd _ (List.getElem_mem hiw)
      have egd : which[i]?.getD 0 = which[i] := by rw [List.getElem?_eq_getElem hiw]; rfl
      generalize which[i] = wi at *
      have HRO := hide (rowOf_any wr (w.heap.size + 1) 0 i k n n (by omega) hk hle)
      rw [Nat.zero_add] at HRO
      have HRW := hide (row_any wr p k m wi ((unhide HC).kept hf (fun _ _ h => h)) hwi)
      have HB := hide hB
      have HX := hide hX
      have Hf := hide hf
      have HE := hide egd
      clear hB hX hf hcw ew egd
      go_wp2_with fail
      refine (unhide HRO).mono ?_
      rintro e w2 ⟨rfl, rfl⟩
      go_wp2_with fail
      refine (unhide HRW).mono ?_
      rintro e w2 ⟨⟨q2, rfl, hR2, -⟩, f2⟩
      have hB2 := (unhide HB).kept f2 id
      obtain ⟨w3, hcp, hB3, hf3⟩ := copy_any w2 (w.heap.size + 1) (i * k) k k _ _ _ hB2 hR2 (by rw [rowL_length]; omega) (by rw [List.length_append, fl_length, List.length_replicate]; rw [Nat.succ_mul] at hle; omega)
      rw [fl_copyG k i n _ _ (by rw [unhide HE]; rfl) hk.1 hle] at hB3
      have F3 : Fr (fun b => b = w.heap.size + 1) wr w3 := (f2.mono (fun _ _ h => h.elim)).trans hf3 (fun _ _ h => h)
      have HB3 := hide hB3
      have HF3 := hide F3
      clear hR2 f2 hB2 hB3 hf3 F3
      go_wp2_with fail
      clear hcp
      go_roundw
      case rel =>
        refine ⟨i + 1, by omega, by go_num, unhide HB3, ?_, (unhide Hf).trans (unhide HF3) (fun b hb h => by omega)⟩
        rw [(unhide HF3).block _ (lt_of_heap (unhide HX)) (by omega)]
        exact unhide HX
      case measure => simp [intOf]; omega
    · have hie : i = k := by omega
      subst hie
      have x0 := cell_of_heap hX 0
      have x1 := cell_of_heap hX 1
      have x2 := cell_of_heap hX 2
      have z0 := frozen_of_heap hX
      simp at x0 x1 x2
      have HB := hide hB
      have HX := hide hX
      have Hf := hide hf
      clear hB hX hf
      go_wp2_with fail
      go_region
      go_wp2_with fail
      have f3 : Fr (fun b => b = w.heap.size) wr (((wr.setCell ⟨w.heap.size, 0, none⟩ (.int .i64 (i : Int))).setCell ⟨w.heap.size, 1, none⟩ (.int .i64 (i : Int))).setCell ⟨w.heap.size, 2, none⟩ (.slice (some ⟨w.heap.size + 1, 0, none⟩) n n)).drew := (fr_three wr _ _ _ _).drew
      refine bodyPost_ret (v := .agg #[.int .i64 (i : Int), .int .i64 (i : Int), .slice (some ⟨w.heap.size + 1, 0, none⟩) n n]) (by simp [results, Try.results113, go_sem, x0, x1, x2]) rfl ⟨⟨_, rfl, ?_⟩, (unhide Hf).trans f3 (fun b hb h => by omega)⟩
      have h0 := unhide HB
      rw [show n - i * i = 0 by rw [unhide HN]; omega, List.replicate_zero, List.append_nil] at h0
      exact h0.kept f3 (by omega)

end Go.Proofs.Ytckmddkhkdcmmaa
