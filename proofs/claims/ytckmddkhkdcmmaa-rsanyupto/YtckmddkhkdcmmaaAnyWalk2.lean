/-
  The walk of the law RsAny, whole.
-/
import Derived.Test.YtckmddkhkdcmmaaAnyWalk
import Derived.Lib.SlBytesConst
namespace Go.Proofs.Ytckmddkhkdcmmaa
open Go.RowKit
set_option linter.unusedVariables false

attribute [local go_sem ↓] Go.wp_at_zero Go.wp_at_succ

set_option maxHeartbeats 4000000 in
set_option maxRecDepth 100000 in
theorem anyWalk_no (w : World) (k m : Int) (ao bo : Option Addr) (n c n' c' : Nat) (h : okB k m = false) : Calls Try.prog 11 #[.int .i64 k, .int .i64 m, .slice ao n c, .slice bo n' c'] w fun e w' => e = .returned (.bool true) ∧ Fr (fun _ => False) w w' := by
  have HB := hide (both_no w k m h)
  clear h
  by_cases hn : 9000 < n
  · have b1 : decide ((9000 : Int) < (n : Int)) = true := by simp; omega
    go_enter Try.func11, Try.ntmps11
    go_wp2_with fail
    refine (unhide HB).mono ?_
    rintro e w1 ⟨rfl, rfl⟩
    go_wp2_with fail
    refine (live3_any _).mono ?_
    rintro e w2 ⟨rfl, f2⟩
    go_wp2_with fail
    go_ret
    exact ⟨rfl, f2⟩
  · have b1 : decide ((9000 : Int) < (n : Int)) = false := by simp; omega
    go_enter Try.func11, Try.ntmps11
    go_wp2_with fail
    refine (unhide HB).mono ?_
    rintro e w1 ⟨rfl, rfl⟩
    go_wp2_with fail
    refine (live3_any _).mono ?_
    rintro e w2 ⟨rfl, f2⟩
    go_wp2_with fail
    go_ret
    exact ⟨rfl, f2⟩

set_option maxHeartbeats 4000000 in
set_option maxRecDepth 100000 in
theorem anyWalk_long (w : World) (k m : Nat) (hk : 1 ≤ k ∧ k ≤ 16) (hm : m ≤ 8) (ao bo : Option Addr) (n c n' c' : Nat) (h : 9000 < n ∨ 30 < n') : Calls Try.prog 11 #[.int .i64 (k : Int), .int .i64 (m : Int), .slice ao n c, .slice bo n' c'] w fun e w' => e = .returned (.bool true) ∧ Fr (fun _ => False) w w' := by
  have HB := hide (both_ok w k m hk hm)
  by_cases hn : 9000 < n
  · have b1 : decide ((9000 : Int) < (n : Int)) = true := by simp; omega
    clear h
    go_enter Try.func11, Try.ntmps11
    go_wp2_with fail
    refine (unhide HB).mono ?_
    rintro e w1 ⟨⟨p, q, rfl, -, -, -, -⟩, f1⟩
    go_wp2_with fail
    refine (live3_any _).mono ?_
    rintro e w2 ⟨rfl, f2⟩
    have F := hide (f1.trans f2 (fun _ _ h => h))
    clear f1 f2
    go_wp2_with fail
    go_ret
    exact ⟨rfl, unhide F⟩
  · have b1 : decide ((9000 : Int) < (n : Int)) = false := by simp; omega
    have b2 : decide ((30 : Int) < (n' : Int)) = true := by simp; omega
    clear h
    go_enter Try.func11, Try.ntmps11
    go_wp2_with fail
    refine (unhide HB).mono ?_
    rintro e w1 ⟨⟨p, q, rfl, -, -, -, -⟩, f1⟩
    go_wp2_with fail
    refine (live3_any _).mono ?_
    rintro e w2 ⟨rfl, f2⟩
    have F := hide (f1.trans f2 (fun _ _ h => h))
    clear f1 f2
    go_wp2_with fail
    go_ret
    exact ⟨rfl, unhide F⟩

/-- The slice's block, if there is one, is of bytes. -/
def Tf (w : World) (x : Value) : Prop := ∀ b, x.ownBlock = some b → ∃ cs fr, w.heap[b]? = some (.cells cs 5 fr)

theorem Tf.ne {w : World} {x : Value} (h : Tf w x) {g t : Nat} (hg : TyAt w g t) (h5 : t ≠ 5) {b : Nat} (hb : x.ownBlock = some b) : b ≠ g := by
  obtain ⟨cs, fr, e⟩ := h b hb
  obtain ⟨ds, e2⟩ := hg
  rintro rfl
  rw [e] at e2
  simp at e2
  exact h5 e2.2.1.symm

theorem Tf.setCell {w : World} {x : Value} (h : Tf w x) {g t : Nat} (hg : TyAt w g t) (h5 : t ≠ 5) (i : Nat) (u : Value) : Tf (w.setCell ⟨g, i, none⟩ u) x := by
  intro b hb
  obtain ⟨cs, fr, e⟩ := h b hb
  exact ⟨cs, fr, by rw [Below.heap_setCell _ _ _ _ (h.ne hg h5 hb)]; exact e⟩

theorem Tf.kept {w w' : World} {x : Value} (h : Tf w x) (f : Fr (fun _ => False) w w') : Tf w' x := by
  intro b hb
  obtain ⟨cs, fr, e⟩ := h b hb
  exact ⟨cs, fr, by rw [f.block b (lt_of_heap e) id]; exact e⟩

theorem Wb.tf {N : Nat} {w : World} {x : Value} (h : Wb N w x) : Tf w x := fun b hb => by
  obtain ⟨cs, e⟩ := (h b hb).2
  exact ⟨cs, _, e⟩

/-- A list that lies at gb, with inner slices of bytes. -/
def LG (w : World) (gb gof a gac : Nat) (G : List (List UInt8)) : Prop := ∃ vs : List Value, RdV w (.slice (some ⟨gb, gof, none⟩) a gac) vs ∧ vs.length = G.length ∧ (∀ (i : Nat) (x : Value) (l : List UInt8), vs[i]? = some x → G[i]? = some l → Rd w x l ∧ Tf w x) ∧ TyAt w gb 22

theorem LG.rdl {w : World} {gb gof a gac : Nat} {G : List (List UInt8)} (h : LG w gb gof a gac G) : RdL w (.slice (some ⟨gb, gof, none⟩) a gac) G := by
  obtain ⟨vs, h1, h2, h3, -⟩ := h
  exact ⟨vs, h1, h2, fun i x l hx hl => (h3 i x l hx hl).1⟩

theorem LG.other {w : World} {gb gof a gac : Nat} {G : List (List UInt8)} (h : LG w gb gof a gac G) {g t : Nat} (hg : TyAt w g t) (h5 : t ≠ 5) (hne : gb ≠ g) (i : Nat) (u : Value) : LG (w.setCell ⟨g, i, none⟩ u) gb gof a gac G := by
  obtain ⟨vs, h1, h2, h3, h4⟩ := h
  have f : Fr (fun b => b = g) w (w.setCell ⟨g, i, none⟩ u) := (Fr.refl (fun b => b = g) w).setCell (p := ⟨g, i, none⟩) (fun _ => rfl) u
  refine ⟨vs, h1.kept f (fun b hb => by simp [Value.ownBlock] at hb; omega), h2, fun j x l hx hl => ?_, h4.setCell _ _ _⟩
  obtain ⟨r1, r2⟩ := h3 j x l hx hl
  exact ⟨r1.kept f (fun b hb e => r2.ne hg h5 hb e), r2.setCell hg h5 i u⟩

theorem LG.kept {w w' : World} {gb gof a gac : Nat} {G : List (List UInt8)} (h : LG w gb gof a gac G) (f : Fr (fun _ => False) w w') : LG w' gb gof a gac G := by
  obtain ⟨vs, h1, h2, h3, h4⟩ := h
  exact ⟨vs, h1.kept f (fun _ _ h => h), h2, fun j x l hx hl => ⟨(h3 j x l hx hl).1.kept f (fun _ _ h => h), (h3 j x l hx hl).2.kept f⟩, h4.kept f⟩

theorem LG.set {w : World} {gb gof a gac : Nat} {G : List (List UInt8)} (h : LG w gb gof a gac G) (i : Nat) (x : Value) (l : List UInt8) (hi : i < G.length) (hx : Rd w x l) (hb : Tf w x) : LG (w.setCell ⟨gb, gof + i, none⟩ x) gb gof a gac (G.set i l) := by
  obtain ⟨vs, h1, h2, h3, h4⟩ := h
  have f : Fr (fun b => b = gb) w (w.setCell ⟨gb, gof + i, none⟩ x) := (Fr.refl (fun b => b = gb) w).setCell (p := ⟨gb, gof + i, none⟩) (fun _ => rfl) x
  have key : ∀ y l', Rd w y l' → Tf w y → Rd (w.setCell ⟨gb, gof + i, none⟩ x) y l' ∧ Tf (w.setCell ⟨gb, gof + i, none⟩ x) y := fun y l' r1 r2 =>
    ⟨r1.kept f (fun b hb e => r2.ne h4 (by decide) hb e), r2.setCell h4 (by decide) _ _⟩
  refine ⟨vs.set i x, h1.set i x (by omega), by simp [h2], fun j y l' hy hl' => ?_, h4.setCell _ _ _⟩
  by_cases e : i = j
  · subst e
    rw [List.getElem?_set_self (by omega)] at hy
    rw [List.getElem?_set_self hi] at hl'
    simp at hy hl'
    subst hy hl'
    exact key x l hx hb
  · rw [List.getElem?_set_ne e] at hy hl'
    obtain ⟨r1, r2⟩ := h3 j y l' hy hl'
    exact key y l' r1 r2

/-- The row that a constant's bytes are laid in. -/
theorem lost_row (w : World) : Rd (w.alloc (Obj.cells #[.int .u8 108, .int .u8 111, .int .u8 115, .int .u8 116] 5 (4, 5))) (.slice (some ⟨w.heap.size, 0, none⟩) 4 4) [108, 111, 115, 116] ∧ Tf (w.alloc (Obj.cells #[.int .u8 108, .int .u8 111, .int .u8 115, .int .u8 116] 5 (4, 5))) (.slice (some ⟨w.heap.size, 0, none⟩) 4 4) := by
  have hh := heap_alloc_new w (Obj.cells #[.int .u8 108, .int .u8 111, .int .u8 115, .int .u8 116] 5 (4, 5))
  refine ⟨Rd.lit rfl (by decide) (by simp [maxLen]) fun j hj => ?_, fun b hb => ?_⟩
  · rw [Nat.zero_add, cell_of_row _ _ _ _ _ _ hh]
    rcases j with _ | _ | _ | _ | j
    · rfl
    · rfl
    · rfl
    · rfl
    · simp at hj; omega
  · simp [Value.ownBlock] at hb
    subst hb
    exact ⟨_, _, hh⟩

theorem LG.cell {w : World} {gb gof a gac : Nat} {G : List (List UInt8)} (h : LG w gb gof a gac G) (i : Nat) (hi : i < G.length) : ∃ u, w.cell? ⟨gb, gof + i, none⟩ = some u ∧ w.frozen? ⟨gb, gof + i, none⟩ = false := by
  obtain ⟨vs, h1, h2, h3, ⟨cs, h4⟩⟩ := h
  obtain ⟨b, o, e, -, -, -, hc⟩ := h1.lits (by omega)
  simp only [Option.some.injEq, Addr.mk.injEq] at e
  obtain ⟨rfl, rfl, -⟩ := e
  exact ⟨_, hc i (by omega), frozen_of_heap h4 _⟩

theorem tmod_at (x : Int) (a : Nat) (ha : 0 < a) : -(a : Int) < x.tmod (a : Int) ∧ x.tmod (a : Int) < (a : Int) := by
  have h1 := Int.tmod_lt_of_pos x (show (0 : Int) < (a : Int) by omega)
  refine ⟨?_, h1⟩
  have h2 := Int.neg_tmod x (a : Int)
  have h3 := Int.tmod_lt_of_pos (-x) (show (0 : Int) < (a : Int) by omega)
  omega

theorem owns_newE {w : World} {b : Nat} {e : TypeId} (hb : w.heap[b]? = some (.cells #[] e (0, 0))) : w.ownsRow 0 e 1 (.slice (some ⟨b, 0, none⟩) 0 0) 0 [] :=
  ⟨rfl, .inr ⟨b, 0, #[], rfl, Nat.zero_le _, hb, Nat.le_refl _, by simp [maxLen], rfl, rfl⟩⟩

theorem rows_one {w : World} {vs : List Value} {ls : List (List UInt8)} (hl : vs.length = ls.length) (h : ∀ (i : Nat) (x : Value) (l : List UInt8), vs[i]? = some x → ls[i]? = some l → Rd w x l) (u : Value) (hu : u ∈ vs) : u.oneCell' = true := by
  obtain ⟨i, hi, rfl⟩ := List.getElem_of_mem hu
  obtain ⟨a, c, e⟩ := (h i _ (ls[i]'(by omega)) (List.getElem?_eq_getElem hi) (List.getElem?_eq_getElem (by omega))).shape
  rw [e]; rfl

set_option maxHeartbeats 16000000 in
set_option maxRecDepth 100000 in
theorem anyWalk_main (w : World) (k m : Nat) (hk : 1 ≤ k ∧ k ≤ 16) (hm : m ≤ 8) (pv lv : Value) (p : List UInt8) (lost : List Int) (hp : Rd w pv p) (hl : RdV w lv (lost.map (Value.int .i64))) (hpn : p.length ≤ 9000) (hln : lost.length ≤ 30) (hlb : ∀ x ∈ lost, -9223372036854775808 ≤ x ∧ x ≤ 9223372036854775807) :
    Calls Try.prog 11 #[.int .i64 (k : Int), .int .i64 (m : Int), pv, lv] w fun e w' => e = .returned (.bool true) ∧ Fr (fun _ => False) w w' := by
  have HBo := hide (both_ok w k m hk hm)
  have HP := hide hp
  have HL := hide hl
  have HLB := hide hlb
  obtain ⟨po, pc, rfl⟩ := hp.shape
  obtain ⟨lo, lc, rfl⟩ := hl.shape
  rw [List.length_map] at HL ⊢
  obtain ⟨n, hn⟩ : ∃ n, n = p.length / k := ⟨_, rfl⟩
  have hkn : k * n ≤ p.length := by rw [hn]; exact Nat.mul_div_le _ _
  have hnp : n ≤ p.length := by rw [hn]; exact Nat.div_le_self _ _
  have HSH := hide (fun W (f : Fr (fun _ => False) w W) => shards_any W _ p k n ((unhide HP).kept f (fun _ _ h => h)) hk hpn hn)
  have HWD := hide (shL_wid hkn)
  have b1 : decide ((9000 : Int) < (p.length : Int)) = false := by simp; omega
  have b2 : decide ((30 : Int) < (lost.length : Int)) = false := by simp; omega
  generalize p.length = pl at *
  obtain ⟨ll, hll⟩ : ∃ ll, ll = lost.length := ⟨_, rfl⟩
  rw [← hll] at HL b2 hln ⊢
  have HLL := hide hll
  obtain ⟨D, hD⟩ : ∃ D, D = shL n p k := ⟨_, rfl⟩
  have hDl : D.length = k := by rw [hD, shL_length]
  rw [← hD] at HSH HWD
  have HDL := hide hDl
  clear hp hl hlb hn hkn hll hD hDl
  go_enter Try.func11, Try.ntmps11
  go_wp2_with fail
  refine (unhide HBo).mono ?_
  rintro e w1 ⟨⟨cp, dp, rfl, -, -, hC, -⟩, f1⟩
  have HC1 := hide hC
  have HF1 := hide f1
  clear hC f1 HBo
  go_wp2_with fail
  refine (unhide HSH _ (unhide HF1)).mono ?_
  rintro e w2 ⟨⟨dao, dac, rfl, hLD⟩, f2⟩
  have hC2 := (unhide HC1).kept f2 (fun _ _ h => h)
  have hse := shl_even (unhide HWD) (by rw [unhide HDL]; omega)
  rw [unhide HDL] at hse
  by_cases hbig : n ≤ 4096
  · rw [if_pos hbig] at hse
    have HE := hide (encode_ok w2 cp k m _ D hC2 hLD.rdl (by rw [hse]))
    rw [hse] at HE
    have HLD := hide hLD
    have HC2 := hide hC2
    have HF2 := hide ((unhide HF1).trans f2 (fun _ _ h => h))
    clear hLD hC2 hse f2 HSH
    go_wp2_with fail
    refine (unhide HE).mono ?_
    rintro e w3 ⟨⟨qg, rfl, hLQ⟩, f3⟩
    have HLQ := hide hLQ
    have HLD3 := hide ((unhide HLD).kept f3)
    have HC3 := hide ((unhide HC2).kept f3 (fun _ _ h => h))
    have HF3 := hide ((unhide HF2).trans f3 (fun _ _ h => h))
    clear hLQ f3 HE
    obtain ⟨vsD, rvD, lenD, rowsD, newD⟩ := unhide HLD3
    obtain ⟨vsQ, rvQ, lenQ, rowsQ, newQ⟩ := unhide HLQ
    have lD : vsD.length = k := by rw [lenD, unhide HDL]
    have lQ : vsQ.length = m := by rw [lenQ, encL_length]
    have oD := rows_one lenD (fun i x l hx hl => (rowsD i x l hx hl).1)
    have oQ := rows_one lenQ (fun i x l hx hl => (rowsQ i x l hx hl).1)
    have HsD := hide (show Sr (w3.alloc (Obj.cells #[] 22)) 1 (.slice dao k dac) k vsD by have := (rvD.kept ((Fr.refl (fun _ => False) w3).alloc (Obj.cells #[] 22)) (fun _ _ h => h)).sr; rwa [lD] at this)
    have HsQ := hide (show ∀ W, Fr (fun _ => False) w3 W → Sr W 1 (.slice (some ⟨qg, 0, none⟩) m m) m vsQ from fun W f => by have := (rvQ.kept f (fun _ _ h => h)).sr; rwa [lQ] at this)
    obtain ⟨inf, hi0, hz0, hz1, hz2⟩ := info_parts Try.info22
    have HrD := hide rowsD
    have HrQ := hide rowsQ
    have HlD := hide lD
    have HlQ := hide lQ
    have HlenD := hide lenD
    have HlenQ := hide lenQ
    clear rvD lenD rowsD newD rvQ lenQ rowsQ newQ lD lQ
    go_wp2_with (first
      | (go_at_call 48; refine (num3_any _ _).mono ?_; rintro e w' ⟨rfl, rfl⟩)
      | (at_builtin; refine wpList_app rfl (.tmp 79) (.tmp 80) 65 rfl 22 inf _ 1 24 Try.underlying65 hi0 hz0 hz1 hz2 rfl (by decide) (.slice (some ⟨w3.heap.size, 0, none⟩) 0 0) 0 [] rfl (.slice dao k dac) rfl k vsD (owns_newE (heap_alloc_new w3 _)) (unhide HsD) oD (by omega) (by simp only [maxLen]; omega) ?_))
    intro ao4 ac4 w4 o4 g4 p4
    try simp only [Nat.zero_add, List.nil_append] at o4 p4
    have f4 : Fr (fun _ => False) w3 w4 := grown_fr ((Fr.refl _ _).alloc (Obj.cells #[] 22)) g4 (fun k hk => by simp [Value.ownBlock] at hk; omega)
    have n4 : ∀ b, (Value.slice ao4 k ac4).ownBlock = some b → w3.heap.size ≤ b := by
      intro b hb
      rcases p4 with e | ⟨k', e, hk'⟩
      · rw [e] at hb; simp [Value.ownBlock] at hb; omega
      · rw [e] at hb; simp at hb; (try simp at hk'); omega
    have HO4 := hide o4
    have HF4 := hide f4
    have HN4 := hide n4
    clear o4 g4 p4 f4 n4 HsD oD
    go_wp2_with (at_builtin; refine wpList_app rfl (.tmp 81) (.tmp 82) 65 rfl 22 inf _ 1 24 Try.underlying65 hi0 hz0 hz1 hz2 rfl (by decide) (.slice ao4 k ac4) k vsD rfl (.slice (some ⟨qg, 0, none⟩) m m) rfl m vsQ (unhide HO4) (unhide HsQ _ (unhide HF4)) oQ (by omega) (by simp only [maxLen]; omega) ?_)
    intro ao5 ac5 w5 o5 g5 p5
    have f5 : Fr (fun _ => False) w3 w5 := grown_fr (unhide HF4) g5 (unhide HN4)
    have hall : RdL w5 (.slice ao5 (k + m) ac5) (allL k m D n) := by
      refine ⟨vsD ++ vsQ, RdV.of_owns (e := 22) (base := 0) (by rw [List.length_append, unhide HlD, unhide HlQ]; exact o5), by rw [List.length_append, unhide HlD, unhide HlQ, allL_length (unhide HDL)], fun i x l hx hl => ?_⟩
      unfold allL at hl
      by_cases e : i < k
      · rw [List.getElem?_append_left (by rw [unhide HlD]; exact e)] at hx
        rw [List.getElem?_append_left (by rw [unhide HDL]; exact e)] at hl
        exact (unhide HrD i x l hx hl).1.kept f5 (fun _ _ h => h)
      · rw [List.getElem?_append_right (by rw [unhide HlD]; omega), unhide HlD] at hx
        rw [List.getElem?_append_right (by rw [unhide HDL]; omega), unhide HDL] at hl
        exact (unhide HrQ _ x l hx hl).1.kept f5 (fun _ _ h => h)
    have hAlen := allL_length (m := m) (n := n) (unhide HDL)
    have hAwid := allL_wid (m := m) (unhide HDL) (unhide HWD)
    have HAll := hide hall
    have HC5 := hide ((unhide HC3).kept f5 (fun _ _ h => h))
    have HF5 := hide ((unhide HF3).trans f5 (fun _ _ h => h))
    obtain ⟨a, ha⟩ : ∃ a, a = k + m := ⟨_, rfl⟩
    have ea : (k : Int) + (m : Int) = (a : Int) := by omega
    have HAE := hide ha
    have HLE := hide (lent_any w5 _ _ hall (by rw [hAlen]; omega) (fun l hl => by rw [hAwid l hl]; omega))
    rw [hAlen, ← ha] at HLE
    rw [← ha] at HAll ⊢
    have HAL := hide hAlen
    have HAW := hide hAwid
    have ha24 : a ≤ 24 := by omega
    clear o5 g5 p5 f5 hall hAlen hAwid ha HO4 HF4 HN4 HsQ oQ HrD HrQ HLD HLD3 HLQ HC2 HC3 HF2 HF3
    go_wp2_with fail
    refine (unhide HLE).mono ?_
    rintro e w6 ⟨⟨gao, gac, rfl, hLG⟩, f6⟩
    obtain ⟨w7, hmk, hT7, f7⟩ := mkb_any w6 a (by omega)
    obtain ⟨vsG, rvG, lenG, rowsG, newG⟩ := hLG
    have lG : vsG.length = a := by rw [lenG, unhide HAL, unhide HAE]
    obtain ⟨gb, gof, rfl, -, -, -, -⟩ := rvG.lits (by omega)
    obtain ⟨hgb, hgt⟩ := newG gb rfl
    have hgb6 : gb < w6.heap.size := by obtain ⟨cs, hcs⟩ := hgt; exact lt_of_heap hcs
    have hG7 : RdV w7 (.slice (some ⟨gb, gof, none⟩) a gac) vsG ∧ TyAt w7 gb 22 ∧ ∀ (i : Nat) (x : Value) (l : List UInt8), vsG[i]? = some x → (allL k m D n)[i]? = some l → Rd w7 x l ∧ Wb w5.heap.size w7 x := ⟨rvG.kept f7 (fun _ _ h => h), hgt.kept f7, fun i x l hx hl => ⟨(rowsG i x l hx hl).1.kept f7 (fun _ _ h => h), (rowsG i x l hx hl).2.kept f7⟩⟩
    have HG7 := hide hG7
    have HlG := hide lG
    have HT7 := hide hT7
    have HF7 := hide (f6.trans f7 (fun _ _ h => h))
    have hsz7 := f6.size
    clear hG7 lG hT7 f6 f7 rvG lenG rowsG newG hgt
    go_wp2_with fail
    clear hmk
    go_loopw [18] (fun x w' => ∃ i : Nat, i ≤ a ∧ x = .int .i64 (i : Int) ∧ TAt w' w6.heap.size (List.replicate i true ++ List.replicate (a - i) false) ∧ Fr (fun b => b = w6.heap.size) w7 w') (fun x _ => a - (intOf x).toNat)
    case atStart => exact ⟨0, by omega, rfl, by simpa using unhide HT7, Fr.refl _ _⟩
    case round =>
      obtain ⟨i, hi, rfl, hT, hf⟩ := hrel
      by_cases hlt : i < a
      · have c1 := hT.cell i (by simp; omega)
        have z1 := frozen_of_heap hT i
        generalize (List.replicate i true ++ List.replicate (a - i) false)[i]'(by simp; omega) = old at c1
        have hst : (List.replicate i true ++ List.replicate (a - i) false).set i true = List.replicate (i + 1) true ++ List.replicate (a - (i + 1)) false := by
          rw [List.set_append_right _ _ (by simp), List.length_replicate, Nat.sub_self, show a - i = (a - (i + 1)) + 1 by omega, List.replicate_succ, List.set_cons_zero, List.replicate_succ']
          simp
        have HST := hide hst
        have HT := hide hT
        have Hf := hide hf
        clear hT hf hst
        go_wp2_with fail
        go_roundw
        case rel => exact ⟨i + 1, by omega, by go_num, by rw [← unhide HST]; exact (unhide HT).set i true, (unhide Hf).setCell (fun _ => rfl) _⟩
        case measure => simp [intOf]; omega
      · have hie : i = a := by omega
        subst hie
        have hT8 : TAt wr w6.heap.size (List.replicate i true) := by simpa using hT
        have hG8 : RdV wr (.slice (some ⟨gb, gof, none⟩) i gac) vsG ∧ TyAt wr gb 22 ∧ ∀ (j : Nat) (x : Value) (l : List UInt8), vsG[j]? = some x → (allL k m D n)[j]? = some l → Rd wr x l ∧ Wb w5.heap.size wr x := by
          obtain ⟨g1, g2, g3⟩ := unhide HG7
          have hne : gb ≠ w6.heap.size := by omega
          have keep : ∀ b t, TyAt w7 b t → b ≠ w6.heap.size → TyAt wr b t := fun b t ⟨cs, hcs⟩ hb => ⟨cs, by rw [hf.block b (lt_of_heap hcs) hb]; exact hcs⟩
          have h4 : TyAt w7 w6.heap.size 4 := ⟨_, unhide HT7⟩
          refine ⟨g1.kept hf (fun b hb => by simp [Value.ownBlock] at hb; omega), keep gb 22 g2 hne, fun j x l hx hl => ?_⟩
          obtain ⟨r1, r2⟩ := g3 j x l hx hl
          have hx5 : ∀ b, x.ownBlock = some b → b ≠ w6.heap.size := fun b hb => TyAt.ne (r2 b hb).2 h4 (by decide)
          exact ⟨r1.kept hf (fun b hb => hx5 b hb), fun b hb => ⟨(r2 b hb).1, keep b 5 (r2 b hb).2 (hx5 b hb)⟩⟩
        have HT8 := hide hT8
        have HG8 := hide hG8
        have HF8 := hide ((unhide HF7).trans hf (fun b hb h => by omega))
        clear hT hf hT8 hG8 HT7 HG7 HF7
        go_wp2_with fail
        have HLG8 := hide (show LG wr gb gof i gac (allL k m D n) from ⟨vsG, (unhide HG8).1, by rw [unhide HlG, unhide HAL, unhide HAE], fun j x l hx hl => ⟨((unhide HG8).2.2 j x l hx hl).1, ((unhide HG8).2.2 j x l hx hl).2.tf⟩, (unhide HG8).2.1⟩)
        have HGB8 := hide (show GB k m n D (allL k m D n) (List.replicate i true) 0 from ⟨unhide HAL, by rw [List.length_replicate]; exact unhide HAE, fun _ _ => rfl, by rw [wl_all, unhide HAE]; rfl, Nat.zero_le _⟩)
        clear HG8
        go_loopw [19, 20, 21] (fun gx x u w' => ∃ (j gone : Nat) (bs : List Bool) (G : List (List UInt8)), j ≤ ll ∧ gx = .int .i64 (gone : Int) ∧ x = .int .i64 (j : Int) ∧ TAt w' w6.heap.size bs ∧ GB k m n D G bs gone ∧ LG w' gb gof i gac G ∧ Fr (fun _ => False) w5 w') (fun _ x _ _ => ll - (intOf x).toNat)
        case atStart => exact ⟨0, 0, _, _, by omega, rfl, rfl, unhide HT8, unhide HGB8, unhide HLG8, unhide HF8⟩
        case round =>
          obtain ⟨j, gone, bs, G, hj, rfl, rfl, hT, hGB, hLG, hf⟩ := hrel
          have hgl := hGB.le
          by_cases hgo : j < ll ∧ gone < m
          · obtain ⟨hj1, hg1⟩ := hgo
            have g1 : decide ((j : Int) < (ll : Int)) = true := by simp; omega
            have g2 : decide ((gone : Int) < (m : Int)) = true := by simp; omega
            obtain ⟨lb, lof, rfl, -, -, -, hcl⟩ := ((unhide HL).kept ((unhide HF5).trans hf (fun _ _ h => h)) (fun _ _ h => h)).lits (by simp; have := unhide HLL; omega)
            have c1 := hcl j (by simp; have := unhide HLL; omega)
            rw [List.getElem_map] at c1
            have hxb := unhide HLB _ (List.getElem_mem (show j < lost.length by have := unhide HLL; omega))
            generalize lost[j] = x at *
            obtain ⟨t1, t2⟩ := tmod_at x i (by omega)
            have hi0' : ((i : Int) == 0) = false := by simp; omega
            generalize hgt : x.tmod (i : Int) = tt at *
            obtain ⟨at', hat, hlt'⟩ : ∃ at' : Nat, (if tt < 0 then tt + (i : Int) else tt) = (at' : Int) ∧ at' < i := by
              by_cases h0 : tt < 0
              · exact ⟨(tt + (i : Int)).toNat, by rw [if_pos h0]; omega, by omega⟩
              · exact ⟨tt.toNat, by rw [if_neg h0]; omega, by omega⟩
            have hak : at' < k + m := by have := unhide HAE; omega
            have hbl : at' < bs.length := by rw [hGB.hb]; exact hak
            have hGl : at' < G.length := by rw [hGB.hG]; exact hak
            have cb := hT.cell at' hbl
            have zb := frozen_of_heap hT at'
            have HT := hide hT
            have HGB := hide hGB
            have HLGr := hide hLG
            have Hf := hide hf
            have hbe : bs[at']? = some bs[at'] := List.getElem?_eq_getElem hbl
            have HBE := hide hbe
            have ht6 : TyAt wr w6.heap.size 4 := ⟨_, hT⟩
            have HT6 := hide ht6
            clear hcl hT hGB hLG hf hbe ht6
            generalize bs[at'] = bv at *
            clear hbl
            by_cases h0 : tt < 0
            · rw [if_pos h0] at hat
              have b5 : decide (tt < 0) = true := by simpa using h0
              have e5 : tt + (k : Int) + (m : Int) = (at' : Int) := by omega
              rcases bv with _ | _
              · go_wp2_with fail
                go_roundw
                case rel => exact ⟨j + 1, gone, bs, G, by omega, rfl, by go_num, unhide HT, unhide HGB, unhide HLGr, unhide Hf⟩
                case measure => simp [intOf]; omega
              · obtain ⟨uo, cg, zg⟩ := (unhide HLGr).cell at' hGl
                have hgw := World.block_lt_of_cell? wr _ cg
                simp only at hgw
                have hne : gb ≠ w6.heap.size := by omega
                have hs8 := (unhide Hf).size
                have hgw5 : w5.heap.size ≤ gb := hgb
                have LG1 := (unhide HLGr).other (unhide HT6) (by decide) hne at' (.bool false)
                have T1 := (unhide HT).set at' false
                have F1 : Fr (fun _ => False) w5 (wr.setCell ⟨w6.heap.size, at', none⟩ (.bool false)) := (unhide Hf).setCell (fun h => by simp only at h; omega) _
                have hcv := Lib.run_convert_bytes_const (P := Try.prog) (wr.setCell ⟨w6.heap.size, at', none⟩ (.bool false)) 22 5 #[.int .u8 108, .int .u8 111, .int .u8 115, .int .u8 116] 4 4 Try.underlying22 Try.underlying5
                have LR := lost_row (wr.setCell ⟨w6.heap.size, at', none⟩ (.bool false))
                have F2 : Fr (fun _ => False) (wr.setCell ⟨w6.heap.size, at', none⟩ (.bool false)) ((wr.setCell ⟨w6.heap.size, at', none⟩ (.bool false)).alloc (Obj.cells #[.int .u8 108, .int .u8 111, .int .u8 115, .int .u8 116] 5 (4, 5))) := (Fr.refl _ _).alloc _
                have LG2 := LG1.kept F2
                obtain ⟨u2, cg2, zg2⟩ := LG2.cell at' hGl
                have LG3 := LG2.set at' _ [108, 111, 115, 116] hGl LR.1 LR.2
                have T3 : TAt (((wr.setCell ⟨w6.heap.size, at', none⟩ (.bool false)).alloc (Obj.cells #[.int .u8 108, .int .u8 111, .int .u8 115, .int .u8 116] 5 (4, 5))).setCell ⟨gb, gof + at', none⟩ (.slice (some ⟨(wr.setCell ⟨w6.heap.size, at', none⟩ (.bool false)).heap.size, 0, none⟩) 4 4)) w6.heap.size (bs.set at' false) :=
                  (T1.kept F2 id).kept ((Fr.refl (fun b => b = gb) _).setCell (p := ⟨gb, gof + at', none⟩) (fun _ => rfl) _) (fun e => hne e.symm)
                have F3 : Fr (fun _ => False) w5 (((wr.setCell ⟨w6.heap.size, at', none⟩ (.bool false)).alloc (Obj.cells #[.int .u8 108, .int .u8 111, .int .u8 115, .int .u8 116] 5 (4, 5))).setCell ⟨gb, gof + at', none⟩ (.slice (some ⟨(wr.setCell ⟨w6.heap.size, at', none⟩ (.bool false)).heap.size, 0, none⟩) 4 4)) := (F1.trans F2 (fun _ _ h => h)).setCell (fun h => by simp only at h; omega) _
                have hsz : (wr.setCell ⟨w6.heap.size, at', none⟩ (.bool false)).heap.size = wr.heap.size := by simp
                rw [hsz] at hcv LG3 T3 F3
                clear LG1 T1 F1 LR F2 LG2 hsz
                generalize (wr.setCell ⟨w6.heap.size, at', none⟩ (.bool false)).alloc (Obj.cells #[.int .u8 108, .int .u8 111, .int .u8 115, .int .u8 116] 5 (4, 5)) = wz at *
                have HG9 := hide ((unhide HGB).lose hak (unhide HBE) hg1 [108, 111, 115, 116])
                have HLG3 := hide LG3
                have HT3 := hide T3
                have HF3 := hide F3
                clear LG3 T3 F3
                go_wp2_with fail
                go_roundw
                case rel => exact ⟨j + 1, gone + 1, _, _, by omega, by go_num, by go_num, unhide HT3, unhide HG9, unhide HLG3, unhide HF3⟩
                case measure => simp [intOf]; omega
            · rw [if_neg h0] at hat
              subst hat
              have b5 : decide (((at' : Nat) : Int) < 0) = false := by simp
              rcases bv with _ | _
              · go_wp2_with fail
                go_roundw
                case rel => exact ⟨j + 1, gone, bs, G, by omega, rfl, by go_num, unhide HT, unhide HGB, unhide HLGr, unhide Hf⟩
                case measure => simp [intOf]; omega
              · obtain ⟨uo, cg, zg⟩ := (unhide HLGr).cell at' hGl
                have hgw := World.block_lt_of_cell? wr _ cg
                simp only at hgw
                have hne : gb ≠ w6.heap.size := by omega
                have hs8 := (unhide Hf).size
                have hgw5 : w5.heap.size ≤ gb := hgb
                have LG1 := (unhide HLGr).other (unhide HT6) (by decide) hne at' (.bool false)
                have T1 := (unhide HT).set at' false
                have F1 : Fr (fun _ => False) w5 (wr.setCell ⟨w6.heap.size, at', none⟩ (.bool false)) := (unhide Hf).setCell (fun h => by simp only at h; omega) _
                have hcv := Lib.run_convert_bytes_const (P := Try.prog) (wr.setCell ⟨w6.heap.size, at', none⟩ (.bool false)) 22 5 #[.int .u8 108, .int .u8 111, .int .u8 115, .int .u8 116] 4 4 Try.underlying22 Try.underlying5
                have LR := lost_row (wr.setCell ⟨w6.heap.size, at', none⟩ (.bool false))
                have F2 : Fr (fun _ => False) (wr.setCell ⟨w6.heap.size, at', none⟩ (.bool false)) ((wr.setCell ⟨w6.heap.size, at', none⟩ (.bool false)).alloc (Obj.cells #[.int .u8 108, .int .u8 111, .int .u8 115, .int .u8 116] 5 (4, 5))) := (Fr.refl _ _).alloc _
                have LG2 := LG1.kept F2
                obtain ⟨u2, cg2, zg2⟩ := LG2.cell at' hGl
                have LG3 := LG2.set at' _ [108, 111, 115, 116] hGl LR.1 LR.2
                have T3 : TAt (((wr.setCell ⟨w6.heap.size, at', none⟩ (.bool false)).alloc (Obj.cells #[.int .u8 108, .int .u8 111, .int .u8 115, .int .u8 116] 5 (4, 5))).setCell ⟨gb, gof + at', none⟩ (.slice (some ⟨(wr.setCell ⟨w6.heap.size, at', none⟩ (.bool false)).heap.size, 0, none⟩) 4 4)) w6.heap.size (bs.set at' false) :=
                  (T1.kept F2 id).kept ((Fr.refl (fun b => b = gb) _).setCell (p := ⟨gb, gof + at', none⟩) (fun _ => rfl) _) (fun e => hne e.symm)
                have F3 : Fr (fun _ => False) w5 (((wr.setCell ⟨w6.heap.size, at', none⟩ (.bool false)).alloc (Obj.cells #[.int .u8 108, .int .u8 111, .int .u8 115, .int .u8 116] 5 (4, 5))).setCell ⟨gb, gof + at', none⟩ (.slice (some ⟨(wr.setCell ⟨w6.heap.size, at', none⟩ (.bool false)).heap.size, 0, none⟩) 4 4)) := (F1.trans F2 (fun _ _ h => h)).setCell (fun h => by simp only at h; omega) _
                have hsz : (wr.setCell ⟨w6.heap.size, at', none⟩ (.bool false)).heap.size = wr.heap.size := by simp
                rw [hsz] at hcv LG3 T3 F3
                clear LG1 T1 F1 LR F2 LG2 hsz
                generalize (wr.setCell ⟨w6.heap.size, at', none⟩ (.bool false)).alloc (Obj.cells #[.int .u8 108, .int .u8 111, .int .u8 115, .int .u8 116] 5 (4, 5)) = wz at *
                have HG9 := hide ((unhide HGB).lose hak (unhide HBE) hg1 [108, 111, 115, 116])
                have HLG3 := hide LG3
                have HT3 := hide T3
                have HF3 := hide F3
                clear LG3 T3 F3
                go_wp2_with fail
                go_roundw
                case rel => exact ⟨j + 1, gone + 1, _, _, by omega, by go_num, by go_num, unhide HT3, unhide HG9, unhide HLG3, unhide HF3⟩
                case measure => simp [intOf]; omega
          · by_cases hj1 : j < ll
            · have g1 : decide ((j : Int) < (ll : Int)) = true := by simp; omega
              have g2 : decide ((gone : Int) < (m : Int)) = false := by simp; omega
              have g3 : ¬ gone < m := fun h => hgo ⟨hj1, h⟩
              have g4 : ¬ (gone : Int) < (m : Int) := by omega
              have hHe := hGB.held (unhide HDL) (unhide HWD)
              have hSh := hHe.shl hk.1 hbig
              have hRb := hHe.reb (by omega)
              have hRt := hT.rd (by rw [hGB.hb]; simp only [maxLen]; omega)
              have hbl : bs.length = i := by rw [hGB.hb]; exact (unhide HAE).symm
              rw [hbl] at hRt
              have hCr := (unhide HC5).kept hf (fun _ _ h => h)
              have HRB := hide (rebuild_ok wr cp k m _ _ G bs hCr hLG.rdl hRt hGB.hG hGB.hb (by rw [hSh]) hHe.few)
              rw [hSh] at HRB
              simp only [hRb, ← unhide HAE] at HRB
              have HCr := hide hCr
              have HAllr := hide ((unhide HAll).kept hf)
              have HFr := hide ((unhide HF5).trans hf (fun _ _ h => h))
              clear hHe hSh hRb hRt hbl hCr hT hGB hLG hf
              clear hgo
              go_wp2_with fail
              refine (unhide HRB).mono ?_
              rintro e w9 ⟨⟨g9, rfl, hL9⟩, f9⟩
              have hC9 := (unhide HCr).kept f9 (fun _ _ h => h)
              have hsA := shl_even (unhide HAW) (by rw [unhide HAL]; omega)
              rw [unhide HAL, if_pos hbig] at hsA
              have HCK := hide (check_ok w9 cp k m _ _ hC9 hL9.rdl (by rw [hsA]))
              rw [hsA] at HCK
              rw [show chB k m (allL k m D n) n = true by unfold chB; rw [allL_take (unhide HDL), allL_drop (unhide HDL)]; simp] at HCK
              have HL9 := hide hL9.rdl
              have HAll9 := hide ((unhide HAllr).kept f9)
              have HF9 := hide ((unhide HFr).trans f9 (fun _ _ h => h))
              clear hC9 hsA hL9 f9
              go_wp2_with fail
              refine (unhide HCK).mono ?_
              rintro e w10 ⟨rfl, f10⟩
              have HSM := hide (rsame_any w10 _ _ _ _ ((unhide HL9).kept f10) ((unhide HAll9).kept f10) (by rw [unhide HAL]; omega))
              rw [show decide (allL k m D n = allL k m D n) = true by simp] at HSM
              have HF10 := hide ((unhide HF9).trans f10 (fun _ _ h => h))
              clear f10
              go_wp2_with (first | (go_at_call 48; refine (num3_any _ _).mono ?_; rintro e w' ⟨rfl, rfl⟩) | (go_at_call 47; refine (unhide HSM).mono ?_; rintro e w11 ⟨rfl, f11⟩))
              refine (live3_any _).mono ?_
              rintro e w12 ⟨rfl, f12⟩
              have HF12 := hide (((unhide HF10).trans f11 (fun _ _ h => h)).trans f12 (fun _ _ h => h))
              clear f11 f12
              go_wp2_with fail
              go_ret
              exact ⟨rfl, unhide HF12⟩
            · have g1 : decide ((j : Int) < (ll : Int)) = false := by simp; omega
              have hHe := hGB.held (unhide HDL) (unhide HWD)
              have hSh := hHe.shl hk.1 hbig
              have hRb := hHe.reb (by omega)
              have hRt := hT.rd (by rw [hGB.hb]; simp only [maxLen]; omega)
              have hbl : bs.length = i := by rw [hGB.hb]; exact (unhide HAE).symm
              rw [hbl] at hRt
              have hCr := (unhide HC5).kept hf (fun _ _ h => h)
              have HRB := hide (rebuild_ok wr cp k m _ _ G bs hCr hLG.rdl hRt hGB.hG hGB.hb (by rw [hSh]) hHe.few)
              rw [hSh] at HRB
              simp only [hRb, ← unhide HAE] at HRB
              have HCr := hide hCr
              have HAllr := hide ((unhide HAll).kept hf)
              have HFr := hide ((unhide HF5).trans hf (fun _ _ h => h))
              clear hHe hSh hRb hRt hbl hCr hT hGB hLG hf
              clear hgo
              go_wp2_with fail
              refine (unhide HRB).mono ?_
              rintro e w9 ⟨⟨g9, rfl, hL9⟩, f9⟩
              have hC9 := (unhide HCr).kept f9 (fun _ _ h => h)
              have hsA := shl_even (unhide HAW) (by rw [unhide HAL]; omega)
              rw [unhide HAL, if_pos hbig] at hsA
              have HCK := hide (check_ok w9 cp k m _ _ hC9 hL9.rdl (by rw [hsA]))
              rw [hsA] at HCK
              rw [show chB k m (allL k m D n) n = true by unfold chB; rw [allL_take (unhide HDL), allL_drop (unhide HDL)]; simp] at HCK
              have HL9 := hide hL9.rdl
              have HAll9 := hide ((unhide HAllr).kept f9)
              have HF9 := hide ((unhide HFr).trans f9 (fun _ _ h => h))
              clear hC9 hsA hL9 f9
              go_wp2_with fail
              refine (unhide HCK).mono ?_
              rintro e w10 ⟨rfl, f10⟩
              have HSM := hide (rsame_any w10 _ _ _ _ ((unhide HL9).kept f10) ((unhide HAll9).kept f10) (by rw [unhide HAL]; omega))
              rw [show decide (allL k m D n = allL k m D n) = true by simp] at HSM
              have HF10 := hide ((unhide HF9).trans f10 (fun _ _ h => h))
              clear f10
              go_wp2_with (first | (go_at_call 48; refine (num3_any _ _).mono ?_; rintro e w' ⟨rfl, rfl⟩) | (go_at_call 47; refine (unhide HSM).mono ?_; rintro e w11 ⟨rfl, f11⟩))
              refine (live3_any _).mono ?_
              rintro e w12 ⟨rfl, f12⟩
              have HF12 := hide (((unhide HF10).trans f11 (fun _ _ h => h)).trans f12 (fun _ _ h => h))
              clear f11 f12
              go_wp2_with fail
              go_ret
              exact ⟨rfl, unhide HF12⟩
  · rw [if_neg hbig] at hse
    have HE := hide (encode_no w2 cp k m _ D hC2 hLD.rdl (by rw [unhide HDL]; omega) (by rw [hse]; decide))
    rw [hse] at HE
    obtain ⟨db, dof, xo, xc, rfl, c1, -⟩ := hLD.rdl.get 0 (by rw [unhide HDL]; omega)
    have hl0 := unhide HWD _ (List.getElem_mem (show 0 < D.length by rw [unhide HDL]; omega))
    rw [hl0, Nat.add_zero] at c1
    have b3 : decide ((4096 : Int) < (n : Int)) = true := by simp; omega
    have HF2 := hide ((unhide HF1).trans f2 (fun _ _ h => h))
    clear hLD hC2 hse f2 HSH hl0
    go_wp2_with fail
    refine (unhide HE).mono ?_
    rintro e w3 ⟨rfl, rfl⟩
    go_wp2_with (go_at_call 48; refine (num3_any _ _).mono ?_; rintro e w' ⟨rfl, rfl⟩)
    refine (live3_any _).mono ?_
    rintro e w4 ⟨rfl, f4⟩
    have F := hide ((unhide HF2).trans f4 (fun _ _ h => h))
    clear f4
    go_wp2_with fail
    go_ret
    exact ⟨rfl, unhide F⟩

end Go.Proofs.Ytckmddkhkdcmmaa
