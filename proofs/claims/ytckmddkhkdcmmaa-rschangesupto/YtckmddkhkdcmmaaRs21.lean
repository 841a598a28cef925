/-
  The walk of package rs's Update.
-/
import Derived.Test.YtckmddkhkdcmmaaRs14
import Derived.Deep.RegionHeld3
namespace Go.Proofs.Ytckmddkhkdcmmaa
open Go.RowKit
set_option linter.unusedVariables false

attribute [local go_sem ↓] Go.wp_at_zero Go.wp_at_succ

theorem rows_one21 {w : World} {vs : List Value} {ls : List (List UInt8)} (hl : vs.length = ls.length) (h : ∀ (i : Nat) (x : Value) (l : List UInt8), vs[i]? = some x → ls[i]? = some l → Rd w x l) (u : Value) (hu : u ∈ vs) : u.oneCell' = true := by
  obtain ⟨i, hi, rfl⟩ := List.getElem_of_mem hu
  obtain ⟨a, c, e⟩ := (h i _ (ls[i]'(by omega)) (List.getElem?_eq_getElem hi) (List.getElem?_eq_getElem (by omega))).shape
  rw [e]; rfl

theorem RdV.sr21 {w : World} {v : Value} {vs : List Value} (h : RdV w v vs) : Sr w 1 v vs.length vs := by
  rcases h with ⟨rfl, rfl⟩ | ⟨ad, cap, rfl, h1, h2, h3⟩
  · exact .inl ⟨rfl, rfl, rfl⟩
  · refine .inr ⟨ad, cap, rfl, by simp, fun j u hu => ?_⟩
    obtain ⟨hj, e⟩ := List.getElem?_eq_some_iff.1 hu
    rw [h3 j hj, e]

/-- The parity behind a change. -/
def updL (k m : Nat) (ls : List (List UInt8)) (a : Nat) (x : List UInt8) : List (List UInt8) := (List.range m).map (fun p => addt (co k (k + p) a) (ls.getD p []) x)
theorem updL_length (k m : Nat) (ls : List (List UInt8)) (a : Nat) (x : List UInt8) : (updL k m ls a x).length = m := by simp [updL]
theorem updL_take (k m : Nat) (ls : List (List UInt8)) (a : Nat) (x : List UInt8) (i : Nat) (hi : i < m) : (updL k m ls a x).take (i + 1) = (updL k m ls a x).take i ++ [addt (co k (k + i) a) (ls.getD i []) x] := by
  rw [List.take_succ_eq_append_getElem (by rw [updL_length]; exact hi)]
  simp [updL]

/-- The error of Update. -/
def upE (k m : Nat) (ls : List (List UInt8)) (a : Int) (l x : List UInt8) : Int := if 0 ≤ a ∧ a < (k : Int) then (shl (l :: x :: ls) ((2 + m : Nat) : Int)).2 else 2

theorem update_arg (w : World) (p k m : Nat) (v lv xv : Value) (ls : List (List UInt8)) (l x : List UInt8) (a : Int) (hC : CAt w p k m) (h : RdL w v ls) (hl : Rd w lv l) (hx : Rd w xv x) (ha : ¬ (0 ≤ a ∧ a < (k : Int))) :
    Calls Try.prog 54 #[.pointer (some ⟨p, 0, none⟩), v, .int .i64 a, lv, xv] w fun e w' => e = .returned (.tuple #[.slice none 0 0, .int .i64 2]) ∧ w = w' := by
  obtain ⟨q, h1, -⟩ := hC.ex
  have c0 := cell_of_heap h1 0
  simp at c0
  obtain ⟨vo, vc, rfl⟩ := h.shape
  obtain ⟨lo, lc, rfl⟩ := hl.shape
  obtain ⟨xo, xc, rfl⟩ := hx.shape
  clear hC h1 h hl hx
  by_cases h0 : a < 0
  · have b1 : decide (a < 0) = true := by simpa using h0
    go_enter Try.func54, Try.ntmps54
    go_wp2_with fail
    go_ret2
    exact ⟨rfl, rfl⟩
  · have b1 : decide (a < 0) = false := by simpa using h0
    have b2 : decide ((k : Int) ≤ a) = true := by simp; omega
    go_enter Try.func54, Try.ntmps54
    go_wp2_with fail
    go_ret2
    exact ⟨rfl, rfl⟩

theorem PL.step {N : Nat} {w w' : World} {g m : Nat} {vs : List Value} {ls : List (List UInt8)} (h : PL N w g m vs ls) (hm : vs.length < m) (f : Fr (fun k => k = g) w w') (x : Value) (hh : w'.heap[g]? = some (.cells ((vs ++ List.replicate (m - vs.length) (Value.slice none 0 0)).toArray.setIfInBounds vs.length x) 22 (0, 0))) (l : List UInt8) (hx : Rd w' x l) (hb : Wb N w' x) : PL N w' g m (vs ++ [x]) (ls ++ [l]) := by
  have hg : TyAt w g 22 := ⟨_, h.heap⟩
  refine ⟨?_, by simp; omega, by simp [h.len], ?_⟩
  · rw [hh, List.setIfInBounds_toArray, List.set_append_right _ _ (Nat.le_refl _), Nat.sub_self, show m - vs.length = (m - (vs.length + 1)) + 1 by omega, List.replicate_succ, List.set_cons_zero]
    simp
  · intro i y l' hy hl'
    by_cases e : i < vs.length
    · rw [List.getElem?_append_left e] at hy
      rw [List.getElem?_append_left (by rw [← h.len]; exact e)] at hl'
      have h1 := (h.row i y l' hy hl').1
      have h2 := (h.row i y l' hy hl').2
      refine ⟨h1.kept f (fun b hb' e => TyAt.ne (h2 b hb').2 hg (by decide) e), fun b hb' => ⟨(h2 b hb').1, ?_⟩⟩
      obtain ⟨cs, hc⟩ := (h2 b hb').2
      exact ⟨cs, by rw [f.block b (lt_of_heap hc) (fun e => TyAt.ne (h2 b hb').2 hg (by decide) e)]; exact hc⟩
    · rw [List.getElem?_append_right (by omega)] at hy
      rw [List.getElem?_append_right (by rw [← h.len]; omega)] at hl'
      have hi := (List.getElem?_eq_some_iff.1 hy).1
      simp at hi
      have h0 : i - vs.length = 0 := by omega
      rw [h0] at hy
      rw [← h.len, h0] at hl'
      simp at hy hl'
      subst hy hl'
      exact ⟨hx, hb⟩

theorem owns_two {w : World} {b : Nat} {x y : Value} (hb : w.heap[b]? = some (.cells #[x, y] 22 (0, 0))) : w.ownsRow 0 22 1 (.slice (some ⟨b, 0, none⟩) 2 2) 2 [x, y] :=
  ⟨rfl, .inr ⟨b, 2, #[x, y], rfl, Nat.zero_le _, hb, Nat.le_refl _, by simp [maxLen], rfl, rfl⟩⟩

set_option maxHeartbeats 2000000 in
set_option maxRecDepth 100000 in
theorem update_ok (w : World) (p k m : Nat) (v lv xv : Value) (ls : List (List UInt8)) (l x : List UInt8) (a : Nat) (hC : CAt w p k m) (h : RdL w v ls) (hl : Rd w lv l) (hx : Rd w xv x) (ha : a < k) (hll : ls.length ≤ 1000) (he : (shl (l :: x :: ls) ((2 + m : Nat) : Int)).2 = 0) :
    Calls Try.prog 54 #[.pointer (some ⟨p, 0, none⟩), v, .int .i64 (a : Int), lv, xv] w fun e w' => (∃ g, e = .returned (.tuple #[.slice (some ⟨g, 0, none⟩) m m, .int .i64 0]) ∧ LN w.heap.size w' (.slice (some ⟨g, 0, none⟩) m m) (updL k m ls a (sm l x))) ∧ Fr (fun _ => False) w w' := by
  have hk := hC.hk
  have hm := hC.hm
  obtain ⟨q, h1, h2⟩ := hC.ex
  have HQ := hide (And.intro h1 h2)
  have hqlt := lt_of_heap h2
  clear h2
  have c0 := cell_of_heap h1 0
  have c1 := cell_of_heap h1 1
  simp at c0 c1
  obtain ⟨hsl, hsw, hs4⟩ := shl_ok he
  have hlx0 : l.length = (shl (l :: x :: ls) ((2 + m : Nat) : Int)).1 := hsw l (by simp)
  have hlx1 : x.length = (shl (l :: x :: ls) ((2 + m : Nat) : Int)).1 := hsw x (by simp)
  have hlx : l.length = x.length := by omega
  have hl4 : l.length ≤ 4096 := by omega
  have hlw : ∀ y ∈ ls, y.length = l.length := fun y hy => by rw [hlx0]; exact hsw y (by simp [hy])
  have hlm : ls.length = m := by simp at hsl; omega
  have HLW := hide hlw
  have HLX := hide hlx
  have HLM := hide hlm
  clear hsl hsw hs4 hlx0 hlx1 hlw hlx hlm
  have HC := hide hC
  have HL := hide h
  have Hl := hide hl
  have Hx := hide hx
  have hplt := lt_of_heap h1
  obtain ⟨vo, vc, rfl⟩ := h.shape
  obtain ⟨lo, lc, rfl⟩ := hl.shape
  obtain ⟨xo, xc, rfl⟩ := hx.shape
  have b1 : decide ((a : Int) < 0) = false := by simp
  have b2 : decide ((k : Int) ≤ (a : Int)) = false := by simp; omega
  clear hC h1 h hl hx
  obtain ⟨inf, hi0, hz0, hz1, hz2⟩ := info_parts Try.info22
  obtain ⟨vs, hV, hvl, hrows⟩ := unhide HL
  have hvi : vs.length = ls.length := hvl
  have oV := rows_one21 hvl hrows
  have HSV := hide (show ∀ W, Fr (fun _ => False) w W → Sr W 1 (.slice vo ls.length vc) ls.length vs from fun W f => by have := (hV.kept f (fun _ _ h => h)).sr21; rwa [hvl] at this)
  have HSH := hide (show ∀ W ao ac, Fr (fun _ => False) w W → W.ownsRow 0 22 1 (.slice ao (2 + ls.length) ac) (2 + ls.length) ([.slice lo l.length lc, .slice xo x.length xc] ++ vs) → Calls Try.prog 93 #[.slice ao (2 + ls.length) ac, .int .i64 ((2 + m : Nat) : Int)] W fun e w' => e = .returned (.tuple #[.int .i64 ((shl (l :: x :: ls) ((2 + m : Nat) : Int)).1 : Int), .int .i64 0]) ∧ W = w' from fun W ao ac f o => by
    have hR : RdL W (.slice ao (2 + ls.length) ac) (l :: x :: ls) := by
      refine ⟨[.slice lo l.length lc, .slice xo x.length xc] ++ vs, RdV.of_owns (e := 22) (base := 0) (by rw [show ([Value.slice lo l.length lc, .slice xo x.length xc] ++ vs).length = 2 + ls.length by simp [hvl]; omega]; exact o), by simp [hvl], fun i y l' hy hl' => ?_⟩
      rcases i with _ | _ | i
      · simp at hy hl'; subst hy hl'; exact (unhide Hl).kept f (fun _ _ h => h)
      · simp at hy hl'; subst hy hl'; exact (unhide Hx).kept f (fun _ _ h => h)
      · simp at hy hl'; exact (hrows i y l' hy hl').kept f (fun _ _ h => h)
    have := shardLength_any W _ _ ((2 + m : Nat) : Int) hR (by simp; omega)
    rwa [he] at this)
  have e2m : (2 : Int) + (m : Int) = ((2 + m : Nat) : Int) := by omega
  generalize hA2 : 2 + m = a2 at *
  have b4 : IntKind.i64.wrap (a2 : Int) = (a2 : Int) := by rw [IntKind.wrap_i64]; omega
  clear hV hvl hrows hvi hA2
  go_enter Try.func54, Try.ntmps54
  go_wp2_with fail
  go_region_held3 (fun W => W.cell? ⟨p, 1, none⟩ = some (.int .i64 (m : Int))) (go_keep) ((first
    | (refine step_app rfl (.tmp 32) (.tmp 33) 65 rfl 22 inf _ 1 24 Try.underlying65 hi0 hz0 hz1 hz2 rfl (by decide) (.slice (some ⟨w.heap.size, 0, none⟩) 2 2) 2 [.slice lo l.length lc, .slice xo x.length xc] (by rfl) (.slice vo ls.length vc) (by rfl) ls.length vs (by exact owns_two (by first | exact heap_alloc_new w _ | exact heap_alloc_new w.drew _)) (by exact unhide HSV _ (by first | exact (Fr.refl _ _).alloc _ | exact ((Fr.refl _ _).alloc _).drew | exact (Fr.refl _ _).drew.alloc _)) oV (by omega) (by simp only [maxLen]; omega) ?_; intro ao1 ac1 w1 o1 g1 p1; have f1 := grown_fr (wr := w) (by first | exact (Fr.refl _ _).alloc _ | exact ((Fr.refl _ _).alloc _).drew | exact (Fr.refl _ _).drew.alloc _) g1 (fun k hk => by simp [Value.ownBlock] at hk; omega); have s1 := (f1.cell (a := ⟨p, 1, none⟩) hplt id).trans c1)
    | (go_at_call 93; refine (unhide HSH _ _ _ (by first | exact f1 | exact f1.drew) (by first | exact o1 | exact owns_kept o1 (Fr.refl _ _).drew (fun _ _ h => h))).mono ?_; rintro e w2 ⟨rfl, rfl⟩)))
  all_goals
    have HF1 := hide f1
    have hs1 := f1.size
    have hp1 : p < w1.heap.size := by omega
    have r0 : w1.cell? ⟨p, 0, none⟩ = some (.int .i64 (k : Int)) := by rw [f1.cell (a := ⟨p, 0, none⟩) hplt id]; exact c0
    clear o1 g1 p1 f1 HSH HSV
    have HGS := hide (show ∀ W, Fr (fun _ => False) w1 W → _ from fun W f => gsum_ok W _ _ l x ((unhide Hl).kept ((unhide HF1).trans f (fun _ _ h => h)) (fun _ _ h => h)) ((unhide Hx).kept ((unhide HF1).trans f (fun _ _ h => h)) (fun _ _ h => h)) (unhide HLX) hl4)
    go_wp2_with fail
    refine (unhide HGS _ (by first | exact Fr.refl _ _ | exact (Fr.refl _ _).drew)).mono ?_
    rintro e w3 ⟨⟨so, sc, rfl, hS⟩, f3⟩
    have s3 := f3.size
    have HF3 := hide ((unhide HF1).trans (f3.mono (T := fun _ => False) (fun _ _ h => h)) (fun _ _ h => h))
    have d0 : w3.cell? ⟨p, 0, none⟩ = some (.int .i64 (k : Int)) := by rw [f3.cell (a := ⟨p, 0, none⟩) (by first | exact hp1 | exact hp1) id]; exact r0
    have d1 : w3.cell? ⟨p, 1, none⟩ = some (.int .i64 (m : Int)) := by rw [f3.cell (a := ⟨p, 1, none⟩) (by first | exact hp1 | exact hp1) id]; exact s1
    obtain ⟨w4, hmk, hP4, hf4⟩ := mkl_any w.heap.size w3 m (by omega)
    have HP4 := hide hP4
    have HF4 := hide hf4
    have HS := hide hS
    have hs3 : w.heap.size ≤ w3.heap.size := (unhide HF3).size
    clear hP4 hf4 hS f3 s3 hs1 r0 s1 HF1 HGS
    go_wp2_with fail
    clear hmk
    go_loopw [62] (fun y w' => ∃ i : Nat, i ≤ m ∧ y = .int .i64 (i : Int) ∧ (∃ us : List Value, us.length = i ∧ PL w.heap.size w' w3.heap.size m us ((updL k m ls a (sm l x)).take i)) ∧ Fr (fun _ => False) w3 w') (fun y _ => m - (intOf y).toNat)
    case atStart => exact ⟨0, by omega, rfl, ⟨[], rfl, unhide HP4⟩, unhide HF4⟩
    case round =>
      obtain ⟨i, hi, rfl, ⟨us, hus, hP⟩, hf⟩ := hrel
      by_cases hlt : i < m
      · have hFw := (unhide HF3).trans hf (fun _ _ h => h)
        have hil : i < ls.length := by rw [unhide HLM]; exact hlt
        obtain ⟨vb, vof, yo, yc, rfl, y1, hRy⟩ := ((unhide HL).kept hFw).get i hil
        have hyn : (ls[i]).length = l.length := unhide HLW _ (List.getElem_mem _)
        have hgd : ls.getD i [] = ls[i] := by simp [List.getD, hil]
        have HST := hide (updL_take k m ls a (sm l x) i hlt)
        rw [hgd] at HST
        have HCO := hide (copyOf_any wr _ ls[i] hRy (by omega))
        rw [hyn] at HCO y1
        obtain ⟨ki, hki⟩ : ∃ ki, ki = k + i := ⟨_, rfl⟩
        rw [← hki] at HST
        have eI : (k : Int) + (i : Int) = (ki : Int) := by omega
        have b5 : IntKind.i64.wrap (ki : Int) = (ki : Int) := by rw [IntKind.wrap_i64]; omega
        have hPr := lt_of_heap hP.heap
        have HP := hide hP
        have Hf := hide hf
        have HUS := hide hus
        have HKI := hide hki
        have HYN := hide hyn
        have hsr := hf.size
        have hpr : p < wr.heap.size := by omega
        have hqr : q < wr.heap.size := by omega
        have r0 : wr.cell? ⟨p, 0, none⟩ = some (.int .i64 (k : Int)) := by rw [hf.cell (a := ⟨p, 0, none⟩) (show p < w3.heap.size by omega) id]; exact d0
        have r1 := ((unhide HQ).2.kept hFw id).cell (ki * k + a) (by rw [fl_length]; exact mul_step (by omega) ha)
        have eco : (fl k (co k) ((k + m) * k))[ki * k + a]'(by rw [fl_length]; exact mul_step (by omega) ha) = co k ki a := by
          rw [fl_get, Nat.mul_comm ki k, Nat.mul_add_div (by omega), Nat.div_eq_of_lt ha, Nat.mul_add_mod, Nat.mod_eq_of_lt ha, Nat.add_zero]
        rw [eco] at r1
        have hp0 := (unhide HQ).1
        rw [← hFw.block p hplt id] at hp0
        have HP0 := hide hp0
        generalize ls[i] = li at *
        generalize co k ki a = cc at *
        clear hP hf hus hki hRy hFw hyn hgd eco hp0
        go_wp2_with fail
        refine (unhide HCO).mono ?_
        rintro e w5 ⟨rfl, hB5, f5⟩
        have hP5 := (unhide HP).kept f5
        have hc := hP5.cell (by rw [unhide HUS]; exact hlt)
        rw [unhide HUS] at hc
        have HB5 := hide hB5
        have HF5 := hide f5
        have HH5 := hide hP5.heap
        have hc1 := hc.1
        have hc2 := hc.2
        have t5 : w5.cell? ⟨p, 0, none⟩ = some (.int .i64 (k : Int)) := by rw [f5.cell (a := ⟨p, 0, none⟩) hpr id]; exact r0
        have t6 : w5.cell? ⟨q, ki * k + a, none⟩ = some (.int .u8 (cc.toNat : Int)) := by rw [f5.cell (a := ⟨q, ki * k + a, none⟩) hqr id]; exact r1
        clear hc hP5 hB5 f5 HCO
        go_wp2_with fail
        obtain ⟨w6, hw6⟩ : ∃ w6, w6 = w5.setCell ⟨w3.heap.size, i, none⟩ (Value.slice (some ⟨wr.heap.size, 0, none⟩) l.length l.length) := ⟨_, rfl⟩
        have f6 : Fr (fun k => k = w3.heap.size) w5 w6 := by rw [hw6]; exact (Fr.refl (fun k => k = w3.heap.size) w5).setCell (p := ⟨w3.heap.size, i, none⟩) (fun _ => rfl) _
        have hh6 := heap_setCell_same w5 w3.heap.size i _ 22 (Value.slice (some ⟨wr.heap.size, 0, none⟩) l.length l.length) (unhide HH5)
        rw [← hw6] at hh6 ⊢
        have hgi : w6.cell? ⟨w3.heap.size, i, none⟩ = some (.slice (some ⟨wr.heap.size, 0, none⟩) l.length l.length) := by
          rw [cell_of_heap hh6, Array.getElem?_setIfInBounds_self_of_lt]
          have := unhide HUS
          have := (unhide HP).le
          simp
          omega
        have hs5 := (unhide HF5).size
        have t7 : w6.cell? ⟨p, 0, none⟩ = some (.int .i64 (k : Int)) := by rw [f6.cell (a := ⟨p, 0, none⟩) (show p < w5.heap.size by omega) (show ¬ p = w3.heap.size by omega)]; exact t5
        have t8 : w6.cell? ⟨q, ki * k + a, none⟩ = some (.int .u8 (cc.toNat : Int)) := by rw [f6.cell (a := ⟨q, ki * k + a, none⟩) (show q < w5.heap.size by omega) (show ¬ q = w3.heap.size by omega)]; exact t6
        have hB6 := (unhide HB5).kept f6 (show ¬ wr.heap.size = w3.heap.size by omega)
        have F36 := ((unhide Hf).trans (unhide HF5) (fun _ _ h => h)).trans f6 (fun b hb h => show False by omega)
        have Fr6 : Fr (fun k => k = w3.heap.size) wr w6 := ((unhide HF5).mono (fun _ _ h => h.elim)).trans f6 (fun _ _ h => h)
        have hs6 := f6.size
        have hp6 : w6.heap[p]? = _ := (Fr6.block p hpr (show ¬ p = w3.heap.size by omega)).trans (unhide HP0)
        have hkk : (ki + 1) * k ≤ (k + m) * k := Nat.mul_le_mul_right _ (by have := unhide HKI; omega)
        have hkm : (k + m) * k ≤ 24 * 16 := Nat.mul_le_mul (by omega) hk.2
        have HRO := hide (show ∀ W, Fr (fun _ => False) w6 W → _ from fun W f => row_raw W p q k m ki _ ((f.block p (show p < w6.heap.size by omega) id).trans hp6) (by have := unhide HKI; omega) hk hkk (by omega))
        have HSR := hide ((unhide HS).kept F36 (fun _ _ h => h))
        have HSL := hide (sm_length (unhide HLX))
        have HAT := hide (show ∀ W, Fr (fun _ => False) w6 W → Calls Try.prog 101 #[.slice (some ⟨wr.heap.size, 0, none⟩) l.length l.length, .int .u8 (cc.toNat : Int), .slice so l.length sc] W fun e w' => e = .returned (.tuple #[]) ∧ BAt w' wr.heap.size (addt cc li (sm l x)) ∧ Fr (fun k => k = wr.heap.size) W w' from fun W f => by
          have := rsAddTimes_any W wr.heap.size li cc _ (sm l x) (hB6.kept f id) ((unhide HSR).kept f (fun _ _ h => h)) (by rw [unhide HYN]; exact hl4) (by rw [unhide HSL, unhide HYN])
          rwa [unhide HYN] at this)
        have HF6 := hide F36
        have HFr6 := hide Fr6
        have HH6 := hide hh6
        have hb6 : wr.heap.size < w6.heap.size := lt_of_heap hB6
        clear hw6 f6 hh6 t5 t6 hB6 F36 Fr6 hc1 hc2 hp6 hkk hkm
        go_region_held3 (fun W => W.cell? ⟨p, 0, none⟩ = some (.int .i64 (k : Int)) ∧ W.cell? ⟨w3.heap.size, i, none⟩ = some (.slice (some ⟨wr.heap.size, 0, none⟩) l.length l.length) ∧ W.cell? ⟨q, ki * k + a, none⟩ = some (.int .u8 (cc.toNat : Int))) (go_keep) ((first
          | (go_at_call 91; refine (unhide HRO _ (by first | exact Fr.ofDrewN _ 1 | exact Fr.ofDrewN _ _)).mono ?_; rintro e w7 ⟨rfl, j7, rfl⟩)
          | (go_at_call 101; refine (unhide HAT _ (by first | exact Fr.ofDrewN _ _ | exact (Fr.ofDrewN _ _).drew)).mono ?_; rintro e w8 ⟨rfl, hB8, f8⟩; have F8 : Fr (fun k => k = wr.heap.size) w6 w8 := (by first | exact (Fr.ofDrewN (S := fun k => k = wr.heap.size) w6 _).trans f8 (fun _ _ h => h) | exact ((Fr.ofDrewN (S := fun k => k = wr.heap.size) w6 _).drew).trans f8 (fun _ _ h => h)); have u1 := (F8.cell (a := ⟨p, 0, none⟩) (show p < w6.heap.size by omega) (show ¬ p = wr.heap.size by omega)).trans t7; have u2 := (F8.cell (a := ⟨w3.heap.size, i, none⟩) (show w3.heap.size < w6.heap.size by omega) (show ¬ w3.heap.size = wr.heap.size by omega)).trans hgi; have u3 := (F8.cell (a := ⟨q, ki * k + a, none⟩) (show q < w6.heap.size by omega) (show ¬ q = wr.heap.size by omega)).trans t8)))
        all_goals
          have hh8 := (F8.block w3.heap.size (show w3.heap.size < w6.heap.size by omega) (show ¬ w3.heap.size = wr.heap.size by omega)).trans (unhide HH6)
          have Fr8 : Fr (fun k => k = w3.heap.size) wr w8 := (unhide HFr6).trans F8 (fun b hb h => show b = w3.heap.size by omega)
          have hR8 := hB8.rd (by rw [addt_length _ _ _ (by rw [unhide HSL, unhide HYN]), unhide HYN]; simp only [maxLen]; omega)
          rw [addt_length _ _ _ (by rw [unhide HSL, unhide HYN]), unhide HYN] at hR8
          have hP8 := (unhide HP).step (by rw [unhide HUS]; exact hlt) Fr8 _ (by rw [unhide HUS]; have h5 := hh8; rw [unhide HUS] at h5; exact h5) _ hR8 (Wb.of_bat hB8 (by omega))
          rw [← unhide HST] at hP8
          have HP8 := hide hP8
          have HF8 := hide ((unhide HF6).trans F8 (fun b hb h => show False by omega))
          clear hP8 hR8 Fr8 hh8 u1 u2 u3 F8 f8 hB8
          go_wp2_with fail
          go_roundw
          case rel => exact ⟨i + 1, by omega, by go_num, ⟨_, by simp [unhide HUS], unhide HP8⟩, by first | exact unhide HF8 | exact (unhide HF8).drew⟩
          case measure => simp [intOf]; omega
      · have hie : i = m := by omega
        subst hie
        have HP := hide hP
        have Hf := hide hf
        have HUS := hide hus
        clear hP hf hus
        go_wp2_with fail
        go_ret2
        have := (unhide HP).done (unhide HUS) (by omega) (by simp only [maxLen]; omega)
        rw [List.take_of_length_le (by rw [updL_length]; omega)] at this
        exact ⟨⟨_, rfl, this⟩, (unhide HF3).trans (unhide Hf) (fun _ _ h => h)⟩

set_option maxHeartbeats 2000000 in
set_option maxRecDepth 100000 in
theorem update_no (w : World) (p k m : Nat) (v lv xv : Value) (ls : List (List UInt8)) (l x : List UInt8) (a : Nat) (hC : CAt w p k m) (h : RdL w v ls) (hl : Rd w lv l) (hx : Rd w xv x) (ha : a < k) (hll : ls.length ≤ 1000) (he : (shl (l :: x :: ls) ((2 + m : Nat) : Int)).2 ≠ 0) :
    Calls Try.prog 54 #[.pointer (some ⟨p, 0, none⟩), v, .int .i64 (a : Int), lv, xv] w fun e w' => e = .returned (.tuple #[.slice none 0 0, .int .i64 (shl (l :: x :: ls) ((2 + m : Nat) : Int)).2]) ∧ Fr (fun _ => False) w w' := by
  have hk := hC.hk
  have hm := hC.hm
  obtain ⟨q, h1, h2⟩ := hC.ex
  have c0 := cell_of_heap h1 0
  have c1 := cell_of_heap h1 1
  simp at c0 c1
  have HL := hide h
  have Hl := hide hl
  have Hx := hide hx
  have hplt := lt_of_heap h1
  obtain ⟨vo, vc, rfl⟩ := h.shape
  obtain ⟨lo, lc, rfl⟩ := hl.shape
  obtain ⟨xo, xc, rfl⟩ := hx.shape
  have b1 : decide ((a : Int) < 0) = false := by simp
  have b2 : decide ((k : Int) ≤ (a : Int)) = false := by simp; omega
  clear hC h1 h hl hx h2
  obtain ⟨inf, hi0, hz0, hz1, hz2⟩ := info_parts Try.info22
  obtain ⟨vs, hV, hvl, hrows⟩ := unhide HL
  have oV := rows_one21 hvl hrows
  have HSV := hide (show ∀ W, Fr (fun _ => False) w W → Sr W 1 (.slice vo ls.length vc) ls.length vs from fun W f => by have := (hV.kept f (fun _ _ h => h)).sr21; rwa [hvl] at this)
  have HSH := hide (show ∀ W ao ac, Fr (fun _ => False) w W → W.ownsRow 0 22 1 (.slice ao (2 + ls.length) ac) (2 + ls.length) ([.slice lo l.length lc, .slice xo x.length xc] ++ vs) → Calls Try.prog 93 #[.slice ao (2 + ls.length) ac, .int .i64 ((2 + m : Nat) : Int)] W fun e w' => e = .returned (.tuple #[.int .i64 ((shl (l :: x :: ls) ((2 + m : Nat) : Int)).1 : Int), .int .i64 (shl (l :: x :: ls) ((2 + m : Nat) : Int)).2]) ∧ W = w' from fun W ao ac f o => by
    have hR : RdL W (.slice ao (2 + ls.length) ac) (l :: x :: ls) := by
      refine ⟨[.slice lo l.length lc, .slice xo x.length xc] ++ vs, RdV.of_owns (e := 22) (base := 0) (by rw [show ([Value.slice lo l.length lc, .slice xo x.length xc] ++ vs).length = 2 + ls.length by simp [hvl]; omega]; exact o), by simp [hvl], fun i y l' hy hl' => ?_⟩
      rcases i with _ | _ | i
      · simp at hy hl'; subst hy hl'; exact (unhide Hl).kept f (fun _ _ h => h)
      · simp at hy hl'; subst hy hl'; exact (unhide Hx).kept f (fun _ _ h => h)
      · simp at hy hl'; exact (hrows i y l' hy hl').kept f (fun _ _ h => h)
    exact shardLength_any W _ _ ((2 + m : Nat) : Int) hR (by simp; omega))
  have e2m : (2 : Int) + (m : Int) = ((2 + m : Nat) : Int) := by omega
  generalize hA2 : 2 + m = a2 at *
  have b4 : IntKind.i64.wrap (a2 : Int) = (a2 : Int) := by rw [IntKind.wrap_i64]; omega
  generalize shl (l :: x :: ls) (a2 : Int) = r at *
  obtain ⟨n, e⟩ := r
  have b3 : (e != 0) = true := by simpa using he
  clear hV hvl hrows hA2 he
  go_enter Try.func54, Try.ntmps54
  go_wp2_with fail
  go_region_held3 (fun W => W.cell? ⟨p, 1, none⟩ = some (.int .i64 (m : Int))) (go_keep) ((first
    | (refine step_app rfl (.tmp 32) (.tmp 33) 65 rfl 22 inf _ 1 24 Try.underlying65 hi0 hz0 hz1 hz2 rfl (by decide) (.slice (some ⟨w.heap.size, 0, none⟩) 2 2) 2 [.slice lo l.length lc, .slice xo x.length xc] (by rfl) (.slice vo ls.length vc) (by rfl) ls.length vs (by exact owns_two (by first | exact heap_alloc_new w _ | exact heap_alloc_new w.drew _)) (by exact unhide HSV _ (by first | exact (Fr.refl _ _).alloc _ | exact ((Fr.refl _ _).alloc _).drew | exact (Fr.refl _ _).drew.alloc _)) oV (by omega) (by simp only [maxLen]; omega) ?_; intro ao1 ac1 w1 o1 g1 p1; have f1 := grown_fr (wr := w) (by first | exact (Fr.refl _ _).alloc _ | exact ((Fr.refl _ _).alloc _).drew | exact (Fr.refl _ _).drew.alloc _) g1 (fun k hk => by simp [Value.ownBlock] at hk; omega); have s1 := (f1.cell (a := ⟨p, 1, none⟩) hplt id).trans c1)
    | (go_at_call 93; refine (unhide HSH _ _ _ (by first | exact f1 | exact f1.drew) (by first | exact o1 | exact owns_kept o1 (Fr.refl _ _).drew (fun _ _ h => h))).mono ?_; rintro e w2 ⟨rfl, rfl⟩)))
  all_goals
    have HF1 := hide f1
    clear o1 g1 p1 f1 HSH HSV
    go_wp2_with fail
    go_ret2
    exact ⟨rfl, by first | exact unhide HF1 | exact (unhide HF1).drew⟩

/-- What Update answers. -/
def upR (k m : Nat) (ls : List (List UInt8)) (a : Int) (l x : List UInt8) : List (List UInt8) := if upE k m ls a l x = 0 then updL k m ls a.toNat (sm l x) else []

theorem update_any (w : World) (p k m : Nat) (v lv xv : Value) (ls : List (List UInt8)) (l x : List UInt8) (a : Int) (hC : CAt w p k m) (h : RdL w v ls) (hl : Rd w lv l) (hx : Rd w xv x) (hll : ls.length ≤ 1000) :
    Calls Try.prog 54 #[.pointer (some ⟨p, 0, none⟩), v, .int .i64 a, lv, xv] w fun e w' => (∃ ao n ac, e = .returned (.tuple #[.slice ao n ac, .int .i64 (upE k m ls a l x)]) ∧ LN w.heap.size w' (.slice ao n ac) (upR k m ls a l x)) ∧ Fr (fun _ => False) w w' := by
  unfold upR
  by_cases ha : 0 ≤ a ∧ a < (k : Int)
  · have hE : upE k m ls a l x = (shl (l :: x :: ls) ((2 + m : Nat) : Int)).2 := by unfold upE; rw [if_pos ha]
    obtain ⟨b, rfl⟩ : ∃ b : Nat, a = (b : Int) := ⟨a.toNat, by omega⟩
    rw [hE]
    by_cases he : (shl (l :: x :: ls) ((2 + m : Nat) : Int)).2 = 0
    · rw [if_pos he]
      refine (update_ok w p k m v lv xv ls l x b hC h hl hx (by omega) hll he).mono ?_
      rintro e w' ⟨⟨g, rfl, h1⟩, f⟩
      exact ⟨⟨_, _, _, by rw [he], by rw [Int.toNat_natCast]; exact h1⟩, f⟩
    · rw [if_neg he]
      refine (update_no w p k m v lv xv ls l x b hC h hl hx (by omega) hll he).mono ?_
      rintro e w' ⟨rfl, f⟩
      exact ⟨⟨_, _, _, rfl, LN.nil _ _⟩, f⟩
  · have hE : upE k m ls a l x = 2 := by unfold upE; rw [if_neg ha]
    rw [hE, if_neg (by decide)]
    refine (update_arg w p k m v lv xv ls l x a hC h hl hx ha).mono ?_
    rintro e w' ⟨rfl, rfl⟩
    exact ⟨⟨_, _, _, rfl, LN.nil _ _⟩, Fr.refl _ _⟩

end Go.Proofs.Ytckmddkhkdcmmaa
