/-
  The walk of the document's Update.
-/
import Derived.Test.YtckmddkhkdcmmaaRs21
import Derived.Test.YtckmddkhkdcmmaaRs18
namespace Go.Proofs.Ytckmddkhkdcmmaa
open Go.RowKit
set_option linter.unusedVariables false

attribute [local go_sem ↓] Go.wp_at_zero Go.wp_at_succ

theorem owns_set {w : World} {e : TypeId} {g n cap : Nat} {xs : List Value} (h : w.ownsRow 0 e 1 (.slice (some ⟨g, 0, none⟩) n cap) n xs) (t : Nat) (ht : t < n) (u : Value) :
    (w.setCell ⟨g, t, none⟩ u).ownsRow 0 e 1 (.slice (some ⟨g, 0, none⟩) n cap) n (xs.set t u) ∧ w.cell? ⟨g, t, none⟩ = xs[t]? ∧ w.frozen? ⟨g, t, none⟩ = false := by
  obtain ⟨h1, h2⟩ := h
  rcases h2 with ⟨hv, -⟩ | ⟨g', cap', cur, hv, hb, hh, hn, hm, hs, hx⟩
  · simp at hv
  · simp only [Value.slice.injEq, Option.some.injEq, Addr.mk.injEq] at hv
    obtain ⟨⟨rfl, -, -⟩, -, rfl⟩ := hv
    refine ⟨⟨by simpa using h1, .inr ⟨g, cap, cur.setIfInBounds t u, rfl, hb, heap_setCell_same w g t cur e u hh, hn, hm, by simpa using hs, ?_⟩⟩, ?_, frozen_of_heap hh t⟩
    · rw [Array.toList_setIfInBounds, List.take_set, hx]
    · rw [cell_of_heap hh, ← hx, List.getElem?_take_of_lt (by omega), Array.getElem?_toList]

theorem bvs_set22 (l : List UInt8) (t : Nat) (c : UInt8) : bvs (l.set t c) = (bvs l).set t (.int .u8 ((c.toNat : Nat) : Int)) := by
  unfold bvs
  rw [List.map_set]

section
variable (w : World) (p k m : Nat) (v lv xv : Value) (ls : List (List UInt8)) (l x : List UInt8)

set_option maxRecDepth 100000 in
set_option maxHeartbeats 1000000 in
theorem rupdate_no1 (a : Int) (hD : DAt w p k m) (h : RdL w v ls) (hl : Rd w lv l) (hx : Rd w xv x) (ha : ¬ (0 ≤ a ∧ a < (k : Int))) :
    Calls Try.prog 55 #[.pointer (some ⟨p, 0, none⟩), v, .int .i64 a, lv, xv] w fun e w' => e = .returned (.tuple #[.slice none 0 0, .int .i64 2]) ∧ Fr (fun _ => False) w w' := by
  have c0 := cell_of_heap hD 0
  simp at c0
  obtain ⟨vo, vc, rfl⟩ := h.shape
  obtain ⟨lo, lc, rfl⟩ := hl.shape
  obtain ⟨xo, xc, rfl⟩ := hx.shape
  clear hD h hl hx
  by_cases h0 : a < 0
  · have b1 : decide (a < 0) = true := by simpa using h0
    go_enter Try.func55, Try.ntmps55
    go_wp2_with fail
    go_ret2
    exact ⟨rfl, Fr.refl _ _⟩
  · have b1 : decide (a < 0) = false := by simpa using h0
    have b2 : decide ((k : Int) ≤ a) = true := by simp; omega
    go_enter Try.func55, Try.ntmps55
    go_wp2_with fail
    go_ret2
    exact ⟨rfl, Fr.refl _ _⟩

set_option maxRecDepth 100000 in
set_option maxHeartbeats 1000000 in
theorem rupdate_no2 (a : Nat) (hD : DAt w p k m) (h : RdL w v ls) (hl : Rd w lv l) (hx : Rd w xv x) (ha : a < k) (hll : ls.length ≤ 1000) (he : (oneL ls (m : Int)).2 = false) :
    Calls Try.prog 55 #[.pointer (some ⟨p, 0, none⟩), v, .int .i64 (a : Int), lv, xv] w fun e w' => e = .returned (.tuple #[.slice none 0 0, .int .i64 2]) ∧ Fr (fun _ => False) w w' := by
  have c0 := cell_of_heap hD 0
  have c1 := cell_of_heap hD 1
  simp at c0 c1
  have HE := hide (even_any w v ls (m : Int) h (by omega))
  rw [he] at HE
  obtain ⟨vo, vc, rfl⟩ := h.shape
  obtain ⟨lo, lc, rfl⟩ := hl.shape
  obtain ⟨xo, xc, rfl⟩ := hx.shape
  clear hD h hl hx he
  have b1 : decide ((a : Int) < 0) = false := by simp
  have b2 : decide ((k : Int) ≤ (a : Int)) = false := by simp; omega
  go_enter Try.func55, Try.ntmps55
  go_wp2_with (go_at_call 95; refine (unhide HE).mono ?_; rintro e w1 ⟨rfl, f1⟩)
  go_ret2
  exact ⟨rfl, f1⟩

set_option maxRecDepth 100000 in
set_option maxHeartbeats 1000000 in
theorem rupdate_no3 (a : Nat) (hD : DAt w p k m) (h : RdL w v ls) (hl : Rd w lv l) (hx : Rd w xv x) (ha : a < k) (hll : ls.length ≤ 1000) (he : (oneL ls (m : Int)).2 = true) (hne : l.length ≠ x.length) :
    Calls Try.prog 55 #[.pointer (some ⟨p, 0, none⟩), v, .int .i64 (a : Int), lv, xv] w fun e w' => e = .returned (.tuple #[.slice none 0 0, .int .i64 2]) ∧ Fr (fun _ => False) w w' := by
  have c0 := cell_of_heap hD 0
  have c1 := cell_of_heap hD 1
  simp at c0 c1
  have HE := hide (even_any w v ls (m : Int) h (by omega))
  rw [he] at HE
  obtain ⟨vo, vc, rfl⟩ := h.shape
  obtain ⟨lo, lc, rfl⟩ := hl.shape
  obtain ⟨xo, xc, rfl⟩ := hx.shape
  clear hD h hl hx he
  have b1 : decide ((a : Int) < 0) = false := by simp
  have b2 : decide ((k : Int) ≤ (a : Int)) = false := by simp; omega
  have b3 : ((l.length : Int) != (x.length : Int)) = true := by simp; omega
  clear hne
  go_enter Try.func55, Try.ntmps55
  go_wp2_with (go_at_call 95; refine (unhide HE).mono ?_; rintro e w1 ⟨rfl, f1⟩)
  go_ret2
  exact ⟨rfl, f1⟩

set_option maxRecDepth 100000 in
set_option maxHeartbeats 1000000 in
theorem rupdate_no4 (a : Nat) (hD : DAt w p k m) (h : RdL w v ls) (hl : Rd w lv l) (hx : Rd w xv x) (ha : a < k) (hll : ls.length ≤ 1000) (he : (oneL ls (m : Int)).2 = true) (hne : l.length = x.length) (hm : 0 < m) (hls : 0 < ls.length) (h4 : (ls[0]).length ≠ l.length) :
    Calls Try.prog 55 #[.pointer (some ⟨p, 0, none⟩), v, .int .i64 (a : Int), lv, xv] w fun e w' => e = .returned (.tuple #[.slice none 0 0, .int .i64 2]) ∧ Fr (fun _ => False) w w' := by
  have c0 := cell_of_heap hD 0
  have c1 := cell_of_heap hD 1
  simp at c0 c1
  have hplt := lt_of_heap hD
  have HE := hide (even_any w v ls (m : Int) h (by omega))
  rw [he] at HE
  have H := hide h
  obtain ⟨vo, vc, rfl⟩ := h.shape
  obtain ⟨lo, lc, rfl⟩ := hl.shape
  obtain ⟨xo, xc, rfl⟩ := hx.shape
  clear hD h hl hx he
  have b1 : decide ((a : Int) < 0) = false := by simp
  have b2 : decide ((k : Int) ≤ (a : Int)) = false := by simp; omega
  rw [← hne]
  clear hne
  have b5 : decide ((0 : Int) < (m : Int)) = true := by simp; omega
  obtain ⟨l0, hl0⟩ : ∃ l0, l0 = (ls[0]).length := ⟨_, rfl⟩
  rw [← hl0] at h4
  have HL0 := hide hl0
  have b6 : ((l0 : Int) != (l.length : Int)) = true := by simp; omega
  clear h4 hl0
  go_enter Try.func55, Try.ntmps55
  go_wp2_with (go_at_call 95; refine (unhide HE).mono ?_; rintro e w1 ⟨rfl, f1⟩; obtain ⟨vb, vof, yo, yc, rfl, y1, -⟩ := ((unhide H).kept f1).get 0 hls; rw [← unhide HL0, Nat.add_zero] at y1; have d1 : w1.cell? ⟨p, 1, none⟩ = some (.int .i64 (m : Int)) := (f1.cell (a := ⟨p, 1, none⟩) hplt id).trans c1)
  go_ret2
  exact ⟨rfl, f1⟩

set_option maxRecDepth 100000 in
set_option maxHeartbeats 1000000 in
theorem rupdate_no5 (a : Nat) (hD : DAt w p k m) (h : RdL w v ls) (hl : Rd w lv l) (hx : Rd w xv x) (ha : a < k) (hll : ls.length ≤ 1000) (he : (oneL ls (m : Int)).2 = true) (hne : l.length = x.length) (h4 : 0 < m → ∃ hls : 0 < ls.length, (ls[0]).length = l.length) (h5 : 4096 < l.length) :
    Calls Try.prog 55 #[.pointer (some ⟨p, 0, none⟩), v, .int .i64 (a : Int), lv, xv] w fun e w' => e = .returned (.tuple #[.slice none 0 0, .int .i64 1]) ∧ Fr (fun _ => False) w w' := by
  have c0 := cell_of_heap hD 0
  have c1 := cell_of_heap hD 1
  simp at c0 c1
  have hplt := lt_of_heap hD
  have HE := hide (even_any w v ls (m : Int) h (by omega))
  rw [he] at HE
  have H := hide h
  obtain ⟨vo, vc, rfl⟩ := h.shape
  obtain ⟨lo, lc, rfl⟩ := hl.shape
  obtain ⟨xo, xc, rfl⟩ := hx.shape
  clear hD h hl hx he
  have b1 : decide ((a : Int) < 0) = false := by simp
  have b2 : decide ((k : Int) ≤ (a : Int)) = false := by simp; omega
  have b7 : decide ((4096 : Int) < (l.length : Int)) = true := by simp; omega
  rw [← hne]
  clear hne
  by_cases hm : 0 < m
  · have b5 : decide ((0 : Int) < (m : Int)) = true := by simp; omega
    obtain ⟨hls, h6⟩ := h4 hm
    have H6 := hide h6
    clear h6 h4
    go_enter Try.func55, Try.ntmps55
    go_wp2_with (go_at_call 95; refine (unhide HE).mono ?_; rintro e w1 ⟨rfl, f1⟩; obtain ⟨vb, vof, yo, yc, rfl, y1, -⟩ := ((unhide H).kept f1).get 0 hls; rw [unhide H6, Nat.add_zero] at y1; have d1 : w1.cell? ⟨p, 1, none⟩ = some (.int .i64 (m : Int)) := (f1.cell (a := ⟨p, 1, none⟩) hplt id).trans c1)
    go_ret2
    exact ⟨rfl, f1⟩
  · have b5 : decide ((0 : Int) < (m : Int)) = false := by simp; omega
    clear h4
    go_enter Try.func55, Try.ntmps55
    go_wp2_with (go_at_call 95; refine (unhide HE).mono ?_; rintro e w1 ⟨rfl, f1⟩; have d1 : w1.cell? ⟨p, 1, none⟩ = some (.int .i64 (m : Int)) := (f1.cell (a := ⟨p, 1, none⟩) hplt id).trans c1)
    go_ret2
    exact ⟨rfl, f1⟩

set_option maxRecDepth 100000 in
set_option maxHeartbeats 1000000 in
theorem rupdate_zero (a : Nat) (hD : DAt w p k 0) (h : RdL w v []) (hl : Rd w lv l) (hx : Rd w xv x) (ha : a < k) (hne : l.length = x.length) (h5 : l.length ≤ 4096) :
    Calls Try.prog 55 #[.pointer (some ⟨p, 0, none⟩), v, .int .i64 (a : Int), lv, xv] w fun e w' => e = .returned (.tuple #[.slice none 0 0, .int .i64 0]) ∧ Fr (fun _ => False) w w' := by
  have c0 := cell_of_heap hD 0
  have c1 := cell_of_heap hD 1
  simp at c0 c1
  have hplt := lt_of_heap hD
  have HE := hide (even_any w v [] ((0 : Nat) : Int) h (by simp))
  rw [show (oneL [] ((0 : Nat) : Int)).2 = true by simp [oneL]] at HE
  obtain ⟨vo, vc, rfl⟩ := h.shape
  obtain ⟨lo, lc, rfl⟩ := hl.shape
  obtain ⟨xo, xc, rfl⟩ := hx.shape
  have b1 : decide ((a : Int) < 0) = false := by simp
  have b2 : decide ((k : Int) ≤ (a : Int)) = false := by simp; omega
  have b7 : decide ((4096 : Int) < (l.length : Int)) = false := by simp; omega
  rw [← hne]
  clear hD h hl hx hne
  go_enter Try.func55, Try.ntmps55
  go_wp2_with (go_at_call 95; refine (unhide HE).mono ?_; rintro e w1 ⟨rfl, f1⟩; have d1 : w1.cell? ⟨p, 1, none⟩ = some (.int .i64 0) := (f1.cell (a := ⟨p, 1, none⟩) hplt id).trans c1)
  go_loopw [12, 13] (fun z y w' => z = .slice none 0 0 ∧ y = .int .i64 0 ∧ w1 = w') (fun _ y _ => 0)
  case atStart => exact ⟨rfl, rfl, rfl⟩
  case round =>
    obtain ⟨rfl, rfl, rfl⟩ := hrel
    go_wp2_with fail
    go_ret2
    exact ⟨rfl, f1⟩
end

end Go.Proofs.Ytckmddkhkdcmmaa
