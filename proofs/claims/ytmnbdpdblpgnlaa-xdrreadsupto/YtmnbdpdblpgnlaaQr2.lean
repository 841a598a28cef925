/-
  The walks of the document's own reader, on: numbers, truth values, bytes.
-/
import Derived.Test.YtmnbdpdblpgnlaaQr
namespace Go.Proofs.Ytmnbdpdblpgnlaa
open Go.RowKit
set_option linter.unusedVariables false

attribute [local go_sem ↓] Go.wp_at_zero Go.wp_at_succ

theorem tk4_ok (D : List UInt8) (a : Nat) (h : a + 4 ≤ D.length) : tk D a 0 4 a = ((D.drop a).take 4, a + 4, 0) := by
  unfold tk
  rw [if_neg (by simp), if_neg (by simp; omega), if_pos (by simp [pad])]
  rfl

theorem tk4_short (D : List UInt8) (a : Nat) (h : ¬ a + 4 ≤ D.length) (ha : a ≤ D.length) : tk D a 0 4 a = ([], a, 3) := by
  unfold tk
  rw [if_neg (by simp), if_pos (by simp; omega)]

set_option maxHeartbeats 800000 in
set_option maxRecDepth 100000 in
theorem quint_any (w : World) (p : Nat) (q : Option Nat) (D : List UInt8) (a : Nat) (E : Int) (h : QAt w p q D a E) (hD : D.length ≤ 1099511627776) :
    Calls Try.prog 59 #[.pointer (some ⟨p, 0, none⟩)] w fun e w' => e = .returned (.int .u32 ((ru D a E).1 : Int)) ∧ QAt w' p q D (ru D a E).2.1 (ru D a E).2.2 ∧ Fr (fun k => k = p) w w' := by
  have hD' : D.length ≤ maxLen := by unfold maxLen; omega
  obtain ⟨v, h1, h2, h3, hal⟩ := id h
  obtain ⟨ao, cap, rfl⟩ := owns_shape h3
  have c0 := QAt.cell0 h1
  have c1 := QAt.cell1 h1
  have c2 := QAt.cell2 h1
  by_cases hE : E = 0
  · subst hE
    have HL := hide (qleft_any w p a D.length ao cap c0 c1 hal hD')
    by_cases hs : a + 4 ≤ D.length
    · have hru : ru D a 0 = (numOf ((D.drop a).take 4), a + 4, 0) := by unfold ru; rw [tk4_ok D a hs]
      rw [hru]
      clear hru
      have hlt : ¬ (D.length : Int) - (a : Int) < 4 := by omega
      obtain ⟨g, rfl⟩ : ∃ g, ao = some ⟨g, 0, none⟩ := by
        rcases h3.2 with ⟨_, e⟩ | ⟨g, cap', _, e, _⟩
        · omega
        · simp at e; exact ⟨g, e.1⟩
      have hcm : D.length ≤ cap ∧ cap ≤ maxLen := by
        rcases h3.2 with ⟨e, _⟩ | ⟨_, _, _, e, _, _, h6, h7, _⟩
        · simp at e
        · simp at e; obtain ⟨_, rfl⟩ := e; exact ⟨h6, h7⟩
      have H1 := hide h1
      have H3 := hide h3
      have hcell : ∀ j, j < 4 → w.cell? ⟨g, a + j, none⟩ = some (.int .u8 ((D[a + j]?.getD 0).toNat : Int)) := by
        intro j hj
        rw [h3.cellAt (a + j) (by omega), bvs_get D _ (show a + j < D.length by omega), List.getElem?_eq_getElem (show a + j < D.length by omega)]
        rfl
      have HC := hide hcell
      clear h h1 h3 hcell
      go_enter Try.func59, Try.ntmps59
      go_wp2_with fail
      refine (unhide HL).mono ?_
      rintro e w1 ⟨rfl, q1⟩
      go_wp2_with fail
      go_loopw [3, 4] (fun m i w' => ∃ k : Nat, k ≤ 4 ∧ i = .int .i64 k ∧ m = .int .u32 (numOf ((D.drop a).take k) : Int) ∧ Qt w w') (fun _ i _ => 4 - (intOf i).toNat)
      case atStart => exact ⟨0, by omega, rfl, rfl, q1⟩
      case round =>
        obtain ⟨k, hk, rfl, rfl, q2⟩ := hrel
        have d0 : wr.cell? ⟨p, 0, none⟩ = some (.slice (some ⟨g, 0, none⟩) D.length cap) := by rw [World.cell?_of_block (w := w) (by rw [q2.heap])]; exact c0
        have d1 : wr.cell? ⟨p, 1, none⟩ = some (.int .i64 (a : Int)) := by rw [World.cell?_of_block (w := w) (by rw [q2.heap])]; exact c1
        by_cases hk4 : k < 4
        · have dk : wr.cell? ⟨g, a + k, none⟩ = some (.int .u8 ((D[a + k]?.getD 0).toNat : Int)) := by rw [World.cell?_of_block (w := w) (by rw [q2.heap])]; exact unhide HC k hk4
          have hsn : numOf ((D.drop a).take (k + 1)) = numOf ((D.drop a).take k) * 256 + (D[a + k]?.getD 0).toNat := by
            rw [List.take_succ_eq_append_getElem (by simp; omega), numOf_snoc]
            simp [List.getElem?_eq_getElem (show a + k < D.length by omega)]
          have HS := hide hsn
          have hbt := (D[a + k]?.getD 0).toNat_lt
          have hV : numOf ((D.drop a).take k) * 256 + 255 < 4294967296 := by
            have h1 := numOf_lt ((D.drop a).take k)
            have h2 : ((D.drop a).take k).length = k := by simp; omega
            rw [h2] at h1
            have h3 : 256 ^ k * 256 ≤ 4294967296 := by
              have : 256 ^ (k + 1) ≤ 256 ^ 4 := Nat.pow_le_pow_right (by omega) (by omega)
              rw [Nat.pow_succ] at this
              rw [show (256 : Nat) ^ 4 = 4294967296 from rfl] at this
              exact this
            omega
          generalize numOf ((D.drop a).take k) = V at *
          generalize (D[a + k]?.getD 0).toNat = bt at *
          have b1 : (0 : Int) ≤ (a : Int) + (k : Int) := by omega
          have b2 : (a : Int) + (k : Int) < (D.length : Int) := by omega
          have HV := hide hV
          have HB := hide hbt
          clear c0 c1 c2 hsn hV hbt
          go_wp2_with fail
          go_quiet (fail)
          go_wp2_with fail
          go_roundw
          case rel => exact ⟨k + 1, by omega, by go_num, by rw [unhide HS]; exact congrArg (Value.int .u32) (by have h1 := unhide HV; have h2 := unhide HB; omega), q2.trans (Qt.drewN _ _)⟩
          case measure => simp [intOf]; omega
        · have hke : k = 4 := by omega
          subst hke
          have y1 : wr.frozen? ⟨p, 1, none⟩ = false := by rw [World.frozen?_of_block (w := w) (by rw [q2.heap])]; exact frozen_of_heap (unhide H1) 1
          clear c0 c1 c2
          go_wp2_with fail
          go_ret
          have e1 : wr.heap[p]? = some (.cells #[.slice (some ⟨g, 0, none⟩) D.length cap, .int .i64 (a : Int), .int .i64 0, .int .i64 (spot a 0)] 49 (0, 0)) := by rw [q2.heap]; exact unhide H1
          have f : Fr (fun k => k = p) w (wr.setCell ⟨p, 1, none⟩ (.int .i64 ((a : Int) + 4))) := (q2.fr (fun k => k = p)).setCell (fun _ => rfl) _
          refine ⟨rfl, QAt.put (unhide H1) h2 (unhide H3) _ (a + 4) 0 ?_ f (by omega), f⟩
          exact heap_setCell_same wr p 1 _ 49 _ e1
    · have hru : ru D a 0 = (0, a, 3) := by unfold ru; rw [tk4_short D a hs hal]; rfl
      rw [hru]
      clear hru
      have hlt : (D.length : Int) - (a : Int) < 4 := by omega
      clear h1 h3
      go_enter Try.func59, Try.ntmps59
      go_wp2_with fail
      refine (unhide HL).mono ?_
      rintro e w1 ⟨rfl, q1⟩
      have d1 : w1.cell? ⟨p, 1, none⟩ = some (.int .i64 (a : Int)) := by rw [World.cell?_of_block (w := w) (by rw [q1.heap])]; exact c1
      go_wp2_with fail
      refine (qfail_ok w1 p q D a 3 a (h.kept (q1.fr (fun _ => False)) id (fun _ _ h => h)) hal (by omega)).mono ?_
      rintro e w2 ⟨rfl, r2, f2⟩
      go_wp2_with fail
      go_ret
      exact ⟨rfl, r2, (q1.fr _).trans f2 (fun _ _ h => h)⟩
  · have hru : ru D a E = (0, a, E) := by
      unfold ru tk
      rw [if_pos (.inr hE)]; rfl
    rw [hru]
    have hb : (E != 0) = true := by simpa using hE
    clear h1 h3 hru
    go_enter Try.func59, Try.ntmps59
    go_wp2
    go_ret
    exact ⟨rfl, h, Fr.refl _ _⟩

theorem ru_err' (D : List UInt8) (a : Nat) (E : Int) (hE : E ≠ 0) : ru D a E = (0, a, E) := by
  unfold ru tk
  rw [if_pos (.inr hE)]; rfl

theorem QAt.cell1' {w : World} {p : Nat} {q : Option Nat} {D : List UInt8} {a : Nat} {E : Int} (h : QAt w p q D a E) : w.cell? ⟨p, 1, none⟩ = some (.int .i64 (a : Int)) := by
  obtain ⟨v, hp, _⟩ := h
  exact QAt.cell1 hp
theorem QAt.cell2' {w : World} {p : Nat} {q : Option Nat} {D : List UInt8} {a : Nat} {E : Int} (h : QAt w p q D a E) : w.cell? ⟨p, 2, none⟩ = some (.int .i64 E) := by
  obtain ⟨v, hp, _⟩ := h
  exact QAt.cell2 hp
theorem QAt.le {w : World} {p : Nat} {q : Option Nat} {D : List UInt8} {a : Nat} {E : Int} (h : QAt w p q D a E) : a ≤ D.length := by
  obtain ⟨v, _, _, _, h⟩ := h
  exact h

/-- Bool and Enum: upTo, by the document. -/
theorem qbool_any (w : World) (p : Nat) (q : Option Nat) (D : List UInt8) (a : Nat) (E : Int) (h : QAt w p q D a E) (hD : D.length ≤ 1099511627776) :
    Calls Try.prog 61 #[.pointer (some ⟨p, 0, none⟩)] w fun e w' => e = .returned (.bool (rbool D a E).1) ∧ QAt w' p q D (rbool D a E).2.1 (rbool D a E).2.2 ∧ Fr (fun k => k = p) w w' := by
  unfold rbool rup
  have c1 := h.cell1'
  have hal := h.le
  have HU := hide (quint_any w p q D a E h hD)
  have HE := hide (ru_err D a E)
  generalize ru D a E = R at *
  obtain ⟨n, a1, E1⟩ := R
  dsimp only at *
  clear h
  by_cases hc : (1 : Int) < (n : Int)
  · rw [if_pos hc]
    have hE1 : E1 = 0 := by
      rcases Classical.em (E1 = 0) with e | e
      · exact e
      · have := unhide HE e; omega
    subst hE1
    go_enter Try.func61, Try.ntmps61
    go_wp2_with fail
    refine (unhide HU).mono ?_
    rintro e w1 ⟨rfl, r1, f1⟩
    have c2 := r1.cell2'
    go_wp2_with fail
    refine (qfail_ok w1 p q D a1 10 a r1 hal (by omega)).mono ?_
    rintro e w2 ⟨rfl, r2, f2⟩
    go_wp2_with fail
    go_ret
    exact ⟨rfl, r2, f1.trans f2 (fun _ _ h => h)⟩
  · rw [if_neg hc]
    by_cases hE1 : E1 = 0
    · subst hE1
      go_enter Try.func61, Try.ntmps61
      go_wp2_with fail
      refine (unhide HU).mono ?_
      rintro e w1 ⟨rfl, r1, f1⟩
      have c2 := r1.cell2'
      go_wp2_with fail
      go_ret
      exact ⟨rfl, r1, f1⟩
    · have hb : (E1 == 0) = false := by simpa using hE1
      go_enter Try.func61, Try.ntmps61
      go_wp2_with fail
      refine (unhide HU).mono ?_
      rintro e w1 ⟨rfl, r1, f1⟩
      have c2 := r1.cell2'
      go_wp2_with fail
      go_ret
      exact ⟨rfl, r1, f1⟩

theorem qenum_any (w : World) (p : Nat) (q : Option Nat) (D : List UInt8) (a : Nat) (E : Int) (most : Int) (h : QAt w p q D a E) (hD : D.length ≤ 1099511627776) (hm : 0 ≤ most) :
    Calls Try.prog 64 #[.pointer (some ⟨p, 0, none⟩), .int .u32 most] w fun e w' => e = .returned (.int .u32 ((rup D a E most 12).1 : Int)) ∧ QAt w' p q D (rup D a E most 12).2.1 (rup D a E most 12).2.2 ∧ Fr (fun k => k = p) w w' := by
  unfold rup
  have c1 := h.cell1'
  have hal := h.le
  have HU := hide (quint_any w p q D a E h hD)
  have HE := hide (ru_err D a E)
  generalize ru D a E = R at *
  obtain ⟨n, a1, E1⟩ := R
  dsimp only at *
  clear h
  by_cases hc : most < (n : Int)
  · rw [if_pos hc]
    have hE1 : E1 = 0 := by
      rcases Classical.em (E1 = 0) with e | e
      · exact e
      · have := unhide HE e; omega
    subst hE1
    go_enter Try.func64, Try.ntmps64
    go_wp2_with fail
    refine (unhide HU).mono ?_
    rintro e w1 ⟨rfl, r1, f1⟩
    have c2 := r1.cell2'
    go_wp2_with fail
    refine (qfail_ok w1 p q D a1 12 a r1 hal (by omega)).mono ?_
    rintro e w2 ⟨rfl, r2, f2⟩
    go_wp2_with fail
    go_ret
    exact ⟨rfl, r2, f1.trans f2 (fun _ _ h => h)⟩
  · rw [if_neg hc]
    by_cases hE1 : E1 = 0
    · subst hE1
      go_enter Try.func64, Try.ntmps64
      go_wp2_with fail
      refine (unhide HU).mono ?_
      rintro e w1 ⟨rfl, r1, f1⟩
      have c2 := r1.cell2'
      go_wp2_with fail
      go_ret
      exact ⟨rfl, r1, f1⟩
    · have hb : (E1 == 0) = false := by simpa using hE1
      go_enter Try.func64, Try.ntmps64
      go_wp2_with fail
      refine (unhide HU).mono ?_
      rintro e w1 ⟨rfl, r1, f1⟩
      have c2 := r1.cell2'
      go_wp2_with fail
      go_ret
      exact ⟨rfl, r1, f1⟩

end Go.Proofs.Ytmnbdpdblpgnlaa
