/-
  The walk of the law's own 'writes', on: chains; and all kinds together.
-/
import Derived.Test.YtmnbdpdblpgnlaaWs2
namespace Go.Proofs.Ytmnbdpdblpgnlaa
open Go.RowKit
set_option linter.unusedVariables false

attribute [local go_sem ↓] Go.wp_at_zero Go.wp_at_succ

set_option maxHeartbeats 1000000 in
set_option maxRecDepth 100000 in
theorem wr9 (w : World) (p : Nat) (q : Option Nat) (p2 : Nat) (q2 : Option Nat) (B : List UInt8) (E : Int) (n most : Int) (pv lv tv : Value) (lp : List UInt8) (ln : List Int) (lt : List ByteArray) (d : Duo w p q B E p2 q2 B E) (hs : SAt w p q p2 q2 n pv lv tv lp ln lt) (hB : B.length ≤ 1099511627776) :
    Calls Try.prog 11 #[.pointer (some ⟨p, 0, none⟩), .pointer (some ⟨p2, 0, none⟩), .agg #[.int .i64 9, .int .u64 n, pv, .int .i64 most, lv, tv]] w fun e w' => e = .returned (.tuple #[]) ∧ Wrote w w' p q p2 q2 B := by
  have hX := heap_alloc_new w (Obj.cells #[Value.int IntKind.i64 9, Value.int IntKind.u64 n, pv, Value.int IntKind.i64 most, lv, tv] 35)
  have hA := d.away (Obj.cells #[Value.int IntKind.i64 9, Value.int IntKind.u64 n, pv, Value.int IntKind.i64 most, lv, tv] 35)
  have d0 := d.alloc (Obj.cells #[Value.int IntKind.i64 9, Value.int IntKind.u64 n, pv, Value.int IntKind.i64 most, lv, tv] 35)
  have hs0 := hs.step (DSt.ofAlloc (Obj.cells #[Value.int IntKind.i64 9, Value.int IntKind.u64 n, pv, Value.int IntKind.i64 most, lv, tv] 35) p q p2 q2)
  have hn := hs.hn
  have zp := hs.zp
  have zl := hs.zl
  have zt := hs.zt
  have HX := hide hX
  clear hs d hX
  have hxl : (svs lt).length = lt.length := by simp [svs]
  obtain ⟨ao, cap, rfl⟩ := hs0.rt.shape
  rw [hxl] at hs0 HX hA d0 ⊢
  have HXL := hide hxl
  clear hxl
  have HC := hide (putChain_any _ p q B E _ lt d0.1 hs0.rt (fun b hb => (hs0.at_ b hb).imp id (·.2.1)) (fun t ht => by have := hs0.wt t ht; omega) (by omega))
  have HA := hide hA
  clear hA
  go_enter Try.func11, Try.ntmps11
  go_wp2_with fail
  refine (unhide HC).mono ?_
  rintro e w1 ⟨rfl, q1, h1, s1⟩
  obtain ⟨d1, t1⟩ := d0.left h1 s1
  have hX1 := box_kept (unhide HX) (unhide HA) t1
  have hs1 := hs0.step t1
  have hA1 := (unhide HA).step t1
  have T1 := hide t1
  clear h1 s1 HC HX HA t1
  go_wp2_with fail
  go_loopw [8] (fun i w' => ∃ k : Nat, k ≤ lt.length ∧ i = .int .i64 k ∧ ∃ q', Duo w' p q1 (lay (wch (B, E) lt).2 (wch (B, E) lt).1 (be32 0)) (wch (B, E) lt).2 p2 q' (wch (B, E) (lt.take k)).1 (wch (B, E) (lt.take k)).2 ∧ DSt w1 w' p q1 q1 p2 q2 q') (fun i _ => lt.length - (intOf i).toNat)
  case atStart => exact ⟨0, Nat.zero_le _, rfl, q2, by simpa [wch] using d1, DSt.refl _ _ _ _ _⟩
  case round =>
    obtain ⟨k, hk, rfl, q5, d5, t5⟩ := hrel
    have hX5 := box_kept hX1 hA1 t5
    have hA5 := hA1.step t5
    have c5 : wr.cell? ⟨w.heap.size, 5, none⟩ = some (Value.slice ao lt.length cap) := by rw [cell_of_heap hX5]; rfl
    have hs5 := hs1.step t5
    have hnl := wch_len (lt.take k) (B, E)
    rw [List.length_take, Nat.min_eq_left hk] at hnl
    dsimp only at hnl
    by_cases hlt : k < lt.length
    · have HV := hide (vbool_any _ p2 q5 _ _ true d5.2.1 (by omega))
      have hw1 := hs5.wt lt[k] (List.getElem_mem hlt)
      have HS := hide (List.take_succ_eq_append_getElem hlt)
      have HT := hide (wch_snoc (B, E) (lt.take k) lt[k])
      go_wp2_with fail
      refine (unhide HV).mono ?_
      rintro e w6 ⟨rfl, q6, h6, s6⟩
      simp only [if_true] at h6
      obtain ⟨d6, t6⟩ := d5.right h6 s6
      have hX6 := box_kept hX5 hA5 t6
      have c6 : w6.cell? ⟨w.heap.size, 5, none⟩ = some (Value.slice ao lt.length cap) := by rw [cell_of_heap hX6]; rfl
      have hs6 := hs5.step t6
      obtain ⟨b, o, rfl, -, -, hcm, hcell⟩ := hs6.rt.lits (by rw [unhide HXL]; omega)
      have hc := hcell k (by rw [unhide HXL]; omega)
      simp only [svs, List.getElem_map] at hc
      unfold maxLen at hcm
      have hl1 := lay4 (wch (B, E) (lt.take k)).2 (wch (B, E) (lt.take k)).1 1
      obtain ⟨dB, tB, rB, aB⟩ := bytesWorld_duo d6 lt[k] (by unfold maxLen; omega)
      have kc := Lib.run_convert_string_bytes (P := Try.prog) w6 9 28 5 lt[k] Try.underlying9
      have HN := hide (vopaque_any _ p2 q6 _ _ _ lt[k].data.toList 7 dB.2.1 rB (fun b hb => by simp only [Value.ownBlock, Option.some.injEq] at hb; subst hb; exact aB) (by simp; omega) (by simp; omega))
      generalize lt[k] = m at *
      have HTB := hide ((t5.trans t6).trans tB)
      clear hcell hnl hl1 rB aB tB h6 s6 HV c5
      go_wp2_with fail
      refine (unhide HN).mono ?_
      rintro e w7 ⟨rfl, q7, h7, s7⟩
      obtain ⟨d7, t7⟩ := dB.right h7 s7
      go_wp2_with fail
      go_roundw
      case rel =>
        rw [← unhide HT, ← unhide HS] at d7
        exact ⟨k + 1, by omega, by go_num, q7, d7, (unhide HTB).trans t7⟩
      case measure => simp [intOf]; omega
    · rw [show k = lt.length from by omega, List.take_length] at d5 hnl
      have HV := hide (vbool_any _ p2 q5 _ _ false d5.2.1 (by omega))
      go_wp2_with fail
      refine (unhide HV).mono ?_
      rintro e w6 ⟨rfl, q6, h6, s6⟩
      obtain ⟨d6, t6⟩ := d5.right h6 s6
      go_wp2_with fail
      go_end0
      refine ⟨rfl, q1, q6, _, _, d6, (((unhide T1).trans t5).trans t6).alloc, ?_⟩
      have hl1 := lay4 (wch (B, E) lt).2 (wch (B, E) lt).1 0
      have hl2 := wch_len lt (B, E)
      dsimp only at hl2
      omega


theorem writes_any (w : World) (p : Nat) (q : Option Nat) (p2 : Nat) (q2 : Option Nat) (B : List UInt8) (E : Int) (n most : Int) (pv lv tv : Value) (lp : List UInt8) (ln : List Int) (lt : List ByteArray) (d : Duo w p q B E p2 q2 B E) (hs : SAt w p q p2 q2 n pv lv tv lp ln lt) (hB : B.length ≤ 1099511627776) (K : Int) :
    Calls Try.prog 11 #[.pointer (some ⟨p, 0, none⟩), .pointer (some ⟨p2, 0, none⟩), .agg #[.int .i64 K, .int .u64 n, pv, .int .i64 most, lv, tv]] w fun e w' => e = .returned (.tuple #[]) ∧ Wrote w w' p q p2 q2 B := by
  by_cases h0 : K = 0
  · subst h0; exact wr0 w p q p2 q2 B E n most pv lv tv lp ln lt d hs hB
  by_cases h1 : K = 1
  · subst h1; exact wr1 w p q p2 q2 B E n most pv lv tv lp ln lt d hs hB
  by_cases h2 : K = 2
  · subst h2; exact wr2 w p q p2 q2 B E n most pv lv tv lp ln lt d hs hB
  by_cases h3 : K = 3
  · subst h3; exact wr3 w p q p2 q2 B E n most pv lv tv lp ln lt d hs hB
  by_cases h4 : K = 4
  · subst h4; exact wr4 w p q p2 q2 B E n most pv lv tv lp ln lt d hs hB
  by_cases h5 : K = 5
  · subst h5; exact wr5 w p q p2 q2 B E n most pv lv tv lp ln lt d hs hB
  by_cases h6 : K = 6
  · subst h6; exact wr6 w p q p2 q2 B E n most pv lv tv lp ln lt d hs hB
  by_cases h7 : K = 7
  · subst h7; exact wr7 w p q p2 q2 B E n most pv lv tv lp ln lt d hs hB
  by_cases h8 : K = 8
  · subst h8
    by_cases hb : E = 0 ∧ most < (ln.length : Int)
    · exact wr8bad w p q p2 q2 B E n most pv lv tv lp ln lt d hs hB hb
    · exact wr8ok w p q p2 q2 B E n most pv lv tv lp ln lt d hs hB hb
  by_cases h9 : K = 9
  · subst h9; exact wr9 w p q p2 q2 B E n most pv lv tv lp ln lt d hs hB
  by_cases h10 : K = 10
  · subst h10
    by_cases hz : n = 0
    · exact wr10z w p q p2 q2 B E n most pv lv tv lp ln lt d hs hB hz
    · exact wr10n w p q p2 q2 B E n most pv lv tv lp ln lt d hs hB hz
  by_cases h11 : K = 11
  · subst h11
    by_cases hb : E = 0 ∧ most < (lt.length : Int)
    · exact wr11bad w p q p2 q2 B E n most pv lv tv lp ln lt d hs hB hb
    · exact wr11ok w p q p2 q2 B E n most pv lv tv lp ln lt d hs hB hb
  exact wrX w p q p2 q2 B E n most pv lv tv lp ln lt d hs hB K ⟨h0, h1, h2, h3, h4, h5, h6, h7, h8, h9, h10, h11⟩

#print axioms writes_any
end Go.Proofs.Ytmnbdpdblpgnlaa
