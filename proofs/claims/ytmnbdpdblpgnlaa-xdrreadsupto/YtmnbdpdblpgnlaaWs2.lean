/-
  The walk of the law's own 'writes', on: lists of numbers and of texts, chains, options; and all kinds together.
-/
import Derived.Test.YtmnbdpdblpgnlaaWs
namespace Go.Proofs.Ytmnbdpdblpgnlaa
open Go.RowKit
set_option linter.unusedVariables false

attribute [local go_sem ↓] Go.wp_at_zero Go.wp_at_succ

theorem VAt.err {w : World} {p : Nat} {q : Option Nat} {B : List UInt8} {E : Int} (h : VAt w p q B E) (E' : Int) : VAt (w.setCell ⟨p, 1, none⟩ (.int .i64 E')) p q B E' ∧ WSt w (w.setCell ⟨p, 1, none⟩ (.int .i64 E')) p q q := by
  obtain ⟨v, hp, hq, hown⟩ := h
  have hap := VAt.apart hp hown
  refine ⟨⟨v, heap_setCell_two1 hp, hq, ?_⟩, (Fr.refl (foot p q) _).setCell (fun _ => .inl rfl) _, fun _ _ h => h⟩
  exact hown.kept (row := some p) ⟨rfl, rfl, rfl, by simp [World.setCell], fun k _ h => Below.heap_setCell _ _ _ _ (fun e => h (by simp [e]))⟩ (.inr hap)

theorem VAt.froz {w : World} {p : Nat} {q : Option Nat} {B : List UInt8} {E : Int} (h : VAt w p q B E) : w.frozen? ⟨p, 1, none⟩ = false := by
  obtain ⟨v, hp, hq, hown⟩ := h
  exact frozen_of_heap hp 1

theorem lay_nil (E : Int) (B : List UInt8) : lay E B [] = B := by unfold lay; split <;> simp

theorem wlistN_eq (B : List UInt8) (E : Int) (l : List Int) (most : Int) : (E = 0 ∧ most < (l.length : Int) → wlistN B E l most = (B, 1)) ∧ (¬ (E = 0 ∧ most < (l.length : Int)) → wlistN B E l most = (lay E (lay E B (be32 (l.length : Int))) (nums l), E)) := by
  unfold wlistN
  refine ⟨fun h => ?_, fun h => ?_⟩
  · rw [if_neg (by simp [h.1]), if_pos h.2]
  · by_cases hE : E = 0
    · subst hE
      have h2 : ¬ most < (l.length : Int) := fun h3 => h ⟨rfl, h3⟩
      rw [if_neg (by simp), if_neg h2]
      simp [lay]
    · rw [if_pos hE, lay_er _ _ _ hE, lay_er _ _ _ hE]

theorem wlistS_eq (B : List UInt8) (E : Int) (l : List ByteArray) (most : Int) : (E = 0 ∧ most < (l.length : Int) → wlistS B E l most = (B, 1)) ∧ (¬ (E = 0 ∧ most < (l.length : Int)) → wlistS B E l most = wtexts (lay E B (be32 (l.length : Int)), E) l) := by
  unfold wlistS
  refine ⟨fun h => ?_, fun h => ?_⟩
  · rw [if_neg (by simp [h.1]), if_pos h.2]
  · by_cases hE : E = 0
    · subst hE
      have h2 : ¬ most < (l.length : Int) := fun h3 => h ⟨rfl, h3⟩
      rw [if_neg (by simp), if_neg h2]
      simp [lay]
    · rw [if_pos hE, lay_er _ _ _ hE, wtexts_er _ _ hE]

theorem bytesWorld_duo {w : World} {p : Nat} {q : Option Nat} {B : List UInt8} {E : Int} {p2 : Nat} {q2 : Option Nat} {B2 : List UInt8} {E2 : Int} (d : Duo w p q B E p2 q2 B2 E2) (t : ByteArray) (ht : t.size ≤ maxLen) :
    Duo (Lib.bytesWorld w 5 t) p q B E p2 q2 B2 E2 ∧ DSt w (Lib.bytesWorld w 5 t) p q q p2 q2 q2 ∧ Rd (Lib.bytesWorld w 5 t) (.slice (some ⟨w.heap.size, 0, none⟩) t.size (grownCap w t.size 0 5)) t.data.toList ∧ ¬ foot p2 q2 w.heap.size := by
  have f := bytesWorld_fr w 5 t
  have h2 := d.2.1.lt
  refine ⟨d.kept f, ⟨f.mono (fun _ _ h => h.elim), fun _ _ h => h, fun _ _ h => h⟩, bytesWorld_rd w t ht, fun hf => ?_⟩
  rcases hf with e | e
  · omega
  · have := h2.2 _ e; omega

set_option maxHeartbeats 1000000 in
set_option maxRecDepth 100000 in
theorem wr10z (w : World) (p : Nat) (q : Option Nat) (p2 : Nat) (q2 : Option Nat) (B : List UInt8) (E : Int) (n most : Int) (pv lv tv : Value) (lp : List UInt8) (ln : List Int) (lt : List ByteArray) (d : Duo w p q B E p2 q2 B E) (hs : SAt w p q p2 q2 n pv lv tv lp ln lt) (hB : B.length ≤ 1099511627776) (hz : n = 0) :
    Calls Try.prog 11 #[.pointer (some ⟨p, 0, none⟩), .pointer (some ⟨p2, 0, none⟩), .agg #[.int .i64 10, .int .u64 n, pv, .int .i64 most, lv, tv]] w fun e w' => e = .returned (.tuple #[]) ∧ Wrote w w' p q p2 q2 B := by
  have hX := heap_alloc_new w (Obj.cells #[Value.int IntKind.i64 10, Value.int IntKind.u64 n, pv, Value.int IntKind.i64 most, lv, tv] 35)
  have hA := d.away (Obj.cells #[Value.int IntKind.i64 10, Value.int IntKind.u64 n, pv, Value.int IntKind.i64 most, lv, tv] 35)
  have d0 := d.alloc (Obj.cells #[Value.int IntKind.i64 10, Value.int IntKind.u64 n, pv, Value.int IntKind.i64 most, lv, tv] 35)
  have hs0 := hs.step (DSt.ofAlloc (Obj.cells #[Value.int IntKind.i64 10, Value.int IntKind.u64 n, pv, Value.int IntKind.i64 most, lv, tv] 35) p q p2 q2)
  have hn := hs.hn
  have zp := hs.zp
  have zl := hs.zl
  have zt := hs.zt
  have HX := hide hX
  clear hs d hX
  subst hz
  have HC := hide (putOption_none _ p q B E (.func (.func 31) #[] #[]) d0.1 (by omega))
  go_enter Try.func11, Try.ntmps11
  go_wp2_with fail
  refine (unhide HC).mono ?_
  rintro e w1 ⟨rfl, q1, h1, s1⟩
  obtain ⟨d1, t1⟩ := d0.left h1 s1
  have HC2 := hide (vbool_any _ p2 q2 B E false d1.2.1 (by omega))
  clear h1 s1 HC HX
  go_wp2_with fail
  refine (unhide HC2).mono ?_
  rintro e w2 ⟨rfl, q3, h2, s2⟩
  obtain ⟨d2, t2⟩ := d1.right h2 s2
  go_wp2_with fail
  exact bodyPost_ret (results_none rfl _ _ _) rfl ⟨rfl, q1, q3, _, _, d2, (t1.trans t2).alloc, Nat.le_trans (lay4 _ _ _) (by omega)⟩


set_option maxHeartbeats 1000000 in
set_option maxRecDepth 100000 in
theorem wr10n (w : World) (p : Nat) (q : Option Nat) (p2 : Nat) (q2 : Option Nat) (B : List UInt8) (E : Int) (n most : Int) (pv lv tv : Value) (lp : List UInt8) (ln : List Int) (lt : List ByteArray) (d : Duo w p q B E p2 q2 B E) (hs : SAt w p q p2 q2 n pv lv tv lp ln lt) (hB : B.length ≤ 1099511627776) (hz : n ≠ 0) :
    Calls Try.prog 11 #[.pointer (some ⟨p, 0, none⟩), .pointer (some ⟨p2, 0, none⟩), .agg #[.int .i64 10, .int .u64 n, pv, .int .i64 most, lv, tv]] w fun e w' => e = .returned (.tuple #[]) ∧ Wrote w w' p q p2 q2 B := by
  have hX := heap_alloc_new w (Obj.cells #[Value.int IntKind.i64 10, Value.int IntKind.u64 n, pv, Value.int IntKind.i64 most, lv, tv] 35)
  have hA := d.away (Obj.cells #[Value.int IntKind.i64 10, Value.int IntKind.u64 n, pv, Value.int IntKind.i64 most, lv, tv] 35)
  have d0 := d.alloc (Obj.cells #[Value.int IntKind.i64 10, Value.int IntKind.u64 n, pv, Value.int IntKind.i64 most, lv, tv] 35)
  have hs0 := hs.step (DSt.ofAlloc (Obj.cells #[Value.int IntKind.i64 10, Value.int IntKind.u64 n, pv, Value.int IntKind.i64 most, lv, tv] 35) p q p2 q2)
  have hn := hs.hn
  have zp := hs.zp
  have zl := hs.zl
  have zt := hs.zt
  have HX := hide hX
  clear hs d hX
  have hzb : (n == 0) = false := by simpa using hz
  have dd := d0.alloc (Obj.cells #[Value.int IntKind.u32 (n % 4294967296)] 52)
  have hA2 := d0.away (Obj.cells #[Value.int IntKind.u32 (n % 4294967296)] 52)
  have hY := heap_alloc_new (w.alloc (Obj.cells #[Value.int IntKind.i64 10, Value.int IntKind.u64 n, pv, Value.int IntKind.i64 most, lv, tv] 35)) (Obj.cells #[Value.int IntKind.u32 (n % 4294967296)] 52)
  have hc := cell_of_heap hY 0
  have HC := hide (putOption_some _ p q B E (w.heap.size + 1) 0 (n % 4294967296) dd.1 (by simp) (by simpa using hA2.2.1) (by omega) (by omega))
  have HY := hide hY
  clear hY hc hz
  go_enter Try.func11, Try.ntmps11
  go_wp2_with fail
  refine (unhide HC).mono ?_
  rintro e w1 ⟨rfl, q1, h1, s1⟩
  obtain ⟨d1, t1⟩ := dd.left h1 s1
  have hX1 := box_kept (unhide HY) hA2 t1
  have c0 : w1.cell? ⟨w.heap.size + 1, 0, none⟩ = some (Value.int IntKind.u32 (n % 4294967296)) := by
    have := cell_of_heap hX1 0
    simpa using this
  have HC2 := hide (vbool_any _ p2 q2 B E true d1.2.1 (by omega))
  have hA3 := hA2.step t1
  have HX1 := hide hX1
  clear h1 s1 HC HX HY hX1
  go_wp2_with fail
  refine (unhide HC2).mono ?_
  rintro e w2 ⟨rfl, q3, h2, s2⟩
  obtain ⟨d2, t2⟩ := d1.right h2 s2
  have hX2 := box_kept (unhide HX1) hA3 t2
  have c0' : w2.cell? ⟨w.heap.size + 1, 0, none⟩ = some (Value.int IntKind.u32 (n % 4294967296)) := by
    have := cell_of_heap hX2 0
    simpa using this
  have HC3 := hide (vuint_any _ p2 q3 _ E (n % 4294967296) d2.2.1 (by omega) (by have := lay4 E B 1; simp at *; omega))
  clear h2 s2 HC2 HX1 hX2 c0
  go_wp2_with fail
  refine (unhide HC3).mono ?_
  rintro e w3 ⟨rfl, q4, h3, s3⟩
  obtain ⟨d3, t3⟩ := d2.right h3 s3
  go_wp2_with fail
  go_end0
  rw [lay_lay] at d3
  refine ⟨rfl, q1, q4, _, _, d3, (((t1.trans t2).trans t3).alloc).alloc, ?_⟩
  have h8 := lay_len E B (be32 1 ++ be32 (n % 4294967296))
  have h9 : (be32 1 ++ be32 (n % 4294967296)).length = 8 := rfl
  omega


set_option maxHeartbeats 1000000 in
set_option maxRecDepth 100000 in
theorem wr8bad (w : World) (p : Nat) (q : Option Nat) (p2 : Nat) (q2 : Option Nat) (B : List UInt8) (E : Int) (n most : Int) (pv lv tv : Value) (lp : List UInt8) (ln : List Int) (lt : List ByteArray) (d : Duo w p q B E p2 q2 B E) (hs : SAt w p q p2 q2 n pv lv tv lp ln lt) (hB : B.length ≤ 1099511627776) (hbad : E = 0 ∧ most < (ln.length : Int)) :
    Calls Try.prog 11 #[.pointer (some ⟨p, 0, none⟩), .pointer (some ⟨p2, 0, none⟩), .agg #[.int .i64 8, .int .u64 n, pv, .int .i64 most, lv, tv]] w fun e w' => e = .returned (.tuple #[]) ∧ Wrote w w' p q p2 q2 B := by
  have hX := heap_alloc_new w (Obj.cells #[Value.int IntKind.i64 8, Value.int IntKind.u64 n, pv, Value.int IntKind.i64 most, lv, tv] 35)
  have hA := d.away (Obj.cells #[Value.int IntKind.i64 8, Value.int IntKind.u64 n, pv, Value.int IntKind.i64 most, lv, tv] 35)
  have d0 := d.alloc (Obj.cells #[Value.int IntKind.i64 8, Value.int IntKind.u64 n, pv, Value.int IntKind.i64 most, lv, tv] 35)
  have hs0 := hs.step (DSt.ofAlloc (Obj.cells #[Value.int IntKind.i64 8, Value.int IntKind.u64 n, pv, Value.int IntKind.i64 most, lv, tv] 35) p q p2 q2)
  have hn := hs.hn
  have zp := hs.zp
  have zl := hs.zl
  have zt := hs.zt
  have HX := hide hX
  clear hs d hX
  have hxl : (uvs ln).length = ln.length := by simp [uvs]
  obtain ⟨ao, cap, rfl⟩ := hs0.rl.shape
  rw [hxl] at hs0 HX hA d0 ⊢
  have HXL := hide hxl
  clear hxl
  have hE' := (wlistN_eq B E ln most).1 hbad
  have HC := hide (putListN_any _ p q B E _ ln most d0.1 hs0.rl (fun b hb => (hs0.al b hb).imp id (·.2.1)) hs0.wl (by omega) (by omega))
  rw [hE'] at HC
  have HA := hide hA
  obtain ⟨hE0, hm⟩ := hbad
  subst hE0
  have hmg : ((most : Int) < (ln.length : Int)) := hm
  have hll : (ln.length : Int) % 4294967296 = (ln.length : Int) := by omega
  clear hA hE'
  go_enter Try.func11, Try.ntmps11
  go_wp2_with fail
  refine (unhide HC).mono ?_
  rintro e w1 ⟨rfl, q1, h1, s1⟩
  obtain ⟨d1, t1⟩ := d0.left h1 s1
  have hX1 := box_kept (unhide HX) (unhide HA) t1
  have hs1 := hs0.step t1
  have hA1 := (unhide HA).step t1
  have c3 : w1.cell? ⟨w.heap.size, 3, none⟩ = some (Value.int IntKind.i64 most) := by rw [cell_of_heap hX1]; rfl
  have cl : w1.cell? ⟨w.heap.size, 4, none⟩ = some (Value.slice ao ln.length cap) := by rw [cell_of_heap hX1]; rfl
  have ce := d1.2.1.cell1'
  have HX1 := hide hX1
  clear h1 s1 HC hX1 HX HA
  have zf := d1.2.1.froz
  go_wp2_with fail
  obtain ⟨vE, sE⟩ := d1.2.1.err 1
  obtain ⟨d2, t2⟩ := d1.right vE sE
  have hX2 := box_kept (unhide HX1) hA1 t2
  have hs2 := hs1.step t2
  have hA2 := hA1.step t2
  have T2 := hide (t1.trans t2)
  clear vE sE t1 t2 c3 cl ce zf HX1 d1 hs1 hA1
  generalize w1.setCell ⟨p2, 1, none⟩ (Value.int IntKind.i64 1) = w2 at *
  have cl : w2.cell? ⟨w.heap.size, 4, none⟩ = some (Value.slice ao ln.length cap) := by rw [cell_of_heap hX2]; rfl
  have HX2 := hide hX2
  clear hX2
  have HV := hide (vuint_any _ p2 q2 B 1 (ln.length : Int) d2.2.1 (by omega) (by omega))
  have hst : ((lay 1 (lay 1 B (be32 (ln.length : Int))) (nums ln), (1 : Int)) : List UInt8 × Int) = (B, 1) := by
    rw [lay_er _ _ _ (by decide), lay_er _ _ _ (by decide)]
  have e1 : B = (lay 1 (lay 1 B (be32 (ln.length : Int))) (nums ln), (1 : Int)).1 := by rw [hst]
  have e2 : (1 : Int) = (lay 1 (lay 1 B (be32 (ln.length : Int))) (nums ln), (1 : Int)).2 := by rw [hst]
  have D2 := d2
  clear d2
  have d2 : Duo w2 p q1 (lay 1 (lay 1 B (be32 (ln.length : Int))) (nums ln), (1 : Int)).1 (lay 1 (lay 1 B (be32 (ln.length : Int))) (nums ln), (1 : Int)).2 p2 q2 B 1 := by rw [hst]; exact D2
  have HST := hide hst
  clear hst e1 e2 D2
  go_wp2_with fail
  refine (unhide HV).mono ?_
  rintro e w3 ⟨rfl, q3, h3, s3⟩
  obtain ⟨d3, t3⟩ := d2.right h3 s3
  have hX3 := box_kept (unhide HX2) hA2 t3
  have hs3 := hs2.step t3
  have hA3 := hA2.step t3
  have T3 := hide ((unhide T2).trans t3)
  clear h3 s3 HV HX2 T2 cl t3
  go_wp2_with fail
  go_loopw [6] (fun i w' => ∃ k : Nat, k ≤ ln.length ∧ i = .int .i64 k ∧ ∃ q', Duo w' p q1 (lay 1 (lay 1 B (be32 (ln.length : Int))) (nums ln), (1 : Int)).1 (lay 1 (lay 1 B (be32 (ln.length : Int))) (nums ln), (1 : Int)).2 p2 q' (lay 1 (lay 1 B (be32 (ln.length : Int))) (nums (ln.take k)), (1 : Int)).1 (lay 1 (lay 1 B (be32 (ln.length : Int))) (nums (ln.take k)), (1 : Int)).2 ∧ DSt w3 w' p q1 q1 p2 q3 q') (fun i _ => ln.length - (intOf i).toNat)
  case atStart => exact ⟨0, Nat.zero_le _, rfl, q3, by simpa [nums, lay_nil] using d3, DSt.refl _ _ _ _ _⟩
  case round =>
    obtain ⟨k, hk, rfl, q5, d5, t5⟩ := hrel
    have hX5 := box_kept hX3 hA3 t5
    have c5 : wr.cell? ⟨w.heap.size, 4, none⟩ = some (Value.slice ao ln.length cap) := by rw [cell_of_heap hX5]; rfl
    have hs5 := hs3.step t5
    by_cases hlt : k < ln.length
    · obtain ⟨b, o, rfl, -, -, hcm, hcell⟩ := hs5.rl.lits (by rw [unhide HXL]; omega)
      have hc := hcell k (by rw [unhide HXL]; omega)
      simp only [uvs, List.getElem_map] at hc
      unfold maxLen at hcm
      obtain ⟨hw1, hw2'⟩ := hs5.wl ln[k] (List.getElem_mem hlt)
      have HS := hide (List.take_succ_eq_append_getElem hlt)
      have hnl := nums_len (ln.take k)
      rw [List.length_take, Nat.min_eq_left hk] at hnl
      have hl1 := lay4 1 B (ln.length : Int)
      have hl2 := lay_len 1 (lay 1 B (be32 (ln.length : Int))) (nums (ln.take k))
      have HN := hide (vuint_any _ p2 q5 _ _ ln[k] d5.2.1 ⟨hw1, hw2'⟩ (by dsimp only; omega))
      generalize ln[k] = m at *
      clear hcell hnl hl1 hl2
      go_wp2_with fail
      refine (unhide HN).mono ?_
      rintro e w6 ⟨rfl, q6, h6, s6⟩
      obtain ⟨d6, t6⟩ := d5.right h6 s6
      go_wp2_with fail
      go_roundw
      case rel =>
        rw [lay_lay 1 (lay 1 B (be32 (ln.length : Int))) (nums (ln.take k)) (be32 m), ← nums_snoc, ← unhide HS] at d6
        exact ⟨k + 1, by omega, by go_num, q6, d6, t5.trans t6⟩
      case measure => simp [intOf]; omega
    · go_wp2_with fail
      go_end0
      rw [show k = ln.length from by omega, List.take_length] at d5
      refine ⟨rfl, q1, q5, _, _, d5, ((unhide T3).trans t5).alloc, ?_⟩
      have hl1 := lay4 1 B (ln.length : Int)
      have hl2 := lay_len 1 (lay 1 B (be32 (ln.length : Int))) (nums ln)
      have hl3 := nums_len ln
      try dsimp only
      omega


set_option maxHeartbeats 1000000 in
set_option maxRecDepth 100000 in
theorem wr8ok (w : World) (p : Nat) (q : Option Nat) (p2 : Nat) (q2 : Option Nat) (B : List UInt8) (E : Int) (n most : Int) (pv lv tv : Value) (lp : List UInt8) (ln : List Int) (lt : List ByteArray) (d : Duo w p q B E p2 q2 B E) (hs : SAt w p q p2 q2 n pv lv tv lp ln lt) (hB : B.length ≤ 1099511627776) (hbad : ¬ (E = 0 ∧ most < (ln.length : Int))) :
    Calls Try.prog 11 #[.pointer (some ⟨p, 0, none⟩), .pointer (some ⟨p2, 0, none⟩), .agg #[.int .i64 8, .int .u64 n, pv, .int .i64 most, lv, tv]] w fun e w' => e = .returned (.tuple #[]) ∧ Wrote w w' p q p2 q2 B := by
  have hX := heap_alloc_new w (Obj.cells #[Value.int IntKind.i64 8, Value.int IntKind.u64 n, pv, Value.int IntKind.i64 most, lv, tv] 35)
  have hA := d.away (Obj.cells #[Value.int IntKind.i64 8, Value.int IntKind.u64 n, pv, Value.int IntKind.i64 most, lv, tv] 35)
  have d0 := d.alloc (Obj.cells #[Value.int IntKind.i64 8, Value.int IntKind.u64 n, pv, Value.int IntKind.i64 most, lv, tv] 35)
  have hs0 := hs.step (DSt.ofAlloc (Obj.cells #[Value.int IntKind.i64 8, Value.int IntKind.u64 n, pv, Value.int IntKind.i64 most, lv, tv] 35) p q p2 q2)
  have hn := hs.hn
  have zp := hs.zp
  have zl := hs.zl
  have zt := hs.zt
  have HX := hide hX
  clear hs d hX
  have hxl : (uvs ln).length = ln.length := by simp [uvs]
  obtain ⟨ao, cap, rfl⟩ := hs0.rl.shape
  rw [hxl] at hs0 HX hA d0 ⊢
  have HXL := hide hxl
  clear hxl
  have hE' := (wlistN_eq B E ln most).2 hbad
  have HC := hide (putListN_any _ p q B E _ ln most d0.1 hs0.rl (fun b hb => (hs0.al b hb).imp id (·.2.1)) hs0.wl (by omega) (by omega))
  rw [hE'] at HC
  have HA := hide hA
  have hguard : (E = 0 ∧ ¬ most < (ln.length : Int)) ∨ (E == 0) = false := by
    by_cases h0 : E = 0
    · exact .inl ⟨h0, fun h => hbad ⟨h0, h⟩⟩
    · exact .inr (by simpa using h0)
  have HBAD := hide hbad
  clear hbad
  have hll : (ln.length : Int) % 4294967296 = (ln.length : Int) := by omega
  clear hA hE'
  go_enter Try.func11, Try.ntmps11
  go_wp2_with fail
  refine (unhide HC).mono ?_
  rintro e w1 ⟨rfl, q1, h1, s1⟩
  obtain ⟨d1, t1⟩ := d0.left h1 s1
  have hX1 := box_kept (unhide HX) (unhide HA) t1
  have hs1 := hs0.step t1
  have hA1 := (unhide HA).step t1
  have c3 : w1.cell? ⟨w.heap.size, 3, none⟩ = some (Value.int IntKind.i64 most) := by rw [cell_of_heap hX1]; rfl
  have cl : w1.cell? ⟨w.heap.size, 4, none⟩ = some (Value.slice ao ln.length cap) := by rw [cell_of_heap hX1]; rfl
  have ce := d1.2.1.cell1'
  have HX1 := hide hX1
  clear h1 s1 HC hX1 HX HA
  have d2 := d1
  have hs2 := hs1
  have hA2 := hA1
  have T2 := hide t1
  have HX2 := HX1
  clear d1 hs1 hA1 HX1 t1
  generalize hw2 : w1 = w2 at *
  have HV := hide (vuint_any _ p2 q2 B E (ln.length : Int) d2.2.1 (by omega) (by omega))
  rcases hguard with ⟨h0, hm⟩ | hb
  · subst h0
    go_wp2_with fail
    refine (unhide HV).mono ?_
    rintro e w3 ⟨rfl, q3, h3, s3⟩
    obtain ⟨d3, t3⟩ := d2.right h3 s3
    have hX3 := box_kept (unhide HX2) hA2 t3
    have hs3 := hs2.step t3
    have hA3 := hA2.step t3
    have T3 := hide ((unhide T2).trans t3)
    clear h3 s3 HV HX2 T2 cl t3
    go_wp2_with fail
    go_loopw [6] (fun i w' => ∃ k : Nat, k ≤ ln.length ∧ i = .int .i64 k ∧ ∃ q', Duo w' p q1 (lay 0 (lay 0 B (be32 (ln.length : Int))) (nums ln), (0 : Int)).1 (lay 0 (lay 0 B (be32 (ln.length : Int))) (nums ln), (0 : Int)).2 p2 q' (lay 0 (lay 0 B (be32 (ln.length : Int))) (nums (ln.take k)), (0 : Int)).1 (lay 0 (lay 0 B (be32 (ln.length : Int))) (nums (ln.take k)), (0 : Int)).2 ∧ DSt w3 w' p q1 q1 p2 q3 q') (fun i _ => ln.length - (intOf i).toNat)
    case atStart => exact ⟨0, Nat.zero_le _, rfl, q3, by simpa [nums, lay_nil] using d3, DSt.refl _ _ _ _ _⟩
    case round =>
      obtain ⟨k, hk, rfl, q5, d5, t5⟩ := hrel
      have hX5 := box_kept hX3 hA3 t5
      have c5 : wr.cell? ⟨w.heap.size, 4, none⟩ = some (Value.slice ao ln.length cap) := by rw [cell_of_heap hX5]; rfl
      have hs5 := hs3.step t5
      by_cases hlt : k < ln.length
      · obtain ⟨b, o, rfl, -, -, hcm, hcell⟩ := hs5.rl.lits (by rw [unhide HXL]; omega)
        have hc := hcell k (by rw [unhide HXL]; omega)
        simp only [uvs, List.getElem_map] at hc
        unfold maxLen at hcm
        obtain ⟨hw1, hw2'⟩ := hs5.wl ln[k] (List.getElem_mem hlt)
        have HS := hide (List.take_succ_eq_append_getElem hlt)
        have hnl := nums_len (ln.take k)
        rw [List.length_take, Nat.min_eq_left hk] at hnl
        have hl1 := lay4 0 B (ln.length : Int)
        have hl2 := lay_len 0 (lay 0 B (be32 (ln.length : Int))) (nums (ln.take k))
        have HN := hide (vuint_any _ p2 q5 _ _ ln[k] d5.2.1 ⟨hw1, hw2'⟩ (by dsimp only; omega))
        generalize ln[k] = m at *
        clear hcell hnl hl1 hl2
        go_wp2_with fail
        refine (unhide HN).mono ?_
        rintro e w6 ⟨rfl, q6, h6, s6⟩
        obtain ⟨d6, t6⟩ := d5.right h6 s6
        go_wp2_with fail
        go_roundw
        case rel =>
          rw [lay_lay 0 (lay 0 B (be32 (ln.length : Int))) (nums (ln.take k)) (be32 m), ← nums_snoc, ← unhide HS] at d6
          exact ⟨k + 1, by omega, by go_num, q6, d6, t5.trans t6⟩
        case measure => simp [intOf]; omega
      · go_wp2_with fail
        go_end0
        rw [show k = ln.length from by omega, List.take_length] at d5
        refine ⟨rfl, q1, q5, _, _, d5, ((unhide T3).trans t5).alloc, ?_⟩
        have hl1 := lay4 0 B (ln.length : Int)
        have hl2 := lay_len 0 (lay 0 B (be32 (ln.length : Int))) (nums ln)
        have hl3 := nums_len ln
        try dsimp only
        omega
  · go_wp2_with fail
    refine (unhide HV).mono ?_
    rintro e w3 ⟨rfl, q3, h3, s3⟩
    obtain ⟨d3, t3⟩ := d2.right h3 s3
    have hX3 := box_kept (unhide HX2) hA2 t3
    have hs3 := hs2.step t3
    have hA3 := hA2.step t3
    have T3 := hide ((unhide T2).trans t3)
    clear h3 s3 HV HX2 T2 cl t3
    go_wp2_with fail
    go_loopw [6] (fun i w' => ∃ k : Nat, k ≤ ln.length ∧ i = .int .i64 k ∧ ∃ q', Duo w' p q1 (lay E (lay E B (be32 (ln.length : Int))) (nums ln), (E : Int)).1 (lay E (lay E B (be32 (ln.length : Int))) (nums ln), (E : Int)).2 p2 q' (lay E (lay E B (be32 (ln.length : Int))) (nums (ln.take k)), (E : Int)).1 (lay E (lay E B (be32 (ln.length : Int))) (nums (ln.take k)), (E : Int)).2 ∧ DSt w3 w' p q1 q1 p2 q3 q') (fun i _ => ln.length - (intOf i).toNat)
    case atStart => exact ⟨0, Nat.zero_le _, rfl, q3, by simpa [nums, lay_nil] using d3, DSt.refl _ _ _ _ _⟩
    case round =>
      obtain ⟨k, hk, rfl, q5, d5, t5⟩ := hrel
      have hX5 := box_kept hX3 hA3 t5
      have c5 : wr.cell? ⟨w.heap.size, 4, none⟩ = some (Value.slice ao ln.length cap) := by rw [cell_of_heap hX5]; rfl
      have hs5 := hs3.step t5
      by_cases hlt : k < ln.length
      · obtain ⟨b, o, rfl, -, -, hcm, hcell⟩ := hs5.rl.lits (by rw [unhide HXL]; omega)
        have hc := hcell k (by rw [unhide HXL]; omega)
        simp only [uvs, List.getElem_map] at hc
        unfold maxLen at hcm
        obtain ⟨hw1, hw2'⟩ := hs5.wl ln[k] (List.getElem_mem hlt)
        have HS := hide (List.take_succ_eq_append_getElem hlt)
        have hnl := nums_len (ln.take k)
        rw [List.length_take, Nat.min_eq_left hk] at hnl
        have hl1 := lay4 E B (ln.length : Int)
        have hl2 := lay_len E (lay E B (be32 (ln.length : Int))) (nums (ln.take k))
        have HN := hide (vuint_any _ p2 q5 _ _ ln[k] d5.2.1 ⟨hw1, hw2'⟩ (by dsimp only; omega))
        generalize ln[k] = m at *
        clear hcell hnl hl1 hl2
        go_wp2_with fail
        refine (unhide HN).mono ?_
        rintro e w6 ⟨rfl, q6, h6, s6⟩
        obtain ⟨d6, t6⟩ := d5.right h6 s6
        go_wp2_with fail
        go_roundw
        case rel =>
          rw [lay_lay E (lay E B (be32 (ln.length : Int))) (nums (ln.take k)) (be32 m), ← nums_snoc, ← unhide HS] at d6
          exact ⟨k + 1, by omega, by go_num, q6, d6, t5.trans t6⟩
        case measure => simp [intOf]; omega
      · go_wp2_with fail
        go_end0
        rw [show k = ln.length from by omega, List.take_length] at d5
        refine ⟨rfl, q1, q5, _, _, d5, ((unhide T3).trans t5).alloc, ?_⟩
        have hl1 := lay4 E B (ln.length : Int)
        have hl2 := lay_len E (lay E B (be32 (ln.length : Int))) (nums ln)
        have hl3 := nums_len ln
        try dsimp only
        omega


set_option maxHeartbeats 1000000 in
set_option maxRecDepth 100000 in
theorem wr11bad (w : World) (p : Nat) (q : Option Nat) (p2 : Nat) (q2 : Option Nat) (B : List UInt8) (E : Int) (n most : Int) (pv lv tv : Value) (lp : List UInt8) (ln : List Int) (lt : List ByteArray) (d : Duo w p q B E p2 q2 B E) (hs : SAt w p q p2 q2 n pv lv tv lp ln lt) (hB : B.length ≤ 1099511627776) (hbad : E = 0 ∧ most < (lt.length : Int)) :
    Calls Try.prog 11 #[.pointer (some ⟨p, 0, none⟩), .pointer (some ⟨p2, 0, none⟩), .agg #[.int .i64 11, .int .u64 n, pv, .int .i64 most, lv, tv]] w fun e w' => e = .returned (.tuple #[]) ∧ Wrote w w' p q p2 q2 B := by
  have hX := heap_alloc_new w (Obj.cells #[Value.int IntKind.i64 11, Value.int IntKind.u64 n, pv, Value.int IntKind.i64 most, lv, tv] 35)
  have hA := d.away (Obj.cells #[Value.int IntKind.i64 11, Value.int IntKind.u64 n, pv, Value.int IntKind.i64 most, lv, tv] 35)
  have d0 := d.alloc (Obj.cells #[Value.int IntKind.i64 11, Value.int IntKind.u64 n, pv, Value.int IntKind.i64 most, lv, tv] 35)
  have hs0 := hs.step (DSt.ofAlloc (Obj.cells #[Value.int IntKind.i64 11, Value.int IntKind.u64 n, pv, Value.int IntKind.i64 most, lv, tv] 35) p q p2 q2)
  have hn := hs.hn
  have zp := hs.zp
  have zl := hs.zl
  have zt := hs.zt
  have HX := hide hX
  clear hs d hX
  have hxl : (svs lt).length = lt.length := by simp [svs]
  obtain ⟨ao, cap, rfl⟩ := hs0.rt.shape
  rw [hxl] at hs0 HX hA d0 ⊢
  have HXL := hide hxl
  clear hxl
  have hE' := (wlistS_eq B E lt most).1 hbad
  have HC := hide (putListS_any _ p q B E _ lt most d0.1 hs0.rt (fun b hb => (hs0.at_ b hb).imp id (·.2.1)) (fun t ht => by have := hs0.wt t ht; omega) (by omega) (by omega))
  rw [hE'] at HC
  have HA := hide hA
  obtain ⟨hE0, hm⟩ := hbad
  subst hE0
  have hmg : ((most : Int) < (lt.length : Int)) := hm
  have hll : (lt.length : Int) % 4294967296 = (lt.length : Int) := by omega
  clear hA hE'
  go_enter Try.func11, Try.ntmps11
  go_wp2_with fail
  refine (unhide HC).mono ?_
  rintro e w1 ⟨rfl, q1, h1, s1⟩
  obtain ⟨d1, t1⟩ := d0.left h1 s1
  have hX1 := box_kept (unhide HX) (unhide HA) t1
  have hs1 := hs0.step t1
  have hA1 := (unhide HA).step t1
  have c3 : w1.cell? ⟨w.heap.size, 3, none⟩ = some (Value.int IntKind.i64 most) := by rw [cell_of_heap hX1]; rfl
  have cl : w1.cell? ⟨w.heap.size, 5, none⟩ = some (Value.slice ao lt.length cap) := by rw [cell_of_heap hX1]; rfl
  have ce := d1.2.1.cell1'
  have HX1 := hide hX1
  clear h1 s1 HC hX1 HX HA
  have zf := d1.2.1.froz
  go_wp2_with fail
  obtain ⟨vE, sE⟩ := d1.2.1.err 1
  obtain ⟨d2, t2⟩ := d1.right vE sE
  have hX2 := box_kept (unhide HX1) hA1 t2
  have hs2 := hs1.step t2
  have hA2 := hA1.step t2
  have T2 := hide (t1.trans t2)
  clear vE sE t1 t2 c3 cl ce zf HX1 d1 hs1 hA1
  generalize w1.setCell ⟨p2, 1, none⟩ (Value.int IntKind.i64 1) = w2 at *
  have cl : w2.cell? ⟨w.heap.size, 5, none⟩ = some (Value.slice ao lt.length cap) := by rw [cell_of_heap hX2]; rfl
  have HX2 := hide hX2
  clear hX2
  have HV := hide (vuint_any _ p2 q2 B 1 (lt.length : Int) d2.2.1 (by omega) (by omega))
  have hst : ((wtexts (lay 1 B (be32 (lt.length : Int)), 1) lt) : List UInt8 × Int) = (B, 1) := by
    rw [lay_er _ _ _ (by decide), wtexts_er _ _ (by simp)]
  have e1 : B = (wtexts (lay 1 B (be32 (lt.length : Int)), 1) lt).1 := by rw [hst]
  have e2 : (1 : Int) = (wtexts (lay 1 B (be32 (lt.length : Int)), 1) lt).2 := by rw [hst]
  have D2 := d2
  clear d2
  have d2 : Duo w2 p q1 (wtexts (lay 1 B (be32 (lt.length : Int)), 1) lt).1 (wtexts (lay 1 B (be32 (lt.length : Int)), 1) lt).2 p2 q2 B 1 := by rw [hst]; exact D2
  have HST := hide hst
  clear hst e1 e2 D2
  go_wp2_with fail
  refine (unhide HV).mono ?_
  rintro e w3 ⟨rfl, q3, h3, s3⟩
  obtain ⟨d3, t3⟩ := d2.right h3 s3
  have hX3 := box_kept (unhide HX2) hA2 t3
  have hs3 := hs2.step t3
  have hA3 := hA2.step t3
  have T3 := hide ((unhide T2).trans t3)
  clear h3 s3 HV HX2 T2 cl t3
  go_wp2_with fail
  go_loopw [7] (fun i w' => ∃ k : Nat, k ≤ lt.length ∧ i = .int .i64 k ∧ ∃ q', Duo w' p q1 (wtexts (lay 1 B (be32 (lt.length : Int)), 1) lt).1 (wtexts (lay 1 B (be32 (lt.length : Int)), 1) lt).2 p2 q' (wtexts (lay 1 B (be32 (lt.length : Int)), 1) (lt.take k)).1 (wtexts (lay 1 B (be32 (lt.length : Int)), 1) (lt.take k)).2 ∧ DSt w3 w' p q1 q1 p2 q3 q') (fun i _ => lt.length - (intOf i).toNat)
  case atStart => exact ⟨0, Nat.zero_le _, rfl, q3, by simpa [wtexts] using d3, DSt.refl _ _ _ _ _⟩
  case round =>
    obtain ⟨k, hk, rfl, q5, d5, t5⟩ := hrel
    have hX5 := box_kept hX3 hA3 t5
    have c5 : wr.cell? ⟨w.heap.size, 5, none⟩ = some (Value.slice ao lt.length cap) := by rw [cell_of_heap hX5]; rfl
    have hs5 := hs3.step t5
    by_cases hlt : k < lt.length
    · obtain ⟨b, o, rfl, -, -, hcm, hcell⟩ := hs5.rt.lits (by rw [unhide HXL]; omega)
      have hc := hcell k (by rw [unhide HXL]; omega)
      simp only [svs, List.getElem_map] at hc
      unfold maxLen at hcm
      have hw1 := hs5.wt lt[k] (List.getElem_mem hlt)
      have HS := hide (List.take_succ_eq_append_getElem hlt)
      have hnl := wtexts_len (lt.take k) (lay 1 B (be32 (lt.length : Int)), 1)
      rw [List.length_take, Nat.min_eq_left hk] at hnl
      have hl1 := lay4 1 B (lt.length : Int)
      dsimp only at hnl
      have HT := hide (wtexts_snoc (lay 1 B (be32 (lt.length : Int)), 1) (lt.take k) lt[k])
      obtain ⟨dB, tB, rB, aB⟩ := bytesWorld_duo d5 lt[k] (by unfold maxLen; omega)
      have kc := Lib.run_convert_string_bytes (P := Try.prog) wr 9 28 5 lt[k] Try.underlying9
      have HN := hide (vopaque_any _ p2 q5 _ _ _ lt[k].data.toList 7 dB.2.1 rB (fun b hb => by simp only [Value.ownBlock, Option.some.injEq] at hb; subst hb; exact aB) (by simp; omega) (by simp; omega))
      generalize lt[k] = m at *
      have HTB := hide tB
      clear hcell hnl hl1 rB aB tB
      go_wp2_with fail
      refine (unhide HN).mono ?_
      rintro e w6 ⟨rfl, q6, h6, s6⟩
      obtain ⟨d6, t6⟩ := dB.right h6 s6
      go_wp2_with fail
      go_roundw
      case rel =>
        rw [← unhide HT, ← unhide HS] at d6
        exact ⟨k + 1, by omega, by go_num, q6, d6, (t5.trans (unhide HTB)).trans t6⟩
      case measure => simp [intOf]; omega
    · go_wp2_with fail
      go_end0
      rw [show k = lt.length from by omega, List.take_length] at d5
      refine ⟨rfl, q1, q5, _, _, d5, ((unhide T3).trans t5).alloc, ?_⟩
      have hl1 := lay4 1 B (lt.length : Int)
      have hl2 := wtexts_len lt (lay 1 B (be32 (lt.length : Int)), 1)
      dsimp only at hl2
      omega


set_option maxHeartbeats 1000000 in
set_option maxRecDepth 100000 in
theorem wr11ok (w : World) (p : Nat) (q : Option Nat) (p2 : Nat) (q2 : Option Nat) (B : List UInt8) (E : Int) (n most : Int) (pv lv tv : Value) (lp : List UInt8) (ln : List Int) (lt : List ByteArray) (d : Duo w p q B E p2 q2 B E) (hs : SAt w p q p2 q2 n pv lv tv lp ln lt) (hB : B.length ≤ 1099511627776) (hbad : ¬ (E = 0 ∧ most < (lt.length : Int))) :
    Calls Try.prog 11 #[.pointer (some ⟨p, 0, none⟩), .pointer (some ⟨p2, 0, none⟩), .agg #[.int .i64 11, .int .u64 n, pv, .int .i64 most, lv, tv]] w fun e w' => e = .returned (.tuple #[]) ∧ Wrote w w' p q p2 q2 B := by
  have hX := heap_alloc_new w (Obj.cells #[Value.int IntKind.i64 11, Value.int IntKind.u64 n, pv, Value.int IntKind.i64 most, lv, tv] 35)
  have hA := d.away (Obj.cells #[Value.int IntKind.i64 11, Value.int IntKind.u64 n, pv, Value.int IntKind.i64 most, lv, tv] 35)
  have d0 := d.alloc (Obj.cells #[Value.int IntKind.i64 11, Value.int IntKind.u64 n, pv, Value.int IntKind.i64 most, lv, tv] 35)
  have hs0 := hs.step (DSt.ofAlloc (Obj.cells #[Value.int IntKind.i64 11, Value.int IntKind.u64 n, pv, Value.int IntKind.i64 most, lv, tv] 35) p q p2 q2)
  have hn := hs.hn
  have zp := hs.zp
  have zl := hs.zl
  have zt := hs.zt
  have HX := hide hX
  clear hs d hX
  have hxl : (svs lt).length = lt.length := by simp [svs]
  obtain ⟨ao, cap, rfl⟩ := hs0.rt.shape
  rw [hxl] at hs0 HX hA d0 ⊢
  have HXL := hide hxl
  clear hxl
  have hE' := (wlistS_eq B E lt most).2 hbad
  have HC := hide (putListS_any _ p q B E _ lt most d0.1 hs0.rt (fun b hb => (hs0.at_ b hb).imp id (·.2.1)) (fun t ht => by have := hs0.wt t ht; omega) (by omega) (by omega))
  rw [hE'] at HC
  have HA := hide hA
  have hguard : (E = 0 ∧ ¬ most < (lt.length : Int)) ∨ (E == 0) = false := by
    by_cases h0 : E = 0
    · exact .inl ⟨h0, fun h => hbad ⟨h0, h⟩⟩
    · exact .inr (by simpa using h0)
  have HBAD := hide hbad
  clear hbad
  have hll : (lt.length : Int) % 4294967296 = (lt.length : Int) := by omega
  clear hA hE'
  go_enter Try.func11, Try.ntmps11
  go_wp2_with fail
  refine (unhide HC).mono ?_
  rintro e w1 ⟨rfl, q1, h1, s1⟩
  obtain ⟨d1, t1⟩ := d0.left h1 s1
  have hX1 := box_kept (unhide HX) (unhide HA) t1
  have hs1 := hs0.step t1
  have hA1 := (unhide HA).step t1
  have c3 : w1.cell? ⟨w.heap.size, 3, none⟩ = some (Value.int IntKind.i64 most) := by rw [cell_of_heap hX1]; rfl
  have cl : w1.cell? ⟨w.heap.size, 5, none⟩ = some (Value.slice ao lt.length cap) := by rw [cell_of_heap hX1]; rfl
  have ce := d1.2.1.cell1'
  have HX1 := hide hX1
  clear h1 s1 HC hX1 HX HA
  have d2 := d1
  have hs2 := hs1
  have hA2 := hA1
  have T2 := hide t1
  have HX2 := HX1
  clear d1 hs1 hA1 HX1 t1
  generalize hw2 : w1 = w2 at *
  have HV := hide (vuint_any _ p2 q2 B E (lt.length : Int) d2.2.1 (by omega) (by omega))
  rcases hguard with ⟨h0, hm⟩ | hb
  · subst h0
    go_wp2_with fail
    refine (unhide HV).mono ?_
    rintro e w3 ⟨rfl, q3, h3, s3⟩
    obtain ⟨d3, t3⟩ := d2.right h3 s3
    have hX3 := box_kept (unhide HX2) hA2 t3
    have hs3 := hs2.step t3
    have hA3 := hA2.step t3
    have T3 := hide ((unhide T2).trans t3)
    clear h3 s3 HV HX2 T2 cl t3
    go_wp2_with fail
    go_loopw [7] (fun i w' => ∃ k : Nat, k ≤ lt.length ∧ i = .int .i64 k ∧ ∃ q', Duo w' p q1 (wtexts (lay 0 B (be32 (lt.length : Int)), 0) lt).1 (wtexts (lay 0 B (be32 (lt.length : Int)), 0) lt).2 p2 q' (wtexts (lay 0 B (be32 (lt.length : Int)), 0) (lt.take k)).1 (wtexts (lay 0 B (be32 (lt.length : Int)), 0) (lt.take k)).2 ∧ DSt w3 w' p q1 q1 p2 q3 q') (fun i _ => lt.length - (intOf i).toNat)
    case atStart => exact ⟨0, Nat.zero_le _, rfl, q3, by simpa [wtexts] using d3, DSt.refl _ _ _ _ _⟩
    case round =>
      obtain ⟨k, hk, rfl, q5, d5, t5⟩ := hrel
      have hX5 := box_kept hX3 hA3 t5
      have c5 : wr.cell? ⟨w.heap.size, 5, none⟩ = some (Value.slice ao lt.length cap) := by rw [cell_of_heap hX5]; rfl
      have hs5 := hs3.step t5
      by_cases hlt : k < lt.length
      · obtain ⟨b, o, rfl, -, -, hcm, hcell⟩ := hs5.rt.lits (by rw [unhide HXL]; omega)
        have hc := hcell k (by rw [unhide HXL]; omega)
        simp only [svs, List.getElem_map] at hc
        unfold maxLen at hcm
        have hw1 := hs5.wt lt[k] (List.getElem_mem hlt)
        have HS := hide (List.take_succ_eq_append_getElem hlt)
        have hnl := wtexts_len (lt.take k) (lay 0 B (be32 (lt.length : Int)), 0)
        rw [List.length_take, Nat.min_eq_left hk] at hnl
        have hl1 := lay4 0 B (lt.length : Int)
        dsimp only at hnl
        have HT := hide (wtexts_snoc (lay 0 B (be32 (lt.length : Int)), 0) (lt.take k) lt[k])
        obtain ⟨dB, tB, rB, aB⟩ := bytesWorld_duo d5 lt[k] (by unfold maxLen; omega)
        have kc := Lib.run_convert_string_bytes (P := Try.prog) wr 9 28 5 lt[k] Try.underlying9
        have HN := hide (vopaque_any _ p2 q5 _ _ _ lt[k].data.toList 7 dB.2.1 rB (fun b hb => by simp only [Value.ownBlock, Option.some.injEq] at hb; subst hb; exact aB) (by simp; omega) (by simp; omega))
        generalize lt[k] = m at *
        have HTB := hide tB
        clear hcell hnl hl1 rB aB tB
        go_wp2_with fail
        refine (unhide HN).mono ?_
        rintro e w6 ⟨rfl, q6, h6, s6⟩
        obtain ⟨d6, t6⟩ := dB.right h6 s6
        go_wp2_with fail
        go_roundw
        case rel =>
          rw [← unhide HT, ← unhide HS] at d6
          exact ⟨k + 1, by omega, by go_num, q6, d6, (t5.trans (unhide HTB)).trans t6⟩
        case measure => simp [intOf]; omega
      · go_wp2_with fail
        go_end0
        rw [show k = lt.length from by omega, List.take_length] at d5
        refine ⟨rfl, q1, q5, _, _, d5, ((unhide T3).trans t5).alloc, ?_⟩
        have hl1 := lay4 0 B (lt.length : Int)
        have hl2 := wtexts_len lt (lay 0 B (be32 (lt.length : Int)), 0)
        dsimp only at hl2
        omega
  · go_wp2_with fail
    refine (unhide HV).mono ?_
    rintro e w3 ⟨rfl, q3, h3, s3⟩
    obtain ⟨d3, t3⟩ := d2.right h3 s3
    have hX3 := box_kept (unhide HX2) hA2 t3
    have hs3 := hs2.step t3
    have hA3 := hA2.step t3
    have T3 := hide ((unhide T2).trans t3)
    clear h3 s3 HV HX2 T2 cl t3
    go_wp2_with fail
    go_loopw [7] (fun i w' => ∃ k : Nat, k ≤ lt.length ∧ i = .int .i64 k ∧ ∃ q', Duo w' p q1 (wtexts (lay E B (be32 (lt.length : Int)), E) lt).1 (wtexts (lay E B (be32 (lt.length : Int)), E) lt).2 p2 q' (wtexts (lay E B (be32 (lt.length : Int)), E) (lt.take k)).1 (wtexts (lay E B (be32 (lt.length : Int)), E) (lt.take k)).2 ∧ DSt w3 w' p q1 q1 p2 q3 q') (fun i _ => lt.length - (intOf i).toNat)
    case atStart => exact ⟨0, Nat.zero_le _, rfl, q3, by simpa [wtexts] using d3, DSt.refl _ _ _ _ _⟩
    case round =>
      obtain ⟨k, hk, rfl, q5, d5, t5⟩ := hrel
      have hX5 := box_kept hX3 hA3 t5
      have c5 : wr.cell? ⟨w.heap.size, 5, none⟩ = some (Value.slice ao lt.length cap) := by rw [cell_of_heap hX5]; rfl
      have hs5 := hs3.step t5
      by_cases hlt : k < lt.length
      · obtain ⟨b, o, rfl, -, -, hcm, hcell⟩ := hs5.rt.lits (by rw [unhide HXL]; omega)
        have hc := hcell k (by rw [unhide HXL]; omega)
        simp only [svs, List.getElem_map] at hc
        unfold maxLen at hcm
        have hw1 := hs5.wt lt[k] (List.getElem_mem hlt)
        have HS := hide (List.take_succ_eq_append_getElem hlt)
        have hnl := wtexts_len (lt.take k) (lay E B (be32 (lt.length : Int)), E)
        rw [List.length_take, Nat.min_eq_left hk] at hnl
        have hl1 := lay4 E B (lt.length : Int)
        dsimp only at hnl
        have HT := hide (wtexts_snoc (lay E B (be32 (lt.length : Int)), E) (lt.take k) lt[k])
        obtain ⟨dB, tB, rB, aB⟩ := bytesWorld_duo d5 lt[k] (by unfold maxLen; omega)
        have kc := Lib.run_convert_string_bytes (P := Try.prog) wr 9 28 5 lt[k] Try.underlying9
        have HN := hide (vopaque_any _ p2 q5 _ _ _ lt[k].data.toList 7 dB.2.1 rB (fun b hb => by simp only [Value.ownBlock, Option.some.injEq] at hb; subst hb; exact aB) (by simp; omega) (by simp; omega))
        generalize lt[k] = m at *
        have HTB := hide tB
        clear hcell hnl hl1 rB aB tB
        go_wp2_with fail
        refine (unhide HN).mono ?_
        rintro e w6 ⟨rfl, q6, h6, s6⟩
        obtain ⟨d6, t6⟩ := dB.right h6 s6
        go_wp2_with fail
        go_roundw
        case rel =>
          rw [← unhide HT, ← unhide HS] at d6
          exact ⟨k + 1, by omega, by go_num, q6, d6, (t5.trans (unhide HTB)).trans t6⟩
        case measure => simp [intOf]; omega
      · go_wp2_with fail
        go_end0
        rw [show k = lt.length from by omega, List.take_length] at d5
        refine ⟨rfl, q1, q5, _, _, d5, ((unhide T3).trans t5).alloc, ?_⟩
        have hl1 := lay4 E B (lt.length : Int)
        have hl2 := wtexts_len lt (lay E B (be32 (lt.length : Int)), E)
        dsimp only at hl2
        omega


end Go.Proofs.Ytmnbdpdblpgnlaa
