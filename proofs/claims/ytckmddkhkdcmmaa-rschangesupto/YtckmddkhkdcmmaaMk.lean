/-
  The walks of package gf's Make, and of the document's Same.
-/
import Derived.Test.YtckmddkhkdcmmaaBes
import Derived.Laws.BytesArg
import Derived.Lib.ConvBytes
namespace Go.Proofs.Ytckmddkhkdcmmaa
open Go.RowKit
set_option linter.unusedVariables false

attribute [local go_sem ↓] Go.wp_at_zero Go.wp_at_succ

/-- A text of bytes. -/
def str (l : List UInt8) : ByteArray := ⟨l.toArray⟩

theorem str_data (l : List UInt8) : (str l).data.toList = l := by simp [str]
theorem str_size (l : List UInt8) : (str l).size = l.length := by simp [str, ByteArray.size]

theorem conv_rd {P : Program} {w : World} {v : Value} {l : List UInt8} (h : Rd w v l) (src dst e : TypeId) (hs : P.underlying src = some (.slice e)) (he : P.underlying e = some (.int .u8)) (hd : P.underlying dst = some .string) :
    (convert src dst v).run P w = .ok (.string (str l)) w := by
  obtain ⟨ao, cap, rfl⟩ := h.shape
  by_cases hl : l.length = 0
  · obtain rfl := List.eq_nil_of_length_eq_zero hl
    rw [run_convert_bytes_string w src dst e _ _ _ hs he hd]
    cases ao with
    | none => simp [Conv.bytesToString, str]; rfl
    | some ad =>
      have e2 : (loadCells ad 0).run P w = .ok (([] : List Int).map (Value.int .u8)).toArray w := by simp [loadCells, loadCellsFrom]
      exact (run_bytesToString w ad 0 cap [] e2).trans rfl
  · obtain ⟨b, o, rfl, _, _, _, h3⟩ := h.lits (by omega)
    rw [run_convert_bytes_arg w src e hs he b o l.length cap (l.map fun b => (b.toNat : Int)) (by simp) ?_ dst hd]
    · rw [show strOfNums (l.map fun b => (b.toNat : Int)) = str l from ?_]
      unfold strOfNums str
      rw [List.map_map]
      congr 2
      have : ((fun n : Int => UInt8.ofNat n.toNat) ∘ fun b : UInt8 => (b.toNat : Int)) = id := by
        funext b; simp
      rw [this, List.map_id]
    · intro i hi
      rw [h3 i hi]
      simp [List.getD, hi]

theorem str_inj {a b : List UInt8} (h : str a = str b) : a = b := by
  have := congrArg (fun s => s.data.toList) h
  simpa [str] using this

/-- A matrix: its value, its sides, its cells. -/
def MAt (w : World) (val : Value) (r c : Int) (l : List UInt8) : Prop := ∃ v, val = .agg #[.int .i64 r, .int .i64 c, v] ∧ Rd w v l

/-- Memory that was not there. -/
def New (w : World) (val : Value) : Prop := ∀ r c v b, val = .agg #[r, c, v] → v.ownBlock = some b → w.heap.size ≤ b

theorem MAt.kept {S : Nat → Prop} {w w' : World} {val : Value} {r c : Int} {l : List UInt8} (h : MAt w val r c l) (f : Fr S w w') (hS : ∀ rr cc v b, val = .agg #[rr, cc, v] → v.ownBlock = some b → ¬ S b) : MAt w' val r c l := by
  obtain ⟨v, rfl, h⟩ := h
  exact ⟨v, rfl, h.kept f (fun b e => hS _ _ v b rfl e)⟩

theorem MAt.kept0 {w w' : World} {val : Value} {r c : Int} {l : List UInt8} (h : MAt w val r c l) (f : Fr (fun _ => False) w w') : MAt w' val r c l := h.kept f (fun _ _ _ _ _ _ h => h)

set_option maxHeartbeats 400000 in
theorem same_any (w : World) (r1 c1 r2 c2 : Int) (v1 v2 : Value) (l1 l2 : List UInt8) (h1 : Rd w v1 l1) (h2 : Rd w v2 l2) :
    Calls Try.prog 34 #[.agg #[.int .i64 r1, .int .i64 c1, v1], .agg #[.int .i64 r2, .int .i64 c2, v2]] w fun e w' => e = .returned (.bool (decide (r1 = r2 ∧ c1 = c2 ∧ l1 = l2))) ∧ Fr (fun _ => False) w w' := by
  have f := ((Fr.refl (fun _ => False) w).alloc (Obj.cells #[.int .i64 r1, .int .i64 c1, v1] 24)).alloc (Obj.cells #[.int .i64 r2, .int .i64 c2, v2] 24)
  have k1 := conv_rd (P := Try.prog) (h1.kept f (fun _ _ h => h)) 22 9 5 Try.underlying22 Try.underlying5 Try.underlying9
  have k2 := conv_rd (P := Try.prog) (h2.kept f (fun _ _ h => h)) 22 9 5 Try.underlying22 Try.underlying5 Try.underlying9
  obtain ⟨ao1, cap1, rfl⟩ := h1.shape
  obtain ⟨ao2, cap2, rfl⟩ := h2.shape
  have F := hide f
  clear h1 h2 f
  by_cases e1 : r1 = r2
  · have g1 : (r1 == r2) = true := by simpa using e1
    by_cases e2 : c1 = c2
    · have g2 : (c1 == c2) = true := by simpa using e2
      have hs : ((str l1).toList == (str l2).toList) = decide (l1 = l2) := by
        rw [ByteArray.toList_eq, ByteArray.toList_eq, str_data, str_data, Bool.eq_iff_iff]; simp
      have hd : decide (r1 = r2 ∧ c1 = c2 ∧ l1 = l2) = decide (l1 = l2) := by simp [e1, e2]
      rw [hd]
      have HS := hide hs
      clear e1 e2 hd hs
      generalize str l1 = s1 at *
      generalize str l2 = s2 at *
      go_enter Try.func34, Try.ntmps34
      go_wp2_with fail
      go_ret
      exact ⟨by rw [← unhide HS]; rfl, unhide F⟩
    · have g2 : (c1 == c2) = false := by simpa using e2
      have hd : decide (r1 = r2 ∧ c1 = c2 ∧ l1 = l2) = false := by simp [e2]
      rw [hd]
      clear e1 e2 hd k1 k2
      go_enter Try.func34, Try.ntmps34
      go_wp2_with fail
      go_ret
      exact ⟨rfl, unhide F⟩
  · have g1 : (r1 == r2) = false := by simpa using e1
    have hd : decide (r1 = r2 ∧ c1 = c2 ∧ l1 = l2) = false := by simp [e1]
    rw [hd]
    clear e1 hd k1 k2
    go_enter Try.func34, Try.ntmps34
    go_wp2_with fail
    go_ret
    exact ⟨rfl, unhide F⟩

theorem make1_any (w : World) (b : Nat) (R : Int) (r c cols : Nat) (v : Value) (l : List UInt8) (hb : w.heap[b]? = some (.cells #[.int .i64 R, .int .i64 (cols : Int), v] 24 (0, 0))) (hv : Rd w v l) (hr : r ≤ 64) (hc : c ≤ 64) (hcols : cols ≤ 64) (hi : r * cols + c < l.length) :
    Calls Try.prog 85 #[.int .i64 (r : Int), .int .i64 (c : Int), .pointer (some ⟨b, 0, none⟩)] w fun e w' => e = .returned (.int .u8 (((l[r * cols + c]).toNat : Nat) : Int)) ∧ Fr (fun _ => False) w w' := by
  have c0 := cell_of_heap hb 0
  have c1 := cell_of_heap hb 1
  have c2 := cell_of_heap hb 2
  simp at c0 c1 c2
  have HA := hide (at_any w R r c cols v l hv hr hc hcols hi)
  clear hb hv
  go_enter Try.func85, Try.ntmps85
  go_wp2_with (go_at_call 69; refine (unhide HA).mono ?_; rintro e w' ⟨rfl, f⟩)
  go_ret
  exact ⟨rfl, f⟩

theorem fl_self (cols : Nat) (l : List UInt8) (hc : 0 < cols) : fl cols (fun r c => (l[r * cols + c]?).getD 0) l.length = l := by
  apply List.ext_getElem
  · simp [fl]
  · intro i h1 h2
    rw [fl_get]
    have e : i / cols * cols + i % cols = i := by rw [Nat.mul_comm]; exact Nat.div_add_mod i cols
    simp [e, h2]

theorem New.of (w : World) (r c : Value) (q n m : Nat) (h : w.heap.size ≤ q) : New w (.agg #[r, c, .slice (some ⟨q, 0, none⟩) n m]) := by
  intro r' c' v b e hb
  simp at e
  obtain ⟨-, -, rfl⟩ := e
  simp [Value.ownBlock] at hb
  omega

set_option maxHeartbeats 1000000 in
set_option maxRecDepth 100000 in
theorem make_ok (w : World) (rows cols : Nat) (v : Value) (l : List UInt8) (hv : Rd w v l) (hl : l.length = rows * cols) (h1 : 1 ≤ rows ∧ rows ≤ 64) (h2 : 1 ≤ cols ∧ cols ≤ 64) :
    Calls Try.prog 33 #[.int .i64 (rows : Int), .int .i64 (cols : Int), v] w fun e w' => (∃ val, e = .returned (.tuple #[val, .int .i64 0]) ∧ MAt w' val rows cols l ∧ New w val) ∧ Fr (fun _ => False) w w' := by
  have hck : chk rows cols l.length = 0 := by
    unfold chk sideB
    rw [if_pos ⟨by simp; omega, by simp; omega⟩, if_pos (by rw [hl]; simp)]
  obtain ⟨ao, cap, rfl⟩ := hv.shape
  have HV := hide hv
  have HL := hide hl
  have HCK := hide hck
  clear hv hl hck
  go_enter Try.func33, Try.ntmps33
  go_wp2_with fail
  refine (check_any _ _ _ _ _ _).mono ?_
  rintro e w1 ⟨rfl, f1⟩
  rw [unhide HCK]
  have hb0 : ((w.alloc (Obj.cells #[Value.int IntKind.i64 0, Value.int IntKind.i64 0, Value.slice none 0 0] 24)).alloc (Obj.cells #[Value.int IntKind.i64 (rows : Int), Value.int IntKind.i64 (cols : Int), Value.slice ao l.length cap] 24)).heap[w.heap.size + 1]? = some (.cells #[Value.int IntKind.i64 (rows : Int), Value.int IntKind.i64 (cols : Int), Value.slice ao l.length cap] 24 (0, 0)) := by
    have := heap_alloc_new (w.alloc (Obj.cells #[Value.int IntKind.i64 0, Value.int IntKind.i64 0, Value.slice none 0 0] 24)) (Obj.cells #[Value.int IntKind.i64 (rows : Int), Value.int IntKind.i64 (cols : Int), Value.slice ao l.length cap] 24)
    simpa using this
  have ha0 : ((w.alloc (Obj.cells #[Value.int IntKind.i64 0, Value.int IntKind.i64 0, Value.slice none 0 0] 24)).alloc (Obj.cells #[Value.int IntKind.i64 (rows : Int), Value.int IntKind.i64 (cols : Int), Value.slice ao l.length cap] 24)).heap[w.heap.size]? = some (.cells #[Value.int IntKind.i64 0, Value.int IntKind.i64 0, Value.slice none 0 0] 24 (0, 0)) := by
    rw [Below.heap_alloc _ _ _ (by simp)]; exact heap_alloc_new w _
  have hb1 := (f1.block _ (lt_of_heap hb0) id).trans hb0
  have ha1 := (f1.block _ (lt_of_heap ha0) id).trans ha0
  have F1 : Fr (fun _ => False) w w1 := (((Fr.refl (fun _ => False) w).alloc _).alloc _).trans f1 (fun _ _ h => h)
  have hv1 := (unhide HV).kept F1 (fun _ _ h => h)
  have HF := hide (filled_any w1 rows cols 85 #[.pointer (some ⟨w.heap.size + 1, 0, none⟩)] (fun r c => (l[r * cols + c]?).getD 0) h1 h2 cf84 (fun W q r c hr hc => by
    have hi : r * cols + c < l.length := by rw [unhide HL]; exact mul_step hr hc
    have := make1_any W (w.heap.size + 1) rows r c cols _ l ((q.block _ (lt_of_heap hb1) id).trans hb1) (hv1.kept q (fun _ _ h => h)) (by omega) (by omega) h2.2 hi
    rw [List.getElem?_eq_getElem hi]
    exact this))
  have HF1 := hide F1
  have HA1 := hide ha1
  clear f1 F1 hb0 ha0 hb1 ha1 hv1
  go_wp2_with fail
  refine (unhide HF).mono ?_
  rintro e w2 ⟨rfl, hB2, f2⟩
  rw [← unhide HL, fl_self cols l (by omega)] at hB2
  rw [← unhide HL]
  have ha2 := (f2.block _ (lt_of_heap (unhide HA1)) id).trans (unhide HA1)
  have c0 := cell_of_heap ha2 0
  have c1 := cell_of_heap ha2 1
  have c2 := cell_of_heap ha2 2
  have z0 := frozen_of_heap ha2
  simp at c0 c1 c2
  have HB2 := hide hB2
  have F2 := hide ((unhide HF1).trans f2 (fun _ _ h => h))
  have hsz := (unhide HF1).size
  have hlt := lt_of_heap (unhide HA1)
  clear hB2 f2 ha2 HF
  go_wp2_with fail
  have f3 := fr_three w2 w.heap.size (.int .i64 (rows : Int)) (.int .i64 (cols : Int)) (.slice (some ⟨w1.heap.size + 1, 0, none⟩) l.length l.length)
  refine bodyPost_ret (v := .tuple #[.agg #[.int .i64 (rows : Int), .int .i64 (cols : Int), .slice (some ⟨w1.heap.size + 1, 0, none⟩) l.length l.length], .int .i64 0]) (by simp [results, Try.results33, go_sem, c0, c1, c2]) rfl ⟨⟨_, rfl, ⟨_, rfl, ?_⟩, New.of _ _ _ _ _ _ (by omega)⟩, (unhide F2).trans f3 (fun i hi h => by omega)⟩
  have hB := (unhide HB2).kept f3 (by omega)
  refine hB.rd ?_
  have h5 := Nat.mul_le_mul h1.2 h2.2
  rw [unhide HL]; unfold maxLen; omega
end Go.Proofs.Ytckmddkhkdcmmaa
