/-
  The walks of package gf's Powers, of the document's own, and the law GfMakes.
-/
import Derived.Test.YtckmddkhkdcmmaaIdent
namespace Go.Proofs.Ytckmddkhkdcmmaa
open Go.RowKit
set_option linter.unusedVariables false

attribute [local go_sem ↓] Go.wp_at_zero Go.wp_at_succ

/-- A cell of the powers. -/
def pwC (r c : Nat) : UInt8 := pw (UInt8.ofNat r) (c : Int)

def okB (r c : Int) : Bool := sideB r && sideB c
def pmR (r c : Int) : Int := if okB r c = true then r else 0
def pmC (r c : Int) : Int := if okB r c = true then c else 0
def pmL (r c : Int) : List UInt8 := if okB r c = true then fl c.toNat pwC (r.toNat * c.toNat) else []
def pmE (r c : Int) : Int := if okB r c = true then 0 else 2

theorem cf85 (args : Array Value) (W : World) : Sem.run Try.prog (callFunc 86 args) W = .ok (.enter 86 args) W := by simp [go_sem]

theorem byte_nat (r : Nat) (hr : r ≤ 64) : (((UInt8.ofNat r).toNat : Nat) : Int) = (r : Int) := by rw [UInt8.toNat_ofNat']; omega

theorem powers1_any (w : World) (b p : Nat) (r c : Nat) (hb : w.heap[b]? = some (.cells #[.pointer (some ⟨p, 0, none⟩)] 100 (0, 0))) (hF : FAt w p) (hr : r ≤ 64) (hc : c ≤ 64) :
    Calls Try.prog 86 #[.int .i64 (r : Int), .int .i64 (c : Int), .pointer (some ⟨b, 0, none⟩)] w fun e w' => e = .returned (.int .u8 (((pwC r c).toNat : Nat) : Int)) ∧ Fr (fun _ => False) w w' := by
  have c0 := cell_of_heap hb 0
  simp at c0
  have HP := hide (fpow_any w p (UInt8.ofNat r) (c : Int) (by omega) hF)
  rw [byte_nat r hr] at HP
  clear hb hF
  go_enter Try.func86, Try.ntmps86
  go_wp2_with (go_at_call 87; refine (unhide HP).mono ?_; rintro e w' ⟨rfl, k, rfl⟩)
  go_ret
  exact ⟨rfl, Fr.ofDrewN _ _⟩

set_option maxHeartbeats 1000000 in
theorem gpowers_any (w : World) (rows cols : Int) : Calls Try.prog 35 #[.int .i64 rows, .int .i64 cols] w fun e w' => (∃ ao l cap, e = .returned (.tuple #[.agg #[.int .i64 (pmR rows cols), .int .i64 (pmC rows cols), .slice ao l cap], .int .i64 (pmE rows cols)]) ∧ Rd w' (.slice ao l cap) (pmL rows cols)) ∧ Fr (fun _ => False) w w' := by
  by_cases h : okB rows cols = true
  · obtain ⟨h1, h2⟩ : sideB rows = true ∧ sideB cols = true := by simpa [okB] using h
    have s1 := side_le h1
    have s2 := side_le h2
    obtain ⟨r, rfl⟩ : ∃ k : Nat, rows = (k : Int) := ⟨rows.toNat, by omega⟩
    obtain ⟨c, rfl⟩ : ∃ k : Nat, cols = (k : Int) := ⟨cols.toNat, by omega⟩
    have e1 : pmR (r : Int) (c : Int) = (r : Int) := by unfold pmR; rw [if_pos h]
    have e2 : pmC (r : Int) (c : Int) = (c : Int) := by unfold pmC; rw [if_pos h]
    have e3 : pmE (r : Int) (c : Int) = 0 := by unfold pmE; rw [if_pos h]
    have e4 : pmL (r : Int) (c : Int) = fl c pwC (r * c) := by unfold pmL; rw [if_pos h]; rfl
    rw [e1, e2, e3, e4]
    have H1 := hide h1
    have H2 := hide h2
    have hk2 : r * c ≤ 64 * 64 := Nat.mul_le_mul (by omega) (by omega)
    clear e1 e2 e3 e4 h h1 h2
    go_enter Try.func35, Try.ntmps35
    go_wp2_with fail
    refine (isSide_any _ _).mono ?_
    rintro e w' ⟨rfl, rfl⟩
    rw [unhide H1]
    go_wp2_with fail
    refine (isSide_any _ _).mono ?_
    rintro e w' ⟨rfl, rfl⟩
    rw [unhide H2]
    go_wp2_with fail
    refine (newField_any _).mono ?_
    rintro e w1 ⟨rfl, hF, f1⟩
    have hp0 := heap_alloc_new w (Obj.cells #[.int .i64 0, .int .i64 0, .slice none 0 0] 24)
    have hp1 := (f1.block _ (lt_of_heap hp0) id).trans hp0
    have F1 := ((Fr.refl (fun _ => False) w).alloc (Obj.cells #[.int .i64 0, .int .i64 0, .slice none 0 0] 24)).trans f1 (fun _ _ h => h)
    have hsz : (w.alloc (Obj.cells #[.int .i64 0, .int .i64 0, .slice none 0 0] 24)).heap.size = w.heap.size + 1 := by simp
    rw [hsz] at hF ⊢
    have fA : Fr (fun _ => False) w1 (w1.alloc (Obj.cells #[.pointer (some ⟨w.heap.size + 1, 0, none⟩)] 100)) := (Fr.refl _ _).alloc _
    have hm := heap_alloc_new w1 (Obj.cells #[.pointer (some ⟨w.heap.size + 1, 0, none⟩)] 100)
    have hp2 := (fA.block _ (lt_of_heap hp1) id).trans hp1
    have hF2 := hF.kept fA id
    have HFi := hide (filled_any (w1.alloc (Obj.cells #[.pointer (some ⟨w.heap.size + 1, 0, none⟩)] 100)) r c 86 #[.pointer (some ⟨w1.heap.size, 0, none⟩)] pwC (by omega) (by omega) cf85 (fun W q i j hi hj =>
      powers1_any W w1.heap.size (w.heap.size + 1) i j ((q.block _ (lt_of_heap hm) id).trans hm) (hF2.kept q id) (by omega) (by omega)))
    have hsz1 : (w1.alloc (Obj.cells #[.pointer (some ⟨w.heap.size + 1, 0, none⟩)] 100)).heap.size = w1.heap.size + 1 := by simp
    rw [hsz1] at HFi
    have HP2 := hide hp2
    have HF2 := hide (F1.trans fA (fun _ _ h => h))
    have hlt := lt_of_heap hp1
    clear hp0 hp1 F1 f1 hF fA hm hp2 hF2 hsz hsz1
    go_wp2_with fail
    refine (unhide HFi).mono ?_
    rintro e w3 ⟨rfl, B3, f3⟩
    have hp := (f3.block _ (lt_of_heap (unhide HP2)) id).trans (unhide HP2)
    have c0 := cell_of_heap hp 0
    have c1 := cell_of_heap hp 1
    have c2 := cell_of_heap hp 2
    have z0 := frozen_of_heap hp
    simp at c0 c1 c2
    have HB := hide B3
    have F3 := hide ((unhide HF2).trans f3 (fun _ _ h => h))
    clear B3 f3 hp
    go_wp2_with fail
    have f4 := fr_three w3 w.heap.size (.int .i64 (r : Int)) (.int .i64 (c : Int)) (.slice (some ⟨w1.heap.size + 1 + 1, 0, none⟩) (r * c) (r * c))
    refine bodyPost_ret (v := .tuple #[.agg #[.int .i64 (r : Int), .int .i64 (c : Int), .slice (some ⟨w1.heap.size + 1 + 1, 0, none⟩) (r * c) (r * c)], .int .i64 0]) (by simp [results, Try.results35, go_sem, c0, c1, c2]) rfl ⟨⟨_, _, _, rfl, ?_⟩, (unhide F3).trans f4 (fun i hi h => by omega)⟩
    have hB := (unhide HB).kept f4 (by omega)
    have hl : (fl c pwC (r * c)).length = r * c := fl_length _ _ _
    have := hB.rd (by rw [hl]; unfold maxLen; omega)
    rw [hl] at this
    exact this
  · have e1 : pmR rows cols = 0 := by unfold pmR; rw [if_neg h]
    have e2 : pmC rows cols = 0 := by unfold pmC; rw [if_neg h]
    have e3 : pmE rows cols = 2 := by unfold pmE; rw [if_neg h]
    have e4 : pmL rows cols = [] := by unfold pmL; rw [if_neg h]
    rw [e1, e2, e3, e4]
    have f := (Fr.refl (fun _ => False) w).alloc (Obj.cells #[.int .i64 0, .int .i64 0, .slice none 0 0] 24)
    have F := hide f
    clear e1 e2 e3 e4 f
    by_cases h1 : sideB rows = true
    · have h2 : sideB cols = false := by
        simp only [okB, h1, Bool.true_and] at h
        simpa using h
      have H1 := hide h1
      have H2 := hide h2
      clear h h1 h2
      go_enter Try.func35, Try.ntmps35
      go_wp2_with fail
      refine (isSide_any _ _).mono ?_
      rintro e w' ⟨rfl, rfl⟩
      rw [unhide H1]
      go_wp2_with fail
      refine (isSide_any _ _).mono ?_
      rintro e w' ⟨rfl, rfl⟩
      rw [unhide H2]
      go_wp2_with fail
      refine bodyPost_ret (v := .tuple #[.agg #[.int .i64 0, .int .i64 0, .slice none 0 0], .int .i64 2]) (by simp [results, Try.results35, go_sem]) rfl ⟨⟨_, _, _, rfl, Rd.nil _⟩, unhide F⟩
    · have h1' : sideB rows = false := by simpa using h1
      have H1 := hide h1'
      clear h h1 h1'
      go_enter Try.func35, Try.ntmps35
      go_wp2_with fail
      refine (isSide_any _ _).mono ?_
      rintro e w' ⟨rfl, rfl⟩
      rw [unhide H1]
      go_wp2_with fail
      refine bodyPost_ret (v := .tuple #[.agg #[.int .i64 0, .int .i64 0, .slice none 0 0], .int .i64 2]) (by simp [results, Try.results35, go_sem]) rfl ⟨⟨_, _, _, rfl, Rd.nil _⟩, unhide F⟩

end Go.Proofs.Ytckmddkhkdcmmaa
