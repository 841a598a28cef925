/-
  The walks of package gf's matrices: sides, cells, filling.
-/
import Derived.Test.YtckmddkhkdcmmaaRef
import Derived.WalkMore
import Derived.Deep.LoopGhost
namespace Go.Proofs.Ytckmddkhkdcmmaa
open Go.RowKit
set_option linter.unusedVariables false

attribute [local go_sem ↓] Go.wp_at_zero Go.wp_at_succ

/-- Is a number a side? -/
def sideB (n : Int) : Bool := decide (1 ≤ n ∧ n ≤ 64)

theorem isSide_any (w : World) (n : Int) : Calls Try.prog 79 #[.int .i64 n] w fun e w' => e = .returned (.bool (sideB n)) ∧ w = w' := by
  by_cases h1 : 1 ≤ n
  · by_cases h2 : n ≤ 64
    · have e : sideB n = true := by unfold sideB; simp [h1, h2]
      rw [e]
      go_enter Try.func79, Try.ntmps79
      go_wp2
      go_ret
      exact ⟨rfl, rfl⟩
    · have e : sideB n = false := by unfold sideB; simp [h1, h2]
      rw [e]
      have h2' : decide (n ≤ 64) = false := by simpa using h2
      go_enter Try.func79, Try.ntmps79
      go_wp2
      go_ret
      exact ⟨rfl, rfl⟩
  · have e : sideB n = false := by unfold sideB; simp [h1]
    rw [e]
    have h2' : decide (1 ≤ n) = false := by simpa using h1
    go_enter Try.func79, Try.ntmps79
    go_wp2
    go_ret
    exact ⟨rfl, rfl⟩

/-- What Check tells. -/
def chk (r c : Int) (l : Nat) : Int := if sideB r = true ∧ sideB c = true then (if (l : Int) = r * c then 0 else 23) else 2

theorem side_le {n : Int} (h : sideB n = true) : 1 ≤ n ∧ n ≤ 64 := by simpa [sideB] using h

set_option maxHeartbeats 400000 in
theorem check_any (w : World) (r c : Int) (ao : Option Addr) (l cap : Nat) : Calls Try.prog 23 #[.agg #[.int .i64 r, .int .i64 c, .slice ao l cap]] w fun e w' => e = .returned (.int .i64 (chk r c l)) ∧ Fr (fun _ => False) w w' := by
  by_cases h1 : sideB r = true
  · by_cases h2 : sideB c = true
    · have r1 := side_le h1
      have r2 := side_le h2
      have hp : 1 ≤ r * c := by have := Int.mul_le_mul r1.1 r2.1 (by omega) (by omega); omega
      have hq : r * c ≤ 4096 := by have := Int.mul_le_mul r1.2 r2.2 (by omega) (by omega); omega
      by_cases h3 : (l : Int) = r * c
      · have e : chk r c l = 0 := by unfold chk; rw [if_pos ⟨h1, h2⟩, if_pos h3]
        rw [e]
        have hb : ((l : Int) != r * c) = false := by simpa using h3
        have H3 := hide h3
        clear h3 e
        go_enter Try.func23, Try.ntmps23
        go_wp2_with (go_at_call 79; refine (isSide_any _ _).mono ?_; rintro e w' ⟨rfl, rfl⟩)
        go_ret
        exact ⟨rfl, (Fr.refl _ _).alloc _⟩
      · have e : chk r c l = 23 := by unfold chk; rw [if_pos ⟨h1, h2⟩, if_neg h3]
        rw [e]
        have hb : ((l : Int) != r * c) = true := by simpa using h3
        clear h3 e
        go_enter Try.func23, Try.ntmps23
        go_wp2_with (go_at_call 79; refine (isSide_any _ _).mono ?_; rintro e w' ⟨rfl, rfl⟩)
        go_ret
        exact ⟨rfl, (Fr.refl _ _).alloc _⟩
    · have e : chk r c l = 2 := by unfold chk; rw [if_neg (fun h => h2 h.2)]
      rw [e]
      have h2' : sideB c = false := by simpa using h2
      clear h2 e
      go_enter Try.func23, Try.ntmps23
      go_wp2_with (go_at_call 79; refine (isSide_any _ _).mono ?_; rintro e w' ⟨rfl, rfl⟩)
      go_ret
      exact ⟨rfl, (Fr.refl _ _).alloc _⟩
  · have e : chk r c l = 2 := by unfold chk; rw [if_neg (fun h => h1 h.1)]
    rw [e]
    have h1' : sideB r = false := by simpa using h1
    clear h1 e
    go_enter Try.func23, Try.ntmps23
    go_wp2_with (go_at_call 79; refine (isSide_any _ _).mono ?_; rintro e w' ⟨rfl, rfl⟩)
    go_ret
    exact ⟨rfl, (Fr.refl _ _).alloc _⟩

theorem at_any (w : World) (R : Int) (r c cols : Nat) (v : Value) (l : List UInt8) (hv : Rd w v l) (hr : r ≤ 64) (hc : c ≤ 64) (hcols : cols ≤ 64) (hi : r * cols + c < l.length) :
    Calls Try.prog 69 #[.agg #[.int .i64 R, .int .i64 (cols : Int), v], .int .i64 (r : Int), .int .i64 (c : Int)] w fun e w' => e = .returned (.int .u8 (((l[r * cols + c]).toNat : Nat) : Int)) ∧ Fr (fun _ => False) w w' := by
  have hv2 := hv.kept ((Fr.refl (fun _ => False) w).alloc (Obj.cells #[.int .i64 R, .int .i64 (cols : Int), v] 24)) (fun _ _ h => h)
  obtain ⟨ao, cap, rfl⟩ := hv.shape
  obtain ⟨b, o, rfl, -, hcap, hcm, hcell⟩ := hv2.lits (by omega)
  have hk := hcell (r * cols + c) hi
  have e1 : ((r : Int) * (cols : Int) + (c : Int)) = ((r * cols + c : Nat) : Int) := by simp
  have p1 : r * cols ≤ 64 * 64 := Nat.mul_le_mul hr hcols
  have q1 : (0 : Int) ≤ (r : Int) * (cols : Int) := by rw [← Int.natCast_mul]; omega
  have q2 : (r : Int) * (cols : Int) ≤ 4096 := by rw [← Int.natCast_mul]; omega
  unfold maxLen at hcm
  have b1 : (0 : Int) ≤ (r : Int) * (cols : Int) + (c : Int) := by omega
  have b2 : (r : Int) * (cols : Int) + (c : Int) < (l.length : Int) := by rw [e1]; omega
  have b3 : ((r : Int) * (cols : Int) + (c : Int)).toNat = r * cols + c := by rw [e1]; rfl
  clear hcell hv2 hv e1
  go_enter Try.func69, Try.ntmps69
  go_wp2
  go_ret
  exact ⟨rfl, (Fr.refl _ _).alloc _⟩

/-- Bytes lie at block p, from its first cell on. -/
def BAt (w : World) (p : Nat) (l : List UInt8) : Prop := w.heap[p]? = some (.cells (bvs l).toArray 5 (0, 0))

theorem BAt.kept {S : Nat → Prop} {w w' : World} {p : Nat} {l : List UInt8} (h : BAt w p l) (f : Fr S w w') (hs : ¬ S p) : BAt w' p l := by
  unfold BAt at *
  rw [f.block p (lt_of_heap h) hs]; exact h

theorem BAt.cell {w : World} {p : Nat} {l : List UInt8} (h : BAt w p l) (j : Nat) (hj : j < l.length) : w.cell? ⟨p, j, none⟩ = some (.int .u8 (((l[j]).toNat : Nat) : Int)) := by
  rw [cell_of_heap h]
  simpa using bvs_get l j hj

theorem BAt.frozen {w : World} {p : Nat} {l : List UInt8} (h : BAt w p l) (j : Nat) : w.frozen? ⟨p, j, none⟩ = false := frozen_of_heap h j

theorem bvs_set (l : List UInt8) (i : Nat) (b : UInt8) : (bvs l).toArray.setIfInBounds i (.int .u8 ((b.toNat : Nat) : Int)) = (bvs (l.set i b)).toArray := by
  rw [List.setIfInBounds_toArray]
  simp [bvs, List.map_set]

theorem BAt.set {w : World} {p : Nat} {l : List UInt8} (h : BAt w p l) (i : Nat) (b : UInt8) : BAt (w.setCell ⟨p, i, none⟩ (.int .u8 ((b.toNat : Nat) : Int))) p (l.set i b) := by
  unfold BAt at *
  rw [← bvs_set]
  exact heap_setCell_same w p i _ 5 _ h

theorem BAt.rd {w : World} {p : Nat} {l : List UInt8} (h : BAt w p l) (hl : l.length ≤ maxLen) : Rd w (.slice (some ⟨p, 0, none⟩) l.length l.length) l :=
  Rd.lit rfl (Nat.le_refl _) hl fun j hj => by rw [Nat.zero_add]; exact h.cell j hj

theorem made_bytes (n : Nat) : madeCells (Value.int .u8 0).cells (n * 1) = (bvs (List.replicate n 0)).toArray := by
  apply Array.ext
  · simp [bvs, size_madeCells]
  · intro i h1 h2
    simp [bvs, madeCells, Value.cells, Nat.mod_one]

theorem Try.info5 : (Try.prog.info? 5).map (fun i => (i.zero, i.size, i.bytes)) = some (some (.int .u8 0), 1, 1) := by kernel_rfl

theorem run_make5 (n : Nat) (hn : n ≤ 140737488355328) (w : World) : (Instr.makeSlice 22 (.int .i64 (n : Int)) (.int .i64 (n : Int))).run Try.prog w = .ok (.slice (some ⟨w.heap.size, 0, none⟩) n n) (w.alloc (.cells (bvs (List.replicate n 0)).toArray 5)) := by
  obtain ⟨i, hi, hz0, hz1, hz2⟩ := info_parts Try.info5
  have := run_make (P := Try.prog) w 22 5 i _ Try.underlying22 hi hz0 .i64 .i64 (n : Int) (n : Int) (by omega) (Int.le_refl _) (by rw [hz2]; omega) (by omega)
  rw [this, hz1, Int.toNat_natCast, made_bytes]

/-- The first k cells of a matrix, row by row. -/
def fl (cols : Nat) (cell : Nat → Nat → UInt8) (k : Nat) : List UInt8 := (List.range k).map fun j => cell (j / cols) (j % cols)

theorem fl_length (cols : Nat) (cell : Nat → Nat → UInt8) (k : Nat) : (fl cols cell k).length = k := by simp [fl]
theorem fl_get (cols : Nat) (cell : Nat → Nat → UInt8) (k j : Nat) (h : j < (fl cols cell k).length) : (fl cols cell k)[j] = cell (j / cols) (j % cols) := by simp [fl]

theorem fl_step (cols : Nat) (cell : Nat → Nat → UInt8) (n k : Nat) (h : k < n) : (fl cols cell k ++ List.replicate (n - k) 0).set k (cell (k / cols) (k % cols)) = fl cols cell (k + 1) ++ List.replicate (n - (k + 1)) 0 := by
  rw [List.set_append_right _ _ (by rw [fl_length]; omega), fl_length, Nat.sub_self, show n - k = (n - (k + 1)) + 1 by omega, List.replicate_succ, List.set_cons_zero]
  simp [fl, List.range_succ]

/-- The state of filling: k cells are laid. -/
def FB (w w' : World) (n cols : Nat) (cell : Nat → Nat → UInt8) (k : Nat) : Prop :=
  BAt w' (w.heap.size + 1) (fl cols cell k ++ List.replicate (n - k) 0) ∧ w'.heap[w.heap.size]? = some (.cells #[.int .i64 0, .int .i64 0, .slice none 0 0] 24 (0, 0)) ∧ Fr (fun _ => False) w w'

theorem FB.kept {w w' w2 : World} {n cols k : Nat} {cell : Nat → Nat → UInt8} (h : FB w w' n cols cell k) (f : Fr (fun _ => False) w' w2) : FB w w2 n cols cell k :=
  ⟨h.1.kept f id, by rw [f.block _ (lt_of_heap h.2.1) id]; exact h.2.1, h.2.2.trans f (fun _ _ h => h)⟩

theorem FB.put {w w' : World} {n cols k : Nat} {cell : Nat → Nat → UInt8} (h : FB w w' n cols cell k) (hk : k < n) : FB w (w'.setCell ⟨w.heap.size + 1, k, none⟩ (.int .u8 (((cell (k / cols) (k % cols)).toNat : Nat) : Int))) n cols cell (k + 1) := by
  refine ⟨?_, ?_, h.2.2.setCell (fun e => by simp at e; omega) _⟩
  · rw [← fl_step _ _ _ _ hk]; exact h.1.set k _
  · rw [Below.heap_setCell _ _ _ _ (by simp)]; exact h.2.1

theorem fr_three (w : World) (p : Nat) (a b c : Value) : Fr (fun k => k = p) w (((w.setCell ⟨p, 0, none⟩ a).setCell ⟨p, 1, none⟩ b).setCell ⟨p, 2, none⟩ c) :=
  (((Fr.refl (fun k => k = p) w).setCell (p := ⟨p, 0, none⟩) (fun _ => rfl) a).setCell (p := ⟨p, 1, none⟩) (fun _ => rfl) b).setCell (p := ⟨p, 2, none⟩) (fun _ => rfl) c

theorem mul_step {r c rows cols : Nat} (hr : r < rows) (hc : c < cols) : r * cols + c < rows * cols := by
  have : (r + 1) * cols ≤ rows * cols := Nat.mul_le_mul_right _ hr
  rw [Nat.succ_mul] at this
  omega

set_option maxHeartbeats 1000000 in
set_option maxRecDepth 100000 in
theorem filled_any (w : World) (rows cols : Nat) (K : Nat) (caps : Array Value) (cell : Nat → Nat → UInt8) (h1 : 1 ≤ rows ∧ rows ≤ 64) (h2 : 1 ≤ cols ∧ cols ≤ 64)
    (hcf : ∀ args W, Sem.run Try.prog (callFunc K args) W = .ok (.enter K args) W)
    (hcl : ∀ W, Fr (fun _ => False) w W → ∀ r c : Nat, r < rows → c < cols → Calls Try.prog K (#[.int .i64 (r : Int), .int .i64 (c : Int)] ++ caps) W fun e W' => e = .returned (.int .u8 (((cell r c).toNat : Nat) : Int)) ∧ Fr (fun _ => False) W W') :
    Calls Try.prog 66 #[.int .i64 (rows : Int), .int .i64 (cols : Int), .func (.func K) #[] caps] w fun e w' =>
      e = .returned (.agg #[.int .i64 (rows : Int), .int .i64 (cols : Int), .slice (some ⟨w.heap.size + 1, 0, none⟩) (rows * cols) (rows * cols)]) ∧ BAt w' (w.heap.size + 1) (fl cols cell (rows * cols)) ∧ Fr (fun _ => False) w w' := by
  obtain ⟨n, hn⟩ : ∃ n, n = rows * cols := ⟨_, rfl⟩
  have hN : (rows : Int) * (cols : Int) = (n : Int) := by rw [hn]; simp
  have hn1 : n ≤ 4096 := by rw [hn]; exact Nat.mul_le_mul h1.2 h2.2
  have hmk := run_make5 n (by omega)
  have HN := hide hn
  rw [← hn]
  have HCL := hide hcl
  have HCF := hide hcf
  clear hn hcl hcf
  go_enter Try.func66, Try.ntmps66
  go_wp2_with fail
  clear hmk
  go_loopw [15] (fun i w' => ∃ r : Nat, r ≤ rows ∧ i = .int .i64 (r : Int) ∧ FB w w' n cols cell (r * cols)) (fun i _ => rows - (intOf i).toNat)
  case atStart =>
    refine ⟨0, by omega, rfl, ?_, ?_, ((Fr.refl _ _).alloc _).alloc _⟩
    · have := heap_alloc_new (w.alloc (Obj.cells #[Value.int IntKind.i64 0, Value.int IntKind.i64 0, Value.slice none 0 0] 24)) (Obj.cells (bvs (List.replicate n 0)).toArray 5)
      simpa [BAt, fl] using this
    · rw [Below.heap_alloc _ _ _ (by simp)]
      exact heap_alloc_new w _
  case round =>
    obtain ⟨r, hr, rfl, hFB⟩ := hrel
    by_cases hlt : r < rows
    · have HFB := hide hFB
      clear hFB
      go_wp2_with fail
      go_loopw [19] (fun i w' => ∃ c : Nat, c ≤ cols ∧ i = .int .i64 (c : Int) ∧ FB w w' n cols cell (r * cols + c)) (fun i _ => cols - (intOf i).toNat)
      case atStart => exact ⟨0, by omega, rfl, unhide HFB⟩
      case round =>
        clear HFB
        obtain ⟨c, hc, rfl, hFB⟩ := hrel
        by_cases hlt2 : c < cols
        · have q1 : (0 : Int) ≤ (r : Int) * (cols : Int) := by rw [← Int.natCast_mul]; omega
          have q2 : (r : Int) * (cols : Int) ≤ 4096 := by rw [← Int.natCast_mul]; have := Nat.mul_le_mul (show r ≤ 64 by omega) h2.2; omega
          have hkn : r * cols + c < n := by rw [unhide HN]; exact mul_step hlt hlt2
          have b1 : (0 : Int) ≤ (r : Int) * (cols : Int) + (c : Int) := by omega
          have b2 : (r : Int) * (cols : Int) + (c : Int) < (n : Int) := by rw [← Int.natCast_mul]; omega
          have b3 : ((r : Int) * (cols : Int) + (c : Int)).toNat = r * cols + c := by rw [← Int.natCast_mul]; omega
          have hd1 : (r * cols + c) / cols = r := by rw [Nat.mul_comm, Nat.mul_add_div (by omega), Nat.div_eq_of_lt hlt2]; omega
          have hd2 : (r * cols + c) % cols = c := by rw [Nat.mul_comm, Nat.mul_add_mod, Nat.mod_eq_of_lt hlt2]
          have D1 := hide hd1
          have D2 := hide hd2
          have hcf := unhide HCF
          have HF := hide hFB
          have HC := hide (unhide HCL wr hFB.2.2 r c hlt hlt2)
          clear hd1 hd2 hFB
          go_wp2_with fail
          refine (unhide HC).mono ?_
          rintro e w2 ⟨rfl, f2⟩
          have HF2 := hide ((unhide HF).kept f2)
          have cq := (unhide HF2).1.cell (r * cols + c) (by rw [List.length_append, fl_length, List.length_replicate]; omega)
          have fq := (unhide HF2).1.frozen (r * cols + c)
          generalize (fl cols cell (r * cols + c) ++ List.replicate (n - (r * cols + c)) 0)[r * cols + c]'(by rw [List.length_append, fl_length, List.length_replicate]; omega) = old at cq
          clear hcf f2
          go_wp2_with fail
          go_roundw
          case rel =>
            have := (unhide HF2).put hkn
            rw [unhide D1, unhide D2] at this
            exact ⟨c + 1, by omega, by go_num, this⟩
          case measure => simp [intOf]; omega
        · have hce : c = cols := by omega
          subst hce
          have HF := hide hFB
          clear hFB
          go_wp2_with fail
          go_roundw
          case rel => exact ⟨r + 1, by omega, by go_num, by rw [Nat.succ_mul]; exact unhide HF⟩
          case measure => simp [intOf]; omega
    · have hre : r = rows := by omega
      subst hre
      have HF := hide hFB
      have hp := hFB.2.1
      have c0 := cell_of_heap hp 0
      have c1 := cell_of_heap hp 1
      have c2 := cell_of_heap hp 2
      have z0 := frozen_of_heap hp
      simp at c0 c1 c2
      clear hFB hp
      go_wp2_with fail
      have hF := unhide HF
      have f3 : Fr (fun k => k = w.heap.size) wr (((wr.setCell ⟨w.heap.size, 0, none⟩ (.int .i64 (r : Int))).setCell ⟨w.heap.size, 1, none⟩ (.int .i64 (cols : Int))).setCell ⟨w.heap.size, 2, none⟩ (.slice (some ⟨w.heap.size + 1, 0, none⟩) n n)) :=
        fr_three wr _ _ _ _
      refine bodyPost_ret (v := .agg #[.int .i64 (r : Int), .int .i64 (cols : Int), .slice (some ⟨w.heap.size + 1, 0, none⟩) n n]) (by simp [results, Try.results66, go_sem, c0, c1, c2]) rfl ⟨rfl, ?_, hF.2.2.trans f3 (fun i hi h => by omega)⟩
      have hB := hF.1.kept f3 (by omega)
      rw [← unhide HN, Nat.sub_self, List.replicate_zero, List.append_nil] at hB
      exact hB

theorem cf74 (args : Array Value) (W : World) : Sem.run Try.prog (callFunc 75 args) W = .ok (.enter 75 args) W := by simp [go_sem]
theorem cf84 (args : Array Value) (W : World) : Sem.run Try.prog (callFunc 85 args) W = .ok (.enter 85 args) W := by simp [go_sem]

theorem one_any (w : World) (r c : Int) : Calls Try.prog 75 #[.int .i64 r, .int .i64 c] w fun e w' => e = .returned (.int .u8 (((if r = c then 1 else 0 : UInt8).toNat : Nat) : Int)) ∧ w = w' := by
  by_cases h : r = c
  · have hb : (r == c) = true := by simpa using h
    rw [if_pos h]
    clear h
    go_enter Try.func75, Try.ntmps75
    go_wp2
    go_ret
    exact ⟨rfl, rfl⟩
  · have hb : (r == c) = false := by simpa using h
    rw [if_neg h]
    clear h
    go_enter Try.func75, Try.ntmps75
    go_wp2
    go_ret
    exact ⟨rfl, rfl⟩

end Go.Proofs.Ytckmddkhkdcmmaa
