/-
  The walk of package gf's beside.
  The walks of package gf's Make, and of the document's Same.
  The walk of package gf's Inverse.
-/
import Derived.Test.YtckmddkhkdcmmaaM03
import Derived.Laws.CopyOwn
import Derived.Deep.WholeRow
import Derived.Laws.BytesArg
import Derived.Lib.ConvBytes
namespace Go.Proofs.Ytckmddkhkdcmmaa
set_option linter.unusedVariables false
set_option linter.unusedSimpArgs false
open Go.RowKit
set_option linter.unusedVariables false

attribute [local go_sem ↓] Go.wp_at_zero Go.wp_at_succ

theorem Try.info22 : (Try.prog.info? 22).map (fun i => (i.zero, i.size, i.bytes)) = some (some (.slice none 0 0), 1, 24) := by kernel_rfl

theorem made_lists (n : Nat) : madeCells (Value.slice none 0 0).cells (n * 1) = (List.replicate n (Value.slice none 0 0)).toArray := by
  apply Array.ext
  · simp [size_madeCells]
  · intro i h1 h2
    simp [madeCells, Value.cells, Nat.mod_one]

theorem run_make43 (n : Nat) (hn : n ≤ 1099511627776) (w : World) : (Instr.makeSlice 65 (.int .i64 (n : Int)) (.int .i64 (n : Int))).run Try.prog w = .ok (.slice (some ⟨w.heap.size, 0, none⟩) n n) (w.alloc (.cells (List.replicate n (Value.slice none 0 0)).toArray 22)) := by
  obtain ⟨i, hi, hz0, hz1, hz2⟩ := info_parts Try.info22
  have := run_make (P := Try.prog) w 65 22 i _ Try.underlying65 hi hz0 .i64 .i64 (n : Int) (n : Int) (by omega) (Int.le_refl _) (by rw [hz2]; omega) (by omega)
  rw [this, hz1, Int.toNat_natCast, made_lists]

theorem cut_front (A cs : List Value) : A.toArray.toList.take 0 ++ cs ++ A.toArray.toList.drop (0 + cs.length) = cs ++ A.drop cs.length := by simp

theorem run_copy_new (w : World) (m : Nat) (x : Value) (cs : List UInt8) (hx : Rd (w.alloc (.cells (bvs (List.replicate m 0)).toArray 5)) x cs) (hle : cs.length ≤ m) (h0 : 0 < cs.length) :
    (Builtin.copy_ #[22, 22] 3 #[.slice (some ⟨w.heap.size, 0, none⟩) m m, x]).run Try.prog (w.alloc (.cells (bvs (List.replicate m 0)).toArray 5)) = .ok (.int .i64 (cs.length : Int)) (w.alloc (.cells (bvs (cs ++ List.replicate (m - cs.length) 0)).toArray 5)) := by
  obtain ⟨ao, cap, rfl⟩ := hx.shape
  obtain ⟨b, o, rfl, -, h1, h2, h3⟩ := hx.lits h0
  have hn : Nat.min cs.length m = cs.length := Nat.min_eq_left hle
  have := run_copy_row (P := Try.prog) (w.alloc (.cells (bvs (List.replicate m 0)).toArray 5)) 22 22 3 5 w.heap.size 0 m m ⟨b, o, none⟩ cs.length cap (bvs (List.replicate m 0)).toArray 5 (bvs cs) Try.underlying22 (by kernel_rfl) (heap_alloc_new w _) (by rw [bvs_length, hn])
    (fun j v hv => by
      have hj : j < cs.length := by
        have := (List.getElem?_eq_some_iff.1 hv).1
        rwa [bvs_length] at this
      rw [Addr.add_lit, h3 j hj]
      rw [bvs_get cs j hj] at hv
      exact hv) (by rw [bvs_length, List.size_toArray, bvs_length, List.length_replicate]; omega) (bvs_one _)
  have e0 : (bvs (List.replicate m 0)).drop cs.length = bvs (List.replicate (m - cs.length) 0) := by unfold bvs; rw [← List.map_drop, List.drop_replicate]
  have e1 := cut_front (bvs (List.replicate m 0)) (bvs cs)
  generalize bvs (List.replicate m 0) = A at *
  rw [this, World.setRow_alloc_new, e1, bvs_length, e0, bvs_append]
  rfl

/-- A row of a matrix, with more behind it. -/
def brow (l : List UInt8) (cols further : Nat) (more : Nat → Nat → UInt8) (r : Nat) : List UInt8 := (l.drop (r * cols)).take cols ++ (List.range further).map (more r)
def bsd (l : List UInt8) (cols further : Nat) (more : Nat → Nat → UInt8) (k : Nat) : List (List UInt8) := (List.range k).map (brow l cols further more)

theorem src_length {l : List UInt8} {rows cols r : Nat} (hl : l.length = rows * cols) (hr : r < rows) : ((l.drop (r * cols)).take cols).length = cols := by
  have : (r + 1) * cols ≤ rows * cols := Nat.mul_le_mul_right _ hr
  rw [Nat.succ_mul] at this
  simp; omega

theorem brow_length {l : List UInt8} {rows cols further r : Nat} {more : Nat → Nat → UInt8} (hl : l.length = rows * cols) (hr : r < rows) : (brow l cols further more r).length = cols + further := by
  unfold brow
  rw [List.length_append, src_length hl hr]; simp

/-- The state: k rows are laid. -/
structure PB (w0 w : World) (rows cols m : Nat) (v : Value) (bs : List Nat) (ls : List (List UInt8)) (k : Nat) : Prop where
  heap : w.heap[w0.heap.size + 1]? = some (.cells (lvs bs m ++ List.replicate (rows - k) (Value.slice none 0 0)).toArray 22 (0, 0))
  box : w.heap[w0.heap.size]? = some (.cells #[.int .i64 (rows : Int), .int .i64 (cols : Int), v] 24 (0, 0))
  bk : bs.length = k
  len : ls.length = k
  row : ∀ i (h : i < bs.length), BAt w (bs[i]) (ls[i]'(by omega))
  nd : bs.Nodup
  new : ∀ b ∈ bs, w0.heap.size + 1 < b
  fr : Fr (fun _ => False) w0 w

theorem PB.kept {w0 w w' : World} {rows cols m k : Nat} {v : Value} {bs : List Nat} {ls : List (List UInt8)} (h : PB w0 w rows cols m v bs ls k) (f : Fr (fun _ => False) w w') : PB w0 w' rows cols m v bs ls k :=
  ⟨by rw [f.block _ (lt_of_heap h.heap) id]; exact h.heap, by rw [f.block _ (lt_of_heap h.box) id]; exact h.box, h.bk, h.len, fun i hi => (h.row i hi).kept f id, h.nd, h.new, h.fr.trans f (fun _ _ h => h)⟩

/-- A row that lies in new memory is put into the list. -/
theorem PB.put {w0 w w' : World} {rows cols m k : Nat} {v : Value} {bs : List Nat} {ls : List (List UInt8)} (h : PB w0 w rows cols m v bs ls k) (hk : k < rows) (b : Nat) (l : List UInt8) (hb : w.heap.size ≤ b) (hB : BAt w' b l) (f : Fr (fun _ => False) w w') :
    PB w0 (w'.setCell ⟨w0.heap.size + 1, k, none⟩ (.slice (some ⟨b, 0, none⟩) m m)) rows cols m v (bs ++ [b]) (ls ++ [l]) (k + 1) := by
  have hbk := h.bk
  have hlen := h.len
  have hg := lt_of_heap h.heap
  have h' := h.kept f
  have hlt : ∀ x ∈ bs, x < w.heap.size := by
    intro x hx
    obtain ⟨i, hi, rfl⟩ := List.getElem_of_mem hx
    exact lt_of_heap (h.row i hi)
  have f2 : Fr (fun k => k = w0.heap.size + 1) w' (w'.setCell ⟨w0.heap.size + 1, k, none⟩ (.slice (some ⟨b, 0, none⟩) m m)) := (Fr.refl (fun k => k = w0.heap.size + 1) w').setCell (p := ⟨w0.heap.size + 1, k, none⟩) (fun _ => rfl) _
  refine ⟨?_, ?_, by simp [hbk], by simp [hlen], ?_, ?_, ?_, h'.fr.trans f2 (fun i hi h => by omega)⟩
  · have e := heap_setCell_same w' (w0.heap.size + 1) k _ 22 (.slice (some ⟨b, 0, none⟩) m m) h'.heap
    rw [List.setIfInBounds_toArray, List.set_append_right _ _ (by simp [lvs, hbk]), show (lvs bs m).length = k by simp [lvs, hbk], Nat.sub_self, show rows - k = (rows - (k + 1)) + 1 by omega, List.replicate_succ, List.set_cons_zero] at e
    rw [e]
    simp [lvs]
  · rw [f2.block _ (lt_of_heap h'.box) (by omega)]; exact h'.box
  · intro i hi
    have hi' : i < k + 1 := by simpa [hbk] using hi
    by_cases e : i < k
    · rw [List.getElem_append_left (by omega), List.getElem_append_left (by omega)]
      exact (h'.row i (by omega)).kept f2 (fun e2 => absurd (h.new _ (List.getElem_mem (show i < bs.length by omega))) (by omega))
    · have : i = k := by omega
      subst this
      have e1 : (bs ++ [b])[i]'hi = b := List.getElem_concat_length (by omega) hi
      have e2 : (ls ++ [l])[i]'(by simp; omega) = l := List.getElem_concat_length (by omega) _
      rw [e1, e2]
      exact BAt.kept (S := fun k => k = w0.heap.size + 1) hB f2 (show ¬ b = w0.heap.size + 1 by omega)
  · rw [List.nodup_append]
    refine ⟨h.nd, by simp, ?_⟩
    intro x hx y hy
    simp at hy
    subst hy
    have := hlt x hx
    omega
  · intro x hx
    rcases List.mem_append.1 hx with hx | hx
    · exact h.new x hx
    · simp at hx; subst hx; omega

theorem bsd_succ (l : List UInt8) (cols further : Nat) (more : Nat → Nat → UInt8) (k : Nat) : bsd l cols further more (k + 1) = bsd l cols further more k ++ [brow l cols further more k] := by
  simp [bsd, List.range_succ]

/-- A row under way: c of the further cells are laid. -/
def brK (l : List UInt8) (cols further : Nat) (more : Nat → Nat → UInt8) (r c : Nat) : List UInt8 := (l.drop (r * cols)).take cols ++ ((List.range c).map (more r) ++ List.replicate (further - c) 0)

theorem brK_length {l : List UInt8} {rows cols further r c : Nat} {more : Nat → Nat → UInt8} (hl : l.length = rows * cols) (hr : r < rows) (hc : c ≤ further) : (brK l cols further more r c).length = cols + further := by
  unfold brK
  rw [List.length_append, src_length hl hr]; simp; omega

theorem brK_step {l : List UInt8} {rows cols further r c : Nat} {more : Nat → Nat → UInt8} (hl : l.length = rows * cols) (hr : r < rows) (hc : c < further) : (brK l cols further more r c).set (cols + c) (more r c) = brK l cols further more r (c + 1) := by
  unfold brK
  rw [List.set_append_right _ _ (by rw [src_length hl hr]; omega), src_length hl hr, Nat.add_sub_cancel_left, List.set_append_right _ _ (by simp)]
  simp only [List.length_map, List.length_range, Nat.sub_self]
  rw [show further - c = (further - (c + 1)) + 1 by omega, List.replicate_succ, List.set_cons_zero]
  simp [List.range_succ]

theorem brK_end (l : List UInt8) (cols further : Nat) (more : Nat → Nat → UInt8) (r : Nat) : brK l cols further more r further = brow l cols further more r := by simp [brK, brow]

set_option maxHeartbeats 2000000 in
set_option maxRecDepth 100000 in
theorem beside_any (w : World) (rows cols further : Nat) (v : Value) (l : List UInt8) (K : Nat) (caps : Array Value) (fv : Value) (more : Nat → Nat → UInt8) (hv : Rd w v l) (hl : l.length = rows * cols) (h1 : 1 ≤ rows ∧ rows ≤ 64) (h2 : 1 ≤ cols ∧ cols ≤ 64) (h3 : further ≤ 64)
    (hfv : further = 0 ∨ fv = .func (.func K) #[] caps)
    (hcf : ∀ args W, Sem.run Try.prog (callFunc K args) W = .ok (.enter K args) W)
    (hcl : ∀ W, Fr (fun _ => False) w W → ∀ r c : Nat, r < rows → c < further → Calls Try.prog K (#[.int .i64 (r : Int), .int .i64 (c : Int)] ++ caps) W fun e W' => e = .returned (.int .u8 (((more r c).toNat : Nat) : Int)) ∧ Fr (fun _ => False) W W') :
    Calls Try.prog 74 #[.agg #[.int .i64 (rows : Int), .int .i64 (cols : Int), v], .int .i64 (further : Int), fv] w fun e w' =>
      e = .returned (.slice (some ⟨w.heap.size + 1, 0, none⟩) rows rows) ∧ (∃ bs, bs.length = rows ∧ (∀ b ∈ bs, w.heap.size + 1 < b) ∧ Ls w' (w.heap.size + 1) bs (cols + further) (bsd l cols further more rows)) ∧ Fr (fun _ => False) w w' := by
  obtain ⟨mm, hmm⟩ : ∃ mm, cols + further = mm := ⟨_, rfl⟩
  have eM : (cols : Int) + (further : Int) = (mm : Int) := by omega
  have hm1 : mm ≤ 128 := by omega
  rw [hmm]
  have HMM := hide hmm
  clear hmm
  obtain ⟨ao, cap, rfl⟩ := hv.shape
  have hpos : 0 < l.length := by rw [hl]; exact Nat.mul_pos h1.1 h2.1
  obtain ⟨vb, vo, rfl, -, hcap, hcm, hcell⟩ := hv.lits hpos
  have hlen : l.length ≤ 4096 := by rw [hl]; exact Nat.mul_le_mul h1.2 h2.2
  unfold maxLen at hcm
  have hmk := run_make43 rows (by omega)
  have HV := hide hv
  have HL := hide hl
  have HCL := hide hcl
  have HCF := hide hcf
  have HFV := hide hfv
  clear hv hl hcl hcf hfv hcell hpos
  go_enter Try.func74, Try.ntmps74
  go_wp2_with fail
  clear hmk
  go_loopw [16] (fun i w' => ∃ r : Nat, r ≤ rows ∧ i = .int .i64 (r : Int) ∧ ∃ bs, PB w w' rows cols mm (.slice (some ⟨vb, vo, none⟩) l.length cap) bs (bsd l cols further more r) r) (fun i _ => rows - (intOf i).toNat)
  case atStart =>
    refine ⟨0, by omega, rfl, [], ?_, ?_, rfl, rfl, fun i hi => by simp at hi, List.nodup_nil, fun b hb => by simp at hb, ((Fr.refl _ _).alloc _).alloc _⟩
    · have := heap_alloc_new (w.alloc (Obj.cells #[Value.int IntKind.i64 (rows : Int), Value.int IntKind.i64 (cols : Int), Value.slice (some ⟨vb, vo, none⟩) l.length cap] 24)) (Obj.cells (List.replicate rows (Value.slice none 0 0)).toArray 22)
      simpa [lvs] using this
    · rw [Below.heap_alloc _ _ _ (by simp)]
      exact heap_alloc_new w _
  case round =>
    obtain ⟨r, hr, rfl, bs, hP⟩ := hrel
    have c0 := cell_of_heap hP.box 0
    have c1 := cell_of_heap hP.box 1
    have c2 := cell_of_heap hP.box 2
    simp at c0 c1 c2
    have hlw := lt_of_heap hP.box
    have hlw2 := lt_of_heap hP.heap
    by_cases hlt : r < rows
    · obtain ⟨lo, hlo⟩ : ∃ lo, lo = r * cols := ⟨_, rfl⟩
      have hle : lo + cols ≤ l.length := by
        have : (r + 1) * cols ≤ rows * cols := Nat.mul_le_mul_right _ hlt
        rw [Nat.succ_mul] at this
        rw [unhide HL]; omega
      have e1 : (r : Int) * (cols : Int) = (lo : Int) := by rw [hlo]; simp
      have e2 : ((r : Int) + 1) * (cols : Int) = (lo : Int) + (cols : Int) := by rw [Int.add_mul, e1]; simp
      have hmk5 := run_make5 mm (by omega)
      have hsl : ((l.drop lo).take cols).length = cols := by rw [hlo]; exact src_length (unhide HL) hlt
      have hrd : Rd (wr.alloc (.cells (bvs (List.replicate mm 0)).toArray 5)) (.slice (some ⟨vb, vo + lo, none⟩) cols (cap - lo)) ((l.drop lo).take cols) := by
        have hv2 := (unhide HV).kept (hP.fr.alloc (.cells (bvs (List.replicate mm 0)).toArray 5)) (fun _ _ h => h)
        obtain ⟨vb', vo', hh, -, -, -, hc⟩ := hv2.lits (by omega)
        simp at hh
        obtain ⟨rfl, rfl⟩ := hh
        refine Rd.lit hsl (by omega) (by unfold maxLen; omega) fun j hj => ?_
        rw [hsl] at hj
        have := hc (lo + j) (by omega)
        rw [Nat.add_assoc, this]
        simp
      have hcp := run_copy_new wr mm _ _ hrd (by have := unhide HMM; omega) (by omega)
      rw [hsl, show mm - cols = further by have := unhide HMM; omega] at hcp
      have HP := hide hP
      have HLO := hide hlo
      have b1 : lo ≤ lo + cols := by omega
      have b2 : lo + cols ≤ cap := by omega
      clear hP hlo hsl hrd
      go_wp2_with fail
      rw [show lo + cols - lo = cols from Nat.add_sub_cancel_left _ _]
      rename World => wq
      clear hmk5 hcp e1 e2 b1 b2
      go_loopw [39] (fun i w' => ∃ c : Nat, c ≤ further ∧ i = .int .i64 (c : Int) ∧ BAt w' wq.heap.size (brK l cols further more r c) ∧ Fr (fun _ => False) wq w') (fun i _ => further - (intOf i).toNat)
      case atStart =>
        refine ⟨0, by omega, rfl, ?_, (Fr.refl _ _).alloc _⟩
        have := heap_alloc_new wq (Obj.cells (bvs ((l.drop lo).take cols ++ List.replicate further 0)).toArray 5)
        simpa [BAt, brK, unhide HLO] using this
      case round =>
        obtain ⟨c, hc, rfl, hB, hf⟩ := hrel
        have hP2 := (unhide HP).kept hf
        by_cases hlt2 : c < further
        · have hfv : fv = .func (.func K) #[] caps := (unhide HFV).resolve_left (by omega)
          subst hfv
          have d1 := cell_of_heap hP2.box 1
          simp at d1
          have hcf := unhide HCF
          have HC := hide (fun W (q : Fr (fun _ => False) wr W) => unhide HCL W (hP2.fr.trans q (fun _ _ h => h)) r c hlt hlt2)
          obtain ⟨ij, hij⟩ : ∃ ij, cols + c = ij := ⟨_, rfl⟩
          have e1 : (cols : Int) + (c : Int) = (ij : Int) := by omega
          have hbl : ij < (brK l cols further more r c).length := by rw [brK_length (unhide HL) hlt hc]; omega
          have HB := hide hB
          have Hf := hide hf
          have HS := hide (brK_step (more := more) (unhide HL) hlt hlt2)
          rw [hij] at HS
          have cq : ∀ W, Fr (fun _ => False) wr W → W.cell? ⟨wq.heap.size, ij, none⟩ = some (.int .u8 ((((brK l cols further more r c)[ij]).toNat : Nat) : Int)) := fun W q => (hB.kept q id).cell _ hbl
          have fq : ∀ W, Fr (fun _ => False) wr W → W.frozen? ⟨wq.heap.size, ij, none⟩ = false := fun W q => (hB.kept q id).frozen _
          generalize (brK l cols further more r c)[ij] = old at cq
          have HBX := hide (show ∀ W, Fr (fun _ => False) wr W → W.cell? ⟨w.heap.size, 1, none⟩ = some (.int .i64 (cols : Int)) from fun W q => by
            have := cell_of_heap (hP2.kept q).box 1
            simpa using this)
          have HCQ := hide cq
          have HFQ := hide fq
          have b3 : ij < mm := by have := unhide HMM; omega
          have b4 : IntKind.i64.wrap (ij : Int) = (ij : Int) := by rw [IntKind.wrap_i64]; omega
          clear hB hf hP2 hbl cq fq c0 c1 c2 hij
          go_wp2_with fail
          go_region_with ((refine (unhide HC _ (by first | exact Fr.ofDrewN _ 1 | exact Fr.ofDrewN _ _)).mono ?_; rintro e w2 ⟨rfl, f2⟩; have q1 := unhide HCQ w2 ((Fr.ofDrewN _ 1).trans f2 (fun _ _ h => h)); have q2 := unhide HFQ w2 ((Fr.ofDrewN _ 1).trans f2 (fun _ _ h => h)); have q3 := unhide HBX w2 ((Fr.ofDrewN _ 1).trans f2 (fun _ _ h => h))))
          all_goals
            clear q1 q2 q3
            have F2 := hide ((Fr.ofDrewN (S := fun _ => False) wr 1).trans f2 (fun _ _ h => h))
            clear f2
            go_wp2_with fail
            go_roundw
            case rel =>
              refine ⟨c + 1, by omega, by go_num, ?_, ((unhide Hf).trans (unhide F2) (fun _ _ h => h)).setCell (fun h => absurd h (by simp)) _⟩
              rw [← unhide HS]
              exact ((unhide HB).kept (unhide F2) id).set _ _
            case measure => simp [intOf]; omega
        · have hce : c = further := by omega
          subst hce
          have hg2 := hP2.heap
          have z1 := frozen_of_heap hg2 r
          have g1 : wr.cell? ⟨w.heap.size + 1, r, none⟩ = some (.slice none 0 0) := by
            rw [cell_of_heap hg2]
            have := (unhide HP).bk
            simp [lvs, this, show 0 < rows - r by omega]
          rw [brK_end] at hB
          have HB := hide hB
          have Hf := hide hf
          clear hP2 hB hf hg2 c0 c1 c2
          go_wp2_with fail
          go_roundw
          case rel =>
            refine ⟨r + 1, by omega, by go_num, bs ++ [wq.heap.size], ?_⟩
            rw [bsd_succ]
            exact (unhide HP).put hlt _ _ (Nat.le_refl _) (unhide HB) (unhide Hf)
          case measure => simp [intOf]; omega
    · have hre : r = rows := by omega
      subst hre
      have HP := hide hP
      clear hP c0 c1 c2
      go_wp2_with fail
      go_ret
      have hP := unhide HP
      refine ⟨rfl, ⟨bs, hP.bk, hP.new, ?_⟩, hP.fr⟩
      refine ⟨?_, by rw [hP.len, hP.bk], ?_, hP.row, hP.nd, fun h => absurd (hP.new _ h) (by omega)⟩
      · have := hP.heap
        simpa using this
      · intro x hx
        simp only [bsd, List.mem_map, List.mem_range] at hx
        obtain ⟨i, hi, rfl⟩ := hx
        rw [← unhide HMM]
        exact brow_length (unhide HL) hi
end Go.Proofs.Ytckmddkhkdcmmaa

namespace Go.Proofs.Ytckmddkhkdcmmaa
set_option linter.unusedVariables false
set_option linter.unusedSimpArgs false
open Go.RowKit
set_option linter.unusedVariables false

attribute [local go_sem ↓] Go.wp_at_zero Go.wp_at_succ

/-- A text of bytes. -/
def str (l : List UInt8) : ByteArray := ⟨l.toArray⟩

theorem str_data (l : List UInt8) : (str l).data.toList = l := by simp [str]
theorem str_size (l : List UInt8) : (str l).size = l.length := by simp [str, ByteArray.size]

theorem conv_rd {P : Program} {w : World} {v : Value} {l : List UInt8} (h : Rd w v l) (src dst e : TypeId) (hs : P.underlying src = some (.slice e)) (he : P.underlying e = some (.int .u8)) (hd : P.underlying dst = some .string) :
    (convert src dst v).run P w = .ok (.string (str l)) w := by
  obtain ⟨ao, cap, rfl⟩ := h.shape
  by_cases hl : l.length = 0
  · obtain rfl := List.eq_nil_of_length_eq_zero hl
    rw [run_convert_bytes_string w src dst e _ _ _ hs he hd]
    cases ao with
    | none => simp [Conv.bytesToString, str]; rfl
    | some ad =>
      have e2 : (loadCells ad 0).run P w = .ok (([] : List Int).map (Value.int .u8)).toArray w := by simp [loadCells, loadCellsFrom]
      exact (run_bytesToString w ad 0 cap [] e2).trans rfl
  · obtain ⟨b, o, rfl, _, _, _, h3⟩ := h.lits (by omega)
    rw [run_convert_bytes_arg w src e hs he b o l.length cap (l.map fun b => (b.toNat : Int)) (by simp) ?_ dst hd]
    · rw [show strOfNums (l.map fun b => (b.toNat : Int)) = str l from ?_]
      unfold strOfNums str
      rw [List.map_map]
      congr 2
      have : ((fun n : Int => UInt8.ofNat n.toNat) ∘ fun b : UInt8 => (b.toNat : Int)) = id := by
        funext b; simp
      rw [this, List.map_id]
    · intro i hi
      rw [h3 i hi]
      simp [List.getD, hi]

theorem str_inj {a b : List UInt8} (h : str a = str b) : a = b := by
  have := congrArg (fun s => s.data.toList) h
  simpa [str] using this

/-- A matrix: its value, its sides, its cells. -/
def MAt (w : World) (val : Value) (r c : Int) (l : List UInt8) : Prop := ∃ v, val = .agg #[.int .i64 r, .int .i64 c, v] ∧ Rd w v l

/-- Memory that was not there. -/
def New (w : World) (val : Value) : Prop := ∀ r c v b, val = .agg #[r, c, v] → v.ownBlock = some b → w.heap.size ≤ b

theorem MAt.kept {S : Nat → Prop} {w w' : World} {val : Value} {r c : Int} {l : List UInt8} (h : MAt w val r c l) (f : Fr S w w') (hS : ∀ rr cc v b, val = .agg #[rr, cc, v] → v.ownBlock = some b → ¬ S b) : MAt w' val r c l := by
  obtain ⟨v, rfl, h⟩ := h
  exact ⟨v, rfl, h.kept f (fun b e => hS _ _ v b rfl e)⟩

theorem MAt.kept0 {w w' : World} {val : Value} {r c : Int} {l : List UInt8} (h : MAt w val r c l) (f : Fr (fun _ => False) w w') : MAt w' val r c l := h.kept f (fun _ _ _ _ _ _ h => h)

set_option maxHeartbeats 400000 in
theorem same_any (w : World) (r1 c1 r2 c2 : Int) (v1 v2 : Value) (l1 l2 : List UInt8) (h1 : Rd w v1 l1) (h2 : Rd w v2 l2) :
    Calls Try.prog 34 #[.agg #[.int .i64 r1, .int .i64 c1, v1], .agg #[.int .i64 r2, .int .i64 c2, v2]] w fun e w' => e = .returned (.bool (decide (r1 = r2 ∧ c1 = c2 ∧ l1 = l2))) ∧ Fr (fun _ => False) w w' := by
  have f := ((Fr.refl (fun _ => False) w).alloc (Obj.cells #[.int .i64 r1, .int .i64 c1, v1] 24)).alloc (Obj.cells #[.int .i64 r2, .int .i64 c2, v2] 24)
  have k1 := conv_rd (P := Try.prog) (h1.kept f (fun _ _ h => h)) 22 9 5 Try.underlying22 Try.underlying5 Try.underlying9
  have k2 := conv_rd (P := Try.prog) (h2.kept f (fun _ _ h => h)) 22 9 5 Try.underlying22 Try.underlying5 Try.underlying9
  obtain ⟨ao1, cap1, rfl⟩ := h1.shape
  obtain ⟨ao2, cap2, rfl⟩ := h2.shape
  have F := hide f
  clear h1 h2 f
  by_cases e1 : r1 = r2
  · have g1 : (r1 == r2) = true := by simpa using e1
    by_cases e2 : c1 = c2
    · have g2 : (c1 == c2) = true := by simpa using e2
      have hs : ((str l1).toList == (str l2).toList) = decide (l1 = l2) := by
        rw [ByteArray.toList_eq, ByteArray.toList_eq, str_data, str_data, Bool.eq_iff_iff]; simp
      have hd : decide (r1 = r2 ∧ c1 = c2 ∧ l1 = l2) = decide (l1 = l2) := by simp [e1, e2]
      rw [hd]
      have HS := hide hs
      clear e1 e2 hd hs
      generalize str l1 = s1 at *
      generalize str l2 = s2 at *
      go_enter Try.func34, Try.ntmps34
      go_wp2_with fail
      go_ret
      exact ⟨by rw [← unhide HS]; rfl, unhide F⟩
    · have g2 : (c1 == c2) = false := by simpa using e2
      have hd : decide (r1 = r2 ∧ c1 = c2 ∧ l1 = l2) = false := by simp [e2]
      rw [hd]
      clear e1 e2 hd k1 k2
      go_enter Try.func34, Try.ntmps34
      go_wp2_with fail
      go_ret
      exact ⟨rfl, unhide F⟩
  · have g1 : (r1 == r2) = false := by simpa using e1
    have hd : decide (r1 = r2 ∧ c1 = c2 ∧ l1 = l2) = false := by simp [e1]
    rw [hd]
    clear e1 hd k1 k2
    go_enter Try.func34, Try.ntmps34
    go_wp2_with fail
    go_ret
    exact ⟨rfl, unhide F⟩

theorem make1_any (w : World) (b : Nat) (R : Int) (r c cols : Nat) (v : Value) (l : List UInt8) (hb : w.heap[b]? = some (.cells #[.int .i64 R, .int .i64 (cols : Int), v] 24 (0, 0))) (hv : Rd w v l) (hr : r ≤ 64) (hc : c ≤ 64) (hcols : cols ≤ 64) (hi : r * cols + c < l.length) :
    Calls Try.prog 85 #[.int .i64 (r : Int), .int .i64 (c : Int), .pointer (some ⟨b, 0, none⟩)] w fun e w' => e = .returned (.int .u8 (((l[r * cols + c]).toNat : Nat) : Int)) ∧ Fr (fun _ => False) w w' := by
  have c0 := cell_of_heap hb 0
  have c1 := cell_of_heap hb 1
  have c2 := cell_of_heap hb 2
  simp at c0 c1 c2
  have HA := hide (at_any w R r c cols v l hv hr hc hcols hi)
  clear hb hv
  go_enter Try.func85, Try.ntmps85
  go_wp2_with (go_at_call 69; refine (unhide HA).mono ?_; rintro e w' ⟨rfl, f⟩)
  go_ret
  exact ⟨rfl, f⟩

theorem fl_self (cols : Nat) (l : List UInt8) (hc : 0 < cols) : fl cols (fun r c => (l[r * cols + c]?).getD 0) l.length = l := by
  apply List.ext_getElem
  · simp [fl]
  · intro i h1 h2
    rw [fl_get]
    have e : i / cols * cols + i % cols = i := by rw [Nat.mul_comm]; exact Nat.div_add_mod i cols
    simp [e, h2]

theorem New.of (w : World) (r c : Value) (q n m : Nat) (h : w.heap.size ≤ q) : New w (.agg #[r, c, .slice (some ⟨q, 0, none⟩) n m]) := by
  intro r' c' v b e hb
  simp at e
  obtain ⟨-, -, rfl⟩ := e
  simp [Value.ownBlock] at hb
  omega

set_option maxHeartbeats 1000000 in
set_option maxRecDepth 100000 in
theorem make_ok (w : World) (rows cols : Nat) (v : Value) (l : List UInt8) (hv : Rd w v l) (hl : l.length = rows * cols) (h1 : 1 ≤ rows ∧ rows ≤ 64) (h2 : 1 ≤ cols ∧ cols ≤ 64) :
    Calls Try.prog 33 #[.int .i64 (rows : Int), .int .i64 (cols : Int), v] w fun e w' => (∃ val, e = .returned (.tuple #[val, .int .i64 0]) ∧ MAt w' val rows cols l ∧ New w val) ∧ Fr (fun _ => False) w w' := by
  have hck : chk rows cols l.length = 0 := by
    unfold chk sideB
    rw [if_pos ⟨by simp; omega, by simp; omega⟩, if_pos (by rw [hl]; simp)]
  obtain ⟨ao, cap, rfl⟩ := hv.shape
  have HV := hide hv
  have HL := hide hl
  have HCK := hide hck
  clear hv hl hck
  go_enter Try.func33, Try.ntmps33
  go_wp2_with fail
  refine (check_any _ _ _ _ _ _).mono ?_
  rintro e w1 ⟨rfl, f1⟩
  rw [unhide HCK]
  have hb0 : ((w.alloc (Obj.cells #[Value.int IntKind.i64 0, Value.int IntKind.i64 0, Value.slice none 0 0] 24)).alloc (Obj.cells #[Value.int IntKind.i64 (rows : Int), Value.int IntKind.i64 (cols : Int), Value.slice ao l.length cap] 24)).heap[w.heap.size + 1]? = some (.cells #[Value.int IntKind.i64 (rows : Int), Value.int IntKind.i64 (cols : Int), Value.slice ao l.length cap] 24 (0, 0)) := by
    have := heap_alloc_new (w.alloc (Obj.cells #[Value.int IntKind.i64 0, Value.int IntKind.i64 0, Value.slice none 0 0] 24)) (Obj.cells #[Value.int IntKind.i64 (rows : Int), Value.int IntKind.i64 (cols : Int), Value.slice ao l.length cap] 24)
    simpa using this
  have ha0 : ((w.alloc (Obj.cells #[Value.int IntKind.i64 0, Value.int IntKind.i64 0, Value.slice none 0 0] 24)).alloc (Obj.cells #[Value.int IntKind.i64 (rows : Int), Value.int IntKind.i64 (cols : Int), Value.slice ao l.length cap] 24)).heap[w.heap.size]? = some (.cells #[Value.int IntKind.i64 0, Value.int IntKind.i64 0, Value.slice none 0 0] 24 (0, 0)) := by
    rw [Below.heap_alloc _ _ _ (by simp)]; exact heap_alloc_new w _
  have hb1 := (f1.block _ (lt_of_heap hb0) id).trans hb0
  have ha1 := (f1.block _ (lt_of_heap ha0) id).trans ha0
  have F1 : Fr (fun _ => False) w w1 := (((Fr.refl (fun _ => False) w).alloc _).alloc _).trans f1 (fun _ _ h => h)
  have hv1 := (unhide HV).kept F1 (fun _ _ h => h)
  have HF := hide (filled_any w1 rows cols 85 #[.pointer (some ⟨w.heap.size + 1, 0, none⟩)] (fun r c => (l[r * cols + c]?).getD 0) h1 h2 cf84 (fun W q r c hr hc => by
    have hi : r * cols + c < l.length := by rw [unhide HL]; exact mul_step hr hc
    have := make1_any W (w.heap.size + 1) rows r c cols _ l ((q.block _ (lt_of_heap hb1) id).trans hb1) (hv1.kept q (fun _ _ h => h)) (by omega) (by omega) h2.2 hi
    rw [List.getElem?_eq_getElem hi]
    exact this))
  have HF1 := hide F1
  have HA1 := hide ha1
  clear f1 F1 hb0 ha0 hb1 ha1 hv1
  go_wp2_with fail
  refine (unhide HF).mono ?_
  rintro e w2 ⟨rfl, hB2, f2⟩
  rw [← unhide HL, fl_self cols l (by omega)] at hB2
  rw [← unhide HL]
  have ha2 := (f2.block _ (lt_of_heap (unhide HA1)) id).trans (unhide HA1)
  have c0 := cell_of_heap ha2 0
  have c1 := cell_of_heap ha2 1
  have c2 := cell_of_heap ha2 2
  have z0 := frozen_of_heap ha2
  simp at c0 c1 c2
  have HB2 := hide hB2
  have F2 := hide ((unhide HF1).trans f2 (fun _ _ h => h))
  have hsz := (unhide HF1).size
  have hlt := lt_of_heap (unhide HA1)
  clear hB2 f2 ha2 HF
  go_wp2_with fail
  have f3 := fr_three w2 w.heap.size (.int .i64 (rows : Int)) (.int .i64 (cols : Int)) (.slice (some ⟨w1.heap.size + 1, 0, none⟩) l.length l.length)
  refine bodyPost_ret (v := .tuple #[.agg #[.int .i64 (rows : Int), .int .i64 (cols : Int), .slice (some ⟨w1.heap.size + 1, 0, none⟩) l.length l.length], .int .i64 0]) (by simp [results, Try.results33, go_sem, c0, c1, c2]) rfl ⟨⟨_, rfl, ⟨_, rfl, ?_⟩, New.of _ _ _ _ _ _ (by omega)⟩, (unhide F2).trans f3 (fun i hi h => by omega)⟩
  have hB := (unhide HB2).kept f3 (by omega)
  refine hB.rd ?_
  have h5 := Nat.mul_le_mul h1.2 h2.2
  rw [unhide HL]; unfold maxLen; omega
end Go.Proofs.Ytckmddkhkdcmmaa

namespace Go.Proofs.Ytckmddkhkdcmmaa
set_option linter.unusedVariables false
set_option linter.unusedSimpArgs false
open Go.RowKit
set_option linter.unusedVariables false

attribute [local go_sem ↓] Go.wp_at_zero Go.wp_at_succ

/-- The identity's cells. -/
def eyeC (r c : Nat) : UInt8 := if r = c then 1 else 0

/-- The rows of a matrix with the identity beside them, cleared. -/
def invR (n : Nat) (l : List UInt8) : List (List UInt8) × Nat := redK (bsd l n n eyeC n) n
/-- The inverse's cells. -/
def invL (n : Nat) (l : List UInt8) : List UInt8 := fl n (fun r c => cel (invR n l).1 r (n + c)) (n * n)

theorem cf76 (args : Array Value) (W : World) : Sem.run Try.prog (callFunc 77 args) W = .ok (.enter 77 args) W := by simp [go_sem]

theorem inv1_any (w : World) (bL bn g m n : Nat) (bs : List Nat) (ls : List (List UInt8)) (r c : Nat) (hL : w.heap[bL]? = some (.cells #[.slice (some ⟨g, 0, none⟩) n n] 65 (0, 0))) (hn : w.heap[bn]? = some (.cells #[.int .i64 (n : Int)] 3 (0, 0))) (h : Ls w g bs m ls) (hb : bs.length = n) (hr : r < n) (hc : n + c < m) (hm : m ≤ 4096) :
    Calls Try.prog 77 #[.int .i64 (r : Int), .int .i64 (c : Int), .pointer (some ⟨bL, 0, none⟩), .pointer (some ⟨bn, 0, none⟩)] w fun e w' => e = .returned (.int .u8 (((cel ls r (n + c)).toNat : Nat) : Int)) ∧ ∃ k, w' = w.drewN k := by
  have c0 := cell_of_heap hL 0
  have c1 := cell_of_heap hn 0
  simp at c0 c1
  have c2 := h.cell r (by omega)
  have c3 := h.byte' r (n + c) (by omega) hc
  generalize bs[r] = b at *
  generalize cel ls r (n + c) = res at *
  obtain ⟨ij, hij⟩ : ∃ ij, n + c = ij := ⟨_, rfl⟩
  rw [hij] at c3 hc
  have e1 : (n : Int) + (c : Int) = (ij : Int) := by omega
  have e2 : IntKind.i64.wrap (ij : Int) = (ij : Int) := by rw [IntKind.wrap_i64]; omega
  clear hL hn h hb hij
  go_enter Try.func77, Try.ntmps77
  go_wp2_with fail
  go_quiet (fail)
  go_wp2_with fail
  go_ret
  exact ⟨rfl, _, rfl⟩

theorem zeroM (w : World) : MAt w (.agg #[.int .i64 0, .int .i64 0, .slice none 0 0]) 0 0 [] := ⟨_, rfl, Rd.nil w⟩
theorem zeroN (w : World) : New w (.agg #[.int .i64 0, .int .i64 0, .slice none 0 0]) := by
  intro r' c' v b e hb
  simp at e
  obtain ⟨-, -, rfl⟩ := e
  simp [Value.ownBlock] at hb

theorem two_allocs (w : World) (A B : Array Value) : ((w.alloc (Obj.cells A 24)).alloc (Obj.cells B 24)).heap[w.heap.size]? = some (.cells A 24 (0, 0)) ∧ ((w.alloc (Obj.cells A 24)).alloc (Obj.cells B 24)).heap[w.heap.size + 1]? = some (.cells B 24 (0, 0)) := by
  constructor
  · rw [Below.heap_alloc _ _ _ (by simp)]; exact heap_alloc_new w _
  · have := heap_alloc_new (w.alloc (Obj.cells A 24)) (Obj.cells B 24)
    simpa using this

set_option maxHeartbeats 1000000 in
set_option maxRecDepth 100000 in
theorem inverse_check (w : World) (r c : Int) (v : Value) (l : List UInt8) (hv : Rd w v l) (hc : chk r c l.length ≠ 0) :
    Calls Try.prog 19 #[.agg #[.int .i64 r, .int .i64 c, v]] w fun e w' => e = .returned (.tuple #[.agg #[.int .i64 0, .int .i64 0, .slice none 0 0], .int .i64 (chk r c l.length)]) ∧ Fr (fun _ => False) w w' := by
  obtain ⟨ao, cap, rfl⟩ := hv.shape
  clear hv
  have hne : (chk r c l.length != 0) = true := by simpa using hc
  have HN := hide hne
  clear hne hc
  go_enter Try.func19, Try.ntmps19
  go_wp2_with fail
  refine (check_any _ _ _ _ _ _).mono ?_
  rintro e w1 ⟨rfl, f1⟩
  have T := two_allocs w #[.int .i64 r, .int .i64 c, .slice ao l.length cap] #[.int .i64 0, .int .i64 0, .slice none 0 0]
  have hb1 := (f1.block _ (lt_of_heap T.2) id).trans T.2
  have F1 := hide ((((Fr.refl (fun _ => False) w).alloc _).alloc _).trans f1 (fun _ _ h => h))
  have hlt := lt_of_heap hb1
  have c0 := cell_of_heap hb1 0
  have c1 := cell_of_heap hb1 1
  have c2 := cell_of_heap hb1 2
  have z0 := frozen_of_heap hb1
  simp at c0 c1 c2
  have hne := unhide HN
  clear T f1 hb1
  go_wp2_with fail
  have f3 := fr_three w1 (w.heap.size + 1) (.int .i64 0) (.int .i64 0) (.slice none 0 0)
  refine bodyPost_ret (v := .tuple #[.agg #[.int .i64 0, .int .i64 0, .slice none 0 0], .int .i64 (chk r c l.length)]) (by simp [results, Try.results19, go_sem, c0, c1, c2]) rfl ⟨rfl, (unhide F1).trans f3 (fun i hi h => by omega)⟩

set_option maxHeartbeats 1000000 in
set_option maxRecDepth 100000 in
theorem inverse_side (w : World) (r c : Int) (v : Value) (l : List UInt8) (hv : Rd w v l) (hc : chk r c l.length = 0) (hrc : r ≠ c) :
    Calls Try.prog 19 #[.agg #[.int .i64 r, .int .i64 c, v]] w fun e w' => e = .returned (.tuple #[.agg #[.int .i64 0, .int .i64 0, .slice none 0 0], .int .i64 23]) ∧ Fr (fun _ => False) w w' := by
  obtain ⟨ao, cap, rfl⟩ := hv.shape
  clear hv
  have hne : (r != c) = true := by simpa using hrc
  have HN := hide hne
  have HC := hide hc
  clear hne hc hrc
  go_enter Try.func19, Try.ntmps19
  go_wp2_with fail
  refine (check_any _ _ _ _ _ _).mono ?_
  rintro e w1 ⟨rfl, f1⟩
  rw [unhide HC]
  have T := two_allocs w #[.int .i64 r, .int .i64 c, .slice ao l.length cap] #[.int .i64 0, .int .i64 0, .slice none 0 0]
  have ha1 := (f1.block _ (lt_of_heap T.1) id).trans T.1
  have hb1 := (f1.block _ (lt_of_heap T.2) id).trans T.2
  have F1 := hide ((((Fr.refl (fun _ => False) w).alloc _).alloc _).trans f1 (fun _ _ h => h))
  have hlt := lt_of_heap hb1
  have c0 := cell_of_heap hb1 0
  have c1 := cell_of_heap hb1 1
  have c2 := cell_of_heap hb1 2
  have a0 := cell_of_heap ha1 0
  have a1 := cell_of_heap ha1 1
  have z0 := frozen_of_heap hb1
  simp at c0 c1 c2 a0 a1
  have hne := unhide HN
  clear T f1 hb1 ha1
  go_wp2_with fail
  have f3 := fr_three w1 (w.heap.size + 1) (.int .i64 0) (.int .i64 0) (.slice none 0 0)
  refine bodyPost_ret (v := .tuple #[.agg #[.int .i64 0, .int .i64 0, .slice none 0 0], .int .i64 23]) (by simp [results, Try.results19, go_sem, c0, c1, c2]) rfl ⟨rfl, (unhide F1).trans f3 (fun i hi h => by omega)⟩

set_option maxHeartbeats 2000000 in
set_option maxRecDepth 100000 in
theorem inverse_sq (w : World) (n : Nat) (v : Value) (l : List UInt8) (hv : Rd w v l) (hl : l.length = n * n) (h1 : 1 ≤ n ∧ n ≤ 64) :
    Calls Try.prog 19 #[.agg #[.int .i64 (n : Int), .int .i64 (n : Int), v]] w fun e w' => (∃ val, e = .returned (.tuple #[val, .int .i64 (if (invR n l).2 < n then 22 else 0)]) ∧ (if (invR n l).2 < n then MAt w' val 0 0 [] else MAt w' val n n (invL n l)) ∧ New w val) ∧ Fr (fun _ => False) w w' := by
  have hck : chk n n l.length = 0 := by
    unfold chk sideB
    rw [if_pos ⟨by simp; omega, by simp; omega⟩, if_pos (by rw [hl]; simp)]
  obtain ⟨ao, cap, rfl⟩ := hv.shape
  have HV := hide hv
  have HL := hide hl
  have HCK := hide hck
  clear hv hl hck
  go_enter Try.func19, Try.ntmps19
  go_wp2_with fail
  refine (check_any _ _ _ _ _ _).mono ?_
  rintro e w1 ⟨rfl, f1⟩
  rw [unhide HCK]
  have T := two_allocs w #[.int .i64 (n : Int), .int .i64 (n : Int), .slice ao l.length cap] #[.int .i64 0, .int .i64 0, .slice none 0 0]
  have ha1 := (f1.block _ (lt_of_heap T.1) id).trans T.1
  have hb1 := (f1.block _ (lt_of_heap T.2) id).trans T.2
  have F1 := (((Fr.refl (fun _ => False) w).alloc _).alloc _).trans f1 (fun _ _ h => h)
  have a0 := cell_of_heap ha1 0
  have a1 := cell_of_heap ha1 1
  have a2 := cell_of_heap ha1 2
  simp at a0 a1 a2
  have hlt := lt_of_heap hb1
  have hv2 := (unhide HV).kept (F1.alloc (Obj.cells #[.int .i64 (n : Int)] 3)) (fun _ _ h => h)
  have HB1 := hide hb1
  have HF1 := hide F1
  have HBe := hide (beside_any (w1.alloc (Obj.cells #[.int .i64 (n : Int)] 3)) n n n _ l 75 #[] (.func (.func 75) #[] #[]) eyeC hv2 (unhide HL) h1 h1 h1.2 (.inr rfl) cf74 (fun W q r c hr hc => by
    refine (one_any W (r : Int) (c : Int)).mono ?_
    rintro e W' ⟨rfl, rfl⟩
    refine ⟨?_, Fr.refl _ _⟩
    unfold eyeC
    by_cases e : r = c
    · rw [if_pos e, if_pos (by omega)]
    · rw [if_neg e, if_neg (by omega)]))
  have hlt0 := lt_of_heap ha1
  clear T f1 F1 ha1 hb1 hv2
  go_wp2_with fail
  refine (unhide HBe).mono ?_
  rintro e w2 ⟨rfl, ⟨bs, hbs, hbn, L2⟩, f2⟩
  have hsz : (w1.alloc (Obj.cells #[Value.int IntKind.i64 (n : Int)] 3)).heap.size = w1.heap.size + 1 := by simp
  rw [hsz] at hbn L2 ⊢
  have f2' : Fr (fun _ => False) w1 w2 := ((Fr.refl (fun _ => False) w1).alloc _).trans f2 (fun _ _ h => h)
  have hn2 : w2.heap[w1.heap.size]? = some (.cells #[.int .i64 (n : Int)] 3 (0, 0)) := by
    have := heap_alloc_new w1 (Obj.cells #[Value.int IntKind.i64 (n : Int)] 3)
    exact (f2.block _ (lt_of_heap this) id).trans this
  have hb2 := (f2'.block _ (lt_of_heap (unhide HB1)) id).trans (unhide HB1)
  have hl2 := lt_of_heap hn2
  have hgl := L2.lt
  have hbl : ∀ x ∈ bs, x < w2.heap.size := by
    intro x hx
    obtain ⟨i, hi, rfl⟩ := List.getElem_of_mem hx
    exact lt_of_heap (L2.row i hi)
  have d1 := cell_of_heap hn2 0
  simp at d1
  have fA : Fr (fun _ => False) w2 (w2.alloc (Obj.cells #[.slice (some ⟨w1.heap.size + 1 + 1, 0, none⟩) n n] 65)) := (Fr.refl (fun _ => False) w2).alloc _
  have hA := heap_alloc_new w2 (Obj.cells #[.slice (some ⟨w1.heap.size + 1 + 1, 0, none⟩) n n] 65)
  have HRd := hide (fun W (q : Fr (fun _ => False) (w2.alloc (Obj.cells #[.slice (some ⟨w1.heap.size + 1 + 1, 0, none⟩) n n] 65)) W) => reduce_any W (w1.heap.size + 1 + 1) (n + n) n bs _ n ((L2.kept fA id (fun _ _ h => h)).kept q id (fun _ _ h => h)) hbs (by omega) (by omega) (by omega))
  have HN2 := hide hn2
  have HB2 := hide hb2
  have HA := hide hA
  have HFA := hide fA
  have HBN := hide hbn
  have HBL := hide hbl
  have HF2 := hide ((unhide HF1).trans f2' (fun _ _ h => h))
  have hsz2 := f2'.size
  have HCQ := hide (show ∀ W, Fr (fun k => k = w1.heap.size + 1 + 1 ∨ k ∈ bs) (w2.alloc (Obj.cells #[.slice (some ⟨w1.heap.size + 1 + 1, 0, none⟩) n n] 65)) W → W.cell? ⟨w1.heap.size, 0, none⟩ = some (.int .i64 (n : Int)) from fun W q => by
    have h3 := (fA.block _ (lt_of_heap hn2) id).trans hn2
    have h4 := (q.block _ (lt_of_heap h3) (fun h => by
      rcases h with h | h
      · omega
      · have := hbn _ h; omega)).trans h3
    have := cell_of_heap h4 0
    simpa using this)
  have HT := hide (show ∀ W, Fr (fun k => k = w1.heap.size + 1 + 1 ∨ k ∈ bs) (w2.alloc (Obj.cells #[.slice (some ⟨w1.heap.size + 1 + 1, 0, none⟩) n n] 65)) W →
      W.heap[w1.heap.size]? = some (.cells #[.int .i64 (n : Int)] 3 (0, 0)) ∧ W.heap[w2.heap.size]? = some (.cells #[.slice (some ⟨w1.heap.size + 1 + 1, 0, none⟩) n n] 65 (0, 0)) ∧
      W.heap[w.heap.size + 1]? = some (.cells #[.int .i64 0, .int .i64 0, .slice none 0 0] 24 (0, 0)) ∧ Fr (fun _ => False) w W from fun W q => by
    have h3 := (fA.block _ (lt_of_heap hn2) id).trans hn2
    have h4 := (fA.block _ (lt_of_heap hb2) id).trans hb2
    refine ⟨(q.block _ (lt_of_heap h3) ?_).trans h3, (q.block _ (lt_of_heap hA) ?_).trans hA, (q.block _ (lt_of_heap h4) ?_).trans h4, ((unhide HF2).trans fA (fun _ _ h => h)).trans q ?_⟩
    · rintro (h | h)
      · omega
      · have := hbn _ h; omega
    · rintro (h | h)
      · omega
      · have := hbl _ h; omega
    · rintro (h | h)
      · omega
      · have := hbn _ h; omega
    · rintro i hi (h | h)
      · omega
      · have := hbn _ h; omega)
  clear L2 hbn f2 f2' hn2 hb2 hbl HBe a0 a1 a2 hsz fA hA
  go_wp2_with fail
  go_region_with ((go_at_call 76; refine (unhide HRd _ (by first | exact Fr.ofDrewN _ 1 | exact Fr.ofDrewN _ _)).mono ?_; rintro e w4 ⟨rfl, ⟨bs4, hb4, hs4, L4⟩, f4⟩; have q1 := unhide HCQ w4 ((Fr.ofDrewN _ 1).trans f4 (fun _ _ h => h))))
  all_goals
    have T4 := unhide HT w4 ((Fr.ofDrewN _ 1).trans f4 (fun _ _ h => h))
    obtain ⟨t1, t2, t3, t4⟩ := T4
    have hl4 := lt_of_heap t2
    have g0 := cell_of_heap t3 0
    have g1 := cell_of_heap t3 1
    have g2 := cell_of_heap t3 2
    have z0 := frozen_of_heap t3
    have e0 := cell_of_heap t1 0
    simp at g0 g1 g2 e0
    by_cases hs : (invR n l).2 < n
    · have hs' : (redK (bsd l n n eyeC n) n).2 < n := hs
      have T4 := hide t4
      have HSS := hide hs
      clear t1 t2 t3 t4 L4 f4 hs4
      go_wp2_with fail
      have f5 := fr_three w4 (w.heap.size + 1) (.int .i64 0) (.int .i64 0) (.slice none 0 0)
      refine bodyPost_ret (v := .tuple #[.agg #[.int .i64 0, .int .i64 0, .slice none 0 0], .int .i64 22]) (by simp [results, Try.results19, go_sem, g0, g1, g2]) rfl ⟨⟨_, rfl, zeroM _, zeroN _⟩, (unhide T4).trans f5 (fun i hi h => by omega)⟩
    · have hs' : ¬ (redK (bsd l n n eyeC n) n).2 < n := hs
      have T4 := hide t4
      have T3 := hide t3
      have HSS := hide hs
      have HFi := hide (filled_any w4 n n 77 #[.pointer (some ⟨w2.heap.size, 0, none⟩), .pointer (some ⟨w1.heap.size, 0, none⟩)] (fun r c => cel (invR n l).1 r (n + c)) h1 h1 cf76 (fun W q r c hr hc => by
        refine (inv1_any W w2.heap.size w1.heap.size (w1.heap.size + 1 + 1) (n + n) n bs4 (invR n l).1 r c ((q.block _ (lt_of_heap t2) id).trans t2) ((q.block _ (lt_of_heap t1) id).trans t1) (L4.kept q id (fun _ _ h => h)) hb4 hr (by omega) (by omega)).mono ?_
        rintro e W' ⟨rfl, k, rfl⟩
        exact ⟨rfl, Fr.ofDrewN _ _⟩))
      clear t1 t2 t3 t4 L4 f4 hs4
      go_wp2_with fail
      refine (unhide HFi).mono ?_
      rintro e w5 ⟨rfl, B5, f5⟩
      have t5 := (f5.block _ (lt_of_heap (unhide T3)) id).trans (unhide T3)
      have k0 := cell_of_heap t5 0
      have k1 := cell_of_heap t5 1
      have k2 := cell_of_heap t5 2
      have y0 := frozen_of_heap t5
      simp at k0 k1 k2
      have HB5 := hide B5
      have F5 := hide ((unhide T4).trans f5 (fun _ _ h => h))
      have sz4 := (unhide T4).size
      clear t5 B5 f5 g0 g1 g2 z0 e0 q1
      go_wp2_with fail
      have f6 := fr_three w5 (w.heap.size + 1) (.int .i64 (n : Int)) (.int .i64 (n : Int)) (.slice (some ⟨w4.heap.size + 1, 0, none⟩) (n * n) (n * n))
      refine bodyPost_ret (v := .tuple #[.agg #[.int .i64 (n : Int), .int .i64 (n : Int), .slice (some ⟨w4.heap.size + 1, 0, none⟩) (n * n) (n * n)], .int .i64 0]) (by simp [results, Try.results19, go_sem, k0, k1, k2]) rfl ⟨⟨_, rfl, ?_, New.of _ _ _ _ _ _ (by omega)⟩, (unhide F5).trans f6 (fun i hi h => by omega)⟩
      refine ⟨_, rfl, ?_⟩
      have hB := (unhide HB5).kept f6 (by omega)
      have hq := Nat.mul_le_mul h1.2 h1.2
      have hlen : (invL n l).length = n * n := fl_length _ _ _
      have := hB.rd (by rw [show (fl n (fun r c => cel (invR n l).1 r (n + c)) (n * n)).length = n * n from fl_length _ _ _]; unfold maxLen; omega)
      rw [show (fl n (fun r c => cel (invR n l).1 r (n + c)) (n * n)).length = n * n from fl_length _ _ _] at this
      exact this
end Go.Proofs.Ytckmddkhkdcmmaa
