/-
  The walk of package gf's beside.
-/
import Derived.Test.YtckmddkhkdcmmaaRdu
import Derived.Laws.CopyOwn
import Derived.Deep.WholeRow
namespace Go.Proofs.Ytckmddkhkdcmmaa
open Go.RowKit
set_option linter.unusedVariables false

attribute [local go_sem ↓] Go.wp_at_zero Go.wp_at_succ

theorem Try.info22 : (Try.prog.info? 22).map (fun i => (i.zero, i.size, i.bytes)) = some (some (.slice none 0 0), 1, 24) := by kernel_rfl

theorem made_lists (n : Nat) : madeCells (Value.slice none 0 0).cells (n * 1) = (List.replicate n (Value.slice none 0 0)).toArray := by
  apply Array.ext
  · simp [size_madeCells]
  · intro i h1 h2
    simp [madeCells, Value.cells, Nat.mod_one]

theorem run_make43 (n : Nat) (hn : n ≤ 1099511627776) (w : World) : (Instr.makeSlice 65 (.int .i64 (n : Int)) (.int .i64 (n : Int))).run Try.prog w = .ok (.slice (some ⟨w.heap.size, 0, none⟩) n n) (w.alloc (.cells (List.replicate n (Value.slice none 0 0)).toArray 22)) := by
  obtain ⟨i, hi, hz0, hz1, hz2⟩ := info_parts Try.info22
  have := run_make (P := Try.prog) w 65 22 i _ Try.underlying65 hi hz0 .i64 .i64 (n : Int) (n : Int) (by omega) (Int.le_refl _) (by rw [hz2]; omega) (by omega)
  rw [this, hz1, Int.toNat_natCast, made_lists]

theorem cut_front (A cs : List Value) : A.toArray.toList.take 0 ++ cs ++ A.toArray.toList.drop (0 + cs.length) = cs ++ A.drop cs.length := by simp

theorem run_copy_new (w : World) (m : Nat) (x : Value) (cs : List UInt8) (hx : Rd (w.alloc (.cells (bvs (List.replicate m 0)).toArray 5)) x cs) (hle : cs.length ≤ m) (h0 : 0 < cs.length) :
    (Builtin.copy_ #[22, 22] 3 #[.slice (some ⟨w.heap.size, 0, none⟩) m m, x]).run Try.prog (w.alloc (.cells (bvs (List.replicate m 0)).toArray 5)) = .ok (.int .i64 (cs.length : Int)) (w.alloc (.cells (bvs (cs ++ List.replicate (m - cs.length) 0)).toArray 5)) := by
  obtain ⟨ao, cap, rfl⟩ := hx.shape
  obtain ⟨b, o, rfl, -, h1, h2, h3⟩ := hx.lits h0
  have hn : Nat.min cs.length m = cs.length := Nat.min_eq_left hle
  have := run_copy_row (P := Try.prog) (w.alloc (.cells (bvs (List.replicate m 0)).toArray 5)) 22 22 3 5 w.heap.size 0 m m ⟨b, o, none⟩ cs.length cap (bvs (List.replicate m 0)).toArray 5 (bvs cs) Try.underlying22 (by kernel_rfl) (heap_alloc_new w _) (by rw [bvs_length, hn])
    (fun j v hv => by
      have hj : j < cs.length := by
        have := (List.getElem?_eq_some_iff.1 hv).1
        rwa [bvs_length] at this
      rw [Addr.add_lit, h3 j hj]
      rw [bvs_get cs j hj] at hv
      exact hv) (by rw [bvs_length, List.size_toArray, bvs_length, List.length_replicate]; omega) (bvs_one _)
  have e0 : (bvs (List.replicate m 0)).drop cs.length = bvs (List.replicate (m - cs.length) 0) := by unfold bvs; rw [← List.map_drop, List.drop_replicate]
  have e1 := cut_front (bvs (List.replicate m 0)) (bvs cs)
  generalize bvs (List.replicate m 0) = A at *
  rw [this, World.setRow_alloc_new, e1, bvs_length, e0, bvs_append]
  rfl

/-- A row of a matrix, with more behind it. -/
def brow (l : List UInt8) (cols further : Nat) (more : Nat → Nat → UInt8) (r : Nat) : List UInt8 := (l.drop (r * cols)).take cols ++ (List.range further).map (more r)
def bsd (l : List UInt8) (cols further : Nat) (more : Nat → Nat → UInt8) (k : Nat) : List (List UInt8) := (List.range k).map (brow l cols further more)

theorem src_length {l : List UInt8} {rows cols r : Nat} (hl : l.length = rows * cols) (hr : r < rows) : ((l.drop (r * cols)).take cols).length = cols := by
  have : (r + 1) * cols ≤ rows * cols := Nat.mul_le_mul_right _ hr
  rw [Nat.succ_mul] at this
  simp; omega

theorem brow_length {l : List UInt8} {rows cols further r : Nat} {more : Nat → Nat → UInt8} (hl : l.length = rows * cols) (hr : r < rows) : (brow l cols further more r).length = cols + further := by
  unfold brow
  rw [List.length_append, src_length hl hr]; simp

/-- The state: k rows are laid. -/
structure PB (w0 w : World) (rows cols m : Nat) (v : Value) (bs : List Nat) (ls : List (List UInt8)) (k : Nat) : Prop where
  heap : w.heap[w0.heap.size + 1]? = some (.cells (lvs bs m ++ List.replicate (rows - k) (Value.slice none 0 0)).toArray 22 (0, 0))
  box : w.heap[w0.heap.size]? = some (.cells #[.int .i64 (rows : Int), .int .i64 (cols : Int), v] 24 (0, 0))
  bk : bs.length = k
  len : ls.length = k
  row : ∀ i (h : i < bs.length), BAt w (bs[i]) (ls[i]'(by omega))
  nd : bs.Nodup
  new : ∀ b ∈ bs, w0.heap.size + 1 < b
  fr : Fr (fun _ => False) w0 w

theorem PB.kept {w0 w w' : World} {rows cols m k : Nat} {v : Value} {bs : List Nat} {ls : List (List UInt8)} (h : PB w0 w rows cols m v bs ls k) (f : Fr (fun _ => False) w w') : PB w0 w' rows cols m v bs ls k :=
  ⟨by rw [f.block _ (lt_of_heap h.heap) id]; exact h.heap, by rw [f.block _ (lt_of_heap h.box) id]; exact h.box, h.bk, h.len, fun i hi => (h.row i hi).kept f id, h.nd, h.new, h.fr.trans f (fun _ _ h => h)⟩

/-- A row that lies in new memory is put into the list. -/
theorem PB.put {w0 w w' : World} {rows cols m k : Nat} {v : Value} {bs : List Nat} {ls : List (List UInt8)} (h : PB w0 w rows cols m v bs ls k) (hk : k < rows) (b : Nat) (l : List UInt8) (hb : w.heap.size ≤ b) (hB : BAt w' b l) (f : Fr (fun _ => False) w w') :
    PB w0 (w'.setCell ⟨w0.heap.size + 1, k, none⟩ (.slice (some ⟨b, 0, none⟩) m m)) rows cols m v (bs ++ [b]) (ls ++ [l]) (k + 1) := by
  have hbk := h.bk
  have hlen := h.len
  have hg := lt_of_heap h.heap
  have h' := h.kept f
  have hlt : ∀ x ∈ bs, x < w.heap.size := by
    intro x hx
    obtain ⟨i, hi, rfl⟩ := List.getElem_of_mem hx
    exact lt_of_heap (h.row i hi)
  have f2 : Fr (fun k => k = w0.heap.size + 1) w' (w'.setCell ⟨w0.heap.size + 1, k, none⟩ (.slice (some ⟨b, 0, none⟩) m m)) := (Fr.refl (fun k => k = w0.heap.size + 1) w').setCell (p := ⟨w0.heap.size + 1, k, none⟩) (fun _ => rfl) _
  refine ⟨?_, ?_, by simp [hbk], by simp [hlen], ?_, ?_, ?_, h'.fr.trans f2 (fun i hi h => by omega)⟩
  · have e := heap_setCell_same w' (w0.heap.size + 1) k _ 22 (.slice (some ⟨b, 0, none⟩) m m) h'.heap
    rw [List.setIfInBounds_toArray, List.set_append_right _ _ (by simp [lvs, hbk]), show (lvs bs m).length = k by simp [lvs, hbk], Nat.sub_self, show rows - k = (rows - (k + 1)) + 1 by omega, List.replicate_succ, List.set_cons_zero] at e
    rw [e]
    simp [lvs]
  · rw [f2.block _ (lt_of_heap h'.box) (by omega)]; exact h'.box
  · intro i hi
    have hi' : i < k + 1 := by simpa [hbk] using hi
    by_cases e : i < k
    · rw [List.getElem_append_left (by omega), List.getElem_append_left (by omega)]
      exact (h'.row i (by omega)).kept f2 (fun e2 => absurd (h.new _ (List.getElem_mem (show i < bs.length by omega))) (by omega))
    · have : i = k := by omega
      subst this
      have e1 : (bs ++ [b])[i]'hi = b := List.getElem_concat_length (by omega) hi
      have e2 : (ls ++ [l])[i]'(by simp; omega) = l := List.getElem_concat_length (by omega) _
      rw [e1, e2]
      exact BAt.kept (S := fun k => k = w0.heap.size + 1) hB f2 (show ¬ b = w0.heap.size + 1 by omega)
  · rw [List.nodup_append]
    refine ⟨h.nd, by simp, ?_⟩
    intro x hx y hy
    simp at hy
    subst hy
    have := hlt x hx
    omega
  · intro x hx
    rcases List.mem_append.1 hx with hx | hx
    · exact h.new x hx
    · simp at hx; subst hx; omega

theorem bsd_succ (l : List UInt8) (cols further : Nat) (more : Nat → Nat → UInt8) (k : Nat) : bsd l cols further more (k + 1) = bsd l cols further more k ++ [brow l cols further more k] := by
  simp [bsd, List.range_succ]

/-- A row under way: c of the further cells are laid. -/
def brK (l : List UInt8) (cols further : Nat) (more : Nat → Nat → UInt8) (r c : Nat) : List UInt8 := (l.drop (r * cols)).take cols ++ ((List.range c).map (more r) ++ List.replicate (further - c) 0)

theorem brK_length {l : List UInt8} {rows cols further r c : Nat} {more : Nat → Nat → UInt8} (hl : l.length = rows * cols) (hr : r < rows) (hc : c ≤ further) : (brK l cols further more r c).length = cols + further := by
  unfold brK
  rw [List.length_append, src_length hl hr]; simp; omega

theorem brK_step {l : List UInt8} {rows cols further r c : Nat} {more : Nat → Nat → UInt8} (hl : l.length = rows * cols) (hr : r < rows) (hc : c < further) : (brK l cols further more r c).set (cols + c) (more r c) = brK l cols further more r (c + 1) := by
  unfold brK
  rw [List.set_append_right _ _ (by rw [src_length hl hr]; omega), src_length hl hr, Nat.add_sub_cancel_left, List.set_append_right _ _ (by simp)]
  simp only [List.length_map, List.length_range, Nat.sub_self]
  rw [show further - c = (further - (c + 1)) + 1 by omega, List.replicate_succ, List.set_cons_zero]
  simp [List.range_succ]

theorem brK_end (l : List UInt8) (cols further : Nat) (more : Nat → Nat → UInt8) (r : Nat) : brK l cols further more r further = brow l cols further more r := by simp [brK, brow]

set_option maxHeartbeats 2000000 in
set_option maxRecDepth 100000 in
theorem beside_any (w : World) (rows cols further : Nat) (v : Value) (l : List UInt8) (K : Nat) (caps : Array Value) (fv : Value) (more : Nat → Nat → UInt8) (hv : Rd w v l) (hl : l.length = rows * cols) (h1 : 1 ≤ rows ∧ rows ≤ 64) (h2 : 1 ≤ cols ∧ cols ≤ 64) (h3 : further ≤ 64)
    (hfv : further = 0 ∨ fv = .func (.func K) #[] caps)
    (hcf : ∀ args W, Sem.run Try.prog (callFunc K args) W = .ok (.enter K args) W)
    (hcl : ∀ W, Fr (fun _ => False) w W → ∀ r c : Nat, r < rows → c < further → Calls Try.prog K (#[.int .i64 (r : Int), .int .i64 (c : Int)] ++ caps) W fun e W' => e = .returned (.int .u8 (((more r c).toNat : Nat) : Int)) ∧ Fr (fun _ => False) W W') :
    Calls Try.prog 74 #[.agg #[.int .i64 (rows : Int), .int .i64 (cols : Int), v], .int .i64 (further : Int), fv] w fun e w' =>
      e = .returned (.slice (some ⟨w.heap.size + 1, 0, none⟩) rows rows) ∧ (∃ bs, bs.length = rows ∧ (∀ b ∈ bs, w.heap.size + 1 < b) ∧ Ls w' (w.heap.size + 1) bs (cols + further) (bsd l cols further more rows)) ∧ Fr (fun _ => False) w w' := by
  obtain ⟨mm, hmm⟩ : ∃ mm, cols + further = mm := ⟨_, rfl⟩
  have eM : (cols : Int) + (further : Int) = (mm : Int) := by omega
  have hm1 : mm ≤ 128 := by omega
  rw [hmm]
  have HMM := hide hmm
  clear hmm
  obtain ⟨ao, cap, rfl⟩ := hv.shape
  have hpos : 0 < l.length := by rw [hl]; exact Nat.mul_pos h1.1 h2.1
  obtain ⟨vb, vo, rfl, -, hcap, hcm, hcell⟩ := hv.lits hpos
  have hlen : l.length ≤ 4096 := by rw [hl]; exact Nat.mul_le_mul h1.2 h2.2
  unfold maxLen at hcm
  have hmk := run_make43 rows (by omega)
  have HV := hide hv
  have HL := hide hl
  have HCL := hide hcl
  have HCF := hide hcf
  have HFV := hide hfv
  clear hv hl hcl hcf hfv hcell hpos
  go_enter Try.func74, Try.ntmps74
  go_wp2_with fail
  clear hmk
  go_loopw [16] (fun i w' => ∃ r : Nat, r ≤ rows ∧ i = .int .i64 (r : Int) ∧ ∃ bs, PB w w' rows cols mm (.slice (some ⟨vb, vo, none⟩) l.length cap) bs (bsd l cols further more r) r) (fun i _ => rows - (intOf i).toNat)
  case atStart =>
    refine ⟨0, by omega, rfl, [], ?_, ?_, rfl, rfl, fun i hi => by simp at hi, List.nodup_nil, fun b hb => by simp at hb, ((Fr.refl _ _).alloc _).alloc _⟩
    · have := heap_alloc_new (w.alloc (Obj.cells #[Value.int IntKind.i64 (rows : Int), Value.int IntKind.i64 (cols : Int), Value.slice (some ⟨vb, vo, none⟩) l.length cap] 24)) (Obj.cells (List.replicate rows (Value.slice none 0 0)).toArray 22)
      simpa [lvs] using this
    · rw [Below.heap_alloc _ _ _ (by simp)]
      exact heap_alloc_new w _
  case round =>
    obtain ⟨r, hr, rfl, bs, hP⟩ := hrel
    have c0 := cell_of_heap hP.box 0
    have c1 := cell_of_heap hP.box 1
    have c2 := cell_of_heap hP.box 2
    simp at c0 c1 c2
    have hlw := lt_of_heap hP.box
    have hlw2 := lt_of_heap hP.heap
    by_cases hlt : r < rows
    · obtain ⟨lo, hlo⟩ : ∃ lo, lo = r * cols := ⟨_, rfl⟩
      have hle : lo + cols ≤ l.length := by
        have : (r + 1) * cols ≤ rows * cols := Nat.mul_le_mul_right _ hlt
        rw [Nat.succ_mul] at this
        rw [unhide HL]; omega
      have e1 : (r : Int) * (cols : Int) = (lo : Int) := by rw [hlo]; simp
      have e2 : ((r : Int) + 1) * (cols : Int) = (lo : Int) + (cols : Int) := by rw [Int.add_mul, e1]; simp
      have hmk5 := run_make5 mm (by omega)
      have hsl : ((l.drop lo).take cols).length = cols := by rw [hlo]; exact src_length (unhide HL) hlt
      have hrd : Rd (wr.alloc (.cells (bvs (List.replicate mm 0)).toArray 5)) (.slice (some ⟨vb, vo + lo, none⟩) cols (cap - lo)) ((l.drop lo).take cols) := by
        have hv2 := (unhide HV).kept (hP.fr.alloc (.cells (bvs (List.replicate mm 0)).toArray 5)) (fun _ _ h => h)
        obtain ⟨vb', vo', hh, -, -, -, hc⟩ := hv2.lits (by omega)
        simp at hh
        obtain ⟨rfl, rfl⟩ := hh
        refine Rd.lit hsl (by omega) (by unfold maxLen; omega) fun j hj => ?_
        rw [hsl] at hj
        have := hc (lo + j) (by omega)
        rw [Nat.add_assoc, this]
        simp
      have hcp := run_copy_new wr mm _ _ hrd (by have := unhide HMM; omega) (by omega)
      rw [hsl, show mm - cols = further by have := unhide HMM; omega] at hcp
      have HP := hide hP
      have HLO := hide hlo
      have b1 : lo ≤ lo + cols := by omega
      have b2 : lo + cols ≤ cap := by omega
      clear hP hlo hsl hrd
      go_wp2_with fail
      rw [show lo + cols - lo = cols from Nat.add_sub_cancel_left _ _]
      rename World => wq
      clear hmk5 hcp e1 e2 b1 b2
      go_loopw [39] (fun i w' => ∃ c : Nat, c ≤ further ∧ i = .int .i64 (c : Int) ∧ BAt w' wq.heap.size (brK l cols further more r c) ∧ Fr (fun _ => False) wq w') (fun i _ => further - (intOf i).toNat)
      case atStart =>
        refine ⟨0, by omega, rfl, ?_, (Fr.refl _ _).alloc _⟩
        have := heap_alloc_new wq (Obj.cells (bvs ((l.drop lo).take cols ++ List.replicate further 0)).toArray 5)
        simpa [BAt, brK, unhide HLO] using this
      case round =>
        obtain ⟨c, hc, rfl, hB, hf⟩ := hrel
        have hP2 := (unhide HP).kept hf
        by_cases hlt2 : c < further
        · have hfv : fv = .func (.func K) #[] caps := (unhide HFV).resolve_left (by omega)
          subst hfv
          have d1 := cell_of_heap hP2.box 1
          simp at d1
          have hcf := unhide HCF
          have HC := hide (fun W (q : Fr (fun _ => False) wr W) => unhide HCL W (hP2.fr.trans q (fun _ _ h => h)) r c hlt hlt2)
          obtain ⟨ij, hij⟩ : ∃ ij, cols + c = ij := ⟨_, rfl⟩
          have e1 : (cols : Int) + (c : Int) = (ij : Int) := by omega
          have hbl : ij < (brK l cols further more r c).length := by rw [brK_length (unhide HL) hlt hc]; omega
          have HB := hide hB
          have Hf := hide hf
          have HS := hide (brK_step (more := more) (unhide HL) hlt hlt2)
          rw [hij] at HS
          have cq : ∀ W, Fr (fun _ => False) wr W → W.cell? ⟨wq.heap.size, ij, none⟩ = some (.int .u8 ((((brK l cols further more r c)[ij]).toNat : Nat) : Int)) := fun W q => (hB.kept q id).cell _ hbl
          have fq : ∀ W, Fr (fun _ => False) wr W → W.frozen? ⟨wq.heap.size, ij, none⟩ = false := fun W q => (hB.kept q id).frozen _
          generalize (brK l cols further more r c)[ij] = old at cq
          have HBX := hide (show ∀ W, Fr (fun _ => False) wr W → W.cell? ⟨w.heap.size, 1, none⟩ = some (.int .i64 (cols : Int)) from fun W q => by
            have := cell_of_heap (hP2.kept q).box 1
            simpa using this)
          have HCQ := hide cq
          have HFQ := hide fq
          have b3 : ij < mm := by have := unhide HMM; omega
          have b4 : IntKind.i64.wrap (ij : Int) = (ij : Int) := by rw [IntKind.wrap_i64]; omega
          clear hB hf hP2 hbl cq fq c0 c1 c2 hij
          go_wp2_with fail
          go_region_with ((refine (unhide HC _ (by first | exact Fr.ofDrewN _ 1 | exact Fr.ofDrewN _ _)).mono ?_; rintro e w2 ⟨rfl, f2⟩; have q1 := unhide HCQ w2 ((Fr.ofDrewN _ 1).trans f2 (fun _ _ h => h)); have q2 := unhide HFQ w2 ((Fr.ofDrewN _ 1).trans f2 (fun _ _ h => h)); have q3 := unhide HBX w2 ((Fr.ofDrewN _ 1).trans f2 (fun _ _ h => h))))
          all_goals
            clear q1 q2 q3
            have F2 := hide ((Fr.ofDrewN (S := fun _ => False) wr 1).trans f2 (fun _ _ h => h))
            clear f2
            go_wp2_with fail
            go_roundw
            case rel =>
              refine ⟨c + 1, by omega, by go_num, ?_, ((unhide Hf).trans (unhide F2) (fun _ _ h => h)).setCell (fun h => absurd h (by simp)) _⟩
              rw [← unhide HS]
              exact ((unhide HB).kept (unhide F2) id).set _ _
            case measure => simp [intOf]; omega
        · have hce : c = further := by omega
          subst hce
          have hg2 := hP2.heap
          have z1 := frozen_of_heap hg2 r
          have g1 : wr.cell? ⟨w.heap.size + 1, r, none⟩ = some (.slice none 0 0) := by
            rw [cell_of_heap hg2]
            have := (unhide HP).bk
            simp [lvs, this, show 0 < rows - r by omega]
          rw [brK_end] at hB
          have HB := hide hB
          have Hf := hide hf
          clear hP2 hB hf hg2 c0 c1 c2
          go_wp2_with fail
          go_roundw
          case rel =>
            refine ⟨r + 1, by omega, by go_num, bs ++ [wq.heap.size], ?_⟩
            rw [bsd_succ]
            exact (unhide HP).put hlt _ _ (Nat.le_refl _) (unhide HB) (unhide Hf)
          case measure => simp [intOf]; omega
    · have hre : r = rows := by omega
      subst hre
      have HP := hide hP
      clear hP c0 c1 c2
      go_wp2_with fail
      go_ret
      have hP := unhide HP
      refine ⟨rfl, ⟨bs, hP.bk, hP.new, ?_⟩, hP.fr⟩
      refine ⟨?_, by rw [hP.len, hP.bk], ?_, hP.row, hP.nd, fun h => absurd (hP.new _ h) (by omega)⟩
      · have := hP.heap
        simpa using this
      · intro x hx
        simp only [bsd, List.mem_map, List.mem_range] at hx
        obtain ⟨i, hi, rfl⟩ := hx
        rw [← unhide HMM]
        exact brow_length (unhide HL) hi
end Go.Proofs.Ytckmddkhkdcmmaa
