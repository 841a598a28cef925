/-
  The walk of package disk's Crash.
-/
import Derived.Test.YtdhendcogjhgfaaD12
import Derived.Deep.OwnRows
namespace Go.Proofs.Ytdhendcogjhgfaa
open Go.RowKit
set_option linter.unusedVariables false

attribute [local go_sem ↓] Go.wp_at_zero Go.wp_at_succ

theorem Try.info4 : (Try.prog.info? 4).map (fun i => (i.zero, i.size, i.bytes)) = some (some (.bool false), 1, 1) := by kernel_rfl

/-- Which of n the first j numbers name. -/
def kpI (K : List Int) (n j : Nat) : List Bool := (List.range n).map fun (i : Nat) => (K.take j).any (fun x => x == (i : Int))
theorem kpI_length (K : List Int) (n j : Nat) : (kpI K n j).length = n := by simp [kpI]
theorem kpI_zero (K : List Int) (n : Nat) : kpI K n 0 = List.replicate n false := by
  apply List.ext_getElem
  · simp [kpI]
  · intro i h1 h2; simp [kpI]
theorem kpI_in (K : List Int) (n j x : Nat) (hj : j < K.length) (hx : K[j] = (x : Int)) : kpI K n (j + 1) = (kpI K n j).set x true := by
  apply List.ext_getElem
  · simp [kpI]
  · intro i h1 h2
    rw [List.getElem_set]
    simp only [kpI, List.getElem_map, List.getElem_range]
    rw [List.take_succ_eq_append_getElem hj, List.any_append, hx]
    by_cases e : x = i
    · rw [if_pos e, e]; simp
    · rw [if_neg e]
      have : ((x : Int) == (i : Int)) = false := by simp; omega
      simp [this]
theorem kpI_out (K : List Int) (n j : Nat) (hj : j < K.length) (hx : ¬ (0 ≤ K[j] ∧ K[j] < (n : Int))) : kpI K n (j + 1) = kpI K n j := by
  apply List.ext_getElem
  · simp [kpI]
  · intro i h1 h2
    have hi : i < n := by simpa [kpI] using h1
    simp only [kpI, List.getElem_map, List.getElem_range]
    rw [List.take_succ_eq_append_getElem hj, List.any_append]
    have : (K[j] == (i : Int)) = false := by simp; omega
    simp [this]

/-- Truths in a block. -/
def GAt (w : World) (g : Nat) (l : List Bool) : Prop := w.heap[g]? = some (.cells (l.map Value.bool).toArray 4 (0, 0))
theorem GAt.kept {S : Nat → Prop} {w w' : World} {g : Nat} {l : List Bool} (h : GAt w g l) (f : Fr S w w') (hs : ¬ S g) : GAt w' g l := by
  unfold GAt; rw [f.block g (lt_of_heap h) hs]; exact h
theorem GAt.cell {w : World} {g : Nat} {l : List Bool} (h : GAt w g l) (j : Nat) (hj : j < l.length) : w.cell? ⟨g, j, none⟩ = some (.bool l[j]) := by
  rw [cell_of_heap h]; simp [hj]
theorem GAt.set {w : World} {g : Nat} {l : List Bool} (h : GAt w g l) (j : Nat) (b : Bool) : GAt (w.setCell ⟨g, j, none⟩ (.bool b)) g (l.set j b) := by
  unfold GAt
  rw [heap_setCell_same w g j _ 4 _ h, List.setIfInBounds_toArray, List.map_set]

theorem made_bools (n : Nat) : madeCells (Value.bool false).cells (n * 1) = ((List.replicate n false).map Value.bool).toArray := by
  apply Array.ext
  · simp [size_madeCells]
  · intro i h1 h2
    simp [madeCells, Value.cells, Nat.mod_one]

theorem run_makeb (n : Nat) (hn : n ≤ 100000) (w : World) : (Instr.makeSlice 99 (.int .i64 (n : Int)) (.int .i64 (n : Int))).run Try.prog w = .ok (.slice (some ⟨w.heap.size, 0, none⟩) n n) (w.alloc (.cells ((List.replicate n false).map Value.bool).toArray 4)) := by
  obtain ⟨i, hi, hz0, hz1, hz2⟩ := info_parts Try.info4
  have := run_make (P := Try.prog) w 99 4 i _ Try.underlying99 hi hz0 .i64 .i64 (n : Int) (n : Int) (by omega) (Int.le_refl _) (by rw [hz2]; omega) (by omega)
  rw [this, hz1, Int.toNat_natCast, made_bools]

theorem mkb_any (w : World) (n : Nat) (hn : n ≤ 100000) : ∃ w1, (Instr.makeSlice 99 (.int .i64 (n : Int)) (.int .i64 (n : Int))).run Try.prog w = .ok (.slice (some ⟨w.heap.size, 0, none⟩) n n) w1 ∧ GAt w1 w.heap.size (List.replicate n false) ∧ Fr (fun _ => False) w w1 :=
  ⟨_, run_makeb n hn w, heap_alloc_new w _, (Fr.refl _ _).alloc _⟩

/-- The first i writes, of which those that are kept become stable. -/
def crI (d : Dk) (K : List Bool) : Nat → Dk
  | 0 => d
  | i + 1 => if K.getD i false = true then seW (crI d K i) (d.Q.getD i (0, [])) else crI d K i

theorem crI_all (d : Dk) (K : List Bool) (i : Nat) : (crI d K i).Q = d.Q ∧ (crI d K i).n ≤ d.n + i := by
  induction i with
  | zero => exact ⟨rfl, Nat.le_refl _⟩
  | succ i ih =>
    unfold crI
    split
    · exact ⟨ih.1, by show (crI d K i).n + 1 ≤ _; omega⟩
    · exact ⟨ih.1, by omega⟩

/-- What Crash leaves. -/
def crD (d : Dk) (K : List Int) : Dk := emD (crI d (kpI K d.Q.length K.length) d.Q.length)

section
variable (w : World) (p gs : Nat) (qv : Value) (d : Dk)

set_option maxHeartbeats 2000000 in
set_option maxRecDepth 100000 in
theorem crash_any (kv : Value) (K : List Int) (hn : d.n + d.Q.length < 1000000000) (h : KAt w p gs qv d) (hk : RdV w kv (K.map (Value.int .i64))) : Calls Try.prog 23 #[.pointer (some ⟨p, 0, none⟩), kv] w fun e w' => e = .returned (.tuple #[]) ∧ KSt w w' p gs qv (crD d K) := by
  have c2 := cell_of_heap h.heap 2
  simp at c2
  have hplt := lt_of_heap h.heap
  have hglt := lt_of_heap h.secs
  have hroom := h.ok.room
  have H := hide h
  have HK := hide hk
  obtain ⟨qo, qc, rfl⟩ := owns_shape h.queue
  obtain ⟨ko, kc, rfl⟩ := hk.shape
  rw [List.length_map] at HK ⊢
  have hqlt : ∀ b, (Value.slice qo d.Q.length qc).ownBlock = some b → b < w.heap.size := by
    intro b hb
    rcases h.queue.2 with ⟨hv, -⟩ | ⟨g, cap, cur, hv, -, h1, -⟩
    · rw [hv] at hb; simp [Value.ownBlock] at hb
    · rw [hv] at hb; simp [Value.ownBlock] at hb; subst hb; exact lt_of_heap h1
  obtain ⟨w1, hmk, hG1, hf1⟩ := mkb_any w d.Q.length (by omega)
  have HG1 := hide hG1
  have HF1 := hide hf1
  have hKl : K.length ≤ maxLen := by have := hk.len; rwa [List.length_map] at this
  unfold maxLen at hKl
  clear h hk hG1 hf1
  go_enter Try.func23, Try.ntmps23
  go_wp2_with fail
  clear hmk
  go_loopw [18] (fun y w' => ∃ j : Nat, j ≤ K.length ∧ y = .int .i64 (j : Int) ∧ GAt w' w.heap.size (kpI K d.Q.length j) ∧ Fr (fun _ => False) w w') (fun y _ => K.length - (intOf y).toNat)
  case atStart => exact ⟨0, by omega, rfl, by rw [kpI_zero]; exact unhide HG1, unhide HF1⟩
  case round =>
    clear HG1 HF1
    obtain ⟨j, hj, rfl, hG, hf⟩ := hrel
    by_cases hlt : j < K.length
    · obtain ⟨kb, kof, rfl, -, -, -, hck⟩ := ((unhide HK).kept hf (fun _ _ h => h)).lits (by rw [List.length_map]; omega)
      have y1 := hck j (by rw [List.length_map]; exact hlt)
      rw [List.getElem_map] at y1
      have HG := hide hG
      have Hf := hide hf
      by_cases hin : 0 ≤ K[j] ∧ K[j] < (d.Q.length : Int)
      · obtain ⟨x, hx⟩ : ∃ x : Nat, K[j] = (x : Int) := ⟨(K[j]).toNat, by omega⟩
        have hxl : x < d.Q.length := by omega
        have HE := hide (kpI_in K d.Q.length j x hlt hx)
        rw [hx] at y1
        have yb := hG.cell x (by rw [kpI_length]; exact hxl)
        have zb := frozen_of_heap hG x
        generalize (kpI K d.Q.length j)[x]'(by rw [kpI_length]; exact hxl) = ob at yb
        clear hG hf hck hin hx
        go_wp2_with fail
        go_roundw
        case rel => exact ⟨j + 1, by omega, by go_num, by rw [unhide HE]; exact (unhide HG).set x true, (unhide Hf).setCell (fun h => absurd h (by simp)) _⟩
        case measure => simp [intOf]; omega
      · have HE := hide (kpI_out K d.Q.length j hlt hin)
        generalize K[j] = x at *
        clear hG hf hck
        by_cases h0 : 0 ≤ x
        · have b1 : decide (0 ≤ x) = true := by simpa using h0
          have b2 : decide (x < (d.Q.length : Int)) = false := by simp; omega
          clear hin
          go_wp2_with fail
          go_roundw
          case rel => exact ⟨j + 1, by omega, by go_num, by rw [unhide HE]; exact unhide HG, unhide Hf⟩
          case measure => simp [intOf]; omega
        · have b1 : decide (0 ≤ x) = false := by simpa using h0
          clear hin
          go_wp2_with fail
          go_roundw
          case rel => exact ⟨j + 1, by omega, by go_num, by rw [unhide HE]; exact unhide HG, unhide Hf⟩
          case measure => simp [intOf]; omega
    · have hje : j = K.length := by omega
      subst hje
      have HG := hide hG
      have Hf := hide hf
      have r2 : wr.cell? ⟨p, 2, none⟩ = some (.slice qo d.Q.length qc) := by rw [hf.cell (a := ⟨p, 2, none⟩) hplt id]; exact c2
      have HKr := hide ((unhide H).kept hf id id (fun _ _ h => h))
      have hsr := lt_of_heap hG
      clear hG hf
      generalize hkk : kpI K d.Q.length K.length = kk at *
      have hkl : kk.length = d.Q.length := by rw [← hkk, kpI_length]
      have HKL := hide hkl
      have HKK := hide hkk
      clear hkl hkk
      go_wp2_with fail
      go_loopw [39] (fun y w' => ∃ i : Nat, i ≤ d.Q.length ∧ y = .int .i64 (i : Int) ∧ KAt w' p gs (.slice qo d.Q.length qc) (crI d kk i) ∧ GAt w' w.heap.size kk ∧ Fr (fun k => k = p ∨ k = gs) w w') (fun y _ => d.Q.length - (intOf y).toNat)
      case atStart => exact ⟨0, by omega, rfl, unhide HKr, unhide HG, (unhide Hf).mono (fun _ _ h => h.elim)⟩
      case round =>
        clear HG Hf HKr r2
        obtain ⟨i, hi, rfl, hK, hG, hf⟩ := hrel
        have r2 := cell_of_heap hK.heap 2
        have z2 := frozen_of_heap hK.heap 2
        simp at r2
        by_cases hlt2 : i < d.Q.length
        · have yb := hG.cell i (by rw [unhide HKL]; exact hlt2)
          have hgd : kk.getD i false = kk[i]'(by rw [unhide HKL]; exact hlt2) := by
            have : i < kk.length := by rw [unhide HKL]; exact hlt2
            simp [List.getD, this]
          have hst : crI d kk (i + 1) = if kk[i]'(by rw [unhide HKL]; exact hlt2) = true then seW (crI d kk i) (d.Q.getD i (0, [])) else crI d kk i := by
            show (if kk.getD i false = true then seW (crI d kk i) (d.Q.getD i (0, [])) else crI d kk i) = _
            rw [hgd]
          generalize kk[i]'(by rw [unhide HKL]; exact hlt2) = kb at *
          rcases kb with _ | _
          · have HE := hide (show crI d kk (i + 1) = crI d kk i by rw [hst]; simp)
            have HK2 := hide hK
            have HG2 := hide hG
            have Hf := hide hf
            clear hK hG hf hst hgd
            go_wp2_with fail
            go_roundw
            case rel => exact ⟨i + 1, by omega, by go_num, by rw [unhide HE]; exact unhide HK2, unhide HG2, unhide Hf⟩
            case measure => simp [intOf]; omega
          · obtain ⟨hq, hnn⟩ := crI_all d kk i
            have hi' : i < (crI d kk i).Q.length := by rw [hq]; exact hlt2
            obtain ⟨g, cap, hv, hcp, -, -, -⟩ := hK.wbytes i hi'
            rw [hq] at hv hcp
            simp only [Value.slice.injEq] at hv
            obtain ⟨rfl, -, rfl⟩ := hv
            have HS := hide (settle_any wr p gs (crI d kk i) i hi' g qc (by omega) (by rw [hq]; exact hK))
            have e1 : seW (crI d kk i) ((crI d kk i).Q[i]) = crI d kk (i + 1) := by
              rw [hst, if_pos rfl]
              have e2 : d.Q.getD i (0, []) = d.Q[i] := by simp [List.getD, hlt2]
              rw [e2]
              congr 1
              simp only [hq]
            rw [e1, hq] at HS
            have HG2 := hide hG
            have Hf := hide hf
            have hic : i < qc := by omega
            clear hK hG hf hst hgd hq hnn hi' e1 hcp z2
            go_wp2_with fail
            refine (unhide HS).mono ?_
            rintro e w2 ⟨rfl, hK2, f2⟩
            have HK2 := hide hK2
            have HF2 := hide ((unhide Hf).trans f2 (fun _ _ h => h))
            have HG3 := hide ((unhide HG2).kept f2 (by omega))
            clear hK2 f2
            go_wp2_with fail
            go_roundw
            case rel => exact ⟨i + 1, by omega, by go_num, unhide HK2, unhide HG3, unhide HF2⟩
            case measure => simp [intOf]; omega
        · have hie : i = d.Q.length := by omega
          subst hie
          have HE := hide hK.empty
          have Hf := hide hf
          clear hK hG hf
          go_wp2_with fail
          go_end0
          refine ⟨rfl, ⟨⟨.slice none 0 0, ?_, fun b hb => by simp [Value.ownBlock] at hb⟩, ((unhide Hf).mono (fun _ _ e => by rcases e with e | e; exact .inl e; exact .inr (.inl e))).trans (unhide HE).2 (fun _ _ e => .inl e)⟩⟩
          unfold crD
          rw [unhide HKK]
          exact (unhide HE).1
end

end Go.Proofs.Ytdhendcogjhgfaa
