/-
  The walks of package rs: solve.
-/
import Derived.Test.YtckmddkhkdcmmaaRs7
namespace Go.Proofs.Ytckmddkhkdcmmaa
open Go.RowKit
set_option linter.unusedVariables false

attribute [local go_sem ↓] Go.wp_at_zero Go.wp_at_succ

/-- The data shards, out of those at hand. -/
def solL (k : Nat) (which : List Nat) (held : List (List UInt8)) (n : Nat) : List (List UInt8) := (List.range k).map (fun j => mixL (fun c => mc (invL k (cw k which)) k j c) held k n)
theorem solL_length (k : Nat) (which : List Nat) (held : List (List UInt8)) (n : Nat) : (solL k which held n).length = k := by simp [solL]
theorem solL_take (k : Nat) (which : List Nat) (held : List (List UInt8)) (n i : Nat) (hi : i < k) : (solL k which held n).take (i + 1) = (solL k which held n).take i ++ [mixL (fun c => mc (invL k (cw k which)) k i c) held k n] := by
  rw [List.take_succ_eq_append_getElem (by rw [solL_length]; exact hi)]
  simp [solL]

theorem rd_part {w : World} {b o n cap : Nat} {l : List UInt8} (h : Rd w (.slice (some ⟨b, o, none⟩) n cap) l) (a k : Nat) (hk : 0 < k) (hle : a + k ≤ l.length) : Rd w (.slice (some ⟨b, o + a, none⟩) k k) ((l.drop a).take k) := by
  obtain ⟨b', o', e, -, h1, h2, h3⟩ := h.lits (by omega)
  simp only [Option.some.injEq, Addr.mk.injEq] at e
  obtain ⟨rfl, rfl, -⟩ := e
  have hlen : ((l.drop a).take k).length = k := by simp; omega
  refine Rd.lit hlen (Nat.le_refl _) (by have := h.len; omega) fun j hj => ?_
  rw [hlen] at hj
  have := h3 (a + j) (by omega)
  rw [Nat.add_assoc, this]
  simp

set_option maxHeartbeats 4000000 in
set_option maxRecDepth 100000 in
theorem solve_any (w : World) (p k m n : Nat) (hv wv : Value) (held : List (List UInt8)) (which : List Nat) (hC : CAt w p k m) (hH : RdL w hv held) (hR : RdV w wv (ints which)) (hlen : which.length = k) (hb : ∀ i ∈ which, i < k + m) (hnd : which.Nodup) (hhl : held.length = k) (hw : ∀ l ∈ held, l.length = n) (hn : n ≤ 4096) :
    Calls Try.prog 99 #[.pointer (some ⟨p, 0, none⟩), hv, wv, .int .i64 (n : Int)] w fun e w' => (∃ g, e = .returned (.tuple #[.slice (some ⟨g, 0, none⟩) k k, .int .i64 0]) ∧ LN w.heap.size w' (.slice (some ⟨g, 0, none⟩) k k) (solL k which held n)) ∧ Fr (fun _ => False) w w' := by
  have hk := hC.hk
  have hm := hC.hm
  obtain ⟨q, h1, -⟩ := hC.ex
  have hplt := lt_of_heap h1
  have c0 := cell_of_heap h1 0
  simp at c0
  have HRW := hide (rows_any w p k m wv which hC hR hlen hb)
  obtain ⟨wo, wc, rfl⟩ := hR.shape
  obtain ⟨ho, hc', rfl⟩ := hH.shape
  have hfull := cw_full (show k + m ≤ 256 by omega) which hlen hnd hb
  have hcwl := cw_length k which
  have hil := invL_length k (cw k which)
  have HH := hide hH
  have HW := hide hw
  have HHL := hide hhl
  have HFU := hide hfull
  have HCL := hide hcwl
  have HIL := hide hil
  clear hC h1 hR hH hw hhl hfull hcwl hil hb hnd hlen
  obtain ⟨nw, hnw⟩ : ∃ nw, nw = (ints which).length := ⟨_, rfl⟩
  obtain ⟨nh, hnh⟩ : ∃ nh, nh = held.length := ⟨_, rfl⟩
  rw [← hnw] at HRW ⊢
  rw [← hnh] at HH ⊢
  clear hnw hnh
  go_enter Try.func99, Try.ntmps99
  go_wp2_with fail
  refine (unhide HRW).mono ?_
  rintro e w1 ⟨⟨q1, rfl, hB1⟩, f1⟩
  have hr1 := hB1.rd (by rw [unhide HCL]; simp only [maxLen]; have := Nat.mul_le_mul hk.2 hk.2; omega)
  rw [unhide HCL] at hr1
  have HI := hide (inverse_sq w1 k _ _ hr1 (unhide HCL) (by omega))
  rw [unhide HFU] at HI
  simp only [Nat.lt_irrefl, if_false] at HI
  have HF1 := hide f1
  clear hB1 f1 hr1
  go_wp2_with fail
  refine (unhide HI).mono ?_
  rintro e w2 ⟨⟨val, rfl, ⟨iv', rfl, hRi⟩, -⟩, f2⟩
  have hil := unhide HIL
  obtain ⟨io, ic, rfl⟩ := hRi.shape
  obtain ⟨ib, io', rfl, -, hicap, hicm, -⟩ := hRi.lits (by rw [hil]; exact Nat.mul_pos hk.1 hk.1)
  rw [hil] at hRi hicap ⊢
  have F2 := (unhide HF1).trans f2 (fun _ _ h => h)
  have hmk : ∀ W, (Instr.makeSlice 65 (.int .i64 (k : Int)) (.int .i64 (k : Int))).run Try.prog W = .ok (.slice (some ⟨W.heap.size, 0, none⟩) k k) (W.alloc (.cells (List.replicate k (Value.slice none 0 0)).toArray 22)) := run_make43 k (by omega)
  have c0' : w2.cell? ⟨p, 0, none⟩ = some (.int .i64 (k : Int)) := by rw [F2.cell (a := ⟨p, 0, none⟩) hplt id]; exact c0
  have hplt2 : p < w2.heap.size := Nat.lt_of_lt_of_le hplt F2.size
  have HRI := hide hRi
  have HF2 := hide F2
  clear hRi f2 F2 hil
  go_wp2_with fail
  clear hmk
  go_loopw [31] (fun x w' => ∃ i : Nat, i ≤ k ∧ x = .int .i64 (i : Int) ∧ (∃ vs, vs.length = i ∧ PL w.heap.size w' (w2.heap.size + 1) k vs ((solL k which held n).take i)) ∧ w'.heap[w2.heap.size]? = some (.cells #[.int .i64 (k : Int), .int .i64 (k : Int), .slice (some ⟨ib, io', none⟩) (k * k) ic] 24 (0, 0)) ∧ Fr (fun _ => False) w2 w') (fun x _ => k - (intOf x).toNat)
  case atStart =>
    refine ⟨0, by omega, rfl, ⟨[], rfl, ⟨?_, Nat.zero_le _, rfl, fun i x l hx hl => by simp at hx⟩⟩, ?_, ((Fr.refl _ _).alloc _).alloc _⟩
    · have := heap_alloc_new (w2.alloc (Obj.cells #[.int .i64 (k : Int), .int .i64 (k : Int), .slice (some ⟨ib, io', none⟩) (k * k) ic] 24)) (Obj.cells (List.replicate k (Value.slice none 0 0)).toArray 22)
      simpa using this
    · rw [Below.heap_alloc _ _ _ (by simp)]
      exact heap_alloc_new w2 _
  case round =>
    obtain ⟨i, hi, rfl, ⟨vs, hvs, hP⟩, hX, hf⟩ := hrel
    by_cases hlt : i < k
    · have hle : (i + 1) * k ≤ k * k := Nat.mul_le_mul_right _ hlt
      have hkk : k * k ≤ 16 * 16 := Nat.mul_le_mul hk.2 hk.2
      have x2 := cell_of_heap hX 2
      simp at x2
      have c0r : wr.cell? ⟨p, 0, none⟩ = some (.int .i64 (k : Int)) := by rw [hf.cell (a := ⟨p, 0, none⟩) hplt2 id]; exact c0'
      have hle2 : i * k + k ≤ k * k := by rw [Nat.succ_mul] at hle; exact hle
      have HRO := hide (fun W => rowOf_any W ib io' i k (k * k) ic (by omega) hk (Nat.le_trans hle hicap))
      have hrow : Rd wr (.slice (some ⟨ib, io' + i * k, none⟩) k k) (((invL k (cw k which)).drop (i * k)).take k) := rd_part ((unhide HRI).kept hf (fun _ _ h => h)) (i * k) k hk.1 (by rw [unhide HIL]; exact hle2)
      have hrl : (((invL k (cw k which)).drop (i * k)).take k).length = k := by rw [List.length_take, List.length_drop, unhide HIL]; omega
      have hF := (unhide HF2).trans hf (fun _ _ h => h)
      have hHr := (unhide HH).kept hF
      have hszr := hF.size
      have hc := hP.cell (by rw [hvs]; exact hlt)
      rw [hvs] at hc
      have HSU := hide (show ∀ W, Fr (fun _ => False) wr W → W.heap.size = wr.heap.size → Calls Try.prog 94 #[.slice (some ⟨ib, io' + i * k, none⟩) k k, .slice ho nh hc', .int .i64 (n : Int)] W fun e w' => e = .returned (.slice (some ⟨wr.heap.size, 0, none⟩) n n) ∧ w'.cell? ⟨w2.heap.size + 1, i, none⟩ = some (.slice none 0 0) ∧ w'.frozen? ⟨w2.heap.size + 1, i, none⟩ = false ∧ PL w.heap.size (w'.setCell ⟨w2.heap.size + 1, i, none⟩ (.slice (some ⟨wr.heap.size, 0, none⟩) n n)) (w2.heap.size + 1) k (vs ++ [.slice (some ⟨wr.heap.size, 0, none⟩) n n]) ((solL k which held n).take (i + 1)) ∧ Fr (fun _ => False) wr w' from by
        intro W q hs
        refine (sumOf_any W _ _ _ held n (hrow.kept q (fun _ _ h => h)) (hHr.kept q) (by rw [hrl, unhide HHL]; omega) (by rw [hrl]; omega) (unhide HW) hn).mono ?_
        rintro e w' ⟨rfl, hB, f⟩
        rw [hs] at hB ⊢
        have g := q.trans f (fun _ _ h => h)
        have hP' := hP.kept g
        have hR := hB.rd (by rw [mixL_length]; simp only [maxLen]; omega)
        rw [mixL_length] at hR
        have hc2 := hP'.cell (by rw [hvs]; exact hlt)
        have hP2 := hP'.put (by rw [hvs]; exact hlt) _ _ hR (Wb.of_bat hB (by omega))
        rw [hvs] at hP2 hc2
        have e1 : mixL (gt (((invL k (cw k which)).drop (i * k)).take k)) held held.length n = mixL (fun c => mc (invL k (cw k which)) k i c) held k n := by
          rw [unhide HHL]
          refine mixL_congr (fun j hj => ?_)
          unfold gt mc
          rw [List.getElem?_take_of_lt hj, List.getElem?_drop]
        rw [e1, ← solL_take k which held n i hlt] at hP2
        exact ⟨rfl, hc2.1, hc2.2, hP2, g⟩)
      have HP := hide hP
      have HX := hide hX
      have Hf := hide hf
      have HVS := hide hvs
      clear hrow hrl hHr hc hF hP hX hf hvs
      go_wp2_with fail
      go_region_with ((first
        | (go_at_call 111; refine (unhide HRO _).mono ?_; rintro e w3 ⟨rfl, rfl⟩)
        | (go_at_call 94; refine (unhide HSU _ (by first | exact Fr.ofDrewN _ 1 | exact Fr.ofDrewN _ _) (by simp)).mono ?_; rintro e w3 ⟨rfl, q1, q2, q3, q4⟩)))
      all_goals
        have HP3 := hide q3
        have HF4 := hide q4
        have hX3 := (q4.block _ (lt_of_heap (unhide HX)) id).trans (unhide HX)
        have HX3 := hide hX3
        clear q3 q4 hX3
        go_wp2_with fail
        go_roundw
        case rel =>
          refine ⟨i + 1, by omega, by go_num, ⟨vs ++ [.slice (some ⟨wr.heap.size, 0, none⟩) n n], by rw [List.length_append, unhide HVS]; rfl, ?_⟩, ?_, ?_⟩
          · first | exact unhide HP3 | exact (unhide HP3).kept (Fr.ofDrewN _ 1)
          · rw [Below.heap_setCell _ _ _ _ (by simp)]; exact unhide HX3
          · exact ((unhide Hf).trans (unhide HF4) (fun _ _ h => h)).setCell (fun h => absurd h (by simp)) _
        case measure => simp [intOf]; omega
    · have hie : i = k := by omega
      subst hie
      have HP := hide hP
      have Hf := hide hf
      have HVS := hide hvs
      clear hP hf hvs hX
      go_wp2_with fail
      go_ret2
      have z := (unhide HF2).size
      have := (unhide HP).done (unhide HVS) (by omega) (by simp only [maxLen]; omega)
      rw [List.take_of_length_le (by rw [solL_length]; omega)] at this
      exact ⟨⟨_, rfl, this⟩, (unhide HF2).trans (unhide Hf) (fun _ _ h => h)⟩

end Go.Proofs.Ytckmddkhkdcmmaa
