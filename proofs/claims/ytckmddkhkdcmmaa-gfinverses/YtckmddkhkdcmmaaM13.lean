/-
  The walks of package rs: solve.
  The walks of package rs: Rebuild.
-/
import Derived.Test.YtckmddkhkdcmmaaM12
namespace Go.Proofs.Ytckmddkhkdcmmaa
set_option linter.unusedVariables false
set_option linter.unusedSimpArgs false
open Go.RowKit
set_option linter.unusedVariables false

attribute [local go_sem ↓] Go.wp_at_zero Go.wp_at_succ

/-- The data shards, out of those at hand. -/
def solL (k : Nat) (which : List Nat) (held : List (List UInt8)) (n : Nat) : List (List UInt8) := (List.range k).map (fun j => mixL (fun c => mc (invL k (cw k which)) k j c) held k n)
theorem solL_length (k : Nat) (which : List Nat) (held : List (List UInt8)) (n : Nat) : (solL k which held n).length = k := by simp [solL]
theorem solL_take (k : Nat) (which : List Nat) (held : List (List UInt8)) (n i : Nat) (hi : i < k) : (solL k which held n).take (i + 1) = (solL k which held n).take i ++ [mixL (fun c => mc (invL k (cw k which)) k i c) held k n] := by
  rw [List.take_succ_eq_append_getElem (by rw [solL_length]; exact hi)]
  simp [solL]

theorem rd_part {w : World} {b o n cap : Nat} {l : List UInt8} (h : Rd w (.slice (some ⟨b, o, none⟩) n cap) l) (a k : Nat) (hk : 0 < k) (hle : a + k ≤ l.length) : Rd w (.slice (some ⟨b, o + a, none⟩) k k) ((l.drop a).take k) := by
  obtain ⟨b', o', e, -, h1, h2, h3⟩ := h.lits (by omega)
  simp only [Option.some.injEq, Addr.mk.injEq] at e
  obtain ⟨rfl, rfl, -⟩ := e
  have hlen : ((l.drop a).take k).length = k := by simp; omega
  refine Rd.lit hlen (Nat.le_refl _) (by have := h.len; omega) fun j hj => ?_
  rw [hlen] at hj
  have := h3 (a + j) (by omega)
  rw [Nat.add_assoc, this]
  simp

set_option maxHeartbeats 4000000 in
set_option maxRecDepth 100000 in
theorem solve_any (w : World) (p k m n : Nat) (hv wv : Value) (held : List (List UInt8)) (which : List Nat) (hC : CAt w p k m) (hH : RdL w hv held) (hR : RdV w wv (ints which)) (hlen : which.length = k) (hb : ∀ i ∈ which, i < k + m) (hnd : which.Nodup) (hhl : held.length = k) (hw : ∀ l ∈ held, l.length = n) (hn : n ≤ 4096) :
    Calls Try.prog 99 #[.pointer (some ⟨p, 0, none⟩), hv, wv, .int .i64 (n : Int)] w fun e w' => (∃ g, e = .returned (.tuple #[.slice (some ⟨g, 0, none⟩) k k, .int .i64 0]) ∧ LN w.heap.size w' (.slice (some ⟨g, 0, none⟩) k k) (solL k which held n)) ∧ Fr (fun _ => False) w w' := by
  have hk := hC.hk
  have hm := hC.hm
  obtain ⟨q, h1, -⟩ := hC.ex
  have hplt := lt_of_heap h1
  have c0 := cell_of_heap h1 0
  simp at c0
  have HRW := hide (rows_any w p k m wv which hC hR hlen hb)
  obtain ⟨wo, wc, rfl⟩ := hR.shape
  obtain ⟨ho, hc', rfl⟩ := hH.shape
  have hfull := cw_full (show k + m ≤ 256 by omega) which hlen hnd hb
  have hcwl := cw_length k which
  have hil := invL_length k (cw k which)
  have HH := hide hH
  have HW := hide hw
  have HHL := hide hhl
  have HFU := hide hfull
  have HCL := hide hcwl
  have HIL := hide hil
  clear hC h1 hR hH hw hhl hfull hcwl hil hb hnd hlen
  obtain ⟨nw, hnw⟩ : ∃ nw, nw = (ints which).length := ⟨_, rfl⟩
  obtain ⟨nh, hnh⟩ : ∃ nh, nh = held.length := ⟨_, rfl⟩
  rw [← hnw] at HRW ⊢
  rw [← hnh] at HH ⊢
  clear hnw hnh
  go_enter Try.func99, Try.ntmps99
  go_wp2_with fail
  refine (unhide HRW).mono ?_
  rintro e w1 ⟨⟨q1, rfl, hB1⟩, f1⟩
  have hr1 := hB1.rd (by rw [unhide HCL]; simp only [maxLen]; have := Nat.mul_le_mul hk.2 hk.2; omega)
  rw [unhide HCL] at hr1
  have HI := hide (inverse_sq w1 k _ _ hr1 (unhide HCL) (by omega))
  rw [unhide HFU] at HI
  simp only [Nat.lt_irrefl, if_false] at HI
  have HF1 := hide f1
  clear hB1 f1 hr1
  go_wp2_with fail
  refine (unhide HI).mono ?_
  rintro e w2 ⟨⟨val, rfl, ⟨iv', rfl, hRi⟩, -⟩, f2⟩
  have hil := unhide HIL
  obtain ⟨io, ic, rfl⟩ := hRi.shape
  obtain ⟨ib, io', rfl, -, hicap, hicm, -⟩ := hRi.lits (by rw [hil]; exact Nat.mul_pos hk.1 hk.1)
  rw [hil] at hRi hicap ⊢
  have F2 := (unhide HF1).trans f2 (fun _ _ h => h)
  have hmk : ∀ W, (Instr.makeSlice 65 (.int .i64 (k : Int)) (.int .i64 (k : Int))).run Try.prog W = .ok (.slice (some ⟨W.heap.size, 0, none⟩) k k) (W.alloc (.cells (List.replicate k (Value.slice none 0 0)).toArray 22)) := run_make43 k (by omega)
  have c0' : w2.cell? ⟨p, 0, none⟩ = some (.int .i64 (k : Int)) := by rw [F2.cell (a := ⟨p, 0, none⟩) hplt id]; exact c0
  have hplt2 : p < w2.heap.size := Nat.lt_of_lt_of_le hplt F2.size
  have HRI := hide hRi
  have HF2 := hide F2
  clear hRi f2 F2 hil
  go_wp2_with fail
  clear hmk
  go_loopw [31] (fun x w' => ∃ i : Nat, i ≤ k ∧ x = .int .i64 (i : Int) ∧ (∃ vs, vs.length = i ∧ PL w.heap.size w' (w2.heap.size + 1) k vs ((solL k which held n).take i)) ∧ w'.heap[w2.heap.size]? = some (.cells #[.int .i64 (k : Int), .int .i64 (k : Int), .slice (some ⟨ib, io', none⟩) (k * k) ic] 24 (0, 0)) ∧ Fr (fun _ => False) w2 w') (fun x _ => k - (intOf x).toNat)
  case atStart =>
    refine ⟨0, by omega, rfl, ⟨[], rfl, ⟨?_, Nat.zero_le _, rfl, fun i x l hx hl => by simp at hx⟩⟩, ?_, ((Fr.refl _ _).alloc _).alloc _⟩
    · have := heap_alloc_new (w2.alloc (Obj.cells #[.int .i64 (k : Int), .int .i64 (k : Int), .slice (some ⟨ib, io', none⟩) (k * k) ic] 24)) (Obj.cells (List.replicate k (Value.slice none 0 0)).toArray 22)
      simpa using this
    · rw [Below.heap_alloc _ _ _ (by simp)]
      exact heap_alloc_new w2 _
  case round =>
    obtain ⟨i, hi, rfl, ⟨vs, hvs, hP⟩, hX, hf⟩ := hrel
    by_cases hlt : i < k
    · have hle : (i + 1) * k ≤ k * k := Nat.mul_le_mul_right _ hlt
      have hkk : k * k ≤ 16 * 16 := Nat.mul_le_mul hk.2 hk.2
      have x2 := cell_of_heap hX 2
      simp at x2
      have c0r : wr.cell? ⟨p, 0, none⟩ = some (.int .i64 (k : Int)) := by rw [hf.cell (a := ⟨p, 0, none⟩) hplt2 id]; exact c0'
      have hle2 : i * k + k ≤ k * k := by rw [Nat.succ_mul] at hle; exact hle
      have HRO := hide (fun W => rowOf_any W ib io' i k (k * k) ic (by omega) hk (Nat.le_trans hle hicap))
      have hrow : Rd wr (.slice (some ⟨ib, io' + i * k, none⟩) k k) (((invL k (cw k which)).drop (i * k)).take k) := rd_part ((unhide HRI).kept hf (fun _ _ h => h)) (i * k) k hk.1 (by rw [unhide HIL]; exact hle2)
      have hrl : (((invL k (cw k which)).drop (i * k)).take k).length = k := by rw [List.length_take, List.length_drop, unhide HIL]; omega
      have hF := (unhide HF2).trans hf (fun _ _ h => h)
      have hHr := (unhide HH).kept hF
      have hszr := hF.size
      have hc := hP.cell (by rw [hvs]; exact hlt)
      rw [hvs] at hc
      have HSU := hide (show ∀ W, Fr (fun _ => False) wr W → W.heap.size = wr.heap.size → Calls Try.prog 94 #[.slice (some ⟨ib, io' + i * k, none⟩) k k, .slice ho nh hc', .int .i64 (n : Int)] W fun e w' => e = .returned (.slice (some ⟨wr.heap.size, 0, none⟩) n n) ∧ w'.cell? ⟨w2.heap.size + 1, i, none⟩ = some (.slice none 0 0) ∧ w'.frozen? ⟨w2.heap.size + 1, i, none⟩ = false ∧ PL w.heap.size (w'.setCell ⟨w2.heap.size + 1, i, none⟩ (.slice (some ⟨wr.heap.size, 0, none⟩) n n)) (w2.heap.size + 1) k (vs ++ [.slice (some ⟨wr.heap.size, 0, none⟩) n n]) ((solL k which held n).take (i + 1)) ∧ Fr (fun _ => False) wr w' from by
        intro W q hs
        refine (sumOf_any W _ _ _ held n (hrow.kept q (fun _ _ h => h)) (hHr.kept q) (by rw [hrl, unhide HHL]; omega) (by rw [hrl]; omega) (unhide HW) hn).mono ?_
        rintro e w' ⟨rfl, hB, f⟩
        rw [hs] at hB ⊢
        have g := q.trans f (fun _ _ h => h)
        have hP' := hP.kept g
        have hR := hB.rd (by rw [mixL_length]; simp only [maxLen]; omega)
        rw [mixL_length] at hR
        have hc2 := hP'.cell (by rw [hvs]; exact hlt)
        have hP2 := hP'.put (by rw [hvs]; exact hlt) _ _ hR (Wb.of_bat hB (by omega))
        rw [hvs] at hP2 hc2
        have e1 : mixL (gt (((invL k (cw k which)).drop (i * k)).take k)) held held.length n = mixL (fun c => mc (invL k (cw k which)) k i c) held k n := by
          rw [unhide HHL]
          refine mixL_congr (fun j hj => ?_)
          unfold gt mc
          rw [List.getElem?_take_of_lt hj, List.getElem?_drop]
        rw [e1, ← solL_take k which held n i hlt] at hP2
        exact ⟨rfl, hc2.1, hc2.2, hP2, g⟩)
      have HP := hide hP
      have HX := hide hX
      have Hf := hide hf
      have HVS := hide hvs
      clear hrow hrl hHr hc hF hP hX hf hvs
      go_wp2_with fail
      go_region_with ((first
        | (go_at_call 111; refine (unhide HRO _).mono ?_; rintro e w3 ⟨rfl, rfl⟩)
        | (go_at_call 94; refine (unhide HSU _ (by first | exact Fr.ofDrewN _ 1 | exact Fr.ofDrewN _ _) (by simp)).mono ?_; rintro e w3 ⟨rfl, q1, q2, q3, q4⟩)))
      all_goals
        have HP3 := hide q3
        have HF4 := hide q4
        have hX3 := (q4.block _ (lt_of_heap (unhide HX)) id).trans (unhide HX)
        have HX3 := hide hX3
        clear q3 q4 hX3
        go_wp2_with fail
        go_roundw
        case rel =>
          refine ⟨i + 1, by omega, by go_num, ⟨vs ++ [.slice (some ⟨wr.heap.size, 0, none⟩) n n], by rw [List.length_append, unhide HVS]; rfl, ?_⟩, ?_, ?_⟩
          · first | exact unhide HP3 | exact (unhide HP3).kept (Fr.ofDrewN _ 1)
          · rw [Below.heap_setCell _ _ _ _ (by simp)]; exact unhide HX3
          · exact ((unhide Hf).trans (unhide HF4) (fun _ _ h => h)).setCell (fun h => absurd h (by simp)) _
        case measure => simp [intOf]; omega
    · have hie : i = k := by omega
      subst hie
      have HP := hide hP
      have Hf := hide hf
      have HVS := hide hvs
      clear hP hf hvs hX
      go_wp2_with fail
      go_ret2
      have z := (unhide HF2).size
      have := (unhide HP).done (unhide HVS) (by omega) (by simp only [maxLen]; omega)
      rw [List.take_of_length_le (by rw [solL_length]; omega)] at this
      exact ⟨⟨_, rfl, this⟩, (unhide HF2).trans (unhide Hf) (fun _ _ h => h)⟩

end Go.Proofs.Ytckmddkhkdcmmaa

namespace Go.Proofs.Ytckmddkhkdcmmaa
set_option linter.unusedVariables false
set_option linter.unusedSimpArgs false
open Go.RowKit
set_option linter.unusedVariables false

attribute [local go_sem ↓] Go.wp_at_zero Go.wp_at_succ

/-- All shards: those at hand, and the others by the code. -/
def rebL (k m : Nat) (ls : List (List UInt8)) (bs : List Bool) (n : Nat) : List (List UInt8) :=
  (List.range (k + m)).map (fun i => if bs[i]?.getD false = true then ls[i]?.getD [] else mixL (co k i) (solL k ((wl bs).take k) ((hl ls bs).take k) n) k n)
theorem rebL_length (k m : Nat) (ls : List (List UInt8)) (bs : List Bool) (n : Nat) : (rebL k m ls bs n).length = k + m := by simp [rebL]
theorem rebL_take (k m : Nat) (ls : List (List UInt8)) (bs : List Bool) (n i : Nat) (hi : i < k + m) : (rebL k m ls bs n).take (i + 1) = (rebL k m ls bs n).take i ++ [if bs[i]?.getD false = true then ls[i]?.getD [] else mixL (co k i) (solL k ((wl bs).take k) ((hl ls bs).take k) n) k n] := by
  rw [List.take_succ_eq_append_getElem (by rw [rebL_length]; exact hi)]
  simp [rebL]

set_option maxRecDepth 100000 in
theorem rebuild_nil (w : World) (ao bo : Option Addr) (n c n' c' : Nat) : Calls Try.prog 52 #[.pointer none, .slice ao n c, .slice bo n' c'] w fun e w' => e = .returned (.tuple #[.slice none 0 0, .int .i64 7]) ∧ w = w' := by
  go_enter Try.func52, Try.ntmps52
  go_wp2_with fail
  go_ret2
  exact ⟨rfl, rfl⟩

set_option maxHeartbeats 1000000 in
theorem rebuild_arg (w : World) (p k m : Nat) (ao bo : Option Addr) (n c n' c' : Nat) (hC : CAt w p k m) (h : n ≠ k + m ∨ n' ≠ k + m) : Calls Try.prog 52 #[.pointer (some ⟨p, 0, none⟩), .slice ao n c, .slice bo n' c'] w fun e w' => e = .returned (.tuple #[.slice none 0 0, .int .i64 2]) ∧ Fr (fun _ => False) w w' := by
  obtain ⟨q, h1, -⟩ := hC.ex
  have hk := hC.hk
  have hm := hC.hm
  have c0 := cell_of_heap h1 0
  have c1 := cell_of_heap h1 1
  simp at c0 c1
  clear h1 hC
  by_cases hn : n = k + m
  · have b1 : ((n : Int) != (k : Int) + (m : Int)) = false := by rw [hn]; simp
    have b2 : ((n' : Int) != (k : Int) + (m : Int)) = true := by
      simp only [bne_iff_ne, ne_eq]; omega
    clear h hn
    go_enter Try.func52, Try.ntmps52
    go_wp2_with fail
    go_quiet (fail)
    go_wp2_with fail
    go_ret2
    exact ⟨rfl, Fr.ofDrewN _ _⟩
  · have b1 : ((n : Int) != (k : Int) + (m : Int)) = true := by
      simp only [bne_iff_ne, ne_eq]; omega
    clear h hn
    go_enter Try.func52, Try.ntmps52
    go_wp2_with fail
    go_quiet (fail)
    go_wp2_with fail
    go_ret2
    exact ⟨rfl, Fr.ofDrewN _ _⟩

theorem RdV.takeN {w : World} {ao : Option Addr} {n cap : Nat} {l : List Value} (h : RdV w (.slice ao n cap) l) (k : Nat) (hk : k ≤ l.length) : RdV w (.slice ao k cap) (l.take k) := by
  have hl : (l.take k).length = k := by simp; omega
  rcases h with ⟨hv, rfl⟩ | ⟨ad, cap', hv, h1, h2, h3⟩
  · simp at hk
    subst hk
    simp only [Value.slice.injEq] at hv
    obtain ⟨rfl, -, rfl⟩ := hv
    exact .inl ⟨rfl, by simp⟩
  · simp only [Value.slice.injEq] at hv
    obtain ⟨rfl, -, rfl⟩ := hv
    refine .inr ⟨ad, cap, by rw [hl], by omega, h2, fun j hj => ?_⟩
    rw [hl] at hj
    rw [h3 j (by omega)]
    simp

theorem RdL.takeN {w : World} {ao : Option Addr} {n cap : Nat} {ls : List (List UInt8)} (h : RdL w (.slice ao n cap) ls) (k : Nat) (hk : k ≤ ls.length) : RdL w (.slice ao k cap) (ls.take k) := by
  obtain ⟨vs, h1, h2, h3⟩ := h
  refine ⟨vs.take k, h1.takeN k (by omega), by simp [h2], fun i x l hx hl => ?_⟩
  have hi : i < k := by have := (List.getElem?_eq_some_iff.1 hx).1; simp at this; omega
  rw [List.getElem?_take_of_lt hi] at hx hl
  exact h3 i x l hx hl

theorem ints_take (l : List Nat) (k : Nat) : ints (l.take k) = (ints l).take k := by simp [ints, List.map_take]

set_option maxHeartbeats 4000000 in
set_option maxRecDepth 100000 in
theorem rebuild_len (w : World) (p k m : Nat) (v hv : Value) (ls : List (List UInt8)) (bs : List Bool) (hC : CAt w p k m) (h : RdL w v ls) (hb : RdV w hv (bs.map Value.bool)) (hls : ls.length = k + m) (hbs : bs.length = k + m) (he : (shl (hl ls bs) ((wl bs).length : Int)).2 ≠ 0) :
    Calls Try.prog 52 #[.pointer (some ⟨p, 0, none⟩), v, hv] w fun e w' => e = .returned (.tuple #[.slice none 0 0, .int .i64 (shl (hl ls bs) ((wl bs).length : Int)).2]) ∧ Fr (fun _ => False) w w' := by
  obtain ⟨q, h1, -⟩ := hC.ex
  have hk := hC.hk
  have hm := hC.hm
  have c0 := cell_of_heap h1 0
  have c1 := cell_of_heap h1 1
  simp at c0 c1
  have HA := hide (fun W (f : Fr (fun _ => False) w W) => atHand_any W v hv ls bs (h.kept f) (hb.kept f (fun _ _ h => h)) (by omega) (by omega))
  have HSL := hide (fun W v' (hr : RdL W v' (hl ls bs)) => shardLength_any W v' (hl ls bs) ((wl bs).length : Int) hr (by rw [hl_length]; have := wlK_le bs bs.length; unfold wl; omega))
  obtain ⟨vo, vc, rfl⟩ := h.shape
  obtain ⟨ho, hc, rfl⟩ := hb.shape
  rw [List.length_map] at HA ⊢
  rw [hls, hbs] at HA
  rw [hls, hbs]
  have hwl : (wl bs).length ≤ 24 := by have := wlK_le bs bs.length; unfold wl; omega
  generalize shl (hl ls bs) ((wl bs).length : Int) = r at *
  obtain ⟨n, e⟩ := r
  have b1 : (e != 0) = true := by simpa using he
  have b2 : (((k + m : Nat) : Int) != (k : Int) + (m : Int)) = false := by simp
  obtain ⟨a, ha⟩ : ∃ a, a = k + m := ⟨_, rfl⟩
  rw [← ha] at HA b2 ⊢
  clear h1 hC h hb hls hbs he ha
  go_enter Try.func52, Try.ntmps52
  go_wp2_with fail
  go_quiet (fail)
  go_wp2_with fail
  refine (unhide HA _ (Fr.ofDrewN _ _)).mono ?_
  rintro e' w2 ⟨⟨ao, ac, wo, wc, rfl, hR1, hR2⟩, f2⟩
  have HS := hide (unhide HSL w2 _ hR1)
  have HF2 := hide ((Fr.ofDrewN (S := fun _ => False) w _).trans f2 (fun _ _ h => h))
  clear hR1 hR2 f2
  go_wp2_with fail
  refine (unhide HS).mono ?_
  rintro e' w3 ⟨rfl, rfl⟩
  go_wp2_with fail
  go_ret2
  exact ⟨rfl, unhide HF2⟩

set_option maxHeartbeats 4000000 in
set_option maxRecDepth 100000 in
theorem rebuild_few (w : World) (p k m : Nat) (v hv : Value) (ls : List (List UInt8)) (bs : List Bool) (hC : CAt w p k m) (h : RdL w v ls) (hb : RdV w hv (bs.map Value.bool)) (hls : ls.length = k + m) (hbs : bs.length = k + m) (he : (shl (hl ls bs) ((wl bs).length : Int)).2 = 0) (hfew : (wl bs).length < k) :
    Calls Try.prog 52 #[.pointer (some ⟨p, 0, none⟩), v, hv] w fun e w' => e = .returned (.tuple #[.slice none 0 0, .int .i64 30]) ∧ Fr (fun _ => False) w w' := by
  obtain ⟨q, h1, -⟩ := hC.ex
  have hk := hC.hk
  have hm := hC.hm
  have c0 := cell_of_heap h1 0
  have c1 := cell_of_heap h1 1
  simp at c0 c1
  have HA := hide (fun W (f : Fr (fun _ => False) w W) => atHand_any W v hv ls bs (h.kept f) (hb.kept f (fun _ _ h => h)) (by omega) (by omega))
  have HSL := hide (fun W v' (hr : RdL W v' (hl ls bs)) => shardLength_any W v' (hl ls bs) ((wl bs).length : Int) hr (by rw [hl_length]; have := wlK_le bs bs.length; unfold wl; omega))
  obtain ⟨vo, vc, rfl⟩ := h.shape
  obtain ⟨ho, hc, rfl⟩ := hb.shape
  rw [List.length_map] at HA ⊢
  rw [hls, hbs] at HA
  rw [hls, hbs]
  have hwl : (wl bs).length ≤ 24 := by have := wlK_le bs bs.length; unfold wl; omega
  generalize shl (hl ls bs) ((wl bs).length : Int) = r at *
  obtain ⟨n, e⟩ := r
  simp only at he
  subst he
  have hplt := lt_of_heap h1
  have b3 : decide (((wl bs).length : Int) < (k : Int)) = true := by simp; omega
  have b2 : (((k + m : Nat) : Int) != (k : Int) + (m : Int)) = false := by simp
  obtain ⟨a, ha⟩ : ∃ a, a = k + m := ⟨_, rfl⟩
  rw [← ha] at HA b2 ⊢
  clear h1 hC h hb hls hbs ha
  go_enter Try.func52, Try.ntmps52
  go_wp2_with fail
  go_quiet (fail)
  go_wp2_with fail
  refine (unhide HA _ (Fr.ofDrewN _ _)).mono ?_
  rintro e' w2 ⟨⟨ao, ac, wo, wc, rfl, hR1, hR2⟩, f2⟩
  have HS := hide (unhide HSL w2 _ hR1)
  have HF2 := hide ((Fr.ofDrewN (S := fun _ => False) w _).trans f2 (fun _ _ h => h))
  have d0 : w2.cell? ⟨p, 0, none⟩ = some (.int .i64 (k : Int)) := by rw [(unhide HF2).cell (a := ⟨p, 0, none⟩) hplt id]; exact c0
  clear hR1 hR2 f2
  generalize (wl bs).length = wn at *
  go_wp2_with fail
  refine (unhide HS).mono ?_
  rintro e' w3 ⟨rfl, rfl⟩
  go_wp2_with fail
  go_ret2
  exact ⟨rfl, unhide HF2⟩

/-- The answers of Rebuild's loop, in an order of their own. -/
theorem wl_mem {bs : List Bool} {i : Nat} (h : i ∈ wl bs) : i < bs.length := wlK_lt h

set_option maxHeartbeats 8000000 in
set_option maxRecDepth 100000 in
theorem rebuild_ok (w : World) (p k m : Nat) (v hv : Value) (ls : List (List UInt8)) (bs : List Bool) (hC : CAt w p k m) (h : RdL w v ls) (hb : RdV w hv (bs.map Value.bool)) (hls : ls.length = k + m) (hbs : bs.length = k + m) (he : (shl (hl ls bs) ((wl bs).length : Int)).2 = 0) (hfew : k ≤ (wl bs).length) :
    Calls Try.prog 52 #[.pointer (some ⟨p, 0, none⟩), v, hv] w fun e w' => (∃ g, e = .returned (.tuple #[.slice (some ⟨g, 0, none⟩) (k + m) (k + m), .int .i64 0]) ∧ LN w.heap.size w' (.slice (some ⟨g, 0, none⟩) (k + m) (k + m)) (rebL k m ls bs (shl (hl ls bs) ((wl bs).length : Int)).1)) ∧ Fr (fun _ => False) w w' := by
  obtain ⟨q, h1, -⟩ := hC.ex
  have hk := hC.hk
  have hm := hC.hm
  have hplt := lt_of_heap h1
  have c0 := cell_of_heap h1 0
  have c1 := cell_of_heap h1 1
  simp at c0 c1
  obtain ⟨-, hw2, hn⟩ := shl_ok he
  have HA := hide (fun W (f : Fr (fun _ => False) w W) => atHand_any W v hv ls bs (h.kept f) (hb.kept f (fun _ _ h => h)) (by omega) (by omega))
  have HSL := hide (fun W v' (hr : RdL W v' (hl ls bs)) => shardLength_any W v' (hl ls bs) ((wl bs).length : Int) hr (by rw [hl_length]; have := wlK_le bs bs.length; unfold wl; omega))
  have hwl : (wl bs).length ≤ 24 := by have := wlK_le bs bs.length; unfold wl; omega
  have HSV := hide (fun W hv' wv' (hC' : CAt W p k m) (hR1 : RdL W hv' ((hl ls bs).take k)) (hR2 : RdV W wv' (ints ((wl bs).take k))) => solve_any W p k m (shl (hl ls bs) ((wl bs).length : Int)).1 hv' wv' _ _ hC' hR1 hR2 (by simp; omega) (fun i hi => by have := wl_mem (List.mem_of_mem_take hi); omega) ((List.take_sublist _ _).nodup (wl_nodup bs)) (by simp [hl_length]; omega) (fun l hl => hw2 l (List.mem_of_mem_take hl)) hn)
  rw [he] at HSL
  have HH := hide h
  have HHB := hide hb
  have HC := hide hC
  have HW := hide hw2
  have HLS := hide hls
  have HBS := hide hbs
  obtain ⟨vo, vc, rfl⟩ := h.shape
  obtain ⟨ho, hc, rfl⟩ := hb.shape
  rw [List.length_map] at HA HHB ⊢
  rw [hls, hbs] at HA
  rw [hls] at HH
  rw [hbs] at HHB
  rw [hls, hbs]
  generalize (shl (hl ls bs) ((wl bs).length : Int)).1 = n at *
  obtain ⟨wn, hwn⟩ : ∃ wn, wn = (wl bs).length := ⟨_, rfl⟩
  rw [← hwn] at hfew hwl HSL
  simp only [← hwn] at HA
  have HWN := hide hwn
  have b3 : decide ((wn : Int) < (k : Int)) = false := by simp; omega
  obtain ⟨a, ha⟩ : ∃ a, a = k + m := ⟨_, rfl⟩
  have b2 : ((a : Int) != (k : Int) + (m : Int)) = false := by rw [ha]; simp
  have ea : (k : Int) + (m : Int) = (a : Int) := by omega
  rw [← ha] at HA HH HHB ⊢
  have HAE := hide ha
  clear h1 hC h hb hls hbs he ha hwn hw2
  go_enter Try.func52, Try.ntmps52
  go_wp2_with fail
  go_quiet (fail)
  go_wp2_with fail
  refine (unhide HA _ (Fr.ofDrewN _ _)).mono ?_
  rintro e' w2 ⟨⟨ao, ac, wo, wcp, rfl, hR1, hR2⟩, f2⟩
  have HS := hide (unhide HSL w2 _ hR1)
  have hF2 := ((Fr.ofDrewN (S := fun _ => False) w _).trans f2 (fun _ _ h => h))
  have d0 : w2.cell? ⟨p, 0, none⟩ = some (.int .i64 (k : Int)) := by rw [hF2.cell (a := ⟨p, 0, none⟩) hplt id]; exact c0
  have hac : k ≤ ac := by
    have := hR1
    obtain ⟨vs, hV, hvl, -⟩ := this
    rw [hl_length, ← unhide HWN] at hvl
    obtain ⟨_, _, _, -, hcap, -, -⟩ := hV.lits (by omega)
    omega
  have hwc : k ≤ wcp := by
    obtain ⟨_, _, _, -, hcap, -, -⟩ := hR2.lits (by simp [ints]; have := unhide HWN; omega)
    omega
  have HSO := hide (fun W (f : Fr (fun _ => False) w2 W) => unhide HSV W (.slice ao k ac) (.slice wo k wcp) (((unhide HC).kept hF2 (fun _ _ h => h)).kept f (fun _ _ h => h)) ((hR1.takeN k (by rw [hl_length, ← unhide HWN]; exact hfew)).kept f) (by rw [ints_take]; exact (hR2.takeN k (by simp [ints]; have := unhide HWN; omega)).kept f (fun _ _ h => h)))
  have hplt2 : p < w2.heap.size := Nat.lt_of_lt_of_le hplt hF2.size
  have d1 : w2.cell? ⟨p, 1, none⟩ = some (.int .i64 (m : Int)) := by rw [hF2.cell (a := ⟨p, 1, none⟩) hplt id]; exact c1
  have HF2 := hide hF2
  clear hR1 hR2 f2 hF2 HSL HSV HA
  go_wp2_with fail
  refine (unhide HS).mono ?_
  rintro e' w3 ⟨rfl, rfl⟩
  go_upto_region 11 with fail
  clear HS
  go_cut [12, 11] (fun x y wx => ∃ g4, x = .slice (some ⟨g4, 0, none⟩) k k ∧ y = .int .i64 0 ∧ RdL wx (.slice (some ⟨g4, 0, none⟩) k k) (solL k ((wl bs).take k) ((hl ls bs).take k) n) ∧ Fr (fun _ => False) w2 wx)
  case first =>
    go_region_with ((go_at_call 99; refine (unhide HSO _ (by first | exact Fr.ofDrewN _ 1 | exact Fr.ofDrewN _ _)).mono ?_; rintro e w4 ⟨⟨g4, rfl, hL4⟩, f4⟩))
    all_goals
      have z4 : Fr (fun _ => False) w2 w4 := (Fr.ofDrewN (S := fun _ => False) w2 1).trans f4 (fun _ _ h => h)
      have HL4 := hide hL4.rdl
      have Z4 := hide z4
      clear hL4 f4 z4
      go_wp2_with fail
      go_meet
      case rel => exact ⟨g4, rfl, rfl, by first | exact unhide HL4 | exact (unhide HL4).kept (Fr.ofDrewN _ _), by first | exact unhide Z4 | exact (unhide Z4).drewN _⟩
  case rest =>
  obtain ⟨g4, rfl, rfl, hL4, z4⟩ := hcut
  have e0 : wc.cell? ⟨p, 0, none⟩ = some (.int .i64 (k : Int)) := by rw [z4.cell (a := ⟨p, 0, none⟩) hplt2 id]; exact d0
  have e1 : wc.cell? ⟨p, 1, none⟩ = some (.int .i64 (m : Int)) := by rw [z4.cell (a := ⟨p, 1, none⟩) hplt2 id]; exact d1
  have b4 : IntKind.i64.wrap (a : Int) = (a : Int) := by rw [IntKind.wrap_i64]; have := unhide HAE; omega
  have hmk := run_make43 a (by have := unhide HAE; omega)
  have HL4 := hide hL4
  have HF4 := hide ((unhide HF2).trans z4 (fun _ _ h => h))
  clear hL4 z4 HSO
  go_wp2_with fail
  go_region
  clear hmk
  have HF5 := hide (((Fr.refl (fun _ => False) wc).alloc (Obj.cells (Array.replicate a (Value.slice none 0 0)) 22)).drew)
  have HP5 := hide (show PL w.heap.size (wc.alloc (Obj.cells (Array.replicate a (Value.slice none 0 0)) 22)).drew wc.heap.size a [] [] from ⟨by
    show (wc.alloc (Obj.cells (Array.replicate a (Value.slice none 0 0)) 22)).heap[wc.heap.size]? = _
    rw [List.nil_append, List.length_nil, Nat.sub_zero, List.toArray_replicate]
    exact heap_alloc_new wc _, Nat.zero_le _, rfl, fun i x l hx hl => by simp at hx⟩)
  generalize (wc.alloc (Obj.cells (Array.replicate a (Value.slice none 0 0)) 22)).drew = w5 at *
  go_wp2_with fail
  go_loopw [99] (fun x w' => ∃ i : Nat, i ≤ a ∧ x = .int .i64 (i : Int) ∧ (∃ vs, vs.length = i ∧ PL w.heap.size w' wc.heap.size a vs ((rebL k m ls bs n).take i)) ∧ Fr (fun _ => False) wc w') (fun x _ => a - (intOf x).toNat)
  case atStart => exact ⟨0, by omega, rfl, ⟨[], rfl, unhide HP5⟩, unhide HF5⟩
  case round =>
    obtain ⟨i, hi, rfl, ⟨vs, hvs, hP⟩, hf⟩ := hrel
    by_cases hlt : i < a
    · have hF := (unhide HF4).trans hf (fun _ _ h => h)
      have hib : i < bs.length := by have := unhide HAE; have := unhide HBS; omega
      have hil : i < ls.length := by have := unhide HAE; have := unhide HLS; omega
      obtain ⟨bb, bo, rfl, -, -, -, hcb⟩ := ((unhide HHB).kept hF (fun _ _ h => h)).lits (by simpa using (by omega : 0 < bs.length))
      have y1 := hcb i (by simpa using hib)
      rw [List.getElem_map] at y1
      have hbi : bs[i]?.getD false = bs[i] := by rw [List.getElem?_eq_getElem hib]; rfl
      have hli : ls[i]?.getD [] = ls[i] := by rw [List.getElem?_eq_getElem hil]; rfl
      have htk := rebL_take k m ls bs n i (by have := unhide HAE; omega)
      rw [hbi, hli] at htk
      have hszr := hF.size
      rcases hbv : bs[i] with _ | _
      · rw [hbv] at y1 htk hbi
        simp only [Bool.false_eq_true, if_false] at htk
        have HR := hide (row_any wr p k m i ((unhide HC).kept hF (fun _ _ h => h)) (by have := unhide HAE; omega))
        have HP := hide hP
        have Hf := hide hf
        have HVS := hide hvs
        have HT := hide htk
        have HFr := hide hF
        clear hP hf hvs htk hcb hF hbi hli hbv
        go_wp2_with fail
        refine (unhide HR).mono ?_
        rintro e w6 ⟨⟨q6, rfl, hR6, -⟩, f6⟩
        have hL6 := (unhide HL4).kept ((unhide Hf).trans f6 (fun _ _ h => h))
        have HSu := hide (sumOf_any w6 _ _ _ _ n hR6 hL6 (by rw [rowL_length, solL_length]; omega) (by rw [rowL_length]; omega) (fun l hl => by
          unfold solL at hl
          obtain ⟨j, -, rfl⟩ := List.mem_map.1 hl
          exact mixL_length _ _ _ _) hn)
        have HF6 := hide f6
        clear hR6 hL6 f6
        go_wp2_with fail
        refine (unhide HSu).mono ?_
        rintro e w7 ⟨rfl, hB7, f7⟩
        have g7 := (unhide HF6).trans f7 (fun _ _ h => h)
        have hP7 := (unhide HP).kept g7
        have hc7 := hP7.cell (by rw [unhide HVS]; exact hlt)
        have hR7 := hB7.rd (by rw [mixL_length]; simp only [maxLen]; omega)
        rw [mixL_length] at hR7
        have z6 := (unhide HF6).size
        have hP8 := hP7.put (by rw [unhide HVS]; exact hlt) _ _ hR7 (Wb.of_bat hB7 (by omega))
        rw [unhide HVS] at hc7 hP8
        have em : mixL (gt (rowL k i)) (solL k ((wl bs).take k) ((hl ls bs).take k) n) (solL k ((wl bs).take k) ((hl ls bs).take k) n).length n = mixL (co k i) (solL k ((wl bs).take k) ((hl ls bs).take k) n) k n := by
          rw [solL_length]
          exact mixL_congr (fun j hj => by rw [gt_of (by rw [rowL_length]; exact hj), rowL_get])
        rw [em, ← unhide HT] at hP8
        have x1 := hc7.1
        have x2 := hc7.2
        have HP8 := hide hP8
        have HG7 := hide g7
        clear hB7 f7 g7 hP7 hc7 hR7 hP8 em
        go_wp2_with fail
        go_roundw
        case rel => exact ⟨i + 1, by omega, by go_num, ⟨vs ++ [.slice (some ⟨w6.heap.size, 0, none⟩) n n], by rw [List.length_append, unhide HVS]; rfl, unhide HP8⟩, ((unhide Hf).trans (unhide HG7) (fun _ _ h => h)).setCell (fun h => absurd h (by simp)) _⟩
        case measure => simp [intOf]; omega
      · rw [hbv] at y1 htk hbi
        simp only [if_true] at htk
        obtain ⟨sb, so, xo, xc, rfl, y2, hRx⟩ := ((unhide HH).kept hF).get i hil
        have hxl : (ls[i]).length ≤ 4096 := by
          have hm' : ls[i] ∈ hl ls bs := by
            unfold hl
            refine List.mem_map.2 ⟨i, ?_, hli⟩
            unfold wl wlK
            rw [List.mem_filter]
            exact ⟨List.mem_range.2 hib, hbi⟩
          rw [unhide HW _ hm']
          exact hn
        have HCp := hide (copyOf_any wr _ _ hRx (by omega))
        have HP := hide hP
        have Hf := hide hf
        have HVS := hide hvs
        have HT := hide htk
        have HFr := hide hF
        obtain ⟨xl, hxl2⟩ : ∃ xl, xl = (ls[i]).length := ⟨_, rfl⟩
        rw [← hxl2] at y2 HCp hxl
        have HXL := hide hxl2
        clear hP hf hvs htk hcb hF hbi hli hbv hRx hxl2
        go_wp2_with fail
        refine (unhide HCp).mono ?_
        rintro e w7 ⟨rfl, hB7, f7⟩
        have hP7 := (unhide HP).kept f7
        have hc7 := hP7.cell (by rw [unhide HVS]; exact hlt)
        have hR7 := hB7.rd (by rw [← unhide HXL]; simp only [maxLen]; omega)
        rw [← unhide HXL] at hR7
        have hP8 := hP7.put (by rw [unhide HVS]; exact hlt) _ _ hR7 (Wb.of_bat hB7 (by omega))
        rw [unhide HVS] at hc7 hP8
        rw [← unhide HT] at hP8
        have x1 := hc7.1
        have x2 := hc7.2
        have HP8 := hide hP8
        have HG7 := hide f7
        clear hB7 f7 hP7 hc7 hR7 hP8
        go_wp2_with fail
        go_roundw
        case rel => exact ⟨i + 1, by omega, by go_num, ⟨vs ++ [.slice (some ⟨wr.heap.size, 0, none⟩) xl xl], by rw [List.length_append, unhide HVS]; rfl, unhide HP8⟩, ((unhide Hf).trans (unhide HG7) (fun _ _ h => h)).setCell (fun h => absurd h (by simp)) _⟩
        case measure => simp [intOf]; omega
    · have hie : i = a := by omega
      subst hie
      have HP := hide hP
      have Hf := hide hf
      have HVS := hide hvs
      clear hP hf hvs
      go_wp2_with fail
      go_ret2
      have z := (unhide HF4).size
      have := (unhide HP).done (unhide HVS) (by omega) (by simp only [maxLen]; have := unhide HAE; omega)
      rw [List.take_of_length_le (by rw [rebL_length, ← unhide HAE]; omega)] at this
      exact ⟨⟨_, rfl, this⟩, (unhide HF4).trans (unhide Hf) (fun _ _ h => h)⟩

end Go.Proofs.Ytckmddkhkdcmmaa
