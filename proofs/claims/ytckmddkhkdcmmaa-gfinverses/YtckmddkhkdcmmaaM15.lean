/-
  The walks of bytes.Equal, and of package rs's Check.
  The walks of the laws' lent: lists of bytes that have room behind them.
  Kinds of operations for matrices in memory; the document's matrix under way.
-/
import Derived.Test.YtckmddkhkdcmmaaM14
import Derived.Deep.RegionHeld3
import Derived.Test.YtckmddkhkdcmmaaM09
import Derived.Deep.MidRow
namespace Go.Proofs.Ytckmddkhkdcmmaa
set_option linter.unusedVariables false
set_option linter.unusedSimpArgs false
open Go.RowKit
set_option linter.unusedVariables false

attribute [local go_sem ↓] Go.wp_at_zero Go.wp_at_succ

theorem equal_any (w : World) (v u : Value) (l m : List UInt8) (h1 : Rd w v l) (h2 : Rd w u m) : Calls Try.prog 97 #[v, u] w fun e w' => e = .returned (.bool (decide (l = m))) ∧ Fr (fun _ => False) w w' := by
  have k1 := conv_rd (P := Try.prog) h1 22 9 5 Try.underlying22 Try.underlying5 Try.underlying9
  have k2 := conv_rd (P := Try.prog) h2 22 9 5 Try.underlying22 Try.underlying5 Try.underlying9
  obtain ⟨ao1, cap1, rfl⟩ := h1.shape
  obtain ⟨ao2, cap2, rfl⟩ := h2.shape
  have hs := str_eq l m
  have HS := hide hs
  clear h1 h2 hs
  generalize str l = s1 at *
  generalize str m = s2 at *
  go_enter Try.func97, Try.ntmps97
  go_wp2_with fail
  go_ret
  exact ⟨by rw [← unhide HS]; rfl, Fr.refl _ _⟩

/-- What Check tells. -/
def chB (k m : Nat) (ls : List (List UInt8)) (n : Nat) : Bool := decide (ls.drop k = encL k m (ls.take k) n)

theorem encL_get {k m : Nat} {ls : List (List UInt8)} {n j : Nat} (h : j < m) : (encL k m ls n)[j]'(by rw [encL_length]; exact h) = mixL (co k (k + j)) ls k n := by simp [encL]

set_option maxHeartbeats 2000000 in
theorem check_no (w : World) (p k m : Nat) (v : Value) (ls : List (List UInt8)) (hC : CAt w p k m) (h : RdL w v ls) (hl : ls.length ≤ 100000) (he : (shl ls ((k + m : Nat) : Int)).2 ≠ 0) :
    Calls Try.prog 49 #[.pointer (some ⟨p, 0, none⟩), v] w fun e w' => e = .returned (.tuple #[.bool false, .int .i64 (shl ls ((k + m : Nat) : Int)).2]) ∧ Fr (fun _ => False) w w' := by
  obtain ⟨q, h1, -⟩ := hC.ex
  have hk := hC.hk
  have hm := hC.hm
  have c0 := cell_of_heap h1 0
  have c1 := cell_of_heap h1 1
  simp at c0 c1
  have HS := hide (fun j => (shardLength_any (w.drewN j) v ls ((k + m : Nat) : Int) (h.kept (Fr.ofDrewN w j)) hl).mono (fun e w' (h : e = _ ∧ w.drewN j = w') => show e = _ ∧ w' = w.drewN j from ⟨h.1, h.2.symm⟩))
  obtain ⟨vo, vc, rfl⟩ := h.shape
  clear h1 hC h
  generalize shl ls ((k + m : Nat) : Int) = r at *
  obtain ⟨n, e⟩ := r
  have b1 : (e != 0) = true := by simpa using he
  obtain ⟨a, ha⟩ : ∃ a, a = k + m := ⟨_, rfl⟩
  have ea : (k : Int) + (m : Int) = (a : Int) := by omega
  rw [← ha] at HS
  clear ha
  go_enter Try.func49, Try.ntmps49
  go_wp2_with fail
  go_quiet ((go_at_call 93; exact Calls.quiet_of_same (unhide HS _)))
  go_wp2_with fail
  go_ret2
  exact ⟨rfl, Fr.ofDrewN _ _⟩

set_option maxHeartbeats 4000000 in
set_option maxRecDepth 100000 in
theorem check_ok (w : World) (p k m : Nat) (v : Value) (ls : List (List UInt8)) (hC : CAt w p k m) (h : RdL w v ls) (he : (shl ls ((k + m : Nat) : Int)).2 = 0) :
    Calls Try.prog 49 #[.pointer (some ⟨p, 0, none⟩), v] w fun e w' => e = .returned (.tuple #[.bool (chB k m ls (shl ls ((k + m : Nat) : Int)).1), .int .i64 0]) ∧ Fr (fun _ => False) w w' := by
  obtain ⟨q, h1, -⟩ := hC.ex
  have hk := hC.hk
  have hm := hC.hm
  obtain ⟨hl1, hl2, hl3⟩ := shl_ok he
  have hll : ls.length = k + m := by omega
  have hplt := lt_of_heap h1
  have c0 := cell_of_heap h1 0
  have c1 := cell_of_heap h1 1
  simp at c0 c1
  have HS := hide (fun j => (shardLength_any (w.drewN j) v ls ((k + m : Nat) : Int) (h.kept (Fr.ofDrewN w j)) (by omega)).mono (fun e w' (h : e = _ ∧ w.drewN j = w') => show e = _ ∧ w' = w.drewN j from ⟨h.1, h.2.symm⟩))
  rw [he] at HS
  generalize (shl ls ((k + m : Nat) : Int)).1 = n at *
  have HL := hide h
  have HC := hide hC
  have HW := hide hl2
  have HLL := hide hll
  obtain ⟨vo, vc, rfl⟩ := h.shape
  have hvc : k ≤ vc := by
    obtain ⟨vs, hV, hvl, -⟩ := h
    obtain ⟨_, _, _, -, hcap, -, -⟩ := hV.lits (by omega)
    omega
  obtain ⟨a, ha⟩ : ∃ a, a = k + m := ⟨_, rfl⟩
  have ea : (k : Int) + (m : Int) = (a : Int) := by omega
  rw [← ha] at HS
  rw [hll, ← ha] at HS HL ⊢
  have HA := hide ha
  have hka : k ≤ a := by omega
  have ha24 : a ≤ 24 := by omega
  clear h1 hC h hl1 hl2 hll ha he
  go_enter Try.func49, Try.ntmps49
  go_wp2_with fail
  go_quiet ((go_at_call 93; exact Calls.quiet_of_same (unhide HS _)))
  go_wp2_with fail
  have HF0 := hide (Fr.ofDrewN (S := fun _ => False) w nq)
  generalize w.drewN nq = w1 at *
  clear HS
  go_loopw [9] (fun x w' => ∃ i : Nat, k ≤ i ∧ i ≤ a ∧ x = .int .i64 (i : Int) ∧ (ls.drop k).take (i - k) = (encL k m (ls.take k) n).take (i - k) ∧ Fr (fun _ => False) w w') (fun x _ => a - (intOf x).toNat)
  case atStart => exact ⟨k, by omega, by omega, rfl, by simp, unhide HF0⟩
  case round =>
    obtain ⟨i, hki, hi, rfl, ht, hf⟩ := hrel
    have d0 : wr.cell? ⟨p, 0, none⟩ = some (.int .i64 (k : Int)) := by rw [hf.cell (a := ⟨p, 0, none⟩) hplt id]; exact c0
    have d1 : wr.cell? ⟨p, 1, none⟩ = some (.int .i64 (m : Int)) := by rw [hf.cell (a := ⟨p, 1, none⟩) hplt id]; exact c1
    by_cases hlt : i < a
    · have g1 : decide ((i : Int) < (a : Int)) = true := by simp; omega
      have HT := hide ht
      have Hf := hide hf
      clear ht hf
      go_wp2_with fail
      go_quiet (fail)
      have HFq := hide ((unhide Hf).drewN nq)
      generalize wr.drewN nq = wq at *
      have hil : i < ls.length := by rw [unhide HLL, ← unhide HA]; exact hlt
      obtain ⟨sb, so, xo, xc, rfl, y1, hRx⟩ := ((unhide HL).kept (unhide HFq)).get i hil
      have hlen : (ls[i]).length = n := unhide HW _ (List.getElem_mem hil)
      rw [hlen] at y1 hRx
      have hLt := ((unhide HL).kept (unhide HFq)).takeN k (by rw [unhide HLL]; omega)
      have htl : (ls.take k).length = k := by rw [List.length_take, unhide HLL]; omega
      have hwt : ∀ l ∈ ls.take k, l.length = n := fun l hl => unhide HW l (List.mem_of_mem_take hl)
      have hsb := World.block_lt_of_cell? wq _ y1
      have HYC := hide (show ∀ W, Fr (fun _ => False) wq W → W.cell? ⟨sb, so + i, none⟩ = some (.slice xo n xc) from fun W f => (f.cell (a := ⟨sb, so + i, none⟩) hsb id).trans y1)
      have HRW := hide (fun W (f : Fr (fun _ => False) wq W) => row_any W p k m i ((unhide HC).kept ((unhide HFq).trans f (fun _ _ h => h)) (fun _ _ h => h)) (by rw [← unhide HA]; exact hlt))
      have HSU := hide (show ∀ W q2, Fr (fun _ => False) wq W → Rd W (.slice (some ⟨q2, i * k, none⟩) k k) (rowL k i) → Calls Try.prog 94 #[.slice (some ⟨q2, i * k, none⟩) k k, .slice (some ⟨sb, so, none⟩) k vc, .int .i64 (n : Int)] W fun e w' => (∃ g, e = .returned (.slice (some ⟨g, 0, none⟩) n n) ∧ Rd w' (.slice (some ⟨g, 0, none⟩) n n) (mixL (co k i) (ls.take k) k n)) ∧ Fr (fun _ => False) W w' from by
        intro W q2 f hR
        refine (sumOf_any W _ _ _ (ls.take k) n hR (hLt.kept f) (by rw [rowL_length, htl]; omega) (by rw [rowL_length]; omega) hwt hl3).mono ?_
        rintro e w' ⟨rfl, hB, f'⟩
        have hR' := hB.rd (by rw [mixL_length]; simp only [maxLen]; omega)
        rw [mixL_length, htl, mixL_congr (s := co k i) (fun j hj => by rw [gt_of (by rw [rowL_length]; exact hj), rowL_get])] at hR'
        exact ⟨⟨_, rfl, hR'⟩, f'⟩)
      have HEQ := hide (show ∀ W g, Fr (fun _ => False) wq W → Rd W (.slice (some ⟨g, 0, none⟩) n n) (mixL (co k i) (ls.take k) k n) → Calls Try.prog 97 #[.slice xo n xc, .slice (some ⟨g, 0, none⟩) n n] W fun e w' => e = .returned (.bool (decide (ls[i] = mixL (co k i) (ls.take k) k n))) ∧ Fr (fun _ => False) W w' from
        fun W g f hR => equal_any W _ _ _ _ (hRx.kept f (fun _ _ h => h)) hR)
      have hstep : ls[i] = mixL (co k i) (ls.take k) k n → (ls.drop k).take (i + 1 - k) = (encL k m (ls.take k) n).take (i + 1 - k) := by
        intro e
        have j1 : i - k < (ls.drop k).length := by rw [List.length_drop]; omega
        have j2 : i - k < (encL k m (ls.take k) n).length := by rw [encL_length]; have := unhide HA; omega
        rw [show i + 1 - k = (i - k) + 1 by omega, List.take_succ_eq_append_getElem j1, List.take_succ_eq_append_getElem j2, unhide HT, List.getElem_drop, encL_get (by have := unhide HA; omega)]
        simp only [show k + (i - k) = i by omega, e]
      have hbad : ls[i] ≠ mixL (co k i) (ls.take k) k n → chB k m ls n = false := by
        intro hne
        unfold chB
        simp only [decide_eq_false_iff_not]
        intro e
        apply hne
        have j1 : i - k < (ls.drop k).length := by rw [List.length_drop]; omega
        have e2 : (ls.drop k)[i - k]? = (encL k m (ls.take k) n)[i - k]? := by rw [e]
        rw [List.getElem?_eq_getElem j1, List.getElem?_eq_getElem (by rw [encL_length]; have := unhide HA; omega), Option.some.injEq, List.getElem_drop, encL_get (by have := unhide HA; omega)] at e2
        simpa only [show k + (i - k) = i by omega] using e2
      have HST := hide hstep
      have HBD := hide hbad
      generalize mixL (co k i) (ls.take k) k n = M at *
      generalize ls[i] = li at *
      clear hRx hLt htl hwt hstep hbad hlen
      by_cases hli : li = M
      · have HLI := hide hli
        have hde : decide (li = M) = true := by simpa using hli
        rw [hde] at HEQ
        clear hli hde
        go_wp2_with fail
        go_region_with ((first
          | (go_at_call 91; refine (unhide HRW _ (by first | exact Fr.ofDrewN _ 1 | exact Fr.ofDrewN _ _)).mono ?_; rintro e w2 ⟨⟨q2, rfl, hR2, -⟩, f2⟩; have F2 := (Fr.ofDrewN (S := fun _ => False) wq 1).trans f2 (fun _ _ h => h); have y2 := unhide HYC _ F2)
          | (go_at_call 94; refine (unhide HSU _ _ (by exact F2) (by exact hR2)).mono ?_; rintro e w3 ⟨⟨g3, rfl, hR3⟩, f3⟩; have F3 := F2.trans f3 (fun _ _ h => h); have y3 := unhide HYC _ F3)
          | (go_at_call 97; refine (unhide HEQ _ _ (by exact F3) (by exact hR3)).mono ?_; rintro e w4 ⟨rfl, f4⟩; have F4 := F3.trans f4 (fun _ _ h => h); have y4 := unhide HYC _ F4)))
        all_goals
          have HF4 := hide ((unhide HFq).trans F4 (fun _ _ h => h))
          clear hR2 f2 F2 hR3 f3 F3 f4 F4 y2 y3 y4
          go_wp2_with fail
          go_roundw
          case rel => exact ⟨i + 1, by omega, by omega, by go_num, unhide HST (unhide HLI), by first | exact unhide HF4 | exact (unhide HF4).drewN _⟩
          case measure => simp [intOf]; omega
      · have HLI := hide hli
        have hde : decide (li = M) = false := by simpa using hli
        rw [hde] at HEQ
        clear hli hde
        go_wp2_with fail
        go_region_with ((first
          | (go_at_call 91; refine (unhide HRW _ (by first | exact Fr.ofDrewN _ 1 | exact Fr.ofDrewN _ _)).mono ?_; rintro e w2 ⟨⟨q2, rfl, hR2, -⟩, f2⟩; have F2 := (Fr.ofDrewN (S := fun _ => False) wq 1).trans f2 (fun _ _ h => h); have y2 := unhide HYC _ F2)
          | (go_at_call 94; refine (unhide HSU _ _ (by exact F2) (by exact hR2)).mono ?_; rintro e w3 ⟨⟨g3, rfl, hR3⟩, f3⟩; have F3 := F2.trans f3 (fun _ _ h => h); have y3 := unhide HYC _ F3)
          | (go_at_call 97; refine (unhide HEQ _ _ (by exact F3) (by exact hR3)).mono ?_; rintro e w4 ⟨rfl, f4⟩; have F4 := F3.trans f4 (fun _ _ h => h); have y4 := unhide HYC _ F4)))
        all_goals
          have HF4 := hide ((unhide HFq).trans F4 (fun _ _ h => h))
          clear hR2 f2 F2 hR3 f3 F3 f4 F4 y2 y3 y4
          go_wp2_with fail
          go_ret2
          exact ⟨by rw [unhide HBD (unhide HLI)]; rfl, by first | exact unhide HF4 | exact (unhide HF4).drewN _⟩
    · have hia : i = a := by omega
      subst hia
      have g1 : decide ((i : Int) < (i : Int)) = false := by simp
      have HT := hide ht
      have Hf := hide hf
      clear ht hf
      go_wp2_with fail
      go_quiet (fail)
      go_wp2_with fail
      go_ret2
      have e : chB k m ls n = true := by
        unfold chB
        simp only [decide_eq_true_eq]
        have h := unhide HT
        have hA := unhide HA
        rwa [List.take_of_length_le (by rw [List.length_drop, unhide HLL]; omega), List.take_of_length_le (by rw [encL_length]; omega)] at h
      rw [e]
      exact ⟨rfl, (unhide Hf).drewN _⟩

end Go.Proofs.Ytckmddkhkdcmmaa

namespace Go.Proofs.Ytckmddkhkdcmmaa
set_option linter.unusedVariables false
set_option linter.unusedSimpArgs false
open Go.RowKit
set_option linter.unusedVariables false

attribute [local go_sem ↓] Go.wp_at_zero Go.wp_at_succ

/-- A list under way by append: all in new memory. -/
structure AL (N : Nat) (w : World) (v : Value) (ls : List (List UInt8)) : Prop where
  ex : ∃ vs : List Value, w.ownsRow 0 22 1 v vs.length vs ∧ vs.length = ls.length ∧ ∀ (i : Nat) (x : Value) (l : List UInt8), vs[i]? = some x → ls[i]? = some l → Rd w x l ∧ Wb N w x
  new : ∀ b, v.ownBlock = some b → N ≤ b

theorem AL.kept {N : Nat} {w w' : World} {v : Value} {ls : List (List UInt8)} (h : AL N w v ls) (f : Fr (fun _ => False) w w') : AL N w' v ls := by
  obtain ⟨vs, h1, h2, h3⟩ := h.ex
  exact ⟨⟨vs, owns_kept h1 f (fun _ _ h => h), h2, fun i x l hx hl => ⟨(h3 i x l hx hl).1.kept f (fun _ _ h => h), (h3 i x l hx hl).2.kept f⟩⟩, h.new⟩

theorem AL.nil (N : Nat) (w : World) : AL N w (.slice none 0 0) [] := ⟨⟨[], owns_nilE w 22, rfl, fun i x l hx => by simp at hx⟩, fun b hb => by simp [Value.ownBlock] at hb⟩

theorem AL.shape {N : Nat} {w : World} {v : Value} {ls : List (List UInt8)} (h : AL N w v ls) : ∃ ao cap, v = .slice ao ls.length cap := by
  obtain ⟨vs, h1, h2, h3⟩ := h.ex
  rw [← h2]
  exact owns_shape h1

theorem AL.ln {N : Nat} {w : World} {v : Value} {ls : List (List UInt8)} (h : AL N w v ls) : LN N w v ls := by
  obtain ⟨vs, h1, h2, h3⟩ := h.ex
  exact ⟨vs, RdV.of_owns h1, h2, h3, fun b hb => ⟨h.new b hb, owns_ty h1 hb⟩⟩

/-- One more is appended. -/
theorem AL.app {N : Nat} {w w' : World} {ao ao' : Option Addr} {n ac ac' : Nat} {ls : List (List UInt8)} (vs : List Value) (h1 : w.ownsRow 0 22 1 (.slice ao n ac) vs.length vs) (h2 : vs.length = ls.length) (h3 : ∀ (i : Nat) (x : Value) (l : List UInt8), vs[i]? = some x → ls[i]? = some l → Rd w x l ∧ Wb N w x) (hnew : ∀ b, (Value.slice ao n ac).ownBlock = some b → N ≤ b) (x : Value) (l : List UInt8) (hx : Rd w x l) (hb : Wb N w x) (hN : N ≤ w.heap.size)
    (ho : w'.ownsRow 0 22 1 (.slice ao' (n + 1) ac') (n + 1) (vs ++ [x])) (hg : (w.alloc (Obj.cells #[x] 22)).grownBy w' (Value.slice ao n ac).ownBlock)
    (hp : (Value.slice ao' (n + 1) ac').ownBlock = (Value.slice ao n ac).ownBlock ∨ ∃ k, (Value.slice ao' (n + 1) ac').ownBlock = some k ∧ (w.alloc (Obj.cells #[x] 22)).heap.size ≤ k) :
    AL N w' (.slice ao' (n + 1) ac') (ls ++ [l]) ∧ Fr (fun k => (Value.slice ao n ac).ownBlock = some k) w w' := by
  have hn : n = vs.length := by
    obtain ⟨a, c, e⟩ := owns_shape h1
    simp only [Value.slice.injEq] at e
    exact e.2.1
  have f : Fr (fun k => (Value.slice ao n ac).ownBlock = some k) w w' := Fr.grown (S := fun k => (Value.slice ao n ac).ownBlock = some k) (w := w.alloc _) ((Fr.refl _ _).alloc _) hg (fun k hk e => e)
  have key : ∀ y l', Rd w y l' → Wb N w y → Rd w' y l' ∧ Wb N w' y := by
    intro y l' r1 r2
    have hne : ∀ b, y.ownBlock = some b → ¬ (Value.slice ao n ac).ownBlock = some b := fun b hb' e => TyAt.ne (r2 b hb').2 (owns_ty h1 e) (by decide) rfl
    refine ⟨r1.kept f hne, fun b hb' => ⟨(r2 b hb').1, ?_⟩⟩
    obtain ⟨cs, hcs⟩ := (r2 b hb').2
    exact ⟨cs, by rw [f.block b (lt_of_heap hcs) (hne b hb')]; exact hcs⟩
  refine ⟨⟨⟨vs ++ [x], ?_, by simp [h2], ?_⟩, ?_⟩, f⟩
  · have := ho
    rwa [List.length_append, ← hn]
  · intro i y l' hy hl'
    by_cases e : i < vs.length
    · rw [List.getElem?_append_left e] at hy
      rw [List.getElem?_append_left (by rw [← h2]; exact e)] at hl'
      exact key y l' (h3 i y l' hy hl').1 (h3 i y l' hy hl').2
    · rw [List.getElem?_append_right (by omega)] at hy
      rw [List.getElem?_append_right (by rw [← h2]; omega)] at hl'
      have hi := (List.getElem?_eq_some_iff.1 hy).1
      simp at hi
      have h0 : i - vs.length = 0 := by omega
      rw [h0] at hy
      rw [← h2, h0] at hl'
      simp at hy hl'
      subst hy hl'
      exact key x l hx hb
  · intro b hb'
    rcases hp with e | ⟨k, e, hk⟩
    · rw [e] at hb'; exact hnew b hb'
    · rw [e] at hb'
      simp at hb' hk
      omega

theorem own_len (ao : Option Addr) (n c n' c' : Nat) : (Value.slice ao n c).ownBlock = (Value.slice ao n' c').ownBlock := by cases ao <;> rfl

theorem owns_cap {w : World} {e : TypeId} {ao : Option Addr} {n m cap : Nat} {xs : List Value} (h : w.ownsRow 0 e 1 (.slice ao n cap) m xs) : n ≤ cap := by
  rcases h.2 with ⟨hv, -⟩ | ⟨g, cap', cur, hv, -, -, hnc, -⟩
  · simp only [Value.slice.injEq] at hv
    omega
  · simp only [Value.slice.injEq] at hv
    omega

theorem grown_fr {wr W w1 : World} {row : Option Nat} (hW : Fr (fun _ => False) wr W) (hg : W.grownBy w1 row) (hrow : ∀ k, row = some k → wr.heap.size ≤ k) : Fr (fun _ => False) wr w1 :=
  hW.grown hg (fun k hk e => absurd (hrow k e) (by omega))

theorem e_a (w : World) (o : Obj) (fr : Nat × Nat) (cs : Array Value) (t : TypeId) (ho : o = .cells cs t fr) : (w.alloc o).heap[w.heap.size]? = some (.cells cs t fr) := by subst ho; exact heap_alloc_new w _
theorem e_b (w : World) (o u : Obj) : ((w.alloc o).alloc u).heap[w.heap.size]? = some o := by
  rw [Below.heap_alloc _ _ _ (by simp)]; exact heap_alloc_new w _
theorem e_c (w : World) (o u : Obj) : ((w.alloc o).alloc u).heap[w.heap.size + 1]? = some u := by
  have := heap_alloc_new (w.alloc o) u
  simpa using this

theorem nine_sr {w : World} {b : Nat} (h : w.heap[b]? = some (.cells #[.int .u8 9, .int .u8 9] 5 (0, 0))) : Sr w 1 (.slice (some ⟨b, 0, none⟩) 2 2) 2 (bvs [9, 9]) := by
  refine .inr ⟨_, _, rfl, rfl, fun j u hu => ?_⟩
  rw [Addr.add_lit, Nat.zero_add, cell_of_heap h]
  simpa [bvs] using hu

theorem Rd.takeN {w : World} {ao : Option Addr} {n cap : Nat} {D : List UInt8} (h : Rd w (.slice ao n cap) D) (a : Nat) (ha : a ≤ D.length) : Rd w (.slice ao a cap) (D.take a) := by
  have hl : (D.take a).length = a := by simp; omega
  rcases h with ⟨hv, rfl⟩ | ⟨ad, cap', hv, h1, h2, h3⟩
  · simp at ha
    subst ha
    simp only [Value.slice.injEq] at hv
    obtain ⟨rfl, -, rfl⟩ := hv
    exact .inl ⟨rfl, by simp⟩
  · simp only [Value.slice.injEq] at hv
    obtain ⟨rfl, -, rfl⟩ := hv
    refine .inr ⟨ad, cap, by rw [hl], by omega, h2, fun j hj => ?_⟩
    rw [hl] at hj
    rw [h3 j (by omega)]
    simp

set_option maxHeartbeats 4000000 in
set_option maxRecDepth 100000 in
theorem lent_any (w : World) (v : Value) (ls : List (List UInt8)) (h : RdL w v ls) (hl : ls.length ≤ 100) (hb : ∀ l ∈ ls, l.length ≤ 9000) :
    Calls Try.prog 44 #[v] w fun e w' => (∃ ao ac, e = .returned (.slice ao ls.length ac) ∧ LN w.heap.size w' (.slice ao ls.length ac) ls) ∧ Fr (fun _ => False) w w' := by
  have H := hide h
  obtain ⟨vo, vc, rfl⟩ := h.shape
  have HB := hide hb
  clear h hb
  obtain ⟨inf, hi0, hz0, hz1, hz2⟩ := info_parts Try.info22
  obtain ⟨inf5, hi5, hy0, hy1, hy2⟩ := info_parts Try.info5
  go_enter Try.func44, Try.ntmps44
  go_wp2_with fail
  go_loopw [3, 4] (fun hx x w' => ∃ i : Nat, i ≤ ls.length ∧ x = .int .i64 (i : Int) ∧ (∃ ao ac, hx = .slice ao i ac ∧ AL w.heap.size w' (.slice ao i ac) (ls.take i)) ∧ Fr (fun _ => False) w w') (fun _ x _ => ls.length - (intOf x).toNat)
  case atStart => exact ⟨0, by omega, rfl, ⟨none, 0, rfl, by simpa using AL.nil w.heap.size w⟩, Fr.refl _ _⟩
  case round =>
    obtain ⟨i, hi, rfl, ⟨ao, ac, rfl, hA⟩, hf⟩ := hrel
    by_cases hlt : i < ls.length
    · obtain ⟨sb, so, xo, xc, rfl, y1, hRx⟩ := ((unhide H).kept hf).get i hlt
      have hle := unhide HB _ (List.getElem_mem hlt)
      have hsb := World.block_lt_of_cell? wr _ y1
      simp only at hsb
      obtain ⟨sb0, so0, _, _, hsb0, z1, -⟩ := (unhide H).get i hlt
      simp only [Option.some.injEq, Addr.mk.injEq] at hsb0
      obtain ⟨rfl, rfl, -⟩ := hsb0
      have hsbw := World.block_lt_of_cell? w _ z1
      simp only at hsbw
      clear z1
      have htk := List.take_succ_eq_append_getElem hlt
      obtain ⟨xl, hxl⟩ : ∃ xl, xl = (ls[i]).length := ⟨_, rfl⟩
      rw [← hxl] at y1 hRx hle
      have HR := hide hRx
      have HA := hide hA
      have Hf := hide hf
      have HT := hide htk
      have HXL := hide hxl
      generalize ls[i] = li at *
      clear hRx hA hf htk hxl
      obtain ⟨vs, hO, hvl, hrows⟩ := (unhide HA).ex
      have hvi : vs.length = i := by rw [hvl, List.length_take]; omega
      have HO := hide (show wr.ownsRow 0 22 1 (.slice ao i ac) i vs by rw [hvi] at hO; exact hO)
      have HYC := hide (show ∀ W, Fr (fun _ => False) wr W → W.cell? ⟨sb, so + i, none⟩ = some (.slice xo xl xc) from fun W f => (f.cell (a := ⟨sb, so + i, none⟩) hsb id).trans y1)
      have HSX := hide (show ∀ W, Fr (fun _ => False) wr W → Sr W 1 (.slice xo xl xc) xl (bvs li) from fun W f => by
        have := Rd.sr (Rd.kept (unhide HR) f (fun _ _ h => h))
        rwa [← unhide HXL] at this)
      have HRO := hide hrows
      have HVI := hide hvi
      have HVL := hide hvl
      clear hO hrows hvi hvl
      go_wp2_with fail
      go_region_held3 (fun W => W.cell? ⟨sb, so + i, none⟩ = some (.slice xo xl xc)) (go_keep) ((first
        | (refine step_app rfl (.tmp 12) (.tmp 16) 22 rfl 5 inf5 _ 1 1 Try.underlying22 hi5 hy0 hy1 hy2 rfl (by decide) (.slice (some ⟨wr.heap.size, 0, none⟩) 0 0) 0 [] (by rfl) (.slice xo xl xc) (by rfl) xl (bvs li) (by exact owns_new (by first | exact e_a wr _ _ _ _ rfl | exact e_b wr _ _)) (by exact unhide HSX _ (by first | exact (Fr.refl _ _).alloc _ | exact ((Fr.refl _ _).alloc _).alloc _ | exact ((Fr.refl _ _).alloc _).drew | exact (Fr.refl _ _).drew.alloc _ | exact (((Fr.refl _ _).alloc _).alloc _).drew | exact (((Fr.refl _ _).alloc _).drew).alloc _ | exact ((Fr.refl _ _).drew.alloc _).alloc _)) (bvs_one _) (by omega) (by simp only [maxLen]; omega) ?_; intro ao1 ac1 w1 o1 g1 p1; simp only [Nat.zero_add, List.nil_append] at o1 p1 ⊢; have f1 := grown_fr (wr := wr) (by first | exact (Fr.refl _ _).alloc _ | exact ((Fr.refl _ _).alloc _).alloc _ | exact ((Fr.refl _ _).alloc _).drew | exact (Fr.refl _ _).drew.alloc _ | exact (((Fr.refl _ _).alloc _).alloc _).drew | exact (((Fr.refl _ _).alloc _).drew).alloc _ | exact ((Fr.refl _ _).drew.alloc _).alloc _) g1 (fun k hk => by simp [Value.ownBlock] at hk; omega); have n1 : ∀ k, (Value.slice ao1 xl ac1).ownBlock = some k → wr.heap.size ≤ k := (by intro k hk; rcases p1 with e | ⟨k', e, hk'⟩; (· rw [e] at hk; simp [Value.ownBlock] at hk; omega); (· rw [e] at hk; simp at hk hk'; omega)); have yy1 := unhide HYC w1 f1; have s1 := f1.size; have hsb1 : sb < w1.heap.size := (by omega))
        | (refine step_app rfl (.tmp 12) (.tmp 16) 22 rfl 5 inf5 _ 1 1 Try.underlying22 hi5 hy0 hy1 hy2 rfl (by decide) (.slice (some ⟨wr.heap.size + 1, 0, none⟩) 0 0) 0 [] (by rfl) (.slice xo xl xc) (by rfl) xl (bvs li) (by exact owns_new (by exact e_c wr _ _)) (by exact unhide HSX _ (by first | exact (Fr.refl _ _).alloc _ | exact ((Fr.refl _ _).alloc _).alloc _ | exact ((Fr.refl _ _).alloc _).drew | exact (Fr.refl _ _).drew.alloc _ | exact (((Fr.refl _ _).alloc _).alloc _).drew | exact (((Fr.refl _ _).alloc _).drew).alloc _ | exact ((Fr.refl _ _).drew.alloc _).alloc _)) (bvs_one _) (by omega) (by simp only [maxLen]; omega) ?_; intro ao1 ac1 w1 o1 g1 p1; simp only [Nat.zero_add, List.nil_append] at o1 p1 ⊢; have f1 := grown_fr (wr := wr) (by first | exact (Fr.refl _ _).alloc _ | exact ((Fr.refl _ _).alloc _).alloc _ | exact ((Fr.refl _ _).alloc _).drew | exact (Fr.refl _ _).drew.alloc _ | exact (((Fr.refl _ _).alloc _).alloc _).drew | exact (((Fr.refl _ _).alloc _).drew).alloc _ | exact ((Fr.refl _ _).drew.alloc _).alloc _) g1 (fun k hk => by simp [Value.ownBlock] at hk; omega); have n1 : ∀ k, (Value.slice ao1 xl ac1).ownBlock = some k → wr.heap.size ≤ k := (by intro k hk; rcases p1 with e | ⟨k', e, hk'⟩; (· rw [e] at hk; simp [Value.ownBlock] at hk; omega); (· rw [e] at hk; simp at hk hk'; omega)); have yy1 := unhide HYC w1 f1; have s1 := f1.size; have hsb1 : sb < w1.heap.size := (by omega))
        | (refine step_app rfl (.tmp 17) (.tmp 18) 22 rfl 5 inf5 _ 1 1 Try.underlying22 hi5 hy0 hy1 hy2 rfl (by decide) (.slice ao1 xl ac1) xl (bvs li) (by rfl) (.slice (some ⟨w1.heap.size, 0, none⟩) 2 2) (by rfl) 2 (bvs [9, 9]) (by first | exact o1.alloc _ | exact o1) (by exact nine_sr (heap_alloc_new w1 _)) (bvs_one _) (by omega) (by simp only [maxLen]; omega) ?_; intro ao2 ac2 w2 o2 g2 p2; have f2 := grown_fr (wr := wr) (by first | exact f1.alloc _ | exact f1 | exact (f1.alloc _).drew | exact f1.drew | exact f1.drew.alloc _) g2 n1; have n2 : ∀ k, (Value.slice ao2 (xl + 2) ac2).ownBlock = some k → wr.heap.size ≤ k := (by intro k hk; rcases p2 with e | ⟨k', e, hk'⟩; (· rw [e] at hk; exact n1 k hk); (· rw [e] at hk; simp at hk hk'; omega)); have yy2 := unhide HYC w2 f2; have s2 := f2.size; have hsb2 : sb < w2.heap.size := (by omega); have hc2 := owns_cap o2; have hc3 : xl ≤ ac2 := (by omega))
        | (refine step_app rfl (.tmp 17) (.tmp 18) 22 rfl 5 inf5 _ 1 1 Try.underlying22 hi5 hy0 hy1 hy2 rfl (by decide) (.slice ao1 xl ac1) xl (bvs li) (by rfl) (.slice (some ⟨wr.heap.size, 0, none⟩) 2 2) (by rfl) 2 (bvs [9, 9]) (by first | exact o1.alloc _ | exact o1) (by exact nine_sr ((g1.block _ (by simp <;> omega) (by simp [Value.ownBlock])).trans (e_b wr _ _))) (bvs_one _) (by omega) (by simp only [maxLen]; omega) ?_; intro ao2 ac2 w2 o2 g2 p2; have f2 := grown_fr (wr := wr) (by first | exact f1.alloc _ | exact f1 | exact (f1.alloc _).drew | exact f1.drew | exact f1.drew.alloc _) g2 n1; have n2 : ∀ k, (Value.slice ao2 (xl + 2) ac2).ownBlock = some k → wr.heap.size ≤ k := (by intro k hk; rcases p2 with e | ⟨k', e, hk'⟩; (· rw [e] at hk; exact n1 k hk); (· rw [e] at hk; simp at hk hk'; omega)); have yy2 := unhide HYC w2 f2; have s2 := f2.size; have hsb2 : sb < w2.heap.size := (by omega); have hc2 := owns_cap o2; have hc3 : xl ≤ ac2 := (by omega))
        | (refine step_app rfl (.tmp 17) (.tmp 18) 22 rfl 5 inf5 _ 1 1 Try.underlying22 hi5 hy0 hy1 hy2 rfl (by decide) (.slice ao1 xl ac1) xl (bvs li) (by rfl) (.slice (some ⟨wr.heap.size + 1, 0, none⟩) 2 2) (by rfl) 2 (bvs [9, 9]) (by first | exact o1.alloc _ | exact o1) (by exact nine_sr ((g1.block _ (by simp <;> omega) (by simp [Value.ownBlock])).trans (e_c wr _ _))) (bvs_one _) (by omega) (by simp only [maxLen]; omega) ?_; intro ao2 ac2 w2 o2 g2 p2; have f2 := grown_fr (wr := wr) (by first | exact f1.alloc _ | exact f1 | exact (f1.alloc _).drew | exact f1.drew | exact f1.drew.alloc _) g2 n1; have n2 : ∀ k, (Value.slice ao2 (xl + 2) ac2).ownBlock = some k → wr.heap.size ≤ k := (by intro k hk; rcases p2 with e | ⟨k', e, hk'⟩; (· rw [e] at hk; exact n1 k hk); (· rw [e] at hk; simp at hk hk'; omega)); have yy2 := unhide HYC w2 f2; have s2 := f2.size; have hsb2 : sb < w2.heap.size := (by omega); have hc2 := owns_cap o2; have hc3 : xl ≤ ac2 := (by omega))
        | (refine step_app rfl (.tmp 11) (.tmp 26) 65 rfl 22 inf _ 1 24 Try.underlying65 hi0 hz0 hz1 hz2 rfl (by decide) (.slice ao i ac) i vs (by rfl) (.slice (some ⟨w2.heap.size, 0, none⟩) 1 1) (by rfl) 1 [.slice ao2 xl ac2] (by exact (owns_kept (unhide HO) f2 (fun _ _ h => h)).alloc _) (by exact one_cellV w2 _ 22) (fun u hu => by simp at hu; subst hu; rfl) (by omega) (by simp only [maxLen]; omega) ?_; intro ao3 ac3 w3 o3 g3 p3; have f3 : Fr (fun k => (Value.slice ao i ac).ownBlock = some k) w2 w3 := Fr.grown (S := fun k => (Value.slice ao i ac).ownBlock = some k) (w := w2.alloc (Obj.cells #[.slice ao2 xl ac2] 22)) ((Fr.refl _ _).alloc _) g3 (fun k hk e => e); have yy3 := (f3.cell (a := ⟨sb, so + i, none⟩) hsb2 (fun e => by have := (unhide HA).new sb e; omega)).trans yy2)))
      all_goals
        have hnR : Rd w2 (.slice ao2 xl ac2) li := by
          have h1 := Rd.of_owns (w := w2) (base := 0) (l := li ++ [9, 9]) (v := .slice ao2 (xl + 2) ac2) (by rw [bvs_append, List.length_append, ← unhide HXL]; exact o2)
          have h2 := h1.takeN xl (by rw [List.length_append, ← unhide HXL]; omega)
          rwa [List.take_append_of_le_length (by rw [← unhide HXL]; omega), List.take_of_length_le (by rw [← unhide HXL]; omega)] at h2
        have hwb : Wb w.heap.size w2 (.slice ao2 xl ac2) := fun b hb => ⟨by have := n2 b ((own_len ao2 _ _ _ _).trans hb); have := (unhide Hf).size; omega, owns_ty o2 ((own_len ao2 _ _ _ _).trans hb)⟩
        have hAL := AL.app (N := w.heap.size) (w := w2) (w' := w3) (ao := ao) (n := i) (ac := ac) (ls := ls.take i) vs (by rw [unhide HVI]; exact owns_kept (unhide HO) f2 (fun _ _ h => h)) (unhide HVL) (fun j x l hx hl => ⟨(unhide HRO j x l hx hl).1.kept f2 (fun _ _ h => h), (unhide HRO j x l hx hl).2.kept f2⟩) (unhide HA).new (.slice ao2 xl ac2) li hnR hwb (by have := (unhide Hf).size; omega) o3 g3 p3
        have HAL := hide hAL.1
        have HF3 := hide ((unhide Hf).trans (f2.trans (T := fun _ => False) (Fr.refl _ _) (fun _ _ h => h)) (fun _ _ h => h))
        have HF4 := hide ((unhide HF3).trans hAL.2 (fun k hk e => by have := (unhide HA).new k e; omega))
        clear hnR hwb hAL o1 g1 p1 o2 g2 p2 o3 g3 p3 f1 f2 f3 n1 n2 yy1 yy2 yy3 HF3
        go_wp2_with fail
        go_roundw
        case rel => exact ⟨i + 1, by omega, by go_num, ⟨ao3, ac3, rfl, by rw [unhide HT]; exact unhide HAL⟩, by first | exact unhide HF4 | exact (unhide HF4).drew⟩
        case measure => simp [intOf]; omega
    · have hie : i = ls.length := by omega
      subst hie
      have HA := hide hA
      have Hf := hide hf
      clear hA hf
      go_wp2_with fail
      go_ret
      have := (unhide HA).ln
      rw [List.take_length] at this
      exact ⟨⟨_, _, rfl, this⟩, unhide Hf⟩

end Go.Proofs.Ytckmddkhkdcmmaa

namespace Go.Proofs.Ytckmddkhkdcmmaa
set_option linter.unusedVariables false
set_option linter.unusedSimpArgs false
open Go.RowKit
set_option linter.unusedVariables false
set_option linter.unusedSimpArgs false

section
variable {ρ : Operand → Value} {o : Oper} {w : World}
theorem ex_f24_0 {x : Operand} {p : Nat} (ho : o.op = .fieldAddr 24 x 0) (hx : ρ x = .pointer (some ⟨p, 0, none⟩)) : (execOp ρ o).run Try.prog w = .ok (.value (.pointer (some ⟨p, 0, none⟩))) w := by
  simp [execOp, ho, hx, go_sem]
theorem ex_f24_1 {x : Operand} {p : Nat} (ho : o.op = .fieldAddr 24 x 1) (hx : ρ x = .pointer (some ⟨p, 0, none⟩)) : (execOp ρ o).run Try.prog w = .ok (.value (.pointer (some ⟨p, 1, none⟩))) w := by
  simp [execOp, ho, hx, go_sem]
theorem ex_f24_2 {x : Operand} {p : Nat} (ho : o.op = .fieldAddr 24 x 2) (hx : ρ x = .pointer (some ⟨p, 0, none⟩)) : (execOp ρ o).run Try.prog w = .ok (.value (.pointer (some ⟨p, 2, none⟩))) w := by
  simp [execOp, ho, hx, go_sem]
theorem ex_load24 {x : Operand} {b of : Nat} {u v z : Value} (ho : o.op = .load 24 x) (hx : ρ x = .pointer (some ⟨b, of, none⟩)) (hc : w.rangeAt b of [u, v, z]) : (execOp ρ o).run Try.prog w = .ok (.value (.agg #[u, v, z])) w := by
  obtain ⟨d, hd, hr⟩ := Try.u24
  have := run_loadAt_mid (P := Try.prog) w b of 24 [u, v, z] d hc hd hr info24_size
  simp [execOp, ho, hx, this]
theorem ex_mulN {x y : Operand} {a b : Nat} (ho : o.op = .binOp .mul 3 x y 3) (hx : ρ x = .int .i64 ((a : Nat) : Int)) (hy : ρ y = .int .i64 ((b : Nat) : Int)) (h : a * b ≤ 1000000) : (execOp ρ o).run Try.prog w = .ok (.value (.int .i64 ((a * b : Nat) : Int))) w := by
  have h1 : IntKind.i64.wrap ((a : Int) * (b : Int)) = ((a * b : Nat) : Int) := by
    have e : (a : Int) * (b : Int) = ((a * b : Nat) : Int) := by simp
    rw [e, IntKind.wrap_i64]; omega
  simp [execOp, ho, hx, hy, go_sem, h1]
theorem ex_addN {x y : Operand} {a b : Nat} (ho : o.op = .binOp .add 3 x y 3) (hx : ρ x = .int .i64 ((a : Nat) : Int)) (hy : ρ y = .int .i64 ((b : Nat) : Int)) (h : a + b ≤ 1000000) : (execOp ρ o).run Try.prog w = .ok (.value (.int .i64 ((a + b : Nat) : Int))) w := by
  have h1 : IntKind.i64.wrap ((a : Int) + (b : Int)) = ((a + b : Nat) : Int) := by
    rw [IntKind.wrap_i64]; omega
  simp [execOp, ho, hx, hy, go_sem, h1]
theorem ex_idx0 {x y : Operand} {b n c k : Nat} (ho : o.op = .indexAddr 22 x y) (hx : ρ x = .slice (some ⟨b, 0, none⟩) n c) (hy : ρ y = .int .i64 ((k : Nat) : Int)) (hk : k < n) : (execOp ρ o).run Try.prog w = .ok (.value (.pointer (some ⟨b, k, none⟩))) w := by
  have := ex_index22 (ρ := ρ) (w := w) ho hx hy hk
  rwa [Nat.zero_add] at this
theorem en_call3 {k : Nat} {x y z : Operand} {t : Array TypeId} {u v p : Value} (ho : o.op = .call { callee := .value (.func k), args := #[x, y, z], argTypes := t }) (hf : ρ (.func k) = .func (.func k) #[] #[]) (hx : ρ x = u) (hy : ρ y = v) (hz : ρ z = p) (hk : ∀ args W, Sem.run Try.prog (callFunc k args) W = .ok (.enter k args) W) : (execOp ρ o).run Try.prog w = .ok (.enter k #[u, v, p]) w := by
  have hk' := hk #[u, v, p] w
  simp [execOp, ho, hf, hx, hy, hz, go_sem, hk']
end
theorem cfv73 (args : Array Value) (W : World) : Sem.run Try.prog (callFunc 73 args) W = .ok (.enter 73 args) W := by simp [go_sem]
theorem cfw72 (args : Array Value) (W : World) : Sem.run Try.prog (callFunc 72 args) W = .ok (.enter 72 args) W := by simp [go_sem]

/-- A matrix in memory: its head at M, its cells at q. -/
structure XAt (w : World) (M q rows cols cap : Nat) (f : Nat → Nat → UInt8) : Prop where
  head : w.heap[M]? = some (.cells #[.int .i64 ((rows : Nat) : Int), .int .i64 ((cols : Nat) : Int), .slice (some ⟨q, 0, none⟩) (rows * cols) cap] 24 (0, 0))
  own : w.ownsRow 0 5 1 (.slice (some ⟨q, 0, none⟩) (rows * cols) cap) (rows * cols) (bvs (fl cols f (rows * cols)))

section
variable {w : World} {M q rows cols cap : Nat} {f : Nat → Nat → UInt8}
theorem XAt.lt (h : XAt w M q rows cols cap f) : M < w.heap.size := lt_of_heap h.head
theorem XAt.ty (h : XAt w M q rows cols cap f) : TyAt w q 5 := owns_ty h.own rfl
theorem XAt.ne (h : XAt w M q rows cols cap f) : M ≠ q := TyAt.ne (show TyAt w M 24 from ⟨_, h.head⟩) h.ty (by decide)
theorem XAt.cell (h : XAt w M q rows cols cap f) (r c : Nat) (hr : r < rows) (hc : c < cols) : w.cell? ⟨q, r * cols + c, none⟩ = some (.int .u8 (((f r c).toNat : Nat) : Int)) ∧ w.frozen? ⟨q, r * cols + c, none⟩ = false ∧ q < w.heap.size := by
  have hlt := flat_lt hr hc
  rcases h.own.2 with ⟨hv, hn⟩ | ⟨g, cap', cur, hv, -, hg, -, -, -, htake⟩
  · simp at hv
  · simp only [Value.slice.injEq, Option.some.injEq, Addr.mk.injEq] at hv
    obtain ⟨⟨rfl, -, -⟩, -, rfl⟩ := hv
    refine ⟨?_, frozen_of_heap hg _, lt_of_heap hg⟩
    rw [cell_of_heap hg, ← Array.getElem?_toList]
    have e : (bvs (fl cols f (rows * cols)))[r * cols + c]? = cur.toList[r * cols + c]? := by
      rw [← htake, List.getElem?_take_of_lt (by omega)]
    rw [← e, bvs_get _ _ (by rw [fl_length]; exact hlt), fl_at f hr hc]
theorem XAt.kept {S : Nat → Prop} {w' : World} (h : XAt w M q rows cols cap f) (k : Fr S w w') (h1 : ¬ S M) (h2 : ¬ S q) : XAt w' M q rows cols cap f :=
  ⟨by rw [k.block M h.lt h1]; exact h.head, owns_kept h.own k (fun b hb => by simp [Value.ownBlock] at hb; subst hb; exact h2)⟩
theorem XAt.keptF {w' : World} (h : XAt w M q rows cols cap f) (k : Fr (fun _ => False) w w') : XAt w' M q rows cols cap f := h.kept k id id
theorem XAt.congr {g : Nat → Nat → UInt8} (h : XAt w M q rows cols cap f) (hc : 0 < cols) (e : ∀ r c, r < rows → c < cols → f r c = g r c) : XAt w M q rows cols cap g :=
  ⟨h.head, by rw [← fl_congr hc e]; exact h.own⟩
theorem XAt.set (h : XAt w M q rows cols cap f) (r c : Nat) (x : UInt8) (hr : r < rows) (hc : c < cols) : XAt (w.setCell ⟨q, r * cols + c, none⟩ (.int .u8 ((x.toNat : Nat) : Int))) M q rows cols cap (upd f r c x) := by
  have hlt := flat_lt hr hc
  have hne := h.ne
  refine ⟨?_, ?_⟩
  · have f1 : Fr (fun k => k = q) w (w.setCell ⟨q, r * cols + c, none⟩ (.int .u8 ((x.toNat : Nat) : Int))) := (Fr.refl (fun k => k = q) w).setCell (p := ⟨q, r * cols + c, none⟩) (fun _ => rfl) _
    rw [f1.block M h.lt hne]; exact h.head
  · rcases h.own with ⟨h1, h2⟩
    rcases h2 with ⟨hv, hn⟩ | ⟨g, cap', cur, hv, hb, hg, h3, h4, h5, htake⟩
    · simp at hv
    · simp only [Value.slice.injEq, Option.some.injEq, Addr.mk.injEq] at hv
      obtain ⟨⟨rfl, -, -⟩, -, rfl⟩ := hv
      refine ⟨by simp [bvs_length, fl_length], .inr ⟨q, cap, _, rfl, hb, heap_setCell_same w q _ _ 5 _ hg, h3, h4, by simpa using h5, ?_⟩⟩
      rw [Array.toList_setIfInBounds, List.take_set, htake, ← fl_set cols f (rows * cols) r c x hc]
      unfold bvs
      rw [List.map_set]
/-- What every later world knows of it. -/
theorem XAt.facts (h : XAt w M q rows cols cap f) : ∀ W, Fr (fun _ => False) w W → W.cell? ⟨M, 0, none⟩ = some (.int .i64 ((rows : Nat) : Int)) ∧ W.cell? ⟨M, 1, none⟩ = some (.int .i64 ((cols : Nat) : Int)) ∧ W.cell? ⟨M, 2, none⟩ = some (.slice (some ⟨q, 0, none⟩) (rows * cols) cap) ∧ W.rangeAt M 0 [.int .i64 ((rows : Nat) : Int), .int .i64 ((cols : Nat) : Int), .slice (some ⟨q, 0, none⟩) (rows * cols) cap] := by
  intro W k
  have h2 := (h.keptF k).head
  refine ⟨by rw [cell_of_heap h2]; rfl, by rw [cell_of_heap h2]; rfl, by rw [cell_of_heap h2]; rfl, fun j v hv => ?_⟩
  rw [Nat.zero_add, cell_of_heap h2]
  simpa using hv
end
end Go.Proofs.Ytckmddkhkdcmmaa
