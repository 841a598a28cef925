/-
  The document's disk in memory; the walks of its in, Zeros, hurt, Read, Fail.
-/
import Derived.Test.YtdhendcogjhgfaaD20
import Derived.Test.YtdhendcogjhgfaaD24
namespace Go.Proofs.Ytdhendcogjhgfaa
open Go.RowKit
set_option linter.unusedVariables false

attribute [local go_sem ↓] Go.wp_at_zero Go.wp_at_succ

def stV (S : List (List UInt8 × UInt8)) : List Value := S.map fun s => .string (str s.1)
def huV (S : List (List UInt8 × UInt8)) : List Value := S.map fun s => .int .i64 ((s.2.toNat : Nat) : Int)

/-- The document's disk in memory: p the struct, sg the sectors, hg the injuries, qv the queue. -/
structure RAt (w : World) (p sg hg : Nat) (qv : Value) (d : Dk) : Prop where
  heap : w.heap[p]? = some (.cells #[.slice (some ⟨sg, 0, none⟩) d.S.length d.S.length, .slice (some ⟨hg, 0, none⟩) d.S.length d.S.length, qv, .bool d.off, .int .i64 (d.n : Int), .int .i64 (d.size : Int)] 81 (0, 0))
  strs : w.heap[sg]? = some (.cells (stV d.S).toArray 9 (0, 0))
  hurt : w.heap[hg]? = some (.cells (huV d.S).toArray 3 (0, 0))
  queue : w.ownsRow 0 55 2 qv d.Q.length (sF (quL d))
  ok : d.Ok

theorem RAt.core {w : World} {p sg hg : Nat} {qv : Value} {d e : Dk} (h : RAt w p sg hg qv d) (hc : core e = core d) (ok : e.Ok) : RAt w p sg hg qv e := by
  obtain ⟨z, S, Q, o, n, c, r⟩ := d
  obtain ⟨z', S', Q', o', n', c', r'⟩ := e
  simp only [Go.Proofs.Ytdhendcogjhgfaa.core, Dk.mk.injEq, and_true] at hc
  obtain ⟨rfl, rfl, rfl, rfl, rfl⟩ := hc
  exact ⟨h.heap, h.strs, h.hurt, h.queue, ok⟩

theorem RAt.kept {T : Nat → Prop} {w w' : World} {p sg hg : Nat} {qv : Value} {d : Dk} (h : RAt w p sg hg qv d) (f : Fr T w w') (hp : ¬ T p) (hs : ¬ T sg) (hh : ¬ T hg) (hq : ∀ b, qv.ownBlock = some b → ¬ T b) : RAt w' p sg hg qv d :=
  ⟨by rw [f.block p (lt_of_heap h.heap) hp]; exact h.heap, by rw [f.block sg (lt_of_heap h.strs) hs]; exact h.strs, by rw [f.block hg (lt_of_heap h.hurt) hh]; exact h.hurt, owns_kept h.queue f hq, h.ok⟩

theorem RAt.kept0 {w w' : World} {p sg hg : Nat} {qv : Value} {d : Dk} (h : RAt w p sg hg qv d) (f : Fr (fun _ => False) w w') : RAt w' p sg hg qv d := h.kept f id id id (fun _ _ h => h)

/-- No two of its blocks are one. -/
theorem RAt.ne {w : World} {p sg hg : Nat} {qv : Value} {d : Dk} (h : RAt w p sg hg qv d) : p ≠ sg ∧ p ≠ hg ∧ sg ≠ hg ∧ ∀ b, qv.ownBlock = some b → b ≠ p ∧ b ≠ sg ∧ b ≠ hg := by
  have h1 := h.heap
  have h2 := h.strs
  have h3 := h.hurt
  refine ⟨?_, ?_, ?_, fun b hb => ?_⟩
  · rintro rfl; rw [h2] at h1; simp at h1
  · rintro rfl; rw [h3] at h1; simp at h1
  · rintro rfl; rw [h3] at h2; simp at h2
  · rcases h.queue.2 with ⟨hv, -⟩ | ⟨g, cap, cur, hv, -, hg', -⟩
    · rw [hv] at hb; simp [Value.ownBlock] at hb
    · rw [hv] at hb
      simp [Value.ownBlock] at hb
      subst hb
      refine ⟨?_, ?_, ?_⟩
      · rintro rfl; rw [hg'] at h1; simp at h1
      · rintro rfl; rw [hg'] at h2; simp at h2
      · rintro rfl; rw [hg'] at h3; simp at h3

/-- The document's disk goes on. -/
structure RSt (w w' : World) (p sg hg : Nat) (qv : Value) (d' : Dk) : Prop where
  ex : ∃ qv', RAt w' p sg hg qv' d' ∧ ∀ b, qv'.ownBlock = some b → qv.ownBlock = some b ∨ w.heap.size ≤ b
  fr : Fr (fun k => k = p ∨ k = sg ∨ k = hg ∨ qv.ownBlock = some k) w w'

theorem RSt.same {w : World} {p sg hg : Nat} {qv : Value} {d : Dk} (h : RAt w p sg hg qv d) : RSt w w p sg hg qv d := ⟨⟨qv, h, fun b hb => .inl hb⟩, Fr.refl _ _⟩

theorem RAt.stc {w : World} {p sg hg : Nat} {qv : Value} {d : Dk} (h : RAt w p sg hg qv d) (i : Nat) (hi : i < d.S.length) : w.cell? ⟨sg, i, none⟩ = some (.string (str (d.S[i]).1)) := by
  rw [cell_of_heap h.strs]; simp [stV, hi]
theorem RAt.hrt {w : World} {p sg hg : Nat} {qv : Value} {d : Dk} (h : RAt w p sg hg qv d) (i : Nat) (hi : i < d.S.length) : w.cell? ⟨hg, i, none⟩ = some (.int .i64 (((d.S[i]).2.toNat : Nat) : Int)) := by
  rw [cell_of_heap h.hurt]; simp [huV, hi]
theorem RAt.wr {w : World} {p sg hg : Nat} {qv : Value} {d : Dk} (h : RAt w p sg hg qv d) (i : Nat) (hi : i < d.Q.length) : ∃ g cap, qv = .slice (some ⟨g, 0, none⟩) d.Q.length cap ∧ d.Q.length ≤ cap ∧ cap ≤ maxLen ∧ w.cell? ⟨g, i * 2, none⟩ = some (.int .i64 ((d.Q[i]).1 : Int)) ∧ w.cell? ⟨g, i * 2 + 1, none⟩ = some (.string (str (d.Q[i]).2)) := by
  obtain ⟨g, cap, rfl, h1, h2⟩ := owns_lit h.queue (by omega)
  have hl : (quL d).length = d.Q.length := by simp [quL]
  have hlen := sF_len (quL d)
  rw [hl] at hlen
  refine ⟨g, cap, rfl, h1, h2, ?_, ?_⟩
  · rw [owns_cells h.queue _ (by omega), sF_get0 _ i (by omega)]
    simp [quL]
  · rw [owns_cells h.queue _ (by omega), sF_get1 _ i (by omega)]
    simp [quL]

section
variable (w : World) (p sg hg : Nat) (qv : Value) (d : Dk)

theorem rin_any (a : Int) (h : RAt w p sg hg qv d) : Calls Try.prog 60 #[.pointer (some ⟨p, 0, none⟩), .int .i64 a] w fun e w' => e = .returned (.bool (hasB d a)) ∧ w = w' := by
  have c0 := cell_of_heap h.heap 0
  simp at c0
  clear h
  unfold hasB
  by_cases h0 : 0 ≤ a
  · have b1 : decide (0 ≤ a) = true := by simpa using h0
    rw [b1]
    go_enter Try.func60, Try.ntmps60
    go_wp2_with fail
    go_ret
    exact ⟨rfl, rfl⟩
  · have b1 : decide (0 ≤ a) = false := by simpa using h0
    rw [b1]
    go_enter Try.func60, Try.ntmps60
    go_wp2_with fail
    go_ret
    exact ⟨rfl, rfl⟩

theorem rzeros_any (w : World) (n : Nat) (hn : n ≤ 100000) : Calls Try.prog 40 #[.int .i64 (n : Int)] w fun e w' => e = .returned (.string (str (List.replicate n 0))) ∧ Fr (fun _ => False) w w' := by
  obtain ⟨w1, hmk, hB1, hf1⟩ := mk_any w n hn
  have hr := hB1.rd (by simp [maxLen]; omega)
  rw [List.length_replicate] at hr
  have k1 := conv_rd (P := Try.prog) hr 36 9 5 Try.underlying36 Try.underlying5 Try.underlying9
  have HF1 := hide hf1
  generalize str (List.replicate n 0) = zs at *
  clear hB1 hf1 hr
  go_enter Try.func40, Try.ntmps40
  go_wp2_with fail
  go_ret
  exact ⟨rfl, unhide HF1⟩

set_option maxHeartbeats 1000000 in
theorem rhurt_any (a : Int) (r : Bool) (h : RAt w p sg hg qv d) : Calls Try.prog 59 #[.pointer (some ⟨p, 0, none⟩), .int .i64 a, .bool r] w fun e w' => e = .returned (.int .i64 (reE d a r)) ∧ w = w' := by
  have HH := hide (rin_any w p sg hg qv d a h)
  have c1 := cell_of_heap h.heap 1
  have c3 := cell_of_heap h.heap 3
  simp at c1 c3
  unfold reE
  rcases hb : hasB d a with _ | _
  · rw [hb] at HH
    simp only [Bool.false_and, Bool.false_eq_true, if_false]
    clear h hb
    go_enter Try.func59, Try.ntmps59
    go_wp2_with (go_at_call 60; refine (unhide HH).mono ?_; rintro e w' ⟨rfl, rfl⟩)
    go_ret
    exact ⟨rfl, rfl⟩
  · rw [hb] at HH
    obtain ⟨i, rfl, hi⟩ := hasB_iff.1 hb
    rcases r with _ | _
    · simp only [Bool.and_false, Bool.false_eq_true, if_false]
      clear h hb
      go_enter Try.func59, Try.ntmps59
      go_wp2_with (go_at_call 60; refine (unhide HH).mono ?_; rintro e w' ⟨rfl, rfl⟩)
      go_ret
      exact ⟨rfl, rfl⟩
    · simp only [Bool.and_true, if_true]
      rcases ho : d.off with _ | _
      · rw [ho] at c3
        have r2 := h.hrt i hi
        have hgd : d.S.getD i ([], 0) = d.S[i] := by simp [List.getD, hi]
        simp only [Bool.false_eq_true, if_false, Int.toNat_natCast, hgd]
        generalize d.S[i] = s at *
        have hlen := h.ok.len
        by_cases hs : s.2 = 0
        · rw [if_pos hs]
          have e1 : ((s.2.toNat : Nat) : Int) = 0 := by rw [hs]; rfl
          rw [e1] at r2
          clear h hb ho hgd hs e1
          go_enter Try.func59, Try.ntmps59
          go_wp2_with (go_at_call 60; refine (unhide HH).mono ?_; rintro e w' ⟨rfl, rfl⟩)
          go_ret
          exact ⟨rfl, rfl⟩
        · rw [if_neg hs]
          have e1 : (((s.2.toNat : Nat) : Int) != 0) = true := by
            simp only [bne_iff_ne, ne_eq]
            intro e
            have e' : s.2.toNat = 0 := by omega
            exact hs (UInt8.toNat_inj.1 e')
          generalize hhv : ((s.2.toNat : Nat) : Int) = hv at *
          clear h hb ho hgd hs hhv
          go_enter Try.func59, Try.ntmps59
          go_wp2_with (go_at_call 60; refine (unhide HH).mono ?_; rintro e w' ⟨rfl, rfl⟩)
          go_ret
          exact ⟨rfl, rfl⟩
      · rw [ho] at c3
        simp only [if_true]
        clear h hb ho
        go_enter Try.func59, Try.ntmps59
        go_wp2_with (go_at_call 60; refine (unhide HH).mono ?_; rintro e w' ⟨rfl, rfl⟩)
        go_ret
        exact ⟨rfl, rfl⟩

theorem rdD_some {d : Dk} {x j : Nat} (hx : hasB d (x : Int) = true) (ho : d.off = false) (hl : lastI d.Q (x : Int) d.Q.length = some j) : rdD d (x : Int) = ((d.Q.getD j (0, [])).2, 0) := by
  unfold rdD
  rw [if_pos hx, if_neg (by rw [ho]; decide), hl]
theorem rdD_lost {d : Dk} {x : Nat} (hx : hasB d (x : Int) = true) (ho : d.off = false) (hl : lastI d.Q (x : Int) d.Q.length = none) (h : (d.S.getD x ([], 0)).2 = 1) : rdD d (x : Int) = ([], 42) := by
  unfold rdD
  rw [if_pos hx, if_neg (by rw [ho]; decide), hl]
  simp only [Int.toNat_natCast]
  rw [if_pos h]
theorem rdD_there {d : Dk} {x : Nat} (hx : hasB d (x : Int) = true) (ho : d.off = false) (hl : lastI d.Q (x : Int) d.Q.length = none) (h : ¬ (d.S.getD x ([], 0)).2 = 1) : rdD d (x : Int) = ((d.S.getD x ([], 0)).1, 0) := by
  unfold rdD
  rw [if_pos hx, if_neg (by rw [ho]; decide), hl]
  simp only [Int.toNat_natCast]
  rw [if_neg h]

set_option maxHeartbeats 1000000 in
theorem rread_any (a : Int) (h : RAt w p sg hg qv d) : Calls Try.prog 48 #[.pointer (some ⟨p, 0, none⟩), .int .i64 a] w fun e w' => e = .returned (.tuple #[.string (str (rdD d a).1), .int .i64 (rdD d a).2]) ∧ w = w' := by
  have HH := hide (rin_any w p sg hg qv d a h)
  have c0 := cell_of_heap h.heap 0
  have c1 := cell_of_heap h.heap 1
  have c2 := cell_of_heap h.heap 2
  have c3 := cell_of_heap h.heap 3
  simp at c0 c1 c2 c3
  have hroom := h.ok.room
  have hlen := h.ok.len
  rcases hb : hasB d a with _ | _
  · rw [hb] at HH
    have e0 : rdD d a = ([], 2) := by unfold rdD; rw [hb]; rfl
    rw [e0]
    clear h hb
    go_enter Try.func48, Try.ntmps48
    go_wp2_with (go_at_call 60; refine (unhide HH).mono ?_; rintro e w' ⟨rfl, rfl⟩)
    go_ret2
    exact ⟨rfl, rfl⟩
  · rw [hb] at HH
    obtain ⟨x, rfl, hx⟩ := hasB_iff.1 hb
    rcases ho : d.off with _ | _
    · rw [ho] at c3
      obtain ⟨qo, qc, rfl⟩ := owns_shape h.queue
      have H := hide h
      have r1 := h.stc x hx
      have r2 := h.hrt x hx
      have hgd : d.S.getD x ([], 0) = d.S[x] := by simp [List.getD, hx]
      have R1 := hide (fun j => rdD_some (j := j) hb ho)
      have R2 := hide (rdD_lost hb ho)
      have R3 := hide (rdD_there hb ho)
      rw [hgd] at R2 R3
      generalize d.S[x] = s at *
      generalize rdD d (x : Int) = R at *
      clear h hb ho hgd
      go_enter Try.func48, Try.ntmps48
      go_wp2_with (go_at_call 60; refine (unhide HH).mono ?_; rintro e w' ⟨rfl, rfl⟩)
      go_loopw [6] (fun y w' => ∃ i : Nat, i ≤ d.Q.length ∧ y = .int .i64 ((i : Int) - 1) ∧ lastI d.Q (x : Int) d.Q.length = lastI d.Q (x : Int) i ∧ w = w') (fun y _ => (intOf y + 1).toNat)
      case atStart => exact ⟨d.Q.length, by omega, by go_num, rfl, rfl⟩
      case round =>
        obtain ⟨i, hi, rfl, hl, rfl⟩ := hrel
        have HL := hide hl
        clear hl
        rcases i with _ | j
        · by_cases hs : s.2 = 1
          · have e1 : ((s.2.toNat : Nat) : Int) = 1 := by rw [hs]; rfl
            rw [e1] at r2
            have HS := hide hs
            clear hs e1
            go_wp2_with fail
            go_ret2
            rw [unhide R2 (unhide HL) (unhide HS)]
            exact ⟨rfl, rfl⟩
          · have e1 : (((s.2.toNat : Nat) : Int) == 1) = false := by
              simp only [beq_eq_false_iff_ne, ne_eq]
              intro e
              have e' : s.2.toNat = 1 := by omega
              exact hs (UInt8.toNat_inj.1 e')
            generalize hhv : ((s.2.toNat : Nat) : Int) = hv at *
            have HS := hide hs
            generalize hst : str s.1 = ss at *
            have HSS := hide hst
            clear hs hhv hst
            go_wp2_with fail
            go_ret2
            rw [unhide R3 (unhide HL) (unhide HS)]
            refine ⟨?_, rfl⟩
            rw [unhide HSS]
            rfl
        · have hj : j < d.Q.length := by omega
          obtain ⟨g, cap, hv, h1, h2, y1, y2⟩ := (unhide H).wr j hj
          simp only [Value.slice.injEq] at hv
          obtain ⟨rfl, -, rfl⟩ := hv
          have ej : (((j + 1 : Nat) : Int) - 1) = (j : Int) := by omega
          rw [ej]
          have hgd : d.Q.getD j (0, []) = d.Q[j] := by simp [List.getD, hj]
          have hst : lastI d.Q (x : Int) (j + 1) = if ((d.Q[j]).1 : Int) = (x : Int) then some j else lastI d.Q (x : Int) j := by
            show (if ((d.Q.getD j (0, [])).1 : Int) = (x : Int) then some j else lastI d.Q (x : Int) j) = _
            rw [hgd]
          have HST := hide hst
          have HGD := hide hgd
          generalize d.Q[j] = q at *
          have hjc : j < qc := by omega
          clear hst hgd ej
          by_cases he : (q.1 : Int) = (x : Int)
          · have b1 : ((q.1 : Int) == (x : Int)) = true := by simpa using he
            have R4 := hide (unhide R1 j (by rw [unhide HL, unhide HST, if_pos he]))
            generalize hsq : str q.2 = ss at *
            have HSQ := hide hsq
            clear hsq he
            go_wp2_with fail
            go_ret2
            rw [unhide R4, unhide HGD]
            refine ⟨?_, rfl⟩
            rw [unhide HSQ]
            rfl
          · have b1 : ((q.1 : Int) == (x : Int)) = false := by simpa using he
            go_wp2_with fail
            exact ⟨⟨j, by omega, rfl, by rw [unhide HL, unhide HST, if_neg he], trivial⟩, by simp [intOf]⟩
    · rw [ho] at c3
      have e0 : rdD d (x : Int) = ([], 41) := by unfold rdD; rw [if_pos hb, ho]; rfl
      rw [e0]
      clear h hb ho
      go_enter Try.func48, Try.ntmps48
      go_wp2_with (go_at_call 60; refine (unhide HH).mono ?_; rintro e w' ⟨rfl, rfl⟩)
      go_ret2
      exact ⟨rfl, rfl⟩

theorem rfail_any (h : RAt w p sg hg qv d) : Calls Try.prog 44 #[.pointer (some ⟨p, 0, none⟩)] w fun e w' => e = .returned (.tuple #[]) ∧ RSt w w' p sg hg qv (faD d) := by
  have c2 := cell_of_heap h.heap 2
  have c3 := cell_of_heap h.heap 3
  have z2 := frozen_of_heap h.heap 2
  have z3 := frozen_of_heap h.heap 3
  simp at c2 c3
  obtain ⟨n1, n2, n3, n4⟩ := h.ne
  have h1 := heap_setCell_same w p 3 _ 81 (.bool true) h.heap
  have h2 := heap_setCell_same _ p 2 _ 81 (.slice none 0 0) h1
  have hK : RSt w ((w.setCell ⟨p, 3, none⟩ (.bool true)).setCell ⟨p, 2, none⟩ (.slice none 0 0)) p sg hg qv (faD d) := by
    have f : Fr (fun k => k = p) w ((w.setCell ⟨p, 3, none⟩ (.bool true)).setCell ⟨p, 2, none⟩ (.slice none 0 0)) := ((Fr.refl (fun k => k = p) w).setCell (p := ⟨p, 3, none⟩) (fun _ => rfl) _).setCell (p := ⟨p, 2, none⟩) (fun _ => rfl) _
    refine ⟨⟨.slice none 0 0, ⟨by rw [h2]; rfl, ?_, ?_, ⟨by simp [faD, quL, sF], .inl ⟨rfl, rfl⟩⟩, ⟨h.ok.size, h.ok.len, h.ok.sec, fun q hq => by simp [faD] at hq, by simp [faD], h.ok.few, h.ok.lay⟩⟩, fun b hb => by simp [Value.ownBlock] at hb⟩, f.mono (fun k _ e => .inl e)⟩
    · rw [f.block sg (lt_of_heap h.strs) (fun e => n1 e.symm)]; exact h.strs
    · rw [f.block hg (lt_of_heap h.hurt) (fun e => n2 e.symm)]; exact h.hurt
  have HK := hide hK
  clear h h1 h2 hK n1 n2 n3 n4
  go_enter Try.func44, Try.ntmps44
  go_wp2_with fail
  go_end0
  exact ⟨rfl, unhide HK⟩
end
end Go.Proofs.Ytdhendcogjhgfaa
