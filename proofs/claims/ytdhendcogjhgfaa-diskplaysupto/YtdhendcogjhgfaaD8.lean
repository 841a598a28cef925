/-
  The walk of package disk's Flush.
-/
import Derived.Test.YtdhendcogjhgfaaD7
namespace Go.Proofs.Ytdhendcogjhgfaa
open Go.RowKit
set_option linter.unusedVariables false

attribute [local go_sem ↓] Go.wp_at_zero Go.wp_at_succ

/-- The first i writes have become stable. -/
def flI (d : Dk) (i : Nat) : Dk := (d.Q.take i).foldl seW d

theorem seW_fold (l : List (Nat × List UInt8)) (d : Dk) : (l.foldl seW d).Q = d.Q ∧ (l.foldl seW d).n = d.n + l.length ∧ (l.foldl seW d).size = d.size ∧ (l.foldl seW d).off = d.off ∧ (l.foldl seW d).S.length = d.S.length := by
  induction l generalizing d with
  | nil => simp
  | cons q t ih =>
    rw [List.foldl_cons]
    obtain ⟨h1, h2, h3, h4, h5⟩ := ih (seW d q)
    refine ⟨h1, ?_, h3, h4, ?_⟩
    · rw [h2]; simp [seW]; omega
    · rw [h5]; simp [seW]

theorem flI_zero (d : Dk) : flI d 0 = d := rfl
theorem flI_succ (d : Dk) (i : Nat) (hi : i < d.Q.length) : flI d (i + 1) = seW (flI d i) (d.Q[i]) := by
  unfold flI
  rw [List.take_succ_eq_append_getElem hi, List.foldl_append]
  rfl
theorem flI_Q (d : Dk) (i : Nat) : (flI d i).Q = d.Q := (seW_fold _ d).1
theorem flI_n (d : Dk) (i : Nat) (hi : i ≤ d.Q.length) : (flI d i).n = d.n + i := by
  have := (seW_fold (d.Q.take i) d).2.1
  rw [List.length_take, Nat.min_eq_left hi] at this
  exact this

/-- A disk whose queue is empty. -/
def emD (d : Dk) : Dk := { d with Q := [] }
/-- What Flush leaves, and answers. -/
def flD (d : Dk) : Dk := if d.off = true then d else emD (flI d d.Q.length)
def flE (d : Dk) : Int := if d.off = true then 41 else 0

theorem KAt.empty {w : World} {p gs : Nat} {qv : Value} {d : Dk} (h : KAt w p gs qv d) : KAt (w.setCell ⟨p, 2, none⟩ (.slice none 0 0)) p gs (.slice none 0 0) (emD d) ∧ Fr (fun k => k = p) w (w.setCell ⟨p, 2, none⟩ (.slice none 0 0)) := by
  have f : Fr (fun k => k = p) w (w.setCell ⟨p, 2, none⟩ (.slice none 0 0)) := (Fr.refl (fun k => k = p) w).setCell (p := ⟨p, 2, none⟩) (fun _ => rfl) _
  refine ⟨⟨by rw [heap_setCell_same w p 2 _ 78 _ h.heap]; rfl, ?_, ⟨by simp [emD, wrF], .inl ⟨rfl, rfl⟩⟩, ⟨h.ok.size, h.ok.len, h.ok.sec, fun q hq => by simp [emD] at hq, by simp [emD], h.ok.few, h.ok.lay⟩⟩, f⟩
  rw [f.block gs (lt_of_heap h.secs) (fun e => h.ne e.symm)]
  exact h.secs

section
variable (w : World) (p gs : Nat) (qv : Value) (d : Dk)

theorem flush_nil : Calls Try.prog 24 #[.pointer none] w fun e w' => e = .returned (.int .i64 7) ∧ w = w' := by
  go_enter Try.func24, Try.ntmps24
  go_wp2_with fail
  go_ret
  exact ⟨rfl, rfl⟩

set_option maxHeartbeats 1000000 in
set_option maxRecDepth 100000 in
theorem flush_any (hn : d.n + d.Q.length ≤ 1000000000) (h : KAt w p gs qv d) : Calls Try.prog 24 #[.pointer (some ⟨p, 0, none⟩)] w fun e w' => e = .returned (.int .i64 (flE d)) ∧ KSt w w' p gs qv (flD d) := by
  have c2 := cell_of_heap h.heap 2
  have c3 := cell_of_heap h.heap 3
  simp at c2 c3
  unfold flD flE
  rcases ho : d.off with _ | _
  · rw [ho] at c3
    simp only [Bool.false_eq_true, if_false]
    have H := hide h
    have hroom := h.ok.room
    obtain ⟨qo, qc, rfl⟩ := owns_shape h.queue
    clear h ho
    go_enter Try.func24, Try.ntmps24
    go_wp2_with fail
    go_loopw [17] (fun x w' => ∃ i : Nat, i ≤ d.Q.length ∧ x = .int .i64 (i : Int) ∧ KAt w' p gs (.slice qo d.Q.length qc) (flI d i) ∧ Fr (fun k => k = p ∨ k = gs) w w') (fun x _ => d.Q.length - (intOf x).toNat)
    case atStart => exact ⟨0, by omega, rfl, unhide H, Fr.refl _ _⟩
    case round =>
      obtain ⟨i, hi, rfl, hK, hf⟩ := hrel
      have r2 := cell_of_heap hK.heap 2
      have z2 := frozen_of_heap hK.heap 2
      simp at r2
      by_cases hlt : i < d.Q.length
      · have hq := flI_Q d i
        have hi' : i < (flI d i).Q.length := by rw [hq]; exact hlt
        obtain ⟨g, cap, hv, -, -, -, -⟩ := hK.wbytes i hi'
        rw [hq] at hv
        simp only [Value.slice.injEq] at hv
        obtain ⟨rfl, -, rfl⟩ := hv
        have HS := hide (settle_any wr p gs (flI d i) i hi' g qc (by rw [flI_n d i (by omega)]; omega) (by rw [hq]; exact hK))
        have e1 : seW (flI d i) ((flI d i).Q[i]) = flI d (i + 1) := by
          rw [flI_succ d i hlt]
          congr 1
          simp only [hq]
        rw [e1, hq] at HS
        have hcap : d.Q.length ≤ qc := by
          rcases (unhide H).queue.2 with ⟨hv, -⟩ | ⟨g', cap', cur, hv, -, -, h1, -⟩
          · simp at hv
          · simp only [Value.slice.injEq] at hv
            rw [hv.2.2]; exact h1
        have Hf := hide hf
        have hic : i < qc := by omega
        clear hK hf hq hi' e1 z2
        go_wp2_with fail
        refine (unhide HS).mono ?_
        rintro e w2 ⟨rfl, hK2, f2⟩
        have HK2 := hide hK2
        have HF2 := hide ((unhide Hf).trans f2 (fun _ _ h => h))
        clear hK2 f2
        go_wp2_with fail
        go_roundw
        case rel => exact ⟨i + 1, by omega, by go_num, unhide HK2, unhide HF2⟩
        case measure => simp [intOf]; omega
      · have hie : i = d.Q.length := by omega
        subst hie
        have hE := hK.empty
        have HE := hide hE
        have Hf := hide hf
        clear hK hf hE
        go_wp2_with fail
        go_ret
        exact ⟨rfl, ⟨⟨_, (unhide HE).1, fun b hb => by simp [Value.ownBlock] at hb⟩, ((unhide Hf).mono (fun _ _ e => by rcases e with e | e; exact .inl e; exact .inr (.inl e))).trans (unhide HE).2 (fun _ _ e => .inl e)⟩⟩
  · rw [ho] at c3
    simp only [if_true]
    have HK := hide (KSt.same h)
    clear h ho
    go_enter Try.func24, Try.ntmps24
    go_wp2_with fail
    go_ret
    exact ⟨rfl, unhide HK⟩
end

end Go.Proofs.Ytdhendcogjhgfaa
