/-
  The walk of package disk's waiting.
-/
import Derived.Test.YtdhendcogjhgfaaD2
namespace Go.Proofs.Ytdhendcogjhgfaa
open Go.RowKit
set_option linter.unusedVariables false

attribute [local go_sem ↓] Go.wp_at_zero Go.wp_at_succ

/-- The last of the first k writes that is of this sector. -/
def lastI (Q : List (Nat × List UInt8)) (a : Int) : Nat → Option Nat
  | 0 => none
  | k + 1 => if ((Q.getD k (0, [])).1 : Int) = a then some k else lastI Q a k

theorem owns_cells {w : World} {e size g n cap : Nat} {xs : List Value} (h : w.ownsRow 0 e size (.slice (some ⟨g, 0, none⟩) n cap) n xs) (j : Nat) (hj : j < xs.length) : w.cell? ⟨g, j, none⟩ = xs[j]? := by
  obtain ⟨h1, h2⟩ := h
  rcases h2 with ⟨hv, -⟩ | ⟨g', cap', cur, hv, hb, hh, hn, hm, hs, hx⟩
  · simp at hv
  · simp only [Value.slice.injEq, Option.some.injEq, Addr.mk.injEq] at hv
    obtain ⟨⟨rfl, -, -⟩, -, rfl⟩ := hv
    rw [cell_of_heap hh, ← hx, List.getElem?_take_of_lt (by omega), Array.getElem?_toList]

theorem owns_lit {w : World} {e size n : Nat} {v : Value} {xs : List Value} (h : w.ownsRow 0 e size v n xs) (hn : 0 < n) : ∃ g cap, v = .slice (some ⟨g, 0, none⟩) n cap ∧ n ≤ cap ∧ cap ≤ maxLen := by
  rcases h.2 with ⟨-, h0⟩ | ⟨g, cap, cur, hv, -, -, h1, h2, -⟩
  · omega
  · exact ⟨g, cap, hv, h1, h2⟩

theorem Dk.Ok.wrl {d : Dk} (h : d.Ok) : ∀ c ∈ d.Q.map wrC, c.length = 513 := by
  intro c hc
  obtain ⟨q, hq, rfl⟩ := List.mem_map.1 hc
  exact wrC_length (by rw [(h.wr q hq).1]; exact h.size.2)

theorem Dk.Ok.secl {d : Dk} (h : d.Ok) : ∀ c ∈ d.S.map secC, c.length = 513 := by
  intro c hc
  obtain ⟨s, hs, rfl⟩ := List.mem_map.1 hc
  exact secC_length (by rw [(h.sec s hs).1]; exact h.size.2)

theorem wrF_len {d : Dk} (h : d.Ok) : (wrF d.Q).length = d.Q.length * 513 := by
  unfold wrF; rw [flat_len h.wrl, List.length_map]

theorem wrF_at {d : Dk} (h : d.Ok) (i : Nat) (hi : i < d.Q.length) : (wrF d.Q)[i * 513]? = some (.int .i64 ((d.Q[i]).1 : Int)) := by
  have := flat_get h.wrl i 0 (by simpa using hi) (by omega)
  unfold wrF
  rw [Nat.add_zero] at this
  rw [this]
  simp [wrC]

theorem wrF_byte {d : Dk} (h : d.Ok) (i j : Nat) (hi : i < d.Q.length) (hj : j < 512) : (wrF d.Q)[i * 513 + 1 + j]? = (bvs (pad (d.Q[i]).2))[j]? := by
  have := flat_get h.wrl i (1 + j) (by simpa using hi) (by omega)
  unfold wrF
  rw [← Nat.add_assoc] at this
  rw [this, List.getElem_map]
  unfold wrC
  rw [Nat.add_comm 1 j, List.getElem?_cons_succ]

/-- A write's bytes, where they wait. -/
theorem KAt.wbytes {w : World} {p gs : Nat} {qv : Value} {d : Dk} (h : KAt w p gs qv d) (i : Nat) (hi : i < d.Q.length) : ∃ g cap, qv = .slice (some ⟨g, 0, none⟩) d.Q.length cap ∧ d.Q.length ≤ cap ∧ cap ≤ maxLen ∧ w.cell? ⟨g, i * 513, none⟩ = some (.int .i64 ((d.Q[i]).1 : Int)) ∧ Rd w (.slice (some ⟨g, i * 513 + 1, none⟩) 512 512) (pad (d.Q[i]).2) := by
  obtain ⟨g, cap, rfl, h1, h2⟩ := owns_lit h.queue (by omega)
  have hlen := wrF_len h.ok
  have hle : (i + 1) * 513 ≤ d.Q.length * 513 := Nat.mul_le_mul_right _ hi
  have hpl : (pad (d.Q[i]).2).length = 512 := pad_length (by rw [(h.ok.wr _ (List.getElem_mem hi)).1]; exact h.ok.size.2)
  refine ⟨g, cap, rfl, h1, h2, ?_, ?_⟩
  · rw [owns_cells h.queue _ (by rw [hlen]; omega), wrF_at h.ok i hi]
  · refine Rd.lit hpl (Nat.le_refl _) (by simp [maxLen]) fun j hj => ?_
    rw [owns_cells h.queue _ (by rw [hlen]; omega), wrF_byte h.ok i j hi (by omega), bvs_get _ j hj]

section
variable (w : World) (p gs : Nat) (qv : Value) (d : Dk)

/-- What waiting answers. -/
def waitV (qv : Value) : Option Nat → Value
  | none => .pointer none
  | some i => match qv.ownBlock with
    | some g => .pointer (some ⟨g, i * 513 + 1, none⟩)
    | none => .pointer none

set_option maxHeartbeats 1000000 in
set_option maxRecDepth 100000 in
theorem waiting_any (a : Int) (h : KAt w p gs qv d) : Calls Try.prog 56 #[.pointer (some ⟨p, 0, none⟩), .int .i64 a] w fun e w' => e = .returned (waitV qv (lastI d.Q a d.Q.length)) ∧ w = w' := by
  have c2 := cell_of_heap h.heap 2
  simp at c2
  have hroom := h.ok.room
  have H := hide h
  obtain ⟨qo, qc, rfl⟩ := owns_shape h.queue
  clear h
  go_enter Try.func56, Try.ntmps56
  go_wp2_with fail
  go_loopw [5] (fun x w' => ∃ i : Nat, i ≤ d.Q.length ∧ x = .int .i64 ((i : Int) - 1) ∧ lastI d.Q a d.Q.length = lastI d.Q a i ∧ w = w') (fun x _ => (intOf x + 1).toNat)
  case atStart => exact ⟨d.Q.length, by omega, by go_num, rfl, rfl⟩
  case round =>
    obtain ⟨i, hi, rfl, hl, rfl⟩ := hrel
    have HL := hide hl
    clear hl
    rcases i with _ | j
    · go_wp2_with fail
      go_ret
      exact ⟨by rw [unhide HL]; rfl, rfl⟩
    · have hj : j < d.Q.length := by omega
      obtain ⟨g, cap, hv, h1, h2, y1, -⟩ := (unhide H).wbytes j hj
      simp only [Value.slice.injEq] at hv
      obtain ⟨rfl, -, rfl⟩ := hv
      have ej : (((j + 1 : Nat) : Int) - 1) = (j : Int) := by omega
      rw [ej]
      have hgd : (d.Q.getD j (0, [])).1 = (d.Q[j]).1 := by simp [List.getD, hj]
      have hst : lastI d.Q a (j + 1) = if ((d.Q[j]).1 : Int) = a then some j else lastI d.Q a j := by
        show (if ((d.Q.getD j (0, [])).1 : Int) = a then some j else lastI d.Q a j) = _
        rw [hgd]
      have HST := hide hst
      generalize (d.Q[j]).1 = at' at *
      have hjc : j < qc := by omega
      clear hst hgd ej
      by_cases he : (at' : Int) = a
      · have b1 : ((at' : Int) == a) = true := by simpa using he
        go_wp2_with fail
        go_ret
        exact ⟨by rw [unhide HL, unhide HST, if_pos he]; rfl, rfl⟩
      · have b1 : ((at' : Int) == a) = false := by simpa using he
        go_wp2_with fail
        exact ⟨⟨j, by omega, rfl, by rw [unhide HL, unhide HST, if_neg he], trivial⟩, by simp [intOf]⟩
end

end Go.Proofs.Ytdhendcogjhgfaa
