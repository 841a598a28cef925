/-
  The walks of package disk's Read and Stable.
-/
import Derived.Test.YtdhendcogjhgfaaD4
namespace Go.Proofs.Ytdhendcogjhgfaa
open Go.RowKit
set_option linter.unusedVariables false

attribute [local go_sem ↓] Go.wp_at_zero Go.wp_at_succ

theorem secF_len {d : Dk} (h : d.Ok) : (secF d.S).length = d.S.length * 513 := by
  unfold secF; rw [flat_len h.secl, List.length_map]

theorem secF_byte {d : Dk} (h : d.Ok) (i j : Nat) (hi : i < d.S.length) (hj : j < 512) : (secF d.S)[i * 513 + j]? = (bvs (pad (d.S[i]).1))[j]? := by
  have := flat_get h.secl i j (by simpa using hi) (by omega)
  unfold secF
  rw [this, List.getElem_map]
  unfold secC
  have hpl : (pad (d.S[i]).1).length = 512 := pad_length (by rw [(h.sec _ (List.getElem_mem hi)).1]; exact h.size.2)
  rw [List.getElem?_append_left (by rw [bvs_length]; omega)]

theorem secF_hurt {d : Dk} (h : d.Ok) (i : Nat) (hi : i < d.S.length) : (secF d.S)[i * 513 + 512]? = some (.int .u8 (((d.S[i]).2.toNat : Nat) : Int)) := by
  have := flat_get h.secl i 512 (by simpa using hi) (by omega)
  unfold secF
  rw [this, List.getElem_map]
  unfold secC
  have hpl : (pad (d.S[i]).1).length = 512 := pad_length (by rw [(h.sec _ (List.getElem_mem hi)).1]; exact h.size.2)
  rw [List.getElem?_append_right (by rw [bvs_length]; omega), bvs_length, hpl]
  rfl

/-- A sector's bytes, where they lie, and its injury. -/
theorem KAt.sbytes {w : World} {p gs : Nat} {qv : Value} {d : Dk} (h : KAt w p gs qv d) (i : Nat) (hi : i < d.S.length) : Rd w (.slice (some ⟨gs, i * 513, none⟩) 512 512) (pad (d.S[i]).1) ∧ w.cell? ⟨gs, i * 513 + 512, none⟩ = some (.int .u8 (((d.S[i]).2.toNat : Nat) : Int)) := by
  have hlen := secF_len h.ok
  have hle : (i + 1) * 513 ≤ d.S.length * 513 := Nat.mul_le_mul_right _ hi
  have hpl : (pad (d.S[i]).1).length = 512 := pad_length (by rw [(h.ok.sec _ (List.getElem_mem hi)).1]; exact h.ok.size.2)
  refine ⟨Rd.lit hpl (Nat.le_refl _) (by simp [maxLen]) fun j hj => ?_, ?_⟩
  · rw [cell_of_heap h.secs, List.getElem?_toArray, List.getElem?_append_left (by rw [hlen]; omega), secF_byte h.ok i j hi (by omega), bvs_get _ j hj]
  · rw [cell_of_heap h.secs, List.getElem?_toArray, List.getElem?_append_left (by rw [hlen]; omega), secF_hurt h.ok i hi]

theorem lastI_lt {Q : List (Nat × List UInt8)} {a : Int} {k i : Nat} (h : lastI Q a k = some i) : i < k := by
  induction k with
  | zero => simp [lastI] at h
  | succ k ih =>
    unfold lastI at h
    split at h
    · simp at h; omega
    · have := ih h; omega

/-- What Read answers. -/
def rdD (d : Dk) (a : Int) : List UInt8 × Int :=
  if hasB d a = true then
    if d.off = true then ([], 41)
    else match lastI d.Q a d.Q.length with
      | some i => ((d.Q.getD i (0, [])).2, 0)
      | none => if (d.S.getD a.toNat ([], 0)).2 = 1 then ([], 42) else ((d.S.getD a.toNat ([], 0)).1, 0)
  else ([], 2)

/-- A slice in new memory, that may be written. -/
def NewB (N : Nat) (w : World) (v : Value) : Prop := ∀ b, v.ownBlock = some b → N ≤ b ∧ TyAt w b 5
theorem NewB.nil (N : Nat) (w : World) : NewB N w (.slice none 0 0) := fun b hb => by simp [Value.ownBlock] at hb
theorem NewB.of_bat {N : Nat} {w : World} {b n c : Nat} {l : List UInt8} (h : BAt w b l) (hb : N ≤ b) : NewB N w (.slice (some ⟨b, 0, none⟩) n c) := by
  intro k hk
  simp [Value.ownBlock] at hk
  subst hk
  exact ⟨hb, _, h⟩

theorem hasB_iff {d : Dk} {a : Int} : hasB d a = true ↔ ∃ i : Nat, a = (i : Int) ∧ i < d.S.length := by
  unfold hasB
  rw [Bool.and_eq_true, decide_eq_true_iff, decide_eq_true_iff]
  constructor
  · intro h; exact ⟨a.toNat, by omega, by omega⟩
  · rintro ⟨i, rfl, hi⟩; omega

section
variable (w : World) (p gs : Nat) (qv : Value) (d : Dk)

theorem read_nil (a : Int) : Calls Try.prog 29 #[.pointer none, .int .i64 a] w fun e w' => e = .returned (.tuple #[.slice none 0 0, .int .i64 7]) ∧ w = w' := by
  go_enter Try.func29, Try.ntmps29
  go_wp2_with fail
  go_ret2
  exact ⟨rfl, rfl⟩

theorem stable_nil (a : Int) : Calls Try.prog 25 #[.pointer none, .int .i64 a] w fun e w' => e = .returned (.tuple #[.slice none 0 0, .bool false]) ∧ w = w' := by
  go_enter Try.func25, Try.ntmps25
  go_wp2_with (go_at_call 54; refine (has_nil _ _).mono ?_; rintro e w' ⟨rfl, rfl⟩)
  go_ret2
  exact ⟨rfl, rfl⟩

set_option maxHeartbeats 1000000 in
set_option maxRecDepth 100000 in
theorem read_any (a : Int) (h : KAt w p gs qv d) : Calls Try.prog 29 #[.pointer (some ⟨p, 0, none⟩), .int .i64 a] w fun e w' => (∃ ao c, e = .returned (.tuple #[.slice ao (rdD d a).1.length c, .int .i64 (rdD d a).2]) ∧ Rd w' (.slice ao (rdD d a).1.length c) (rdD d a).1 ∧ NewB w.heap.size w' (.slice ao (rdD d a).1.length c)) ∧ Fr (fun _ => False) w w' := by
  have HH := hide (has_any w p gs qv d a h)
  have HW := hide (waiting_any w p gs qv d a h)
  have c1 := cell_of_heap h.heap 1
  have c3 := cell_of_heap h.heap 3
  simp at c1 c3
  unfold rdD
  rcases hb : hasB d a with _ | _
  · rw [hb] at HH
    simp only [Bool.false_eq_true, if_false]
    clear h hb
    go_enter Try.func29, Try.ntmps29
    go_wp2_with (go_at_call 54; refine (unhide HH).mono ?_; rintro e w' ⟨rfl, rfl⟩)
    go_ret2
    exact ⟨⟨_, _, rfl, Rd.nil _, NewB.nil _ _⟩, Fr.refl _ _⟩
  · rw [hb] at HH
    obtain ⟨i, rfl, hi⟩ := hasB_iff.1 hb
    simp only [if_true]
    rcases ho : d.off with _ | _
    · rw [ho] at c3
      simp only [Bool.false_eq_true, if_false]
      rcases hl : lastI d.Q (i : Int) d.Q.length with _ | j
      · rw [hl, show waitV qv none = .pointer none from rfl] at HW
        simp only [Int.toNat_natCast]
        obtain ⟨r1, r2⟩ := h.sbytes i hi
        have hgd : d.S.getD i ([], 0) = d.S[i] := by simp [List.getD, hi]
        rw [hgd]
        have hsl := (h.ok.sec _ (List.getElem_mem hi)).1
        have HT := hide (told_any w p gs qv d gs (i * 513) _ h (pad_length (by rw [hsl]; exact h.ok.size.2)) r1)
        have hlen := h.ok.len
        have hsz := h.ok.size
        generalize d.S[i] = s at *
        have ept : (pad s.1).take d.size = s.1 := by rw [← hsl]; exact pad_take s.1
        rw [ept] at HT
        have HSL := hide hsl
        by_cases hs : s.2 = 1
        · rw [if_pos hs]
          have e1 : ((s.2.toNat : Nat) : Int) = 1 := by rw [hs]; rfl
          rw [e1] at r2
          clear h hb ho hl r1 hgd hsl ept hs e1
          go_enter Try.func29, Try.ntmps29
          go_wp2_with (first | (go_at_call 54; refine (unhide HH).mono ?_; rintro e w' ⟨rfl, rfl⟩) | (go_at_call 56; refine (unhide HW).mono ?_; rintro e w' ⟨rfl, rfl⟩))
          go_ret2
          exact ⟨⟨_, _, rfl, Rd.nil _, NewB.nil _ _⟩, Fr.refl _ _⟩
        · rw [if_neg hs]
          have e1 : (((s.2.toNat : Nat) : Int) == 1) = false := by
            simp only [beq_eq_false_iff_ne, ne_eq]
            intro e
            have e' : s.2.toNat = 1 := by omega
            exact hs (UInt8.toNat_inj.1 e')
          generalize hhv : ((s.2.toNat : Nat) : Int) = hv at *
          clear h hb ho hl r1 hgd hsl ept hs hhv
          go_enter Try.func29, Try.ntmps29
          go_wp2_with (first | (go_at_call 54; refine (unhide HH).mono ?_; rintro e w' ⟨rfl, rfl⟩) | (go_at_call 56; refine (unhide HW).mono ?_; rintro e w' ⟨rfl, rfl⟩) | (go_at_call 55; refine (unhide HT).mono ?_; rintro e w' ⟨rfl, hB, f⟩))
          go_ret2
          have hR := hB.rd (by rw [unhide HSL]; simp only [maxLen]; omega)
          rw [unhide HSL] at hR
          simp only [unhide HSL]
          exact ⟨⟨_, _, rfl, hR, NewB.of_bat hB (Nat.le_refl _)⟩, f⟩
      · have hj := lastI_lt hl
        obtain ⟨g, cap, rfl, -, -, -, r1⟩ := h.wbytes j hj
        rw [hl, show waitV (.slice (some ⟨g, 0, none⟩) d.Q.length cap) (some j) = .pointer (some ⟨g, j * 513 + 1, none⟩) from rfl] at HW
        have hgd : d.Q.getD j (0, []) = d.Q[j] := by simp [List.getD, hj]
        simp only [hgd]
        have hsl := (h.ok.wr _ (List.getElem_mem hj)).1
        have HT := hide (told_any w p gs _ d g (j * 513 + 1) _ h (pad_length (by rw [hsl]; exact h.ok.size.2)) r1)
        have hsz := h.ok.size
        generalize d.Q[j] = s at *
        have ept : (pad s.2).take d.size = s.2 := by rw [← hsl]; exact pad_take s.2
        rw [ept] at HT
        have HSL := hide hsl
        clear h hb ho hl r1 hgd hsl ept
        go_enter Try.func29, Try.ntmps29
        go_wp2_with (first | (go_at_call 54; refine (unhide HH).mono ?_; rintro e w' ⟨rfl, rfl⟩) | (go_at_call 56; refine (unhide HW).mono ?_; rintro e w' ⟨rfl, rfl⟩) | (go_at_call 55; refine (unhide HT).mono ?_; rintro e w' ⟨rfl, hB, f⟩))
        go_ret2
        have hR := hB.rd (by rw [unhide HSL]; simp only [maxLen]; omega)
        rw [unhide HSL] at hR
        simp only [unhide HSL]
        exact ⟨⟨_, _, rfl, hR, NewB.of_bat hB (Nat.le_refl _)⟩, f⟩
    · rw [ho] at c3
      simp only [if_true]
      clear h hb ho
      go_enter Try.func29, Try.ntmps29
      go_wp2_with (go_at_call 54; refine (unhide HH).mono ?_; rintro e w' ⟨rfl, rfl⟩)
      go_ret2
      exact ⟨⟨_, _, rfl, Rd.nil _, NewB.nil _ _⟩, Fr.refl _ _⟩

/-- What Stable answers. -/
def stD (d : Dk) (a : Int) : List UInt8 := if hasB d a = true then (d.S.getD a.toNat ([], 0)).1 else []

set_option maxHeartbeats 1000000 in
set_option maxRecDepth 100000 in
theorem stable_any (a : Int) (h : KAt w p gs qv d) : Calls Try.prog 25 #[.pointer (some ⟨p, 0, none⟩), .int .i64 a] w fun e w' => (∃ ao c, e = .returned (.tuple #[.slice ao (stD d a).length c, .bool (hasB d a)]) ∧ Rd w' (.slice ao (stD d a).length c) (stD d a) ∧ NewB w.heap.size w' (.slice ao (stD d a).length c)) ∧ Fr (fun _ => False) w w' := by
  have HH := hide (has_any w p gs qv d a h)
  have c1 := cell_of_heap h.heap 1
  simp at c1
  unfold stD
  rcases hb : hasB d a with _ | _
  · rw [hb] at HH
    simp only [Bool.false_eq_true, if_false]
    clear h hb
    go_enter Try.func25, Try.ntmps25
    go_wp2_with (go_at_call 54; refine (unhide HH).mono ?_; rintro e w' ⟨rfl, rfl⟩)
    go_ret2
    exact ⟨⟨_, _, rfl, Rd.nil _, NewB.nil _ _⟩, Fr.refl _ _⟩
  · rw [hb] at HH
    obtain ⟨i, rfl, hi⟩ := hasB_iff.1 hb
    simp only [if_true, Int.toNat_natCast]
    obtain ⟨r1, -⟩ := h.sbytes i hi
    have hgd : d.S.getD i ([], 0) = d.S[i] := by simp [List.getD, hi]
    rw [hgd]
    have hsl := (h.ok.sec _ (List.getElem_mem hi)).1
    have HT := hide (told_any w p gs qv d gs (i * 513) _ h (pad_length (by rw [hsl]; exact h.ok.size.2)) r1)
    have hlen := h.ok.len
    have hsz := h.ok.size
    generalize d.S[i] = s at *
    have ept : (pad s.1).take d.size = s.1 := by rw [← hsl]; exact pad_take s.1
    rw [ept] at HT
    have HSL := hide hsl
    clear h hb r1 hgd hsl ept
    go_enter Try.func25, Try.ntmps25
    go_wp2_with (first | (go_at_call 54; refine (unhide HH).mono ?_; rintro e w' ⟨rfl, rfl⟩) | (go_at_call 55; refine (unhide HT).mono ?_; rintro e w' ⟨rfl, hB, f⟩))
    go_ret2
    have hR := hB.rd (by rw [unhide HSL]; simp only [maxLen]; omega)
    rw [unhide HSL] at hR
    simp only [unhide HSL]
    exact ⟨⟨_, _, rfl, hR, NewB.of_bat hB (Nat.le_refl _)⟩, f⟩
end

end Go.Proofs.Ytdhendcogjhgfaa
