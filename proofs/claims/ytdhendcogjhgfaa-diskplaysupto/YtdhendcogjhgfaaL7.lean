/-
  What a list of acts leaves as it was; a turned sector is another.
-/
import Derived.Test.YtdhendcogjhgfaaL6
namespace Go.Proofs.Ytdhendcogjhgfaa
open Go.RowKit
set_option linter.unusedVariables false

theorem seW_shape (d : Dk) (q : Nat × List UInt8) : (seW d q).S.length = d.S.length ∧ (seW d q).size = d.size := by
  have := seW_fold [q] d
  exact ⟨this.2.2.2.2, this.2.2.1⟩

theorem crI_shape (d : Dk) (K : List Bool) (i : Nat) : (crI d K i).S.length = d.S.length ∧ (crI d K i).size = d.size := by
  induction i with
  | zero => exact ⟨rfl, rfl⟩
  | succ i ih =>
    unfold crI
    split
    · have := seW_shape (crI d K i) (d.Q.getD i (0, []))
      exact ⟨this.1.trans ih.1, this.2.trans ih.2⟩
    · exact ih

theorem acD_shape (d : Dk) (k a b : Int) (m : Nat) (D : List UInt8) (K : List Int) : (acD d k a b m D K).S.length = d.S.length ∧ (acD d k a b m D K).size = d.size := by
  unfold acD
  split
  · unfold wrD; split <;> exact ⟨rfl, rfl⟩
  · split
    · unfold flD
      split
      · exact ⟨rfl, rfl⟩
      · have := seW_fold (d.Q.take d.Q.length) d
        exact ⟨this.2.2.2.2, this.2.2.1⟩
    · split
      · exact crI_shape d _ _
      · split
        · exact ⟨rfl, rfl⟩
        · split
          · exact ⟨by simp [rpD], rfl⟩
          · split
            · unfold loD; split
              · exact ⟨by simp [seD], rfl⟩
              · exact ⟨rfl, rfl⟩
            · split
              · unfold tuD; split
                · exact ⟨by simp [seD], rfl⟩
                · exact ⟨rfl, rfl⟩
              · exact ⟨rfl, rfl⟩

theorem plI_shape (d : Dk) (l : List Sp) (i : Nat) : (plI d l i).S.length = d.S.length ∧ (plI d l i).size = d.size := by
  induction i with
  | zero => exact ⟨rfl, rfl⟩
  | succ i ih =>
    unfold plI
    split
    · exact ih
    · have := acD_shape (plI d l i) (l.getD i default).k (l.getD i default).a (l.getD i default).b (l.getD i default).m (l.getD i default).D (l.getD i default).K
      exact ⟨this.1.trans ih.1, this.2.trans ih.2⟩

/-- A bit of bytes. -/
def bt (l : List UInt8) (k : Nat) : Bool := (l.getD (k / 8) 0).toNat.testBit (k % 8)

theorem shl_one : ∀ r, r < 8 → ((1 : UInt8) <<< UInt8.ofNat r).toNat = 2 ^ r := by decide

theorem bt_set (l : List UInt8) (t k : Nat) (h : t / 8 < l.length) : bt (l.set (t / 8) (l.getD (t / 8) 0 ^^^ (1 <<< UInt8.ofNat (t % 8)))) k = (bt l k ^^ decide (k = t)) := by
  unfold bt
  by_cases hp : k / 8 = t / 8
  · rw [hp]
    have e : (l.set (t / 8) (l.getD (t / 8) 0 ^^^ (1 <<< UInt8.ofNat (t % 8)))).getD (t / 8) 0 = l.getD (t / 8) 0 ^^^ (1 <<< UInt8.ofNat (t % 8)) := by
      simp [List.getD, h]
    rw [e, UInt8.toNat_xor, Nat.testBit_xor, shl_one _ (Nat.mod_lt _ (by decide)), Nat.testBit_two_pow]
    congr 1
    rw [decide_eq_decide]
    omega
  · have e : (l.set (t / 8) (l.getD (t / 8) 0 ^^^ (1 <<< UInt8.ofNat (t % 8)))).getD (k / 8) 0 = l.getD (k / 8) 0 := by
      simp only [List.getD]
      rw [List.getElem?_set_ne (fun e => hp e.symm)]
    rw [e, decide_eq_false (fun e => hp (by rw [e])), Bool.xor_false]

theorem tuL_bit (z b m : Nat) (l : List UInt8) (hl : l.length = z) (i k : Nat) : bt (tuL z b m l i) k = (bt l k ^^ (decide (b ≤ k ∧ k < b + i) && (m.testBit (k - b) && decide (k < 8 * z)))) := by
  induction i with
  | zero => rw [decide_eq_false (by omega), Bool.false_and, Bool.xor_false]; rfl
  | succ i ih =>
    unfold tuL
    split
    · rename_i hc
      rw [Bool.and_eq_true, decide_eq_true_eq] at hc
      rw [bt_set _ _ _ (by rw [tuL_length]; omega), ih]
      by_cases hk : k = b + i
      · subst hk
        rw [decide_eq_false (by omega), Bool.false_and, Bool.xor_false, decide_eq_true rfl, decide_eq_true (by omega), Bool.true_and, Nat.add_sub_cancel_left, hc.1, decide_eq_true hc.2, Bool.true_and]
      · rw [decide_eq_false hk, Bool.xor_false]
        have e : decide (b ≤ k ∧ k < b + i) = decide (b ≤ k ∧ k < b + (i + 1)) := by rw [decide_eq_decide]; omega
        rw [e]
    · rename_i hc
      rw [ih]
      by_cases hk : k = b + i
      · subst hk
        rw [Nat.add_sub_cancel_left, Bool.eq_false_iff.mpr hc, Bool.and_false, Bool.and_false]
      · have e : decide (b ≤ k ∧ k < b + i) = decide (b ≤ k ∧ k < b + (i + 1)) := by rw [decide_eq_decide]; omega
        rw [e]

/-- Where a bit is met, the bytes are others. -/
theorem tuL_ne {z m : Nat} {b : Int} (hm : m < 4294967296) (h : (mtN z b m != 0) = true) (l : List UInt8) (hl : l.length = z) : tuL z b.toNat m l 32 ≠ l := by
  have hb : 0 ≤ b ∧ b < 8 * (z : Int) := by
    apply Classical.byContradiction
    intro hn
    unfold mtN at h
    rw [if_neg hn] at h
    simp at h
  obtain ⟨c, rfl⟩ : ∃ c : Nat, b = (c : Int) := ⟨b.toNat, by omega⟩
  rw [← anB_all (by omega) hm] at h
  unfold anB at h
  rw [List.any_eq_true] at h
  obtain ⟨i, hi, hh⟩ := h
  rw [List.mem_range] at hi
  rw [Bool.and_eq_true, decide_eq_true_eq] at hh
  intro e
  have := tuL_bit z c m l hl 32 (c + i)
  rw [Int.toNat_natCast] at e
  rw [e, decide_eq_true (by omega), Nat.add_sub_cancel_left, hh.1, decide_eq_true hh.2] at this
  cases h : bt l (c + i) <;> rw [h] at this <;> simp at this

/-- Behind a turn: a second injury is refused, and the sector alone is another. -/
theorem tuD_facts {d : Dk} {a b : Int} {m : Nat} (ok : d.Ok) (hm : m < 4294967296) (h : tuE d a b m = 0) : tuE (tuD d a b m) a b m = 8 ∧ reE (tuD d a b m) a true = 8 ∧ tuD (tuD d a b m) a b m = tuD d a b m ∧ loD (tuD d a b m) a = tuD d a b m ∧ (tuD d a b m).Q = d.Q ∧ (tuD d a b m).S.length = d.S.length ∧ ∀ i : Nat, i < d.S.length → ((i : Int) = a → stD (tuD d a b m) i ≠ stD d i) ∧ ((i : Int) ≠ a → stD (tuD d a b m) i = stD d i) := by
  obtain ⟨i, rfl, hi, hr, ho, h0⟩ := reE_zero h
  have hL : (tuD d (i : Int) b m).S.length = d.S.length := by unfold tuD; rw [if_pos h]; simp [seD]
  have hO : (tuD d (i : Int) b m).off = false := by unfold tuD; rw [if_pos h]; exact ho
  have hZ : (tuD d (i : Int) b m).size = d.size := by unfold tuD; rw [if_pos h]; rfl
  have hQ : (tuD d (i : Int) b m).Q = d.Q := by unfold tuD; rw [if_pos h]; rfl
  have hS : (tuD d (i : Int) b m).S = d.S.set i (tuL d.size b.toNat m (d.S[i]).1 32, 2) := by
    unfold tuD
    rw [if_pos h]
    simp [seD, List.getD, hi]
  have hA : ∀ r, r = true → reE (tuD d (i : Int) b m) (i : Int) r = 8 := by
    rintro r rfl
    unfold reE
    have e1 : hasB (tuD d (i : Int) b m) (i : Int) = true := by
      unfold hasB
      rw [hL]
      simp; omega
    rw [e1, if_pos (by rfl), hO, if_neg (by decide), hS]
    rw [if_neg]
    simp [List.getD, hi]
  have h8 : tuE (tuD d (i : Int) b m) (i : Int) b m = 8 := by
    unfold tuE
    rw [hZ]
    exact hA _ hr
  refine ⟨h8, hA _ rfl, ?_, ?_, hQ, hL, fun j hj => ⟨fun e => ?_, fun e => ?_⟩⟩
  · generalize tuD d (i : Int) b m = x at *
    unfold tuD
    rw [h8]
    rfl
  · have h9 := hA _ rfl
    generalize tuD d (i : Int) b m = x at *
    unfold loD
    rw [h9]
    rfl
  · have : j = i := by omega
    subst this
    have e1 : hasB (tuD d (j : Int) b m) (j : Int) = true := by unfold hasB; rw [hL]; simp; omega
    have e2 : hasB d (j : Int) = true := by unfold hasB; simp; omega
    unfold stD
    rw [if_pos e1, if_pos e2, hS]
    have := tuL_ne hm hr (d.S[j]).1 (ok.sec _ (List.getElem_mem hj)).1
    simpa [List.getD, hj] using this
  · have e1 : hasB (tuD d (i : Int) b m) (j : Int) = true := by unfold hasB; rw [hL]; simp; omega
    have e2 : hasB d (j : Int) = true := by unfold hasB; simp; omega
    unfold stD
    rw [if_pos e1, if_pos e2, hS]
    simp only [List.getD, Int.toNat_natCast]
    rw [List.getElem?_set_ne (by omega)]

theorem core_facts {d e : Dk} (h : core d = core e) : d.size = e.size ∧ d.S = e.S ∧ d.Q = e.Q ∧ d.off = e.off ∧ d.n = e.n := by
  obtain ⟨z, S, Q, o, n, c, r⟩ := d
  obtain ⟨z', S', Q', o', n', c', r'⟩ := e
  simp only [core, Dk.mk.injEq, and_true] at h
  obtain ⟨rfl, rfl, rfl, rfl, rfl⟩ := h
  exact ⟨rfl, rfl, rfl, rfl, rfl⟩
end Go.Proofs.Ytdhendcogjhgfaa
