/-
  A rule for a region that draws its order, whose last operation waits for all others: these turn nothing that was there, and are shown once each; the last one may store.
-/
import Derived.Test.YtckmddkhkdcmmaaFree2
namespace Go.Proofs.Ytckmddkhkdcmmaa
open Go.RowKit
set_option linter.unusedVariables false

section
variable {P : Program} {Q : Exit → Act → World → Prop}

/-- Somebody behind waits for i. -/
def waitB (l : List Oper) (i : Nat) : Bool := (List.range l.length).any fun j => decide (i < j) && (match l[j]? with | some o => depB o i | none => false)
/-- For each but the last somebody behind waits. -/
def lastB (l : List Oper) : Bool := (List.range (l.length - 1)).all (waitB l)

theorem lastB_get {l : List Oper} (h : lastB l = true) {i : Nat} (hi : i < l.length - 1) : ∃ j o, i < j ∧ l[j]? = some o ∧ depB o i = true := by
  have := (List.all_eq_true.1 h) i (List.mem_range.2 hi)
  unfold waitB at this
  rw [List.any_eq_true] at this
  obtain ⟨j, hj, hb⟩ := this
  rw [Bool.and_eq_true] at hb
  cases e : l[j]? with
  | none => rw [e] at hb; simp at hb
  | some o => rw [e] at hb; exact ⟨j, o, by simpa using hb.1, e, hb.2⟩

/-- What is listed has what it waits for listed. -/
def Down (l : List Oper) (listed : Array Bool) : Prop := ∀ j o i, l[j]? = some o → listed.getD j false = true → depB o i = true → listed.getD i false = true

theorem depB_ready {l : List Oper} {listed : Array Bool} {i : Nat} {o : Oper} (ho : l[i]? = some o) (h6 : ∀ e ∈ o.after, Region.binds .any e = true → listed.getD e.on false = true) (j : Nat) (hj : depB o j = true) : listed.getD j false = true := by
  unfold depB at hj
  rw [← Array.any_toList, List.any_eq_true] at hj
  obtain ⟨e, he', hb⟩ := hj
  have he : e ∈ o.after := by simpa using he'
  simp only [Bool.and_eq_true, beq_iff_eq] at hb
  rw [← hb.2]
  exact h6 e he hb.1

/-- When the last one is ready all others are listed. -/
theorem all_before {l : List Oper} (hL : lastB l = true) {listed : Array Bool} (hd : Down l listed) {z : Oper} (hz : l[l.length - 1]? = some z) (hr : ∀ j, depB z j = true → listed.getD j false = true) : ∀ k i, l.length - 1 - i ≤ k → i < l.length - 1 → listed.getD i false = true := by
  intro k
  induction k with
  | zero => intro i h1 h2; omega
  | succ k ih =>
    intro i h1 h2
    obtain ⟨j, o, hij, ho, hdep⟩ := lastB_get hL h2
    have hjl := (List.getElem?_eq_some_iff.1 ho).1
    by_cases e : j = l.length - 1
    · rw [e, hz] at ho
      simp only [Option.some.injEq] at ho
      subst ho
      exact hr i hdep
    · exact hd j o i ho (ih j (by omega) (by omega)) hdep

/-- THE RULE. -/
theorem wp_region_last {id : Nat} {l : List Oper} {a : Act} {w : World} (hm : P.follows .mixedOrders = true) (hB : backB l 0 = true) (hL : lastB l = true) (nd : (dsts l).Nodup) (hd : ∀ d ∈ dsts l, d < a.tmps.size)
    (z : Oper) (hz : l[l.length - 1]? = some z)
    (T : Nat → Value → World → Prop) (mono : ∀ i v w1 w2, T i v w1 → Fr (fun _ => False) w1 w2 → T i v w2)
    (steps : Steps P Q l T a w 0 (l.take (l.length - 1)))
    (last : ∀ a' w', Base l a a' → Fr (fun _ => False) w w' → (∀ j, j < l.length - 1 → Held l T a' w' j) → Region.wanted z (yielded l.toArray a'.tmps) = true ∧ z.wp P a' w' (fun a'' w'' => Q .normal a'' w'') Q) : (Code.region id l.toArray true).wp P Q a w := by
  have hpos : 0 < l.length := by have := (List.getElem?_eq_some_iff.1 hz).1; omega
  refine wp_region_any hm ?_
  have hsz : l.toArray.size = l.length := by simp
  rw [hsz]
  let I : Array Bool → Act → World → Prop := fun listed a' w' => listed.size = l.length ∧ Down l listed ∧
    ((listed.getD (l.length - 1) false = false ∧ Base l a a' ∧ Fr (fun _ => False) w w' ∧ ∀ j, listed.getD j false = true → Held l T a' w' j) ∨ ((∀ j, j < l.length → listed.getD j false = true) ∧ Q .normal a' w'))
  refine wpAny_inv I ?_ ?_ _ _ _ _ ?_ ?_
  · intro listed a' w' i ⟨h1, hdn, hc⟩ hi
    obtain ⟨h5, o, ho, h6⟩ := mem_ready.1 hi
    have ho' : l[i]? = some o := by simpa using ho
    have hil : i < l.length := (List.getElem?_eq_some_iff.1 ho').1
    have hdep := depB_ready (l := l) (listed := listed) ho' h6
    rcases hc with ⟨hzn, h2, h3, h4⟩ | ⟨hall, -⟩
    · have hdn' : Down l (listed.setIfInBounds i true) := by
        intro j oj k hoj hj hk
        by_cases e : i = j
        · subst e
          rw [ho'] at hoj
          simp only [Option.some.injEq] at hoj
          subst hoj
          by_cases e2 : i = k
          · subst e2
            simp [show i < listed.size by omega]
          · rw [getD_set_ne false e2]; exact hdep k hk
        · rw [getD_set_ne false e] at hj
          by_cases e2 : i = k
          · subst e2
            simp [show i < listed.size by omega]
          · rw [getD_set_ne false e2]; exact hdn j oj k hoj hj hk
      by_cases hlast : i = l.length - 1
      · subst hlast
        rw [hz] at ho'
        simp only [Option.some.injEq] at ho'
        subst ho'
        have hb := all_before hL hdn hz hdep l.length
        obtain ⟨hw, hwp⟩ := last a' w' h2 h3 (fun j hj => h4 j (hb j (by omega) hj))
        unfold wpOp
        simp only [ho, hw, if_true]
        refine .inl (Oper.wp_mono ?_ hwp)
        intro a'' w'' hq
        refine ⟨by simp [h1], hdn', .inr ⟨fun j hj => ?_, hq⟩⟩
        by_cases e : l.length - 1 = j
        · subst e
          simp [show l.length - 1 < listed.size by omega]
        · rw [getD_set_ne false e]; exact hb j (by omega) (by omega)
      · have hst := steps.get (i := i) (o := o) (by rw [List.getElem?_take_of_lt (by omega)]; exact ho')
        rw [Nat.zero_add] at hst
        obtain ⟨hw, hwp⟩ := hst a' w' h2 h3 (fun j hj => h4 j (hdep j hj))
        unfold wpOp
        simp only [ho, hw, if_true]
        refine .inl (Oper.wp_mono ?_ hwp)
        rintro a'' w'' ⟨v, rfl, hT, hf⟩
        refine ⟨by simp [h1], hdn', .inl ⟨by rw [getD_set_ne false hlast]; exact hzn, ⟨?_, ?_, fun s hs => ?_⟩, h3.trans hf (fun _ _ h => h), fun j hj d hdj => ?_⟩⟩
        · cases hdst : o.dst with
          | none => exact h2.size
          | some d => simp [Act.put, h2.size]
        · cases hdst : o.dst with
          | none => exact h2.defers
          | some d => exact h2.defers
        · cases hdst : o.dst with
          | none => exact h2.old s hs
          | some d =>
            rw [put_getD (fun e => hs (by rw [← e]; exact mem_dsts ho' hdst))]
            exact h2.old s hs
        · obtain ⟨oj, hoj, hdj'⟩ : ∃ oj, l[j]? = some oj ∧ oj.dst = some d := by
            cases hc : l[j]? with
            | none => rw [hc] at hdj; simp at hdj
            | some oj => rw [hc] at hdj; exact ⟨oj, rfl, by simpa using hdj⟩
          by_cases e : i = j
          · subst e
            rw [ho'] at hoj
            simp at hoj
            subst hoj
            rw [hdj', put_self (by rw [h2.size]; exact hd d (mem_dsts ho' hdj'))]
            exact hT
          · rw [getD_set_ne false e] at hj
            have hold := mono _ _ _ _ (h4 j hj d hdj) hf
            cases hdst : o.dst with
            | none => exact hold
            | some d' =>
              rw [put_getD (fun e2 => e (dsts_inj nd ho' hoj (by rw [hdst, e2]) hdj'))]
              exact hold
    · have hl := hall i hil
      have hlt : i < listed.size := by omega
      simp [hlt] at h5 hl
      rw [h5] at hl
      exact absurd hl (by decide)
  · intro listed a' w' ⟨h1, hdn, hc⟩ hr
    rcases hc with ⟨hzn, -⟩ | ⟨-, hq⟩
    · have := all_listed hB h1 hr (l.length - 1) (by omega)
      rw [hzn] at this
      exact absurd this (by decide)
    · exact hq
  · simp [lefts]
  · have hfalse : ∀ j, (Array.replicate l.length false).getD j false = false := by
      intro j
      simp only [Array.getD_eq_getD_getElem?, Array.getElem?_replicate]
      split <;> simp
    refine ⟨by simp, fun j o i _ hj => ?_, .inl ⟨hfalse _, ⟨rfl, rfl, fun _ _ => rfl⟩, (Fr.refl _ w).drew, fun j hj => ?_⟩⟩
    · rw [hfalse] at hj; exact absurd hj (by decide)
    · rw [hfalse] at hj; exact absurd hj (by decide)
end

end Go.Proofs.Ytckmddkhkdcmmaa
