/-
  The walk of the document's Rebuild.
-/
import Derived.Test.YtckmddkhkdcmmaaCl4
import Derived.Test.YtckmddkhkdcmmaaChn
import Derived.Test.YtckmddkhkdcmmaaMix
import Derived.Test.YtckmddkhkdcmmaaRs9
import Derived.Test.YtckmddkhkdcmmaaRs11
import Derived.Test.YtckmddkhkdcmmaaRs20
namespace Go.Proofs.Ytckmddkhkdcmmaa
open Go.RowKit
set_option linter.unusedVariables false
set_option linter.unusedSimpArgs false

section
variable {P : Program} {ops : Array Oper} {Q : Exit → Act → World → Prop}
theorem wp_region_last2 {id : Nat} {l : List Oper} {a : Act} {w : World} (hm : P.follows .mixedOrders = true) (hB : backB l 0 = true) (hL : lastB (l.take (l.length - 1)) = true) (nd : (dsts l).Nodup) (hd : ∀ d ∈ dsts l, d < a.tmps.size)
    (z1 z2 : Oper) (hlen : 2 ≤ l.length) (hz1 : l[l.length - 2]? = some z1) (hz2 : l[l.length - 1]? = some z2) (hz : depB z2 (l.length - 2) = true)
    (T : Nat → Value → World → Prop) (mono : ∀ i v w1 w2, T i v w1 → Fr (fun _ => False) w1 w2 → T i v w2)
    (steps : Steps P Q l T a w 0 (l.take (l.length - 2)))
    (last : ∀ a' w', Base l a a' → Fr (fun _ => False) w w' → (∀ j, j < l.length - 2 → Held l T a' w' j) → Region.wanted z1 (yielded l.toArray a'.tmps) = true ∧ z1.wp P a' w' (fun a2 w2 => Region.wanted z2 (yielded l.toArray a2.tmps) = true ∧ z2.wp P a2 w2 (fun a3 w3 => Q .normal a3 w3) Q) Q) : (Code.region id l.toArray true).wp P Q a w := by
  refine wp_region_any hm ?_
  have hsz : l.toArray.size = l.length := by simp
  rw [hsz]
  have htl : (l.take (l.length - 1)).length = l.length - 1 := by simp
  let I : Array Bool → Act → World → Prop := fun listed a' w' => listed.size = l.length ∧ Down l listed ∧
    ((listed.getD (l.length - 2) false = false ∧ listed.getD (l.length - 1) false = false ∧ Base l a a' ∧ Fr (fun _ => False) w w' ∧ ∀ j, listed.getD j false = true → Held l T a' w' j) ∨
     ((∀ j, j < l.length - 1 → listed.getD j false = true) ∧ listed.getD (l.length - 1) false = false ∧ Region.wanted z2 (yielded l.toArray a'.tmps) = true ∧ z2.wp P a' w' (fun a3 w3 => Q .normal a3 w3) Q) ∨
     ((∀ j, j < l.length → listed.getD j false = true) ∧ Q .normal a' w'))
  refine wpAny_inv I ?_ ?_ _ _ _ _ ?_ ?_
  · intro listed a' w' i ⟨h1, hdn, hc⟩ hi
    obtain ⟨h5, o, ho, h6⟩ := mem_ready.1 hi
    have ho' : l[i]? = some o := by simpa using ho
    have hil : i < l.length := (List.getElem?_eq_some_iff.1 ho').1
    have hdep := depB_ready (l := l) (listed := listed) ho' h6
    have hni : listed.getD i false = false := by
      have hlt : i < listed.size := by omega
      simp [hlt] at h5 ⊢
      exact h5
    have hdn' : Down l (listed.setIfInBounds i true) := by
      intro j oj k hoj hj hk
      by_cases e : i = j
      · subst e
        rw [ho'] at hoj
        simp only [Option.some.injEq] at hoj
        subst hoj
        by_cases e2 : i = k
        · subst e2
          simp [show i < listed.size by omega]
        · rw [getD_set_ne false e2]; exact hdep k hk
      · rw [getD_set_ne false e] at hj
        by_cases e2 : i = k
        · subst e2
          simp [show i < listed.size by omega]
        · rw [getD_set_ne false e2]; exact hdn j oj k hoj hj hk
    rcases hc with ⟨hzn1, hzn2, h2, h3, h4⟩ | ⟨hall, hzn2, hw2, hwp2⟩ | ⟨hall, -⟩
    · by_cases hlast : i = l.length - 1
      · subst hlast
        rw [hz2] at ho'
        simp only [Option.some.injEq] at ho'
        subst ho'
        have := hdep _ hz
        rw [hzn1] at this
        simp at this
      · by_cases hlast2 : i = l.length - 2
        · subst hlast2
          rw [hz1] at ho'
          simp only [Option.some.injEq] at ho'
          subst ho'
          have hdt : Down (l.take (l.length - 1)) listed := fun j oj k hoj hj hk => by
            have hjl := (List.getElem?_eq_some_iff.1 hoj).1
            rw [htl] at hjl
            rw [List.getElem?_take_of_lt hjl] at hoj
            exact hdn j oj k hoj hj hk
          have hb := all_before hL hdt (z := z1) (by rw [htl, List.getElem?_take_of_lt (by omega), show l.length - 1 - 1 = l.length - 2 by omega]; exact hz1) hdep l.length
          rw [htl] at hb
          have hb' : ∀ j, j < l.length - 2 → listed.getD j false = true := fun j hj => hb j (by omega) (by omega)
          obtain ⟨hw, hwp⟩ := last a' w' h2 h3 (fun j hj => h4 j (hb' j hj))
          unfold wpOp
          simp only [ho, hw, if_true]
          refine .inl (Oper.wp_mono ?_ hwp)
          rintro a'' w'' ⟨hw2, hwp2⟩
          refine ⟨by simp [h1], hdn', .inr (.inl ⟨fun j hj => ?_, by rw [getD_set_ne false (by omega)]; exact hzn2, hw2, hwp2⟩)⟩
          by_cases e : l.length - 2 = j
          · subst e
            simp [show l.length - 2 < listed.size by omega]
          · rw [getD_set_ne false e]; exact hb' j (by omega)
        · have hst := steps.get (i := i) (o := o) (by rw [List.getElem?_take_of_lt (by omega)]; exact ho')
          rw [Nat.zero_add] at hst
          obtain ⟨hw, hwp⟩ := hst a' w' h2 h3 (fun j hj => h4 j (hdep j hj))
          unfold wpOp
          simp only [ho, hw, if_true]
          refine .inl (Oper.wp_mono ?_ hwp)
          rintro a'' w'' ⟨v, rfl, hT, hf⟩
          refine ⟨by simp [h1], hdn', .inl ⟨by rw [getD_set_ne false hlast2]; exact hzn1, by rw [getD_set_ne false hlast]; exact hzn2, ⟨?_, ?_, fun s hs => ?_⟩, h3.trans hf (fun _ _ h => h), fun j hj d hdj => ?_⟩⟩
          · cases hdst : o.dst with
            | none => exact h2.size
            | some d => simp [Act.put, h2.size]
          · cases hdst : o.dst with
            | none => exact h2.defers
            | some d => exact h2.defers
          · cases hdst : o.dst with
            | none => exact h2.old s hs
            | some d =>
              rw [put_getD (fun e => hs (by rw [← e]; exact mem_dsts ho' hdst))]
              exact h2.old s hs
          · obtain ⟨oj, hoj, hdj'⟩ : ∃ oj, l[j]? = some oj ∧ oj.dst = some d := by
              cases hc : l[j]? with
              | none => rw [hc] at hdj; simp at hdj
              | some oj => rw [hc] at hdj; exact ⟨oj, rfl, by simpa using hdj⟩
            by_cases e : i = j
            · subst e
              rw [ho'] at hoj
              simp at hoj
              subst hoj
              rw [hdj', put_self (by rw [h2.size]; exact hd d (mem_dsts ho' hdj'))]
              exact hT
            · rw [getD_set_ne false e] at hj
              have hold := mono _ _ _ _ (h4 j hj d hdj) hf
              cases hdst : o.dst with
              | none => exact hold
              | some d' =>
                rw [put_getD (fun e2 => e (dsts_inj nd ho' hoj (by rw [hdst, e2]) hdj'))]
                exact hold
    · have hie : i = l.length - 1 := by
        rcases Nat.lt_or_ge i (l.length - 1) with h | h
        · rw [hall i h] at hni; simp at hni
        · omega
      subst hie
      rw [hz2] at ho'
      simp only [Option.some.injEq] at ho'
      subst ho'
      unfold wpOp
      simp only [ho, hw2, if_true]
      refine .inl (Oper.wp_mono ?_ hwp2)
      intro a'' w'' hq
      refine ⟨by simp [h1], hdn', .inr (.inr ⟨fun j hj => ?_, hq⟩)⟩
      by_cases e : l.length - 1 = j
      · subst e
        simp [show l.length - 1 < listed.size by omega]
      · rw [getD_set_ne false e]; exact hall j (by omega)
    · rw [hall i hil] at hni; simp at hni
  · intro listed a' w' ⟨h1, hdn, hc⟩ hr
    have hall := all_listed hB h1 hr
    rcases hc with ⟨hzn1, -⟩ | ⟨-, hzn2, -⟩ | ⟨-, hq⟩
    · rw [hall _ (by omega)] at hzn1; simp at hzn1
    · rw [hall _ (by omega)] at hzn2; simp at hzn2
    · exact hq
  · simp [lefts]
  · have none : ∀ j, ¬ (Array.replicate l.length false).getD j false = true := fun j hj => by
      simp only [Array.getD_eq_getD_getElem?, Array.getElem?_replicate] at hj
      split at hj <;> simp at hj
    have none' : ∀ j, (Array.replicate l.length false).getD j false = false := fun j => by
      rcases h : (Array.replicate l.length false).getD j false with _ | _
      · rfl
      · exact absurd h (none j)
    exact ⟨by simp, fun j o i _ hj => (none j hj).elim, .inl ⟨none' _, none' _, ⟨rfl, rfl, fun _ _ => rfl⟩, (Fr.refl _ _).drew, fun j hj => (none j hj).elim⟩⟩
end

/-- What the operations of the document's Rebuild leave. -/
inductive Kr where
  | eq (u : Value)
  | iv (k : Nat) (l : List UInt8)
  | ag (k : Nat) (l : List UInt8)
  | bx
  | bt (n : Nat) (l : List UInt8)
  | one (n : Nat) (l : List UInt8)

def Kr.holds (N : Nat) : Kr → Value → World → Prop
  | .eq u, v, _ => v = u
  | .iv k l, v, w => ∃ q cap, v = .tuple #[.agg #[.int .i64 ((k : Nat) : Int), .int .i64 ((k : Nat) : Int), .slice (some ⟨q, 0, none⟩) (k * k) cap], .int .i64 0] ∧ N ≤ q ∧ w.ownsRow 0 5 1 (.slice (some ⟨q, 0, none⟩) (k * k) cap) (k * k) (bvs l)
  | .ag k l, v, w => ∃ q cap, v = .agg #[.int .i64 ((k : Nat) : Int), .int .i64 ((k : Nat) : Int), .slice (some ⟨q, 0, none⟩) (k * k) cap] ∧ N ≤ q ∧ w.ownsRow 0 5 1 (.slice (some ⟨q, 0, none⟩) (k * k) cap) (k * k) (bvs l)
  | .bx, v, w => ∃ b, v = .pointer (some ⟨b, 0, none⟩) ∧ N ≤ b ∧ Z3 w b
  | .bt n l, v, w => ∃ g, v = .slice (some ⟨g, 0, none⟩) n n ∧ N ≤ g ∧ BAt w g l
  | .one n l, v, w => ∃ b g, v = .slice (some ⟨b, 0, none⟩) 1 1 ∧ w.heap[b]? = some (.cells #[.slice (some ⟨g, 0, none⟩) n n] 22 (0, 0)) ∧ N ≤ b ∧ N ≤ g ∧ BAt w g l

def Tr (N : Nat) (ks : List Kr) (i : Nat) (v : Value) (w : World) : Prop := ∀ kd, ks[i]? = some kd → kd.holds N v w

theorem Tr.mono (N : Nat) (ks : List Kr) (i : Nat) (v : Value) (w1 w2 : World) (h : Tr N ks i v w1) (f : Fr (fun _ => False) w1 w2) : Tr N ks i v w2 := by
  intro kd hkd
  have h1 := h kd hkd
  cases kd with
  | eq u => exact h1
  | iv k l =>
    obtain ⟨q, cap, e, hN, ho⟩ := h1
    exact ⟨q, cap, e, hN, owns_kept ho f (fun _ _ h => h)⟩
  | ag k l =>
    obtain ⟨q, cap, e, hN, ho⟩ := h1
    exact ⟨q, cap, e, hN, owns_kept ho f (fun _ _ h => h)⟩
  | bx =>
    obtain ⟨b, e, hN, hb⟩ := h1
    exact ⟨b, e, hN, hb.kept f id⟩
  | bt n l =>
    obtain ⟨g, e, hN, hb⟩ := h1
    exact ⟨g, e, hN, hb.kept f id⟩
  | one n l =>
    obtain ⟨b, g, e, hb, hN, hN2, hg⟩ := h1
    exact ⟨b, g, e, by rw [f.block b (lt_of_heap hb) id]; exact hb, hN, hN2, hg.kept f id⟩

section
variable {ρ : Operand → Value} {o : Oper} {w : World}
theorem ex_f120 {x : Operand} {p : Nat} (ho : o.op = .fieldAddr 120 x 0) (hx : ρ x = .pointer (some ⟨p, 0, none⟩)) : (execOp ρ o).run Try.prog w = .ok (.value (.pointer (some ⟨p, 0, none⟩))) w := by
  simp [execOp, ho, hx, go_sem]
theorem ex_ext0 {x : Operand} {u v : Value} (ho : o.op = .extract x 0) (hx : ρ x = .tuple #[u, v]) : (execOp ρ o).run Try.prog w = .ok (.value u) w := by
  simp [execOp, ho, hx, go_sem]
theorem ex_ext1 {x : Operand} {u v : Value} (ho : o.op = .extract x 1) (hx : ρ x = .tuple #[u, v]) : (execOp ρ o).run Try.prog w = .ok (.value v) w := by
  simp [execOp, ho, hx, go_sem]
theorem ex_cut22 {x y z : Operand} {q n c lo hi : Nat} (ho : o.op = .slice 22 x (some y) (some z) none) (hx : ρ x = .slice (some ⟨q, 0, none⟩) n c) (hy : ρ y = .int .i64 ((lo : Nat) : Int)) (hz : ρ z = .int .i64 ((hi : Nat) : Int)) (h1 : lo ≤ hi) (h2 : hi ≤ c) (h3 : lo < c) : (execOp ρ o).run Try.prog w = .ok (.value (.slice (some ⟨q, lo, none⟩) (hi - lo) (c - lo))) w := by
  have e1 : ((lo : Nat) : Int) ≤ ((hi : Nat) : Int) := by omega
  have e2 : ((hi : Nat) : Int) ≤ ((c : Nat) : Int) := by omega
  have e3 : ¬ c = lo := by omega
  simp [execOp, ho, hx, hy, hz, go_sem, e1, e2, e3, h1, h2]
theorem ex_one65 {x : Operand} {ao : Option Addr} {n c : Nat} (ho : o.op = .buildSlice 65 1 #[(0, x)]) (hx : ρ x = .slice ao n c) : (execOp ρ o).run Try.prog w = .ok (.value (.slice (some ⟨w.heap.size, 0, none⟩) 1 1)) (w.alloc (.cells #[.slice ao n c] 22)) := by
  simp [execOp, ho, hx, go_sem]
end
theorem cfv20 (args : Array Value) (W : World) : Sem.run Try.prog (callFunc 20 args) W = .ok (.enter 20 args) W := by simp [go_sem]
theorem cfv96 (args : Array Value) (W : World) : Sem.run Try.prog (callFunc 96 args) W = .ok (.enter 96 args) W := by simp [go_sem]

/-- The rows of the code, one behind the other. -/
def rwL (k : Nat) (W : List Nat) : List UInt8 := (W.map (rowL k)).flatten
theorem rwL_snoc (k : Nat) (W : List Nat) (i : Nat) : rwL k (W ++ [i]) = rwL k W ++ rowL k i := by simp [rwL]
theorem rwL_length (k : Nat) (W : List Nat) : (rwL k W).length = W.length * k := by
  induction W with
  | nil => simp [rwL]
  | cons x W ih =>
    show (rowL k x ++ rwL k W).length = _
    rw [List.length_append, ih, rowL_length, List.length_cons, Nat.succ_mul]; omega
theorem rwL_cw (k : Nat) (W : List Nat) (hk : 1 ≤ k) (h : W.length = k) : rwL k W = cw k W := by
  have : ∀ t, t ≤ W.length → fl k (fun r c => co k (W[r]?.getD 0) c) (t * k) = rwL k (W.take t) := by
    intro t
    induction t with
    | zero => intro _; simp [rwL, fl]
    | succ t ih =>
      intro ht
      rw [fl_rowG k t _ hk, ih (by omega), List.take_add_one, List.getElem?_eq_getElem (show t < W.length by omega)]
      show _ = rwL k (W.take t ++ [W[t]])
      rw [rwL_snoc]
      rfl
  have h2 := this k (by omega)
  rw [List.take_of_length_le (by omega)] at h2
  exact h2.symm

section
variable {P : Program} {ops : Array Oper} {Q : Exit → Act → World → Prop}

/-- Behind an operation. -/
def LeftA (R : World → World → Prop) (St : Nat → Act → World → Prop) (T : Nat → Value → World → Prop) (calls : List Nat) (i : Nat) (o : Oper) (k : Nat) (a' : Act) (w' : World) (a'' : Act) (w'' : World) : Prop :=
  ∃ v, a'' = a'.put o.dst v ∧ T i v w'' ∧ R w' w'' ∧ St (if i ∈ calls then k + 1 else k) a'' w''

/-- An operation, shown once. -/
def StepA (P : Program) (Q : Exit → Act → World → Prop) (l : List Oper) (R : World → World → Prop) (St : Nat → Act → World → Prop) (T : Nat → Value → World → Prop) (calls : List Nat) (a : Act) (w : World) (i : Nat) (o : Oper) : Prop :=
  ∀ a' w' k, Base l a a' → R w w' → St k a' w' → (∀ m, calls[m]? = some i → m = k) → (∀ m c oc, calls[m]? = some c → l[c]? = some oc → depB oc i = true → k ≤ m) → (∀ j, depB o j = true → Held l T a' w' j) →
    Region.wanted o (yielded l.toArray a'.tmps) = true ∧ o.wp P a' w' (LeftA R St T calls i o k a' w') Q

def StepsA (P : Program) (Q : Exit → Act → World → Prop) (l : List Oper) (R : World → World → Prop) (St : Nat → Act → World → Prop) (T : Nat → Value → World → Prop) (calls : List Nat) (a : Act) (w : World) : Nat → List Oper → Prop
  | _, [] => True
  | i, o :: r => StepA P Q l R St T calls a w i o ∧ StepsA P Q l R St T calls a w (i + 1) r

theorem StepsA.get {l : List Oper} {R : World → World → Prop} {St : Nat → Act → World → Prop} {T : Nat → Value → World → Prop} {calls : List Nat} {a : Act} {w : World} {k : Nat} {r : List Oper} (h : StepsA P Q l R St T calls a w k r) {i : Nat} {o : Oper} (ho : r[i]? = some o) : StepA P Q l R St T calls a w (k + i) o := by
  induction r generalizing k i with
  | nil => simp at ho
  | cons x r ih =>
    cases i with
    | zero => simp at ho; subst ho; exact h.1
    | succ i =>
      simp at ho
      have := ih h.2 ho
      rwa [show k + 1 + i = k + (i + 1) by omega] at this

/-- THE RULE. -/
theorem wp_region_chainA {id : Nat} {l : List Oper} {a : Act} {w : World} (hm : P.follows .mixedOrders = true) (hB : backB l 0 = true) (nd : (dsts l).Nodup) (hd : ∀ d ∈ dsts l, d < a.tmps.size)
    (R : World → World → Prop) (Rdrew : R w w.drew) (Rtrans : ∀ a b c, R a b → R b c → R a c)
    (T : Nat → Value → World → Prop) (mono : ∀ i v w1 w2, T i v w1 → R w1 w2 → T i v w2)
    (calls : List Nat) (cn : calls.Nodup) (cl : ∀ i ∈ calls, i < l.length) (cp : ∀ k i j, calls[k]? = some i → calls[k + 1]? = some j → Path l j i) (St : Nat → Act → World → Prop) (st0 : St 0 a w.drew)
    (steps : StepsA P Q l R St T calls a w 0 l)
    (done : ∀ a' w', Base l a a' → R w w' → St calls.length a' w' → (∀ j, j < l.length → Held l T a' w' j) → Q .normal a' w') : (Code.region id l.toArray true).wp P Q a w := by
  refine wp_region_any hm ?_
  have hsz : l.toArray.size = l.length := by simp
  rw [hsz]
  let I : Array Bool → Act → World → Prop := fun listed a' w' => listed.size = l.length ∧ Base l a a' ∧ R w w' ∧ (∀ j, listed.getD j false = true → Held l T a' w' j) ∧ Shut l listed ∧
    ∃ k, k ≤ calls.length ∧ St k a' w' ∧ ∀ m i, calls[m]? = some i → (listed.getD i false = true ↔ m < k)
  refine wpAny_inv I ?_ ?_ _ _ _ _ ?_ ?_
  · intro listed a' w' i ⟨h1, h2, h3, h4, hS, k, hk, hst, hck⟩ hi
    obtain ⟨h5, o, ho, h6⟩ := mem_ready.1 hi
    have ho' : l[i]? = some o := by simpa using ho
    have hil : i < l.length := (List.getElem?_eq_some_iff.1 ho').1
    have hdep : ∀ j, depB o j = true → listed.getD j false = true := fun j hj => by
      unfold depB at hj
      rw [← Array.any_toList, List.any_eq_true] at hj
      obtain ⟨e, he', hb⟩ := hj
      have he : e ∈ o.after := by simpa using he'
      simp only [Bool.and_eq_true, beq_iff_eq] at hb
      rw [← hb.2]
      exact h6 e he hb.1
    have hni : listed.getD i false = false := by
      have hlt : i < listed.size := by omega
      simp [hlt] at h5 ⊢
      exact h5
    have hmk : ∀ m, calls[m]? = some i → m = k := fun m hm' => by
      have h7 : ¬ m < k := fun h => by rw [(hck m i hm').2 h] at hni; simp at hni
      rcases Nat.eq_zero_or_pos m with e | e
      · omega
      · obtain ⟨m', rfl⟩ : ∃ m', m = m' + 1 := ⟨m - 1, by omega⟩
        have hlt : m' < calls.length := by have := (List.getElem?_eq_some_iff.1 hm').1; omega
        have hp := cp m' _ i (List.getElem?_eq_getElem hlt) hm'
        have := hp.listed hS (fun o2 ho2 j hj => by rw [ho'] at ho2; simp at ho2; subst ho2; exact hdep j hj)
        have := (hck m' _ (List.getElem?_eq_getElem hlt)).1 this
        omega
    have hst' := steps.get ho'
    rw [Nat.zero_add] at hst'
    obtain ⟨hw, hwp⟩ := hst' a' w' k h2 h3 hst hmk (fun m c oc hm' hoc hdc => by
      rcases Nat.lt_or_ge m k with h | h
      · have h8 := hS c oc hoc ((hck m c hm').2 h) i hdc
        rw [h8] at hni; simp at hni
      · exact h) (fun j hj => h4 _ (hdep j hj))
    unfold wpOp
    simp only [ho, hw, if_true]
    refine .inl (Oper.wp_mono ?_ hwp)
    rintro a'' w'' ⟨v, rfl, hT, hf, hsk⟩
    refine ⟨by simp [h1], ⟨?_, ?_, fun s hs => ?_⟩, Rtrans _ _ _ h3 hf, fun j hj d hdj => ?_, ?_, ?_⟩
    · cases hdst : o.dst with
      | none => exact h2.size
      | some d => simp [Act.put, h2.size]
    · cases hdst : o.dst with
      | none => exact h2.defers
      | some d => exact h2.defers
    · cases hdst : o.dst with
      | none => exact h2.old s hs
      | some d =>
        rw [put_getD (fun e => hs (by rw [← e]; exact mem_dsts ho' hdst))]
        exact h2.old s hs
    · obtain ⟨oj, hoj, hdj'⟩ : ∃ oj, l[j]? = some oj ∧ oj.dst = some d := by
        cases hc : l[j]? with
        | none => rw [hc] at hdj; simp at hdj
        | some oj => rw [hc] at hdj; exact ⟨oj, rfl, by simpa using hdj⟩
      by_cases e : i = j
      · subst e
        rw [ho'] at hoj
        simp at hoj
        subst hoj
        rw [hdj', put_self (by rw [h2.size]; exact hd d (mem_dsts ho' hdj'))]
        exact hT
      · rw [getD_set_ne false e] at hj
        have hold := mono _ _ _ _ (h4 j hj d hdj) hf
        cases hdst : o.dst with
        | none => exact hold
        | some d' =>
          rw [put_getD (fun e2 => e (dsts_inj nd ho' hoj (by rw [hdst, e2]) hdj'))]
          exact hold
    · intro i2 o2 ho2 hl2 j hj
      have grow : ∀ x, listed.getD x false = true → (listed.setIfInBounds i true).getD x false = true := fun x hx => by
        by_cases e : i = x
        · subst e
          have hlt : i < listed.size := by omega
          simp [hlt]
        · rw [getD_set_ne false e]; exact hx
      by_cases e : i = i2
      · subst e
        rw [ho'] at ho2
        simp at ho2
        subst ho2
        exact grow j (hdep j hj)
      · rw [getD_set_ne false e] at hl2
        exact grow j (hS i2 o2 ho2 hl2 j hj)
    · by_cases hic : i ∈ calls
      · obtain ⟨m, hm'⟩ := List.getElem?_of_mem hic
        have hmk' := hmk m hm'
        subst hmk'
        rw [if_pos hic] at hsk
        have hml : m < calls.length := (List.getElem?_eq_some_iff.1 hm').1
        refine ⟨m + 1, by omega, hsk, fun m2 i2 hm2 => ?_⟩
        by_cases e : i = i2
        · subst e
          have hlt : i < listed.size := by omega
          have : m2 = m := (List.getElem?_inj (List.getElem?_eq_some_iff.1 hm2).1 cn).1 (hm2.trans hm'.symm)
          subst this
          simp [hlt]
        · rw [getD_set_ne false e, hck m2 i2 hm2]
          constructor
          · intro h; omega
          · intro h
            rcases Nat.lt_or_ge m2 m with h' | h'
            · exact h'
            · have : m2 = m := by omega
              subst this
              rw [hm2] at hm'
              simp at hm'
              exact absurd hm'.symm e
      · rw [if_neg hic] at hsk
        refine ⟨k, hk, hsk, fun m2 i2 hm2 => ?_⟩
        rw [getD_set_ne false (fun e => hic (by subst e; exact List.mem_of_getElem? hm2)), hck m2 i2 hm2]
  · intro listed a' w' ⟨h1, h2, h3, h4, hS, k, hk, hst, hck⟩ hr
    have hall := all_listed hB h1 hr
    have hke : k = calls.length := by
      rcases Nat.lt_or_ge k calls.length with h | h
      · have := (hck k _ (List.getElem?_eq_getElem h)).1 (hall _ (cl _ (List.getElem_mem h)))
        omega
      · omega
    subst hke
    exact done a' w' h2 h3 hst (fun j hj => h4 j (hall j hj))
  · simp [lefts]
  · have none : ∀ j, ¬ (Array.replicate l.length false).getD j false = true := fun j hj => by
      simp only [Array.getD_eq_getD_getElem?, Array.getElem?_replicate] at hj
      split at hj <;> simp at hj
    exact ⟨by simp, ⟨rfl, rfl, fun _ _ => rfl⟩, Rdrew, fun j hj => (none j hj).elim, fun i o _ hl => (none i hl).elim, 0, Nat.zero_le _, st0, fun m i _ => ⟨fun h => (none i h).elim, fun h => by omega⟩⟩
end


/-- Memory newer than N may turn, but no bytes, and matrices stay matrices. -/
structure RT (N : Nat) (w w' : World) : Prop where
  fr : Fr (fun k => N ≤ k) w w'
  by5 : ∀ b, TyAt w b 5 → w'.heap[b]? = w.heap[b]?
  z3 : ∀ b, Z3 w b → Z3 w' b
theorem RT.of_fr {N : Nat} {w w' : World} (f : Fr (fun _ => False) w w') : RT N w w' :=
  ⟨f.mono (fun _ _ h => h.elim), fun b hb => f.block b (by obtain ⟨cs, h⟩ := hb; exact lt_of_heap h) id, fun b hb => hb.kept f id⟩
theorem RT.trans {N : Nat} (a b c : World) (h : RT N a b) (k : RT N b c) : RT N a c :=
  ⟨h.fr.trans k.fr (fun _ _ h => h), fun x hx => by
    have h1 := h.by5 x hx
    have h2 : TyAt b x 5 := by obtain ⟨cs, hc⟩ := hx; exact ⟨cs, h1.trans hc⟩
    exact (k.by5 x h2).trans h1, fun x hx => k.z3 x (h.z3 x hx)⟩
theorem RT.owns {N : Nat} {w w' : World} (h : RT N w w') {v : Value} {n : Nat} {xs : List Value} (ho : w.ownsRow 0 5 1 v n xs) : w'.ownsRow 0 5 1 v n xs := by
  obtain ⟨h1, h2⟩ := ho
  refine ⟨h1, ?_⟩
  rcases h2 with h2 | ⟨g, cap, cur, e, hb, hg, r⟩
  · exact .inl h2
  · exact .inr ⟨g, cap, cur, e, hb, by rw [h.by5 g ⟨_, hg⟩]; exact hg, r⟩

theorem Tr.monoT (N : Nat) (ks : List Kr) (hks : ∀ n l, Kr.one n l ∉ ks) (i : Nat) (v : Value) (w1 w2 : World) (h : Tr N ks i v w1) (f : RT N w1 w2) : Tr N ks i v w2 := by
  intro kd hkd
  have h1 := h kd hkd
  cases kd with
  | eq u => exact h1
  | iv k l =>
    obtain ⟨q, cap, e, hN, ho⟩ := h1
    exact ⟨q, cap, e, hN, f.owns ho⟩
  | ag k l =>
    obtain ⟨q, cap, e, hN, ho⟩ := h1
    exact ⟨q, cap, e, hN, f.owns ho⟩
  | bx =>
    obtain ⟨b, e, hN, hb⟩ := h1
    exact ⟨b, e, hN, f.z3 b hb⟩
  | bt n l =>
    obtain ⟨g, e, hN, hb⟩ := h1
    exact ⟨g, e, hN, by unfold BAt; rw [f.by5 g ⟨_, hb⟩]; exact hb⟩
  | one n l => exact absurd (List.mem_of_getElem? hkd) (hks n l)

section
variable {P : Program} {o : Oper} {a : Act} {w : World} {Q : Exit → Act → World → Prop} {N : Nat} {St : Nat → Act → World → Prop} {T : Nat → Value → World → Prop} {calls : List Nat} {i k : Nat}
theorem leftA_val (v : Value) (w2 : World) (hi : i ∉ calls) (h : (execOp a.eval o).run P w = .ok (.value v) w2) (hT : T i v w2) (f : Fr (fun _ => False) w w2) (hs : St k (a.put o.dst v) w2) : o.wp P a w (LeftA (fun w w' => RT N w w') St T calls i o k a w) Q := by
  unfold Oper.wp
  rw [h, Oper.upon_value]
  exact ⟨v, rfl, hT, RT.of_fr f, by rw [if_neg hi]; exact hs⟩
theorem leftA_call (f : Nat) (args : Array Value) (hi : i ∉ calls) (h : (execOp a.eval o).run P w = .ok (.enter f args) w)
    (hc : Calls P f args w fun e w' => ∃ v, e = .returned v ∧ T i v w' ∧ Fr (fun _ => False) w w' ∧ St k (a.put o.dst v) w') : o.wp P a w (LeftA (fun w w' => RT N w w') St T calls i o k a w) Q := by
  unfold Oper.wp
  rw [h, Oper.upon_enter]
  refine hc.mono ?_
  rintro e w' ⟨v, rfl, hT, f, hs⟩
  exact ⟨v, rfl, hT, RT.of_fr f, by rw [if_neg hi]; exact hs⟩
end

attribute [local go_sem ↓] Go.wp_at_zero Go.wp_at_succ

/-- What Rebuild answers: the shards, the error. -/
def rebR (k m : Nat) (ls : List (List UInt8)) (bs : List Bool) : List (List UInt8) := if ls.length = k + m ∧ bs.length = k + m ∧ (shl (hl ls bs) ((wl bs).length : Int)).2 = 0 ∧ k ≤ (wl bs).length then rebL k m ls bs (shl (hl ls bs) ((wl bs).length : Int)).1 else []
def rebE (k m : Nat) (ls : List (List UInt8)) (bs : List Bool) : Int := if ls.length = k + m ∧ bs.length = k + m then (if (shl (hl ls bs) ((wl bs).length : Int)).2 ≠ 0 then (shl (hl ls bs) ((wl bs).length : Int)).2 else if (wl bs).length < k then 30 else 0) else 2

theorem LN.none (N : Nat) (w : World) : LN N w (.slice none 0 0) [] := (AL.nil N w).ln

theorem oneL_two {ls : List (List UInt8)} {c : Int} {y z : List UInt8} (hy : y ∈ ls) (hz : z ∈ ls) (h : y.length ≠ z.length) : (oneL ls c).2 = false := by
  unfold oneL
  by_cases h1 : (ls.length : Int) = c ∧ ∀ l ∈ ls, l.length = (ls.headD []).length
  · exact absurd ((h1.2 y hy).trans (h1.2 z hz).symm) h
  · rw [if_neg h1]
theorem oneL_same {ls : List (List UInt8)} {c : Int} {n : Nat} (hc : (ls.length : Int) = c) (h : ∀ l ∈ ls, l.length = n) (hp : 0 < ls.length) : oneL ls c = (n, true) := by
  have hh : (ls.headD []).length = n := by
    cases ls with
    | nil => simp at hp
    | cons x t => exact h x (by simp)
  unfold oneL
  rw [if_pos ⟨hc, fun l hl => (h l hl).trans hh.symm⟩, hh]

/-- What the document's loop knows of the lengths. -/
def NN (ls : List (List UInt8)) (W : List Nat) (nn : Int) : Prop := (W = [] ∧ nn = -1) ∨ ∃ c : Nat, nn = (c : Int) ∧ W ≠ [] ∧ ∀ j ∈ W, (ls[j]?.getD []).length = c

theorem wlK_sub {bs : List Bool} {i j : Nat} (h : j ∈ wlK bs i) (hi : i ≤ bs.length) : j ∈ wl bs := by
  unfold wl
  unfold wlK at h ⊢
  rw [List.mem_filter] at h ⊢
  exact ⟨List.mem_range.2 (by have := List.mem_range.1 h.1; omega), h.2⟩

theorem reb_nolen {k m : Nat} {ls : List (List UInt8)} {bs : List Bool} (h : ¬ (ls.length = k + m ∧ bs.length = k + m)) : rebR k m ls bs = [] ∧ rebE k m ls bs = 2 := by
  unfold rebR rebE
  exact ⟨if_neg (fun h' => h ⟨h'.1, h'.2.1⟩), if_neg h⟩
theorem reb_bad {k m : Nat} {ls : List (List UInt8)} {bs : List Bool} (h : ls.length = k + m ∧ bs.length = k + m) (he : (shl (hl ls bs) ((wl bs).length : Int)).2 ≠ 0) : rebR k m ls bs = [] ∧ rebE k m ls bs = (shl (hl ls bs) ((wl bs).length : Int)).2 := by
  unfold rebR rebE
  exact ⟨if_neg (fun h' => he h'.2.2.1), by rw [if_pos h, if_pos he]⟩
theorem reb_few {k m : Nat} {ls : List (List UInt8)} {bs : List Bool} (h : ls.length = k + m ∧ bs.length = k + m) (he : (shl (hl ls bs) ((wl bs).length : Int)).2 = 0) (hf : (wl bs).length < k) : rebR k m ls bs = [] ∧ rebE k m ls bs = 30 := by
  unfold rebR rebE
  exact ⟨if_neg (fun h' => by have := h'.2.2.2; omega), by rw [if_pos h, if_neg (fun h' => h' he), if_pos hf]⟩
theorem reb_good {k m : Nat} {ls : List (List UInt8)} {bs : List Bool} (h : ls.length = k + m ∧ bs.length = k + m) (he : (shl (hl ls bs) ((wl bs).length : Int)).2 = 0) (hf : k ≤ (wl bs).length) : rebR k m ls bs = rebL k m ls bs (shl (hl ls bs) ((wl bs).length : Int)).1 ∧ rebE k m ls bs = 0 := by
  unfold rebR rebE
  exact ⟨if_pos ⟨h.1, h.2, he, hf⟩, by rw [if_pos h, if_neg (fun h' => h' he), if_neg (by omega)]⟩

theorem NN.two {ls : List (List UInt8)} {bs : List Bool} {i c : Nat} (hi : i < bs.length) (hb : bs[i]?.getD false = true) (hne : wlK bs i ≠ []) (h : ∀ j ∈ wlK bs i, (ls[j]?.getD []).length = c) (hd : (ls[i]?.getD []).length ≠ c) : shl (hl ls bs) ((wl bs).length : Int) = (0, 2) := by
  apply shl_two
  obtain ⟨j, hj⟩ := List.exists_mem_of_ne_nil _ hne
  have hji := wlK_sub hj (by omega)
  have hii : i ∈ wl bs := wlK_sub (i := i + 1) (by rw [wlK_yes hb]; simp) (by omega)
  refine oneL_two (y := ls[j]?.getD []) (z := ls[i]?.getD []) (List.mem_map.2 ⟨j, hji, rfl⟩) (List.mem_map.2 ⟨i, hii, rfl⟩) ?_
  rw [h j hj]; exact fun e => hd e.symm

theorem NN.end {ls : List (List UInt8)} {bs : List Bool} {nn : Int} (h : NN ls (wl bs) nn) : (4096 < nn → shl (hl ls bs) ((wl bs).length : Int) = (0, 1)) ∧ (nn ≤ 4096 → (shl (hl ls bs) ((wl bs).length : Int)).2 = 0) ∧ (wl bs ≠ [] → nn ≤ 4096 → nn = ((shl (hl ls bs) ((wl bs).length : Int)).1 : Int)) := by
  rcases h with ⟨h1, rfl⟩ | ⟨c, rfl, h1, h2⟩
  · refine ⟨fun h => by omega, fun _ => ?_, fun h => absurd h1 h⟩
    unfold shl oneL hl
    rw [h1]
    simp
  · have ho : oneL (hl ls bs) ((wl bs).length : Int) = (c, true) := oneL_same (by rw [hl_length]) (fun l hl' => by
      obtain ⟨j, hj, rfl⟩ := List.mem_map.1 hl'
      exact h2 j hj) (by rw [hl_length]; exact List.length_pos_iff.2 h1)
    unfold shl
    rw [ho]
    simp only [if_true]
    refine ⟨fun h => by rw [if_neg (by omega)], fun h => by rw [if_pos (by omega)], fun _ h => by rw [if_pos (by omega)]⟩

set_option maxHeartbeats 8000000 in
set_option maxRecDepth 100000 in
theorem rreb_no (w : World) (p k m : Nat) (v hv : Value) (ls : List (List UInt8)) (bs : List Bool) (hD : DAt w p k m) (hk : 1 ≤ k ∧ k ≤ 16) (hm : m ≤ 8) (h : RdL w v ls) (hb : RdV w hv (bs.map Value.bool)) (hl1 : ls.length ≤ 100000) (hl2 : bs.length ≤ 100000) (hno : ¬ (ls.length = k + m ∧ bs.length = k + m)) :
    Calls Try.prog 53 #[.pointer (some ⟨p, 0, none⟩), v, hv] w fun e w' => (∃ po pn pc, e = .returned (.tuple #[.slice po pn pc, .int .i64 (rebE k m ls bs)]) ∧ LN w.heap.size w' (.slice po pn pc) (rebR k m ls bs)) ∧ Fr (fun _ => False) w w' := by
  obtain ⟨e1, e2⟩ := reb_nolen hno
  rw [e1, e2]
  have c0 := cell_of_heap hD 0
  have c1 := cell_of_heap hD 1
  simp at c0 c1
  obtain ⟨vo, vc, rfl⟩ := h.shape
  obtain ⟨bo, bc, rfl⟩ := hb.shape
  rw [List.length_map]
  clear h hb hD e1 e2
  by_cases hn : ls.length = k + m
  · have b1 : (((ls.length : Nat) : Int) != (k : Int) + (m : Int)) = false := by rw [hn]; simp
    have b2 : (((bs.length : Nat) : Int) != (k : Int) + (m : Int)) = true := by simp only [bne_iff_ne, ne_eq]; omega
    clear hno hn
    go_enter Try.func53, Try.ntmps53
    go_wp2_with fail
    go_quiet (fail)
    go_wp2_with fail
    go_ret2
    exact ⟨⟨_, _, _, rfl, LN.none _ _⟩, Fr.ofDrewN _ _⟩
  · have b1 : (((ls.length : Nat) : Int) != (k : Int) + (m : Int)) = true := by simp only [bne_iff_ne, ne_eq]; omega
    clear hno hn
    go_enter Try.func53, Try.ntmps53
    go_wp2_with fail
    go_quiet (fail)
    go_wp2_with fail
    go_ret2
    exact ⟨⟨_, _, _, rfl, LN.none _ _⟩, Fr.ofDrewN _ _⟩
end Go.Proofs.Ytckmddkhkdcmmaa
