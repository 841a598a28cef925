/-
  The chain rule where a slot that the region assigns is read ahead of that: it has its old value while what waits for the operation is not done.
  Puts in new memory: Own.
  Trim's drawn region; a copy of marks.
  Trim.
  Trim, walked.
  There and back, plainly: what was laid is read again, and what can be read is laid as it was.
  Trim, where something goes.
  Rows of ints that are cut in front and appended to.
  Acts as they come; are there too many?
  Are there too many acts?
  Room, plainly: what no transaction lies in.
-/
import Derived.Test.YtgodlfoidjeekaaM01
import Derived.Test.YtgodlfoidjeekaaM09
import Derived.Deep.AppendSrc
namespace Go.Proofs.Ytgodlfoidjeekaa
set_option linter.unusedVariables false
set_option linter.unusedSimpArgs false
open Go.RowKit
set_option linter.unusedVariables false
set_option linter.unusedSimpArgs false

section
variable {P : Program} {ops : Array Oper} {Q : Exit → Act → World → Prop}

/-- An operation, shown once. -/
def Step4 (P : Program) (Q : Exit → Act → World → Prop) (l : List Oper) (RO R Rc : World → World → Prop) (St : Nat → World → Prop) (T : Nat → Nat → Value → World → Prop) (calls : List Nat) (a : Act) (w : World) (i : Nat) (o : Oper) : Prop :=
  ∀ a' w' k, Base l a a' → RO w w' → St k w' → (∀ m, calls[m]? = some i → m = k) → (∀ m j, calls[m]? = some j → Path l j i → k ≤ m) → (∀ m j, calls[m]? = some j → Path l i j → m < k) → (∀ j, depB o j = true → Held l (T k) a' w' j) → (∀ j d, (l[j]?).bind (·.dst) = some d → j = i ∨ Path l j i → a'.tmps.getD d undef = a.tmps.getD d undef) →
    Region.wanted o (yielded l.toArray a'.tmps) = true ∧ o.wp P a' w' (Left2 R Rc St T calls i o k a' w') Q

def Steps4 (P : Program) (Q : Exit → Act → World → Prop) (l : List Oper) (RO R Rc : World → World → Prop) (St : Nat → World → Prop) (T : Nat → Nat → Value → World → Prop) (calls : List Nat) (a : Act) (w : World) : Nat → List Oper → Prop
  | _, [] => True
  | i, o :: r => Step4 P Q l RO R Rc St T calls a w i o ∧ Steps4 P Q l RO R Rc St T calls a w (i + 1) r

theorem Steps4.get {l : List Oper} {RO R Rc : World → World → Prop} {St : Nat → World → Prop} {T : Nat → Nat → Value → World → Prop} {calls : List Nat} {a : Act} {w : World} {k : Nat} {r : List Oper} (h : Steps4 P Q l RO R Rc St T calls a w k r) {i : Nat} {o : Oper} (ho : r[i]? = some o) : Step4 P Q l RO R Rc St T calls a w (k + i) o := by
  induction r generalizing k i with
  | nil => simp at ho
  | cons x r ih =>
    cases i with
    | zero => simp at ho; subst ho; exact h.1
    | succ i =>
      simp at ho
      have := ih h.2 ho
      rwa [show k + 1 + i = k + (i + 1) by omega] at this

/-- THE RULE. -/
theorem wp_region_chain4 {id : Nat} {l : List Oper} {a : Act} {w : World} (hm : P.follows .mixedOrders = true) (hB : backB l 0 = true) (nd : (dsts l).Nodup) (hd : ∀ d ∈ dsts l, d < a.tmps.size)
    (RO R Rc : World → World → Prop) (Rdrew : RO w w.drew) (Rtrans : ∀ a b c, RO a b → RO b c → RO a c) (r1 : ∀ a b, R a b → RO a b) (r2 : ∀ a b, Rc a b → RO a b)
    (T : Nat → Nat → Value → World → Prop) (mono : ∀ k i v w1 w2, T k i v w1 → R w1 w2 → T k i v w2) (monoC : ∀ k i v w1 w2, T k i v w1 → Rc w1 w2 → T (k + 1) i v w2)
    (calls : List Nat) (cn : calls.Nodup) (cl : ∀ i ∈ calls, i < l.length) (cp : ∀ k i j, calls[k]? = some i → calls[k + 1]? = some j → Path l j i) (St : Nat → World → Prop) (st0 : St 0 w.drew)
    (steps : Steps4 P Q l RO R Rc St T calls a w 0 l)
    (done : ∀ a' w', Base l a a' → RO w w' → St calls.length w' → (∀ j, j < l.length → Held l (T calls.length) a' w' j) → Q .normal a' w') : (Code.region id l.toArray true).wp P Q a w := by
  refine wp_region_any hm ?_
  have hsz : l.toArray.size = l.length := by simp
  rw [hsz]
  let I : Array Bool → Act → World → Prop := fun listed a' w' => listed.size = l.length ∧ Base l a a' ∧ RO w w' ∧ Shut l listed ∧ (∀ j d, listed.getD j false = false → (l[j]?).bind (·.dst) = some d → a'.tmps.getD d undef = a.tmps.getD d undef) ∧
    ∃ k, (∀ j, listed.getD j false = true → Held l (T k) a' w' j) ∧ k ≤ calls.length ∧ St k w' ∧ ∀ m i, calls[m]? = some i → (listed.getD i false = true ↔ m < k)
  refine wpAny_inv I ?_ ?_ _ _ _ _ ?_ ?_
  · intro listed a' w' i ⟨h1, h2, h3, hS, hU, k, h4, hk, hst, hck⟩ hi
    obtain ⟨h5, o, ho, h6⟩ := mem_ready.1 hi
    have ho' : l[i]? = some o := by simpa using ho
    have hil : i < l.length := (List.getElem?_eq_some_iff.1 ho').1
    have hdep : ∀ j, depB o j = true → listed.getD j false = true := fun j hj => by
      unfold depB at hj
      rw [← Array.any_toList, List.any_eq_true] at hj
      obtain ⟨e, he', hb⟩ := hj
      have he : e ∈ o.after := by simpa using he'
      simp only [Bool.and_eq_true, beq_iff_eq] at hb
      rw [← hb.2]
      exact h6 e he hb.1
    have hni : listed.getD i false = false := by
      have hlt : i < listed.size := by omega
      simp [hlt] at h5 ⊢
      exact h5
    have hmk : ∀ m, calls[m]? = some i → m = k := fun m hm' => by
      have h7 : ¬ m < k := fun h => by rw [(hck m i hm').2 h] at hni; simp at hni
      rcases Nat.eq_zero_or_pos m with e | e
      · omega
      · obtain ⟨m', rfl⟩ : ∃ m', m = m' + 1 := ⟨m - 1, by omega⟩
        have hlt : m' < calls.length := by have := (List.getElem?_eq_some_iff.1 hm').1; omega
        have hp := cp m' _ i (List.getElem?_eq_getElem hlt) hm'
        have := hp.listed hS (fun o2 ho2 j hj => by rw [ho'] at ho2; simp at ho2; subst ho2; exact hdep j hj)
        have := (hck m' _ (List.getElem?_eq_getElem hlt)).1 this
        omega
    have hle : ∀ m j, calls[m]? = some j → Path l j i → k ≤ m := fun m j hmj hp => by
      rcases Nat.lt_or_ge m k with h | h
      · have hj := (hck m j hmj).2 h
        have := hp.listed hS (fun o2 ho2 x hx => hS j o2 ho2 hj x hx)
        rw [this] at hni
        simp at hni
      · exact h
    have hge : ∀ m j, calls[m]? = some j → Path l i j → m < k := fun m j hmj hp =>
      (hck m j hmj).1 (hp.listed hS (fun o2 ho2 x hx => by rw [ho'] at ho2; simp at ho2; subst ho2; exact hdep x hx))
    have hun : ∀ j d, (l[j]?).bind (·.dst) = some d → j = i ∨ Path l j i → a'.tmps.getD d undef = a.tmps.getD d undef := fun j d hjd hp => by
      rcases hp with rfl | hp
      · exact hU j d hni hjd
      · cases hj : listed.getD j false with
        | false => exact hU j d hj hjd
        | true =>
          have := hp.listed hS (fun o2 ho2 x hx => hS j o2 ho2 hj x hx)
          rw [this] at hni
          simp at hni
    have hst' := steps.get ho'
    rw [Nat.zero_add] at hst'
    obtain ⟨hw, hwp⟩ := hst' a' w' k h2 h3 hst hmk hle hge (fun j hj => h4 _ (hdep j hj)) hun
    unfold wpOp
    simp only [ho, hw, if_true]
    refine .inl (Oper.wp_mono ?_ hwp)
    rintro a'' w'' ⟨v, rfl, hT, hf, hfc, hsk⟩
    have hRO : RO w' w'' := by
      by_cases hic : i ∈ calls
      · exact r2 _ _ (hfc hic)
      · exact r1 _ _ (hf hic)
    have hold : ∀ j v, T k j v w' → T (if i ∈ calls then k + 1 else k) j v w'' := fun j v h => by
      by_cases hic : i ∈ calls
      · rw [if_pos hic]; exact monoC _ _ _ _ _ h (hfc hic)
      · rw [if_neg hic]; exact mono _ _ _ _ _ h (hf hic)
    refine ⟨by simp [h1], ⟨?_, ?_, fun s hs => ?_⟩, Rtrans _ _ _ h3 hRO, ?_, fun j d hj hjd => ?_, (if i ∈ calls then k + 1 else k), fun j hj d hdj => ?_, ?_⟩
    · cases hdst : o.dst with
      | none => exact h2.size
      | some d => simp [Act.put, h2.size]
    · cases hdst : o.dst with
      | none => exact h2.defers
      | some d => exact h2.defers
    · cases hdst : o.dst with
      | none => exact h2.old s hs
      | some d =>
        rw [put_getD (fun e => hs (by rw [← e]; exact mem_dsts ho' hdst))]
        exact h2.old s hs
    · intro i2 o2 ho2 hl2 j hj
      have grow : ∀ x, listed.getD x false = true → (listed.setIfInBounds i true).getD x false = true := fun x hx => by
        by_cases e : i = x
        · subst e
          have hlt : i < listed.size := by omega
          simp [hlt]
        · rw [getD_set_ne false e]; exact hx
      by_cases e : i = i2
      · subst e
        rw [ho'] at ho2
        simp at ho2
        subst ho2
        exact grow j (hdep j hj)
      · rw [getD_set_ne false e] at hl2
        exact grow j (hS i2 o2 ho2 hl2 j hj)
    · obtain ⟨oj, hoj, hdj'⟩ : ∃ oj, l[j]? = some oj ∧ oj.dst = some d := by
        cases hc : l[j]? with
        | none => rw [hc] at hjd; simp at hjd
        | some oj => rw [hc] at hjd; exact ⟨oj, rfl, by simpa using hjd⟩
      by_cases e : i = j
      · subst e
        have hlt : i < listed.size := by omega
        simp [hlt] at hj
      · rw [getD_set_ne false e] at hj
        have h7 := hU j d hj hjd
        cases hdst : o.dst with
        | none => exact h7
        | some d' =>
          rw [put_getD (fun e2 => e (dsts_inj nd ho' hoj (by rw [hdst, e2]) hdj'))]
          exact h7
    · obtain ⟨oj, hoj, hdj'⟩ : ∃ oj, l[j]? = some oj ∧ oj.dst = some d := by
        cases hc : l[j]? with
        | none => rw [hc] at hdj; simp at hdj
        | some oj => rw [hc] at hdj; exact ⟨oj, rfl, by simpa using hdj⟩
      by_cases e : i = j
      · subst e
        rw [ho'] at hoj
        simp at hoj
        subst hoj
        rw [hdj', put_self (by rw [h2.size]; exact hd d (mem_dsts ho' hdj'))]
        exact hT
      · rw [getD_set_ne false e] at hj
        have hold' := hold _ _ (h4 j hj d hdj)
        cases hdst : o.dst with
        | none => exact hold'
        | some d' =>
          rw [put_getD (fun e2 => e (dsts_inj nd ho' hoj (by rw [hdst, e2]) hdj'))]
          exact hold'
    · by_cases hic : i ∈ calls
      · obtain ⟨m, hm'⟩ := List.getElem?_of_mem hic
        have hmk' := hmk m hm'
        subst hmk'
        rw [if_pos hic] at hsk ⊢
        have hml : m < calls.length := (List.getElem?_eq_some_iff.1 hm').1
        refine ⟨by omega, hsk, fun m2 i2 hm2 => ?_⟩
        by_cases e : i = i2
        · subst e
          have hlt : i < listed.size := by omega
          have : m2 = m := (List.getElem?_inj (List.getElem?_eq_some_iff.1 hm2).1 cn).1 (hm2.trans hm'.symm)
          subst this
          simp [hlt]
        · rw [getD_set_ne false e, hck m2 i2 hm2]
          constructor
          · intro h; omega
          · intro h
            rcases Nat.lt_or_ge m2 m with h' | h'
            · exact h'
            · have : m2 = m := by omega
              subst this
              rw [hm2] at hm'
              simp at hm'
              exact absurd hm'.symm e
      · rw [if_neg hic] at hsk ⊢
        refine ⟨hk, hsk, fun m2 i2 hm2 => ?_⟩
        rw [getD_set_ne false (fun e => hic (by subst e; exact List.mem_of_getElem? hm2)), hck m2 i2 hm2]
  · intro listed a' w' ⟨h1, h2, h3, hS, hU, k, h4, hk, hst, hck⟩ hr
    have hall := all_listed hB h1 hr
    have hke : k = calls.length := by
      rcases Nat.lt_or_ge k calls.length with h | h
      · have := (hck k _ (List.getElem?_eq_getElem h)).1 (hall _ (cl _ (List.getElem_mem h)))
        omega
      · omega
    subst hke
    exact done a' w' h2 h3 hst (fun j hj => h4 j (hall j hj))
  · simp [lefts]
  · have none : ∀ j, ¬ (Array.replicate l.length false).getD j false = true := fun j hj => by
      simp only [Array.getD_eq_getD_getElem?, Array.getElem?_replicate] at hj
      split at hj <;> simp at hj
    exact ⟨by simp, ⟨rfl, rfl, fun _ _ => rfl⟩, Rdrew, fun i o _ hl => (none i hl).elim, fun _ _ _ _ => rfl, 0, fun j hj => (none j hj).elim, Nat.zero_le _, st0, fun m i _ => ⟨fun h => (none i h).elim, fun h => by omega⟩⟩
end

/-- THE RULE, over the kinds. -/
theorem wp_region_kinds4 {P : Program} {Q : Exit → Act → World → Prop} (S : Nat → Prop) {id : Nat} {l : List Oper} {a : Act} {w : World} (hm : P.follows .mixedOrders = true) (hB : backB l 0 = true) (nd : (dsts l).Nodup) (hd : ∀ d ∈ dsts l, d < a.tmps.size)
    (ks : List (Kd S)) (calls : List Nat) (cn : calls.Nodup) (cl : ∀ i ∈ calls, i < l.length) (cp : ∀ k i j, calls[k]? = some i → calls[k + 1]? = some j → Path l j i) (St : Nat → World → Prop) (st0 : St 0 w.drew)
    (steps : Steps4 P Q l (fun w w' => Fr S w w') (fun w w' => Fr (fun _ => False) w w') (fun w w' => Fr S w w') St (Tk ks) calls a w 0 l)
    (done : ∀ a' w', Base l a a' → Fr S w w' → St calls.length w' → (∀ j, j < l.length → Held l (Tk ks calls.length) a' w' j) → Q .normal a' w') : (Code.region id l.toArray true).wp P Q a w :=
  wp_region_chain4 hm hB nd hd _ _ _ (Fr.refl _ _).drew (fun _ _ _ h k => h.trans k (fun _ _ h => h)) (fun _ _ h => h.mono (fun _ _ h => h.elim)) (fun _ _ h => h) (Tk ks) (Tk.mono ks) (Tk.monoC ks) calls cn cl cp St st0 steps done

end Go.Proofs.Ytgodlfoidjeekaa

namespace Go.Proofs.Ytgodlfoidjeekaa
set_option linter.unusedVariables false
set_option linter.unusedSimpArgs false
open Go.RowKit
set_option linter.unusedVariables false
set_option linter.unusedSimpArgs false

attribute [local go_sem ↓] Go.wp_at_zero Go.wp_at_succ

/-- The cells of puts. -/
def pc (ts : List (Int × Value × List UInt8)) : List Value := ts.flatMap fun t => [.int .i64 t.1, t.2.1]
theorem pc_more (ts : List (Int × Value × List UInt8)) (t : Int × Value × List UInt8) : pc (ts ++ [t]) = pc ts ++ [.int .i64 t.1, t.2.1] := by simp [pc]
theorem pc_get (ts : List (Int × Value × List UInt8)) : ∀ j (h : j < ts.length), (pc ts)[j * 2]? = some (.int .i64 (ts[j]).1) ∧ (pc ts)[j * 2 + 1]? = some (ts[j]).2.1 := by
  induction ts with
  | nil => intro j h; simp at h
  | cons a r ih =>
    intro j h
    have e : pc (a :: r) = .int .i64 a.1 :: a.2.1 :: pc r := by simp [pc]
    rw [e]
    cases j with
    | zero => simp
    | succ j =>
      have := ih j (by simpa using h)
      rw [show (j + 1) * 2 = j * 2 + 1 + 1 by omega]
      simpa using this
theorem own_ge {M : Nat} {w : World} {e size : Nat} {v : Value} {n : Nat} {xs : List Value} (h : w.ownsRow M e size v n xs) : ∀ b, v.ownBlock = some b → M ≤ b ∧ b < w.heap.size ∧ ∃ cs, w.heap[b]? = some (.cells cs e (0, 0)) := by
  intro b e
  obtain ⟨h1, h2 | ⟨g, cap, cur, h3, h4, h5, h6⟩⟩ := h
  · rw [h2.1] at e; simp [Value.ownBlock] at e
  · rw [h3] at e
    simp [Value.ownBlock] at e
    subst e
    exact ⟨h4, lt_of_heap h5, _, h5⟩
theorem own_low {M N : Nat} {w : World} {e size : Nat} {v : Value} {n : Nat} {xs : List Value} (h : w.ownsRow M e size v n xs) (hN : ∀ b, v.ownBlock = some b → N ≤ b) : w.ownsRow N e size v n xs := by
  obtain ⟨h1, h2 | ⟨g, cap, cur, h3, h4, h5, h6⟩⟩ := h
  · exact ⟨h1, .inl h2⟩
  · exact ⟨h1, .inr ⟨g, cap, cur, h3, hN g (by rw [h3]; rfl), h5, h6⟩⟩
theorem own_keptM {M : Nat} {w w' : World} {e size : Nat} {v : Value} {n : Nat} {xs : List Value} {S : Nat → Prop} (h : w.ownsRow M e size v n xs) (f : Fr S w w') (hs : ∀ b, v.ownBlock = some b → ¬ S b) : w'.ownsRow M e size v n xs :=
  own_low (owns_kept (own_low h (fun _ _ => Nat.zero_le _)) f hs) (fun b e => (own_ge h b e).1)
theorem pc_length (ts : List (Int × Value × List UInt8)) : (pc ts).length = ts.length * 2 := by
  induction ts with
  | nil => rfl
  | cons a r ih =>
    have e : pc (a :: r) = .int .i64 a.1 :: a.2.1 :: pc r := by simp [pc]
    rw [e, List.length_cons, List.length_cons, List.length_cons, ih]
    omega
/-- Puts in memory of their own, from M on. -/
def PO (M : Nat) (w : World) (v : Value) (ps : List (Int × List UInt8)) : Prop := ∃ ts : List (Int × Value × List UInt8), ts.map (fun t => (t.1, t.2.2)) = ps ∧ w.ownsRow M 94 2 v ps.length (pc ts) ∧ ∀ t ∈ ts, Ob M w t.2.1 t.2.2
theorem PO.nil (M : Nat) (w : World) : PO M w (.slice none 0 0) [] := ⟨[], rfl, World.ownsRow_nil _ _ _ _, fun t h => by simp at h⟩
theorem PO.shape {M : Nat} {w : World} {v : Value} {ps : List (Int × List UInt8)} (h : PO M w v ps) : ∃ ao c, v = .slice ao ps.length c := by
  obtain ⟨ts, -, h, -⟩ := h
  exact owns_shape h
theorem ob_keptS {M : Nat} {w w' : World} {v : Value} {l : List UInt8} {S : Nat → Prop} (h : Ob M w v l) (f : Fr S w w') (hs : ∀ b, v.ownBlock = some b → ¬ S b) : Ob M w' v l := own_keptM h f hs
theorem PO.kept {M : Nat} {w w' : World} {v : Value} {ps : List (Int × List UInt8)} (h : PO M w v ps) (f : Fr (fun _ => False) w w') : PO M w' v ps := by
  obtain ⟨ts, h1, h2, h3⟩ := h
  exact ⟨ts, h1, own_keptM h2 f (fun _ _ e => e), fun t ht => ob_keptS (h3 t ht) f (fun _ _ e => e)⟩
theorem PO.rdp {M : Nat} {w : World} {v : Value} {ps : List (Int × List UInt8)} (h : PO M w v ps) : RdP w v ps := by
  obtain ⟨ts, h1, h2, h3⟩ := h
  rcases id h2.2 with ⟨hv, hn⟩ | ⟨g, cap, cur, rfl, hb, hg, hnc, hcm, hcs, htake⟩
  · exact .inl ⟨⟨none, 0, hv⟩, List.eq_nil_of_length_eq_zero hn⟩
  · refine .inr ⟨g, 0, cap, rfl, hnc, hcm, fun j hj => ?_⟩
    subst h1
    have hj' : j < ts.length := by simpa using hj
    have hl := pc_length ts
    obtain ⟨g1, g2⟩ := pc_get ts j hj'
    have c1 := World.ownsRow.cellAt h2 (j * 2) (by simp; omega)
    have c2 := World.ownsRow.cellAt h2 (j * 2 + 1) (by simp; omega)
    rw [Nat.zero_add]
    refine ⟨?_, (ts[j]).2.1, c2.trans g2, ?_⟩
    · rw [c1, g1]; simp
    · have := Rd.of_owns (h3 _ (List.getElem_mem hj'))
      simpa using this
section
variable {ρ : Operand → Value} {o : Oper} {w : World} {x y : Operand} {ao : Option Addr} {B of n c : Nat}
theorem x_idx28i {i : Nat} (hi : i < n) (ho : o.op = .indexAddr 28 x y) (hx : ρ x = .slice (some ⟨B, of, none⟩) n c) (hy : ρ y = .int .i64 (i : Int)) : (execOp ρ o).run Try.prog w = .ok (.value (.pointer (some ⟨B, of + i * 2, none⟩))) w := by
  obtain ⟨inf, hi0, hz0, hz1, hz2⟩ := info_parts Try.info94
  simp [execOp, ho, hx, hy, go_sem, hi]
theorem fa94_1' (b o : Nat) (W : World) : (Instr.fieldAt 94 (.pointer (some ⟨b, o, none⟩)) 1).run Try.prog W = .ok (.pointer (some ⟨b, o + 1, none⟩)) W := by simp [go_sem]
theorem x_bs230 (ho : o.op = .buildSlice 23 0 #[]) : (execOp ρ o).run Try.prog w = .ok (.value (.slice (some ⟨w.heap.size, 0, none⟩) 0 0)) (w.alloc (.cells #[] 5)) := by
  simp [execOp, ho, go_sem]
theorem x_app23 {a b v : Value} {w2 : World} (ho : o.op = .call { callee := .builtin .append, args := #[x, y], argTypes := #[23, 23] }) (hty : o.type = 23) (hx : ρ x = a) (hy : ρ y = b) (hr : (Builtin.append_ #[23, 23] 23 #[a, b]).run Try.prog w = .ok v w2) : (execOp ρ o).run Try.prog w = .ok (.value v) w2 := by
  simp only [execOp, ho, hty, resolve, invoke, builtin, Sem.run_bind, Sem.run_pure, Result.andThen_ok, List.map_toArray, List.map_cons, List.map_nil, hx, hy, hr]
theorem x_app28 {a b v : Value} {w2 : World} (ho : o.op = .call { callee := .builtin .append, args := #[x, y], argTypes := #[28, 28] }) (hty : o.type = 28) (hx : ρ x = a) (hy : ρ y = b) (hr : (Builtin.append_ #[28, 28] 28 #[a, b]).run Try.prog w = .ok v w2) : (execOp ρ o).run Try.prog w = .ok (.value v) w2 := by
  simp only [execOp, ho, hty, resolve, invoke, builtin, Sem.run_bind, Sem.run_pure, Result.andThen_ok, List.map_toArray, List.map_cons, List.map_nil, hx, hy, hr]
theorem x_build94 {a : Int} {k : Nat} (ho : o.op = .build 94 #[(0, x), (1, y)]) (hx : ρ x = .int .i64 a) (hy : ρ y = .slice ao n k) : (execOp ρ o).run Try.prog w = .ok (.value (.agg #[.int .i64 a, .slice ao n k])) w := by
  simp [execOp, ho, hx, hy, go_sem]
theorem x_bs28 {a : Int} {k : Nat} (ho : o.op = .buildSlice 28 1 #[(0, x)]) (hx : ρ x = .agg #[.int .i64 a, .slice ao n k]) : (execOp ρ o).run Try.prog w = .ok (.value (.slice (some ⟨w.heap.size, 0, none⟩) 1 1)) (w.alloc (.cells #[.int .i64 a, .slice ao n k] 94)) := by
  simp [execOp, ho, hx, go_sem]
end
set_option maxHeartbeats 4000000 in
set_option maxRecDepth 100000 in
theorem go5 {W : World} {B o n cap i M : Nat} {z : Int} {x lv : Value} {d : List UInt8} {qs : List (Int × List UInt8)} {u1 u2 u5 u6 u7 u8 u9 u10 u11 u12 u13 u14 u15 u16 u17 u18 u19 u20 u21 u22 u23 u24 u25 u26 u27 : Value} {Q : Exit → Act → World → Prop} (hi : i < n) (c0 : W.cell? ⟨B, o + i * 2, none⟩ = some (.int .i64 z)) (c1 : W.cell? ⟨B, o + i * 2 + 1, none⟩ = some x) (rx : Rd W x d) (dl : d.length ≤ 100000000) (hp : PO M W lv qs) (ql : qs.length ≤ 100000000) (hm : M ≤ W.heap.size) (hn : lv.ownBlock ≠ some B)
    (hQ : ∀ (y3 y11 y12 y13 y14 y15 y16 y17 y18 y19 y20 y21 y22 y23 y24 y25 y26 : Value) (W' : World), (PO M W' y3 (qs ++ [(z, d)]) ∧ Fr (fun k => lv.ownBlock = some k) W W') → Q .normal ⟨#[.slice (some ⟨B, o, none⟩) n cap, u1, u2, y3, .int .i64 (i : Int), u5, u6, u7, u8, u9, u10, y11, y12, y13, y14, y15, y16, y17, y18, y19, y20, y21, y22, y23, y24, y25, y26, u27], []⟩ W') : (rgF Try.f16 5).wp Try.prog Q ⟨#[.slice (some ⟨B, o, none⟩) n cap, u1, u2, lv, .int .i64 (i : Int), u5, u6, u7, u8, u9, u10, u11, u12, u13, u14, u15, u16, u17, u18, u19, u20, u21, u22, u23, u24, u25, u26, u27], []⟩ W := by
  have HQ := hide hQ
  clear hQ
  have HI := hide hi
  have C0 := hide c0
  have C1 := hide c1
  have RX := hide rx
  have DL := hide dl
  have HP := hide hp
  have QL := hide ql
  have HM := hide hm
  have HN := hide (show ¬ (lv.ownBlock = some B ∨ W.heap.size ≤ B) from fun e => by
    have h1 := World.block_lt_of_cell? W _ c0
    simp at h1
    rcases e with e | e
    · exact hn e
    · omega)
  clear hi c0 c1 rx dl hp ql hm hn
  conv => arg 2; whnf
  refine wp_nameK ?_
  intro a0 hA
  have h0 : a0.tmps.getD 0 undef = .slice (some ⟨B, o, none⟩) n cap := by rw [hA]; rfl
  have h3 : a0.tmps.getD 3 undef = lv := by rw [hA]; rfl
  have h4 : a0.tmps.getD 4 undef = .int .i64 (i : Int) := by rw [hA]; rfl
  have hsz : a0.tmps.size = 28 := by rw [hA]; rfl
  have hdf : a0.defers = [] := by rw [hA]
  have HA0 := hide hA
  clear hA
  refine wp_region_kinds4 (fun k => lv.ownBlock = some k ∨ W.heap.size ≤ k) (by kernel_rfl) (by kernel_rfl) (by decide +kernel) (by rw [hsz]; decide +kernel) [.eq (lv), .eq (.slice (some ⟨B, o, none⟩) n cap), .eq (.int .i64 (i : Int)), .eq (.pointer (some ⟨B, o + i * 2, none⟩)), .eq (.pointer (some ⟨B, o + i * 2, none⟩)), .eq (.int .i64 z), .st 0 (fun v w => ∃ b, v = .slice (some ⟨b, 0, none⟩) 0 0 ∧ W.heap.size ≤ b ∧ w.heap[b]? = some (.cells #[] 5 (0, 0))) (fun v w1 w2 h f => by obtain ⟨b, e, g, h⟩ := h; exact ⟨b, e, g, (f.block b (lt_of_heap h) id).trans h⟩), .eq (.slice (some ⟨B, o, none⟩) n cap), .eq (.int .i64 (i : Int)), .eq (.pointer (some ⟨B, o + i * 2, none⟩)), .eq (.pointer (some ⟨B, o + i * 2 + 1, none⟩)), .eq (x), .st 1 (fun v w => ∃ ao c, v = .slice ao d.length c ∧ Ob W.heap.size w v d) (fun v w1 w2 h f => by obtain ⟨ao, c, e, h⟩ := h; exact ⟨ao, c, e, ob_keptS h f (fun _ _ e => e)⟩), .st 1 (fun v w => ∃ ao c, v = .agg #[.int .i64 z, .slice ao d.length c] ∧ Ob W.heap.size w (.slice ao d.length c) d) (fun v w1 w2 h f => by obtain ⟨ao, c, e, h⟩ := h; exact ⟨ao, c, e, ob_keptS h f (fun _ _ e => e)⟩), .st 1 (fun v w => ∃ b ao c, v = .slice (some ⟨b, 0, none⟩) 1 1 ∧ w.heap[b]? = some (.cells #[.int .i64 z, .slice ao d.length c] 94 (0, 0)) ∧ Ob W.heap.size w (.slice ao d.length c) d) (fun v w1 w2 h f => by obtain ⟨b, ao, c, e, g, h⟩ := h; exact ⟨b, ao, c, e, (f.block b (lt_of_heap g) id).trans g, ob_keptS h f (fun _ _ e => e)⟩), .st 2 (fun v w => PO M w v (qs ++ [(z, d)])) (fun v w1 w2 h f => h.kept f), .st 2 (fun v w => PO M w v (qs ++ [(z, d)])) (fun v w1 w2 h f => h.kept f)] [12, 15] (by decide) (by decide) (chain_paths _ [[12]] (by kernel_rfl)) (fun k w => match k with | 0 => Fr (fun _ => False) W w | 1 => Fr (fun _ => False) W w | _ => Fr (fun k => lv.ownBlock = some k) W w) (Fr.refl _ _).drew ?steps ?done
  case steps =>
    refine ⟨?_, ?_⟩
    · intro a' w' k' hb hf hs hc hq hg hd hu
      exact ⟨wantedN rfl, k_val (lv) (by decide) hs (x_move rfl ((hu 16 3 rfl (.inr (waits (by kernel_rfl)))).trans h3)) rfl⟩
    refine ⟨?_, ?_⟩
    · intro a' w' k' hb hf hs hc hq hg hd hu
      exact ⟨wantedN rfl, k_val (.slice (some ⟨B, o, none⟩) n cap) (by decide) hs (x_move rfl ((hb.old 0 (by decide +kernel)).trans h0)) rfl⟩
    refine ⟨?_, ?_⟩
    · intro a' w' k' hb hf hs hc hq hg hd hu
      exact ⟨wantedN rfl, k_val (.int .i64 (i : Int)) (by decide) hs (x_move rfl ((hb.old 4 (by decide +kernel)).trans h4)) rfl⟩
    refine ⟨?_, ?_⟩
    · intro a' w' k' hb hf hs hc hq hg hd hu
      exact ⟨wantedN rfl, k_val (.pointer (some ⟨B, o + i * 2, none⟩)) (by decide) hs (x_idx28i (unhide HI) rfl (hd 1 (by kernel_rfl) 12 rfl) (hd 2 (by kernel_rfl) 13 rfl)) rfl⟩
    refine ⟨?_, ?_⟩
    · intro a' w' k' hb hf hs hc hq hg hd hu
      exact ⟨wantedN rfl, k_val (.pointer (some ⟨B, o + i * 2, none⟩)) (by decide) hs (x_field (of := o + i * 2) (off := 0) (fa94_0 B (o + i * 2)) rfl (hd 3 (by kernel_rfl) 14 rfl)) rfl⟩
    refine ⟨?_, ?_⟩
    · intro a' w' k' hb hf hs hc hq hg hd hu
      exact ⟨wantedN rfl, k_val (.int .i64 z) (by decide) hs (x_load1 ld3 rfl (hd 4 (by kernel_rfl) 15 rfl) ((Fr.cell hf (a := ⟨B, o + i * 2, none⟩) (World.block_lt_of_cell? W _ (unhide C0)) (unhide HN)).trans (unhide C0))) rfl⟩
    refine ⟨?_, ?_⟩
    · intro a' w' k' hb hf hs hc hq hg hd hu
      obtain rfl : k' = 0 := Nat.le_zero.1 (hq 0 12 rfl (waits (by kernel_rfl))); exact ⟨wantedN rfl, k_new _ _ (by decide) (Fr.trans (show Fr (fun _ => False) W w' from hs) ((Fr.refl _ _).alloc _) (fun _ _ e => e)) ((Fr.refl _ _).alloc _) (x_bs230 rfl) ⟨Nat.le_refl _, fun _ => ⟨_, rfl, hf.size, heap_alloc_new w' _⟩⟩⟩
    refine ⟨?_, ?_⟩
    · intro a' w' k' hb hf hs hc hq hg hd hu
      exact ⟨wantedN rfl, k_val (.slice (some ⟨B, o, none⟩) n cap) (by decide) hs (x_move rfl ((hb.old 0 (by decide +kernel)).trans h0)) rfl⟩
    refine ⟨?_, ?_⟩
    · intro a' w' k' hb hf hs hc hq hg hd hu
      exact ⟨wantedN rfl, k_val (.int .i64 (i : Int)) (by decide) hs (x_move rfl ((hb.old 4 (by decide +kernel)).trans h4)) rfl⟩
    refine ⟨?_, ?_⟩
    · intro a' w' k' hb hf hs hc hq hg hd hu
      exact ⟨wantedN rfl, k_val (.pointer (some ⟨B, o + i * 2, none⟩)) (by decide) hs (x_idx28i (unhide HI) rfl (hd 7 (by kernel_rfl) 18 rfl) (hd 8 (by kernel_rfl) 19 rfl)) rfl⟩
    refine ⟨?_, ?_⟩
    · intro a' w' k' hb hf hs hc hq hg hd hu
      exact ⟨wantedN rfl, k_val (.pointer (some ⟨B, o + i * 2 + 1, none⟩)) (by decide) hs (x_field (of := o + i * 2) (off := 1) (fa94_1' B (o + i * 2)) rfl (hd 9 (by kernel_rfl) 20 rfl)) rfl⟩
    refine ⟨?_, ?_⟩
    · intro a' w' k' hb hf hs hc hq hg hd hu
      exact ⟨wantedN rfl, k_val x (by decide) hs (x_load1 ld23 rfl (hd 10 (by kernel_rfl) 21 rfl) ((Fr.cell hf (a := ⟨B, o + i * 2 + 1, none⟩) (World.block_lt_of_cell? W _ (unhide C1)) (unhide HN)).trans (unhide C1))) rfl⟩
    refine ⟨?_, ?_⟩
    · intro a' w' k' hb hf hs hc hq hg hd hu
      obtain rfl := hc 0 rfl
      obtain ⟨-, h9⟩ := (hd 6 (by kernel_rfl) 17 rfl)
      obtain ⟨b9, e9, n9, h9⟩ := h9 rfl
      have hs' : Fr (fun _ => False) W w' := hs
      have o9 : w'.ownsRow 0 5 1 (.slice (some ⟨b9, 0, none⟩) 0 0) 0 [] := ⟨rfl, .inr ⟨b9, 0, #[], rfl, Nat.zero_le _, h9, Nat.le_refl _, Nat.zero_le _, rfl, rfl⟩⟩
      obtain ⟨inf, hi0, hz0, hz1, hz2⟩ := info_parts Try.info5
      obtain ⟨v2, w2, hr2, ho2, hg2, hn2⟩ := run_app (P := Try.prog) w' 23 23 5 inf _ 1 1 Try.underlying23 hi0 hz0 hz1 hz2 rfl (by decide) _ 0 [] o9 x d.length (bvs d) (((unhide RX).kept hs' (fun _ _ e => e)).sr) (bvs_one _) (by have := unhide DL; omega) (by have := unhide DL; simp only [maxLen]; omega)
      simp only [Nat.zero_add, List.nil_append] at ho2
      obtain ⟨ao2, c2, rfl⟩ := owns_shape ho2
      have fg : Fr (fun _ => False) W w2 := hs'.grown hg2 (fun k hk e => by simp [Value.ownBlock] at e; omega)
      have hsz := hs'.size
      exact ⟨wantedN rfl, k_chain _ w2 (by decide) fg ((Fr.refl _ _).grown hg2 (fun k _ e => .inr (by simp [Value.ownBlock] at e; omega))) (x_app23 rfl rfl e9 (hd 11 (by kernel_rfl) 22 rfl) hr2) ⟨Nat.le_refl _, fun _ => ⟨_, _, rfl, own_low ho2 (fun b hb => by
        rcases hn2 with e | e
        · rw [e] at hb; simp [Value.ownBlock] at hb; omega
        · rw [e] at hb; simp at hb; omega)⟩⟩⟩
    refine ⟨?_, ?_⟩
    · intro a' w' k' hb hf hs hc hq hg hd hu
      have k1 := hq 1 15 rfl (waits (by kernel_rfl))
      obtain ⟨l1, h9⟩ := (hd 12 (by kernel_rfl) 23 rfl)
      obtain rfl : k' = 1 := by omega
      obtain ⟨ao, c, e9, h9⟩ := h9 rfl
      rw [e9] at h9
      exact ⟨wantedN rfl, k_val _ (by decide) hs (x_build94 rfl (hd 5 (by kernel_rfl) 16 rfl) e9) ⟨Nat.le_refl _, fun _ => ⟨_, _, rfl, h9⟩⟩⟩
    refine ⟨?_, ?_⟩
    · intro a' w' k' hb hf hs hc hq hg hd hu
      have k1 := hq 1 15 rfl (waits (by kernel_rfl))
      obtain ⟨l1, h9⟩ := (hd 13 (by kernel_rfl) 24 rfl)
      obtain rfl : k' = 1 := by omega
      obtain ⟨ao, c, e9, h9⟩ := h9 rfl
      exact ⟨wantedN rfl, k_new _ _ (by decide) (Fr.trans (show Fr (fun _ => False) W w' from hs) ((Fr.refl _ _).alloc _) (fun _ _ e => e)) ((Fr.refl _ _).alloc _) (x_bs28 rfl e9) ⟨Nat.le_refl _, fun _ => ⟨_, _, _, rfl, heap_alloc_new w' _, ob_keptS h9 ((Fr.refl (fun _ => False) _).alloc _) (fun _ _ e => e)⟩⟩⟩
    refine ⟨?_, ?_⟩
    · intro a' w' k' hb hf hs hc hq hg hd hu
      obtain rfl := hc 1 rfl
      obtain ⟨-, h9⟩ := (hd 14 (by kernel_rfl) 25 rfl)
      obtain ⟨b9, ao, c, e9, h9, o9⟩ := h9 rfl
      have hs' : Fr (fun _ => False) W w' := hs
      obtain ⟨ts, p1, p2, p3⟩ := (unhide HP).kept hs'
      obtain ⟨inf, hi0, hz0, hz1, hz2⟩ := info_parts Try.info94
      have hsr : Sr w' 2 (.slice (some ⟨b9, 0, none⟩) 1 1) 1 [.int .i64 z, .slice ao d.length c] := .inr ⟨_, _, rfl, rfl, fun j u hu => by
        rw [Addr.add_lit, Nat.zero_add, cell_of_heap h9]
        simpa using hu⟩
      obtain ⟨v2, w2, hr2, ho2, hg2, hn2⟩ := run_app (P := Try.prog) w' 28 28 94 inf _ 2 32 Try.underlying28 hi0 hz0 hz1 hz2 rfl (by decide) lv qs.length _ (own_low p2 (fun _ _ => Nat.zero_le _)) _ 1 _ hsr (fun u hu => by simp at hu; rcases hu with rfl | rfl <;> rfl) (by have := unhide QL; omega) (by have := unhide QL; simp only [maxLen]; omega)
      have fg : Fr (fun k => lv.ownBlock = some k) W w2 := (hs'.mono (fun _ _ h => h.elim)).grown hg2 (fun k _ e => e)
      have f2 : Fr (fun k => lv.ownBlock = some k) w' w2 := (Fr.refl _ _).grown hg2 (fun k _ e => e)
      have hsz := hs'.size
      have hM := unhide HM
      have ht : ∀ (v : Value) (l : List UInt8), Ob 0 w' v l → Ob 0 w2 v l := fun v l h => ob_keptS h f2 (fun b hb e => by
        obtain ⟨-, -, cs, hb1⟩ := own_ge h b hb
        obtain ⟨-, -, cs2, hb2⟩ := own_ge p2 b e
        rw [hb1] at hb2
        simp at hb2)
      have hO : Ob M w2 (.slice ao d.length c) d := own_low (ht _ _ (own_low o9 (fun _ _ => Nat.zero_le _))) (fun b hb => by have := (own_ge o9 b hb).1; omega)
      have hP : PO M w2 v2 (qs ++ [(z, d)]) := ⟨ts ++ [(z, .slice ao d.length c, d)], by rw [List.map_append, p1]; rfl, by
        rw [pc_more, List.length_append]
        exact own_low ho2 (fun b hb => by
          rcases hn2 with e | e
          · rw [e] at hb; exact (own_ge p2 b hb).1
          · rw [e] at hb; simp at hb; omega), fun t ht' => by
        rcases List.mem_append.1 ht' with e | e
        · exact own_low (ht _ _ (own_low (p3 t e) (fun _ _ => Nat.zero_le _))) (fun b hb => (own_ge (p3 t e) b hb).1)
        · simp at e; subst e; exact hO⟩
      exact ⟨wantedN rfl, k_chain _ w2 (by decide) fg ((Fr.refl _ _).grown hg2 (fun k _ e => .inl e)) (x_app28 rfl rfl (hd 0 (by kernel_rfl) 11 rfl) e9 hr2) ⟨Nat.le_refl _, fun _ => hP⟩⟩
    refine ⟨?_, ?_⟩
    · intro a' w' k' hb hf hs hc hq hg hd hu
      have hh := (hd 15 (by kernel_rfl) 26 rfl); exact ⟨wantedN rfl, k_val _ (by decide) hs (x_assign rfl rfl) hh⟩
    exact trivial
  case done =>
    intro a' w' hb hf hs hall
    have hslots : Slots a' 0 [.slice (some ⟨B, o, none⟩) n cap, u1, u2, a'.tmps.getD 3 undef, .int .i64 (i : Int), u5, u6, u7, u8, u9, u10, a'.tmps.getD 11 undef, a'.tmps.getD 12 undef, a'.tmps.getD 13 undef, a'.tmps.getD 14 undef, a'.tmps.getD 15 undef, a'.tmps.getD 16 undef, a'.tmps.getD 17 undef, a'.tmps.getD 18 undef, a'.tmps.getD 19 undef, a'.tmps.getD 20 undef, a'.tmps.getD 21 undef, a'.tmps.getD 22 undef, a'.tmps.getD 23 undef, a'.tmps.getD 24 undef, a'.tmps.getD 25 undef, a'.tmps.getD 26 undef, u27] := ⟨(hb.old 0 (by decide +kernel)).trans (by rw [unhide HA0]; rfl), (hb.old 1 (by decide +kernel)).trans (by rw [unhide HA0]; rfl), (hb.old 2 (by decide +kernel)).trans (by rw [unhide HA0]; rfl), rfl, (hb.old 4 (by decide +kernel)).trans (by rw [unhide HA0]; rfl), (hb.old 5 (by decide +kernel)).trans (by rw [unhide HA0]; rfl), (hb.old 6 (by decide +kernel)).trans (by rw [unhide HA0]; rfl), (hb.old 7 (by decide +kernel)).trans (by rw [unhide HA0]; rfl), (hb.old 8 (by decide +kernel)).trans (by rw [unhide HA0]; rfl), (hb.old 9 (by decide +kernel)).trans (by rw [unhide HA0]; rfl), (hb.old 10 (by decide +kernel)).trans (by rw [unhide HA0]; rfl), rfl, rfl, rfl, rfl, rfl, rfl, rfl, rfl, rfl, rfl, rfl, rfl, rfl, rfl, rfl, rfl, (hb.old 27 (by decide +kernel)).trans (by rw [unhide HA0]; rfl), trivial⟩
    have hfr := frame_eq (a := a') (by rw [hb.size, hsz]; rfl) (by rw [hb.defers, hdf]) hslots
    rw [hfr]
    exact unhide HQ (a'.tmps.getD 3 undef) (a'.tmps.getD 11 undef) (a'.tmps.getD 12 undef) (a'.tmps.getD 13 undef) (a'.tmps.getD 14 undef) (a'.tmps.getD 15 undef) (a'.tmps.getD 16 undef) (a'.tmps.getD 17 undef) (a'.tmps.getD 18 undef) (a'.tmps.getD 19 undef) (a'.tmps.getD 20 undef) (a'.tmps.getD 21 undef) (a'.tmps.getD 22 undef) (a'.tmps.getD 23 undef) (a'.tmps.getD 24 undef) (a'.tmps.getD 25 undef) (a'.tmps.getD 26 undef) w' ⟨(hall 16 (by decide) 3 rfl).2 rfl, hs⟩
set_option maxHeartbeats 4000000 in
set_option maxRecDepth 100000 in
theorem own_any (w : World) (v : Value) (ps : List (Int × List UInt8)) (h : RdP w v ps) (hl : ps.length ≤ 100000000) (hd : ∀ p ∈ ps, p.2.length ≤ 100000000) :
    Calls Try.prog 16 #[v] w fun e w' => ∃ r, e = .returned r ∧ PO w.heap.size w' r ps ∧ Fr (fun _ => False) w w' := by
  have HH := hide h
  have HD := hide hd
  obtain ⟨ao, cap, rfl⟩ := h.shape
  clear h hd
  go_enter Try.func16, Try.ntmps16
  go_wp2_with fail
  go_loopw [3, 4] (fun x y W => ∃ i : Nat, i ≤ ps.length ∧ y = .int .i64 (i : Int) ∧ PO w.heap.size W x (ps.take i) ∧ Fr (fun _ => False) w W) (fun _ y _ => ps.length - (intOf y).toNat)
  case atStart => exact ⟨0, Nat.zero_le _, rfl, PO.nil _ _, Fr.refl _ _⟩
  case round =>
    obtain ⟨i, hi, rfl, hP, hF⟩ := hrel
    have HP := hide hP
    have HF := hide hF
    clear hP hF
    by_cases hlt : i < ps.length
    · obtain ⟨B, o, cap', x, y1, q1, c0, c1, r1⟩ := RdP.get (unhide HH) (unhide HF) i hlt
      simp at y1
      obtain ⟨rfl, rfl⟩ := y1
      have C0 := hide c0
      have C1 := hide c1
      have R1 := hide r1
      have HB := hide (show B < w.heap.size by
        obtain ⟨B', o', cap2, x', y2, -, a0, -⟩ := RdP.get (unhide HH) (Fr.refl _ w) i hlt
        simp at y2
        obtain ⟨⟨rfl, rfl⟩, rfl⟩ := y2
        exact World.block_lt_of_cell? w _ a0)
      clear c0 c1 r1 q1
      go_upto_region 5 with fail
      refine go5 (i := i) hlt (unhide C0) (unhide C1) (unhide R1) (unhide HD _ (List.getElem_mem hlt)) (unhide HP) (by simp; omega) (unhide HF).size (fun e => by
        obtain ⟨ts, -, p2, -⟩ := unhide HP
        have := (own_ge p2 B e).1
        have := unhide HB
        omega) ?_
      intros
      rename_i W' hW
      have HP1 := hide hW.1
      have HF1 := hide (Fr.trans (unhide HF) hW.2 (fun b hb e => by
        obtain ⟨ts, -, p2, -⟩ := unhide HP
        have := (own_ge p2 b e).1
        omega))
      have e9 := List.take_succ_eq_append_getElem hlt
      clear hW HP HF C0 C1 R1
      go_wp2_with fail
      go_roundw
      case rel => exact ⟨i + 1, by omega, by go_num, by rw [e9]; exact unhide HP1, unhide HF1⟩
      case measure => simp [intOf]; omega
    · have e9 : ps.take i = ps := List.take_of_length_le (by omega)
      rw [e9] at HP
      go_wp2_with fail
      go_ret
      exact ⟨_, rfl, unhide HP, unhide HF⟩
end Go.Proofs.Ytgodlfoidjeekaa

namespace Go.Proofs.Ytgodlfoidjeekaa
set_option linter.unusedVariables false
set_option linter.unusedSimpArgs false
open Go.RowKit
set_option linter.unusedVariables false
set_option linter.unusedSimpArgs false

attribute [local go_sem ↓] Go.wp_at_zero Go.wp_at_succ

theorem fa130_0 (b o : Nat) (W : World) : (Instr.fieldAt 130 (.pointer (some ⟨b, o, none⟩)) 0).run Try.prog W = .ok (.pointer (some ⟨b, o + 0, none⟩)) W := by simp [go_sem]
theorem fa130_1 (b o : Nat) (W : World) : (Instr.fieldAt 130 (.pointer (some ⟨b, o, none⟩)) 1).run Try.prog W = .ok (.pointer (some ⟨b, o + 1, none⟩)) W := by simp [go_sem]
theorem fa130_2 (b o : Nat) (W : World) : (Instr.fieldAt 130 (.pointer (some ⟨b, o, none⟩)) 2).run Try.prog W = .ok (.pointer (some ⟨b, o + 2, none⟩)) W := by simp [go_sem]
set_option maxHeartbeats 8000000 in
set_option maxRecDepth 100000 in
theorem gt9 {W : World} {j m lsn a0 a1 e0 e1 e2 : Nat} {u2 u3 u4 u5 u7 u8 u9 u10 u11 u12 u13 u14 u15 u16 u17 u18 u19 u20 u21 u22 u23 u24 u25 u26 u27 u28 u29 u30 u31 u32 u33 u34 u35 u36 u37 u38 u39 u40 u41 u42 u43 u44 u45 u46 u47 u48 u49 u50 u51 u52 u53 u54 u55 u56 u57 u58 u59 u60 u61 u62 u63 u64 u65 u66 u67 u68 u69 u70 u71 u72 u73 u74 u75 u76 u77 u78 u79 u80 u81 u82 u83 u84 u85 u86 u87 u88 u89 u90 u91 u92 u93 u94 u95 u96 u97 u98 u99 u100 u101 u102 u103 u104 : Value} {Q : Exit → Act → World → Prop} (c3 : W.cell? ⟨j, 3, none⟩ = some (.int .u64 (a0 : Int))) (c4 : W.cell? ⟨j, 4, none⟩ = some (.int .u64 (a1 : Int))) (d0 : W.cell? ⟨m, 0, none⟩ = some (.int .u64 (e0 : Int))) (d1 : W.cell? ⟨m, 1, none⟩ = some (.int .u64 (e1 : Int))) (d2 : W.cell? ⟨m, 2, none⟩ = some (.int .u64 (e2 : Int))) (ha : a0 < 9223372036854775808)
    (hQ : ∀ (y52 y53 y54 y55 y56 y57 y58 y59 y60 y61 y62 y63 y64 y65 y66 y67 y68 y69 y70 : Value) (b : Nat) (W' : World), Fr (fun _ => False) W W' → W.heap.size ≤ b → W'.heap[b]? = some (.cells #[.int .u64 (((a0 + 1 : Nat) : Int) : Int), .int .u64 (a1 : Int), .int .u64 (e0 : Int), .int .u64 (lsn : Int), .int .u64 (e1 : Int), .int .u64 (e2 : Int)] 27 (0, 0)) → Q .normal ⟨#[.pointer (some ⟨j, 0, none⟩), .int .u64 (lsn : Int), u2, u3, u4, u5, .pointer (some ⟨m, 0, none⟩), .pointer (some ⟨b, 0, none⟩), u8, u9, u10, u11, u12, u13, u14, u15, u16, u17, u18, u19, u20, u21, u22, u23, u24, u25, u26, u27, u28, u29, u30, u31, u32, u33, u34, u35, u36, u37, u38, u39, u40, u41, u42, u43, u44, u45, u46, u47, u48, u49, u50, u51, y52, y53, y54, y55, y56, y57, y58, y59, y60, y61, y62, y63, y64, y65, y66, y67, y68, y69, y70, u71, u72, u73, u74, u75, u76, u77, u78, u79, u80, u81, u82, u83, u84, u85, u86, u87, u88, u89, u90, u91, u92, u93, u94, u95, u96, u97, u98, u99, u100, u101, u102, u103, u104], []⟩ W') : (rgF Try.f39 9).wp Try.prog Q ⟨#[.pointer (some ⟨j, 0, none⟩), .int .u64 (lsn : Int), u2, u3, u4, u5, .pointer (some ⟨m, 0, none⟩), u7, u8, u9, u10, u11, u12, u13, u14, u15, u16, u17, u18, u19, u20, u21, u22, u23, u24, u25, u26, u27, u28, u29, u30, u31, u32, u33, u34, u35, u36, u37, u38, u39, u40, u41, u42, u43, u44, u45, u46, u47, u48, u49, u50, u51, u52, u53, u54, u55, u56, u57, u58, u59, u60, u61, u62, u63, u64, u65, u66, u67, u68, u69, u70, u71, u72, u73, u74, u75, u76, u77, u78, u79, u80, u81, u82, u83, u84, u85, u86, u87, u88, u89, u90, u91, u92, u93, u94, u95, u96, u97, u98, u99, u100, u101, u102, u103, u104], []⟩ W := by
  have HQ := hide hQ
  clear hQ
  conv => arg 2; whnf
  refine wp_nm ?_
  intro a0' hA0
  have s0 : a0'.tmps.getD 0 undef = .pointer (some ⟨j, 0, none⟩) := by rw [hA0]; rfl
  have s1 : a0'.tmps.getD 1 undef = .int .u64 (lsn : Int) := by rw [hA0]; rfl
  have s6 : a0'.tmps.getD 6 undef = .pointer (some ⟨m, 0, none⟩) := by rw [hA0]; rfl
  have hsz : a0'.tmps.size = 105 := by rw [hA0]; rfl
  have hdf : a0'.defers = [] := by rw [hA0]
  refine wp_region_chainA (by kernel_rfl) (by kernel_rfl) (by decide +kernel) (by rw [hsz]; decide +kernel) (fun w w' => RS W.heap.size w w') (RS.of_fr (Fr.refl _ _).drew) (fun _ _ _ => RS.trans) (Tw [KV.eq (.pointer (some ⟨j, 0, none⟩)), KV.eq (.pointer (some ⟨j, 0, none⟩)), KV.eq (.pointer (some ⟨j, 3, none⟩)), KV.eq (.pointer (some ⟨j, 3, none⟩)), KV.eq (.int .u64 (a0 : Int)), KV.eq (.int .u64 (((a0 + 1 : Nat) : Int) : Int)), KV.eq (.pointer (some ⟨j, 0, none⟩)), KV.eq (.pointer (some ⟨j, 0, none⟩)), KV.eq (.pointer (some ⟨j, 3, none⟩)), KV.eq (.pointer (some ⟨j, 4, none⟩)), KV.eq (.int .u64 (a1 : Int)), KV.eq (.pointer (some ⟨m, 0, none⟩)), KV.eq (.int .u64 (e0 : Int)), KV.eq (.int .u64 (lsn : Int)), KV.eq (.pointer (some ⟨m, 1, none⟩)), KV.eq (.int .u64 (e1 : Int)), KV.eq (.pointer (some ⟨m, 2, none⟩)), KV.eq (.int .u64 (e2 : Int)), KV.eq (.agg #[.int .u64 (((a0 + 1 : Nat) : Int) : Int), .int .u64 (a1 : Int), .int .u64 (e0 : Int), .int .u64 (lsn : Int), .int .u64 (e1 : Int), .int .u64 (e2 : Int)]), KV.box 27 6]) (Tw.mono _) [20] (by decide) (by decide) (fun k i j h1 h2 => ?cp) (StB #[.int .u64 (((a0 + 1 : Nat) : Int) : Int), .int .u64 (a1 : Int), .int .u64 (e0 : Int), .int .u64 (lsn : Int), .int .u64 (e1 : Int), .int .u64 (e2 : Int)] 7 27 W.heap.size) ?st0 ?steps ?done
  case cp =>
    match k, h1, h2 with
    | 0, h1, h2 => simp at h2
    | k + 1, h1, h2 => simp at h2
  case st0 => exact fun h => by omega
  case steps =>
    have HC : ∀ w', RS W.heap.size W w' → ∀ (b o : Nat) (v : Value), W.cell? ⟨b, o, none⟩ = some v → w'.cell? ⟨b, o, none⟩ = some v := fun w' f b o v h => by
      have := World.block_lt_of_cell? W _ h
      simp at this
      rw [f.fr.cell (a := ⟨b, o, none⟩) this (fun e => by simp at e; omega)]
      exact h
    refine ⟨?_, ?_⟩
    · intro a' w' k hb hR hst hck hle hd
      exact .inl ⟨wanted_none rfl, la_val _ _ (by decide) (x_move rfl ((hb.old 0 (by decide +kernel)).trans s0)) rfl (RS.of_fr (Fr.refl _ _)) (hst.put (by decide) (Fr.refl _ _))⟩
    refine ⟨?_, ?_⟩
    · intro a' w' k hb hR hst hck hle hd
      exact .inl ⟨wanted_none rfl, la_val _ _ (by decide) (x_nilCheck rfl (hd 0 (by kernel_rfl) 52 rfl)) rfl (RS.of_fr (Fr.refl _ _)) (hst.put (by decide) (Fr.refl _ _))⟩
    refine ⟨?_, ?_⟩
    · intro a' w' k hb hR hst hck hle hd
      exact .inl ⟨wanted_none rfl, la_val _ _ (by decide) (x_field (of := 0) (off := 3) (fa115_3 j 0) rfl (hd 1 (by kernel_rfl) 53 rfl)) rfl (RS.of_fr (Fr.refl _ _)) (hst.put (by decide) (Fr.refl _ _))⟩
    refine ⟨?_, ?_⟩
    · intro a' w' k hb hR hst hck hle hd
      exact .inl ⟨wanted_none rfl, la_val _ _ (by decide) (x_field (of := 3) (off := 0) (fa27_0 j 3) rfl (hd 2 (by kernel_rfl) 54 rfl)) rfl (RS.of_fr (Fr.refl _ _)) (hst.put (by decide) (Fr.refl _ _))⟩
    refine ⟨?_, ?_⟩
    · intro a' w' k hb hR hst hck hle hd
      exact .inl ⟨wanted_none rfl, la_val _ _ (by decide) (x_load1 ldU rfl (hd 3 (by kernel_rfl) 55 rfl) (HC w' hR _ _ _ c3)) rfl (RS.of_fr (Fr.refl _ _)) (hst.put (by decide) (Fr.refl _ _))⟩
    refine ⟨?_, ?_⟩
    · intro a' w' k hb hR hst hck hle hd
      exact .inl ⟨wanted_none rfl, la_val _ _ (by decide) (x_addU rfl (hd 4 (by kernel_rfl) 56 rfl) rfl (by have := wrapU (a0 + 1) (by omega); exact_mod_cast this)) rfl (RS.of_fr (Fr.refl _ _)) (hst.put (by decide) (Fr.refl _ _))⟩
    refine ⟨?_, ?_⟩
    · intro a' w' k hb hR hst hck hle hd
      exact .inl ⟨wanted_none rfl, la_val _ _ (by decide) (x_move rfl ((hb.old 0 (by decide +kernel)).trans s0)) rfl (RS.of_fr (Fr.refl _ _)) (hst.put (by decide) (Fr.refl _ _))⟩
    refine ⟨?_, ?_⟩
    · intro a' w' k hb hR hst hck hle hd
      exact .inl ⟨wanted_none rfl, la_val _ _ (by decide) (x_nilCheck rfl (hd 6 (by kernel_rfl) 58 rfl)) rfl (RS.of_fr (Fr.refl _ _)) (hst.put (by decide) (Fr.refl _ _))⟩
    refine ⟨?_, ?_⟩
    · intro a' w' k hb hR hst hck hle hd
      exact .inl ⟨wanted_none rfl, la_val _ _ (by decide) (x_field (of := 0) (off := 3) (fa115_3 j 0) rfl (hd 7 (by kernel_rfl) 59 rfl)) rfl (RS.of_fr (Fr.refl _ _)) (hst.put (by decide) (Fr.refl _ _))⟩
    refine ⟨?_, ?_⟩
    · intro a' w' k hb hR hst hck hle hd
      exact .inl ⟨wanted_none rfl, la_val _ _ (by decide) (x_field (of := 3) (off := 1) (fa27_1 j 3) rfl (hd 8 (by kernel_rfl) 60 rfl)) rfl (RS.of_fr (Fr.refl _ _)) (hst.put (by decide) (Fr.refl _ _))⟩
    refine ⟨?_, ?_⟩
    · intro a' w' k hb hR hst hck hle hd
      exact .inl ⟨wanted_none rfl, la_val _ _ (by decide) (x_load1 ldU rfl (hd 9 (by kernel_rfl) 61 rfl) (HC w' hR _ _ _ c4)) rfl (RS.of_fr (Fr.refl _ _)) (hst.put (by decide) (Fr.refl _ _))⟩
    refine ⟨?_, ?_⟩
    · intro a' w' k hb hR hst hck hle hd
      exact .inl ⟨wanted_none rfl, la_val _ _ (by decide) (x_field (of := 0) (off := 0) (fa130_0 m 0) rfl ((hb.old 6 (by decide +kernel)).trans s6)) rfl (RS.of_fr (Fr.refl _ _)) (hst.put (by decide) (Fr.refl _ _))⟩
    refine ⟨?_, ?_⟩
    · intro a' w' k hb hR hst hck hle hd
      exact .inl ⟨wanted_none rfl, la_val _ _ (by decide) (x_load1 ldU rfl (hd 11 (by kernel_rfl) 63 rfl) (HC w' hR _ _ _ d0)) rfl (RS.of_fr (Fr.refl _ _)) (hst.put (by decide) (Fr.refl _ _))⟩
    refine ⟨?_, ?_⟩
    · intro a' w' k hb hR hst hck hle hd
      exact .inl ⟨wanted_none rfl, la_val _ _ (by decide) (x_move rfl ((hb.old 1 (by decide +kernel)).trans s1)) rfl (RS.of_fr (Fr.refl _ _)) (hst.put (by decide) (Fr.refl _ _))⟩
    refine ⟨?_, ?_⟩
    · intro a' w' k hb hR hst hck hle hd
      exact .inl ⟨wanted_none rfl, la_val _ _ (by decide) (x_field (of := 0) (off := 1) (fa130_1 m 0) rfl ((hb.old 6 (by decide +kernel)).trans s6)) rfl (RS.of_fr (Fr.refl _ _)) (hst.put (by decide) (Fr.refl _ _))⟩
    refine ⟨?_, ?_⟩
    · intro a' w' k hb hR hst hck hle hd
      exact .inl ⟨wanted_none rfl, la_val _ _ (by decide) (x_load1 ldU rfl (hd 14 (by kernel_rfl) 66 rfl) (HC w' hR _ _ _ d1)) rfl (RS.of_fr (Fr.refl _ _)) (hst.put (by decide) (Fr.refl _ _))⟩
    refine ⟨?_, ?_⟩
    · intro a' w' k hb hR hst hck hle hd
      exact .inl ⟨wanted_none rfl, la_val _ _ (by decide) (x_field (of := 0) (off := 2) (fa130_2 m 0) rfl ((hb.old 6 (by decide +kernel)).trans s6)) rfl (RS.of_fr (Fr.refl _ _)) (hst.put (by decide) (Fr.refl _ _))⟩
    refine ⟨?_, ?_⟩
    · intro a' w' k hb hR hst hck hle hd
      exact .inl ⟨wanted_none rfl, la_val _ _ (by decide) (x_load1 ldU rfl (hd 16 (by kernel_rfl) 68 rfl) (HC w' hR _ _ _ d2)) rfl (RS.of_fr (Fr.refl _ _)) (hst.put (by decide) (Fr.refl _ _))⟩
    refine ⟨?_, ?_⟩
    · intro a' w' k hb hR hst hck hle hd
      have f0 : a'.tmps.getD 57 undef = .int .u64 (((a0 + 1 : Nat) : Int) : Int) := hd 5 (by kernel_rfl) 57 rfl
      have f1 : a'.tmps.getD 62 undef = .int .u64 (a1 : Int) := hd 10 (by kernel_rfl) 62 rfl
      have f2 : a'.tmps.getD 64 undef = .int .u64 (e0 : Int) := hd 12 (by kernel_rfl) 64 rfl
      have f3 : a'.tmps.getD 65 undef = .int .u64 (lsn : Int) := hd 13 (by kernel_rfl) 65 rfl
      have f4 : a'.tmps.getD 67 undef = .int .u64 (e1 : Int) := hd 15 (by kernel_rfl) 67 rfl
      have f5 : a'.tmps.getD 69 undef = .int .u64 (e2 : Int) := hd 17 (by kernel_rfl) 69 rfl
      exact .inl ⟨wanted_none rfl, la_val _ _ (by decide) (x_build27 (x0 := .tmp 57) (x1 := .tmp 62) (x2 := .tmp 64) (x3 := .tmp 65) (x4 := .tmp 67) (x5 := .tmp 69) rfl f0 f1 f2 f3 f4 f5) rfl (RS.of_fr (Fr.refl _ _)) (hst.put (by decide) (Fr.refl _ _))⟩
    refine ⟨?_, ?_⟩
    · intro a' w' k hb hR hst hck hle hd
      have hk : k ≤ 0 := hle 0 20 _ rfl rfl (by kernel_rfl)
      exact .inl ⟨wanted_none rfl, la_val _ _ (by decide) (x_alloc27 rfl) ⟨_, rfl, hR.fr.size, .of (heap_alloc_new w' _) rfl⟩ (RS.of_fr ((Fr.refl _ _).alloc _)) (fun h => by omega)⟩
    refine ⟨?_, ?_⟩
    · intro a' w' k hb hR hst hck hle hd
      obtain rfl : 0 = k := hck 0 rfl
      obtain ⟨b, eb, hbN, cs, hh, hk⟩ := hd 19 (by kernel_rfl) 7 rfl
      have ev : a'.tmps.getD 70 undef = .agg #[.int .u64 (((a0 + 1 : Nat) : Int) : Int), .int .u64 (a1 : Int), .int .u64 (e0 : Int), .int .u64 (lsn : Int), .int .u64 (e1 : Int), .int .u64 (e2 : Int)] := hd 18 (by kernel_rfl) 70 rfl
      exact .inl ⟨wanted_none rfl, la_store _ (by decide) (x_storeR 27 6 (by kernel_rfl) (c := #[.int .u64 (((a0 + 1 : Nat) : Int) : Int), .int .u64 (a1 : Int), .int .u64 (e0 : Int), .int .u64 (lsn : Int), .int .u64 (e1 : Int), .int .u64 (e2 : Int)]) rfl eb ev rfl (by simp [Value.oneCell']) ⟨cs, hh, hk⟩) trivial (RS.setRow (N := W.heap.size) hbN ⟨cs, hh, hk⟩ rfl) (fun _ => ⟨b, eb, hbN, setRow_at hh _⟩)⟩
    exact trivial
  case done =>
    intro a' w' hb hR hst hall
    obtain ⟨b, eb, hbN, hh⟩ := hst (by decide)
    have f := hR.old (Nat.le_refl _)
    have hfr := frame_eq (a := a') (vs := [.pointer (some ⟨j, 0, none⟩), .int .u64 (lsn : Int), u2, u3, u4, u5, .pointer (some ⟨m, 0, none⟩), .pointer (some ⟨b, 0, none⟩), u8, u9, u10, u11, u12, u13, u14, u15, u16, u17, u18, u19, u20, u21, u22, u23, u24, u25, u26, u27, u28, u29, u30, u31, u32, u33, u34, u35, u36, u37, u38, u39, u40, u41, u42, u43, u44, u45, u46, u47, u48, u49, u50, u51, a'.tmps.getD 52 undef, a'.tmps.getD 53 undef, a'.tmps.getD 54 undef, a'.tmps.getD 55 undef, a'.tmps.getD 56 undef, a'.tmps.getD 57 undef, a'.tmps.getD 58 undef, a'.tmps.getD 59 undef, a'.tmps.getD 60 undef, a'.tmps.getD 61 undef, a'.tmps.getD 62 undef, a'.tmps.getD 63 undef, a'.tmps.getD 64 undef, a'.tmps.getD 65 undef, a'.tmps.getD 66 undef, a'.tmps.getD 67 undef, a'.tmps.getD 68 undef, a'.tmps.getD 69 undef, a'.tmps.getD 70 undef, u71, u72, u73, u74, u75, u76, u77, u78, u79, u80, u81, u82, u83, u84, u85, u86, u87, u88, u89, u90, u91, u92, u93, u94, u95, u96, u97, u98, u99, u100, u101, u102, u103, u104]) (by rw [hb.size, hsz]; rfl) (by rw [hb.defers, hdf]) ⟨(hb.old 0 (by decide +kernel)).trans (by rw [hA0]; rfl), (hb.old 1 (by decide +kernel)).trans (by rw [hA0]; rfl), (hb.old 2 (by decide +kernel)).trans (by rw [hA0]; rfl), (hb.old 3 (by decide +kernel)).trans (by rw [hA0]; rfl), (hb.old 4 (by decide +kernel)).trans (by rw [hA0]; rfl), (hb.old 5 (by decide +kernel)).trans (by rw [hA0]; rfl), (hb.old 6 (by decide +kernel)).trans (by rw [hA0]; rfl), eb, (hb.old 8 (by decide +kernel)).trans (by rw [hA0]; rfl), (hb.old 9 (by decide +kernel)).trans (by rw [hA0]; rfl), (hb.old 10 (by decide +kernel)).trans (by rw [hA0]; rfl), (hb.old 11 (by decide +kernel)).trans (by rw [hA0]; rfl), (hb.old 12 (by decide +kernel)).trans (by rw [hA0]; rfl), (hb.old 13 (by decide +kernel)).trans (by rw [hA0]; rfl), (hb.old 14 (by decide +kernel)).trans (by rw [hA0]; rfl), (hb.old 15 (by decide +kernel)).trans (by rw [hA0]; rfl), (hb.old 16 (by decide +kernel)).trans (by rw [hA0]; rfl), (hb.old 17 (by decide +kernel)).trans (by rw [hA0]; rfl), (hb.old 18 (by decide +kernel)).trans (by rw [hA0]; rfl), (hb.old 19 (by decide +kernel)).trans (by rw [hA0]; rfl), (hb.old 20 (by decide +kernel)).trans (by rw [hA0]; rfl), (hb.old 21 (by decide +kernel)).trans (by rw [hA0]; rfl), (hb.old 22 (by decide +kernel)).trans (by rw [hA0]; rfl), (hb.old 23 (by decide +kernel)).trans (by rw [hA0]; rfl), (hb.old 24 (by decide +kernel)).trans (by rw [hA0]; rfl), (hb.old 25 (by decide +kernel)).trans (by rw [hA0]; rfl), (hb.old 26 (by decide +kernel)).trans (by rw [hA0]; rfl), (hb.old 27 (by decide +kernel)).trans (by rw [hA0]; rfl), (hb.old 28 (by decide +kernel)).trans (by rw [hA0]; rfl), (hb.old 29 (by decide +kernel)).trans (by rw [hA0]; rfl), (hb.old 30 (by decide +kernel)).trans (by rw [hA0]; rfl), (hb.old 31 (by decide +kernel)).trans (by rw [hA0]; rfl), (hb.old 32 (by decide +kernel)).trans (by rw [hA0]; rfl), (hb.old 33 (by decide +kernel)).trans (by rw [hA0]; rfl), (hb.old 34 (by decide +kernel)).trans (by rw [hA0]; rfl), (hb.old 35 (by decide +kernel)).trans (by rw [hA0]; rfl), (hb.old 36 (by decide +kernel)).trans (by rw [hA0]; rfl), (hb.old 37 (by decide +kernel)).trans (by rw [hA0]; rfl), (hb.old 38 (by decide +kernel)).trans (by rw [hA0]; rfl), (hb.old 39 (by decide +kernel)).trans (by rw [hA0]; rfl), (hb.old 40 (by decide +kernel)).trans (by rw [hA0]; rfl), (hb.old 41 (by decide +kernel)).trans (by rw [hA0]; rfl), (hb.old 42 (by decide +kernel)).trans (by rw [hA0]; rfl), (hb.old 43 (by decide +kernel)).trans (by rw [hA0]; rfl), (hb.old 44 (by decide +kernel)).trans (by rw [hA0]; rfl), (hb.old 45 (by decide +kernel)).trans (by rw [hA0]; rfl), (hb.old 46 (by decide +kernel)).trans (by rw [hA0]; rfl), (hb.old 47 (by decide +kernel)).trans (by rw [hA0]; rfl), (hb.old 48 (by decide +kernel)).trans (by rw [hA0]; rfl), (hb.old 49 (by decide +kernel)).trans (by rw [hA0]; rfl), (hb.old 50 (by decide +kernel)).trans (by rw [hA0]; rfl), (hb.old 51 (by decide +kernel)).trans (by rw [hA0]; rfl), rfl, rfl, rfl, rfl, rfl, rfl, rfl, rfl, rfl, rfl, rfl, rfl, rfl, rfl, rfl, rfl, rfl, rfl, rfl, (hb.old 71 (by decide +kernel)).trans (by rw [hA0]; rfl), (hb.old 72 (by decide +kernel)).trans (by rw [hA0]; rfl), (hb.old 73 (by decide +kernel)).trans (by rw [hA0]; rfl), (hb.old 74 (by decide +kernel)).trans (by rw [hA0]; rfl), (hb.old 75 (by decide +kernel)).trans (by rw [hA0]; rfl), (hb.old 76 (by decide +kernel)).trans (by rw [hA0]; rfl), (hb.old 77 (by decide +kernel)).trans (by rw [hA0]; rfl), (hb.old 78 (by decide +kernel)).trans (by rw [hA0]; rfl), (hb.old 79 (by decide +kernel)).trans (by rw [hA0]; rfl), (hb.old 80 (by decide +kernel)).trans (by rw [hA0]; rfl), (hb.old 81 (by decide +kernel)).trans (by rw [hA0]; rfl), (hb.old 82 (by decide +kernel)).trans (by rw [hA0]; rfl), (hb.old 83 (by decide +kernel)).trans (by rw [hA0]; rfl), (hb.old 84 (by decide +kernel)).trans (by rw [hA0]; rfl), (hb.old 85 (by decide +kernel)).trans (by rw [hA0]; rfl), (hb.old 86 (by decide +kernel)).trans (by rw [hA0]; rfl), (hb.old 87 (by decide +kernel)).trans (by rw [hA0]; rfl), (hb.old 88 (by decide +kernel)).trans (by rw [hA0]; rfl), (hb.old 89 (by decide +kernel)).trans (by rw [hA0]; rfl), (hb.old 90 (by decide +kernel)).trans (by rw [hA0]; rfl), (hb.old 91 (by decide +kernel)).trans (by rw [hA0]; rfl), (hb.old 92 (by decide +kernel)).trans (by rw [hA0]; rfl), (hb.old 93 (by decide +kernel)).trans (by rw [hA0]; rfl), (hb.old 94 (by decide +kernel)).trans (by rw [hA0]; rfl), (hb.old 95 (by decide +kernel)).trans (by rw [hA0]; rfl), (hb.old 96 (by decide +kernel)).trans (by rw [hA0]; rfl), (hb.old 97 (by decide +kernel)).trans (by rw [hA0]; rfl), (hb.old 98 (by decide +kernel)).trans (by rw [hA0]; rfl), (hb.old 99 (by decide +kernel)).trans (by rw [hA0]; rfl), (hb.old 100 (by decide +kernel)).trans (by rw [hA0]; rfl), (hb.old 101 (by decide +kernel)).trans (by rw [hA0]; rfl), (hb.old 102 (by decide +kernel)).trans (by rw [hA0]; rfl), (hb.old 103 (by decide +kernel)).trans (by rw [hA0]; rfl), (hb.old 104 (by decide +kernel)).trans (by rw [hA0]; rfl), trivial⟩
    rw [hfr]
    exact unhide HQ _ _ _ _ _ _ _ _ _ _ _ _ _ _ _ _ _ _ _ b w' f hbN hh
set_option maxRecDepth 100000 in
theorem cloneM_any (w : World) (ad : Addr) (c : Nat) (L : List Mk) (hx : Sr w 3 (.slice (some ad) L.length c) L.length (mF L)) (hl : L.length ≤ 1000) :
    Calls Try.prog 76 #[.slice (some ad) L.length c] w fun e w' => ∃ v, e = .returned v ∧ w'.ownsRow 0 130 3 v L.length (mF L) ∧ Fr (fun _ => False) w w' ∧ ∀ k, v.ownBlock = some k → w.heap.size ≤ k := by
  have q5 : ∀ (w : World) (a : Option Addr) (n c n' c' : Nat), (binOp .eql 113 (.slice a n c) (.slice none n' c')).run Try.prog w = .ok (.bool a.isNone) w := fun w a n c n' c' => Go.Lib.run_eql_slice_nil w 113 130 a n c n' c' Try.u113
  obtain ⟨i, zv, hi, hz0, hz1, hz2, hz3⟩ := info_zero Try.info130 Try.zero130
  have hzs : zv.cells.size = 3 := by rw [← Array.length_toList, hz3]; rfl
  have hS := hide hx
  go_enter Try.func76, Try.ntmps76
  go_wp2_with (at_builtin; refine wpList_app rfl (.tmp 5) (.tmp 6) 113 rfl 130 i zv 3 24 Try.u113 hi hz0 hz1 hz2 hzs (by decide) _ 0 [] rfl _ rfl L.length (mF L) ?hown ?hx ?h1 ?hb ?h63 ?hK)
  case hown => exact ⟨rfl, .inr ⟨w.heap.size, 0, #[], rfl, Nat.zero_le _, heap_alloc_new w _, Nat.le_refl _, by simp [maxLen], rfl, rfl⟩⟩
  case hx =>
    rcases unhide hS with ⟨h, -, -⟩ | ⟨a2, c2, h1, h2, h3⟩
    · simp at h
    · refine .inr ⟨a2, c2, h1, h2, fun j u hu => ?_⟩
      have h4 := h3 j u hu
      rw [((Fr.refl (fun _ => False) w).alloc _).cell (World.block_lt_of_cell? w _ h4) id]
      exact h4
  case h1 =>
    intro u hu
    obtain ⟨l, hl, hu⟩ := List.mem_flatten.1 hu
    obtain ⟨m, -, rfl⟩ := List.mem_map.1 hl
    simp [mC] at hu
    rcases hu with rfl | rfl | rfl <;> rfl
  case hb => omega
  case h63 => simp only [maxLen]; omega
  case hK =>
    intro ao cap' w' ho hg hpl
    have f2 := ((Fr.refl (fun _ => False) w).alloc (Obj.cells #[] 130)).grown hg (fun k hk e => by simp [Value.ownBlock] at e; omega)
    have h5 : ∀ k, (Value.slice ao L.length cap').ownBlock = some k → w.heap.size ≤ k := by
      intro k hk
      try simp only [Nat.zero_add] at hpl
      rcases hpl with e | ⟨k', e, hk'⟩
      · rw [e] at hk; simp [Value.ownBlock] at hk; omega
      · rw [e] at hk; simp at hk hk'; omega
    try simp only [Nat.zero_add, List.nil_append] at ho
    have HO := hide ho
    have F2 := hide f2
    have H5 := hide h5
    clear hpl hg hx ho f2 h5
    go_wp2
    go_ret
    exact ⟨_, by simp, unhide HO, unhide F2, unhide H5⟩
end Go.Proofs.Ytgodlfoidjeekaa

namespace Go.Proofs.Ytgodlfoidjeekaa
set_option linter.unusedVariables false
set_option linter.unusedSimpArgs false
open Go.RowKit
set_option linter.unusedVariables false
set_option linter.unusedSimpArgs false

attribute [local go_sem ↓] Go.wp_at_zero Go.wp_at_succ

/-- What Trim makes: the mark of the last transaction that goes; the superblock; whether it can be laid. -/
def tmM (J : Jn) (n : Nat) : Mk := (J.live[n - J.sup.l - 1]?).getD ⟨0, 0, 0⟩
def tmU (J : Jn) (n : Nat) : Su := ⟨J.sup.g + 1, J.sup.b, (tmM J n).e, n, (tmM J n).b, (tmM J n).s⟩
def tmB (J : Jn) (n : Nat) : Bool := wiB [J.sup.g + 1, (tmM J n).e]
def tmG (J : Jn) : Jn := { J with sup := { J.sup with g := J.sup.g + 1 } }
def tmF (J : Jn) (n : Nat) : Jn := { (tmG J).syn with sup := tmU J n, live := J.live.drop (n - J.sup.l) }
def tmE (J : Jn) (D : Dv) (n : Nat) : Int := if J.synced < n ∨ n < J.sup.l then 2 else if n = J.sup.l then 0 else if tmB J n = true then wsE D (tmU J n) else 5
def tmJ (J : Jn) (D : Dv) (n : Nat) : Jn := if J.synced < n ∨ n < J.sup.l then J else if n = J.sup.l then J else if tmB J n = true then (if wsE D (tmU J n) = 0 then tmF J n else tmG J) else J
def tmD (J : Jn) (D : Dv) (n : Nat) : Dv := if J.synced < n ∨ n < J.sup.l then D else if n = J.sup.l then D else if tmB J n = true then stD (tmG J) D (tmU J n) else D
theorem tmD_len (J : Jn) (D : Dv) (n : Nat) : (tmD J D n).S.length = D.S.length := by
  unfold tmD
  split
  · rfl
  · split
    · rfl
    · split
      · exact stD_len _ _ _
      · rfl
theorem tmG_ok {J : Jn} {n : Nat} (h : J.Ok n) (hg : J.sup.g + 1 ≤ 4611686018427387904) : (tmG J).Ok n :=
  ⟨h.place, h.ring, ⟨hg, h.sup.2⟩, h.marks, h.up, h.full, h.serial, h.synced⟩
theorem rise_drop (L : List Mk) : ∀ p i (h : i < L.length), rise p L → rise (L[i]).e (L.drop (i + 1)) ∧ p < (L[i]).e := by
  induction L with
  | nil => intro p i h; simp at h
  | cons a r ih =>
    intro p i h hr
    obtain ⟨h1, h2⟩ := hr
    cases i with
    | zero => exact ⟨h2, h1⟩
    | succ i =>
      obtain ⟨h3, h4⟩ := ih a.e i (by simpa using h) h2
      exact ⟨by simpa using h3, by simp; omega⟩
theorem last_drop (J : Jn) (u : Su) (i : Nat) (h : i < J.live.length) (hu : u.p = (J.live[i]).e) (k : Nat) : ({ J with sup := u, live := J.live.drop (i + 1), synced := k } : Jn).nd = J.nd := by
  unfold Jn.nd Jn.last
  dsimp only
  rcases e : (J.live.drop (i + 1)).getLast? with _ | m
  · have e2 : J.live.drop (i + 1) = [] := by simpa using e
    have e3 : J.live.length ≤ i + 1 := by simpa using e2
    have e4 : J.live.getLast? = some J.live[i] := by
      rw [List.getLast?_eq_getElem?, show J.live.length - 1 = i by omega, List.getElem?_eq_getElem h]
    rw [e4]
    simpa using hu
  · have e4 : J.live.getLast? = some m := by
      rw [List.getLast?_drop] at e
      split at e
      · simp at e
      · exact e
    rw [e4]
    rfl
theorem tmF_ok {J : Jn} {n k : Nat} (h : J.Ok n) (hk : J.sup.l < k) (hl : k ≤ J.lst) (hu : (tmU J k).Ok) : (tmF J k).Ok n ∧ (tmF J k).nd = J.nd ∧ (tmF J k).lst = J.lst ∧ J.sup.p < (tmU J k).p := by
  unfold Jn.lst at hl
  obtain ⟨i, hi⟩ : ∃ i, k - J.sup.l = i + 1 := ⟨k - J.sup.l - 1, by omega⟩
  have hil : i < J.live.length := by omega
  have hm : tmM J k = J.live[i] := by
    unfold tmM
    rw [hi, Nat.add_sub_cancel, List.getElem?_eq_getElem hil]; rfl
  have hr := rise_drop J.live J.sup.p i hil h.up
  have hp : (tmU J k).p = (J.live[i]).e := by show (tmM J k).e = _; rw [hm]
  have hnd : (tmF J k).nd = J.nd := by
    have := last_drop J (tmU J k) i hil hp J.lst
    unfold tmF
    rw [hi]
    exact this
  refine ⟨⟨h.place, h.ring, hu, fun m hm => h.marks m (List.mem_of_mem_drop hm), ?_, ?_, h.serial, ?_⟩, hnd, ?_, by rw [hp]; exact hr.2⟩
  · show rise (tmU J k).p (J.live.drop (k - J.sup.l))
    rw [hp, hi]
    exact hr.1
  · rw [hnd]
    show J.nd ≤ (tmU J k).p + J.ring
    have := h.full
    have := hr.2
    omega
  · show J.lst ≤ _
    have := h.syn.synced
    exact this
  · show k + (J.live.drop (k - J.sup.l)).length = J.sup.l + J.live.length
    rw [List.length_drop]
    omega
theorem JAt.setL {w : World} {j s : Nat} {mv rv : Value} {J : Jn} {L : List Mk} (h : JAt w j s mv J) (ho : w.ownsRow 0 130 3 rv L.length (mF L)) : JAt (w.setCell ⟨j, 9, none⟩ rv) j s rv { J with live := L } ∧ Fr (fun k => k = j) w (w.setCell ⟨j, 9, none⟩ rv) := by
  have fs : Fr (fun k => k = j) w (w.setCell ⟨j, 9, none⟩ rv) := (Fr.refl (fun k => k = j) w).setCell (p := ⟨j, 9, none⟩) (fun _ => rfl) _
  refine ⟨⟨?_, ?_⟩, fs⟩
  · rw [heap_setCell_same w j 9 _ 115 rv h.heap]; rfl
  · exact owns_kept ho fs (fun b hb e => by
      have := knd_owns ho hb
      have e' : b = j := e
      subst e'
      rw [knd_cells h.heap] at this
      omega)
/-- What a call may turn that was shown of the blocks of the journal alone. -/
theorem JS.widen {X Y : Nat → Prop} {w0 a w : World} {j s : Nat} {J : Jn} {D : Dv} (h : JS Y a w j s J D) (hY : ∀ b, (Y b ∨ a.heap.size ≤ b) → X b ∨ w0.heap.size ≤ b) (hs : w0.heap.size ≤ w.heap.size) : JS X w0 w j s J D := by
  obtain ⟨⟨mv, sv, qv, h1, h2, h3⟩, h4, h5⟩ := h
  exact ⟨⟨mv, sv, qv, h1, h2, fun b e => hY b (h3 b e)⟩, h4, hs⟩
theorem zs_widen {X Y : Nat → Prop} {w0 a w w' : World} (f : Fr (Zs Y a w) w w') (hY : ∀ b, (Y b ∨ a.heap.size ≤ b) → X b ∨ w0.heap.size ≤ b) : Fr (Zs X w0 w) w w' := f.mono (fun k _ e => ⟨e.1, hY k e.2⟩)
end Go.Proofs.Ytgodlfoidjeekaa

namespace Go.Proofs.Ytgodlfoidjeekaa
set_option linter.unusedVariables false
set_option linter.unusedSimpArgs false
open Go.RowKit
set_option linter.unusedVariables false
set_option linter.unusedSimpArgs false

attribute [local go_sem ↓] Go.wp_at_zero Go.wp_at_succ

def TmP (X : Nat → Prop) (w0 w : World) (j s : Nat) (J : Jn) (D : Dv) (n : Nat) (e : Ending) (w' : World) : Prop := e = .returned (.int .i64 (tmE J D n)) ∧ JS X w0 w' j s (tmJ J D n) (tmD J D n) ∧ Fr (Zs X w0 w) w w'
set_option maxRecDepth 100000 in
set_option maxHeartbeats 4000000 in
theorem trim_low {X : Nat → Prop} {w0 : World} (w : World) (j s : Nat) (J : Jn) (D : Dv) (n : Nat) (hn : n < 18446744073709551616) (H : JS X w0 w j s J D) (h : J.synced < n ∨ n ≤ J.sup.l) : Calls Try.prog 39 #[.pointer (some ⟨j, 0, none⟩), .int .u64 (n : Int)] w (TmP X w0 w j s J D n) := by
  have HS := hide H
  obtain ⟨mv, sv, qv, hJ, -, -⟩ := H.ex
  have HN := hide (none_any w j s mv J hJ)
  have c6 := cell_of_heap hJ.heap 6
  have c11 := cell_of_heap hJ.heap 11
  simp at c6 c11
  unfold TmP
  clear H hJ
  by_cases h1 : J.synced < n
  · have e1 : tmE J D n = 2 := by unfold tmE; rw [if_pos (.inl h1)]
    have e2 : tmJ J D n = J := by unfold tmJ; rw [if_pos (.inl h1)]
    have e3 : tmD J D n = D := by unfold tmD; rw [if_pos (.inl h1)]
    rw [e1, e2, e3]
    have b1 : (J.synced : Int) < (n : Int) := by omega
    clear e1 e2 e3 h h1
    generalize J.synced = sy at *
    generalize J.sup.l = sl at *
    go_enter Try.func39, Try.ntmps39
    go_wp2_with fail
    refine (unhide HN).mono ?_
    rintro e w1 ⟨rfl, rfl⟩
    clear HN
    go_wp2_with fail
    go_ret
    exact ⟨rfl, unhide HS, Fr.refl _ _⟩
  · have b1 : ¬ (J.synced : Int) < (n : Int) := by omega
    by_cases h2 : n < J.sup.l
    · have e1 : tmE J D n = 2 := by unfold tmE; rw [if_pos (.inr h2)]
      have e2 : tmJ J D n = J := by unfold tmJ; rw [if_pos (.inr h2)]
      have e3 : tmD J D n = D := by unfold tmD; rw [if_pos (.inr h2)]
      rw [e1, e2, e3]
      have b2 : (n : Int) < (J.sup.l : Int) := by omega
      clear e1 e2 e3 h h1 h2
      generalize J.synced = sy at *
      generalize J.sup.l = sl at *
      go_enter Try.func39, Try.ntmps39
      go_wp2_with fail
      refine (unhide HN).mono ?_
      rintro e w1 ⟨rfl, rfl⟩
      clear HN
      go_wp2_with fail
      go_ret
      exact ⟨rfl, unhide HS, Fr.refl _ _⟩
    · have h3 : n = J.sup.l := by omega
      have h9 : ¬ (J.synced < n ∨ n < J.sup.l) := by omega
      have e1 : tmE J D n = 0 := by unfold tmE; rw [if_neg h9, if_pos h3]
      have e2 : tmJ J D n = J := by unfold tmJ; rw [if_neg h9, if_pos h3]
      have e3 : tmD J D n = D := by unfold tmD; rw [if_neg h9, if_pos h3]
      rw [e1, e2, e3]
      have b2 : ¬ (n : Int) < (J.sup.l : Int) := by omega
      have b3 : (n : Int) = (J.sup.l : Int) := by omega
      have b4 : ((n : Int) == (J.sup.l : Int)) = true := by rw [beq_iff_eq]; exact b3
      clear e1 e2 e3 h h1 h2 h3 h9
      generalize J.synced = sy at *
      generalize J.sup.l = sl at *
      go_enter Try.func39, Try.ntmps39
      go_wp2_with fail
      refine (unhide HN).mono ?_
      rintro e w1 ⟨rfl, rfl⟩
      clear HN
      go_wp2_with fail
      go_ret
      exact ⟨rfl, unhide HS, Fr.refl _ _⟩
end Go.Proofs.Ytgodlfoidjeekaa

namespace Go.Proofs.Ytgodlfoidjeekaa
set_option linter.unusedVariables false
set_option linter.unusedSimpArgs false
open Go.RowKit
set_option linter.unusedVariables false
set_option linter.unusedSimpArgs false

theorem be_go (k : Nat) : ∀ n a, (be k n).foldl (fun a (c : UInt8) => a * 256 + c.toNat) a = a * 256 ^ k + n % 256 ^ k := by
  induction k with
  | zero => intro n a; simp [be, Nat.mod_one]
  | succ k ih =>
    intro n a
    show (be k n).foldl _ (a * 256 + (UInt8.ofNat (n / 256 ^ k)).toNat) = _
    rw [ih, UInt8.toNat_ofNat', show (2 : Nat) ^ 8 = 256 from rfl]
    have e : n % 256 ^ (k + 1) = n % 256 ^ k + 256 ^ k * (n / 256 ^ k % 256) := by rw [Nat.pow_succ, Nat.mod_mul]
    rw [e, Nat.pow_succ, Nat.add_mul, Nat.mul_assoc a 256, Nat.mul_comm 256, Nat.mul_comm (n / 256 ^ k % 256), Nat.add_assoc, Nat.add_comm (n % 256 ^ k)]
theorem val_be {k n : Nat} (h : n < 256 ^ k) : val (be k n) = n := by
  unfold val
  rw [be_go, Nat.zero_mul, Nat.zero_add, Nat.mod_eq_of_lt h]
theorem be_mod (k : Nat) : ∀ a m, be k (a * 256 ^ k + m) = be k m := by
  induction k with
  | zero => intro a m; rfl
  | succ k ih =>
    intro a m
    have e : a * 256 ^ (k + 1) = (a * 256) * 256 ^ k := by rw [Nat.pow_succ, Nat.mul_assoc, Nat.mul_comm 256]
    show UInt8.ofNat ((a * 256 ^ (k + 1) + m) / 256 ^ k) :: be k (a * 256 ^ (k + 1) + m) = UInt8.ofNat (m / 256 ^ k) :: be k m
    rw [e, ih]
    congr 1
    rw [Nat.mul_comm, Nat.mul_add_div (Nat.pow_pos (by decide))]
    apply UInt8.toNat_inj.1
    rw [UInt8.toNat_ofNat', UInt8.toNat_ofNat']
    omega
theorem val_cons (c : UInt8) (r : List UInt8) : val (c :: r) = c.toNat * 256 ^ r.length + val r := by
  have h : ∀ (r : List UInt8) a, r.foldl (fun a (c : UInt8) => a * 256 + c.toNat) a = a * 256 ^ r.length + r.foldl (fun a (c : UInt8) => a * 256 + c.toNat) 0 := by
    intro r
    induction r with
    | nil => intro a; simp
    | cons x r ih =>
      intro a
      simp only [List.foldl_cons, List.length_cons, Nat.pow_succ, Nat.zero_mul, Nat.zero_add]
      rw [ih (a * 256 + x.toNat), ih x.toNat, Nat.add_mul, Nat.mul_assoc, Nat.mul_comm 256]
      omega
  unfold val
  rw [List.foldl_cons, Nat.zero_mul, Nat.zero_add, h]
theorem be_val (l : List UInt8) : be l.length (val l) = l := by
  induction l with
  | nil => rfl
  | cons c r ih =>
    have hlt := val_lt r
    rw [val_cons]
    show UInt8.ofNat ((c.toNat * 256 ^ r.length + val r) / 256 ^ r.length) :: be r.length (c.toNat * 256 ^ r.length + val r) = c :: r
    rw [be_mod, ih]
    congr 1
    rw [Nat.mul_comm, Nat.mul_add_div (Nat.pow_pos (by decide)), Nat.div_eq_of_lt hlt, Nat.add_zero]
    exact UInt8.ofNat_toNat
theorem wi_of {l : List Nat} (h : wiB l = true) : ∀ n ∈ l, n ≤ 4611686018427387904 := by
  unfold wiB at h
  rw [List.all_eq_true] at h
  exact fun n hn => of_decide_eq_true (h n hn)
theorem cb_of {b s p l : Nat} {pt ps : Int} {n : Nat} (h : cbB b s p l pt ps n = true) : (b ≤ 4611686018427387904 ∧ s ≤ 4611686018427387904 ∧ p ≤ 4611686018427387904 ∧ l ≤ 4611686018427387904) ∧ (0 ≤ pt ∧ pt < ps ∧ ps ≤ 100) ∧ n ≤ 336 := by
  unfold cbB at h
  simp only [Bool.and_eq_true, decide_eq_true_eq] at h
  obtain ⟨⟨⟨⟨⟨⟨⟨⟨⟨h1, h2⟩, h3⟩, h4⟩, h5⟩, h6⟩, h7⟩, h8⟩, h9⟩, h10⟩ := h
  have hw := wi_of h4
  exact ⟨⟨hw _ (by simp), hw _ (by simp), hw _ (by simp), hw _ (by simp)⟩, ⟨h7, h8, h6⟩, h10⟩
theorem v8 {n : Nat} (h : n ≤ 4611686018427387904) : val (be 8 n) = n := val_be (by simp only [Nat.reducePow]; omega)
theorem v2 {n : Nat} (h : n ≤ 336) : val (be 2 n) = n := val_be (by simp only [Nat.reducePow]; omega)
set_option maxRecDepth 100000 in
theorem gl_enB (b s p l pt ps n : Nat) (L : List UInt8) : gl (enB b s p l pt ps n L) 0 = val (be 8 b) ∧ gl (enB b s p l pt ps n L) 1 = val (be 8 s) ∧ gl (enB b s p l pt ps n L) 2 = val (be 8 p) ∧ gl (enB b s p l pt ps n L) 3 = val (be 8 l) ∧ gm (enB b s p l pt ps n L) 0 = val (be 2 pt) ∧ gm (enB b s p l pt ps n L) 1 = val (be 2 ps) ∧ gm (enB b s p l pt ps n L) 2 = val (be 2 n) :=
  ⟨rfl, rfl, rfl, rfl, rfl, rfl, rfl⟩
set_option maxRecDepth 100000 in
theorem drop_enB (b s p l pt ps n : Nat) (L : List UInt8) : (enB b s p l pt ps n L).drop 48 = L ++ List.replicate (336 - L.length) 0 := rfl
theorem enG_enB {b s p l pt ps : Nat} {L : List UInt8} (h : cbB b s p l pt ps L.length = true) : enG (enB b s p l pt ps L.length L) = some ⟨b, s, p, l, pt, ps, L⟩ := by
  obtain ⟨⟨a1, a2, a3, a4⟩, ⟨b1, b2, b3⟩, c1⟩ := cb_of h
  obtain ⟨g0, g1, g2, g3, m0, m1, m2⟩ := gl_enB b s p l pt ps L.length L
  rw [v8 a1] at g0
  rw [v8 a2] at g1
  rw [v8 a3] at g2
  rw [v8 a4] at g3
  rw [v2 (by omega)] at m0 m1
  rw [v2 c1] at m2
  have q : gq (enB b s p l pt ps L.length L) = L.length := by unfold gq; rw [m2]; omega
  have P : gP (enB b s p l pt ps L.length L) = L := by
    unfold gP
    rw [q, drop_enB, List.take_left']
    rfl
  unfold enG
  rw [g0, g1, g2, g3, m0, m1, q, P, if_pos ⟨enB_length c1, h, rfl⟩]
theorem sb_of {g b p l x y : Nat} (h : sbB g b p l x y = true) : g ≤ 4611686018427387904 ∧ b ≤ 4611686018427387904 ∧ p ≤ 4611686018427387904 ∧ l ≤ 4611686018427387904 ∧ x ≤ 4611686018427387904 ∧ y ≤ 4611686018427387904 := by
  unfold sbB at h
  simp only [Bool.and_eq_true] at h
  have hw := wi_of h.2
  exact ⟨hw _ (by simp), hw _ (by simp), hw _ (by simp), hw _ (by simp), hw _ (by simp), hw _ (by simp)⟩
set_option maxRecDepth 100000 in
theorem sn_suB (g b p l x y : Nat) : sn (suB g b p l x y) 0 = val (be 8 g) ∧ sn (suB g b p l x y) 1 = val (be 8 b) ∧ sn (suB g b p l x y) 2 = val (be 8 p) ∧ sn (suB g b p l x y) 3 = val (be 8 l) ∧ sn (suB g b p l x y) 4 = val (be 8 x) ∧ sn (suB g b p l x y) 5 = val (be 8 y) :=
  ⟨rfl, rfl, rfl, rfl, rfl, rfl⟩
theorem suG_suB {g b p l x y : Nat} (h : sbB g b p l x y = true) : suG (suB g b p l x y) = some ⟨g, b, p, l, x, y⟩ := by
  obtain ⟨a0, a1, a2, a3, a4, a5⟩ := sb_of h
  obtain ⟨g0, g1, g2, g3, g4, g5⟩ := sn_suB g b p l x y
  rw [v8 a0] at g0
  rw [v8 a1] at g1
  rw [v8 a2] at g2
  rw [v8 a3] at g3
  rw [v8 a4] at g4
  rw [v8 a5] at g5
  unfold suG
  rw [g0, g1, g2, g3, g4, g5, if_pos ⟨suB_length _ _ _ _ _ _, h, rfl⟩]
theorem pt_of {ps : List (Int × List UInt8)} (h : ptB ps = true) : (1 ≤ ps.length ∧ ps.length ≤ 64) ∧ ∀ p ∈ ps, 0 ≤ p.1 ∧ p.1 ≤ 2147483647 ∧ p.2.length = 384 := by
  unfold ptB at h
  simp only [Bool.and_eq_true, ctB, decide_eq_true_eq, List.all_eq_true] at h
  obtain ⟨⟨h1, h2⟩, h3⟩ := h
  refine ⟨⟨by omega, by omega⟩, fun p hp => ?_⟩
  have := h3 p hp
  unfold pOk at this
  simp only [Bool.and_eq_true, decide_eq_true_eq] at this
  exact ⟨this.1.1, this.1.2, this.2⟩
theorem pbs_at (ps : List (Int × List UInt8)) : (∀ p ∈ ps, p.2.length = 384) → ∀ j (h : j < ps.length), ((pbs ps).drop (j * 388)).take 388 = be 4 (ps[j]).1.toNat ++ (ps[j]).2 := by
  induction ps with
  | nil => intro _ j h; simp at h
  | cons a r ih =>
    intro hp j h
    have e : pbs (a :: r) = (be 4 a.1.toNat ++ a.2) ++ pbs r := by simp [pbs, lay]
    have hl : (be 4 a.1.toNat ++ a.2).length = 388 := by rw [List.length_append, be_length, hp a (by simp)]
    rw [e]
    cases j with
    | zero =>
      rw [Nat.zero_mul, List.drop_zero]
      exact List.take_left' hl
    | succ j =>
      have := ih (fun p h => hp p (by simp [h])) j (by simpa using h)
      have e2 : ((be 4 a.1.toNat ++ a.2) ++ pbs r).drop ((j + 1) * 388) = (pbs r).drop (j * 388) := by
        rw [show (j + 1) * 388 = (be 4 a.1.toNat ++ a.2).length + j * 388 by rw [hl]; omega, List.drop_length_add_append]
      rw [e2]
      simpa using this
theorem gt_ptL {ps : List (Int × List UInt8)} (h : ptB ps = true) : gtB (ptL ps) = true ∧ gtL (ptL ps) = ps ∧ gtN (ptL ps) = ps.length := by
  obtain ⟨⟨n1, n2⟩, hp⟩ := pt_of h
  have hall : ps.all pOk = true := by
    unfold ptB at h
    simp only [Bool.and_eq_true] at h
    exact h.2
  have e0 : ptL ps = be 4 ps.length ++ pbs ps := by simp [ptL, lay]
  have hN : gtN (ptL ps) = ps.length := by
    unfold gtN
    rw [e0, List.take_left' (be_length _ _)]
    exact val_be (by simp only [Nat.reducePow]; omega)
  have hlen : (ptL ps).length = 4 + ps.length * 388 := by rw [e0, List.length_append, be_length, pbs_length hall]; omega
  have hP : ∀ j (h : j < ps.length), gtP (ptL ps) j = be 4 (ps[j]).1.toNat ++ (ps[j]).2 := fun j hj => by
    unfold gtP
    rw [e0, show 4 + j * 388 = (be 4 ps.length).length + j * 388 by rw [be_length], List.drop_length_add_append]
    exact pbs_at ps (fun p h => (hp p h).2.2) j hj
  have hZ : ∀ j (h : j < ps.length), (gtZ (ptL ps) j : Int) = (ps[j]).1 := fun j hj => by
    unfold gtZ
    obtain ⟨q1, q2, -⟩ := hp _ (List.getElem_mem hj)
    rw [hP j hj, List.take_left' (be_length _ _), val_be (by simp only [Nat.reducePow]; omega)]
    omega
  have hD : ∀ j (h : j < ps.length), (gtP (ptL ps) j).drop 4 = (ps[j]).2 := fun j hj => by
    rw [hP j hj]
    exact List.drop_left' (be_length _ _)
  refine ⟨?_, ?_, hN⟩
  · refine gtB_of (by rw [hN]; simp [ctB]; omega) (by rw [hlen, hN]) (fun i hi => ?_)
    rw [hN] at hi
    have := hZ i hi
    have := (hp _ (List.getElem_mem hi)).2.1
    omega
  · unfold gtL
    rw [hN]
    refine List.ext_getElem (by simp) fun j h1 h2 => ?_
    have h3 : j < ps.length := by simpa using h2
    simp only [List.getElem_map, List.getElem_range]
    rw [hZ j h3, hD j h3]
theorem gt_of {l : List UInt8} (h : gtB l = true) : (1 ≤ gtN l ∧ gtN l ≤ 64) ∧ l.length = 4 + gtN l * 388 ∧ ∀ i, i < gtN l → gtZ l i ≤ 2147483647 := by
  unfold gtB at h
  simp only [Bool.and_eq_true, ctB, decide_eq_true_eq, List.all_eq_true, List.mem_range] at h
  obtain ⟨⟨⟨h1, h2, h3⟩, h4⟩, h5⟩ := h
  exact ⟨⟨by omega, by omega⟩, h4, h5⟩
theorem gtL_length (l : List UInt8) : (gtL l).length = gtN l := by simp [gtL]
theorem gtL_get {l : List UInt8} {j : Nat} (h : j < (gtL l).length) : (gtL l)[j] = ((gtZ l j : Int), (gtP l j).drop 4) := by simp [gtL]
theorem pt_gtL {l : List UInt8} (h : gtB l = true) : ptB (gtL l) = true ∧ ptL (gtL l) = l := by
  obtain ⟨⟨n1, n2⟩, hl, hz⟩ := gt_of h
  have hPl : ∀ j, j < gtN l → (gtP l j).length = 388 := fun j hj => gtP_length hl hj
  have hall : (gtL l).all pOk = true := by
    rw [List.all_eq_true]
    intro p hp
    obtain ⟨j, hj, rfl⟩ := List.getElem_of_mem hp
    have hj' : j < gtN l := by rwa [gtL_length] at hj
    rw [gtL_get]
    unfold pOk
    simp only [Bool.and_eq_true, decide_eq_true_eq]
    refine ⟨⟨by omega, by have := hz j hj'; omega⟩, by rw [List.length_drop, hPl j hj']⟩
  refine ⟨?_, ?_⟩
  · unfold ptB
    rw [hall, gtL_length, Bool.and_true]
    simp [ctB]
    omega
  · have hb : ∀ m, m ≤ gtN l → pbs ((gtL l).take m) = (l.drop 4).take (m * 388) := by
      intro m
      induction m with
      | zero => intro _; simp [pbs]
      | succ m ih =>
        intro hm
        have hm' : m < (gtL l).length := by rw [gtL_length]; omega
        rw [pbs_take hm', ih (by omega), gtL_get]
        have hq := hPl m (by omega)
        have e1 : lay 4 [((gtZ l m : Nat) : Int).toNat] ++ (gtP l m).drop 4 = gtP l m := by
          have e2 : lay 4 [((gtZ l m : Nat) : Int).toNat] = (gtP l m).take 4 := by
            have e3 : ((gtP l m).take 4).length = 4 := by rw [List.length_take, hq]; rfl
            have := be_val ((gtP l m).take 4)
            rw [e3] at this
            simp only [lay, List.flatMap_cons, List.flatMap_nil, List.append_nil, Int.toNat_natCast]
            exact this
          rw [e2, List.take_append_drop]
        show _ ++ (lay 4 [((gtZ l m : Nat) : Int).toNat] ++ (gtP l m).drop 4) = _
        rw [e1]
        unfold gtP
        rw [show (m + 1) * 388 = m * 388 + 388 by omega, List.take_add, List.drop_drop]
    have := hb (gtN l) (Nat.le_refl _)
    rw [List.take_of_length_le (by rw [gtL_length]; omega), List.take_of_length_le (by rw [List.length_drop]; omega)] at this
    unfold ptL
    rw [this, gtL_length]
    have e3 : (l.take 4).length = 4 := by rw [List.length_take]; omega
    have e4 := be_val (l.take 4)
    rw [e3] at e4
    have e5 : lay 4 [gtN l] = l.take 4 := by
      simp only [lay, List.flatMap_cons, List.flatMap_nil, List.append_nil]
      exact e4
    rw [e5, List.take_append_drop]
/-- What was read, as puts. -/
theorem PAt.rdp {M : Nat} {w : World} {G : Nat} {l : List UInt8} (h : PAt M w G (gtN l) (gtN l) l) (hg : gtB l = true) : RdP w (.slice (some ⟨G, 0, none⟩) (gtN l) (gtN l)) (gtL l) := by
  obtain ⟨⟨n1, n2⟩, hl, hz⟩ := gt_of hg
  obtain ⟨cs, h1, h2, h3⟩ := h
  refine .inr ⟨G, 0, gtN l, by rw [gtL_length], by rw [gtL_length]; exact Nat.le_refl _, by simp only [maxLen]; omega, fun j hj => ?_⟩
  have hj' : j < gtN l := by rwa [gtL_length] at hj
  obtain ⟨c0, x, c1, ho⟩ := h3 j hj'
  rw [gtL_get, Nat.zero_add]
  exact ⟨(cell_of_heap h1 _).trans c0, x, (cell_of_heap h1 _).trans c1, ho.rd⟩
/-- What PutTx tells. -/
def pxX (ps : List (Int × List UInt8)) : List UInt8 := if ptB ps = true then ptL ps else []
def pxC (ps : List (Int × List UInt8)) : Int := if ptB ps = true then 0 else 82
theorem Pt.one {ps : List (Int × List UInt8)} {w w' : World} {r : Value} {c : Int} (h : Pt ps w r c w') : c = pxC ps ∧ Rd w' r (pxX ps) ∧ Fr (fun _ => False) w w' := by
  unfold Pt at h
  unfold pxC pxX
  by_cases hb : ptB ps = true
  · rw [if_pos hb] at h
    rw [if_pos hb, if_pos hb]
    exact ⟨h.1, h.2.rd, h.2.fr⟩
  · rw [if_neg hb] at h
    rw [if_neg hb, if_neg hb]
    obtain ⟨rfl, rfl, f⟩ := h
    exact ⟨rfl, Rd.nil _, f⟩
end Go.Proofs.Ytgodlfoidjeekaa

namespace Go.Proofs.Ytgodlfoidjeekaa
set_option linter.unusedVariables false
set_option linter.unusedSimpArgs false
open Go.RowKit
set_option linter.unusedVariables false
set_option linter.unusedSimpArgs false

attribute [local go_sem ↓] Go.wp_at_zero Go.wp_at_succ

theorem wi_of' {a b : Nat} (h : wiB [a, b] = true) : a ≤ 4611686018427387904 ∧ b ≤ 4611686018427387904 := by
  unfold wiB at h
  simpa using h
set_option maxRecDepth 100000 in
set_option maxHeartbeats 4000000 in
theorem trim_high {X : Nat → Prop} {w0 : World} (w : World) (j s : Nat) (J : Jn) (D : Dv) (n : Nat) (hn : n < 18446744073709551616) (H : JS X w0 w j s J D) (hq : D.Q.length < 1000000) (hsy : J.synced ≤ J.lst) (h1 : n ≤ J.synced) (h2 : J.sup.l < n) : Calls Try.prog 39 #[.pointer (some ⟨j, 0, none⟩), .int .u64 (n : Int)] w (TmP X w0 w j s J D n) := by
  have h9 : ¬ (J.synced < n ∨ n < J.sup.l) := by omega
  have h8 : ¬ n = J.sup.l := by omega
  have HE := hide (show tmE J D n = if tmB J n = true then wsE D (tmU J n) else 5 by unfold tmE; rw [if_neg h9, if_neg h8])
  have HJT := hide (show tmJ J D n = if tmB J n = true then (if wsE D (tmU J n) = 0 then tmF J n else tmG J) else J by unfold tmJ; rw [if_neg h9, if_neg h8])
  have HDT := hide (show tmD J D n = if tmB J n = true then stD (tmG J) D (tmU J n) else D by unfold tmD; rw [if_neg h9, if_neg h8])
  unfold TmP
  have HS := hide H
  have HOK := hide H.ok
  have HQ := hide hq
  have HL := hide (show n ≤ J.lst by omega)
  have HLT := hide h2
  obtain ⟨mv, sv, qv, hJ, hD, hB⟩ := H.ex
  have HD0 := hide hD
  have HB0 := hide hB
  have HSZ := hide H.sz
  have HN := hide (none_any w j s mv J hJ)
  have hg62 := H.ok.sup.1
  have hlst : n ≤ J.sup.l + J.live.length := by have := unhide HL; unfold Jn.lst at this; exact this
  obtain ⟨i, hi⟩ : ∃ i, n - J.sup.l = i + 1 := ⟨n - J.sup.l - 1, by omega⟩
  have hil : i < J.live.length := by omega
  have hln := H.ok.nd.2.1
  obtain ⟨g, cap, hv, hcap, hcm, hrg⟩ := hJ.at i hil
  have c3 := cell_of_heap hJ.heap 3
  have c4 := cell_of_heap hJ.heap 4
  have c6 := cell_of_heap hJ.heap 6
  have c9 := cell_of_heap hJ.heap 9
  have c11 := cell_of_heap hJ.heap 11
  simp at c3 c4 c6 c9 c11
  subst hv
  have HJ0 := hide hJ
  have hmk : tmM J n = J.live[i] := by
    unfold tmM
    rw [hi, Nat.add_sub_cancel, List.getElem?_eq_getElem hil]; rfl
  obtain ⟨m, hm⟩ : ∃ m, m = J.live[i] := ⟨_, rfl⟩
  rw [← hm] at hrg hmk
  have HM := hide hmk
  unfold mC at hrg
  have HRG := hide hrg
  have b1 : ¬ (J.synced : Int) < (n : Int) := by omega
  have b2 : ¬ (n : Int) < (J.sup.l : Int) := by omega
  have b3 : ((n : Int) == (J.sup.l : Int)) = false := by simp; omega
  have s1 : IntKind.u64.wrap ((n : Int) - (J.sup.l : Int)) = ((i + 1 : Nat) : Int) := by
    rw [show (n : Int) - (J.sup.l : Int) = ((i + 1 : Nat) : Int) by omega]
    have := wrapU (i + 1) (by omega)
    exact_mod_cast this
  have s2 : IntKind.u64.wrap (((i + 1 : Nat) : Int) - 1) = (i : Int) := by
    rw [show (((i + 1 : Nat) : Int) - 1) = (i : Int) by omega]
    exact wrapU i (by omega)
  have hil2 : (i : Int) < (J.live.length : Int) := by omega
  clear H hJ hD hB hmk hm hrg h1 h2 h8 h9 hq hsy hlst
  go_enter Try.func39, Try.ntmps39
  go_wp2_with fail
  refine (unhide HN).mono ?_
  rintro e w1 ⟨rfl, rfl⟩
  clear HN
  go_upto_region 9 with (refine wpList_load_mid rfl 130 (.tmp 50) rfl g (i * 3) rfl _ _ (unhide HRG) Try.underlying130 rfl (by kernel_rfl) ?_)
  have HA1 := hide (heap_alloc_new w (.cells #[.int .u64 (m.e : Int), .int .u64 (m.b : Int), .int .u64 (m.s : Int)] 130))
  have fA : Fr (fun _ => False) w (w.alloc (.cells #[.int .u64 (m.e : Int), .int .u64 (m.b : Int), .int .u64 (m.s : Int)] 130)) := (Fr.refl _ _).alloc _
  have HS1 := hide ((unhide HS).kept0 fA)
  have HJ1 := hide ((unhide HJ0).kept0 fA)
  have F1 := hide fA
  refine wp_world ?_
  intro w1 hw1
  rw [← hw1] at HA1 HS1 HJ1 F1
  obtain ⟨b6, hb6⟩ : ∃ b, b = w.heap.size := ⟨_, rfl⟩
  rw [← hb6] at HA1 ⊢
  clear hw1 hb6 fA HS HJ0 HRG c3 c4 c6 c9 c11 b1 b2 b3 s1 s2 hil2
  have c3 := cell_of_heap (unhide HJ1).heap 3
  have c4 := cell_of_heap (unhide HJ1).heap 4
  have d0 := cell_of_heap (unhide HA1) 0
  have d1 := cell_of_heap (unhide HA1) 1
  have d2 := cell_of_heap (unhide HA1) 2
  simp at c3 c4 d0 d1 d2
  refine gt9 c3 c4 d0 d1 d2 (by omega) ?_
  intros
  rename_i b7 w2 f2 hb7 hh7
  obtain ⟨G1, hG1⟩ : ∃ G, G = J.sup.g + 1 := ⟨_, rfl⟩
  rw [← hG1] at hh7
  have HG1 := hide hG1
  clear hG1
  have HS2 := hide ((unhide HS1).kept0 f2)
  have HJ2 := hide ((unhide HJ1).kept0 f2)
  have F2 := hide ((unhide F1).trans f2 (fun _ _ e => e))
  have HA2 := hide hh7
  clear c3 c4 d0 d1 d2 f2 hb7 hh7 HA1 HS1 HJ1 F1
  have fB : Fr (fun _ => False) w2 (w2.alloc (.cells #[.int .u64 (G1 : Int), .int .u64 (m.e : Int)] 22)) := (Fr.refl _ _).alloc _
  have hrv : RdV (w2.alloc (.cells #[.int .u64 (G1 : Int), .int .u64 (m.e : Int)] 22)) (.slice (some ⟨w2.heap.size, 0, none⟩) 2 2) (uvs [G1, m.e]) := by
    refine .inr ⟨⟨w2.heap.size, 0, none⟩, 2, rfl, Nat.le_refl _, by decide, fun j hj => ?_⟩
    rw [Addr.add_lit, Nat.zero_add, cell_of_heap (heap_alloc_new w2 _)]
    have : j < 2 := hj
    rcases (by omega : j = 0 ∨ j = 1) with rfl | rfl <;> rfl
  have HW := hide (within_any _ _ [G1, m.e] hrv (by show 2 ≤ 1000; omega))
  have HS3 := hide ((unhide HS2).kept0 fB)
  have HJ3 := hide ((unhide HJ2).kept0 fB)
  have HA3 := hide ((fB.block _ (lt_of_heap (unhide HA2)) id).trans (unhide HA2))
  have F3 := hide ((unhide F2).trans fB (fun _ _ e => e))
  have HWB := hide (show tmB J n = wiB [G1, m.e] by unfold tmB; rw [unhide HM, unhide HG1])
  have k0 := cell_of_heap (unhide HA2) 0
  have k2 := cell_of_heap (unhide HA2) 2
  simp at k0 k2
  clear fB hrv HS2 HJ2 HA2 F2
  by_cases hb : wiB [G1, m.e] = true
  case neg =>
    have hb' : wiB [G1, m.e] = false := by simpa using hb
    rw [hb'] at HW
    go_wp2_with fail
    refine (unhide HW).mono ?_
    rintro e w3 ⟨rfl, rfl⟩
    go_wp2_with fail
    go_ret
    rw [unhide HE, unhide HJT, unhide HDT, if_neg (by rw [unhide HWB]; exact hb), if_neg (by rw [unhide HWB]; exact hb), if_neg (by rw [unhide HWB]; exact hb)]
    exact ⟨rfl, unhide HS3, zs_none (unhide F3)⟩
  case pos =>
    rw [hb] at HW
    have hgm := wi_of' hb
    have HE2 := hide (show tmE J D n = wsE D (tmU J n) by rw [unhide HE, if_pos (by rw [unhide HWB]; exact hb)])
    have HJ2 := hide (show tmJ J D n = if wsE D (tmU J n) = 0 then tmF J n else tmG J by rw [unhide HJT, if_pos (by rw [unhide HWB]; exact hb)])
    have HD2 := hide (show tmD J D n = stD (tmG J) D (tmU J n) by rw [unhide HDT, if_pos (by rw [unhide HWB]; exact hb)])
    go_upto_region 12 with (go_at_call 54; refine (unhide HW).mono ?_; rintro e w3 ⟨rfl, rfl⟩)
    clear HE HJT HDT HW HWB k0 k2 hb
    refine wp_world ?_
    intro w3 hw3
    rw [← hw3] at HS3 HJ3 HA3 F3
    clear hw3
    have c3 := cell_of_heap (unhide HJ3).heap 3
    have z3 := frozen_of_heap (unhide HJ3).heap 3
    have k0 := cell_of_heap (unhide HA3) 0
    simp at c3 k0
    obtain ⟨hJ4, f4⟩ := (unhide HJ3).cell (J' := tmG J) 3 (.int .u64 (G1 : Int)) rfl (by rw [unhide HG1]; rfl)
    have hD3 := (unhide HD0).kept0 (unhide F3)
    have hD4 := hD3.kept f4 (fun k e z => not_KD_KJ ((unhide HJ3).knds z) (hD3.knds e))
    have HF4 := hide (js_jr (X := X) (w0 := w0) (unhide HJ3) hD3 (unhide HB0) (Nat.le_trans (unhide HSZ) (unhide F3).size) hJ4 f4 (fun b e => .inl e) (tmG_ok (unhide HOK) (by rw [← unhide HG1]; exact hgm.1))).2
    have HA4 := hide ((f4.block _ (lt_of_heap (unhide HA3)) (fun e => by
      have := (unhide HJ3).knds e
      rw [knd_cells (unhide HA3)] at this
      unfold KJ at this
      omega)).trans (unhide HA3))
    have HJ4 := hide hJ4
    have HD4 := hide hD4
    clear f4 hJ4 hD3 hD4
    go_upto_region 13 with fail
    clear c3 z3 k0
    refine wp_world ?_
    intro w4 hw4
    rw [show w3.setCell ⟨j, 3, none⟩ (.int .u64 (G1 : Int)) = w4 from hw4.symm] at HF4 HA4 HJ4 HD4
    clear hw4 HS3 HJ3 HA3
    have c9 := cell_of_heap (unhide HJ4).heap 9
    simp at c9
    have HU := hide (show tmU J n = ⟨G1, J.sup.b, m.e, n, m.b, m.s⟩ by unfold tmU; rw [unhide HM, unhide HG1])
    have hdl : (J.live.drop (i + 1)).length = J.live.length - (i + 1) := List.length_drop
    have hcl : ∀ (ad : Addr) (c : Nat), (ad = ⟨g, (i + 1) * 3, none⟩ ∨ J.live.length - (i + 1) = 0) → Calls Try.prog 76 #[.slice (some ad) (J.live.length - (i + 1)) c] w4 fun e w' => ∃ v, e = .returned v ∧ w'.ownsRow 0 130 3 v (J.live.drop (i + 1)).length (mF (J.live.drop (i + 1))) ∧ Fr (fun _ => False) w4 w' ∧ ∀ k, v.ownBlock = some k → w4.heap.size ≤ k := fun ad c hac => by
      have h := cloneM_any w4 ad c (J.live.drop (i + 1)) (.inr ⟨ad, c, rfl, mF_len _, fun q u hu => by
        have hq := (List.getElem?_eq_some_iff.1 hu).1
        rw [mF_len] at hq
        rcases hac with rfl | e
        · have hq3 : q / 3 < (J.live.drop (i + 1)).length := by omega
          have hq4 : i + 1 + q / 3 < J.live.length := by rw [hdl] at hq3; omega
          have hrow := owns_cells (unhide HJ4).mks ((i + 1) * 3 + q) (by rw [mF_len]; show _ < J.live.length * 3; omega)
          rw [Addr.add_lit]
          have e1 : w4.cell? ⟨g, (i + 1) * 3 + q, none⟩ = (mF J.live)[(i + 1) * 3 + q]? := hrow.1
          rw [e1]
          rw [show (i + 1) * 3 + q = (i + 1 + q / 3) * 3 + q % 3 by omega, mF_get _ _ _ hq4 (by omega)]
          rw [show q = q / 3 * 3 + q % 3 by omega, mF_get _ _ _ hq3 (by omega)] at hu
          rw [← hu]
          rw [List.getElem_drop]
        · rw [hdl, e] at hq; omega⟩) (by rw [hdl]; omega)
      rw [hdl] at h
      rw [hdl]
      exact h
    by_cases hc : i + 1 < cap
    · go_wp2_with fail
      refine (hcl _ _ (.inl rfl)).mono ?_
      clear hcl
      rintro e w5 ⟨rv, rfl, hro, f5, hrn⟩
      obtain ⟨ro, rc, rfl⟩ := owns_shape hro
      have hJ5 := (unhide HJ4).kept0 f5
      have hD5 := (unhide HD4).kept0 f5
      have HA5 := hide ((f5.block _ (lt_of_heap (unhide HA4)) id).trans (unhide HA4))
      have hX : ∀ b, (JB j (.slice (some ⟨g, 0, none⟩) J.live.length cap) b ∨ DB s sv qv b) → b < w4.heap.size := fun b e => by
        rcases e with e | e
        · exact (unhide HJ4).lt e
        · exact (unhide HD4).lt e
      have HSX : Hid (JS (fun b => JB j (.slice (some ⟨g, 0, none⟩) J.live.length cap) b ∨ DB s sv qv b) w5 w5 j s (tmG J) D) := hide ⟨⟨_, sv, qv, hJ5, hD5, fun b e => .inl e⟩, tmG_ok (unhide HOK) (by rw [← unhide HG1]; exact hgm.1), Nat.le_refl _⟩
      have hs45 := f5.size
      have HRN : Hid (∀ b, (Value.slice ro (J.live.drop (i + 1)).length rc).ownBlock = some b → ¬ ((JB j (.slice (some ⟨g, 0, none⟩) J.live.length cap) b ∨ DB s sv qv b) ∨ w5.heap.size ≤ b)) := hide (fun b hb e => by
        have h1 := hrn b hb
        have h2 := owns_ltB hro hb
        rcases e with e | e
        · have := hX b e; omega
        · omega)
      have HWID : Hid (∀ b, ((JB j (.slice (some ⟨g, 0, none⟩) J.live.length cap) b ∨ DB s sv qv b) ∨ w5.heap.size ≤ b) → X b ∨ w0.heap.size ≤ b) := hide (fun b e => by
        rcases e with e | e
        · exact unhide HB0 b e
        · right; have := unhide HSZ; have := (unhide F3).size; have := (unhide HF4).size; omega)
      have HRV : Hid (∀ b, (Value.slice ro (J.live.drop (i + 1)).length rc).ownBlock = some b → w0.heap.size ≤ b) := hide (fun b hb => by
        have := hrn b hb; have := unhide HSZ; have := (unhide F3).size; have := (unhide HF4).size; omega)
      have HRO := hide hro
      have F5 := hide (zs_trans (zs_trans (zs_none (X := X) (w0 := w0) (unhide F3)) (unhide HF4)) (zs_none f5))
      have HSZ5 := hide (Nat.le_trans (unhide HSZ) (unhide F5).size)
      clear hro f5 hrn hJ5 hD5 hX hs45 HJ4 HD4 HA4 HF4
      have hset := settle_any w5 j s (tmG J) D (tmU J n) (unhide HSX) (unhide HQ)
      unfold Su.v at hset
      rw [unhide HU] at hset
      dsimp only at hset
      have HC := hide hset
      clear hset
      obtain ⟨E, hE⟩ : ∃ E, E = wsE D ⟨G1, J.sup.b, m.e, n, m.b, m.s⟩ := ⟨_, rfl⟩
      have hsj : stJ (tmG J) D ⟨G1, J.sup.b, m.e, n, m.b, m.s⟩ = if E = 0 then (tmG J).syn else tmG J := by unfold stJ; rw [hE]
      rw [← hE, hsj] at HC
      have HE3 := hide hE
      clear hE hsj HSX
      go_wp2_with (refine wl_loadR 27 6 _ Try.underlying27 (by kernel_rfl) (.tmp 7) rfl rfl b7 rfl _ 27 (unhide HA5) rfl ?_)
      refine (unhide HC).mono ?_
      rintro e w6 ⟨rfl, h6, f6⟩
      have HA6 := hide ((f6.block _ (lt_of_heap (unhide HA5)) (fun e => by
        have := e.1
        rw [knd_cells (unhide HA5)] at this
        unfold KD KJ at this
        omega)).trans (unhide HA5))
      have HRO6 := hide (owns_kept (unhide HRO) f6 (fun b hb z => unhide HRN b hb z.2))
      have F6 := hide (zs_trans (unhide F5) (zs_widen f6 (unhide HWID)))
      have H6 := hide h6
      have HSZ6 := hide (Nat.le_trans (unhide HSZ5) f6.size)
      clear h6 f6 HC HA5 HRO F5 HSZ5 c9
      by_cases h0 : E = 0
      · subst h0
        rw [if_pos rfl] at H6
        have hub : Su.B ⟨G1, J.sup.b, m.e, n, m.b, m.s⟩ = true := by
          have := unhide HE3
          unfold wsE at this
          by_cases hb : Su.B ⟨G1, J.sup.b, m.e, n, m.b, m.s⟩ = true
          · exact hb
          · rw [if_neg hb] at this; omega
        have huo : (tmU J n).Ok := by
          rw [unhide HU]
          exact sb_of hub
        obtain ⟨⟨mv6, sv6, qv6, hJ6, hD6, hB6⟩, ok6, sz6⟩ := unhide H6
        obtain ⟨hJ7, f7⟩ := hJ6.setS ⟨G1, J.sup.b, m.e, n, m.b, m.s⟩
        have e2 : Su.vs ⟨G1, J.sup.b, m.e, n, m.b, m.s⟩ = (#[.int .u64 (G1 : Int), .int .u64 (J.sup.b : Int), .int .u64 (m.e : Int), .int .u64 (n : Int), .int .u64 (m.b : Int), .int .u64 (m.s : Int)] : Array Value).toList := by simp [Su.vs]
        rw [e2] at hJ7 f7
        have hTH := hJ6.there
        have hro7 := owns_kept (unhide HRO6) f7 (fun b hb e => unhide HRN b hb (hB6 b (.inl e)))
        have hD7 := hD6.kept f7 (fun k e z => not_KD_KJ (hJ6.knds z) (hD6.knds e))
        have c9 := cell_of_heap hJ7.heap 9
        have z9 := frozen_of_heap hJ7.heap 9
        simp at c9
        obtain ⟨hJ8, f8⟩ := hJ7.setL hro7
        have hD8 := hD7.kept f8 (fun k e z => not_KD_KJ (hJ7.knds (.inl z)) (hD7.knds e))
        have hfin : JS X w0 ((w6.setCells j 3 (#[.int .u64 (G1 : Int), .int .u64 (J.sup.b : Int), .int .u64 (m.e : Int), .int .u64 (n : Int), .int .u64 (m.b : Int), .int .u64 (m.s : Int)] : Array Value).toList).setCell ⟨j, 9, none⟩ (.slice ro (J.live.drop (i + 1)).length rc)) j s (tmF J n) (stD (tmG J) D (tmU J n)) := by
          have hl := unhide HL
          refine ⟨⟨.slice ro (J.live.drop (i + 1)).length rc, sv6, qv6, ?_, by rw [unhide HU]; exact hD8, fun b e => ?_⟩, by rw [stD_len]; exact (tmF_ok (unhide HOK) (unhide HLT) (unhide HL) huo).1, Nat.le_trans (Nat.le_trans (unhide HSZ6) f7.size) f8.size⟩
          · have e9 : tmF J n = { (tmG J).syn.setS ⟨G1, J.sup.b, m.e, n, m.b, m.s⟩ with live := J.live.drop (i + 1) } := by
              unfold tmF Jn.setS
              rw [unhide HU, hi]
            rw [e9]
            exact hJ8
          · rcases e with (e | e) | e
            · exact unhide HWID b (hB6 b (.inl (.inl e)))
            · exact .inr (unhide HRV b e)
            · exact unhide HWID b (hB6 b (.inr e))
        have HFIN := hide hfin
        have F8 := hide (zs_trans (unhide F6) (((f7.mono (T := Zs X w0 w6) (fun k _ e => ⟨.inr (hJ6.knds e), unhide HWID k (hB6 k (.inl e))⟩)).trans f8 (fun k _ e => ⟨.inr (hJ6.knds (.inl e)), unhide HWID k (hB6 k (.inl (.inl e)))⟩))))
        clear hfin hJ6 hD6 hB6 ok6 sz6 hJ7 f7 hro7 hD7 hJ8 f8 hD8 e2 H6 F6 HRO6
        have HTH := hide hTH
        have C9 := hide c9
        have Z9 := hide z9
        clear c9 z9 hTH
        rw [hdl] at HFIN F8
        go_wp2_with (first | (refine wl_loadR 27 6 _ Try.underlying27 (by kernel_rfl) (.tmp 7) rfl rfl b7 rfl _ 27 (unhide HA6) rfl ?_) | (refine wl_storeM 27 6 (by kernel_rfl) (.tmp 102) (.tmp 99) rfl rfl j 3 rfl _ rfl (unhide HTH) rfl (by simp [Value.oneCell']) ?_; intro w7 hw7; rw [← hw7] at C9 Z9 HFIN F8; have c9 := unhide C9; have z9 := unhide Z9; clear hw7))
        go_ret
        rw [unhide HE2, unhide HJ2, unhide HD2, unhide HU, ← unhide HE3, if_pos rfl, ← unhide HU]
        exact ⟨rfl, unhide HFIN, unhide F8⟩
      · rw [if_neg h0] at H6
        have b1 : (E != 0) = true := by simpa using h0
        have HH := hide h0
        clear h0
        go_wp2_with fail
        go_ret
        rw [unhide HE2, unhide HJ2, unhide HD2, unhide HU, ← unhide HE3, if_neg (unhide HH)]
        exact ⟨rfl, (unhide H6).widen (unhide HWID) (unhide HSZ6), unhide F6⟩
    · go_wp2_with fail
      refine (hcl _ _ (.inr (by omega))).mono ?_
      clear hcl
      rintro e w5 ⟨rv, rfl, hro, f5, hrn⟩
      obtain ⟨ro, rc, rfl⟩ := owns_shape hro
      have hJ5 := (unhide HJ4).kept0 f5
      have hD5 := (unhide HD4).kept0 f5
      have HA5 := hide ((f5.block _ (lt_of_heap (unhide HA4)) id).trans (unhide HA4))
      have hX : ∀ b, (JB j (.slice (some ⟨g, 0, none⟩) J.live.length cap) b ∨ DB s sv qv b) → b < w4.heap.size := fun b e => by
        rcases e with e | e
        · exact (unhide HJ4).lt e
        · exact (unhide HD4).lt e
      have HSX : Hid (JS (fun b => JB j (.slice (some ⟨g, 0, none⟩) J.live.length cap) b ∨ DB s sv qv b) w5 w5 j s (tmG J) D) := hide ⟨⟨_, sv, qv, hJ5, hD5, fun b e => .inl e⟩, tmG_ok (unhide HOK) (by rw [← unhide HG1]; exact hgm.1), Nat.le_refl _⟩
      have hs45 := f5.size
      have HRN : Hid (∀ b, (Value.slice ro (J.live.drop (i + 1)).length rc).ownBlock = some b → ¬ ((JB j (.slice (some ⟨g, 0, none⟩) J.live.length cap) b ∨ DB s sv qv b) ∨ w5.heap.size ≤ b)) := hide (fun b hb e => by
        have h1 := hrn b hb
        have h2 := owns_ltB hro hb
        rcases e with e | e
        · have := hX b e; omega
        · omega)
      have HWID : Hid (∀ b, ((JB j (.slice (some ⟨g, 0, none⟩) J.live.length cap) b ∨ DB s sv qv b) ∨ w5.heap.size ≤ b) → X b ∨ w0.heap.size ≤ b) := hide (fun b e => by
        rcases e with e | e
        · exact unhide HB0 b e
        · right; have := unhide HSZ; have := (unhide F3).size; have := (unhide HF4).size; omega)
      have HRV : Hid (∀ b, (Value.slice ro (J.live.drop (i + 1)).length rc).ownBlock = some b → w0.heap.size ≤ b) := hide (fun b hb => by
        have := hrn b hb; have := unhide HSZ; have := (unhide F3).size; have := (unhide HF4).size; omega)
      have HRO := hide hro
      have F5 := hide (zs_trans (zs_trans (zs_none (X := X) (w0 := w0) (unhide F3)) (unhide HF4)) (zs_none f5))
      have HSZ5 := hide (Nat.le_trans (unhide HSZ) (unhide F5).size)
      clear hro f5 hrn hJ5 hD5 hX hs45 HJ4 HD4 HA4 HF4
      have hset := settle_any w5 j s (tmG J) D (tmU J n) (unhide HSX) (unhide HQ)
      unfold Su.v at hset
      rw [unhide HU] at hset
      dsimp only at hset
      have HC := hide hset
      clear hset
      obtain ⟨E, hE⟩ : ∃ E, E = wsE D ⟨G1, J.sup.b, m.e, n, m.b, m.s⟩ := ⟨_, rfl⟩
      have hsj : stJ (tmG J) D ⟨G1, J.sup.b, m.e, n, m.b, m.s⟩ = if E = 0 then (tmG J).syn else tmG J := by unfold stJ; rw [hE]
      rw [← hE, hsj] at HC
      have HE3 := hide hE
      clear hE hsj HSX
      go_wp2_with (refine wl_loadR 27 6 _ Try.underlying27 (by kernel_rfl) (.tmp 7) rfl rfl b7 rfl _ 27 (unhide HA5) rfl ?_)
      refine (unhide HC).mono ?_
      rintro e w6 ⟨rfl, h6, f6⟩
      have HA6 := hide ((f6.block _ (lt_of_heap (unhide HA5)) (fun e => by
        have := e.1
        rw [knd_cells (unhide HA5)] at this
        unfold KD KJ at this
        omega)).trans (unhide HA5))
      have HRO6 := hide (owns_kept (unhide HRO) f6 (fun b hb z => unhide HRN b hb z.2))
      have F6 := hide (zs_trans (unhide F5) (zs_widen f6 (unhide HWID)))
      have H6 := hide h6
      have HSZ6 := hide (Nat.le_trans (unhide HSZ5) f6.size)
      clear h6 f6 HC HA5 HRO F5 HSZ5 c9
      by_cases h0 : E = 0
      · subst h0
        rw [if_pos rfl] at H6
        have hub : Su.B ⟨G1, J.sup.b, m.e, n, m.b, m.s⟩ = true := by
          have := unhide HE3
          unfold wsE at this
          by_cases hb : Su.B ⟨G1, J.sup.b, m.e, n, m.b, m.s⟩ = true
          · exact hb
          · rw [if_neg hb] at this; omega
        have huo : (tmU J n).Ok := by
          rw [unhide HU]
          exact sb_of hub
        obtain ⟨⟨mv6, sv6, qv6, hJ6, hD6, hB6⟩, ok6, sz6⟩ := unhide H6
        obtain ⟨hJ7, f7⟩ := hJ6.setS ⟨G1, J.sup.b, m.e, n, m.b, m.s⟩
        have e2 : Su.vs ⟨G1, J.sup.b, m.e, n, m.b, m.s⟩ = (#[.int .u64 (G1 : Int), .int .u64 (J.sup.b : Int), .int .u64 (m.e : Int), .int .u64 (n : Int), .int .u64 (m.b : Int), .int .u64 (m.s : Int)] : Array Value).toList := by simp [Su.vs]
        rw [e2] at hJ7 f7
        have hTH := hJ6.there
        have hro7 := owns_kept (unhide HRO6) f7 (fun b hb e => unhide HRN b hb (hB6 b (.inl e)))
        have hD7 := hD6.kept f7 (fun k e z => not_KD_KJ (hJ6.knds z) (hD6.knds e))
        have c9 := cell_of_heap hJ7.heap 9
        have z9 := frozen_of_heap hJ7.heap 9
        simp at c9
        obtain ⟨hJ8, f8⟩ := hJ7.setL hro7
        have hD8 := hD7.kept f8 (fun k e z => not_KD_KJ (hJ7.knds (.inl z)) (hD7.knds e))
        have hfin : JS X w0 ((w6.setCells j 3 (#[.int .u64 (G1 : Int), .int .u64 (J.sup.b : Int), .int .u64 (m.e : Int), .int .u64 (n : Int), .int .u64 (m.b : Int), .int .u64 (m.s : Int)] : Array Value).toList).setCell ⟨j, 9, none⟩ (.slice ro (J.live.drop (i + 1)).length rc)) j s (tmF J n) (stD (tmG J) D (tmU J n)) := by
          have hl := unhide HL
          refine ⟨⟨.slice ro (J.live.drop (i + 1)).length rc, sv6, qv6, ?_, by rw [unhide HU]; exact hD8, fun b e => ?_⟩, by rw [stD_len]; exact (tmF_ok (unhide HOK) (unhide HLT) (unhide HL) huo).1, Nat.le_trans (Nat.le_trans (unhide HSZ6) f7.size) f8.size⟩
          · have e9 : tmF J n = { (tmG J).syn.setS ⟨G1, J.sup.b, m.e, n, m.b, m.s⟩ with live := J.live.drop (i + 1) } := by
              unfold tmF Jn.setS
              rw [unhide HU, hi]
            rw [e9]
            exact hJ8
          · rcases e with (e | e) | e
            · exact unhide HWID b (hB6 b (.inl (.inl e)))
            · exact .inr (unhide HRV b e)
            · exact unhide HWID b (hB6 b (.inr e))
        have HFIN := hide hfin
        have F8 := hide (zs_trans (unhide F6) (((f7.mono (T := Zs X w0 w6) (fun k _ e => ⟨.inr (hJ6.knds e), unhide HWID k (hB6 k (.inl e))⟩)).trans f8 (fun k _ e => ⟨.inr (hJ6.knds (.inl e)), unhide HWID k (hB6 k (.inl (.inl e)))⟩))))
        clear hfin hJ6 hD6 hB6 ok6 sz6 hJ7 f7 hro7 hD7 hJ8 f8 hD8 e2 H6 F6 HRO6
        have HTH := hide hTH
        have C9 := hide c9
        have Z9 := hide z9
        clear c9 z9 hTH
        rw [hdl] at HFIN F8
        go_wp2_with (first | (refine wl_loadR 27 6 _ Try.underlying27 (by kernel_rfl) (.tmp 7) rfl rfl b7 rfl _ 27 (unhide HA6) rfl ?_) | (refine wl_storeM 27 6 (by kernel_rfl) (.tmp 102) (.tmp 99) rfl rfl j 3 rfl _ rfl (unhide HTH) rfl (by simp [Value.oneCell']) ?_; intro w7 hw7; rw [← hw7] at C9 Z9 HFIN F8; have c9 := unhide C9; have z9 := unhide Z9; clear hw7))
        go_ret
        rw [unhide HE2, unhide HJ2, unhide HD2, unhide HU, ← unhide HE3, if_pos rfl, ← unhide HU]
        exact ⟨rfl, unhide HFIN, unhide F8⟩
      · rw [if_neg h0] at H6
        have b1 : (E != 0) = true := by simpa using h0
        have HH := hide h0
        clear h0
        go_wp2_with fail
        go_ret
        rw [unhide HE2, unhide HJ2, unhide HD2, unhide HU, ← unhide HE3, if_neg (unhide HH)]
        exact ⟨rfl, (unhide H6).widen (unhide HWID) (unhide HSZ6), unhide F6⟩
theorem trim_any {X : Nat → Prop} {w0 : World} (w : World) (j s : Nat) (J : Jn) (D : Dv) (n : Nat) (hn : n < 18446744073709551616) (H : JS X w0 w j s J D) (hq : D.Q.length < 1000000) (hsy : J.synced ≤ J.lst) : Calls Try.prog 39 #[.pointer (some ⟨j, 0, none⟩), .int .u64 (n : Int)] w fun e w' => e = .returned (.int .i64 (tmE J D n)) ∧ JS X w0 w' j s (tmJ J D n) (tmD J D n) ∧ Fr (Zs X w0 w) w w' := by
  by_cases h : J.synced < n ∨ n ≤ J.sup.l
  · exact trim_low w j s J D n hn H h
  · exact trim_high w j s J D n hn H hq hsy (by omega) (by omega)
end Go.Proofs.Ytgodlfoidjeekaa

namespace Go.Proofs.Ytgodlfoidjeekaa
set_option linter.unusedVariables false
set_option linter.unusedSimpArgs false
open Go.RowKit
set_option linter.unusedVariables false
set_option linter.unusedSimpArgs false

attribute [local go_sem ↓] Go.wp_at_zero Go.wp_at_succ

/-- Ints in a block of their own, from some place on. -/
def Of (w : World) (v : Value) (xs : List Nat) : Prop := (v = .slice none 0 0 ∧ xs = []) ∨
  ∃ (g off cap : Nat) (cur : Array Value), v = .slice (some ⟨g, off, none⟩) xs.length cap ∧ w.heap[g]? = some (.cells cur 3 (0, 0)) ∧ off + cap ≤ cur.size ∧ xs.length ≤ cap ∧ cap ≤ maxLen ∧ ∀ j (h : j < xs.length), cur[off + j]? = some (.int .i64 (xs[j] : Int))
theorem Of.nil (w : World) : Of w (.slice none 0 0) [] := .inl ⟨rfl, rfl⟩
theorem Of.shape {w : World} {v : Value} {xs : List Nat} (h : Of w v xs) : ∃ ao c, v = .slice ao xs.length c := by
  rcases h with ⟨rfl, rfl⟩ | ⟨g, off, cap, cur, rfl, -⟩
  · exact ⟨_, _, rfl⟩
  · exact ⟨_, _, rfl⟩
theorem Of.kept {w w' : World} {v : Value} {xs : List Nat} {S : Nat → Prop} (h : Of w v xs) (f : Fr S w w') (hs : ∀ b, v.ownBlock = some b → ¬ S b) : Of w' v xs := by
  rcases h with h | ⟨g, off, cap, cur, rfl, h1, h2⟩
  · exact .inl h
  · exact .inr ⟨g, off, cap, cur, rfl, (f.block _ (lt_of_heap h1) (hs g rfl)).trans h1, h2⟩
theorem Of.knd {w : World} {v : Value} {xs : List Nat} (h : Of w v xs) : ∀ b, v.ownBlock = some b → knd w b = 3 ∧ b < w.heap.size := by
  intro b e
  rcases h with ⟨rfl, -⟩ | ⟨g, off, cap, cur, rfl, h1, -⟩
  · simp [Value.ownBlock] at e
  · simp [Value.ownBlock] at e
    subst e
    exact ⟨knd_cells h1, lt_of_heap h1⟩
theorem Of.first {w : World} {v : Value} {x : Nat} {xs : List Nat} (h : Of w v (x :: xs)) : ∃ (g off cap : Nat), v = .slice (some ⟨g, off, none⟩) (xs.length + 1) cap ∧ xs.length + 1 ≤ cap ∧ cap ≤ maxLen ∧ w.cell? ⟨g, off, none⟩ = some (.int .i64 (x : Int)) ∧ (1 < cap → Of w (.slice (some ⟨g, off + 1, none⟩) xs.length (cap - 1)) xs) ∧ (¬ 1 < cap → Of w (.slice (some ⟨g, off, none⟩) xs.length 0) xs) := by
  rcases h with ⟨-, e⟩ | ⟨g, off, cap, cur, rfl, h1, h2, h3, h4, h5⟩
  · simp at e
  · refine ⟨g, off, cap, rfl, h3, h4, ?_, fun hc => ?_, fun hc => ?_⟩
    · rw [cell_of_heap h1]
      have := h5 0 (by simp)
      simpa using this
    · refine .inr ⟨g, off + 1, cap - 1, cur, rfl, h1, by omega, by simp at h3; omega, by omega, fun j hj => ?_⟩
      have := h5 (j + 1) (by simp; omega)
      rw [show off + 1 + j = off + (j + 1) by omega, this]
      simp
    · have hx : xs = [] := List.eq_nil_of_length_eq_zero (by simp at h3; omega)
      subst hx
      exact .inr ⟨g, off, 0, cur, rfl, h1, by omega, by simp, by omega, fun j hj => by simp at hj⟩
theorem Try.info3 : (Try.prog.info? 3).map (fun i => (i.zero, i.size, i.bytes)) = some (some (.int .i64 0), 1, 8) := by kernel_rfl
theorem Try.u73 : Try.prog.underlying 73 = some (.slice 3) := by kernel_rfl
/-- append of one. -/
theorem run_appI (w : World) (v : Value) (xs : List Nat) (h : Of w v xs) (x b : Nat) (hb : w.heap[b]? = some (.cells #[.int .i64 (x : Int)] 3 (0, 0))) (hl : xs.length ≤ 1000) :
    ∃ v' w', (Builtin.append_ #[73, 73] 73 #[v, .slice (some ⟨b, 0, none⟩) 1 1]).run Try.prog w = .ok v' w' ∧ Of w' v' (xs ++ [x]) ∧ Fr (fun k => v.ownBlock = some k) w w' ∧ (v'.ownBlock = v.ownBlock ∨ v'.ownBlock = some w.heap.size) := by
  obtain ⟨inf, hi, hz0, hz1, hz2⟩ := info_parts Try.info3
  have hnews : ∀ j u, ([.int .i64 (x : Int)] : List Value)[j]? = some u → w.cell? ((⟨b, 0, none⟩ : Addr).add j) = some u := fun j u hu => by
    rw [Addr.add_lit, Nat.zero_add, cell_of_heap hb]
    simpa using hu
  rcases h with ⟨rfl, rfl⟩ | ⟨g, off, cap, cur, rfl, h1, h2, h3, h4, h5⟩
  · obtain ⟨v', w', hr, ho, hg, hn⟩ := run_app (P := Try.prog) w 73 73 3 inf _ 1 8 Try.u73 hi hz0 hz1 hz2 rfl (by decide) (.slice none 0 0) 0 [] (World.ownsRow_nil _ _ _ _) _ 1 [.int .i64 (x : Int)] (.inr ⟨_, _, rfl, rfl, hnews⟩) (fun u hu => by simp at hu; subst hu; rfl) (by omega) (by simp [maxLen])
    refine ⟨v', w', hr, ?_, (Fr.refl _ _).grown hg (fun k _ e => e), hn⟩
    rcases ho.2 with ⟨hv, hn⟩ | ⟨g, cap, cur, rfl, hb', hg', hnc, hcm, hcs, htake⟩
    · omega
    · refine .inr ⟨g, 0, cap, cur, by simp, hg', by omega, by simpa using hnc, hcm, fun j hj => ?_⟩
      have hj0 : j = 0 := by simp at hj; omega
      subst hj0
      have h9 := World.ownsRow.cellAt ho 0 (by omega)
      rw [cell_of_heap hg'] at h9
      simpa using h9
  · by_cases hroom : xs.length + 1 ≤ cap
    · have hr := run_append_room_src (P := Try.prog) w 73 73 73 3 inf Try.u73 hi g off xs.length cap _ 1 [.int .i64 (x : Int)] (Src.ofSlice w Try.u73 ⟨b, 0, none⟩ 1 1 _ (by rw [hz1]; rfl) hnews (fun u hu => by simp at hu; subst hu; rfl)) hroom
        (fun j hj => by
          have hj0 : j = 0 := by simp at hj; omega
          subst hj0
          rw [cell_of_heap h1, hz1]
          simp
          omega)
        (fun j hj => frozen_of_heap h1 _)
      rw [hz1] at hr
      simp only [Nat.mul_one, World.setCells] at hr
      have hs := heap_setCell_same w g (off + xs.length) _ 3 (.int .i64 (x : Int)) h1
      refine ⟨_, _, hr, .inr ⟨g, off, cap, _, by simp, hs, by simpa using h2, by simpa using hroom, h4, fun j hj => ?_⟩, (Fr.refl (fun k => (Value.slice (some ⟨g, off, none⟩) xs.length cap).ownBlock = some k) w).setCell (p := ⟨g, off + xs.length, none⟩) (fun _ => rfl) _, .inl rfl⟩
      by_cases e : j < xs.length
      · rw [Array.getElem?_setIfInBounds_ne (by omega), h5 j e, List.getElem_append_left e]
      · have ej : j = xs.length := by simp at hj; omega
        subst ej
        rw [Array.getElem?_setIfInBounds_self_of_lt (by omega)]
        simp
    · have holds : ∀ j u, (xs.map fun (n : Nat) => Value.int .i64 (n : Int))[j]? = some u → w.cell? ((⟨g, off, none⟩ : Addr).add j) = some u := fun j u hu => by
        have hj : j < xs.length := by have := (List.getElem?_eq_some_iff.1 hu).1; simpa using this
        rw [Addr.add_lit, cell_of_heap h1, h5 j hj]
        rw [List.getElem?_map, List.getElem?_eq_getElem hj] at hu
        simpa using hu
      have hr := run_append_grow (P := Try.prog) w 73 73 3 inf _ Try.u73 hi hz0 ⟨g, off, none⟩ xs.length cap (xs.map fun (n : Nat) => Value.int .i64 (n : Int)) (by rw [hz1]; simp) holds ⟨b, 0, none⟩ 1 1 [.int .i64 (x : Int)] (by rw [hz1]; rfl) hnews (by omega) (by omega) (growslice_fits (by omega) (by rw [hz2]; omega))
      have hge := grownCap_ge w (xs.length + 1) cap 3
      have hcm : grownCap w (xs.length + 1) cap 3 ≤ maxLen := grownCap_le_maxLen w (xs.length + 1) cap 3 (by simp only [maxLen]; omega)
      refine ⟨_, _, hr, .inr ⟨w.heap.size, 0, _, _, by simp, heap_alloc_new w.drew _, ?_, by simpa using hge, hcm, fun j hj => ?_⟩, ((Fr.refl _ _).drew.alloc _), .inr rfl⟩
      · simp only [Array.size_append, List.size_toArray, List.length_map, List.length_cons, List.length_nil, size_zeroCells]
        simp [Value.cells]
        omega
      · rw [Nat.zero_add]
        rw [List.length_append] at hj
        rw [Array.getElem?_append_left (by simp at hj ⊢; omega)]
        by_cases e : j < xs.length
        · rw [Array.getElem?_append_left (by simpa using e), List.getElem_append_left e]
          simp [e]
        · have ej : j = xs.length := by simp at hj; omega
          subst ej
          rw [Array.getElem?_append_right (by simp)]
          simp
end Go.Proofs.Ytgodlfoidjeekaa

namespace Go.Proofs.Ytgodlfoidjeekaa
set_option linter.unusedVariables false
set_option linter.unusedSimpArgs false
open Go.RowKit
set_option linter.unusedVariables false
set_option linter.unusedSimpArgs false

attribute [local go_sem ↓] Go.wp_at_zero Go.wp_at_succ

/-- An act. -/
structure Ac where
  k : Int
  tx : List (Int × List UInt8)
  lsn : Nat
  keep : List Int
  fail : Int
structure Ac.In (a : Ac) : Prop where
  lsn : a.lsn < 18446744073709551616
  tx : a.tx.length ≤ 1048576
  data : ∀ p ∈ a.tx, p.2.length ≤ 1048576
  keep : a.keep.length ≤ 1048576
  fl : -9223372036854775808 ≤ a.fail ∧ a.fail ≤ 9223372036854775807
def RdJ (w : World) (v : Value) (l : List Ac) : Prop := ((∃ ao cap, v = .slice ao 0 cap) ∧ l = []) ∨
  ∃ (B o cap : Nat), v = .slice (some ⟨B, o, none⟩) l.length cap ∧ l.length ≤ cap ∧ cap ≤ maxLen ∧ ∀ j (h : j < l.length), (l[j]).In ∧
    w.cell? ⟨B, o + j * 5, none⟩ = some (.int .i64 (l[j]).k) ∧ (∃ t, w.cell? ⟨B, o + j * 5 + 1, none⟩ = some t ∧ RdP w t (l[j]).tx) ∧ w.cell? ⟨B, o + j * 5 + 2, none⟩ = some (.int .u64 ((l[j]).lsn : Int)) ∧
    (∃ k, w.cell? ⟨B, o + j * 5 + 3, none⟩ = some k ∧ RdV w k ((l[j]).keep.map (Value.int .i64))) ∧ w.cell? ⟨B, o + j * 5 + 4, none⟩ = some (.int .i64 (l[j]).fail)
theorem RdJ.shape {w : World} {v : Value} {l : List Ac} (h : RdJ w v l) : ∃ ao cap, v = .slice ao l.length cap := by
  rcases h with ⟨⟨ao, cap, rfl⟩, rfl⟩ | ⟨B, o, cap, rfl, -⟩
  · exact ⟨_, _, rfl⟩
  · exact ⟨_, _, rfl⟩
theorem rdv_kept {w w' : World} {v : Value} {xs : List Value} (h : RdV w v xs) (f : Fr (fun _ => False) w w') : RdV w' v xs := by
  rcases h with h | ⟨ad, cap, rfl, h1, h2, h3⟩
  · exact .inl h
  · exact .inr ⟨ad, cap, rfl, h1, h2, fun j hj => by
      have := h3 j hj
      rw [f.cell (World.block_lt_of_cell? w _ this) id]
      exact this⟩
/-- One act, in a later world. -/
theorem RdJ.get {w W : World} {v : Value} {l : List Ac} (h : RdJ w v l) {S : Nat → Prop} (f : Fr S w W) (hS : ∀ b, b < w.heap.size → ¬ S b) (j : Nat) (hj : j < l.length) : ∃ B o cap t k, v = .slice (some ⟨B, o, none⟩) l.length cap ∧ l.length ≤ cap ∧ (l[j]).In ∧ B < w.heap.size ∧
    W.cell? ⟨B, o + j * 5, none⟩ = some (.int .i64 (l[j]).k) ∧ W.cell? ⟨B, o + j * 5 + 1, none⟩ = some t ∧ RdP W t (l[j]).tx ∧ W.cell? ⟨B, o + j * 5 + 2, none⟩ = some (.int .u64 ((l[j]).lsn : Int)) ∧
    W.cell? ⟨B, o + j * 5 + 3, none⟩ = some k ∧ RdV W k ((l[j]).keep.map (Value.int .i64)) ∧ W.cell? ⟨B, o + j * 5 + 4, none⟩ = some (.int .i64 (l[j]).fail) := by
  have f0 : Fr (fun _ => False) w W := f.mono (fun k hk e => hS k hk e)
  rcases h with ⟨-, rfl⟩ | ⟨B, o, cap, rfl, h1, h2, h3⟩
  · simp at hj
  · obtain ⟨hin, c0, ⟨t, c1, rt⟩, c2, ⟨k, c3, rk⟩, c4⟩ := h3 j hj
    have hB : B < w.heap.size := World.block_lt_of_cell? w _ c0
    exact ⟨B, o, cap, t, k, rfl, h1, hin, hB, by rw [f0.cell hB id]; exact c0, by rw [f0.cell hB id]; exact c1, rdp_kept rt f0, by rw [f0.cell hB id]; exact c2, by rw [f0.cell hB id]; exact c3, rdv_kept rk f0, by rw [f0.cell hB id]; exact c4⟩
/-- Puts and places in the first i acts; their bytes. -/
def lgN (l : List Ac) (i : Nat) : Nat := ((l.take i).map fun a => a.keep.length + a.tx.length).sum
def lgY (l : List Ac) (i : Nat) : Nat := ((l.take i).map fun a => hvN a.tx (min a.tx.length 100)).sum
def lgB (l : List Ac) : Bool := decide (30 < l.length) || decide (300 < lgN l (min l.length 31)) || decide (60000 < lgY l (min l.length 31))
theorem lgN_succ (l : List Ac) (i : Nat) (h : i < l.length) : lgN l (i + 1) = lgN l i + (l[i]).keep.length + (l[i]).tx.length := by
  unfold lgN
  rw [List.take_succ_eq_append_getElem h, List.map_append, List.sum_append]
  simp
  omega
theorem lgY_succ (l : List Ac) (i : Nat) (h : i < l.length) : lgY l (i + 1) = lgY l i + hvN (l[i]).tx (min (l[i]).tx.length 100) := by
  unfold lgY
  rw [List.take_succ_eq_append_getElem h, List.map_append, List.sum_append]
  simp
theorem sum_le {c : Nat} (l : List Nat) (h : ∀ x ∈ l, x ≤ c) : l.sum ≤ l.length * c := by
  induction l with
  | nil => simp
  | cons a r ih =>
    have h1 := ih (fun x hx => h x (by simp [hx]))
    have h2 := h a (by simp)
    rw [List.sum_cons, List.length_cons, Nat.add_mul, Nat.one_mul]
    omega
theorem hvN_le {ps : List (Int × List UInt8)} (h : ∀ p ∈ ps, p.2.length ≤ 1048576) (i : Nat) : hvN ps i ≤ i * 1048576 := by
  unfold hvN
  refine Nat.le_trans (sum_le (c := 1048576) _ (fun x hx => ?_)) (Nat.mul_le_mul_right _ (by simp; omega))
  obtain ⟨p, hp, rfl⟩ := List.mem_map.1 hx
  exact h p (List.mem_of_mem_take hp)
theorem lgN_le {l : List Ac} (h : ∀ a ∈ l, a.In) (i : Nat) : lgN l i ≤ i * 2097152 := by
  unfold lgN
  refine Nat.le_trans (sum_le (c := 2097152) _ (fun x hx => ?_)) (Nat.mul_le_mul_right _ (by simp; omega))
  obtain ⟨a, ha, rfl⟩ := List.mem_map.1 hx
  have := h a (List.mem_of_mem_take ha)
  have := this.tx
  have := (h a (List.mem_of_mem_take ha)).keep
  omega
theorem lgY_le {l : List Ac} (h : ∀ a ∈ l, a.In) (i : Nat) : lgY l i ≤ i * 104857600 := by
  unfold lgY
  refine Nat.le_trans (sum_le (c := 104857600) _ (fun x hx => ?_)) (Nat.mul_le_mul_right _ (by simp; omega))
  obtain ⟨a, ha, rfl⟩ := List.mem_map.1 hx
  have := hvN_le (h a (List.mem_of_mem_take ha)).data (min a.tx.length 100)
  have : min a.tx.length 100 * 1048576 ≤ 100 * 1048576 := Nat.mul_le_mul_right _ (by omega)
  omega
theorem RdJ.in {w : World} {v : Value} {l : List Ac} (h : RdJ w v l) : ∀ a ∈ l, a.In := by
  intro a ha
  obtain ⟨j, hj, rfl⟩ := List.getElem_of_mem ha
  rcases h with ⟨-, rfl⟩ | ⟨B, o, cap, rfl, h1, h2, h3⟩
  · simp at hj
  · exact (h3 j hj).1
end Go.Proofs.Ytgodlfoidjeekaa

namespace Go.Proofs.Ytgodlfoidjeekaa
set_option linter.unusedVariables false
set_option linter.unusedSimpArgs false
open Go.RowKit
set_option linter.unusedVariables false
set_option linter.unusedSimpArgs false

attribute [local go_sem ↓] Go.wp_at_zero Go.wp_at_succ

set_option maxRecDepth 100000 in
set_option maxHeartbeats 8000000 in
theorem long_any (w : World) (v : Value) (l : List Ac) (h : RdJ w v l) (hl : l.length ≤ 1048576) :
    Calls Try.prog 29 #[v] w fun e w' => e = .returned (.bool (lgB l)) ∧ Fr (fun _ => False) w w' := by
  have HH := hide h
  have HIN := hide h.in
  obtain ⟨ao, cap, rfl⟩ := h.shape
  clear h
  go_enter Try.func29, Try.ntmps29
  go_wp2_with fail
  go_loopw [3, 4, 5, 6] (fun x y u t W => ∃ i : Nat, i ≤ l.length ∧ i ≤ 31 ∧ x = .int .i64 (lgN l i : Int) ∧ y = .int .i64 (lgY l i : Int) ∧ u = .int .i64 (i : Int) ∧ Fr (fun _ => False) w W) (fun _ _ u _ _ => 31 - (intOf u).toNat)
  case atStart => exact ⟨0, Nat.zero_le _, by omega, by simp [lgN], by simp [lgY], rfl, Fr.refl _ _⟩
  case round =>
    obtain ⟨i, hi, hi31, rfl, rfl, rfl, hF⟩ := hrel
    have HF := hide hF
    have hn := lgN_le (unhide HIN) i
    have hy := lgY_le (unhide HIN) i
    by_cases hlt : i < l.length
    · by_cases h30 : i ≤ 30
      · have hn1 := lgN_succ l i hlt
        have hy1 := lgY_succ l i hlt
        have hn2 := lgN_le (unhide HIN) (i + 1)
        have hy2 := lgY_le (unhide HIN) (i + 1)
        obtain ⟨B, o, cap', tv, kv, y1, q1, hin, hB, c0, c1, rt, c2, c3, rk, c4⟩ := (unhide HH).get hF (fun _ _ e => e) i hlt
        simp at y1
        obtain ⟨rfl, rfl⟩ := y1
        obtain ⟨xo, xc, rfl⟩ := rt.shape
        obtain ⟨ko, kc, rfl⟩ := rk.shape
        rw [List.length_map] at c3
        have RT := hide rt
        have HIN1 := hide hin
        have q0 : (i : Int) < (l.length : Int) := by omega
        have q2 : (i : Int) ≤ 30 := by omega
        have C1 := hide c1
        have t1 := hin.tx
        have t2 := hin.keep
        have hw1 : IntKind.i64.wrap ((lgN l i : Int) + ((l[i]).keep.length : Int)) = ((lgN l i + (l[i]).keep.length : Nat) : Int) := by
          have := wrapI (lgN l i + (l[i]).keep.length) (by omega); exact_mod_cast this
        have hw2 : IntKind.i64.wrap (((lgN l i + (l[i]).keep.length : Nat) : Int) + ((l[i]).tx.length : Int)) = ((lgN l (i + 1) : Nat) : Int) := by
          rw [hn1]
          have := wrapI (lgN l i + (l[i]).keep.length + (l[i]).tx.length) (by omega); exact_mod_cast this
        have HY1 := hide hy1
        have HY2 := hide hy2
        obtain ⟨N1, hN1⟩ : ∃ N, N = lgN l (i + 1) := ⟨_, rfl⟩
        obtain ⟨a, ha⟩ : ∃ a, a = l[i] := ⟨_, rfl⟩
        rw [← ha] at c1 c3 C1 RT HIN1 t1 t2 hw1 hw2 HY1 hn1
        rw [← hN1] at hw2
        obtain ⟨tx, htx⟩ : ∃ t, t = a.tx := ⟨_, rfl⟩
        have HD := hide (unhide HIN1).data
        rw [← htx] at c1 C1 RT t1 hw2 HY1 HD hn1
        have HTX := hide htx
        obtain ⟨kl, hkl⟩ : ∃ k, k = a.keep.length := ⟨_, rfl⟩
        rw [← hkl] at c3 hw1 hw2 t2 hn1
        obtain ⟨n0, hn0⟩ : ∃ n, n = lgN l i := ⟨_, rfl⟩
        obtain ⟨y0, hy0⟩ : ∃ n, n = lgY l i := ⟨_, rfl⟩
        rw [← hn0] at hw1 hw2 ⊢
        rw [← hy0] at HY1 hy ⊢
        have HNN := hide hN1
        have hw9 : wrap64 ((n0 : Int) + (kl : Int) + (tx.length : Int)) = (N1 : Int) := by
          rw [show ((n0 : Int) + (kl : Int) + (tx.length : Int)) = (N1 : Int) by omega]
          unfold wrap64
          omega
        have HW9 := hide hw9
        clear hw9
        clear c0 c2 c4 rt rk hin hi hn hn0 hy0 hn1 hy1 hn2 hy2 ha htx hkl hF hN1 HIN1
        go_wp2_with fail
        go_quiet (fail)
        go_wp2_with fail
        have hmin : min tx.length 100 ≤ 100 := Nat.min_le_right _ _
        generalize wr = wa at *
        go_loopw [4, 6] (fun y z W => ∃ k : Nat, k ≤ min tx.length 100 ∧ y = .int .i64 ((y0 + hvN tx k : Nat) : Int) ∧ z = .int .i64 (k : Int) ∧ Fr (fun _ => False) wa W) (fun _ z _ => 100 - (intOf z).toNat)
        case atStart => exact ⟨0, by omega, by simp [hvN], rfl, Fr.ofDrewN _ _⟩
        case round =>
          obtain ⟨k, hk, rfl, rfl, hf2⟩ := hrel
          have F2 := hide hf2
          have c1' := (hf2.cell (World.block_lt_of_cell? wa _ c1) id).trans c1
          have hvk := hvN_le (unhide HD) k
          by_cases hk1 : k < tx.length
          · by_cases hk2 : k < 100
            · obtain ⟨B2, o2, cap2, x2, y2, q2', e0, e1, r2⟩ := RdP.get (unhide RT) hf2 k hk1
              simp at y2
              obtain ⟨rfl, rfl⟩ := y2
              obtain ⟨po, pc, rfl⟩ := r2.shape
              have hs := hvN_succ tx k hk1
              have hvk1 := hvN_le (unhide HD) (k + 1)
              have hw3 : IntKind.i64.wrap (((y0 + hvN tx k : Nat) : Int) + ((tx[k]).2.length : Int)) = ((y0 + hvN tx (k + 1) : Nat) : Int) := by
                rw [hs]
                have := wrapI (y0 + hvN tx k + (tx[k]).2.length) (by omega)
                rw [← Nat.add_assoc]
                exact_mod_cast this
              obtain ⟨z1, hz1⟩ : ∃ z, z = y0 + hvN tx (k + 1) := ⟨_, rfl⟩
              obtain ⟨z0, hz0⟩ : ∃ z, z = y0 + hvN tx k := ⟨_, rfl⟩
              rw [← hz1, ← hz0] at hw3
              rw [← hz0]
              have HZ1 := hide hz1
              have q3 : (k : Int) < (tx.length : Int) := by omega
              have q4 : (k : Int) < 100 := by omega
              generalize (tx[k]).2.length = dl at *
              clear hf2 r2 e0 hs hvk hvk1 hz0 hz1
              go_wp2_with fail
              go_roundw
              case rel => exact ⟨k + 1, by omega, by rw [unhide HZ1], by go_num, unhide F2⟩
              case measure => simp [intOf]; omega
            · have q3 : (k : Int) < (tx.length : Int) := by omega
              have q4 : ¬ (k : Int) < 100 := by omega
              have hkm : k = min tx.length 100 := by omega
              have HKM := hide hkm
              clear hf2 hvk hkm
              go_wp2_with fail
              go_roundw
              case rel => exact ⟨i + 1, by omega, by omega, by rw [← unhide HNN, ← unhide HW9], by rw [unhide HY1, ← unhide HKM], by go_num, (unhide HF).trans (unhide F2) (fun _ _ e => e)⟩
              case measure => simp [intOf]; omega
          · have q3 : ¬ (k : Int) < (tx.length : Int) := by omega
            have hkm : k = min tx.length 100 := by omega
            have HKM := hide hkm
            clear hf2 hvk hkm
            go_wp2_with fail
            go_roundw
            case rel => exact ⟨i + 1, by omega, by omega, by rw [← unhide HNN, ← unhide HW9], by rw [unhide HY1, ← unhide HKM], by go_num, (unhide HF).trans (unhide F2) (fun _ _ e => e)⟩
            case measure => simp [intOf]; omega
      · have h31 : i = 31 := by omega
        subst h31
        have q0 : (31 : Int) < (l.length : Int) := by omega
        have q1 : (30 : Int) < (l.length : Int) := by omega
        have e9 : lgB l = true := by unfold lgB; rw [decide_eq_true (show 30 < l.length by omega)]; simp
        have HE9 := hide e9
        clear hF hn hy e9
        generalize lgN l 31 = n0 at *
        generalize lgY l 31 = y0 at *
        go_wp2_with fail
        go_ret
        rw [unhide HE9]
        exact ⟨rfl, unhide HF⟩
    · have q0 : ¬ (i : Int) < (l.length : Int) := by omega
      have hin : i = l.length := by omega
      have hm : min l.length 31 = i := by omega
      have e9 : lgB l = (decide (30 < l.length) || decide (300 < lgN l i) || decide (60000 < lgY l i)) := by unfold lgB; rw [hm]
      obtain ⟨n0, hn0⟩ : ∃ n, n = lgN l i := ⟨_, rfl⟩
      obtain ⟨y0, hy0⟩ : ∃ n, n = lgY l i := ⟨_, rfl⟩
      rw [← hn0, ← hy0] at e9 ⊢
      have HE9 := hide e9
      clear hF hn hy e9 hm hn0 hy0
      by_cases g1 : 30 < l.length
      · have q1 : (30 : Int) < (l.length : Int) := by omega
        go_wp2_with fail
        go_ret
        rw [unhide HE9, decide_eq_true g1]
        exact ⟨by simp, unhide HF⟩
      have q1 : ¬ (30 : Int) < (l.length : Int) := by omega
      by_cases g2 : 300 < n0
      · have q2 : (300 : Int) < (n0 : Int) := by omega
        go_wp2_with fail
        go_ret
        rw [unhide HE9, decide_eq_true g2]
        exact ⟨by simp, unhide HF⟩
      have q2 : ¬ (300 : Int) < (n0 : Int) := by omega
      by_cases g3 : 60000 < y0
      · have q3 : (60000 : Int) < (y0 : Int) := by omega
        go_wp2_with fail
        go_ret
        rw [unhide HE9, decide_eq_true g3]
        exact ⟨by simp, unhide HF⟩
      have q3 : ¬ (60000 : Int) < (y0 : Int) := by omega
      go_wp2_with fail
      go_ret
      rw [unhide HE9, decide_eq_false g1, decide_eq_false g2, decide_eq_false g3]
      exact ⟨by simp, unhide HF⟩
end Go.Proofs.Ytgodlfoidjeekaa

namespace Go.Proofs.Ytgodlfoidjeekaa
set_option linter.unusedVariables false
set_option linter.unusedSimpArgs false
open Go.RowKit
set_option linter.unusedVariables false
set_option linter.unusedSimpArgs false

/-- How many entries each transaction has. -/
def ents : Nat → List Nat → List Mk → Prop
  | _, [], [] => True
  | p, x :: xs, m :: r => m.e = p + x ∧ ents (p + x) xs r
  | _, _, _ => False
theorem ents_len : ∀ (xs : List Nat) (L : List Mk) (p : Nat), ents p xs L → xs.length = L.length := by
  intro xs
  induction xs with
  | nil => intro L p h; cases L with | nil => rfl | cons a r => exact h.elim
  | cons x xs ih => intro L p h; cases L with | nil => exact h.elim | cons a r => simp only [List.length_cons]; rw [ih r _ h.2]
theorem ents_more : ∀ (xs : List Nat) (L : List Mk) (p x : Nat) (m : Mk), ents p xs L → m.e = p + xs.sum + x → ents p (xs ++ [x]) (L ++ [m]) := by
  intro xs
  induction xs with
  | nil =>
    intro L p x m h e
    cases L with
    | nil => exact ⟨by simpa using e, trivial⟩
    | cons a r => exact h.elim
  | cons y xs ih =>
    intro L p x m h e
    cases L with
    | nil => exact h.elim
    | cons a r => exact ⟨h.1, ih r (p + y) x m h.2 (by rw [e, List.sum_cons]; omega)⟩
theorem ents_drop : ∀ (k : Nat) (xs : List Nat) (L : List Mk) (p : Nat), ents p xs L → ∀ (h : k < L.length), ents (L[k]).e (xs.drop (k + 1)) (L.drop (k + 1)) ∧ (L[k]).e = p + (xs.take (k + 1)).sum := by
  intro k
  induction k with
  | zero =>
    intro xs L p h hk
    cases L with
    | nil => simp at hk
    | cons a r =>
      cases xs with
      | nil => exact h.elim
      | cons x xs => exact ⟨by rw [show (a :: r)[0].e = p + x from h.1]; exact h.2, by simpa using h.1⟩
  | succ k ih =>
    intro xs L p h hk
    cases L with
    | nil => simp at hk
    | cons a r =>
      cases xs with
      | nil => exact h.elim
      | cons x xs =>
        obtain ⟨h1, h2⟩ := ih xs r (p + x) h.2 (by simpa using hk)
        exact ⟨by simpa using h1, by simp at h2 ⊢; omega⟩
theorem ents_last : ∀ (xs : List Nat) (L : List Mk) (p : Nat), ents p xs L → (L.getLast?.map Mk.e).getD p = p + xs.sum := by
  intro xs
  induction xs with
  | nil => intro L p h; cases L with | nil => simp | cons a r => exact h.elim
  | cons x xs ih =>
    intro L p h
    cases L with
    | nil => exact h.elim
    | cons a r =>
      have := ih r (p + x) h.2
      cases r with
      | nil =>
        have hx : xs = [] := List.eq_nil_of_length_eq_zero (ents_len xs [] _ h.2)
        subst hx
        simpa using h.1
      | cons c r =>
        rw [List.getLast?_cons_cons]
        cases e : (c :: r).getLast? with
        | none => simp at e
        | some m => rw [e] at this; simp at this ⊢; omega
structure Rm (c i : Nat) (J : Jn) (D : Dv) (xs : List Nat) : Prop where
  ring : J.ring = c - 2
  fail : D.fail = -1
  q : D.Q.length ≤ 200 * i
  g : J.sup.g ≤ 3 + i
  b : J.sup.b = 2
  nd : J.nd ≤ 100 * i
  lst : J.lst ≤ i
  ser : J.serial ≤ i
  syn : J.synced ≤ J.lst
  pos : ents J.sup.p xs J.live
theorem Rm.mono {c i : Nat} {J : Jn} {D : Dv} {xs : List Nat} (h : Rm c i J D xs) : Rm c (i + 1) J D xs :=
  ⟨h.ring, h.fail, by have := h.q; omega, by have := h.g; omega, h.b, by have := h.nd; omega, by have := h.lst; omega, by have := h.ser; omega, h.syn, h.pos⟩
theorem Rm.at {c i : Nat} {J : Jn} {D : Dv} {xs : List Nat} (h : Rm c i J D xs) : J.nd = J.sup.p + xs.sum ∧ xs.length = J.live.length := by
  refine ⟨?_, ents_len _ _ _ h.pos⟩
  have := ents_last xs J.live _ h.pos
  rw [← this]
  unfold Jn.nd Jn.last
  cases J.live.getLast? <;> rfl
theorem Rm.room {c i : Nat} {J : Jn} {D : Dv} {xs : List Nat} {n : Nat} (h : Rm c i J D xs) (ok : J.Ok n) : J.room = c - 2 - xs.sum ∧ xs.sum ≤ c - 2 := by
  have h1 := h.at.1
  have h2 := ok.full
  have h3 := h.ring
  unfold Jn.room
  omega
theorem wr_neg {D : Dv} (h : D.fail = -1) (x : Nat) (l : List UInt8) : wrE D = 0 ∧ (wrD D x l).fail = -1 := by
  unfold wrE wrD
  rw [if_neg (by omega), if_neg (by omega), if_neg (by omega)]
  exact ⟨rfl, h⟩
theorem fl_fail (D : Dv) : (flD D).fail = D.fail := rfl
theorem nP_le {n : Nat} (h : n ≤ 24836) : nP n ≤ 100 := by unfold nP; omega
theorem we_ok (J : Jn) (D : Dv) (lsn parts : Nat) (p : List UInt8) (hf : D.fail = -1) (hb : J.sup.b = 2) (hs : 0 < J.serial ∧ J.serial ≤ 1000) (hl : 0 < lsn ∧ lsn ≤ 1000) (hn : J.nd ≤ 1000000) (hp : parts = nP p.length) (hp2 : parts ≤ 100) : ∀ m, m ≤ parts → (weI J D lsn parts p (List.range m)).2 = 0 ∧ (weI J D lsn parts p (List.range m)).1.fail = -1 := by
  intro m
  induction m with
  | zero => intro _; exact ⟨rfl, hf⟩
  | succ m ih =>
    intro hm
    obtain ⟨i1, i2⟩ := ih (by omega)
    rw [List.range_succ, weI_snoc, List.length_range]
    have hlen : (pieceL p m).length = min 336 (p.length - 336 * m) := by unfold pieceL; rw [List.length_take, List.length_drop]
    have h336 : 336 * m < p.length := by unfold nP at hp; omega
    have hc : weC J lsn parts m (pieceL p m) = true := by
      unfold weC cbB wiB
      simp only [List.all_cons, List.all_nil, Bool.and_eq_true, decide_eq_true_eq]
      rw [hb, hlen]
      refine ⟨⟨⟨⟨⟨⟨⟨⟨⟨by omega, by omega⟩, by omega⟩, by omega, by omega, by omega, by omega, trivial⟩, by omega⟩, by omega⟩, by omega⟩, by omega⟩, by omega⟩, by omega⟩
    unfold weS
    rw [if_pos i1, if_pos hc]
    exact wr_neg i2 _ _
theorem Rm.append {c i : Nat} {J : Jn} {D : Dv} {xs : List Nat} {n : Nat} {ps : List (Int × List UInt8)} (h : Rm c i J D xs) (ok : J.Ok n) (hi : i ≤ 40) (hb : ptB ps = true) (hr : apN ps ≤ J.room) :
    (apE J D ps).2 = 0 ∧ Rm c (i + 1) (apJ J D ps) (apD J D ps) (xs ++ [apN ps]) := by
  obtain ⟨-, n1, n2⟩ := need_apN hb
  have hat := h.at.1
  have hB : apB J ps = true := by
    unfold apB wiB
    simp only [List.all_cons, List.all_nil, Bool.and_eq_true, decide_eq_true_eq]
    have := h.lst
    have := h.ser
    have := h.nd
    exact ⟨hr, by omega, by omega, by omega, trivial⟩
  have hW := we_ok J.up D (J.lst + 1) (apN ps) (ptL ps) h.fail h.b ⟨by show 0 < J.serial + 1; omega, by have := h.ser; show J.serial + 1 ≤ _; omega⟩ ⟨by omega, by have := h.lst; omega⟩ (by have := h.nd; show J.nd ≤ _; omega) rfl n2 (apN ps) (Nat.le_refl _)
  have hW2 : (apW J D ps).2 = 0 ∧ (apW J D ps).1.fail = -1 := hW
  have hl := weI_len J.up D (J.lst + 1) (apN ps) (ptL ps) (List.range (nP (ptL ps).length))
  have hq : (apW J D ps).1.Q.length ≤ D.Q.length + apN ps := by
    have := hl.2
    rw [List.length_range] at this
    exact this
  have hroom := h.room ok
  have h2 := ok.full
  unfold Jn.room at hr
  refine ⟨by unfold apE; rw [if_pos hb, if_pos hB, if_pos hW2.1], ?_⟩
  have e1 : apJ J D ps = J.up.more ⟨J.nd + apN ps, J.sup.b, J.serial + 1⟩ := by unfold apJ; rw [if_pos hb, if_pos hB, if_pos hW2.1]
  have e2 : apD J D ps = (apW J D ps).1 := by unfold apD; rw [if_pos hb, if_pos hB]
  rw [e1, e2]
  refine ⟨h.ring, hW2.2, by have := h.q; omega, by have := h.g; show J.sup.g ≤ _; omega, h.b, ?_, ?_, by have := h.ser; show J.serial + 1 ≤ _; omega, ?_, ?_⟩
  · unfold Jn.nd
    rw [last_more]
    have := h.nd
    show J.nd + apN ps ≤ _
    omega
  · have := h.lst
    unfold Jn.lst at this ⊢
    show J.sup.l + (J.live ++ [_]).length ≤ _
    simp
    omega
  · have := h.syn
    unfold Jn.lst at this ⊢
    show J.synced ≤ J.sup.l + (J.live ++ [_]).length
    simp
    omega
  · exact ents_more xs J.live _ _ _ h.pos (by show J.nd + apN ps = J.sup.p + xs.sum + apN ps; omega)
theorem ap_no {J : Jn} {D : Dv} {ps : List (Int × List UInt8)} (h : ¬ (ptB ps = true ∧ apN ps ≤ J.room)) : (apE J D ps).2 ≠ 0 ∧ apJ J D ps = J ∧ apD J D ps = D := by
  unfold apE apJ apD
  by_cases hb : ptB ps = true
  · have hB : ¬ apB J ps = true := fun e => h ⟨hb, by unfold apB at e; simp only [Bool.and_eq_true, decide_eq_true_eq] at e; exact e.1⟩
    rw [if_pos hb, if_pos hb, if_pos hb, if_neg hB, if_neg hB, if_neg hB]
    exact ⟨by decide, rfl, rfl⟩
  · rw [if_neg hb, if_neg hb, if_neg hb]
    exact ⟨by decide, rfl, rfl⟩
theorem Rm.sync {c i : Nat} {J : Jn} {D : Dv} {xs : List Nat} (h : Rm c i J D xs) : Rm c (i + 1) J.syn (flD D) xs :=
  ⟨h.ring, h.fail, by show 0 ≤ _; omega, by have := h.g; show J.sup.g ≤ _; omega, h.b, by have := h.nd; show J.nd ≤ _; omega, by have := h.lst; show J.lst ≤ _; omega, by have := h.ser; show J.serial ≤ _; omega, Nat.le_refl _, h.pos⟩
theorem ws_neg {J : Jn} {D : Dv} {u : Su} (h : D.fail = -1) : (wsD J D u).fail = -1 := by
  unfold wsD
  split
  · exact (wr_neg h _ _).2
  · exact h
theorem st_neg {J : Jn} {D : Dv} {u : Su} (h : D.fail = -1) : (stD J D u).fail = -1 := by
  unfold stD
  split
  · exact ws_neg h
  · exact ws_neg h
theorem stD_Q (J : Jn) (D : Dv) (u : Su) : (stD J D u).Q.length ≤ D.Q.length + 1 := by
  unfold stD
  split
  · show 0 ≤ _; omega
  · exact wsD_Q _ _ _
/-- Behind Trim: so many of the transactions are gone. -/
theorem Rm.trim {c i k : Nat} {J : Jn} {D : Dv} {xs : List Nat} {n : Nat} (h : Rm c i J D xs) (ok : J.Ok n) (hi : i ≤ 40) :
    (tmE J D k = 0 → k - J.sup.l ≤ xs.length ∧ J.sup.l ≤ k ∧ Rm c (i + 1) (tmJ J D k) (tmD J D k) (xs.drop (k - J.sup.l))) ∧ (tmE J D k ≠ 0 → Rm c (i + 1) (tmJ J D k) (tmD J D k) xs) := by
  have hlen := h.at.2
  by_cases h1 : J.synced < k ∨ k < J.sup.l
  · have e1 : tmE J D k = 2 := by unfold tmE; rw [if_pos h1]
    have e2 : tmJ J D k = J := by unfold tmJ; rw [if_pos h1]
    have e3 : tmD J D k = D := by unfold tmD; rw [if_pos h1]
    rw [e1, e2, e3]
    exact ⟨fun e => absurd e (by decide), fun _ => h.mono⟩
  · by_cases h2 : k = J.sup.l
    · have e1 : tmE J D k = 0 := by unfold tmE; rw [if_neg h1, if_pos h2]
      have e2 : tmJ J D k = J := by unfold tmJ; rw [if_neg h1, if_pos h2]
      have e3 : tmD J D k = D := by unfold tmD; rw [if_neg h1, if_pos h2]
      rw [e1, e2, e3, h2]
      exact ⟨fun _ => ⟨by omega, Nat.le_refl _, by rw [Nat.sub_self]; exact h.mono⟩, fun e => absurd rfl e⟩
    · have e1 : tmE J D k = if tmB J k = true then wsE D (tmU J k) else 5 := by unfold tmE; rw [if_neg h1, if_neg h2]
      have e2 : tmJ J D k = if tmB J k = true then (if wsE D (tmU J k) = 0 then tmF J k else tmG J) else J := by unfold tmJ; rw [if_neg h1, if_neg h2]
      have e3 : tmD J D k = if tmB J k = true then stD (tmG J) D (tmU J k) else D := by unfold tmD; rw [if_neg h1, if_neg h2]
      rw [e1, e2, e3]
      by_cases hB : tmB J k = true
      case neg =>
        rw [if_neg hB, if_neg hB, if_neg hB]
        exact ⟨fun e => absurd e (by decide), fun _ => h.mono⟩
      rw [if_pos hB, if_pos hB, if_pos hB]
      have hq := stD_Q (tmG J) D (tmU J k)
      have hf := st_neg (J := tmG J) (u := tmU J k) h.fail
      by_cases hE : wsE D (tmU J k) = 0
      case neg =>
        rw [if_neg hE]
        exact ⟨fun e => absurd e hE, fun _ => ⟨h.ring, hf, by have := h.q; omega, by have := h.g; show J.sup.g + 1 ≤ _; omega, h.b, by have := h.nd; show J.nd ≤ _; omega, by have := h.lst; show J.lst ≤ _; omega, by have := h.ser; show J.serial ≤ _; omega, h.syn, h.pos⟩⟩
      rw [if_pos hE]
      refine ⟨fun _ => ?_, fun e => absurd hE e⟩
      have hub : Su.B (tmU J k) = true := by
        unfold wsE at hE
        by_cases hb : Su.B (tmU J k) = true
        · exact hb
        · rw [if_neg hb] at hE; omega
      have huo : (tmU J k).Ok := sb_of hub
      have hsy := h.syn
      have hkl : k ≤ J.lst := by omega
      obtain ⟨-, t2, t3, -⟩ := tmF_ok ok (show J.sup.l < k by omega) hkl huo
      unfold Jn.lst at hkl
      obtain ⟨q, hq2⟩ : ∃ q, k - J.sup.l = q + 1 := ⟨k - J.sup.l - 1, by omega⟩
      have hql : q < J.live.length := by omega
      have hm : (tmU J k).p = (J.live[q]).e := by
        show (tmM J k).e = _
        unfold tmM
        rw [hq2, Nat.add_sub_cancel, List.getElem?_eq_getElem hql]
        rfl
      obtain ⟨d1, d2⟩ := ents_drop q xs J.live _ h.pos hql
      refine ⟨by omega, by omega, h.ring, hf, by have := h.q; omega, by have := h.g; show J.sup.g + 1 ≤ _; omega, h.b, by rw [t2]; have := h.nd; omega, by rw [t3]; have := h.lst; omega, by have := h.ser; show J.serial ≤ _; omega, ?_, ?_⟩
      · rw [t3]
        exact Nat.le_refl _
      · show ents (tmU J k).p _ (J.live.drop (k - J.sup.l))
        rw [hm, hq2]
        exact d1
set_option maxRecDepth 1000000 in
theorem bg_all : ∀ c, c < 41 → 6 ≤ c → (fmtR (newS c) 0 c).2 = 0 ∧ opE (fmtR (newS c) 0 c).1 0 c = 0 ∧ (opJ (fmtR (newS c) 0 c).1 0 c).ring = c - 2 ∧ (opJ (fmtR (newS c) 0 c).1 0 c).sup.g = 3 ∧ (opJ (fmtR (newS c) 0 c).1 0 c).sup.b = 2 ∧ (opJ (fmtR (newS c) 0 c).1 0 c).sup.p = 0 ∧ (opJ (fmtR (newS c) 0 c).1 0 c).sup.l = 0 ∧ (opJ (fmtR (newS c) 0 c).1 0 c).live.length = 0 ∧ (opJ (fmtR (newS c) 0 c).1 0 c).serial = 0 ∧ (opJ (fmtR (newS c) 0 c).1 0 c).synced = 0 ∧ (opD (fmtR (newS c) 0 c).1 0 c).fail = -1 ∧ (opD (fmtR (newS c) 0 c).1 0 c).Q.length = 0 ∧ (fmtR (newS c) 0 c).1.S.length = c ∧ (fmtR (newS c) 0 c).1.Q.length = 0 := by decide +kernel
end Go.Proofs.Ytgodlfoidjeekaa
