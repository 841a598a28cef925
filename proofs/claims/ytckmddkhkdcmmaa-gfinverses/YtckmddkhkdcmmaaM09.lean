/-
  A rule for a region that draws its order, whose operations only read, but for the last, which waits for all the others: the others are walked once, in the order of the text, and then the last.
  The document's clearing of a matrix, plainly; its At.
  Polynomials over the field, plainly: values, uniqueness, Newton's form.
-/
import Derived.Test.YtckmddkhkdcmmaaM07
import Derived.BigQuiet
import Derived.Orders
import Derived.KernelRfl
import Derived.Test.YtckmddkhkdcmmaaM05
import Derived.Test.YtckmddkhkdcmmaaM08
import Derived.Test.YtckmddkhkdcmmaaM01
namespace Go.Proofs.Ytckmddkhkdcmmaa
set_option linter.unusedVariables false
set_option linter.unusedSimpArgs false
open Go.RowKit
set_option linter.unusedVariables false
set_option linter.unusedSimpArgs false

def waitsB (o : Oper) (j : Nat) : Bool := o.after.any fun e => Region.binds .any e && e.on == j

section
variable {P : Program} {C : World → Prop}

theorem app_get {l zs : List Oper} {i : Nat} (h : i < l.length) : (l ++ zs).toArray[i]? = l.toArray[i]? := by
  simp [List.getElem?_append, h]

theorem listed_app {listed : Array Bool} {m i : Nat} (d : Bool) (h : i < listed.size) : (listed ++ Array.replicate m false).getD i d = listed.getD i d := by
  simp only [Array.getD_eq_getD_getElem?]
  rw [Array.getElem?_append_left h]

/-- What has come up has all that it waits for ahead of it. -/
def Closed (l : List Oper) (listed : Array Bool) : Prop := ∀ i o, l[i]? = some o → listed.getD i false = true → ∀ e ∈ o.after, Region.binds .any e = true → listed.getD e.on false = true

theorem Closed.set {l : List Oper} {listed : Array Bool} (h : Closed l listed) {i : Nat} (hi : i ∈ Region.ready .any l.toArray listed) : Closed l (listed.setIfInBounds i true) := by
  obtain ⟨g1, o, ho, g2⟩ := mem_ready.1 hi
  have hmono : ∀ k, listed.getD k false = true → (listed.setIfInBounds i true).getD k false = true := fun k hk => by
    by_cases e : i = k
    · subst e
      have hlt : i < listed.size := by
        rcases Nat.lt_or_ge i listed.size with h' | h'
        · exact h'
        · simp [Array.getElem?_eq_none h'] at hk
      simp [hlt]
    · rw [getD_set_ne false e]; exact hk
  intro k ok hok hk e he hb
  by_cases eq : i = k
  · subst eq
    have : ok = o := by rw [show l[i]? = some o by simpa using ho] at hok; simpa using hok.symm
    subst this
    exact hmono _ (g2 e he hb)
  · rw [getD_set_ne false eq] at hk
    exact hmono _ (h k ok hok hk e he hb)

/-- Does operation i wait for operation j, itself or through others? -/
def needsB (l : List Oper) : Nat → Nat → Nat → Bool
  | 0, _, _ => false
  | f + 1, i, j => match l[i]? with
    | some o => waitsB o j || o.after.any fun e => Region.binds .any e && needsB l f e.on j
    | none => false

theorem waitsB_get {o : Oper} {j : Nat} (h : waitsB o j = true) : ∃ e ∈ o.after, Region.binds .any e = true ∧ e.on = j := by
  unfold waitsB at h
  rw [← Array.any_toList, List.any_eq_true] at h
  obtain ⟨e, he', hb⟩ := h
  simp only [Bool.and_eq_true, beq_iff_eq] at hb
  exact ⟨e, by simpa using he', hb.1, hb.2⟩

theorem needsB_get {l : List Oper} {listed : Array Bool} (hC : Closed l listed) : ∀ (f i j : Nat) (o : Oper), l[i]? = some o → (∀ e ∈ o.after, Region.binds .any e = true → listed.getD e.on false = true) → needsB l f i j = true → listed.getD j false = true := by
  intro f
  induction f with
  | zero => intro i j o _ _ h; simp [needsB] at h
  | succ f ih =>
    intro i j o ho hd h
    unfold needsB at h
    rw [ho] at h
    simp only [Bool.or_eq_true] at h
    rcases h with h | h
    · obtain ⟨e, he, hb, rfl⟩ := waitsB_get h
      exact hd e he hb
    · rw [← Array.any_toList, List.any_eq_true] at h
      obtain ⟨e, he', hb⟩ := h
      simp only [Bool.and_eq_true] at hb
      have he : e ∈ o.after := by simpa using he'
      have hl := hd e he hb.1
      have h2 := hb.2
      cases hoe : l[e.on]? with
      | none =>
        cases f with
        | zero => simp [needsB] at h2
        | succ f => unfold needsB at h2; rw [hoe] at h2; simp at h2
      | some o2 => exact ih e.on j o2 hoe (fun e2 he2 hb2 => hC e.on o2 hoe hl e2 he2 hb2) h2

/-- The operation at k waits for all ahead of it, and each behind it for the one ahead of it. -/
def seqB (l : List Oper) (k : Nat) : Bool := ((List.range k).all fun j => needsB l 50 k j) && (List.range l.length).all fun i => decide (i ≤ k) || match l[i]? with
  | some o => waitsB o (i - 1)
  | none => true

theorem seqB_get {l : List Oper} {k i : Nat} (h : seqB l k = true) (hi : i < l.length) (hk : k < i) {o : Oper} (ho : l[i]? = some o) : ∃ e ∈ o.after, Region.binds .any e = true ∧ e.on = i - 1 := by
  unfold seqB at h
  rw [Bool.and_eq_true] at h
  have h1 := List.all_eq_true.1 h.2 i (by simpa using hi)
  rw [ho] at h1
  simp only [Bool.or_eq_true, decide_eq_true_eq] at h1
  exact waitsB_get (h1.resolve_left (by omega))

theorem seqB_needs {l : List Oper} {k : Nat} (h : seqB l k = true) {j : Nat} (hj : j < k) : needsB l 50 k j = true := by
  unfold seqB at h
  rw [Bool.and_eq_true] at h
  exact List.all_eq_true.1 h.1 j (by simpa using hj)

/-- The tail, in the order of the text. -/
theorem seq_tail {ops : List Oper} {Q : Exit → Act → World → Prop} (hB : backB ops 0 = true) (n : Nat) (hS : seqB ops n = true) :
    ∀ (zs : List Oper) (k : Nat), n ≤ k → ops.drop k = zs → ∀ (listed : Array Bool) (a : Act) (w : World) (fuel : Nat), listed.size = ops.length → (∀ i, i < k → i < ops.length → listed.getD i false = true) → (∀ i, k ≤ i → i < ops.length → listed.getD i true = false) →
      zs.length ≤ fuel → wpList P ops.toArray Q zs a w → wpAny P .any ops.toArray Q fuel listed a w := by
  intro zs
  induction zs with
  | nil =>
    intro k hk hd listed a w fuel hs h1 h2 hf h
    have hlen : ops.length ≤ k := by
      have := congrArg List.length hd
      simp at this
      omega
    have hr : Region.ready .any ops.toArray listed = [] := by
      rw [List.eq_nil_iff_forall_not_mem]
      intro i hi
      obtain ⟨g1, o, ho, -⟩ := mem_ready.1 hi
      have hil : i < ops.length := by
        have := (Array.getElem?_eq_some_iff.1 ho).1
        simpa using this
      have h3 := h1 i (by omega) hil
      have hlt : i < listed.size := by omega
      simp [hlt] at g1 h3
      rw [g1] at h3
      exact absurd h3 (by decide)
    cases fuel with
    | zero => exact ⟨hr, h⟩
    | succ f => exact ⟨fun _ => h, fun i hi => by rw [hr] at hi; simp at hi⟩
  | cons z zs ih =>
    intro k hk hd listed a w fuel hs h1 h2 hf h
    have hkl : k < ops.length := by
      have := congrArg List.length hd
      simp at this
      omega
    have hz : ops[k]? = some z := by
      have := congrArg (fun l => l[0]?) hd
      simpa using this
    have hd' : ops.drop (k + 1) = zs := by
      have := congrArg List.tail hd
      simpa using this
    obtain ⟨f, rfl⟩ : ∃ f, fuel = f + 1 := ⟨fuel - 1, by simp at hf; omega⟩
    refine ⟨fun hr => ?_, fun i hi => ?_⟩
    · have h3 := all_listed hB hs hr k hkl
      have h4 := h2 k (Nat.le_refl _) hkl
      have hlt : k < listed.size := by omega
      simp [hlt] at h3 h4
      rw [h3] at h4
      exact absurd h4 (by decide)
    · obtain ⟨g1, o, ho, g2⟩ := mem_ready.1 hi
      have hil : i < ops.length := by
        have := (Array.getElem?_eq_some_iff.1 ho).1
        simpa using this
      have hlt : i < listed.size := by omega
      have hik : i = k := by
        rcases Nat.lt_trichotomy i k with h3 | h3 | h3
        · have h4 := h1 i h3 hil
          simp [hlt] at g1 h4
          rw [g1] at h4
          exact absurd h4 (by decide)
        · exact h3
        · obtain ⟨e, he, hb, hon⟩ := seqB_get hS hil (by omega) (show ops[i]? = some o by simpa using ho)
          have h4 := g2 e he hb
          have h5 := h2 (i - 1) (by omega) (by omega)
          rw [hon] at h4
          have hlt2 : i - 1 < listed.size := by omega
          simp [hlt2] at h4 h5
          rw [h4] at h5
          exact absurd h5 (by decide)
      subst hik
      have hnext : ∀ a' w', wpList P ops.toArray Q zs a' w' → wpAny P .any ops.toArray Q f (listed.setIfInBounds i true) a' w' := fun a' w' h' =>
        ih (i + 1) (by omega) hd' (listed.setIfInBounds i true) a' w' f (by simpa using hs)
          (fun j hj hjl => by
            by_cases e : i = j
            · subst e; simp [hlt]
            · rw [getD_set_ne false e]; exact h1 j (by omega) hjl)
          (fun j hj hjl => by
            rw [getD_set_ne true (by omega)]; exact h2 j (by omega) hjl)
          (by simp at hf; omega) h'
      unfold wpOp
      have hz' : ops.toArray[i]? = some z := by simpa using hz
      simp only [hz']
      unfold wpList at h
      split
      · rename_i hw
        rw [if_pos hw] at h
        exact h.imp (Oper.wp_mono hnext) id
      · rename_i hw
        rw [if_neg hw] at h
        exact hnext _ _ h

def guardsB (l : List Oper) : Bool := l.all fun o => match o.guard with
  | some (j, _) => decide (j < l.length)
  | none => true

theorem wanted_app {l zs : List Oper} (hg : guardsB l = true) {o : Oper} (ho : o ∈ l) (tmps : Array Value) : Region.wanted o (yielded (l ++ zs).toArray tmps) = Region.wanted o (yielded l.toArray tmps) := by
  have h1 := List.all_eq_true.1 hg o ho
  unfold Region.wanted
  cases hgd : o.guard with
  | none => rfl
  | some g =>
    obtain ⟨j, b⟩ := g
    rw [hgd] at h1
    have hj : j < l.length := by simpa using h1
    simp only [yielded, app_get hj]

theorem wpAny_of_quietTail {l zs : List Oper} {Q : Act → Prop} {Q' : Exit → Act → World → Prop} (hB : backB (l ++ zs) 0 = true) (hBl : backB l 0 = true) (hS : seqB (l ++ zs) l.length = true) (hG : guardsB l = true)
    (hQ : ∀ a w, C w → Q a → wpList P (l ++ zs).toArray Q' zs a w) : ∀ (fuel : Nat) (listed : Array Bool) (a : Act) (w : World), C w → listed.size = l.length → Closed l listed →
    wpAnyQ P .any l.toArray C Q fuel listed a → wpAny P .any (l ++ zs).toArray Q' (fuel + zs.length) (listed ++ Array.replicate zs.length false) a w := by
  have tail : ∀ (listed : Array Bool) (a : Act) (w : World) (fuel : Nat), listed.size = l.length → (∀ i, i < l.length → listed.getD i false = true) → zs.length ≤ fuel → wpList P (l ++ zs).toArray Q' zs a w → wpAny P .any (l ++ zs).toArray Q' fuel (listed ++ Array.replicate zs.length false) a w := by
    intro listed a w fuel hs hall hf h
    refine seq_tail hB l.length hS zs l.length (Nat.le_refl _) (by simp) _ a w fuel (by simp [hs]) (fun i hi _ => ?_) (fun i hi hil => ?_) hf h
    · rw [listed_app false (by omega)]; exact hall i hi
    · simp only [Array.getD_eq_getD_getElem?]
      rw [Array.getElem?_append_right (by omega), Array.getElem?_replicate]
      rw [if_pos (by simp at hil; omega)]
      rfl
  have hold : ∀ (listed : Array Bool), listed.size = l.length → ∀ i, i < l.length → i ∈ Region.ready .any (l ++ zs).toArray (listed ++ Array.replicate zs.length false) → i ∈ Region.ready .any l.toArray listed := by
    intro listed hs i hil hi
    obtain ⟨g1, o, ho, g2⟩ := mem_ready.1 hi
    rw [app_get hil] at ho
    rw [listed_app true (by omega)] at g1
    refine mem_ready.2 ⟨g1, o, ho, fun e he hb => ?_⟩
    have h4 := backB_get hBl (show l[i]? = some o by simpa using ho) e he hb
    have h5 := g2 e he hb
    rwa [listed_app false (by omega)] at h5
  have hclosed : ∀ (listed : Array Bool), listed.size = l.length → Closed l listed → Closed (l ++ zs) (listed ++ Array.replicate zs.length false) := by
    intro listed hs hc i o ho hi e he hb
    have hil : i < l.length := by
      rcases Nat.lt_or_ge i l.length with h' | h'
      · exact h'
      · simp only [Array.getD_eq_getD_getElem?] at hi
        rw [Array.getElem?_append_right (by omega), Array.getElem?_replicate] at hi
        split at hi <;> simp at hi
    rw [List.getElem?_append_left hil] at ho
    rw [listed_app false (by omega)] at hi
    have h4 := backB_get hBl ho e he hb
    rw [listed_app false (by omega)]
    exact hc i o ho hi e he hb
  have hnew : ∀ (listed : Array Bool), listed.size = l.length → Closed l listed → ∀ i, ¬ i < l.length → i ∈ Region.ready .any (l ++ zs).toArray (listed ++ Array.replicate zs.length false) → ∀ j, j < l.length → listed.getD j false = true := by
    intro listed hs hc i hil hi j hj
    obtain ⟨g1, o, ho, g2⟩ := mem_ready.1 hi
    have hil2 : i < (l ++ zs).length := by
      have := (Array.getElem?_eq_some_iff.1 ho).1
      simpa using this
    have ho' : (l ++ zs)[i]? = some o := by simpa using ho
    by_cases hik : i = l.length
    · subst hik
      have := needsB_get (hclosed listed hs hc) 50 l.length j o ho' g2 (seqB_needs hS hj)
      rwa [listed_app false (by omega)] at this
    · exfalso
      obtain ⟨e, he, hb, hon⟩ := seqB_get hS hil2 (by omega) ho'
      have h5 := g2 e he hb
      rw [hon] at h5
      simp only [Array.getD_eq_getD_getElem?] at h5
      rw [Array.getElem?_append_right (by omega), Array.getElem?_replicate] at h5
      split at h5 <;> simp at h5
  intro fuel
  induction fuel with
  | zero =>
    intro listed a w hC hs hcl h
    have hall := all_listed hBl hs h.1
    rw [Nat.zero_add]
    exact tail listed a w _ hs hall (Nat.le_refl _) (hQ a w hC h.2)
  | succ fuel ih =>
    intro listed a w hC hs hcl h
    by_cases hr : Region.ready .any l.toArray listed = []
    · exact tail listed a w _ hs (all_listed hBl hs hr) (by omega) (hQ a w hC (h.1 hr))
    · rw [show fuel + 1 + zs.length = (fuel + zs.length) + 1 by omega]
      have hsome : ∀ i, i ∈ Region.ready .any (l ++ zs).toArray (listed ++ Array.replicate zs.length false) → i < l.length := by
        intro i hi
        by_cases hil : i < l.length
        · exact hil
        · exfalso
          apply hr
          have hall := hnew listed hs hcl i hil hi
          rw [List.eq_nil_iff_forall_not_mem]
          intro j hj
          obtain ⟨g1, o, ho, -⟩ := mem_ready.1 hj
          have hjl : j < l.length := by
            have := (Array.getElem?_eq_some_iff.1 ho).1
            simpa using this
          have h3 := hall j hjl
          have hlt : j < listed.size := by omega
          simp [hlt] at g1 h3
          rw [g1] at h3
          exact absurd h3 (by decide)
      refine ⟨fun hr2 => ?_, fun i hi => ?_⟩
      · exfalso
        apply hr
        rw [List.eq_nil_iff_forall_not_mem]
        intro j hj
        obtain ⟨g1, o, ho, -⟩ := mem_ready.1 hj
        have hjl : j < l.length := by
          have := (Array.getElem?_eq_some_iff.1 ho).1
          simpa using this
        have h3 := all_listed hB (by simp [hs]) hr2 j (by simp; omega)
        rw [listed_app false (by omega)] at h3
        have hlt : j < listed.size := by omega
        simp [hlt] at g1 h3
        rw [g1] at h3
        exact absurd h3 (by decide)
      · have hil := hsome i hi
        have hq := h.2 i (hold listed hs i hil hi)
        unfold qOp at hq
        unfold wpOp
        rw [app_get hil]
        obtain ⟨o, ho⟩ : ∃ o, l.toArray[i]? = some o := ⟨l[i], by simp [hil]⟩
        have hmem : o ∈ l := List.mem_of_getElem? (show l[i]? = some o by simpa using ho)
        simp only [ho] at hq ⊢
        rw [wanted_app hG hmem]
        have hnext : ∀ a' w', C w' → wpAnyQ P .any l.toArray C Q fuel (listed.setIfInBounds i true) a' → wpAny P .any (l ++ zs).toArray Q' (fuel + zs.length) ((listed ++ Array.replicate zs.length false).setIfInBounds i true) a' w' := by
          intro a' w' hC' h'
          have := ih (listed.setIfInBounds i true) a' w' hC' (by simp [hs]) (hcl.set (hold listed hs i hil hi)) h'
          rwa [← Array.setIfInBounds_append_left (by omega)] at this
        split
        · rename_i hw
          rw [if_pos hw] at hq
          exact .inl (Oper.wp_of_quiet hC hnext hq)
        · rename_i hw
          rw [if_neg hw] at hq
          exact hnext _ _ hC hq

/-- What the rule asks of the region's edges. -/
def tailB (l : List Oper) (n : Nat) : Bool := backB l 0 && backB (l.take n) 0 && Region.lexB .any (l.take n).toArray && guardsB (l.take n) && seqB l n && decide (n ≤ l.length)

/-- THE RULE. -/
theorem wp_region_quietTail (n : Nat) {id : Nat} {Q : Exit → Act → World → Prop} {a : Act} {w : World} {l : List Oper} (hm : P.follows .mixedOrders = true) (hB : tailB l n = true)
    (h : wpQuiet P (l.take n).toArray (fun w' => ∃ n, w' = w.drewN n) (fun a' => ∀ w', (∃ n, w' = w.drewN n) → wpList P l.toArray Q (l.drop n) a' w') (l.take n) a) : (Code.region id l.toArray true).wp P Q a w := by
  unfold tailB at hB
  simp only [Bool.and_eq_true, decide_eq_true_eq] at hB
  obtain ⟨⟨⟨⟨⟨h1, h2⟩, h3⟩, h4⟩, h5⟩, h6⟩ := hB
  have hlen : (l.take n).length = n := by simp; omega
  have e := List.take_append_drop n l
  generalize l.take n = l1 at *
  generalize l.drop n = zs at *
  subst e
  simp only [Region.lexB, Bool.and_eq_true] at h3
  refine wp_region_any hm ?_
  have hq := wpAnyQ_lex (P := P) (C := fun w' => ∃ n, w' = w.drewN n) (md := .any) h3.1 l1 0 (Array.replicate l1.length false) a (by simp) (by simpa using h3.2) h
  have := wpAny_of_quietTail (Q' := Q) h1 h2 (by rw [hlen]; exact h5) h4 (fun a' w' hC hq => hq w' hC) _ _ a w.drew ⟨1, rfl⟩ (by simp) (fun i o _ hi => by
    simp only [Array.getD_eq_getD_getElem?, Array.getElem?_replicate] at hi
    split at hi <;> simp at hi) hq
  rw [Array.replicate_append_replicate] at this
  simpa using this

/-- The same, over any class of worlds. -/
theorem wp_region_quietTailC (n : Nat) {id : Nat} {Q : Exit → Act → World → Prop} {a : Act} {w : World} {l : List Oper} (hm : P.follows .mixedOrders = true) (hB : tailB l n = true) (hC : C w.drew)
    (h : wpQuiet P (l.take n).toArray C (fun a' => ∀ w', C w' → wpList P l.toArray Q (l.drop n) a' w') (l.take n) a) : (Code.region id l.toArray true).wp P Q a w := by
  unfold tailB at hB
  simp only [Bool.and_eq_true, decide_eq_true_eq] at hB
  obtain ⟨⟨⟨⟨⟨h1, h2⟩, h3⟩, h4⟩, h5⟩, h6⟩ := hB
  have hlen : (l.take n).length = n := by simp; omega
  have e := List.take_append_drop n l
  generalize l.take n = l1 at *
  generalize l.drop n = zs at *
  subst e
  simp only [Region.lexB, Bool.and_eq_true] at h3
  refine wp_region_any hm ?_
  have hq := wpAnyQ_lex (P := P) (C := C) (md := .any) h3.1 l1 0 (Array.replicate l1.length false) a (by simp) (by simpa using h3.2) h
  have := wpAny_of_quietTail (Q' := Q) h1 h2 (by rw [hlen]; exact h5) h4 (fun a' w' hC hq => hq w' hC) _ _ a w.drew hC (by simp) (fun i o _ hi => by
    simp only [Array.getD_eq_getD_getElem?, Array.getElem?_replicate] at hi
    split at hi <;> simp at hi) hq
  rw [Array.replicate_append_replicate] at this
  simpa using this
end

end Go.Proofs.Ytckmddkhkdcmmaa

namespace Go.Proofs.Ytckmddkhkdcmmaa
set_option linter.unusedVariables false
set_option linter.unusedSimpArgs false
open Go.RowKit
set_option linter.unusedVariables false
set_option linter.unusedSimpArgs false

attribute [local go_sem ↓] Go.wp_at_zero Go.wp_at_succ

/-- One cell is set. -/
def upd (f : Nat → Nat → UInt8) (r c : Nat) (x : UInt8) : Nat → Nat → UInt8 := fun i j => if i = r ∧ j = c then x else f i j

theorem divmod_iff {cols t r c : Nat} (hc : c < cols) : t = r * cols + c ↔ t / cols = r ∧ t % cols = c := by
  constructor
  · rintro rfl
    refine ⟨?_, ?_⟩
    · rw [Nat.mul_comm, Nat.mul_add_div (by omega), Nat.div_eq_of_lt hc, Nat.add_zero]
    · rw [Nat.mul_comm, Nat.mul_add_mod, Nat.mod_eq_of_lt hc]
  · rintro ⟨rfl, rfl⟩
    rw [Nat.mul_comm]; exact (Nat.div_add_mod t cols).symm

theorem fl_set (cols : Nat) (f : Nat → Nat → UInt8) (N r c : Nat) (x : UInt8) (hc : c < cols) : (fl cols f N).set (r * cols + c) x = fl cols (upd f r c x) N := by
  apply List.ext_getElem
  · simp [fl_length]
  · intro t h1 h2
    rw [List.getElem_set, fl_get, fl_get]
    unfold upd
    by_cases e : r * cols + c = t
    · rw [if_pos e, if_pos ((divmod_iff hc).1 e.symm)]
    · rw [if_neg e, if_neg (fun h => e ((divmod_iff hc).2 h).symm)]

theorem fl_congr {cols rows : Nat} {f g : Nat → Nat → UInt8} (hc : 0 < cols) (h : ∀ r c, r < rows → c < cols → f r c = g r c) : fl cols f (rows * cols) = fl cols g (rows * cols) := by
  apply List.ext_getElem
  · simp [fl_length]
  · intro t h1 h2
    rw [fl_get, fl_get]
    rw [fl_length] at h1
    exact h _ _ (Nat.div_lt_of_lt_mul (by rw [Nat.mul_comm]; exact h1)) (Nat.mod_lt _ hc)

theorem flat_lt {rows cols r c : Nat} (hr : r < rows) (hc : c < cols) : r * cols + c < rows * cols := by
  have : (r + 1) * cols ≤ rows * cols := Nat.mul_le_mul_right _ hr
  rw [Nat.succ_mul] at this
  omega

theorem fl_at {cols rows r c : Nat} (f : Nat → Nat → UInt8) (hr : r < rows) (hc : c < cols) : (fl cols f (rows * cols))[r * cols + c]'(by rw [fl_length]; exact flat_lt hr hc) = f r c := by
  rw [fl_get]
  have := (divmod_iff (t := r * cols + c) (r := r) hc).1 rfl
  rw [this.1, this.2]

/-- Two rows change places, up to a column. -/
def swK (f : Nat → Nat → UInt8) (n r k : Nat) : Nat → Nat → UInt8 := fun i j => if j < k then (if i = r then f n j else if i = n then f r j else f i j) else f i j
theorem swK_zero (f : Nat → Nat → UInt8) (n r : Nat) : swK f n r 0 = f := by funext i j; simp [swK]
theorem swK_step (f : Nat → Nat → UInt8) (n r k : Nat) : upd (upd (swK f n r k) n k (f r k)) r k (f n k) = swK f n r (k + 1) := by
  funext i j
  unfold upd swK
  by_cases hj : j = k
  · subst hj
    by_cases hr : i = r
    · subst hr; simp
    · by_cases hn : i = n
      · subst hn; simp [hr]
      · simp [hr, hn]
  · have : j < k + 1 ↔ j < k := by omega
    simp [hj, this]

/-- A row is scaled, up to a column. -/
def scK (f : Nat → Nat → UInt8) (n : Nat) (x : UInt8) (k : Nat) : Nat → Nat → UInt8 := fun i j => if i = n ∧ j < k then mul x (f n j) else f i j
theorem scK_zero (f : Nat → Nat → UInt8) (n : Nat) (x : UInt8) : scK f n x 0 = f := by funext i j; simp [scK]
theorem scK_at (f : Nat → Nat → UInt8) (n : Nat) (x : UInt8) (k : Nat) : scK f n x k n k = f n k := by simp [scK]
theorem scK_step (f : Nat → Nat → UInt8) (n : Nat) (x : UInt8) (k : Nat) : upd (scK f n x k) n k (mul x (f n k)) = scK f n x (k + 1) := by
  funext i j
  unfold upd scK
  by_cases hj : j = k
  · subst hj
    by_cases hn : i = n
    · subst hn; simp
    · simp [hn]
  · have : j < k + 1 ↔ j < k := by omega
    simp [hj, this]

/-- A row is added to another, up to a column. -/
def adK (f : Nat → Nat → UInt8) (n q : Nat) (x : UInt8) (k : Nat) : Nat → Nat → UInt8 := fun i j => if i = q ∧ j < k then f q j ^^^ mul x (f n j) else f i j
theorem adK_zero (f : Nat → Nat → UInt8) (n q : Nat) (x : UInt8) : adK f n q x 0 = f := by funext i j; simp [adK]
theorem adK_at (f : Nat → Nat → UInt8) (n q : Nat) (x : UInt8) (k : Nat) : adK f n q x k q k = f q k := by simp [adK]
theorem adK_nat (f : Nat → Nat → UInt8) (n q : Nat) (x : UInt8) (k : Nat) (h : q ≠ n) : adK f n q x k n k = f n k := by simp [adK, Ne.symm h]
theorem adK_step (f : Nat → Nat → UInt8) (n q : Nat) (x : UInt8) (k : Nat) : upd (adK f n q x k) q k (f q k ^^^ mul x (f n k)) = adK f n q x (k + 1) := by
  funext i j
  unfold upd adK
  by_cases hj : j = k
  · subst hj
    by_cases hn : i = q
    · subst hn; simp
    · simp [hn]
  · have : j < k + 1 ↔ j < k := by omega
    simp [hj, this]

/-- All rows above q but n are cleared. -/
def clK (f : Nat → Nat → UInt8) (n c q : Nat) : Nat → Nat → UInt8 := fun i j => if i < q ∧ i ≠ n then f i j ^^^ mul (f i c) (f n j) else f i j
theorem clK_zero (f : Nat → Nat → UInt8) (n c : Nat) : clK f n c 0 = f := by funext i j; simp [clK]
theorem clK_self (f : Nat → Nat → UInt8) (n c q j : Nat) : clK f n c q q j = f q j := by simp [clK]
theorem clK_n (f : Nat → Nat → UInt8) (n c q j : Nat) : clK f n c q n j = f n j := by simp [clK]
theorem clK_skip (f : Nat → Nat → UInt8) (n c q : Nat) (h : q = n ∨ f q c = 0) : clK f n c (q + 1) = clK f n c q := by
  funext i j
  unfold clK
  by_cases e : i = q
  · subst e
    rcases h with h | h
    · simp [h]
    · by_cases e2 : i = n
      · simp [e2]
      · simp [e2, h, zero_mul]
  · have : i < q + 1 ↔ i < q := by omega
    simp [this]
theorem clK_step (f : Nat → Nat → UInt8) (n c q cols : Nat) (h : q ≠ n) (i j : Nat) (hj : j < cols) : adK (clK f n c q) n q (f q c) cols i j = clK f n c (q + 1) i j := by
  unfold adK
  by_cases e : i = q
  · subst e
    rw [if_pos ⟨rfl, hj⟩, clK_self, clK_n]
    unfold clK
    rw [if_pos ⟨by omega, h⟩]
  · rw [if_neg (fun h => e h.1)]
    unfold clK
    have : i < q + 1 ↔ i < q := by omega
    simp [this]

/-- One step of the clearing. -/
theorem cel_all {S : List (List UInt8)} {cols n c r : Nat} (hw : Wid S cols) (hl : lead S n c = some r) (hn : n < S.length) (hr : r < S.length) (hcc : c < cols) :
    ∀ i j, i < S.length → j < cols → clK (scK (swK (cel S) n r cols) n (div 1 (cel S r c)) cols) n c S.length i j = cel (stp (S, n) c).1 i j := by
  intro i j hi hj
  have hs1 : ∀ i j, j < cols → swK (cel S) n r cols i j = cel (stp1 S n c r) i j := fun i j hj => by
    rw [cel_stp1 hn hr]
    unfold swK
    rw [if_pos hj]
  have hl1 : (stp1 S n c r).length = S.length := by unfold stp1 swp; simp
  have hp : cel (stp1 S n c r) n c = cel S r c := cel_lead hl
  have hs2 : ∀ i j, j < cols → scK (swK (cel S) n r cols) n (div 1 (cel S r c)) cols i j = cel (stp2 (stp1 S n c r) n c) i j := fun i j hj => by
    rw [cel_stp2 (by rw [hl1]; exact hn), hp]
    unfold scK
    by_cases e : i = n
    · subst e
      rw [if_pos ⟨rfl, hj⟩, if_pos rfl, hs1 _ _ hj]
    · rw [if_neg (fun h => e h.1), if_neg e, hs1 _ _ hj]
  have hl2 : (stp2 (stp1 S n c r) n c).length = S.length := by unfold stp2; rw [List.length_set, hl1]
  have hw2 : Wid (stp2 (stp1 S n c r) n c) cols := (hw.stp1 hn hr).stp2 (by rw [hl1]; exact hn)
  have e : (stp (S, n) c).1 = clr (stp2 (stp1 S n c r) n c) n c := by unfold stp; simp only [hl]
  rw [e, cel_clr hw2 (by rw [hl2]; exact hn) i j (by rw [hl2]; exact hi)]
  unfold clK
  by_cases e2 : i = n
  · rw [if_neg (fun h => h.2 e2), if_pos e2, hs2 _ _ hj]
  · rw [if_pos ⟨hi, e2⟩, if_neg e2, hs2 _ _ hj, hs2 _ _ hj, hs2 _ _ hcc]

theorem stp_none {s : List (List UInt8) × Nat} {c : Nat} (h : lead s.1 s.2 c = none) : stp s c = s := by unfold stp; rw [h]
theorem redK_stop (ls : List (List UInt8)) (c : Nat) (h : ls.length ≤ (redK ls c).2) : ∀ m, redK ls (c + m) = redK ls c := by
  intro m
  induction m with
  | zero => rfl
  | succ m ih =>
    show stp (redK ls (c + m)) (c + m) = _
    rw [ih]
    exact stp_none (lead_end (by rw [redK_length]; exact h))

theorem info24_size : (Try.prog.info? 24).map (·.size) = some 3 := by kernel_rfl
theorem Try.u24 : ∃ d, Try.prog.underlying 24 = some d ∧ d.isRow = true := by
  refine ⟨_, Try.underlying24, rfl⟩

theorem rat_any (w : World) (rows cols q N cap r c : Nat) (x : UInt8) (hN : r * cols + c < N) (hs : N ≤ 100000) (hc : w.cell? ⟨q, r * cols + c, none⟩ = some (.int .u8 ((x.toNat : Nat) : Int))) :
    Calls Try.prog 73 #[.agg #[.int .i64 (rows : Int), .int .i64 (cols : Int), .slice (some ⟨q, 0, none⟩) N cap], .int .i64 (r : Int), .int .i64 (c : Int)] w fun e w' => e = .returned (.int .u8 ((x.toNat : Nat) : Int)) ∧ Fr (fun _ => False) w w' := by
  have hq := World.block_lt_of_cell? w _ hc
  have hmul : r * cols ≤ 100000 := by omega
  have hcl : c ≤ 100000 := by omega
  have e1 : (r : Int) * (cols : Int) = ((r * cols : Nat) : Int) := by simp
  have hi : ((r * cols : Nat) : Int) + (c : Int) < (N : Int) := by omega
  have hi2 : (((r * cols : Nat) : Int) + (c : Int)).toNat = r * cols + c := by omega
  have hc2 : ∀ o : Obj, (w.alloc o).cell? ⟨q, r * cols + c, none⟩ = some (.int .u8 ((x.toNat : Nat) : Int)) := fun o => ((((Fr.refl (fun _ => False) w).alloc o).cell (a := ⟨q, r * cols + c, none⟩) hq id)).trans hc
  generalize r * cols = m at *
  go_enter Try.func73, Try.ntmps73
  go_wp2_with fail
  go_ret
  exact ⟨rfl, (Fr.refl _ _).alloc _⟩
end Go.Proofs.Ytckmddkhkdcmmaa

namespace Go.Proofs.Ytckmddkhkdcmmaa
set_option linter.unusedVariables false
set_option linter.unusedSimpArgs false
set_option linter.unusedVariables false

theorem xsl (a b : UInt8) : a ^^^ (a ^^^ b) = b := by rw [← UInt8.xor_assoc, UInt8.xor_self, UInt8.zero_xor]
theorem xlc (a b c : UInt8) : a ^^^ (b ^^^ c) = b ^^^ (a ^^^ c) := by rw [← UInt8.xor_assoc, UInt8.xor_comm a b, UInt8.xor_assoc]
theorem mlc (a b c : UInt8) : mul a (mul b c) = mul b (mul a c) := by rw [← mul_assoc, mul_comm a b, mul_assoc]

/-- The value of a polynomial, the coefficient of x^0 first. -/
def ev : List UInt8 → UInt8 → UInt8
  | [], _ => 0
  | a :: p, x => mul (ev p x) x ^^^ a

/-- What is left of a polynomial when it is divided by x - r. -/
def quo : List UInt8 → UInt8 → List UInt8
  | [], _ => []
  | b :: p, r => ev (b :: p) r :: quo p r

theorem quo_length (p : List UInt8) (r : UInt8) : (quo p r).length = p.length := by
  induction p with
  | nil => rfl
  | cons b p ih => simp [quo, ih]

theorem ev_quo (a : UInt8) (t : List UInt8) (r x : UInt8) : ev (a :: t) x = mul (ev (quo t r) x) (x ^^^ r) ^^^ ev (a :: t) r := by
  induction t generalizing a with
  | nil => simp [ev, quo, zero_mul]
  | cons b t ih =>
    show mul (ev (b :: t) x) x ^^^ a = mul (mul (ev (quo t r) x) x ^^^ ev (b :: t) r) (x ^^^ r) ^^^ (mul (ev (b :: t) r) r ^^^ a)
    rw [ih b]
    generalize ev (quo t r) x = Q
    generalize ev (b :: t) r = V
    simp only [mul_xor2, mul_comm, mlc, UInt8.xor_assoc, UInt8.xor_comm, xlc, xsl]

theorem ev_zeros (n : Nat) (x : UInt8) : ev (List.replicate n 0) x = 0 := by
  induction n with
  | zero => rfl
  | succ n ih => rw [List.replicate_succ]; simp only [ev]; rw [ih, zero_mul, UInt8.xor_zero]

theorem quo_zero (t : List UInt8) (r : UInt8) (h : quo t r = List.replicate t.length 0) : t = List.replicate t.length 0 := by
  induction t with
  | nil => rfl
  | cons b t ih =>
    simp only [quo, List.length_cons, List.replicate_succ, List.cons.injEq] at h
    have e := ih h.2
    rw [List.length_cons, List.replicate_succ]
    have hb : b = 0 := by
      have h1 := h.1
      simp only [ev] at h1
      rw [e, ev_zeros, zero_mul, UInt8.zero_xor] at h1
      exact h1
    rw [hb]
    exact congrArg _ e

/-- A polynomial with as many roots as coefficients is zero. -/
theorem roots_zero (n : Nat) (p xs : List UInt8) (hp : p.length = n) (hx : xs.length = n) (nd : xs.Nodup) (h : ∀ x ∈ xs, ev p x = 0) : p = List.replicate n 0 := by
  induction n generalizing p xs with
  | zero => simpa using hp
  | succ n ih =>
    match p, hp, xs, hx with
    | a :: t, hp, r :: rs, hx =>
      simp only [List.length_cons, Nat.add_right_cancel_iff] at hp hx
      rw [List.nodup_cons] at nd
      have hr : ev (a :: t) r = 0 := h r (by simp)
      have hq : quo t r = List.replicate n 0 := by
        refine ih (quo t r) rs (by rw [quo_length, hp]) hx nd.2 fun x hxm => ?_
        have h1 := h x (by simp [hxm])
        rw [ev_quo a t r x, hr, UInt8.xor_zero] at h1
        refine (mul_eq_zero.1 h1).resolve_right fun e => nd.1 ?_
        rw [← xor_cancel _ _ e]; exact hxm
      have ht : t = List.replicate n 0 := by
        have := quo_zero t r (by rw [hp]; exact hq)
        rwa [hp] at this
      have ha : a = 0 := by
        simp only [ev] at hr
        rw [ht, ev_zeros, zero_mul, UInt8.zero_xor] at hr
        exact hr
      rw [ha, ht, List.replicate_succ]

theorem ev_add (p q : List UInt8) (h : p.length = q.length) (x : UInt8) : ev (List.zipWith (fun a b => a ^^^ b) p q) x = ev p x ^^^ ev q x := by
  induction p generalizing q with
  | nil => cases q <;> simp_all [ev]
  | cons a p ih =>
    match q, h with
    | b :: q, h =>
      simp only [List.length_cons, Nat.add_right_cancel_iff] at h
      simp only [List.zipWith_cons_cons, ev]
      rw [ih q h, mul_xor]
      generalize mul (ev p x) x = A
      generalize mul (ev q x) x = B
      simp only [UInt8.xor_comm, xlc]

/-- Two polynomials that agree at as many places as they have coefficients are the same. -/
theorem ev_unique (p q xs : List UInt8) (hp : p.length = xs.length) (hq : q.length = xs.length) (nd : xs.Nodup) (h : ∀ x ∈ xs, ev p x = ev q x) : p = q := by
  have hz := roots_zero xs.length (List.zipWith (fun a b => a ^^^ b) p q) xs (by simp; omega) rfl nd fun x hx => by
    rw [ev_add p q (by omega), h x hx, UInt8.xor_self]
  apply List.ext_getElem (by omega)
  intro i h1 h2
  have : (List.zipWith (fun a b => a ^^^ b) p q)[i]'(by simp; omega) = 0 := by simp [hz]
  rw [List.getElem_zipWith] at this
  exact xor_cancel _ _ this

theorem ev_scl (c : UInt8) (p : List UInt8) (x : UInt8) : ev (p.map (mul c)) x = mul c (ev p x) := by
  induction p with
  | nil => simp [ev, mul_zero]
  | cons a p ih => simp only [List.map_cons, ev]; rw [ih, mul_xor2, mul_assoc]

theorem ev_pad (p : List UInt8) (k : Nat) (x : UInt8) : ev (p ++ List.replicate k 0) x = ev p x := by
  induction p with
  | nil => rw [List.nil_append, ev_zeros]; rfl
  | cons a p ih => rw [List.cons_append]; simp only [ev]; rw [ih]

/-- A divided difference: of the points s to s + j. -/
def dd (X Y : Nat → UInt8) : Nat → Nat → UInt8
  | s, 0 => Y s
  | s, j + 1 => div (dd X Y (s + 1) j ^^^ dd X Y s j) (X (s + j + 1) ^^^ X s)

/-- The product of x - X(s + t) for t below j. -/
def wn (X : Nat → UInt8) (x : UInt8) : Nat → Nat → UInt8
  | _, 0 => 1
  | s, j + 1 => mul (wn X x s j) (x ^^^ X (s + j))

theorem wn_front (X : Nat → UInt8) (x : UInt8) (s j : Nat) : wn X x s (j + 1) = mul (x ^^^ X s) (wn X x (s + 1) j) := by
  induction j with
  | zero => simp [wn, mul_one, one_mul]
  | succ j ih =>
    have e : wn X x s (j + 1 + 1) = mul (wn X x s (j + 1)) (x ^^^ X (s + (j + 1))) := rfl
    rw [e, ih, mul_assoc]
    show mul (x ^^^ X s) (mul (wn X x (s + 1) j) (x ^^^ X (s + (j + 1)))) = mul (x ^^^ X s) (mul (wn X x (s + 1) j) (x ^^^ X (s + 1 + j)))
    rw [show s + (j + 1) = s + 1 + j by omega]

/-- Newton's form with the points s to s + m. -/
def nw (X Y : Nat → UInt8) (x : UInt8) (s : Nat) : Nat → UInt8
  | 0 => Y s
  | m + 1 => nw X Y x s m ^^^ mul (dd X Y s (m + 1)) (wn X x s (m + 1))

theorem dd_eq (X Y : Nat → UInt8) (s j : Nat) (h : X (s + j + 1) ≠ X s) : dd X Y (s + 1) j ^^^ dd X Y s j = mul (dd X Y s (j + 1)) (X (s + j + 1) ^^^ X s) := by
  show _ = mul (div _ _) _
  rw [div_mul]
  intro e
  exact h (xor_cancel _ _ e)

theorem nw_diff (X Y : Nat → UInt8) (x : UInt8) (N s m : Nat) (hN : s + m < N) (h : ∀ i j, i < j → j < N → X i ≠ X j) : nw X Y x (s + 1) m ^^^ nw X Y x s m = mul (dd X Y (s + 1) m ^^^ dd X Y s m) (wn X x (s + 1) m) := by
  induction m with
  | zero => simp [nw, dd, wn, mul_one]
  | succ m ih =>
    have ih := ih (by omega)
    have e1 := dd_eq X Y s m (h s (s + m + 1) (by omega) (by omega)).symm
    have e2 : wn X x (s + 1) (m + 1) = mul (wn X x (s + 1) m) (x ^^^ X (s + m + 1)) := by
      show mul _ _ = mul _ _
      rw [show s + 1 + m = s + m + 1 by omega]
    show (nw X Y x (s + 1) m ^^^ mul (dd X Y (s + 1) (m + 1)) (wn X x (s + 1) (m + 1))) ^^^ (nw X Y x s m ^^^ mul (dd X Y s (m + 1)) (wn X x s (m + 1))) = _
    rw [xor4, ih, e1, wn_front X x s m, e2]
    generalize wn X x (s + 1) m = w
    generalize dd X Y s (m + 1) = D
    generalize dd X Y (s + 1) (m + 1) = D'
    generalize X (s + m + 1) = xe
    generalize X s = x0
    simp only [mul_xor2, mul_comm, mlc, UInt8.xor_assoc, UInt8.xor_comm, xlc, xsl]

theorem nw_mix (X Y : Nat → UInt8) (x : UInt8) (N s m : Nat) (hN : s + m + 1 < N) (h : ∀ i j, i < j → j < N → X i ≠ X j) :
    mul (X (s + m + 1) ^^^ X s) (nw X Y x s (m + 1)) = mul (x ^^^ X s) (nw X Y x (s + 1) m) ^^^ mul (X (s + m + 1) ^^^ x) (nw X Y x s m) := by
  have e1 := dd_eq X Y s m (h s (s + m + 1) (by omega) (by omega)).symm
  have e2 := nw_diff X Y x N s m (by omega) h
  have e3 : nw X Y x (s + 1) m = nw X Y x s m ^^^ mul (mul (dd X Y s (m + 1)) (X (s + m + 1) ^^^ X s)) (wn X x (s + 1) m) := by
    rw [← e1, ← e2, xlc, UInt8.xor_self, UInt8.xor_zero]
  show mul _ (nw X Y x s m ^^^ mul (dd X Y s (m + 1)) (wn X x s (m + 1))) = _
  rw [e3, wn_front X x s m]
  generalize wn X x (s + 1) m = w
  generalize dd X Y s (m + 1) = D
  generalize nw X Y x s m = P
  generalize X (s + m + 1) = xe
  generalize X s = x0
  simp only [mul_xor2, mul_comm, mlc, UInt8.xor_assoc, UInt8.xor_comm, xlc, xsl]

/-- Newton's form goes through its points. -/
theorem nw_at (X Y : Nat → UInt8) (N m s i : Nat) (hN : s + m < N) (hi : i ≤ m) (h : ∀ i j, i < j → j < N → X i ≠ X j) : nw X Y (X (s + i)) s m = Y (s + i) := by
  induction m generalizing s i with
  | zero =>
    obtain rfl : i = 0 := by omega
    rfl
  | succ m ih =>
    have hne : X (s + m + 1) ^^^ X s ≠ 0 := fun e => h s (s + m + 1) (by omega) (by omega) (xor_cancel _ _ e).symm
    have key := nw_mix X Y (X (s + i)) N s m (by omega) h
    have fin : mul (X (s + m + 1) ^^^ X s) (nw X Y (X (s + i)) s (m + 1)) = mul (X (s + m + 1) ^^^ X s) (Y (s + i)) := by
      rw [key]
      by_cases h0 : i = 0
      · subst h0
        rw [Nat.add_zero, UInt8.xor_self, zero_mul, UInt8.zero_xor]
        have := ih s 0 (by omega) (Nat.zero_le _)
        rw [Nat.add_zero] at this
        rw [this]
      · by_cases h1 : i = m + 1
        · subst h1
          have := ih (s + 1) m (by omega) (Nat.le_refl _)
          rw [show s + 1 + m = s + (m + 1) by omega] at this
          rw [this, show s + m + 1 = s + (m + 1) by omega, UInt8.xor_self, zero_mul, UInt8.xor_zero]
        · have a1 := ih s i (by omega) (by omega)
          have a2 := ih (s + 1) (i - 1) (by omega) (by omega)
          rw [show s + 1 + (i - 1) = s + i by omega] at a2
          rw [a1, a2, ← mul_xor]
          congr 1
          generalize X (s + i) = A
          generalize X s = B
          generalize X (s + m + 1) = C
          simp only [UInt8.xor_comm, xlc, xsl]
    have : mul (X (s + m + 1) ^^^ X s) (nw X Y (X (s + i)) s (m + 1) ^^^ Y (s + i)) = 0 := by rw [mul_xor2, fin, UInt8.xor_self]
    exact xor_cancel _ _ ((mul_eq_zero.1 this).resolve_left hne)

/-- A step of spreading: times x - r, and prev. -/
def sps (r : UInt8) : UInt8 → List UInt8 → List UInt8
  | _, [] => []
  | prev, o :: os => (prev ^^^ mul r o) :: sps r o os

theorem sps_length (r prev : UInt8) (l : List UInt8) : (sps r prev l).length = l.length := by
  induction l generalizing prev with
  | nil => rfl
  | cons o os ih => simp [sps, ih]

theorem sps_get (r prev : UInt8) (l : List UInt8) (j : Nat) (h : j < l.length) : (sps r prev l)[j]? = some ((if j = 0 then prev else l[j - 1]?.getD 0) ^^^ mul r (l[j]?.getD 0)) := by
  induction l generalizing prev j with
  | nil => simp at h
  | cons o os ih =>
    cases j with
    | zero => simp [sps]
    | succ j =>
      simp only [List.length_cons] at h
      simp only [sps, List.getElem?_cons_succ]
      rw [ih o j (by omega)]
      cases j with
      | zero => simp
      | succ j => simp

theorem ev_sps (r prev x : UInt8) (o : UInt8) (l : List UInt8) (hl : (o :: l).getLast (by simp) = 0) : ev (sps r prev (o :: l)) x = prev ^^^ mul (ev (o :: l) x) (x ^^^ r) := by
  induction l generalizing prev o with
  | nil =>
    have : o = 0 := hl
    subst this
    simp [sps, ev, zero_mul, mul_zero]
  | cons b l ih =>
    have e : sps r prev (o :: b :: l) = (prev ^^^ mul r o) :: sps r o (b :: l) := rfl
    rw [e]
    show mul (ev (sps r o (b :: l)) x) x ^^^ (prev ^^^ mul r o) = prev ^^^ mul (mul (ev (b :: l) x) x ^^^ o) (x ^^^ r)
    rw [ih o b (by rw [List.getLast_cons (by simp)] at hl; exact hl)]
    generalize ev (b :: l) x = V
    simp only [mul_xor2, mul_comm, mlc, UInt8.xor_assoc, UInt8.xor_comm]

/-- Spreading: k steps, from the last point down. -/
def spf (X D : Nat → UInt8) (n : Nat) : Nat → List UInt8
  | 0 => List.replicate n 0
  | k + 1 => sps (X (n - 1 - k)) (D (n - 1 - k)) (spf X D n k)

theorem spf_length (X D : Nat → UInt8) (n k : Nat) : (spf X D n k).length = n := by
  induction k with
  | zero => simp [spf]
  | succ k ih => simp only [spf]; rw [sps_length, ih]

theorem spf_high (X D : Nat → UInt8) (n k j : Nat) (hk : k ≤ j) (hj : j < n) : (spf X D n k)[j]? = some 0 := by
  induction k generalizing j with
  | zero => simp [spf, hj]
  | succ k ih =>
    simp only [spf]
    rw [sps_get _ _ _ _ (by rw [spf_length]; exact hj), ih j (by omega) hj, ih (j - 1) (by omega) (by omega), if_neg (by omega)]
    simp [mul_zero]

theorem ev_spf (X D : Nat → UInt8) (n k : Nat) (hk : k < n) (x : UInt8) : ev (spf X D n (k + 1)) x = D (n - 1 - k) ^^^ mul (ev (spf X D n k) x) (x ^^^ X (n - 1 - k)) := by
  simp only [spf]
  have hl := spf_length X D n k
  have hh := spf_high X D n k (n - 1) (by omega) (by omega)
  match h : spf X D n k with
  | [] => rw [h] at hl; simp at hl; omega
  | o :: l =>
    refine ev_sps _ _ _ _ _ ?_
    rw [h] at hl hh
    simp only [List.length_cons] at hl
    rw [List.getLast_eq_getElem]
    have : (o :: l)[n - 1]? = some 0 := hh
    rw [List.getElem?_eq_some_iff] at this
    obtain ⟨_, h2⟩ := this
    simp only [List.length_cons, Nat.add_sub_cancel]
    rw [← h2]
    congr 1
    omega

/-- The whole is Newton's form. -/
theorem spf_nw (X Y : Nat → UInt8) (n k : Nat) (hk : k < n) (x : UInt8) : ev (spf X (dd X Y 0) n n) x = nw X Y x 0 k ^^^ mul (wn X x 0 (k + 1)) (ev (spf X (dd X Y 0) n (n - (k + 1))) x) := by
  induction k with
  | zero =>
    have e := ev_spf X (dd X Y 0) n (n - 1) (by omega) x
    rw [show n - 1 + 1 = n by omega, show n - 1 - (n - 1) = 0 by omega] at e
    rw [e]
    show dd X Y 0 0 ^^^ _ = Y 0 ^^^ mul (mul 1 (x ^^^ X (0 + 0))) _
    rw [one_mul, mul_comm]
    rfl
  | succ k ih =>
    rw [ih (by omega)]
    have e := ev_spf X (dd X Y 0) n (n - (k + 1 + 1)) (by omega) x
    rw [show n - (k + 1 + 1) + 1 = n - (k + 1) by omega, show n - 1 - (n - (k + 1 + 1)) = k + 1 by omega] at e
    rw [e]
    show _ = (nw X Y x 0 k ^^^ mul (dd X Y 0 (k + 1)) (wn X x 0 (k + 1))) ^^^ mul (mul (wn X x 0 (k + 1)) (x ^^^ X (0 + (k + 1)))) _
    rw [Nat.zero_add]
    generalize wn X x 0 (k + 1) = w
    generalize dd X Y 0 (k + 1) = D
    generalize nw X Y x 0 k = P
    generalize ev (spf X (dd X Y 0) n (n - (k + 1 + 1))) x = Q
    generalize X (k + 1) = xe
    simp only [mul_xor2, mul_comm, mlc, UInt8.xor_assoc]

def gt (l : List UInt8) (i : Nat) : UInt8 := l[i]?.getD 0

/-- The polynomial through the points. -/
def thr (xs ys : List UInt8) : List UInt8 := spf (gt xs) (dd (gt xs) (gt ys) 0) xs.length xs.length

theorem thr_length (xs ys : List UInt8) : (thr xs ys).length = xs.length := spf_length _ _ _ _

theorem thr_at (xs ys : List UInt8) (nd : xs.Nodup) (i : Nat) (hi : i < xs.length) : ev (thr xs ys) (gt xs i) = gt ys i := by
  unfold thr
  rw [spf_nw (gt xs) (gt ys) xs.length (xs.length - 1) (by omega), show xs.length - 1 + 1 = xs.length by omega, Nat.sub_self]
  have h0 : ev (spf (gt xs) (dd (gt xs) (gt ys) 0) xs.length 0) (gt xs i) = 0 := ev_zeros _ _
  rw [h0, mul_zero, UInt8.xor_zero]
  have := nw_at (gt xs) (gt ys) xs.length (xs.length - 1) 0 i (by omega) (by omega) (fun a b hab hb e => by
    unfold gt at e
    rw [List.getElem?_eq_getElem (by omega), List.getElem?_eq_getElem hb] at e
    simp only [Option.getD_some] at e
    have := (List.getElem_inj nd).1 e
    omega)
  rwa [Nat.zero_add] at this

/-- What has fewer coefficients comes back. -/
theorem thr_back (xs p : List UInt8) (nd : xs.Nodup) (hp : p.length ≤ xs.length) : thr xs (xs.map (ev p)) = p ++ List.replicate (xs.length - p.length) 0 := by
  refine ev_unique _ _ xs (thr_length _ _) (by simp; omega) nd fun x hx => ?_
  obtain ⟨i, hi, rfl⟩ := List.getElem_of_mem hx
  have h := thr_at xs (xs.map (ev p)) nd i hi
  unfold gt at h
  rw [List.getElem?_eq_getElem hi] at h
  simp only [Option.getD_some, List.getElem?_map, List.getElem?_eq_getElem hi, Option.map_some] at h
  rw [h, ev_pad]

end Go.Proofs.Ytckmddkhkdcmmaa
