/-
  A rule for a region that draws its order, whose operations only read, but for the last, which waits for all the others: the others are walked once, in the order of the text, and then the last.
-/
import Derived.Test.YtbenailemoefhaaMem
import Derived.BigQuiet
import Derived.Orders
import Derived.KernelRfl
namespace Go.Proofs.Ytbenailemoefhaa
open Go.RowKit
set_option linter.unusedVariables false
set_option linter.unusedSimpArgs false

/-- Edges lead back. -/
def backB (l : List Oper) : Nat → Bool
  | k => match l with
    | [] => true
    | o :: l => (o.after.all fun e => !Region.binds .any e || decide (e.on < k)) && backB l (k + 1)

theorem backB_get {l : List Oper} {k : Nat} (h : backB l k = true) {i : Nat} {o : Oper} (ho : l[i]? = some o) : ∀ e ∈ o.after, Region.binds .any e = true → e.on < k + i := by
  induction l generalizing k i with
  | nil => simp at ho
  | cons x l ih =>
    simp only [backB, Bool.and_eq_true] at h
    cases i with
    | zero =>
      simp at ho
      subst ho
      intro e he hb
      have := (Array.all_eq_true_iff_forall_mem.1 h.1) e he
      simp [hb] at this
      omega
    | succ i =>
      simp at ho
      intro e he hb
      have := ih h.2 ho e he hb
      omega

/-- Where nothing is ready all are listed. -/
theorem all_listed {l : List Oper} (hB : backB l 0 = true) {listed : Array Bool} (hs : listed.size = l.length) (hr : Region.ready .any l.toArray listed = []) : ∀ i, i < l.length → listed.getD i false = true := by
  intro i
  induction i using Nat.strongRecOn with
  | ind i ih =>
    intro hi
    cases hv : listed.getD i false with
    | true => rfl
    | false =>
      exfalso
      have hmem : i ∈ Region.ready .any l.toArray listed := by
        rw [mem_ready]
        refine ⟨?_, l[i], by simp [hi], fun e he hb => ?_⟩
        · have hlt : i < listed.size := by omega
          simp [hlt] at hv ⊢
          exact hv
        · have := backB_get hB (show l[i]? = some l[i] by simp [hi]) e he hb
          exact ih e.on (by omega) (by omega)
      rw [hr] at hmem
      simp at hmem

def waitsB (o : Oper) (j : Nat) : Bool := o.after.any fun e => Region.binds .any e && e.on == j

section
variable {P : Program} {C : World → Prop}

theorem app_get {l zs : List Oper} {i : Nat} (h : i < l.length) : (l ++ zs).toArray[i]? = l.toArray[i]? := by
  simp [List.getElem?_append, h]

theorem listed_app {listed : Array Bool} {m i : Nat} (d : Bool) (h : i < listed.size) : (listed ++ Array.replicate m false).getD i d = listed.getD i d := by
  simp only [Array.getD_eq_getD_getElem?]
  rw [Array.getElem?_append_left h]

/-- What has come up has all that it waits for ahead of it. -/
def Closed (l : List Oper) (listed : Array Bool) : Prop := ∀ i o, l[i]? = some o → listed.getD i false = true → ∀ e ∈ o.after, Region.binds .any e = true → listed.getD e.on false = true

theorem Closed.set {l : List Oper} {listed : Array Bool} (h : Closed l listed) {i : Nat} (hi : i ∈ Region.ready .any l.toArray listed) : Closed l (listed.setIfInBounds i true) := by
  obtain ⟨g1, o, ho, g2⟩ := mem_ready.1 hi
  have hmono : ∀ k, listed.getD k false = true → (listed.setIfInBounds i true).getD k false = true := fun k hk => by
    by_cases e : i = k
    · subst e
      have hlt : i < listed.size := by
        rcases Nat.lt_or_ge i listed.size with h' | h'
        · exact h'
        · simp [Array.getElem?_eq_none h'] at hk
      simp [hlt]
    · rw [getD_set_ne false e]; exact hk
  intro k ok hok hk e he hb
  by_cases eq : i = k
  · subst eq
    have : ok = o := by rw [show l[i]? = some o by simpa using ho] at hok; simpa using hok.symm
    subst this
    exact hmono _ (g2 e he hb)
  · rw [getD_set_ne false eq] at hk
    exact hmono _ (h k ok hok hk e he hb)

/-- Does operation i wait for operation j, itself or through others? -/
def needsB (l : List Oper) : Nat → Nat → Nat → Bool
  | 0, _, _ => false
  | f + 1, i, j => match l[i]? with
    | some o => waitsB o j || o.after.any fun e => Region.binds .any e && needsB l f e.on j
    | none => false

theorem waitsB_get {o : Oper} {j : Nat} (h : waitsB o j = true) : ∃ e ∈ o.after, Region.binds .any e = true ∧ e.on = j := by
  unfold waitsB at h
  rw [← Array.any_toList, List.any_eq_true] at h
  obtain ⟨e, he', hb⟩ := h
  simp only [Bool.and_eq_true, beq_iff_eq] at hb
  exact ⟨e, by simpa using he', hb.1, hb.2⟩

theorem needsB_get {l : List Oper} {listed : Array Bool} (hC : Closed l listed) : ∀ (f i j : Nat) (o : Oper), l[i]? = some o → (∀ e ∈ o.after, Region.binds .any e = true → listed.getD e.on false = true) → needsB l f i j = true → listed.getD j false = true := by
  intro f
  induction f with
  | zero => intro i j o _ _ h; simp [needsB] at h
  | succ f ih =>
    intro i j o ho hd h
    unfold needsB at h
    rw [ho] at h
    simp only [Bool.or_eq_true] at h
    rcases h with h | h
    · obtain ⟨e, he, hb, rfl⟩ := waitsB_get h
      exact hd e he hb
    · rw [← Array.any_toList, List.any_eq_true] at h
      obtain ⟨e, he', hb⟩ := h
      simp only [Bool.and_eq_true] at hb
      have he : e ∈ o.after := by simpa using he'
      have hl := hd e he hb.1
      have h2 := hb.2
      cases hoe : l[e.on]? with
      | none =>
        cases f with
        | zero => simp [needsB] at h2
        | succ f => unfold needsB at h2; rw [hoe] at h2; simp at h2
      | some o2 => exact ih e.on j o2 hoe (fun e2 he2 hb2 => hC e.on o2 hoe hl e2 he2 hb2) h2

/-- The operation at k waits for all ahead of it, and each behind it for the one ahead of it. -/
def seqB (l : List Oper) (k : Nat) : Bool := ((List.range k).all fun j => needsB l 50 k j) && (List.range l.length).all fun i => decide (i ≤ k) || match l[i]? with
  | some o => waitsB o (i - 1)
  | none => true

theorem seqB_get {l : List Oper} {k i : Nat} (h : seqB l k = true) (hi : i < l.length) (hk : k < i) {o : Oper} (ho : l[i]? = some o) : ∃ e ∈ o.after, Region.binds .any e = true ∧ e.on = i - 1 := by
  unfold seqB at h
  rw [Bool.and_eq_true] at h
  have h1 := List.all_eq_true.1 h.2 i (by simpa using hi)
  rw [ho] at h1
  simp only [Bool.or_eq_true, decide_eq_true_eq] at h1
  exact waitsB_get (h1.resolve_left (by omega))

theorem seqB_needs {l : List Oper} {k : Nat} (h : seqB l k = true) {j : Nat} (hj : j < k) : needsB l 50 k j = true := by
  unfold seqB at h
  rw [Bool.and_eq_true] at h
  exact List.all_eq_true.1 h.1 j (by simpa using hj)

/-- The tail, in the order of the text. -/
theorem seq_tail {ops : List Oper} {Q : Exit → Act → World → Prop} (hB : backB ops 0 = true) (n : Nat) (hS : seqB ops n = true) :
    ∀ (zs : List Oper) (k : Nat), n ≤ k → ops.drop k = zs → ∀ (listed : Array Bool) (a : Act) (w : World) (fuel : Nat), listed.size = ops.length → (∀ i, i < k → i < ops.length → listed.getD i false = true) → (∀ i, k ≤ i → i < ops.length → listed.getD i true = false) →
      zs.length ≤ fuel → wpList P ops.toArray Q zs a w → wpAny P .any ops.toArray Q fuel listed a w := by
  intro zs
  induction zs with
  | nil =>
    intro k hk hd listed a w fuel hs h1 h2 hf h
    have hlen : ops.length ≤ k := by
      have := congrArg List.length hd
      simp at this
      omega
    have hr : Region.ready .any ops.toArray listed = [] := by
      rw [List.eq_nil_iff_forall_not_mem]
      intro i hi
      obtain ⟨g1, o, ho, -⟩ := mem_ready.1 hi
      have hil : i < ops.length := by
        have := (Array.getElem?_eq_some_iff.1 ho).1
        simpa using this
      have h3 := h1 i (by omega) hil
      have hlt : i < listed.size := by omega
      simp [hlt] at g1 h3
      rw [g1] at h3
      exact absurd h3 (by decide)
    cases fuel with
    | zero => exact ⟨hr, h⟩
    | succ f => exact ⟨fun _ => h, fun i hi => by rw [hr] at hi; simp at hi⟩
  | cons z zs ih =>
    intro k hk hd listed a w fuel hs h1 h2 hf h
    have hkl : k < ops.length := by
      have := congrArg List.length hd
      simp at this
      omega
    have hz : ops[k]? = some z := by
      have := congrArg (fun l => l[0]?) hd
      simpa using this
    have hd' : ops.drop (k + 1) = zs := by
      have := congrArg List.tail hd
      simpa using this
    obtain ⟨f, rfl⟩ : ∃ f, fuel = f + 1 := ⟨fuel - 1, by simp at hf; omega⟩
    refine ⟨fun hr => ?_, fun i hi => ?_⟩
    · have h3 := all_listed hB hs hr k hkl
      have h4 := h2 k (Nat.le_refl _) hkl
      have hlt : k < listed.size := by omega
      simp [hlt] at h3 h4
      rw [h3] at h4
      exact absurd h4 (by decide)
    · obtain ⟨g1, o, ho, g2⟩ := mem_ready.1 hi
      have hil : i < ops.length := by
        have := (Array.getElem?_eq_some_iff.1 ho).1
        simpa using this
      have hlt : i < listed.size := by omega
      have hik : i = k := by
        rcases Nat.lt_trichotomy i k with h3 | h3 | h3
        · have h4 := h1 i h3 hil
          simp [hlt] at g1 h4
          rw [g1] at h4
          exact absurd h4 (by decide)
        · exact h3
        · obtain ⟨e, he, hb, hon⟩ := seqB_get hS hil (by omega) (show ops[i]? = some o by simpa using ho)
          have h4 := g2 e he hb
          have h5 := h2 (i - 1) (by omega) (by omega)
          rw [hon] at h4
          have hlt2 : i - 1 < listed.size := by omega
          simp [hlt2] at h4 h5
          rw [h4] at h5
          exact absurd h5 (by decide)
      subst hik
      have hnext : ∀ a' w', wpList P ops.toArray Q zs a' w' → wpAny P .any ops.toArray Q f (listed.setIfInBounds i true) a' w' := fun a' w' h' =>
        ih (i + 1) (by omega) hd' (listed.setIfInBounds i true) a' w' f (by simpa using hs)
          (fun j hj hjl => by
            by_cases e : i = j
            · subst e; simp [hlt]
            · rw [getD_set_ne false e]; exact h1 j (by omega) hjl)
          (fun j hj hjl => by
            rw [getD_set_ne true (by omega)]; exact h2 j (by omega) hjl)
          (by simp at hf; omega) h'
      unfold wpOp
      have hz' : ops.toArray[i]? = some z := by simpa using hz
      simp only [hz']
      unfold wpList at h
      split
      · rename_i hw
        rw [if_pos hw] at h
        exact h.imp (Oper.wp_mono hnext) id
      · rename_i hw
        rw [if_neg hw] at h
        exact hnext _ _ h

def guardsB (l : List Oper) : Bool := l.all fun o => match o.guard with
  | some (j, _) => decide (j < l.length)
  | none => true

theorem wanted_app {l zs : List Oper} (hg : guardsB l = true) {o : Oper} (ho : o ∈ l) (tmps : Array Value) : Region.wanted o (yielded (l ++ zs).toArray tmps) = Region.wanted o (yielded l.toArray tmps) := by
  have h1 := List.all_eq_true.1 hg o ho
  unfold Region.wanted
  cases hgd : o.guard with
  | none => rfl
  | some g =>
    obtain ⟨j, b⟩ := g
    rw [hgd] at h1
    have hj : j < l.length := by simpa using h1
    simp only [yielded, app_get hj]

theorem wpAny_of_quietTail {l zs : List Oper} {Q : Act → Prop} {Q' : Exit → Act → World → Prop} (hB : backB (l ++ zs) 0 = true) (hBl : backB l 0 = true) (hS : seqB (l ++ zs) l.length = true) (hG : guardsB l = true)
    (hQ : ∀ a w, C w → Q a → wpList P (l ++ zs).toArray Q' zs a w) : ∀ (fuel : Nat) (listed : Array Bool) (a : Act) (w : World), C w → listed.size = l.length → Closed l listed →
    wpAnyQ P .any l.toArray C Q fuel listed a → wpAny P .any (l ++ zs).toArray Q' (fuel + zs.length) (listed ++ Array.replicate zs.length false) a w := by
  have tail : ∀ (listed : Array Bool) (a : Act) (w : World) (fuel : Nat), listed.size = l.length → (∀ i, i < l.length → listed.getD i false = true) → zs.length ≤ fuel → wpList P (l ++ zs).toArray Q' zs a w → wpAny P .any (l ++ zs).toArray Q' fuel (listed ++ Array.replicate zs.length false) a w := by
    intro listed a w fuel hs hall hf h
    refine seq_tail hB l.length hS zs l.length (Nat.le_refl _) (by simp) _ a w fuel (by simp [hs]) (fun i hi _ => ?_) (fun i hi hil => ?_) hf h
    · rw [listed_app false (by omega)]; exact hall i hi
    · simp only [Array.getD_eq_getD_getElem?]
      rw [Array.getElem?_append_right (by omega), Array.getElem?_replicate]
      rw [if_pos (by simp at hil; omega)]
      rfl
  have hold : ∀ (listed : Array Bool), listed.size = l.length → ∀ i, i < l.length → i ∈ Region.ready .any (l ++ zs).toArray (listed ++ Array.replicate zs.length false) → i ∈ Region.ready .any l.toArray listed := by
    intro listed hs i hil hi
    obtain ⟨g1, o, ho, g2⟩ := mem_ready.1 hi
    rw [app_get hil] at ho
    rw [listed_app true (by omega)] at g1
    refine mem_ready.2 ⟨g1, o, ho, fun e he hb => ?_⟩
    have h4 := backB_get hBl (show l[i]? = some o by simpa using ho) e he hb
    have h5 := g2 e he hb
    rwa [listed_app false (by omega)] at h5
  have hclosed : ∀ (listed : Array Bool), listed.size = l.length → Closed l listed → Closed (l ++ zs) (listed ++ Array.replicate zs.length false) := by
    intro listed hs hc i o ho hi e he hb
    have hil : i < l.length := by
      rcases Nat.lt_or_ge i l.length with h' | h'
      · exact h'
      · simp only [Array.getD_eq_getD_getElem?] at hi
        rw [Array.getElem?_append_right (by omega), Array.getElem?_replicate] at hi
        split at hi <;> simp at hi
    rw [List.getElem?_append_left hil] at ho
    rw [listed_app false (by omega)] at hi
    have h4 := backB_get hBl ho e he hb
    rw [listed_app false (by omega)]
    exact hc i o ho hi e he hb
  have hnew : ∀ (listed : Array Bool), listed.size = l.length → Closed l listed → ∀ i, ¬ i < l.length → i ∈ Region.ready .any (l ++ zs).toArray (listed ++ Array.replicate zs.length false) → ∀ j, j < l.length → listed.getD j false = true := by
    intro listed hs hc i hil hi j hj
    obtain ⟨g1, o, ho, g2⟩ := mem_ready.1 hi
    have hil2 : i < (l ++ zs).length := by
      have := (Array.getElem?_eq_some_iff.1 ho).1
      simpa using this
    have ho' : (l ++ zs)[i]? = some o := by simpa using ho
    by_cases hik : i = l.length
    · subst hik
      have := needsB_get (hclosed listed hs hc) 50 l.length j o ho' g2 (seqB_needs hS hj)
      rwa [listed_app false (by omega)] at this
    · exfalso
      obtain ⟨e, he, hb, hon⟩ := seqB_get hS hil2 (by omega) ho'
      have h5 := g2 e he hb
      rw [hon] at h5
      simp only [Array.getD_eq_getD_getElem?] at h5
      rw [Array.getElem?_append_right (by omega), Array.getElem?_replicate] at h5
      split at h5 <;> simp at h5
  intro fuel
  induction fuel with
  | zero =>
    intro listed a w hC hs hcl h
    have hall := all_listed hBl hs h.1
    rw [Nat.zero_add]
    exact tail listed a w _ hs hall (Nat.le_refl _) (hQ a w hC h.2)
  | succ fuel ih =>
    intro listed a w hC hs hcl h
    by_cases hr : Region.ready .any l.toArray listed = []
    · exact tail listed a w _ hs (all_listed hBl hs hr) (by omega) (hQ a w hC (h.1 hr))
    · rw [show fuel + 1 + zs.length = (fuel + zs.length) + 1 by omega]
      have hsome : ∀ i, i ∈ Region.ready .any (l ++ zs).toArray (listed ++ Array.replicate zs.length false) → i < l.length := by
        intro i hi
        by_cases hil : i < l.length
        · exact hil
        · exfalso
          apply hr
          have hall := hnew listed hs hcl i hil hi
          rw [List.eq_nil_iff_forall_not_mem]
          intro j hj
          obtain ⟨g1, o, ho, -⟩ := mem_ready.1 hj
          have hjl : j < l.length := by
            have := (Array.getElem?_eq_some_iff.1 ho).1
            simpa using this
          have h3 := hall j hjl
          have hlt : j < listed.size := by omega
          simp [hlt] at g1 h3
          rw [g1] at h3
          exact absurd h3 (by decide)
      refine ⟨fun hr2 => ?_, fun i hi => ?_⟩
      · exfalso
        apply hr
        rw [List.eq_nil_iff_forall_not_mem]
        intro j hj
        obtain ⟨g1, o, ho, -⟩ := mem_ready.1 hj
        have hjl : j < l.length := by
          have := (Array.getElem?_eq_some_iff.1 ho).1
          simpa using this
        have h3 := all_listed hB (by simp [hs]) hr2 j (by simp; omega)
        rw [listed_app false (by omega)] at h3
        have hlt : j < listed.size := by omega
        simp [hlt] at g1 h3
        rw [g1] at h3
        exact absurd h3 (by decide)
      · have hil := hsome i hi
        have hq := h.2 i (hold listed hs i hil hi)
        unfold qOp at hq
        unfold wpOp
        rw [app_get hil]
        obtain ⟨o, ho⟩ : ∃ o, l.toArray[i]? = some o := ⟨l[i], by simp [hil]⟩
        have hmem : o ∈ l := List.mem_of_getElem? (show l[i]? = some o by simpa using ho)
        simp only [ho] at hq ⊢
        rw [wanted_app hG hmem]
        have hnext : ∀ a' w', C w' → wpAnyQ P .any l.toArray C Q fuel (listed.setIfInBounds i true) a' → wpAny P .any (l ++ zs).toArray Q' (fuel + zs.length) ((listed ++ Array.replicate zs.length false).setIfInBounds i true) a' w' := by
          intro a' w' hC' h'
          have := ih (listed.setIfInBounds i true) a' w' hC' (by simp [hs]) (hcl.set (hold listed hs i hil hi)) h'
          rwa [← Array.setIfInBounds_append_left (by omega)] at this
        split
        · rename_i hw
          rw [if_pos hw] at hq
          exact .inl (Oper.wp_of_quiet hC hnext hq)
        · rename_i hw
          rw [if_neg hw] at hq
          exact hnext _ _ hC hq

/-- What the rule asks of the region's edges. -/
def tailB (l : List Oper) (n : Nat) : Bool := backB l 0 && backB (l.take n) 0 && Region.lexB .any (l.take n).toArray && guardsB (l.take n) && seqB l n && decide (n ≤ l.length)

/-- THE RULE. -/
theorem wp_region_quietTail (n : Nat) {id : Nat} {Q : Exit → Act → World → Prop} {a : Act} {w : World} {l : List Oper} (hm : P.follows .mixedOrders = true) (hB : tailB l n = true)
    (h : wpQuiet P (l.take n).toArray (fun w' => ∃ n, w' = w.drewN n) (fun a' => ∀ w', (∃ n, w' = w.drewN n) → wpList P l.toArray Q (l.drop n) a' w') (l.take n) a) : (Code.region id l.toArray true).wp P Q a w := by
  unfold tailB at hB
  simp only [Bool.and_eq_true, decide_eq_true_eq] at hB
  obtain ⟨⟨⟨⟨⟨h1, h2⟩, h3⟩, h4⟩, h5⟩, h6⟩ := hB
  have hlen : (l.take n).length = n := by simp; omega
  have e := List.take_append_drop n l
  generalize l.take n = l1 at *
  generalize l.drop n = zs at *
  subst e
  simp only [Region.lexB, Bool.and_eq_true] at h3
  refine wp_region_any hm ?_
  have hq := wpAnyQ_lex (P := P) (C := fun w' => ∃ n, w' = w.drewN n) (md := .any) h3.1 l1 0 (Array.replicate l1.length false) a (by simp) (by simpa using h3.2) h
  have := wpAny_of_quietTail (Q' := Q) h1 h2 (by rw [hlen]; exact h5) h4 (fun a' w' hC hq => hq w' hC) _ _ a w.drew ⟨1, rfl⟩ (by simp) (fun i o _ hi => by
    simp only [Array.getD_eq_getD_getElem?, Array.getElem?_replicate] at hi
    split at hi <;> simp at hi) hq
  rw [Array.replicate_append_replicate] at this
  simpa using this

/-- The same, over any class of worlds. -/
theorem wp_region_quietTailC (n : Nat) {id : Nat} {Q : Exit → Act → World → Prop} {a : Act} {w : World} {l : List Oper} (hm : P.follows .mixedOrders = true) (hB : tailB l n = true) (hC : C w.drew)
    (h : wpQuiet P (l.take n).toArray C (fun a' => ∀ w', C w' → wpList P l.toArray Q (l.drop n) a' w') (l.take n) a) : (Code.region id l.toArray true).wp P Q a w := by
  unfold tailB at hB
  simp only [Bool.and_eq_true, decide_eq_true_eq] at hB
  obtain ⟨⟨⟨⟨⟨h1, h2⟩, h3⟩, h4⟩, h5⟩, h6⟩ := hB
  have hlen : (l.take n).length = n := by simp; omega
  have e := List.take_append_drop n l
  generalize l.take n = l1 at *
  generalize l.drop n = zs at *
  subst e
  simp only [Region.lexB, Bool.and_eq_true] at h3
  refine wp_region_any hm ?_
  have hq := wpAnyQ_lex (P := P) (C := C) (md := .any) h3.1 l1 0 (Array.replicate l1.length false) a (by simp) (by simpa using h3.2) h
  have := wpAny_of_quietTail (Q' := Q) h1 h2 (by rw [hlen]; exact h5) h4 (fun a' w' hC hq => hq w' hC) _ _ a w.drew hC (by simp) (fun i o _ hi => by
    simp only [Array.getD_eq_getD_getElem?, Array.getElem?_replicate] at hi
    split at hi <;> simp at hi) hq
  rw [Array.replicate_append_replicate] at this
  simpa using this
end

end Go.Proofs.Ytbenailemoefhaa
