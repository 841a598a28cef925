/-
  Ranks, plainly: a matrix is a product of a tall one and a wide one of that many columns, and of no fewer; so turned ones have the same rank, products no greater one; inverses of inverses, and of products.
-/
import Derived.Test.YtckmddkhkdcmmaaM25
namespace Go.Proofs.Ytckmddkhkdcmmaa
set_option linter.unusedVariables false
set_option linter.unusedSimpArgs false
set_option linter.unusedVariables false
set_option linter.unusedSimpArgs false

/-- Behind the columns below K: which columns lead. -/
def Led (s : List (List UInt8) × Nat) (K : Nat) (l : Nat → Nat) : Prop :=
  (∀ t, t < s.2 → l t < K) ∧ (∀ t, t < s.2 → ∀ i, i < s.1.length → cel s.1 i (l t) = if i = t then 1 else 0) ∧ ∀ i, s.2 ≤ i → i < s.1.length → ∀ c, c < K → cel s.1 i c = 0

theorem led_stp {s : List (List UInt8) × Nat} {N K : Nat} {l : Nat → Nat} (hw : Wid s.1 N) (h : Led s K l) (hd : s.2 ≤ s.1.length) : ∃ l', Led (stp s K) (K + 1) l' := by
  obtain ⟨h1, h2, h3⟩ := h
  rcases stp_two (s := s) (col := K) with ⟨e1, e2, e3⟩ | ⟨e1, r, hr, e2⟩
  · rw [e2]
    refine ⟨l, fun t ht => by have := h1 t ht; omega, h2, fun i hi hil c hc => ?_⟩
    by_cases e : c = K
    · rw [e]; exact lead_none e3 i hi hil
    · exact h3 i hi hil c (by omega)
  · obtain ⟨q1, q2, q3⟩ := lead_some hr
    obtain ⟨ls, d⟩ := s
    simp only at *
    have hdl : d < ls.length := by omega
    have w1 := hw.stp1 (d := d) (col := K) (r := r) hdl q2
    have w2 := w1.stp2 (d := d) (col := K) (by rw [stp1_length]; omega)
    have l1 : (stp1 ls d K r).length = ls.length := by rw [stp1_length]
    have l2 : (stp2 (stp1 ls d K r) d K).length = ls.length := by rw [stp2_length, stp1_length]
    have hp : cel (stp1 ls d K r) d K ≠ 0 := by rw [cel_lead hr]; exact q3
    have p2 : cel (stp2 (stp1 ls d K r) d K) d K = 1 := by rw [cel_stp2 (by omega), if_pos rfl, div_mul hp]
    -- columns in which the rows from d on are 0 stay as they are
    have keep : ∀ c, (∀ i, d ≤ i → i < ls.length → cel ls i c = 0) → ∀ i, i < ls.length → cel (clr (stp2 (stp1 ls d K r) d K) d K) i c = cel ls i c := by
      intro c hz i hi
      have s1 : ∀ i, i < ls.length → cel (stp1 ls d K r) i c = cel ls i c := by
        intro i hi
        rw [cel_stp1 hdl q2]
        by_cases e1 : i = r
        · rw [if_pos e1, hz d (Nat.le_refl _) hdl, e1, hz r q1 q2]
        · rw [if_neg e1]
          by_cases e2 : i = d
          · rw [if_pos e2, hz r q1 q2, e2, hz d (Nat.le_refl _) hdl]
          · rw [if_neg e2]
      have s2 : ∀ i, i < ls.length → cel (stp2 (stp1 ls d K r) d K) i c = cel ls i c := by
        intro i hi
        rw [cel_stp2 (by omega)]
        by_cases e : i = d
        · rw [if_pos e, s1 d hdl, hz d (Nat.le_refl _) hdl, mul_zero, e, hz d (Nat.le_refl _) hdl]
        · rw [if_neg e]; exact s1 i hi
      rw [cel_clr w2 (by omega) i c (by omega)]
      by_cases e : i = d
      · rw [if_pos e]; exact s2 i hi
      · rw [if_neg e, s2 i hi, s2 d hdl, hz d (Nat.le_refl _) hdl, mul_zero, UInt8.xor_zero]
    have newc : ∀ i, i < ls.length → cel (clr (stp2 (stp1 ls d K r) d K) d K) i K = if i = d then 1 else 0 := by
      intro i hi
      rw [cel_clr w2 (by omega) i K (by omega)]
      by_cases e : i = d
      · rw [if_pos e, if_pos e, e]; exact p2
      · rw [if_neg e, if_neg e, p2, mul_one, UInt8.xor_self]
    refine ⟨fun t => if t < d then l t else K, ?_, ?_, ?_⟩
    · intro t ht
      dsimp only
      split
      · rename_i h; have := h1 t h; omega
      · omega
    · intro t ht i hi
      rw [e2] at hi ⊢
      rw [clr_length, l2] at hi
      rw [e1] at ht
      dsimp only
      by_cases h : t < d
      · rw [if_pos h, keep (l t) (fun i q q' => by rw [h2 t h i q', if_neg (by omega)]) i hi]
        exact h2 t h i hi
      · rw [if_neg h, newc i hi]
        have : t = d := by omega
        rw [this]
    · intro i hi hil c hc
      rw [e2] at hil ⊢
      rw [clr_length, l2] at hil
      rw [e1] at hi
      by_cases e : c = K
      · rw [e, newc i hil, if_neg (by omega)]
      · rw [keep c (fun i q q' => h3 i q q' c (by omega)) i hil]
        exact h3 i (by omega) hil c (by omega)
theorem led_redK {ls : List (List UInt8)} {N : Nat} (hw : Wid ls N) (K : Nat) : ∃ l, Led (redK ls K) K l := by
  induction K with
  | zero => exact ⟨fun _ => 0, fun t ht => by simp [redK] at ht, fun t ht => by simp [redK] at ht, fun i _ _ c hc => by omega⟩
  | succ K ih =>
    obtain ⟨l, h⟩ := ih
    exact led_stp (hw.redK K) h (by have := redK_le ls K; have := redK_length ls K; omega)

/-- A matrix as a product by way of k columns. -/
def Fac (A : Nat → Nat → UInt8) (rows cols k : Nat) : Prop := ∃ X Y : Nat → Nat → UInt8, ∀ r c, r < rows → c < cols → A r c = sg k (fun t => mul (X r t) (Y t c))
/-- The rank, as the program tells it. -/
def rk (l : List UInt8) (rows cols : Nat) : Nat := (redK (bsd l cols 0 eyeC rows) cols).2

theorem sg_pick {M : Nat} (f : Nat → UInt8) {x : Nat} (hx : x < M) (w : UInt8) : sg M (fun c => mul (f c) (if c = x then w else 0)) = mul (f x) w := by
  rw [sg_one hx (fun i _ hne => by rw [if_neg hne, mul_zero]), if_pos rfl]
theorem sg_picks {M k : Nat} (f : Nat → UInt8) (l : Nat → Nat) (hl : ∀ t, t < k → l t < M) (w : Nat → UInt8) : sg M (fun c => mul (f c) (sg k (fun t => if c = l t then w t else 0))) = sg k (fun t => mul (f (l t)) (w t)) := by
  have : sg M (fun c => mul (f c) (sg k (fun t => if c = l t then w t else 0))) = sg M (fun c => sg k (fun t => mul (f c) (if c = l t then w t else 0))) := sg_congr (fun c _ => (sg_mul k (f c) _).symm)
  rw [this, sg_swap]
  exact sg_congr (fun t ht => sg_pick f (hl t ht) (w t))

theorem rk_rows {l : List UInt8} {rows cols : Nat} (hl : l.length = rows * cols) : Wid (bsd l cols 0 eyeC rows) (cols + 0) := by
  intro x hx
  unfold bsd at hx
  obtain ⟨r, hr, rfl⟩ := List.mem_map.1 hx
  exact brow_length hl (List.mem_range.1 hr)
theorem rk_fac {l : List UInt8} {rows cols : Nat} (hl : l.length = rows * cols) : Fac (mc l cols) rows cols (rk l rows cols) := by
  have hw := rk_rows hl
  obtain ⟨ld, h1, h2, h3⟩ := led_redK hw cols
  have hlen : (redK (bsd l cols 0 eyeC rows) cols).1.length = rows := by rw [redK_length, bsd_length]
  have hle : (redK (bsd l cols 0 eyeC rows) cols).2 ≤ rows := by have := redK_le (bsd l cols 0 eyeC rows) cols; rwa [bsd_length] at this
  unfold rk
  have hk : ∀ v, Ker (redK (bsd l cols 0 eyeC rows) cols).1 cols v ↔ Ker (bsd l cols 0 eyeC rows) cols v := fun v => ker_redK hw cols v
  generalize redK (bsd l cols 0 eyeC rows) cols = s at *
  obtain ⟨R, k⟩ := s
  simp only at *
  refine ⟨fun r t => mc l cols r (ld t), fun t c => cel R t c, fun r c hr hc => ?_⟩
  -- the rows are 0 at: c, and what it has in the leading columns
  have hv : Ker R cols (fun x => (if x = c then 1 else 0) ^^^ sg k (fun t => if x = ld t then cel R t c else 0)) := by
    intro i hi
    rw [hlen] at hi
    unfold dot
    have e : sg cols (fun x => mul (cel R i x) ((if x = c then 1 else 0) ^^^ sg k (fun t => if x = ld t then cel R t c else 0))) = sg cols (fun x => mul (cel R i x) (if x = c then 1 else 0) ^^^ mul (cel R i x) (sg k (fun t => if x = ld t then cel R t c else 0))) := sg_congr (fun x _ => mul_xor2 _ _ _)
    rw [e, sg_add, sg_pick (fun x => cel R i x) hc 1, mul_one, sg_picks (fun x => cel R i x) ld h1 (fun t => cel R t c)]
    by_cases hik : i < k
    · rw [sg_one (j := i) hik (fun t ht hne => by rw [h2 t ht i (by omega), if_neg (fun h => hne h.symm), zero_mul]), h2 i hik i (by omega), if_pos rfl, one_mul, UInt8.xor_self]
    · rw [h3 i (by omega) (by omega) c hc, sg_zero (fun t ht => by rw [h2 t ht i (by omega), if_neg (by omega), zero_mul])]
      rfl
  have hA := (hk _).1 hv r (by rw [bsd_length]; exact hr)
  unfold dot at hA
  have hcel : ∀ x, x < cols → cel (bsd l cols 0 eyeC rows) r x = mc l cols r x := fun x hx => by rw [cel_bsd hl hr (by omega), if_pos hx]
  have e : sg cols (fun x => mul (cel (bsd l cols 0 eyeC rows) r x) ((if x = c then 1 else 0) ^^^ sg k (fun t => if x = ld t then cel R t c else 0))) = sg cols (fun x => mul (mc l cols r x) (if x = c then 1 else 0) ^^^ mul (mc l cols r x) (sg k (fun t => if x = ld t then cel R t c else 0))) := sg_congr (fun x hx => by rw [hcel x hx, mul_xor2])
  rw [e, sg_add, sg_pick (fun x => mc l cols r x) hc 1, mul_one, sg_picks (fun x => mc l cols r x) ld h1 (fun t => cel R t c)] at hA
  exact xor_cancel _ _ hA

theorem rk_min {l : List UInt8} {rows cols j : Nat} (hl : l.length = rows * cols) (hf : Fac (mc l cols) rows cols j) : rk l rows cols ≤ j := by
  have hw := rk_rows hl
  obtain ⟨ld, h1, h2, h3⟩ := led_redK hw cols
  have hlen : (redK (bsd l cols 0 eyeC rows) cols).1.length = rows := by rw [redK_length, bsd_length]
  have hle : (redK (bsd l cols 0 eyeC rows) cols).2 ≤ rows := by have := redK_le (bsd l cols 0 eyeC rows) cols; rwa [bsd_length] at this
  unfold rk
  have hk : ∀ v, Ker (redK (bsd l cols 0 eyeC rows) cols).1 cols v ↔ Ker (bsd l cols 0 eyeC rows) cols v := fun v => ker_redK hw cols v
  generalize redK (bsd l cols 0 eyeC rows) cols = s at *
  obtain ⟨R, k⟩ := s
  simp only at *
  rcases Nat.lt_or_ge j k with hjk | hjk
  · exfalso
    obtain ⟨X, Y, hXY⟩ := hf
    -- what the wide part, at the leading columns, is 0 at
    let ys : List (List UInt8) := (List.range j).map (fun s => (List.range k).map (fun t => Y s (ld t)))
    have hyl : ys.length = j := by simp [ys]
    have hyw : Wid ys k := by
      intro x hx
      obtain ⟨s, -, rfl⟩ := List.mem_map.1 hx
      simp
    have hyc : ∀ s t, s < j → t < k → cel ys s t = Y s (ld t) := by
      intro s t hs ht
      unfold cel
      simp [ys, hs, ht]
    obtain ⟨w, hwk, ⟨t0, ht0, hne⟩, -⟩ := ker_some (n := k) (M := k) hyw (Nat.le_refl _) (by have := redK_le ys k; omega)
    have hYw : ∀ s, s < j → sg k (fun t => mul (Y s (ld t)) (w t)) = 0 := fun s hs => by
      have := hwk s (by omega)
      unfold dot at this
      rw [← this]
      exact sg_congr (fun t ht => by rw [hyc s t hs ht])
    have hv : Ker (bsd l cols 0 eyeC rows) cols (fun x => sg k (fun t => if x = ld t then w t else 0)) := by
      intro r hr
      rw [bsd_length] at hr
      unfold dot
      have e : sg cols (fun x => mul (cel (bsd l cols 0 eyeC rows) r x) (sg k (fun t => if x = ld t then w t else 0))) = sg cols (fun x => mul (mc l cols r x) (sg k (fun t => if x = ld t then w t else 0))) := sg_congr (fun x hx => by rw [cel_bsd hl hr (by omega), if_pos hx])
      rw [e, sg_picks (fun x => mc l cols r x) ld h1 w]
      have e2 : sg k (fun t => mul (mc l cols r (ld t)) (w t)) = sg k (fun t => sg j (fun s => mul (X r s) (mul (Y s (ld t)) (w t)))) := sg_congr (fun t ht => by
        rw [hXY r (ld t) hr (h1 t ht), mul_comm, ← sg_mul]
        exact sg_congr (fun s _ => by rw [mul_comm (w t), mul_assoc]))
      rw [e2, sg_swap]
      refine sg_zero (fun s hs => ?_)
      rw [sg_mul, hYw s hs, mul_zero]
    have hR := (hk _).2 hv t0 (by omega)
    unfold dot at hR
    rw [sg_picks (fun x => cel R t0 x) ld h1 w, sg_one (j := t0) ht0 (fun t ht hne' => by rw [h2 t ht t0 (by omega), if_neg (fun h => hne' h.symm), zero_mul]), h2 t0 ht0 t0 (by omega), if_pos rfl, one_mul] at hR
    exact hne hR
  · exact hjk

theorem rk_le_cols (l : List UInt8) (rows cols : Nat) : rk l rows cols ≤ cols := redK_col _ _
theorem rk_le_rows (l : List UInt8) (rows cols : Nat) : rk l rows cols ≤ rows := by
  have := redK_le (bsd l cols 0 eyeC rows) cols
  rw [bsd_length] at this
  exact this
theorem Fac.turn {A B : Nat → Nat → UInt8} {rows cols k : Nat} (h : Fac A rows cols k) (hB : ∀ r c, r < cols → c < rows → B r c = A c r) : Fac B cols rows k := by
  obtain ⟨X, Y, h⟩ := h
  refine ⟨fun r t => Y t r, fun t c => X c t, fun r c hr hc => ?_⟩
  rw [hB r c hr hc, h c r hc hr]
  exact sg_congr (fun t _ => mul_comm _ _)
theorem mc_turn {l : List UInt8} {rows cols : Nat} (r c : Nat) (hr : r < cols) (hc : c < rows) : mc (tuL rows cols l) rows r c = mc l cols c r := mc_fl (rows := cols) hr hc
/-- Turned, the rank stays. -/
theorem rk_turn {l : List UInt8} {rows cols : Nat} (hl : l.length = rows * cols) : rk (tuL rows cols l) cols rows = rk l rows cols := by
  refine Nat.le_antisymm (rk_min (tuL_length rows cols l) ((rk_fac hl).turn (fun r c hr hc => mc_turn r c hr hc))) (rk_min hl ((rk_fac (tuL_length rows cols l)).turn (fun r c hr hc => (mc_turn c r hc hr).symm)))
theorem mc_prL {la lb : List UInt8} {rows cols wide r c : Nat} (hr : r < rows) (hc : c < wide) : mc (prL rows cols wide la lb) wide r c = sg cols (fun i => mul (mc la cols r i) (mc lb wide i c)) := mc_fl hr hc
/-- A product's rank is no greater. -/
theorem rk_prod {la lb : List UInt8} {rows cols wide : Nat} (hla : la.length = rows * cols) (hlb : lb.length = cols * wide) : rk (prL rows cols wide la lb) rows wide ≤ rk la rows cols ∧ rk (prL rows cols wide la lb) rows wide ≤ rk lb cols wide := by
  constructor
  · obtain ⟨X, Y, h⟩ := rk_fac hla
    refine rk_min (prL_length _ _ _ _ _) ⟨X, fun t c => sg cols (fun i => mul (Y t i) (mc lb wide i c)), fun r c hr hc => ?_⟩
    rw [mc_prL hr hc]
    have e : sg cols (fun i => mul (mc la cols r i) (mc lb wide i c)) = sg cols (fun i => sg (rk la rows cols) (fun t => mul (X r t) (mul (Y t i) (mc lb wide i c)))) := sg_congr (fun i hi => by
      rw [h r i hr hi, mul_comm, ← sg_mul]
      exact sg_congr (fun t _ => by rw [mul_comm (mc lb wide i c), mul_assoc]))
    rw [e, sg_swap]
    exact sg_congr (fun t _ => sg_mul _ _ _)
  · obtain ⟨X, Y, h⟩ := rk_fac hlb
    refine rk_min (prL_length _ _ _ _ _) ⟨fun r t => sg cols (fun i => mul (mc la cols r i) (X i t)), Y, fun r c hr hc => ?_⟩
    rw [mc_prL hr hc]
    have e : sg cols (fun i => mul (mc la cols r i) (mc lb wide i c)) = sg cols (fun i => sg (rk lb cols wide) (fun t => mul (mul (mc la cols r i) (X i t)) (Y t c))) := sg_congr (fun i hi => by
      rw [h i c hi hc, ← sg_mul]
      exact sg_congr (fun t _ => (mul_assoc _ _ _).symm))
    rw [e, sg_swap]
    refine sg_congr (fun t _ => ?_)
    rw [mul_comm, ← sg_mul]
    exact sg_congr (fun i _ => mul_comm _ _)
theorem rk_full {n : Nat} {l : List UInt8} (hl : l.length = n * n) : (invR n l).2 = n ↔ rk l n n = n :=
  ⟨fun h => full_of_reg (further := 0) (more := eyeC) hl (reg_of_full hl h), fun h => full_of_reg (further := n) (more := eyeC) hl (reg_of_full hl h)⟩

section
variable {n : Nat}
def pL (n : Nat) (A B : List UInt8) : List UInt8 := prL n n n A B
def eL (n : Nat) : List UInt8 := fl n eyeC (n * n)
theorem pL_length (A B : List UInt8) : (pL n A B).length = n * n := prL_length _ _ _ _ _
theorem ext_mc {A B : List UInt8} (hA : A.length = n * n) (hB : B.length = n * n) (h : ∀ r c, r < n → c < n → mc A n r c = mc B n r c) : A = B := by
  refine List.ext_getElem (by rw [hA, hB]) (fun i h1 h2 => ?_)
  rw [hA] at h1
  have hn : 0 < n := by
    rcases Nat.eq_zero_or_pos n with e | e
    · subst e; simp at h1
    · exact e
  have := h (i / n) (i % n) (Nat.div_lt_of_lt_mul h1) (Nat.mod_lt _ hn)
  unfold mc at this
  rw [Nat.mul_comm (i / n) n, Nat.div_add_mod, List.getElem?_eq_getElem (by omega), List.getElem?_eq_getElem (by omega)] at this
  simpa using this
theorem mc_pL {A B : List UInt8} {r c : Nat} (hr : r < n) (hc : c < n) : mc (pL n A B) n r c = sg n (fun i => mul (mc A n r i) (mc B n i c)) := mc_prL hr hc
theorem mc_eL {r c : Nat} (hr : r < n) (hc : c < n) : mc (eL n) n r c = eyeC r c := mc_fl hr hc
theorem pL_assoc (A B C : List UInt8) : pL n (pL n A B) C = pL n A (pL n B C) := by
  refine ext_mc (pL_length _ _) (pL_length _ _) (fun r c hr hc => ?_)
  rw [mc_pL hr hc, mc_pL hr hc]
  have e1 : sg n (fun i => mul (mc (pL n A B) n r i) (mc C n i c)) = sg n (fun i => sg n (fun t => mul (mc A n r t) (mul (mc B n t i) (mc C n i c)))) := sg_congr (fun i hi => by
    rw [mc_pL hr hi, mul_comm, ← sg_mul]
    exact sg_congr (fun t _ => by rw [mul_comm (mc C n i c), mul_assoc]))
  rw [e1, sg_swap]
  refine sg_congr (fun t ht => ?_)
  rw [mc_pL ht hc, ← sg_mul]
theorem pL_one {A : List UInt8} (hA : A.length = n * n) : pL n A (eL n) = A := by
  refine ext_mc (pL_length _ _) hA (fun r c hr hc => ?_)
  rw [mc_pL hr hc, sg_one (j := c) hc (fun i hi hne => by rw [mc_eL hi hc]; unfold eyeC; rw [if_neg hne, mul_zero]), mc_eL hc hc]
  unfold eyeC
  rw [if_pos rfl, mul_one]
theorem one_pL {A : List UInt8} (hA : A.length = n * n) : pL n (eL n) A = A := by
  refine ext_mc (pL_length _ _) hA (fun r c hr hc => ?_)
  rw [mc_pL hr hc, sg_one (j := r) hr (fun i hi hne => by rw [mc_eL hr hi]; unfold eyeC; rw [if_neg (fun h => hne h.symm), zero_mul]), mc_eL hr hr]
  unfold eyeC
  rw [if_pos rfl, one_mul]
theorem eL_length : (eL n).length = n * n := fl_length _ _ _
theorem inv_prod' {A : List UInt8} (hl : A.length = n * n) (h : (invR n A).2 = n) : pL n A (invL n A) = eL n := by
  refine ext_mc (pL_length _ _) eL_length (fun r c hr hc => ?_)
  rw [mc_pL hr hc, mc_eL hr hc]
  exact (inv_iff hl h (fun i => mc (invL n A) n i c) (fun r => eyeC r c)).2 (fun r _ => by
    show _ = sg n (fun i => mul (mc (invL n A) n r i) (eyeC i c))
    rw [sg_one hc (fun i _ hne => by unfold eyeC; rw [if_neg hne, mul_zero])]
    unfold eyeC
    rw [if_pos rfl, mul_one]) r hr
theorem rk_eye : rk (eL n) n n = n := by
  refine full_of_reg (further := 0) (more := eyeC) eL_length (fun v hv c hc => ?_)
  have := hv c hc
  unfold mv at this
  rw [sg_one (j := c) hc (fun i hi hne => by rw [mc_eL hc hi]; unfold eyeC; rw [if_neg (fun h => hne h.symm), zero_mul]), mc_eL hc hc] at this
  unfold eyeC at this
  rw [if_pos rfl, one_mul] at this
  exact this
/-- Both parts of a product that is the identity have inverses. -/
theorem full_of_prod {A X : List UInt8} (hA : A.length = n * n) (hX : X.length = n * n) (h : pL n A X = eL n) : (invR n A).2 = n ∧ (invR n X).2 = n := by
  have h1 := rk_prod (rows := n) (cols := n) (wide := n) hA hX
  rw [show prL n n n A X = eL n from h, rk_eye] at h1
  have h2 := rk_le_rows A n n
  have h3 := rk_le_rows X n n
  exact ⟨(rk_full hA).2 (by omega), (rk_full hX).2 (by omega)⟩
theorem inv_inv {A : List UInt8} (hA : A.length = n * n) (h : (invR n A).2 = n) : (invR n (invL n A)).2 = n ∧ invL n (invL n A) = A := by
  have p1 := inv_prod' hA h
  have f2 := (full_of_prod hA (invL_length n A) p1).2
  have p2 := inv_prod' (invL_length n A) f2
  refine ⟨f2, ?_⟩
  have e1 : pL n A (pL n (invL n A) (invL n (invL n A))) = A := by rw [p2, pL_one hA]
  rw [← pL_assoc, p1, one_pL (invL_length n _)] at e1
  exact e1
theorem inv_left {A : List UInt8} (hA : A.length = n * n) (h : (invR n A).2 = n) : pL n (invL n A) A = eL n := by
  obtain ⟨f, e⟩ := inv_inv hA h
  have := inv_prod' (invL_length n A) f
  rwa [e] at this
/-- The inverse of a product. -/
theorem inv_of_prod {A B : List UInt8} (hA : A.length = n * n) (hB : B.length = n * n) (fA : (invR n A).2 = n) (fB : (invR n B).2 = n) : (invR n (pL n A B)).2 = n ∧ invL n (pL n A B) = pL n (invL n B) (invL n A) := by
  have l : pL n (pL n (invL n B) (invL n A)) (pL n A B) = eL n := by
    rw [pL_assoc, ← pL_assoc (invL n A) A B, inv_left hA fA, one_pL hB, inv_left hB fB]
  have f := (full_of_prod (pL_length _ _) (pL_length _ _) l).2
  refine ⟨f, ?_⟩
  have p := inv_prod' (pL_length A B) f
  have e : pL n (pL n (pL n (invL n B) (invL n A)) (pL n A B)) (invL n (pL n A B)) = invL n (pL n A B) := by rw [l, one_pL (invL_length n _)]
  rw [pL_assoc, p, pL_one (pL_length _ _)] at e
  exact e.symm
end
end Go.Proofs.Ytckmddkhkdcmmaa
