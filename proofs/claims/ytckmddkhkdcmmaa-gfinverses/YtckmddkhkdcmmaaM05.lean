/-
  Clearing rows, plainly: what rows are 0 at stays; where all columns lead, clearing solves; the inverse undoes.
  The walks of gf's Rank, Product and Rows, where they answer.
-/
import Derived.Test.YtckmddkhkdcmmaaM04
import Derived.Deep.RegionHeld3
namespace Go.Proofs.Ytckmddkhkdcmmaa
set_option linter.unusedVariables false
set_option linter.unusedSimpArgs false
set_option linter.unusedVariables false

theorem xsl' (a b : UInt8) : a ^^^ (a ^^^ b) = b := by rw [← UInt8.xor_assoc, UInt8.xor_self, UInt8.zero_xor]

/-- The sum of f at 0, .., n - 1. -/
def sg : Nat → (Nat → UInt8) → UInt8
  | 0, _ => 0
  | n + 1, f => sg n f ^^^ f n

theorem sg_congr {n : Nat} {f g : Nat → UInt8} (h : ∀ i, i < n → f i = g i) : sg n f = sg n g := by
  induction n with
  | zero => rfl
  | succ n ih => simp only [sg]; rw [ih (fun i hi => h i (by omega)), h n (by omega)]

theorem sg_zero {n : Nat} {f : Nat → UInt8} (h : ∀ i, i < n → f i = 0) : sg n f = 0 := by
  induction n with
  | zero => rfl
  | succ n ih => simp only [sg]; rw [ih (fun i hi => h i (by omega)), h n (by omega)]; rfl

theorem sg_add (n : Nat) (f g : Nat → UInt8) : sg n (fun i => f i ^^^ g i) = sg n f ^^^ sg n g := by
  induction n with
  | zero => simp only [sg]; rw [UInt8.xor_self]
  | succ n ih => simp only [sg]; rw [ih, xor4]

theorem sg_mul (n : Nat) (c : UInt8) (f : Nat → UInt8) : sg n (fun i => mul c (f i)) = mul c (sg n f) := by
  induction n with
  | zero => simp only [sg]; rw [mul_zero]
  | succ n ih => simp only [sg]; rw [ih, mul_xor2]

theorem sg_one {n j : Nat} {f : Nat → UInt8} (hj : j < n) (h : ∀ i, i < n → i ≠ j → f i = 0) : sg n f = f j := by
  induction n with
  | zero => omega
  | succ n ih =>
    simp only [sg]
    by_cases e : j = n
    · subst e
      rw [sg_zero (fun i hi => h i (by omega) (by omega)), UInt8.zero_xor]
    · rw [ih (by omega) (fun i hi he => h i (by omega) he), h n (by omega) (fun h2 => e h2.symm), UInt8.xor_zero]

theorem sg_split (a b : Nat) (f : Nat → UInt8) : sg (a + b) f = sg a f ^^^ sg b (fun i => f (a + i)) := by
  induction b with
  | zero => simp only [sg, Nat.add_zero]; rw [UInt8.xor_zero]
  | succ b ih => rw [Nat.add_succ]; simp only [sg]; rw [ih, UInt8.xor_assoc]

theorem sg_swap (n m : Nat) (f : Nat → Nat → UInt8) : sg n (fun i => sg m (fun j => f i j)) = sg m (fun j => sg n (fun i => f i j)) := by
  induction n with
  | zero => exact (sg_zero (fun _ _ => rfl)).symm
  | succ n ih => simp only [sg]; rw [ih, ← sg_add]

/-- All rows have this width. -/
def Wid (ls : List (List UInt8)) (M : Nat) : Prop := ∀ l ∈ ls, l.length = M

theorem Wid.at {ls : List (List UInt8)} {M r : Nat} (h : Wid ls M) (hr : r < ls.length) : (ls[r]?.getD []).length = M := by
  rw [List.getElem?_eq_getElem hr]; exact h _ (List.getElem_mem _)

theorem Wid.set {ls : List (List UInt8)} {M : Nat} (h : Wid ls M) (i : Nat) {l : List UInt8} (hl : l.length = M) : Wid (ls.set i l) M := by
  intro x hx
  rcases List.mem_or_eq_of_mem_set hx with hx | rfl
  · exact h x hx
  · exact hl

theorem cel_set {ls : List (List UInt8)} {i : Nat} (hi : i < ls.length) (l : List UInt8) (r c : Nat) : cel (ls.set i l) r c = if r = i then (l[c]?).getD 0 else cel ls r c := by
  unfold cel
  by_cases e : r = i
  · subst e; rw [if_pos rfl, List.getElem?_set_self hi]; rfl
  · rw [if_neg e, List.getElem?_set_ne (fun h => e h.symm)]

theorem Wid.stp1 {ls : List (List UInt8)} {M d col r : Nat} (h : Wid ls M) (hd : d < ls.length) (hr : r < ls.length) : Wid (stp1 ls d col r) M := by
  unfold Go.Proofs.Ytckmddkhkdcmmaa.stp1 swp
  exact (h.set d (h.at hr)).set r (h.at hd)

theorem cel_stp1 {ls : List (List UInt8)} {d col r : Nat} (hd : d < ls.length) (hr : r < ls.length) (i c : Nat) : cel (stp1 ls d col r) i c = if i = r then cel ls d c else if i = d then cel ls r c else cel ls i c := by
  unfold stp1 swp
  rw [cel_set (by simpa using hr), cel_set hd]
  rfl

theorem scl_get (k : UInt8) (l : List UInt8) (c : Nat) : ((scl k l)[c]?).getD 0 = mul k ((l[c]?).getD 0) := by
  unfold scl
  rw [List.getElem?_map]
  cases l[c]? with
  | none => simp [mul_zero]
  | some x => rfl

theorem Wid.stp2 {ls : List (List UInt8)} {M d col : Nat} (h : Wid ls M) (hd : d < ls.length) : Wid (stp2 ls d col) M := by
  unfold Go.Proofs.Ytckmddkhkdcmmaa.stp2
  exact h.set d (by rw [scl, List.length_map]; exact h.at hd)

theorem cel_stp2 {ls : List (List UInt8)} {d col : Nat} (hd : d < ls.length) (i c : Nat) : cel (stp2 ls d col) i c = if i = d then mul (div 1 (cel ls d col)) (cel ls d c) else cel ls i c := by
  unfold stp2
  rw [cel_set hd, scl_get]
  rfl

theorem addt_get (k : UInt8) (l x : List UInt8) (h : x.length = l.length) (c : Nat) : ((addt k l x)[c]?).getD 0 = ((l[c]?).getD 0) ^^^ mul k ((x[c]?).getD 0) := by
  unfold addt
  rw [List.getElem?_zipWith]
  by_cases hc : c < l.length
  · rw [List.getElem?_eq_getElem hc, List.getElem?_eq_getElem (by omega)]; rfl
  · rw [List.getElem?_eq_none (by omega : l.length ≤ c), List.getElem?_eq_none (by omega : x.length ≤ c)]
    simp [mul_zero]

theorem Wid.clr {ls : List (List UInt8)} {M ld col : Nat} (h : Wid ls M) (hl : ld < ls.length) : Wid (clr ls ld col) M := by
  intro x hx
  unfold Go.Proofs.Ytckmddkhkdcmmaa.clr clrK at hx
  rw [List.mem_mapIdx] at hx
  obtain ⟨i, hi, rfl⟩ := hx
  rw [if_pos hi]
  unfold crow
  split
  · exact h.at hi
  · rw [addt, List.length_zipWith, h.at hi, h.at hl, Nat.min_self]

theorem cel_clr {ls : List (List UInt8)} {M ld col : Nat} (h : Wid ls M) (hl : ld < ls.length) (i c : Nat) (hi : i < ls.length) : cel (clr ls ld col) i c = if i = ld then cel ls i c else cel ls i c ^^^ mul (cel ls i col) (cel ls ld c) := by
  have e : (clr ls ld col)[i]? = some (crow ls ld col i) := by
    unfold clr clrK
    rw [List.getElem?_mapIdx, List.getElem?_eq_getElem hi]
    simp [hi]
  rw [cel, e]
  unfold crow
  by_cases h2 : i = ld
  · rw [if_pos h2, if_pos h2]; rfl
  · rw [if_neg h2, if_neg h2, Option.getD_some, addt_get _ _ _ (by rw [h.at hi, h.at hl])]
    rfl

/-- A row times a vector. -/
def dot (ls : List (List UInt8)) (M : Nat) (v : Nat → UInt8) (r : Nat) : UInt8 := sg M (fun c => mul (cel ls r c) (v c))
/-- All rows are 0 there. -/
def Ker (ls : List (List UInt8)) (M : Nat) (v : Nat → UInt8) : Prop := ∀ r, r < ls.length → dot ls M v r = 0

theorem ker_stp1 {ls : List (List UInt8)} {M d col r : Nat} (hd : d < ls.length) (hr : r < ls.length) (v : Nat → UInt8) : Ker (stp1 ls d col r) M v ↔ Ker ls M v := by
  have key : ∀ i, dot (stp1 ls d col r) M v i = if i = r then dot ls M v d else if i = d then dot ls M v r else dot ls M v i := by
    intro i
    unfold dot
    simp only [cel_stp1 hd hr]
    by_cases e1 : i = r
    · simp only [if_pos e1]
    · simp only [if_neg e1]
      by_cases e2 : i = d
      · simp only [if_pos e2]
      · simp only [if_neg e2]
  unfold Ker
  rw [stp1_length]
  constructor
  · intro h i hi
    by_cases e1 : i = r
    · have := h d hd
      rw [key] at this
      by_cases e3 : d = r
      · rw [if_pos e3] at this; rw [e1, ← e3]; exact this
      · rw [if_neg e3, if_pos rfl] at this; rw [e1]; exact this
    · by_cases e2 : i = d
      · have := h r hr; rw [key, if_pos rfl] at this; rw [e2]; exact this
      · have := h i hi; rw [key, if_neg e1, if_neg e2] at this; exact this
  · intro h i hi
    rw [key]
    split
    · exact h d hd
    · split
      · exact h r hr
      · exact h i hi

theorem div_ne {a : UInt8} (h : a ≠ 0) : div 1 a ≠ 0 := by
  intro e
  have := div_mul (a := 1) h
  rw [e, zero_mul] at this
  exact absurd this (by decide)

theorem dot_scl (ls : List (List UInt8)) (M : Nat) (v : Nat → UInt8) (k : UInt8) (r : Nat) : sg M (fun c => mul (mul k (cel ls r c)) (v c)) = mul k (dot ls M v r) := by
  unfold dot
  rw [← sg_mul]
  exact sg_congr (fun c _ => mul_assoc _ _ _)

theorem ker_stp2 {ls : List (List UInt8)} {M d col : Nat} (hd : d < ls.length) (hp : cel ls d col ≠ 0) (v : Nat → UInt8) : Ker (stp2 ls d col) M v ↔ Ker ls M v := by
  have key : ∀ i, dot (stp2 ls d col) M v i = if i = d then mul (div 1 (cel ls d col)) (dot ls M v d) else dot ls M v i := by
    intro i
    by_cases e : i = d
    · rw [if_pos e, ← dot_scl]
      unfold dot
      simp only [cel_stp2 hd, if_pos e]
    · rw [if_neg e]
      unfold dot
      simp only [cel_stp2 hd, if_neg e]
  unfold Ker
  rw [stp2_length]
  constructor
  · intro h i hi
    have := h i hi
    rw [key] at this
    by_cases e : i = d
    · rw [if_pos e, mul_eq_zero] at this
      rw [e]
      exact this.resolve_left (div_ne hp)
    · rwa [if_neg e] at this
  · intro h i hi
    rw [key]
    split
    · rw [h d hd, mul_zero]
    · exact h i hi

theorem ker_clr {ls : List (List UInt8)} {M N ld col : Nat} (hw : Wid ls N) (hl : ld < ls.length) (v : Nat → UInt8) : Ker (clr ls ld col) M v ↔ Ker ls M v := by
  have key : ∀ i, i < ls.length → dot (clr ls ld col) M v i = if i = ld then dot ls M v i else dot ls M v i ^^^ mul (cel ls i col) (dot ls M v ld) := by
    intro i hi
    by_cases e : i = ld
    · rw [if_pos e]
      unfold dot
      exact sg_congr (fun c _ => by rw [cel_clr hw hl i c hi, if_pos e])
    · rw [if_neg e, ← dot_scl]
      unfold dot
      rw [← sg_add]
      exact sg_congr (fun c _ => by rw [cel_clr hw hl i c hi, if_neg e, mul_xor])
  unfold Ker
  rw [clr_length]
  constructor
  · intro h i hi
    have h1 := h ld hl
    rw [key ld hl, if_pos rfl] at h1
    have := h i hi
    rw [key i hi] at this
    by_cases e : i = ld
    · rwa [if_pos e] at this
    · rwa [if_neg e, h1, mul_zero, UInt8.xor_zero] at this
  · intro h i hi
    rw [key i hi]
    split
    · exact h i hi
    · rw [h i hi, h ld hl, mul_zero]; rfl

theorem lead_lt {s : List (List UInt8) × Nat} {col r : Nat} (h : lead s.1 s.2 col = some r) : s.2 < s.1.length := by
  obtain ⟨h1, h2, -⟩ := lead_some h
  omega

theorem cel_lead {ls : List (List UInt8)} {d col r : Nat} (h : lead ls d col = some r) : cel (stp1 ls d col r) d col = cel ls r col := by
  obtain ⟨h1, h2, -⟩ := lead_some h
  rw [cel_stp1 (by omega) h2]
  by_cases e : d = r
  · rw [if_pos e, e]
  · rw [if_neg e, if_pos rfl]

theorem Wid.stp {s : List (List UInt8) × Nat} {M col : Nat} (h : Wid s.1 M) : Wid (stp s col).1 M := by
  unfold Go.Proofs.Ytckmddkhkdcmmaa.stp
  split
  · exact h
  · rename_i r hr
    obtain ⟨h1, h2, h3⟩ := lead_some hr
    exact ((h.stp1 (by omega) h2).stp2 (by rw [stp1_length]; omega)).clr (by rw [stp2_length, stp1_length]; omega)

theorem Wid.redK {ls : List (List UInt8)} {M : Nat} (h : Wid ls M) (k : Nat) : Wid (redK ls k).1 M := by
  induction k with
  | zero => exact h
  | succ k ih => exact ih.stp

theorem ker_stp {s : List (List UInt8) × Nat} {M N col : Nat} (hw : Wid s.1 N) (v : Nat → UInt8) : Ker (stp s col).1 M v ↔ Ker s.1 M v := by
  unfold stp
  split
  · exact Iff.rfl
  · rename_i r hr
    obtain ⟨h1, h2, h3⟩ := lead_some hr
    have w1 := hw.stp1 (d := s.2) (col := col) (r := r) (by omega) h2
    have w2 := w1.stp2 (d := s.2) (col := col) (by rw [stp1_length]; omega)
    rw [ker_clr w2 (by rw [stp2_length, stp1_length]; omega), ker_stp2 (by rw [stp1_length]; omega) (by rw [cel_lead hr]; exact h3), ker_stp1 (by omega) h2]

/-- Clearing leaves what rows are 0 at. -/
theorem ker_redK {ls : List (List UInt8)} {M N : Nat} (hw : Wid ls N) (k : Nat) (v : Nat → UInt8) : Ker (redK ls k).1 M v ↔ Ker ls M v := by
  induction k with
  | zero => exact Iff.rfl
  | succ k ih =>
    show Ker (stp (redK ls k) k).1 M v ↔ _
    rw [ker_stp (hw.redK k), ih]

theorem redK_col (ls : List (List UInt8)) (k : Nat) : (redK ls k).2 ≤ k := by
  induction k with
  | zero => exact Nat.le_refl _
  | succ k ih =>
    show (stp (redK ls k) k).2 ≤ _
    unfold stp
    split
    · omega
    · show (redK ls k).2 + 1 ≤ _
      omega

theorem stp_two {s : List (List UInt8) × Nat} {col : Nat} : (stp s col).2 = s.2 ∧ stp s col = s ∧ lead s.1 s.2 col = none ∨ (stp s col).2 = s.2 + 1 ∧ ∃ r, lead s.1 s.2 col = some r ∧ (stp s col).1 = clr (stp2 (stp1 s.1 s.2 col r) s.2 col) s.2 col := by
  unfold stp
  split
  · rename_i h; exact .inl ⟨rfl, rfl, h⟩
  · rename_i r h; exact .inr ⟨rfl, r, h, rfl⟩

/-- One step makes its column a 1 and zeros, and leaves columns that are so. -/
theorem cel_step {ls : List (List UInt8)} {N d col r : Nat} (hw : Wid ls N) (hr : lead ls d col = some r) (hz : ∀ i c, i < ls.length → c < d → cel ls i c = if i = c then 1 else 0) (hdc : d = col) (i c : Nat) (hi : i < ls.length) (hc : c < d + 1) :
    cel (clr (stp2 (stp1 ls d col r) d col) d col) i c = if i = c then 1 else 0 := by
  obtain ⟨h1, h2, h3⟩ := lead_some hr
  have hd : d < ls.length := by omega
  have w1 := hw.stp1 (d := d) (col := col) (r := r) hd h2
  have w2 := w1.stp2 (d := d) (col := col) (by rw [stp1_length]; omega)
  have hp : cel (stp1 ls d col r) d col ≠ 0 := by rw [cel_lead hr]; exact h3
  have l2 : (stp2 (stp1 ls d col r) d col).length = ls.length := by rw [stp2_length, stp1_length]
  have l1 : (stp1 ls d col r).length = ls.length := by rw [stp1_length]
  have s1 : ∀ i, i < ls.length → ∀ c, c < d → cel (stp1 ls d col r) i c = if i = c then 1 else 0 := by
    intro i hi c hc
    rw [cel_stp1 hd h2]
    by_cases e1 : i = r
    · rw [if_pos e1, hz d c hd hc, if_neg (by omega), if_neg (by omega)]
    · rw [if_neg e1]
      by_cases e2 : i = d
      · rw [if_pos e2, hz r c h2 hc, if_neg (by omega), if_neg (by omega)]
      · rw [if_neg e2]; exact hz i c hi hc
  have s2 : ∀ i, i < ls.length → ∀ c, c < d → cel (stp2 (stp1 ls d col r) d col) i c = if i = c then 1 else 0 := by
    intro i hi c hc
    rw [cel_stp2 (by omega)]
    by_cases e : i = d
    · rw [if_pos e, s1 d hd c hc, if_neg (by omega), mul_zero, if_neg (by omega)]
    · rw [if_neg e]; exact s1 i hi c hc
  have p2 : cel (stp2 (stp1 ls d col r) d col) d col = 1 := by rw [cel_stp2 (by omega), if_pos rfl, div_mul hp]
  rw [cel_clr w2 (by omega) i c (by omega)]
  by_cases hlt : c < d
  · by_cases e : i = d
    · rw [if_pos e]; exact s2 i hi c hlt
    · rw [if_neg e, s2 d hd c hlt, if_neg (by omega), mul_zero, UInt8.xor_zero]; exact s2 i hi c hlt
  · have hce : c = d := by omega
    subst hce
    subst hdc
    by_cases e : i = c
    · rw [if_pos e, if_pos e, e]; exact p2
    · rw [if_neg e, if_neg e, p2, mul_one, UInt8.xor_self]

/-- While every column leads, the first ones are the identity's. -/
theorem redK_eye {ls : List (List UInt8)} {N : Nat} (hw : Wid ls N) (k : Nat) (h : (redK ls k).2 = k) (i c : Nat) (hi : i < ls.length) (hc : c < k) : cel (redK ls k).1 i c = if i = c then 1 else 0 := by
  induction k generalizing i c with
  | zero => omega
  | succ k ih =>
    have hk := redK_col ls k
    have hs : redK ls (k + 1) = stp (redK ls k) k := rfl
    rw [hs] at h ⊢
    rcases stp_two (s := redK ls k) (col := k) with ⟨h2, -, -⟩ | ⟨h2, r, hr, he⟩
    · omega
    · have hd : (redK ls k).2 = k := by omega
      rw [he]
      have hlen := redK_length ls k
      exact cel_step (hw.redK k) hr (fun i c hi hc => ih hd i c (by omega) (by omega)) hd i c (by omega) (by omega)

theorem ldg_none {ls : List (List UInt8)} {col f r : Nat} (h : ldg ls col f r = none) (i : Nat) (h1 : r ≤ i) (h2 : i < r + f) : cel ls i col = 0 := by
  induction f generalizing r with
  | zero => omega
  | succ f ih =>
    simp only [ldg] at h
    by_cases hz : cel ls r col = 0
    · rw [if_pos hz] at h
      by_cases e : i = r
      · rw [e]; exact hz
      · exact ih h (by omega) (by omega)
    · rw [if_neg hz] at h; exact absurd h (by simp)

theorem lead_none {ls : List (List UInt8)} {col d : Nat} (h : lead ls d col = none) (i : Nat) (h1 : d ≤ i) (h2 : i < ls.length) : cel ls i col = 0 := ldg_none h i h1 (by omega)

/-- The first column that does not lead. -/
theorem redK_first {ls : List (List UInt8)} (n : Nat) (h : (redK ls n).2 < n) : ∃ k, k < n ∧ (redK ls k).2 = k ∧ lead (redK ls k).1 k k = none := by
  induction n with
  | zero => omega
  | succ n ih =>
    have hs : redK ls (n + 1) = stp (redK ls n) n := rfl
    rw [hs] at h
    by_cases hn : (redK ls n).2 < n
    · obtain ⟨k, h1, h2, h3⟩ := ih hn
      exact ⟨k, by omega, h2, h3⟩
    · have hc := redK_col ls n
      have he : (redK ls n).2 = n := by omega
      rcases stp_two (s := redK ls n) (col := n) with ⟨h2, -, h4⟩ | ⟨h2, -⟩
      · rw [he] at h4
        exact ⟨n, by omega, he, h4⟩
      · omega

/-- What the rows are 0 at, where the column k does not lead. -/
def kv (S : List (List UInt8)) (k c : Nat) : UInt8 := if c < k then cel S c k else if c = k then 1 else 0

theorem kv_lt (S : List (List UInt8)) {k c : Nat} (h : c < k) : kv S k c = cel S c k := if_pos h
theorem kv_at (S : List (List UInt8)) (k : Nat) : kv S k k = 1 := by unfold kv; rw [if_neg (by omega), if_pos rfl]
theorem kv_gt (S : List (List UInt8)) {k c : Nat} (h : k < c) : kv S k c = 0 := by unfold kv; rw [if_neg (by omega), if_neg (by omega)]

/-- Where a column does not lead, the rows are 0 at something. -/
theorem ker_some {ls : List (List UInt8)} {N M n : Nat} (hw : Wid ls N) (hn : n ≤ M) (h : (redK ls n).2 < n) : ∃ v : Nat → UInt8, Ker ls M v ∧ (∃ k, k < n ∧ v k ≠ 0) ∧ ∀ c, n ≤ c → v c = 0 := by
  obtain ⟨k, hk, h2, h3⟩ := redK_first n h
  have hk2 := redK_le ls k
  have hlen := redK_length ls k
  refine ⟨kv (redK ls k).1 k, ?_, ⟨k, hk, by rw [kv_at]; decide⟩, fun c hc => kv_gt _ (by omega)⟩
  rw [← ker_redK hw k]
  intro r hr
  rw [hlen] at hr
  unfold dot
  by_cases hrk : r < k
  · rw [show M = (k + 1) + (M - (k + 1)) by omega, sg_split, sg_zero (n := M - (k + 1)) (fun i _ => by rw [kv_gt _ (by omega), mul_zero]), UInt8.xor_zero]
    simp only [sg]
    rw [sg_one (j := r) hrk (fun i hi he => by rw [redK_eye hw k h2 r i hr hi, if_neg (by omega), zero_mul])]
    rw [redK_eye hw k h2 r r hr hrk, if_pos rfl, kv_lt _ hrk, kv_at, one_mul, mul_one, UInt8.xor_self]
  · refine sg_zero (fun i hi => ?_)
    by_cases h5 : i < k
    · rw [redK_eye hw k h2 r i hr h5, if_neg (by omega), zero_mul]
    · by_cases h6 : i = k
      · rw [h6, lead_none h3 r (by omega) (by omega), zero_mul]
      · rw [kv_gt _ (by omega), mul_zero]

/-- The cells of a matrix, row by row. -/
def mc (l : List UInt8) (n r c : Nat) : UInt8 := (l[r * n + c]?).getD 0

theorem bsd_length (l : List UInt8) (cols further : Nat) (more : Nat → Nat → UInt8) (k : Nat) : (bsd l cols further more k).length = k := by simp [bsd]

theorem cel_bsd {l : List UInt8} {rows cols further : Nat} {more : Nat → Nat → UInt8} (hl : l.length = rows * cols) {r c : Nat} (hr : r < rows) (hc : c < cols + further) : cel (bsd l cols further more rows) r c = if c < cols then mc l cols r c else more r (c - cols) := by
  have hlen : ((l.drop (r * cols)).take cols).length = cols := by
    rw [List.length_take, List.length_drop, hl]
    have : (r + 1) * cols ≤ rows * cols := Nat.mul_le_mul_right _ hr
    rw [Nat.succ_mul] at this
    omega
  have e : (bsd l cols further more rows)[r]? = some (brow l cols further more r) := by
    unfold bsd
    rw [List.getElem?_map, List.getElem?_range hr]; rfl
  rw [cel, e, Option.getD_some]
  unfold brow
  by_cases h : c < cols
  · rw [if_pos h, List.getElem?_append_left (by omega), List.getElem?_take_of_lt h, List.getElem?_drop]; rfl
  · rw [if_neg h, List.getElem?_append_right (by omega), hlen, List.getElem?_map, List.getElem?_range (by omega)]; rfl

theorem wid_bsd {l : List UInt8} {rows cols further : Nat} {more : Nat → Nat → UInt8} (hl : l.length = rows * cols) : Wid (bsd l cols further more rows) (cols + further) := by
  intro x hx
  unfold bsd at hx
  obtain ⟨r, hr, rfl⟩ := List.mem_map.1 hx
  exact brow_length hl (List.mem_range.1 hr)

/-- A matrix times a vector. -/
def mv (l : List UInt8) (cols : Nat) (v : Nat → UInt8) (r : Nat) : UInt8 := sg cols (fun c => mul (mc l cols r c) (v c))

theorem dot_bsd {l : List UInt8} {rows cols further : Nat} {more : Nat → Nat → UInt8} (hl : l.length = rows * cols) (v : Nat → UInt8) {r : Nat} (hr : r < rows) : dot (bsd l cols further more rows) (cols + further) v r = mv l cols v r ^^^ sg further (fun c => mul (more r c) (v (cols + c))) := by
  unfold dot mv
  rw [sg_split]
  congr 1
  · exact sg_congr (fun c hc => by rw [cel_bsd hl hr (by omega), if_pos hc])
  · exact sg_congr (fun c hc => by rw [cel_bsd hl hr (by omega), if_neg (by omega), Nat.add_sub_cancel_left])

/-- Only 0 goes to 0. -/
def Reg (l : List UInt8) (n : Nat) : Prop := ∀ v : Nat → UInt8, (∀ r, r < n → mv l n v r = 0) → ∀ c, c < n → v c = 0

/-- If only 0 goes to 0, all columns lead, whatever stands beside. -/
theorem full_of_reg {l : List UInt8} {n further : Nat} {more : Nat → Nat → UInt8} (hl : l.length = n * n) (h : Reg l n) : (redK (bsd l n further more n) n).2 = n := by
  have hc := redK_col (bsd l n further more n) n
  by_cases hlt : (redK (bsd l n further more n) n).2 < n
  · obtain ⟨v, hk, ⟨k, hkn, hv⟩, hz⟩ := ker_some (M := n + further) (wid_bsd hl) (by omega) hlt
    refine absurd (h v (fun r hr => ?_) k hkn) hv
    have := hk r (by rw [bsd_length]; exact hr)
    rw [dot_bsd hl v hr, sg_zero (n := further) (fun i _ => by rw [hz _ (by omega), mul_zero]), UInt8.xor_zero] at this
    exact this
  · omega

/-- Where all columns lead, clearing solves: what stands beside is turned so that the rows are 0 at the same. -/
theorem solve_iff {l : List UInt8} {n further : Nat} {more : Nat → Nat → UInt8} (hl : l.length = n * n) (h : (redK (bsd l n further more n) n).2 = n) (v : Nat → UInt8) :
    (∀ r, r < n → mv l n v r = sg further (fun c => mul (more r c) (v (n + c)))) ↔ ∀ r, r < n → v r = sg further (fun c => mul (cel (redK (bsd l n further more n) n).1 r (n + c)) (v (n + c))) := by
  have hw := wid_bsd (further := further) (more := more) hl
  have hk := ker_redK (M := n + further) hw n v
  have hlen := redK_length (bsd l n further more n) n
  rw [bsd_length] at hlen
  unfold Ker at hk
  rw [hlen, bsd_length] at hk
  constructor
  · intro h1 r hr
    have h2 := hk.2 (fun r hr => by rw [dot_bsd hl v hr, h1 r hr, UInt8.xor_self]) r hr
    unfold dot at h2
    rw [sg_split, sg_one (j := r) hr (fun i hi he => by rw [redK_eye hw n h r i (by rw [bsd_length]; exact hr) hi, if_neg (by omega), zero_mul]), redK_eye hw n h r r (by rw [bsd_length]; exact hr) hr, if_pos rfl, one_mul] at h2
    exact xor_cancel _ _ h2
  · intro h1 r hr
    have h2 := hk.1 (fun r hr => by
      unfold dot
      rw [sg_split, sg_one (j := r) hr (fun i hi he => by rw [redK_eye hw n h r i (by rw [bsd_length]; exact hr) hi, if_neg (by omega), zero_mul]), redK_eye hw n h r r (by rw [bsd_length]; exact hr) hr, if_pos rfl, one_mul, h1 r hr, UInt8.xor_self]) r hr
    rw [dot_bsd hl v hr] at h2
    exact xor_cancel _ _ h2

theorem invL_length (n : Nat) (l : List UInt8) : (invL n l).length = n * n := fl_length _ _ _

theorem mc_fl {n : Nat} {cell : Nat → Nat → UInt8} {rows r c : Nat} (hr : r < rows) (hc : c < n) : mc (fl n cell (rows * n)) n r c = cell r c := by
  have hlt : r * n + c < rows * n := by
    have : (r + 1) * n ≤ rows * n := Nat.mul_le_mul_right _ hr
    rw [Nat.succ_mul] at this
    omega
  unfold mc fl
  rw [List.getElem?_map, List.getElem?_range hlt]
  show cell ((r * n + c) / n) ((r * n + c) % n) = _
  rw [Nat.mul_comm r n, Nat.mul_add_div (by omega), Nat.div_eq_of_lt hc, Nat.mul_add_mod, Nat.mod_eq_of_lt hc, Nat.add_zero]

theorem mc_invL {n : Nat} {l : List UInt8} {r c : Nat} (hr : r < n) (hc : c < n) : mc (invL n l) n r c = cel (invR n l).1 r (n + c) := mc_fl hr hc

/-- Two vectors, one behind the other. -/
def jn (n : Nat) (x y : Nat → UInt8) (c : Nat) : UInt8 := if c < n then x c else y (c - n)
theorem jn_lt {n : Nat} {x y : Nat → UInt8} {c : Nat} (h : c < n) : jn n x y c = x c := if_pos h
theorem jn_ge (n : Nat) (x y : Nat → UInt8) (c : Nat) : jn n x y (n + c) = y c := by unfold jn; rw [if_neg (by omega), Nat.add_sub_cancel_left]

/-- The inverse undoes: y is the matrix times x just if x is the inverse times y. -/
theorem inv_iff {l : List UInt8} {n : Nat} (hl : l.length = n * n) (h : (invR n l).2 = n) (x y : Nat → UInt8) : (∀ r, r < n → mv l n x r = y r) ↔ ∀ r, r < n → x r = mv (invL n l) n y r := by
  have key := solve_iff (further := n) (more := eyeC) hl h (jn n x y)
  have e1 : ∀ r, mv l n (jn n x y) r = mv l n x r := fun r => sg_congr (fun c hc => by rw [jn_lt hc])
  have e2 : ∀ c, jn n x y (n + c) = y c := fun c => jn_ge n x y c
  have e3 : ∀ r, r < n → sg n (fun c => mul (eyeC r c) (y c)) = y r := fun r hr => by
    rw [sg_one (j := r) hr (fun i hi he => by unfold eyeC; rw [if_neg (fun h => he h.symm), zero_mul])]
    unfold eyeC; rw [if_pos rfl, one_mul]
  simp only [e1, e2] at key
  have key2 : (∀ r, r < n → mv l n x r = y r) ↔ ∀ r, r < n → x r = sg n (fun c => mul (cel (invR n l).1 r (n + c)) (y c)) := by
    constructor
    · intro h1 r hr
      have := key.1 (fun r hr => by rw [h1 r hr, e3 r hr]) r hr
      rw [jn_lt hr] at this
      exact this
    · intro h1 r hr
      have := key.2 (fun r hr => by rw [jn_lt hr]; exact h1 r hr) r hr
      rw [e3 r hr] at this
      exact this
  rw [key2]
  constructor
  · intro h1 r hr
    rw [h1 r hr]
    exact sg_congr (fun c hc => by rw [mc_invL hr hc])
  · intro h1 r hr
    rw [h1 r hr]
    exact sg_congr (fun c hc => by rw [mc_invL hr hc])

theorem reg_of_full {l : List UInt8} {n further : Nat} {more : Nat → Nat → UInt8} (hl : l.length = n * n) (h : (redK (bsd l n further more n) n).2 = n) : Reg l n := by
  intro v hv c hc
  have key := (solve_iff hl h (jn n v (fun _ => 0))).1 (fun r hr => by
    rw [sg_zero (n := further) (fun i _ => by rw [jn_ge, mul_zero]), ← hv r hr]
    exact sg_congr (fun c hc => by rw [jn_lt hc])) c hc
  rw [jn_lt hc] at key
  rw [key]
  exact sg_zero (fun i _ => by rw [jn_ge, mul_zero])

end Go.Proofs.Ytckmddkhkdcmmaa

namespace Go.Proofs.Ytckmddkhkdcmmaa
set_option linter.unusedVariables false
set_option linter.unusedSimpArgs false
open Go.RowKit
set_option linter.unusedVariables false
set_option linter.unusedSimpArgs false

attribute [local go_sem ↓] Go.wp_at_zero Go.wp_at_succ

theorem chk_ok {rows cols n : Nat} (h1 : 1 ≤ rows ∧ rows ≤ 64) (h2 : 1 ≤ cols ∧ cols ≤ 64) (hl : n = rows * cols) : chk rows cols n = 0 := by
  unfold chk sideB
  rw [if_pos ⟨by simp; omega, by simp; omega⟩, if_pos (by rw [hl]; simp)]

set_option maxHeartbeats 2000000 in
set_option maxRecDepth 100000 in
theorem rank_ok (w : World) (rows cols : Nat) (v : Value) (l : List UInt8) (hv : Rd w v l) (hl : l.length = rows * cols) (h1 : 1 ≤ rows ∧ rows ≤ 64) (h2 : 1 ≤ cols ∧ cols ≤ 64) :
    Calls Try.prog 29 #[.agg #[.int .i64 (rows : Int), .int .i64 (cols : Int), v]] w fun e w' => e = .returned (.tuple #[.int .i64 (((redK (bsd l cols 0 eyeC rows) cols).2 : Nat) : Int), .int .i64 0]) ∧ Fr (fun _ => False) w w' := by
  have hck := chk_ok h1 h2 hl
  obtain ⟨ao, cap, rfl⟩ := hv.shape
  have HV := hide hv
  have HL := hide hl
  have HCK := hide hck
  clear hv hl hck
  go_enter Try.func29, Try.ntmps29
  go_wp2_with fail
  refine (check_any _ _ _ _ _ _).mono ?_
  rintro e w1 ⟨rfl, f1⟩
  rw [unhide HCK]
  have T := heap_alloc_new w (Obj.cells #[.int .i64 (rows : Int), .int .i64 (cols : Int), .slice ao l.length cap] 24)
  have ha1 := (f1.block _ (lt_of_heap T) id).trans T
  have F1 := ((Fr.refl (fun _ => False) w).alloc _).trans f1 (fun _ _ h => h)
  have a0 := cell_of_heap ha1 0
  have a1 := cell_of_heap ha1 1
  have a2 := cell_of_heap ha1 2
  simp at a0 a1 a2
  have hlt := lt_of_heap ha1
  have hv1 := (unhide HV).kept F1 (fun _ _ h => h)
  have HBe := hide (show ∀ W, Fr (fun _ => False) w1 W → Calls Try.prog 74 #[.agg #[.int .i64 (rows : Int), .int .i64 (cols : Int), .slice ao l.length cap], .int .i64 0, .nilFunc] W fun e w' => (∃ g bs, e = .returned (.slice (some ⟨g, 0, none⟩) rows rows) ∧ w1.heap.size ≤ g ∧ bs.length = rows ∧ (∀ b ∈ bs, w1.heap.size ≤ b) ∧ Ls w' g bs cols (bsd l cols 0 eyeC rows)) ∧ Fr (fun _ => False) w1 w' from fun W f => by
    refine (beside_any W rows cols 0 _ l 75 #[] .nilFunc eyeC (hv1.kept f (fun _ _ h => h)) (unhide HL) h1 h2 (by omega) (.inl rfl) cf74 (fun W q r c hr hc => absurd hc (by omega))).mono ?_
    rintro e w' ⟨rfl, ⟨bs, hbs, hbn, hL⟩, f'⟩
    have := f.size
    exact ⟨⟨_, bs, rfl, by omega, hbs, fun b hb => by have := hbn b hb; omega, hL⟩, f.trans f' (fun _ _ h => h)⟩)
  have HA1 := hide ha1
  have HF1 := hide F1
  have HC := hide (show ∀ W, Fr (fun k => w1.heap.size ≤ k) w1 W → W.cell? ⟨w.heap.size, 0, none⟩ = some (.int .i64 (rows : Int)) ∧ W.cell? ⟨w.heap.size, 1, none⟩ = some (.int .i64 (cols : Int)) ∧ W.cell? ⟨w.heap.size, 2, none⟩ = some (.slice ao l.length cap) from fun W f => by
    have h := (f.block _ hlt (by omega)).trans ha1
    have a0 := cell_of_heap h 0
    have a1 := cell_of_heap h 1
    have a2 := cell_of_heap h 2
    simp at a0 a1 a2
    exact ⟨a0, a1, a2⟩)
  have HRd := hide (fun (W : World) (g : Nat) (bs : List Nat) (hb : bs.length = rows) (hL : Ls W g bs cols (bsd l cols 0 eyeC rows)) => reduce_any W g cols rows bs _ cols hL hb (Nat.le_refl _) (by omega) (by omega))
  generalize hrk : redK (bsd l cols 0 eyeC rows) cols = rk at HRd
  have HRK := hide hrk
  clear hrk
  clear T f1 F1 ha1 hv1
  go_wp2_with fail
  go_region_held3 (fun W => W.cell? ⟨w.heap.size, 0, none⟩ = some (.int .i64 (rows : Int)) ∧ W.cell? ⟨w.heap.size, 1, none⟩ = some (.int .i64 (cols : Int)) ∧ W.cell? ⟨w.heap.size, 2, none⟩ = some (.slice ao l.length cap)) (go_keep) ((first
    | (go_at_call 74; refine (unhide HBe _ (by first | exact Fr.ofDrewN _ 1 | exact Fr.ofDrewN _ _)).mono ?_; rintro e w2 ⟨⟨g, bs, rfl, hg, hbs, hbn, hL⟩, f2⟩; have s2 := (unhide HC w2 (f2.mono (fun _ _ h => h.elim))).1; have s2' := (unhide HC w2 (f2.mono (fun _ _ h => h.elim))).2.1; have s2'' := (unhide HC w2 (f2.mono (fun _ _ h => h.elim))).2.2)
    | (go_at_call 76; refine (unhide HRd _ g bs hbs hL).mono ?_; rintro e w3 ⟨rfl, -, f3⟩; have F3 : Fr (fun k => w1.heap.size ≤ k) w1 w3 := (f2.mono (fun _ _ h => h.elim)).trans f3 (fun k hk e => e.elim (fun e => by omega) (fun e => hbn k e)); have s3 := (unhide HC w3 F3).1; have s3' := (unhide HC w3 F3).2.1; have s3'' := (unhide HC w3 F3).2.2)))
  all_goals
    have HF3 := hide ((unhide HF1).trans F3 (fun k hk e => by have := (unhide HF1).size; omega))
    clear f2 f3 F3 s2 s2' s2'' s3 s3' s3'' hL hbs hbn
    go_wp2_with fail
    go_ret2
    exact ⟨by rw [unhide HRK]; rfl, by first | exact unhide HF3 | exact (unhide HF3).drew⟩

theorem cf67 (args : Array Value) (W : World) : Sem.run Try.prog (callFunc 67 args) W = .ok (.enter 67 args) W := by simp [go_sem]

set_option maxHeartbeats 2000000 in
set_option maxRecDepth 100000 in
/-- One cell of a product. -/
theorem prod1_any (w : World) (bA bf bB p : Nat) (rows cols wide : Nat) (va vb : Value) (la lb : List UInt8) (r c : Nat) (hA : w.heap[bA]? = some (.cells #[.int .i64 (rows : Int), .int .i64 (cols : Int), va] 24 (0, 0))) (hf : w.heap[bf]? = some (.cells #[.pointer (some ⟨p, 0, none⟩)] 100 (0, 0))) (hB : w.heap[bB]? = some (.cells #[.int .i64 (cols : Int), .int .i64 (wide : Int), vb] 24 (0, 0))) (hF : FAt w p)
    (ha : Rd w va la) (hb : Rd w vb lb) (hla : la.length = rows * cols) (hlb : lb.length = cols * wide) (h1 : 1 ≤ rows ∧ rows ≤ 64) (h2 : 1 ≤ cols ∧ cols ≤ 64) (h3 : 1 ≤ wide ∧ wide ≤ 64) (hr : r < rows) (hc : c < wide) :
    Calls Try.prog 67 #[.int .i64 (r : Int), .int .i64 (c : Int), .pointer (some ⟨bA, 0, none⟩), .pointer (some ⟨bf, 0, none⟩), .pointer (some ⟨bB, 0, none⟩)] w fun e w' => e = .returned (.int .u8 (((sg cols (fun i => mul (mc la cols r i) (mc lb wide i c))).toNat : Nat) : Int)) ∧ Fr (fun _ => False) w w' := by
  have HC := hide (show ∀ W, Fr (fun _ => False) w W → (W.cell? ⟨bA, 0, none⟩ = some (.int .i64 (rows : Int)) ∧ W.cell? ⟨bA, 1, none⟩ = some (.int .i64 (cols : Int)) ∧ W.cell? ⟨bA, 2, none⟩ = some va) ∧ W.cell? ⟨bf, 0, none⟩ = some (.pointer (some ⟨p, 0, none⟩)) ∧ (W.cell? ⟨bB, 0, none⟩ = some (.int .i64 (cols : Int)) ∧ W.cell? ⟨bB, 1, none⟩ = some (.int .i64 (wide : Int)) ∧ W.cell? ⟨bB, 2, none⟩ = some vb) from fun W f => by
    have hA' := (f.block _ (lt_of_heap hA) id).trans hA
    have hB' := (f.block _ (lt_of_heap hB) id).trans hB
    have hf' := (f.block _ (lt_of_heap hf) id).trans hf
    have a0 := cell_of_heap hA' 0
    have a1 := cell_of_heap hA' 1
    have a2 := cell_of_heap hA' 2
    have b0 := cell_of_heap hB' 0
    have b1 := cell_of_heap hB' 1
    have b2 := cell_of_heap hB' 2
    have e0 := cell_of_heap hf' 0
    simp at a0 a1 a2 b0 b1 b2 e0
    exact ⟨⟨a0, a1, a2⟩, e0, b0, b1, b2⟩)
  have HAt1 := hide (show ∀ W, Fr (fun _ => False) w W → ∀ i, i < cols → Calls Try.prog 69 #[.agg #[.int .i64 (rows : Int), .int .i64 (cols : Int), va], .int .i64 (r : Int), .int .i64 (i : Int)] W fun e w' => e = .returned (.int .u8 (((mc la cols r i).toNat : Nat) : Int)) ∧ Fr (fun _ => False) w w' from fun W f i hi => by
    have hlt : r * cols + i < la.length := by rw [hla]; exact mul_step hr hi
    refine (at_any W rows r i cols va la (ha.kept f (fun _ _ h => h)) (by omega) (by omega) h2.2 hlt).mono ?_
    rintro e w' ⟨rfl, f'⟩
    exact ⟨by unfold mc; rw [List.getElem?_eq_getElem hlt]; rfl, f.trans f' (fun _ _ h => h)⟩)
  have HAt2 := hide (show ∀ W, Fr (fun _ => False) w W → ∀ i, i < cols → Calls Try.prog 69 #[.agg #[.int .i64 (cols : Int), .int .i64 (wide : Int), vb], .int .i64 (i : Int), .int .i64 (c : Int)] W fun e w' => e = .returned (.int .u8 (((mc lb wide i c).toNat : Nat) : Int)) ∧ Fr (fun _ => False) w w' from fun W f i hi => by
    have hlt : i * wide + c < lb.length := by rw [hlb]; exact mul_step hi hc
    refine (at_any W cols i c wide vb lb (hb.kept f (fun _ _ h => h)) (by omega) (by omega) h3.2 hlt).mono ?_
    rintro e w' ⟨rfl, f'⟩
    exact ⟨by unfold mc; rw [List.getElem?_eq_getElem hlt]; rfl, f.trans f' (fun _ _ h => h)⟩)
  have HMul := hide (show ∀ W, Fr (fun _ => False) w W → ∀ x y : UInt8, Calls Try.prog 68 #[.pointer (some ⟨p, 0, none⟩), .int .u8 ((x.toNat : Nat) : Int), .int .u8 ((y.toNat : Nat) : Int)] W fun e w' => e = .returned (.int .u8 (((mul x y).toNat : Nat) : Int)) ∧ Fr (fun _ => False) w w' from fun W f x y => by
    refine (fmul_any W p x y (hF.kept f id)).mono ?_
    rintro e w' ⟨rfl, n, rfl⟩
    exact ⟨rfl, f.trans (Fr.ofDrewN _ _) (fun _ _ h => h)⟩)
  obtain ⟨⟨-, c1, -⟩, -⟩ := unhide HC w (Fr.refl _ _)
  obtain ⟨ao, ac, rfl⟩ := ha.shape
  obtain ⟨bo, bc, rfl⟩ := hb.shape
  clear hA hf hB hF ha hb hla hlb
  go_enter Try.func67, Try.ntmps67
  go_wp2_with fail
  go_loopw [8, 9, 12] (fun x _ y w' => ∃ i : Nat, i ≤ cols ∧ y = .int .i64 (i : Int) ∧ x = .int .u8 (((sg i (fun i => mul (mc la cols r i) (mc lb wide i c))).toNat : Nat) : Int) ∧ Fr (fun _ => False) w w') (fun _ _ y _ => cols - (intOf y).toNat)
  case atStart => exact ⟨0, Nat.zero_le _, rfl, rfl, Fr.refl _ _⟩
  case round =>
    obtain ⟨i, hi, rfl, rfl, hf⟩ := hrel
    by_cases hlt : i < cols
    · obtain ⟨⟨a0, a1, a2⟩, e0, b0, b1, b2⟩ := unhide HC wr hf
      have Hf := hide hf
      clear hf
      go_wp2_with fail
      go_region_held3 (fun W => W.cell? ⟨bA, 0, none⟩ = some (.int .i64 (rows : Int)) ∧ W.cell? ⟨bA, 1, none⟩ = some (.int .i64 (cols : Int)) ∧ W.cell? ⟨bA, 2, none⟩ = some (.slice ao la.length ac) ∧ W.cell? ⟨bf, 0, none⟩ = some (.pointer (some ⟨p, 0, none⟩)) ∧ W.cell? ⟨bB, 0, none⟩ = some (.int .i64 (cols : Int)) ∧ W.cell? ⟨bB, 1, none⟩ = some (.int .i64 (wide : Int)) ∧ W.cell? ⟨bB, 2, none⟩ = some (.slice bo lb.length bc)) (go_keep) ((first
        | (go_at_call 68; refine (unhide HMul _ F3 _ _).mono ?_; rintro e w4 ⟨rfl, F4⟩; obtain ⟨⟨u0, u1, u2⟩, u3, u4, u5, u6⟩ := unhide HC w4 F4)
        | (go_at_call 69; refine (unhide HAt2 _ F2 i hlt).mono ?_; rintro e w3 ⟨rfl, F3⟩; obtain ⟨⟨t0, t1, t2⟩, t3, t4, t5, t6⟩ := unhide HC w3 F3)
        | (go_at_call 69; refine (unhide HAt1 _ ((unhide Hf).trans (by first | exact Fr.ofDrewN _ 1 | exact Fr.ofDrewN _ _) (fun _ _ h => h)) i hlt).mono ?_; rintro e w2 ⟨rfl, F2⟩; obtain ⟨⟨s0, s1, s2⟩, s3, s4, s5, s6⟩ := unhide HC w2 F2)))
      all_goals
        have HF4 := hide F4
        clear F2 F3 F4 s0 s1 s2 s3 s4 s5 s6 t0 t1 t2 t3 t4 t5 t6 u0 u1 u2 u3 u4 u5 u6
        go_wp2_with fail
        go_roundw
        case rel => exact ⟨i + 1, by omega, by go_num, by rw [xorV]; rfl, by first | exact unhide HF4 | exact (unhide HF4).drew⟩
        case measure => simp [intOf]; omega
    · obtain rfl : i = cols := by omega
      have Hf := hide hf
      clear hf
      go_wp2_with fail
      go_ret
      exact ⟨rfl, unhide Hf⟩

theorem three_allocs (w : World) (A B C : Array Value) (tb : TypeId) : let W := ((w.alloc (Obj.cells A 24)).alloc (Obj.cells B tb)).alloc (Obj.cells C 24)
    W.heap[w.heap.size]? = some (.cells A 24 (0, 0)) ∧ W.heap[w.heap.size + 1]? = some (.cells B tb (0, 0)) ∧ W.heap[w.heap.size + 2]? = some (.cells C 24 (0, 0)) := by
  refine ⟨?_, ?_, ?_⟩
  · rw [Below.heap_alloc _ _ _ (by simp; omega), Below.heap_alloc _ _ _ (by simp)]; exact heap_alloc_new w _
  · rw [Below.heap_alloc _ _ _ (by simp)]
    have := heap_alloc_new (w.alloc (Obj.cells A 24)) (Obj.cells B tb)
    simpa using this
  · have := heap_alloc_new ((w.alloc (Obj.cells A 24)).alloc (Obj.cells B tb)) (Obj.cells C 24)
    simpa using this

/-- A product of two matrices. -/
def prL (rows cols wide : Nat) (la lb : List UInt8) : List UInt8 := fl wide (fun r c => sg cols (fun i => mul (mc la cols r i) (mc lb wide i c))) (rows * wide)
theorem prL_length (rows cols wide : Nat) (la lb : List UInt8) : (prL rows cols wide la lb).length = rows * wide := fl_length _ _ _

set_option maxHeartbeats 2000000 in
set_option maxRecDepth 100000 in
theorem product_ok (w : World) (rows cols wide : Nat) (va vb : Value) (la lb : List UInt8) (ha : Rd w va la) (hb : Rd w vb lb) (hla : la.length = rows * cols) (hlb : lb.length = cols * wide) (h1 : 1 ≤ rows ∧ rows ≤ 64) (h2 : 1 ≤ cols ∧ cols ≤ 64) (h3 : 1 ≤ wide ∧ wide ≤ 64) :
    Calls Try.prog 17 #[.agg #[.int .i64 (rows : Int), .int .i64 (cols : Int), va], .agg #[.int .i64 (cols : Int), .int .i64 (wide : Int), vb]] w fun e w' => (∃ q, e = .returned (.tuple #[.agg #[.int .i64 (rows : Int), .int .i64 (wide : Int), .slice (some ⟨q, 0, none⟩) (rows * wide) (rows * wide)], .int .i64 0]) ∧ BAt w' q (prL rows cols wide la lb)) ∧ Fr (fun _ => False) w w' := by
  have hck1 := chk_ok h1 h2 hla
  have hck2 := chk_ok h2 h3 hlb
  obtain ⟨ao, ac, rfl⟩ := ha.shape
  obtain ⟨bo, bc, rfl⟩ := hb.shape
  have HA := hide ha
  have HB := hide hb
  have HLA := hide hla
  have HLB := hide hlb
  have HC1 := hide hck1
  have HC2 := hide hck2
  clear ha hb hla hlb hck1 hck2
  go_enter Try.func17, Try.ntmps17
  go_wp2_with fail
  refine (check_any _ _ _ _ _ _).mono ?_
  rintro e w1 ⟨rfl, f1⟩
  rw [unhide HC1]
  have T := three_allocs w #[.int .i64 (rows : Int), .int .i64 (cols : Int), .slice ao la.length ac] #[.int .i64 (cols : Int), .int .i64 (wide : Int), .slice bo lb.length bc] #[.int .i64 0, .int .i64 0, .slice none 0 0] 24
  have ta := (f1.block _ (lt_of_heap T.1) id).trans T.1
  have tb := (f1.block _ (lt_of_heap T.2.1) id).trans T.2.1
  have tc := (f1.block _ (lt_of_heap T.2.2) id).trans T.2.2
  have F1 := ((((Fr.refl (fun _ => False) w).alloc _).alloc _).alloc _).trans f1 (fun _ _ h => h)
  have b0 := cell_of_heap tb 0
  have b1 := cell_of_heap tb 1
  have b2 := cell_of_heap tb 2
  simp at b0 b1 b2
  have HTA := hide ta
  have HTB := hide tb
  have HTC := hide tc
  have HF1 := hide F1
  clear T f1 ta tb tc F1
  go_wp2_with fail
  refine (check_any _ _ _ _ _ _).mono ?_
  rintro e w2 ⟨rfl, f2⟩
  rw [unhide HC2]
  have ta := (f2.block _ (lt_of_heap (unhide HTA)) id).trans (unhide HTA)
  have tb := (f2.block _ (lt_of_heap (unhide HTB)) id).trans (unhide HTB)
  have tc := (f2.block _ (lt_of_heap (unhide HTC)) id).trans (unhide HTC)
  have F2 := (unhide HF1).trans f2 (fun _ _ h => h)
  have a0 := cell_of_heap ta 0
  have a1 := cell_of_heap ta 1
  have b0 := cell_of_heap tb 0
  have b1 := cell_of_heap tb 1
  simp at a0 a1 b0 b1
  have HTA := hide ta
  have HTB := hide tb
  have HTC := hide tc
  have HF2 := hide F2
  clear f2 ta tb tc F2 HF1
  go_wp2_with fail
  refine (newField_any _).mono ?_
  rintro e w3 ⟨rfl, hF, f3⟩
  have F3 := (unhide HF2).trans f3 (fun _ _ h => h)
  have fA : Fr (fun _ => False) w3 (w3.alloc (Obj.cells #[.pointer (some ⟨w2.heap.size, 0, none⟩)] 100)) := (Fr.refl _ _).alloc _
  have fB := f3.trans fA (fun _ _ h => h)
  have hm := heap_alloc_new w3 (Obj.cells #[.pointer (some ⟨w2.heap.size, 0, none⟩)] 100)
  have ta := (fB.block _ (lt_of_heap (unhide HTA)) id).trans (unhide HTA)
  have tb := (fB.block _ (lt_of_heap (unhide HTB)) id).trans (unhide HTB)
  have tc := (fB.block _ (lt_of_heap (unhide HTC)) id).trans (unhide HTC)
  have F4 := (unhide HF2).trans fB (fun _ _ h => h)
  have hF4 := hF.kept fA id
  have hva := (unhide HA).kept F4 (fun _ _ h => h)
  have hvb := (unhide HB).kept F4 (fun _ _ h => h)
  have HFi := hide (filled_any (w3.alloc (Obj.cells #[.pointer (some ⟨w2.heap.size, 0, none⟩)] 100)) rows wide 67 #[.pointer (some ⟨w.heap.size, 0, none⟩), .pointer (some ⟨w3.heap.size, 0, none⟩), .pointer (some ⟨w.heap.size + 1, 0, none⟩)] (fun r c => sg cols (fun i => mul (mc la cols r i) (mc lb wide i c))) h1 h3 cf67 (fun W q i j hi hj =>
    prod1_any W w.heap.size w3.heap.size (w.heap.size + 1) w2.heap.size rows cols wide _ _ la lb i j ((q.block _ (lt_of_heap ta) id).trans ta) ((q.block _ (lt_of_heap hm) id).trans hm) ((q.block _ (lt_of_heap tb) id).trans tb) (hF4.kept q id) (hva.kept q (fun _ _ h => h)) (hvb.kept q (fun _ _ h => h)) (unhide HLA) (unhide HLB) h1 h2 h3 hi hj))
  have a0 := cell_of_heap ta 0
  have b1 := cell_of_heap tb 1
  simp at a0 b1
  have HTC := hide tc
  have HF4 := hide F4
  have hta := lt_of_heap ta
  have htb := lt_of_heap tb
  clear f3 F3 fA fB hm ta tb tc F4 hF4 hva hvb hF
  go_wp2_with fail
  refine (unhide HFi).mono ?_
  rintro e w5 ⟨rfl, B5, f5⟩
  have hp := (f5.block _ (lt_of_heap (unhide HTC)) id).trans (unhide HTC)
  have c0 := cell_of_heap hp 0
  have c1 := cell_of_heap hp 1
  have c2 := cell_of_heap hp 2
  have z0 := frozen_of_heap hp
  simp at c0 c1 c2
  have HB5 := hide B5
  have HF5 := hide ((unhide HF4).trans f5 (fun _ _ h => h))
  obtain ⟨q, hq⟩ : ∃ q, q = (w3.alloc (Obj.cells #[Value.pointer (some ⟨w2.heap.size, 0, none⟩)] 100)).heap.size + 1 := ⟨_, rfl⟩
  rw [← hq] at HB5 ⊢
  have hlt := lt_of_heap hp
  have hqs : w.heap.size + 2 < q := by have := lt_of_heap (unhide HTC); omega
  clear B5 f5 hp hq HFi
  go_wp2_with fail
  have f6 := fr_three w5 (w.heap.size + 2) (.int .i64 (rows : Int)) (.int .i64 (wide : Int)) (.slice (some ⟨q, 0, none⟩) (rows * wide) (rows * wide))
  refine bodyPost_ret (v := .tuple #[.agg #[.int .i64 (rows : Int), .int .i64 (wide : Int), .slice (some ⟨q, 0, none⟩) (rows * wide) (rows * wide)], .int .i64 0]) (by simp [results, Try.results17, go_sem, c0, c1, c2]) rfl ⟨⟨q, rfl, (unhide HB5).kept f6 (by omega)⟩, (unhide HF5).trans f6 (fun i hi h => by omega)⟩
end Go.Proofs.Ytckmddkhkdcmmaa
