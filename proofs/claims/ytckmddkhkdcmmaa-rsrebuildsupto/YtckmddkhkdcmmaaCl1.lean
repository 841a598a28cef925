/-
  The document's clearing of a matrix, plainly; its At.
-/
import Derived.Test.YtckmddkhkdcmmaaGau
import Derived.Test.YtckmddkhkdcmmaaLast2
import Derived.Test.YtckmddkhkdcmmaaQl
namespace Go.Proofs.Ytckmddkhkdcmmaa
open Go.RowKit
set_option linter.unusedVariables false
set_option linter.unusedSimpArgs false

attribute [local go_sem ↓] Go.wp_at_zero Go.wp_at_succ

/-- One cell is set. -/
def upd (f : Nat → Nat → UInt8) (r c : Nat) (x : UInt8) : Nat → Nat → UInt8 := fun i j => if i = r ∧ j = c then x else f i j

theorem divmod_iff {cols t r c : Nat} (hc : c < cols) : t = r * cols + c ↔ t / cols = r ∧ t % cols = c := by
  constructor
  · rintro rfl
    refine ⟨?_, ?_⟩
    · rw [Nat.mul_comm, Nat.mul_add_div (by omega), Nat.div_eq_of_lt hc, Nat.add_zero]
    · rw [Nat.mul_comm, Nat.mul_add_mod, Nat.mod_eq_of_lt hc]
  · rintro ⟨rfl, rfl⟩
    rw [Nat.mul_comm]; exact (Nat.div_add_mod t cols).symm

theorem fl_set (cols : Nat) (f : Nat → Nat → UInt8) (N r c : Nat) (x : UInt8) (hc : c < cols) : (fl cols f N).set (r * cols + c) x = fl cols (upd f r c x) N := by
  apply List.ext_getElem
  · simp [fl_length]
  · intro t h1 h2
    rw [List.getElem_set, fl_get, fl_get]
    unfold upd
    by_cases e : r * cols + c = t
    · rw [if_pos e, if_pos ((divmod_iff hc).1 e.symm)]
    · rw [if_neg e, if_neg (fun h => e ((divmod_iff hc).2 h).symm)]

theorem fl_congr {cols rows : Nat} {f g : Nat → Nat → UInt8} (hc : 0 < cols) (h : ∀ r c, r < rows → c < cols → f r c = g r c) : fl cols f (rows * cols) = fl cols g (rows * cols) := by
  apply List.ext_getElem
  · simp [fl_length]
  · intro t h1 h2
    rw [fl_get, fl_get]
    rw [fl_length] at h1
    exact h _ _ (Nat.div_lt_of_lt_mul (by rw [Nat.mul_comm]; exact h1)) (Nat.mod_lt _ hc)

theorem flat_lt {rows cols r c : Nat} (hr : r < rows) (hc : c < cols) : r * cols + c < rows * cols := by
  have : (r + 1) * cols ≤ rows * cols := Nat.mul_le_mul_right _ hr
  rw [Nat.succ_mul] at this
  omega

theorem fl_at {cols rows r c : Nat} (f : Nat → Nat → UInt8) (hr : r < rows) (hc : c < cols) : (fl cols f (rows * cols))[r * cols + c]'(by rw [fl_length]; exact flat_lt hr hc) = f r c := by
  rw [fl_get]
  have := (divmod_iff (t := r * cols + c) (r := r) hc).1 rfl
  rw [this.1, this.2]

/-- Two rows change places, up to a column. -/
def swK (f : Nat → Nat → UInt8) (n r k : Nat) : Nat → Nat → UInt8 := fun i j => if j < k then (if i = r then f n j else if i = n then f r j else f i j) else f i j
theorem swK_zero (f : Nat → Nat → UInt8) (n r : Nat) : swK f n r 0 = f := by funext i j; simp [swK]
theorem swK_step (f : Nat → Nat → UInt8) (n r k : Nat) : upd (upd (swK f n r k) n k (f r k)) r k (f n k) = swK f n r (k + 1) := by
  funext i j
  unfold upd swK
  by_cases hj : j = k
  · subst hj
    by_cases hr : i = r
    · subst hr; simp
    · by_cases hn : i = n
      · subst hn; simp [hr]
      · simp [hr, hn]
  · have : j < k + 1 ↔ j < k := by omega
    simp [hj, this]

/-- A row is scaled, up to a column. -/
def scK (f : Nat → Nat → UInt8) (n : Nat) (x : UInt8) (k : Nat) : Nat → Nat → UInt8 := fun i j => if i = n ∧ j < k then mul x (f n j) else f i j
theorem scK_zero (f : Nat → Nat → UInt8) (n : Nat) (x : UInt8) : scK f n x 0 = f := by funext i j; simp [scK]
theorem scK_at (f : Nat → Nat → UInt8) (n : Nat) (x : UInt8) (k : Nat) : scK f n x k n k = f n k := by simp [scK]
theorem scK_step (f : Nat → Nat → UInt8) (n : Nat) (x : UInt8) (k : Nat) : upd (scK f n x k) n k (mul x (f n k)) = scK f n x (k + 1) := by
  funext i j
  unfold upd scK
  by_cases hj : j = k
  · subst hj
    by_cases hn : i = n
    · subst hn; simp
    · simp [hn]
  · have : j < k + 1 ↔ j < k := by omega
    simp [hj, this]

/-- A row is added to another, up to a column. -/
def adK (f : Nat → Nat → UInt8) (n q : Nat) (x : UInt8) (k : Nat) : Nat → Nat → UInt8 := fun i j => if i = q ∧ j < k then f q j ^^^ mul x (f n j) else f i j
theorem adK_zero (f : Nat → Nat → UInt8) (n q : Nat) (x : UInt8) : adK f n q x 0 = f := by funext i j; simp [adK]
theorem adK_at (f : Nat → Nat → UInt8) (n q : Nat) (x : UInt8) (k : Nat) : adK f n q x k q k = f q k := by simp [adK]
theorem adK_nat (f : Nat → Nat → UInt8) (n q : Nat) (x : UInt8) (k : Nat) (h : q ≠ n) : adK f n q x k n k = f n k := by simp [adK, Ne.symm h]
theorem adK_step (f : Nat → Nat → UInt8) (n q : Nat) (x : UInt8) (k : Nat) : upd (adK f n q x k) q k (f q k ^^^ mul x (f n k)) = adK f n q x (k + 1) := by
  funext i j
  unfold upd adK
  by_cases hj : j = k
  · subst hj
    by_cases hn : i = q
    · subst hn; simp
    · simp [hn]
  · have : j < k + 1 ↔ j < k := by omega
    simp [hj, this]

/-- All rows above q but n are cleared. -/
def clK (f : Nat → Nat → UInt8) (n c q : Nat) : Nat → Nat → UInt8 := fun i j => if i < q ∧ i ≠ n then f i j ^^^ mul (f i c) (f n j) else f i j
theorem clK_zero (f : Nat → Nat → UInt8) (n c : Nat) : clK f n c 0 = f := by funext i j; simp [clK]
theorem clK_self (f : Nat → Nat → UInt8) (n c q j : Nat) : clK f n c q q j = f q j := by simp [clK]
theorem clK_n (f : Nat → Nat → UInt8) (n c q j : Nat) : clK f n c q n j = f n j := by simp [clK]
theorem clK_skip (f : Nat → Nat → UInt8) (n c q : Nat) (h : q = n ∨ f q c = 0) : clK f n c (q + 1) = clK f n c q := by
  funext i j
  unfold clK
  by_cases e : i = q
  · subst e
    rcases h with h | h
    · simp [h]
    · by_cases e2 : i = n
      · simp [e2]
      · simp [e2, h, zero_mul]
  · have : i < q + 1 ↔ i < q := by omega
    simp [this]
theorem clK_step (f : Nat → Nat → UInt8) (n c q cols : Nat) (h : q ≠ n) (i j : Nat) (hj : j < cols) : adK (clK f n c q) n q (f q c) cols i j = clK f n c (q + 1) i j := by
  unfold adK
  by_cases e : i = q
  · subst e
    rw [if_pos ⟨rfl, hj⟩, clK_self, clK_n]
    unfold clK
    rw [if_pos ⟨by omega, h⟩]
  · rw [if_neg (fun h => e h.1)]
    unfold clK
    have : i < q + 1 ↔ i < q := by omega
    simp [this]

/-- One step of the clearing. -/
theorem cel_all {S : List (List UInt8)} {cols n c r : Nat} (hw : Wid S cols) (hl : lead S n c = some r) (hn : n < S.length) (hr : r < S.length) (hcc : c < cols) :
    ∀ i j, i < S.length → j < cols → clK (scK (swK (cel S) n r cols) n (div 1 (cel S r c)) cols) n c S.length i j = cel (stp (S, n) c).1 i j := by
  intro i j hi hj
  have hs1 : ∀ i j, j < cols → swK (cel S) n r cols i j = cel (stp1 S n c r) i j := fun i j hj => by
    rw [cel_stp1 hn hr]
    unfold swK
    rw [if_pos hj]
  have hl1 : (stp1 S n c r).length = S.length := by unfold stp1 swp; simp
  have hp : cel (stp1 S n c r) n c = cel S r c := cel_lead hl
  have hs2 : ∀ i j, j < cols → scK (swK (cel S) n r cols) n (div 1 (cel S r c)) cols i j = cel (stp2 (stp1 S n c r) n c) i j := fun i j hj => by
    rw [cel_stp2 (by rw [hl1]; exact hn), hp]
    unfold scK
    by_cases e : i = n
    · subst e
      rw [if_pos ⟨rfl, hj⟩, if_pos rfl, hs1 _ _ hj]
    · rw [if_neg (fun h => e h.1), if_neg e, hs1 _ _ hj]
  have hl2 : (stp2 (stp1 S n c r) n c).length = S.length := by unfold stp2; rw [List.length_set, hl1]
  have hw2 : Wid (stp2 (stp1 S n c r) n c) cols := (hw.stp1 hn hr).stp2 (by rw [hl1]; exact hn)
  have e : (stp (S, n) c).1 = clr (stp2 (stp1 S n c r) n c) n c := by unfold stp; simp only [hl]
  rw [e, cel_clr hw2 (by rw [hl2]; exact hn) i j (by rw [hl2]; exact hi)]
  unfold clK
  by_cases e2 : i = n
  · rw [if_neg (fun h => h.2 e2), if_pos e2, hs2 _ _ hj]
  · rw [if_pos ⟨hi, e2⟩, if_neg e2, hs2 _ _ hj, hs2 _ _ hj, hs2 _ _ hcc]

theorem stp_none {s : List (List UInt8) × Nat} {c : Nat} (h : lead s.1 s.2 c = none) : stp s c = s := by unfold stp; rw [h]
theorem redK_stop (ls : List (List UInt8)) (c : Nat) (h : ls.length ≤ (redK ls c).2) : ∀ m, redK ls (c + m) = redK ls c := by
  intro m
  induction m with
  | zero => rfl
  | succ m ih =>
    show stp (redK ls (c + m)) (c + m) = _
    rw [ih]
    exact stp_none (lead_end (by rw [redK_length]; exact h))

theorem info24_size : (Try.prog.info? 24).map (·.size) = some 3 := by kernel_rfl
theorem Try.u24 : ∃ d, Try.prog.underlying 24 = some d ∧ d.isRow = true := by
  refine ⟨_, Try.underlying24, rfl⟩

theorem rat_any (w : World) (rows cols q N cap r c : Nat) (x : UInt8) (hN : r * cols + c < N) (hs : N ≤ 100000) (hc : w.cell? ⟨q, r * cols + c, none⟩ = some (.int .u8 ((x.toNat : Nat) : Int))) :
    Calls Try.prog 73 #[.agg #[.int .i64 (rows : Int), .int .i64 (cols : Int), .slice (some ⟨q, 0, none⟩) N cap], .int .i64 (r : Int), .int .i64 (c : Int)] w fun e w' => e = .returned (.int .u8 ((x.toNat : Nat) : Int)) ∧ Fr (fun _ => False) w w' := by
  have hq := World.block_lt_of_cell? w _ hc
  have hmul : r * cols ≤ 100000 := by omega
  have hcl : c ≤ 100000 := by omega
  have e1 : (r : Int) * (cols : Int) = ((r * cols : Nat) : Int) := by simp
  have hi : ((r * cols : Nat) : Int) + (c : Int) < (N : Int) := by omega
  have hi2 : (((r * cols : Nat) : Int) + (c : Int)).toNat = r * cols + c := by omega
  have hc2 : ∀ o : Obj, (w.alloc o).cell? ⟨q, r * cols + c, none⟩ = some (.int .u8 ((x.toNat : Nat) : Int)) := fun o => ((((Fr.refl (fun _ => False) w).alloc o).cell (a := ⟨q, r * cols + c, none⟩) hq id)).trans hc
  generalize r * cols = m at *
  go_enter Try.func73, Try.ntmps73
  go_wp2_with fail
  go_ret
  exact ⟨rfl, (Fr.refl _ _).alloc _⟩
end Go.Proofs.Ytckmddkhkdcmmaa
