/-
  The two small functions of InodeKeeps; what changes stays right, plainly.
-/
import Derived.Test.YtbenailemoefhaaCf
import Derived.Test.YtbenailemoefhaaA3
import Derived.Test.YtbenailemoefhaaG1
import Derived.Test.YtbenailemoefhaaC4
namespace Go.Proofs.Ytbenailemoefhaa
open Go.RowKit Go.Lib
set_option linter.unusedVariables false
set_option linter.unusedSimpArgs false

attribute [local go_sem ↓] Go.wp_at_zero Go.wp_at_succ

/-- b with the times of a. -/
def apX2 (a b : In) : In := { b with ta := a.ta, tm := a.tm, tc := a.tc }
/-- x with what a change may set, of another. -/
def wiX (x y : In) : In := { x with m := y.m, l := y.l, u := y.u, d := y.d, s := y.s }
set_option maxRecDepth 100000 in
set_option maxHeartbeats 4000000 in
theorem apart_any (a b : In) (w : World) : Calls Try.prog 38 #[a.v, b.v] w fun e w' => e = .returned (.bool (eqB a (apX2 a b))) ∧ Fr (fun _ => False) w w' := by
  go_enter Try.func38, Try.ntmps38
  go_wp2_with (first | (apply wl_load25 _ rfl rfl _ rfl; (case hr => simp [go_sem]); (case hc => (simp [go_sem]; try exact rfl))) | (apply wl_store25 _ _ rfl rfl _ rfl _ rfl; (case hr => simp [go_sem]); (case hw => (simp [go_sem]; try exact rfl))))
  go_ret
  exact ⟨rfl, by repeat' (first | exact Fr.refl _ _ | apply Fr.alloc)⟩
set_option maxRecDepth 100000 in
set_option maxHeartbeats 4000000 in
theorem with_any (a b : In) (w : World) : Calls Try.prog 39 #[a.v, b.v] w fun e w' => e = .returned (wiX a b).v ∧ Fr (fun _ => False) w w' := by
  go_enter Try.func39, Try.ntmps39
  go_wp2_with (first | (apply wl_load25 _ rfl rfl _ rfl; (case hr => simp [go_sem]); (case hc => (simp [go_sem]; try exact rfl))) | (apply wl_store25 _ _ rfl rfl _ rfl _ rfl; (case hr => simp [go_sem]); (case hw => (simp [go_sem]; try exact rfl))))
  all_goals (apply r25 rfl rfl rfl; (case hr => simp [go_sem]); (case hc => (simp [go_sem]; try exact rfl)))
  all_goals refine ⟨congrArg Ending.returned ?_, by repeat' (first | exact Fr.refl _ _ | apply Fr.alloc | (refine Fr.ext ?_ (by assumption)))⟩
  all_goals rfl
theorem ck_parts (x : In) : ck x = 0 ↔ (x.n ≠ 0 ∧ x.g ≠ 0 ∧ kdB x.k = true ∧ x.m ≤ 4095) ∧ x.l ≤ 32000 ∧ (x.t.size : Int) ≤ 255 ∧ x.s ≤ 1048576 ∧ fitB x = true := by
  unfold ck
  constructor
  · intro h
    split at h
    · omega
    · rename_i h1
      split at h
      · omega
      · split at h
        · omega
        · split at h
          · omega
          · split at h
            · omega
            · rename_i h2 h3 h4 h5
              simp only [not_or, Bool.not_eq_false] at h1 h5
              exact ⟨⟨h1.1, h1.2.1, h1.2.2.1, by omega⟩, by omega, by omega, by omega, h5⟩
  · rintro ⟨⟨h1, h2, h3, h4⟩, h5, h6, h7, h8⟩
    rw [if_neg (by simp only [not_or, Bool.not_eq_false]; exact ⟨h1, h2, h3, by omega⟩), if_neg (by omega), if_neg (by omega), if_neg (by omega), if_neg (by simp [h8])]
theorem ck_file (x y : In) (h : ck x = 0) (hk : x.k = 1) (e1 : y.n = x.n) (e2 : y.g = x.g) (e3 : y.k = x.k) (e4 : y.t = x.t) (h1 : y.m ≤ 4095) (h2 : y.l ≤ 32000) (h3 : y.s ≤ 1048576) : ck y = 0 := by
  rw [ck_parts] at h ⊢
  obtain ⟨⟨a1, a2, a3, a4⟩, a5, a6, a7, a8⟩ := h
  refine ⟨⟨by rw [e1]; exact a1, by rw [e2]; exact a2, by rw [e3]; exact a3, h1⟩, h2, by rw [e4]; exact a6, h3, ?_⟩
  unfold fitB at a8 ⊢
  rw [e3, e4, hk] at *
  simpa using a8
theorem ck_like (x y : In) (h : ck x = 0) (e1 : y.n = x.n) (e2 : y.g = x.g) (e3 : y.k = x.k) (e4 : y.t = x.t) (e5 : y.s = x.s) (e6 : y.r = x.r) (e7 : y.b = x.b) (h1 : y.m ≤ 4095) (h2 : y.l ≤ 32000) : ck y = 0 := by
  rw [ck_parts] at h ⊢
  obtain ⟨⟨a1, a2, a3, a4⟩, a5, a6, a7, a8⟩ := h
  refine ⟨⟨by rw [e1]; exact a1, by rw [e2]; exact a2, by rw [e3]; exact a3, h1⟩, h2, by rw [e4]; exact a6, by rw [e5]; exact a7, ?_⟩
  unfold fitB at a8 ⊢
  rw [e3, e4, e5, e6, e7]
  exact a8
theorem ck_m (x : In) (h : ck x = 0) : x.m ≤ 4095 := ((ck_parts x).1 h).1.2.2.2
theorem ck_l (x : In) (h : ck x = 0) : x.l ≤ 32000 := ((ck_parts x).1 h).2.1
/-- Touched. -/
theorem k_tch (x : In) (a b c : Bool) (now : Int) (h : ck x = 0) : ck (tch x a b c now) = 0 ∧ eqB x (apX2 x (tch x a b c now)) = true :=
  ⟨h, eqB_same x⟩
/-- Linked. -/
theorem k_lk (x : In) (d now : Int) (h : ck x = 0) (e : lkE x d = 0) : ck (lkX x d now) = 0 ∧ (lkX x d now).s = x.s ∧ (lkX x d now).m = x.m ∧ eqB x (apX2 x (wiX (lkX x d now) x)) = true := by
  refine ⟨ck_like x _ h rfl rfl rfl rfl rfl rfl rfl (ck_m x h) ?_, rfl, rfl, eqB_same x⟩
  unfold lkE at e
  rw [if_neg (by simp [h])] at e
  split at e
  · omega
  · show x.l + d ≤ 32000
    omega
/-- Sized. -/
theorem k_sz (x : In) (s now : Int) (h : ck x = 0) (e : szE x s = 0) : ck { x with s := s, tm := now, tc := now } = 0 ∧ eqB x (apX2 x (wiX { x with s := s, tm := now, tc := now } x)) = true := by
  unfold szE at e
  rw [if_neg (by simp [h])] at e
  split at e
  · rename_i h1
    exact ⟨ck_file x _ h h1.1 rfl rfl rfl rfl (ck_m x h) (ck_l x h) h1.2, eqB_same x⟩
  · omega
/-- A new one. -/
theorem kn_new (n g k m u d t : Int) (e : newE n g k = 0) : ck (newX n g k m u d t) = 0 := by rw [ck_new]; exact e
/-- What is set. -/
theorem k_ap (x : In) (s : Sa) (now : Int) (h : ck x = 0) (e : apE x s = 0) : ck (apX x s now) = 0 ∧ eqB x (apX2 x (wiX (apX x s now) x)) = true ∧ (s.h = 0 → apX x s now = x) := by
  have hcs : csB x.k s = true := by
    unfold apE at e
    rw [if_neg (by simp [h])] at e
    split at e
    · omega
    · rename_i h1; simpa using h1
  unfold csB at hcs
  simp only [Bool.and_eq_true, Bool.not_eq_true'] at hcs
  obtain ⟨⟨⟨-, -⟩, h3⟩, h4⟩ := hcs
  have hm : (if hb s.h 1 = true then s.m else x.m) ≤ 4095 := by
    split
    · rename_i q
      rw [q] at h3
      simp at h3
      omega
    · exact ck_m x h
  refine ⟨?_, ?_, ?_⟩
  · by_cases h8 : hb s.h 8 = true
    · rw [h8] at h4
      simp at h4
      refine ck_file x _ h h4.1 ?_ ?_ ?_ ?_ ?_ ?_ ?_
      · unfold apX stt tch stf; split <;> rfl
      · unfold apX stt tch stf; split <;> rfl
      · unfold apX stt tch stf; split <;> rfl
      · unfold apX stt tch stf; split <;> rfl
      · have : (apX x s now).m = if hb s.h 1 = true then s.m else x.m := by unfold apX stt tch stf; split <;> rfl
        rw [this]; exact hm
      · have : (apX x s now).l = x.l := by unfold apX stt tch stf; split <;> rfl
        rw [this]; exact ck_l x h
      · have : (apX x s now).s = s.s := by unfold apX stt tch stf; simp only [h8, if_true]
        rw [this]; exact h4.2
    · have h8' : hb s.h 8 = false := by simpa using h8
      have hS : apS x s = false := by unfold apS; simp [h8']
      refine ck_like x _ h ?_ ?_ ?_ ?_ ?_ ?_ ?_ ?_ ?_
      iterate 4 (unfold apX stt tch stf; split <;> rfl)
      · unfold apX stt tch stf; simp [hS, h8']
      iterate 2 (unfold apX stt tch stf; split <;> rfl)
      · have : (apX x s now).m = if hb s.h 1 = true then s.m else x.m := by unfold apX stt tch stf; split <;> rfl
        rw [this]; exact hm
      · have : (apX x s now).l = x.l := by unfold apX stt tch stf; split <;> rfl
        rw [this]; exact ck_l x h
  · have : apX2 x (wiX (apX x s now) x) = x := by unfold apX2 wiX apX stt tch stf; split <;> rfl
    rw [this]; exact eqB_same x
  · intro h0
    have hb0 : ∀ k, k = 1 ∨ k = 2 ∨ k = 4 ∨ k = 8 ∨ k = 16 ∨ k = 32 ∨ k = 64 ∨ k = 128 → hb s.h k = false := by
      intro k hk
      rw [h0]
      rcases hk with rfl | rfl | rfl | rfl | rfl | rfl | rfl | rfl <;> decide
    unfold apX apS stt tch stf
    simp [h0 ▸ hb0 1 (by simp), h0 ▸ hb0 2 (by simp), h0 ▸ hb0 4 (by simp), h0 ▸ hb0 8 (by simp), h0 ▸ hb0 16 (by simp), h0 ▸ hb0 32 (by simp), h0 ▸ hb0 64 (by simp), h0 ▸ hb0 128 (by simp), h0]
section
variable {ρ : Operand → Value} {o : Oper} {w : World}
theorem x_neI {t : TypeId} {x y : Operand} {k : IntKind} {n m : Int} {b : Bool} (ht : Try.prog.underlying t = some (.int k)) (ho : o.op = .binOp .neq t x y t) (hx : ρ x = .int k n) (hy : ρ y = .int k m) (hb : (n != m) = b) : (execOp ρ o).run Try.prog w = .ok (.value (.bool b)) w := by
  subst hb; simp [execOp, ho, hx, hy, go_sem]
theorem x_not {x : Operand} {b : Bool} (ho : o.op = .unOp .not 4 x) (hx : ρ x = .bool b) : (execOp ρ o).run Try.prog w = .ok (.value (.bool (!b))) w := by
  simp [execOp, ho, hx, go_sem]
theorem x_ne25 {x y : Operand} {z : In} (ho : o.op = .binOp .neq 25 x y 25) (hx : ρ x = z.v) (hy : ρ y = z.v) : (execOp ρ o).run Try.prog w = .ok (.value (.bool false)) w := by
  simp [execOp, ho, hx, hy, go_sem, eqB_same]
end
/-- A piece of code by way of what it leaves. -/
theorem wp_via {P : Program} {x : Code} {Q : Exit → Act → World → Prop} {a : Act} {w : World} (K : Act → World → Prop) (h1 : x.wp P (Exit.then K (fun _ _ _ => False)) a w) (h2 : ∀ a w, K a w → Q .normal a w) : x.wp P Q a w :=
  Code.wp_mono (fun e a w h => by cases e <;> first | exact h.elim | exact h2 _ _ h) h1
theorem fa52_0 (b o : Nat) (W : World) : (Instr.fieldAt 52 (.pointer (some ⟨b, o, none⟩)) 0).run Try.prog W = .ok (.pointer (some ⟨b, o + 0, none⟩)) W := by simp [go_sem]
theorem rowN_s2 {w : World} {n : Nat} {x : Sa} (h : w.heap[n]? = some (.cells x.cs 52 (0, 0))) : rowN w n 7 = true := by
  have hr : row? w n = some x.cs := by unfold row?; rw [h]; rfl
  unfold rowN; rw [hr]; simp
theorem rowD_s2 {w : World} {n : Nat} {x : Sa} (h : w.heap[n]? = some (.cells x.cs 52 (0, 0))) : rowD w n = x.cs := by
  have hr : row? w n = some x.cs := by unfold row?; rw [h]; rfl
  unfold rowD; rw [hr]; rfl
end Go.Proofs.Ytbenailemoefhaa
