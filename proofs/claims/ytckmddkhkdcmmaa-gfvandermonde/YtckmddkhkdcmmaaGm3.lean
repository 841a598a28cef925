/-
  Rows of powers of different bases: the matrix has an inverse, and its product with that is one.
-/
import Derived.Test.YtckmddkhkdcmmaaGm2
import Derived.Test.YtckmddkhkdcmmaaPows
import Derived.Test.YtckmddkhkdcmmaaPoly
namespace Go.Proofs.Ytckmddkhkdcmmaa
open Go.RowKit
set_option linter.unusedVariables false
set_option linter.unusedSimpArgs false

theorem pw_zeroE (x : UInt8) : pw x 0 = 1 := by unfold pw; simp
theorem pw_oneE (x : UInt8) : pw x 1 = x := all256 (P := fun a => pw a 1 = a) (by decide +kernel) x
theorem pw_succ (x : UInt8) (c : Nat) : pw x ((c + 1 : Nat) : Int) = mul (pw x (c : Int)) x := by
  by_cases hx : x = 0
  · subst hx
    rw [mul_zero]
    unfold pw
    rw [if_neg (by omega), if_pos rfl]
  · have := pw_add hx (c : Int) 1
    rw [pw_oneE] at this
    rw [this]
    rfl

theorem sg_head (n : Nat) (f : Nat → UInt8) : sg (n + 1) f = f 0 ^^^ sg n (fun i => f (i + 1)) := by
  have := sg_split 1 n f
  rw [Nat.add_comm 1 n] at this
  rw [this]
  congr 1
  · simp [sg]
  · exact sg_congr (fun i _ => by rw [Nat.add_comm])

/-- A polynomial's value, by powers. -/
theorem ev_sg (p : List UInt8) (x : UInt8) : ev p x = sg p.length (fun c => mul (pw x (c : Int)) (p[c]?.getD 0)) := by
  induction p with
  | nil => rfl
  | cons a p ih =>
    rw [List.length_cons, sg_head]
    have h0 : mul (pw x ((0 : Nat) : Int)) ((a :: p)[0]?.getD 0) = a := by
      rw [show ((0 : Nat) : Int) = 0 from rfl, pw_zeroE, one_mul]; rfl
    rw [h0]
    have h1 : sg p.length (fun i => mul (pw x ((i + 1 : Nat) : Int)) ((a :: p)[i + 1]?.getD 0)) = mul x (sg p.length (fun c => mul (pw x (c : Int)) (p[c]?.getD 0))) := by
      rw [← sg_mul]
      refine sg_congr (fun i _ => ?_)
      rw [pw_succ, List.getElem?_cons_succ, mul_comm (pw x (i : Int)) x, mul_assoc]
    rw [h1, ← ih]
    simp only [ev]
    rw [mul_comm, UInt8.xor_comm]

theorem van_cell {xs : List Nat} {n r c : Nat} (hn : xs.length = n) (hb : ∀ x ∈ xs, x < 64) (hr : r < n) (hc : c < n) : mc (rwsL n (fl n pwC (64 * n)) xs) n r c = pwC (xs[r]'(by omega)) c := by
  unfold rwsL
  rw [mc_fl (rows := xs.length) (by omega) hc]
  rw [List.getElem?_eq_getElem (show r < xs.length by omega)]
  exact mc_fl (rows := 64) (hb _ (List.getElem_mem _)) hc

theorem van_reg {xs : List Nat} {n : Nat} (hn : xs.length = n) (nd : xs.Nodup) (hb : ∀ x ∈ xs, x < 64) : Reg (rwsL n (fl n pwC (64 * n)) xs) n := by
  intro v hv c hc
  have hz : (List.range n).map v = List.replicate n 0 := by
    refine roots_zero n _ (xs.map UInt8.ofNat) (by simp) (by simp [hn]) ?_ ?_
    · unfold List.Nodup at nd ⊢
      rw [List.pairwise_map]
      refine nd.imp_of_mem (fun {a b} ha hb' hne e => hne ?_)
      have h1 := hb a ha
      have h2 := hb b hb'
      have := congrArg UInt8.toNat e
      rw [UInt8.toNat_ofNat', UInt8.toNat_ofNat'] at this
      omega
    · intro x hx
      obtain ⟨y, hy, rfl⟩ := List.mem_map.1 hx
      obtain ⟨r, hr, rfl⟩ := List.getElem_of_mem hy
      rw [ev_sg, List.length_map, List.length_range]
      rw [← hv r (by omega)]
      unfold mv
      refine sg_congr (fun i hi => ?_)
      rw [van_cell hn hb (by omega) hi]
      simp [pwC, hi]
  have h := congrArg (fun l => l[c]?) hz
  simp [hc] at h
  exact h

theorem inv_prod {A : List UInt8} {n : Nat} (hl : A.length = n * n) (h : (invR n A).2 = n) : prL n n n A (invL n A) = fl n eyeC (n * n) := by
  unfold prL fl
  refine List.map_congr_left (fun j hj => ?_)
  have hj' := List.mem_range.1 hj
  have hn : 0 < n := by
    rcases Nat.eq_zero_or_pos n with e | e
    · subst e; simp at hj'
    · exact e
  have hr : j / n < n := Nat.div_lt_of_lt_mul hj'
  have hc : j % n < n := Nat.mod_lt _ hn
  exact (inv_iff hl h (fun i => mc (invL n A) n i (j % n)) (fun r => eyeC r (j % n))).2 (fun r _ => by
    show _ = sg n (fun i => mul (mc (invL n A) n r i) (eyeC i (j % n)))
    rw [sg_one hc (fun i _ hne => by unfold eyeC; rw [if_neg hne, mul_zero])]
    unfold eyeC
    rw [if_pos rfl, mul_one]) _ hr
end Go.Proofs.Ytckmddkhkdcmmaa
