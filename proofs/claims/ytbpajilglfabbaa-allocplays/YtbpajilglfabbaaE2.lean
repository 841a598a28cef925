/-
  AllocBack, plainly; kinds of operations of drawn regions.
-/
import Derived.Test.YtbpajilglfabbaaE1
namespace Go.Proofs.Ytbpajilglfabbaa
open Go.RowKit
set_option linter.unusedVariables false
set_option linter.unusedSimpArgs false

def kRb (l : List UInt8) : Kd (fun _ => False) := .pr (fun v W => Rd W v l) (fun _ _ _ h f => h.kept f (fun _ _ h => h))
def kLn (n : Nat) : Kd (fun _ => False) := .pr (fun v _ => ∃ ao c, v = .slice ao n c) (fun _ _ _ h _ => h)
theorem nopaths {l : List Oper} : ∀ k i j, ([] : List Nat)[k]? = some i → ([] : List Nat)[k + 1]? = some j → Path l j i := by
  intro k i j hi hj
  simp at hi
section
variable {ρ : Operand → Value} {o : Oper} {w : World}
theorem x_len51 {x : Operand} {ao : Option Addr} {n c : Nat} (ho : o.op = .call { callee := .builtin .len, args := #[x], argTypes := #[51] }) (hx : ρ x = .slice ao n c) : (execOp ρ o).run Try.prog w = .ok (.value (.int .i64 (n : Int))) w := by
  simp [execOp, ho, hx, go_sem]
theorem e_call0 {k : Nat} {t : Array TypeId} (ho : o.op = .call { callee := .value (.func k), args := #[], argTypes := t }) (hf : ρ (.func k) = .func (.func k) #[] #[]) (hk : ∀ args W, Sem.run Try.prog (callFunc k args) W = .ok (.enter k args) W) : (execOp ρ o).run Try.prog w = .ok (.enter k #[]) w := by
  have hk' := hk #[] w
  simp [execOp, ho, hf, go_sem, hk']
end
theorem cf10 (args : Array Value) (W : World) : Sem.run Try.prog (callFunc 10 args) W = .ok (.enter 10 args) W := by simp [go_sem]
theorem cf19 (args : Array Value) (W : World) : Sem.run Try.prog (callFunc 19 args) W = .ok (.enter 19 args) W := by simp [go_sem]
theorem cf20 (args : Array Value) (W : World) : Sem.run Try.prog (callFunc 20 args) W = .ok (.enter 20 args) W := by simp [go_sem]
theorem cf24 (args : Array Value) (W : World) : Sem.run Try.prog (callFunc 24 args) W = .ok (.enter 24 args) W := by simp [go_sem]
theorem cf25 (args : Array Value) (W : World) : Sem.run Try.prog (callFunc 25 args) W = .ok (.enter 25 args) W := by simp [go_sem]
theorem cf26 (args : Array Value) (W : World) : Sem.run Try.prog (callFunc 26 args) W = .ok (.enter 26 args) W := by simp [go_sem]
theorem cf27 (args : Array Value) (W : World) : Sem.run Try.prog (callFunc 27 args) W = .ok (.enter 27 args) W := by simp [go_sem]

theorem bitmap_rd (w : World) (p : Nat) (X : Ly) (K : Kc) (H : KA w p X K) (m : List UInt8) (hm : bm K.s = m) : Calls Try.prog 20 #[ptr p] w fun e w' => ∃ v, e = .returned v ∧ Rd w' v m ∧ Fr (fun _ => False) w w' := by
  refine (bitmap_any w p X K H).mono ?_
  rintro e w' ⟨⟨q, N, rfl, hN, hB, -⟩, f⟩
  rw [hm] at hN hB
  have hl : m.length ≤ maxLen := by rw [← hm, bm_length]; have := H.n2; simp only [maxLen]; omega
  refine ⟨_, rfl, ?_, f⟩
  rw [hN]
  exact hB.rd hl
theorem taken_ln (w : World) (p : Nat) (X : Ly) (K : Kc) (M : Rc) (H : KA w p X K) (A : Ab K M) (n : Nat) (hn : M.t.length = n) : Calls Try.prog 24 #[ptr p] w fun e w' => ∃ v, e = .returned v ∧ (∃ ao c, v = .slice ao n c) ∧ Fr (fun _ => False) w w' := by
  refine (taken_any w p X K H A.inj2).mono ?_
  rintro e w' ⟨⟨x, rfl, hx⟩, f⟩
  rw [A.taken] at hx
  obtain ⟨ao, N, c, rfl, hN⟩ := hx.shape
  exact ⟨_, rfl, ⟨ao, c, by rw [hN, hn]⟩, f⟩
theorem given_ln (w : World) (p : Nat) (X : Ly) (K : Kc) (M : Rc) (H : KA w p X K) (A : Ab K M) (n : Nat) (hn : M.g.length = n) : Calls Try.prog 25 #[ptr p] w fun e w' => ∃ v, e = .returned v ∧ (∃ ao c, v = .slice ao n c) ∧ Fr (fun _ => False) w w' := by
  refine (given_any w p X K H A.inj3).mono ?_
  rintro e w' ⟨⟨x, rfl, hx⟩, f⟩
  rw [A.given] at hx
  obtain ⟨ao, N, c, rfl, hN⟩ := hx.shape
  exact ⟨_, rfl, ⟨ao, c, by rw [hN, hn]⟩, f⟩

theorem bm_ext {S s : List UInt8} (hl : s.length = S.length) (h : ∀ b, isU s b = isU S b) : bm s = bm S := by
  have hk : ∀ k, bmK s k = bmK S k := fun k => by
    induction k with
    | zero => unfold bmK; rw [hl]
    | succ k ih => unfold bmK; rw [ih, h k]
  unfold bm
  rw [hl, hk]

theorem isU_lt {s : List UInt8} {b : Nat} (h : isU s b = true) : b < s.length := by
  rcases Nat.lt_or_ge b s.length with h' | h'
  · exact h'
  · unfold isU at h
    rw [List.getElem?_eq_none h'] at h
    simp at h

/-- A bitmap's allocator: its states. -/
theorem ld_back (s : List UInt8) (n : Nat) (hn : s.length = n) (h1 : 1 ≤ n) (h2 : n ≤ 65536) : ldE (n : Int) (bm s) = 0 ∧ (ldS (n : Int) (bm s)).r = 0 ∧ (ldS (n : Int) (bm s)).s.length = n ∧ ∀ b, b < n → (ldS (n : Int) (bm s)).s[b]? = some (if isU s b then 1 else 0) := by
  have hlen := bm_length s
  have hok : okL (bm s) n = true := by
    rw [okL_iff]
    intro b hb
    rw [mem_bitsL, gb_bm] at hb
    rw [← hn]
    exact isU_lt hb.2
  refine ⟨?_, ?_, ?_, fun b hb => ?_⟩
  · unfold ldE
    rw [if_neg (by omega), if_neg (by rw [Int.toNat_natCast, hlen, hn]; simp), Int.toNat_natCast, if_pos hok]
  · unfold ldS; rw [Kc.setL_r]; rfl
  · unfold ldS; rw [Kc.setL_s, setL_length]; simp [kc0]
  · unfold ldS
    rw [Kc.setL_s, setL_get, Int.toNat_natCast]
    have hz : (kc0 n).s[b]? = some 0 := by simp [kc0, List.getElem?_replicate, hb]
    have hl : (kc0 n).s.length = n := by simp [kc0]
    rw [hl, hz]
    by_cases hu : isU s b = true
    · rw [if_pos hu, if_pos ⟨mem_bitsL.2 ⟨by rw [hlen]; omega, by rw [gb_bm]; exact hu⟩, hb⟩]
    · rw [if_neg hu, if_neg (fun h => hu (by have := (mem_bitsL.1 h.1).2; rwa [gb_bm] at this))]

theorem abort_get {s : List UInt8} {b : Nat} {z : UInt8} (h : s[b]? = some z) : (rep (rep s 2 0) 3 1)[b]? = some (if (if z = 2 then 0 else z) = 3 then 1 else (if z = 2 then 0 else z)) := by
  rw [rep_get, rep_get, h]; rfl
end Go.Proofs.Ytbpajilglfabbaa
