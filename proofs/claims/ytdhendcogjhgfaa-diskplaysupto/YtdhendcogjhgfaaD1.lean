/-
  A disk, plainly and in memory; the walks of what only asks it.
-/
import Derived.Test.YtdhendcogjhgfaaDm
namespace Go.Proofs.Ytdhendcogjhgfaa
open Go.RowKit
set_option linter.unusedVariables false

attribute [local go_sem ↓] Go.wp_at_zero Go.wp_at_succ

section
variable {α : Type} {L : List (List α)} {n : Nat}
theorem flat_len (h : ∀ c ∈ L, c.length = n) : L.flatten.length = L.length * n := by
  induction L with
  | nil => simp
  | cons c t ih =>
    rw [List.flatten_cons, List.length_append, ih (fun c hc => h c (List.mem_cons_of_mem _ hc)), h c (List.mem_cons_self ..), List.length_cons, Nat.succ_mul]
    omega

theorem flat_get (h : ∀ c ∈ L, c.length = n) (i j : Nat) (hi : i < L.length) (hj : j < n) : L.flatten[i * n + j]? = (L[i])[j]? := by
  induction L generalizing i with
  | nil => simp at hi
  | cons c t ih =>
    have hc := h c (List.mem_cons_self ..)
    rw [List.flatten_cons]
    cases i with
    | zero => rw [Nat.zero_mul, Nat.zero_add, List.getElem?_append_left (by omega)]; rfl
    | succ i =>
      rw [List.getElem?_append_right (by rw [Nat.succ_mul]; omega), Nat.succ_mul, hc, show i * n + n + j - n = i * n + j by omega, ih (fun c hc => h c (List.mem_cons_of_mem _ hc)) i (by simpa using hi)]
      rfl

theorem flat_set (h : ∀ c ∈ L, c.length = n) (i j : Nat) (hi : i < L.length) (hj : j < n) (v : α) : L.flatten.set (i * n + j) v = (L.set i ((L[i]).set j v)).flatten := by
  induction L generalizing i with
  | nil => simp at hi
  | cons c t ih =>
    have hc := h c (List.mem_cons_self ..)
    rw [List.flatten_cons]
    cases i with
    | zero => rw [Nat.zero_mul, Nat.zero_add, List.set_append_left _ _ (by omega)]; rfl
    | succ i =>
      rw [List.set_append_right _ _ (by rw [Nat.succ_mul]; omega), Nat.succ_mul, hc, show i * n + n + j - n = i * n + j by omega, ih (fun c hc => h c (List.mem_cons_of_mem _ hc)) i (by simpa using hi)]
      rfl
end

/-- A disk, plainly; cap and rest: what its sectors' array has behind them. -/
structure Dk where
  size : Nat
  S : List (List UInt8 × UInt8)
  Q : List (Nat × List UInt8)
  off : Bool
  n : Nat
  cap : Nat
  rest : List Value

/-- The bytes of a sector, in an array. -/
def pad (l : List UInt8) : List UInt8 := l ++ List.replicate (512 - l.length) 0
theorem pad_length {l : List UInt8} (h : l.length ≤ 512) : (pad l).length = 512 := by simp [pad]; omega
theorem pad_take (l : List UInt8) : (pad l).take l.length = l := by simp [pad]

def secC (s : List UInt8 × UInt8) : List Value := bvs (pad s.1) ++ [.int .u8 ((s.2.toNat : Nat) : Int)]
def secF (S : List (List UInt8 × UInt8)) : List Value := (S.map secC).flatten
def wrC (q : Nat × List UInt8) : List Value := .int .i64 (q.1 : Int) :: bvs (pad q.2)
def wrF (Q : List (Nat × List UInt8)) : List Value := (Q.map wrC).flatten

/-- Such a disk may be. -/
structure Dk.Ok (d : Dk) : Prop where
  size : 8 ≤ d.size ∧ d.size ≤ 512
  len : 1 ≤ d.S.length ∧ d.S.length ≤ 65536
  sec : ∀ s ∈ d.S, s.1.length = d.size ∧ s.2.toNat ≤ 2
  wr : ∀ q ∈ d.Q, q.2.length = d.size ∧ q.1 < d.S.length
  room : d.Q.length ≤ 4096
  few : d.n ≤ 1000000000
  lay : d.S.length ≤ d.cap ∧ d.cap ≤ maxLen ∧ d.rest.length = (d.cap - d.S.length) * 513

/-- A disk in memory: p the struct, gs the sectors, qv the queue. -/
structure KAt (w : World) (p gs : Nat) (qv : Value) (d : Dk) : Prop where
  heap : w.heap[p]? = some (.cells #[.int .i64 (d.size : Int), .slice (some ⟨gs, 0, none⟩) d.S.length d.cap, qv, .bool d.off, .int .i64 (d.n : Int)] 78 (0, 0))
  secs : w.heap[gs]? = some (.cells (secF d.S ++ d.rest).toArray 92 (0, 0))
  queue : w.ownsRow 0 95 513 qv d.Q.length (wrF d.Q)
  ok : d.Ok

theorem secC_length {s : List UInt8 × UInt8} (h : s.1.length ≤ 512) : (secC s).length = 513 := by
  unfold secC; rw [List.length_append, bvs_length, pad_length h]; rfl
theorem wrC_length {q : Nat × List UInt8} (h : q.2.length ≤ 512) : (wrC q).length = 513 := by
  unfold wrC; rw [List.length_cons, bvs_length, pad_length h]

theorem KAt.kept {T : Nat → Prop} {w w' : World} {p gs : Nat} {qv : Value} {d : Dk} (h : KAt w p gs qv d) (f : Fr T w w') (hp : ¬ T p) (hg : ¬ T gs) (hq : ∀ b, qv.ownBlock = some b → ¬ T b) : KAt w' p gs qv d :=
  ⟨by rw [f.block p (lt_of_heap h.heap) hp]; exact h.heap, by rw [f.block gs (lt_of_heap h.secs) hg]; exact h.secs, owns_kept h.queue f hq, h.ok⟩

theorem KAt.ne {w : World} {p gs : Nat} {qv : Value} {d : Dk} (h : KAt w p gs qv d) : p ≠ gs := by
  rintro rfl
  have h1 := h.heap
  rw [h.secs] at h1
  simp at h1

section
variable (w : World) (p gs : Nat) (qv : Value) (d : Dk)

theorem size_any (h : KAt w p gs qv d) : Calls Try.prog 38 #[.pointer (some ⟨p, 0, none⟩)] w fun e w' => e = .returned (.int .i64 (d.size : Int)) ∧ w = w' := by
  have c0 := cell_of_heap h.heap 0
  simp at c0
  clear h
  go_enter Try.func38, Try.ntmps38
  go_wp2_with fail
  go_ret
  exact ⟨rfl, rfl⟩

theorem size_nil : Calls Try.prog 38 #[.pointer none] w fun e w' => e = .returned (.int .i64 0) ∧ w = w' := by
  go_enter Try.func38, Try.ntmps38
  go_wp2_with fail
  go_ret
  exact ⟨rfl, rfl⟩

theorem sectors_any (h : KAt w p gs qv d) : Calls Try.prog 39 #[.pointer (some ⟨p, 0, none⟩)] w fun e w' => e = .returned (.int .i64 (d.S.length : Int)) ∧ w = w' := by
  have c1 := cell_of_heap h.heap 1
  simp at c1
  clear h
  go_enter Try.func39, Try.ntmps39
  go_wp2_with fail
  go_ret
  exact ⟨rfl, rfl⟩

theorem sectors_nil : Calls Try.prog 39 #[.pointer none] w fun e w' => e = .returned (.int .i64 0) ∧ w = w' := by
  go_enter Try.func39, Try.ntmps39
  go_wp2_with fail
  go_ret
  exact ⟨rfl, rfl⟩

theorem writes_any (h : KAt w p gs qv d) : Calls Try.prog 35 #[.pointer (some ⟨p, 0, none⟩)] w fun e w' => e = .returned (.int .i64 (d.n : Int)) ∧ w = w' := by
  have c4 := cell_of_heap h.heap 4
  simp at c4
  clear h
  go_enter Try.func35, Try.ntmps35
  go_wp2_with fail
  go_ret
  exact ⟨rfl, rfl⟩

theorem writes_nil : Calls Try.prog 35 #[.pointer none] w fun e w' => e = .returned (.int .i64 0) ∧ w = w' := by
  go_enter Try.func35, Try.ntmps35
  go_wp2_with fail
  go_ret
  exact ⟨rfl, rfl⟩

theorem failed_any (h : KAt w p gs qv d) : Calls Try.prog 20 #[.pointer (some ⟨p, 0, none⟩)] w fun e w' => e = .returned (.bool d.off) ∧ w = w' := by
  have c3 := cell_of_heap h.heap 3
  simp at c3
  clear h
  go_enter Try.func20, Try.ntmps20
  go_wp2_with fail
  go_ret
  exact ⟨rfl, rfl⟩

theorem failed_nil : Calls Try.prog 20 #[.pointer none] w fun e w' => e = .returned (.bool false) ∧ w = w' := by
  go_enter Try.func20, Try.ntmps20
  go_wp2_with fail
  go_ret
  exact ⟨rfl, rfl⟩

theorem num_any (n : Int) : Calls Try.prog 14 #[.int .i64 n] w fun e w' => e = .returned (.int .i64 n) ∧ w = w' := by
  go_enter Try.func14, Try.ntmps14
  go_wp2_with fail
  go_ret
  exact ⟨rfl, rfl⟩
end

end Go.Proofs.Ytdhendcogjhgfaa
