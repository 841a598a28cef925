/-
  The walks of package rs: a code's rows, copies.
-/
import Derived.Test.YtckmddkhkdcmmaaVec2
import Derived.Test.YtckmddkhkdcmmaaCau
namespace Go.Proofs.Ytckmddkhkdcmmaa
open Go.RowKit
set_option linter.unusedVariables false

attribute [local go_sem ↓] Go.wp_at_zero Go.wp_at_succ

/-- A code of k and m at block p. -/
structure CAt (w : World) (p k m : Nat) : Prop where
  ex : ∃ q, w.heap[p]? = some (.cells #[.int .i64 (k : Int), .int .i64 (m : Int), .slice (some ⟨q, 0, none⟩) ((k + m) * k) ((k + m) * k)] 117 (0, 0)) ∧ BAt w q (fl k (co k) ((k + m) * k))
  hk : 1 ≤ k ∧ k ≤ 16
  hm : m ≤ 8

theorem CAt.kept {S : Nat → Prop} {w w' : World} {p k m : Nat} (h : CAt w p k m) (f : Fr S w w') (hs : ∀ b, b < w.heap.size → ¬ S b) : CAt w' p k m := by
  obtain ⟨q, h1, h2⟩ := h.ex
  exact ⟨⟨q, by rw [f.block p (lt_of_heap h1) (hs _ (lt_of_heap h1))]; exact h1, h2.kept f (hs _ (lt_of_heap h2))⟩, h.hk, h.hm⟩

set_option maxHeartbeats 400000 in
theorem rowOf_any (w : World) (q o i k n cap : Nat) (hi : i ≤ 24) (hk : 1 ≤ k ∧ k ≤ 16) (hc : (i + 1) * k ≤ cap) :
    Calls Try.prog 111 #[.slice (some ⟨q, o, none⟩) n cap, .int .i64 (i : Int), .int .i64 (k : Int)] w fun e w' => e = .returned (.slice (some ⟨q, o + i * k, none⟩) k k) ∧ w = w' := by
  obtain ⟨a, ha⟩ : ∃ a, a = i * k := ⟨_, rfl⟩
  have hb : (i + 1) * k = a + k := by rw [Nat.succ_mul, ha]
  have e1 : (i : Int) * (k : Int) = (a : Int) := by rw [ha]; simp
  have e2 : ((i : Int) + 1) * (k : Int) = ((a + k : Nat) : Int) := by rw [← hb]; simp
  have e3 : ((a + k : Nat) : Int) = (a : Int) + (k : Int) := by simp
  rw [hb] at hc
  have ha2 : a ≤ 24 * 16 := by rw [ha]; exact Nat.mul_le_mul hi hk.2
  rw [← ha]
  clear ha hb
  go_enter Try.func111, Try.ntmps111
  go_wp2
  go_ret
  refine ⟨?_, rfl⟩
  rw [show a + k - a = k by omega]
  rfl

/-- The coefficients of the shard i. -/
def rowL (k i : Nat) : List UInt8 := (List.range k).map (co k i)
theorem rowL_length (k i : Nat) : (rowL k i).length = k := by simp [rowL]
theorem rowL_get (k i j : Nat) (h : j < (rowL k i).length) : (rowL k i)[j] = co k i j := by simp [rowL]

theorem row_raw (w : World) (p q k m i n : Nat) (hp : w.heap[p]? = some (.cells #[.int .i64 (k : Int), .int .i64 (m : Int), .slice (some ⟨q, 0, none⟩) n n] 117 (0, 0))) (hi : i ≤ 24) (hk : 1 ≤ k ∧ k ≤ 16) (hc : (i + 1) * k ≤ n) (hn : n ≤ 100000) :
    Calls Try.prog 91 #[.pointer (some ⟨p, 0, none⟩), .int .i64 (i : Int)] w fun e w' => e = .returned (.slice (some ⟨q, i * k, none⟩) k k) ∧ ∃ j, w' = w.drewN j := by
  have c0 := cell_of_heap hp 0
  have c2 := cell_of_heap hp 2
  simp at c0 c2
  clear hp
  have H := hide (fun W => (rowOf_any W q 0 i k n n hi hk hc).mono (fun e w' (h : e = _ ∧ W = w') => show e = _ ∧ w' = W from ⟨h.1, h.2.symm⟩))
  clear hi hc hn hk
  go_enter Try.func91, Try.ntmps91
  go_wp2_with fail
  go_quiet ((go_at_call 111; exact Calls.quiet_of_same (unhide H _)))
  go_wp2_with fail
  go_ret
  refine ⟨?_, _, rfl⟩
  rw [Nat.zero_add]
  rfl

theorem rd_row {w : World} {q k m i : Nat} (h : BAt w q (fl k (co k) ((k + m) * k))) (hk : 1 ≤ k ∧ k ≤ 16) (hi : i < k + m) : Rd w (.slice (some ⟨q, i * k, none⟩) k k) (rowL k i) := by
  refine Rd.lit (rowL_length k i) (Nat.le_refl _) (by simp only [maxLen]; omega) fun j hj => ?_
  have hj' : j < k := by rwa [rowL_length] at hj
  rw [h.cell (i * k + j) (by rw [fl_length]; exact mul_step hi hj'), fl_get, rowL_get, Nat.mul_comm i k, Nat.mul_add_div (by omega), Nat.div_eq_of_lt hj', Nat.mul_add_mod, Nat.mod_eq_of_lt hj', Nat.add_zero]

/-- A row of a code, where it is kept. -/
theorem row_any (w : World) (p k m i : Nat) (h : CAt w p k m) (hi : i < k + m) :
    Calls Try.prog 91 #[.pointer (some ⟨p, 0, none⟩), .int .i64 (i : Int)] w fun e w' => (∃ q, e = .returned (.slice (some ⟨q, i * k, none⟩) k k) ∧ Rd w' (.slice (some ⟨q, i * k, none⟩) k k) (rowL k i) ∧ q < w.heap.size) ∧ Fr (fun _ => False) w w' := by
  obtain ⟨q, h1, h2⟩ := h.ex
  have hk := h.hk
  have hm := h.hm
  have hle : (i + 1) * k ≤ (k + m) * k := Nat.mul_le_mul_right _ hi
  have hn : (k + m) * k ≤ 24 * 16 := Nat.mul_le_mul (by omega) hk.2
  refine (row_raw w p q k m i _ h1 (by omega) hk hle (by omega)).mono ?_
  rintro e w' ⟨rfl, j, rfl⟩
  exact ⟨⟨q, rfl, rd_row (h2.kept (Fr.ofDrewN (S := fun _ => False) w j) id) hk hi, lt_of_heap h2⟩, Fr.ofDrewN w j⟩

/-- copy into a part of a block of bytes. -/
theorem copy_any (w : World) (g o dLen dCap : Nat) (A : List UInt8) (x : Value) (cs : List UInt8) (hA : BAt w g A) (hx : Rd w x cs) (hle : cs.length ≤ dLen) (hfit : o + dLen ≤ A.length) :
    ∃ w', (Builtin.copy_ #[22, 22] 3 #[.slice (some ⟨g, o, none⟩) dLen dCap, x]).run Try.prog w = .ok (.int .i64 (cs.length : Int)) w' ∧ BAt w' g (A.take o ++ cs ++ A.drop (o + cs.length)) ∧ Fr (fun b => b = g) w w' := by
  obtain ⟨ao, cap, rfl⟩ := hx.shape
  by_cases h0 : 0 < cs.length
  · obtain ⟨b, so, rfl, -, h1, h2, h3⟩ := hx.lits h0
    have hn : Nat.min cs.length dLen = cs.length := Nat.min_eq_left hle
    have := run_copy_row (P := Try.prog) w 22 22 3 5 g o dLen dCap ⟨b, so, none⟩ cs.length cap (bvs A).toArray 5 (bvs cs) Try.underlying22 (by kernel_rfl) hA (by rw [bvs_length, hn])
      (fun j v hv => by
        have hj : j < cs.length := by
          have := (List.getElem?_eq_some_iff.1 hv).1
          rwa [bvs_length] at this
        rw [Addr.add_lit, h3 j hj]
        rw [bvs_get cs j hj] at hv
        exact hv) (by rw [bvs_length, List.size_toArray, bvs_length]; omega) (bvs_one _)
    refine ⟨_, by rw [this, bvs_length]; rfl, ?_, ?_⟩
    · unfold BAt
      rw [setRow_heap w g _ _ _ _ hA]
      unfold bvs
      simp [List.map_take, List.map_drop]
    · exact ⟨rfl, rfl, rfl, by simp, fun k hk hs => setRow_other w g k _ hs⟩
  · have he : cs = [] := List.eq_nil_of_length_eq_zero (by omega)
    subst he
    refine ⟨w, ?_, ?_, Fr.refl _ _⟩
    · have := run_copy_none (P := Try.prog) w 22 22 3 5 (some ⟨g, o, none⟩) ao dLen dCap 0 cap Try.underlying22 (by kernel_rfl) (by simp)
      exact this
    · simpa using hA

theorem bat_new (w : World) (l : List UInt8) : BAt (w.alloc (Obj.cells (bvs l).toArray 5)) w.heap.size l := heap_alloc_new w _

/-- make([]byte, n): the new world by a name of its own. -/
theorem mk_any (w : World) (n : Nat) (hn : n ≤ 100000) : ∃ w1, (Instr.makeSlice 22 (.int .i64 (n : Int)) (.int .i64 (n : Int))).run Try.prog w = .ok (.slice (some ⟨w.heap.size, 0, none⟩) n n) w1 ∧ BAt w1 w.heap.size (List.replicate n 0) ∧ Fr (fun _ => False) w w1 :=
  ⟨_, run_make5 n (by omega) w, bat_new w _, (Fr.refl _ _).alloc _⟩

/-- copyOf: the same bytes in a new block. -/
theorem copyOf_any (w : World) (v : Value) (l : List UInt8) (hv : Rd w v l) (hl : l.length ≤ 100000) :
    Calls Try.prog 90 #[v] w fun e w' => e = .returned (.slice (some ⟨w.heap.size, 0, none⟩) l.length l.length) ∧ BAt w' w.heap.size l ∧ Fr (fun _ => False) w w' := by
  have hmk := run_make5 l.length (by omega) w
  obtain ⟨w2, hcp, hB, hf⟩ := copy_any (w.alloc (.cells (bvs (List.replicate l.length 0)).toArray 5)) w.heap.size 0 l.length l.length (List.replicate l.length 0) v l (bat_new w _) (hv.kept ((Fr.refl (fun _ => False) w).alloc _) (fun _ _ h => h)) (Nat.le_refl _) (by simp)
  have e1 : List.take 0 (List.replicate l.length (0 : UInt8)) ++ l ++ List.drop (0 + l.length) (List.replicate l.length 0) = l := by simp
  rw [e1] at hB
  have hF : Fr (fun _ => False) w w2 := ((Fr.refl (fun _ => False) w).alloc _).trans hf (fun i hi h => by omega)
  have HB := hide hB
  have HF := hide hF
  obtain ⟨ao, cap, rfl⟩ := hv.shape
  clear hv hB hF hf e1
  go_enter Try.func90, Try.ntmps90
  go_wp2_with fail
  go_ret
  exact ⟨rfl, unhide HB, unhide HF⟩

end Go.Proofs.Ytckmddkhkdcmmaa
