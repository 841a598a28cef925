/-
  An inode's bytes, there and back.
-/
import Derived.Test.YtbenailemoefhaaBm
import Derived.Test.YtbenailemoefhaaD4
namespace Go.Proofs.Ytbenailemoefhaa
set_option linter.unusedVariables false
set_option linter.unusedSimpArgs false

theorem nb_here (k n : Nat) (r : List UInt8) (h : n < 256 ^ k) : nb (be k n ++ r) 0 k = n := by
  have := nb_be (a := []) (r := r) (k := k) (n := n) (p := 0) rfl h
  simpa using this
theorem nb_skip (j m p k : Nat) (r : List UInt8) (h : j ≤ p) : nb (be j m ++ r) p k = nb r (p - j) k := by
  unfold nb
  rw [List.drop_append, be_length, List.drop_of_length_le (by rw [be_length]; exact h), List.nil_append]
theorem drop_skip (j m p : Nat) (r : List UInt8) (h : j ≤ p) : (be j m ++ r).drop p = r.drop (p - j) := by
  rw [List.drop_append, be_length, List.drop_of_length_le (by rw [be_length]; exact h), List.nil_append]
theorem pb_flat (x : In) : pb x = be 8 x.n.toNat ++ (be 4 x.g.toNat ++ (be 4 x.k.toNat ++ (be 4 x.m.toNat ++ (be 4 x.l.toNat ++ (be 4 x.u.toNat ++ (be 4 x.d.toNat ++ (be 8 x.s.toNat ++ (be 8 x.b.toNat ++ (be 8 x.ta.toNat ++ (be 8 x.tm.toNat ++ (be 8 x.tc.toNat ++ (be 8 x.r.toNat ++ (be 4 x.t.size ++ (x.t.data.toList ++ List.replicate (zb x.t.size) 0)))))))))))))) := by
  simp [pb, lay, List.append_assoc]
theorem str_back (t : ByteArray) : str t.data.toList = t := by simp [str]
theorem pb_len (x : In) : (pb x).length = 84 + x.t.size + zb x.t.size := by
  rw [pb_flat]
  simp only [List.length_append, be_length, List.length_replicate, show x.t.data.toList.length = x.t.size from Array.length_toList]
  omega
/-- An inode that was put is got. -/
theorem g_pb (x : In) (hx : x.Ok) (h : ck x = 0) : gX (pR x) = x ∧ gE (pR x) = 0 ∧ (pR x).length % 4 = 0 := by
  have e : pR x = pb x := by unfold pR; rw [if_pos h]
  obtain ⟨hk, ht⟩ := ck_facts h
  have hk' : x.k.toNat < 256 ^ 4 ∧ (x.k.toNat : Int) = x.k := by rcases hk with e | e | e <;> rw [e] <;> decide
  have o := hx
  have n0 : nb (pb x) 0 8 = x.n.toNat := by rw [pb_flat]; exact nb_here _ _ _ (by have := o.n; omega)
  have n8 : nb (pb x) 8 4 = x.g.toNat := by
    rw [pb_flat]; iterate 1 rw [nb_skip _ _ _ _ _ (by decide)]
    exact nb_here _ _ _ (by have := o.g; omega)
  have n12 : nb (pb x) 12 4 = x.k.toNat := by
    rw [pb_flat]; iterate 2 rw [nb_skip _ _ _ _ _ (by decide)]
    exact nb_here _ _ _ hk'.1
  have n16 : nb (pb x) 16 4 = x.m.toNat := by
    rw [pb_flat]; iterate 3 rw [nb_skip _ _ _ _ _ (by decide)]
    exact nb_here _ _ _ (by have := o.m; omega)
  have n20 : nb (pb x) 20 4 = x.l.toNat := by
    rw [pb_flat]; iterate 4 rw [nb_skip _ _ _ _ _ (by decide)]
    exact nb_here _ _ _ (by have := o.l; omega)
  have n24 : nb (pb x) 24 4 = x.u.toNat := by
    rw [pb_flat]; iterate 5 rw [nb_skip _ _ _ _ _ (by decide)]
    exact nb_here _ _ _ (by have := o.u; omega)
  have n28 : nb (pb x) 28 4 = x.d.toNat := by
    rw [pb_flat]; iterate 6 rw [nb_skip _ _ _ _ _ (by decide)]
    exact nb_here _ _ _ (by have := o.d; omega)
  have n32 : nb (pb x) 32 8 = x.s.toNat := by
    rw [pb_flat]; iterate 7 rw [nb_skip _ _ _ _ _ (by decide)]
    exact nb_here _ _ _ (by have := o.s; omega)
  have n40 : nb (pb x) 40 8 = x.b.toNat := by
    rw [pb_flat]; iterate 8 rw [nb_skip _ _ _ _ _ (by decide)]
    exact nb_here _ _ _ (by have := o.b; omega)
  have n48 : nb (pb x) 48 8 = x.ta.toNat := by
    rw [pb_flat]; iterate 9 rw [nb_skip _ _ _ _ _ (by decide)]
    exact nb_here _ _ _ (by have := o.ta; omega)
  have n56 : nb (pb x) 56 8 = x.tm.toNat := by
    rw [pb_flat]; iterate 10 rw [nb_skip _ _ _ _ _ (by decide)]
    exact nb_here _ _ _ (by have := o.tm; omega)
  have n64 : nb (pb x) 64 8 = x.tc.toNat := by
    rw [pb_flat]; iterate 11 rw [nb_skip _ _ _ _ _ (by decide)]
    exact nb_here _ _ _ (by have := o.tc; omega)
  have n72 : nb (pb x) 72 8 = x.r.toNat := by
    rw [pb_flat]; iterate 12 rw [nb_skip _ _ _ _ _ (by decide)]
    exact nb_here _ _ _ (by have := o.r; omega)
  have n80 : nb (pb x) 80 4 = x.t.size := by
    rw [pb_flat]; iterate 13 rw [nb_skip _ _ _ _ _ (by decide)]
    exact nb_here _ _ _ (by omega)
  have d84 : (pb x).drop 84 = x.t.data.toList ++ List.replicate (zb x.t.size) 0 := by
    rw [pb_flat]; iterate 14 rw [drop_skip _ _ _ _ (by decide)]
    rfl
  have tl : x.t.data.toList.length = x.t.size := Array.length_toList
  have hg : gX (pb x) = x := by
    unfold gX hdX
    rw [n0, n8, n12, n16, n20, n24, n28, n32, n40, n48, n56, n64, n72, n80, d84, List.take_append_of_le_length (by omega), List.take_of_length_le (by omega), str_back]
    rw [Int.toNat_of_nonneg o.n.1, Int.toNat_of_nonneg o.g.1, hk'.2, Int.toNat_of_nonneg o.m.1, Int.toNat_of_nonneg o.l.1, Int.toNat_of_nonneg o.u.1, Int.toNat_of_nonneg o.d.1, Int.toNat_of_nonneg o.s.1, Int.toNat_of_nonneg o.b.1, Int.toNat_of_nonneg o.ta.1, Int.toNat_of_nonneg o.tm.1, Int.toNat_of_nonneg o.tc.1, Int.toNat_of_nonneg o.r.1]
  have hc : crE (x.t.data.toList ++ List.replicate (zb x.t.size) 0) x.t.size = 0 := by
    unfold crE
    rw [List.length_append, List.length_replicate, tl, if_neg (by omega), if_neg (by omega), List.drop_append_of_le_length (by omega), List.drop_of_length_le (by omega), List.nil_append, if_pos (by simp)]
  rw [e]
  refine ⟨hg, ?_, ?_⟩
  · unfold gE
    rw [if_neg (by rw [pb_len]; omega), n80, if_neg (by omega), d84, hc, if_neg (by simp), hg, h]
  · rw [pb_len]; unfold zb; omega
end Go.Proofs.Ytbenailemoefhaa
