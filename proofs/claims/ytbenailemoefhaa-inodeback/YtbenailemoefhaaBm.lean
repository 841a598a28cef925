/-
  Numbers as bytes, there and back; a handle's bytes, there and back.
-/
import Derived.Test.YtbenailemoefhaaE4
namespace Go.Proofs.Ytbenailemoefhaa
set_option linter.unusedVariables false
set_option linter.unusedSimpArgs false

theorem fold_from (l : List UInt8) : ∀ a, l.foldl (fun a c => a * 256 + c.toNat) a = a * 256 ^ l.length + val l := by
  induction l with
  | nil => intro a; simp [val]
  | cons c r ih =>
    intro a
    have e : val (c :: r) = c.toNat * 256 ^ r.length + val r := by
      have := ih c.toNat
      unfold val
      simpa [val] using this
    rw [List.foldl_cons, ih, e, List.length_cons, Nat.pow_succ, Nat.add_mul, Nat.mul_assoc, Nat.mul_comm 256, Nat.add_assoc]
theorem val_cons (c : UInt8) (r : List UInt8) : val (c :: r) = c.toNat * 256 ^ r.length + val r := by
  have := fold_from r c.toNat
  unfold val
  simpa [val] using this
theorem val_be (k n : Nat) : val (be k n) = n % 256 ^ k := by
  induction k with
  | zero => simp [be, val, Nat.mod_one]
  | succ k ih =>
    have e : n % 256 ^ (k + 1) = n % 256 ^ k + 256 ^ k * (n / 256 ^ k % 256) := by rw [Nat.pow_succ, Nat.mod_mul]
    have e2 : (UInt8.ofNat (n / 256 ^ k)).toNat = n / 256 ^ k % 256 := UInt8.toNat_ofNat'
    rw [be, val_cons, ih, be_length, e2, e, Nat.mul_comm, Nat.add_comm]
theorem be_add (k : Nat) : ∀ j c m, k ≤ j → be k (c * 256 ^ j + m) = be k m := by
  induction k with
  | zero => intros; rfl
  | succ k ih =>
    intro j c m h
    rw [be, be, ih j c m (by omega)]
    congr 1
    apply UInt8.toNat_inj.1
    rw [UInt8.toNat_ofNat', UInt8.toNat_ofNat']
    obtain ⟨d, rfl⟩ : ∃ d, j = k + (d + 1) := ⟨j - k - 1, by omega⟩
    have e : c * 256 ^ (k + (d + 1)) = 256 ^ k * (c * 256 ^ d * 256) := by
      rw [Nat.pow_add, Nat.pow_succ]
      simp only [Nat.mul_comm, Nat.mul_left_comm, Nat.mul_assoc]
    rw [e, Nat.mul_add_div (Nat.pow_pos (by decide))]
    omega
theorem be_val (l : List UInt8) : be l.length (val l) = l := by
  induction l with
  | nil => rfl
  | cons c r ih =>
    rw [List.length_cons, be, val_cons, be_add _ _ _ _ (Nat.le_refl _), ih]
    congr 1
    apply UInt8.toNat_inj.1
    rw [UInt8.toNat_ofNat', Nat.mul_comm, Nat.mul_add_div (Nat.pow_pos (by decide)), Nat.div_eq_of_lt (val_lt r), Nat.add_zero]
    have := c.toNat_lt
    omega
theorem be_nb (b : List UInt8) (p k : Nat) (h : p + k ≤ b.length) : be k (nb b p k) = (b.drop p).take k := by
  have e := be_val ((b.drop p).take k)
  rwa [show ((b.drop p).take k).length = k by simp; omega] at e
theorem nb_be {a r : List UInt8} {k n : Nat} {p : Nat} (hp : a.length = p) (hn : n < 256 ^ k) : nb (a ++ be k n ++ r) p k = n := by
  unfold nb
  rw [List.append_assoc, List.drop_append_of_le_length (by omega), List.drop_of_length_le (by omega), List.nil_append, List.take_append_of_le_length (by rw [be_length]; omega), List.take_of_length_le (by rw [be_length]; omega), val_be, Nat.mod_eq_of_lt hn]
theorem hb_len (x : Ha) : (hbL x).length = 20 := by simp [hbL, be_length, mk4]
/-- A handle that was put is got. -/
theorem gh_hb (x : Ha) (hx : x.Ok) (h : cnB x = true) : ghX (hR x) = x ∧ ghE (hR x) = 0 := by
  have e : hR x = hbL x := by unfold hR; rw [if_pos h]
  have h1 : nb (hbL x) 4 4 = x.f.toNat := by
    unfold hbL
    rw [List.append_assoc _ (be 8 _)]
    exact nb_be rfl (by have := hx.f; omega)
  have h2 : nb (hbL x) 8 8 = x.n.toNat := by
    unfold hbL
    exact nb_be (by simp [be_length, mk4]) (by have := hx.n; omega)
  have h3 : nb (hbL x) 16 4 = x.g.toNat := by
    unfold hbL
    have := nb_be (a := mk4 ++ be 4 x.f.toNat ++ be 8 x.n.toNat) (r := []) (k := 4) (n := x.g.toNat) (p := 16) (by simp [be_length, mk4]) (by have := hx.g; omega)
    rwa [List.append_nil] at this
  have hg : ghX (hR x) = x := by
    rw [e]; unfold ghX; rw [h1, h2, h3]
    have := hx.f; have := hx.n; have := hx.g
    rcases x with ⟨f, n, g⟩
    simp only [Ha.mk.injEq] at *
    omega
  refine ⟨hg, ?_⟩
  unfold ghE
  rw [if_pos ⟨by rw [e, hb_len], by rw [e]; unfold hbL; rw [List.append_assoc, List.append_assoc, List.take_append_of_le_length (by decide)]; rfl, by rw [hg]; exact h⟩]
/-- Bytes that are got are put as they were. -/
theorem hb_gh (b : List UInt8) (h : ghE b = 0) : hR (ghX b) = b ∧ hE (ghX b) = 0 := by
  unfold ghE at h
  split at h
  · rename_i hc
    obtain ⟨h1, h2, h3⟩ := hc
    refine ⟨?_, by unfold hE; rw [if_pos h3]⟩
    unfold hR; rw [if_pos h3]
    unfold hbL ghX
    simp only [Int.toNat_natCast]
    rw [be_nb b 4 4 (by omega), be_nb b 8 8 (by omega), be_nb b 16 4 (by omega), ← h2]
    rw [List.take_of_length_le (l := b.drop 16) (by simp; omega)]
    have a1 : b.drop 4 = (b.drop 4).take 4 ++ b.drop 8 := by have := List.take_append_drop 4 (b.drop 4); rw [List.drop_drop] at this; exact this.symm
    have a2 : b.drop 8 = (b.drop 8).take 8 ++ b.drop 16 := by have := List.take_append_drop 8 (b.drop 8); rw [List.drop_drop] at this; exact this.symm
    rw [List.append_assoc, List.append_assoc, ← a2, ← a1, List.take_append_drop]
  · simp at h
end Go.Proofs.Ytbenailemoefhaa
