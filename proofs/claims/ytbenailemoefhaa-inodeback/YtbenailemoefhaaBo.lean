/-
  Bytes that are got as an inode are put as they were.
-/
import Derived.Test.YtbenailemoefhaaBn
namespace Go.Proofs.Ytbenailemoefhaa
set_option linter.unusedVariables false
set_option linter.unusedSimpArgs false

theorem nb_bound (b : List UInt8) (p k : Nat) : nb b p k < 256 ^ k := by
  unfold nb
  exact Nat.lt_of_lt_of_le (val_lt _) (Nat.pow_le_pow_right (by decide) (by simp; omega))
theorem gX_ok (b : List UInt8) : (gX b).Ok := by
  have h8 := fun p => nb_bound b p 8
  have h4 := fun p => nb_bound b p 4
  refine ⟨?_, ?_, ?_, ?_, ?_, ?_, ?_, ?_, ?_, ?_, ?_, ?_, ?_⟩ <;> simp only [gX, hdX]
  · have := h8 0; omega
  · have := h4 8; omega
  · have := h4 12; omega
  · have := h4 16; omega
  · have := h4 20; omega
  · have := h4 24; omega
  · have := h4 28; omega
  · have := h8 32; omega
  · have := h8 40; omega
  · have := h8 48; omega
  · have := h8 56; omega
  · have := h8 64; omega
  · have := h8 72; omega
theorem cutAt (b : List UInt8) (p k q : Nat) (h : p + k = q) : (b.drop p).take k ++ b.drop q = b.drop p := by
  have := List.take_append_drop k (b.drop p)
  rwa [List.drop_drop, h] at this
theorem pb_g (b : List UInt8) (h : gE b = 0) : pR (gX b) = b ∧ ck (gX b) = 0 := by
  unfold gE at h
  split at h
  · cases h
  rename_i h84
  split at h
  · cases h
  rename_i h255
  split at h
  · rename_i hc; exact absurd h hc
  rename_i hcr
  have hcr : crE (b.drop 84) (nb b 80 4) = 0 := Decidable.byContradiction hcr
  refine ⟨?_, h⟩
  obtain ⟨n, hn⟩ : ∃ n, n = nb b 80 4 := ⟨_, rfl⟩
  rw [← hn] at hcr h255
  unfold crE at hcr
  split at hcr
  · cases hcr
  rename_i c1
  split at hcr
  · cases hcr
  rename_i c2
  split at hcr
  rotate_left
  · cases hcr
  rename_i c3
  have hlen : (b.drop 84).length = n + zb n := by omega
  have hz : (b.drop 84).drop n = List.replicate (zb n) 0 := by
    apply List.eq_replicate_iff.2
    refine ⟨by rw [List.length_drop]; omega, fun c hc => ?_⟩
    have := List.all_eq_true.1 c3 c hc
    simpa using this
  have htl : ((b.drop 84).take n).length = n := by rw [List.length_take]; omega
  have hl84 : 84 ≤ b.length := by omega
  unfold pR
  rw [if_pos h, pb_flat]
  simp only [gX, hdX, Int.toNat_natCast]
  rw [← hn, str_data, str_size, htl, ← hz, List.take_append_drop]
  rw [be_nb b 0 8 (by omega), be_nb b 8 4 (by omega), be_nb b 12 4 (by omega), be_nb b 16 4 (by omega), be_nb b 20 4 (by omega), be_nb b 24 4 (by omega), be_nb b 28 4 (by omega), be_nb b 32 8 (by omega), be_nb b 40 8 (by omega), be_nb b 48 8 (by omega), be_nb b 56 8 (by omega), be_nb b 64 8 (by omega), be_nb b 72 8 (by omega), hn, be_nb b 80 4 (by omega)]
  rw [cutAt b 80 4 84 rfl, cutAt b 72 8 80 rfl, cutAt b 64 8 72 rfl, cutAt b 56 8 64 rfl, cutAt b 48 8 56 rfl, cutAt b 40 8 48 rfl, cutAt b 32 8 40 rfl, cutAt b 28 4 32 rfl, cutAt b 24 4 28 rfl, cutAt b 20 4 24 rfl, cutAt b 16 4 20 rfl, cutAt b 12 4 16 rfl, cutAt b 8 4 12 rfl, cutAt b 0 8 8 rfl, List.drop_zero]
end Go.Proofs.Ytbenailemoefhaa
