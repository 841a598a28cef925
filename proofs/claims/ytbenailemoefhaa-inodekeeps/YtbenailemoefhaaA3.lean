/-
  New, Attributes, Touch, Linked, Sized, of both.
-/
import Derived.Test.YtbenailemoefhaaA2
namespace Go.Proofs.Ytbenailemoefhaa
open Go.RowKit
set_option linter.unusedVariables false
set_option linter.unusedSimpArgs false

attribute [local go_sem ↓] Go.wp_at_zero Go.wp_at_succ

/-- An inode that is answered, or none and an error. -/
@[reducible] def Res (x : In) (e : Int) : Value := .tuple #[(if e = 0 then x else In.zero).v, .int .i64 e]
def newE (n g k : Int) : Int := if n = 0 ∨ g = 0 ∨ (k ≠ 1 ∧ k ≠ 2) then 120 else 0
def newX (n g k m u d t : Int) : In := ⟨n, g, k, m % 4096, if k = 2 then 2 else 1, u, d, 0, 0, t, t, t, 0, ⟨#[]⟩⟩
theorem and4095 (m : Int) (h0 : 0 ≤ m) (h1 : m < 4294967296) : bits .and .u32 m 4095 = m % 4096 := by
  obtain ⟨k, rfl⟩ := Int.eq_ofNat_of_zero_le h0
  show IntKind.u32.wrap ((BitVec.ofInt 32 (k : Int) &&& BitVec.ofInt 32 4095).toNat : Int) = _
  have e1 : (BitVec.ofInt 32 (k : Int) &&& BitVec.ofInt 32 4095).toNat = k % 4096 := by
    rw [BitVec.toNat_and]
    have : (BitVec.ofInt 32 (k : Int)).toNat = k := by rw [BitVec.ofInt_natCast]; simp; omega
    rw [this]
    exact Nat.and_two_pow_sub_one_eq_mod k 12
  rw [e1]
  simp [IntKind.wrap, IntKind.bits, IntKind.signed]
  omega
theorem ck_new (n g k m u d t : Int) : ck (newX n g k m u d t) = newE n g k := by
  have e : (⟨#[]⟩ : ByteArray).toList = [] := by kernel_rfl
  have h4 : ¬ m % 4096 > 4095 := by omega
  unfold ck newE newX fitB kdB
  dsimp only
  simp only [e, h4]
  by_cases h1 : k = 1
  · subst h1; simp [ByteArray.size]
  · by_cases h2 : k = 2
    · subst h2; simp [ByteArray.size]
    · by_cases h5 : k = 5
      · subst h5; simp [ByteArray.size]
      · simp [h1, h2, h5]
set_option maxRecDepth 100000 in
set_option maxHeartbeats 4000000 in
theorem new_any (n g k m u d t : Int) (w : World) (h0 : 0 ≤ m) (h1 : m < 4294967296) : Calls Try.prog 20 #[.int .u64 n, .int .u32 g, .int .i64 k, .int .u32 m, .int .u32 u, .int .u32 d, .int .u64 t] w fun e w' => e = .returned (Res (newX n g k m u d t) (newE n g k)) ∧ Fr (fun _ => False) w w' := by
  have HM := and4095 m h0 h1
  have HC := check_any (newX n g k m u d t)
  have HX : Hid (newX n g k m u d t = ⟨n, g, k, m % 4096, if k = 2 then 2 else 1, u, d, 0, 0, t, t, t, 0, ⟨#[]⟩⟩) := hide rfl
  rw [ck_new, unhide HX] at HC
  generalize newE n g k = rr at *
  generalize newX n g k m u d t = X at *
  generalize m % 4096 = m2 at *
  clear h0 h1
  by_cases h2 : k = 2
  · subst h2
    simp only [if_true] at HC
    go_enter Try.func20, Try.ntmps20
    go_wp2_with (first | (go_at_call 18; refine mono_ext (HC _) ?_; rintro e E rfl hE) | (refine wl_zero25 rfl rfl ?_) | (refine wl_new25 rfl rfl rfl rfl rfl rfl rfl rfl rfl rfl rfl rfl ?_) | (apply wl_load25 _ rfl rfl _ rfl; (case hr => simp [go_sem]); (case hc => (simp [go_sem]; try exact rfl))) | (apply wl_store25 _ _ rfl rfl _ rfl _ rfl; (case hr => simp [go_sem]); (case hw => (simp [go_sem]; try exact rfl))))
    all_goals (apply re25 rfl rfl rfl; (case hr => simp [go_sem]); (case hc => (simp [go_sem]; try exact rfl)))
    all_goals refine ⟨congrArg Ending.returned ?_, by repeat' (first | exact Fr.refl _ _ | apply Fr.alloc | (refine Fr.ext ?_ (by assumption)))⟩
    all_goals rw [unhide HX]
    all_goals clear HC HX
    all_goals simp_all
  · have b2 : (k == 2) = false := by simpa using h2
    simp only [if_neg h2] at HC
    go_enter Try.func20, Try.ntmps20
    go_wp2_with (first | (go_at_call 18; refine mono_ext (HC _) ?_; rintro e E rfl hE) | (refine wl_zero25 rfl rfl ?_) | (refine wl_new25 rfl rfl rfl rfl rfl rfl rfl rfl rfl rfl rfl rfl ?_) | (apply wl_load25 _ rfl rfl _ rfl; (case hr => simp [go_sem]); (case hc => (simp [go_sem]; try exact rfl))) | (apply wl_store25 _ _ rfl rfl _ rfl _ rfl; (case hr => simp [go_sem]); (case hw => (simp [go_sem]; try exact rfl))))
    all_goals (apply re25 rfl rfl rfl; (case hr => simp [go_sem]); (case hc => (simp [go_sem]; try exact rfl)))
    all_goals refine ⟨congrArg Ending.returned ?_, by repeat' (first | exact Fr.refl _ _ | apply Fr.alloc | (refine Fr.ext ?_ (by assumption)))⟩
    all_goals rw [unhide HX]
    all_goals clear HC HX
    all_goals simp_all
set_option maxRecDepth 100000 in
set_option maxHeartbeats 4000000 in
theorem rnew_any (n g k m u d t : Int) (w : World) (h0 : 0 ≤ m) (h1 : m < 4294967296) : Calls Try.prog 21 #[.int .u64 n, .int .u32 g, .int .i64 k, .int .u32 m, .int .u32 u, .int .u32 d, .int .u64 t] w fun e w' => e = .returned (Res (newX n g k m u d t) (newE n g k)) ∧ Fr (fun _ => False) w w' := by
  have HE : Hid (newE n g k = if n = 0 ∨ g = 0 ∨ (k ≠ 1 ∧ k ≠ 2) then 120 else 0) := hide rfl
  have HX : Hid (newX n g k m u d t = ⟨n, g, k, m % 4096, if k = 2 then 2 else 1, u, d, 0, 0, t, t, t, 0, ⟨#[]⟩⟩) := hide rfl
  generalize newE n g k = rr at *
  generalize newX n g k m u d t = X at *
  go_enter Try.func21, Try.ntmps21
  go_wp2_with (first | (refine wl_zero25 rfl rfl ?_) | (refine wl_new25 rfl rfl rfl rfl rfl rfl rfl rfl rfl rfl rfl rfl ?_) | (apply wl_load25 _ rfl rfl _ rfl; (case hr => simp [go_sem]); (case hc => (simp [go_sem]; try exact rfl))) | (apply wl_store25 _ _ rfl rfl _ rfl _ rfl; (case hr => simp [go_sem]); (case hw => (simp [go_sem]; try exact rfl))))
  all_goals (apply re25 rfl rfl rfl; (case hr => simp [go_sem]); (case hc => (simp [go_sem]; try exact rfl)))
  all_goals refine ⟨congrArg Ending.returned ?_, by repeat' (first | exact Fr.refl _ _ | apply Fr.alloc | (refine Fr.ext ?_ (by assumption)))⟩
  all_goals rw [unhide HE, unhide HX]
  all_goals clear HE HX
  all_goals simp_all
end Go.Proofs.Ytbenailemoefhaa
