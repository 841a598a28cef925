/-
  The walk of the document's own Through.
-/
import Derived.Test.YtbbgfbjchlefeaaVec2
import Derived.Test.YtbbgfbjchlefeaaLag
namespace Go.Proofs.Ytbbgfbjchlefeaa
open Go.RowKit
set_option linter.unusedVariables false

attribute [local go_sem ↓] Go.wp_at_zero Go.wp_at_succ

theorem rthrough_side (w : World) (ao bo : Option Addr) (n m ca cb : Nat) (h : n ≠ m) : Calls Try.prog 29 #[.slice ao n ca, .slice bo m cb] w fun e w' => e = .returned (.tuple #[.slice none 0 0, .int .i64 23]) ∧ w = w' := by
  have hb : ((n : Int) != (m : Int)) = true := by simp; omega
  clear h
  go_enter Try.func29, Try.ntmps29
  go_wp2_with fail
  go_ret2
  exact ⟨rfl, rfl⟩

theorem gt_mem {xs : List UInt8} {i k : Nat} (hk : k < xs.length) (hki : k < i) : gt xs k ∈ xs.take i := by
  unfold gt
  rw [List.getElem?_eq_getElem hk]
  exact List.mem_take_iff_getElem.2 ⟨k, by omega, rfl⟩

theorem gt_take_succ {xs : List UInt8} {k : Nat} (hk : k < xs.length) : xs.take (k + 1) = xs.take k ++ [gt xs k] := by
  unfold gt
  rw [List.take_succ_eq_append_getElem hk, List.getElem?_eq_getElem hk]
  rfl

theorem nodup_gt {xs : List UInt8} {i : Nat} (hi : i < xs.length) (nd : (xs.take i).Nodup) (h : gt xs i ∉ xs.take i) : (xs.take (i + 1)).Nodup := by
  refine take_nodup hi nd ?_
  unfold gt at h
  rw [List.getElem?_eq_getElem hi] at h
  exact h

set_option maxHeartbeats 2000000 in
set_option maxRecDepth 100000 in
theorem rthrough_dup (w : World) (xv yv : Value) (xs ys : List UInt8) (hx : Rd w xv xs) (hy : Rd w yv ys) (hl : xs.length = ys.length) (hn : xs.length ≤ 4096) (hd : ¬ xs.Nodup) :
    Calls Try.prog 29 #[xv, yv] w fun e w' => e = .returned (.tuple #[.slice none 0 0, .int .i64 21]) ∧ Fr (fun _ => False) w w' := by
  have h0 : 0 < xs.length := by
    cases xs with
    | nil => exact absurd List.nodup_nil hd
    | cons a l => simp
  obtain ⟨xo, xcap, rfl⟩ := hx.shape
  obtain ⟨yo, ycap, rfl⟩ := hy.shape
  rw [← hl]
  obtain ⟨xb, xof, rfl, -, hxcap, hxcm, hcx⟩ := hx.lits h0
  have HCX := hide (fun k hk => Rd.gt (n := 0) (cap := 0) hcx k hk)
  have HD := hide hd
  unfold maxLen at hxcm
  clear hx hy hl hcx hd
  go_enter Try.func29, Try.ntmps29
  go_wp2_with fail
  go_loopw [6] (fun ii w' => ∃ i : Nat, i ≤ xs.length ∧ ii = .int .i64 (i : Int) ∧ (xs.take i).Nodup ∧ ∃ m, w' = w.drewN m) (fun ii _ => xs.length - (intOf ii).toNat)
  case atStart => exact ⟨0, by omega, rfl, by simp, 0, rfl⟩
  case round =>
    obtain ⟨i, hi, rfl, nd, m, rfl⟩ := hrel
    by_cases hlt : i < xs.length
    · have HND := hide nd
      have xi := unhide HCX i hlt
      clear nd
      go_wp2_with fail
      go_loopw [7] (fun kk w' => ∃ k : Nat, k ≤ i ∧ kk = .int .i64 (k : Int) ∧ gt xs i ∉ xs.take k ∧ ∃ m, w' = w.drewN m) (fun kk _ => i - (intOf kk).toNat)
      case atStart => exact ⟨0, by omega, rfl, by simp, m, rfl⟩
      case round =>
        obtain ⟨k, hk, rfl, hni, m2, rfl⟩ := hrel
        by_cases hlt2 : k < i
        · have xk := unhide HCX k (by omega)
          have HNI := hide hni
          have HT := hide (gt_take_succ (xs := xs) (k := k) (by omega))
          clear hni
          by_cases he : gt xs i = gt xs k
          · have hb : ((((gt xs i).toNat : Nat) : Int) == (((gt xs k).toNat : Nat) : Int)) = true := by rw [eqV]; simpa using he
            generalize gt xs i = a at *
            generalize gt xs k = b at *
            clear he
            go_wp2_with fail
            go_quiet (fail)
            go_wp2_with fail
            go_ret2
            exact ⟨rfl, (Fr.ofDrewN w m2).drewN _⟩
          · have hb : ((((gt xs i).toNat : Nat) : Int) == (((gt xs k).toNat : Nat) : Int)) = false := by rw [eqV]; simpa using he
            have HNE : Hid (gt xs i ∉ xs.take (k + 1)) := by
              rw [unhide HT]
              intro h
              rcases List.mem_append.1 h with h | h
              · exact unhide HNI h
              · simp at h; exact he h
            generalize gt xs i = a at *
            generalize gt xs k = b at *
            clear he
            go_wp2_with fail
            go_quiet (fail)
            go_wp2_with fail
            go_roundw
            case rel => exact ⟨k + 1, by omega, by go_num, unhide HNE, _, rfl⟩
            case measure => simp [intOf]; omega
        · have hke : k = i := by omega
          subst hke
          have HN2 := hide (nodup_gt hlt (unhide HND) hni)
          clear hni
          go_wp2_with fail
          go_roundw
          case rel => exact ⟨k + 1, by omega, by go_num, unhide HN2, _, rfl⟩
          case measure => simp [intOf]; omega
    · have hie : i = xs.length := by omega
      subst hie
      rw [List.take_length] at nd
      exact absurd nd (unhide HD)

#print axioms rthrough_dup
end Go.Proofs.Ytbbgfbjchlefeaa
