/-
  The walk of the document's More and Crc.
-/
import Derived.Test.YtlicmlioilkfdaaDoorCr
namespace Go.Proofs.YtlicmlioilkfdaaDoor
open Go.RowKit
set_option linter.unusedVariables false
set_option linter.unusedSimpArgs false

attribute [local go_sem ↓] Go.wp_at_zero Go.wp_at_succ

set_option maxHeartbeats 1000000 in
theorem rmore_any (w : World) (crc : Wd) (v : Value) (q : List UInt8) (hv : Rd w v q) : Calls Tryd.prog 16 #[.int .u32 (N crc), v] w fun e w' => e = .returned (.int .u32 (N (more crc q))) ∧ w = w' := by
  have n1 := not32' crc
  obtain ⟨ao, cap, rfl⟩ := hv.shape
  have hlen := hv.len
  simp only [maxLen] at hlen
  have HV := hide hv
  clear hv
  go_enter Tryd.func16, Tryd.ntmps16
  go_wp2_with fail
  go_loopw [5, 6] (fun x y w' => ∃ i : Nat, i ≤ q.length ∧ y = .int .i64 (i : Int) ∧ x = .int .u32 (N ((q.take i).foldl crcB (~~~crc))) ∧ w' = w) (fun _ y _ => q.length - (intOf y).toNat)
  case atStart => exact ⟨0, by omega, rfl, rfl, rfl⟩
  case round =>
    obtain ⟨i, hi, rfl, rfl, rfl⟩ := hrel
    by_cases hlt : i < q.length
    · obtain ⟨b, o, rfl, -, -, -, hc⟩ := (unhide HV).lits (by omega)
      have c1 := hc i hlt
      have hstep : (q.take (i + 1)).foldl crcB (~~~crc) = crcB ((q.take i).foldl crcB (~~~crc)) q[i] := by
        rw [List.take_succ_eq_append_getElem hlt, List.foldl_append]; rfl
      rw [crcB_bits] at hstep
      have HS := hide hstep
      have a0 := wrap_N (B8 q[i])
      rw [← N_B8] at c1
      clear hc hstep
      generalize hr2 : (q.take (i + 1)).foldl crcB (~~~crc) = r' at *
      have HR2 := hide hr2
      clear hr2
      generalize (q.take i).foldl crcB (~~~crc) = r at *
      generalize q[i] = x at *
      have x1 := xor32 r (B8 x)
      generalize r ^^^ B8 x = y at *
      go_wp2_with fail
      go_loopw [5, 7] (fun x z w' => ∃ j : Nat, j ≤ 8 ∧ z = .int .i64 (j : Int) ∧ x = .int .u32 (N (bitn j y)) ∧ w' = wr) (fun _ z _ => 8 - (intOf z).toNat)
      case atStart => exact ⟨0, by omega, rfl, rfl, rfl⟩
      case round =>
        obtain ⟨j, hj, rfl, rfl, rfl⟩ := hrel
        by_cases hjl : j < 8
        · have hb : bitn (j + 1) y = bit1 (bitn j y) := bitn_succ' j y
          have HB := hide hb
          clear hb
          generalize bitn j y = t at *
          have s1 := shrN1 t
          have s2 := and1 t
          have s3 := xorP (t >>> 1)
          have s4 := lsb_and t
          have s5 : bit1 t = if t.getLsbD 0 then t >>> 1 ^^^ 2197175160#32 else t >>> 1 := rfl
          cases ht : t.getLsbD 0
          · rw [ht] at s4 s5
            simp only [Bool.false_eq_true, if_false] at s5
            have S5 := hide s5
            clear s5 ht
            go_wp2_with fail
            go_roundw
            case rel => exact ⟨j + 1, by omega, by go_num, by rw [unhide HB, unhide S5], by first | rfl | trivial⟩
            case measure => simp [intOf]; omega
          · rw [ht] at s4 s5
            simp only [if_true] at s5
            have S5 := hide s5
            clear s5 ht
            go_wp2_with fail
            go_roundw
            case rel => exact ⟨j + 1, by omega, by go_num, by rw [unhide HB, unhide S5], by first | rfl | trivial⟩
            case measure => simp [intOf]; omega
        · have h8 : j = 8 := by omega
          subst h8
          rw [← unhide HS]
          go_wp2_with fail
          go_roundw
          case rel => exact ⟨i + 1, by omega, by go_num, by rw [unhide HR2], by first | rfl | trivial⟩
          case measure => simp [intOf]; omega
    · have : i = q.length := by omega
      subst this
      have n2 := not32' (q.foldl crcB (~~~crc))
      rw [List.take_length] at *
      go_wp2_with fail
      go_ret
      exact ⟨rfl, rfl⟩

theorem rcrc_any (w : World) (v : Value) (q : List UInt8) (hv : Rd w v q) : Calls Tryd.prog 14 #[v] w fun e w' => e = .returned (.int .u32 (N (crc q))) ∧ w = w' := by
  have := rmore_any w 0 v q hv
  have e : N (0 : Wd) = 0 := by decide
  rw [e] at this
  have H := hide this
  have he : more 0 q = crc q := rfl
  rw [he] at H
  clear this he
  go_enter Tryd.func14, Tryd.ntmps14
  go_wp2_with fail
  refine (unhide H).mono ?_
  rintro e w' ⟨rfl, rfl⟩
  go_wp2_with fail
  go_ret
  exact ⟨rfl, rfl⟩
end Go.Proofs.YtlicmlioilkfdaaDoor
