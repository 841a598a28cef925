/-
  CRC-32C, plainly; the walks of More and Crc.
-/
import Derived.Test.YtlicmlioilkfdaaDoorS1
namespace Go.Proofs.YtlicmlioilkfdaaDoor
open Go.RowKit
set_option linter.unusedVariables false
set_option linter.unusedSimpArgs false

attribute [local go_sem ↓] Go.wp_at_zero Go.wp_at_succ

/-- Four bits move out. -/
def q4 (r : Wd) : Wd := r >>> 4 ^^^ QL.getD (r &&& 15).toNat 0

/-- One more byte. -/
def crcB (r : Wd) (b : UInt8) : Wd := q4 (q4 (r ^^^ B8 b))

/-- More bytes behind those whose sum is c. -/
def more (c : Wd) (p : List UInt8) : Wd := ~~~(p.foldl crcB (~~~c))

theorem and15 (x : Wd) : bits BinOp.and IntKind.u32 (N x) 15 = N (x &&& 15) := by
  have : (15 : Int) = N 15 := by decide +kernel
  rw [this, and32]

theorem and15_lt (x : Wd) : (x &&& 15).toNat < 16 := by
  rw [BitVec.toNat_and]
  have : (15 : Wd).toNat = 15 := by decide
  rw [this]
  exact Nat.lt_of_le_of_lt Nat.and_le_right (by decide)

theorem shrN4 (x : Wd) : N x / (16 : Int) = N (x >>> 4) := shr32 x 4

theorem quad_cell {w : World} (T : Tb w) (x : Wd) : ∃ j : Nat, j < 16 ∧ bits BinOp.and IntKind.u32 (N x) 15 = ((j : Nat) : Int) ∧ w.cell? ⟨0, j, none⟩ = some (.int .u32 (N (QL.getD (x &&& 15).toNat 0))) :=
  ⟨_, and15_lt x, and15 x, T.q _ (and15_lt x)⟩

theorem not32z (a : Wd) : bits BinOp.xor IntKind.u32 4294967295 (N a) = N (~~~a) := not32 a

set_option maxHeartbeats 1000000 in
theorem more_any (w : World) (crc : Wd) (v : Value) (q : List UInt8) (T : Tb w) (hv : Rd w v q) : Calls Tryd.prog 15 #[.int .u32 (N crc), v] w fun e w' => e = .returned (.int .u32 (N (more crc q))) ∧ w = w' := by
  have n1 := not32' crc
  obtain ⟨ao, cap, rfl⟩ := hv.shape
  have hlen := hv.len
  simp only [maxLen] at hlen
  have HT := hide T
  have HV := hide hv
  clear T hv
  go_enter Tryd.func15, Tryd.ntmps15
  go_wp2_with fail
  go_loopw [5, 12] (fun x y w' => ∃ i : Nat, i ≤ q.length ∧ y = .int .i64 (i : Int) ∧ x = .int .u32 (N ((q.take i).foldl crcB (~~~crc))) ∧ w' = w) (fun _ y _ => q.length - (intOf y).toNat)
  case atStart => exact ⟨0, by omega, rfl, rfl, rfl⟩
  case round =>
    obtain ⟨i, hi, rfl, rfl, rfl⟩ := hrel
    by_cases hlt : i < q.length
    · obtain ⟨b, o, rfl, -, -, -, hc⟩ := (unhide HV).lits (by omega)
      have c1 := hc i hlt
      have hstep : (q.take (i + 1)).foldl crcB (~~~crc) = crcB ((q.take i).foldl crcB (~~~crc)) q[i] := by
        rw [List.take_succ_eq_append_getElem hlt, List.foldl_append]; rfl
      have HS := hide hstep
      have a0 := wrap_N (B8 q[i])
      rw [← N_B8] at c1
      have hcB : ∀ r b, crcB r b = q4 (q4 (r ^^^ B8 b)) := fun r b => rfl
      have HCB := hide hcB
      clear hc hstep hcB
      generalize hr2 : (q.take (i + 1)).foldl crcB (~~~crc) = r' at *
      have HR2 := hide hr2
      clear hr2
      generalize (q.take i).foldl crcB (~~~crc) = r at *
      generalize q[i] = x at *
      have x1 := xor32 r (B8 x)
      have hq4 : q4 (r ^^^ B8 x) = (r ^^^ B8 x) >>> 4 ^^^ QL.getD ((r ^^^ B8 x) &&& 15).toNat 0 := rfl
      obtain ⟨y, hy⟩ : ∃ y, y = r ^^^ B8 x := ⟨_, rfl⟩
      rw [← hy] at x1 hq4
      have s1 := shrN4 y
      obtain ⟨j1, l1, a1, k1⟩ := quad_cell (unhide HT) y
      have x2 := xor32 (y >>> 4) (QL.getD (y &&& 15).toNat 0)
      rw [← hq4] at x2
      have hq4' : q4 (q4 y) = (q4 y) >>> 4 ^^^ QL.getD ((q4 y) &&& 15).toNat 0 := rfl
      have hr' : r' = q4 (q4 y) := by rw [unhide HS, unhide HCB, hy]
      rw [← hr'] at hq4'
      have HY := hide hy
      clear hy hq4 hr'
      generalize q4 y = z at *
      have s2 := shrN4 z
      obtain ⟨j2, l2, a2, k2⟩ := quad_cell (unhide HT) z
      have x3 := xor32 (z >>> 4) (QL.getD (z &&& 15).toNat 0)
      rw [← hq4'] at x3
      clear hq4'
      generalize QL.getD (y &&& 15).toNat 0 = g1 at *
      generalize QL.getD (z &&& 15).toNat 0 = g2 at *
      go_wp2_with fail
      refine ⟨⟨i + 1, by omega, by go_num, by rw [unhide HR2], trivial⟩, by simp [intOf]; omega⟩
    · have : i = q.length := by omega
      subst this
      have n2 := not32' (q.foldl crcB (~~~crc))
      rw [List.take_length] at *
      go_wp2_with fail
      go_ret
      exact ⟨rfl, rfl⟩

/-- The sum of bytes. -/
def crc (p : List UInt8) : Wd := more 0 p

theorem crc_any (w : World) (v : Value) (q : List UInt8) (T : Tb w) (hv : Rd w v q) : Calls Tryd.prog 13 #[v] w fun e w' => e = .returned (.int .u32 (N (crc q))) ∧ w = w' := by
  have := more_any w 0 v q T hv
  have e : N (0 : Wd) = 0 := by decide
  rw [e] at this
  have H := hide this
  have he : more 0 q = crc q := rfl
  rw [he] at H
  clear this he
  go_enter Tryd.func13, Tryd.ntmps13
  go_wp2_with fail
  refine (unhide H).mono ?_
  rintro e w' ⟨rfl, rfl⟩
  go_wp2_with fail
  go_ret
  exact ⟨rfl, rfl⟩
end Go.Proofs.YtlicmlioilkfdaaDoor
