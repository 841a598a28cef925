/-
  The walks of package gf's differences, spread and Through.
-/
import Derived.Test.YtbbgfbjchlefeaaThr
namespace Go.Proofs.Ytbbgfbjchlefeaa
open Go.RowKit
set_option linter.unusedVariables false

attribute [local go_sem ↓] Go.wp_at_zero Go.wp_at_succ

/-- Differences under way: of the order k behind the place j, of the one below ahead of it. -/
def dord (k j t : Nat) : Nat := if j ≤ t then min k t else min (k - 1) t
def dl (X Y : Nat → UInt8) (n k j : Nat) : List UInt8 := (List.range n).map fun t => dd X Y (t - dord k j t) (dord k j t)

theorem dl_length (X Y : Nat → UInt8) (n k j : Nat) : (dl X Y n k j).length = n := by simp [dl]
theorem dl_get (X Y : Nat → UInt8) (n k j t : Nat) (h : t < (dl X Y n k j).length) : (dl X Y n k j)[t] = dd X Y (t - dord k j t) (dord k j t) := by simp [dl]

theorem dl_start (ys : List UInt8) (X : Nat → UInt8) : dl X (gt ys) ys.length 1 ys.length = ys := by
  apply List.ext_getElem
  · simp [dl]
  · intro i h1 h2
    rw [dl_get]
    have e : dord 1 ys.length i = 0 := by unfold dord; split <;> omega
    rw [e]
    simp [dd, gt, h2]

theorem dl_next (X Y : Nat → UInt8) (n k : Nat) (hk : 1 ≤ k) : dl X Y n k k = dl X Y n (k + 1) n := by
  apply List.ext_getElem
  · simp [dl]
  · intro i h1 h2
    have hi : i < n := by simpa [dl] using h1
    rw [dl_get, dl_get]
    have e : dord k k i = dord (k + 1) n i := by unfold dord; split <;> split <;> omega
    rw [e]

theorem dl_step (X Y : Nat → UInt8) (n k j : Nat) (hk : 1 ≤ k) (hj : k ≤ j) (hn : j < n) :
    (dl X Y n k (j + 1)).set j (div (dd X Y (j - (k - 1)) (k - 1) ^^^ dd X Y (j - k) (k - 1)) (X j ^^^ X (j - k))) = dl X Y n k j := by
  apply List.ext_getElem
  · simp [dl]
  · intro i h1 h2
    have hi : i < n := by simpa [dl] using h2
    rw [List.getElem_set, dl_get, dl_get]
    by_cases e : j = i
    · subst e
      rw [if_pos rfl]
      have e1 : dord k j j = k := by unfold dord; split <;> omega
      rw [e1]
      obtain ⟨m, rfl⟩ : ∃ m, k = m + 1 := ⟨k - 1, by omega⟩
      show _ = div (dd X Y (j - (m + 1) + 1) m ^^^ dd X Y (j - (m + 1)) m) (X (j - (m + 1) + m + 1) ^^^ X (j - (m + 1)))
      rw [show m + 1 - 1 = m by omega, show j - (m + 1) + 1 = j - m by omega, show j - (m + 1) + m + 1 = j by omega]
    · rw [if_neg e]
      have e1 : dord k (j + 1) i = dord k j i := by unfold dord; split <;> split <;> omega
      rw [e1]

theorem dl_at (X Y : Nat → UInt8) (n k j t : Nat) (hk : 1 ≤ k) (ht : t ≤ j) (htk : k - 1 ≤ t) (hn : t < n) (h : t < (dl X Y n k (j + 1)).length) : (dl X Y n k (j + 1))[t] = dd X Y (t - (k - 1)) (k - 1) := by
  rw [dl_get]
  have e : dord k (j + 1) t = k - 1 := by unfold dord; split <;> omega
  rw [e]

theorem dl_end (X Y : Nat → UInt8) (n t : Nat) (ht : t < n) (k : Nat) (hk : n ≤ k) (h : t < (dl X Y n k n).length) : (dl X Y n k n)[t] = dd X Y 0 t := by
  rw [dl_get]
  have e : dord k n t = t := by unfold dord; split <;> omega
  rw [e, Nat.sub_self]

theorem Rd.gt {w : World} {b o n cap : Nat} {l : List UInt8} (h : ∀ j (h : j < l.length), w.cell? ⟨b, o + j, none⟩ = some (.int .u8 ((l[j]).toNat : Int))) (j : Nat) (hj : j < l.length) : w.cell? ⟨b, o + j, none⟩ = some (.int .u8 (((gt l j).toNat : Nat) : Int)) := by
  rw [h j hj]
  unfold Ytbbgfbjchlefeaa.gt
  rw [List.getElem?_eq_getElem hj]
  rfl

set_option maxHeartbeats 4000000 in
set_option maxRecDepth 100000 in
theorem differences_any (w : World) (p : Nat) (xv yv : Value) (xs ys : List UInt8) (hF : FAt w p) (hx : Rd w xv xs) (hy : Rd w yv ys) (hl : xs.length = ys.length) (hn : ys.length ≤ 4096) (h0 : 0 < ys.length) (nd : xs.Nodup) :
    Calls Try.prog 64 #[.pointer (some ⟨p, 0, none⟩), xv, yv] w fun e w' => (∃ D, e = .returned (.slice (some ⟨w.heap.size, 0, none⟩) ys.length ys.length) ∧ BAt w' w.heap.size D ∧ D.length = ys.length ∧ ∀ t, t < ys.length → gt D t = dd (gt xs) (gt ys) 0 t) ∧ Fr (fun _ => False) w w' := by
  obtain ⟨n, hnn⟩ : ∃ n, n = ys.length := ⟨_, rfl⟩
  obtain ⟨xo, xcap, rfl⟩ := hx.shape
  obtain ⟨yo, ycap, rfl⟩ := hy.shape
  have hmk := run_make5 n (by omega)
  have fA : Fr (fun _ => False) w (w.alloc (.cells (bvs (List.replicate n 0)).toArray 5)) := (Fr.refl _ _).alloc _
  have hcp := run_copy_new w n _ ys (hy.kept fA (fun _ _ h => h)) (by omega) h0
  rw [hnn, Nat.sub_self, List.replicate_zero, List.append_nil, ← hnn] at hcp
  obtain ⟨xb, xof, rfl, -, hxcap, hxcm, -⟩ := hx.lits (by omega)
  have HX := hide hx
  have HF := hide hF
  have hp := lt_of_heap hF.choose_spec.1
  have HND := hide nd
  have HL := hide (show xs.length = n by omega)
  have HSt := hide (dl_start ys (gt xs))
  rw [← hnn] at HSt
  have hpl : 0 < n := by omega
  unfold maxLen at hxcm
  rw [hl] at hxcap ⊢
  rw [← hnn] at hn h0 hxcap ⊢
  have HNN := hide hnn
  clear hx hy fA hF nd hl hnn
  go_enter Try.func64, Try.ntmps64
  go_wp2_with fail
  clear hmk hcp
  go_loopw [8] (fun i w' => ∃ k : Nat, 1 ≤ k ∧ k ≤ n ∧ i = .int .i64 (k : Int) ∧ BAt w' w.heap.size (dl (gt xs) (gt ys) n k n) ∧ Fr (fun _ => False) w w') (fun i _ => n - (intOf i).toNat)
  case atStart =>
    refine ⟨1, by omega, by omega, rfl, ?_, (Fr.refl _ _).alloc _⟩
    rw [unhide HSt]
    have := heap_alloc_new w (Obj.cells (bvs ys).toArray 5)
    exact this
  case round =>
    obtain ⟨k, hk1, hk, rfl, hB, hf⟩ := hrel
    by_cases hlt : k < n
    · have HB := hide hB
      have Hf := hide hf
      clear hB hf
      go_wp2_with fail
      go_loopw [9] (fun i w' => ∃ j : Nat, k ≤ j ∧ j ≤ n ∧ i = .int .i64 ((j : Int) - 1) ∧ BAt w' w.heap.size (dl (gt xs) (gt ys) n k j) ∧ Fr (fun _ => False) w w') (fun i _ => (intOf i + 1).toNat)
      case atStart => exact ⟨n, by omega, by omega, rfl, unhide HB, unhide Hf⟩
      case round =>
        clear HB Hf
        obtain ⟨j, hj1, hj2, rfl, hB, hf⟩ := hrel
        by_cases hjk : j = k
        · subst hjk
          rw [dl_next _ _ _ _ hk1] at hB
          have HB := hide hB
          have Hf := hide hf
          clear hB hf
          go_wp2_with fail
          go_roundw
          case rel => exact ⟨j + 1, by omega, by omega, by go_num, unhide HB, unhide Hf⟩
          case measure => simp [intOf]; omega
        · obtain ⟨i, rfl⟩ : ∃ i, j = i + 1 := ⟨j - 1, by omega⟩
          have e1 : ((i + 1 : Nat) : Int) - 1 = (i : Int) := by omega
          rw [e1]
          have hxr := (unhide HX).kept hf (fun _ _ h => h)
          obtain ⟨b', o', hbo, -, -, -, hcx⟩ := hxr.lits (by rw [unhide HL]; omega)
          simp only [Option.some.injEq, Addr.mk.injEq, and_true] at hbo
          obtain ⟨rfl, rfl⟩ := hbo
          have x1 := Rd.gt (n := 0) (cap := 0) hcx i (by rw [unhide HL]; omega)
          have x2 := Rd.gt (n := 0) (cap := 0) hcx (i - k) (by rw [unhide HL]; omega)
          have hdl := dl_length (gt xs) (gt ys) n k (i + 1)
          have d1 := hB.cell i (by omega)
          rw [dl_at _ _ _ _ _ _ hk1 (Nat.le_refl _) (by omega) (by omega)] at d1
          have d2 := hB.cell (i - 1) (by omega)
          rw [dl_at _ _ _ _ _ _ hk1 (by omega) (by omega) (by omega), show i - 1 - (k - 1) = i - k by omega] at d2
          have z1 := hB.frozen i
          have hne : gt xs i ^^^ gt xs (i - k) ≠ 0 := by
            intro e
            have e2 := xor_cancel _ _ e
            unfold gt at e2
            rw [List.getElem?_eq_getElem (by rw [unhide HL]; omega), List.getElem?_eq_getElem (by rw [unhide HL]; omega)] at e2
            simp only [Option.getD_some] at e2
            have := (List.getElem_inj (unhide HND)).1 e2
            omega
          have HS := hide (dl_step (gt xs) (gt ys) n k i hk1 (by omega) (by omega))
          have hF2 := (unhide HF).kept hf id
          obtain ⟨A, hA⟩ : ∃ A, A = dd (gt xs) (gt ys) (i - (k - 1)) (k - 1) := ⟨_, rfl⟩
          obtain ⟨B, hBB⟩ : ∃ B, B = dd (gt xs) (gt ys) (i - k) (k - 1) := ⟨_, rfl⟩
          obtain ⟨C, hC⟩ : ∃ C, C = gt xs i := ⟨_, rfl⟩
          obtain ⟨D, hD⟩ : ∃ D, D = gt xs (i - k) := ⟨_, rfl⟩
          rw [← hA] at d1 HS
          rw [← hBB] at d2 HS
          rw [← hC] at x1 HS hne
          rw [← hD] at x2 HS hne
          have v1 := xorV A B
          have v2 := xorV C D
          obtain ⟨AB, hAB⟩ : ∃ z, z = A ^^^ B := ⟨_, rfl⟩
          obtain ⟨CD, hCD⟩ : ∃ z, z = C ^^^ D := ⟨_, rfl⟩
          rw [← hAB] at v1 HS
          rw [← hCD] at v2 HS hne
          have HM := hide (fun W (q : FAt W p) => fdiv_any W p AB CD hne q)
          have HF2 := hide hF2
          have HB := hide hB
          have Hf := hide hf
          have e2 : (i : Int) - (k : Int) = ((i - k : Nat) : Int) := by omega
          have e3 : (i : Int) - 1 = ((i - 1 : Nat) : Int) := by omega
          obtain ⟨ik, hik⟩ : ∃ ik, ik = i - k := ⟨_, rfl⟩
          obtain ⟨i1, hi1⟩ : ∃ i1, i1 = i - 1 := ⟨_, rfl⟩
          have b1 : ik < n := by omega
          have b2 : i1 < n := by omega
          have b3 : i < n := by omega
          rw [← hik] at e2 x2
          rw [← hi1] at e3 d2
          have e4 : IntKind.i64.wrap (ik : Int) = (ik : Int) := by rw [IntKind.wrap_i64]; omega
          have e5 : IntKind.i64.wrap (i1 : Int) = (i1 : Int) := by rw [IntKind.wrap_i64]; omega
          have h12 : (k : Int) ≤ (i : Int) := by omega
          clear hB hf hxr hcx hdl hF2 hA hBB hC hD hAB hCD hne hik hi1
          go_wp2_with fail
          go_region_with ((go_at_call 58; refine (unhide HM _ (by exact (unhide HF2))).mono ?_; rintro e w3 ⟨rfl, mm, rfl⟩))
          all_goals
            go_wp2_with fail
            go_roundw
            case rel =>
              refine ⟨i, by omega, by omega, by first | rfl | rw [← e3], ?_, ((unhide Hf).drewN _).setCell (fun h => absurd h (by simp)) _⟩
              rw [← unhide HS]
              exact BAt.set (w := wr.drewN _) (unhide HB) i _
            case measure => simp [intOf]; omega
    · have hke : k = n := by omega
      subst hke
      have HB := hide hB
      have Hf := hide hf
      clear hB hf
      go_wp2_with fail
      go_ret
      refine ⟨⟨_, rfl, unhide HB, by rw [dl_length], fun t ht => ?_⟩, unhide Hf⟩
      have hdl := dl_length (gt xs) (gt ys) k k k
      have := dl_end (gt xs) (gt ys) k t ht k (Nat.le_refl _) (by omega)
      show ((dl (gt xs) (gt ys) k k k)[t]?).getD 0 = _
      rw [List.getElem?_eq_getElem (by omega)]
      exact this
end Go.Proofs.Ytbbgfbjchlefeaa
