/-
  The walks of package gf's spread and Through.
-/
import Derived.Test.YtbbgfbjchlefeaaThr2
namespace Go.Proofs.Ytbbgfbjchlefeaa
open Go.RowKit
set_option linter.unusedVariables false

attribute [local go_sem ↓] Go.wp_at_zero Go.wp_at_succ

/-- A step of spreading under way: from the place j on. -/
def nxK (r d : UInt8) (out : List UInt8) (j : Nat) : List UInt8 := out.mapIdx fun t o => if t < j then o else (if t = 0 then d else gt out (t - 1)) ^^^ mul r o

theorem nxK_length (r d : UInt8) (out : List UInt8) (j : Nat) : (nxK r d out j).length = out.length := by simp [nxK]
theorem nxK_get (r d : UInt8) (out : List UInt8) (j t : Nat) (h : t < (nxK r d out j).length) : (nxK r d out j)[t] = if t < j then gt out t else (if t = 0 then d else gt out (t - 1)) ^^^ mul r (gt out t) := by
  have ht : t < out.length := by rw [nxK_length] at h; exact h
  simp [nxK, gt, ht]

theorem nxK_start (r d : UInt8) (out : List UInt8) : nxK r d out out.length = out := by
  apply List.ext_getElem
  · exact nxK_length _ _ _ _
  · intro i h1 h2
    rw [nxK_get, if_pos h2]
    simp [gt, h2]

theorem nxK_step (r d : UInt8) (out : List UInt8) (j : Nat) (h : j + 1 < out.length + 1) : (nxK r d out (j + 1)).set j ((if j = 0 then d else gt out (j - 1)) ^^^ mul r (gt out j)) = nxK r d out j := by
  apply List.ext_getElem
  · simp [nxK]
  · intro i h1 h2
    rw [List.getElem_set, nxK_get, nxK_get]
    by_cases e : j = i
    · subst e
      rw [if_pos rfl, if_neg (Nat.lt_irrefl j)]
    · rw [if_neg e]
      by_cases h3 : i < j
      · rw [if_pos h3, if_pos (by omega)]
      · rw [if_neg h3, if_neg (by omega)]

theorem nxK_end (r d : UInt8) (out : List UInt8) : nxK r d out 0 = sps r d out := by
  apply List.ext_getElem
  · rw [nxK_length, sps_length]
  · intro i h1 h2
    rw [nxK_get, if_neg (by omega)]
    have h3 : i < out.length := by rw [sps_length] at h2; exact h2
    have := sps_get r d out i h3
    rw [List.getElem?_eq_getElem h2] at this
    simp only [Option.some.injEq] at this
    rw [this]
    rfl

theorem spf_congr (X D D' : Nat → UInt8) (n k : Nat) (hk : k ≤ n) (h : ∀ t, t < n → D t = D' t) : spf X D n k = spf X D' n k := by
  induction k with
  | zero => rfl
  | succ k ih => simp only [spf]; rw [ih (by omega), h _ (by omega)]

set_option maxHeartbeats 4000000 in
set_option maxRecDepth 100000 in
theorem spread_any (w : World) (p : Nat) (xv : Value) (xs D : List UInt8) (q : Nat) (hF : FAt w p) (hx : Rd w xv xs) (hd : BAt w q D) (hl : xs.length = D.length) (hn : D.length ≤ 4096) (h0 : 0 < D.length) :
    Calls Try.prog 63 #[.pointer (some ⟨p, 0, none⟩), xv, .slice (some ⟨q, 0, none⟩) D.length D.length] w fun e w' => (e = .returned (.slice (some ⟨w.heap.size, 0, none⟩) D.length D.length) ∧ BAt w' w.heap.size (spf (gt xs) (gt D) D.length D.length)) ∧ Fr (fun _ => False) w w' := by
  obtain ⟨n, hnn⟩ : ∃ n, n = D.length := ⟨_, rfl⟩
  obtain ⟨xo, xcap, rfl⟩ := hx.shape
  have hmk := run_make5 n (by omega)
  obtain ⟨xb, xof, rfl, -, hxcap, hxcm, -⟩ := hx.lits (by omega)
  have HX := hide hx
  have HF := hide hF
  have HD := hide hd
  have hq := lt_of_heap hd
  have HL := hide (show xs.length = n by omega)
  have HDL := hide hnn
  unfold maxLen at hxcm
  rw [hl] at hxcap ⊢
  rw [← hnn] at hn h0 hxcap ⊢
  clear hx hF hd hl hnn
  go_enter Try.func63, Try.ntmps63
  go_wp2_with fail
  clear hmk
  go_loopw [8] (fun i w' => ∃ k : Nat, k ≤ n ∧ i = .int .i64 ((n : Int) - 1 - (k : Int)) ∧ BAt w' w.heap.size (spf (gt xs) (gt D) n k) ∧ Fr (fun _ => False) w w') (fun i _ => (intOf i + 1).toNat)
  case atStart =>
    refine ⟨0, by omega, by simp, ?_, (Fr.refl _ _).alloc _⟩
    exact heap_alloc_new w (Obj.cells (bvs (List.replicate n 0)).toArray 5)
  case round =>
    obtain ⟨k, hk, rfl, hB, hf⟩ := hrel
    by_cases hlt : k < n
    · obtain ⟨i, hi⟩ : ∃ i, i = n - 1 - k := ⟨_, rfl⟩
      have e1 : (n : Int) - 1 - (k : Int) = (i : Int) := by omega
      rw [e1]
      have hspl := spf_length (gt xs) (gt D) n k
      have HSp : Hid (spf (gt xs) (gt D) n (k + 1) = sps (gt xs i) (gt D i) (spf (gt xs) (gt D) n k)) := by rw [hi]; exact rfl
      generalize spf (gt xs) (gt D) n k = out at *
      have HB := hide hB
      have Hf := hide hf
      have HI := hide hi
      have HO := hide hspl
      have hin : i < n := by omega
      clear hB hf hi hspl e1
      go_wp2_with fail
      go_loopw [9] (fun jj w' => ∃ j : Nat, 1 ≤ j ∧ j ≤ n ∧ jj = .int .i64 ((j : Int) - 1) ∧ BAt w' w.heap.size (nxK (gt xs i) (gt D i) out j) ∧ Fr (fun _ => False) w w') (fun jj _ => (intOf jj + 1).toNat)
      case atStart => exact ⟨n, by omega, by omega, rfl, by have h2 := nxK_start (gt xs i) (gt D i) out; rw [unhide HO] at h2; rw [h2]; exact unhide HB, unhide Hf⟩
      case round =>
        clear HB Hf
        obtain ⟨j, hj1, hj2, rfl, hB, hf⟩ := hrel
        have hnl : (nxK (gt xs i) (gt D i) out j).length = n := by rw [nxK_length]; exact unhide HO
        have hxr := (unhide HX).kept hf (fun _ _ h => h)
        obtain ⟨b', o', hbo, -, -, -, hcx⟩ := hxr.lits (by rw [unhide HL]; omega)
        simp only [Option.some.injEq, Addr.mk.injEq, and_true] at hbo
        obtain ⟨rfl, rfl⟩ := hbo
        have x1 := Rd.gt (n := 0) (cap := 0) hcx i (by rw [unhide HL]; omega)
        have hF2 := (unhide HF).kept hf id
        have HF2 := hide hF2
        by_cases hj : j = 1
        · subst hj
          have d0 := hB.cell 0 (by omega)
          rw [nxK_get, if_pos (by omega)] at d0
          have z0 := hB.frozen 0
          have dq := ((unhide HD).kept hf id).cell i (by rw [← unhide HDL]; omega)
          have dq' : wr.cell? ⟨q, i, none⟩ = some (.int .u8 (((gt D i).toNat : Nat) : Int)) := by
            rw [dq]
            unfold gt
            rw [List.getElem?_eq_getElem (by rw [← unhide HDL]; omega)]
            rfl
          have HS := hide (nxK_step (gt xs i) (gt D i) out 0 (by rw [unhide HO]; omega))
          rw [if_pos rfl, nxK_end] at HS
          have HSp2 := HSp
          rw [← unhide HS] at HSp2
          generalize gt xs i = xi at *
          generalize gt D i = di at *
          generalize gt out 0 = o0 at *
          have v1 := xorV (mul xi o0) di
          rw [UInt8.xor_comm] at v1
          obtain ⟨res, hres⟩ : ∃ z, z = di ^^^ mul xi o0 := ⟨_, rfl⟩
          rw [← hres] at v1 HSp2
          have HM := hide (fun W (q : FAt W p) => fmul_any W p xi o0 q)
          have HB := hide hB
          have Hf := hide hf
          clear hB hf hxr hcx hF2 dq hres HS HSp hnl
          go_wp2_with fail
          go_region_with ((go_at_call 66; refine (unhide HM _ (by exact (unhide HF2))).mono ?_; rintro e w3 ⟨rfl, mm, rfl⟩))
          all_goals
            go_wp2_with fail
            go_roundw
            case rel =>
              refine ⟨k + 1, by omega, by have := unhide HI; go_num, ?_, ((unhide Hf).drewN _).setCell (fun h => absurd h (by simp)) _⟩
              rw [unhide HSp2]
              exact BAt.set (w := wr.drewN _) (unhide HB) 0 _
            case measure => first | (simp [intOf]; omega) | simp [intOf]
        · obtain ⟨t, rfl⟩ : ∃ t, j = t + 1 := ⟨j - 1, by omega⟩
          have e1 : ((t + 1 : Nat) : Int) - 1 = (t : Int) := by omega
          rw [e1]
          have d1 := hB.cell t (by omega)
          rw [nxK_get, if_pos (by omega)] at d1
          have d2 := hB.cell (t - 1) (by omega)
          rw [nxK_get, if_pos (by omega)] at d2
          have z1 := hB.frozen t
          have HS := hide (nxK_step (gt xs i) (gt D i) out t (by rw [unhide HO]; omega))
          rw [if_neg (by omega)] at HS
          generalize gt xs i = xi at *
          generalize gt out t = ot at *
          generalize gt out (t - 1) = ot1 at *
          have v1 := xorV ot1 (mul xi ot)
          obtain ⟨res, hres⟩ : ∃ z, z = ot1 ^^^ mul xi ot := ⟨_, rfl⟩
          rw [← hres] at v1 HS
          obtain ⟨t1, ht1⟩ : ∃ t1, t1 = t - 1 := ⟨_, rfl⟩
          have e2 : (t : Int) - 1 = (t1 : Int) := by omega
          rw [← ht1] at d2
          have e3 : IntKind.i64.wrap (t1 : Int) = (t1 : Int) := by rw [IntKind.wrap_i64]; omega
          have b1 : t1 < n := by omega
          have b2 : t < n := by omega
          have b3 : (0 : Int) < (t : Int) := by omega
          have HM := hide (fun W (q : FAt W p) => fmul_any W p xi ot q)
          have HB := hide hB
          have Hf := hide hf
          clear hB hf hxr hcx hF2 hres hnl ht1 hj
          go_wp2_with fail
          go_region_with ((go_at_call 66; refine (unhide HM _ (by exact (unhide HF2))).mono ?_; rintro e w3 ⟨rfl, mm, rfl⟩))
          all_goals
            go_wp2_with fail
            go_roundw
            case rel =>
              refine ⟨t, by omega, by omega, by first | rfl | rw [← e2], ?_, ((unhide Hf).drewN _).setCell (fun h => absurd h (by simp)) _⟩
              rw [← unhide HS]
              exact BAt.set (w := wr.drewN _) (unhide HB) t _
            case measure => first | (simp [intOf]; omega) | simp [intOf]
    · have hke : k = n := by omega
      subst hke
      have HB := hide hB
      have Hf := hide hf
      clear hB hf
      go_wp2_with fail
      go_ret
      exact ⟨⟨rfl, unhide HB⟩, unhide Hf⟩

theorem run_copy_empty (w : World) (ao : Option Addr) (cap : Nat) : (Builtin.copy_ #[43, 43] 3 #[.slice (some ⟨w.heap.size, 0, none⟩) 0 0, .slice ao 0 cap]).run Try.prog (w.alloc (.cells (bvs (List.replicate 0 0)).toArray 5)) = .ok (.int .i64 0) (w.alloc (.cells (bvs (List.replicate 0 0)).toArray 5)) :=
  run_copy_none (P := Try.prog) _ 43 43 3 5 _ _ 0 0 0 cap Try.underlying43 (by kernel_rfl) rfl

theorem through_side (w : World) (ao bo : Option Addr) (n m ca cb : Nat) (h : n ≠ m) : Calls Try.prog 28 #[.slice ao n ca, .slice bo m cb] w fun e w' => e = .returned (.tuple #[.slice none 0 0, .int .i64 23]) ∧ w = w' := by
  have hb : ((n : Int) != (m : Int)) = true := by simp; omega
  clear h
  go_enter Try.func28, Try.ntmps28
  go_wp2
  go_ret2
  exact ⟨rfl, rfl⟩

theorem through_dup (w : World) (xv yv : Value) (xs ys : List UInt8) (hx : Rd w xv xs) (hy : Rd w yv ys) (hl : xs.length = ys.length) (hn : ys.length ≤ 4096) (hd : dupB xs = true) : Calls Try.prog 28 #[xv, yv] w fun e w' => e = .returned (.tuple #[.slice none 0 0, .int .i64 21]) ∧ Fr (fun _ => False) w w' := by
  have HT := hide (twice_any w xv xs hx (by omega))
  rw [hd] at HT
  obtain ⟨xo, xcap, rfl⟩ := hx.shape
  obtain ⟨yo, ycap, rfl⟩ := hy.shape
  rw [hl] at HT ⊢
  clear hx hy hl hd
  go_enter Try.func28, Try.ntmps28
  go_wp2_with fail
  refine (unhide HT).mono ?_
  rintro e w1 ⟨rfl, f1⟩
  go_wp2_with fail
  go_ret2
  exact ⟨rfl, f1⟩

set_option maxHeartbeats 1000000 in
set_option maxRecDepth 100000 in
theorem through_zero (w : World) (xo yo : Option Addr) (xcap ycap : Nat) (hx : Rd w (.slice xo 0 xcap) []) : Calls Try.prog 28 #[.slice xo 0 xcap, .slice yo 0 ycap] w fun e w' => (∃ q, e = .returned (.tuple #[.slice (some ⟨q, 0, none⟩) 0 0, .int .i64 0])) ∧ Fr (fun _ => False) w w' := by
  have HT := hide (twice_any w _ [] hx (by simp))
  have hd : dupB [] = false := by decide
  rw [hd] at HT
  clear hx hd
  go_enter Try.func28, Try.ntmps28
  go_wp2_with fail
  refine (unhide HT).mono ?_
  rintro e w1 ⟨rfl, f1⟩
  go_wp2_with fail
  refine (newField_any _).mono ?_
  rintro e w2 ⟨rfl, hF, f2⟩
  have F2 := hide (f1.trans f2 (fun _ _ h => h))
  have HD : Hid (Calls Try.prog 64 #[.pointer (some ⟨w1.heap.size, 0, none⟩), .slice xo 0 xcap, .slice yo 0 ycap] w2 fun e w' => e = .returned (.slice (some ⟨w2.heap.size, 0, none⟩) 0 0) ∧ Fr (fun _ => False) w2 w') := by
    have hmk : ∀ w, (Instr.makeSlice 43 (.int .i64 0) (.int .i64 0)).run Try.prog w = .ok (.slice (some ⟨w.heap.size, 0, none⟩) 0 0) (w.alloc (.cells (bvs (List.replicate 0 0)).toArray 5)) := run_make5 0 (by omega)
    have hcp := run_copy_empty w2 yo ycap
    have F := hide (show Fr (fun _ => False) w2 (w2.alloc (.cells (bvs (List.replicate 0 0)).toArray 5)) from (Fr.refl _ _).alloc _)
    generalize bvs (List.replicate 0 0) = A at *
    clear HT F2 hF f1 f2
    show Calls _ _ _ _ _
    go_enter Try.func64, Try.ntmps64
    go_wp2_with fail
    go_loopw [8] (fun i w' => i = .int .i64 1 ∧ w' = w2.alloc (.cells A.toArray 5)) (fun _ _ => 0)
    case atStart => exact ⟨rfl, rfl⟩
    case round =>
      obtain ⟨rfl, rfl⟩ := hrel
      go_wp2_with fail
      go_ret
      exact ⟨rfl, unhide F⟩
  have HS : Hid (∀ W b, Calls Try.prog 63 #[.pointer (some ⟨w1.heap.size, 0, none⟩), .slice xo 0 xcap, .slice (some ⟨b, 0, none⟩) 0 0] W fun e w' => e = .returned (.slice (some ⟨W.heap.size, 0, none⟩) 0 0) ∧ Fr (fun _ => False) W w') := by
    show ∀ W b, Calls _ _ _ _ _
    intro W b
    have hmk : ∀ w, (Instr.makeSlice 43 (.int .i64 0) (.int .i64 0)).run Try.prog w = .ok (.slice (some ⟨w.heap.size, 0, none⟩) 0 0) (w.alloc (.cells (bvs (List.replicate 0 0)).toArray 5)) := run_make5 0 (by omega)
    have F := hide (show Fr (fun _ => False) W (W.alloc (.cells (bvs (List.replicate 0 0)).toArray 5)) from (Fr.refl _ _).alloc _)
    generalize bvs (List.replicate 0 0) = A at *
    clear HT F2 hF f1 f2 HD
    go_enter Try.func63, Try.ntmps63
    go_wp2_with fail
    go_loopw [8] (fun i w' => i = .int .i64 (-1) ∧ w' = W.alloc (.cells A.toArray 5)) (fun _ _ => 0)
    case atStart => exact ⟨rfl, rfl⟩
    case round =>
      obtain ⟨rfl, rfl⟩ := hrel
      go_wp2_with fail
      go_ret
      exact ⟨rfl, unhide F⟩
  clear hF f1 f2 HT
  go_wp2_with fail
  refine (unhide HD).mono ?_
  rintro e w3 ⟨rfl, f3⟩
  go_wp2_with fail
  refine (unhide HS _ _).mono ?_
  rintro e w4 ⟨rfl, f4⟩
  go_wp2_with fail
  go_ret2
  exact ⟨⟨_, rfl⟩, ((unhide F2).trans f3 (fun _ _ h => h)).trans f4 (fun _ _ h => h)⟩

set_option maxHeartbeats 1000000 in
theorem through_pos (w : World) (xv yv : Value) (xs ys : List UInt8) (hx : Rd w xv xs) (hy : Rd w yv ys) (hl : xs.length = ys.length) (hn : ys.length ≤ 4096) (h0 : 0 < ys.length) (nd : xs.Nodup) :
    Calls Try.prog 28 #[xv, yv] w fun e w' => (∃ q, w.heap.size ≤ q ∧ e = .returned (.tuple #[.slice (some ⟨q, 0, none⟩) xs.length xs.length, .int .i64 0]) ∧ BAt w' q (thr xs ys)) ∧ Fr (fun _ => False) w w' := by
  have HT := hide (twice_any w xv xs hx (by omega))
  have hd : dupB xs = false := by unfold dupB; simpa using nd
  rw [hd] at HT
  obtain ⟨n, hnn⟩ : ∃ n, n = ys.length := ⟨_, rfl⟩
  have HX := hide hx
  have HY := hide hy
  obtain ⟨xo, xcap, rfl⟩ := hx.shape
  obtain ⟨yo, ycap, rfl⟩ := hy.shape
  have HL := hide hl
  rw [hl, ← hnn] at HT ⊢
  have HN := hide hnn
  have HND := hide nd
  clear hx hy hl hd hnn nd
  go_enter Try.func28, Try.ntmps28
  go_wp2_with fail
  refine (unhide HT).mono ?_
  rintro e w1 ⟨rfl, f1⟩
  go_wp2_with fail
  refine (newField_any _).mono ?_
  rintro e w2 ⟨rfl, hF, f2⟩
  have F2 := f1.trans f2 (fun _ _ h => h)
  have x2 := (unhide HX).kept F2 (fun _ _ h => h)
  have y2 := (unhide HY).kept F2 (fun _ _ h => h)
  have HD := hide (differences_any w2 w1.heap.size _ _ xs ys hF x2 y2 (unhide HL) hn h0 (unhide HND))
  rw [unhide HL, ← unhide HN] at HD
  have HF2 := hide F2
  have HX2 := hide x2
  have HFF := hide hF
  clear f1 f2 F2 x2 y2 hF HT
  go_wp2_with fail
  refine (unhide HD).mono ?_
  rintro e w3 ⟨⟨D, rfl, B3, hDl, hDt⟩, f3⟩
  have x3 := (unhide HX2).kept f3 (fun _ _ h => h)
  have HS := hide (spread_any w3 w1.heap.size _ xs D w2.heap.size ((unhide HFF).kept f3 id) x3 B3 (by have := unhide HL; have := unhide HN; omega) (by have := unhide HN; omega) (by have := unhide HN; omega))
  rw [unhide HL, ← unhide HN, hDl] at HS
  have HF3 := hide ((unhide HF2).trans f3 (fun _ _ h => h))
  have HDt := hide hDt
  clear f3 x3 B3 hDl hDt HD
  go_wp2_with fail
  refine (unhide HS).mono ?_
  rintro e w4 ⟨⟨rfl, B4⟩, f4⟩
  have sz := (unhide HF3).size
  have HB4 := hide B4
  clear B4
  go_wp2_with fail
  go_ret2
  refine ⟨⟨_, sz, rfl, ?_⟩, (unhide HF3).trans f4 (fun _ _ h => h)⟩
  have hB := unhide HB4
  rw [spf_congr (gt xs) (gt D) (dd (gt xs) (gt ys) 0) n n (Nat.le_refl _) (unhide HDt)] at hB
  unfold thr
  rw [unhide HL, ← unhide HN]
  exact hB

#print axioms through_pos
#print axioms spread_any
end Go.Proofs.Ytbbgfbjchlefeaa
