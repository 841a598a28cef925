/-
  InodeAccess, walked.
-/
import Derived.Test.YtbenailemoefhaaCa
namespace Go.Proofs.Ytbenailemoefhaa
open Go.RowKit Go.Lib
set_option linter.unusedVariables false
set_option linter.unusedSimpArgs false

attribute [local go_sem ↓] Go.wp_at_zero Go.wp_at_succ

set_option maxRecDepth 100000 in
set_option maxHeartbeats 8000000 in
theorem asks_any (z : An) (hx : z.x.Ok) (gids : List Int) (w : World) (hv : RdV w z.g (gvs gids)) : Calls Try.prog 7 #[z.v] w fun e w' => e = .returned (.bool true) ∧ Fr (fun _ => False) w w' := by
  obtain ⟨L, hL⟩ : ∃ L, L = gids.length := ⟨_, rfl⟩
  have hLn : (gvs gids).length = L := by rw [hL]; simp [gvs]
  obtain ⟨ao, cap, hg⟩ := hv.shape
  rw [hLn] at hg
  have HG := hide hg
  rw [hg] at hv
  have HV := hide hv
  have HO := hide hx
  have HLL := hide hL
  have HLM : Hid (L ≤ maxLen) := hide (by have := hv.len; omega)
  clear hv hx hL hLn hg
  go_enter Try.func7, Try.ntmps7
  go_upto_region 1 with fail
  have HX := hide (heap_alloc_new w (.cells z.cs 68))
  have F0 := hide ((Fr.refl (fun _ => False) w).alloc (.cells z.cs 68))
  have HV := hide ((unhide HV).kept (unhide F0) (fun _ _ e => e))
  refine wp_world ?_
  intro W hW
  rw [← hW] at HX F0 HV
  clear hW
  go_wp2_with (first | (refine wl_loadA _ rfl rfl _ rfl (unhide HX) ?_))
  refine (long_any z.x _).mono ?_
  rintro e w1 ⟨rfl, f1⟩
  have HX := hide (((f1).block _ (lt_of_heap (unhide HX)) id).trans (unhide HX))
  have HV := hide ((unhide HV).kept (f1) (fun _ _ e => e))
  have F1 := hide ((unhide F0).trans f1 (fun _ _ e => e))
  clear f1 F0
  generalize decide (2000 < (z.x.t.size : Int)) = lo
  cases lo
  case true =>
    go_wp2_with fail
    refine (live_any _).mono ?_
    rintro e wl ⟨rfl, fl⟩
    go_wp2_with fail
    go_ret
    exact ⟨rfl, (unhide F1).trans fl (fun _ _ e => e)⟩
  have c14 : w1.cell? ⟨w.heap.size, 14, none⟩ = some (.int .u32 z.a) := by rw [cell_of_heap (unhide HX)]; rfl
  have c15 : w1.cell? ⟨w.heap.size, 15, none⟩ = some (.slice ao L cap) := by rw [cell_of_heap (unhide HX)]; simp [An.cs, unhide HG]
  have c16 : w1.cell? ⟨w.heap.size, 16, none⟩ = some (.int .u32 z.c) := by rw [cell_of_heap (unhide HX)]; rfl
  have c17 : w1.cell? ⟨w.heap.size, 17, none⟩ = some (.int .u32 z.d) := by rw [cell_of_heap (unhide HX)]; rfl
  have hLM := unhide HLM
  simp only [maxLen] at hLM
  by_cases h60 : 60 < L
  · go_wp2_with fail
    refine (live_any _).mono ?_
    rintro e wl ⟨rfl, fl⟩
    go_wp2_with fail
    go_ret
    exact ⟨rfl, (unhide F1).trans fl (fun _ _ e => e)⟩
  have hl60 : L ≤ 60 := by omega
  clear h60 hLM
  have HCL : Hid (∀ (ops : Array Oper) (rest : List Oper) (o : Oper) (a : Act) (Q : Exit → Act → World → Prop) (s x : Operand), o.guard = none → o.type = 66 → o.op = .call { callee := .builtin .append, args := #[s, x], argTypes := #[66, 66] } → a.eval s = .slice (some ⟨w1.heap.size, 0, none⟩) 0 0 → a.eval x = .slice ao L cap → (∀ a2 c2 w', GA w' (.slice a2 L c2) gids → Fr (fun _ => False) w1 w' → wpList Try.prog ops Q rest (a.put o.dst (.slice a2 L c2)) w') → wpList Try.prog ops Q (o :: rest) a (w1.alloc (.cells #[] 23))) := hide (by
    intro ops rest o a Q s x h1 h2 h3 h4 h5 h6
    have hl := unhide HLL
    refine wl_clg h1 h2 s x h3 h4 h5 (unhide HV) (by omega) ?_
    rw [← hl]; exact h6)
  have c15b : (w1.alloc (.cells #[] 23)).cell? ⟨w.heap.size, 15, none⟩ = some (.slice ao L cap) := by rw [cell_of_heap ((Below.heap_alloc w1 _ _ (lt_of_heap (unhide HX))).trans (unhide HX))]; simp [An.cs, unhide HG]
  go_upto_region 4 with (refine (unhide HCL) _ _ _ _ _ _ _ rfl rfl rfl rfl rfl ?_; intro a2 c2 w2 g2 f2)
  clear c14 c15 c16 c17
  have HX := hide (((f2).block _ (lt_of_heap (unhide HX)) id).trans (unhide HX))
  have HV := hide ((unhide HV).kept (f2) (fun _ _ e => e))
  have F2 := hide ((unhide F1).trans f2 (fun _ _ e => e))
  have HGA := hide g2
  clear c15b f2 F1 g2 HCL
  have c14 : w2.cell? ⟨w.heap.size, 14, none⟩ = some (.int .u32 z.a) := by rw [cell_of_heap (unhide HX)]; rfl
  have c15 : w2.cell? ⟨w.heap.size, 15, none⟩ = some (.slice ao L cap) := by rw [cell_of_heap (unhide HX)]; simp [An.cs, unhide HG]
  have c16 : w2.cell? ⟨w.heap.size, 16, none⟩ = some (.int .u32 z.c) := by rw [cell_of_heap (unhide HX)]; rfl
  have c17 : w2.cell? ⟨w.heap.size, 17, none⟩ = some (.int .u32 z.d) := by rw [cell_of_heap (unhide HX)]; rfl
  go_wp2_with (first | (refine wl_loadA _ rfl rfl _ rfl (unhide HX) ?_))
  refine (access_any z.x (unhide HO) z.a _ gids z.c _ (unhide HGA) (by have := unhide HLL; omega)).mono ?_
  rintro e w3 ⟨rfl, f3⟩
  clear c14 c15 c16 c17
  have HX := hide (((f3).block _ (lt_of_heap (unhide HX)) id).trans (unhide HX))
  have HV := hide ((unhide HV).kept (f3) (fun _ _ e => e))
  have F3 := hide ((unhide F2).trans f3 (fun _ _ e => e))
  have HGA := hide ((unhide HGA).kept f3)
  clear f3 F2
  have c14 : w3.cell? ⟨w.heap.size, 14, none⟩ = some (.int .u32 z.a) := by rw [cell_of_heap (unhide HX)]; rfl
  have c15 : w3.cell? ⟨w.heap.size, 15, none⟩ = some (.slice ao L cap) := by rw [cell_of_heap (unhide HX)]; simp [An.cs, unhide HG]
  have c16 : w3.cell? ⟨w.heap.size, 16, none⟩ = some (.int .u32 z.c) := by rw [cell_of_heap (unhide HX)]; rfl
  have c17 : w3.cell? ⟨w.heap.size, 17, none⟩ = some (.int .u32 z.d) := by rw [cell_of_heap (unhide HX)]; rfl
  go_wp2_with (first | (refine wl_loadA _ rfl rfl _ rfl (unhide HX) ?_))
  refine (access_any z.x (unhide HO) z.a _ gids (bits .and .u32 z.c z.d) _ (unhide HGA) (by have := unhide HLL; omega)).mono ?_
  rintro e w4 ⟨rfl, f4⟩
  rw [acR_and]
  clear c14 c15 c16 c17
  have HX := hide (((f4).block _ (lt_of_heap (unhide HX)) id).trans (unhide HX))
  have HV := hide ((unhide HV).kept (f4) (fun _ _ e => e))
  have F4 := hide ((unhide F3).trans f4 (fun _ _ e => e))
  have HGA := hide ((unhide HGA).kept f4)
  clear f4 F3
  have HR : Hid (∀ W, RdV W (.slice ao L cap) (gvs gids) → Calls Try.prog 33 #[z.x.v, .int .u32 z.a, .slice ao L cap, .int .u32 z.c] W fun e w' => e = .returned (.int .u32 (acR z.x z.a gids z.c)) ∧ Fr (fun _ => False) W w') := hide (fun W h => raccess_any z.x (unhide HO) z.a _ gids z.c W h (by have := unhide HLL; omega))
  generalize acR z.x z.a gids z.c = A at *
  go_wp2_with fail
  go_loopw [6] (fun y W => ∃ j : Nat, j ≤ L ∧ y = .int .i64 (j : Int) ∧ Fr (fun _ => False) w4 W) (fun y _ => L - (intOf y).toNat)
  case atStart => exact ⟨0, by omega, rfl, Fr.refl _ _⟩
  case round =>
    obtain ⟨j, hj, rfl, hf⟩ := hrel
    have HF := hide hf
    have HX := hide ((hf.block _ (lt_of_heap (unhide HX)) id).trans (unhide HX))
    have HV := hide ((unhide HV).kept hf (fun _ _ e => e))
    have HGA := hide ((unhide HGA).kept hf)
    clear hf
    by_cases hlt : j < L
    · have j1 : j < gids.length := by have := unhide HLL; omega
      obtain ⟨bb, oo, rfl, -, hnc, hcm, hcc⟩ := (unhide HV).lits (by simp [gvs]; omega)
      have y0 := hcc j (by simp [gvs]; omega)
      rw [show (gvs gids)[j]'(by simp [gvs]; omega) = Value.int .u32 gids[j] by simp [gvs]] at y0
      have hjc : j < cap := by omega
      obtain ⟨bg, rfl, hjg, y1⟩ : ∃ bg, a2 = some ⟨bg, 0, none⟩ ∧ j < c2 ∧ wr.cell? ⟨bg, j, none⟩ = some (.int .u32 gids[j]) := by
        rcases unhide HGA with ⟨h1, h2⟩ | ⟨b9, c9, h1, h2, h3, h4⟩
        · rw [h2] at j1; simp at j1
        · simp only [Value.slice.injEq] at h1
          obtain ⟨rfl, -, rfl⟩ := h1
          exact ⟨b9, rfl, by omega, h4 j j1⟩
      generalize gids[j] = q at *
      have c15 : wr.cell? ⟨w.heap.size, 15, none⟩ = some (.slice (some ⟨bb, oo, none⟩) L cap) := by rw [cell_of_heap (unhide HX)]; simp [An.cs, unhide HG]
      clear hcc j1 hcm hnc
      go_wp2_with fail
      go_quiet (fail)
      go_wp2_with fail
      go_roundw
      case rel => exact ⟨j + 1, by omega, by go_num, (unhide HF).drewN _⟩
      case measure => simp [intOf]; omega
    · have hjL : L = j := by omega
      subst hjL
      clear hlt
      have c14 : wr.cell? ⟨w.heap.size, 14, none⟩ = some (.int .u32 z.a) := by rw [cell_of_heap (unhide HX)]; rfl
      have c15 : wr.cell? ⟨w.heap.size, 15, none⟩ = some (.slice ao L cap) := by rw [cell_of_heap (unhide HX)]; simp [An.cs, unhide HG]
      have c16 : wr.cell? ⟨w.heap.size, 16, none⟩ = some (.int .u32 z.c) := by rw [cell_of_heap (unhide HX)]; rfl
      have c17 : wr.cell? ⟨w.heap.size, 17, none⟩ = some (.int .u32 z.d) := by rw [cell_of_heap (unhide HX)]; rfl
      go_wp2_with (first | (refine wl_loadA _ rfl rfl _ rfl (unhide HX) ?_))
      refine (unhide HR _ (unhide HV)).mono ?_
      rintro e w5 ⟨rfl, f5⟩
      clear c14 c15 c16 c17
      have HX := hide ((f5.block _ (lt_of_heap (unhide HX)) id).trans (unhide HX))
      have F5 := hide (((unhide F4).trans (unhide HF) (fun _ _ e => e)).trans f5 (fun _ _ e => e))
      have c17 : w5.cell? ⟨w.heap.size, 17, none⟩ = some (.int .u32 z.d) := by rw [cell_of_heap (unhide HX)]; rfl
      clear f5 F4 HF
      go_wp2_with fail
      refine (live_any _).mono ?_
      rintro e wl ⟨rfl, fl⟩
      go_wp2_with fail
      go_ret
      exact ⟨rfl, (unhide F5).trans fl (fun _ _ e => e)⟩
end Go.Proofs.Ytbenailemoefhaa
