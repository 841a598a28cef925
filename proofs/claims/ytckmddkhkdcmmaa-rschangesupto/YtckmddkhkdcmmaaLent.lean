/-
  The law's lent, with the right to append to what it answers.
-/
import Derived.Test.YtckmddkhkdcmmaaRs14
import Derived.Deep.RegionHeld3
namespace Go.Proofs.Ytckmddkhkdcmmaa
open Go.RowKit
set_option linter.unusedVariables false

attribute [local go_sem ↓] Go.wp_at_zero Go.wp_at_succ

set_option maxHeartbeats 4000000 in
set_option maxRecDepth 100000 in
theorem lent_al (w : World) (v : Value) (ls : List (List UInt8)) (h : RdL w v ls) (hl : ls.length ≤ 100) (hb : ∀ l ∈ ls, l.length ≤ 9000) :
    Calls Try.prog 44 #[v] w fun e w' => (∃ ao ac, e = .returned (.slice ao ls.length ac) ∧ AL w.heap.size w' (.slice ao ls.length ac) ls) ∧ Fr (fun _ => False) w w' := by
  have H := hide h
  obtain ⟨vo, vc, rfl⟩ := h.shape
  have HB := hide hb
  clear h hb
  obtain ⟨inf, hi0, hz0, hz1, hz2⟩ := info_parts Try.info22
  obtain ⟨inf5, hi5, hy0, hy1, hy2⟩ := info_parts Try.info5
  go_enter Try.func44, Try.ntmps44
  go_wp2_with fail
  go_loopw [3, 4] (fun hx x w' => ∃ i : Nat, i ≤ ls.length ∧ x = .int .i64 (i : Int) ∧ (∃ ao ac, hx = .slice ao i ac ∧ AL w.heap.size w' (.slice ao i ac) (ls.take i)) ∧ Fr (fun _ => False) w w') (fun _ x _ => ls.length - (intOf x).toNat)
  case atStart => exact ⟨0, by omega, rfl, ⟨none, 0, rfl, by simpa using AL.nil w.heap.size w⟩, Fr.refl _ _⟩
  case round =>
    obtain ⟨i, hi, rfl, ⟨ao, ac, rfl, hA⟩, hf⟩ := hrel
    by_cases hlt : i < ls.length
    · obtain ⟨sb, so, xo, xc, rfl, y1, hRx⟩ := ((unhide H).kept hf).get i hlt
      have hle := unhide HB _ (List.getElem_mem hlt)
      have hsb := World.block_lt_of_cell? wr _ y1
      simp only at hsb
      obtain ⟨sb0, so0, _, _, hsb0, z1, -⟩ := (unhide H).get i hlt
      simp only [Option.some.injEq, Addr.mk.injEq] at hsb0
      obtain ⟨rfl, rfl, -⟩ := hsb0
      have hsbw := World.block_lt_of_cell? w _ z1
      simp only at hsbw
      clear z1
      have htk := List.take_succ_eq_append_getElem hlt
      obtain ⟨xl, hxl⟩ : ∃ xl, xl = (ls[i]).length := ⟨_, rfl⟩
      rw [← hxl] at y1 hRx hle
      have HR := hide hRx
      have HA := hide hA
      have Hf := hide hf
      have HT := hide htk
      have HXL := hide hxl
      generalize ls[i] = li at *
      clear hRx hA hf htk hxl
      obtain ⟨vs, hO, hvl, hrows⟩ := (unhide HA).ex
      have hvi : vs.length = i := by rw [hvl, List.length_take]; omega
      have HO := hide (show wr.ownsRow 0 22 1 (.slice ao i ac) i vs by rw [hvi] at hO; exact hO)
      have HYC := hide (show ∀ W, Fr (fun _ => False) wr W → W.cell? ⟨sb, so + i, none⟩ = some (.slice xo xl xc) from fun W f => (f.cell (a := ⟨sb, so + i, none⟩) hsb id).trans y1)
      have HSX := hide (show ∀ W, Fr (fun _ => False) wr W → Sr W 1 (.slice xo xl xc) xl (bvs li) from fun W f => by
        have := Rd.sr (Rd.kept (unhide HR) f (fun _ _ h => h))
        rwa [← unhide HXL] at this)
      have HRO := hide hrows
      have HVI := hide hvi
      have HVL := hide hvl
      clear hO hrows hvi hvl
      go_wp2_with fail
      go_region_held3 (fun W => W.cell? ⟨sb, so + i, none⟩ = some (.slice xo xl xc)) (go_keep) ((first
        | (refine step_app rfl (.tmp 12) (.tmp 16) 22 rfl 5 inf5 _ 1 1 Try.underlying22 hi5 hy0 hy1 hy2 rfl (by decide) (.slice (some ⟨wr.heap.size, 0, none⟩) 0 0) 0 [] (by rfl) (.slice xo xl xc) (by rfl) xl (bvs li) (by exact owns_new (by first | exact e_a wr _ _ _ _ rfl | exact e_b wr _ _)) (by exact unhide HSX _ (by first | exact (Fr.refl _ _).alloc _ | exact ((Fr.refl _ _).alloc _).alloc _ | exact ((Fr.refl _ _).alloc _).drew | exact (Fr.refl _ _).drew.alloc _ | exact (((Fr.refl _ _).alloc _).alloc _).drew | exact (((Fr.refl _ _).alloc _).drew).alloc _ | exact ((Fr.refl _ _).drew.alloc _).alloc _)) (bvs_one _) (by omega) (by simp only [maxLen]; omega) ?_; intro ao1 ac1 w1 o1 g1 p1; simp only [Nat.zero_add, List.nil_append] at o1 p1 ⊢; have f1 := grown_fr (wr := wr) (by first | exact (Fr.refl _ _).alloc _ | exact ((Fr.refl _ _).alloc _).alloc _ | exact ((Fr.refl _ _).alloc _).drew | exact (Fr.refl _ _).drew.alloc _ | exact (((Fr.refl _ _).alloc _).alloc _).drew | exact (((Fr.refl _ _).alloc _).drew).alloc _ | exact ((Fr.refl _ _).drew.alloc _).alloc _) g1 (fun k hk => by simp [Value.ownBlock] at hk; omega); have n1 : ∀ k, (Value.slice ao1 xl ac1).ownBlock = some k → wr.heap.size ≤ k := (by intro k hk; rcases p1 with e | ⟨k', e, hk'⟩; (· rw [e] at hk; simp [Value.ownBlock] at hk; omega); (· rw [e] at hk; simp at hk hk'; omega)); have yy1 := unhide HYC w1 f1; have s1 := f1.size; have hsb1 : sb < w1.heap.size := (by omega))
        | (refine step_app rfl (.tmp 12) (.tmp 16) 22 rfl 5 inf5 _ 1 1 Try.underlying22 hi5 hy0 hy1 hy2 rfl (by decide) (.slice (some ⟨wr.heap.size + 1, 0, none⟩) 0 0) 0 [] (by rfl) (.slice xo xl xc) (by rfl) xl (bvs li) (by exact owns_new (by exact e_c wr _ _)) (by exact unhide HSX _ (by first | exact (Fr.refl _ _).alloc _ | exact ((Fr.refl _ _).alloc _).alloc _ | exact ((Fr.refl _ _).alloc _).drew | exact (Fr.refl _ _).drew.alloc _ | exact (((Fr.refl _ _).alloc _).alloc _).drew | exact (((Fr.refl _ _).alloc _).drew).alloc _ | exact ((Fr.refl _ _).drew.alloc _).alloc _)) (bvs_one _) (by omega) (by simp only [maxLen]; omega) ?_; intro ao1 ac1 w1 o1 g1 p1; simp only [Nat.zero_add, List.nil_append] at o1 p1 ⊢; have f1 := grown_fr (wr := wr) (by first | exact (Fr.refl _ _).alloc _ | exact ((Fr.refl _ _).alloc _).alloc _ | exact ((Fr.refl _ _).alloc _).drew | exact (Fr.refl _ _).drew.alloc _ | exact (((Fr.refl _ _).alloc _).alloc _).drew | exact (((Fr.refl _ _).alloc _).drew).alloc _ | exact ((Fr.refl _ _).drew.alloc _).alloc _) g1 (fun k hk => by simp [Value.ownBlock] at hk; omega); have n1 : ∀ k, (Value.slice ao1 xl ac1).ownBlock = some k → wr.heap.size ≤ k := (by intro k hk; rcases p1 with e | ⟨k', e, hk'⟩; (· rw [e] at hk; simp [Value.ownBlock] at hk; omega); (· rw [e] at hk; simp at hk hk'; omega)); have yy1 := unhide HYC w1 f1; have s1 := f1.size; have hsb1 : sb < w1.heap.size := (by omega))
        | (refine step_app rfl (.tmp 17) (.tmp 18) 22 rfl 5 inf5 _ 1 1 Try.underlying22 hi5 hy0 hy1 hy2 rfl (by decide) (.slice ao1 xl ac1) xl (bvs li) (by rfl) (.slice (some ⟨w1.heap.size, 0, none⟩) 2 2) (by rfl) 2 (bvs [9, 9]) (by first | exact o1.alloc _ | exact o1) (by exact nine_sr (heap_alloc_new w1 _)) (bvs_one _) (by omega) (by simp only [maxLen]; omega) ?_; intro ao2 ac2 w2 o2 g2 p2; have f2 := grown_fr (wr := wr) (by first | exact f1.alloc _ | exact f1 | exact (f1.alloc _).drew | exact f1.drew | exact f1.drew.alloc _) g2 n1; have n2 : ∀ k, (Value.slice ao2 (xl + 2) ac2).ownBlock = some k → wr.heap.size ≤ k := (by intro k hk; rcases p2 with e | ⟨k', e, hk'⟩; (· rw [e] at hk; exact n1 k hk); (· rw [e] at hk; simp at hk hk'; omega)); have yy2 := unhide HYC w2 f2; have s2 := f2.size; have hsb2 : sb < w2.heap.size := (by omega); have hc2 := owns_cap o2; have hc3 : xl ≤ ac2 := (by omega))
        | (refine step_app rfl (.tmp 17) (.tmp 18) 22 rfl 5 inf5 _ 1 1 Try.underlying22 hi5 hy0 hy1 hy2 rfl (by decide) (.slice ao1 xl ac1) xl (bvs li) (by rfl) (.slice (some ⟨wr.heap.size, 0, none⟩) 2 2) (by rfl) 2 (bvs [9, 9]) (by first | exact o1.alloc _ | exact o1) (by exact nine_sr ((g1.block _ (by simp <;> omega) (by simp [Value.ownBlock])).trans (e_b wr _ _))) (bvs_one _) (by omega) (by simp only [maxLen]; omega) ?_; intro ao2 ac2 w2 o2 g2 p2; have f2 := grown_fr (wr := wr) (by first | exact f1.alloc _ | exact f1 | exact (f1.alloc _).drew | exact f1.drew | exact f1.drew.alloc _) g2 n1; have n2 : ∀ k, (Value.slice ao2 (xl + 2) ac2).ownBlock = some k → wr.heap.size ≤ k := (by intro k hk; rcases p2 with e | ⟨k', e, hk'⟩; (· rw [e] at hk; exact n1 k hk); (· rw [e] at hk; simp at hk hk'; omega)); have yy2 := unhide HYC w2 f2; have s2 := f2.size; have hsb2 : sb < w2.heap.size := (by omega); have hc2 := owns_cap o2; have hc3 : xl ≤ ac2 := (by omega))
        | (refine step_app rfl (.tmp 17) (.tmp 18) 22 rfl 5 inf5 _ 1 1 Try.underlying22 hi5 hy0 hy1 hy2 rfl (by decide) (.slice ao1 xl ac1) xl (bvs li) (by rfl) (.slice (some ⟨wr.heap.size + 1, 0, none⟩) 2 2) (by rfl) 2 (bvs [9, 9]) (by first | exact o1.alloc _ | exact o1) (by exact nine_sr ((g1.block _ (by simp <;> omega) (by simp [Value.ownBlock])).trans (e_c wr _ _))) (bvs_one _) (by omega) (by simp only [maxLen]; omega) ?_; intro ao2 ac2 w2 o2 g2 p2; have f2 := grown_fr (wr := wr) (by first | exact f1.alloc _ | exact f1 | exact (f1.alloc _).drew | exact f1.drew | exact f1.drew.alloc _) g2 n1; have n2 : ∀ k, (Value.slice ao2 (xl + 2) ac2).ownBlock = some k → wr.heap.size ≤ k := (by intro k hk; rcases p2 with e | ⟨k', e, hk'⟩; (· rw [e] at hk; exact n1 k hk); (· rw [e] at hk; simp at hk hk'; omega)); have yy2 := unhide HYC w2 f2; have s2 := f2.size; have hsb2 : sb < w2.heap.size := (by omega); have hc2 := owns_cap o2; have hc3 : xl ≤ ac2 := (by omega))
        | (refine step_app rfl (.tmp 11) (.tmp 26) 65 rfl 22 inf _ 1 24 Try.underlying65 hi0 hz0 hz1 hz2 rfl (by decide) (.slice ao i ac) i vs (by rfl) (.slice (some ⟨w2.heap.size, 0, none⟩) 1 1) (by rfl) 1 [.slice ao2 xl ac2] (by exact (owns_kept (unhide HO) f2 (fun _ _ h => h)).alloc _) (by exact one_cellV w2 _ 22) (fun u hu => by simp at hu; subst hu; rfl) (by omega) (by simp only [maxLen]; omega) ?_; intro ao3 ac3 w3 o3 g3 p3; have f3 : Fr (fun k => (Value.slice ao i ac).ownBlock = some k) w2 w3 := Fr.grown (S := fun k => (Value.slice ao i ac).ownBlock = some k) (w := w2.alloc (Obj.cells #[.slice ao2 xl ac2] 22)) ((Fr.refl _ _).alloc _) g3 (fun k hk e => e); have yy3 := (f3.cell (a := ⟨sb, so + i, none⟩) hsb2 (fun e => by have := (unhide HA).new sb e; omega)).trans yy2)))
      all_goals
        have hnR : Rd w2 (.slice ao2 xl ac2) li := by
          have h1 := Rd.of_owns (w := w2) (base := 0) (l := li ++ [9, 9]) (v := .slice ao2 (xl + 2) ac2) (by rw [bvs_append, List.length_append, ← unhide HXL]; exact o2)
          have h2 := h1.takeN xl (by rw [List.length_append, ← unhide HXL]; omega)
          rwa [List.take_append_of_le_length (by rw [← unhide HXL]; omega), List.take_of_length_le (by rw [← unhide HXL]; omega)] at h2
        have hwb : Wb w.heap.size w2 (.slice ao2 xl ac2) := fun b hb => ⟨by have := n2 b ((own_len ao2 _ _ _ _).trans hb); have := (unhide Hf).size; omega, owns_ty o2 ((own_len ao2 _ _ _ _).trans hb)⟩
        have hAL := AL.app (N := w.heap.size) (w := w2) (w' := w3) (ao := ao) (n := i) (ac := ac) (ls := ls.take i) vs (by rw [unhide HVI]; exact owns_kept (unhide HO) f2 (fun _ _ h => h)) (unhide HVL) (fun j x l hx hl => ⟨(unhide HRO j x l hx hl).1.kept f2 (fun _ _ h => h), (unhide HRO j x l hx hl).2.kept f2⟩) (unhide HA).new (.slice ao2 xl ac2) li hnR hwb (by have := (unhide Hf).size; omega) o3 g3 p3
        have HAL := hide hAL.1
        have HF3 := hide ((unhide Hf).trans (f2.trans (T := fun _ => False) (Fr.refl _ _) (fun _ _ h => h)) (fun _ _ h => h))
        have HF4 := hide ((unhide HF3).trans hAL.2 (fun k hk e => by have := (unhide HA).new k e; omega))
        clear hnR hwb hAL o1 g1 p1 o2 g2 p2 o3 g3 p3 f1 f2 f3 n1 n2 yy1 yy2 yy3 HF3
        go_wp2_with fail
        go_roundw
        case rel => exact ⟨i + 1, by omega, by go_num, ⟨ao3, ac3, rfl, by rw [unhide HT]; exact unhide HAL⟩, by first | exact unhide HF4 | exact (unhide HF4).drew⟩
        case measure => simp [intOf]; omega
    · have hie : i = ls.length := by omega
      subst hie
      have HA := hide hA
      have Hf := hide hf
      clear hA hf
      go_wp2_with fail
      go_ret
      have := unhide HA
      rw [List.take_length] at this
      exact ⟨⟨_, _, rfl, this⟩, unhide Hf⟩

end Go.Proofs.Ytckmddkhkdcmmaa
