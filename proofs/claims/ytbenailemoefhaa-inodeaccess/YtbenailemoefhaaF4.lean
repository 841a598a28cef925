/-
  The document's Access.
-/
import Derived.Test.YtbenailemoefhaaF3
import Derived.Test.YtbenailemoefhaaA2
namespace Go.Proofs.Ytbenailemoefhaa
open Go.RowKit Go.Lib
set_option linter.unusedVariables false
set_option linter.unusedSimpArgs false

attribute [local go_sem ↓] Go.wp_at_zero Go.wp_at_succ

set_option maxRecDepth 100000 in
set_option maxHeartbeats 8000000 in
theorem raccess_any (x : In) (hx : x.Ok) (uid : Int) (v : Value) (gids : List Int) (want : Int) (w : World) (h : RdV w v (gvs gids)) (hg : gids.length ≤ 100000) : Calls Try.prog 33 #[x.v, .int .u32 uid, v, .int .u32 want] w fun e w' => e = .returned (.int .u32 (acR x uid gids want)) ∧ Fr (fun _ => False) w w' := by
  have HC := rcheck_any x
  have HA : Hid (acR x uid gids want = if ck x = 0 then bits .and .u32 (acc (prm x uid gids) (x.k == 2) 3) want else 0) := hide rfl
  have HP : Hid (prm x uid gids = if uid = 0 then 7 else if uid = x.u then x.m / 64 % 8 else if x.d ∈ gids.take 16 then x.m / 8 % 8 else x.m % 8) := hide rfl
  obtain ⟨ao, cap, rfl⟩ := h.shape
  have H := hide h
  obtain ⟨L, hL⟩ : ∃ L, L = gids.length := ⟨_, rfl⟩
  have hLn : (gvs gids).length = L := by rw [hL]; simp [gvs]
  rw [hLn] at H ⊢
  have HL := hide hL
  have hm := hx.m
  rw [← hL] at hg
  generalize acR x uid gids want = R at *
  generalize prm x uid gids = p at *
  generalize ck x = c at *
  clear h hx hL hLn
  by_cases hc : c = 0
  rotate_left
  · have bne : (c != 0) = true := by simpa using hc
    rw [if_neg hc] at HA
    have hR := unhide HA
    subst hR
    clear HA HP hc H
    go_enter Try.func33, Try.ntmps33
    go_wp2_with (first | (go_at_call 19; refine mono_ext (HC _) ?_; rintro e E rfl hE) | (apply wl_load25 _ rfl rfl _ rfl; (case hr => simp [go_sem]); (case hc => (simp [go_sem]; try exact rfl))))
    go_ret
    exact ⟨rfl, Fr.ext ((Fr.refl _ _).alloc _) hE⟩
  · subst hc
    rw [if_pos rfl] at HA
    go_enter Try.func33, Try.ntmps33
    go_wp2_with (first | (go_at_call 19; refine mono_ext (HC _) ?_; rintro e E rfl hE) | (apply wl_load25 _ rfl rfl _ rfl; (case hr => simp [go_sem]); (case hc => (simp [go_sem]; try exact rfl))))
    refine wp_world ?_
    intro Wx hWx
    have FX : Hid (Fr (fun _ => False) w Wx) := hide (by rw [hWx]; exact Fr.ext ((Fr.refl _ _).alloc _) hE)
    have HBX : Hid (Wx.heap[w.heap.size]? = some (.cells x.cs 25 (0, 0))) := hide (by rw [hWx, ext_heap _ _ _ (by simp)]; exact heap_alloc_new w _)
    clear hWx hE HC
    go_loopw [9, 10] (fun o y W => ∃ i : Nat, i ≤ L ∧ i ≤ 16 ∧ y = .int .i64 (i : Int) ∧ o = .int .u32 (if x.d ∈ gids.take i then x.m / 8 % 8 else x.m % 8) ∧ Fr (fun _ => False) Wx W) (fun _ y _ => L - (intOf y).toNat)
    case atStart => exact ⟨0, by omega, by omega, rfl, by simp, Fr.refl _ _⟩
    case round =>
      obtain ⟨i, hi, hi16, rfl, rfl, hf⟩ := hrel
      have HF := hide hf
      have HB : Hid (wr.heap[w.heap.size]? = some (.cells x.cs 25 (0, 0))) := hide (by rw [hf.block _ (lt_of_heap (unhide HBX)) id]; exact unhide HBX)
      have c2 : wr.cell? ⟨w.heap.size, 2, none⟩ = some (.int .i64 x.k) := by rw [cell_of_heap (unhide HB)]; rfl
      have c3 : wr.cell? ⟨w.heap.size, 3, none⟩ = some (.int .u32 x.m) := by rw [cell_of_heap (unhide HB)]; rfl
      have c5 : wr.cell? ⟨w.heap.size, 5, none⟩ = some (.int .u32 x.u) := by rw [cell_of_heap (unhide HB)]; rfl
      have c6 : wr.cell? ⟨w.heap.size, 6, none⟩ = some (.int .u32 x.d) := by rw [cell_of_heap (unhide HB)]; rfl
      by_cases hlt : i < L ∧ i < 16
      · obtain ⟨hlL, hl16⟩ := hlt
        have j1 : i < gids.length := by have := unhide HL; omega
        obtain ⟨bb, oo, rfl, -, hnc, hcm, hcc⟩ := (unhide H).lits (by simp [gvs]; omega)
        have y1 := hcc i (by simp [gvs]; omega)
        rw [show (gvs gids)[i]'(by simp [gvs]; omega) = Value.int .u32 gids[i] by simp [gvs]] at y1
        have y0 : wr.cell? ⟨bb, oo + i, none⟩ = some (.int .u32 gids[i]) := by
          have fw := (unhide FX).trans hf (fun _ _ e => e)
          rw [fw.cell (World.block_lt_of_cell? w _ y1) id]; exact y1
        have hjc : i < cap := by omega
        have HT : Hid ((x.d ∈ gids.take (i + 1)) = (x.d ∈ gids.take i ∨ gids[i] = x.d)) := hide (propext ⟨fun h9 => by
            rw [List.take_succ_eq_append_getElem j1] at h9
            rcases List.mem_append.1 h9 with h9 | h9
            · exact .inl h9
            · exact .inr (List.mem_singleton.1 h9).symm, fun h9 => by
            rw [List.take_succ_eq_append_getElem j1]
            exact List.mem_append.2 (h9.imp id (fun e => List.mem_singleton.2 e.symm))⟩)
        generalize gids[i] = q at *
        clear hcc y1 j1 hf
        obtain ⟨qq, hqq⟩ : ∃ qq, qq = (if x.d ∈ gids.take i then x.m / 8 % 8 else x.m % 8) := ⟨_, rfl⟩
        rw [← hqq]
        rcases heq : (q == x.d) with _ | _
        · have HN : Hid ((if x.d ∈ gids.take (i + 1) then x.m / 8 % 8 else x.m % 8) = qq) := hide (by
            have hne : ¬ q = x.d := by simpa using heq
            rw [hqq]; simp only [unhide HT, hne, or_false])
          clear HT hqq
          go_wp2_with fail
          go_quiet (fail)
          go_wp2_with fail
          go_roundw
          case rel => exact ⟨i + 1, by omega, by omega, by go_num, by rw [unhide HN], (unhide HF).drewN _⟩
          case measure => simp [intOf]; omega
        · have HN : Hid ((if x.d ∈ gids.take (i + 1) then x.m / 8 % 8 else x.m % 8) = x.m / 8 % 8) := hide (by
            have hne : q = x.d := by simpa using heq
            rw [if_pos (by rw [unhide HT]; exact .inr hne)])
          clear HT hqq
          go_wp2_with fail
          go_quiet (fail)
          go_wp2_with fail
          go_roundw
          case rel => exact ⟨i + 1, by omega, by omega, by go_num, by rw [unhide HN], (unhide HF).drewN _⟩
          case measure => simp [intOf]; omega
      · have htk : gids.take i = gids.take 16 := by
          rcases Nat.lt_or_ge i 16 with h9 | h9
          · have hiL : ¬ i < L := fun e => hlt ⟨e, h9⟩
            rw [List.take_of_length_le (by have := unhide HL; omega), List.take_of_length_le (by have := unhide HL; omega)]
          · rw [show i = 16 by omega]
        obtain ⟨qq, hqq⟩ : ∃ qq, qq = (if x.d ∈ gids.take i then x.m / 8 % 8 else x.m % 8) := ⟨_, rfl⟩
        rw [← hqq]
        rw [htk] at hqq
        rw [← hqq] at HP
        have hq0 : 0 ≤ qq ∧ qq < 8 := by rw [hqq]; split <;> omega
        have FW : Hid (Fr (fun _ => False) w wr) := hide ((unhide FX).trans hf (fun _ _ e => e))
        have hex : (i < L ∧ ¬ i < 16) ∨ ¬ i < L := by omega
        clear hqq htk HF hf HB HBX FX H hlt c6
        by_cases hu0 : uid = 0
        · subst hu0
          have hp : p = 7 := unhide HP
          subst hp
          clear HP hq0
          rcases hk : (x.k == 2) with _ | _
          all_goals
            have hk2 : (x.k != 2) = !(x.k == 2) := rfl
            rw [hk] at hk2 HA
            rcases hxu : ((0 : Int) == x.u) with _ | _
            all_goals
              rcases hex with ⟨he1, he2⟩ | he1
              all_goals
                go_wp2_with fail
                go_ret
                exact ⟨by rw [unhide HA]; rfl, unhide FW⟩
        · have bu0 : (uid == 0) = false := by simpa using hu0
          rw [if_neg hu0] at HP
          by_cases hxu : uid = x.u
          · have bxu : (uid == x.u) = true := by simpa using hxu
            rw [if_pos hxu] at HP
            have hpp : x.m / 64 % 8 = p := (unhide HP).symm
            have hp8 : 0 ≤ p ∧ p < 8 := by omega
            clear HP hxu hu0 hq0
            rcases hk : (x.k == 2) with _ | _
            all_goals
              have hk2 : (x.k != 2) = !(x.k == 2) := rfl
              rw [hk] at hk2 HA
              rcases (show p = 0 ∨ p = 1 ∨ p = 2 ∨ p = 3 ∨ p = 4 ∨ p = 5 ∨ p = 6 ∨ p = 7 by omega) with rfl | rfl | rfl | rfl | rfl | rfl | rfl | rfl
              all_goals
                clear hp8
                rcases hex with ⟨he1, he2⟩ | he1
                all_goals
                  go_wp2_with fail
                  go_ret
                  exact ⟨by rw [unhide HA]; rfl, unhide FW⟩
          · have bxu : (uid == x.u) = false := by simpa using hxu
            rw [if_neg hxu] at HP
            have hpp : p = qq := unhide HP
            subst hpp
            clear HP hxu hu0
            rcases hk : (x.k == 2) with _ | _
            all_goals
              have hk2 : (x.k != 2) = !(x.k == 2) := rfl
              rw [hk] at hk2 HA
              rcases (show p = 0 ∨ p = 1 ∨ p = 2 ∨ p = 3 ∨ p = 4 ∨ p = 5 ∨ p = 6 ∨ p = 7 by omega) with rfl | rfl | rfl | rfl | rfl | rfl | rfl | rfl
              all_goals
                clear hq0
                rcases hex with ⟨he1, he2⟩ | he1
                all_goals
                  go_wp2_with fail
                  go_ret
                  exact ⟨by rw [unhide HA]; rfl, unhide FW⟩
end Go.Proofs.Ytbenailemoefhaa
