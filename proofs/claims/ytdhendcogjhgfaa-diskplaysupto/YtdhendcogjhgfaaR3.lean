/-
  The walks of the document's Flush, Crash, Replace, Injured.
-/
import Derived.Test.YtdhendcogjhgfaaR2
namespace Go.Proofs.Ytdhendcogjhgfaa
open Go.RowKit
set_option linter.unusedVariables false

attribute [local go_sem ↓] Go.wp_at_zero Go.wp_at_succ

theorem RAt.stq {w w' : World} {p sg hg : Nat} {qv : Value} {d : Dk} (h : RAt w' p sg hg qv d) (f : Fr (fun k => k = p ∨ k = sg ∨ k = hg) w w') : RSt w (w'.setCell ⟨p, 2, none⟩ (.slice none 0 0)) p sg hg qv (emD d) :=
  ⟨⟨.slice none 0 0, h.empty.1, fun b hb => by simp [Value.ownBlock] at hb⟩, (f.mono (fun _ _ e => by rcases e with e | e | e; exact .inl e; exact .inr (.inl e); exact .inr (.inr (.inl e)))).trans h.empty.2 (fun _ _ e => .inl e)⟩

section
variable (w : World) (p sg hg : Nat) (qv : Value) (d : Dk)

set_option maxHeartbeats 1000000 in
theorem rflush_any (hn : d.n + d.Q.length ≤ 1000000000) (h : RAt w p sg hg qv d) : Calls Try.prog 42 #[.pointer (some ⟨p, 0, none⟩)] w fun e w' => e = .returned (.int .i64 (flE d)) ∧ RSt w w' p sg hg qv (flD d) := by
  have c3 := cell_of_heap h.heap 3
  simp at c3
  unfold flD flE
  rcases ho : d.off with _ | _
  · rw [ho] at c3
    simp only [Bool.false_eq_true, if_false]
    have H := hide h
    have hroom := h.ok.room
    have hwr := hide h.ok.wr
    have hsz := h.ok.size
    obtain ⟨qo, qc, rfl⟩ := owns_shape h.queue
    clear h ho
    go_enter Try.func42, Try.ntmps42
    go_wp2_with fail
    go_loopw [3] (fun x w' => ∃ i : Nat, i ≤ d.Q.length ∧ x = .int .i64 (i : Int) ∧ RAt w' p sg hg (.slice qo d.Q.length qc) (flI d i) ∧ Fr (fun k => k = p ∨ k = sg ∨ k = hg) w w') (fun x _ => d.Q.length - (intOf x).toNat)
    case atStart => exact ⟨0, by omega, rfl, unhide H, Fr.refl _ _⟩
    case round =>
      obtain ⟨i, hi, rfl, hK, hf⟩ := hrel
      have r2 := cell_of_heap hK.heap 2
      have z2 := frozen_of_heap hK.heap 2
      simp at r2
      by_cases hlt : i < d.Q.length
      · have hq := flI_Q d i
        have hi' : i < (flI d i).Q.length := by rw [hq]; exact hlt
        obtain ⟨g, cap, hv, hcap, -, y1, y2⟩ := hK.wr i hi'
        rw [hq] at hv hcap
        simp only [Value.slice.injEq] at hv
        obtain ⟨rfl, -, rfl⟩ := hv
        have hqi : (flI d i).Q[i] = d.Q[i] := by simp only [hq]
        rw [hqi] at y1 y2
        have hql := unhide hwr _ (List.getElem_mem hlt)
        have hSl : (flI d i).S.length = d.S.length := (seW_fold (d.Q.take i) d).2.2.2.2
        have hSz : (flI d i).size = d.size := (seW_fold (d.Q.take i) d).2.2.1
        have HS := hide (rstable_any wr p sg hg _ (flI d i) (d.Q[i]).1 (d.Q[i]).2 (by rw [hSl]; exact hql.2) (by rw [hSz]; exact hql.1) (by rw [flI_n d i (by omega)]; omega) hK)
        have e1 : seW (flI d i) ((d.Q[i]).1, (d.Q[i]).2) = flI d (i + 1) := by rw [flI_succ d i hlt]
        rw [e1] at HS
        have Hf := hide hf
        have hic : i < qc := by omega
        generalize str (d.Q[i]).2 = ss at *
        generalize (d.Q[i]).1 = q1 at *
        clear hK hf hq hi' e1 z2 hqi hql hSl hSz
        go_wp2_with fail
        refine (unhide HS).mono ?_
        rintro e w2 ⟨rfl, hK2, f2⟩
        have HK2 := hide hK2
        have HF2 := hide ((unhide Hf).trans f2 (fun _ _ h => h))
        clear hK2 f2
        go_wp2_with fail
        go_roundw
        case rel => exact ⟨i + 1, by omega, by go_num, unhide HK2, unhide HF2⟩
        case measure => simp [intOf]; omega
      · have hie : i = d.Q.length := by omega
        subst hie
        have HE := hide (hK.stq hf)
        clear hK hf
        go_wp2_with fail
        go_ret
        exact ⟨rfl, unhide HE⟩
  · rw [ho] at c3
    simp only [if_true]
    have HK := hide (RSt.same h)
    clear h ho
    go_enter Try.func42, Try.ntmps42
    go_wp2_with fail
    go_ret
    exact ⟨rfl, unhide HK⟩

theorem crI_len (d : Dk) (K : List Bool) (i : Nat) : (crI d K i).S.length = d.S.length ∧ (crI d K i).size = d.size := by
  induction i with
  | zero => exact ⟨rfl, rfl⟩
  | succ i ih =>
    unfold crI
    split
    · exact ⟨by rw [← ih.1]; simp [seW], ih.2⟩
    · exact ih

set_option maxHeartbeats 2000000 in
theorem rcrash_any (kv : Value) (K : List Int) (hn : d.n + d.Q.length < 1000000000) (h : RAt w p sg hg qv d) (hk : RdV w kv (K.map (Value.int .i64))) : Calls Try.prog 43 #[.pointer (some ⟨p, 0, none⟩), kv] w fun e w' => e = .returned (.tuple #[]) ∧ RSt w w' p sg hg qv (crD d K) := by
  have c2 := cell_of_heap h.heap 2
  simp at c2
  have hplt := lt_of_heap h.heap
  have hglt := lt_of_heap h.strs
  have hhlt := lt_of_heap h.hurt
  have hroom := h.ok.room
  have hwr := hide h.ok.wr
  have H := hide h
  have HK := hide hk
  obtain ⟨qo, qc, rfl⟩ := owns_shape h.queue
  obtain ⟨ko, kc, rfl⟩ := hk.shape
  rw [List.length_map] at HK ⊢
  obtain ⟨w1, hmk, hG1, hf1⟩ := mkb_any w d.Q.length (by omega)
  have HG1 := hide hG1
  have HF1 := hide hf1
  have hKl : K.length ≤ maxLen := by have := hk.len; rwa [List.length_map] at this
  unfold maxLen at hKl
  clear h hk hG1 hf1
  go_enter Try.func43, Try.ntmps43
  go_wp2_with fail
  clear hmk
  go_loopw [5] (fun y w' => ∃ j : Nat, j ≤ K.length ∧ y = .int .i64 (j : Int) ∧ GAt w' w.heap.size (kpI K d.Q.length j) ∧ Fr (fun _ => False) w w') (fun y _ => K.length - (intOf y).toNat)
  case atStart => exact ⟨0, by omega, rfl, by rw [kpI_zero]; exact unhide HG1, unhide HF1⟩
  case round =>
    clear HG1 HF1
    obtain ⟨j, hj, rfl, hG, hf⟩ := hrel
    by_cases hlt : j < K.length
    · obtain ⟨kb, kof, rfl, -, -, -, hck⟩ := ((unhide HK).kept hf (fun _ _ h => h)).lits (by rw [List.length_map]; omega)
      have y1 := hck j (by rw [List.length_map]; exact hlt)
      rw [List.getElem_map] at y1
      have HG := hide hG
      have Hf := hide hf
      by_cases hin : 0 ≤ K[j] ∧ K[j] < (d.Q.length : Int)
      · obtain ⟨x, hx⟩ : ∃ x : Nat, K[j] = (x : Int) := ⟨(K[j]).toNat, by omega⟩
        have hxl : x < d.Q.length := by omega
        have HE := hide (kpI_in K d.Q.length j x hlt hx)
        rw [hx] at y1
        have yb := hG.cell x (by rw [kpI_length]; exact hxl)
        have zb := frozen_of_heap hG x
        generalize (kpI K d.Q.length j)[x]'(by rw [kpI_length]; exact hxl) = ob at yb
        clear hG hf hck hin hx
        go_wp2_with fail
        go_roundw
        case rel => exact ⟨j + 1, by omega, by go_num, by rw [unhide HE]; exact (unhide HG).set x true, (unhide Hf).setCell (fun h => absurd h (by simp)) _⟩
        case measure => simp [intOf]; omega
      · have HE := hide (kpI_out K d.Q.length j hlt hin)
        generalize K[j] = x at *
        clear hG hf hck
        by_cases h0 : 0 ≤ x
        · have b1 : decide (0 ≤ x) = true := by simpa using h0
          have b2 : decide (x < (d.Q.length : Int)) = false := by simp; omega
          clear hin
          go_wp2_with fail
          go_roundw
          case rel => exact ⟨j + 1, by omega, by go_num, by rw [unhide HE]; exact unhide HG, unhide Hf⟩
          case measure => simp [intOf]; omega
        · have b1 : decide (0 ≤ x) = false := by simpa using h0
          clear hin
          go_wp2_with fail
          go_roundw
          case rel => exact ⟨j + 1, by omega, by go_num, by rw [unhide HE]; exact unhide HG, unhide Hf⟩
          case measure => simp [intOf]; omega
    · have hje : j = K.length := by omega
      subst hje
      have HG := hide hG
      have Hf := hide hf
      have r2 : wr.cell? ⟨p, 2, none⟩ = some (.slice qo d.Q.length qc) := by rw [hf.cell (a := ⟨p, 2, none⟩) hplt id]; exact c2
      have HKr := hide ((unhide H).kept0 hf)
      have hsr := lt_of_heap hG
      clear hG hf
      generalize hkk : kpI K d.Q.length K.length = kk at *
      have hkl : kk.length = d.Q.length := by rw [← hkk, kpI_length]
      have HKL := hide hkl
      have HKK := hide hkk
      clear hkl hkk
      go_wp2_with fail
      go_loopw [6] (fun y w' => ∃ i : Nat, i ≤ d.Q.length ∧ y = .int .i64 (i : Int) ∧ RAt w' p sg hg (.slice qo d.Q.length qc) (crI d kk i) ∧ GAt w' w.heap.size kk ∧ Fr (fun k => k = p ∨ k = sg ∨ k = hg) w w') (fun y _ => d.Q.length - (intOf y).toNat)
      case atStart => exact ⟨0, by omega, rfl, unhide HKr, unhide HG, (unhide Hf).mono (fun _ _ h => h.elim)⟩
      case round =>
        clear HG Hf HKr r2
        obtain ⟨i, hi, rfl, hK, hG, hf⟩ := hrel
        have r2 := cell_of_heap hK.heap 2
        have z2 := frozen_of_heap hK.heap 2
        simp at r2
        by_cases hlt2 : i < d.Q.length
        · have yb := hG.cell i (by rw [unhide HKL]; exact hlt2)
          have hgd : kk.getD i false = kk[i]'(by rw [unhide HKL]; exact hlt2) := by
            have : i < kk.length := by rw [unhide HKL]; exact hlt2
            simp [List.getD, this]
          have hst : crI d kk (i + 1) = if kk[i]'(by rw [unhide HKL]; exact hlt2) = true then seW (crI d kk i) (d.Q.getD i (0, [])) else crI d kk i := by
            show (if kk.getD i false = true then seW (crI d kk i) (d.Q.getD i (0, [])) else crI d kk i) = _
            rw [hgd]
          generalize kk[i]'(by rw [unhide HKL]; exact hlt2) = kb at *
          rcases kb with _ | _
          · have HE := hide (show crI d kk (i + 1) = crI d kk i by rw [hst]; simp)
            have HK2 := hide hK
            have HG2 := hide hG
            have Hf := hide hf
            clear hK hG hf hst hgd
            go_wp2_with fail
            go_roundw
            case rel => exact ⟨i + 1, by omega, by go_num, by rw [unhide HE]; exact unhide HK2, unhide HG2, unhide Hf⟩
            case measure => simp [intOf]; omega
          · obtain ⟨hq, hnn⟩ := crI_all d kk i
            have hi' : i < (crI d kk i).Q.length := by rw [hq]; exact hlt2
            obtain ⟨g, cap, hv, hcp, -, y1, y2⟩ := hK.wr i hi'
            rw [hq] at hv hcp
            simp only [Value.slice.injEq] at hv
            obtain ⟨rfl, -, rfl⟩ := hv
            have hqi : (crI d kk i).Q[i] = d.Q[i] := by simp only [hq]
            rw [hqi] at y1 y2
            have hql := unhide hwr _ (List.getElem_mem hlt2)
            obtain ⟨hSl, hSz⟩ := crI_len d kk i
            have HS := hide (rstable_any wr p sg hg _ (crI d kk i) (d.Q[i]).1 (d.Q[i]).2 (by rw [hSl]; exact hql.2) (by rw [hSz]; exact hql.1) (by omega) hK)
            have e1 : seW (crI d kk i) ((d.Q[i]).1, (d.Q[i]).2) = crI d kk (i + 1) := by
              rw [hst, if_pos rfl]
              have e2 : d.Q.getD i (0, []) = d.Q[i] := by simp [List.getD, hlt2]
              rw [e2]
            rw [e1] at HS
            have HG2 := hide hG
            have Hf := hide hf
            have hic : i < qc := by omega
            generalize str (d.Q[i]).2 = ss at *
            generalize (d.Q[i]).1 = q1 at *
            clear hK hG hf hst hgd hq hnn hi' e1 hcp z2 hqi hql hSl hSz
            go_wp2_with fail
            refine (unhide HS).mono ?_
            rintro e w2 ⟨rfl, hK2, f2⟩
            have HK2 := hide hK2
            have HF2 := hide ((unhide Hf).trans f2 (fun _ _ h => h))
            have HG3 := hide ((unhide HG2).kept f2 (by omega))
            clear hK2 f2
            go_wp2_with fail
            go_roundw
            case rel => exact ⟨i + 1, by omega, by go_num, unhide HK2, unhide HG3, unhide HF2⟩
            case measure => simp [intOf]; omega
        · have hie : i = d.Q.length := by omega
          subst hie
          have HE := hide (hK.stq hf)
          clear hK hG hf
          go_wp2_with fail
          go_end0
          refine ⟨rfl, ?_⟩
          unfold crD
          rw [unhide HKK]
          exact unhide HE
end
end Go.Proofs.Ytdhendcogjhgfaa
