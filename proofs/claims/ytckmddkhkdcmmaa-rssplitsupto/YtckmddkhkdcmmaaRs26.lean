/-
  The walk of the document's Split.
-/
import Derived.Test.YtckmddkhkdcmmaaRs24
import Derived.Test.YtckmddkhkdcmmaaRs18
namespace Go.Proofs.Ytckmddkhkdcmmaa
open Go.RowKit
set_option linter.unusedVariables false

attribute [local go_sem ↓] Go.wp_at_zero Go.wp_at_succ

theorem spl_step {n j t : Nat} {l : List UInt8} (ht : t < n) (h : j * n + t < l.length) : ((spl n l j).take t ++ List.replicate (n - t) 0).set t l[j * n + t] = (spl n l j).take (t + 1) ++ List.replicate (n - (t + 1)) 0 := by
  have hl : ((spl n l j).take t).length = t := by rw [List.length_take, spl_length]; omega
  rw [List.set_append_right _ _ (by omega), hl, Nat.sub_self, show n - t = (n - (t + 1)) + 1 by omega, List.replicate_succ, List.set_cons_zero, List.take_succ_eq_append_getElem (by rw [spl_length]; exact ht), spl_get, gt_of h]
  simp

theorem spl_rest {n j t : Nat} {l : List UInt8} (ht : t ≤ n) (h : t = n ∨ l.length ≤ j * n + t) : (spl n l j).take t ++ List.replicate (n - t) 0 = spl n l j := by
  rcases h with rfl | h
  · rw [Nat.sub_self, List.take_of_length_le (by rw [spl_length]; omega)]; simp
  · have hl : ((spl n l j).take t).length = t := by rw [List.length_take, spl_length]; omega
    apply List.ext_getElem
    · rw [List.length_append, hl, List.length_replicate, spl_length]; omega
    · intro i h1 h2
      by_cases e : i < t
      · rw [List.getElem_append_left (by omega), List.getElem_take]
      · rw [List.getElem_append_right (by omega), List.getElem_replicate, spl_get, gt_none (by omega)]

section
variable (w : World) (p k m : Nat) (v : Value) (l : List UInt8)

set_option maxHeartbeats 2000000 in
set_option maxRecDepth 100000 in
theorem rsplit_no (hD : DAt w p k m) (hk : 1 ≤ k ∧ k ≤ 16) (hl : Rd w v l) (hb : l.length ≤ 1048576) (hn : ¬ spN k l ≤ 4096) :
    Calls Try.prog 57 #[.pointer (some ⟨p, 0, none⟩), v] w fun e w' => e = .returned (.tuple #[.slice none 0 0, .int .i64 1]) ∧ Fr (fun _ => False) w w' := by
  have c0 := cell_of_heap hD 0
  simp at c0
  obtain ⟨vo, vc, rfl⟩ := hl.shape
  obtain ⟨s1, hs1⟩ : ∃ s1, s1 = l.length + k := ⟨_, rfl⟩
  obtain ⟨s2, hs2⟩ : ∃ s2, s2 = l.length + k - 1 := ⟨_, rfl⟩
  have e1 : (l.length : Int) + (k : Int) = (s1 : Int) := by omega
  have e2 : (s1 : Int) - 1 = (s2 : Int) := by omega
  have hsn : spN k l = s2 / k := by unfold spN; rw [← hs2]
  have e3 : Int.tdiv (s2 : Int) (k : Int) = ((s2 / k : Nat) : Int) := by rfl
  rw [hsn] at hn
  have hdl : s2 / k ≤ s2 := Nat.div_le_self _ _
  generalize s2 / k = n at *
  have w1 : IntKind.i64.wrap (s1 : Int) = (s1 : Int) := by rw [IntKind.wrap_i64]; omega
  have w2 : IntKind.i64.wrap (s2 : Int) = (s2 : Int) := by rw [IntKind.wrap_i64]; omega
  have w3 : IntKind.i64.wrap (n : Int) = (n : Int) := by rw [IntKind.wrap_i64]; omega
  have b1 : decide ((4096 : Int) < (n : Int)) = true := by simp; omega
  have hk0 : k ≠ 0 := by omega
  have hki : ((k : Int) == 0) = false := by simp; omega
  clear hD hl hs1 hs2 hsn
  go_enter Try.func57, Try.ntmps57
  go_wp2_with fail
  go_quiet (fail)
  go_wp2_with fail
  go_ret2
  exact ⟨rfl, Fr.ofDrewN _ _⟩

set_option maxHeartbeats 4000000 in
set_option maxRecDepth 100000 in
theorem rsplit_ok (hD : DAt w p k m) (hk : 1 ≤ k ∧ k ≤ 16) (hl : Rd w v l) (hb : l.length ≤ 1048576) (hn : spN k l ≤ 4096) :
    Calls Try.prog 57 #[.pointer (some ⟨p, 0, none⟩), v] w fun e w' => (∃ ao ac, e = .returned (.tuple #[.slice ao k ac, .int .i64 0]) ∧ LN w.heap.size w' (.slice ao k ac) (splL k (spN k l) l)) ∧ Fr (fun _ => False) w w' := by
  have c0 := cell_of_heap hD 0
  simp at c0
  have hplt := lt_of_heap hD
  have Hl := hide hl
  obtain ⟨vo, vc, rfl⟩ := hl.shape
  obtain ⟨s1, hs1⟩ : ∃ s1, s1 = l.length + k := ⟨_, rfl⟩
  obtain ⟨s2, hs2⟩ : ∃ s2, s2 = l.length + k - 1 := ⟨_, rfl⟩
  have e1 : (l.length : Int) + (k : Int) = (s1 : Int) := by omega
  have e2 : (s1 : Int) - 1 = (s2 : Int) := by omega
  have hsn : spN k l = s2 / k := by unfold spN; rw [← hs2]
  have e3 : Int.tdiv (s2 : Int) (k : Int) = ((s2 / k : Nat) : Int) := by rfl
  rw [← hsn] at e3
  have hdl : spN k l ≤ s2 := by rw [hsn]; exact Nat.div_le_self _ _
  generalize spN k l = n at *
  have w1 : IntKind.i64.wrap (s1 : Int) = (s1 : Int) := by rw [IntKind.wrap_i64]; omega
  have w2 : IntKind.i64.wrap (s2 : Int) = (s2 : Int) := by rw [IntKind.wrap_i64]; omega
  have w3 : IntKind.i64.wrap (n : Int) = (n : Int) := by rw [IntKind.wrap_i64]; omega
  have b1 : decide ((4096 : Int) < (n : Int)) = false := by simp; omega
  have b1' : decide (4096 < n) = false := by simp; omega
  have hk0 : k ≠ 0 := by omega
  have hki : ((k : Int) == 0) = false := by simp; omega
  obtain ⟨inf, hi0, hz0, hz1, hz2⟩ := info_parts Try.info22
  clear hD hl hs1 hs2 hsn
  go_enter Try.func57, Try.ntmps57
  go_wp2_with fail
  go_quiet (fail)
  clear e1 e2 e3 w1 w2
  go_wp2_with fail
  clear b1 b1' hki
  go_loopw [7, 8, 9, 10] (fun hx y _ _ w' => ∃ i : Nat, i ≤ k ∧ y = .int .i64 (i : Int) ∧ (∃ ao ac, hx = .slice ao i ac ∧ AL w.heap.size w' (.slice ao i ac) ((splL k n l).take i)) ∧ Fr (fun _ => False) w w') (fun _ y _ _ _ => k - (intOf y).toNat)
  case atStart => exact ⟨0, by omega, rfl, ⟨none, 0, rfl, by simpa using AL.nil w.heap.size _⟩, Fr.ofDrewN _ _⟩
  case round =>
    obtain ⟨i, hi, rfl, ⟨ao, ac, rfl, hA⟩, hf⟩ := hrel
    have r0 : wr.cell? ⟨p, 0, none⟩ = some (.int .i64 (k : Int)) := by rw [hf.cell (a := ⟨p, 0, none⟩) hplt id]; exact c0
    by_cases hlt : i < k
    · obtain ⟨w5, hmk5, hB5, hf5⟩ := mk_any wr n (by omega)
      have HST := hide (splL_take k n l i hlt)
      obtain ⟨x, hx⟩ : ∃ x, x = i * n := ⟨_, rfl⟩
      have ex : (i : Int) * (n : Int) = (x : Int) := by rw [hx]; simp
      have hxb : x ≤ 16 * 4096 := by rw [hx]; exact Nat.mul_le_mul (by omega) hn
      have wx : IntKind.i64.wrap (x : Int) = (x : Int) := by rw [IntKind.wrap_i64]; omega
      have HX := hide hx
      have HB5 := hide hB5
      have HF5 := hide hf5
      have HA := hide hA
      have Hf := hide hf
      have hgr := hf.size
      clear hx hB5 hf5 hA hf
      go_wp2_with fail
      clear hmk5
      generalize hgg : wr.heap.size = g at *
      have HGG := hide hgg
      clear hgg
      go_loopw [10] (fun y w' => ∃ t : Nat, t ≤ n ∧ y = .int .i64 (t : Int) ∧ BAt w' g ((spl n l i).take t ++ List.replicate (n - t) 0) ∧ Fr (fun k => k = g) w5 w') (fun y _ => n - (intOf y).toNat)
      case atStart => exact ⟨0, by omega, rfl, by simpa using unhide HB5, Fr.refl _ _⟩
      case round =>
        obtain ⟨t, ht, rfl, hB, hf⟩ := hrel
        obtain ⟨z, hz⟩ : ∃ z, z = x + t := ⟨_, rfl⟩
        have ez : (x : Int) + (t : Int) = (z : Int) := by omega
        have wz : IntKind.i64.wrap (z : Int) = (z : Int) := by rw [IntKind.wrap_i64]; omega
        have HZ := hide hz
        by_cases hc : t < n ∧ z < l.length
        · have hcl := hc.1
          have hcr := hc.2
          have g1 : decide ((t : Int) < (n : Int)) = true := by simp; omega
          have g2 : decide ((z : Int) < (l.length : Int)) = true := by simp; omega
          have hFw : Fr (fun _ => False) w wr := ((unhide Hf).trans (unhide HF5) (fun _ _ h => h)).trans hf (fun b hb h => by have := unhide HGG; omega)
          obtain ⟨vb, vof, rfl, -, hvcap, hvm, hcv⟩ := ((unhide Hl).kept hFw (fun _ _ h => h)).lits (by omega)
          have q1 := hcv z hcr
          have hsl : ((spl n l i).take t ++ List.replicate (n - t) (0 : UInt8)).length = n := by simp [spl_length]; omega
          have q2 := hB.cell t (by omega)
          have z2 := hB.frozen t
          have hst := spl_step (n := n) (j := i) (t := t) (l := l) hcl (by rw [← unhide HX, ← hz]; exact hcr)
          have hst2 : ((spl n l i).take t ++ List.replicate (n - t) 0).set t l[z] = (spl n l i).take (t + 1) ++ List.replicate (n - (t + 1)) 0 := by
            rw [← hst]
            congr 1
            simp only [hz, unhide HX]
          have HST2 := hide hst2
          generalize ((spl n l i).take t ++ List.replicate (n - t) 0)[t]'(by omega) = old at *
          generalize l[z] = lz at *
          have HB := hide hB
          have Hfi := hide hf
          unfold maxLen at hvm
          have hzc : z < vc := by omega
          clear hB hf hFw hcv hst hst2 hsl hc hz
          go_wp2_with fail
          go_roundw
          case rel =>
            refine ⟨t + 1, by omega, by go_num, ?_, (unhide Hfi).setCell (fun _ => rfl) _⟩
            rw [← unhide HST2]
            exact (unhide HB).set t _
          case measure => simp [intOf]; omega
        · have hrest := spl_rest (n := n) (j := i) (t := t) (l := l) ht (by
            rw [← unhide HX, ← hz]
            by_cases e : t = n
            · exact .inl e
            · exact .inr (by omega))
          rw [hrest] at hB
          have HFr := hide (show Fr (fun _ => False) _ wr from (unhide HF5).trans hf (fun b hb h => by have := unhide HGG; omega))
          obtain ⟨vs, hOv, hvl, hrows⟩ := ((unhide HA).kept (unhide HFr)).ex
          have hvi : vs.length = i := by rw [hvl, List.length_take, splL_length]; omega
          have HO := hide (show wr.ownsRow 0 22 1 (.slice ao i ac) i vs by rw [hvi] at hOv; exact hOv)
          have HRO := hide hrows
          have HVI := hide hvi
          have HVL := hide hvl
          have HB := hide hB
          have HC := hide hc
          have hgw : g < wr.heap.size := lt_of_heap hB
          by_cases hcl : t < n
          · have hcr : ¬ z < l.length := by omega
            have g1 : decide ((t : Int) < (n : Int)) = true := by simp; omega
            have g2 : decide ((z : Int) < (l.length : Int)) = false := by simp; omega
            clear hB hf hOv hrows hvi hvl hrest hc hz
            go_wp2_with (at_builtin; refine wpList_app rfl (.tmp 62) (.tmp 64) 65 rfl 22 inf _ 1 24 Try.underlying65 hi0 hz0 hz1 hz2 rfl (by decide) (.slice ao i ac) i vs rfl (.slice (some ⟨wr.heap.size, 0, none⟩) 1 1) rfl 1 [.slice (some ⟨g, 0, none⟩) n n] ((unhide HO).alloc _) (one_cellV wr _ 22) (fun u hu => by simp at hu; subst hu; rfl) (by omega) (by simp only [maxLen]; omega) ?_)
            intro ao4 ac4 w4 o4 g4 p4
            have hRb : Rd wr (.slice (some ⟨g, 0, none⟩) n n) (spl n l i) := by
              have := (unhide HB).rd (by rw [spl_length]; simp only [maxLen]; omega)
              rwa [spl_length] at this
            have hAL := AL.app (N := w.heap.size) (w := wr) (w' := w4) (ao := ao) (n := i) (ac := ac) (ls := (splL k n l).take i) vs (by rw [unhide HVI]; exact unhide HO) (unhide HVL) (unhide HRO) (unhide HA).new (.slice (some ⟨g, 0, none⟩) n n) _ hRb (Wb.of_bat (unhide HB) hgr) (by omega) o4 g4 (by simpa using p4)
            rw [← unhide HST] at hAL
            have HAL := hide hAL.1
            have HF4 := hide (((unhide Hf).trans (unhide HFr) (fun _ _ h => h)).trans hAL.2 (fun k hk e => by have := (unhide HA).new k e; omega))
            clear hRb hAL o4 g4 p4
            go_wp2_with fail
            go_roundw
            case rel => exact ⟨i + 1, by omega, by go_num, ⟨ao4, ac4, rfl, unhide HAL⟩, unhide HF4⟩
            case measure => simp [intOf]; omega
          · have g1 : decide ((t : Int) < (n : Int)) = false := by simp; omega
            clear hB hf hOv hrows hvi hvl hrest hc hz
            go_wp2_with (at_builtin; refine wpList_app rfl (.tmp 62) (.tmp 64) 65 rfl 22 inf _ 1 24 Try.underlying65 hi0 hz0 hz1 hz2 rfl (by decide) (.slice ao i ac) i vs rfl (.slice (some ⟨wr.heap.size, 0, none⟩) 1 1) rfl 1 [.slice (some ⟨g, 0, none⟩) n n] ((unhide HO).alloc _) (one_cellV wr _ 22) (fun u hu => by simp at hu; subst hu; rfl) (by omega) (by simp only [maxLen]; omega) ?_)
            intro ao4 ac4 w4 o4 g4 p4
            have hRb : Rd wr (.slice (some ⟨g, 0, none⟩) n n) (spl n l i) := by
              have := (unhide HB).rd (by rw [spl_length]; simp only [maxLen]; omega)
              rwa [spl_length] at this
            have hAL := AL.app (N := w.heap.size) (w := wr) (w' := w4) (ao := ao) (n := i) (ac := ac) (ls := (splL k n l).take i) vs (by rw [unhide HVI]; exact unhide HO) (unhide HVL) (unhide HRO) (unhide HA).new (.slice (some ⟨g, 0, none⟩) n n) _ hRb (Wb.of_bat (unhide HB) hgr) (by omega) o4 g4 (by simpa using p4)
            rw [← unhide HST] at hAL
            have HAL := hide hAL.1
            have HF4 := hide (((unhide Hf).trans (unhide HFr) (fun _ _ h => h)).trans hAL.2 (fun k hk e => by have := (unhide HA).new k e; omega))
            clear hRb hAL o4 g4 p4
            go_wp2_with fail
            go_roundw
            case rel => exact ⟨i + 1, by omega, by go_num, ⟨ao4, ac4, rfl, unhide HAL⟩, unhide HF4⟩
            case measure => simp [intOf]; omega
    · have hie : i = k := by omega
      subst hie
      have HA := hide hA
      have Hf := hide hf
      clear hA hf
      go_wp2_with fail
      go_ret2
      have := (unhide HA).ln
      rw [List.take_of_length_le (by rw [splL_length]; omega)] at this
      exact ⟨⟨_, _, rfl, this⟩, unhide Hf⟩
end

theorem rsplit_any (w : World) (p k m : Nat) (v : Value) (l : List UInt8) (hD : DAt w p k m) (hk : 1 ≤ k ∧ k ≤ 16) (hl : Rd w v l) (hb : l.length ≤ 1048576) :
    Calls Try.prog 57 #[.pointer (some ⟨p, 0, none⟩), v] w fun e w' => (∃ ao n ac, e = .returned (.tuple #[.slice ao n ac, .int .i64 (spE k l)]) ∧ LN w.heap.size w' (.slice ao n ac) (spR k l)) ∧ Fr (fun _ => False) w w' := by
  unfold spR spE
  by_cases hn : spN k l ≤ 4096
  · rw [if_pos hn, if_pos hn]
    refine (rsplit_ok w p k m v l hD hk hl hb hn).mono ?_
    rintro e w' ⟨⟨ao, ac, rfl, h⟩, f⟩
    exact ⟨⟨_, _, _, rfl, h⟩, f⟩
  · rw [if_neg hn, if_neg hn]
    refine (rsplit_no w p k m _ l hD hk hl hb hn).mono ?_
    rintro e w' ⟨rfl, f⟩
    exact ⟨⟨_, _, _, rfl, LN.nil _ _⟩, f⟩

end Go.Proofs.Ytckmddkhkdcmmaa
