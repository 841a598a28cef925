/-
  The document's cache: the dirty places in their order.
-/
import Derived.Test.YtdgmlopaeonacaaM17
namespace Go.Proofs.Ytdgmlopaeonacaa
set_option linter.unusedVariables false
set_option linter.unusedSimpArgs false
open Go.RowKit
set_option linter.unusedVariables false
set_option linter.unusedSimpArgs false

attribute [local go_sem ↓] Go.wp_at_zero Go.wp_at_succ

theorem pvs_one (D : List (Nat × Pl)) : ∀ u ∈ pvs D, u.oneCell' = true := by
  intro u hu
  obtain ⟨_, _, rfl⟩ := List.mem_map.1 hu
  rfl
theorem app54_first (w : World) (b : Nat) (hb : w.heap[b]? = some (.cells #[] 95 (0, 0))) {x : Value} {k : Nat} {ys : List Value} (hx : Sr w 1 x k ys) (h1 : ∀ u ∈ ys, u.oneCell' = true) (hk : k ≤ 100000) : ∃ v w', (Builtin.append_ #[54, 54] 54 #[.slice (some ⟨b, 0, none⟩) 0 0, x]).run Try.prog w = .ok v w' ∧ w'.ownsRow 0 95 1 v (0 + k) ([] ++ ys) ∧ Fr (fun _ => False) w w' ∧ ∀ j, v.ownBlock = some j → j = b ∨ w.heap.size ≤ j := by
  obtain ⟨inf, hi0, hz0, hz1, hz2⟩ := info_parts Try.info95
  have hown : w.ownsRow 0 95 1 (.slice (some ⟨b, 0, none⟩) 0 0) 0 [] := ⟨rfl, .inr ⟨b, 0, #[], rfl, Nat.zero_le _, hb, Nat.le_refl _, Nat.zero_le _, rfl, rfl⟩⟩
  have hx' := hx
  rcases hx with ⟨rfl, rfl, rfl⟩ | ⟨ad, c, rfl, hl, hc⟩
  · exact ⟨_, w, run_append_owned_none w 0 54 54 95 inf 1 Try.underlying54 hi0 _ 0 [] hown, by simpa using hown, Fr.refl _ _, fun j hj => by simp [Value.ownBlock] at hj; exact .inl hj.symm⟩
  · by_cases hk0 : k = 0
    · subst hk0
      obtain rfl : ys = [] := by simpa using hl
      refine ⟨_, w, ?_, by simpa using hown, Fr.refl _ _, fun j hj => by simp [Value.ownBlock] at hj; exact .inl hj.symm⟩
      simp [Builtin.append_, run_underlying Try.underlying54, sizeOf, typeInfo, hi0, Builtin.lenOf, Builtin.firstCells, storeCells, loadCells, loadCellsFrom]
    · obtain ⟨v, w', hr, ho, hg, hn⟩ := run_app (P := Try.prog) w 54 54 95 inf _ 1 8 Try.underlying54 hi0 hz0 hz1 hz2 rfl (by decide) _ 0 [] hown _ k ys hx' h1 (by omega) (by simp only [maxLen]; omega)
      have hr2 := run_append_grow (P := Try.prog) w 54 54 95 inf _ Try.underlying54 hi0 hz0 ⟨b, 0, none⟩ 0 0 [] (by rw [hz1]; rfl) (fun j u hu => by simp at hu) ad k c ys (by rw [hz1]; exact hl) hc (by omega) (by omega) (by rw [hz2]; exact growslice_fits (by omega) (by omega))
      rw [hr] at hr2
      simp only [Result.ok.injEq] at hr2
      obtain ⟨rfl, rfl⟩ := hr2
      exact ⟨_, _, hr, ho, ((Fr.refl _ _).drew).alloc _, fun j hj => by simp [Value.ownBlock] at hj; right; omega⟩
theorem app_frN {w4 w' w9 : World} {v0 : Value} (hs : Fr (fun _ => False) w4 w') (hg : w'.grownBy w9 v0.ownBlock) (hb : ∀ k, v0.ownBlock = some k → w4.heap.size ≤ k) : Fr (fun k => w4.heap.size ≤ k) w' w9 :=
  ((Fr.refl (fun k => v0.ownBlock = some k) w').grown hg (fun k _ e => e)).mono (fun k _ e => hb k e)
section
variable {ρ : Operand → Value} {o : Oper} {w : World}
theorem x_to54n {x y : Operand} (ho : o.op = .slice 54 x none (some y) none) (hx : ρ x = .slice none 0 0) (hy : ρ y = .int .i64 0) : (execOp ρ o).run Try.prog w = .ok (.value (.slice none 0 0)) w := by
  simp [execOp, ho, hx, hy, go_sem]
theorem x_from54n {x y : Operand} (ho : o.op = .slice 54 x (some y) none none) (hx : ρ x = .slice none 0 0) (hy : ρ y = .int .i64 0) : (execOp ρ o).run Try.prog w = .ok (.value (.slice none 0 0)) w := by
  simp [execOp, ho, hx, hy, go_sem]
end
/-- The list under way: nil as long as it is empty. -/
def OutV (W : World) (v : Value) (D : List (Nat × Pl)) : Prop := (D = [] ∧ v = .slice none 0 0) ∨ ∃ gl cap, v = .slice (some ⟨gl, 0, none⟩) D.length cap ∧ D.length ≤ cap ∧ ∀ j (hj : j < D.length), W.cell? ⟨gl, j, none⟩ = some (ptr (D[j]).1)
theorem OutV.kept {W W' : World} {v : Value} {D : List (Nat × Pl)} (h : OutV W v D) (f : Fr (fun _ => False) W W') : OutV W' v D := by
  rcases h with h | ⟨gl, cap, h1, h2, h3⟩
  · exact .inl h
  · exact .inr ⟨gl, cap, h1, h2, fun j hj => by rw [f.cell (World.block_lt_of_cell? _ _ (h3 j hj)) id]; exact h3 j hj⟩
theorem OutV.of {W : World} {v : Value} {D : List (Nat × Pl)} (ho : W.ownsRow 0 95 1 v D.length (pvs D)) (hD : 0 < D.length) : OutV W v D := by
  obtain ⟨gl, cap, cur, e, hnc, hcm, hg, hcs, hcells⟩ := owns_at ho hD
  exact .inr ⟨gl, cap, e, hnc, fun j hj => by rw [hcells j hj]; simp [pvs, hj]⟩
/-- Its two parts. -/
theorem OutV.parts {W : World} {v : Value} {D : List (Nat × Pl)} (h : OutV W v D) (k : Nat) (hk : k ≤ D.length) : ∃ sv1 sv2, (∀ (ρ : Operand → Value) (o : Oper) (W : World) (x y : Operand), o.op = .slice 54 x none (some y) none → ρ x = v → ρ y = .int .i64 (k : Int) → (execOp ρ o).run Try.prog W = .ok (.value sv1) W) ∧ (∀ (ρ : Operand → Value) (o : Oper) (W : World) (x y : Operand), o.op = .slice 54 x (some y) none none → ρ x = v → ρ y = .int .i64 (k : Int) → (execOp ρ o).run Try.prog W = .ok (.value sv2) W) ∧ Sr W 1 sv1 k (pvs (D.take k)) ∧ Sr W 1 sv2 (D.length - k) (pvs (D.drop k)) := by
  rcases h with ⟨rfl, rfl⟩ | ⟨gl, cap, rfl, h2, h3⟩
  · obtain rfl : k = 0 := by simpa using hk
    exact ⟨_, _, fun ρ o W x y ho hx hy => x_to54n ho hx hy, fun ρ o W x y ho hx hy => x_from54n ho hx hy, .inl ⟨rfl, rfl, rfl⟩, .inl ⟨rfl, rfl, rfl⟩⟩
  · refine ⟨_, _, fun ρ o W x y ho hx hy => x_to54 ho hx hy hk h2, fun ρ o W x y ho hx hy => x_from54 ho hx hy hk h2, .inr ⟨_, _, rfl, by simp [pvs]; omega, fun j u hu => ?_⟩, .inr ⟨_, _, rfl, by simp [pvs], fun j u hu => ?_⟩⟩
    · have hj : j < k ∧ j < D.length := by have := (List.getElem?_eq_some_iff.1 hu).1; simp [pvs] at this; omega
      rw [Addr.add_lit, Nat.zero_add, h3 j hj.2]
      simpa [pvs, hj.1, hj.2] using hu
    · have hj : k + j < D.length := by have := (List.getElem?_eq_some_iff.1 hu).1; simp [pvs] at this; omega
      rw [if_neg (by omega), Addr.add_lit, h3 (k + j) hj]
      simpa [pvs, hj] using hu
section
variable (w : World) (q g : Nat) (lv : Value) (R : List (Nat × Pl)) (c : Ca)

set_option maxRecDepth 100000 in
set_option maxHeartbeats 8000000 in
theorem rising_any [Av] (hR : R.length ≤ 4096) (hbn : (R.map fun y => y.2.b).Nodup) (H : DAt w q g lv R c) : Calls Try.prog 41 #[ptr q] w fun e w' => (∃ v, e = .returned v ∧ OutV w' v (srtP (dty R)) ∧ ∀ b, v.ownBlock = some b → w.heap.size ≤ b ∧ knd w' b = 95) ∧ Fr (fun _ => False) w w' := by
  obtain ⟨-, -, c2, -⟩ := H.cells
  obtain ⟨la, lc, rfl⟩ := H.shape
  have HD := hide H
  obtain ⟨N, hN⟩ : ∃ N, N = R.length := ⟨_, rfl⟩
  rw [← hN] at c2 HD hR
  have HN := hide hN
  have HSR := hide (risn_srt hbn)
  clear H hN hbn
  unfold ptr at *
  go_enter Try.func41, Try.ntmps41
  go_wp2_with fail
  go_loopw [3, 4] (fun y z W => ∃ (i : Nat) (ao : Option Addr) (dn ac : Nat), i ≤ N ∧ z = .int .i64 (i : Int) ∧ y = .slice ao dn ac ∧ dn = (risn (R.take i)).length ∧ OutV W (.slice ao dn ac) (risn (R.take i)) ∧ (∀ b, (Value.slice ao dn ac).ownBlock = some b → w.heap.size ≤ b ∧ knd W b = 95) ∧ Fr (fun _ => False) w W) (fun _ z _ => N - (intOf z).toNat)
  case atStart => exact ⟨0, none, 0, 0, by omega, rfl, rfl, by simp [risn, dty], .inl ⟨by simp [risn, dty], rfl⟩, fun b hb => by simp [Value.ownBlock] at hb, Fr.refl _ _⟩
  case round =>
    obtain ⟨i, ao, dn, ac, hi, rfl, rfl, hdn, hO, hnew, hf⟩ := hrel
    obtain ⟨w0, rfl⟩ : ∃ w0, w0 = wr := ⟨_, rfl⟩
    have HDN := hide hdn
    have hDr := (unhide HD).kept0 hf
    obtain ⟨-, -, e2, -⟩ := hDr.cells
    have HO := hide hO
    have HNW := hide hnew
    have HF := hide hf
    by_cases hlt : i < N
    · have hiR : i < R.length := by have := unhide HN; omega
      obtain ⟨gl, cap', e, hnc, hcm, hcl⟩ := DAtK.lit (by rw [unhide HN] at hDr; exact hDr) (by omega)
      simp only [Value.slice.injEq] at e
      obtain ⟨rfl, -, rfl⟩ := e
      have ci := hcl i hiR
      obtain ⟨pv, hp⟩ := hDr.pl R[i] (List.getElem_mem hiR)
      obtain ⟨p0, p1, p2, p3, p4, p5⟩ := hp.cells
      have hic : i < lc := by have := unhide HN; omega
      have HST := hide (risn_step hiR)
      unfold ptr at ci
      obtain ⟨x, hx⟩ : ∃ x, x = R[i] := ⟨_, rfl⟩
      rw [← hx] at ci p0 p1 p2 p3 p4 p5 HST
      have HPL : Hid (∀ y ∈ risn (R.take i), ∃ pv, PAt w0 y.1 pv y.2) := hide (fun y hy => hDr.pl y (risn_mem hy).1)
      have HDY : Hid (∀ y ∈ risn (R.take i), y.2.dirty = true) := hide (fun y hy => (risn_mem hy).2)
      have HRL : Hid ((risn (R.take i)).length ≤ 4096) := hide (by rw [(risn_perm _).length_eq]; have h1 := List.length_filter_le (fun q : Nat × Pl => q.2.dirty) (R.take i); have h2 : (dty (R.take i)).length ≤ (R.take i).length := h1; simp at h2; have := unhide HN; omega)
      clear c2 hf hDr hp hcl hcm hnc hx
      rcases hdy : x.2.dirty with _ | _
      · rw [hdy] at p2
        have HRS : Hid (risn (R.take (i + 1)) = risn (R.take i)) := hide (by rw [unhide HST, hdy]; rfl)
        clear hdy hO hnew hdn
        go_wp2_with fail
        go_roundw
        case rel => exact ⟨i + 1, ao, dn, ac, by omega, by go_num, rfl, by rw [unhide HRS]; exact unhide HDN, by rw [unhide HRS]; exact unhide HO, unhide HNW, unhide HF⟩
        case measure => simp [intOf]; omega
      · rw [hdy] at p2
        have hfz : fz x.2 = (x.2.first : Int) := by unfold fz; rw [hdy]; rfl
        rw [hfz] at p3
        have HRS : Hid (risn (R.take (i + 1)) = insP x (risn (R.take i))) := hide (by rw [unhide HST, hdy]; rfl)
        generalize risn (R.take i) = D at *
        clear hdy hfz HST hnew
        have hdn4 : dn ≤ 4096 := by have h1 := unhide HDN; have h2 := unhide HRL; omega
        clear hO hdn
        go_wp2_with fail
        go_loopw [6] (fun z W => ∃ (k n : Nat), k ≤ dn ∧ z = .int .i64 (k : Int) ∧ (∀ j y, j < k → D[j]? = some y → ltB y x = true) ∧ Hid (W = w0.drewN n)) (fun z _ => dn - (intOf z).toNat)
        case atStart => exact ⟨0, 0, by omega, rfl, fun j y hj => by omega, hide rfl⟩
        case round =>
          obtain ⟨k, n, hk, rfl, hno, hW⟩ := hrel
          have fk : Fr (fun _ => False) w0 wr := by rw [unhide hW]; exact Fr.ofDrewN _ _
          have p3r := (fk.cell (a := ⟨x.1, 3, none⟩) (World.block_lt_of_cell? _ _ p3) id).trans p3
          have p0r := (fk.cell (a := ⟨x.1, 0, none⟩) (World.block_lt_of_cell? _ _ p0) id).trans p0
          have HNO := hide hno
          have HWK := hW
          have HFK := hide fk
          clear hno hW
          by_cases hkl : k < dn
          · have hkD : k < D.length := by have := unhide HDN; omega
            obtain ⟨pv2, hp2⟩ := unhide HPL D[k] (List.getElem_mem hkD)
            have hyd := unhide HDY D[k] (List.getElem_mem hkD)
            have hp2r := hp2.kept fk id (fun _ e => e.elim)
            obtain ⟨y0, -, -, y3, -, -⟩ := hp2r.cells
            have hyz : fz (D[k]).2 = ((D[k]).2.first : Int) := by unfold fz; rw [hyd]; rfl
            rw [hyz] at y3
            obtain ⟨gl2, cap2, hov, hcap, hoc⟩ := ((unhide HO).kept fk).resolve_left (fun e => by have := e.1; have h2 := unhide HDN; rw [this] at h2; simp at h2; omega)
            simp only [Value.slice.injEq] at hov
            obtain ⟨rfl, -, rfl⟩ := hov
            have yc := hoc k hkD
            have hkc : k < ac := by omega
            have HYG : Hid (D[k]? = some D[k]) := hide (List.getElem?_eq_getElem hkD)
            unfold ptr at yc
            obtain ⟨y, hy⟩ : ∃ y, y = D[k] := ⟨_, rfl⟩
            rw [← hy] at y0 y3 yc HYG
            clear hp2 hp2r hyd hyz hoc hcap fk hkD hy
            by_cases hl1 : y.2.first < x.2.first
            · have q1 : decide ((y.2.first : Int) < (x.2.first : Int)) = true := by simpa using hl1
              have q1n : decide (y.2.first < x.2.first) = true := by simpa using hl1
              have HLT : Hid (ltB y x = true) := hide (by unfold ltB; simp [hl1])
              clear hl1
              go_wp2_with fail
              go_quiet (fail)
              go_wp2_with fail
              go_roundw
              case rel => exact ⟨k + 1, _, by omega, by go_num, fun j z hj hz => by
                rcases Nat.lt_or_ge j k with h | h
                · exact unhide HNO j z h hz
                · obtain rfl : j = k := by omega
                  rw [unhide HYG] at hz; simp at hz; rw [← hz]; exact unhide HLT, hide (by rw [unhide HWK, World.drewN_drewN])⟩
              case measure => simp [intOf]; omega
            · have q1 : decide ((y.2.first : Int) < (x.2.first : Int)) = false := by simpa using hl1
              have q1n : decide (y.2.first < x.2.first) = false := by simpa using hl1
              by_cases hl2 : y.2.first = x.2.first
              · have q2 : ((y.2.first : Int) == (x.2.first : Int)) = true := by simp [hl2]
                by_cases hl3 : y.2.b < x.2.b
                · have q3 : decide (y.2.b < x.2.b) = true := by simpa using hl3
                  have HLT : Hid (ltB y x = true) := hide (by unfold ltB; simp [hl2, hl3])
                  rw [hl2] at y3 q1 q1n
                  clear hl1 hl2 hl3 q2
                  go_wp2_with fail
                  go_quiet (fail)
                  go_wp2_with fail
                  go_roundw
                  case rel => exact ⟨k + 1, _, by omega, by go_num, fun j z hj hz => by
                    rcases Nat.lt_or_ge j k with h | h
                    · exact unhide HNO j z h hz
                    · obtain rfl : j = k := by omega
                      rw [unhide HYG] at hz; simp at hz; rw [← hz]; exact unhide HLT, hide (by rw [unhide HWK, World.drewN_drewN])⟩
                  case measure => simp [intOf]; omega
                · have q3 : decide (y.2.b < x.2.b) = false := by simpa using hl3
                  have HLF : Hid (∀ y, D[k]? = some y → ltB y x = false) := hide (fun z hz => by
                    rw [unhide HYG] at hz; simp at hz; subst hz
                    unfold ltB; simp [hl2]; omega)
                  rw [hl2] at y3 q1 q1n
                  clear hl1 hl2 hl3 q2
                  go_wp2_with fail
                  go_quiet (fail)
                  go_wp2_with fail
                  refine wp_world ?_
                  intro wz hwz
                  have fz0 : Fr (fun _ => False) w0 wz := (unhide HFK).trans (by rw [hwz]; exact Fr.ofDrewN _ _) (fun _ _ e => e)
                  have HKN : Hid (0 + k + 1 + (D.length - k) ≤ 100000 ∧ k ≤ 100000) := hide (by have h1 := unhide HDN; have h2 := unhide HRL; omega)
                  obtain ⟨sv1, sv2, hto, hfo, hs1, hs2⟩ := ((unhide HO).kept fz0).parts k (by have := unhide HDN; omega)
                  have HTO := hide hto
                  have HFO := hide hfo
                  have HS1 := hide hs1
                  have HS2 := hide hs2
                  have HFZ := hide fz0
                  clear hto hfo hs1 hs2 fz0 hwz
                  refine wp_nameK ?_
                  intro a0 hA
                  have h3 : a0.tmps.getD 3 undef = .slice (some ⟨gl2, 0, none⟩) dn ac := by rw [hA]; rfl
                  have h5 : a0.tmps.getD 5 undef = .pointer (some ⟨x.1, 0, none⟩) := by rw [hA]; rfl
                  have h6 : a0.tmps.getD 6 undef = .int .i64 (k : Int) := by rw [hA]; rfl
                  have hsz : a0.tmps.size = 89 := by rw [hA]; rfl
                  have hdf : a0.defers = [] := by rw [hA]
                  have HA0 := hide hA
                  clear hA
                  refine wp_region_kinds4 (fun j => wz.heap.size ≤ j) (by kernel_rfl) (by kernel_rfl) (by decide +kernel) (by rw [hsz]; decide +kernel) [(.st 0 (fun v W => ∃ b, v = .slice (some ⟨b, 0, none⟩) 0 0 ∧ W.heap[b]? = some (.cells #[] 95 (0, 0)) ∧ wz.heap.size ≤ b) (fun v w1 w2 ⟨b, h1, h2, h3⟩ f => ⟨b, h1, by rw [f.block b (lt_of_heap h2) id]; exact h2, h3⟩)), .eq (.slice (some ⟨gl2, 0, none⟩) dn ac), .eq (.int .i64 (k : Int)), .eq (sv1), (.st 0 (fun v W => W.ownsRow 0 95 1 v (0 + k) ([] ++ pvs (D.take k)) ∧ ∀ j, v.ownBlock = some j → wz.heap.size ≤ j) (fun v w1 w2 ⟨h1, h2⟩ f => ⟨owns_kept h1 f (fun _ _ e => e), h2⟩)), .eq (.pointer (some ⟨x.1, 0, none⟩)), (.st 0 (fun v W => Sr W 1 v 1 [ptr x.1]) (fun v w1 w2 h f => sr_kept h f)), (.st 1 (fun v W => W.ownsRow 0 95 1 v (0 + k + 1) ([] ++ pvs (D.take k) ++ [ptr x.1]) ∧ ∀ j, v.ownBlock = some j → wz.heap.size ≤ j) (fun v w1 w2 ⟨h1, h2⟩ f => ⟨owns_kept h1 f (fun _ _ e => e), h2⟩)), .eq (.slice (some ⟨gl2, 0, none⟩) dn ac), .eq (.int .i64 (k : Int)), .eq (sv2), (.st 2 (fun v W => W.ownsRow 0 95 1 v (0 + k + 1 + (D.length - k)) ([] ++ pvs (D.take k) ++ [ptr x.1] ++ pvs (D.drop k)) ∧ ∀ j, v.ownBlock = some j → wz.heap.size ≤ j) (fun v w1 w2 ⟨h1, h2⟩ f => ⟨owns_kept h1 f (fun _ _ e => e), h2⟩)), (.st 2 (fun v W => W.ownsRow 0 95 1 v (0 + k + 1 + (D.length - k)) ([] ++ pvs (D.take k) ++ [ptr x.1] ++ pvs (D.drop k)) ∧ ∀ j, v.ownBlock = some j → wz.heap.size ≤ j) (fun v w1 w2 ⟨h1, h2⟩ f => ⟨owns_kept h1 f (fun _ _ e => e), h2⟩))] [7, 11] (by decide) (by decide) (twopath (waits (by kernel_rfl))) (fun _ W => Fr (fun _ => False) wz W) (Fr.refl _ _).drew ?steps ?done
                  case steps =>
                    refine ⟨?_, ?_⟩
                    · intro a' w' k' hb hf hs hc hq hg hd hu
                      obtain rfl : k' = 0 := Nat.le_zero.1 (hq 0 7 rfl (waits (by kernel_rfl))); have hs : Fr (fun _ => False) wz w' := hs; exact .inl ⟨wantedN rfl, k_new _ (w'.alloc (.cells #[] 95)) (by decide) (hs.trans ((Fr.refl (fun _ => False) _).alloc _) (fun _ _ h => h)) ((Fr.refl _ _).alloc _) (x_bs54 rfl) ⟨Nat.zero_le _, fun _ => ⟨_, rfl, heap_alloc_new _ _, hs.size⟩⟩⟩
                    refine ⟨?_, ?_⟩
                    · intro a' w' k' hb hf hs hc hq hg hd hu
                      exact .inl ⟨wantedN rfl, k_val (.slice (some ⟨gl2, 0, none⟩) dn ac) (by decide) hs (x_move rfl ((hu 12 3 rfl (waits (by kernel_rfl))).trans h3)) rfl⟩
                    refine ⟨?_, ?_⟩
                    · intro a' w' k' hb hf hs hc hq hg hd hu
                      exact .inl ⟨wantedN rfl, k_val (.int .i64 (k : Int)) (by decide) hs (x_move rfl ((hb.old 6 (by decide +kernel)).trans h6)) rfl⟩
                    refine ⟨?_, ?_⟩
                    · intro a' w' k' hb hf hs hc hq hg hd hu
                      exact .inl ⟨wantedN rfl, k_val sv1 (by decide) hs (unhide HTO _ _ _ _ _ rfl (hd 1 (by kernel_rfl) 77 rfl) (hd 2 (by kernel_rfl) 78 rfl)) rfl⟩
                    refine ⟨?_, ?_⟩
                    · intro a' w' k' hb hf hs hc hq hg hd hu
                      obtain rfl : k' = 0 := Nat.le_zero.1 (hq 0 7 rfl (waits (by kernel_rfl))); have hs : Fr (fun _ => False) wz w' := hs; have hh := hd 0 (by kernel_rfl) 76 rfl; obtain ⟨b7, e7, hb7, hn7⟩ := hh.2 rfl; obtain ⟨v9, w9, hr9, ho9, hf9, hn9⟩ := app54_first w' b7 hb7 (sr_kept (unhide HS1) hs) (pvs_one _) (by have := unhide HKN; omega); exact .inl ⟨wantedN rfl, k_new v9 w9 (by decide) (hs.trans hf9 (fun _ _ h => h)) hf9 (x_app54 rfl rfl e7 (hd 3 (by kernel_rfl) 79 rfl) hr9) ⟨Nat.zero_le _, fun _ => ⟨ho9, fun j hj => by rcases hn9 j hj with e | e; rw [e]; exact hn7; exact Nat.le_trans hs.size e⟩⟩⟩
                    refine ⟨?_, ?_⟩
                    · intro a' w' k' hb hf hs hc hq hg hd hu
                      exact .inl ⟨wantedN rfl, k_val (.pointer (some ⟨x.1, 0, none⟩)) (by decide) hs (x_move rfl ((hb.old 5 (by decide +kernel)).trans h5)) rfl⟩
                    refine ⟨?_, ?_⟩
                    · intro a' w' k' hb hf hs hc hq hg hd hu
                      obtain rfl : k' = 0 := Nat.le_zero.1 (hq 0 7 rfl (waits (by kernel_rfl))); have hs : Fr (fun _ => False) wz w' := hs; exact .inl ⟨wantedN rfl, k_new _ (w'.alloc (.cells #[ptr x.1] 95)) (by decide) (hs.trans ((Fr.refl (fun _ => False) _).alloc _) (fun _ _ h => h)) ((Fr.refl _ _).alloc _) (x_bs54p rfl (hd 5 (by kernel_rfl) 81 rfl)) ⟨Nat.zero_le _, fun _ => one_cellV _ _ _⟩⟩
                    refine ⟨?_, ?_⟩
                    · intro a' w' k' hb hf hs hc hq hg hd hu
                      have hs : Fr (fun _ => False) wz w' := hs; obtain rfl := hc 0 rfl; have hh := hd 4 (by kernel_rfl) 80 rfl; obtain ⟨ho7, hb7⟩ := hh.2 rfl; have hh6 := hd 6 (by kernel_rfl) 82 rfl; obtain ⟨v9, w9, hr9, ho9, hg9, hn9⟩ := app54 w' _ ho7 (hh6.2 rfl) (fun u hu => by simp at hu; subst hu; rfl) (by have := unhide HKN; omega); exact .inl ⟨wantedN rfl, k_chain v9 w9 (by decide) (app_st hs hg9 hb7) (app_frN hs hg9 hb7) (x_app54 rfl rfl rfl rfl hr9) ⟨Nat.le_refl _, fun _ => ⟨ho9, app_new hs.size hn9 hb7⟩⟩⟩
                    refine ⟨?_, ?_⟩
                    · intro a' w' k' hb hf hs hc hq hg hd hu
                      exact .inl ⟨wantedN rfl, k_val (.slice (some ⟨gl2, 0, none⟩) dn ac) (by decide) hs (x_move rfl ((hu 12 3 rfl (waits (by kernel_rfl))).trans h3)) rfl⟩
                    refine ⟨?_, ?_⟩
                    · intro a' w' k' hb hf hs hc hq hg hd hu
                      exact .inl ⟨wantedN rfl, k_val (.int .i64 (k : Int)) (by decide) hs (x_move rfl ((hb.old 6 (by decide +kernel)).trans h6)) rfl⟩
                    refine ⟨?_, ?_⟩
                    · intro a' w' k' hb hf hs hc hq hg hd hu
                      exact .inl ⟨wantedN rfl, k_val sv2 (by decide) hs (unhide HFO _ _ _ _ _ rfl (hd 8 (by kernel_rfl) 84 rfl) (hd 9 (by kernel_rfl) 85 rfl)) rfl⟩
                    refine ⟨?_, ?_⟩
                    · intro a' w' k' hb hf hs hc hq hg hd hu
                      have hs : Fr (fun _ => False) wz w' := hs; obtain rfl := hc 1 rfl; have hh := hd 7 (by kernel_rfl) 83 rfl; obtain ⟨ho7, hb7⟩ := hh.2 rfl; obtain ⟨v9, w9, hr9, ho9, hg9, hn9⟩ := app54 w' _ ho7 (sr_kept (unhide HS2) hs) (pvs_one _) (by have := unhide HKN; omega); exact .inl ⟨wantedN rfl, k_chain v9 w9 (by decide) (app_st hs hg9 hb7) (app_frN hs hg9 hb7) (x_app54 rfl rfl rfl (hd 10 (by kernel_rfl) 86 rfl) hr9) ⟨Nat.le_refl _, fun _ => ⟨ho9, app_new hs.size hn9 hb7⟩⟩⟩
                    refine ⟨?_, ?_⟩
                    · intro a' w' k' hb hf hs hc hq hg hd hu
                      have hh := (hd 11 (by kernel_rfl) 87 rfl); exact .inl ⟨wantedN rfl, k_val _ (by decide) hs (x_assign rfl rfl) hh⟩
                    exact trivial
                  case done =>
                    intro a' w6 hb hf hs hall
                    have hdf' : a'.defers = [] := by rw [hb.defers]; exact hdf
                    have hS6 : Fr (fun _ => False) wz w6 := hs
                    have h12 := hall 12 (by decide) 3 rfl
                    obtain ⟨ho6, hn6⟩ := h12.2 rfl
                    obtain ⟨v3, hv3⟩ : ∃ v, a'.tmps.getD 3 undef = v := ⟨_, rfl⟩
                    obtain ⟨v76, hv76⟩ : ∃ v, a'.tmps.getD 76 undef = v := ⟨_, rfl⟩
                    obtain ⟨v77, hv77⟩ : ∃ v, a'.tmps.getD 77 undef = v := ⟨_, rfl⟩
                    obtain ⟨v78, hv78⟩ : ∃ v, a'.tmps.getD 78 undef = v := ⟨_, rfl⟩
                    obtain ⟨v79, hv79⟩ : ∃ v, a'.tmps.getD 79 undef = v := ⟨_, rfl⟩
                    obtain ⟨v80, hv80⟩ : ∃ v, a'.tmps.getD 80 undef = v := ⟨_, rfl⟩
                    obtain ⟨v81, hv81⟩ : ∃ v, a'.tmps.getD 81 undef = v := ⟨_, rfl⟩
                    obtain ⟨v82, hv82⟩ : ∃ v, a'.tmps.getD 82 undef = v := ⟨_, rfl⟩
                    obtain ⟨v83, hv83⟩ : ∃ v, a'.tmps.getD 83 undef = v := ⟨_, rfl⟩
                    obtain ⟨v84, hv84⟩ : ∃ v, a'.tmps.getD 84 undef = v := ⟨_, rfl⟩
                    obtain ⟨v85, hv85⟩ : ∃ v, a'.tmps.getD 85 undef = v := ⟨_, rfl⟩
                    obtain ⟨v86, hv86⟩ : ∃ v, a'.tmps.getD 86 undef = v := ⟨_, rfl⟩
                    obtain ⟨v87, hv87⟩ : ∃ v, a'.tmps.getD 87 undef = v := ⟨_, rfl⟩
                    have hfr := frame_eq (a := a') (vs := [.pointer (some ⟨q, 0, none⟩), undef, .slice none 0 0, v3, .int .i64 (i : Int), .pointer (some ⟨x.1, 0, none⟩), .int .i64 (k : Int), a0.tmps.getD 7 undef, a0.tmps.getD 8 undef, a0.tmps.getD 9 undef, a0.tmps.getD 10 undef, a0.tmps.getD 11 undef, a0.tmps.getD 12 undef, a0.tmps.getD 13 undef, a0.tmps.getD 14 undef, a0.tmps.getD 15 undef, a0.tmps.getD 16 undef, a0.tmps.getD 17 undef, a0.tmps.getD 18 undef, a0.tmps.getD 19 undef, a0.tmps.getD 20 undef, a0.tmps.getD 21 undef, a0.tmps.getD 22 undef, a0.tmps.getD 23 undef, a0.tmps.getD 24 undef, a0.tmps.getD 25 undef, a0.tmps.getD 26 undef, a0.tmps.getD 27 undef, a0.tmps.getD 28 undef, a0.tmps.getD 29 undef, a0.tmps.getD 30 undef, a0.tmps.getD 31 undef, a0.tmps.getD 32 undef, a0.tmps.getD 33 undef, a0.tmps.getD 34 undef, a0.tmps.getD 35 undef, a0.tmps.getD 36 undef, a0.tmps.getD 37 undef, a0.tmps.getD 38 undef, a0.tmps.getD 39 undef, a0.tmps.getD 40 undef, a0.tmps.getD 41 undef, a0.tmps.getD 42 undef, a0.tmps.getD 43 undef, a0.tmps.getD 44 undef, a0.tmps.getD 45 undef, a0.tmps.getD 46 undef, a0.tmps.getD 47 undef, a0.tmps.getD 48 undef, a0.tmps.getD 49 undef, a0.tmps.getD 50 undef, a0.tmps.getD 51 undef, a0.tmps.getD 52 undef, a0.tmps.getD 53 undef, a0.tmps.getD 54 undef, a0.tmps.getD 55 undef, a0.tmps.getD 56 undef, a0.tmps.getD 57 undef, a0.tmps.getD 58 undef, a0.tmps.getD 59 undef, a0.tmps.getD 60 undef, a0.tmps.getD 61 undef, a0.tmps.getD 62 undef, a0.tmps.getD 63 undef, a0.tmps.getD 64 undef, a0.tmps.getD 65 undef, a0.tmps.getD 66 undef, a0.tmps.getD 67 undef, a0.tmps.getD 68 undef, a0.tmps.getD 69 undef, a0.tmps.getD 70 undef, a0.tmps.getD 71 undef, a0.tmps.getD 72 undef, a0.tmps.getD 73 undef, a0.tmps.getD 74 undef, a0.tmps.getD 75 undef, v76, v77, v78, v79, v80, v81, v82, v83, v84, v85, v86, v87, undef]) (by rw [hb.size, hsz]; rfl) hdf' ⟨((hb.old 0 (by decide +kernel)).trans (by rw [unhide HA0]; rfl)), ((hb.old 1 (by decide +kernel)).trans (by rw [unhide HA0]; rfl)), ((hb.old 2 (by decide +kernel)).trans (by rw [unhide HA0]; rfl)), hv3, ((hb.old 4 (by decide +kernel)).trans (by rw [unhide HA0]; rfl)), ((hb.old 5 (by decide +kernel)).trans h5), ((hb.old 6 (by decide +kernel)).trans h6), (hb.old 7 (by decide +kernel)), (hb.old 8 (by decide +kernel)), (hb.old 9 (by decide +kernel)), (hb.old 10 (by decide +kernel)), (hb.old 11 (by decide +kernel)), (hb.old 12 (by decide +kernel)), (hb.old 13 (by decide +kernel)), (hb.old 14 (by decide +kernel)), (hb.old 15 (by decide +kernel)), (hb.old 16 (by decide +kernel)), (hb.old 17 (by decide +kernel)), (hb.old 18 (by decide +kernel)), (hb.old 19 (by decide +kernel)), (hb.old 20 (by decide +kernel)), (hb.old 21 (by decide +kernel)), (hb.old 22 (by decide +kernel)), (hb.old 23 (by decide +kernel)), (hb.old 24 (by decide +kernel)), (hb.old 25 (by decide +kernel)), (hb.old 26 (by decide +kernel)), (hb.old 27 (by decide +kernel)), (hb.old 28 (by decide +kernel)), (hb.old 29 (by decide +kernel)), (hb.old 30 (by decide +kernel)), (hb.old 31 (by decide +kernel)), (hb.old 32 (by decide +kernel)), (hb.old 33 (by decide +kernel)), (hb.old 34 (by decide +kernel)), (hb.old 35 (by decide +kernel)), (hb.old 36 (by decide +kernel)), (hb.old 37 (by decide +kernel)), (hb.old 38 (by decide +kernel)), (hb.old 39 (by decide +kernel)), (hb.old 40 (by decide +kernel)), (hb.old 41 (by decide +kernel)), (hb.old 42 (by decide +kernel)), (hb.old 43 (by decide +kernel)), (hb.old 44 (by decide +kernel)), (hb.old 45 (by decide +kernel)), (hb.old 46 (by decide +kernel)), (hb.old 47 (by decide +kernel)), (hb.old 48 (by decide +kernel)), (hb.old 49 (by decide +kernel)), (hb.old 50 (by decide +kernel)), (hb.old 51 (by decide +kernel)), (hb.old 52 (by decide +kernel)), (hb.old 53 (by decide +kernel)), (hb.old 54 (by decide +kernel)), (hb.old 55 (by decide +kernel)), (hb.old 56 (by decide +kernel)), (hb.old 57 (by decide +kernel)), (hb.old 58 (by decide +kernel)), (hb.old 59 (by decide +kernel)), (hb.old 60 (by decide +kernel)), (hb.old 61 (by decide +kernel)), (hb.old 62 (by decide +kernel)), (hb.old 63 (by decide +kernel)), (hb.old 64 (by decide +kernel)), (hb.old 65 (by decide +kernel)), (hb.old 66 (by decide +kernel)), (hb.old 67 (by decide +kernel)), (hb.old 68 (by decide +kernel)), (hb.old 69 (by decide +kernel)), (hb.old 70 (by decide +kernel)), (hb.old 71 (by decide +kernel)), (hb.old 72 (by decide +kernel)), (hb.old 73 (by decide +kernel)), (hb.old 74 (by decide +kernel)), (hb.old 75 (by decide +kernel)), hv76, hv77, hv78, hv79, hv80, hv81, hv82, hv83, hv84, hv85, hv86, hv87, ((hb.old 88 (by decide +kernel)).trans (by rw [unhide HA0]; rfl)), trivial⟩
                    rw [hv3] at ho6 hn6
                    have HO6 := hide ho6
                    have HN6 := hide hn6
                    have HF6 := hide hS6
                    clear hall hb hf hs h12 hS6 hv3 ho6 hn6 hv76 hv77 hv78 hv79 hv80 hv81 hv82 hv83 hv84 hv85 hv86 hv87
                    subst hfr
                    clear HA0 h3 h5 h6 hsz hdf hdf'
                    apply_assumption
                    obtain ⟨h1, h2⟩ := take_ins (p := x) (D := D) (k := k) (by have := unhide HDN; omega) (unhide HNO) (unhide HLF)
                    have hD2 : D.take k ++ x :: D.drop k = insP x D := by unfold insP; rw [h1, h2]
                    have hlen : 0 + k + 1 + (D.length - k) = (insP x D).length := by rw [← hD2]; simp; have := unhide HDN; omega
                    obtain ⟨ao3, c3, rfl⟩ := owns_shape (unhide HO6)
                    have HO7 : Hid (OutV w6 (.slice ao3 (0 + k + 1 + (D.length - k)) c3) (insP x D)) := hide (OutV.of (by
                      have h := unhide HO6
                      have hp : pvs (insP x D) = [] ++ pvs (D.take k) ++ [ptr x.1] ++ pvs (D.drop k) := by rw [← hD2]; simp [pvs]
                      rw [hlen] at h ⊢
                      rw [hp]
                      exact h) (by rw [← hD2]; simp; omega))
                    have HN7 : Hid (∀ b, (Value.slice ao3 (0 + k + 1 + (D.length - k)) c3).ownBlock = some b → w.heap.size ≤ b ∧ knd w6 b = 95) := hide (fun b hb => ⟨by have h1 := unhide HN6 b hb; have h2 := (unhide HF).size; have h3 := (unhide HFZ).size; omega, knd_owns (unhide HO6) hb⟩)
                    have HL7 := hide hlen
                    obtain ⟨d7, hd7⟩ : ∃ d7, d7 = 0 + k + 1 + (D.length - k) := ⟨_, rfl⟩
                    rw [← hd7] at HO7 HN7 HL7 ⊢
                    clear hd7 h1 h2 hD2 hlen HO6 HN6
                    go_wp2_with fail
                    go_roundw
                    case rel => exact ⟨i + 1, ao3, d7, c3, by omega, by go_num, rfl, by rw [unhide HRS]; exact unhide HL7, by rw [unhide HRS]; exact unhide HO7, unhide HN7, ((unhide HF).trans (unhide HFZ) (fun _ _ e => e)).trans (unhide HF6) (fun _ _ e => e)⟩
                    case measure => simp [intOf]; omega
              · have q2 : ((y.2.first : Int) == (x.2.first : Int)) = false := by simp; omega
                have q2n : (y.2.first == x.2.first) = false := by simpa using hl2
                have HLF : Hid (∀ y, D[k]? = some y → ltB y x = false) := hide (fun z hz => by
                  rw [unhide HYG] at hz; simp at hz; subst hz
                  unfold ltB; simp; omega)
                clear hl1 hl2
                go_wp2_with fail
                go_quiet (fail)
                go_wp2_with fail
                refine wp_world ?_
                intro wz hwz
                have fz0 : Fr (fun _ => False) w0 wz := (unhide HFK).trans (by rw [hwz]; exact Fr.ofDrewN _ _) (fun _ _ e => e)
                have HKN : Hid (0 + k + 1 + (D.length - k) ≤ 100000 ∧ k ≤ 100000) := hide (by have h1 := unhide HDN; have h2 := unhide HRL; omega)
                obtain ⟨sv1, sv2, hto, hfo, hs1, hs2⟩ := ((unhide HO).kept fz0).parts k (by have := unhide HDN; omega)
                have HTO := hide hto
                have HFO := hide hfo
                have HS1 := hide hs1
                have HS2 := hide hs2
                have HFZ := hide fz0
                clear hto hfo hs1 hs2 fz0 hwz
                refine wp_nameK ?_
                intro a0 hA
                have h3 : a0.tmps.getD 3 undef = .slice (some ⟨gl2, 0, none⟩) dn ac := by rw [hA]; rfl
                have h5 : a0.tmps.getD 5 undef = .pointer (some ⟨x.1, 0, none⟩) := by rw [hA]; rfl
                have h6 : a0.tmps.getD 6 undef = .int .i64 (k : Int) := by rw [hA]; rfl
                have hsz : a0.tmps.size = 89 := by rw [hA]; rfl
                have hdf : a0.defers = [] := by rw [hA]
                have HA0 := hide hA
                clear hA
                refine wp_region_kinds4 (fun j => wz.heap.size ≤ j) (by kernel_rfl) (by kernel_rfl) (by decide +kernel) (by rw [hsz]; decide +kernel) [(.st 0 (fun v W => ∃ b, v = .slice (some ⟨b, 0, none⟩) 0 0 ∧ W.heap[b]? = some (.cells #[] 95 (0, 0)) ∧ wz.heap.size ≤ b) (fun v w1 w2 ⟨b, h1, h2, h3⟩ f => ⟨b, h1, by rw [f.block b (lt_of_heap h2) id]; exact h2, h3⟩)), .eq (.slice (some ⟨gl2, 0, none⟩) dn ac), .eq (.int .i64 (k : Int)), .eq (sv1), (.st 0 (fun v W => W.ownsRow 0 95 1 v (0 + k) ([] ++ pvs (D.take k)) ∧ ∀ j, v.ownBlock = some j → wz.heap.size ≤ j) (fun v w1 w2 ⟨h1, h2⟩ f => ⟨owns_kept h1 f (fun _ _ e => e), h2⟩)), .eq (.pointer (some ⟨x.1, 0, none⟩)), (.st 0 (fun v W => Sr W 1 v 1 [ptr x.1]) (fun v w1 w2 h f => sr_kept h f)), (.st 1 (fun v W => W.ownsRow 0 95 1 v (0 + k + 1) ([] ++ pvs (D.take k) ++ [ptr x.1]) ∧ ∀ j, v.ownBlock = some j → wz.heap.size ≤ j) (fun v w1 w2 ⟨h1, h2⟩ f => ⟨owns_kept h1 f (fun _ _ e => e), h2⟩)), .eq (.slice (some ⟨gl2, 0, none⟩) dn ac), .eq (.int .i64 (k : Int)), .eq (sv2), (.st 2 (fun v W => W.ownsRow 0 95 1 v (0 + k + 1 + (D.length - k)) ([] ++ pvs (D.take k) ++ [ptr x.1] ++ pvs (D.drop k)) ∧ ∀ j, v.ownBlock = some j → wz.heap.size ≤ j) (fun v w1 w2 ⟨h1, h2⟩ f => ⟨owns_kept h1 f (fun _ _ e => e), h2⟩)), (.st 2 (fun v W => W.ownsRow 0 95 1 v (0 + k + 1 + (D.length - k)) ([] ++ pvs (D.take k) ++ [ptr x.1] ++ pvs (D.drop k)) ∧ ∀ j, v.ownBlock = some j → wz.heap.size ≤ j) (fun v w1 w2 ⟨h1, h2⟩ f => ⟨owns_kept h1 f (fun _ _ e => e), h2⟩))] [7, 11] (by decide) (by decide) (twopath (waits (by kernel_rfl))) (fun _ W => Fr (fun _ => False) wz W) (Fr.refl _ _).drew ?steps ?done
                case steps =>
                  refine ⟨?_, ?_⟩
                  · intro a' w' k' hb hf hs hc hq hg hd hu
                    obtain rfl : k' = 0 := Nat.le_zero.1 (hq 0 7 rfl (waits (by kernel_rfl))); have hs : Fr (fun _ => False) wz w' := hs; exact .inl ⟨wantedN rfl, k_new _ (w'.alloc (.cells #[] 95)) (by decide) (hs.trans ((Fr.refl (fun _ => False) _).alloc _) (fun _ _ h => h)) ((Fr.refl _ _).alloc _) (x_bs54 rfl) ⟨Nat.zero_le _, fun _ => ⟨_, rfl, heap_alloc_new _ _, hs.size⟩⟩⟩
                  refine ⟨?_, ?_⟩
                  · intro a' w' k' hb hf hs hc hq hg hd hu
                    exact .inl ⟨wantedN rfl, k_val (.slice (some ⟨gl2, 0, none⟩) dn ac) (by decide) hs (x_move rfl ((hu 12 3 rfl (waits (by kernel_rfl))).trans h3)) rfl⟩
                  refine ⟨?_, ?_⟩
                  · intro a' w' k' hb hf hs hc hq hg hd hu
                    exact .inl ⟨wantedN rfl, k_val (.int .i64 (k : Int)) (by decide) hs (x_move rfl ((hb.old 6 (by decide +kernel)).trans h6)) rfl⟩
                  refine ⟨?_, ?_⟩
                  · intro a' w' k' hb hf hs hc hq hg hd hu
                    exact .inl ⟨wantedN rfl, k_val sv1 (by decide) hs (unhide HTO _ _ _ _ _ rfl (hd 1 (by kernel_rfl) 77 rfl) (hd 2 (by kernel_rfl) 78 rfl)) rfl⟩
                  refine ⟨?_, ?_⟩
                  · intro a' w' k' hb hf hs hc hq hg hd hu
                    obtain rfl : k' = 0 := Nat.le_zero.1 (hq 0 7 rfl (waits (by kernel_rfl))); have hs : Fr (fun _ => False) wz w' := hs; have hh := hd 0 (by kernel_rfl) 76 rfl; obtain ⟨b7, e7, hb7, hn7⟩ := hh.2 rfl; obtain ⟨v9, w9, hr9, ho9, hf9, hn9⟩ := app54_first w' b7 hb7 (sr_kept (unhide HS1) hs) (pvs_one _) (by have := unhide HKN; omega); exact .inl ⟨wantedN rfl, k_new v9 w9 (by decide) (hs.trans hf9 (fun _ _ h => h)) hf9 (x_app54 rfl rfl e7 (hd 3 (by kernel_rfl) 79 rfl) hr9) ⟨Nat.zero_le _, fun _ => ⟨ho9, fun j hj => by rcases hn9 j hj with e | e; rw [e]; exact hn7; exact Nat.le_trans hs.size e⟩⟩⟩
                  refine ⟨?_, ?_⟩
                  · intro a' w' k' hb hf hs hc hq hg hd hu
                    exact .inl ⟨wantedN rfl, k_val (.pointer (some ⟨x.1, 0, none⟩)) (by decide) hs (x_move rfl ((hb.old 5 (by decide +kernel)).trans h5)) rfl⟩
                  refine ⟨?_, ?_⟩
                  · intro a' w' k' hb hf hs hc hq hg hd hu
                    obtain rfl : k' = 0 := Nat.le_zero.1 (hq 0 7 rfl (waits (by kernel_rfl))); have hs : Fr (fun _ => False) wz w' := hs; exact .inl ⟨wantedN rfl, k_new _ (w'.alloc (.cells #[ptr x.1] 95)) (by decide) (hs.trans ((Fr.refl (fun _ => False) _).alloc _) (fun _ _ h => h)) ((Fr.refl _ _).alloc _) (x_bs54p rfl (hd 5 (by kernel_rfl) 81 rfl)) ⟨Nat.zero_le _, fun _ => one_cellV _ _ _⟩⟩
                  refine ⟨?_, ?_⟩
                  · intro a' w' k' hb hf hs hc hq hg hd hu
                    have hs : Fr (fun _ => False) wz w' := hs; obtain rfl := hc 0 rfl; have hh := hd 4 (by kernel_rfl) 80 rfl; obtain ⟨ho7, hb7⟩ := hh.2 rfl; have hh6 := hd 6 (by kernel_rfl) 82 rfl; obtain ⟨v9, w9, hr9, ho9, hg9, hn9⟩ := app54 w' _ ho7 (hh6.2 rfl) (fun u hu => by simp at hu; subst hu; rfl) (by have := unhide HKN; omega); exact .inl ⟨wantedN rfl, k_chain v9 w9 (by decide) (app_st hs hg9 hb7) (app_frN hs hg9 hb7) (x_app54 rfl rfl rfl rfl hr9) ⟨Nat.le_refl _, fun _ => ⟨ho9, app_new hs.size hn9 hb7⟩⟩⟩
                  refine ⟨?_, ?_⟩
                  · intro a' w' k' hb hf hs hc hq hg hd hu
                    exact .inl ⟨wantedN rfl, k_val (.slice (some ⟨gl2, 0, none⟩) dn ac) (by decide) hs (x_move rfl ((hu 12 3 rfl (waits (by kernel_rfl))).trans h3)) rfl⟩
                  refine ⟨?_, ?_⟩
                  · intro a' w' k' hb hf hs hc hq hg hd hu
                    exact .inl ⟨wantedN rfl, k_val (.int .i64 (k : Int)) (by decide) hs (x_move rfl ((hb.old 6 (by decide +kernel)).trans h6)) rfl⟩
                  refine ⟨?_, ?_⟩
                  · intro a' w' k' hb hf hs hc hq hg hd hu
                    exact .inl ⟨wantedN rfl, k_val sv2 (by decide) hs (unhide HFO _ _ _ _ _ rfl (hd 8 (by kernel_rfl) 84 rfl) (hd 9 (by kernel_rfl) 85 rfl)) rfl⟩
                  refine ⟨?_, ?_⟩
                  · intro a' w' k' hb hf hs hc hq hg hd hu
                    have hs : Fr (fun _ => False) wz w' := hs; obtain rfl := hc 1 rfl; have hh := hd 7 (by kernel_rfl) 83 rfl; obtain ⟨ho7, hb7⟩ := hh.2 rfl; obtain ⟨v9, w9, hr9, ho9, hg9, hn9⟩ := app54 w' _ ho7 (sr_kept (unhide HS2) hs) (pvs_one _) (by have := unhide HKN; omega); exact .inl ⟨wantedN rfl, k_chain v9 w9 (by decide) (app_st hs hg9 hb7) (app_frN hs hg9 hb7) (x_app54 rfl rfl rfl (hd 10 (by kernel_rfl) 86 rfl) hr9) ⟨Nat.le_refl _, fun _ => ⟨ho9, app_new hs.size hn9 hb7⟩⟩⟩
                  refine ⟨?_, ?_⟩
                  · intro a' w' k' hb hf hs hc hq hg hd hu
                    have hh := (hd 11 (by kernel_rfl) 87 rfl); exact .inl ⟨wantedN rfl, k_val _ (by decide) hs (x_assign rfl rfl) hh⟩
                  exact trivial
                case done =>
                  intro a' w6 hb hf hs hall
                  have hdf' : a'.defers = [] := by rw [hb.defers]; exact hdf
                  have hS6 : Fr (fun _ => False) wz w6 := hs
                  have h12 := hall 12 (by decide) 3 rfl
                  obtain ⟨ho6, hn6⟩ := h12.2 rfl
                  obtain ⟨v3, hv3⟩ : ∃ v, a'.tmps.getD 3 undef = v := ⟨_, rfl⟩
                  obtain ⟨v76, hv76⟩ : ∃ v, a'.tmps.getD 76 undef = v := ⟨_, rfl⟩
                  obtain ⟨v77, hv77⟩ : ∃ v, a'.tmps.getD 77 undef = v := ⟨_, rfl⟩
                  obtain ⟨v78, hv78⟩ : ∃ v, a'.tmps.getD 78 undef = v := ⟨_, rfl⟩
                  obtain ⟨v79, hv79⟩ : ∃ v, a'.tmps.getD 79 undef = v := ⟨_, rfl⟩
                  obtain ⟨v80, hv80⟩ : ∃ v, a'.tmps.getD 80 undef = v := ⟨_, rfl⟩
                  obtain ⟨v81, hv81⟩ : ∃ v, a'.tmps.getD 81 undef = v := ⟨_, rfl⟩
                  obtain ⟨v82, hv82⟩ : ∃ v, a'.tmps.getD 82 undef = v := ⟨_, rfl⟩
                  obtain ⟨v83, hv83⟩ : ∃ v, a'.tmps.getD 83 undef = v := ⟨_, rfl⟩
                  obtain ⟨v84, hv84⟩ : ∃ v, a'.tmps.getD 84 undef = v := ⟨_, rfl⟩
                  obtain ⟨v85, hv85⟩ : ∃ v, a'.tmps.getD 85 undef = v := ⟨_, rfl⟩
                  obtain ⟨v86, hv86⟩ : ∃ v, a'.tmps.getD 86 undef = v := ⟨_, rfl⟩
                  obtain ⟨v87, hv87⟩ : ∃ v, a'.tmps.getD 87 undef = v := ⟨_, rfl⟩
                  have hfr := frame_eq (a := a') (vs := [.pointer (some ⟨q, 0, none⟩), undef, .slice none 0 0, v3, .int .i64 (i : Int), .pointer (some ⟨x.1, 0, none⟩), .int .i64 (k : Int), a0.tmps.getD 7 undef, a0.tmps.getD 8 undef, a0.tmps.getD 9 undef, a0.tmps.getD 10 undef, a0.tmps.getD 11 undef, a0.tmps.getD 12 undef, a0.tmps.getD 13 undef, a0.tmps.getD 14 undef, a0.tmps.getD 15 undef, a0.tmps.getD 16 undef, a0.tmps.getD 17 undef, a0.tmps.getD 18 undef, a0.tmps.getD 19 undef, a0.tmps.getD 20 undef, a0.tmps.getD 21 undef, a0.tmps.getD 22 undef, a0.tmps.getD 23 undef, a0.tmps.getD 24 undef, a0.tmps.getD 25 undef, a0.tmps.getD 26 undef, a0.tmps.getD 27 undef, a0.tmps.getD 28 undef, a0.tmps.getD 29 undef, a0.tmps.getD 30 undef, a0.tmps.getD 31 undef, a0.tmps.getD 32 undef, a0.tmps.getD 33 undef, a0.tmps.getD 34 undef, a0.tmps.getD 35 undef, a0.tmps.getD 36 undef, a0.tmps.getD 37 undef, a0.tmps.getD 38 undef, a0.tmps.getD 39 undef, a0.tmps.getD 40 undef, a0.tmps.getD 41 undef, a0.tmps.getD 42 undef, a0.tmps.getD 43 undef, a0.tmps.getD 44 undef, a0.tmps.getD 45 undef, a0.tmps.getD 46 undef, a0.tmps.getD 47 undef, a0.tmps.getD 48 undef, a0.tmps.getD 49 undef, a0.tmps.getD 50 undef, a0.tmps.getD 51 undef, a0.tmps.getD 52 undef, a0.tmps.getD 53 undef, a0.tmps.getD 54 undef, a0.tmps.getD 55 undef, a0.tmps.getD 56 undef, a0.tmps.getD 57 undef, a0.tmps.getD 58 undef, a0.tmps.getD 59 undef, a0.tmps.getD 60 undef, a0.tmps.getD 61 undef, a0.tmps.getD 62 undef, a0.tmps.getD 63 undef, a0.tmps.getD 64 undef, a0.tmps.getD 65 undef, a0.tmps.getD 66 undef, a0.tmps.getD 67 undef, a0.tmps.getD 68 undef, a0.tmps.getD 69 undef, a0.tmps.getD 70 undef, a0.tmps.getD 71 undef, a0.tmps.getD 72 undef, a0.tmps.getD 73 undef, a0.tmps.getD 74 undef, a0.tmps.getD 75 undef, v76, v77, v78, v79, v80, v81, v82, v83, v84, v85, v86, v87, undef]) (by rw [hb.size, hsz]; rfl) hdf' ⟨((hb.old 0 (by decide +kernel)).trans (by rw [unhide HA0]; rfl)), ((hb.old 1 (by decide +kernel)).trans (by rw [unhide HA0]; rfl)), ((hb.old 2 (by decide +kernel)).trans (by rw [unhide HA0]; rfl)), hv3, ((hb.old 4 (by decide +kernel)).trans (by rw [unhide HA0]; rfl)), ((hb.old 5 (by decide +kernel)).trans h5), ((hb.old 6 (by decide +kernel)).trans h6), (hb.old 7 (by decide +kernel)), (hb.old 8 (by decide +kernel)), (hb.old 9 (by decide +kernel)), (hb.old 10 (by decide +kernel)), (hb.old 11 (by decide +kernel)), (hb.old 12 (by decide +kernel)), (hb.old 13 (by decide +kernel)), (hb.old 14 (by decide +kernel)), (hb.old 15 (by decide +kernel)), (hb.old 16 (by decide +kernel)), (hb.old 17 (by decide +kernel)), (hb.old 18 (by decide +kernel)), (hb.old 19 (by decide +kernel)), (hb.old 20 (by decide +kernel)), (hb.old 21 (by decide +kernel)), (hb.old 22 (by decide +kernel)), (hb.old 23 (by decide +kernel)), (hb.old 24 (by decide +kernel)), (hb.old 25 (by decide +kernel)), (hb.old 26 (by decide +kernel)), (hb.old 27 (by decide +kernel)), (hb.old 28 (by decide +kernel)), (hb.old 29 (by decide +kernel)), (hb.old 30 (by decide +kernel)), (hb.old 31 (by decide +kernel)), (hb.old 32 (by decide +kernel)), (hb.old 33 (by decide +kernel)), (hb.old 34 (by decide +kernel)), (hb.old 35 (by decide +kernel)), (hb.old 36 (by decide +kernel)), (hb.old 37 (by decide +kernel)), (hb.old 38 (by decide +kernel)), (hb.old 39 (by decide +kernel)), (hb.old 40 (by decide +kernel)), (hb.old 41 (by decide +kernel)), (hb.old 42 (by decide +kernel)), (hb.old 43 (by decide +kernel)), (hb.old 44 (by decide +kernel)), (hb.old 45 (by decide +kernel)), (hb.old 46 (by decide +kernel)), (hb.old 47 (by decide +kernel)), (hb.old 48 (by decide +kernel)), (hb.old 49 (by decide +kernel)), (hb.old 50 (by decide +kernel)), (hb.old 51 (by decide +kernel)), (hb.old 52 (by decide +kernel)), (hb.old 53 (by decide +kernel)), (hb.old 54 (by decide +kernel)), (hb.old 55 (by decide +kernel)), (hb.old 56 (by decide +kernel)), (hb.old 57 (by decide +kernel)), (hb.old 58 (by decide +kernel)), (hb.old 59 (by decide +kernel)), (hb.old 60 (by decide +kernel)), (hb.old 61 (by decide +kernel)), (hb.old 62 (by decide +kernel)), (hb.old 63 (by decide +kernel)), (hb.old 64 (by decide +kernel)), (hb.old 65 (by decide +kernel)), (hb.old 66 (by decide +kernel)), (hb.old 67 (by decide +kernel)), (hb.old 68 (by decide +kernel)), (hb.old 69 (by decide +kernel)), (hb.old 70 (by decide +kernel)), (hb.old 71 (by decide +kernel)), (hb.old 72 (by decide +kernel)), (hb.old 73 (by decide +kernel)), (hb.old 74 (by decide +kernel)), (hb.old 75 (by decide +kernel)), hv76, hv77, hv78, hv79, hv80, hv81, hv82, hv83, hv84, hv85, hv86, hv87, ((hb.old 88 (by decide +kernel)).trans (by rw [unhide HA0]; rfl)), trivial⟩
                  rw [hv3] at ho6 hn6
                  have HO6 := hide ho6
                  have HN6 := hide hn6
                  have HF6 := hide hS6
                  clear hall hb hf hs h12 hS6 hv3 ho6 hn6 hv76 hv77 hv78 hv79 hv80 hv81 hv82 hv83 hv84 hv85 hv86 hv87
                  subst hfr
                  clear HA0 h3 h5 h6 hsz hdf hdf'
                  apply_assumption
                  obtain ⟨h1, h2⟩ := take_ins (p := x) (D := D) (k := k) (by have := unhide HDN; omega) (unhide HNO) (unhide HLF)
                  have hD2 : D.take k ++ x :: D.drop k = insP x D := by unfold insP; rw [h1, h2]
                  have hlen : 0 + k + 1 + (D.length - k) = (insP x D).length := by rw [← hD2]; simp; have := unhide HDN; omega
                  obtain ⟨ao3, c3, rfl⟩ := owns_shape (unhide HO6)
                  have HO7 : Hid (OutV w6 (.slice ao3 (0 + k + 1 + (D.length - k)) c3) (insP x D)) := hide (OutV.of (by
                    have h := unhide HO6
                    have hp : pvs (insP x D) = [] ++ pvs (D.take k) ++ [ptr x.1] ++ pvs (D.drop k) := by rw [← hD2]; simp [pvs]
                    rw [hlen] at h ⊢
                    rw [hp]
                    exact h) (by rw [← hD2]; simp; omega))
                  have HN7 : Hid (∀ b, (Value.slice ao3 (0 + k + 1 + (D.length - k)) c3).ownBlock = some b → w.heap.size ≤ b ∧ knd w6 b = 95) := hide (fun b hb => ⟨by have h1 := unhide HN6 b hb; have h2 := (unhide HF).size; have h3 := (unhide HFZ).size; omega, knd_owns (unhide HO6) hb⟩)
                  have HL7 := hide hlen
                  obtain ⟨d7, hd7⟩ : ∃ d7, d7 = 0 + k + 1 + (D.length - k) := ⟨_, rfl⟩
                  rw [← hd7] at HO7 HN7 HL7 ⊢
                  clear hd7 h1 h2 hD2 hlen HO6 HN6
                  go_wp2_with fail
                  go_roundw
                  case rel => exact ⟨i + 1, ao3, d7, c3, by omega, by go_num, rfl, by rw [unhide HRS]; exact unhide HL7, by rw [unhide HRS]; exact unhide HO7, unhide HN7, ((unhide HF).trans (unhide HFZ) (fun _ _ e => e)).trans (unhide HF6) (fun _ _ e => e)⟩
                  case measure => simp [intOf]; omega
          · have hke : dn = k := by omega
            have HLF : Hid (∀ y, D[k]? = some y → ltB y x = false) := hide (fun z hz => by
              have h1 := (List.getElem?_eq_some_iff.1 hz).1
              have h2 := unhide HDN
              omega)
            have HKE := hide hke
            have qk : decide (k < dn) = false := by simpa using hkl
            clear fk hke hkl
            go_wp2_with fail
            go_quiet (fail)
            go_wp2_with fail
            refine wp_world ?_
            intro wz hwz
            have fz0 : Fr (fun _ => False) w0 wz := (unhide HFK).trans (by rw [hwz]; exact Fr.ofDrewN _ _) (fun _ _ e => e)
            have HKN : Hid (0 + k + 1 + (D.length - k) ≤ 100000 ∧ k ≤ 100000) := hide (by have h1 := unhide HDN; have h2 := unhide HRL; omega)
            obtain ⟨sv1, sv2, hto, hfo, hs1, hs2⟩ := ((unhide HO).kept fz0).parts k (by have := unhide HDN; omega)
            have HTO := hide hto
            have HFO := hide hfo
            have HS1 := hide hs1
            have HS2 := hide hs2
            have HFZ := hide fz0
            clear hto hfo hs1 hs2 fz0 hwz
            refine wp_nameK ?_
            intro a0 hA
            have h3 : a0.tmps.getD 3 undef = .slice ao dn ac := by rw [hA]; rfl
            have h5 : a0.tmps.getD 5 undef = .pointer (some ⟨x.1, 0, none⟩) := by rw [hA]; rfl
            have h6 : a0.tmps.getD 6 undef = .int .i64 (k : Int) := by rw [hA]; rfl
            have hsz : a0.tmps.size = 89 := by rw [hA]; rfl
            have hdf : a0.defers = [] := by rw [hA]
            have HA0 := hide hA
            clear hA
            refine wp_region_kinds4 (fun j => wz.heap.size ≤ j) (by kernel_rfl) (by kernel_rfl) (by decide +kernel) (by rw [hsz]; decide +kernel) [(.st 0 (fun v W => ∃ b, v = .slice (some ⟨b, 0, none⟩) 0 0 ∧ W.heap[b]? = some (.cells #[] 95 (0, 0)) ∧ wz.heap.size ≤ b) (fun v w1 w2 ⟨b, h1, h2, h3⟩ f => ⟨b, h1, by rw [f.block b (lt_of_heap h2) id]; exact h2, h3⟩)), .eq (.slice ao dn ac), .eq (.int .i64 (k : Int)), .eq (sv1), (.st 0 (fun v W => W.ownsRow 0 95 1 v (0 + k) ([] ++ pvs (D.take k)) ∧ ∀ j, v.ownBlock = some j → wz.heap.size ≤ j) (fun v w1 w2 ⟨h1, h2⟩ f => ⟨owns_kept h1 f (fun _ _ e => e), h2⟩)), .eq (.pointer (some ⟨x.1, 0, none⟩)), (.st 0 (fun v W => Sr W 1 v 1 [ptr x.1]) (fun v w1 w2 h f => sr_kept h f)), (.st 1 (fun v W => W.ownsRow 0 95 1 v (0 + k + 1) ([] ++ pvs (D.take k) ++ [ptr x.1]) ∧ ∀ j, v.ownBlock = some j → wz.heap.size ≤ j) (fun v w1 w2 ⟨h1, h2⟩ f => ⟨owns_kept h1 f (fun _ _ e => e), h2⟩)), .eq (.slice ao dn ac), .eq (.int .i64 (k : Int)), .eq (sv2), (.st 2 (fun v W => W.ownsRow 0 95 1 v (0 + k + 1 + (D.length - k)) ([] ++ pvs (D.take k) ++ [ptr x.1] ++ pvs (D.drop k)) ∧ ∀ j, v.ownBlock = some j → wz.heap.size ≤ j) (fun v w1 w2 ⟨h1, h2⟩ f => ⟨owns_kept h1 f (fun _ _ e => e), h2⟩)), (.st 2 (fun v W => W.ownsRow 0 95 1 v (0 + k + 1 + (D.length - k)) ([] ++ pvs (D.take k) ++ [ptr x.1] ++ pvs (D.drop k)) ∧ ∀ j, v.ownBlock = some j → wz.heap.size ≤ j) (fun v w1 w2 ⟨h1, h2⟩ f => ⟨owns_kept h1 f (fun _ _ e => e), h2⟩))] [7, 11] (by decide) (by decide) (twopath (waits (by kernel_rfl))) (fun _ W => Fr (fun _ => False) wz W) (Fr.refl _ _).drew ?steps ?done
            case steps =>
              refine ⟨?_, ?_⟩
              · intro a' w' k' hb hf hs hc hq hg hd hu
                obtain rfl : k' = 0 := Nat.le_zero.1 (hq 0 7 rfl (waits (by kernel_rfl))); have hs : Fr (fun _ => False) wz w' := hs; exact .inl ⟨wantedN rfl, k_new _ (w'.alloc (.cells #[] 95)) (by decide) (hs.trans ((Fr.refl (fun _ => False) _).alloc _) (fun _ _ h => h)) ((Fr.refl _ _).alloc _) (x_bs54 rfl) ⟨Nat.zero_le _, fun _ => ⟨_, rfl, heap_alloc_new _ _, hs.size⟩⟩⟩
              refine ⟨?_, ?_⟩
              · intro a' w' k' hb hf hs hc hq hg hd hu
                exact .inl ⟨wantedN rfl, k_val (.slice ao dn ac) (by decide) hs (x_move rfl ((hu 12 3 rfl (waits (by kernel_rfl))).trans h3)) rfl⟩
              refine ⟨?_, ?_⟩
              · intro a' w' k' hb hf hs hc hq hg hd hu
                exact .inl ⟨wantedN rfl, k_val (.int .i64 (k : Int)) (by decide) hs (x_move rfl ((hb.old 6 (by decide +kernel)).trans h6)) rfl⟩
              refine ⟨?_, ?_⟩
              · intro a' w' k' hb hf hs hc hq hg hd hu
                exact .inl ⟨wantedN rfl, k_val sv1 (by decide) hs (unhide HTO _ _ _ _ _ rfl (hd 1 (by kernel_rfl) 77 rfl) (hd 2 (by kernel_rfl) 78 rfl)) rfl⟩
              refine ⟨?_, ?_⟩
              · intro a' w' k' hb hf hs hc hq hg hd hu
                obtain rfl : k' = 0 := Nat.le_zero.1 (hq 0 7 rfl (waits (by kernel_rfl))); have hs : Fr (fun _ => False) wz w' := hs; have hh := hd 0 (by kernel_rfl) 76 rfl; obtain ⟨b7, e7, hb7, hn7⟩ := hh.2 rfl; obtain ⟨v9, w9, hr9, ho9, hf9, hn9⟩ := app54_first w' b7 hb7 (sr_kept (unhide HS1) hs) (pvs_one _) (by have := unhide HKN; omega); exact .inl ⟨wantedN rfl, k_new v9 w9 (by decide) (hs.trans hf9 (fun _ _ h => h)) hf9 (x_app54 rfl rfl e7 (hd 3 (by kernel_rfl) 79 rfl) hr9) ⟨Nat.zero_le _, fun _ => ⟨ho9, fun j hj => by rcases hn9 j hj with e | e; rw [e]; exact hn7; exact Nat.le_trans hs.size e⟩⟩⟩
              refine ⟨?_, ?_⟩
              · intro a' w' k' hb hf hs hc hq hg hd hu
                exact .inl ⟨wantedN rfl, k_val (.pointer (some ⟨x.1, 0, none⟩)) (by decide) hs (x_move rfl ((hb.old 5 (by decide +kernel)).trans h5)) rfl⟩
              refine ⟨?_, ?_⟩
              · intro a' w' k' hb hf hs hc hq hg hd hu
                obtain rfl : k' = 0 := Nat.le_zero.1 (hq 0 7 rfl (waits (by kernel_rfl))); have hs : Fr (fun _ => False) wz w' := hs; exact .inl ⟨wantedN rfl, k_new _ (w'.alloc (.cells #[ptr x.1] 95)) (by decide) (hs.trans ((Fr.refl (fun _ => False) _).alloc _) (fun _ _ h => h)) ((Fr.refl _ _).alloc _) (x_bs54p rfl (hd 5 (by kernel_rfl) 81 rfl)) ⟨Nat.zero_le _, fun _ => one_cellV _ _ _⟩⟩
              refine ⟨?_, ?_⟩
              · intro a' w' k' hb hf hs hc hq hg hd hu
                have hs : Fr (fun _ => False) wz w' := hs; obtain rfl := hc 0 rfl; have hh := hd 4 (by kernel_rfl) 80 rfl; obtain ⟨ho7, hb7⟩ := hh.2 rfl; have hh6 := hd 6 (by kernel_rfl) 82 rfl; obtain ⟨v9, w9, hr9, ho9, hg9, hn9⟩ := app54 w' _ ho7 (hh6.2 rfl) (fun u hu => by simp at hu; subst hu; rfl) (by have := unhide HKN; omega); exact .inl ⟨wantedN rfl, k_chain v9 w9 (by decide) (app_st hs hg9 hb7) (app_frN hs hg9 hb7) (x_app54 rfl rfl rfl rfl hr9) ⟨Nat.le_refl _, fun _ => ⟨ho9, app_new hs.size hn9 hb7⟩⟩⟩
              refine ⟨?_, ?_⟩
              · intro a' w' k' hb hf hs hc hq hg hd hu
                exact .inl ⟨wantedN rfl, k_val (.slice ao dn ac) (by decide) hs (x_move rfl ((hu 12 3 rfl (waits (by kernel_rfl))).trans h3)) rfl⟩
              refine ⟨?_, ?_⟩
              · intro a' w' k' hb hf hs hc hq hg hd hu
                exact .inl ⟨wantedN rfl, k_val (.int .i64 (k : Int)) (by decide) hs (x_move rfl ((hb.old 6 (by decide +kernel)).trans h6)) rfl⟩
              refine ⟨?_, ?_⟩
              · intro a' w' k' hb hf hs hc hq hg hd hu
                exact .inl ⟨wantedN rfl, k_val sv2 (by decide) hs (unhide HFO _ _ _ _ _ rfl (hd 8 (by kernel_rfl) 84 rfl) (hd 9 (by kernel_rfl) 85 rfl)) rfl⟩
              refine ⟨?_, ?_⟩
              · intro a' w' k' hb hf hs hc hq hg hd hu
                have hs : Fr (fun _ => False) wz w' := hs; obtain rfl := hc 1 rfl; have hh := hd 7 (by kernel_rfl) 83 rfl; obtain ⟨ho7, hb7⟩ := hh.2 rfl; obtain ⟨v9, w9, hr9, ho9, hg9, hn9⟩ := app54 w' _ ho7 (sr_kept (unhide HS2) hs) (pvs_one _) (by have := unhide HKN; omega); exact .inl ⟨wantedN rfl, k_chain v9 w9 (by decide) (app_st hs hg9 hb7) (app_frN hs hg9 hb7) (x_app54 rfl rfl rfl (hd 10 (by kernel_rfl) 86 rfl) hr9) ⟨Nat.le_refl _, fun _ => ⟨ho9, app_new hs.size hn9 hb7⟩⟩⟩
              refine ⟨?_, ?_⟩
              · intro a' w' k' hb hf hs hc hq hg hd hu
                have hh := (hd 11 (by kernel_rfl) 87 rfl); exact .inl ⟨wantedN rfl, k_val _ (by decide) hs (x_assign rfl rfl) hh⟩
              exact trivial
            case done =>
              intro a' w6 hb hf hs hall
              have hdf' : a'.defers = [] := by rw [hb.defers]; exact hdf
              have hS6 : Fr (fun _ => False) wz w6 := hs
              have h12 := hall 12 (by decide) 3 rfl
              obtain ⟨ho6, hn6⟩ := h12.2 rfl
              obtain ⟨v3, hv3⟩ : ∃ v, a'.tmps.getD 3 undef = v := ⟨_, rfl⟩
              obtain ⟨v76, hv76⟩ : ∃ v, a'.tmps.getD 76 undef = v := ⟨_, rfl⟩
              obtain ⟨v77, hv77⟩ : ∃ v, a'.tmps.getD 77 undef = v := ⟨_, rfl⟩
              obtain ⟨v78, hv78⟩ : ∃ v, a'.tmps.getD 78 undef = v := ⟨_, rfl⟩
              obtain ⟨v79, hv79⟩ : ∃ v, a'.tmps.getD 79 undef = v := ⟨_, rfl⟩
              obtain ⟨v80, hv80⟩ : ∃ v, a'.tmps.getD 80 undef = v := ⟨_, rfl⟩
              obtain ⟨v81, hv81⟩ : ∃ v, a'.tmps.getD 81 undef = v := ⟨_, rfl⟩
              obtain ⟨v82, hv82⟩ : ∃ v, a'.tmps.getD 82 undef = v := ⟨_, rfl⟩
              obtain ⟨v83, hv83⟩ : ∃ v, a'.tmps.getD 83 undef = v := ⟨_, rfl⟩
              obtain ⟨v84, hv84⟩ : ∃ v, a'.tmps.getD 84 undef = v := ⟨_, rfl⟩
              obtain ⟨v85, hv85⟩ : ∃ v, a'.tmps.getD 85 undef = v := ⟨_, rfl⟩
              obtain ⟨v86, hv86⟩ : ∃ v, a'.tmps.getD 86 undef = v := ⟨_, rfl⟩
              obtain ⟨v87, hv87⟩ : ∃ v, a'.tmps.getD 87 undef = v := ⟨_, rfl⟩
              have hfr := frame_eq (a := a') (vs := [.pointer (some ⟨q, 0, none⟩), undef, .slice none 0 0, v3, .int .i64 (i : Int), .pointer (some ⟨x.1, 0, none⟩), .int .i64 (k : Int), a0.tmps.getD 7 undef, a0.tmps.getD 8 undef, a0.tmps.getD 9 undef, a0.tmps.getD 10 undef, a0.tmps.getD 11 undef, a0.tmps.getD 12 undef, a0.tmps.getD 13 undef, a0.tmps.getD 14 undef, a0.tmps.getD 15 undef, a0.tmps.getD 16 undef, a0.tmps.getD 17 undef, a0.tmps.getD 18 undef, a0.tmps.getD 19 undef, a0.tmps.getD 20 undef, a0.tmps.getD 21 undef, a0.tmps.getD 22 undef, a0.tmps.getD 23 undef, a0.tmps.getD 24 undef, a0.tmps.getD 25 undef, a0.tmps.getD 26 undef, a0.tmps.getD 27 undef, a0.tmps.getD 28 undef, a0.tmps.getD 29 undef, a0.tmps.getD 30 undef, a0.tmps.getD 31 undef, a0.tmps.getD 32 undef, a0.tmps.getD 33 undef, a0.tmps.getD 34 undef, a0.tmps.getD 35 undef, a0.tmps.getD 36 undef, a0.tmps.getD 37 undef, a0.tmps.getD 38 undef, a0.tmps.getD 39 undef, a0.tmps.getD 40 undef, a0.tmps.getD 41 undef, a0.tmps.getD 42 undef, a0.tmps.getD 43 undef, a0.tmps.getD 44 undef, a0.tmps.getD 45 undef, a0.tmps.getD 46 undef, a0.tmps.getD 47 undef, a0.tmps.getD 48 undef, a0.tmps.getD 49 undef, a0.tmps.getD 50 undef, a0.tmps.getD 51 undef, a0.tmps.getD 52 undef, a0.tmps.getD 53 undef, a0.tmps.getD 54 undef, a0.tmps.getD 55 undef, a0.tmps.getD 56 undef, a0.tmps.getD 57 undef, a0.tmps.getD 58 undef, a0.tmps.getD 59 undef, a0.tmps.getD 60 undef, a0.tmps.getD 61 undef, a0.tmps.getD 62 undef, a0.tmps.getD 63 undef, a0.tmps.getD 64 undef, a0.tmps.getD 65 undef, a0.tmps.getD 66 undef, a0.tmps.getD 67 undef, a0.tmps.getD 68 undef, a0.tmps.getD 69 undef, a0.tmps.getD 70 undef, a0.tmps.getD 71 undef, a0.tmps.getD 72 undef, a0.tmps.getD 73 undef, a0.tmps.getD 74 undef, a0.tmps.getD 75 undef, v76, v77, v78, v79, v80, v81, v82, v83, v84, v85, v86, v87, undef]) (by rw [hb.size, hsz]; rfl) hdf' ⟨((hb.old 0 (by decide +kernel)).trans (by rw [unhide HA0]; rfl)), ((hb.old 1 (by decide +kernel)).trans (by rw [unhide HA0]; rfl)), ((hb.old 2 (by decide +kernel)).trans (by rw [unhide HA0]; rfl)), hv3, ((hb.old 4 (by decide +kernel)).trans (by rw [unhide HA0]; rfl)), ((hb.old 5 (by decide +kernel)).trans h5), ((hb.old 6 (by decide +kernel)).trans h6), (hb.old 7 (by decide +kernel)), (hb.old 8 (by decide +kernel)), (hb.old 9 (by decide +kernel)), (hb.old 10 (by decide +kernel)), (hb.old 11 (by decide +kernel)), (hb.old 12 (by decide +kernel)), (hb.old 13 (by decide +kernel)), (hb.old 14 (by decide +kernel)), (hb.old 15 (by decide +kernel)), (hb.old 16 (by decide +kernel)), (hb.old 17 (by decide +kernel)), (hb.old 18 (by decide +kernel)), (hb.old 19 (by decide +kernel)), (hb.old 20 (by decide +kernel)), (hb.old 21 (by decide +kernel)), (hb.old 22 (by decide +kernel)), (hb.old 23 (by decide +kernel)), (hb.old 24 (by decide +kernel)), (hb.old 25 (by decide +kernel)), (hb.old 26 (by decide +kernel)), (hb.old 27 (by decide +kernel)), (hb.old 28 (by decide +kernel)), (hb.old 29 (by decide +kernel)), (hb.old 30 (by decide +kernel)), (hb.old 31 (by decide +kernel)), (hb.old 32 (by decide +kernel)), (hb.old 33 (by decide +kernel)), (hb.old 34 (by decide +kernel)), (hb.old 35 (by decide +kernel)), (hb.old 36 (by decide +kernel)), (hb.old 37 (by decide +kernel)), (hb.old 38 (by decide +kernel)), (hb.old 39 (by decide +kernel)), (hb.old 40 (by decide +kernel)), (hb.old 41 (by decide +kernel)), (hb.old 42 (by decide +kernel)), (hb.old 43 (by decide +kernel)), (hb.old 44 (by decide +kernel)), (hb.old 45 (by decide +kernel)), (hb.old 46 (by decide +kernel)), (hb.old 47 (by decide +kernel)), (hb.old 48 (by decide +kernel)), (hb.old 49 (by decide +kernel)), (hb.old 50 (by decide +kernel)), (hb.old 51 (by decide +kernel)), (hb.old 52 (by decide +kernel)), (hb.old 53 (by decide +kernel)), (hb.old 54 (by decide +kernel)), (hb.old 55 (by decide +kernel)), (hb.old 56 (by decide +kernel)), (hb.old 57 (by decide +kernel)), (hb.old 58 (by decide +kernel)), (hb.old 59 (by decide +kernel)), (hb.old 60 (by decide +kernel)), (hb.old 61 (by decide +kernel)), (hb.old 62 (by decide +kernel)), (hb.old 63 (by decide +kernel)), (hb.old 64 (by decide +kernel)), (hb.old 65 (by decide +kernel)), (hb.old 66 (by decide +kernel)), (hb.old 67 (by decide +kernel)), (hb.old 68 (by decide +kernel)), (hb.old 69 (by decide +kernel)), (hb.old 70 (by decide +kernel)), (hb.old 71 (by decide +kernel)), (hb.old 72 (by decide +kernel)), (hb.old 73 (by decide +kernel)), (hb.old 74 (by decide +kernel)), (hb.old 75 (by decide +kernel)), hv76, hv77, hv78, hv79, hv80, hv81, hv82, hv83, hv84, hv85, hv86, hv87, ((hb.old 88 (by decide +kernel)).trans (by rw [unhide HA0]; rfl)), trivial⟩
              rw [hv3] at ho6 hn6
              have HO6 := hide ho6
              have HN6 := hide hn6
              have HF6 := hide hS6
              clear hall hb hf hs h12 hS6 hv3 ho6 hn6 hv76 hv77 hv78 hv79 hv80 hv81 hv82 hv83 hv84 hv85 hv86 hv87
              subst hfr
              clear HA0 h3 h5 h6 hsz hdf hdf'
              apply_assumption
              obtain ⟨h1, h2⟩ := take_ins (p := x) (D := D) (k := k) (by have := unhide HDN; omega) (unhide HNO) (unhide HLF)
              have hD2 : D.take k ++ x :: D.drop k = insP x D := by unfold insP; rw [h1, h2]
              have hlen : 0 + k + 1 + (D.length - k) = (insP x D).length := by rw [← hD2]; simp; have := unhide HDN; omega
              obtain ⟨ao3, c3, rfl⟩ := owns_shape (unhide HO6)
              have HO7 : Hid (OutV w6 (.slice ao3 (0 + k + 1 + (D.length - k)) c3) (insP x D)) := hide (OutV.of (by
                have h := unhide HO6
                have hp : pvs (insP x D) = [] ++ pvs (D.take k) ++ [ptr x.1] ++ pvs (D.drop k) := by rw [← hD2]; simp [pvs]
                rw [hlen] at h ⊢
                rw [hp]
                exact h) (by rw [← hD2]; simp; omega))
              have HN7 : Hid (∀ b, (Value.slice ao3 (0 + k + 1 + (D.length - k)) c3).ownBlock = some b → w.heap.size ≤ b ∧ knd w6 b = 95) := hide (fun b hb => ⟨by have h1 := unhide HN6 b hb; have h2 := (unhide HF).size; have h3 := (unhide HFZ).size; omega, knd_owns (unhide HO6) hb⟩)
              have HL7 := hide hlen
              obtain ⟨d7, hd7⟩ : ∃ d7, d7 = 0 + k + 1 + (D.length - k) := ⟨_, rfl⟩
              rw [← hd7] at HO7 HN7 HL7 ⊢
              clear hd7 h1 h2 hD2 hlen HO6 HN6
              go_wp2_with fail
              go_roundw
              case rel => exact ⟨i + 1, ao3, d7, c3, by omega, by go_num, rfl, by rw [unhide HRS]; exact unhide HL7, by rw [unhide HRS]; exact unhide HO7, unhide HN7, ((unhide HF).trans (unhide HFZ) (fun _ _ e => e)).trans (unhide HF6) (fun _ _ e => e)⟩
              case measure => simp [intOf]; omega
    · have hie : N = i := by omega
      have HLS : Hid (risn (R.take i) = srtP (dty R)) := hide (by rw [← hie, unhide HN, List.take_length]; exact unhide HSR)
      subst hie
      clear c2 hf hDr hO hnew hdn
      go_wp2_with fail
      go_ret
      exact ⟨⟨_, rfl, by rw [← unhide HLS]; exact unhide HO, unhide HNW⟩, unhide HF⟩
end
end Go.Proofs.Ytdgmlopaeonacaa
