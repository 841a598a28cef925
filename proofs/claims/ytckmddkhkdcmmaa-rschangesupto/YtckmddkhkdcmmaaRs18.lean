/-
  The walks of the document's Encode and Check.
-/
import Derived.Test.YtckmddkhkdcmmaaMix
import Derived.Test.YtckmddkhkdcmmaaRs17
import Derived.Deep.RegionHeld3
namespace Go.Proofs.Ytckmddkhkdcmmaa
open Go.RowKit
set_option linter.unusedVariables false

attribute [local go_sem ↓] Go.wp_at_zero Go.wp_at_succ

theorem shl_flat {ls : List (List UInt8)} {n : Nat} (hw : ∀ l ∈ ls, l.length = n) (hpos : 0 < ls.length) : shl ls (ls.length : Int) = if n ≤ 4096 then (n, 0) else (0, 1) := by
  have hhd : (ls.headD []).length = n := by
    cases ls with
    | nil => simp at hpos
    | cons a t => exact hw a (List.mem_cons_self ..)
  have ho : oneL ls (ls.length : Int) = (n, true) := by
    unfold oneL
    rw [if_pos ⟨rfl, fun l hl => by rw [hhd]; exact hw l hl⟩, hhd]
  unfold shl
  rw [ho]
  simp

theorem shl_two {ls : List (List UInt8)} {c : Int} (h : (oneL ls c).2 = false) : shl ls c = (0, 2) := by
  unfold shl; rw [h]; rfl
theorem shl_one {ls : List (List UInt8)} {c : Int} (h : (oneL ls c).2 = true) : shl ls c = if (oneL ls c).1 ≤ 4096 then ((oneL ls c).1, 0) else (0, 1) := by
  unfold shl; rw [h]; rfl

theorem oneL_head {ls : List (List UInt8)} {c : Int} (h : (oneL ls c).2 = true) (hp : 0 < ls.length) : (ls.length : Int) = c ∧ (oneL ls c).1 = (ls[0]).length ∧ ∀ l ∈ ls, l.length = (oneL ls c).1 := by
  unfold oneL at h ⊢
  by_cases h1 : (ls.length : Int) = c ∧ ∀ l ∈ ls, l.length = (ls.headD []).length
  · simp only [if_pos h1]
    have e : (ls.headD []).length = (ls[0]).length := by
      cases ls with
      | nil => simp at hp
      | cons a t => rfl
    exact ⟨h1.1, e, h1.2⟩
  · rw [if_neg h1] at h; simp at h

set_option maxHeartbeats 1000000 in
theorem rencode_no (w : World) (p k m : Nat) (v : Value) (ls : List (List UInt8)) (hD : DAt w p k m) (hk : 1 ≤ k ∧ k ≤ 16) (h : RdL w v ls) (hl : ls.length ≤ 100000) (he : (shl ls (k : Int)).2 ≠ 0) :
    Calls Try.prog 46 #[.pointer (some ⟨p, 0, none⟩), v] w fun e w' => e = .returned (.tuple #[.slice none 0 0, .int .i64 (shl ls (k : Int)).2]) ∧ Fr (fun _ => False) w w' := by
  have c0 := cell_of_heap hD 0
  simp at c0
  have HE := hide (even_any w v ls (k : Int) h hl)
  have H := hide h
  obtain ⟨vo, vc, rfl⟩ := h.shape
  clear hD h
  rcases hb : (oneL ls (k : Int)).2 with _ | _
  · rw [hb] at HE
    rw [shl_two hb] at he ⊢
    clear hb
    go_enter Try.func46, Try.ntmps46
    go_wp2_with fail
    refine (unhide HE).mono ?_
    rintro e w' ⟨rfl, f⟩
    go_wp2_with fail
    go_ret2
    exact ⟨rfl, f⟩
  · rw [hb] at HE
    have hone := shl_one hb
    have hpos : 0 < ls.length := by
      unfold oneL at hb
      by_cases h1 : (ls.length : Int) = (k : Int) ∧ ∀ l ∈ ls, l.length = (ls.headD []).length
      · omega
      · rw [if_neg h1] at hb; simp at hb
    obtain ⟨-, hh, -⟩ := oneL_head hb hpos
    have hbig : ¬ (oneL ls (k : Int)).1 ≤ 4096 := by
      intro h4
      rw [hone, if_pos h4] at he
      exact he rfl
    rw [hone, if_neg hbig]
    rw [hh] at hbig
    clear hb hone hh he
    go_enter Try.func46, Try.ntmps46
    go_wp2_with fail
    refine (unhide HE).mono ?_
    rintro e w1 ⟨rfl, f1⟩
    obtain ⟨b, o, xo, xc, rfl, c1, -⟩ := ((unhide H).kept f1).get 0 hpos
    rw [Nat.add_zero] at c1
    generalize (ls[0]'hpos).length = l0 at *
    have b3 : decide ((4096 : Int) < (l0 : Int)) = true := by simp; omega
    have F1 := hide f1
    clear f1
    go_wp2_with fail
    go_ret2
    exact ⟨rfl, unhide F1⟩

set_option maxHeartbeats 8000000 in
set_option maxRecDepth 100000 in
theorem rencode_ok (w : World) (p k m : Nat) (v : Value) (ls : List (List UInt8)) (hD : DAt w p k m) (hk : 1 ≤ k ∧ k ≤ 16) (hm : m ≤ 8) (h : RdL w v ls) (he : (shl ls (k : Int)).2 = 0) :
    Calls Try.prog 46 #[.pointer (some ⟨p, 0, none⟩), v] w fun e w' => (∃ ao ac, e = .returned (.tuple #[.slice ao m ac, .int .i64 0]) ∧ LN w.heap.size w' (.slice ao m ac) (encL k m ls (shl ls (k : Int)).1)) ∧ Fr (fun _ => False) w w' := by
  obtain ⟨hl1, hl2, hl3⟩ := shl_ok he
  have hll : ls.length = k := by omega
  have hplt := lt_of_heap hD
  have c0 := cell_of_heap hD 0
  have c1 := cell_of_heap hD 1
  simp at c0 c1
  have HE := hide (even_any w v ls (k : Int) h (by omega))
  have hb : (oneL ls (k : Int)).2 = true := by
    rcases hb : (oneL ls (k : Int)).2 with _ | _
    · rw [shl_two hb] at he; exact absurd he (by decide)
    · rfl
  rw [hb] at HE
  generalize (shl ls (k : Int)).1 = n at *
  have H := hide h
  have HD := hide hD
  have HW := hide hl2
  have HLL := hide hll
  obtain ⟨vo, vc, rfl⟩ := h.shape
  rw [hll] at H HE ⊢
  have b3 : decide ((4096 : Int) < (n : Int)) = false := by simp; omega
  obtain ⟨inf, hi0, hz0, hz1, hz2⟩ := info_parts Try.info22
  clear hD h hb hl1 hl2 hll he
  go_enter Try.func46, Try.ntmps46
  go_wp2_with fail
  refine (unhide HE).mono ?_
  rintro e w1 ⟨rfl, f1⟩
  obtain ⟨db, dof, xo, xc, rfl, y0, -⟩ := ((unhide H).kept f1).get 0 (by rw [unhide HLL]; omega)
  have hlen0 : (ls[0]'(by rw [unhide HLL]; omega)).length = n := unhide HW _ (List.getElem_mem _)
  rw [hlen0, Nat.add_zero] at y0
  have hdb := World.block_lt_of_cell? w1 _ y0
  simp only at hdb
  have d0 : w1.cell? ⟨p, 0, none⟩ = some (.int .i64 (k : Int)) := by rw [f1.cell (a := ⟨p, 0, none⟩) hplt id]; exact c0
  have d1 : w1.cell? ⟨p, 1, none⟩ = some (.int .i64 (m : Int)) := by rw [f1.cell (a := ⟨p, 1, none⟩) hplt id]; exact c1
  have hp1 : p < w1.heap.size := Nat.lt_of_lt_of_le hplt f1.size
  have HF1 := hide f1
  have hs1 := f1.size
  clear f1 hlen0 HE
  go_wp2_with fail
  go_loopw [6, 7] (fun hx x w' => ∃ i : Nat, i ≤ m ∧ x = .int .i64 (i : Int) ∧ (∃ ao ac, hx = .slice ao i ac ∧ AL w1.heap.size w' (.slice ao i ac) ((encL k m ls n).take i)) ∧ Fr (fun _ => False) w1 w') (fun _ x _ => m - (intOf x).toNat)
  case atStart => exact ⟨0, by omega, rfl, ⟨none, 0, rfl, by simpa using AL.nil w1.heap.size w1⟩, Fr.refl _ _⟩
  case round =>
    obtain ⟨i, hi, rfl, ⟨ao, ac, rfl, hA⟩, hf⟩ := hrel
    have r0 : wr.cell? ⟨p, 0, none⟩ = some (.int .i64 (k : Int)) := by rw [hf.cell (a := ⟨p, 0, none⟩) hp1 id]; exact d0
    have r1 : wr.cell? ⟨p, 1, none⟩ = some (.int .i64 (m : Int)) := by rw [hf.cell (a := ⟨p, 1, none⟩) hp1 id]; exact d1
    have ry : wr.cell? ⟨db, dof, none⟩ = some (.slice xo n xc) := by rw [hf.cell (a := ⟨db, dof, none⟩) hdb id]; exact y0
    by_cases hlt : i < m
    · obtain ⟨ki, hki⟩ : ∃ ki, ki = k + i := ⟨_, rfl⟩
      have eI : (k : Int) + (i : Int) = (ki : Int) := by omega
      have b4 : IntKind.i64.wrap (ki : Int) = (ki : Int) := by rw [IntKind.wrap_i64]; omega
      have hFw := (unhide HF1).trans hf (fun _ _ h => h)
      have HRow := hide (fun W (f : Fr (fun _ => False) wr W) => rRow_ok W p k m ki ((unhide HD).kept (hFw.trans f (fun _ _ h => h)) id) hk hm (by omega))
      have hHr := (unhide H).kept hFw
      have HMix := hide (show ∀ W q2, Fr (fun _ => False) wr W → BAt W q2 (rowL k ki) → Calls Try.prog 96 #[.slice (some ⟨q2, 0, none⟩) k k, .slice (some ⟨db, dof, none⟩) k vc, .int .i64 (n : Int)] W fun e w' => (∃ g, e = .returned (.slice (some ⟨g, 0, none⟩) n n) ∧ wr.heap.size ≤ g ∧ BAt w' g (mixL (co k ki) ls k n)) ∧ Fr (fun _ => False) W w' from by
        intro W q2 f hB
        have hR := hB.rd (by rw [rowL_length]; simp only [maxLen]; omega)
        rw [rowL_length] at hR
        refine (mix_any W _ _ _ ls n hR (hHr.kept f) (by rw [rowL_length, unhide HLL]; omega) (by rw [rowL_length]; omega) (unhide HW) hl3).mono ?_
        rintro e w' ⟨rfl, hB', f'⟩
        rw [rowL_length, mixL_congr (s := co k ki) (fun j hj => by rw [gt_of (by rw [rowL_length]; exact hj), rowL_get])] at hB'
        exact ⟨⟨_, rfl, f.size, hB'⟩, f'⟩)
      obtain ⟨vs, hO, hvl, hrows⟩ := hA.ex
      have hvi : vs.length = i := by rw [hvl, List.length_take, encL_length]; omega
      have HO := hide (show wr.ownsRow 0 22 1 (.slice ao i ac) i vs by rw [hvi] at hO; exact hO)
      have hpr : p < wr.heap.size := Nat.lt_of_lt_of_le hp1 hf.size
      have hdr : db < wr.heap.size := Nat.lt_of_lt_of_le hdb hf.size
      have HS := hide (show ∀ W, Fr (fun _ => False) wr W → W.cell? ⟨p, 0, none⟩ = some (.int .i64 (k : Int)) ∧ W.cell? ⟨db, dof, none⟩ = some (.slice xo n xc) from fun W f => ⟨(f.cell (a := ⟨p, 0, none⟩) hpr id).trans r0, (f.cell (a := ⟨db, dof, none⟩) hdr id).trans ry⟩)
      have hnew := hA.new
      have hsr := hf.size
      have HA := hide hA
      have Hf := hide hf
      have HRO := hide hrows
      have HVI := hide hvi
      have HVL := hide hvl
      have HNW := hide hnew
      have HKI := hide hki
      have hk0 : 0 < k := hk.1
      have hk1 : (0 : Int) < (k : Int) := by omega
      clear hA hf hO hrows hvi hvl hFw hHr hki hnew
      go_wp2_with fail
      go_region_held3 (fun W => W.cell? ⟨p, 0, none⟩ = some (.int .i64 (k : Int)) ∧ W.cell? ⟨db, dof, none⟩ = some (.slice xo n xc)) (go_keep) ((first
        | (go_at_call 42; refine (unhide HRow _ (by first | exact Fr.ofDrewN _ 1 | exact Fr.ofDrewN _ _)).mono ?_; rintro e w2 ⟨⟨q2, rfl, hq2, hB2⟩, f2⟩; have F2 := (Fr.ofDrewN (S := fun _ => False) wr 1).trans f2 (fun _ _ h => h); have s2 := (unhide HS w2 F2).1; have s2' := (unhide HS w2 F2).2)
        | (go_at_call 96; refine (unhide HMix _ _ (by exact F2) (by exact hB2)).mono ?_; rintro e w3 ⟨⟨g3, rfl, hg3, hB3⟩, f3⟩; have F3 := F2.trans f3 (fun _ _ h => h); have s3 := (unhide HS w3 F3).1; have s3' := (unhide HS w3 F3).2; have z3 := F3.size; have p3 : p < w3.heap.size := (by omega); have d3 : db < w3.heap.size := (by omega))
        | (refine step_app rfl (.tmp 28) (.tmp 43) 65 rfl 22 inf _ 1 24 Try.underlying65 hi0 hz0 hz1 hz2 rfl (by decide) (.slice ao i ac) i vs (by rfl) (.slice (some ⟨w3.heap.size, 0, none⟩) 1 1) (by rfl) 1 [.slice (some ⟨g3, 0, none⟩) n n] (by exact (owns_kept (unhide HO) F3 (fun _ _ h => h)).alloc _) (by exact one_cellV w3 _ 22) (fun u hu => by simp at hu; subst hu; rfl) (by omega) (by simp only [maxLen]; omega) ?_; intro ao4 ac4 w4 o4 g4 p4; have f4 : Fr (fun k => (Value.slice ao i ac).ownBlock = some k) w3 w4 := Fr.grown (S := fun k => (Value.slice ao i ac).ownBlock = some k) (w := w3.alloc (Obj.cells #[.slice (some ⟨g3, 0, none⟩) n n] 22)) ((Fr.refl _ _).alloc _) g4 (fun k hk e => e); have s4 := (f4.cell (a := ⟨p, 0, none⟩) p3 (fun e => by have := unhide HNW p e; omega)).trans s3; have s4' := (f4.cell (a := ⟨db, dof, none⟩) d3 (fun e => by have := unhide HNW db e; omega)).trans s3')))
      all_goals
        have hR3 : Rd w3 (.slice (some ⟨g3, 0, none⟩) n n) (mixL (co k ki) ls k n) := by
          have := hB3.rd (by rw [mixL_length]; simp only [maxLen]; omega)
          rwa [mixL_length] at this
        have hAL := AL.app (N := w1.heap.size) (w := w3) (w' := w4) (ao := ao) (n := i) (ac := ac) (ls := (encL k m ls n).take i) vs (by rw [unhide HVI]; exact owns_kept (unhide HO) F3 (fun _ _ h => h)) (unhide HVL) (fun j x l hx hl => ⟨(unhide HRO j x l hx hl).1.kept F3 (fun _ _ h => h), (unhide HRO j x l hx hl).2.kept F3⟩) (unhide HNW) (.slice (some ⟨g3, 0, none⟩) n n) _ hR3 (Wb.of_bat hB3 (by omega)) (by omega) o4 g4 p4
        have HAL := hide hAL.1
        have HF4 := hide ((unhide Hf).trans (F3.trans (T := fun _ => False) (Fr.refl _ _) (fun _ _ h => h)) (fun _ _ h => h))
        have HF5 := hide ((unhide HF4).trans hAL.2 (fun k hk e => by have := unhide HNW k e; omega))
        clear hR3 hAL o4 g4 p4 f4 F2 F3 f2 f3 hB2 hB3 s2 s2' s3 s3' s4 s4' HF4
        go_wp2_with fail
        go_roundw
        case rel => exact ⟨i + 1, by omega, by go_num, ⟨ao4, ac4, rfl, by rw [encL_take k m ls n i hlt, ← unhide HKI]; exact unhide HAL⟩, by first | exact unhide HF5 | exact (unhide HF5).drew⟩
        case measure => simp [intOf]; omega
    · have hie : i = m := by omega
      subst hie
      have HA := hide hA
      have Hf := hide hf
      clear hA hf
      go_wp2_with fail
      go_ret2
      have := (unhide HA).ln
      rw [List.take_of_length_le (by rw [encL_length]; omega)] at this
      exact ⟨⟨_, _, rfl, this.mono hs1⟩, (unhide HF1).trans (unhide Hf) (fun _ _ h => h)⟩

set_option maxHeartbeats 2000000 in
theorem rcheck_no (w : World) (p k m : Nat) (v : Value) (ls : List (List UInt8)) (hD : DAt w p k m) (hk : 1 ≤ k ∧ k ≤ 16) (hm : m ≤ 8) (h : RdL w v ls) (hl : ls.length ≤ 100000) (he : (oneL ls ((k + m : Nat) : Int)).2 = false) :
    Calls Try.prog 50 #[.pointer (some ⟨p, 0, none⟩), v] w fun e w' => e = .returned (.tuple #[.bool false, .int .i64 2]) ∧ Fr (fun _ => False) w w' := by
  have c0 := cell_of_heap hD 0
  have c1 := cell_of_heap hD 1
  simp at c0 c1
  have hplt := lt_of_heap hD
  have HE := hide (fun W (f : Fr (fun _ => False) w W) => even_any W v ls ((k + m : Nat) : Int) (h.kept f) hl)
  rw [he] at HE
  obtain ⟨vo, vc, rfl⟩ := h.shape
  obtain ⟨a, ha⟩ : ∃ a, a = k + m := ⟨_, rfl⟩
  have ea : (k : Int) + (m : Int) = (a : Int) := by omega
  have b4 : IntKind.i64.wrap (a : Int) = (a : Int) := by rw [IntKind.wrap_i64]; omega
  rw [← ha] at HE
  clear hD h ha he
  go_enter Try.func50, Try.ntmps50
  go_wp2_with fail
  go_region_held3 (fun W => W.cell? ⟨p, 0, none⟩ = some (.int .i64 (k : Int)) ∧ W.cell? ⟨p, 1, none⟩ = some (.int .i64 (m : Int))) (go_keep) ((go_at_call 95; refine (unhide HE _ (by first | exact Fr.ofDrewN _ 1 | exact Fr.ofDrewN _ _)).mono ?_; rintro e w2 ⟨rfl, f2⟩; have F2 := (Fr.ofDrewN (S := fun _ => False) w 1).trans f2 (fun _ _ h => h); have s0 := (F2.cell (a := ⟨p, 0, none⟩) hplt id).trans c0; have s1 := (F2.cell (a := ⟨p, 1, none⟩) hplt id).trans c1))
  all_goals
    have HF2 := hide F2
    clear f2 F2 s0 s1
    go_wp2_with fail
    go_ret2
    exact ⟨rfl, by first | exact unhide HF2 | exact (unhide HF2).drew⟩

end Go.Proofs.Ytckmddkhkdcmmaa
