/-
  The cache's dirtyBlocks, where the sort sorts.
-/
import Derived.Test.YtdgmlopaeonacaaD3
namespace Go.Proofs.Ytdgmlopaeonacaa
open Go.RowKit
set_option linter.unusedVariables false

attribute [local go_sem ↓] Go.wp_at_zero Go.wp_at_succ

theorem Try.info75 : (Try.prog.info? 75).map (fun i => (i.zero, i.size, i.bytes)) = some (some (.pointer none), 1, 8) := by kernel_rfl

/-- How two blocks compare: by First, then by number. -/
def cmP (x y : Nat × Pl) : Int := orI (cm (x.2.first : Int) (y.2.first : Int)) (cm x.2.b y.2.b)
/-- Dirty blocks in their order. -/
def srtP (D : List (Nat × Pl)) : List (Nat × Pl) := D.mergeSort fun x y => !decide (cmP y x < 0)
def dty (R : List (Nat × Pl)) : List (Nat × Pl) := R.filter fun q => q.2.dirty
def pvs (D : List (Nat × Pl)) : List Value := D.map fun q => ptr q.1
theorem pvs_length (D : List (Nat × Pl)) : (pvs D).length = D.length := by simp [pvs]
theorem srtP_perm (D : List (Nat × Pl)) : (srtP D).Perm D := List.mergeSort_perm _ _

/-- What the sort does to a list of blocks. -/
def SortOk : Prop := ∀ (W : World) (v : Value) (N : Nat) (D : List (Nat × Pl)), N = D.length → W.ownsRow 0 75 1 v N (pvs D) → N ≤ 1000000 → (∀ q ∈ D, ∃ o n, NAt W q.1 o n q.2) → (D.map fun q => q.2.b).Nodup →
  Calls Try.prog 59 #[v, .func (.func 60) #[] #[]] W fun e w' => e = .returned (.tuple #[]) ∧ w'.ownsRow 0 75 1 v N (pvs (srtP D)) ∧ Fr (fun k => v.ownBlock = some k) W w'

section
variable (w : World) (p h r u : Nat) (L : List (Int × Nat)) (R : List (Nat × Pl)) (c : Ca)

set_option maxRecDepth 100000 in
set_option maxHeartbeats 1000000 in
theorem dirty_any (hS : SortOk) (hRl : R.length ≤ 1000000) (hbn : (R.map fun q => q.2.b).Nodup) (H : KAt w p h r u L R c) : Calls Try.prog 40 #[ptr p] w fun e w' => (∃ ao cc, e = .returned (.slice ao (dty R).length cc) ∧ RdV w' (.slice ao (dty R).length cc) (pvs (srtP (dty R))) ∧ ∀ b, (Value.slice ao (dty R).length cc).ownBlock = some b → knd w' b = 75 ∧ w.heap.size ≤ b) ∧ Fr (fun _ => False) w w' := by
  have HS := hide hS
  have HBN := hide hbn
  have HN := hide (none_any w p h r u L R c H)
  have c3 := cell_of_heap H.heap 3
  simp at c3
  obtain ⟨o0, hu⟩ := H.ring.start
  have u1 := hu.c1
  have HK := hide H
  have HND := hide H.ring.nd
  obtain ⟨a0, ha0⟩ : ∃ a, a = hd u R := ⟨_, rfl⟩
  rw [← ha0] at u1
  have HA0 := hide ha0
  have HU := hide hu
  obtain ⟨inf, hi0, hz0, hz1, hz2⟩ := info_parts Try.info75
  clear H ha0 hu hS hbn
  unfold ptr at *
  go_enter Try.func40, Try.ntmps40
  go_wp2_with fail
  refine (unhide HN).mono ?_
  rintro e w' ⟨rfl, rfl⟩
  go_wp2_with fail
  go_loopw [4, 3] (fun x y W => ∃ R1 R2 a ao N ac, R = R1 ++ R2 ∧ a = hd u R2 ∧ x = .pointer (some ⟨a, 0, none⟩) ∧ y = .slice ao N ac ∧ N = (dty R1).length ∧ W.ownsRow 0 75 1 (.slice ao N ac) N (pvs (dty R1)) ∧ (∀ b, (Value.slice ao N ac).ownBlock = some b → w.heap.size ≤ b) ∧ Fr (fun _ => False) w W) (fun x _ _ => posOf R x)
  case atStart => exact ⟨[], R, a0, none, 0, 0, rfl, unhide HA0, rfl, rfl, rfl, owns_nilE _ 75, fun b hb => by simp [Value.ownBlock] at hb, Fr.refl _ _⟩
  case round =>
    obtain ⟨R1, R2, a, ao, N, ac, hR, ha, rfl, rfl, hN, hO, hnew, hf⟩ := hrel
    have c3' := (hf.cell (a := ⟨p, 3, none⟩) ((unhide HK).ltB (.inl rfl)) id).trans c3
    have HR := hide hR
    have HNN := hide hN
    have HO := hide hO
    have HNW := hide hnew
    have HF := hide hf
    rcases R2 with _ | ⟨q, R2⟩
    · have ha' : a = u := ha
      subst ha'
      have hsame := neq_same wr a
      have e : R = R1 := by have := unhide HR; rwa [List.append_nil] at this
      have eN : N = (dty R).length := by rw [e]; exact unhide HNN
      have hO2 := unhide HO
      rw [← e] at hO2
      have hle : N ≤ 1000000 := by rw [eN]; exact Nat.le_trans (List.length_filter_le _ _) hRl
      have hso := unhide HS wr (.slice ao N ac) N (dty R) eN hO2 hle (fun q hq => by
        obtain ⟨o, n, hn⟩ := (unhide HK).at (List.mem_filter.1 hq).1
        exact ⟨_, _, hn.kept hf id⟩) ((List.filter_sublist.map _).nodup (unhide HBN))
      have HSO := hide hso
      have EN := hide eN
      clear c3 u1 hR ha hN hO hnew hf e eN hO2 hle hso
      go_wp2_with fail
      refine (unhide HSO).mono ?_
      rintro e2 w2 ⟨rfl, hO3, f3⟩
      have HO3 := hide hO3
      have F3 := hide f3
      clear hO3 f3
      go_wp2_with fail
      go_ret
      have eN := unhide EN
      have hO := unhide HO3
      have e2 : (pvs (srtP (dty R))).length = N := by rw [pvs_length, (srtP_perm _).length_eq, eN]
      have hV : RdV w2 (.slice ao (pvs (srtP (dty R))).length ac) (pvs (srtP (dty R))) := by
        refine RdV.of_owns (base := 0) (e := 75) ?_
        rw [e2]
        exact hO
      rw [e2] at hV
      refine ⟨⟨ao, ac, by rw [← eN]; rfl, by rw [← eN]; exact hV, fun b hb => ⟨?_, unhide HNW b (by rw [eN]; exact hb)⟩⟩, (unhide HF).trans (unhide F3) (fun k hk e => by have := unhide HNW k e; omega)⟩
      rcases hO.2 with ⟨hv, -⟩ | ⟨g, cap, cur, hv, -, hg, -⟩
      · simp only [Value.slice.injEq] at hv
        rw [hv.1] at hb
        simp [Value.ownBlock] at hb
      · simp only [Value.slice.injEq] at hv
        rw [hv.1] at hb
        have e : g = b := by simpa [Value.ownBlock] using hb
        rw [← e]
        exact knd_cells hg
    · have ha' : a = q.1 := ha
      have hau : ¬ q.1 = u := fun e => by
        have := unhide HND
        rw [hR] at this
        exact (List.nodup_cons.1 this).1 (by rw [← e]; simp [adr])
      obtain ⟨o1, hn⟩ := Ring.next (R1 := R1) (R2 := R2) (q := q) (by rw [← hR]; exact (unhide HK).ring)
      have hnN := hn.kept hf id
      have d1 := hnN.c1
      have d6 := hnN.c6
      have HIX : Hid (posOf R (.pointer (some ⟨hd u R2, 0, none⟩)) < posOf R (.pointer (some ⟨q.1, 0, none⟩))) := hide (by rw [hR]; exact pos_next (u := u) (R1 := R1) (R2 := R2) (q := q) (by rw [← hR]; exact unhide HND))
      have hneq := neq_other wr q.1 u hau hnN ((unhide HU).kept hf id)
      obtain ⟨a2, ha2⟩ : ∃ a, a = hd u R2 := ⟨_, rfl⟩
      rw [← ha2] at d1 HIX
      have HA2 := hide ha2
      have hNle : N ≤ 1000000 := by
        have h1 : N ≤ R1.length := by rw [hN]; exact List.length_filter_le _ _
        have := congrArg List.length hR; simp at this; omega
      have hal : q.1 < wr.heap.size := lt_of_heap hnN
      subst ha'
      unfold ptr at *
      obtain ⟨qa, qx⟩ := q
      dsimp only at *
      cases hdy : qx.dirty with
      | false =>
        have HD := hide hdy
        rw [hdy] at d6
        clear c3 u1 hR ha hN hO hnew hf hn hnN ha2 hdy
        go_wp2_with fail
        go_roundw
        case rel => exact ⟨R1 ++ [(qa, qx)], R2, a2, ao, N, ac, by rw [unhide HR]; simp, unhide HA2, rfl, rfl, by rw [unhide HNN]; simp [dty, unhide HD], by have := unhide HO; simpa [dty, unhide HD] using this, unhide HNW, unhide HF⟩
        case measure => exact unhide HIX
      | true =>
        have HD := hide hdy
        rw [hdy] at d6
        clear c3 u1 hR ha hN hO hnew hf hn hnN ha2 hdy
        go_wp2_with (at_builtin; refine wpList_app rfl (.tmp 30) (.tmp 32) 85 rfl 75 inf _ 1 8 Try.underlying85 hi0 hz0 hz1 hz2 rfl (by decide) (.slice ao N ac) N (pvs (dty R1)) rfl (.slice (some ⟨wr.heap.size, 0, none⟩) 1 1) rfl 1 [.pointer (some ⟨qa, 0, none⟩)] ((unhide HO).alloc _) (one_cellV wr _ 75) (fun u hu => by simp at hu; subst hu; rfl) (by omega) (by simp only [maxLen]; omega) ?_)
        intro ao4 ac4 w4 o4 g4 p4
        have f4 : Fr (fun k => (Value.slice ao N ac).ownBlock = some k) wr w4 := ((Fr.refl _ _).alloc (.cells #[.pointer (some ⟨qa, 0, none⟩)] 75)).grown g4 (fun k _ e => e)
        have hF4 : Fr (fun _ => False) w w4 := (unhide HF).trans f4 (fun k hk e => by have := unhide HNW k e; omega)
        have hn4 : ∀ b, (Value.slice ao4 (N + 1) ac4).ownBlock = some b → w.heap.size ≤ b := fun b hb => by
          rcases p4 with e | ⟨k', e, hk'⟩
          · rw [e] at hb; exact unhide HNW b hb
          · rw [e] at hb; simp at hb; have := (unhide HF).size; omega
        have d14 : w4.cell? ⟨qa, 1, none⟩ = some (.pointer (some ⟨a2, 0, none⟩)) := (f4.cell (a := ⟨qa, 1, none⟩) hal (fun e => by
          have h1 := unhide HNW qa e
          have h2 : qa < w.heap.size := (unhide HK).ltB (.inr (.inr (by rw [unhide HR]; simp [adr])))
          omega)).trans d1
        have HO4 : Hid (w4.ownsRow 0 75 1 (.slice ao4 (N + 1) ac4) (N + 1) (pvs (dty (R1 ++ [(qa, qx)])))) := hide (by
          have : pvs (dty (R1 ++ [(qa, qx)])) = pvs (dty R1) ++ [.pointer (some ⟨qa, 0, none⟩)] := by simp [pvs, dty, unhide HD, ptr]
          rw [this]; exact o4)
        have HN4 := hide hn4
        have HF4 := hide hF4
        clear o4 g4 p4 f4 hF4 hn4
        go_wp2_with fail
        go_roundw
        case rel => exact ⟨R1 ++ [(qa, qx)], R2, a2, ao4, N + 1, ac4, by rw [unhide HR]; simp, unhide HA2, rfl, rfl, by rw [unhide HNN]; simp [dty, unhide HD], unhide HO4, unhide HN4, unhide HF4⟩
        case measure => exact unhide HIX
end
end Go.Proofs.Ytdgmlopaeonacaa
