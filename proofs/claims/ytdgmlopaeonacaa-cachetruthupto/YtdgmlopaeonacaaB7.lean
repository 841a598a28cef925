/-
  The cache's Held and New; the home is made.
-/
import Derived.Test.YtdgmlopaeonacaaB6
namespace Go.Proofs.Ytdgmlopaeonacaa
open Go.RowKit
set_option linter.unusedVariables false

attribute [local go_sem ↓] Go.wp_at_zero Go.wp_at_succ

def blk (R : List (Nat × Pl)) : List Int := R.map fun q => q.2.b

section
variable (w : World) (p h r u : Nat) (L : List (Int × Nat)) (R : List (Nat × Pl)) (c : Ca)

set_option maxRecDepth 100000 in
set_option maxHeartbeats 1000000 in
theorem held_any (hRl : R.length ≤ 1000000) (H : KAt w p h r u L R c) : Calls Try.prog 18 #[ptr p] w fun e w' => (∃ ao cc, e = .returned (.slice ao R.length cc) ∧ RdV w' (.slice ao R.length cc) ((blk R).map (Value.int .i64))) ∧ Fr (fun _ => False) w w' := by
  have HN := hide (none_any w p h r u L R c H)
  have c3 := cell_of_heap H.heap 3
  simp at c3
  obtain ⟨o0, hu⟩ := H.ring.start
  have u1 := hu.c1
  have HK := hide H
  have HND := hide H.ring.nd
  obtain ⟨a0, ha0⟩ : ∃ a, a = hd u R := ⟨_, rfl⟩
  rw [← ha0] at u1
  have HA0 := hide ha0
  have HU := hide hu
  obtain ⟨inf, hi0, hz0, hz1, hz2⟩ := info_parts Try.info3
  clear H ha0 hu
  unfold ptr at *
  go_enter Try.func18, Try.ntmps18
  go_wp2_with fail
  refine (unhide HN).mono ?_
  rintro e w' ⟨rfl, rfl⟩
  go_wp2_with fail
  go_loopw [4, 3] (fun x y W => ∃ R1 R2 a ao N ac, R = R1 ++ R2 ∧ a = hd u R2 ∧ x = .pointer (some ⟨a, 0, none⟩) ∧ y = .slice ao N ac ∧ N = R1.length ∧ W.ownsRow 0 3 1 (.slice ao N ac) N (ivs (blk R1)) ∧ (∀ b, (Value.slice ao N ac).ownBlock = some b → w.heap.size ≤ b) ∧ Fr (fun _ => False) w W) (fun x _ _ => posOf R x)
  case atStart => exact ⟨[], R, a0, none, 0, 0, rfl, unhide HA0, rfl, rfl, rfl, owns_nilE _ 3, fun b hb => by simp [Value.ownBlock] at hb, Fr.refl _ _⟩
  case round =>
    obtain ⟨R1, R2, a, ao, N, ac, hR, ha, rfl, rfl, hN, hO, hnew, hf⟩ := hrel
    have c3' := (hf.cell (a := ⟨p, 3, none⟩) ((unhide HK).ltB (.inl rfl)) id).trans c3
    have HR := hide hR
    have HNN := hide hN
    have HO := hide hO
    have HNW := hide hnew
    have HF := hide hf
    rcases R2 with _ | ⟨q, R2⟩
    · have ha' : a = u := ha
      subst ha'
      have hsame := neq_same wr a
      clear c3 u1 hR ha hN hO hnew hf
      go_wp2_with fail
      go_ret
      have e : R = R1 := by have := unhide HR; rwa [List.append_nil] at this
      have eN : N = R.length := by rw [e]; exact unhide HNN
      have e2 : (blk R).length = N := by rw [eN]; simp [blk]
      have hO := unhide HO
      rw [← e] at hO
      have hV : RdV wr (.slice ao (ivs (blk R)).length ac) (ivs (blk R)) := by
        refine RdV.of_owns (base := 0) (e := 3) ?_
        rw [ivs_length, e2]
        have h5 := hO
        exact h5
      rw [ivs_length, e2] at hV
      refine ⟨⟨ao, ac, by rw [← eN]; rfl, by rw [← eN]; exact hV⟩, unhide HF⟩
    · have ha' : a = q.1 := ha
      have hau : ¬ q.1 = u := fun e => by
        have := unhide HND
        rw [hR] at this
        exact (List.nodup_cons.1 this).1 (by rw [← e]; simp [adr])
      obtain ⟨o1, hn⟩ := Ring.next (R1 := R1) (R2 := R2) (q := q) (by rw [← hR]; exact (unhide HK).ring)
      have hnN := hn.kept hf id
      have d1 := hnN.c1
      have d2 := hnN.c2
      have HIX : Hid (posOf R (.pointer (some ⟨hd u R2, 0, none⟩)) < posOf R (.pointer (some ⟨q.1, 0, none⟩))) := hide (by rw [hR]; exact pos_next (u := u) (R1 := R1) (R2 := R2) (q := q) (by rw [← hR]; exact unhide HND))
      have hneq := neq_other wr q.1 u hau hnN ((unhide HU).kept hf id)
      obtain ⟨a2, ha2⟩ : ∃ a, a = hd u R2 := ⟨_, rfl⟩
      rw [← ha2] at d1 HIX
      have HA2 := hide ha2
      have hNle : N ≤ 1000000 := by rw [hN]; have := congrArg List.length hR; simp at this; omega
      have hal : q.1 < wr.heap.size := lt_of_heap hnN
      have d1a := ((((Fr.refl (fun _ => False) wr).alloc (.cells #[.int .i64 q.2.b] 3))).cell (a := ⟨q.1, 1, none⟩) hal id).trans d1
      subst ha'
      unfold ptr at *
      obtain ⟨qa, qx⟩ := q
      dsimp only at *
      clear c3 u1 hR ha hN hO hnew hf hn hnN ha2
      go_wp2_with (at_builtin; refine wpList_app rfl (.tmp 26) (.tmp 32) 49 rfl 3 inf _ 1 8 Try.underlying49 hi0 hz0 hz1 hz2 rfl (by decide) (.slice ao N ac) N (ivs (blk R1)) rfl (.slice (some ⟨wr.heap.size, 0, none⟩) 1 1) rfl 1 [.int .i64 qx.b] ((unhide HO).alloc _) (one_cellV wr _ 3) (fun u hu => by simp at hu; subst hu; rfl) (by omega) (by simp only [maxLen]; omega) ?_)
      intro ao4 ac4 w4 o4 g4 p4
      have f4 : Fr (fun k => (Value.slice ao N ac).ownBlock = some k) wr w4 := ((Fr.refl _ _).alloc (.cells #[.int .i64 qx.b] 3)).grown g4 (fun k _ e => e)
      have hF4 : Fr (fun _ => False) w w4 := (unhide HF).trans f4 (fun k hk e => by have := unhide HNW k e; omega)
      have hn4 : ∀ b, (Value.slice ao4 (N + 1) ac4).ownBlock = some b → w.heap.size ≤ b := fun b hb => by
        rcases p4 with e | ⟨k', e, hk'⟩
        · rw [e] at hb; exact unhide HNW b hb
        · rw [e] at hb; simp at hb; have := (unhide HF).size; omega
      have d14 : w4.cell? ⟨qa, 1, none⟩ = some (.pointer (some ⟨a2, 0, none⟩)) := (f4.cell (a := ⟨qa, 1, none⟩) hal (fun e => by
        have h1 := unhide HNW qa e
        have h2 : qa < w.heap.size := (unhide HK).ltB (.inr (.inr (by rw [unhide HR]; simp [adr])))
        omega)).trans d1
      have HO4 : Hid (w4.ownsRow 0 3 1 (.slice ao4 (N + 1) ac4) (N + 1) (ivs (blk (R1 ++ [(qa, qx)])))) := hide (by
        have : ivs (blk (R1 ++ [(qa, qx)])) = ivs (blk R1) ++ [.int .i64 qx.b] := by simp [ivs, blk]
        rw [this]; exact o4)
      have HN4 := hide hn4
      have HF4 := hide hF4
      clear o4 g4 p4 f4 hF4 hn4 d1a
      go_wp2_with fail
      go_roundw
      case rel => exact ⟨R1 ++ [(qa, qx)], R2, a2, ao4, N + 1, ac4, by rw [unhide HR]; simp, unhide HA2, rfl, rfl, by rw [unhide HNN]; simp, unhide HO4, unhide HN4, unhide HF4⟩
      case measure => exact unhide HIX

set_option maxRecDepth 100000 in
theorem new_ok (n : Nat) (hn : 1 ≤ n ∧ n ≤ 4096) : Calls Try.prog 10 #[.iface 25 (ptr h), .int .i64 (n : Int)] w fun e w' => (∃ p r u, e = .returned (.tuple #[ptr p, .int .i64 0]) ∧ KAt w' p h r u [] [] ⟨n, 0, 0, 0⟩ ∧ w.heap.size ≤ p ∧ w.heap.size ≤ r ∧ w.heap.size ≤ u) ∧ Fr (fun _ => False) w w' := by
  have b1 : decide ((n : Int) < 1) = false := by simp; omega
  have b2 : decide ((4096 : Int) < (n : Int)) = false := by simp; omega
  have hmm : (Instr.makeMap 74 none).run Try.prog w = .ok (.map (some w.heap.size)) (w.alloc (.map #[] 0)) := by simp [Instr.makeMap, go_sem]
  obtain ⟨w1, hw1⟩ : ∃ w1, w1 = w.alloc (.map #[] 0) := ⟨_, rfl⟩
  rw [← hw1] at hmm
  have f1 : Fr (fun _ => False) w w1 := by rw [hw1]; exact (Fr.refl _ _).alloc _
  have hm1 : MAt w1 w.heap.size [] := ⟨⟨#[], 0, by rw [hw1]; exact heap_alloc_new w _, rfl⟩, by simp⟩
  have s1 : w1.heap.size = w.heap.size + 1 := by rw [hw1]; simp
  have HS1 := hide s1
  have F1 := hide f1
  have HM1 := hide hm1
  clear hw1 s1 f1 hm1
  unfold ptr
  go_enter Try.func10, Try.ntmps10
  go_wp2_with fail
  refine (newRing_any w1).mono ?_
  rintro e w2 ⟨rfl, hN2, f2⟩
  have HN2 := hide hN2
  have F2 := hide f2
  clear hN2 f2
  unfold ptr
  go_wp2_with fail
  go_ret2
  have fa : Fr (fun _ => False) w2 (w2.alloc (.cells #[.iface 25 (ptr h), .int .i64 (n : Int), .map (some w.heap.size), ptr w1.heap.size, .int .u64 0, .int .i64 0, .int .i64 0] 78)) := (Fr.refl _ _).alloc _
  have h1 := (unhide F1).size
  have h2 := (unhide F2).size
  have h3 := unhide HS1
  refine ⟨⟨w2.heap.size, w.heap.size, w1.heap.size, rfl, ⟨heap_alloc_new w2 _, ⟨⟨fun _ => w1.heap.size, fun _ => w1.heap.size, ?_, rfl, fun k hk => ?_⟩, by simp [adr]⟩, ((unhide HM1).kept (unhide F2) id).kept fa id, List.Perm.refl _, fun q hq => by simp at hq, by simp; omega⟩, by omega, Nat.le_refl _, by omega⟩, ((unhide F1).trans (unhide F2) (fun _ _ h => h)).trans fa (fun _ _ h => h)⟩
  · intro q hq
    simp at hq
    subst hq
    exact (unhide HN2).kept fa id
  · simp [adr] at hk
    exact hk.symm
end
end Go.Proofs.Ytdgmlopaeonacaa
