/-
  The cache's Dirty.
-/
import Derived.Test.YtdgmlopaeonacaaD8
namespace Go.Proofs.Ytdgmlopaeonacaa
open Go.RowKit
set_option linter.unusedVariables false

attribute [local go_sem ↓] Go.wp_at_zero Go.wp_at_succ

theorem Try.info58 : (Try.prog.info? 58).map (fun i => (i.zero, i.size, i.bytes)) = some (some (.agg #[.int .i64 0, .int .u64 0, .int .u64 0, .int .i64 0]), 4, 32) := by kernel_rfl
/-- What is told of a dirty block, as cells. -/
def dC (x : Pl) : List Value := [.int .i64 x.b, .int .u64 (x.first : Int), .int .u64 (x.last : Int), .int .i64 x.pins]
def dCs (l : List Pl) : List Value := l.flatMap dC
theorem dCs_app (l : List Pl) (x : Pl) : dCs (l ++ [x]) = dCs l ++ dC x := by simp [dCs]
theorem owns_nil4 (w : World) : w.ownsRow 0 58 4 (.slice none 0 0) 0 [] := World.ownsRow_nil w 0 58 4
theorem four_cells (w : World) (x : Pl) : Sr (w.alloc (.cells #[.int .i64 x.b, .int .u64 (x.first : Int), .int .u64 (x.last : Int), .int .i64 x.pins] 58)) 4 (.slice (some ⟨w.heap.size, 0, none⟩) 1 1) 1 (dC x) := by
  refine .inr ⟨_, _, rfl, rfl, fun j u hu => ?_⟩
  rw [Addr.add_lit, Nat.zero_add, cell_of_heap (heap_alloc_new w _)]
  simpa [dC] using hu

section
variable (w : World) (p h r u : Nat) (L : List (Int × Nat)) (R : List (Nat × Pl)) (c : Ca)

set_option maxRecDepth 100000 in
set_option maxHeartbeats 1000000 in
theorem dirties_any (hRl : R.length ≤ 1000000) (H : KAt w p h r u L R c) : Calls Try.prog 21 #[ptr p] w fun e w' => (∃ ao cc, e = .returned (.slice ao (srtL (R.map Prod.snd)).length cc) ∧ w'.ownsRow 0 58 4 (.slice ao (srtL (R.map Prod.snd)).length cc) (srtL (R.map Prod.snd)).length (dCs (srtL (R.map Prod.snd))) ∧ ∀ b, (Value.slice ao (srtL (R.map Prod.snd)).length cc).ownBlock = some b → w.heap.size ≤ b) ∧ Fr (fun _ => False) w w' := by
  have HDB := hide (dirty_any w p h r u L R c sort_ok hRl H.bn H)
  rw [← srt_map R]
  obtain ⟨S, hS⟩ : ∃ S, S = srtP (dty R) := ⟨_, rfl⟩
  have hSR : ∀ q ∈ S, q ∈ R := fun q hq => by rw [hS] at hq; exact (List.mem_filter.1 ((srtP_perm _).mem_iff.1 hq)).1
  have hSl : S.length = (dty R).length := by rw [hS]; exact (srtP_perm _).length_eq
  have hNR : (dty R).length ≤ R.length := List.length_filter_le _ _
  rw [← hS] at HDB ⊢
  rw [List.length_map, hSl]
  obtain ⟨N, hN⟩ : ∃ N, N = (dty R).length := ⟨_, rfl⟩
  rw [← hN] at HDB hSl hNR ⊢
  have HK := hide H
  have HSR := hide hSR
  have HSL := hide hSl
  have hN6 : N ≤ 1000000 := by omega
  obtain ⟨inf, hi0, hz0, hz1, hz2⟩ := info_parts Try.info58
  clear H hRl hS hSR hSl hNR hN
  unfold ptr at *
  go_enter Try.func21, Try.ntmps21
  go_wp2_with fail
  refine (unhide HDB).mono ?_
  rintro e w1 ⟨⟨ao, cc, rfl, hV, hkb⟩, f1⟩
  have HV := hide hV
  have HKB := hide hkb
  have F1 := hide f1
  clear hV hkb f1 HDB
  go_wp2_with fail
  go_loopw [9, 3] (fun x y W => ∃ (i : Nat) (bo : Option Addr) (bc : Nat), x = .int .i64 (i : Int) ∧ y = .slice bo i bc ∧ i ≤ N ∧ W.ownsRow 0 58 4 (.slice bo i bc) i (dCs ((S.take i).map Prod.snd)) ∧ (∀ b, (Value.slice bo i bc).ownBlock = some b → w1.heap.size ≤ b) ∧ Fr (fun _ => False) w1 W) (fun x _ _ => N - (intOf x).toNat)
  case atStart => exact ⟨0, none, 0, rfl, rfl, Nat.zero_le _, owns_nil4 _, fun b hb => by simp [Value.ownBlock] at hb, Fr.refl _ _⟩
  case round =>
    obtain ⟨i, bo, bc, rfl, rfl, hi, hO, hnew, hf⟩ := hrel
    have HO := hide hO
    have HNW := hide hnew
    have HF := hide hf
    rcases Nat.lt_or_ge i N with hlt | hge
    · have hiS : i < S.length := by rw [unhide HSL]; exact hlt
      obtain ⟨b1, o1, rfl, -, -, -, c1⟩ := ((unhide HV).kept hf (fun _ _ e => e)).lits (by rw [pvs_length]; omega)
      have k1 := c1 i (by rw [pvs_length]; exact hiS)
      obtain ⟨q, hq⟩ : ∃ q, q = S[i] := ⟨_, rfl⟩
      have HTK : Hid (S.take (i + 1) = S.take i ++ [q]) := hide (by rw [hq]; exact List.take_succ_eq_append_getElem hiS)
      simp only [pvs, List.getElem_map, ← hq] at k1
      have hqR : q ∈ R := unhide HSR q (by rw [hq]; exact List.getElem_mem hiS)
      obtain ⟨oo, nn, hn⟩ := (unhide HK).at hqR
      have hnN := (hn.kept (unhide F1) id).kept hf id
      have d2 := hnN.c2
      have d3 := hnN.c3
      have d4 := hnN.c4
      have d5 := hnN.c5
      unfold ptr at *
      obtain ⟨qa, qx⟩ := q
      dsimp only at *
      clear hO hnew hf c1 hq hqR hn hnN hiS
      go_wp2_with (at_builtin; refine wpList_app rfl (.tmp 13) (.tmp 18) 45 rfl 58 inf _ 4 32 Try.underlying45 hi0 hz0 hz1 hz2 rfl (by decide) (.slice bo i bc) i _ rfl (.slice (some ⟨wr.heap.size, 0, none⟩) 1 1) rfl 1 (dC qx) ((unhide HO).alloc _) (four_cells wr qx) (fun u hu => by simp [dC] at hu; rcases hu with rfl | rfl | rfl | rfl <;> rfl) (by omega) (by simp only [maxLen]; omega) ?_)
      intro ao4 ac4 w4 o4 g4 p4
      have f4 : Fr (fun k => (Value.slice bo i bc).ownBlock = some k) wr w4 := ((Fr.refl _ _).alloc (.cells #[.int .i64 qx.b, .int .u64 (qx.first : Int), .int .u64 (qx.last : Int), .int .i64 qx.pins] 58)).grown g4 (fun k _ e => e)
      have HF4 : Hid (Fr (fun _ => False) w1 w4) := hide ((unhide HF).trans f4 (fun k hk e => by have := unhide HNW k e; omega))
      have HN4 : Hid (∀ b, (Value.slice ao4 (i + 1) ac4).ownBlock = some b → w1.heap.size ≤ b) := hide (fun b hb => by
        rcases p4 with e | ⟨k', e, hk'⟩
        · rw [e] at hb; exact unhide HNW b hb
        · rw [e] at hb; simp at hb; have := (unhide HF).size; omega)
      have HO4 : Hid (w4.ownsRow 0 58 4 (.slice ao4 (i + 1) ac4) (i + 1) (dCs ((S.take (i + 1)).map Prod.snd))) := hide (by
        rw [unhide HTK, List.map_append, List.map_cons, List.map_nil, dCs_app, List.map_take]; exact o4)
      clear o4 g4 p4 f4 d2 d3 d4 d5 k1
      go_wp2_with fail
      go_roundw
      case rel => exact ⟨i + 1, ao4, ac4, by simp, rfl, by omega, unhide HO4, unhide HN4, unhide HF4⟩
      case measure => simp [intOf]; omega
    · have e : i = N := by omega
      subst e
      clear hge hO hnew hf
      go_wp2_with fail
      go_ret
      have hO := unhide HO
      rw [List.take_of_length_le (by rw [unhide HSL]; exact Nat.le_refl _)] at hO
      exact ⟨⟨bo, bc, rfl, hO, fun b hb => Nat.le_trans (unhide F1).size (unhide HNW b hb)⟩, (unhide F1).trans (unhide HF) (fun _ _ e => e)⟩
end

theorem cs_dirty {w0 : World × World} {w : World} {p h r u : Nat} {dv : Value} {c : Ca} {m : Hm} {l : List Pl} (H : CS w0 w p h r u dv c m l) (hl : l.length ≤ 1000000) : Calls Try.prog 21 #[ptr p] w fun e w' => (∃ ao cc, e = .returned (.slice ao (srtL l).length cc) ∧ w'.ownsRow 0 58 4 (.slice ao (srtL l).length cc) (srtL l).length (dCs (srtL l)) ∧ ∀ b, (Value.slice ao (srtL l).length cc).ownBlock = some b → w.heap.size ≤ b) ∧ Fr (fun _ => False) w w' := by
  obtain ⟨lv, vs, L, R, h1, h2, rfl, h4, h5⟩ := H
  rw [List.length_map] at hl
  exact dirties_any w p h r u L R c hl h1
end Go.Proofs.Ytdgmlopaeonacaa
