/-
  The walk of package disk's Injured.
-/
import Derived.Test.YtdhendcogjhgfaaD11
namespace Go.Proofs.Ytdhendcogjhgfaa
open Go.RowKit
set_option linter.unusedVariables false

attribute [local go_sem ↓] Go.wp_at_zero Go.wp_at_succ

theorem Try.info3 : (Try.prog.info? 3).map (fun i => (i.zero, i.size, i.bytes)) = some (some (.int .i64 0), 1, 8) := by kernel_rfl

/-- Numbers as cells. -/
def ivs (l : List Nat) : List Value := l.map fun (n : Nat) => Value.int .i64 (n : Int)
theorem ivs_length (l : List Nat) : (ivs l).length = l.length := by simp [ivs]
theorem ivs_one (l : List Nat) : ∀ u ∈ ivs l, u.oneCell' = true := by
  intro u hu
  obtain ⟨n, -, rfl⟩ := List.mem_map.1 hu
  rfl

/-- The injured ones of the first i. -/
def inI (d : Dk) : Nat → List Nat
  | 0 => []
  | i + 1 => if (d.S.getD i ([], 0)).2 = 0 then inI d i else inI d i ++ [i]
theorem inI_len (d : Dk) (i : Nat) : (inI d i).length ≤ i := by
  induction i with
  | zero => simp [inI]
  | succ i ih =>
    unfold inI
    split
    · omega
    · rw [List.length_append]; simp; omega

section
variable (w : World) (p gs : Nat) (qv : Value) (d : Dk)

set_option maxHeartbeats 1000000 in
set_option maxRecDepth 100000 in
theorem injured_any (h : KAt w p gs qv d) : Calls Try.prog 26 #[.pointer (some ⟨p, 0, none⟩)] w fun e w' => (∃ ao c, e = .returned (.slice ao (inI d d.S.length).length c) ∧ w'.ownsRow 0 3 1 (.slice ao (inI d d.S.length).length c) (inI d d.S.length).length (ivs (inI d d.S.length)) ∧ ∀ b, (Value.slice ao (inI d d.S.length).length c).ownBlock = some b → w.heap.size ≤ b) ∧ Fr (fun _ => False) w w' := by
  have c1 := cell_of_heap h.heap 1
  simp at c1
  have hplt := lt_of_heap h.heap
  have hlen := h.ok.len
  have H := hide h
  obtain ⟨inf, hi0, hz0, hz1, hz2⟩ := info_parts Try.info3
  clear h
  go_enter Try.func26, Try.ntmps26
  go_wp2_with fail
  go_loopw [3, 12] (fun hx y w' => ∃ i : Nat, i ≤ d.S.length ∧ y = .int .i64 (i : Int) ∧ (∃ ao N ac, hx = .slice ao N ac ∧ N = (inI d i).length ∧ w'.ownsRow 0 3 1 (.slice ao N ac) N (ivs (inI d i)) ∧ ∀ b, (Value.slice ao N ac).ownBlock = some b → w.heap.size ≤ b) ∧ Fr (fun _ => False) w w') (fun _ y _ => d.S.length - (intOf y).toNat)
  case atStart => exact ⟨0, by omega, rfl, ⟨none, 0, 0, rfl, rfl, owns_nilE _ 3, fun b hb => by simp [Value.ownBlock] at hb⟩, Fr.refl _ _⟩
  case round =>
    obtain ⟨i, hi, rfl, ⟨ao, N, ac, rfl, hN, hO, hnew⟩, hf⟩ := hrel
    by_cases hlt : i < d.S.length
    · have hKr := (unhide H).kept hf id id (fun _ _ h => h)
      obtain ⟨-, r2⟩ := hKr.sbytes i hlt
      have r1 : wr.cell? ⟨p, 1, none⟩ = some (.slice (some ⟨gs, 0, none⟩) d.S.length d.cap) := by rw [hf.cell (a := ⟨p, 1, none⟩) hplt id]; exact c1
      have hgd : d.S.getD i ([], 0) = d.S[i] := by simp [List.getD, hlt]
      have hst : inI d (i + 1) = if (d.S[i]).2 = 0 then inI d i else inI d i ++ [i] := by
        show (if (d.S.getD i ([], 0)).2 = 0 then inI d i else inI d i ++ [i]) = _
        simp only [hgd]
      have HST := hide hst
      have hNl : N ≤ i := by rw [hN]; exact inI_len d i
      have HO := hide hO
      have Hf := hide hf
      have HNW := hide hnew
      have HN := hide hN
      generalize d.S[i] = s at *
      clear hO hf hnew hKr hgd hst hN
      by_cases hs : s.2 = 0
      · have e1 : ((s.2.toNat : Nat) : Int) = 0 := by rw [hs]; rfl
        rw [e1] at r2
        have HE := hide (show inI d (i + 1) = inI d i by rw [unhide HST, if_pos hs])
        clear e1 hs HST
        go_wp2_with fail
        go_roundw
        case rel => exact ⟨i + 1, by omega, by go_num, ⟨ao, N, ac, rfl, by rw [unhide HE]; exact unhide HN, by rw [unhide HE]; exact unhide HO, unhide HNW⟩, unhide Hf⟩
        case measure => simp [intOf]; omega
      · have e1 : (((s.2.toNat : Nat) : Int) != 0) = true := by
          simp only [bne_iff_ne, ne_eq]
          intro e
          have e' : s.2.toNat = 0 := by omega
          exact hs (UInt8.toNat_inj.1 e')
        generalize hhv : ((s.2.toNat : Nat) : Int) = hv at *
        have HE := hide (show inI d (i + 1) = inI d i ++ [i] by rw [unhide HST, if_neg hs])
        clear hs hhv HST
        go_wp2_with (at_builtin; refine wpList_app rfl (.tmp 24) (.tmp 26) 37 rfl 3 inf _ 1 8 Try.underlying37 hi0 hz0 hz1 hz2 rfl (by decide) (.slice ao N ac) N _ rfl (.slice (some ⟨wr.heap.size, 0, none⟩) 1 1) rfl 1 [.int .i64 (i : Int)] ((unhide HO).alloc _) (one_cellV wr _ 3) (fun u hu => by simp at hu; subst hu; rfl) (by omega) (by simp only [maxLen]; omega) ?_)
        intro ao4 ac4 w4 o4 g4 p4
        have n4 : ∀ b, (Value.slice ao4 (N + 1) ac4).ownBlock = some b → w.heap.size ≤ b := by
          intro b hb
          rcases p4 with e | ⟨k', e, hk'⟩
          · rw [e] at hb; exact unhide HNW b hb
          · rw [e] at hb; simp at hb; have := (unhide Hf).size; omega
        have hO4 : w4.ownsRow 0 3 1 (.slice ao4 (N + 1) ac4) (N + 1) (ivs (inI d (i + 1))) := by
          rw [unhide HE]
          have e : ivs (inI d i ++ [i]) = ivs (inI d i) ++ [Value.int .i64 (i : Int)] := by simp [ivs]
          rw [e]; exact o4
        have HO4 := hide hO4
        have HN4 := hide n4
        have HF4 := hide (((unhide Hf).alloc _).grown g4 (fun k hk e => by have := unhide HNW k e; omega))
        have HNN := hide (show N + 1 = (inI d (i + 1)).length by rw [unhide HE, List.length_append, ← unhide HN]; rfl)
        clear o4 g4 p4 n4 hO4
        go_wp2_with fail
        go_roundw
        case rel => exact ⟨i + 1, by omega, by go_num, ⟨ao4, N + 1, ac4, rfl, unhide HNN, unhide HO4, unhide HN4⟩, unhide HF4⟩
        case measure => simp [intOf]; omega
    · have hie : i = d.S.length := by omega
      subst hie
      have HO := hide hO
      have Hf := hide hf
      have HNW := hide hnew
      subst hN
      clear hO hf hnew
      go_wp2_with fail
      go_ret
      exact ⟨⟨_, _, rfl, unhide HO, unhide HNW⟩, unhide Hf⟩
end

end Go.Proofs.Ytdhendcogjhgfaa
