/-
  The home's Read, Write, Flush.
-/
import Derived.Test.YtdgmlopaeonacaaA5
namespace Go.Proofs.Ytdgmlopaeonacaa
open Go.RowKit
set_option linter.unusedVariables false

attribute [local go_sem ↓] Go.wp_at_zero Go.wp_at_succ

theorem owns_at {w : World} {e n : Nat} {v : Value} {xs : List Value} (h : w.ownsRow 0 e 1 v n xs) (hn : 0 < n) : ∃ g c cur, v = .slice (some ⟨g, 0, none⟩) n c ∧ n ≤ c ∧ c ≤ maxLen ∧ w.heap[g]? = some (.cells cur e (0, 0)) ∧ cur.size = c ∧ (∀ i, i < n → w.cell? ⟨g, i, none⟩ = xs[i]?) := by
  have h1 := h
  rcases h.2 with ⟨hv, h0⟩ | ⟨g, cap, cur, rfl, hb, hg, hnc, hcm, hcs, htake⟩
  · omega
  · refine ⟨g, cap, cur, rfl, hnc, hcm, hg, by simpa using hcs, fun i hi => ?_⟩
    have := World.ownsRow.cellAt h1 i (by omega)
    exact this

section
variable (w : World) (h : Nat) (dv lv : Value) (vs : List Value) (m : Hm)

set_option maxRecDepth 100000 in
set_option maxHeartbeats 1000000 in
theorem hread_any (i : Nat) (Di : List UInt8) (hDi : m.D[i]? = some Di) (H : HAt w h dv lv vs m) (hc : m.calls < 1000000000) : Calls Try.prog 67 #[ptr h, .int .i64 (i : Int)] w fun e w' =>
    ((m.fa = true ∧ e = .returned (.tuple #[.slice none 0 0, .int .i64 77])) ∨ (m.fa = false ∧ ∃ ao c, e = .returned (.tuple #[.slice ao 384 c, .int .i64 0]) ∧ Rd w' (.slice ao 384 c) Di ∧ ∀ b, (Value.slice ao 384 c).ownBlock = some b → w.heap.size ≤ b)) ∧ HAt w' h dv lv vs m.one ∧ Fr (fun k => k = h) w w' := by
  obtain ⟨hi, hDi⟩ := List.getElem?_eq_some_iff.1 hDi
  have HF := hide (fails_any w h dv lv vs m H hc)
  clear H hc
  unfold ptr at *
  rcases hfa : m.fa with _ | _
  · rw [hfa] at HF
    go_enter Try.func67, Try.ntmps67
    go_wp2_with fail
    refine (unhide HF).mono ?_
    rintro e w1 ⟨rfl, H1, f1⟩
    have c0 := cell_of_heap H1.heap 0
    simp at c0
    obtain ⟨g, c, cur, rfl, hnc, hcm, hg, hcs, hcells⟩ := owns_at H1.data (by show 0 < m.D.length; omega)
    obtain ⟨b, hvb, hB⟩ := H1.rd i hi
    change BAt w1 b m.D[i] at hB
    rw [hDi] at hB
    have ci := hcells i hi
    rw [hvb] at ci
    have hlen : Di.length = 384 := by rw [← hDi]; exact H1.ok.all _ (List.getElem_mem hi)
    have hR := hB.rd (by rw [hlen]; decide)
    rw [hlen] at hR
    have hlt : (i : Int) < (m.D.length : Int) := by omega
    have hic : i < c := by have : m.D.length ≤ c := hnc; omega
    change w1.cell? ⟨h, 0, none⟩ = some (.slice (some ⟨g, 0, none⟩) m.D.length c) at c0
    have fa := (Fr.refl (fun _ => False) w1).alloc (.cells #[] 5)
    have c0a := (fa.cell (a := ⟨h, 0, none⟩) (lt_of_heap H1.heap) id).trans c0
    have cia := (fa.cell (a := ⟨g, i, none⟩) (lt_of_heap hg) id).trans ci
    have HR := hide hR
    have HH := hide H1
    have F1 := hide f1
    clear fa c0 ci hR
    obtain ⟨inf, hi0, hz0, hz1, hz2⟩ := info_parts Try.info5
    have HL := hide hlen
    clear hB hg hcs hcells H1 hlen f1 HF hvb hDi hcm hnc hfa
    go_wp2_with (at_builtin; refine wpList_app rfl (.tmp 8) (.tmp 15) 37 rfl 5 inf _ 1 1 Try.underlying37 hi0 hz0 hz1 hz2 rfl (by decide) (.slice (some ⟨w1.heap.size, 0, none⟩) 0 0) 0 [] rfl (.slice (some ⟨b, 0, none⟩) 384 384) rfl 384 (bvs Di) (owns_new (heap_alloc_new _ _)) (by have := ((unhide HR).kept ((Fr.refl (fun _ => False) w1).alloc (.cells #[] 5)) (fun _ _ h => h)).sr; rw [unhide HL] at this; exact this) (bvs_one _) (by decide) (by decide) ?_)
    intro ao c w2 o2 g2 p2
    have hR2 : Rd w2 (.slice ao 384 c) Di := by
      refine Rd.of_owns (base := 0) ?_
      rw [unhide HL]
      exact o2
    have HR2 := hide hR2
    have HP2 : Hid (∀ b, (Value.slice ao 384 c).ownBlock = some b → w1.heap.size ≤ b) := hide (fun b hb => by
      rcases p2 with e | ⟨k, e, hk⟩
      · rw [e] at hb; simp [Value.ownBlock] at hb; omega
      · rw [e] at hb; simp at hb; omega)
    have F2 := hide (((Fr.refl (fun _ => False) w1).alloc (.cells #[] 5)).grown g2 (fun k hk e => by simp [Value.ownBlock] at e; omega))
    clear o2 g2 p2 hR2
    go_wp2_with fail
    go_ret2
    refine ⟨.inr ⟨trivial, ao, c, rfl, unhide HR2, fun b hb => Nat.le_trans (unhide F1).size (unhide HP2 b hb)⟩, (unhide HH).kept0 (unhide F2), (unhide F1).trans (unhide F2) (fun _ _ h => h.elim)⟩
  · rw [hfa] at HF
    go_enter Try.func67, Try.ntmps67
    go_wp2_with fail
    refine (unhide HF).mono ?_
    rintro e w1 ⟨rfl, H1, f1⟩
    have HH := hide H1
    have F1 := hide f1
    clear H1 f1 HF
    go_wp2_with fail
    go_ret2
    exact ⟨.inl ⟨trivial, rfl⟩, unhide HH, unhide F1⟩
end
end Go.Proofs.Ytdgmlopaeonacaa
