/-
  The walk of the document's Check, where shards are even.
-/
import Derived.Test.YtckmddkhkdcmmaaRs18
import Derived.Deep.RegionHeld3
namespace Go.Proofs.Ytckmddkhkdcmmaa
open Go.RowKit
set_option linter.unusedVariables false

attribute [local go_sem ↓] Go.wp_at_zero Go.wp_at_succ

theorem RdL.dropN {w : World} {b o n c k : Nat} {ls : List (List UInt8)} (h : RdL w (.slice (some ⟨b, o, none⟩) n c) ls) (hk : k ≤ ls.length) : RdL w (.slice (if c = k then some ⟨b, o, none⟩ else some ⟨b, o + k, none⟩) (n - k) (c - k)) (ls.drop k) := by
  obtain ⟨vs, h1, h2, h3⟩ := h
  have hrow : ∀ (i : Nat) (x : Value) (l : List UInt8), (vs.drop k)[i]? = some x → (ls.drop k)[i]? = some l → Rd w x l := fun i x l hx hl => by
    rw [List.getElem?_drop] at hx hl
    exact h3 _ x l hx hl
  rcases h1 with ⟨hv, -⟩ | ⟨ad, cap, hv, g1, g2, g3⟩
  · simp at hv
  · simp only [Value.slice.injEq, Option.some.injEq] at hv
    obtain ⟨rfl, rfl, rfl⟩ := hv
    have hl : (vs.drop k).length = vs.length - k := List.length_drop ..
    refine ⟨vs.drop k, ?_, by rw [List.length_drop, List.length_drop, h2], hrow⟩
    by_cases hc : c = k
    · rw [if_pos hc]
      exact .inr ⟨_, c - k, by rw [hl], by omega, by omega, fun j hj => by rw [hl] at hj; omega⟩
    · rw [if_neg hc]
      refine .inr ⟨_, c - k, by rw [hl], by omega, by omega, fun j hj => ?_⟩
      rw [hl] at hj
      have := g3 (k + j) (by omega)
      rw [Addr.add_lit] at this ⊢
      rw [Nat.add_assoc, this]
      simp

set_option maxHeartbeats 1000000 in
set_option maxRecDepth 100000 in
theorem rcheck_ok (w : World) (p k m : Nat) (v : Value) (ls : List (List UInt8)) (hD : DAt w p k m) (hk : 1 ≤ k ∧ k ≤ 16) (hm : m ≤ 8) (h : RdL w v ls) (he : (shl ls ((k + m : Nat) : Int)).2 = 0) :
    Calls Try.prog 50 #[.pointer (some ⟨p, 0, none⟩), v] w fun e w' => e = .returned (.tuple #[.bool (chB k m ls (shl ls ((k + m : Nat) : Int)).1), .int .i64 0]) ∧ Fr (fun _ => False) w w' := by
  obtain ⟨hl1, hl2, hl3⟩ := shl_ok he
  have hll : ls.length = k + m := by omega
  have c0 := cell_of_heap hD 0
  have c1 := cell_of_heap hD 1
  simp at c0 c1
  have hplt := lt_of_heap hD
  have hb : (oneL ls ((k + m : Nat) : Int)).2 = true := by
    rcases hb : (oneL ls ((k + m : Nat) : Int)).2 with _ | _
    · rw [shl_two hb] at he; exact absurd he (by decide)
    · rfl
  have HE := hide (fun W (f : Fr (fun _ => False) w W) => even_any W v ls ((k + m : Nat) : Int) (h.kept f) (by omega))
  rw [hb] at HE
  generalize (shl ls ((k + m : Nat) : Int)).1 = n at *
  have htl : (ls.take k).length = k := by rw [List.length_take]; omega
  have hse : shl (ls.take k) (k : Int) = (n, 0) := by
    have := shl_flat (n := n) (ls := ls.take k) (fun l hl => hl2 l (List.mem_of_mem_take hl)) (by omega)
    rw [htl, if_pos hl3] at this
    exact this
  have H := hide h
  have HD := hide hD
  have HLL := hide hll
  have HSE := hide hse
  obtain ⟨vo, vc, rfl⟩ := h.shape
  obtain ⟨vb, vof, _, _, rfl, -, -⟩ := h.get 0 (by omega)
  have hvc : ls.length ≤ vc := by
    obtain ⟨vs, hV, hvl, -⟩ := h
    obtain ⟨_, _, _, -, hcap, -, -⟩ := hV.lits (by omega)
    omega
  obtain ⟨a, ha⟩ : ∃ a, a = k + m := ⟨_, rfl⟩
  have ea : (k : Int) + (m : Int) = (a : Int) := by omega
  have b4 : IntKind.i64.wrap (a : Int) = (a : Int) := by rw [IntKind.wrap_i64]; omega
  rw [hll, ← ha] at H HE hvc ⊢
  have HA := hide ha
  have hka : k ≤ a := by omega
  have hkv : k ≤ vc := by omega
  clear hD h hb hl1 hl2 hll htl hse ha he
  go_enter Try.func50, Try.ntmps50
  go_wp2_with fail
  go_region_held3 (fun W => W.cell? ⟨p, 0, none⟩ = some (.int .i64 (k : Int)) ∧ W.cell? ⟨p, 1, none⟩ = some (.int .i64 (m : Int))) (go_keep) ((go_at_call 95; refine (unhide HE _ (by first | exact Fr.ofDrewN _ 1 | exact Fr.ofDrewN _ _)).mono ?_; rintro e w2 ⟨rfl, f2⟩; have F2 := (Fr.ofDrewN (S := fun _ => False) w 1).trans f2 (fun _ _ h => h); have s0 := (F2.cell (a := ⟨p, 0, none⟩) hplt id).trans c0; have s1 := (F2.cell (a := ⟨p, 1, none⟩) hplt id).trans c1))
  have hT2 := ((unhide H).kept F2).takeN k (by rw [unhide HLL]; omega)
  have HRE := hide (rencode_ok w2 p k m _ _ ((unhide HD).kept F2 id) hk hm hT2 (by rw [unhide HSE]))
  rw [unhide HSE] at HRE
  have HF2 := hide F2
  clear f2 F2 s1 hT2
  go_wp2_with fail
  refine (unhide HRE).mono ?_
  rintro e w3 ⟨⟨eao, eac, rfl, hL3⟩, f3⟩
  have HF3 := hide ((unhide HF2).trans f3 (fun _ _ h => h))
  have t0 : w3.cell? ⟨p, 0, none⟩ = some (.int .i64 (k : Int)) := by rw [(unhide HF3).cell (a := ⟨p, 0, none⟩) hplt id]; exact c0
  have hdrop := RdL.dropN ((unhide H).kept (unhide HF3)) (k := k) (by rw [unhide HLL]; omega)
  have HSM := hide (rsame_any w3 _ _ _ _ hL3.rdl hdrop (by rw [encL_length]; omega))
  have hch : decide (encL k m (ls.take k) n = ls.drop k) = chB k m ls n := by
    unfold chB
    rw [Bool.eq_iff_iff]
    simp only [decide_eq_true_eq]
    exact ⟨fun h => h.symm, fun h => h.symm⟩
  rw [hch] at HSM
  clear hL3 f3 hdrop hch s0
  by_cases hcv : vc = k
  · rw [if_pos hcv] at HSM
    have hav : a = k := by omega
    rw [hcv, hav, Nat.sub_self] at HSM
    rw [hcv, hav]
    go_wp2_with (go_at_call 47; refine (unhide HSM).mono ?_; rintro e w4 ⟨rfl, f4⟩)
    go_ret2
    exact ⟨rfl, (unhide HF3).trans f4 (fun _ _ h => h)⟩
  · rw [if_neg hcv] at HSM
    go_wp2_with fail
    go_wp2_with (go_at_call 47; refine (unhide HSM).mono ?_; rintro e w4 ⟨rfl, f4⟩)
    go_ret2
    exact ⟨rfl, (unhide HF3).trans f4 (fun _ _ h => h)⟩

end Go.Proofs.Ytckmddkhkdcmmaa
