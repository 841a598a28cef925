/-
  The document's Check where shards are even and too long; the walks of Encode and Check, uniform.
-/
import Derived.Test.YtckmddkhkdcmmaaRs19
import Derived.Deep.RegionHeld3
namespace Go.Proofs.Ytckmddkhkdcmmaa
open Go.RowKit
set_option linter.unusedVariables false

attribute [local go_sem ↓] Go.wp_at_zero Go.wp_at_succ

set_option maxHeartbeats 1000000 in
set_option maxRecDepth 100000 in
theorem rcheck_big (w : World) (p k m : Nat) (v : Value) (ls : List (List UInt8)) (hD : DAt w p k m) (hk : 1 ≤ k ∧ k ≤ 16) (hm : m ≤ 8) (h : RdL w v ls) (hb : (oneL ls ((k + m : Nat) : Int)).2 = true) (he : (shl ls ((k + m : Nat) : Int)).2 ≠ 0) :
    Calls Try.prog 50 #[.pointer (some ⟨p, 0, none⟩), v] w fun e w' => e = .returned (.tuple #[.bool false, .int .i64 1]) ∧ Fr (fun _ => False) w w' := by
  have hll : ls.length = k + m := by
    unfold oneL at hb
    by_cases h1 : (ls.length : Int) = ((k + m : Nat) : Int) ∧ ∀ l ∈ ls, l.length = (ls.headD []).length
    · omega
    · rw [if_neg h1] at hb; simp at hb
  obtain ⟨-, -, hl2⟩ := oneL_head hb (by omega)
  have hl3 : ¬ (oneL ls ((k + m : Nat) : Int)).1 ≤ 4096 := by
    intro h1
    rw [shl_one hb, if_pos h1] at he
    exact he rfl
  have c0 := cell_of_heap hD 0
  have c1 := cell_of_heap hD 1
  simp at c0 c1
  have hplt := lt_of_heap hD
  have HE := hide (fun W (f : Fr (fun _ => False) w W) => even_any W v ls ((k + m : Nat) : Int) (h.kept f) (by omega))
  rw [hb] at HE
  generalize (oneL ls ((k + m : Nat) : Int)).1 = n at *
  have htl : (ls.take k).length = k := by rw [List.length_take]; omega
  have hse : shl (ls.take k) (k : Int) = (0, 1) := by
    have := shl_flat (n := n) (ls := ls.take k) (fun l hl => hl2 l (List.mem_of_mem_take hl)) (by omega)
    rw [htl, if_neg hl3] at this
    exact this
  have H := hide h
  have HD := hide hD
  have HLL := hide hll
  have HSE := hide hse
  obtain ⟨vo, vc, rfl⟩ := h.shape
  obtain ⟨vb, vof, _, _, rfl, -, -⟩ := h.get 0 (by omega)
  have hvc : ls.length ≤ vc := by
    obtain ⟨vs, hV, hvl, -⟩ := h
    obtain ⟨_, _, _, -, hcap, -, -⟩ := hV.lits (by omega)
    omega
  obtain ⟨a, ha⟩ : ∃ a, a = k + m := ⟨_, rfl⟩
  have ea : (k : Int) + (m : Int) = (a : Int) := by omega
  have b4 : IntKind.i64.wrap (a : Int) = (a : Int) := by rw [IntKind.wrap_i64]; omega
  rw [hll, ← ha] at H HE hvc ⊢
  have HA := hide ha
  have hka : k ≤ a := by omega
  have hkv : k ≤ vc := by omega
  clear hD h hb hl2 hll htl hse ha he
  go_enter Try.func50, Try.ntmps50
  go_wp2_with fail
  go_region_held3 (fun W => W.cell? ⟨p, 0, none⟩ = some (.int .i64 (k : Int)) ∧ W.cell? ⟨p, 1, none⟩ = some (.int .i64 (m : Int))) (go_keep) ((go_at_call 95; refine (unhide HE _ (by first | exact Fr.ofDrewN _ 1 | exact Fr.ofDrewN _ _)).mono ?_; rintro e w2 ⟨rfl, f2⟩; have F2 := (Fr.ofDrewN (S := fun _ => False) w 1).trans f2 (fun _ _ h => h); have s0 := (F2.cell (a := ⟨p, 0, none⟩) hplt id).trans c0; have s1 := (F2.cell (a := ⟨p, 1, none⟩) hplt id).trans c1))
  have hT2 := ((unhide H).kept F2).takeN k (by rw [unhide HLL]; omega)
  have HRE := hide (rencode_no w2 p k m _ _ ((unhide HD).kept F2 id) hk hT2 (by rw [List.length_take]; have := unhide HLL; omega) (by rw [unhide HSE]; decide))
  rw [unhide HSE] at HRE
  have HF2 := hide F2
  clear f2 F2 s1 hT2
  go_wp2_with fail
  refine (unhide HRE).mono ?_
  rintro e w3 ⟨rfl, f3⟩
  have HF3 := hide ((unhide HF2).trans f3 (fun _ _ h => h))
  clear f3 s0
  go_wp2_with fail
  go_ret2
  exact ⟨rfl, unhide HF3⟩

/-- What Encode answers. -/
def encR (k m : Nat) (ls : List (List UInt8)) : List (List UInt8) := if (shl ls (k : Int)).2 = 0 then encL k m ls (shl ls (k : Int)).1 else []
/-- What Check answers. -/
def chR (k m : Nat) (ls : List (List UInt8)) : Bool := if (shl ls ((k + m : Nat) : Int)).2 = 0 then chB k m ls (shl ls ((k + m : Nat) : Int)).1 else false

theorem encode_any (w : World) (p k m : Nat) (v : Value) (ls : List (List UInt8)) (hC : CAt w p k m) (h : RdL w v ls) (hl : ls.length ≤ 100000) :
    Calls Try.prog 45 #[.pointer (some ⟨p, 0, none⟩), v] w fun e w' => (∃ ao n ac, e = .returned (.tuple #[.slice ao n ac, .int .i64 (shl ls (k : Int)).2]) ∧ LN w.heap.size w' (.slice ao n ac) (encR k m ls)) ∧ Fr (fun _ => False) w w' := by
  unfold encR
  by_cases he : (shl ls (k : Int)).2 = 0
  · rw [if_pos he]
    refine (encode_ok w p k m v ls hC h he).mono ?_
    rintro e w' ⟨⟨g, rfl, h1⟩, f⟩
    exact ⟨⟨_, _, _, by rw [he], h1⟩, f⟩
  · rw [if_neg he]
    refine (encode_no w p k m v ls hC h hl he).mono ?_
    rintro e w' ⟨rfl, rfl⟩
    exact ⟨⟨_, _, _, rfl, LN.nil _ _⟩, Fr.refl _ _⟩

theorem rencode_any (w : World) (p k m : Nat) (v : Value) (ls : List (List UInt8)) (hD : DAt w p k m) (hk : 1 ≤ k ∧ k ≤ 16) (hm : m ≤ 8) (h : RdL w v ls) (hl : ls.length ≤ 100000) :
    Calls Try.prog 46 #[.pointer (some ⟨p, 0, none⟩), v] w fun e w' => (∃ ao n ac, e = .returned (.tuple #[.slice ao n ac, .int .i64 (shl ls (k : Int)).2]) ∧ LN w.heap.size w' (.slice ao n ac) (encR k m ls)) ∧ Fr (fun _ => False) w w' := by
  unfold encR
  by_cases he : (shl ls (k : Int)).2 = 0
  · rw [if_pos he]
    refine (rencode_ok w p k m v ls hD hk hm h he).mono ?_
    rintro e w' ⟨⟨ao, ac, rfl, h1⟩, f⟩
    exact ⟨⟨_, _, _, by rw [he], h1⟩, f⟩
  · rw [if_neg he]
    refine (rencode_no w p k m v ls hD hk h hl he).mono ?_
    rintro e w' ⟨rfl, f⟩
    exact ⟨⟨_, _, _, rfl, LN.nil _ _⟩, f⟩

theorem chk_any (w : World) (p k m : Nat) (v : Value) (ls : List (List UInt8)) (hC : CAt w p k m) (h : RdL w v ls) (hl : ls.length ≤ 100000) :
    Calls Try.prog 49 #[.pointer (some ⟨p, 0, none⟩), v] w fun e w' => e = .returned (.tuple #[.bool (chR k m ls), .int .i64 (shl ls ((k + m : Nat) : Int)).2]) ∧ Fr (fun _ => False) w w' := by
  unfold chR
  by_cases he : (shl ls ((k + m : Nat) : Int)).2 = 0
  · rw [if_pos he]
    refine (check_ok w p k m v ls hC h he).mono ?_
    rintro e w' ⟨rfl, f⟩
    exact ⟨by rw [he], f⟩
  · rw [if_neg he]
    exact check_no w p k m v ls hC h hl he

theorem rchk_any (w : World) (p k m : Nat) (v : Value) (ls : List (List UInt8)) (hD : DAt w p k m) (hk : 1 ≤ k ∧ k ≤ 16) (hm : m ≤ 8) (h : RdL w v ls) (hl : ls.length ≤ 100000) :
    Calls Try.prog 50 #[.pointer (some ⟨p, 0, none⟩), v] w fun e w' => e = .returned (.tuple #[.bool (chR k m ls), .int .i64 (shl ls ((k + m : Nat) : Int)).2]) ∧ Fr (fun _ => False) w w' := by
  unfold chR
  by_cases he : (shl ls ((k + m : Nat) : Int)).2 = 0
  · rw [if_pos he]
    refine (rcheck_ok w p k m v ls hD hk hm h he).mono ?_
    rintro e w' ⟨rfl, f⟩
    exact ⟨by rw [he], f⟩
  · rw [if_neg he]
    rcases hb : (oneL ls ((k + m : Nat) : Int)).2 with _ | _
    · rw [shl_two hb]
      exact rcheck_no w p k m v ls hD hk hm h hl hb
    · have e1 : (shl ls ((k + m : Nat) : Int)).2 = 1 := by
        rw [shl_one hb] at he ⊢
        by_cases h1 : (oneL ls ((k + m : Nat) : Int)).1 ≤ 4096
        · rw [if_pos h1] at he; exact absurd rfl he
        · rw [if_neg h1]
      rw [e1]
      exact rcheck_big w p k m v ls hD hk hm h hb he

end Go.Proofs.Ytckmddkhkdcmmaa
