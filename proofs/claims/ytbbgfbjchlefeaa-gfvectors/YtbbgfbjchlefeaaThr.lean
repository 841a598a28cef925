/-
  The walks of package gf's Eval, and of what Through calls.
-/
import Derived.Test.YtbbgfbjchlefeaaLive
import Derived.Test.YtbbgfbjchlefeaaPoly
namespace Go.Proofs.Ytbbgfbjchlefeaa
open Go.RowKit
set_option linter.unusedVariables false

attribute [local go_sem ↓] Go.wp_at_zero Go.wp_at_succ

theorem ev_drop (p : List UInt8) (x : UInt8) (k : Nat) (h : k < p.length) : ev (p.drop k) x = mul (ev (p.drop (k + 1)) x) x ^^^ p[k] := by
  rw [List.drop_eq_getElem_cons h]
  rfl

set_option maxHeartbeats 1000000 in
theorem eval_any (w : World) (v : Value) (p : List UInt8) (x : UInt8) (hv : Rd w v p) (hp : p.length ≤ 4096) : Calls Try.prog 32 #[v, .int .u8 (x.toNat : Int)] w fun e w' => e = .returned (.int .u8 ((ev p x).toNat : Int)) ∧ Fr (fun _ => False) w w' := by
  obtain ⟨ao, cap, rfl⟩ := hv.shape
  have HV := hide hv
  clear hv
  go_enter Try.func32, Try.ntmps32
  go_wp2_with fail
  refine (newField_any w).mono ?_
  rintro e w1 ⟨rfl, hF1, f1⟩
  have HF1 := hide hF1
  have Hf1 := hide f1
  clear hF1 f1
  go_wp2_with fail
  go_loopw [6, 7] (fun y i w' => ∃ k : Nat, k ≤ p.length ∧ i = .int .i64 ((k : Int) - 1) ∧ y = .int .u8 (((ev (p.drop k) x).toNat : Nat) : Int) ∧ ∃ n, w' = w1.drewN n) (fun _ i _ => (intOf i + 1).toNat)
  case atStart => exact ⟨p.length, Nat.le_refl _, rfl, by rw [List.drop_length]; rfl, 0, rfl⟩
  case round =>
    obtain ⟨k, hk, rfl, rfl, nn, rfl⟩ := hrel
    by_cases h0 : k = 0
    · subst h0
      go_wp2_with fail
      go_ret
      exact ⟨by rw [List.drop_zero]; rfl, (unhide Hf1).drewN nn⟩
    · obtain ⟨j, rfl⟩ : ∃ j, k = j + 1 := ⟨k - 1, by omega⟩
      have hj : j < p.length := by omega
      have hrd := (unhide HV).kept ((unhide Hf1).drewN nn) (fun _ _ h => h)
      obtain ⟨b, o, rfl, -, hcap, hcm, hcell⟩ := hrd.lits (by omega)
      have hc := hcell j hj
      unfold maxLen at hcm
      have hF2 : FAt (w1.drewN nn) w.heap.size := (unhide HF1).kept (Fr.ofDrewN (S := fun _ => False) w1 nn) id
      have HE := hide (ev_drop p x j hj)
      obtain ⟨y, hy⟩ : ∃ y, y = ev (p.drop (j + 1)) x := ⟨_, rfl⟩
      rw [← hy] at HE ⊢
      obtain ⟨pj, hpj⟩ : ∃ z, z = p[j] := ⟨_, rfl⟩
      rw [← hpj, World.cell?_drewN] at hc
      rw [← hpj] at HE
      have HX := hide (xorV (mul y x) pj)
      have HM := hide (fun W (q : FAt W w.heap.size) => fmul_any W w.heap.size y x q)
      have HF2 := hide hF2
      have e1 : ((j + 1 : Nat) : Int) - 1 = (j : Int) := by omega
      rw [e1]
      clear hrd hcell hF2 hy hpj e1
      go_wp2_with fail
      go_region_with ((go_at_call 66; refine (unhide HM _ (by exact (unhide HF2))).mono ?_; rintro e w3 ⟨rfl, mm, rfl⟩))
      all_goals
        go_wp2_with fail
        go_roundw
        case rel => exact ⟨j, by omega, rfl, by rw [unhide HX, ← unhide HE], _, rfl⟩
        case measure => simp [intOf]

/-- The values that were met. -/
def SeenAt (w : World) (q : Nat) (l : List UInt8) : Prop := ∃ cs, w.heap[q]? = some (.cells cs 105 (0, 0)) ∧ cs.size = 256 ∧ ∀ b : UInt8, cs[b.toNat]? = some (.bool (decide (b ∈ l)))

theorem zero105 : Try.zeroCells105 = Array.replicate 256 (.bool false) := by kernel_rfl

theorem SeenAt.start (w : World) : SeenAt (w.alloc (Obj.cells Try.zeroCells105 105)) w.heap.size [] := by
  refine ⟨_, heap_alloc_new w _, by rw [zero105]; simp, fun b => ?_⟩
  have := b.toNat_lt
  rw [zero105, Array.getElem?_replicate, if_pos (by omega)]
  simp

theorem SeenAt.put {w : World} {q : Nat} {l : List UInt8} (h : SeenAt w q l) (b : UInt8) : SeenAt (w.setCell ⟨q, b.toNat, none⟩ (.bool true)) q (l ++ [b]) := by
  obtain ⟨cs, h1, h2, h3⟩ := h
  refine ⟨_, heap_setCell_same w q b.toNat cs 105 _ h1, by simp [h2], fun c => ?_⟩
  by_cases e : b = c
  · subst e
    have := b.toNat_lt
    rw [Array.getElem?_setIfInBounds_self_of_lt (by omega)]
    simp
  · rw [Array.getElem?_setIfInBounds_ne (fun h => e (UInt8.toNat_inj.1 h)), h3 c]
    simp [List.mem_append, show ¬ c = b from fun h => e h.symm]

theorem SeenAt.cell {w : World} {q : Nat} {l : List UInt8} (h : SeenAt w q l) (b : UInt8) : w.cell? ⟨q, b.toNat, none⟩ = some (.bool (decide (b ∈ l))) := by
  obtain ⟨cs, h1, h2, h3⟩ := h
  rw [cell_of_heap h1]; exact h3 b
theorem SeenAt.frozen {w : World} {q : Nat} {l : List UInt8} (h : SeenAt w q l) (j : Nat) : w.frozen? ⟨q, j, none⟩ = false := by
  obtain ⟨cs, h1, h2, h3⟩ := h
  exact frozen_of_heap h1 j

/-- Whether two are the same. -/
def dupB (xs : List UInt8) : Bool := decide (¬ xs.Nodup)

theorem take_nodup {xs : List UInt8} {k : Nat} (h : k < xs.length) (nd : (xs.take k).Nodup) (hn : xs[k] ∉ xs.take k) : (xs.take (k + 1)).Nodup := by
  rw [List.take_succ_eq_append_getElem h, List.nodup_append]
  refine ⟨nd, by simp, ?_⟩
  intro a ha b hb
  simp at hb
  subst hb
  exact fun e => hn (e ▸ ha)

theorem not_nodup {xs : List UInt8} {k : Nat} (h : k < xs.length) (hn : xs[k] ∈ xs.take k) : ¬ xs.Nodup := by
  intro nd
  obtain ⟨i, hi, e⟩ := List.getElem_of_mem hn
  rw [List.getElem_take] at e
  have := (List.getElem_inj nd).1 e
  simp at hi
  omega

set_option maxHeartbeats 1000000 in
theorem twice_any (w : World) (v : Value) (xs : List UInt8) (hv : Rd w v xs) (hl : xs.length ≤ 4096) : Calls Try.prog 62 #[v] w fun e w' => e = .returned (.bool (dupB xs)) ∧ Fr (fun _ => False) w w' := by
  obtain ⟨ao, cap, rfl⟩ := hv.shape
  have HV := hide hv
  clear hv
  go_enter Try.func62, Try.ntmps62
  go_wp2_with fail
  go_loopw [8] (fun i w' => ∃ k : Nat, k ≤ xs.length ∧ i = .int .i64 (k : Int) ∧ (xs.take k).Nodup ∧ SeenAt w' w.heap.size (xs.take k) ∧ Fr (fun _ => False) w w') (fun i _ => xs.length - (intOf i).toNat)
  case atStart => exact ⟨0, by omega, rfl, by simp, SeenAt.start w, (Fr.refl _ _).alloc _⟩
  case round =>
    obtain ⟨k, hk, rfl, nd, hS, hf⟩ := hrel
    by_cases hlt : k < xs.length
    · have hrd := (unhide HV).kept hf (fun _ _ h => h)
      obtain ⟨b, o, rfl, -, hcap, hcm, hcell⟩ := hrd.lits (by omega)
      have hc := hcell k hlt
      unfold maxLen at hcm
      have c1 := hS.cell xs[k]
      have z1 := hS.frozen
      have hbt := (xs[k]).toNat_lt
      have HS := hide hS
      have Hf := hide hf
      have HND := hide nd
      clear hrd hcell hS hf nd
      by_cases hm : xs[k] ∈ xs.take k
      · have hd : dupB xs = true := by unfold dupB; simpa using not_nodup hlt hm
        have e1 : decide (xs[k] ∈ xs.take k) = true := by simpa using hm
        rw [e1] at c1
        generalize xs[k] = xk at *
        have HM := hide hm
        clear hm e1
        go_wp2_with fail
        go_ret
        exact ⟨by rw [hd]; rfl, unhide Hf⟩
      · have e1 : decide (xs[k] ∈ xs.take k) = false := by simpa using hm
        rw [e1] at c1
        have HT := hide (take_nodup hlt (unhide HND) hm)
        have HS2 := hide ((unhide HS).put xs[k])
        rw [← List.take_succ_eq_append_getElem hlt] at HS2
        generalize xs[k] = xk at *
        clear hm e1
        go_wp2_with fail
        go_roundw
        case rel => exact ⟨k + 1, by omega, by go_num, unhide HT, unhide HS2, (unhide Hf).setCell (fun h => absurd h (by simp)) _⟩
        case measure => simp [intOf]; omega
    · have hke : k = xs.length := by omega
      subst hke
      rw [List.take_length] at nd
      have hd : dupB xs = false := by unfold dupB; simpa using nd
      have Hf := hide hf
      clear hS hf nd
      go_wp2_with fail
      go_ret
      exact ⟨by rw [hd]; rfl, unhide Hf⟩

#print axioms twice_any
#print axioms eval_any
end Go.Proofs.Ytbbgfbjchlefeaa
