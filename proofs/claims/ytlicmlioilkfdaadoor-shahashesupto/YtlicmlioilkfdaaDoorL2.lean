/-
  The padding.
-/
import Derived.Test.YtlicmlioilkfdaaDoorL1
namespace Go.Proofs.YtlicmlioilkfdaaDoor
open Go.RowKit
set_option linter.unusedVariables false
set_option linter.unusedSimpArgs false

attribute [local go_sem ↓] Go.wp_at_zero Go.wp_at_succ

/-- append(s, make([]byte, z)...), of a slice that somebody owns and that is full, or of no zeros. -/
theorem append_zeros (w : World) (ty : TypeId) (g : Nat) (z : Nat) (b : UInt8) (hz : z ≤ 1000) (hg : w.heap[g]? = some (.cells (bvs [b]).toArray 5 (0, 0))) :
    ∃ v' w', (Builtin.append_ #[22, 3] ty #[.slice (some ⟨g, 0, none⟩) 1 1, .int .i64 ((z : Nat) : Int)]).run Tryd.prog w = .ok v' w' ∧ Ow w' v' (b :: List.replicate z 0) ∧ OwF w w' (.slice (some ⟨g, 0, none⟩) 1 1) v' := by
  obtain ⟨i, hi, hz0, hz1, hz2⟩ := info_parts Tryd.info5
  have hu3 : Tryd.prog.underlying 3 = some (.int .i64) := by kernel_rfl
  have hw : IntKind.i64.wrap ((z : Nat) : Int) = ((z : Nat) : Int) := by
    simp only [IntKind.wrap, IntKind.bits, IntKind.signed]; simp; omega
  have hn0 : ¬ (((z : Nat) : Int) < 0) := by omega
  have hn1 : ¬ ((281474976710656 : Int) < ((z : Nat) : Int)) := by omega
  have hcell : w.cell? ⟨g, 0, none⟩ = some (.int .u8 ((b.toNat : Nat) : Int)) := by rw [cell_of_heap hg]; rfl
  by_cases h0 : z = 0
  · subst h0
    refine ⟨.slice (some ⟨g, 0, none⟩) 1 1, w, ?_, ⟨rfl, .inr ⟨g, 1, _, rfl, Nat.zero_le _, hg, Nat.le_refl _, by simp [maxLen], by simp [bvs], by simp [bvs]⟩⟩, OwF.refl _ _⟩
    have hw0 : IntKind.i64.wrap 0 = 0 := by decide
    simp [Builtin.append_, run_underlying Tryd.underlying22, run_underlying hu3, sizeOf, typeInfo, hi, asInt, asIntOf, hw0, storeCells]
  · have hnf : ¬ (1 + z ≤ 1) := by omega
    have h63' : ¬ (9223372036854775807 < ((1 : Int) + (z : Int))) := by omega
    have hcap : Builtin.nextslicecap (1 + z) 1 ≤ 2000 := by
      unfold Builtin.nextslicecap
      split
      · omega
      · simp
    have h48' : ¬ (281474976710656 < Builtin.nextslicecap (1 + z) 1) := by omega
    have hzc : Builtin.zeroCells (Value.int .u8 0).cells z = (bvs (List.replicate z 0)).toArray := by
      apply Array.ext
      · simp [bvs, size_zeroCells, Value.cells]
      · intro j h1 h2
        simp [bvs, Builtin.zeroCells, Value.cells, Nat.mod_one]
    have hfo := run_firstCells_some (P := Tryd.prog) w.drew i.size 1 ⟨g, 0, none⟩ 1 1 (bvs [b]) (by rw [hz1]; rfl) (fun j v hv => by
      have hj : j = 0 := by
        have := (List.getElem?_eq_some_iff.1 hv).1
        simp [bvs] at this; omega
      subst hj
      rw [Addr.add_lit]
      simp [bvs] at hv
      rw [← hv]
      simpa using hcell)
    have hge := grownCap_ge w (1 + z) 1 5
    have hcm : grownCap w (1 + z) 1 5 ≤ maxLen := grownCap_le_maxLen w (1 + z) 1 5 (by simp only [maxLen]; omega)
    refine ⟨.slice (some ⟨w.heap.size, 0, none⟩) (1 + z) (grownCap w (1 + z) 1 5), w.drew.alloc (.cells ((bvs [b]).toArray ++ (bvs (List.replicate z 0)).toArray ++ Builtin.zeroCells (Value.int .u8 0).cells (grownCap w (1 + z) 1 5 - (1 + z))) 5), ?_, ?_, ?_⟩
    · simp [Builtin.append_, run_underlying Tryd.underlying22, run_underlying hu3, sizeOf, typeInfo, zeroValue, hi, hz0, asInt, asIntOf, hw, hn0, hn1, hnf, h63', h48', hz1, hz2, h0, Question.forced, newRow, grownCap, hzc, hz1 ▸ hfo]
      rw [← List.append_toArray, Array.append_assoc]
    · refine ⟨by simp [bvs_length], .inr ⟨w.heap.size, _, _, ?_, Nat.zero_le _, heap_alloc_new w.drew _, ?_, hcm, ?_, ?_⟩⟩
      · rw [List.length_cons, List.length_replicate, Nat.add_comm]
      · rw [List.length_cons, List.length_replicate, Nat.add_comm]; exact hge
      · simp [bvs, size_zeroCells, Value.cells]
        omega
      · simp [bvs]
    · exact ⟨((Fr.refl _ _).drew).alloc _, .inr ⟨_, rfl, Nat.le_refl _⟩⟩

/-- append of zeros, in a plain list of operations. -/
theorem wpList_zeros {w : World} {ops : Array Oper} {rest : List Oper} {o : Oper} {a : Act} {Q : Exit → Act → World → Prop} (hgd : o.guard = none) (s x : Operand)
    (ho : o.op = .call { callee := .builtin .append, args := #[s, x], argTypes := #[22, 3] }) (g z : Nat) (b : UInt8) (hs : a.eval s = .slice (some ⟨g, 0, none⟩) 1 1) (hx : a.eval x = .int .i64 ((z : Nat) : Int)) (hz : z ≤ 1000) (hg : w.heap[g]? = some (.cells (bvs [b]).toArray 5 (0, 0)))
    (h : ∀ v' w', Ow w' v' (b :: List.replicate z 0) → OwF w w' (.slice (some ⟨g, 0, none⟩) 1 1) v' → wpList Tryd.prog ops Q rest (a.put o.dst v') w') : wpList Tryd.prog ops Q (o :: rest) a w := by
  obtain ⟨v', w', hr, h2, h3⟩ := append_zeros w o.type g z b hz hg
  refine wpList_plain hgd fun _ hK => ?_
  unfold Oper.wp execOp
  simp only [ho, resolve, invoke, builtin, Sem.run_bind, Sem.run_pure, Result.andThen_ok, List.map_toArray, List.map_cons, List.map_nil, hs, hx, hr]
  exact hK _ _ (h v' w' h2 h3)

/-- How many zeros. -/
def zn (n : Nat) : Nat := (119 - n % 64) % 64

/-- What comes behind n bytes. -/
def pad (n : Nat) : List UInt8 := 128 :: List.replicate (zn n) 0 ++ lb (8 * n % 18446744073709551616)

theorem padding_any (w : World) (n : Nat) (hn : n < 18446744073709551616) : Calls Tryd.prog 51 #[.int .u64 ((n : Nat) : Int)] w fun e w' => ∃ v', e = .returned v' ∧ Ow w' v' (pad n) ∧ Fr (fun _ => False) w w' ∧ ∃ k, v'.ownBlock = some k ∧ w.heap.size ≤ k := by
  have hz : zn n < 64 := Nat.mod_lt _ (by decide)
  have e1 : (IntKind.u64.wrap (55 - ((n : Nat) : Int))).tmod 64 = ((zn n : Nat) : Int) := by
    have : IntKind.u64.wrap (55 - ((n : Nat) : Int)) = (55 - ((n : Nat) : Int)) % 18446744073709551616 := by
      simp only [IntKind.wrap, IntKind.bits, IntKind.signed]; simp
    rw [this, Int.tmod_eq_emod_of_nonneg (by omega)]
    unfold zn
    omega
  have e3 : IntKind.i64.wrap ((zn n : Nat) : Int) = ((zn n : Nat) : Int) := by
    simp only [IntKind.wrap, IntKind.bits, IntKind.signed]; simp; omega
  have e2 : IntKind.u64.wrap (8 * ((n : Nat) : Int)) = ((8 * n % 18446744073709551616 : Nat) : Int) := by
    simp only [IntKind.wrap, IntKind.bits, IntKind.signed]; simp
  have hpad : pad n = (128 :: List.replicate (zn n) 0) ++ lb (8 * n % 18446744073709551616) := rfl
  generalize 8 * n % 18446744073709551616 = m at *
  rw [hpad]
  clear hpad
  generalize zn n = z at *
  go_enter Tryd.func51, Tryd.ntmps51
  go_wp2_with (refine wpList_zeros rfl _ _ rfl w.heap.size z 128 rfl rfl (by omega) (heap_alloc_new w _) ?_)
  intro v1 w1 h1 f1
  have fr1 : Fr (fun _ => False) w w1 := ((Fr.refl _ _).alloc _).trans f1.1 (fun i hi e => by simp [Value.ownBlock] at e; omega)
  have hown : ∃ k, v1.ownBlock = some k ∧ w.heap.size ≤ k := by
    rcases f1.2 with h | ⟨k, h, hk⟩
    · exact ⟨w.heap.size, h, Nat.le_refl _⟩
    · exact ⟨k, h, by simp at hk; omega⟩
  have H1 := hide h1
  have F1 := hide fr1
  have HO := hide hown
  clear h1 f1 fr1 hown
  go_wp2_with fail
  refine (layLong_any w1 v1 _ m (unhide H1) (by simp; omega)).mono ?_
  rintro e w2 ⟨v2, rfl, h2, f2⟩
  obtain ⟨k1, hk1, hk2⟩ := unhide HO
  have fr2 : Fr (fun _ => False) w w2 := (unhide F1).trans f2.1 (fun i hi e => by rw [hk1] at e; simp at e; omega)
  have hown2 : ∃ k, v2.ownBlock = some k ∧ w.heap.size ≤ k := by
    rcases f2.2 with h | ⟨k, h, hk⟩
    · exact ⟨k1, h.trans hk1, hk2⟩
    · exact ⟨k, h, Nat.le_trans (unhide F1).size hk⟩
  have H2 := hide h2
  have F2 := hide fr2
  have HO2 := hide hown2
  clear h2 f2 fr2 hown2
  go_wp2_with fail
  go_ret
  exact ⟨_, rfl, unhide H2, unhide F2, unhide HO2⟩
end Go.Proofs.YtlicmlioilkfdaaDoor
