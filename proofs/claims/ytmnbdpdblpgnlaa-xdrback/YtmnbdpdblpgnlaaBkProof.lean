/-
  Proved: for all arguments, 'granarylaw01.XdrBack' returns true, and they read afterwards as they read before.
  No condition: the statement is XdrBackSaid itself.
-/
import Derived.Test.YtmnbdpdblpgnlaaBk
import Derived.Test.YtmnbdpdblpgnlaaRows
import Derived.WalkKit
import Derived.ProofKit
import Derived.OpenShut
import Derived.ShutString
import Derived.ChangeOld
import Derived.Below
import Derived.SizedLaws
import Derived.Deep.Slices
namespace Go.Proofs.Ytmnbdpdblpgnlaa.xdrBack
open Go.ChangeShapes Go.WideShapes Go.ChangeAt Go.RowKit Go.Deep
open Go.ChangeMaps (open_string shut_string)
set_option linter.unusedVariables false

theorem own : ownKnob Try.prog.godebug = none := by kernel_rfl
theorem laidOut : laidOutB Try.prog = true := by kernel_rfl

section
variable {H : Type} {enc : TypeId × Value → H} {W : World} {fuel : Nat} {d : DataW H} {pl : List MemPlace} {spare : Nat → Bool} {held : Bool}

/-- A []uint32 that came in, and how long its datum is. -/
theorem open_u {v : Value} (h : DataW.trod enc Try.prog W 0 spare held fuel 32 [v] = some (d, pl)) : ∃ l : List Int, RdV W v (uvs l) ∧ (∀ x ∈ l, 0 ≤ x ∧ x < 4294967296) ∧ (l = [] ∨ ∃ es sp, d = .slice es sp ∧ l.length = es.length) := by
  rcases open_ints Try.underlying32 Try.underlying52 (by kernel_rfl) h with ⟨hcs, hx⟩ | ⟨a, len, cap, zs, hcs, _, hl, hm, hz, hx, hcell, hwz⟩
  · simp at hcs
    subst hcs
    exact ⟨[], .inl ⟨rfl, rfl⟩, by simp, .inl rfl⟩
  · simp at hcs
    subst hcs
    simp only [Prod.mk.injEq] at hx
    have hzl : len ≤ zs.length := by rw [hz]; split <;> omega
    have hlen : (uvs (zs.take len)).length = len := by simp [uvs]; omega
    refine ⟨zs.take len, .inr ⟨a, cap, by rw [hlen], by rw [hlen]; exact hl, hm, fun j hj => ?_⟩, fun x hx => ?_, .inr ⟨_, _, hx.1, by simp [lits]⟩⟩
    · rw [hlen] at hj
      rw [hcell j (by omega)]
      have e : zs.getD j 0 = zs[j]'(by omega) := by simp [List.getD, show j < zs.length by omega]
      rw [e]
      simp [uvs]
    · have := bounds_u32 (hwz _ (List.mem_of_mem_take hx)); omega

/-- A []string that came in, and how long its datum is. -/
theorem open_t {v : Value} (h : DataW.trod enc Try.prog W 0 spare held fuel 33 [v] = some (d, pl)) : ∃ l : List ByteArray, RdV W v (svs l) ∧ (l = [] ∨ ∃ es sp, d = .slice es sp ∧ l.length = es.length) := by
  rcases open_slice1 Try.underlying33 (by kernel_rfl) h with ⟨hcs, hx⟩ | ⟨a, len, cap, m, n, V, D, Pl, hcs, _, hl, hm, hmm, hx, hcell⟩
  · simp at hcs
    subst hcs
    exact ⟨[], .inl ⟨rfl, rfl⟩, .inl rfl⟩
  · simp at hcs
    subst hcs
    simp only [Prod.mk.injEq] at hx
    have hlm : len ≤ m := by rw [hmm]; split <;> omega
    have hch : ∀ i, i < len → ∃ t : ByteArray, V i = .string t := fun i hi => by
      obtain ⟨t, ht, -⟩ := DataW.trod_string Try.underlying9 (hcell i (by omega)).2
      simp at ht
      exact ⟨t, ht⟩
    obtain ⟨L, hL⟩ := choose_lt (α := ByteArray) hch
    refine ⟨(List.range len).map L, .inr ⟨a, cap, by simp [svs], by simpa [svs] using hl, hm, fun j hj => ?_⟩, .inr ⟨_, _, hx.1, by simp⟩⟩
    have hj' : j < len := by simpa [svs] using hj
    rw [(hcell j (by omega)).1, hL j hj']
    simp [svs]
end

theorem rdv_block {w : World} {v : Value} {xs : List Value} (h : RdV w v xs) : ∀ b, v.ownBlock = some b → b < w.heap.size ∨ xs = [] := by
  intro b hb
  rcases h with ⟨rfl, _⟩ | ⟨ad, cap, rfl, h1, h2, h3⟩
  · simp [Value.ownBlock] at hb
  · by_cases e : xs.length = 0
    · exact .inr (List.eq_nil_of_length_eq_zero e)
    · have := World.block_lt_of_cell? w _ (h3 0 (by omega))
      rw [add_block] at this
      simp only [Value.ownBlock, Option.some.injEq] at hb
      subst hb
      exact .inl this

theorem uvs_nil {l : List Int} (h : uvs l = []) : l = [] := by simpa [uvs] using h
theorem svs_nil {l : List ByteArray} (h : svs l = []) : l = [] := by simpa [svs] using h

set_option maxRecDepth 100000 in
theorem lifted (os : Os) (started : os.Started) (H : Type) (enc : TypeId × Value → H) :
    ReturnsInHanded {} Try.checked os 5 .any (Rows.xdrBackSpec.pre6 enc Try.prog Try.f5 Rows.xdrBackRow.domain false) (Rows.xdrBackSpec.post enc Try.prog Try.f5 false true false false) := by
  refine returnsInHanded_of_change_sized (C := Try.checked) own started (by kernel_rfl) Try.func5
    (ChangeSpec.witness6 (enc := enc) (C := Try.checked) false ⟨#[], #[.int .u32 0, .int .i32 0, .int .u64 0, .bool false, .string ⟨#[]⟩, .slice none 0 0, .slice none 0 0], []⟩ 8 (by kernel_rfl) (by kernel_rfl) (by kernel_rfl) (by kernel_rfl)) ?_
  intro W base args ds gs before hval0 hW hcnd hsz0 _
  have hsz : (DataW.weightsEach Try.prog (Try.f5.params.toList ++ Rows.xdrBackSpec.plain.varTypes Try.prog) (ds ++ gs)).all (· ≤ reachBytes) = true := hsz0
  clear hsz0
  have hval : ∀ (j : Nat) t v, Try.f5.params[j]? = some t → args[j]? = some v → Value.okWide Try.prog W .any base t v := hval0
  have hW' := hW
  obtain ⟨p, q, hA0, hV, rfl, hfz, hnd⟩ := hW
  have hA : DataW.TrodAll enc Try.prog W 0 (fun _ => true) true Try.f5.params.toList args.toList ds p := hA0
  rw [Try.params5] at hA hval hsz
  obtain ⟨v0, vs0, d0, ds0, p0, q0, hargs, rfl, rfl, h0, r0⟩ := trodAll_cons hA
  obtain ⟨v1, vs1, d1, ds1, p1, q1, rfl, rfl, rfl, h1, r1⟩ := trodAll_cons r0
  obtain ⟨v2, vs2, d2, ds2, p2, q2, rfl, rfl, rfl, h2, r2⟩ := trodAll_cons r1
  obtain ⟨v3, vs3, d3, ds3, p3, q3, rfl, rfl, rfl, h3, r3⟩ := trodAll_cons r2
  obtain ⟨v4, vs4, d4, ds4, p4, q4, rfl, rfl, rfl, h4, r4⟩ := trodAll_cons r3
  obtain ⟨v5, vs5, d5, ds5, p5, q5, rfl, rfl, rfl, h5, r5⟩ := trodAll_cons r4
  obtain ⟨v6, vs6, d6, ds6, p6, q6, rfl, rfl, rfl, h6, r6⟩ := trodAll_cons r5
  obtain ⟨rfl, rfl, rfl⟩ := trodAll_nil r6
  obtain rfl : args = #[v0, v1, v2, v3, v4, v5, v6] := by cases args; simp_all
  obtain ⟨rfl, rfl⟩ := trodVars_none hV
  obtain ⟨n, rfl, rfl, rfl, w0⟩ := open_int Try.underlying52 (hval 0 52 v0 rfl rfl) h0
  obtain ⟨i, rfl, rfl, rfl, w1⟩ := open_int Try.underlying21 (hval 1 21 v1 rfl rfl) h1
  obtain ⟨h, rfl, rfl, rfl, w2⟩ := open_int Try.underlying31 (hval 2 31 v2 rfl rfl) h2
  obtain ⟨b, rfl, rfl, rfl⟩ := open_bool Try.underlying4 (hval 3 4 v3 rfl rfl) h3
  obtain ⟨s, rfl, rfl, rfl, ws⟩ := open_string Try.underlying9 (hval 4 9 v4 rfl rfl) h4
  obtain ⟨a5, len5, cap5, rfl⟩ := okWide_slice Try.underlying32 (hval 5 32 v5 rfl rfl)
  obtain ⟨a6, len6, cap6, rfl⟩ := okWide_slice Try.underlying33 (hval 6 33 v6 rfl rfl)
  have k5 := h5
  have k6 := h6
  have lt5 : ∀ x ∈ p5, x.block < W.heap.size := by obtain ⟨m, hm⟩ := k5; exact DataW.trod_lt m _ _ _ hm
  have lt6 : ∀ x ∈ p6, x.block < W.heap.size := by obtain ⟨m, hm⟩ := k6; exact DataW.trod_lt m _ _ _ hm
  obtain ⟨fuel5, hf5⟩ := h5
  obtain ⟨fuel6, hf6⟩ := h6
  obtain ⟨l, rl, wl, zl⟩ := open_u hf5
  obtain ⟨t, rt, zt⟩ := open_t hf6
  have hb52 : Try.prog.bytesOf 52 = 4 := by kernel_rfl
  have hb9 : Try.prog.bytesOf 9 = 16 := by kernel_rfl
  have hs4 : s.size ≤ 140737488351232 := by
    have := sized_string hsz (j := 4) (t := 9) (bytes := s.data.toList) rfl rfl
    simpa [reachBytes] using this
  have hl5 : l.length ≤ 140737488351232 := by
    rcases zl with rfl | ⟨es, sp, rfl, e⟩
    · simp
    · have := sized_slice hsz (j := 5) (t := 32) (e := 52) (elems := es) (spare := sp) rfl rfl Try.underlying32
      rw [hb52] at this
      unfold reachBytes at this
      omega
  have hl6 : t.length ≤ 140737488351232 := by
    rcases zt with rfl | ⟨es, sp, rfl, e⟩
    · simp
    · have := sized_slice hsz (j := 6) (t := 33) (e := 9) (elems := es) (spare := sp) rfl rfl Try.underlying33
      rw [hb9] at this
      unfold reachBytes at this
      omega
  have b0 := bounds_u32 w0
  have b1 := bounds_i32 w1
  have b2 := bounds_u64 w2
  clear hA0 hval0 hsz
  refine (xdrBack_any W n i h b s _ _ l t (by omega) (by omega) (by omega) hs4 rl hl5 wl rt hl6 (fun k hk => (rdv_block rl k hk).imp id uvs_nil) (fun k hk => (rdv_block rt k hk).imp id svs_nil)).mono fun e W' ⟨he, f⟩ => ?_
  subst he
  have bel : Below W.heap.size W W' := f.below (Nat.le_refl _) (fun _ _ h => h)
  exact ⟨_, rfl, _, _, _, [], _, [], hW', trodAll_mk1 (shut_bool Try.underlying4 _), (trodAll_cons_mk (shut_int Try.underlying52 w0) (trodAll_cons_mk (shut_int Try.underlying21 w1) (trodAll_cons_mk (shut_int Try.underlying31 w2) (trodAll_cons_mk (shut_bool Try.underlying4 _) (trodAll_cons_mk (shut_string Try.underlying9 ws) (trodAll_cons_mk (Below.trod laidOut (by kernel_rfl) (of_decide_eq_true (by kernel_rfl)) k5 bel lt5) (trodAll_cons_mk (Below.trod laidOut (by kernel_rfl) (of_decide_eq_true (by kernel_rfl)) k6 bel lt6) trodAll_mk0))))))), rfl, bel.frame _, fun h => by cases h⟩

theorem over : Rows.xdrBackRow.holds Try.pinned (OpenSpec.ofChange Rows.xdrBackSpec) :=
  OpenClaim.holds_of_wide 5 Try.f5 rfl rfl rfl rfl rfl rfl rfl ⟨rfl, rfl, rfl, rfl, rfl⟩ rfl rfl rfl rfl rfl (by kernel_rfl) Try.func5 (by kernel_rfl)
    (of_decide_eq_true (by kernel_rfl)) (by unfold Func.isWrapper; first | (rw [if_pos (by decide +kernel)]; kernel_rfl) | (rw [if_neg (by decide +kernel)]; exact ⟨rfl, rfl⟩))
    (fun os started H enc _ => lifted os started H enc)

theorem proved : Rows.XdrBackSaid := over
end Go.Proofs.Ytmnbdpdblpgnlaa.xdrBack

namespace Go.Proofs.Ytmnbdpdblpgnlaa
theorem xdrBack_holds : Rows.XdrBackSaid := xdrBack.proved
#print axioms xdrBack_holds
end Go.Proofs.Ytmnbdpdblpgnlaa
