/-
  Proved: for every input of bounded bulk 'granarylaw05.ShaHashes' returns true, and what came in reads afterwards as it read before: the second form's tied card.
-/
import Derived.Test.YtlicmlioilkfdaaDoorHw
import Derived.Test.YtlicmlioilkfdaaDoorArg
import Derived.Test.YtlicmlioilkfdaaDoorLd
import Derived.Test.YtlicmlioilkfdaaDoorTie
import Derived.Test.YtlicmlioilkfdaaDoorCards
import Derived.WalkKit
import Derived.Below
import Derived.Deep.DeepHandedRow
namespace Go.Proofs.YtlicmlioilkfdaaDoor
section
open Go.RowKit Go.ChangeShapes Go.WideShapes Go.ChangeAt Go.Deep
set_option linter.unusedVariables false
set_option linter.unusedSimpArgs false

theorem Tryd.u31 : Tryd.prog.underlying 31 = some (.slice 38) := by kernel_rfl

section
variable {H : Type} {enc : TypeId × Value → H} {W : World} {fuel : Nat} {d : DataW H} {pl : List MemPlace} {spare : Nat → Bool} {held : Bool}

/-- A Step that came in. -/
theorem open_step {cs : List Value} (h : DataW.trod enc Tryd.prog W 0 spare held fuel 38 cs = some (d, pl)) (hb : Rows.uptoBulk d ≤ 1048576) : ∃ s : Sp, cs = s.cells ∧ s.Ok W := by
  obtain ⟨fs, hfs, h0, h1⟩ : ∃ fs : Array Field, Tryd.prog.underlying 38 = some (.struct fs) ∧ fs.map (fun f => (f.type, f.offset)) = #[(3, 0), (22, 1)] ∧ fs.size = 2 := ⟨_, Tryd.underlying38, by kernel_rfl, by kernel_rfl⟩
  obtain ⟨xs, n, rfl, hx, hlen, hxl, hf⟩ := DataW.trod_struct hfs h
  have hc2 : Tryd.prog.cellsOf 38 = 2 := by kernel_rfl
  rw [hc2] at hlen
  rw [h1] at hxl
  simp only [Prod.mk.injEq] at hx
  obtain ⟨c0, c1, rfl⟩ : ∃ c0 c1, cs = [c0, c1] := by
    rcases cs with _ | ⟨a, _ | ⟨b, _ | ⟨c, r⟩⟩⟩
    · simp at hlen
    · simp at hlen
    · exact ⟨a, b, rfl⟩
    · simp at hlen
  obtain ⟨x0, x1, rfl⟩ : ∃ x0 x1, xs = [x0, x1] := by
    rcases xs with _ | ⟨a, _ | ⟨b, _ | ⟨c, r⟩⟩⟩
    · simp at hxl
    · simp at hxl
    · exact ⟨a, b, rfl⟩
    · simp at hxl
  have b : ∀ x ∈ [x0, x1], Rows.uptoBulk x.1 ≤ 1048576 := fun x hx' => by
    have := bulk_mem (List.mem_map.2 ⟨x, hx', rfl⟩ : x.1 ∈ [x0, x1].map (·.1))
    rw [hx.1] at hb
    simp only [Rows.uptoBulk] at hb
    omega
  have k3 : Tryd.prog.cellsOf 3 = 1 := by kernel_rfl
  have k22 : Tryd.prog.cellsOf 22 = 1 := by kernel_rfl
  have e0 : (fs[0]?).map (fun f => (f.type, f.offset)) = some (3, 0) := by rw [← Array.getElem?_map, h0]; rfl
  have e1 : (fs[1]?).map (fun f => (f.type, f.offset)) = some (22, 1) := by rw [← Array.getElem?_map, h0]; rfl
  obtain ⟨fa, ha, hae⟩ := Option.map_eq_some_iff.1 e0
  obtain ⟨fb, hbb, hbe⟩ := Option.map_eq_some_iff.1 e1
  simp only [Prod.mk.injEq] at hae hbe
  have f0 := hf 0 fa ha
  have f1 := hf 1 fb hbb
  rw [hae.1, hae.2, k3] at f0
  rw [hbe.1, hbe.2, k22] at f1
  have f0' : DataW.trod enc Tryd.prog W 0 spare held n 3 [c0] = some x0 := f0
  have f1' : DataW.trod enc Tryd.prog W 0 spare held n 22 [c1] = some (x1.1, x1.2) := f1
  obtain ⟨n0, e0, -⟩ := DataW.trod_int Tryd.underlying3 f0'
  obtain ⟨l2, r2, z2⟩ := open_rd f1'
  obtain rfl : c0 = .int .i64 n0 := by simpa using e0
  exact ⟨⟨n0, c1, l2⟩, rfl, ⟨r2, Nat.le_trans z2 (b x1 (by simp))⟩⟩

/-- A []Step that came in. -/
theorem open_steps {v : Value} (h : DataW.trod enc Tryd.prog W 0 spare held fuel 31 [v] = some (d, pl)) (hb : Rows.uptoBulk d ≤ 1048576) : ∃ ss, RdS W v ss := by
  rcases open_slice Tryd.u31 h with ⟨hcs, hx⟩ | ⟨a, len, cap, m, n, D, Pl, hcs, _, hl, hm, hmm, hx, hcell⟩
  · simp at hcs
    subst hcs
    exact ⟨[], .inl ⟨rfl, rfl⟩⟩
  · simp at hcs
    subst hcs
    simp only [Prod.mk.injEq] at hx
    have hlm : len ≤ m := by rw [hmm]; split <;> omega
    have hbulk : Rows.uptoBulkAll ((List.range len).map D) ≤ 1048576 := by
      rw [hx.1] at hb
      simp only [Rows.uptoBulk] at hb
      omega
    have hc2 : Tryd.prog.cellsOf 38 = 2 := by kernel_rfl
    rw [hc2] at hcell
    have hch : ∀ i, i < len → ∃ s : Sp, W.cells? 0 (a.add (i * 2)) 2 = some s.cells ∧ s.Ok W := fun i hi => by
      obtain ⟨cs', h1, h2⟩ := hcell i (by omega)
      obtain ⟨s, rfl, hs⟩ := open_step h2 (Nat.le_trans (bulk_mem (List.mem_map.2 ⟨i, List.mem_range.2 hi, rfl⟩ : D i ∈ (List.range len).map D)) hbulk)
      exact ⟨s, h1, hs⟩
    obtain ⟨L, hL⟩ := choose_lt (α := Sp) hch
    refine ⟨(List.range len).map L, .inr ⟨a, cap, by simp, by simpa using hl, hm, fun j hj => ?_⟩⟩
    have hj' : j < len := by simpa using hj
    have e : ((List.range len).map L)[j]'hj = L j := by simp
    rw [e]
    refine ⟨fun i hi => ?_, (hL j hj').2⟩
    have hc := World.cells?_some (hL j hj').1
    have hci := hc.2.2 i hi
    rw [add_add] at hci
    rw [hci]
    exact List.getElem?_eq_getElem (by simpa [Sp.cells] using hi)
end
end
end Go.Proofs.YtlicmlioilkfdaaDoor

namespace Go.Proofs.YtlicmlioilkfdaaDoor.shaHashes
open Go.ChangeShapes Go.WideShapes Go.ChangeAt Go.RowKit
set_option linter.unusedVariables false
set_option linter.unusedSimpArgs false

theorem laidOut : laidOutB Tryd.prog = true := by kernel_rfl

theorem reads (os : Os) {H : Type} (enc : TypeId × Value → H) : ∃ places, DataW.whole enc Tryd.prog ((World.doorLaid Tryd.prog 400 os).forCall (fun _ _ => 0) ⟨#[], #[.slice none 0 0], []⟩).memory Tryd.f4.params.toList (Rows.OpenSpec.upto Rows.shaHashesSpec).vars false #[Value.slice none 0 0].toList 8 = some ([.nil], [], places) :=
  ⟨[], by kernel_rfl⟩

set_option maxRecDepth 100000 in
theorem lifted (os : Os) (started : os.Started) (H : Type) (enc : TypeId × Value → H) (F : Stop.Interp) :
    ReturnsInHanded {} Tryd.checked os 4 .any ((Rows.OpenSpec.upto Rows.shaHashesSpec).preRow enc Tryd.prog Tryd.f4 Rows.shaHashesUptoRow.domain false Rows.shaHashesUptoRow.laid) (((Rows.OpenSpec.upto Rows.shaHashesSpec).at F).post enc Tryd.prog Tryd.f4 false true false false) := by
  obtain ⟨places, hx⟩ := reads os enc
  have hok : Input.okWideB Tryd.prog ((World.doorLaid Tryd.prog 400 os).forCall (fun _ _ => 0) ⟨#[], #[.slice none 0 0], []⟩) 4 ⟨#[], #[.slice none 0 0], []⟩ = true := by kernel_rfl
  refine returnsInHanded_of_row (C := Tryd.checked) (s := Rows.OpenSpec.upto Rows.shaHashesSpec) Tryd.own started (by kernel_rfl) Tryd.func4
    ⟨World.doorLaid Tryd.prog 400 os, fun _ _ => 0, ⟨#[], #[.slice none 0 0], []⟩, rfl, World.shaped_of_RefB (by kernel_rfl) (by kernel_rfl), (Input.okWide_of_okWideB (base := 0) hok).1, (Input.okWide_of_okWideB hok).2,
      OpenSpec.preRow_of_cond 8 hx (by kernel_rfl) (fun k hk => by cases hk; kernel_rfl) (by kernel_rfl) (door_met os _), by
        simp only [Assume.holds]
        exact ⟨by simp, by simp, fun _ => Modest.zero, by simp, by simp⟩⟩ ?_
  intro W base args ds gs before hval0 hW _ hcond _ hL _ _
  have hval : ∀ (j : Nat) t v, Tryd.f4.params[j]? = some t → args[j]? = some v → Value.okWide Tryd.prog W .any base t v := hval0
  have hW' := hW
  obtain ⟨p, q, hA0, hV, rfl, hfz, hnd⟩ := hW
  have hA : DataW.TrodAll enc Tryd.prog W 0 (fun _ => true) true Tryd.f4.params.toList args.toList ds p := hA0
  rw [Tryd.params4] at hA hval
  obtain ⟨v0, vs0, d0, ds0, p0, q0, hargs, rfl, rfl, h0, r0⟩ := trodAll_cons hA
  obtain ⟨rfl, rfl, rfl⟩ := trodAll_nil r0
  obtain rfl : args = #[v0] := by cases args; simp_all
  obtain ⟨rfl, rfl⟩ := trodVars_none hV
  have hk := hcond _ rfl
  simp only [List.append_nil] at hW' hk
  have hbk : Rows.uptoBulkAll [d0] ≤ 1048576 := of_decide_eq_true hk
  have hb0 := Nat.le_trans (bulk_mem (show d0 ∈ [d0] by simp)) hbk
  clear hk hbk
  obtain ⟨a0, len0, cap0, rfl⟩ := okWide_slice Tryd.u31 (hval 0 31 v0 rfl rfl)
  have k0 := h0
  have lt0 : ∀ x ∈ p0, x.block < W.heap.size := by obtain ⟨m, hm⟩ := k0; exact DataW.trod_lt m _ _ _ hm
  obtain ⟨fuel0, hf0⟩ := h0
  obtain ⟨l0, rd0⟩ := open_steps hf0 hb0
  have T := of_laid hL
  clear hA0 hval0
  refine (shaHashes_any W T _ l0 rd0).mono fun e W' ⟨he, f⟩ => ?_
  have bel := f.below (Nat.le_refl _) (fun _ _ h => h)
  subst he
  exact ⟨_, rfl, _, _, _, [], _, [], hW', trodAll_mk1 (shut_bool Tryd.underlying4 _), (trodAll_cons_mk (Below.trod laidOut (by kernel_rfl) (of_decide_eq_true (by kernel_rfl)) k0 bel lt0) trodAll_mk0), rfl, bel.frame _, fun h => by cases h⟩

theorem over : Rows.ShaHashesUptoSaid :=
  OpenClaim.holds_of_cond 4 Tryd.f4 rfl rfl rfl rfl rfl rfl rfl ⟨rfl, rfl, rfl, rfl, rfl⟩ rfl rfl rfl rfl rfl (by kernel_rfl) Tryd.func4 (by kernel_rfl)
    (of_decide_eq_true (by kernel_rfl)) (by unfold Func.isWrapper; first | (rw [if_pos (by decide +kernel)]; kernel_rfl) | (rw [if_neg (by decide +kernel)]; exact ⟨rfl, rfl⟩))
    (fun os started H enc _ F => by rw [OpenClaim.pre_eq_preRow]; exact lifted os started H enc F)

theorem proved : Rows.ShaHashesUptoCardSaid :=
  Claim7.holds_tied_plain_at .later [] _ _ _ _ over (fun _ h => by cases h) (by kernel_rfl) (fun _ h => by cases h) shaHashesUpto_row_tie rfl ⟨rfl, rfl⟩ (by kernel_rfl) rfl
    (fun f fn hf hfn => by
      obtain rfl : f = 4 := Option.some.inj ((show Tryd.prog.funcNamed "granary/granarylaw05.ShaHashes" = some 4 by kernel_rfl).symm.trans hf) |>.symm
      obtain rfl : fn = Tryd.f4 := (Option.some.inj (Tryd.func4.symm.trans hfn)).symm
      exact ⟨by kernel_rfl, fun j t ht => by
        rw [Tryd.params4] at ht
        have hm : t ∈ [31] := by simpa using Array.mem_of_getElem? ht
        have hall : ([31].all fun u => !Tryd.prog.wantsStandIn u) = true := by kernel_rfl
        exact (show Tryd.prog.wantsStandIn t = false by simpa using List.all_eq_true.1 hall t hm)⟩)
    (by kernel_rfl)
end Go.Proofs.YtlicmlioilkfdaaDoor.shaHashes

namespace Go.Proofs.YtlicmlioilkfdaaDoor
theorem shaHashesUptoCard_holds : Rows.ShaHashesUptoCardSaid := shaHashes.proved
#print axioms shaHashesUptoCard_holds
end Go.Proofs.YtlicmlioilkfdaaDoor
