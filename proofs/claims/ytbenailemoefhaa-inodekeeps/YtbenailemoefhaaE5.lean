/-
  The document's PutHandle.
-/
import Derived.Test.YtbenailemoefhaaE2
import Derived.Test.YtbenailemoefhaaC4
namespace Go.Proofs.Ytbenailemoefhaa
open Go.RowKit Go.Lib
set_option linter.unusedVariables false
set_option linter.unusedSimpArgs false

attribute [local go_sem ↓] Go.wp_at_zero Go.wp_at_succ

theorem fa72_0 (b o : Nat) (W : World) : (Instr.fieldAt 72 (.pointer (some ⟨b, o, none⟩)) 0).run Try.prog W = .ok (.pointer (some ⟨b, o + 0, none⟩)) W := by simp [go_sem]
theorem fa72_1 (b o : Nat) (W : World) : (Instr.fieldAt 72 (.pointer (some ⟨b, o, none⟩)) 1).run Try.prog W = .ok (.pointer (some ⟨b, o + 1, none⟩)) W := by simp [go_sem]
theorem fa72_2 (b o : Nat) (W : World) : (Instr.fieldAt 72 (.pointer (some ⟨b, o, none⟩)) 2).run Try.prog W = .ok (.pointer (some ⟨b, o + 2, none⟩)) W := by simp [go_sem]
theorem path4 {l : List Oper} {a b c d : Nat} (h : (reachL a l []).getD b false = true) (h2 : (reachL b l []).getD c false = true) (h3 : (reachL c l []).getD d false = true) : ∀ k i j, ([a, b, c, d] : List Nat)[k]? = some i → ([a, b, c, d] : List Nat)[k + 1]? = some j → Path l j i := by
  intro k i j hi hj
  rcases k with _ | k
  · simp at hi hj; subst hi hj; exact waits h
  · rcases k with _ | k
    · simp at hi hj; subst hi hj; exact waits h2
    · rcases k with _ | k
      · simp at hi hj; subst hi hj; exact waits h3
      · rcases k with _ | k <;> simp at hj
theorem x_mk4 {ρ : Operand → Value} {o : Oper} {w : World} (ho : o.op = .buildSlice 26 4 #[(0, .const (.int .u8 71)), (1, .const (.int .u8 82)), (2, .const (.int .u8 78)), (3, .const (.int .u8 49))]) (hr : ∀ v, ρ (.const v) = v) : (execOp ρ o).run Try.prog w = .ok (.value (.slice (some ⟨w.heap.size, 0, none⟩) 4 4)) (w.alloc (.cells #[.int .u8 71, .int .u8 82, .int .u8 78, .int .u8 49] 5)) := by
  simp [execOp, ho, hr, go_sem]
theorem x_convW {ρ : Operand → Value} {o : Oper} {w w2 : World} {s t : TypeId} {x : Operand} {v u : Value} (ho : o.op = .convert s t x) (hx : ρ x = v) (hc : (convert s t v).run Try.prog w = .ok u w2) : (execOp ρ o).run Try.prog w = .ok (.value u) w2 := by
  subst hx; simp [execOp, ho, hc]
theorem fz_fr {W : World} {g : Nat} {S : Nat → Prop} (hS : S g) : Fr S W (W.freeze ⟨g, 4, none⟩ 1) := by
  unfold World.freeze
  rw [if_neg (by decide)]
  refine ⟨rfl, rfl, rfl, by simp, fun k hk hs => ?_⟩
  show (W.heap.modify g _)[k]? = _
  rw [Array.getElem?_modify]
  have : g ≠ k := fun e => hs (by rw [← e]; exact hS)
  simp [this]
section
variable {W W0 : World} {g : Nat} (h : W.heap[g]? = some (.cells #[.int .u8 71, .int .u8 82, .int .u8 78, .int .u8 49] 5 (0, 0)))
include h
theorem conv_mark : (convert 26 26 (.slice (some ⟨g, 0, none⟩) 4 4)).run Try.prog W = .ok (.slice (some ⟨g, 0, none⟩) 4 4) (W.freeze ⟨g, 4, none⟩ 1) := by
  have hsh : W.shape? g = some (5, 4) := by unfold World.shape?; rw [h]; rfl
  simp [convert, run_underlying Try.underlying26, run_underlying Try.underlying5, markStringish, hsh]
theorem fz_heap : (W.freeze ⟨g, 4, none⟩ 1).heap[g]? = some (.cells #[.int .u8 71, .int .u8 82, .int .u8 78, .int .u8 49] 5 (4, 5)) := by
  unfold World.freeze
  rw [if_neg (by decide)]
  show (W.heap.modify g _)[g]? = _
  rw [Array.getElem?_modify]
  simp [h]
theorem fz_nm (hg : W0.heap.size ≤ g) (f : Fr (fun _ => False) W0 W) : Nm W0 (W.freeze ⟨g, 4, none⟩ 1) (.slice (some ⟨g, 0, none⟩) 4 4) mk4 := by
  have h2 := fz_heap h
  refine ⟨⟨g, rfl, hg, lt_of_heap h2⟩, Rd.lit rfl (by decide) (by decide) (fun j hj => ?_), f.trans (fz_fr (S := fun k => k = g) rfl) (fun k hk e => by omega)⟩
  rw [Nat.zero_add]
  unfold World.cell?
  simp only [h2]
  have hj4 : j < 4 := hj
  rcases (show j = 0 ∨ j = 1 ∨ j = 2 ∨ j = 3 by omega) with rfl | rfl | rfl | rfl <;> rfl
end
def kNm {S : Nat → Prop} (m : Nat) (W0 : World) (l : List UInt8) : Kd S := .st m (fun v W => Nm W0 W v l) (fun v w1 w2 h f => h.kept f)
def kMk {S : Nat → Prop} (W0 : World) : Kd S := .st 0 (fun v W => ∃ g, v = .slice (some ⟨g, 0, none⟩) 4 4 ∧ W.heap[g]? = some (.cells #[.int .u8 71, .int .u8 82, .int .u8 78, .int .u8 49] 5 (0, 0)) ∧ W0.heap.size ≤ g) (fun v w1 w2 h f => by
  obtain ⟨g, e, h1, h2⟩ := h
  exact ⟨g, e, by rw [f.block _ (lt_of_heap h1) id]; exact h1, h2⟩)
set_option maxRecDepth 100000 in
set_option maxHeartbeats 4000000 in
theorem rputH_any (x : Ha) (hx : x.Ok) (w : World) : Calls Try.prog 35 #[x.v] w fun e w' => ∃ v', e = .returned (.tuple #[v', .int .i64 (hE x)]) ∧ Nb w w' v' (hR x) := by
  have HOK := hx
  have HR : Hid (hR x = if cnB x = true then hbL x else []) := hide rfl
  have HE : Hid (hE x = if cnB x = true then 0 else 121) := hide rfl
  have HCB : Hid (cnB x = ((x.n != 0) && (x.g != 0))) := hide rfl
  rw [unhide HCB] at HR HE
  generalize hR x = R at *
  generalize hE x = ee at *
  clear hx HCB
  rcases h1 : (x.n == 0) with _ | _
  rotate_left
  · have h1' : (x.n != 0) = false := by simp_all
    rw [h1'] at HR HE
    have hR0 : R = [] := unhide HR
    have hE0 : ee = 121 := unhide HE
    subst hR0 hE0
    clear HR HE h1'
    go_enter Try.func35, Try.ntmps35
    go_wp2_with fail
    go_ret2
    exact ⟨_, rfl, Nb.nil ((Fr.refl _ _).alloc _)⟩
  have h1' : (x.n != 0) = true := by simp_all
  rcases h2 : (x.g == 0) with _ | _
  rotate_left
  · have h2' : (x.g != 0) = false := by simp_all
    rw [h1', h2'] at HR HE
    have hR0 : R = [] := unhide HR
    have hE0 : ee = 121 := unhide HE
    subst hR0 hE0
    clear HR HE h1' h2'
    go_enter Try.func35, Try.ntmps35
    go_wp2_with fail
    go_ret2
    exact ⟨_, rfl, Nb.nil ((Fr.refl _ _).alloc _)⟩
  · have h2' : (x.g != 0) = true := by simp_all
    rw [h1', h2'] at HR HE
    have hE0 : ee = 0 := unhide HE
    have HR2 : Hid (R = hbL x) := hide (unhide HR)
    subst hE0
    clear HR HE h1' h2'
    go_enter Try.func35, Try.ntmps35
    go_wp2_with fail
    have HB : Hid (((w.alloc (.cells x.cs 72))).heap[w.heap.size]? = some (.cells x.cs 72 (0, 0))) := hide (heap_alloc_new w _)
    have HF0 : Hid (Fr (fun _ => False) (w.alloc (.cells x.cs 72)) (w.alloc (.cells x.cs 72))) := hide (Fr.refl _ _)
    refine wp_nameK ?_
    intro a0 hA
    have h0 : a0.tmps.getD 0 undef = x.v := by rw [hA]; rfl
    have h1 : a0.tmps.getD 1 undef = .pointer (some ⟨w.heap.size, 0, none⟩) := by rw [hA]; rfl
    have hsz : a0.tmps.size = 23 := by rw [hA]; rfl
    have hdf : a0.defers = [] := by rw [hA]
    clear hA
    refine wp_region_kinds3 (fun k => w.heap.size + 1 ≤ k) (by kernel_rfl) (by kernel_rfl) (by decide +kernel) (by rw [hsz]; decide +kernel) [kMk (w.alloc (.cells x.cs 72)), kNm 1 (w.alloc (.cells x.cs 72)) mk4, .eq (.pointer (some ⟨w.heap.size, 0, none⟩)), .eq (.int .u32 x.f), kNb 2 (w.alloc (.cells x.cs 72)) (mk4 ++ be 4 x.f.toNat), .eq (.pointer (some ⟨w.heap.size, 1, none⟩)), .eq (.int .u64 x.n), kNb 3 (w.alloc (.cells x.cs 72)) ((mk4 ++ be 4 x.f.toNat) ++ be 8 x.n.toNat), .eq (.pointer (some ⟨w.heap.size, 2, none⟩)), .eq (.int .u32 x.g), kNb 4 (w.alloc (.cells x.cs 72)) (((mk4 ++ be 4 x.f.toNat) ++ be 8 x.n.toNat) ++ be 4 x.g.toNat), kNb 4 (w.alloc (.cells x.cs 72)) (((mk4 ++ be 4 x.f.toNat) ++ be 8 x.n.toNat) ++ be 4 x.g.toNat), .eq (.int .i64 0)] [1, 4, 7, 10] (by decide) (by decide) (path4 (by kernel_rfl) (by kernel_rfl) (by kernel_rfl)) (fun k W => k = 0 → Fr (fun _ => False) (w.alloc (.cells x.cs 72)) W) (fun _ => (Fr.refl _ _).drew) ?steps ?done
    case steps =>
      refine ⟨?_, ?_⟩
      · intro a' w' k' hb hf hs hc hq hg hd
        exact .inl ⟨wantedN rfl, k_new _ _ (by decide) (fun e => (hs e).trans ((Fr.refl _ _).alloc _) (fun _ _ e => e)) ((Fr.refl _ _).alloc _) (x_mk4 rfl (fun _ => rfl)) ⟨Nat.zero_le _, fun _ => ⟨_, rfl, heap_alloc_new _ _, Nat.le_trans (by simp) hf.size⟩⟩⟩
      refine ⟨?_, ?_⟩
      · intro a' w' k' hb hf hs hc hq hg hd
        obtain rfl := hc 0 rfl; have hh := ((hd 0 (by kernel_rfl) 12 rfl)); obtain ⟨g9, e9, h9, n9⟩ := hh.2 rfl; have hF0 := hs rfl; exact .inl ⟨wantedN rfl, k_chain _ _ (by decide) (fun e => by omega) (fz_fr (by simpa using n9)) (x_convW rfl e9 (conv_mark h9)) ⟨Nat.le_refl _, fun _ => fz_nm h9 n9 ((unhide HF0).trans hF0 (fun _ _ e => e))⟩⟩
      refine ⟨?_, ?_⟩
      · intro a' w' k' hb hf hs hc hq hg hd
        exact .inl ⟨wantedN rfl, k_val (.pointer (some ⟨w.heap.size, 0, none⟩)) (by decide) hs (x_field (of := 0) (off := 0) (by intro W9; simpa using fa72_0 w.heap.size 0 W9) rfl ((hb.old 1 (by decide +kernel)).trans h1)) rfl⟩
      refine ⟨?_, ?_⟩
      · intro a' w' k' hb hf hs hc hq hg hd
        exact .inl ⟨wantedN rfl, k_val (.int .u32 x.f) (by decide) hs (x_load1 ld23 rfl (hd 2 (by kernel_rfl) 14 rfl) (cellS hf (unhide HB) 0 rfl)) rfl⟩
      refine ⟨?_, ?_⟩
      · intro a' w' k' hb hf hs hc hq hg hd
        obtain rfl := hc 1 rfl; have hh := ((hd 1 (by kernel_rfl) 13 rfl)); have hN := hh.2 rfl; exact .inl ⟨wantedN rfl, k_callC 42 _ (by decide) (e_call2 rfl rfl rfl (hd 3 (by kernel_rfl) 15 rfl) (fun _ _ => by simp [go_sem])) ((fourM_any (w.alloc (.cells x.cs 72)) _ _ _ _ (x.f.toNat) (by have := HOK.f; omega) hN (by decide) (by have := HOK.f; omega) (by simp [be_length, mk4])).mono (by rintro e w9 ⟨v9, rfl, h9, f9⟩; exact ⟨_, rfl, ⟨Nat.le_refl _, fun _ => h9⟩, f9.mono (fun k _ e => by simpa using e), fun e => by omega⟩))⟩
      refine ⟨?_, ?_⟩
      · intro a' w' k' hb hf hs hc hq hg hd
        exact .inl ⟨wantedN rfl, k_val (.pointer (some ⟨w.heap.size, 1, none⟩)) (by decide) hs (x_field (of := 0) (off := 1) (by intro W9; simpa using fa72_1 w.heap.size 0 W9) rfl ((hb.old 1 (by decide +kernel)).trans h1)) rfl⟩
      refine ⟨?_, ?_⟩
      · intro a' w' k' hb hf hs hc hq hg hd
        exact .inl ⟨wantedN rfl, k_val (.int .u64 x.n) (by decide) hs (x_load1 ld22 rfl (hd 5 (by kernel_rfl) 17 rfl) (cellS hf (unhide HB) 1 rfl)) rfl⟩
      refine ⟨?_, ?_⟩
      · intro a' w' k' hb hf hs hc hq hg hd
        obtain rfl := hc 2 rfl; have hh := ((hd 4 (by kernel_rfl) 16 rfl)); have hN := hh.2 rfl; exact .inl ⟨wantedN rfl, k_callC 43 _ (by decide) (e_call2 rfl rfl rfl (hd 6 (by kernel_rfl) 18 rfl) (fun _ _ => by simp [go_sem])) ((eight_any (w.alloc (.cells x.cs 72)) _ _ _ _ (x.n.toNat) (by have := HOK.n; omega) hN (by have := HOK.n; omega) (by simp [be_length, mk4])).mono (by rintro e w9 ⟨v9, rfl, h9, f9⟩; exact ⟨_, rfl, ⟨Nat.le_refl _, fun _ => h9⟩, f9.mono (fun k _ e => by simpa using e), fun e => by omega⟩))⟩
      refine ⟨?_, ?_⟩
      · intro a' w' k' hb hf hs hc hq hg hd
        exact .inl ⟨wantedN rfl, k_val (.pointer (some ⟨w.heap.size, 2, none⟩)) (by decide) hs (x_field (of := 0) (off := 2) (by intro W9; simpa using fa72_2 w.heap.size 0 W9) rfl ((hb.old 1 (by decide +kernel)).trans h1)) rfl⟩
      refine ⟨?_, ?_⟩
      · intro a' w' k' hb hf hs hc hq hg hd
        exact .inl ⟨wantedN rfl, k_val (.int .u32 x.g) (by decide) hs (x_load1 ld23 rfl (hd 8 (by kernel_rfl) 20 rfl) (cellS hf (unhide HB) 2 rfl)) rfl⟩
      refine ⟨?_, ?_⟩
      · intro a' w' k' hb hf hs hc hq hg hd
        obtain rfl := hc 3 rfl; have hh := ((hd 7 (by kernel_rfl) 19 rfl)); have hN := hh.2 rfl; exact .inl ⟨wantedN rfl, k_callC 42 _ (by decide) (e_call2 rfl rfl rfl (hd 9 (by kernel_rfl) 21 rfl) (fun _ _ => by simp [go_sem])) ((four_any (w.alloc (.cells x.cs 72)) _ _ _ _ (x.g.toNat) (by have := HOK.g; omega) hN (by have := HOK.g; omega) (by simp [be_length, mk4])).mono (by rintro e w9 ⟨v9, rfl, h9, f9⟩; exact ⟨_, rfl, ⟨Nat.le_refl _, fun _ => h9⟩, f9.mono (fun k _ e => by simpa using e), fun e => by omega⟩))⟩
      refine ⟨?_, ?_⟩
      · intro a' w' k' hb hf hs hc hq hg hd
        have hh := (hd 10 (by kernel_rfl) 22 rfl); exact .inl ⟨wantedN rfl, k_val _ (by decide) hs (x_assign rfl rfl) hh⟩
      refine ⟨?_, ?_⟩
      · intro a' w' k' hb hf hs hc hq hg hd
        exact .inl ⟨wantedN rfl, k_val (.int .i64 0) (by decide) hs (x_assign rfl rfl) rfl⟩
      exact trivial
    case done =>
      intro a' w9 hb hf hs hall
      have hdf' : a'.defers = [] := by rw [hb.defers]; exact hdf
      have hN := (show _ ∧ _ from hall 11 (by decide) 2 rfl).2 rfl
      have hv3 : a'.tmps.getD 3 undef = .int .i64 0 := hall 12 (by decide) 3 rfl
      have hr : bodyPost Try.prog Try.f35 (fun e w' => ∃ v', e = .returned (.tuple #[v', .int .i64 0]) ∧ Nb w w' v' R) .ret a' w9 :=
        bodyPost_ret (v := .tuple #[a'.tmps.getD 2 undef, .int .i64 0]) (by
          have h3' : a'.tmps[3]?.getD undef = .int .i64 0 := by simpa using hv3
          simp [results, Try.results35, go_sem, h3']) hdf' ⟨_, rfl, by
            rw [unhide HR2]
            exact ⟨hN.own, ((Fr.refl _ _).alloc _).trans hN.fr (fun _ _ e => e), fun k hk => by have := hN.new k hk; simp at this; omega⟩⟩
      clear hall hb
      apply_assumption
      exact wp_ret hr
end Go.Proofs.Ytbenailemoefhaa
