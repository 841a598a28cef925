/-
  The document's Put.
-/
import Derived.Test.YtbenailemoefhaaC3
import Derived.Test.YtbenailemoefhaaCg4
import Derived.Test.YtbenailemoefhaaB1
import Derived.Deep.DeepCutAuto
import Derived.Deep.CutBlock
namespace Go.Proofs.Ytbenailemoefhaa
open Go.RowKit Go.Lib
set_option linter.unusedVariables false
set_option linter.unusedSimpArgs false

attribute [local go_sem ↓] Go.wp_at_zero Go.wp_at_succ

theorem fa25_0 (b o : Nat) (W : World) : (Instr.fieldAt 25 (.pointer (some ⟨b, o, none⟩)) 0).run Try.prog W = .ok (.pointer (some ⟨b, o + 0, none⟩)) W := by simp [go_sem]
theorem fa25_1 (b o : Nat) (W : World) : (Instr.fieldAt 25 (.pointer (some ⟨b, o, none⟩)) 1).run Try.prog W = .ok (.pointer (some ⟨b, o + 1, none⟩)) W := by simp [go_sem]
theorem fa25_2 (b o : Nat) (W : World) : (Instr.fieldAt 25 (.pointer (some ⟨b, o, none⟩)) 2).run Try.prog W = .ok (.pointer (some ⟨b, o + 2, none⟩)) W := by simp [go_sem]
theorem fa25_3 (b o : Nat) (W : World) : (Instr.fieldAt 25 (.pointer (some ⟨b, o, none⟩)) 3).run Try.prog W = .ok (.pointer (some ⟨b, o + 3, none⟩)) W := by simp [go_sem]
theorem fa25_4 (b o : Nat) (W : World) : (Instr.fieldAt 25 (.pointer (some ⟨b, o, none⟩)) 4).run Try.prog W = .ok (.pointer (some ⟨b, o + 4, none⟩)) W := by simp [go_sem]
theorem fa25_5 (b o : Nat) (W : World) : (Instr.fieldAt 25 (.pointer (some ⟨b, o, none⟩)) 5).run Try.prog W = .ok (.pointer (some ⟨b, o + 5, none⟩)) W := by simp [go_sem]
theorem fa25_6 (b o : Nat) (W : World) : (Instr.fieldAt 25 (.pointer (some ⟨b, o, none⟩)) 6).run Try.prog W = .ok (.pointer (some ⟨b, o + 6, none⟩)) W := by simp [go_sem]
theorem fa25_7 (b o : Nat) (W : World) : (Instr.fieldAt 25 (.pointer (some ⟨b, o, none⟩)) 7).run Try.prog W = .ok (.pointer (some ⟨b, o + 7, none⟩)) W := by simp [go_sem]
theorem fa25_8 (b o : Nat) (W : World) : (Instr.fieldAt 25 (.pointer (some ⟨b, o, none⟩)) 8).run Try.prog W = .ok (.pointer (some ⟨b, o + 8, none⟩)) W := by simp [go_sem]
theorem fa25_9 (b o : Nat) (W : World) : (Instr.fieldAt 25 (.pointer (some ⟨b, o, none⟩)) 9).run Try.prog W = .ok (.pointer (some ⟨b, o + 9, none⟩)) W := by simp [go_sem]
theorem fa25_10 (b o : Nat) (W : World) : (Instr.fieldAt 25 (.pointer (some ⟨b, o, none⟩)) 10).run Try.prog W = .ok (.pointer (some ⟨b, o + 10, none⟩)) W := by simp [go_sem]
theorem fa25_11 (b o : Nat) (W : World) : (Instr.fieldAt 25 (.pointer (some ⟨b, o, none⟩)) 11).run Try.prog W = .ok (.pointer (some ⟨b, o + 11, none⟩)) W := by simp [go_sem]
theorem fa25_12 (b o : Nat) (W : World) : (Instr.fieldAt 25 (.pointer (some ⟨b, o, none⟩)) 12).run Try.prog W = .ok (.pointer (some ⟨b, o + 12, none⟩)) W := by simp [go_sem]
theorem fa25_13 (b o : Nat) (W : World) : (Instr.fieldAt 25 (.pointer (some ⟨b, o, none⟩)) 13).run Try.prog W = .ok (.pointer (some ⟨b, o + 13, none⟩)) W := by simp [go_sem]
theorem ld22 (W : World) (a : Addr) (u : Value) (h : W.cell? a = some u) : (Instr.loadAt 22 (.pointer (some a))).run Try.prog W = .ok u W := by simp [go_sem, h]
theorem ld23 (W : World) (a : Addr) (u : Value) (h : W.cell? a = some u) : (Instr.loadAt 23 (.pointer (some a))).run Try.prog W = .ok u W := by simp [go_sem, h]
theorem ld9 (W : World) (a : Addr) (u : Value) (h : W.cell? a = some u) : (Instr.loadAt 9 (.pointer (some a))).run Try.prog W = .ok u W := by simp [go_sem, h]
/-- A block's cell, where only later blocks turn. -/
theorem cellS {W W' : World} {b : Nat} {cs : Array Value} {t : TypeId} (f : Fr (fun k => b + 1 ≤ k) W W') (h : W.heap[b]? = some (.cells cs t (0, 0))) (j : Nat) {v : Value} (hv : cs[j]? = some v) : W'.cell? ⟨b, j, none⟩ = some v := by
  rw [f.cell (lt_of_heap h) (by show ¬ (b + 1 ≤ b); omega), cell_of_heap h]; exact hv
theorem conv3_23 (z : Int) (h : 0 ≤ z ∧ z < 4294967296) (W : World) : (convert 3 23 (.int .i64 z)).run Try.prog W = .ok (.int .u32 z) W := by
  have e : IntKind.u32.wrap z = z := by simp only [IntKind.wrap, IntKind.bits, IntKind.signed]; simp; omega
  simp [go_sem, e]
section
variable {ρ : Operand → Value} {o : Oper} {w : World}
theorem x_len9 {x : Operand} {t : ByteArray} (ho : o.op = .call { callee := .builtin .len, args := #[x], argTypes := #[9] }) (hx : ρ x = .string t) : (execOp ρ o).run Try.prog w = .ok (.value (.int .i64 (t.size : Int))) w := by
  simp [execOp, ho, hx, go_sem]
theorem x_app9 {s x : Operand} {u v : Value} {t : ByteArray} {w2 : World} (ho : o.op = .call { callee := .builtin .append, args := #[s, x], argTypes := #[26, 9] }) (hs : ρ s = u) (hx : ρ x = .string t) (hr : (Builtin.append_ #[26, 9] o.type #[u, .string t]).run Try.prog w = .ok v w2) : (execOp ρ o).run Try.prog w = .ok (.value v) w2 := by
  simp only [execOp, ho, resolve, invoke, builtin, Sem.run_bind, Sem.run_pure, Result.andThen_ok, List.map_toArray, List.map_cons, List.map_nil, hs, hx, hr]
end
/-- How long a slice is. -/
def lnS : Value → Nat
  | .slice _ n _ => n
  | _ => 0
/-- Bytes under way, at a stage. -/
def kNb {S : Nat → Prop} (m : Nat) (W0 : World) (l : List UInt8) : Kd S := .st m (fun v W => Nb W0 W v l) (fun v w1 w2 h f => h.kept f)
theorem path2 {l : List Oper} {a b : Nat} (h : (reachL a l []).getD b false = true) : ∀ k i j, ([a, b] : List Nat)[k]? = some i → ([a, b] : List Nat)[k + 1]? = some j → Path l j i := by
  intro k i j hi hj
  rcases k with _ | k
  · simp at hi hj; subst hi hj; exact waits h
  · rcases k with _ | k <;> simp at hj
theorem path3 {l : List Oper} {a b c : Nat} (h : (reachL a l []).getD b false = true) (h2 : (reachL b l []).getD c false = true) : ∀ k i j, ([a, b, c] : List Nat)[k]? = some i → ([a, b, c] : List Nat)[k + 1]? = some j → Path l j i := by
  intro k i j hi hj
  rcases k with _ | k
  · simp at hi hj; subst hi hj; exact waits h
  · rcases k with _ | k
    · simp at hi hj; subst hi hj; exact waits h2
    · rcases k with _ | k <;> simp at hj
theorem app9 {W0 W : World} {v : Value} {l : List UInt8} (h : Nb W0 W v l) (t : ByteArray) (hk : l.length + t.size ≤ 100000000) : ∃ v' w', (Builtin.append_ #[26, 9] 26 #[v, .string t]).run Try.prog W = .ok v' w' ∧ Nb W0 w' v' (l ++ t.data.toList) ∧ Fr (fun k => W0.heap.size ≤ k) W w' := by
  obtain ⟨inf, hi0, hz0, hz1, hz2⟩ := info_parts Try.info5
  obtain ⟨v', w', hr, h2, h3, -⟩ := run_append_own_string (P := Try.prog) (w := W) W0.heap.size 26 9 26 5 inf Try.underlying26 Try.underlying9 hi0 hz0 hz1 hz2 v l.length (bvs l) h.based t (by simp only [maxLen]; omega) (by omega) h.fr.size
  refine ⟨v', w', hr, h.grownB (x := t.data.toList) ?_ h3, Fr.grown (Fr.refl _ _) h3 (fun k _ e => h.new k e)⟩
  rw [strCells_bvs] at h2
  rw [show t.data.toList.length = t.size from Array.length_toList]
  exact h2
set_option maxRecDepth 100000 in
set_option maxHeartbeats 4000000 in
theorem rput_any (x : In) (hx : x.Ok) (w : World) : Calls Try.prog 14 #[x.v] w fun e w' => ∃ v', e = .returned (.tuple #[v', .int .i64 (ck x)]) ∧ Nb w w' v' (pR x) := by
  have HC := rcheck_any x
  have HX := hide hx
  have HP : Hid (pR x = if ck x = 0 then pb x else []) := hide rfl
  have HCK : Hid (ck x = 0 → (x.k = 1 ∨ x.k = 2 ∨ x.k = 5) ∧ x.t.size ≤ 255) := hide ck_facts
  generalize pR x = PR at *
  generalize ck x = c at *
  clear hx
  by_cases hc : c = 0
  · subst hc
    obtain ⟨hk, ht⟩ := unhide HCK rfl
    have HKR : Hid (0 ≤ x.k ∧ x.k < 4294967296) := hide (by omega)
    rw [if_pos rfl] at HP
    have HOK := unhide HX
    clear HCK
    go_enter Try.func14, Try.ntmps14
    go_upto_region 4 with (first | (go_at_call 19; refine mono_ext (HC _) ?_; rintro e E rfl hE) | (refine wl_load25 _ rfl rfl _ rfl (by simp [go_sem]) (by simp [go_sem]; exact rfl) ?_))
    have H0 : Hid (Nb (w.alloc (.cells x.cs 25)) (Ytbenailemoefhaa.ext (w.alloc (.cells x.cs 25)) E) (.slice none 0 0) []) := hide (Nb.nil (Fr.ext (Fr.refl _ _) hE))
    have HB : Hid ((Ytbenailemoefhaa.ext (w.alloc (.cells x.cs 25)) E).heap[w.heap.size]? = some (.cells x.cs 25 (0, 0))) := hide (by rw [(unhide H0).fr.block _ (by simp) id]; exact heap_alloc_new w _)
    refine wp_nameK ?_
    intro a0 hA
    have h0 : a0.tmps.getD 0 undef = x.v := by rw [hA]; rfl
    have h1 : a0.tmps.getD 1 undef = .pointer (some ⟨w.heap.size, 0, none⟩) := by rw [hA]; rfl
    have h2 : a0.tmps.getD 2 undef = .slice none 0 0 := by rw [hA]; rfl
    have h3 : a0.tmps.getD 3 undef = .int .i64 0 := by rw [hA]; rfl
    have hsz : a0.tmps.size = 72 := by rw [hA]; rfl
    have hdf : a0.defers = [] := by rw [hA]
    clear hA
    refine wp_region_kinds4 (fun k => w.heap.size + 1 ≤ k) (by kernel_rfl) (by kernel_rfl) (by decide +kernel) (by rw [hsz]; decide +kernel) [.eq (.pointer (some ⟨w.heap.size, 0, none⟩)), .eq (.int .u64 x.n), kNb 1 (w.alloc (.cells x.cs 25)) ([] ++ be 8 x.n.toNat), .eq (.pointer (some ⟨w.heap.size, 1, none⟩)), .eq (.int .u32 x.g), kNb 2 (w.alloc (.cells x.cs 25)) (([] ++ be 8 x.n.toNat) ++ be 4 x.g.toNat), kNb 2 (w.alloc (.cells x.cs 25)) (([] ++ be 8 x.n.toNat) ++ be 4 x.g.toNat)] [2, 5] (by decide) (by decide) (path2 (by kernel_rfl)) (fun k W => k = 0 → Fr (fun _ => False) (Ytbenailemoefhaa.ext (w.alloc (.cells x.cs 25)) E) W) (fun _ => (Fr.refl _ _).drew) ?steps ?done
    case steps =>
      refine ⟨?_, ?_⟩
      · intro a' w' k' hb hf hs hc hq hg hd hu
        exact .inl ⟨wantedN rfl, k_val (.pointer (some ⟨w.heap.size, 0, none⟩)) (by decide) hs (x_field (of := 0) (off := 0) (by intro W9; simpa using fa25_0 w.heap.size 0 W9) rfl ((hb.old 1 (by decide +kernel)).trans h1)) rfl⟩
      refine ⟨?_, ?_⟩
      · intro a' w' k' hb hf hs hc hq hg hd hu
        exact .inl ⟨wantedN rfl, k_val (.int .u64 x.n) (by decide) hs (x_load1 ld22 rfl (hd 0 (by kernel_rfl) 11 rfl) (cellS hf (unhide HB) 0 rfl)) rfl⟩
      refine ⟨?_, ?_⟩
      · intro a' w' k' hb hf hs hc hq hg hd hu
        obtain rfl := hc 0 rfl; exact .inl ⟨wantedN rfl, k_callC 43 _ (by decide) (e_call2 rfl rfl rfl (hd 1 (by kernel_rfl) 12 rfl) (fun _ _ => by simp [go_sem])) ((eight_any (w.alloc (.cells x.cs 25)) _ _ _ _ (x.n.toNat) (by have := HOK.n; omega) ((unhide H0).kept (hs rfl)) (by have := HOK.n; omega) (by simp [be_length])).mono (by rintro e w9 ⟨v9, rfl, h9, f9⟩; exact ⟨_, rfl, ⟨Nat.le_refl _, fun _ => h9⟩, f9.mono (fun k _ e => by simpa using e), fun e => by omega⟩))⟩
      refine ⟨?_, ?_⟩
      · intro a' w' k' hb hf hs hc hq hg hd hu
        exact .inl ⟨wantedN rfl, k_val (.pointer (some ⟨w.heap.size, 1, none⟩)) (by decide) hs (x_field (of := 0) (off := 1) (by intro W9; simpa using fa25_1 w.heap.size 0 W9) rfl ((hb.old 1 (by decide +kernel)).trans h1)) rfl⟩
      refine ⟨?_, ?_⟩
      · intro a' w' k' hb hf hs hc hq hg hd hu
        exact .inl ⟨wantedN rfl, k_val (.int .u32 x.g) (by decide) hs (x_load1 ld23 rfl (hd 3 (by kernel_rfl) 14 rfl) (cellS hf (unhide HB) 1 rfl)) rfl⟩
      refine ⟨?_, ?_⟩
      · intro a' w' k' hb hf hs hc hq hg hd hu
        obtain rfl := hc 1 rfl; have hh := ((hd 2 (by kernel_rfl) 13 rfl)); have hN := hh.2 rfl; exact .inl ⟨wantedN rfl, k_callC 42 _ (by decide) (e_call2 rfl rfl rfl (hd 4 (by kernel_rfl) 15 rfl) (fun _ _ => by simp [go_sem])) ((four_any (w.alloc (.cells x.cs 25)) _ _ _ _ (x.g.toNat) (by have := HOK.g; omega) hN (by have := HOK.g; omega) (by simp [be_length])).mono (by rintro e w9 ⟨v9, rfl, h9, f9⟩; exact ⟨_, rfl, ⟨Nat.le_refl _, fun _ => h9⟩, f9.mono (fun k _ e => by simpa using e), fun e => by omega⟩))⟩
      refine ⟨?_, ?_⟩
      · intro a' w' k' hb hf hs hc hq hg hd hu
        have hh := (hd 5 (by kernel_rfl) 16 rfl); exact .inl ⟨wantedN rfl, k_val _ (by decide) hs (x_assign rfl rfl) hh⟩
      exact trivial
    case done =>
      intro a' w1 hb hf hs hall
      have hdf' : a'.defers = [] := by rw [hb.defers]; exact hdf
      have hN := (show _ ∧ _ from hall 6 (by decide) 5 rfl).2 rfl
      obtain ⟨g4, hv4⟩ : ∃ v, a'.tmps.getD 4 undef = v := ⟨_, rfl⟩
      obtain ⟨v1, hv5⟩ : ∃ v, a'.tmps.getD 5 undef = v := ⟨_, rfl⟩
      obtain ⟨g6, hv6⟩ : ∃ v, a'.tmps.getD 6 undef = v := ⟨_, rfl⟩
      obtain ⟨g7, hv7⟩ : ∃ v, a'.tmps.getD 7 undef = v := ⟨_, rfl⟩
      obtain ⟨g8, hv8⟩ : ∃ v, a'.tmps.getD 8 undef = v := ⟨_, rfl⟩
      obtain ⟨g9, hv9⟩ : ∃ v, a'.tmps.getD 9 undef = v := ⟨_, rfl⟩
      obtain ⟨g10, hv10⟩ : ∃ v, a'.tmps.getD 10 undef = v := ⟨_, rfl⟩
      obtain ⟨g11, hv11⟩ : ∃ v, a'.tmps.getD 11 undef = v := ⟨_, rfl⟩
      obtain ⟨g12, hv12⟩ : ∃ v, a'.tmps.getD 12 undef = v := ⟨_, rfl⟩
      obtain ⟨g13, hv13⟩ : ∃ v, a'.tmps.getD 13 undef = v := ⟨_, rfl⟩
      obtain ⟨g14, hv14⟩ : ∃ v, a'.tmps.getD 14 undef = v := ⟨_, rfl⟩
      obtain ⟨g15, hv15⟩ : ∃ v, a'.tmps.getD 15 undef = v := ⟨_, rfl⟩
      obtain ⟨g16, hv16⟩ : ∃ v, a'.tmps.getD 16 undef = v := ⟨_, rfl⟩
      obtain ⟨g17, hv17⟩ : ∃ v, a'.tmps.getD 17 undef = v := ⟨_, rfl⟩
      obtain ⟨g18, hv18⟩ : ∃ v, a'.tmps.getD 18 undef = v := ⟨_, rfl⟩
      obtain ⟨g19, hv19⟩ : ∃ v, a'.tmps.getD 19 undef = v := ⟨_, rfl⟩
      obtain ⟨g20, hv20⟩ : ∃ v, a'.tmps.getD 20 undef = v := ⟨_, rfl⟩
      obtain ⟨g21, hv21⟩ : ∃ v, a'.tmps.getD 21 undef = v := ⟨_, rfl⟩
      obtain ⟨g22, hv22⟩ : ∃ v, a'.tmps.getD 22 undef = v := ⟨_, rfl⟩
      obtain ⟨g23, hv23⟩ : ∃ v, a'.tmps.getD 23 undef = v := ⟨_, rfl⟩
      obtain ⟨g24, hv24⟩ : ∃ v, a'.tmps.getD 24 undef = v := ⟨_, rfl⟩
      obtain ⟨g25, hv25⟩ : ∃ v, a'.tmps.getD 25 undef = v := ⟨_, rfl⟩
      obtain ⟨g26, hv26⟩ : ∃ v, a'.tmps.getD 26 undef = v := ⟨_, rfl⟩
      obtain ⟨g27, hv27⟩ : ∃ v, a'.tmps.getD 27 undef = v := ⟨_, rfl⟩
      obtain ⟨g28, hv28⟩ : ∃ v, a'.tmps.getD 28 undef = v := ⟨_, rfl⟩
      obtain ⟨g29, hv29⟩ : ∃ v, a'.tmps.getD 29 undef = v := ⟨_, rfl⟩
      obtain ⟨g30, hv30⟩ : ∃ v, a'.tmps.getD 30 undef = v := ⟨_, rfl⟩
      obtain ⟨g31, hv31⟩ : ∃ v, a'.tmps.getD 31 undef = v := ⟨_, rfl⟩
      obtain ⟨g32, hv32⟩ : ∃ v, a'.tmps.getD 32 undef = v := ⟨_, rfl⟩
      obtain ⟨g33, hv33⟩ : ∃ v, a'.tmps.getD 33 undef = v := ⟨_, rfl⟩
      obtain ⟨g34, hv34⟩ : ∃ v, a'.tmps.getD 34 undef = v := ⟨_, rfl⟩
      obtain ⟨g35, hv35⟩ : ∃ v, a'.tmps.getD 35 undef = v := ⟨_, rfl⟩
      obtain ⟨g36, hv36⟩ : ∃ v, a'.tmps.getD 36 undef = v := ⟨_, rfl⟩
      obtain ⟨g37, hv37⟩ : ∃ v, a'.tmps.getD 37 undef = v := ⟨_, rfl⟩
      obtain ⟨g38, hv38⟩ : ∃ v, a'.tmps.getD 38 undef = v := ⟨_, rfl⟩
      obtain ⟨g39, hv39⟩ : ∃ v, a'.tmps.getD 39 undef = v := ⟨_, rfl⟩
      obtain ⟨g40, hv40⟩ : ∃ v, a'.tmps.getD 40 undef = v := ⟨_, rfl⟩
      obtain ⟨g41, hv41⟩ : ∃ v, a'.tmps.getD 41 undef = v := ⟨_, rfl⟩
      obtain ⟨g42, hv42⟩ : ∃ v, a'.tmps.getD 42 undef = v := ⟨_, rfl⟩
      obtain ⟨g43, hv43⟩ : ∃ v, a'.tmps.getD 43 undef = v := ⟨_, rfl⟩
      obtain ⟨g44, hv44⟩ : ∃ v, a'.tmps.getD 44 undef = v := ⟨_, rfl⟩
      obtain ⟨g45, hv45⟩ : ∃ v, a'.tmps.getD 45 undef = v := ⟨_, rfl⟩
      obtain ⟨g46, hv46⟩ : ∃ v, a'.tmps.getD 46 undef = v := ⟨_, rfl⟩
      obtain ⟨g47, hv47⟩ : ∃ v, a'.tmps.getD 47 undef = v := ⟨_, rfl⟩
      obtain ⟨g48, hv48⟩ : ∃ v, a'.tmps.getD 48 undef = v := ⟨_, rfl⟩
      obtain ⟨g49, hv49⟩ : ∃ v, a'.tmps.getD 49 undef = v := ⟨_, rfl⟩
      obtain ⟨g50, hv50⟩ : ∃ v, a'.tmps.getD 50 undef = v := ⟨_, rfl⟩
      obtain ⟨g51, hv51⟩ : ∃ v, a'.tmps.getD 51 undef = v := ⟨_, rfl⟩
      obtain ⟨g52, hv52⟩ : ∃ v, a'.tmps.getD 52 undef = v := ⟨_, rfl⟩
      obtain ⟨g53, hv53⟩ : ∃ v, a'.tmps.getD 53 undef = v := ⟨_, rfl⟩
      obtain ⟨g54, hv54⟩ : ∃ v, a'.tmps.getD 54 undef = v := ⟨_, rfl⟩
      obtain ⟨g55, hv55⟩ : ∃ v, a'.tmps.getD 55 undef = v := ⟨_, rfl⟩
      obtain ⟨g56, hv56⟩ : ∃ v, a'.tmps.getD 56 undef = v := ⟨_, rfl⟩
      obtain ⟨g57, hv57⟩ : ∃ v, a'.tmps.getD 57 undef = v := ⟨_, rfl⟩
      obtain ⟨g58, hv58⟩ : ∃ v, a'.tmps.getD 58 undef = v := ⟨_, rfl⟩
      obtain ⟨g59, hv59⟩ : ∃ v, a'.tmps.getD 59 undef = v := ⟨_, rfl⟩
      obtain ⟨g60, hv60⟩ : ∃ v, a'.tmps.getD 60 undef = v := ⟨_, rfl⟩
      obtain ⟨g61, hv61⟩ : ∃ v, a'.tmps.getD 61 undef = v := ⟨_, rfl⟩
      obtain ⟨g62, hv62⟩ : ∃ v, a'.tmps.getD 62 undef = v := ⟨_, rfl⟩
      obtain ⟨g63, hv63⟩ : ∃ v, a'.tmps.getD 63 undef = v := ⟨_, rfl⟩
      obtain ⟨g64, hv64⟩ : ∃ v, a'.tmps.getD 64 undef = v := ⟨_, rfl⟩
      obtain ⟨g65, hv65⟩ : ∃ v, a'.tmps.getD 65 undef = v := ⟨_, rfl⟩
      obtain ⟨g66, hv66⟩ : ∃ v, a'.tmps.getD 66 undef = v := ⟨_, rfl⟩
      obtain ⟨g67, hv67⟩ : ∃ v, a'.tmps.getD 67 undef = v := ⟨_, rfl⟩
      obtain ⟨g68, hv68⟩ : ∃ v, a'.tmps.getD 68 undef = v := ⟨_, rfl⟩
      obtain ⟨g69, hv69⟩ : ∃ v, a'.tmps.getD 69 undef = v := ⟨_, rfl⟩
      obtain ⟨g70, hv70⟩ : ∃ v, a'.tmps.getD 70 undef = v := ⟨_, rfl⟩
      obtain ⟨g71, hv71⟩ : ∃ v, a'.tmps.getD 71 undef = v := ⟨_, rfl⟩
      have hfr := frame_eq (a := a') (vs := [x.v, .pointer (some ⟨w.heap.size, 0, none⟩), .slice none 0 0, .int .i64 0, g4, v1, g6, g7, g8, g9, g10, g11, g12, g13, g14, g15, g16, g17, g18, g19, g20, g21, g22, g23, g24, g25, g26, g27, g28, g29, g30, g31, g32, g33, g34, g35, g36, g37, g38, g39, g40, g41, g42, g43, g44, g45, g46, g47, g48, g49, g50, g51, g52, g53, g54, g55, g56, g57, g58, g59, g60, g61, g62, g63, g64, g65, g66, g67, g68, g69, g70, g71]) (by rw [hb.size, hsz]; rfl) hdf' ⟨((hb.old 0 (by decide +kernel)).trans h0), ((hb.old 1 (by decide +kernel)).trans h1), ((hb.old 2 (by decide +kernel)).trans h2), ((hb.old 3 (by decide +kernel)).trans h3), hv4, hv5, hv6, hv7, hv8, hv9, hv10, hv11, hv12, hv13, hv14, hv15, hv16, hv17, hv18, hv19, hv20, hv21, hv22, hv23, hv24, hv25, hv26, hv27, hv28, hv29, hv30, hv31, hv32, hv33, hv34, hv35, hv36, hv37, hv38, hv39, hv40, hv41, hv42, hv43, hv44, hv45, hv46, hv47, hv48, hv49, hv50, hv51, hv52, hv53, hv54, hv55, hv56, hv57, hv58, hv59, hv60, hv61, hv62, hv63, hv64, hv65, hv66, hv67, hv68, hv69, hv70, hv71, trivial⟩
      rw [hv5] at hN
      have H1 : Hid (Nb (w.alloc (.cells x.cs 25)) w1 v1 (([] ++ be 8 x.n.toNat) ++ be 4 x.g.toNat)) := hide hN
      clear hall hb hf hs hv4 hv5 hv6 hv7 hv8 hv9 hv10 hv11 hv12 hv13 hv14 hv15 hv16 hv17 hv18 hv19 hv20 hv21 hv22 hv23 hv24 hv25 hv26 hv27 hv28 hv29 hv30 hv31 hv32 hv33 hv34 hv35 hv36 hv37 hv38 hv39 hv40 hv41 hv42 hv43 hv44 hv45 hv46 hv47 hv48 hv49 hv50 hv51 hv52 hv53 hv54 hv55 hv56 hv57 hv58 hv59 hv60 hv61 hv62 hv63 hv64 hv65 hv66 hv67 hv68 hv69 hv70 hv71 hN
      subst hfr
      clear h0 h1 h2 h3 hsz hdf hdf' HB
      apply_assumption
      go_upto_region 5 with fail
      have HB : Hid ((w1).heap[w.heap.size]? = some (.cells x.cs 25 (0, 0))) := hide (by rw [(unhide H1).fr.block _ (by simp) id]; exact heap_alloc_new w _)
      refine wp_nameK ?_
      intro a0 hA
      have h0 : a0.tmps.getD 0 undef = x.v := by rw [hA]; rfl
      have h1 : a0.tmps.getD 1 undef = .pointer (some ⟨w.heap.size, 0, none⟩) := by rw [hA]; rfl
      have h2 : a0.tmps.getD 2 undef = .slice none 0 0 := by rw [hA]; rfl
      have h3 : a0.tmps.getD 3 undef = .int .i64 0 := by rw [hA]; rfl
      have h5 : a0.tmps.getD 5 undef = v1 := by rw [hA]; rfl
      have hsz : a0.tmps.size = 72 := by rw [hA]; rfl
      have hdf : a0.defers = [] := by rw [hA]
      clear hA
      refine wp_region_kinds4 (fun k => w.heap.size + 1 ≤ k) (by kernel_rfl) (by kernel_rfl) (by decide +kernel) (by rw [hsz]; decide +kernel) [.eq (v1), .eq (.pointer (some ⟨w.heap.size, 2, none⟩)), .eq (.int .i64 x.k), .eq (.int .u32 x.k), kNb 1 (w.alloc (.cells x.cs 25)) ((([] ++ be 8 x.n.toNat) ++ be 4 x.g.toNat) ++ be 4 x.k.toNat), .eq (.pointer (some ⟨w.heap.size, 3, none⟩)), .eq (.int .u32 x.m), kNb 2 (w.alloc (.cells x.cs 25)) (((([] ++ be 8 x.n.toNat) ++ be 4 x.g.toNat) ++ be 4 x.k.toNat) ++ be 4 x.m.toNat), kNb 2 (w.alloc (.cells x.cs 25)) (((([] ++ be 8 x.n.toNat) ++ be 4 x.g.toNat) ++ be 4 x.k.toNat) ++ be 4 x.m.toNat)] [4, 7] (by decide) (by decide) (path2 (by kernel_rfl)) (fun k W => k = 0 → Fr (fun _ => False) (w1) W) (fun _ => (Fr.refl _ _).drew) ?steps ?done
      case steps =>
        refine ⟨?_, ?_⟩
        · intro a' w' k' hb hf hs hc hq hg hd hu
          exact .inl ⟨wantedN rfl, k_val (v1) (by decide) hs (x_move rfl ((hu 8 5 rfl (waits (by kernel_rfl))).trans h5)) rfl⟩
        refine ⟨?_, ?_⟩
        · intro a' w' k' hb hf hs hc hq hg hd hu
          exact .inl ⟨wantedN rfl, k_val (.pointer (some ⟨w.heap.size, 2, none⟩)) (by decide) hs (x_field (of := 0) (off := 2) (by intro W9; simpa using fa25_2 w.heap.size 0 W9) rfl ((hb.old 1 (by decide +kernel)).trans h1)) rfl⟩
        refine ⟨?_, ?_⟩
        · intro a' w' k' hb hf hs hc hq hg hd hu
          exact .inl ⟨wantedN rfl, k_val (.int .i64 x.k) (by decide) hs (x_load1 ld3 rfl (hd 1 (by kernel_rfl) 18 rfl) (cellS hf (unhide HB) 2 rfl)) rfl⟩
        refine ⟨?_, ?_⟩
        · intro a' w' k' hb hf hs hc hq hg hd hu
          exact .inl ⟨wantedN rfl, k_val (.int .u32 x.k) (by decide) hs (x_conv rfl (hd 2 (by kernel_rfl) 19 rfl) (conv3_23 _ (by first | exact unhide HKR | omega) _)) rfl⟩
        refine ⟨?_, ?_⟩
        · intro a' w' k' hb hf hs hc hq hg hd hu
          obtain rfl := hc 0 rfl; exact .inl ⟨wantedN rfl, k_callC 42 _ (by decide) (e_call2 rfl rfl (hd 0 (by kernel_rfl) 17 rfl) (hd 3 (by kernel_rfl) 20 rfl) (fun _ _ => by simp [go_sem])) ((four_any (w.alloc (.cells x.cs 25)) _ _ _ _ (x.k.toNat) (by have := HOK.k; omega) ((unhide H1).kept (hs rfl)) (by have := HOK.k; omega) (by simp [be_length])).mono (by rintro e w9 ⟨v9, rfl, h9, f9⟩; exact ⟨_, rfl, ⟨Nat.le_refl _, fun _ => h9⟩, f9.mono (fun k _ e => by simpa using e), fun e => by omega⟩))⟩
        refine ⟨?_, ?_⟩
        · intro a' w' k' hb hf hs hc hq hg hd hu
          exact .inl ⟨wantedN rfl, k_val (.pointer (some ⟨w.heap.size, 3, none⟩)) (by decide) hs (x_field (of := 0) (off := 3) (by intro W9; simpa using fa25_3 w.heap.size 0 W9) rfl ((hb.old 1 (by decide +kernel)).trans h1)) rfl⟩
        refine ⟨?_, ?_⟩
        · intro a' w' k' hb hf hs hc hq hg hd hu
          exact .inl ⟨wantedN rfl, k_val (.int .u32 x.m) (by decide) hs (x_load1 ld23 rfl (hd 5 (by kernel_rfl) 22 rfl) (cellS hf (unhide HB) 3 rfl)) rfl⟩
        refine ⟨?_, ?_⟩
        · intro a' w' k' hb hf hs hc hq hg hd hu
          obtain rfl := hc 1 rfl; have hh := ((hd 4 (by kernel_rfl) 21 rfl)); have hN := hh.2 rfl; exact .inl ⟨wantedN rfl, k_callC 42 _ (by decide) (e_call2 rfl rfl rfl (hd 6 (by kernel_rfl) 23 rfl) (fun _ _ => by simp [go_sem])) ((four_any (w.alloc (.cells x.cs 25)) _ _ _ _ (x.m.toNat) (by have := HOK.m; omega) hN (by have := HOK.m; omega) (by simp [be_length])).mono (by rintro e w9 ⟨v9, rfl, h9, f9⟩; exact ⟨_, rfl, ⟨Nat.le_refl _, fun _ => h9⟩, f9.mono (fun k _ e => by simpa using e), fun e => by omega⟩))⟩
        refine ⟨?_, ?_⟩
        · intro a' w' k' hb hf hs hc hq hg hd hu
          have hh := (hd 7 (by kernel_rfl) 24 rfl); exact .inl ⟨wantedN rfl, k_val _ (by decide) hs (x_assign rfl rfl) hh⟩
        exact trivial
      case done =>
        intro a' w2 hb hf hs hall
        have hdf' : a'.defers = [] := by rw [hb.defers]; exact hdf
        have hN := (show _ ∧ _ from hall 8 (by decide) 5 rfl).2 rfl
        obtain ⟨g4, hv4⟩ : ∃ v, a'.tmps.getD 4 undef = v := ⟨_, rfl⟩
        obtain ⟨v2, hv5⟩ : ∃ v, a'.tmps.getD 5 undef = v := ⟨_, rfl⟩
        obtain ⟨g6, hv6⟩ : ∃ v, a'.tmps.getD 6 undef = v := ⟨_, rfl⟩
        obtain ⟨g7, hv7⟩ : ∃ v, a'.tmps.getD 7 undef = v := ⟨_, rfl⟩
        obtain ⟨g8, hv8⟩ : ∃ v, a'.tmps.getD 8 undef = v := ⟨_, rfl⟩
        obtain ⟨g9, hv9⟩ : ∃ v, a'.tmps.getD 9 undef = v := ⟨_, rfl⟩
        obtain ⟨g10, hv10⟩ : ∃ v, a'.tmps.getD 10 undef = v := ⟨_, rfl⟩
        obtain ⟨g11, hv11⟩ : ∃ v, a'.tmps.getD 11 undef = v := ⟨_, rfl⟩
        obtain ⟨g12, hv12⟩ : ∃ v, a'.tmps.getD 12 undef = v := ⟨_, rfl⟩
        obtain ⟨g13, hv13⟩ : ∃ v, a'.tmps.getD 13 undef = v := ⟨_, rfl⟩
        obtain ⟨g14, hv14⟩ : ∃ v, a'.tmps.getD 14 undef = v := ⟨_, rfl⟩
        obtain ⟨g15, hv15⟩ : ∃ v, a'.tmps.getD 15 undef = v := ⟨_, rfl⟩
        obtain ⟨g16, hv16⟩ : ∃ v, a'.tmps.getD 16 undef = v := ⟨_, rfl⟩
        obtain ⟨g17, hv17⟩ : ∃ v, a'.tmps.getD 17 undef = v := ⟨_, rfl⟩
        obtain ⟨g18, hv18⟩ : ∃ v, a'.tmps.getD 18 undef = v := ⟨_, rfl⟩
        obtain ⟨g19, hv19⟩ : ∃ v, a'.tmps.getD 19 undef = v := ⟨_, rfl⟩
        obtain ⟨g20, hv20⟩ : ∃ v, a'.tmps.getD 20 undef = v := ⟨_, rfl⟩
        obtain ⟨g21, hv21⟩ : ∃ v, a'.tmps.getD 21 undef = v := ⟨_, rfl⟩
        obtain ⟨g22, hv22⟩ : ∃ v, a'.tmps.getD 22 undef = v := ⟨_, rfl⟩
        obtain ⟨g23, hv23⟩ : ∃ v, a'.tmps.getD 23 undef = v := ⟨_, rfl⟩
        obtain ⟨g24, hv24⟩ : ∃ v, a'.tmps.getD 24 undef = v := ⟨_, rfl⟩
        obtain ⟨g25, hv25⟩ : ∃ v, a'.tmps.getD 25 undef = v := ⟨_, rfl⟩
        obtain ⟨g26, hv26⟩ : ∃ v, a'.tmps.getD 26 undef = v := ⟨_, rfl⟩
        obtain ⟨g27, hv27⟩ : ∃ v, a'.tmps.getD 27 undef = v := ⟨_, rfl⟩
        obtain ⟨g28, hv28⟩ : ∃ v, a'.tmps.getD 28 undef = v := ⟨_, rfl⟩
        obtain ⟨g29, hv29⟩ : ∃ v, a'.tmps.getD 29 undef = v := ⟨_, rfl⟩
        obtain ⟨g30, hv30⟩ : ∃ v, a'.tmps.getD 30 undef = v := ⟨_, rfl⟩
        obtain ⟨g31, hv31⟩ : ∃ v, a'.tmps.getD 31 undef = v := ⟨_, rfl⟩
        obtain ⟨g32, hv32⟩ : ∃ v, a'.tmps.getD 32 undef = v := ⟨_, rfl⟩
        obtain ⟨g33, hv33⟩ : ∃ v, a'.tmps.getD 33 undef = v := ⟨_, rfl⟩
        obtain ⟨g34, hv34⟩ : ∃ v, a'.tmps.getD 34 undef = v := ⟨_, rfl⟩
        obtain ⟨g35, hv35⟩ : ∃ v, a'.tmps.getD 35 undef = v := ⟨_, rfl⟩
        obtain ⟨g36, hv36⟩ : ∃ v, a'.tmps.getD 36 undef = v := ⟨_, rfl⟩
        obtain ⟨g37, hv37⟩ : ∃ v, a'.tmps.getD 37 undef = v := ⟨_, rfl⟩
        obtain ⟨g38, hv38⟩ : ∃ v, a'.tmps.getD 38 undef = v := ⟨_, rfl⟩
        obtain ⟨g39, hv39⟩ : ∃ v, a'.tmps.getD 39 undef = v := ⟨_, rfl⟩
        obtain ⟨g40, hv40⟩ : ∃ v, a'.tmps.getD 40 undef = v := ⟨_, rfl⟩
        obtain ⟨g41, hv41⟩ : ∃ v, a'.tmps.getD 41 undef = v := ⟨_, rfl⟩
        obtain ⟨g42, hv42⟩ : ∃ v, a'.tmps.getD 42 undef = v := ⟨_, rfl⟩
        obtain ⟨g43, hv43⟩ : ∃ v, a'.tmps.getD 43 undef = v := ⟨_, rfl⟩
        obtain ⟨g44, hv44⟩ : ∃ v, a'.tmps.getD 44 undef = v := ⟨_, rfl⟩
        obtain ⟨g45, hv45⟩ : ∃ v, a'.tmps.getD 45 undef = v := ⟨_, rfl⟩
        obtain ⟨g46, hv46⟩ : ∃ v, a'.tmps.getD 46 undef = v := ⟨_, rfl⟩
        obtain ⟨g47, hv47⟩ : ∃ v, a'.tmps.getD 47 undef = v := ⟨_, rfl⟩
        obtain ⟨g48, hv48⟩ : ∃ v, a'.tmps.getD 48 undef = v := ⟨_, rfl⟩
        obtain ⟨g49, hv49⟩ : ∃ v, a'.tmps.getD 49 undef = v := ⟨_, rfl⟩
        obtain ⟨g50, hv50⟩ : ∃ v, a'.tmps.getD 50 undef = v := ⟨_, rfl⟩
        obtain ⟨g51, hv51⟩ : ∃ v, a'.tmps.getD 51 undef = v := ⟨_, rfl⟩
        obtain ⟨g52, hv52⟩ : ∃ v, a'.tmps.getD 52 undef = v := ⟨_, rfl⟩
        obtain ⟨g53, hv53⟩ : ∃ v, a'.tmps.getD 53 undef = v := ⟨_, rfl⟩
        obtain ⟨g54, hv54⟩ : ∃ v, a'.tmps.getD 54 undef = v := ⟨_, rfl⟩
        obtain ⟨g55, hv55⟩ : ∃ v, a'.tmps.getD 55 undef = v := ⟨_, rfl⟩
        obtain ⟨g56, hv56⟩ : ∃ v, a'.tmps.getD 56 undef = v := ⟨_, rfl⟩
        obtain ⟨g57, hv57⟩ : ∃ v, a'.tmps.getD 57 undef = v := ⟨_, rfl⟩
        obtain ⟨g58, hv58⟩ : ∃ v, a'.tmps.getD 58 undef = v := ⟨_, rfl⟩
        obtain ⟨g59, hv59⟩ : ∃ v, a'.tmps.getD 59 undef = v := ⟨_, rfl⟩
        obtain ⟨g60, hv60⟩ : ∃ v, a'.tmps.getD 60 undef = v := ⟨_, rfl⟩
        obtain ⟨g61, hv61⟩ : ∃ v, a'.tmps.getD 61 undef = v := ⟨_, rfl⟩
        obtain ⟨g62, hv62⟩ : ∃ v, a'.tmps.getD 62 undef = v := ⟨_, rfl⟩
        obtain ⟨g63, hv63⟩ : ∃ v, a'.tmps.getD 63 undef = v := ⟨_, rfl⟩
        obtain ⟨g64, hv64⟩ : ∃ v, a'.tmps.getD 64 undef = v := ⟨_, rfl⟩
        obtain ⟨g65, hv65⟩ : ∃ v, a'.tmps.getD 65 undef = v := ⟨_, rfl⟩
        obtain ⟨g66, hv66⟩ : ∃ v, a'.tmps.getD 66 undef = v := ⟨_, rfl⟩
        obtain ⟨g67, hv67⟩ : ∃ v, a'.tmps.getD 67 undef = v := ⟨_, rfl⟩
        obtain ⟨g68, hv68⟩ : ∃ v, a'.tmps.getD 68 undef = v := ⟨_, rfl⟩
        obtain ⟨g69, hv69⟩ : ∃ v, a'.tmps.getD 69 undef = v := ⟨_, rfl⟩
        obtain ⟨g70, hv70⟩ : ∃ v, a'.tmps.getD 70 undef = v := ⟨_, rfl⟩
        obtain ⟨g71, hv71⟩ : ∃ v, a'.tmps.getD 71 undef = v := ⟨_, rfl⟩
        have hfr := frame_eq (a := a') (vs := [x.v, .pointer (some ⟨w.heap.size, 0, none⟩), .slice none 0 0, .int .i64 0, g4, v2, g6, g7, g8, g9, g10, g11, g12, g13, g14, g15, g16, g17, g18, g19, g20, g21, g22, g23, g24, g25, g26, g27, g28, g29, g30, g31, g32, g33, g34, g35, g36, g37, g38, g39, g40, g41, g42, g43, g44, g45, g46, g47, g48, g49, g50, g51, g52, g53, g54, g55, g56, g57, g58, g59, g60, g61, g62, g63, g64, g65, g66, g67, g68, g69, g70, g71]) (by rw [hb.size, hsz]; rfl) hdf' ⟨((hb.old 0 (by decide +kernel)).trans h0), ((hb.old 1 (by decide +kernel)).trans h1), ((hb.old 2 (by decide +kernel)).trans h2), ((hb.old 3 (by decide +kernel)).trans h3), hv4, hv5, hv6, hv7, hv8, hv9, hv10, hv11, hv12, hv13, hv14, hv15, hv16, hv17, hv18, hv19, hv20, hv21, hv22, hv23, hv24, hv25, hv26, hv27, hv28, hv29, hv30, hv31, hv32, hv33, hv34, hv35, hv36, hv37, hv38, hv39, hv40, hv41, hv42, hv43, hv44, hv45, hv46, hv47, hv48, hv49, hv50, hv51, hv52, hv53, hv54, hv55, hv56, hv57, hv58, hv59, hv60, hv61, hv62, hv63, hv64, hv65, hv66, hv67, hv68, hv69, hv70, hv71, trivial⟩
        rw [hv5] at hN
        have H2 : Hid (Nb (w.alloc (.cells x.cs 25)) w2 v2 (((([] ++ be 8 x.n.toNat) ++ be 4 x.g.toNat) ++ be 4 x.k.toNat) ++ be 4 x.m.toNat)) := hide hN
        clear hall hb hf hs hv4 hv5 hv6 hv7 hv8 hv9 hv10 hv11 hv12 hv13 hv14 hv15 hv16 hv17 hv18 hv19 hv20 hv21 hv22 hv23 hv24 hv25 hv26 hv27 hv28 hv29 hv30 hv31 hv32 hv33 hv34 hv35 hv36 hv37 hv38 hv39 hv40 hv41 hv42 hv43 hv44 hv45 hv46 hv47 hv48 hv49 hv50 hv51 hv52 hv53 hv54 hv55 hv56 hv57 hv58 hv59 hv60 hv61 hv62 hv63 hv64 hv65 hv66 hv67 hv68 hv69 hv70 hv71 hN
        subst hfr
        clear h0 h1 h2 h3 h5 hsz hdf hdf' HB
        apply_assumption
        go_upto_region 6 with fail
        have HB : Hid ((w2).heap[w.heap.size]? = some (.cells x.cs 25 (0, 0))) := hide (by rw [(unhide H2).fr.block _ (by simp) id]; exact heap_alloc_new w _)
        refine wp_nameK ?_
        intro a0 hA
        have h0 : a0.tmps.getD 0 undef = x.v := by rw [hA]; rfl
        have h1 : a0.tmps.getD 1 undef = .pointer (some ⟨w.heap.size, 0, none⟩) := by rw [hA]; rfl
        have h2 : a0.tmps.getD 2 undef = .slice none 0 0 := by rw [hA]; rfl
        have h3 : a0.tmps.getD 3 undef = .int .i64 0 := by rw [hA]; rfl
        have h5 : a0.tmps.getD 5 undef = v2 := by rw [hA]; rfl
        have hsz : a0.tmps.size = 72 := by rw [hA]; rfl
        have hdf : a0.defers = [] := by rw [hA]
        clear hA
        refine wp_region_kinds4 (fun k => w.heap.size + 1 ≤ k) (by kernel_rfl) (by kernel_rfl) (by decide +kernel) (by rw [hsz]; decide +kernel) [.eq (v2), .eq (.pointer (some ⟨w.heap.size, 4, none⟩)), .eq (.int .u32 x.l), kNb 1 (w.alloc (.cells x.cs 25)) ((((([] ++ be 8 x.n.toNat) ++ be 4 x.g.toNat) ++ be 4 x.k.toNat) ++ be 4 x.m.toNat) ++ be 4 x.l.toNat), .eq (.pointer (some ⟨w.heap.size, 5, none⟩)), .eq (.int .u32 x.u), kNb 2 (w.alloc (.cells x.cs 25)) (((((([] ++ be 8 x.n.toNat) ++ be 4 x.g.toNat) ++ be 4 x.k.toNat) ++ be 4 x.m.toNat) ++ be 4 x.l.toNat) ++ be 4 x.u.toNat), .eq (.pointer (some ⟨w.heap.size, 6, none⟩)), .eq (.int .u32 x.d), kNb 3 (w.alloc (.cells x.cs 25)) ((((((([] ++ be 8 x.n.toNat) ++ be 4 x.g.toNat) ++ be 4 x.k.toNat) ++ be 4 x.m.toNat) ++ be 4 x.l.toNat) ++ be 4 x.u.toNat) ++ be 4 x.d.toNat), kNb 3 (w.alloc (.cells x.cs 25)) ((((((([] ++ be 8 x.n.toNat) ++ be 4 x.g.toNat) ++ be 4 x.k.toNat) ++ be 4 x.m.toNat) ++ be 4 x.l.toNat) ++ be 4 x.u.toNat) ++ be 4 x.d.toNat)] [3, 6, 9] (by decide) (by decide) (path3 (by kernel_rfl) (by kernel_rfl)) (fun k W => k = 0 → Fr (fun _ => False) (w2) W) (fun _ => (Fr.refl _ _).drew) ?steps ?done
        case steps =>
          refine ⟨?_, ?_⟩
          · intro a' w' k' hb hf hs hc hq hg hd hu
            exact .inl ⟨wantedN rfl, k_val (v2) (by decide) hs (x_move rfl ((hu 10 5 rfl (waits (by kernel_rfl))).trans h5)) rfl⟩
          refine ⟨?_, ?_⟩
          · intro a' w' k' hb hf hs hc hq hg hd hu
            exact .inl ⟨wantedN rfl, k_val (.pointer (some ⟨w.heap.size, 4, none⟩)) (by decide) hs (x_field (of := 0) (off := 4) (by intro W9; simpa using fa25_4 w.heap.size 0 W9) rfl ((hb.old 1 (by decide +kernel)).trans h1)) rfl⟩
          refine ⟨?_, ?_⟩
          · intro a' w' k' hb hf hs hc hq hg hd hu
            exact .inl ⟨wantedN rfl, k_val (.int .u32 x.l) (by decide) hs (x_load1 ld23 rfl (hd 1 (by kernel_rfl) 26 rfl) (cellS hf (unhide HB) 4 rfl)) rfl⟩
          refine ⟨?_, ?_⟩
          · intro a' w' k' hb hf hs hc hq hg hd hu
            obtain rfl := hc 0 rfl; exact .inl ⟨wantedN rfl, k_callC 42 _ (by decide) (e_call2 rfl rfl (hd 0 (by kernel_rfl) 25 rfl) (hd 2 (by kernel_rfl) 27 rfl) (fun _ _ => by simp [go_sem])) ((four_any (w.alloc (.cells x.cs 25)) _ _ _ _ (x.l.toNat) (by have := HOK.l; omega) ((unhide H2).kept (hs rfl)) (by have := HOK.l; omega) (by simp [be_length])).mono (by rintro e w9 ⟨v9, rfl, h9, f9⟩; exact ⟨_, rfl, ⟨Nat.le_refl _, fun _ => h9⟩, f9.mono (fun k _ e => by simpa using e), fun e => by omega⟩))⟩
          refine ⟨?_, ?_⟩
          · intro a' w' k' hb hf hs hc hq hg hd hu
            exact .inl ⟨wantedN rfl, k_val (.pointer (some ⟨w.heap.size, 5, none⟩)) (by decide) hs (x_field (of := 0) (off := 5) (by intro W9; simpa using fa25_5 w.heap.size 0 W9) rfl ((hb.old 1 (by decide +kernel)).trans h1)) rfl⟩
          refine ⟨?_, ?_⟩
          · intro a' w' k' hb hf hs hc hq hg hd hu
            exact .inl ⟨wantedN rfl, k_val (.int .u32 x.u) (by decide) hs (x_load1 ld23 rfl (hd 4 (by kernel_rfl) 29 rfl) (cellS hf (unhide HB) 5 rfl)) rfl⟩
          refine ⟨?_, ?_⟩
          · intro a' w' k' hb hf hs hc hq hg hd hu
            obtain rfl := hc 1 rfl; have hh := ((hd 3 (by kernel_rfl) 28 rfl)); have hN := hh.2 rfl; exact .inl ⟨wantedN rfl, k_callC 42 _ (by decide) (e_call2 rfl rfl rfl (hd 5 (by kernel_rfl) 30 rfl) (fun _ _ => by simp [go_sem])) ((four_any (w.alloc (.cells x.cs 25)) _ _ _ _ (x.u.toNat) (by have := HOK.u; omega) hN (by have := HOK.u; omega) (by simp [be_length])).mono (by rintro e w9 ⟨v9, rfl, h9, f9⟩; exact ⟨_, rfl, ⟨Nat.le_refl _, fun _ => h9⟩, f9.mono (fun k _ e => by simpa using e), fun e => by omega⟩))⟩
          refine ⟨?_, ?_⟩
          · intro a' w' k' hb hf hs hc hq hg hd hu
            exact .inl ⟨wantedN rfl, k_val (.pointer (some ⟨w.heap.size, 6, none⟩)) (by decide) hs (x_field (of := 0) (off := 6) (by intro W9; simpa using fa25_6 w.heap.size 0 W9) rfl ((hb.old 1 (by decide +kernel)).trans h1)) rfl⟩
          refine ⟨?_, ?_⟩
          · intro a' w' k' hb hf hs hc hq hg hd hu
            exact .inl ⟨wantedN rfl, k_val (.int .u32 x.d) (by decide) hs (x_load1 ld23 rfl (hd 7 (by kernel_rfl) 32 rfl) (cellS hf (unhide HB) 6 rfl)) rfl⟩
          refine ⟨?_, ?_⟩
          · intro a' w' k' hb hf hs hc hq hg hd hu
            obtain rfl := hc 2 rfl; have hh := ((hd 6 (by kernel_rfl) 31 rfl)); have hN := hh.2 rfl; exact .inl ⟨wantedN rfl, k_callC 42 _ (by decide) (e_call2 rfl rfl rfl (hd 8 (by kernel_rfl) 33 rfl) (fun _ _ => by simp [go_sem])) ((four_any (w.alloc (.cells x.cs 25)) _ _ _ _ (x.d.toNat) (by have := HOK.d; omega) hN (by have := HOK.d; omega) (by simp [be_length])).mono (by rintro e w9 ⟨v9, rfl, h9, f9⟩; exact ⟨_, rfl, ⟨Nat.le_refl _, fun _ => h9⟩, f9.mono (fun k _ e => by simpa using e), fun e => by omega⟩))⟩
          refine ⟨?_, ?_⟩
          · intro a' w' k' hb hf hs hc hq hg hd hu
            have hh := (hd 9 (by kernel_rfl) 34 rfl); exact .inl ⟨wantedN rfl, k_val _ (by decide) hs (x_assign rfl rfl) hh⟩
          exact trivial
        case done =>
          intro a' w3 hb hf hs hall
          have hdf' : a'.defers = [] := by rw [hb.defers]; exact hdf
          have hN := (show _ ∧ _ from hall 10 (by decide) 5 rfl).2 rfl
          obtain ⟨g4, hv4⟩ : ∃ v, a'.tmps.getD 4 undef = v := ⟨_, rfl⟩
          obtain ⟨v3, hv5⟩ : ∃ v, a'.tmps.getD 5 undef = v := ⟨_, rfl⟩
          obtain ⟨g6, hv6⟩ : ∃ v, a'.tmps.getD 6 undef = v := ⟨_, rfl⟩
          obtain ⟨g7, hv7⟩ : ∃ v, a'.tmps.getD 7 undef = v := ⟨_, rfl⟩
          obtain ⟨g8, hv8⟩ : ∃ v, a'.tmps.getD 8 undef = v := ⟨_, rfl⟩
          obtain ⟨g9, hv9⟩ : ∃ v, a'.tmps.getD 9 undef = v := ⟨_, rfl⟩
          obtain ⟨g10, hv10⟩ : ∃ v, a'.tmps.getD 10 undef = v := ⟨_, rfl⟩
          obtain ⟨g11, hv11⟩ : ∃ v, a'.tmps.getD 11 undef = v := ⟨_, rfl⟩
          obtain ⟨g12, hv12⟩ : ∃ v, a'.tmps.getD 12 undef = v := ⟨_, rfl⟩
          obtain ⟨g13, hv13⟩ : ∃ v, a'.tmps.getD 13 undef = v := ⟨_, rfl⟩
          obtain ⟨g14, hv14⟩ : ∃ v, a'.tmps.getD 14 undef = v := ⟨_, rfl⟩
          obtain ⟨g15, hv15⟩ : ∃ v, a'.tmps.getD 15 undef = v := ⟨_, rfl⟩
          obtain ⟨g16, hv16⟩ : ∃ v, a'.tmps.getD 16 undef = v := ⟨_, rfl⟩
          obtain ⟨g17, hv17⟩ : ∃ v, a'.tmps.getD 17 undef = v := ⟨_, rfl⟩
          obtain ⟨g18, hv18⟩ : ∃ v, a'.tmps.getD 18 undef = v := ⟨_, rfl⟩
          obtain ⟨g19, hv19⟩ : ∃ v, a'.tmps.getD 19 undef = v := ⟨_, rfl⟩
          obtain ⟨g20, hv20⟩ : ∃ v, a'.tmps.getD 20 undef = v := ⟨_, rfl⟩
          obtain ⟨g21, hv21⟩ : ∃ v, a'.tmps.getD 21 undef = v := ⟨_, rfl⟩
          obtain ⟨g22, hv22⟩ : ∃ v, a'.tmps.getD 22 undef = v := ⟨_, rfl⟩
          obtain ⟨g23, hv23⟩ : ∃ v, a'.tmps.getD 23 undef = v := ⟨_, rfl⟩
          obtain ⟨g24, hv24⟩ : ∃ v, a'.tmps.getD 24 undef = v := ⟨_, rfl⟩
          obtain ⟨g25, hv25⟩ : ∃ v, a'.tmps.getD 25 undef = v := ⟨_, rfl⟩
          obtain ⟨g26, hv26⟩ : ∃ v, a'.tmps.getD 26 undef = v := ⟨_, rfl⟩
          obtain ⟨g27, hv27⟩ : ∃ v, a'.tmps.getD 27 undef = v := ⟨_, rfl⟩
          obtain ⟨g28, hv28⟩ : ∃ v, a'.tmps.getD 28 undef = v := ⟨_, rfl⟩
          obtain ⟨g29, hv29⟩ : ∃ v, a'.tmps.getD 29 undef = v := ⟨_, rfl⟩
          obtain ⟨g30, hv30⟩ : ∃ v, a'.tmps.getD 30 undef = v := ⟨_, rfl⟩
          obtain ⟨g31, hv31⟩ : ∃ v, a'.tmps.getD 31 undef = v := ⟨_, rfl⟩
          obtain ⟨g32, hv32⟩ : ∃ v, a'.tmps.getD 32 undef = v := ⟨_, rfl⟩
          obtain ⟨g33, hv33⟩ : ∃ v, a'.tmps.getD 33 undef = v := ⟨_, rfl⟩
          obtain ⟨g34, hv34⟩ : ∃ v, a'.tmps.getD 34 undef = v := ⟨_, rfl⟩
          obtain ⟨g35, hv35⟩ : ∃ v, a'.tmps.getD 35 undef = v := ⟨_, rfl⟩
          obtain ⟨g36, hv36⟩ : ∃ v, a'.tmps.getD 36 undef = v := ⟨_, rfl⟩
          obtain ⟨g37, hv37⟩ : ∃ v, a'.tmps.getD 37 undef = v := ⟨_, rfl⟩
          obtain ⟨g38, hv38⟩ : ∃ v, a'.tmps.getD 38 undef = v := ⟨_, rfl⟩
          obtain ⟨g39, hv39⟩ : ∃ v, a'.tmps.getD 39 undef = v := ⟨_, rfl⟩
          obtain ⟨g40, hv40⟩ : ∃ v, a'.tmps.getD 40 undef = v := ⟨_, rfl⟩
          obtain ⟨g41, hv41⟩ : ∃ v, a'.tmps.getD 41 undef = v := ⟨_, rfl⟩
          obtain ⟨g42, hv42⟩ : ∃ v, a'.tmps.getD 42 undef = v := ⟨_, rfl⟩
          obtain ⟨g43, hv43⟩ : ∃ v, a'.tmps.getD 43 undef = v := ⟨_, rfl⟩
          obtain ⟨g44, hv44⟩ : ∃ v, a'.tmps.getD 44 undef = v := ⟨_, rfl⟩
          obtain ⟨g45, hv45⟩ : ∃ v, a'.tmps.getD 45 undef = v := ⟨_, rfl⟩
          obtain ⟨g46, hv46⟩ : ∃ v, a'.tmps.getD 46 undef = v := ⟨_, rfl⟩
          obtain ⟨g47, hv47⟩ : ∃ v, a'.tmps.getD 47 undef = v := ⟨_, rfl⟩
          obtain ⟨g48, hv48⟩ : ∃ v, a'.tmps.getD 48 undef = v := ⟨_, rfl⟩
          obtain ⟨g49, hv49⟩ : ∃ v, a'.tmps.getD 49 undef = v := ⟨_, rfl⟩
          obtain ⟨g50, hv50⟩ : ∃ v, a'.tmps.getD 50 undef = v := ⟨_, rfl⟩
          obtain ⟨g51, hv51⟩ : ∃ v, a'.tmps.getD 51 undef = v := ⟨_, rfl⟩
          obtain ⟨g52, hv52⟩ : ∃ v, a'.tmps.getD 52 undef = v := ⟨_, rfl⟩
          obtain ⟨g53, hv53⟩ : ∃ v, a'.tmps.getD 53 undef = v := ⟨_, rfl⟩
          obtain ⟨g54, hv54⟩ : ∃ v, a'.tmps.getD 54 undef = v := ⟨_, rfl⟩
          obtain ⟨g55, hv55⟩ : ∃ v, a'.tmps.getD 55 undef = v := ⟨_, rfl⟩
          obtain ⟨g56, hv56⟩ : ∃ v, a'.tmps.getD 56 undef = v := ⟨_, rfl⟩
          obtain ⟨g57, hv57⟩ : ∃ v, a'.tmps.getD 57 undef = v := ⟨_, rfl⟩
          obtain ⟨g58, hv58⟩ : ∃ v, a'.tmps.getD 58 undef = v := ⟨_, rfl⟩
          obtain ⟨g59, hv59⟩ : ∃ v, a'.tmps.getD 59 undef = v := ⟨_, rfl⟩
          obtain ⟨g60, hv60⟩ : ∃ v, a'.tmps.getD 60 undef = v := ⟨_, rfl⟩
          obtain ⟨g61, hv61⟩ : ∃ v, a'.tmps.getD 61 undef = v := ⟨_, rfl⟩
          obtain ⟨g62, hv62⟩ : ∃ v, a'.tmps.getD 62 undef = v := ⟨_, rfl⟩
          obtain ⟨g63, hv63⟩ : ∃ v, a'.tmps.getD 63 undef = v := ⟨_, rfl⟩
          obtain ⟨g64, hv64⟩ : ∃ v, a'.tmps.getD 64 undef = v := ⟨_, rfl⟩
          obtain ⟨g65, hv65⟩ : ∃ v, a'.tmps.getD 65 undef = v := ⟨_, rfl⟩
          obtain ⟨g66, hv66⟩ : ∃ v, a'.tmps.getD 66 undef = v := ⟨_, rfl⟩
          obtain ⟨g67, hv67⟩ : ∃ v, a'.tmps.getD 67 undef = v := ⟨_, rfl⟩
          obtain ⟨g68, hv68⟩ : ∃ v, a'.tmps.getD 68 undef = v := ⟨_, rfl⟩
          obtain ⟨g69, hv69⟩ : ∃ v, a'.tmps.getD 69 undef = v := ⟨_, rfl⟩
          obtain ⟨g70, hv70⟩ : ∃ v, a'.tmps.getD 70 undef = v := ⟨_, rfl⟩
          obtain ⟨g71, hv71⟩ : ∃ v, a'.tmps.getD 71 undef = v := ⟨_, rfl⟩
          have hfr := frame_eq (a := a') (vs := [x.v, .pointer (some ⟨w.heap.size, 0, none⟩), .slice none 0 0, .int .i64 0, g4, v3, g6, g7, g8, g9, g10, g11, g12, g13, g14, g15, g16, g17, g18, g19, g20, g21, g22, g23, g24, g25, g26, g27, g28, g29, g30, g31, g32, g33, g34, g35, g36, g37, g38, g39, g40, g41, g42, g43, g44, g45, g46, g47, g48, g49, g50, g51, g52, g53, g54, g55, g56, g57, g58, g59, g60, g61, g62, g63, g64, g65, g66, g67, g68, g69, g70, g71]) (by rw [hb.size, hsz]; rfl) hdf' ⟨((hb.old 0 (by decide +kernel)).trans h0), ((hb.old 1 (by decide +kernel)).trans h1), ((hb.old 2 (by decide +kernel)).trans h2), ((hb.old 3 (by decide +kernel)).trans h3), hv4, hv5, hv6, hv7, hv8, hv9, hv10, hv11, hv12, hv13, hv14, hv15, hv16, hv17, hv18, hv19, hv20, hv21, hv22, hv23, hv24, hv25, hv26, hv27, hv28, hv29, hv30, hv31, hv32, hv33, hv34, hv35, hv36, hv37, hv38, hv39, hv40, hv41, hv42, hv43, hv44, hv45, hv46, hv47, hv48, hv49, hv50, hv51, hv52, hv53, hv54, hv55, hv56, hv57, hv58, hv59, hv60, hv61, hv62, hv63, hv64, hv65, hv66, hv67, hv68, hv69, hv70, hv71, trivial⟩
          rw [hv5] at hN
          have H3 : Hid (Nb (w.alloc (.cells x.cs 25)) w3 v3 ((((((([] ++ be 8 x.n.toNat) ++ be 4 x.g.toNat) ++ be 4 x.k.toNat) ++ be 4 x.m.toNat) ++ be 4 x.l.toNat) ++ be 4 x.u.toNat) ++ be 4 x.d.toNat)) := hide hN
          clear hall hb hf hs hv4 hv5 hv6 hv7 hv8 hv9 hv10 hv11 hv12 hv13 hv14 hv15 hv16 hv17 hv18 hv19 hv20 hv21 hv22 hv23 hv24 hv25 hv26 hv27 hv28 hv29 hv30 hv31 hv32 hv33 hv34 hv35 hv36 hv37 hv38 hv39 hv40 hv41 hv42 hv43 hv44 hv45 hv46 hv47 hv48 hv49 hv50 hv51 hv52 hv53 hv54 hv55 hv56 hv57 hv58 hv59 hv60 hv61 hv62 hv63 hv64 hv65 hv66 hv67 hv68 hv69 hv70 hv71 hN
          subst hfr
          clear h0 h1 h2 h3 h5 hsz hdf hdf' HB
          apply_assumption
          go_upto_region 7 with fail
          have HB : Hid ((w3).heap[w.heap.size]? = some (.cells x.cs 25 (0, 0))) := hide (by rw [(unhide H3).fr.block _ (by simp) id]; exact heap_alloc_new w _)
          refine wp_nameK ?_
          intro a0 hA
          have h0 : a0.tmps.getD 0 undef = x.v := by rw [hA]; rfl
          have h1 : a0.tmps.getD 1 undef = .pointer (some ⟨w.heap.size, 0, none⟩) := by rw [hA]; rfl
          have h2 : a0.tmps.getD 2 undef = .slice none 0 0 := by rw [hA]; rfl
          have h3 : a0.tmps.getD 3 undef = .int .i64 0 := by rw [hA]; rfl
          have h5 : a0.tmps.getD 5 undef = v3 := by rw [hA]; rfl
          have hsz : a0.tmps.size = 72 := by rw [hA]; rfl
          have hdf : a0.defers = [] := by rw [hA]
          clear hA
          refine wp_region_kinds4 (fun k => w.heap.size + 1 ≤ k) (by kernel_rfl) (by kernel_rfl) (by decide +kernel) (by rw [hsz]; decide +kernel) [.eq (v3), .eq (.pointer (some ⟨w.heap.size, 7, none⟩)), .eq (.int .u64 x.s), kNb 1 (w.alloc (.cells x.cs 25)) (((((((([] ++ be 8 x.n.toNat) ++ be 4 x.g.toNat) ++ be 4 x.k.toNat) ++ be 4 x.m.toNat) ++ be 4 x.l.toNat) ++ be 4 x.u.toNat) ++ be 4 x.d.toNat) ++ be 8 x.s.toNat), .eq (.pointer (some ⟨w.heap.size, 8, none⟩)), .eq (.int .u64 x.b), kNb 2 (w.alloc (.cells x.cs 25)) ((((((((([] ++ be 8 x.n.toNat) ++ be 4 x.g.toNat) ++ be 4 x.k.toNat) ++ be 4 x.m.toNat) ++ be 4 x.l.toNat) ++ be 4 x.u.toNat) ++ be 4 x.d.toNat) ++ be 8 x.s.toNat) ++ be 8 x.b.toNat), .eq (.pointer (some ⟨w.heap.size, 9, none⟩)), .eq (.int .u64 x.ta), kNb 3 (w.alloc (.cells x.cs 25)) (((((((((([] ++ be 8 x.n.toNat) ++ be 4 x.g.toNat) ++ be 4 x.k.toNat) ++ be 4 x.m.toNat) ++ be 4 x.l.toNat) ++ be 4 x.u.toNat) ++ be 4 x.d.toNat) ++ be 8 x.s.toNat) ++ be 8 x.b.toNat) ++ be 8 x.ta.toNat), kNb 3 (w.alloc (.cells x.cs 25)) (((((((((([] ++ be 8 x.n.toNat) ++ be 4 x.g.toNat) ++ be 4 x.k.toNat) ++ be 4 x.m.toNat) ++ be 4 x.l.toNat) ++ be 4 x.u.toNat) ++ be 4 x.d.toNat) ++ be 8 x.s.toNat) ++ be 8 x.b.toNat) ++ be 8 x.ta.toNat)] [3, 6, 9] (by decide) (by decide) (path3 (by kernel_rfl) (by kernel_rfl)) (fun k W => k = 0 → Fr (fun _ => False) (w3) W) (fun _ => (Fr.refl _ _).drew) ?steps ?done
          case steps =>
            refine ⟨?_, ?_⟩
            · intro a' w' k' hb hf hs hc hq hg hd hu
              exact .inl ⟨wantedN rfl, k_val (v3) (by decide) hs (x_move rfl ((hu 10 5 rfl (waits (by kernel_rfl))).trans h5)) rfl⟩
            refine ⟨?_, ?_⟩
            · intro a' w' k' hb hf hs hc hq hg hd hu
              exact .inl ⟨wantedN rfl, k_val (.pointer (some ⟨w.heap.size, 7, none⟩)) (by decide) hs (x_field (of := 0) (off := 7) (by intro W9; simpa using fa25_7 w.heap.size 0 W9) rfl ((hb.old 1 (by decide +kernel)).trans h1)) rfl⟩
            refine ⟨?_, ?_⟩
            · intro a' w' k' hb hf hs hc hq hg hd hu
              exact .inl ⟨wantedN rfl, k_val (.int .u64 x.s) (by decide) hs (x_load1 ld22 rfl (hd 1 (by kernel_rfl) 36 rfl) (cellS hf (unhide HB) 7 rfl)) rfl⟩
            refine ⟨?_, ?_⟩
            · intro a' w' k' hb hf hs hc hq hg hd hu
              obtain rfl := hc 0 rfl; exact .inl ⟨wantedN rfl, k_callC 43 _ (by decide) (e_call2 rfl rfl (hd 0 (by kernel_rfl) 35 rfl) (hd 2 (by kernel_rfl) 37 rfl) (fun _ _ => by simp [go_sem])) ((eight_any (w.alloc (.cells x.cs 25)) _ _ _ _ (x.s.toNat) (by have := HOK.s; omega) ((unhide H3).kept (hs rfl)) (by have := HOK.s; omega) (by simp [be_length])).mono (by rintro e w9 ⟨v9, rfl, h9, f9⟩; exact ⟨_, rfl, ⟨Nat.le_refl _, fun _ => h9⟩, f9.mono (fun k _ e => by simpa using e), fun e => by omega⟩))⟩
            refine ⟨?_, ?_⟩
            · intro a' w' k' hb hf hs hc hq hg hd hu
              exact .inl ⟨wantedN rfl, k_val (.pointer (some ⟨w.heap.size, 8, none⟩)) (by decide) hs (x_field (of := 0) (off := 8) (by intro W9; simpa using fa25_8 w.heap.size 0 W9) rfl ((hb.old 1 (by decide +kernel)).trans h1)) rfl⟩
            refine ⟨?_, ?_⟩
            · intro a' w' k' hb hf hs hc hq hg hd hu
              exact .inl ⟨wantedN rfl, k_val (.int .u64 x.b) (by decide) hs (x_load1 ld22 rfl (hd 4 (by kernel_rfl) 39 rfl) (cellS hf (unhide HB) 8 rfl)) rfl⟩
            refine ⟨?_, ?_⟩
            · intro a' w' k' hb hf hs hc hq hg hd hu
              obtain rfl := hc 1 rfl; have hh := ((hd 3 (by kernel_rfl) 38 rfl)); have hN := hh.2 rfl; exact .inl ⟨wantedN rfl, k_callC 43 _ (by decide) (e_call2 rfl rfl rfl (hd 5 (by kernel_rfl) 40 rfl) (fun _ _ => by simp [go_sem])) ((eight_any (w.alloc (.cells x.cs 25)) _ _ _ _ (x.b.toNat) (by have := HOK.b; omega) hN (by have := HOK.b; omega) (by simp [be_length])).mono (by rintro e w9 ⟨v9, rfl, h9, f9⟩; exact ⟨_, rfl, ⟨Nat.le_refl _, fun _ => h9⟩, f9.mono (fun k _ e => by simpa using e), fun e => by omega⟩))⟩
            refine ⟨?_, ?_⟩
            · intro a' w' k' hb hf hs hc hq hg hd hu
              exact .inl ⟨wantedN rfl, k_val (.pointer (some ⟨w.heap.size, 9, none⟩)) (by decide) hs (x_field (of := 0) (off := 9) (by intro W9; simpa using fa25_9 w.heap.size 0 W9) rfl ((hb.old 1 (by decide +kernel)).trans h1)) rfl⟩
            refine ⟨?_, ?_⟩
            · intro a' w' k' hb hf hs hc hq hg hd hu
              exact .inl ⟨wantedN rfl, k_val (.int .u64 x.ta) (by decide) hs (x_load1 ld22 rfl (hd 7 (by kernel_rfl) 42 rfl) (cellS hf (unhide HB) 9 rfl)) rfl⟩
            refine ⟨?_, ?_⟩
            · intro a' w' k' hb hf hs hc hq hg hd hu
              obtain rfl := hc 2 rfl; have hh := ((hd 6 (by kernel_rfl) 41 rfl)); have hN := hh.2 rfl; exact .inl ⟨wantedN rfl, k_callC 43 _ (by decide) (e_call2 rfl rfl rfl (hd 8 (by kernel_rfl) 43 rfl) (fun _ _ => by simp [go_sem])) ((eight_any (w.alloc (.cells x.cs 25)) _ _ _ _ (x.ta.toNat) (by have := HOK.ta; omega) hN (by have := HOK.ta; omega) (by simp [be_length])).mono (by rintro e w9 ⟨v9, rfl, h9, f9⟩; exact ⟨_, rfl, ⟨Nat.le_refl _, fun _ => h9⟩, f9.mono (fun k _ e => by simpa using e), fun e => by omega⟩))⟩
            refine ⟨?_, ?_⟩
            · intro a' w' k' hb hf hs hc hq hg hd hu
              have hh := (hd 9 (by kernel_rfl) 44 rfl); exact .inl ⟨wantedN rfl, k_val _ (by decide) hs (x_assign rfl rfl) hh⟩
            exact trivial
          case done =>
            intro a' w4 hb hf hs hall
            have hdf' : a'.defers = [] := by rw [hb.defers]; exact hdf
            have hN := (show _ ∧ _ from hall 10 (by decide) 5 rfl).2 rfl
            obtain ⟨g4, hv4⟩ : ∃ v, a'.tmps.getD 4 undef = v := ⟨_, rfl⟩
            obtain ⟨v4, hv5⟩ : ∃ v, a'.tmps.getD 5 undef = v := ⟨_, rfl⟩
            obtain ⟨g6, hv6⟩ : ∃ v, a'.tmps.getD 6 undef = v := ⟨_, rfl⟩
            obtain ⟨g7, hv7⟩ : ∃ v, a'.tmps.getD 7 undef = v := ⟨_, rfl⟩
            obtain ⟨g8, hv8⟩ : ∃ v, a'.tmps.getD 8 undef = v := ⟨_, rfl⟩
            obtain ⟨g9, hv9⟩ : ∃ v, a'.tmps.getD 9 undef = v := ⟨_, rfl⟩
            obtain ⟨g10, hv10⟩ : ∃ v, a'.tmps.getD 10 undef = v := ⟨_, rfl⟩
            obtain ⟨g11, hv11⟩ : ∃ v, a'.tmps.getD 11 undef = v := ⟨_, rfl⟩
            obtain ⟨g12, hv12⟩ : ∃ v, a'.tmps.getD 12 undef = v := ⟨_, rfl⟩
            obtain ⟨g13, hv13⟩ : ∃ v, a'.tmps.getD 13 undef = v := ⟨_, rfl⟩
            obtain ⟨g14, hv14⟩ : ∃ v, a'.tmps.getD 14 undef = v := ⟨_, rfl⟩
            obtain ⟨g15, hv15⟩ : ∃ v, a'.tmps.getD 15 undef = v := ⟨_, rfl⟩
            obtain ⟨g16, hv16⟩ : ∃ v, a'.tmps.getD 16 undef = v := ⟨_, rfl⟩
            obtain ⟨g17, hv17⟩ : ∃ v, a'.tmps.getD 17 undef = v := ⟨_, rfl⟩
            obtain ⟨g18, hv18⟩ : ∃ v, a'.tmps.getD 18 undef = v := ⟨_, rfl⟩
            obtain ⟨g19, hv19⟩ : ∃ v, a'.tmps.getD 19 undef = v := ⟨_, rfl⟩
            obtain ⟨g20, hv20⟩ : ∃ v, a'.tmps.getD 20 undef = v := ⟨_, rfl⟩
            obtain ⟨g21, hv21⟩ : ∃ v, a'.tmps.getD 21 undef = v := ⟨_, rfl⟩
            obtain ⟨g22, hv22⟩ : ∃ v, a'.tmps.getD 22 undef = v := ⟨_, rfl⟩
            obtain ⟨g23, hv23⟩ : ∃ v, a'.tmps.getD 23 undef = v := ⟨_, rfl⟩
            obtain ⟨g24, hv24⟩ : ∃ v, a'.tmps.getD 24 undef = v := ⟨_, rfl⟩
            obtain ⟨g25, hv25⟩ : ∃ v, a'.tmps.getD 25 undef = v := ⟨_, rfl⟩
            obtain ⟨g26, hv26⟩ : ∃ v, a'.tmps.getD 26 undef = v := ⟨_, rfl⟩
            obtain ⟨g27, hv27⟩ : ∃ v, a'.tmps.getD 27 undef = v := ⟨_, rfl⟩
            obtain ⟨g28, hv28⟩ : ∃ v, a'.tmps.getD 28 undef = v := ⟨_, rfl⟩
            obtain ⟨g29, hv29⟩ : ∃ v, a'.tmps.getD 29 undef = v := ⟨_, rfl⟩
            obtain ⟨g30, hv30⟩ : ∃ v, a'.tmps.getD 30 undef = v := ⟨_, rfl⟩
            obtain ⟨g31, hv31⟩ : ∃ v, a'.tmps.getD 31 undef = v := ⟨_, rfl⟩
            obtain ⟨g32, hv32⟩ : ∃ v, a'.tmps.getD 32 undef = v := ⟨_, rfl⟩
            obtain ⟨g33, hv33⟩ : ∃ v, a'.tmps.getD 33 undef = v := ⟨_, rfl⟩
            obtain ⟨g34, hv34⟩ : ∃ v, a'.tmps.getD 34 undef = v := ⟨_, rfl⟩
            obtain ⟨g35, hv35⟩ : ∃ v, a'.tmps.getD 35 undef = v := ⟨_, rfl⟩
            obtain ⟨g36, hv36⟩ : ∃ v, a'.tmps.getD 36 undef = v := ⟨_, rfl⟩
            obtain ⟨g37, hv37⟩ : ∃ v, a'.tmps.getD 37 undef = v := ⟨_, rfl⟩
            obtain ⟨g38, hv38⟩ : ∃ v, a'.tmps.getD 38 undef = v := ⟨_, rfl⟩
            obtain ⟨g39, hv39⟩ : ∃ v, a'.tmps.getD 39 undef = v := ⟨_, rfl⟩
            obtain ⟨g40, hv40⟩ : ∃ v, a'.tmps.getD 40 undef = v := ⟨_, rfl⟩
            obtain ⟨g41, hv41⟩ : ∃ v, a'.tmps.getD 41 undef = v := ⟨_, rfl⟩
            obtain ⟨g42, hv42⟩ : ∃ v, a'.tmps.getD 42 undef = v := ⟨_, rfl⟩
            obtain ⟨g43, hv43⟩ : ∃ v, a'.tmps.getD 43 undef = v := ⟨_, rfl⟩
            obtain ⟨g44, hv44⟩ : ∃ v, a'.tmps.getD 44 undef = v := ⟨_, rfl⟩
            obtain ⟨g45, hv45⟩ : ∃ v, a'.tmps.getD 45 undef = v := ⟨_, rfl⟩
            obtain ⟨g46, hv46⟩ : ∃ v, a'.tmps.getD 46 undef = v := ⟨_, rfl⟩
            obtain ⟨g47, hv47⟩ : ∃ v, a'.tmps.getD 47 undef = v := ⟨_, rfl⟩
            obtain ⟨g48, hv48⟩ : ∃ v, a'.tmps.getD 48 undef = v := ⟨_, rfl⟩
            obtain ⟨g49, hv49⟩ : ∃ v, a'.tmps.getD 49 undef = v := ⟨_, rfl⟩
            obtain ⟨g50, hv50⟩ : ∃ v, a'.tmps.getD 50 undef = v := ⟨_, rfl⟩
            obtain ⟨g51, hv51⟩ : ∃ v, a'.tmps.getD 51 undef = v := ⟨_, rfl⟩
            obtain ⟨g52, hv52⟩ : ∃ v, a'.tmps.getD 52 undef = v := ⟨_, rfl⟩
            obtain ⟨g53, hv53⟩ : ∃ v, a'.tmps.getD 53 undef = v := ⟨_, rfl⟩
            obtain ⟨g54, hv54⟩ : ∃ v, a'.tmps.getD 54 undef = v := ⟨_, rfl⟩
            obtain ⟨g55, hv55⟩ : ∃ v, a'.tmps.getD 55 undef = v := ⟨_, rfl⟩
            obtain ⟨g56, hv56⟩ : ∃ v, a'.tmps.getD 56 undef = v := ⟨_, rfl⟩
            obtain ⟨g57, hv57⟩ : ∃ v, a'.tmps.getD 57 undef = v := ⟨_, rfl⟩
            obtain ⟨g58, hv58⟩ : ∃ v, a'.tmps.getD 58 undef = v := ⟨_, rfl⟩
            obtain ⟨g59, hv59⟩ : ∃ v, a'.tmps.getD 59 undef = v := ⟨_, rfl⟩
            obtain ⟨g60, hv60⟩ : ∃ v, a'.tmps.getD 60 undef = v := ⟨_, rfl⟩
            obtain ⟨g61, hv61⟩ : ∃ v, a'.tmps.getD 61 undef = v := ⟨_, rfl⟩
            obtain ⟨g62, hv62⟩ : ∃ v, a'.tmps.getD 62 undef = v := ⟨_, rfl⟩
            obtain ⟨g63, hv63⟩ : ∃ v, a'.tmps.getD 63 undef = v := ⟨_, rfl⟩
            obtain ⟨g64, hv64⟩ : ∃ v, a'.tmps.getD 64 undef = v := ⟨_, rfl⟩
            obtain ⟨g65, hv65⟩ : ∃ v, a'.tmps.getD 65 undef = v := ⟨_, rfl⟩
            obtain ⟨g66, hv66⟩ : ∃ v, a'.tmps.getD 66 undef = v := ⟨_, rfl⟩
            obtain ⟨g67, hv67⟩ : ∃ v, a'.tmps.getD 67 undef = v := ⟨_, rfl⟩
            obtain ⟨g68, hv68⟩ : ∃ v, a'.tmps.getD 68 undef = v := ⟨_, rfl⟩
            obtain ⟨g69, hv69⟩ : ∃ v, a'.tmps.getD 69 undef = v := ⟨_, rfl⟩
            obtain ⟨g70, hv70⟩ : ∃ v, a'.tmps.getD 70 undef = v := ⟨_, rfl⟩
            obtain ⟨g71, hv71⟩ : ∃ v, a'.tmps.getD 71 undef = v := ⟨_, rfl⟩
            have hfr := frame_eq (a := a') (vs := [x.v, .pointer (some ⟨w.heap.size, 0, none⟩), .slice none 0 0, .int .i64 0, g4, v4, g6, g7, g8, g9, g10, g11, g12, g13, g14, g15, g16, g17, g18, g19, g20, g21, g22, g23, g24, g25, g26, g27, g28, g29, g30, g31, g32, g33, g34, g35, g36, g37, g38, g39, g40, g41, g42, g43, g44, g45, g46, g47, g48, g49, g50, g51, g52, g53, g54, g55, g56, g57, g58, g59, g60, g61, g62, g63, g64, g65, g66, g67, g68, g69, g70, g71]) (by rw [hb.size, hsz]; rfl) hdf' ⟨((hb.old 0 (by decide +kernel)).trans h0), ((hb.old 1 (by decide +kernel)).trans h1), ((hb.old 2 (by decide +kernel)).trans h2), ((hb.old 3 (by decide +kernel)).trans h3), hv4, hv5, hv6, hv7, hv8, hv9, hv10, hv11, hv12, hv13, hv14, hv15, hv16, hv17, hv18, hv19, hv20, hv21, hv22, hv23, hv24, hv25, hv26, hv27, hv28, hv29, hv30, hv31, hv32, hv33, hv34, hv35, hv36, hv37, hv38, hv39, hv40, hv41, hv42, hv43, hv44, hv45, hv46, hv47, hv48, hv49, hv50, hv51, hv52, hv53, hv54, hv55, hv56, hv57, hv58, hv59, hv60, hv61, hv62, hv63, hv64, hv65, hv66, hv67, hv68, hv69, hv70, hv71, trivial⟩
            rw [hv5] at hN
            have H4 : Hid (Nb (w.alloc (.cells x.cs 25)) w4 v4 (((((((((([] ++ be 8 x.n.toNat) ++ be 4 x.g.toNat) ++ be 4 x.k.toNat) ++ be 4 x.m.toNat) ++ be 4 x.l.toNat) ++ be 4 x.u.toNat) ++ be 4 x.d.toNat) ++ be 8 x.s.toNat) ++ be 8 x.b.toNat) ++ be 8 x.ta.toNat)) := hide hN
            clear hall hb hf hs hv4 hv5 hv6 hv7 hv8 hv9 hv10 hv11 hv12 hv13 hv14 hv15 hv16 hv17 hv18 hv19 hv20 hv21 hv22 hv23 hv24 hv25 hv26 hv27 hv28 hv29 hv30 hv31 hv32 hv33 hv34 hv35 hv36 hv37 hv38 hv39 hv40 hv41 hv42 hv43 hv44 hv45 hv46 hv47 hv48 hv49 hv50 hv51 hv52 hv53 hv54 hv55 hv56 hv57 hv58 hv59 hv60 hv61 hv62 hv63 hv64 hv65 hv66 hv67 hv68 hv69 hv70 hv71 hN
            subst hfr
            clear h0 h1 h2 h3 h5 hsz hdf hdf' HB
            apply_assumption
            go_upto_region 8 with fail
            have HB : Hid ((w4).heap[w.heap.size]? = some (.cells x.cs 25 (0, 0))) := hide (by rw [(unhide H4).fr.block _ (by simp) id]; exact heap_alloc_new w _)
            refine wp_nameK ?_
            intro a0 hA
            have h0 : a0.tmps.getD 0 undef = x.v := by rw [hA]; rfl
            have h1 : a0.tmps.getD 1 undef = .pointer (some ⟨w.heap.size, 0, none⟩) := by rw [hA]; rfl
            have h2 : a0.tmps.getD 2 undef = .slice none 0 0 := by rw [hA]; rfl
            have h3 : a0.tmps.getD 3 undef = .int .i64 0 := by rw [hA]; rfl
            have h5 : a0.tmps.getD 5 undef = v4 := by rw [hA]; rfl
            have hsz : a0.tmps.size = 72 := by rw [hA]; rfl
            have hdf : a0.defers = [] := by rw [hA]
            clear hA
            refine wp_region_kinds4 (fun k => w.heap.size + 1 ≤ k) (by kernel_rfl) (by kernel_rfl) (by decide +kernel) (by rw [hsz]; decide +kernel) [.eq (v4), .eq (.pointer (some ⟨w.heap.size, 10, none⟩)), .eq (.int .u64 x.tm), kNb 1 (w.alloc (.cells x.cs 25)) ((((((((((([] ++ be 8 x.n.toNat) ++ be 4 x.g.toNat) ++ be 4 x.k.toNat) ++ be 4 x.m.toNat) ++ be 4 x.l.toNat) ++ be 4 x.u.toNat) ++ be 4 x.d.toNat) ++ be 8 x.s.toNat) ++ be 8 x.b.toNat) ++ be 8 x.ta.toNat) ++ be 8 x.tm.toNat), .eq (.pointer (some ⟨w.heap.size, 11, none⟩)), .eq (.int .u64 x.tc), kNb 2 (w.alloc (.cells x.cs 25)) (((((((((((([] ++ be 8 x.n.toNat) ++ be 4 x.g.toNat) ++ be 4 x.k.toNat) ++ be 4 x.m.toNat) ++ be 4 x.l.toNat) ++ be 4 x.u.toNat) ++ be 4 x.d.toNat) ++ be 8 x.s.toNat) ++ be 8 x.b.toNat) ++ be 8 x.ta.toNat) ++ be 8 x.tm.toNat) ++ be 8 x.tc.toNat), .eq (.pointer (some ⟨w.heap.size, 12, none⟩)), .eq (.int .u64 x.r), kNb 3 (w.alloc (.cells x.cs 25)) ((((((((((((([] ++ be 8 x.n.toNat) ++ be 4 x.g.toNat) ++ be 4 x.k.toNat) ++ be 4 x.m.toNat) ++ be 4 x.l.toNat) ++ be 4 x.u.toNat) ++ be 4 x.d.toNat) ++ be 8 x.s.toNat) ++ be 8 x.b.toNat) ++ be 8 x.ta.toNat) ++ be 8 x.tm.toNat) ++ be 8 x.tc.toNat) ++ be 8 x.r.toNat), kNb 3 (w.alloc (.cells x.cs 25)) ((((((((((((([] ++ be 8 x.n.toNat) ++ be 4 x.g.toNat) ++ be 4 x.k.toNat) ++ be 4 x.m.toNat) ++ be 4 x.l.toNat) ++ be 4 x.u.toNat) ++ be 4 x.d.toNat) ++ be 8 x.s.toNat) ++ be 8 x.b.toNat) ++ be 8 x.ta.toNat) ++ be 8 x.tm.toNat) ++ be 8 x.tc.toNat) ++ be 8 x.r.toNat)] [3, 6, 9] (by decide) (by decide) (path3 (by kernel_rfl) (by kernel_rfl)) (fun k W => k = 0 → Fr (fun _ => False) (w4) W) (fun _ => (Fr.refl _ _).drew) ?steps ?done
            case steps =>
              refine ⟨?_, ?_⟩
              · intro a' w' k' hb hf hs hc hq hg hd hu
                exact .inl ⟨wantedN rfl, k_val (v4) (by decide) hs (x_move rfl ((hu 10 5 rfl (waits (by kernel_rfl))).trans h5)) rfl⟩
              refine ⟨?_, ?_⟩
              · intro a' w' k' hb hf hs hc hq hg hd hu
                exact .inl ⟨wantedN rfl, k_val (.pointer (some ⟨w.heap.size, 10, none⟩)) (by decide) hs (x_field (of := 0) (off := 10) (by intro W9; simpa using fa25_10 w.heap.size 0 W9) rfl ((hb.old 1 (by decide +kernel)).trans h1)) rfl⟩
              refine ⟨?_, ?_⟩
              · intro a' w' k' hb hf hs hc hq hg hd hu
                exact .inl ⟨wantedN rfl, k_val (.int .u64 x.tm) (by decide) hs (x_load1 ld22 rfl (hd 1 (by kernel_rfl) 46 rfl) (cellS hf (unhide HB) 10 rfl)) rfl⟩
              refine ⟨?_, ?_⟩
              · intro a' w' k' hb hf hs hc hq hg hd hu
                obtain rfl := hc 0 rfl; exact .inl ⟨wantedN rfl, k_callC 43 _ (by decide) (e_call2 rfl rfl (hd 0 (by kernel_rfl) 45 rfl) (hd 2 (by kernel_rfl) 47 rfl) (fun _ _ => by simp [go_sem])) ((eight_any (w.alloc (.cells x.cs 25)) _ _ _ _ (x.tm.toNat) (by have := HOK.tm; omega) ((unhide H4).kept (hs rfl)) (by have := HOK.tm; omega) (by simp [be_length])).mono (by rintro e w9 ⟨v9, rfl, h9, f9⟩; exact ⟨_, rfl, ⟨Nat.le_refl _, fun _ => h9⟩, f9.mono (fun k _ e => by simpa using e), fun e => by omega⟩))⟩
              refine ⟨?_, ?_⟩
              · intro a' w' k' hb hf hs hc hq hg hd hu
                exact .inl ⟨wantedN rfl, k_val (.pointer (some ⟨w.heap.size, 11, none⟩)) (by decide) hs (x_field (of := 0) (off := 11) (by intro W9; simpa using fa25_11 w.heap.size 0 W9) rfl ((hb.old 1 (by decide +kernel)).trans h1)) rfl⟩
              refine ⟨?_, ?_⟩
              · intro a' w' k' hb hf hs hc hq hg hd hu
                exact .inl ⟨wantedN rfl, k_val (.int .u64 x.tc) (by decide) hs (x_load1 ld22 rfl (hd 4 (by kernel_rfl) 49 rfl) (cellS hf (unhide HB) 11 rfl)) rfl⟩
              refine ⟨?_, ?_⟩
              · intro a' w' k' hb hf hs hc hq hg hd hu
                obtain rfl := hc 1 rfl; have hh := ((hd 3 (by kernel_rfl) 48 rfl)); have hN := hh.2 rfl; exact .inl ⟨wantedN rfl, k_callC 43 _ (by decide) (e_call2 rfl rfl rfl (hd 5 (by kernel_rfl) 50 rfl) (fun _ _ => by simp [go_sem])) ((eight_any (w.alloc (.cells x.cs 25)) _ _ _ _ (x.tc.toNat) (by have := HOK.tc; omega) hN (by have := HOK.tc; omega) (by simp [be_length])).mono (by rintro e w9 ⟨v9, rfl, h9, f9⟩; exact ⟨_, rfl, ⟨Nat.le_refl _, fun _ => h9⟩, f9.mono (fun k _ e => by simpa using e), fun e => by omega⟩))⟩
              refine ⟨?_, ?_⟩
              · intro a' w' k' hb hf hs hc hq hg hd hu
                exact .inl ⟨wantedN rfl, k_val (.pointer (some ⟨w.heap.size, 12, none⟩)) (by decide) hs (x_field (of := 0) (off := 12) (by intro W9; simpa using fa25_12 w.heap.size 0 W9) rfl ((hb.old 1 (by decide +kernel)).trans h1)) rfl⟩
              refine ⟨?_, ?_⟩
              · intro a' w' k' hb hf hs hc hq hg hd hu
                exact .inl ⟨wantedN rfl, k_val (.int .u64 x.r) (by decide) hs (x_load1 ld22 rfl (hd 7 (by kernel_rfl) 52 rfl) (cellS hf (unhide HB) 12 rfl)) rfl⟩
              refine ⟨?_, ?_⟩
              · intro a' w' k' hb hf hs hc hq hg hd hu
                obtain rfl := hc 2 rfl; have hh := ((hd 6 (by kernel_rfl) 51 rfl)); have hN := hh.2 rfl; exact .inl ⟨wantedN rfl, k_callC 43 _ (by decide) (e_call2 rfl rfl rfl (hd 8 (by kernel_rfl) 53 rfl) (fun _ _ => by simp [go_sem])) ((eight_any (w.alloc (.cells x.cs 25)) _ _ _ _ (x.r.toNat) (by have := HOK.r; omega) hN (by have := HOK.r; omega) (by simp [be_length])).mono (by rintro e w9 ⟨v9, rfl, h9, f9⟩; exact ⟨_, rfl, ⟨Nat.le_refl _, fun _ => h9⟩, f9.mono (fun k _ e => by simpa using e), fun e => by omega⟩))⟩
              refine ⟨?_, ?_⟩
              · intro a' w' k' hb hf hs hc hq hg hd hu
                have hh := (hd 9 (by kernel_rfl) 54 rfl); exact .inl ⟨wantedN rfl, k_val _ (by decide) hs (x_assign rfl rfl) hh⟩
              exact trivial
            case done =>
              intro a' w5 hb hf hs hall
              have hdf' : a'.defers = [] := by rw [hb.defers]; exact hdf
              have hN := (show _ ∧ _ from hall 10 (by decide) 5 rfl).2 rfl
              obtain ⟨g4, hv4⟩ : ∃ v, a'.tmps.getD 4 undef = v := ⟨_, rfl⟩
              obtain ⟨v5, hv5⟩ : ∃ v, a'.tmps.getD 5 undef = v := ⟨_, rfl⟩
              obtain ⟨g6, hv6⟩ : ∃ v, a'.tmps.getD 6 undef = v := ⟨_, rfl⟩
              obtain ⟨g7, hv7⟩ : ∃ v, a'.tmps.getD 7 undef = v := ⟨_, rfl⟩
              obtain ⟨g8, hv8⟩ : ∃ v, a'.tmps.getD 8 undef = v := ⟨_, rfl⟩
              obtain ⟨g9, hv9⟩ : ∃ v, a'.tmps.getD 9 undef = v := ⟨_, rfl⟩
              obtain ⟨g10, hv10⟩ : ∃ v, a'.tmps.getD 10 undef = v := ⟨_, rfl⟩
              obtain ⟨g11, hv11⟩ : ∃ v, a'.tmps.getD 11 undef = v := ⟨_, rfl⟩
              obtain ⟨g12, hv12⟩ : ∃ v, a'.tmps.getD 12 undef = v := ⟨_, rfl⟩
              obtain ⟨g13, hv13⟩ : ∃ v, a'.tmps.getD 13 undef = v := ⟨_, rfl⟩
              obtain ⟨g14, hv14⟩ : ∃ v, a'.tmps.getD 14 undef = v := ⟨_, rfl⟩
              obtain ⟨g15, hv15⟩ : ∃ v, a'.tmps.getD 15 undef = v := ⟨_, rfl⟩
              obtain ⟨g16, hv16⟩ : ∃ v, a'.tmps.getD 16 undef = v := ⟨_, rfl⟩
              obtain ⟨g17, hv17⟩ : ∃ v, a'.tmps.getD 17 undef = v := ⟨_, rfl⟩
              obtain ⟨g18, hv18⟩ : ∃ v, a'.tmps.getD 18 undef = v := ⟨_, rfl⟩
              obtain ⟨g19, hv19⟩ : ∃ v, a'.tmps.getD 19 undef = v := ⟨_, rfl⟩
              obtain ⟨g20, hv20⟩ : ∃ v, a'.tmps.getD 20 undef = v := ⟨_, rfl⟩
              obtain ⟨g21, hv21⟩ : ∃ v, a'.tmps.getD 21 undef = v := ⟨_, rfl⟩
              obtain ⟨g22, hv22⟩ : ∃ v, a'.tmps.getD 22 undef = v := ⟨_, rfl⟩
              obtain ⟨g23, hv23⟩ : ∃ v, a'.tmps.getD 23 undef = v := ⟨_, rfl⟩
              obtain ⟨g24, hv24⟩ : ∃ v, a'.tmps.getD 24 undef = v := ⟨_, rfl⟩
              obtain ⟨g25, hv25⟩ : ∃ v, a'.tmps.getD 25 undef = v := ⟨_, rfl⟩
              obtain ⟨g26, hv26⟩ : ∃ v, a'.tmps.getD 26 undef = v := ⟨_, rfl⟩
              obtain ⟨g27, hv27⟩ : ∃ v, a'.tmps.getD 27 undef = v := ⟨_, rfl⟩
              obtain ⟨g28, hv28⟩ : ∃ v, a'.tmps.getD 28 undef = v := ⟨_, rfl⟩
              obtain ⟨g29, hv29⟩ : ∃ v, a'.tmps.getD 29 undef = v := ⟨_, rfl⟩
              obtain ⟨g30, hv30⟩ : ∃ v, a'.tmps.getD 30 undef = v := ⟨_, rfl⟩
              obtain ⟨g31, hv31⟩ : ∃ v, a'.tmps.getD 31 undef = v := ⟨_, rfl⟩
              obtain ⟨g32, hv32⟩ : ∃ v, a'.tmps.getD 32 undef = v := ⟨_, rfl⟩
              obtain ⟨g33, hv33⟩ : ∃ v, a'.tmps.getD 33 undef = v := ⟨_, rfl⟩
              obtain ⟨g34, hv34⟩ : ∃ v, a'.tmps.getD 34 undef = v := ⟨_, rfl⟩
              obtain ⟨g35, hv35⟩ : ∃ v, a'.tmps.getD 35 undef = v := ⟨_, rfl⟩
              obtain ⟨g36, hv36⟩ : ∃ v, a'.tmps.getD 36 undef = v := ⟨_, rfl⟩
              obtain ⟨g37, hv37⟩ : ∃ v, a'.tmps.getD 37 undef = v := ⟨_, rfl⟩
              obtain ⟨g38, hv38⟩ : ∃ v, a'.tmps.getD 38 undef = v := ⟨_, rfl⟩
              obtain ⟨g39, hv39⟩ : ∃ v, a'.tmps.getD 39 undef = v := ⟨_, rfl⟩
              obtain ⟨g40, hv40⟩ : ∃ v, a'.tmps.getD 40 undef = v := ⟨_, rfl⟩
              obtain ⟨g41, hv41⟩ : ∃ v, a'.tmps.getD 41 undef = v := ⟨_, rfl⟩
              obtain ⟨g42, hv42⟩ : ∃ v, a'.tmps.getD 42 undef = v := ⟨_, rfl⟩
              obtain ⟨g43, hv43⟩ : ∃ v, a'.tmps.getD 43 undef = v := ⟨_, rfl⟩
              obtain ⟨g44, hv44⟩ : ∃ v, a'.tmps.getD 44 undef = v := ⟨_, rfl⟩
              obtain ⟨g45, hv45⟩ : ∃ v, a'.tmps.getD 45 undef = v := ⟨_, rfl⟩
              obtain ⟨g46, hv46⟩ : ∃ v, a'.tmps.getD 46 undef = v := ⟨_, rfl⟩
              obtain ⟨g47, hv47⟩ : ∃ v, a'.tmps.getD 47 undef = v := ⟨_, rfl⟩
              obtain ⟨g48, hv48⟩ : ∃ v, a'.tmps.getD 48 undef = v := ⟨_, rfl⟩
              obtain ⟨g49, hv49⟩ : ∃ v, a'.tmps.getD 49 undef = v := ⟨_, rfl⟩
              obtain ⟨g50, hv50⟩ : ∃ v, a'.tmps.getD 50 undef = v := ⟨_, rfl⟩
              obtain ⟨g51, hv51⟩ : ∃ v, a'.tmps.getD 51 undef = v := ⟨_, rfl⟩
              obtain ⟨g52, hv52⟩ : ∃ v, a'.tmps.getD 52 undef = v := ⟨_, rfl⟩
              obtain ⟨g53, hv53⟩ : ∃ v, a'.tmps.getD 53 undef = v := ⟨_, rfl⟩
              obtain ⟨g54, hv54⟩ : ∃ v, a'.tmps.getD 54 undef = v := ⟨_, rfl⟩
              obtain ⟨g55, hv55⟩ : ∃ v, a'.tmps.getD 55 undef = v := ⟨_, rfl⟩
              obtain ⟨g56, hv56⟩ : ∃ v, a'.tmps.getD 56 undef = v := ⟨_, rfl⟩
              obtain ⟨g57, hv57⟩ : ∃ v, a'.tmps.getD 57 undef = v := ⟨_, rfl⟩
              obtain ⟨g58, hv58⟩ : ∃ v, a'.tmps.getD 58 undef = v := ⟨_, rfl⟩
              obtain ⟨g59, hv59⟩ : ∃ v, a'.tmps.getD 59 undef = v := ⟨_, rfl⟩
              obtain ⟨g60, hv60⟩ : ∃ v, a'.tmps.getD 60 undef = v := ⟨_, rfl⟩
              obtain ⟨g61, hv61⟩ : ∃ v, a'.tmps.getD 61 undef = v := ⟨_, rfl⟩
              obtain ⟨g62, hv62⟩ : ∃ v, a'.tmps.getD 62 undef = v := ⟨_, rfl⟩
              obtain ⟨g63, hv63⟩ : ∃ v, a'.tmps.getD 63 undef = v := ⟨_, rfl⟩
              obtain ⟨g64, hv64⟩ : ∃ v, a'.tmps.getD 64 undef = v := ⟨_, rfl⟩
              obtain ⟨g65, hv65⟩ : ∃ v, a'.tmps.getD 65 undef = v := ⟨_, rfl⟩
              obtain ⟨g66, hv66⟩ : ∃ v, a'.tmps.getD 66 undef = v := ⟨_, rfl⟩
              obtain ⟨g67, hv67⟩ : ∃ v, a'.tmps.getD 67 undef = v := ⟨_, rfl⟩
              obtain ⟨g68, hv68⟩ : ∃ v, a'.tmps.getD 68 undef = v := ⟨_, rfl⟩
              obtain ⟨g69, hv69⟩ : ∃ v, a'.tmps.getD 69 undef = v := ⟨_, rfl⟩
              obtain ⟨g70, hv70⟩ : ∃ v, a'.tmps.getD 70 undef = v := ⟨_, rfl⟩
              obtain ⟨g71, hv71⟩ : ∃ v, a'.tmps.getD 71 undef = v := ⟨_, rfl⟩
              have hfr := frame_eq (a := a') (vs := [x.v, .pointer (some ⟨w.heap.size, 0, none⟩), .slice none 0 0, .int .i64 0, g4, v5, g6, g7, g8, g9, g10, g11, g12, g13, g14, g15, g16, g17, g18, g19, g20, g21, g22, g23, g24, g25, g26, g27, g28, g29, g30, g31, g32, g33, g34, g35, g36, g37, g38, g39, g40, g41, g42, g43, g44, g45, g46, g47, g48, g49, g50, g51, g52, g53, g54, g55, g56, g57, g58, g59, g60, g61, g62, g63, g64, g65, g66, g67, g68, g69, g70, g71]) (by rw [hb.size, hsz]; rfl) hdf' ⟨((hb.old 0 (by decide +kernel)).trans h0), ((hb.old 1 (by decide +kernel)).trans h1), ((hb.old 2 (by decide +kernel)).trans h2), ((hb.old 3 (by decide +kernel)).trans h3), hv4, hv5, hv6, hv7, hv8, hv9, hv10, hv11, hv12, hv13, hv14, hv15, hv16, hv17, hv18, hv19, hv20, hv21, hv22, hv23, hv24, hv25, hv26, hv27, hv28, hv29, hv30, hv31, hv32, hv33, hv34, hv35, hv36, hv37, hv38, hv39, hv40, hv41, hv42, hv43, hv44, hv45, hv46, hv47, hv48, hv49, hv50, hv51, hv52, hv53, hv54, hv55, hv56, hv57, hv58, hv59, hv60, hv61, hv62, hv63, hv64, hv65, hv66, hv67, hv68, hv69, hv70, hv71, trivial⟩
              rw [hv5] at hN
              have H5 : Hid (Nb (w.alloc (.cells x.cs 25)) w5 v5 ((((((((((((([] ++ be 8 x.n.toNat) ++ be 4 x.g.toNat) ++ be 4 x.k.toNat) ++ be 4 x.m.toNat) ++ be 4 x.l.toNat) ++ be 4 x.u.toNat) ++ be 4 x.d.toNat) ++ be 8 x.s.toNat) ++ be 8 x.b.toNat) ++ be 8 x.ta.toNat) ++ be 8 x.tm.toNat) ++ be 8 x.tc.toNat) ++ be 8 x.r.toNat)) := hide hN
              clear hall hb hf hs hv4 hv5 hv6 hv7 hv8 hv9 hv10 hv11 hv12 hv13 hv14 hv15 hv16 hv17 hv18 hv19 hv20 hv21 hv22 hv23 hv24 hv25 hv26 hv27 hv28 hv29 hv30 hv31 hv32 hv33 hv34 hv35 hv36 hv37 hv38 hv39 hv40 hv41 hv42 hv43 hv44 hv45 hv46 hv47 hv48 hv49 hv50 hv51 hv52 hv53 hv54 hv55 hv56 hv57 hv58 hv59 hv60 hv61 hv62 hv63 hv64 hv65 hv66 hv67 hv68 hv69 hv70 hv71 hN
              subst hfr
              clear h0 h1 h2 h3 h5 hsz hdf hdf' HB
              apply_assumption
              go_upto_region 9 with fail
              have HB : Hid ((w5).heap[w.heap.size]? = some (.cells x.cs 25 (0, 0))) := hide (by rw [(unhide H5).fr.block _ (by simp) id]; exact heap_alloc_new w _)
              have HLB : Hid ((((((((((((((([] ++ be 8 x.n.toNat) ++ be 4 x.g.toNat) ++ be 4 x.k.toNat) ++ be 4 x.m.toNat) ++ be 4 x.l.toNat) ++ be 4 x.u.toNat) ++ be 4 x.d.toNat) ++ be 8 x.s.toNat) ++ be 8 x.b.toNat) ++ be 8 x.ta.toNat) ++ be 8 x.tm.toNat) ++ be 8 x.tc.toNat) ++ be 8 x.r.toNat)).length = 80) := hide (by simp [be_length])
              refine wp_nameK ?_
              intro a0 hA
              have h0 : a0.tmps.getD 0 undef = x.v := by rw [hA]; rfl
              have h1 : a0.tmps.getD 1 undef = .pointer (some ⟨w.heap.size, 0, none⟩) := by rw [hA]; rfl
              have h2 : a0.tmps.getD 2 undef = .slice none 0 0 := by rw [hA]; rfl
              have h3 : a0.tmps.getD 3 undef = .int .i64 0 := by rw [hA]; rfl
              have h5 : a0.tmps.getD 5 undef = v5 := by rw [hA]; rfl
              have hsz : a0.tmps.size = 72 := by rw [hA]; rfl
              have hdf : a0.defers = [] := by rw [hA]
              clear hA
              refine wp_region_kinds4 (fun k => w.heap.size + 1 ≤ k) (by kernel_rfl) (by kernel_rfl) (by decide +kernel) (by rw [hsz]; decide +kernel) [.eq (v5), .eq (.pointer (some ⟨w.heap.size, 13, none⟩)), .eq (.string x.t), .eq (.int .i64 (x.t.size : Int)), .eq (.int .u32 (x.t.size : Int)), kNb 1 (w.alloc (.cells x.cs 25)) (((((((((((((([] ++ be 8 x.n.toNat) ++ be 4 x.g.toNat) ++ be 4 x.k.toNat) ++ be 4 x.m.toNat) ++ be 4 x.l.toNat) ++ be 4 x.u.toNat) ++ be 4 x.d.toNat) ++ be 8 x.s.toNat) ++ be 8 x.b.toNat) ++ be 8 x.ta.toNat) ++ be 8 x.tm.toNat) ++ be 8 x.tc.toNat) ++ be 8 x.r.toNat) ++ be 4 x.t.size), .eq (.pointer (some ⟨w.heap.size, 13, none⟩)), .eq (.string x.t), kNb 2 (w.alloc (.cells x.cs 25)) ((((((((((((((([] ++ be 8 x.n.toNat) ++ be 4 x.g.toNat) ++ be 4 x.k.toNat) ++ be 4 x.m.toNat) ++ be 4 x.l.toNat) ++ be 4 x.u.toNat) ++ be 4 x.d.toNat) ++ be 8 x.s.toNat) ++ be 8 x.b.toNat) ++ be 8 x.ta.toNat) ++ be 8 x.tm.toNat) ++ be 8 x.tc.toNat) ++ be 8 x.r.toNat) ++ be 4 x.t.size) ++ x.t.data.toList), kNb 2 (w.alloc (.cells x.cs 25)) ((((((((((((((([] ++ be 8 x.n.toNat) ++ be 4 x.g.toNat) ++ be 4 x.k.toNat) ++ be 4 x.m.toNat) ++ be 4 x.l.toNat) ++ be 4 x.u.toNat) ++ be 4 x.d.toNat) ++ be 8 x.s.toNat) ++ be 8 x.b.toNat) ++ be 8 x.ta.toNat) ++ be 8 x.tm.toNat) ++ be 8 x.tc.toNat) ++ be 8 x.r.toNat) ++ be 4 x.t.size) ++ x.t.data.toList)] [5, 8] (by decide) (by decide) (path2 (by kernel_rfl)) (fun k W => k = 0 → Fr (fun _ => False) (w5) W) (fun _ => (Fr.refl _ _).drew) ?steps ?done
              case steps =>
                refine ⟨?_, ?_⟩
                · intro a' w' k' hb hf hs hc hq hg hd hu
                  exact .inl ⟨wantedN rfl, k_val (v5) (by decide) hs (x_move rfl ((hu 9 5 rfl (waits (by kernel_rfl))).trans h5)) rfl⟩
                refine ⟨?_, ?_⟩
                · intro a' w' k' hb hf hs hc hq hg hd hu
                  exact .inl ⟨wantedN rfl, k_val (.pointer (some ⟨w.heap.size, 13, none⟩)) (by decide) hs (x_field (of := 0) (off := 13) (by intro W9; simpa using fa25_13 w.heap.size 0 W9) rfl ((hb.old 1 (by decide +kernel)).trans h1)) rfl⟩
                refine ⟨?_, ?_⟩
                · intro a' w' k' hb hf hs hc hq hg hd hu
                  exact .inl ⟨wantedN rfl, k_val (.string x.t) (by decide) hs (x_load1 ld9 rfl (hd 1 (by kernel_rfl) 56 rfl) (cellS hf (unhide HB) 13 rfl)) rfl⟩
                refine ⟨?_, ?_⟩
                · intro a' w' k' hb hf hs hc hq hg hd hu
                  exact .inl ⟨wantedN rfl, k_val (.int .i64 (x.t.size : Int)) (by decide) hs (x_len9 rfl (hd 2 (by kernel_rfl) 57 rfl)) rfl⟩
                refine ⟨?_, ?_⟩
                · intro a' w' k' hb hf hs hc hq hg hd hu
                  exact .inl ⟨wantedN rfl, k_val (.int .u32 (x.t.size : Int)) (by decide) hs (x_conv rfl (hd 3 (by kernel_rfl) 58 rfl) (conv3_23 _ (by first | exact unhide HKR | omega) _)) rfl⟩
                refine ⟨?_, ?_⟩
                · intro a' w' k' hb hf hs hc hq hg hd hu
                  obtain rfl := hc 0 rfl; exact .inl ⟨wantedN rfl, k_callC 42 _ (by decide) (e_call2 rfl rfl (hd 0 (by kernel_rfl) 55 rfl) (hd 4 (by kernel_rfl) 59 rfl) (fun _ _ => by simp [go_sem])) ((four_any (w.alloc (.cells x.cs 25)) _ _ _ _ (x.t.size) (rfl) ((unhide H5).kept (hs rfl)) (by omega) (by simp [be_length])).mono (by rintro e w9 ⟨v9, rfl, h9, f9⟩; exact ⟨_, rfl, ⟨Nat.le_refl _, fun _ => h9⟩, f9.mono (fun k _ e => by simpa using e), fun e => by omega⟩))⟩
                refine ⟨?_, ?_⟩
                · intro a' w' k' hb hf hs hc hq hg hd hu
                  exact .inl ⟨wantedN rfl, k_val (.pointer (some ⟨w.heap.size, 13, none⟩)) (by decide) hs (x_field (of := 0) (off := 13) (by intro W9; simpa using fa25_13 w.heap.size 0 W9) rfl ((hb.old 1 (by decide +kernel)).trans h1)) rfl⟩
                refine ⟨?_, ?_⟩
                · intro a' w' k' hb hf hs hc hq hg hd hu
                  exact .inl ⟨wantedN rfl, k_val (.string x.t) (by decide) hs (x_load1 ld9 rfl (hd 6 (by kernel_rfl) 61 rfl) (cellS hf (unhide HB) 13 rfl)) rfl⟩
                refine ⟨?_, ?_⟩
                · intro a' w' k' hb hf hs hc hq hg hd hu
                  obtain rfl := hc 1 rfl; have hh := ((hd 5 (by kernel_rfl) 60 rfl)); have hN := hh.2 rfl; obtain ⟨v9, w9, r9, h9, f9⟩ := app9 hN x.t (by have := unhide HLB; simp [be_length] at this ⊢; omega); exact .inl ⟨wantedN rfl, k_chain v9 w9 (by decide) (fun e => by omega) (f9.mono (fun k _ e => by simpa using e)) (x_app9 rfl rfl (hd 7 (by kernel_rfl) 62 rfl) r9) ⟨Nat.le_refl _, fun _ => h9⟩⟩
                refine ⟨?_, ?_⟩
                · intro a' w' k' hb hf hs hc hq hg hd hu
                  have hh := (hd 8 (by kernel_rfl) 63 rfl); exact .inl ⟨wantedN rfl, k_val _ (by decide) hs (x_assign rfl rfl) hh⟩
                exact trivial
              case done =>
                intro a' w6 hb hf hs hall
                have hdf' : a'.defers = [] := by rw [hb.defers]; exact hdf
                have hN := (show _ ∧ _ from hall 9 (by decide) 5 rfl).2 rfl
                obtain ⟨g4, hv4⟩ : ∃ v, a'.tmps.getD 4 undef = v := ⟨_, rfl⟩
                obtain ⟨v6, hv5⟩ : ∃ v, a'.tmps.getD 5 undef = v := ⟨_, rfl⟩
                obtain ⟨g6, hv6⟩ : ∃ v, a'.tmps.getD 6 undef = v := ⟨_, rfl⟩
                obtain ⟨g7, hv7⟩ : ∃ v, a'.tmps.getD 7 undef = v := ⟨_, rfl⟩
                obtain ⟨g8, hv8⟩ : ∃ v, a'.tmps.getD 8 undef = v := ⟨_, rfl⟩
                obtain ⟨g9, hv9⟩ : ∃ v, a'.tmps.getD 9 undef = v := ⟨_, rfl⟩
                obtain ⟨g10, hv10⟩ : ∃ v, a'.tmps.getD 10 undef = v := ⟨_, rfl⟩
                obtain ⟨g11, hv11⟩ : ∃ v, a'.tmps.getD 11 undef = v := ⟨_, rfl⟩
                obtain ⟨g12, hv12⟩ : ∃ v, a'.tmps.getD 12 undef = v := ⟨_, rfl⟩
                obtain ⟨g13, hv13⟩ : ∃ v, a'.tmps.getD 13 undef = v := ⟨_, rfl⟩
                obtain ⟨g14, hv14⟩ : ∃ v, a'.tmps.getD 14 undef = v := ⟨_, rfl⟩
                obtain ⟨g15, hv15⟩ : ∃ v, a'.tmps.getD 15 undef = v := ⟨_, rfl⟩
                obtain ⟨g16, hv16⟩ : ∃ v, a'.tmps.getD 16 undef = v := ⟨_, rfl⟩
                obtain ⟨g17, hv17⟩ : ∃ v, a'.tmps.getD 17 undef = v := ⟨_, rfl⟩
                obtain ⟨g18, hv18⟩ : ∃ v, a'.tmps.getD 18 undef = v := ⟨_, rfl⟩
                obtain ⟨g19, hv19⟩ : ∃ v, a'.tmps.getD 19 undef = v := ⟨_, rfl⟩
                obtain ⟨g20, hv20⟩ : ∃ v, a'.tmps.getD 20 undef = v := ⟨_, rfl⟩
                obtain ⟨g21, hv21⟩ : ∃ v, a'.tmps.getD 21 undef = v := ⟨_, rfl⟩
                obtain ⟨g22, hv22⟩ : ∃ v, a'.tmps.getD 22 undef = v := ⟨_, rfl⟩
                obtain ⟨g23, hv23⟩ : ∃ v, a'.tmps.getD 23 undef = v := ⟨_, rfl⟩
                obtain ⟨g24, hv24⟩ : ∃ v, a'.tmps.getD 24 undef = v := ⟨_, rfl⟩
                obtain ⟨g25, hv25⟩ : ∃ v, a'.tmps.getD 25 undef = v := ⟨_, rfl⟩
                obtain ⟨g26, hv26⟩ : ∃ v, a'.tmps.getD 26 undef = v := ⟨_, rfl⟩
                obtain ⟨g27, hv27⟩ : ∃ v, a'.tmps.getD 27 undef = v := ⟨_, rfl⟩
                obtain ⟨g28, hv28⟩ : ∃ v, a'.tmps.getD 28 undef = v := ⟨_, rfl⟩
                obtain ⟨g29, hv29⟩ : ∃ v, a'.tmps.getD 29 undef = v := ⟨_, rfl⟩
                obtain ⟨g30, hv30⟩ : ∃ v, a'.tmps.getD 30 undef = v := ⟨_, rfl⟩
                obtain ⟨g31, hv31⟩ : ∃ v, a'.tmps.getD 31 undef = v := ⟨_, rfl⟩
                obtain ⟨g32, hv32⟩ : ∃ v, a'.tmps.getD 32 undef = v := ⟨_, rfl⟩
                obtain ⟨g33, hv33⟩ : ∃ v, a'.tmps.getD 33 undef = v := ⟨_, rfl⟩
                obtain ⟨g34, hv34⟩ : ∃ v, a'.tmps.getD 34 undef = v := ⟨_, rfl⟩
                obtain ⟨g35, hv35⟩ : ∃ v, a'.tmps.getD 35 undef = v := ⟨_, rfl⟩
                obtain ⟨g36, hv36⟩ : ∃ v, a'.tmps.getD 36 undef = v := ⟨_, rfl⟩
                obtain ⟨g37, hv37⟩ : ∃ v, a'.tmps.getD 37 undef = v := ⟨_, rfl⟩
                obtain ⟨g38, hv38⟩ : ∃ v, a'.tmps.getD 38 undef = v := ⟨_, rfl⟩
                obtain ⟨g39, hv39⟩ : ∃ v, a'.tmps.getD 39 undef = v := ⟨_, rfl⟩
                obtain ⟨g40, hv40⟩ : ∃ v, a'.tmps.getD 40 undef = v := ⟨_, rfl⟩
                obtain ⟨g41, hv41⟩ : ∃ v, a'.tmps.getD 41 undef = v := ⟨_, rfl⟩
                obtain ⟨g42, hv42⟩ : ∃ v, a'.tmps.getD 42 undef = v := ⟨_, rfl⟩
                obtain ⟨g43, hv43⟩ : ∃ v, a'.tmps.getD 43 undef = v := ⟨_, rfl⟩
                obtain ⟨g44, hv44⟩ : ∃ v, a'.tmps.getD 44 undef = v := ⟨_, rfl⟩
                obtain ⟨g45, hv45⟩ : ∃ v, a'.tmps.getD 45 undef = v := ⟨_, rfl⟩
                obtain ⟨g46, hv46⟩ : ∃ v, a'.tmps.getD 46 undef = v := ⟨_, rfl⟩
                obtain ⟨g47, hv47⟩ : ∃ v, a'.tmps.getD 47 undef = v := ⟨_, rfl⟩
                obtain ⟨g48, hv48⟩ : ∃ v, a'.tmps.getD 48 undef = v := ⟨_, rfl⟩
                obtain ⟨g49, hv49⟩ : ∃ v, a'.tmps.getD 49 undef = v := ⟨_, rfl⟩
                obtain ⟨g50, hv50⟩ : ∃ v, a'.tmps.getD 50 undef = v := ⟨_, rfl⟩
                obtain ⟨g51, hv51⟩ : ∃ v, a'.tmps.getD 51 undef = v := ⟨_, rfl⟩
                obtain ⟨g52, hv52⟩ : ∃ v, a'.tmps.getD 52 undef = v := ⟨_, rfl⟩
                obtain ⟨g53, hv53⟩ : ∃ v, a'.tmps.getD 53 undef = v := ⟨_, rfl⟩
                obtain ⟨g54, hv54⟩ : ∃ v, a'.tmps.getD 54 undef = v := ⟨_, rfl⟩
                obtain ⟨g55, hv55⟩ : ∃ v, a'.tmps.getD 55 undef = v := ⟨_, rfl⟩
                obtain ⟨g56, hv56⟩ : ∃ v, a'.tmps.getD 56 undef = v := ⟨_, rfl⟩
                obtain ⟨g57, hv57⟩ : ∃ v, a'.tmps.getD 57 undef = v := ⟨_, rfl⟩
                obtain ⟨g58, hv58⟩ : ∃ v, a'.tmps.getD 58 undef = v := ⟨_, rfl⟩
                obtain ⟨g59, hv59⟩ : ∃ v, a'.tmps.getD 59 undef = v := ⟨_, rfl⟩
                obtain ⟨g60, hv60⟩ : ∃ v, a'.tmps.getD 60 undef = v := ⟨_, rfl⟩
                obtain ⟨g61, hv61⟩ : ∃ v, a'.tmps.getD 61 undef = v := ⟨_, rfl⟩
                obtain ⟨g62, hv62⟩ : ∃ v, a'.tmps.getD 62 undef = v := ⟨_, rfl⟩
                obtain ⟨g63, hv63⟩ : ∃ v, a'.tmps.getD 63 undef = v := ⟨_, rfl⟩
                obtain ⟨g64, hv64⟩ : ∃ v, a'.tmps.getD 64 undef = v := ⟨_, rfl⟩
                obtain ⟨g65, hv65⟩ : ∃ v, a'.tmps.getD 65 undef = v := ⟨_, rfl⟩
                obtain ⟨g66, hv66⟩ : ∃ v, a'.tmps.getD 66 undef = v := ⟨_, rfl⟩
                obtain ⟨g67, hv67⟩ : ∃ v, a'.tmps.getD 67 undef = v := ⟨_, rfl⟩
                obtain ⟨g68, hv68⟩ : ∃ v, a'.tmps.getD 68 undef = v := ⟨_, rfl⟩
                obtain ⟨g69, hv69⟩ : ∃ v, a'.tmps.getD 69 undef = v := ⟨_, rfl⟩
                obtain ⟨g70, hv70⟩ : ∃ v, a'.tmps.getD 70 undef = v := ⟨_, rfl⟩
                obtain ⟨g71, hv71⟩ : ∃ v, a'.tmps.getD 71 undef = v := ⟨_, rfl⟩
                have hfr := frame_eq (a := a') (vs := [x.v, .pointer (some ⟨w.heap.size, 0, none⟩), .slice none 0 0, .int .i64 0, g4, v6, g6, g7, g8, g9, g10, g11, g12, g13, g14, g15, g16, g17, g18, g19, g20, g21, g22, g23, g24, g25, g26, g27, g28, g29, g30, g31, g32, g33, g34, g35, g36, g37, g38, g39, g40, g41, g42, g43, g44, g45, g46, g47, g48, g49, g50, g51, g52, g53, g54, g55, g56, g57, g58, g59, g60, g61, g62, g63, g64, g65, g66, g67, g68, g69, g70, g71]) (by rw [hb.size, hsz]; rfl) hdf' ⟨((hb.old 0 (by decide +kernel)).trans h0), ((hb.old 1 (by decide +kernel)).trans h1), ((hb.old 2 (by decide +kernel)).trans h2), ((hb.old 3 (by decide +kernel)).trans h3), hv4, hv5, hv6, hv7, hv8, hv9, hv10, hv11, hv12, hv13, hv14, hv15, hv16, hv17, hv18, hv19, hv20, hv21, hv22, hv23, hv24, hv25, hv26, hv27, hv28, hv29, hv30, hv31, hv32, hv33, hv34, hv35, hv36, hv37, hv38, hv39, hv40, hv41, hv42, hv43, hv44, hv45, hv46, hv47, hv48, hv49, hv50, hv51, hv52, hv53, hv54, hv55, hv56, hv57, hv58, hv59, hv60, hv61, hv62, hv63, hv64, hv65, hv66, hv67, hv68, hv69, hv70, hv71, trivial⟩
                rw [hv5] at hN
                have H6 : Hid (Nb (w.alloc (.cells x.cs 25)) w6 v6 ((((((((((((((([] ++ be 8 x.n.toNat) ++ be 4 x.g.toNat) ++ be 4 x.k.toNat) ++ be 4 x.m.toNat) ++ be 4 x.l.toNat) ++ be 4 x.u.toNat) ++ be 4 x.d.toNat) ++ be 8 x.s.toNat) ++ be 8 x.b.toNat) ++ be 8 x.ta.toNat) ++ be 8 x.tm.toNat) ++ be 8 x.tc.toNat) ++ be 8 x.r.toNat) ++ be 4 x.t.size) ++ x.t.data.toList)) := hide hN
                clear hall hb hf hs hv4 hv5 hv6 hv7 hv8 hv9 hv10 hv11 hv12 hv13 hv14 hv15 hv16 hv17 hv18 hv19 hv20 hv21 hv22 hv23 hv24 hv25 hv26 hv27 hv28 hv29 hv30 hv31 hv32 hv33 hv34 hv35 hv36 hv37 hv38 hv39 hv40 hv41 hv42 hv43 hv44 hv45 hv46 hv47 hv48 hv49 hv50 hv51 hv52 hv53 hv54 hv55 hv56 hv57 hv58 hv59 hv60 hv61 hv62 hv63 hv64 hv65 hv66 hv67 hv68 hv69 hv70 hv71 hN
                subst hfr
                clear h0 h1 h2 h3 h5 hsz hdf hdf' HB
                apply_assumption
                have HP2 : Hid (PR = ((((((((((((((([] ++ be 8 x.n.toNat) ++ be 4 x.g.toNat) ++ be 4 x.k.toNat) ++ be 4 x.m.toNat) ++ be 4 x.l.toNat) ++ be 4 x.u.toNat) ++ be 4 x.d.toNat) ++ be 8 x.s.toNat) ++ be 8 x.b.toNat) ++ be 8 x.ta.toNat) ++ be 8 x.tm.toNat) ++ be 8 x.tc.toNat) ++ be 8 x.r.toNat) ++ be 4 x.t.size) ++ x.t.data.toList) ++ List.replicate (zb x.t.size) 0) := hide (by rw [unhide HP]; unfold pb lay; simp)
                have HLC : Hid ((((((((((((((((([] ++ be 8 x.n.toNat) ++ be 4 x.g.toNat) ++ be 4 x.k.toNat) ++ be 4 x.m.toNat) ++ be 4 x.l.toNat) ++ be 4 x.u.toNat) ++ be 4 x.d.toNat) ++ be 8 x.s.toNat) ++ be 8 x.b.toNat) ++ be 8 x.ta.toNat) ++ be 8 x.tm.toNat) ++ be 8 x.tc.toNat) ++ be 8 x.r.toNat) ++ be 4 x.t.size) ++ x.t.data.toList)).length = 84 + x.t.size) := hide (by simp [be_length]; omega)
                generalize ((((((((((((((([] ++ be 8 x.n.toNat) ++ be 4 x.g.toNat) ++ be 4 x.k.toNat) ++ be 4 x.m.toNat) ++ be 4 x.l.toNat) ++ be 4 x.u.toNat) ++ be 4 x.d.toNat) ++ be 8 x.s.toNat) ++ be 8 x.b.toNat) ++ be 8 x.ta.toNat) ++ be 8 x.tm.toNat) ++ be 8 x.tc.toNat) ++ be 8 x.r.toNat) ++ be 4 x.t.size) ++ x.t.data.toList) = B at *
                clear HP
                go_wp2_with fail
                go_loopw [5] (fun o W => ∃ j : Nat, j ≤ zb x.t.size ∧ Nb (w.alloc (.cells x.cs 25)) W o (B ++ List.replicate j 0)) (fun o _ => 1000 - lnS o)
                case atStart => exact ⟨0, Nat.zero_le _, by simpa using unhide H6⟩
                case round =>
                  clear H6
                  obtain ⟨j, hj, hN⟩ := hrel
                  have hlen : (B ++ List.replicate j (0 : UInt8)).length = 84 + x.t.size + j := by rw [List.length_append, unhide HLC, List.length_replicate]
                  obtain ⟨oa, oc, rfl⟩ := hN.shape
                  rw [hlen]
                  obtain ⟨n9, hn9⟩ : ∃ n9, n9 = 84 + x.t.size + j := ⟨_, rfl⟩
                  rw [← hn9]
                  have hn9b : n9 ≤ 400 := by have : zb x.t.size ≤ 3 := by unfold zb; omega
                                             omega
                  have HN : Hid (Nb (w.alloc (.cells x.cs 25)) wr (.slice oa n9 oc) (B ++ List.replicate j 0)) := hide (by rw [hn9, ← hlen]; exact hN)
                  have HLEN : Hid ((B ++ List.replicate j (0 : UInt8)).length = n9) := hide (by rw [hlen, hn9])
                  have HN9 := hide hn9
                  clear hN hlen hn9
                  by_cases hm : n9 % 4 = 0
                  · have hje : j = zb x.t.size := by have := unhide HN9; unfold zb at hj ⊢; omega
                    have HF : Hid (Nb w wr (.slice oa n9 oc) PR) := hide (by
                      rw [unhide HP2, ← hje]
                      have h9 := unhide HN
                      exact ⟨h9.own, ((Fr.refl _ _).alloc _).trans h9.fr (fun _ _ e => e), fun k hk => by have := h9.new k hk; simp at this; omega⟩)
                    have hm2 : ((n9 : Int) % 4 != 0) = false := by simp; omega
                    clear HN hj hje
                    go_wp2_with fail
                    go_ret2
                    exact ⟨_, rfl, unhide HF⟩
                  · have hjl : j < zb x.t.size := by have := unhide HN9; unfold zb at hj ⊢; omega
                    have hm2 : ((n9 : Int) % 4 != 0) = true := by simp; omega
                    obtain ⟨inf, hi0, hz0, hz1, hz2⟩ := info_parts Try.info5
                    clear hm hj
                    go_wp2_with (refine wpList_app rfl (.tmp 68) (.tmp 69) 26 rfl 5 inf _ 1 1 Try.underlying26 hi0 hz0 hz1 hz2 rfl (by decide) _ n9 (bvs (B ++ List.replicate j 0)) rfl _ rfl 1 (bvs [0]) ?hown ?hx ?h1 ?hb ?h63 ?hK)
                    case hown => have h9 := ((unhide HN).alloc (.cells #[.int .u8 0] 5)).own; rw [unhide HLEN] at h9; exact h9
                    case hx => exact sr1 _ _ _ (by simp)
                    case h1 => exact bvs_one _
                    case hb => omega
                    case h63 => simp only [maxLen]; omega
                    case hK =>
                      intro ao' cap' w' ho hg hpl
                      have HNN : Hid (Nb (w.alloc (.cells x.cs 25)) w' (.slice ao' (n9 + 1) cap') (B ++ List.replicate (j + 1) 0)) := hide (by
                        have h9 := ((unhide HN).alloc (.cells #[.int .u8 0] 5)).grown (x := [0]) (by rw [unhide HLEN]; exact ho) hg (by rcases hpl with e | ⟨k, e, hk⟩; exact .inl e; exact .inr ⟨k, e, by simp at hk ⊢; omega⟩)
                        rw [List.append_assoc, show List.replicate j (0 : UInt8) ++ [0] = List.replicate (j + 1) 0 by rw [List.replicate_succ']] at h9
                        exact h9)
                      clear ho hg hpl HN
                      go_wp2_with fail
                      go_roundw
                      case rel => exact ⟨j + 1, by omega, unhide HNN⟩
                      case measure => simp [lnS]; omega
  · have bne : (c != 0) = true := by simpa using hc
    rw [if_neg hc] at HP
    have hP : PR = [] := unhide HP
    subst hP
    clear HP HCK hc
    go_enter Try.func14, Try.ntmps14
    go_wp2_with (first | (go_at_call 19; refine mono_ext (HC _) ?_; rintro e E rfl hE) | (refine wl_load25 _ rfl rfl _ rfl (by simp [go_sem]) (by simp [go_sem]; exact rfl) ?_))
    go_ret2
    exact ⟨_, rfl, Nb.nil (Fr.ext ((Fr.refl _ _).alloc _) hE)⟩
end Go.Proofs.Ytbenailemoefhaa
