/-
  The order of dirty blocks: what dirtyBlocks' closure answers. Memory only grows.
-/
import Derived.Test.YtdgmlopaeonacaaD2
namespace Go.Proofs.Ytdgmlopaeonacaa
open Go.RowKit
set_option linter.unusedVariables false

attribute [local go_sem ↓] Go.wp_at_zero Go.wp_at_succ

/-- So many draws on, new blocks behind; nothing else. -/
def Gw (w w' : World) : Prop := ∃ q os, w' = Go.Sort.grow (w.drewN q) os
theorem Gw.refl (w : World) : Gw w w := ⟨0, #[], by rw [Go.Sort.grow_empty]; rfl⟩
theorem Gw.drew (w : World) : Gw w w.drew := ⟨1, #[], by rw [Go.Sort.grow_empty]; rfl⟩
theorem Gw.alloc (w : World) (o : Obj) : Gw w (w.alloc o) := ⟨0, #[o], by rw [Go.Sort.alloc_eq_grow]; rfl⟩
theorem Gw.trans {a b c : World} (h : Gw a b) (k : Gw b c) : Gw a c := by
  obtain ⟨q, os, rfl⟩ := h
  obtain ⟨q', os', rfl⟩ := k
  refine ⟨q + q', os ++ os', ?_⟩
  show Go.Sort.grow (Go.Sort.grow ((a.drewN q).drewN q') os) os' = _
  rw [Go.Sort.grow_grow, World.drewN_drewN]
theorem Gw.fr {w w' : World} (h : Gw w w') : Fr (fun _ => False) w w' := by
  obtain ⟨q, os, rfl⟩ := h
  exact ⟨rfl, rfl, rfl, by simp [Go.Sort.grow], fun k hk _ => Go.Sort.heap_grow_old _ _ hk⟩
theorem Gw.cell {w w' : World} (h : Gw w w') {a : Addr} {v : Value} (hc : w.cell? a = some v) : w'.cell? a = some v := by
  rw [h.fr.cell (World.block_lt_of_cell? w a hc) id]; exact hc

/-- What an operation leaves: this value; a new slice of two numbers. -/
inductive Kg where
  | eq (u : Value)
  | two (m n : Int)
def Kg.holds : Kg → Value → World → Prop
  | .eq u, v, _ => v = u
  | .two m n, v, w => ∃ k, v = .slice (some ⟨k, 0, none⟩) 2 2 ∧ w.cell? ⟨k, 0, none⟩ = some (.int .i64 m) ∧ w.cell? ⟨k, 1, none⟩ = some (.int .i64 n)
theorem Kg.mono (k : Kg) {v : Value} {w1 w2 : World} (h : k.holds v w1) (f : Gw w1 w2) : k.holds v w2 := by
  cases k with
  | eq u => exact h
  | two m n =>
    obtain ⟨k, rfl, h0, h1⟩ := h
    exact ⟨k, rfl, f.cell h0, f.cell h1⟩
def Tg (ks : List Kg) (i : Nat) (v : Value) (w : World) : Prop := match ks[i]? with
  | some k => k.holds v w
  | none => True
theorem Tg.mono (ks : List Kg) (i : Nat) (v : Value) (w1 w2 : World) (h : Tg ks i v w1) (f : Gw w1 w2) : Tg ks i v w2 := by
  unfold Tg at *
  split
  · rename_i k hk; rw [hk] at h; exact k.mono h f
  · trivial

section
variable {P : Program} {o : Oper} {a : Act} {w : World} {Q : Exit → Act → World → Prop}
theorem g_new {i : Nat} {T : Nat → Value → World → Prop} (v : Value) (w2 : World) (h : (execOp a.eval o).run P w = .ok (.value v) w2) (hT : T i v w2) (hf : Gw w w2) : o.wp P a w (fun a'' w'' => ∃ v, a'' = a.put o.dst v ∧ T i v w'' ∧ Gw w w'') Q := by
  unfold Oper.wp
  rw [h, Oper.upon_value]
  exact ⟨v, rfl, hT, hf⟩
theorem g_val {i : Nat} {T : Nat → Value → World → Prop} (v : Value) (h : (execOp a.eval o).run P w = .ok (.value v) w) (hT : T i v w) : o.wp P a w (fun a'' w'' => ∃ v, a'' = a.put o.dst v ∧ T i v w'' ∧ Gw w w'') Q :=
  g_new v w h hT (Gw.refl _)
theorem g_call {i : Nat} {T : Nat → Value → World → Prop} (k : Nat) (args : Array Value) (h : (execOp a.eval o).run P w = .ok (.enter k args) w)
    (hc : Calls P k args w fun e w' => (∃ v, e = .returned v ∧ T i v w') ∧ Gw w w') : o.wp P a w (fun a'' w'' => ∃ v, a'' = a.put o.dst v ∧ T i v w'' ∧ Gw w w'') Q := by
  unfold Oper.wp
  rw [h, Oper.upon_enter]
  refine hc.mono ?_
  rintro e w' ⟨⟨v, rfl, hT⟩, f⟩
  exact ⟨v, rfl, hT, f⟩
end

section
variable {ρ : Operand → Value} {o : Oper} {w : World}
theorem x_build2 {x y : Operand} {m n : Int} (ho : o.op = .buildSlice 49 2 #[(0, x), (1, y)]) (hx : ρ x = .int .i64 m) (hy : ρ y = .int .i64 n) : (execOp ρ o).run Try.prog w = .ok (.value (.slice (some ⟨w.heap.size, 0, none⟩) 2 2)) (w.alloc (.cells #[.int .i64 m, .int .i64 n] 3)) := by
  simp [execOp, ho, hx, hy, go_sem]
end
theorem cell_two0 (w : World) (m n : Int) : (w.alloc (.cells #[.int .i64 m, .int .i64 n] 3)).cell? ⟨w.heap.size, 0, none⟩ = some (.int .i64 m) := by
  rw [cell_of_heap (heap_alloc_new w _)]; rfl
theorem cell_two1 (w : World) (m n : Int) : (w.alloc (.cells #[.int .i64 m, .int .i64 n] 3)).cell? ⟨w.heap.size, 1, none⟩ = some (.int .i64 n) := by
  rw [cell_of_heap (heap_alloc_new w _)]; rfl
theorem cf61 (args : Array Value) (W : World) : Sem.run Try.prog (callFunc 61 args) W = .ok (.enter 61 args) W := by simp [go_sem]
theorem cf62 (args : Array Value) (W : World) : Sem.run Try.prog (callFunc 62 args) W = .ok (.enter 62 args) W := by simp [go_sem]
theorem cf63 (args : Array Value) (W : World) : Sem.run Try.prog (callFunc 63 args) W = .ok (.enter 63 args) W := by simp [go_sem]
theorem fa58_1 (b o : Nat) (W : World) : (Instr.fieldAt 58 (.pointer (some ⟨b, o, none⟩)) 1).run Try.prog W = .ok (.pointer (some ⟨b, o + 1, none⟩)) W := by simp [go_sem]
theorem ld38 (W : World) (a : Addr) (u : Value) (h : W.cell? a = some u) : (Instr.loadAt 38 (.pointer (some a))).run Try.prog W = .ok u W := by simp [go_sem, h]

set_option maxRecDepth 100000 in
theorem closure_any (w : World) (a b : Nat) (oa na ob nb : Value) (x y : Pl) (ha : NAt w a oa na x) (hb : NAt w b ob nb y) : Calls Try.prog 60 #[ptr a, ptr b] w fun e w' => e = .returned (.int .i64 (orI (cm (x.first : Int) (y.first : Int)) (cm x.b y.b))) ∧ Gw w w' := by
  have HA := hide ha
  have HB := hide hb
  clear ha hb
  go_enter Try.func60, Try.ntmps60
  go_wp2_with fail
  refine wp_nameK ?_
  intro a0 hA
  have h0 : a0.tmps.getD 0 undef = ptr a := by rw [hA]; rfl
  have h1 : a0.tmps.getD 1 undef = ptr b := by rw [hA]; rfl
  have hsz : a0.tmps.size = 29 := by rw [hA]; rfl
  have hdf : a0.defers = [] := by rw [hA]
  clear hA
  refine wp_region_freeR (R := Gw) (fun w => Gw.drew w) (fun _ _ _ h k => Gw.trans h k) (by kernel_rfl) (by kernel_rfl) (by decide +kernel) (by rw [hsz]; decide +kernel) (Tg [.eq (ptr a), .eq (ptr a), .eq (.pointer (some ⟨a, 2, none⟩)), .eq (.pointer (some ⟨a, 3, none⟩)), .eq (.int .u64 (x.first : Int)), .eq (ptr b), .eq (ptr b), .eq (.pointer (some ⟨b, 2, none⟩)), .eq (.pointer (some ⟨b, 3, none⟩)), .eq (.int .u64 (y.first : Int)), .eq (.int .i64 (cm (x.first : Int) (y.first : Int))), .eq (ptr a), .eq (ptr a), .eq (.pointer (some ⟨a, 2, none⟩)), .eq (.pointer (some ⟨a, 2, none⟩)), .eq (.int .i64 x.b), .eq (ptr b), .eq (ptr b), .eq (.pointer (some ⟨b, 2, none⟩)), .eq (.pointer (some ⟨b, 2, none⟩)), .eq (.int .i64 y.b), .eq (.int .i64 (cm x.b y.b)), .two (cm (x.first : Int) (y.first : Int)) (cm x.b y.b), .eq (.int .i64 (orI (cm (x.first : Int) (y.first : Int)) (cm x.b y.b))), .eq (.int .i64 (orI (cm (x.first : Int) (y.first : Int)) (cm x.b y.b)))]) (Tg.mono _) ?steps ?done
  case steps =>
    refine ⟨?_, ?_⟩
    · intro a' w' hb hf hd
      exact ⟨wantedN rfl, g_val (ptr a) (x_move rfl ((hb.old 0 (by decide +kernel)).trans h0)) rfl⟩
    refine ⟨?_, ?_⟩
    · intro a' w' hb hf hd
      exact ⟨wantedN rfl, g_val (ptr a) (x_nilCheck rfl (hd 0 (by kernel_rfl) 5 rfl)) rfl⟩
    refine ⟨?_, ?_⟩
    · intro a' w' hb hf hd
      exact ⟨wantedN rfl, g_val (.pointer (some ⟨a, 2, none⟩)) (x_field (of := 0) (off := 2) (fa91_1 a 0) rfl (hd 1 (by kernel_rfl) 6 rfl)) rfl⟩
    refine ⟨?_, ?_⟩
    · intro a' w' hb hf hd
      exact ⟨wantedN rfl, g_val (.pointer (some ⟨a, 3, none⟩)) (x_field (of := 2) (off := 1) (fa58_1 a 2) rfl (hd 2 (by kernel_rfl) 7 rfl)) rfl⟩
    refine ⟨?_, ?_⟩
    · intro a' w' hb hf hd
      exact ⟨wantedN rfl, g_val (.int .u64 (x.first : Int)) (x_load1 ld38 rfl (hd 3 (by kernel_rfl) 8 rfl) (((unhide HA).kept hf.fr id).c3)) rfl⟩
    refine ⟨?_, ?_⟩
    · intro a' w' hb hf hd
      exact ⟨wantedN rfl, g_val (ptr b) (x_move rfl ((hb.old 1 (by decide +kernel)).trans h1)) rfl⟩
    refine ⟨?_, ?_⟩
    · intro a' w' hb hf hd
      exact ⟨wantedN rfl, g_val (ptr b) (x_nilCheck rfl (hd 5 (by kernel_rfl) 10 rfl)) rfl⟩
    refine ⟨?_, ?_⟩
    · intro a' w' hb hf hd
      exact ⟨wantedN rfl, g_val (.pointer (some ⟨b, 2, none⟩)) (x_field (of := 0) (off := 2) (fa91_1 b 0) rfl (hd 6 (by kernel_rfl) 11 rfl)) rfl⟩
    refine ⟨?_, ?_⟩
    · intro a' w' hb hf hd
      exact ⟨wantedN rfl, g_val (.pointer (some ⟨b, 3, none⟩)) (x_field (of := 2) (off := 1) (fa58_1 b 2) rfl (hd 7 (by kernel_rfl) 12 rfl)) rfl⟩
    refine ⟨?_, ?_⟩
    · intro a' w' hb hf hd
      exact ⟨wantedN rfl, g_val (.int .u64 (y.first : Int)) (x_load1 ld38 rfl (hd 8 (by kernel_rfl) 13 rfl) (((unhide HB).kept hf.fr id).c3)) rfl⟩
    refine ⟨?_, ?_⟩
    · intro a' w' hb hf hd
      exact ⟨wantedN rfl, g_call 62 _ (e_call2 rfl rfl (hd 4 (by kernel_rfl) 9 rfl) (hd 9 (by kernel_rfl) 14 rfl) cf62) ((compareU w' _ _).mono fun e w'' ⟨he, hw⟩ => ⟨⟨_, he, rfl⟩, hw ▸ Gw.refl _⟩)⟩
    refine ⟨?_, ?_⟩
    · intro a' w' hb hf hd
      exact ⟨wantedN rfl, g_val (ptr a) (x_move rfl ((hb.old 0 (by decide +kernel)).trans h0)) rfl⟩
    refine ⟨?_, ?_⟩
    · intro a' w' hb hf hd
      exact ⟨wantedN rfl, g_val (ptr a) (x_nilCheck rfl (hd 11 (by kernel_rfl) 16 rfl)) rfl⟩
    refine ⟨?_, ?_⟩
    · intro a' w' hb hf hd
      exact ⟨wantedN rfl, g_val (.pointer (some ⟨a, 2, none⟩)) (x_field (of := 0) (off := 2) (fa91_1 a 0) rfl (hd 12 (by kernel_rfl) 17 rfl)) rfl⟩
    refine ⟨?_, ?_⟩
    · intro a' w' hb hf hd
      exact ⟨wantedN rfl, g_val (.pointer (some ⟨a, 2, none⟩)) (x_field (of := 2) (off := 0) (fa58_0 a 2) rfl (hd 13 (by kernel_rfl) 18 rfl)) rfl⟩
    refine ⟨?_, ?_⟩
    · intro a' w' hb hf hd
      exact ⟨wantedN rfl, g_val (.int .i64 x.b) (x_load1 ld3 rfl (hd 14 (by kernel_rfl) 19 rfl) (((unhide HA).kept hf.fr id).c2)) rfl⟩
    refine ⟨?_, ?_⟩
    · intro a' w' hb hf hd
      exact ⟨wantedN rfl, g_val (ptr b) (x_move rfl ((hb.old 1 (by decide +kernel)).trans h1)) rfl⟩
    refine ⟨?_, ?_⟩
    · intro a' w' hb hf hd
      exact ⟨wantedN rfl, g_val (ptr b) (x_nilCheck rfl (hd 16 (by kernel_rfl) 21 rfl)) rfl⟩
    refine ⟨?_, ?_⟩
    · intro a' w' hb hf hd
      exact ⟨wantedN rfl, g_val (.pointer (some ⟨b, 2, none⟩)) (x_field (of := 0) (off := 2) (fa91_1 b 0) rfl (hd 17 (by kernel_rfl) 22 rfl)) rfl⟩
    refine ⟨?_, ?_⟩
    · intro a' w' hb hf hd
      exact ⟨wantedN rfl, g_val (.pointer (some ⟨b, 2, none⟩)) (x_field (of := 2) (off := 0) (fa58_0 b 2) rfl (hd 18 (by kernel_rfl) 23 rfl)) rfl⟩
    refine ⟨?_, ?_⟩
    · intro a' w' hb hf hd
      exact ⟨wantedN rfl, g_val (.int .i64 y.b) (x_load1 ld3 rfl (hd 19 (by kernel_rfl) 24 rfl) (((unhide HB).kept hf.fr id).c2)) rfl⟩
    refine ⟨?_, ?_⟩
    · intro a' w' hb hf hd
      exact ⟨wantedN rfl, g_call 63 _ (e_call2 rfl rfl (hd 15 (by kernel_rfl) 20 rfl) (hd 20 (by kernel_rfl) 25 rfl) cf63) ((compareI w' _ _).mono fun e w'' ⟨he, hw⟩ => ⟨⟨_, he, rfl⟩, hw ▸ Gw.refl _⟩)⟩
    refine ⟨?_, ?_⟩
    · intro a' w' hb hf hd
      exact ⟨wantedN rfl, g_new _ _ (x_build2 rfl (hd 10 (by kernel_rfl) 15 rfl) (hd 21 (by kernel_rfl) 26 rfl)) ⟨w'.heap.size, rfl, cell_two0 _ _ _, cell_two1 _ _ _⟩ (Gw.alloc _ _)⟩
    refine ⟨?_, ?_⟩
    · intro a' w' hb hf hd
      obtain ⟨k, hv, k0, k1⟩ := hd 22 (by kernel_rfl) 27 rfl; exact ⟨wantedN rfl, g_call 61 _ (e_call1 rfl rfl hv cf61) ((or_any w' _ _ k 2 k0 k1).mono fun e w'' ⟨he, hw⟩ => ⟨⟨_, he, rfl⟩, hw ▸ Gw.refl _⟩)⟩
    refine ⟨?_, ?_⟩
    · intro a' w' hb hf hd
      exact ⟨wantedN rfl, g_val _ (x_assign rfl (hd 23 (by kernel_rfl) 28 rfl)) rfl⟩
    exact trivial
  case done =>
    intro a' w' hb hf hall
    have hres : a'.tmps.getD 4 undef = .int .i64 (orI (cm (x.first : Int) (y.first : Int)) (cm x.b y.b)) := hall 24 (by decide) 4 rfl
    have hdf' : a'.defers = [] := by rw [hb.defers]; exact hdf
    have hr : bodyPost Try.prog Try.f60 (fun e w' => e = Ending.returned (.int .i64 (orI (cm (x.first : Int) (y.first : Int)) (cm x.b y.b))) ∧ Gw w w') .ret a' w' :=
      bodyPost_ret (v := .int .i64 (orI (cm (x.first : Int) (y.first : Int)) (cm x.b y.b))) (by
        have h6' : a'.tmps[4]?.getD undef = .int .i64 (orI (cm (x.first : Int) (y.first : Int)) (cm x.b y.b)) := by simpa using hres
        simp [results, Try.results60, go_sem, h6']) hdf' ⟨rfl, hf⟩
    clear hall hb
    apply_assumption
    exact wp_ret hr
end Go.Proofs.Ytdgmlopaeonacaa
