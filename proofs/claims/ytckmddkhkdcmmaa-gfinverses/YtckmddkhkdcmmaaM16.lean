/-
  The walk of the document's cleared.
-/
import Derived.Test.YtckmddkhkdcmmaaM15
import Derived.Test.YtckmddkhkdcmmaaM02
import Derived.Test.YtckmddkhkdcmmaaM07
namespace Go.Proofs.Ytckmddkhkdcmmaa
set_option linter.unusedVariables false
set_option linter.unusedSimpArgs false
open Go.RowKit
set_option linter.unusedVariables false
set_option linter.unusedSimpArgs false

attribute [local go_sem ↓] Go.wp_at_zero Go.wp_at_succ

theorem setCells_frame (b : Nat) (cs : List Value) : ∀ (o : Nat) (w : World), Fr (fun k => k = b) w (w.setCells b o cs) := by
  induction cs with
  | nil => intro o w; exact Fr.refl _ _
  | cons c cs ih =>
    intro o w
    exact (((Fr.refl (fun k => k = b) w).setCell (p := ⟨b, o, none⟩) (fun _ => rfl) c)).trans (ih (o + 1) _) (fun _ _ h => h)

/-- A block of three cells. -/
def Z3 (w : World) (b : Nat) : Prop := ∃ x y z : Value, w.heap[b]? = some (.cells #[x, y, z] 24 (0, 0))
theorem Z3.kept {S : Nat → Prop} {w w' : World} {b : Nat} (h : Z3 w b) (f : Fr S w w') (hs : ¬ S b) : Z3 w' b := by
  obtain ⟨x, y, z, h⟩ := h
  exact ⟨x, y, z, by rw [f.block b (lt_of_heap h) hs]; exact h⟩
theorem Z3.there {w : World} {b : Nat} (h : Z3 w b) : w.there b 0 3 := by
  obtain ⟨x, y, z, h⟩ := h
  intro j hj
  refine ⟨?_, frozen_of_heap h _⟩
  rw [Nat.zero_add, cell_of_heap h]
  rcases j with _ | _ | _ | j
  · rfl
  · rfl
  · rfl
  · omega
theorem Z3.put {w : World} {b : Nat} (h : Z3 w b) (u v t : Value) : (w.setCells b 0 [u, v, t]).heap[b]? = some (.cells #[u, v, t] 24 (0, 0)) := by
  obtain ⟨x, y, z, h⟩ := h
  have h1 := heap_setCell_same w b 0 _ 24 u h
  have h2 := heap_setCell_same _ b 1 _ 24 v h1
  have h3 := heap_setCell_same _ b 2 _ 24 t h2
  exact h3

/-- Bytes are appended to an empty literal. -/
theorem app_emp {w : World} {b : Nat} {x : Value} {l : List UInt8} (hb : w.heap[b]? = some (.cells #[] 5 (0, 0))) (hx : Rd w x l) (hp : 0 < l.length) (hl : l.length ≤ 100000) (ty : TypeId) :
    ∃ q cap w', (Builtin.append_ #[22, 22] ty #[.slice (some ⟨b, 0, none⟩) 0 0, x]).run Try.prog w = .ok (.slice (some ⟨q, 0, none⟩) l.length cap) w' ∧ w'.ownsRow 0 5 1 (.slice (some ⟨q, 0, none⟩) l.length cap) l.length (bvs l) ∧ w.heap.size ≤ q ∧ Fr (fun _ => False) w w' := by
  obtain ⟨i, hi, hz0, hz1, hz2⟩ := info_parts Try.info5
  have hown : w.ownsRow 0 5 1 (.slice (some ⟨b, 0, none⟩) 0 0) 0 [] := ⟨rfl, .inr ⟨b, 0, #[], rfl, Nat.zero_le _, hb, Nat.le_refl _, by simp [maxLen], rfl, rfl⟩⟩
  obtain ⟨v', w', hr, h2, h3, h4⟩ := run_app (P := Try.prog) w 22 ty 5 i _ 1 1 Try.underlying22 hi hz0 hz1 hz2 rfl (by decide) _ 0 [] hown x l.length (bvs l) hx.sr (bvs_one _) (by omega) (by unfold maxLen; omega)
  rw [Nat.zero_add, List.nil_append] at h2
  have hsr := hx.sr
  obtain ⟨xo, xc, rfl⟩ := hx.shape
  obtain ⟨xb, xof, rfl, -, h5, h6, h7⟩ := hx.lits hp
  have hr2 := run_append_grow (P := Try.prog) w 22 ty 5 i _ Try.underlying22 hi hz0 ⟨b, 0, none⟩ 0 0 [] (by simp) (by simp) ⟨xb, xof, none⟩ l.length xc (bvs l) (by rw [hz1, bvs_length, Nat.mul_one]) (fun j u hu => by
    have hj : j < l.length := by have := (List.getElem?_eq_some_iff.1 hu).1; rwa [bvs_length] at this
    rw [Addr.add_lit, h7 j hj, ← hu, bvs_get _ _ hj]) (by omega) (by omega) (by rw [hz2]; exact growslice_fits (by omega) (by omega))
  rw [hr] at hr2
  simp only [Result.ok.injEq] at hr2
  obtain ⟨rfl, rfl⟩ := hr2
  rw [Nat.zero_add] at hr h2
  exact ⟨w.heap.size, _, _, hr, h2, Nat.le_refl _, (Fr.refl _ _).drew.alloc _⟩

/-- What the operations that lay a matrix leave. -/
inductive Kc where
  | eq (u : Value)
  | emp
  | ow (l : List UInt8)
  | ag (x y : Value) (l : List UInt8)
  | bx

def Kc.holds (N : Nat) : Kc → Value → World → Prop
  | .eq u, v, _ => v = u
  | .emp, v, w => ∃ b, v = .slice (some ⟨b, 0, none⟩) 0 0 ∧ N ≤ b ∧ w.heap[b]? = some (.cells #[] 5 (0, 0))
  | .ow l, v, w => ∃ q cap, v = .slice (some ⟨q, 0, none⟩) l.length cap ∧ N ≤ q ∧ w.ownsRow 0 5 1 (.slice (some ⟨q, 0, none⟩) l.length cap) l.length (bvs l)
  | .ag x y l, v, w => ∃ q cap, v = .agg #[x, y, .slice (some ⟨q, 0, none⟩) l.length cap] ∧ N ≤ q ∧ w.ownsRow 0 5 1 (.slice (some ⟨q, 0, none⟩) l.length cap) l.length (bvs l)
  | .bx, v, w => ∃ b, v = .pointer (some ⟨b, 0, none⟩) ∧ N ≤ b ∧ Z3 w b

def Tc (N : Nat) (ks : List Kc) (i : Nat) (v : Value) (w : World) : Prop := ∀ kd, ks[i]? = some kd → kd.holds N v w

theorem Tc.mono (N : Nat) (ks : List Kc) (i : Nat) (v : Value) (w1 w2 : World) (h : Tc N ks i v w1) (f : Fr (fun _ => False) w1 w2) : Tc N ks i v w2 := by
  intro kd hkd
  have h1 := h kd hkd
  cases kd with
  | eq u => exact h1
  | emp =>
    obtain ⟨b, e, hN, hb⟩ := h1
    exact ⟨b, e, hN, by rw [f.block b (lt_of_heap hb) id]; exact hb⟩
  | ow l =>
    obtain ⟨q, cap, e, hN, ho⟩ := h1
    exact ⟨q, cap, e, hN, owns_kept ho f (fun _ _ h => h)⟩
  | ag x y l =>
    obtain ⟨q, cap, e, hN, ho⟩ := h1
    exact ⟨q, cap, e, hN, owns_kept ho f (fun _ _ h => h)⟩
  | bx =>
    obtain ⟨b, e, hN, hb⟩ := h1
    exact ⟨b, e, hN, hb.kept f id⟩

theorem ex_newF {P : Program} {o : Oper} {a : Act} {w : World} {Q : Exit → Act → World → Prop} {i : Nat} {T : Nat → Value → World → Prop} (v : Value) (w2 : World) (h : (execOp a.eval o).run P w = .ok (.value v) w2) (hT : T i v w2) (f : Fr (fun _ => False) w w2) : o.wp P a w (fun a'' w'' => ∃ v, a'' = a.put o.dst v ∧ T i v w'' ∧ Fr (fun _ => False) w w'') Q := by
  unfold Oper.wp
  rw [h, Oper.upon_value]
  exact ⟨v, rfl, hT, f⟩

section
variable {ρ : Operand → Value} {o : Oper} {w : World}
theorem ex_emp (ho : o.op = .buildSlice 22 0 #[]) : (execOp ρ o).run Try.prog w = .ok (.value (.slice (some ⟨w.heap.size, 0, none⟩) 0 0)) (w.alloc (.cells #[] 5)) := by
  simp [execOp, ho, go_sem]
theorem ex_al24 (ho : o.op = .alloc 24) : (execOp ρ o).run Try.prog w = .ok (.value (.pointer (some ⟨w.heap.size, 0, none⟩))) (w.alloc (.cells #[.int .i64 0, .int .i64 0, .slice none 0 0] 24)) := by
  simp [execOp, ho, go_sem]
theorem ex_build24 {x y z : Operand} {u v : Int} {ao : Option Addr} {n c : Nat} (ho : o.op = .build 24 #[(0, x), (1, y), (2, z)]) (hx : ρ x = .int .i64 u) (hy : ρ y = .int .i64 v) (hz : ρ z = .slice ao n c) : (execOp ρ o).run Try.prog w = .ok (.value (.agg #[.int .i64 u, .int .i64 v, .slice ao n c])) w := by
  simp [execOp, ho, hx, hy, hz, go_sem]
theorem ex_app22 {w' : World} {s x : Operand} {u v r : Value} (ho : o.op = .call { callee := .builtin .append, args := #[s, x], argTypes := #[22, 22] }) (hs : ρ s = u) (hx : ρ x = v) (hr : (Builtin.append_ #[22, 22] o.type #[u, v]).run Try.prog w = .ok r w') : (execOp ρ o).run Try.prog w = .ok (.value r) w' := by
  simp only [execOp, ho, resolve, invoke, builtin, Sem.run_bind, Sem.run_pure, Result.andThen_ok, List.map_toArray, List.map_cons, List.map_nil, hs, hx, hr]
end

theorem wp_nameW' {P : Program} {C : Code} {Q : Exit → Act → World → Prop} {a : Act} {w : World} (h : ∀ w2, w2 = w → C.wp P Q a w2) : C.wp P Q a w := h w rfl

set_option maxHeartbeats 8000000 in
set_option maxRecDepth 100000 in
theorem cleared_any (w : World) (v : Value) (ls : List (List UInt8)) (rows cols ld : Nat) (hr : 1 ≤ rows ∧ rows ≤ 64) (hc : 1 ≤ cols ∧ cols ≤ 128) (hld : ld ≤ cols) (hl : ls.length = rows) (hw : Wid ls cols) (hv : Rd w v (fl cols (cel ls) (rows * cols))) :
    Calls Try.prog 78 #[.agg #[.int .i64 ((rows : Nat) : Int), .int .i64 ((cols : Nat) : Int), v], .int .i64 ((ld : Nat) : Int)] w fun e w' => (∃ q cap, e = .returned (.tuple #[.agg #[.int .i64 ((rows : Nat) : Int), .int .i64 ((cols : Nat) : Int), .slice (some ⟨q, 0, none⟩) (rows * cols) cap], .int .i64 (((redK ls ld).2 : Nat) : Int)]) ∧ w.heap.size ≤ q ∧ w'.ownsRow 0 5 1 (.slice (some ⟨q, 0, none⟩) (rows * cols) cap) (rows * cols) (bvs (fl cols (cel (redK ls ld).1) (rows * cols)))) ∧ Fr (fun _ => False) w w' := by
  have hN : rows * cols ≤ 8192 := Nat.mul_le_mul hr.2 hc.2
  have hN0 : 0 < rows * cols := Nat.mul_pos (by omega) (by omega)
  have hlen := fl_length cols (cel ls) (rows * cols)
  obtain ⟨vo, vc, hvs⟩ := hv.shape
  rw [hlen] at hvs
  subst hvs
  have HV := hide hv
  clear hv
  go_enter Try.func78, Try.ntmps78
  go_wp2_with fail
  refine wp_nameW' ?_
  intro w1 hw1
  have h2 : w1.heap[w.heap.size]? = some (.cells #[.int .i64 ((rows : Nat) : Int), .int .i64 ((cols : Nat) : Int), .slice vo (rows * cols) vc] 24 (0, 0)) := by rw [hw1]; exact e_b w _ _
  have hz1 : Z3 w1 (w.heap.size + 1) := ⟨_, _, _, by rw [hw1]; exact e_c w _ _⟩
  have f1 : Fr (fun _ => False) w w1 := by rw [hw1]; exact ((Fr.refl _ _).alloc _).alloc _
  have hs1 : w1.heap.size = w.heap.size + 2 := by rw [hw1]; simp
  clear hw1
  have HB0 := hide fun (W : World) (f : Fr (fun _ => False) w1 W) => ((f.cell (a := ⟨w.heap.size, 0, none⟩) (lt_of_heap h2) id).trans (cell_of_heap h2 0) : W.cell? ⟨w.heap.size, 0, none⟩ = some (.int .i64 ((rows : Nat) : Int)))
  have HB1 := hide fun (W : World) (f : Fr (fun _ => False) w1 W) => ((f.cell (a := ⟨w.heap.size, 1, none⟩) (lt_of_heap h2) id).trans (cell_of_heap h2 1) : W.cell? ⟨w.heap.size, 1, none⟩ = some (.int .i64 ((cols : Nat) : Int)))
  have HB2 := hide fun (W : World) (f : Fr (fun _ => False) w1 W) => ((f.cell (a := ⟨w.heap.size, 2, none⟩) (lt_of_heap h2) id).trans (cell_of_heap h2 2) : W.cell? ⟨w.heap.size, 2, none⟩ = some (.slice vo (rows * cols) vc))
  have HR1 := hide fun (W : World) (f : Fr (fun _ => False) w1 W) => (((unhide HV).kept f1 (fun _ _ h => h)).kept f (fun _ _ h => h) : Rd W (.slice vo (rows * cols) vc) (fl cols (cel ls) (rows * cols)))
  have HZ1 := hide hz1
  have HF1 := hide f1
  clear h2 hz1 f1
  refine wp_name' ?_
  intro a0 hA
  have h0 : a0.tmps.getD 0 undef = .agg #[.int .i64 ((rows : Nat) : Int), .int .i64 ((cols : Nat) : Int), .slice vo (rows * cols) vc] := by rw [hA]; rfl
  have h1 : a0.tmps.getD 1 undef = .int .i64 ((ld : Nat) : Int) := by rw [hA]; rfl
  have h2 : a0.tmps.getD 2 undef = .pointer (some ⟨w.heap.size, 0, none⟩) := by rw [hA]; rfl
  have h4 : a0.tmps.getD 4 undef = .pointer (some ⟨w.heap.size + 1, 0, none⟩) := by rw [hA]; rfl
  have h5 : a0.tmps.getD 5 undef = .int .i64 0 := by rw [hA]; rfl
  have hsz : a0.tmps.size = 177 := by rw [hA]; rfl
  have hdf : a0.defers = [] := by rw [hA]
  clear hA
  refine wp_region_last (by kernel_rfl) (by kernel_rfl) (by kernel_rfl) (by decide +kernel) (by rw [hsz]; decide +kernel) _ rfl (Tc w1.heap.size [.eq (.pointer (some ⟨w.heap.size, 0, none⟩)), .eq (.int .i64 ((rows : Nat) : Int)), .eq (.pointer (some ⟨w.heap.size, 1, none⟩)), .eq (.int .i64 ((cols : Nat) : Int)), .emp, .eq (.pointer (some ⟨w.heap.size, 2, none⟩)), .eq (.slice vo (rows * cols) vc), .ow (fl cols (cel ls) (rows * cols)), .ag (.int .i64 ((rows : Nat) : Int)) (.int .i64 ((cols : Nat) : Int)) (fl cols (cel ls) (rows * cols)), .bx]) (Tc.mono _ _) ?steps ?last
  case steps =>
    refine ⟨?_, ?_⟩
    · intro a' w' hb hf hd
      exact ⟨wanted_none rfl, ex_newF (.pointer (some ⟨w.heap.size, 0, none⟩)) w' (ex_f24_0 rfl ((hb.old 2 (by decide +kernel)).trans h2)) (fun _ h => by obtain rfl := Option.some.inj h; rfl) (Fr.refl _ _)⟩
    refine ⟨?_, ?_⟩
    · intro a' w' hb hf hd
      exact ⟨wanted_none rfl, ex_newF (.int .i64 ((rows : Nat) : Int)) w' (ex_load3 rfl ((hd 0 (by kernel_rfl) 17 rfl) _ rfl) (unhide HB0 w' hf)) (fun _ h => by obtain rfl := Option.some.inj h; rfl) (Fr.refl _ _)⟩
    refine ⟨?_, ?_⟩
    · intro a' w' hb hf hd
      exact ⟨wanted_none rfl, ex_newF (.pointer (some ⟨w.heap.size, 1, none⟩)) w' (ex_f24_1 rfl ((hb.old 2 (by decide +kernel)).trans h2)) (fun _ h => by obtain rfl := Option.some.inj h; rfl) (Fr.refl _ _)⟩
    refine ⟨?_, ?_⟩
    · intro a' w' hb hf hd
      exact ⟨wanted_none rfl, ex_newF (.int .i64 ((cols : Nat) : Int)) w' (ex_load3 rfl ((hd 2 (by kernel_rfl) 19 rfl) _ rfl) (unhide HB1 w' hf)) (fun _ h => by obtain rfl := Option.some.inj h; rfl) (Fr.refl _ _)⟩
    refine ⟨?_, ?_⟩
    · intro a' w' hb hf hd
      exact ⟨wanted_none rfl, ex_newF _ _ (ex_emp rfl) (fun _ h => by obtain rfl := Option.some.inj h; exact ⟨_, rfl, by have := hf.size; omega, heap_alloc_new _ _⟩) ((Fr.refl _ _).alloc _)⟩
    refine ⟨?_, ?_⟩
    · intro a' w' hb hf hd
      exact ⟨wanted_none rfl, ex_newF (.pointer (some ⟨w.heap.size, 2, none⟩)) w' (ex_f24_2 rfl ((hb.old 2 (by decide +kernel)).trans h2)) (fun _ h => by obtain rfl := Option.some.inj h; rfl) (Fr.refl _ _)⟩
    refine ⟨?_, ?_⟩
    · intro a' w' hb hf hd
      exact ⟨wanted_none rfl, ex_newF (.slice vo (rows * cols) vc) w' (ex_load22 rfl ((hd 5 (by kernel_rfl) 22 rfl) _ rfl) (unhide HB2 w' hf)) (fun _ h => by obtain rfl := Option.some.inj h; rfl) (Fr.refl _ _)⟩
    refine ⟨?_, ?_⟩
    · intro a' w' hb hf hd
      obtain ⟨b4, e4, n4, hb4⟩ := (hd 4 (by kernel_rfl) 21 rfl) _ rfl
      obtain ⟨q7, cap7, w7, hr7, ho7, hn7, hf7⟩ := app_emp hb4 (unhide HR1 w' hf) (by rw [fl_length]; omega) (by rw [fl_length]; omega) 22
      exact ⟨wanted_none rfl, ex_newF _ w7 (ex_app22 rfl e4 ((hd 6 (by kernel_rfl) 23 rfl) _ rfl) hr7) (fun _ h => by obtain rfl := Option.some.inj h; exact ⟨q7, cap7, rfl, by have := hf.size; omega, ho7⟩) hf7⟩
    refine ⟨?_, ?_⟩
    · intro a' w' hb hf hd
      obtain ⟨q8, cap8, e8, n8, ho8⟩ := (hd 7 (by kernel_rfl) 24 rfl) _ rfl
      exact ⟨wanted_none rfl, ex_newF _ w' (ex_build24 rfl ((hd 1 (by kernel_rfl) 18 rfl) _ rfl) ((hd 3 (by kernel_rfl) 20 rfl) _ rfl) e8) (fun _ h => by obtain rfl := Option.some.inj h; exact ⟨q8, cap8, rfl, n8, ho8⟩) (Fr.refl _ _)⟩
    refine ⟨?_, ?_⟩
    · intro a' w' hb hf hd
      exact ⟨wanted_none rfl, ex_newF _ _ (ex_al24 rfl) (fun _ h => by obtain rfl := Option.some.inj h; exact ⟨_, rfl, by have := hf.size; omega, ⟨_, _, _, heap_alloc_new _ _⟩⟩) ((Fr.refl _ _).alloc _)⟩
    exact trivial
  case last =>
    intro a' w' hb hf hall
    obtain ⟨q, cap, e8, n8, ho8⟩ := (hall 8 (by decide) 25 rfl) _ rfl
    obtain ⟨Mb, e9, n9, hz9⟩ := (hall 9 (by decide) 6 rfl) _ rfl
    rw [fl_length] at e8 ho8
    refine ⟨wanted_none rfl, wp_store_mid 24 _ _ rfl Mb 0 #[.int .i64 ((rows : Nat) : Int), .int .i64 ((cols : Nat) : Int), .slice (some ⟨q, 0, none⟩) (rows * cols) cap] e9 e8 hz9.there info24_size (by simp [Value.oneCell']) ?_⟩
    obtain ⟨f, hfr⟩ : ∃ f : Nat → Value, a' = { tmps := #[.agg #[.int .i64 ((rows : Nat) : Int), .int .i64 ((cols : Nat) : Int), .slice vo (rows * cols) vc], .int .i64 ((ld : Nat) : Int), .pointer (some ⟨w.heap.size, 0, none⟩), f 3, .pointer (some ⟨w.heap.size + 1, 0, none⟩), .int .i64 0, .pointer (some ⟨Mb, 0, none⟩), f 7, f 8, f 9, f 10, f 11, f 12, f 13, f 14, f 15, f 16, f 17, f 18, f 19, f 20, f 21, f 22, f 23, f 24, f 25, f 26, f 27, f 28, f 29, f 30, f 31, f 32, f 33, f 34, f 35, f 36, f 37, f 38, f 39, f 40, f 41, f 42, f 43, f 44, f 45, f 46, f 47, f 48, f 49, f 50, f 51, f 52, f 53, f 54, f 55, f 56, f 57, f 58, f 59, f 60, f 61, f 62, f 63, f 64, f 65, f 66, f 67, f 68, f 69, f 70, f 71, f 72, f 73, f 74, f 75, f 76, f 77, f 78, f 79, f 80, f 81, f 82, f 83, f 84, f 85, f 86, f 87, f 88, f 89, f 90, f 91, f 92, f 93, f 94, f 95, f 96, f 97, f 98, f 99, f 100, f 101, f 102, f 103, f 104, f 105, f 106, f 107, f 108, f 109, f 110, f 111, f 112, f 113, f 114, f 115, f 116, f 117, f 118, f 119, f 120, f 121, f 122, f 123, f 124, f 125, f 126, f 127, f 128, f 129, f 130, f 131, f 132, f 133, f 134, f 135, f 136, f 137, f 138, f 139, f 140, f 141, f 142, f 143, f 144, f 145, f 146, f 147, f 148, f 149, f 150, f 151, f 152, f 153, f 154, f 155, f 156, f 157, f 158, f 159, f 160, f 161, f 162, f 163, f 164, f 165, f 166, f 167, f 168, f 169, f 170, f 171, f 172, f 173, f 174, f 175, f 176], defers := [] } :=
      ⟨fun i => a'.tmps.getD i undef, frame_eq (vs := [.agg #[.int .i64 ((rows : Nat) : Int), .int .i64 ((cols : Nat) : Int), .slice vo (rows * cols) vc], .int .i64 ((ld : Nat) : Int), .pointer (some ⟨w.heap.size, 0, none⟩), (fun i => a'.tmps.getD i undef) 3, .pointer (some ⟨w.heap.size + 1, 0, none⟩), .int .i64 0, .pointer (some ⟨Mb, 0, none⟩), (fun i => a'.tmps.getD i undef) 7, (fun i => a'.tmps.getD i undef) 8, (fun i => a'.tmps.getD i undef) 9, (fun i => a'.tmps.getD i undef) 10, (fun i => a'.tmps.getD i undef) 11, (fun i => a'.tmps.getD i undef) 12, (fun i => a'.tmps.getD i undef) 13, (fun i => a'.tmps.getD i undef) 14, (fun i => a'.tmps.getD i undef) 15, (fun i => a'.tmps.getD i undef) 16, (fun i => a'.tmps.getD i undef) 17, (fun i => a'.tmps.getD i undef) 18, (fun i => a'.tmps.getD i undef) 19, (fun i => a'.tmps.getD i undef) 20, (fun i => a'.tmps.getD i undef) 21, (fun i => a'.tmps.getD i undef) 22, (fun i => a'.tmps.getD i undef) 23, (fun i => a'.tmps.getD i undef) 24, (fun i => a'.tmps.getD i undef) 25, (fun i => a'.tmps.getD i undef) 26, (fun i => a'.tmps.getD i undef) 27, (fun i => a'.tmps.getD i undef) 28, (fun i => a'.tmps.getD i undef) 29, (fun i => a'.tmps.getD i undef) 30, (fun i => a'.tmps.getD i undef) 31, (fun i => a'.tmps.getD i undef) 32, (fun i => a'.tmps.getD i undef) 33, (fun i => a'.tmps.getD i undef) 34, (fun i => a'.tmps.getD i undef) 35, (fun i => a'.tmps.getD i undef) 36, (fun i => a'.tmps.getD i undef) 37, (fun i => a'.tmps.getD i undef) 38, (fun i => a'.tmps.getD i undef) 39, (fun i => a'.tmps.getD i undef) 40, (fun i => a'.tmps.getD i undef) 41, (fun i => a'.tmps.getD i undef) 42, (fun i => a'.tmps.getD i undef) 43, (fun i => a'.tmps.getD i undef) 44, (fun i => a'.tmps.getD i undef) 45, (fun i => a'.tmps.getD i undef) 46, (fun i => a'.tmps.getD i undef) 47, (fun i => a'.tmps.getD i undef) 48, (fun i => a'.tmps.getD i undef) 49, (fun i => a'.tmps.getD i undef) 50, (fun i => a'.tmps.getD i undef) 51, (fun i => a'.tmps.getD i undef) 52, (fun i => a'.tmps.getD i undef) 53, (fun i => a'.tmps.getD i undef) 54, (fun i => a'.tmps.getD i undef) 55, (fun i => a'.tmps.getD i undef) 56, (fun i => a'.tmps.getD i undef) 57, (fun i => a'.tmps.getD i undef) 58, (fun i => a'.tmps.getD i undef) 59, (fun i => a'.tmps.getD i undef) 60, (fun i => a'.tmps.getD i undef) 61, (fun i => a'.tmps.getD i undef) 62, (fun i => a'.tmps.getD i undef) 63, (fun i => a'.tmps.getD i undef) 64, (fun i => a'.tmps.getD i undef) 65, (fun i => a'.tmps.getD i undef) 66, (fun i => a'.tmps.getD i undef) 67, (fun i => a'.tmps.getD i undef) 68, (fun i => a'.tmps.getD i undef) 69, (fun i => a'.tmps.getD i undef) 70, (fun i => a'.tmps.getD i undef) 71, (fun i => a'.tmps.getD i undef) 72, (fun i => a'.tmps.getD i undef) 73, (fun i => a'.tmps.getD i undef) 74, (fun i => a'.tmps.getD i undef) 75, (fun i => a'.tmps.getD i undef) 76, (fun i => a'.tmps.getD i undef) 77, (fun i => a'.tmps.getD i undef) 78, (fun i => a'.tmps.getD i undef) 79, (fun i => a'.tmps.getD i undef) 80, (fun i => a'.tmps.getD i undef) 81, (fun i => a'.tmps.getD i undef) 82, (fun i => a'.tmps.getD i undef) 83, (fun i => a'.tmps.getD i undef) 84, (fun i => a'.tmps.getD i undef) 85, (fun i => a'.tmps.getD i undef) 86, (fun i => a'.tmps.getD i undef) 87, (fun i => a'.tmps.getD i undef) 88, (fun i => a'.tmps.getD i undef) 89, (fun i => a'.tmps.getD i undef) 90, (fun i => a'.tmps.getD i undef) 91, (fun i => a'.tmps.getD i undef) 92, (fun i => a'.tmps.getD i undef) 93, (fun i => a'.tmps.getD i undef) 94, (fun i => a'.tmps.getD i undef) 95, (fun i => a'.tmps.getD i undef) 96, (fun i => a'.tmps.getD i undef) 97, (fun i => a'.tmps.getD i undef) 98, (fun i => a'.tmps.getD i undef) 99, (fun i => a'.tmps.getD i undef) 100, (fun i => a'.tmps.getD i undef) 101, (fun i => a'.tmps.getD i undef) 102, (fun i => a'.tmps.getD i undef) 103, (fun i => a'.tmps.getD i undef) 104, (fun i => a'.tmps.getD i undef) 105, (fun i => a'.tmps.getD i undef) 106, (fun i => a'.tmps.getD i undef) 107, (fun i => a'.tmps.getD i undef) 108, (fun i => a'.tmps.getD i undef) 109, (fun i => a'.tmps.getD i undef) 110, (fun i => a'.tmps.getD i undef) 111, (fun i => a'.tmps.getD i undef) 112, (fun i => a'.tmps.getD i undef) 113, (fun i => a'.tmps.getD i undef) 114, (fun i => a'.tmps.getD i undef) 115, (fun i => a'.tmps.getD i undef) 116, (fun i => a'.tmps.getD i undef) 117, (fun i => a'.tmps.getD i undef) 118, (fun i => a'.tmps.getD i undef) 119, (fun i => a'.tmps.getD i undef) 120, (fun i => a'.tmps.getD i undef) 121, (fun i => a'.tmps.getD i undef) 122, (fun i => a'.tmps.getD i undef) 123, (fun i => a'.tmps.getD i undef) 124, (fun i => a'.tmps.getD i undef) 125, (fun i => a'.tmps.getD i undef) 126, (fun i => a'.tmps.getD i undef) 127, (fun i => a'.tmps.getD i undef) 128, (fun i => a'.tmps.getD i undef) 129, (fun i => a'.tmps.getD i undef) 130, (fun i => a'.tmps.getD i undef) 131, (fun i => a'.tmps.getD i undef) 132, (fun i => a'.tmps.getD i undef) 133, (fun i => a'.tmps.getD i undef) 134, (fun i => a'.tmps.getD i undef) 135, (fun i => a'.tmps.getD i undef) 136, (fun i => a'.tmps.getD i undef) 137, (fun i => a'.tmps.getD i undef) 138, (fun i => a'.tmps.getD i undef) 139, (fun i => a'.tmps.getD i undef) 140, (fun i => a'.tmps.getD i undef) 141, (fun i => a'.tmps.getD i undef) 142, (fun i => a'.tmps.getD i undef) 143, (fun i => a'.tmps.getD i undef) 144, (fun i => a'.tmps.getD i undef) 145, (fun i => a'.tmps.getD i undef) 146, (fun i => a'.tmps.getD i undef) 147, (fun i => a'.tmps.getD i undef) 148, (fun i => a'.tmps.getD i undef) 149, (fun i => a'.tmps.getD i undef) 150, (fun i => a'.tmps.getD i undef) 151, (fun i => a'.tmps.getD i undef) 152, (fun i => a'.tmps.getD i undef) 153, (fun i => a'.tmps.getD i undef) 154, (fun i => a'.tmps.getD i undef) 155, (fun i => a'.tmps.getD i undef) 156, (fun i => a'.tmps.getD i undef) 157, (fun i => a'.tmps.getD i undef) 158, (fun i => a'.tmps.getD i undef) 159, (fun i => a'.tmps.getD i undef) 160, (fun i => a'.tmps.getD i undef) 161, (fun i => a'.tmps.getD i undef) 162, (fun i => a'.tmps.getD i undef) 163, (fun i => a'.tmps.getD i undef) 164, (fun i => a'.tmps.getD i undef) 165, (fun i => a'.tmps.getD i undef) 166, (fun i => a'.tmps.getD i undef) 167, (fun i => a'.tmps.getD i undef) 168, (fun i => a'.tmps.getD i undef) 169, (fun i => a'.tmps.getD i undef) 170, (fun i => a'.tmps.getD i undef) 171, (fun i => a'.tmps.getD i undef) 172, (fun i => a'.tmps.getD i undef) 173, (fun i => a'.tmps.getD i undef) 174, (fun i => a'.tmps.getD i undef) 175, (fun i => a'.tmps.getD i undef) 176]) (by rw [hb.size, hsz]; rfl) (by rw [hb.defers]; exact hdf) ⟨((hb.old 0 (by decide +kernel)).trans h0), ((hb.old 1 (by decide +kernel)).trans h1), ((hb.old 2 (by decide +kernel)).trans h2), rfl, ((hb.old 4 (by decide +kernel)).trans h4), ((hb.old 5 (by decide +kernel)).trans h5), e9, rfl, rfl, rfl, rfl, rfl, rfl, rfl, rfl, rfl, rfl, rfl, rfl, rfl, rfl, rfl, rfl, rfl, rfl, rfl, rfl, rfl, rfl, rfl, rfl, rfl, rfl, rfl, rfl, rfl, rfl, rfl, rfl, rfl, rfl, rfl, rfl, rfl, rfl, rfl, rfl, rfl, rfl, rfl, rfl, rfl, rfl, rfl, rfl, rfl, rfl, rfl, rfl, rfl, rfl, rfl, rfl, rfl, rfl, rfl, rfl, rfl, rfl, rfl, rfl, rfl, rfl, rfl, rfl, rfl, rfl, rfl, rfl, rfl, rfl, rfl, rfl, rfl, rfl, rfl, rfl, rfl, rfl, rfl, rfl, rfl, rfl, rfl, rfl, rfl, rfl, rfl, rfl, rfl, rfl, rfl, rfl, rfl, rfl, rfl, rfl, rfl, rfl, rfl, rfl, rfl, rfl, rfl, rfl, rfl, rfl, rfl, rfl, rfl, rfl, rfl, rfl, rfl, rfl, rfl, rfl, rfl, rfl, rfl, rfl, rfl, rfl, rfl, rfl, rfl, rfl, rfl, rfl, rfl, rfl, rfl, rfl, rfl, rfl, rfl, rfl, rfl, rfl, rfl, rfl, rfl, rfl, rfl, rfl, rfl, rfl, rfl, rfl, rfl, rfl, rfl, rfl, rfl, rfl, rfl, rfl, rfl, rfl, rfl, rfl, rfl, rfl, rfl, rfl, rfl, rfl, trivial⟩⟩
    have hp9 := hz9.put (.int .i64 ((rows : Nat) : Int)) (.int .i64 ((cols : Nat) : Int)) (.slice (some ⟨q, 0, none⟩) (rows * cols) cap)
    have hfs := setCells_frame Mb [.int .i64 ((rows : Nat) : Int), .int .i64 ((cols : Nat) : Int), .slice (some ⟨q, 0, none⟩) (rows * cols) cap] 0 w'
    have hMq : Mb ≠ q := by
      obtain ⟨x9, y9, z9, hz⟩ := hz9
      exact TyAt.ne (show TyAt w' Mb 24 from ⟨_, hz⟩) (owns_ty ho8 rfl) (by decide)
    have hX2 : XAt (w'.setCells Mb 0 [.int .i64 ((rows : Nat) : Int), .int .i64 ((cols : Nat) : Int), .slice (some ⟨q, 0, none⟩) (rows * cols) cap]) Mb q rows cols cap (cel ls) := ⟨hp9, owns_kept ho8 hfs (fun b hb => by simp [Value.ownBlock] at hb; omega)⟩
    have hZ2 : Z3 (w'.setCells Mb 0 [.int .i64 ((rows : Nat) : Int), .int .i64 ((cols : Nat) : Int), .slice (some ⟨q, 0, none⟩) (rows * cols) cap]) (w.heap.size + 1) := ((unhide HZ1).kept hf id).kept hfs (by omega)
    have hF2 : Fr (fun _ => False) w (w'.setCells Mb 0 [.int .i64 ((rows : Nat) : Int), .int .i64 ((cols : Nat) : Int), .slice (some ⟨q, 0, none⟩) (rows * cols) cap]) := ((unhide HF1).trans hf (fun _ _ h => h)).trans hfs (fun i hi e => by omega)
    have hq : w.heap.size + 2 ≤ q := by omega
    have hMb : w.heap.size + 2 ≤ Mb := by omega
    have HX2 := hide hX2
    have HZ2 := hide hZ2
    have HF2 := hide hF2
    generalize w'.setCells Mb 0 _ = w2 at *
    clear hall hb hf hfs hp9 hX2 hZ2 hF2 e8 e9 n8 n9 ho8 hz9 hsz hdf h0 h1 h2 h4 h5 HB0 HB1 HB2 HR1 HZ1 HF1 hs1 hMq HV
    subst hfr
    apply_assumption
    go_wp2_with fail
    go_loopw [7, 8] (fun n c w' => ∃ k : Nat, k ≤ ld ∧ c = .int .i64 (k : Int) ∧ n = .int .i64 (((redK ls k).2 : Nat) : Int) ∧ XAt w' Mb q rows cols cap (cel (redK ls k).1) ∧ Z3 w' (w.heap.size + 1) ∧ Fr (fun _ => False) w w') (fun _ c _ => ld - (intOf c).toNat)
    case atStart => exact ⟨0, Nat.zero_le _, rfl, rfl, unhide HX2, unhide HZ2, unhide HF2⟩
    case round =>
      clear HX2 HZ2 HF2
      obtain ⟨k, hk, rfl, rfl, hX, hZ, hF⟩ := hrel
      have hSl := redK_length ls k
      have hSw := hw.redK k
      have hnx : redK ls (k + 1) = stp (redK ls k) k := rfl
      have hst := redK_stop ls k
      obtain ⟨S, n, hSn⟩ : ∃ S n, redK ls k = (S, n) := ⟨_, _, rfl⟩
      rw [hSn] at hX hSl hSw hnx hst ⊢
      dsimp only at hX hSl hSw hst ⊢
      rw [hl] at hSl hst
      have HSN := hide hSn
      have HNX := hide hnx
      have HST := hide hst
      have HSW := hide hSw
      have HSL := hide hSl
      have hX0 := hX.facts wr (Fr.refl _ _)
      have m0 := hX0.1
      have m1 := hX0.2.1
      have m2 := hX0.2.2.1
      have hgr := hX0.2.2.2
      have HX := hide hX
      have HZ := hide hZ
      have HF := hide hF
      clear hX hZ hF hX0 hnx hst hSw hSl hSn
      by_cases hgo : k < ld ∧ n < rows
      · have hki : (k : Int) < (ld : Int) := by omega
        have hni : (n : Int) < (rows : Int) := by omega
        go_wp2_with fail
        go_loopw [9] (fun y w' => ∃ r : Nat, n ≤ r ∧ r ≤ rows ∧ y = .int .i64 (r : Int) ∧ lead S n k = lead S r k ∧ XAt w' Mb q rows cols cap (cel S) ∧ Z3 w' (w.heap.size + 1) ∧ Fr (fun _ => False) w w') (fun y _ => rows - (intOf y).toNat)
        case atStart => exact ⟨n, Nat.le_refl _, by omega, rfl, rfl, unhide HX, unhide HZ, unhide HF⟩
        case round =>
          clear m0 m1 m2 hgr HX HZ HF
          obtain ⟨r, hnr, hrr, rfl, hlead, hX, hZ, hF⟩ := hrel
          have hX0 := hX.facts wr (Fr.refl _ _)
          have m0 := hX0.1
          have m1 := hX0.2.1
          have m2 := hX0.2.2.1
          have hgr := hX0.2.2.2
          have HX := hide hX
          have HZ := hide hZ
          have HF := hide hF
          have HLD := hide hlead
          clear hX hZ hF hX0 hlead
          by_cases hrl : r < rows
          · have hri : (r : Int) < (rows : Int) := by omega
            have HAT := hide (rat_any wr rows cols q (rows * cols) cap r k (cel S r k) (flat_lt hrl (by omega)) (by omega) ((unhide HX).cell r k hrl (by omega)).1)
            obtain ⟨x, hx⟩ : ∃ x, x = cel S r k := ⟨_, rfl⟩
            rw [← hx] at HAT
            have HXX := hide hx
            clear hx
            by_cases hx0 : x = 0
            · subst hx0
              go_wp2_with fail
              refine (unhide HAT).mono ?_
              rintro e w3 ⟨rfl, f3⟩
              have HX3 := hide ((unhide HX).keptF f3)
              have HZ3 := hide ((unhide HZ).kept f3 id)
              have HF3 := hide ((unhide HF).trans f3 (fun _ _ h => h))
              clear f3 HX HZ HF HAT m0 m1 m2 hgr
              go_wp2_with fail
              go_roundw
              case rel => exact ⟨r + 1, by omega, by omega, by go_num, (unhide HLD).trans (lead_next (by rw [unhide HSL]; exact hrl) (unhide HXX).symm), unhide HX3, unhide HZ3, unhide HF3⟩
              case measure => simp [intOf]; omega
            · have hx1 : ¬ (((x.toNat : Nat) : Int) = 0) := fun h => hx0 (UInt8.toNat_inj.1 (by simpa using h))
              have hx2 : (((x.toNat : Nat) : Int) == 0) = false := beq_eq_false_iff_ne.2 hx1
              have hrw : ((r : Int) == (rows : Int)) = false := beq_eq_false_iff_ne.2 (by omega)
              have hsome : lead S n k = some r := (unhide HLD).trans (lead_here (by rw [unhide HSL]; exact hrl) (fun h => hx0 ((unhide HXX).trans h)))
              have HSM := hide hsome
              clear hsome
              go_wp2_with fail
              refine (unhide HAT).mono ?_
              rintro e w3 ⟨rfl, f3⟩
              have HX3 := hide ((unhide HX).keptF f3)
              have HZ3 := hide ((unhide HZ).kept f3 id)
              have HF3 := hide ((unhide HF).trans f3 (fun _ _ h => h))
              have hX0 := (unhide HX3).facts w3 (Fr.refl _ _)
              have m0 := hX0.1
              have m1 := hX0.2.1
              have m2 := hX0.2.2.1
              clear f3 HX HZ HF HAT hX0 hgr
              go_wp2_with fail
              go_loopw [10] (fun y w' => ∃ t : Nat, t ≤ cols ∧ y = .int .i64 (t : Int) ∧ XAt w' Mb q rows cols cap (swK (cel S) n r t) ∧ Z3 w' (w.heap.size + 1) ∧ Fr (fun _ => False) w w') (fun y _ => cols - (intOf y).toNat)
              case atStart => exact ⟨0, Nat.zero_le _, rfl, by rw [swK_zero]; exact unhide HX3, unhide HZ3, unhide HF3⟩
              case round =>
                clear m0 m1 m2 HX3 HZ3 HF3
                obtain ⟨t, ht, rfl, hX, hZ, hF⟩ := hrel
                have hX0 := hX.facts wr (Fr.refl _ _)
                have m0 := hX0.1
                have m1 := hX0.2.1
                have m2 := hX0.2.2.1
                have HX := hide hX
                have HZ := hide hZ
                have HF := hide hF
                clear hZ hF hX0
                by_cases htc : t < cols
                · have hnc := hX.cell n t (by omega) htc
                  have hrc := hX.cell r t hrl htc
                  have v1 : swK (cel S) n r t n t = cel S n t := by simp [swK]
                  have v2 : swK (cel S) n r t r t = cel S r t := by simp [swK]
                  rw [v1] at hnc
                  rw [v2] at hrc
                  have HSTEP := hide (swK_step (cel S) n r t)
                  have b1 := flat_lt (c := t) (show n < rows by omega) htc
                  have b2 := flat_lt (c := t) hrl htc
                  obtain ⟨cn, zn, hql⟩ := hnc
                  obtain ⟨cr, zr, -⟩ := hrc
                  have e1 : (n : Int) * (cols : Int) = ((n * cols : Nat) : Int) := by simp
                  have e2 : (r : Int) * (cols : Int) = ((r * cols : Nat) : Int) := by simp
                  have bn : n * cols ≤ 1000000 := by omega
                  have br : r * cols ≤ 1000000 := by omega
                  obtain ⟨xn, hxn⟩ : ∃ xn, xn = cel S n t := ⟨_, rfl⟩
                  obtain ⟨xr, hxr⟩ : ∃ xr, xr = cel S r t := ⟨_, rfl⟩
                  rw [← hxn] at cn HSTEP
                  rw [← hxr] at cr HSTEP
                  obtain ⟨g0, hg0⟩ : ∃ g0, g0 = swK (cel S) n r t := ⟨_, rfl⟩
                  rw [← hg0] at HX HSTEP
                  have v3 : g0 n t = xn := by rw [hg0, v1, hxn]
                  have v4 : g0 r t = xr := by rw [hg0, v2, hxr]
                  have HG := hide (And.intro v3 v4)
                  clear hX hxn hxr hg0 v1 v2 v3 v4 cn cr zn zr hql e1 e2
                  obtain ⟨gs, hgs⟩ : ∃ gs : Nat → Nat → Nat → UInt8, gs = fun k => if k = 0 then g0 else if k = 1 then upd g0 n t xr else upd (upd g0 n t xr) r t xn := ⟨_, rfl⟩
                  have HGS := hide hgs
                  clear hgs
                  have HS0 : Hid (XAt wr.drew Mb q rows cols cap (gs 0) ∧ Z3 wr.drew (w.heap.size + 1) ∧ Fr (fun _ => False) w wr.drew) := hide (by
                    rw [unhide HGS]
                    exact ⟨(unhide HX).keptF ((Fr.refl _ _).drew), (unhide HZ).kept (Fr.refl (fun _ => False) _).drew id, (unhide HF).drew⟩)
                  have HCH : Hid (∀ k' w', (XAt w' Mb q rows cols cap (gs k') ∧ Z3 w' (w.heap.size + 1) ∧ Fr (fun _ => False) w w') → w'.cell? ⟨Mb, 0, none⟩ = some (.int .i64 ((rows : Nat) : Int)) ∧ w'.cell? ⟨Mb, 1, none⟩ = some (.int .i64 ((cols : Nat) : Int)) ∧ w'.cell? ⟨Mb, 2, none⟩ = some (.slice (some ⟨q, 0, none⟩) (rows * cols) cap)) := hide (fun k' w' h => by
                    have h0 := h.1.facts w' (Fr.refl _ _)
                    exact ⟨h0.1, h0.2.1, h0.2.2.1⟩)
                  have HRD : Hid (∀ k' w', k' ≤ 0 → (XAt w' Mb q rows cols cap (gs k') ∧ Z3 w' (w.heap.size + 1) ∧ Fr (fun _ => False) w w') → w'.cell? ⟨q, r * cols + t, none⟩ = some (.int .u8 ((xr.toNat : Nat) : Int)) ∧ w'.cell? ⟨q, n * cols + t, none⟩ = some (.int .u8 ((xn.toNat : Nat) : Int))) := hide (fun k' w' hk' h => by
                    obtain rfl : k' = 0 := by omega
                    have h1 := h.1
                    rw [unhide HGS] at h1
                    have h2 := (h1.cell r t hrl htc).1
                    have h3 := (h1.cell n t (by omega) htc).1
                    simp only [if_true, (unhide HG).1, (unhide HG).2] at h2 h3
                    exact ⟨h2, h3⟩)
                  have HS1 : Hid (∀ w', (XAt w' Mb q rows cols cap (gs 0) ∧ Z3 w' (w.heap.size + 1) ∧ Fr (fun _ => False) w w') → (∃ old, w'.cell? ⟨q, n * cols + t, none⟩ = some old) ∧ w'.frozen? ⟨q, n * cols + t, none⟩ = false ∧ (XAt (w'.setCell ⟨q, n * cols + t, none⟩ (.int .u8 ((xr.toNat : Nat) : Int))) Mb q rows cols cap (gs 1) ∧ Z3 (w'.setCell ⟨q, n * cols + t, none⟩ (.int .u8 ((xr.toNat : Nat) : Int))) (w.heap.size + 1) ∧ Fr (fun _ => False) w (w'.setCell ⟨q, n * cols + t, none⟩ (.int .u8 ((xr.toNat : Nat) : Int))))) := hide (fun w' h => by
                    have hcl := h.1.cell n t (by omega) htc
                    refine ⟨⟨_, hcl.1⟩, hcl.2.1, ?_, h.2.1.kept (S := fun k => k = q) ((Fr.refl (fun k => k = q) _).setCell (p := ⟨q, n * cols + t, none⟩) (fun _ => rfl) _) (by omega), h.2.2.setCell (p := ⟨q, n * cols + t, none⟩) (fun h' => by simp at h'; omega) _⟩
                    have h1 := h.1.set n t xr (by omega) htc
                    rw [unhide HGS] at h1 ⊢
                    exact h1)
                  have HS2 : Hid (∀ w', (XAt w' Mb q rows cols cap (gs 1) ∧ Z3 w' (w.heap.size + 1) ∧ Fr (fun _ => False) w w') → (∃ old, w'.cell? ⟨q, r * cols + t, none⟩ = some old) ∧ w'.frozen? ⟨q, r * cols + t, none⟩ = false ∧ (XAt (w'.setCell ⟨q, r * cols + t, none⟩ (.int .u8 ((xn.toNat : Nat) : Int))) Mb q rows cols cap (gs 2) ∧ Z3 (w'.setCell ⟨q, r * cols + t, none⟩ (.int .u8 ((xn.toNat : Nat) : Int))) (w.heap.size + 1) ∧ Fr (fun _ => False) w (w'.setCell ⟨q, r * cols + t, none⟩ (.int .u8 ((xn.toNat : Nat) : Int))))) := hide (fun w' h => by
                    have hcl := h.1.cell r t hrl htc
                    refine ⟨⟨_, hcl.1⟩, hcl.2.1, ?_, h.2.1.kept (S := fun k => k = q) ((Fr.refl (fun k => k = q) _).setCell (p := ⟨q, r * cols + t, none⟩) (fun _ => rfl) _) (by omega), h.2.2.setCell (p := ⟨q, r * cols + t, none⟩) (fun h' => by simp at h'; omega) _⟩
                    have h1 := h.1.set r t xn hrl htc
                    rw [unhide HGS] at h1 ⊢
                    exact h1)
                  have hti : (t : Int) < (cols : Int) := by omega
                  go_wp2_with fail
                  refine wp_name' ?_
                  intro a0 hA
                  have h6 : a0.tmps.getD 6 undef = .pointer (some ⟨Mb, 0, none⟩) := by rw [hA]; rfl
                  have h7 : a0.tmps.getD 7 undef = .int .i64 ((n : Nat) : Int) := by rw [hA]; rfl
                  have h9 : a0.tmps.getD 9 undef = .int .i64 ((r : Nat) : Int) := by rw [hA]; rfl
                  have h10 : a0.tmps.getD 10 undef = .int .i64 ((t : Nat) : Int) := by rw [hA]; rfl
                  have hsz : a0.tmps.size = 177 := by rw [hA]; rfl
                  have hdf : a0.defers = [] := by rw [hA]
                  have HA0 := hide hA
                  clear hA
                  refine wp_region_chain (by kernel_rfl) (by kernel_rfl) (by decide +kernel) (by rw [hsz]; decide +kernel) (fun w' w'' => Fr (fun k => k = q) w' w'') (Fr.refl _ _).drew (fun _ _ _ h k => h.trans k (fun _ _ h => h)) (Tv [.pointer (some ⟨Mb, 2, none⟩), .slice (some ⟨q, 0, none⟩) (rows * cols) cap, .int .i64 ((n : Nat) : Int), .pointer (some ⟨Mb, 1, none⟩), .int .i64 ((cols : Nat) : Int), .int .i64 ((n * cols : Nat) : Int), .int .i64 ((t : Nat) : Int), .int .i64 ((n * cols + t : Nat) : Int), .pointer (some ⟨Mb, 2, none⟩), .slice (some ⟨q, 0, none⟩) (rows * cols) cap, .int .i64 ((r : Nat) : Int), .pointer (some ⟨Mb, 1, none⟩), .int .i64 ((cols : Nat) : Int), .int .i64 ((r * cols : Nat) : Int), .int .i64 ((t : Nat) : Int), .int .i64 ((r * cols + t : Nat) : Int), .pointer (some ⟨Mb, 2, none⟩), .slice (some ⟨q, 0, none⟩) (rows * cols) cap, .int .i64 ((r : Nat) : Int), .pointer (some ⟨Mb, 1, none⟩), .int .i64 ((cols : Nat) : Int), .int .i64 ((r * cols : Nat) : Int), .int .i64 ((t : Nat) : Int), .int .i64 ((r * cols + t : Nat) : Int), .pointer (some ⟨q, r * cols + t, none⟩), .int .u8 (((xr).toNat : Nat) : Int), .pointer (some ⟨Mb, 2, none⟩), .slice (some ⟨q, 0, none⟩) (rows * cols) cap, .int .i64 ((n : Nat) : Int), .pointer (some ⟨Mb, 1, none⟩), .int .i64 ((cols : Nat) : Int), .int .i64 ((n * cols : Nat) : Int), .int .i64 ((t : Nat) : Int), .int .i64 ((n * cols + t : Nat) : Int), .pointer (some ⟨q, n * cols + t, none⟩), .int .u8 (((xn).toNat : Nat) : Int), .pointer (some ⟨q, n * cols + t, none⟩), .tuple #[], .pointer (some ⟨q, r * cols + t, none⟩), .tuple #[]]) (Tv.mono _ _) [37, 39] (by decide) (by decide) (chain_paths _ [[37]] (by kernel_rfl)) (fun k' w' => XAt w' Mb q rows cols cap (gs k') ∧ Z3 w' (w.heap.size + 1) ∧ Fr (fun _ => False) w w') (unhide HS0) ?steps ?done
                  case steps =>
                    refine ⟨?_, ?_⟩
                    · intro a' w' k' hb hf hs hc hk hd
                      exact ⟨wanted_none rfl, left_val (.pointer (some ⟨Mb, 2, none⟩)) (by decide) hs (ex_f24_2 rfl ((hb.old 6 (by decide +kernel)).trans h6)) (fun _ h => by obtain rfl := Option.some.inj h; rfl)⟩
                    refine ⟨?_, ?_⟩
                    · intro a' w' k' hb hf hs hc hk hd
                      exact ⟨wanted_none rfl, left_val (.slice (some ⟨q, 0, none⟩) (rows * cols) cap) (by decide) hs (ex_load22 rfl ((hd 0 (by kernel_rfl) 61 rfl) _ rfl) (unhide HCH _ _ hs).2.2) (fun _ h => by obtain rfl := Option.some.inj h; rfl)⟩
                    refine ⟨?_, ?_⟩
                    · intro a' w' k' hb hf hs hc hk hd
                      exact ⟨wanted_none rfl, left_val (.int .i64 ((n : Nat) : Int)) (by decide) hs (ex_move rfl ((hb.old 7 (by decide +kernel)).trans h7)) (fun _ h => by obtain rfl := Option.some.inj h; rfl)⟩
                    refine ⟨?_, ?_⟩
                    · intro a' w' k' hb hf hs hc hk hd
                      exact ⟨wanted_none rfl, left_val (.pointer (some ⟨Mb, 1, none⟩)) (by decide) hs (ex_f24_1 rfl ((hb.old 6 (by decide +kernel)).trans h6)) (fun _ h => by obtain rfl := Option.some.inj h; rfl)⟩
                    refine ⟨?_, ?_⟩
                    · intro a' w' k' hb hf hs hc hk hd
                      exact ⟨wanted_none rfl, left_val (.int .i64 ((cols : Nat) : Int)) (by decide) hs (ex_load3 rfl ((hd 3 (by kernel_rfl) 64 rfl) _ rfl) (unhide HCH _ _ hs).2.1) (fun _ h => by obtain rfl := Option.some.inj h; rfl)⟩
                    refine ⟨?_, ?_⟩
                    · intro a' w' k' hb hf hs hc hk hd
                      exact ⟨wanted_none rfl, left_val (.int .i64 ((n * cols : Nat) : Int)) (by decide) hs (ex_mulN rfl ((hd 2 (by kernel_rfl) 63 rfl) _ rfl) ((hd 4 (by kernel_rfl) 65 rfl) _ rfl) (bn)) (fun _ h => by obtain rfl := Option.some.inj h; rfl)⟩
                    refine ⟨?_, ?_⟩
                    · intro a' w' k' hb hf hs hc hk hd
                      exact ⟨wanted_none rfl, left_val (.int .i64 ((t : Nat) : Int)) (by decide) hs (ex_move rfl ((hb.old 10 (by decide +kernel)).trans h10)) (fun _ h => by obtain rfl := Option.some.inj h; rfl)⟩
                    refine ⟨?_, ?_⟩
                    · intro a' w' k' hb hf hs hc hk hd
                      exact ⟨wanted_none rfl, left_val (.int .i64 ((n * cols + t : Nat) : Int)) (by decide) hs (ex_addN rfl ((hd 5 (by kernel_rfl) 66 rfl) _ rfl) ((hd 6 (by kernel_rfl) 67 rfl) _ rfl) (by omega)) (fun _ h => by obtain rfl := Option.some.inj h; rfl)⟩
                    refine ⟨?_, ?_⟩
                    · intro a' w' k' hb hf hs hc hk hd
                      exact ⟨wanted_none rfl, left_val (.pointer (some ⟨Mb, 2, none⟩)) (by decide) hs (ex_f24_2 rfl ((hb.old 6 (by decide +kernel)).trans h6)) (fun _ h => by obtain rfl := Option.some.inj h; rfl)⟩
                    refine ⟨?_, ?_⟩
                    · intro a' w' k' hb hf hs hc hk hd
                      exact ⟨wanted_none rfl, left_val (.slice (some ⟨q, 0, none⟩) (rows * cols) cap) (by decide) hs (ex_load22 rfl ((hd 8 (by kernel_rfl) 69 rfl) _ rfl) (unhide HCH _ _ hs).2.2) (fun _ h => by obtain rfl := Option.some.inj h; rfl)⟩
                    refine ⟨?_, ?_⟩
                    · intro a' w' k' hb hf hs hc hk hd
                      exact ⟨wanted_none rfl, left_val (.int .i64 ((r : Nat) : Int)) (by decide) hs (ex_move rfl ((hb.old 9 (by decide +kernel)).trans h9)) (fun _ h => by obtain rfl := Option.some.inj h; rfl)⟩
                    refine ⟨?_, ?_⟩
                    · intro a' w' k' hb hf hs hc hk hd
                      exact ⟨wanted_none rfl, left_val (.pointer (some ⟨Mb, 1, none⟩)) (by decide) hs (ex_f24_1 rfl ((hb.old 6 (by decide +kernel)).trans h6)) (fun _ h => by obtain rfl := Option.some.inj h; rfl)⟩
                    refine ⟨?_, ?_⟩
                    · intro a' w' k' hb hf hs hc hk hd
                      exact ⟨wanted_none rfl, left_val (.int .i64 ((cols : Nat) : Int)) (by decide) hs (ex_load3 rfl ((hd 11 (by kernel_rfl) 72 rfl) _ rfl) (unhide HCH _ _ hs).2.1) (fun _ h => by obtain rfl := Option.some.inj h; rfl)⟩
                    refine ⟨?_, ?_⟩
                    · intro a' w' k' hb hf hs hc hk hd
                      exact ⟨wanted_none rfl, left_val (.int .i64 ((r * cols : Nat) : Int)) (by decide) hs (ex_mulN rfl ((hd 10 (by kernel_rfl) 71 rfl) _ rfl) ((hd 12 (by kernel_rfl) 73 rfl) _ rfl) (br)) (fun _ h => by obtain rfl := Option.some.inj h; rfl)⟩
                    refine ⟨?_, ?_⟩
                    · intro a' w' k' hb hf hs hc hk hd
                      exact ⟨wanted_none rfl, left_val (.int .i64 ((t : Nat) : Int)) (by decide) hs (ex_move rfl ((hb.old 10 (by decide +kernel)).trans h10)) (fun _ h => by obtain rfl := Option.some.inj h; rfl)⟩
                    refine ⟨?_, ?_⟩
                    · intro a' w' k' hb hf hs hc hk hd
                      exact ⟨wanted_none rfl, left_val (.int .i64 ((r * cols + t : Nat) : Int)) (by decide) hs (ex_addN rfl ((hd 13 (by kernel_rfl) 74 rfl) _ rfl) ((hd 14 (by kernel_rfl) 75 rfl) _ rfl) (by omega)) (fun _ h => by obtain rfl := Option.some.inj h; rfl)⟩
                    refine ⟨?_, ?_⟩
                    · intro a' w' k' hb hf hs hc hk hd
                      exact ⟨wanted_none rfl, left_val (.pointer (some ⟨Mb, 2, none⟩)) (by decide) hs (ex_f24_2 rfl ((hb.old 6 (by decide +kernel)).trans h6)) (fun _ h => by obtain rfl := Option.some.inj h; rfl)⟩
                    refine ⟨?_, ?_⟩
                    · intro a' w' k' hb hf hs hc hk hd
                      exact ⟨wanted_none rfl, left_val (.slice (some ⟨q, 0, none⟩) (rows * cols) cap) (by decide) hs (ex_load22 rfl ((hd 16 (by kernel_rfl) 77 rfl) _ rfl) (unhide HCH _ _ hs).2.2) (fun _ h => by obtain rfl := Option.some.inj h; rfl)⟩
                    refine ⟨?_, ?_⟩
                    · intro a' w' k' hb hf hs hc hk hd
                      exact ⟨wanted_none rfl, left_val (.int .i64 ((r : Nat) : Int)) (by decide) hs (ex_move rfl ((hb.old 9 (by decide +kernel)).trans h9)) (fun _ h => by obtain rfl := Option.some.inj h; rfl)⟩
                    refine ⟨?_, ?_⟩
                    · intro a' w' k' hb hf hs hc hk hd
                      exact ⟨wanted_none rfl, left_val (.pointer (some ⟨Mb, 1, none⟩)) (by decide) hs (ex_f24_1 rfl ((hb.old 6 (by decide +kernel)).trans h6)) (fun _ h => by obtain rfl := Option.some.inj h; rfl)⟩
                    refine ⟨?_, ?_⟩
                    · intro a' w' k' hb hf hs hc hk hd
                      exact ⟨wanted_none rfl, left_val (.int .i64 ((cols : Nat) : Int)) (by decide) hs (ex_load3 rfl ((hd 19 (by kernel_rfl) 80 rfl) _ rfl) (unhide HCH _ _ hs).2.1) (fun _ h => by obtain rfl := Option.some.inj h; rfl)⟩
                    refine ⟨?_, ?_⟩
                    · intro a' w' k' hb hf hs hc hk hd
                      exact ⟨wanted_none rfl, left_val (.int .i64 ((r * cols : Nat) : Int)) (by decide) hs (ex_mulN rfl ((hd 18 (by kernel_rfl) 79 rfl) _ rfl) ((hd 20 (by kernel_rfl) 81 rfl) _ rfl) (br)) (fun _ h => by obtain rfl := Option.some.inj h; rfl)⟩
                    refine ⟨?_, ?_⟩
                    · intro a' w' k' hb hf hs hc hk hd
                      exact ⟨wanted_none rfl, left_val (.int .i64 ((t : Nat) : Int)) (by decide) hs (ex_move rfl ((hb.old 10 (by decide +kernel)).trans h10)) (fun _ h => by obtain rfl := Option.some.inj h; rfl)⟩
                    refine ⟨?_, ?_⟩
                    · intro a' w' k' hb hf hs hc hk hd
                      exact ⟨wanted_none rfl, left_val (.int .i64 ((r * cols + t : Nat) : Int)) (by decide) hs (ex_addN rfl ((hd 21 (by kernel_rfl) 82 rfl) _ rfl) ((hd 22 (by kernel_rfl) 83 rfl) _ rfl) (by omega)) (fun _ h => by obtain rfl := Option.some.inj h; rfl)⟩
                    refine ⟨?_, ?_⟩
                    · intro a' w' k' hb hf hs hc hk hd
                      exact ⟨wanted_none rfl, left_val (.pointer (some ⟨q, r * cols + t, none⟩)) (by decide) hs (ex_idx0 rfl ((hd 17 (by kernel_rfl) 78 rfl) _ rfl) ((hd 23 (by kernel_rfl) 84 rfl) _ rfl) (b2)) (fun _ h => by obtain rfl := Option.some.inj h; rfl)⟩
                    refine ⟨?_, ?_⟩
                    · intro a' w' k' hb hf hs hc hk hd
                      exact ⟨wanted_none rfl, left_val (.int .u8 (((xr).toNat : Nat) : Int)) (by decide) hs (ex_load5 rfl ((hd 24 (by kernel_rfl) 85 rfl) _ rfl) ((unhide HRD _ _ (hk 0 37 _ rfl rfl (by kernel_rfl)) hs).1)) (fun _ h => by obtain rfl := Option.some.inj h; rfl)⟩
                    refine ⟨?_, ?_⟩
                    · intro a' w' k' hb hf hs hc hk hd
                      exact ⟨wanted_none rfl, left_val (.pointer (some ⟨Mb, 2, none⟩)) (by decide) hs (ex_f24_2 rfl ((hb.old 6 (by decide +kernel)).trans h6)) (fun _ h => by obtain rfl := Option.some.inj h; rfl)⟩
                    refine ⟨?_, ?_⟩
                    · intro a' w' k' hb hf hs hc hk hd
                      exact ⟨wanted_none rfl, left_val (.slice (some ⟨q, 0, none⟩) (rows * cols) cap) (by decide) hs (ex_load22 rfl ((hd 26 (by kernel_rfl) 87 rfl) _ rfl) (unhide HCH _ _ hs).2.2) (fun _ h => by obtain rfl := Option.some.inj h; rfl)⟩
                    refine ⟨?_, ?_⟩
                    · intro a' w' k' hb hf hs hc hk hd
                      exact ⟨wanted_none rfl, left_val (.int .i64 ((n : Nat) : Int)) (by decide) hs (ex_move rfl ((hb.old 7 (by decide +kernel)).trans h7)) (fun _ h => by obtain rfl := Option.some.inj h; rfl)⟩
                    refine ⟨?_, ?_⟩
                    · intro a' w' k' hb hf hs hc hk hd
                      exact ⟨wanted_none rfl, left_val (.pointer (some ⟨Mb, 1, none⟩)) (by decide) hs (ex_f24_1 rfl ((hb.old 6 (by decide +kernel)).trans h6)) (fun _ h => by obtain rfl := Option.some.inj h; rfl)⟩
                    refine ⟨?_, ?_⟩
                    · intro a' w' k' hb hf hs hc hk hd
                      exact ⟨wanted_none rfl, left_val (.int .i64 ((cols : Nat) : Int)) (by decide) hs (ex_load3 rfl ((hd 29 (by kernel_rfl) 90 rfl) _ rfl) (unhide HCH _ _ hs).2.1) (fun _ h => by obtain rfl := Option.some.inj h; rfl)⟩
                    refine ⟨?_, ?_⟩
                    · intro a' w' k' hb hf hs hc hk hd
                      exact ⟨wanted_none rfl, left_val (.int .i64 ((n * cols : Nat) : Int)) (by decide) hs (ex_mulN rfl ((hd 28 (by kernel_rfl) 89 rfl) _ rfl) ((hd 30 (by kernel_rfl) 91 rfl) _ rfl) (bn)) (fun _ h => by obtain rfl := Option.some.inj h; rfl)⟩
                    refine ⟨?_, ?_⟩
                    · intro a' w' k' hb hf hs hc hk hd
                      exact ⟨wanted_none rfl, left_val (.int .i64 ((t : Nat) : Int)) (by decide) hs (ex_move rfl ((hb.old 10 (by decide +kernel)).trans h10)) (fun _ h => by obtain rfl := Option.some.inj h; rfl)⟩
                    refine ⟨?_, ?_⟩
                    · intro a' w' k' hb hf hs hc hk hd
                      exact ⟨wanted_none rfl, left_val (.int .i64 ((n * cols + t : Nat) : Int)) (by decide) hs (ex_addN rfl ((hd 31 (by kernel_rfl) 92 rfl) _ rfl) ((hd 32 (by kernel_rfl) 93 rfl) _ rfl) (by omega)) (fun _ h => by obtain rfl := Option.some.inj h; rfl)⟩
                    refine ⟨?_, ?_⟩
                    · intro a' w' k' hb hf hs hc hk hd
                      exact ⟨wanted_none rfl, left_val (.pointer (some ⟨q, n * cols + t, none⟩)) (by decide) hs (ex_idx0 rfl ((hd 27 (by kernel_rfl) 88 rfl) _ rfl) ((hd 33 (by kernel_rfl) 94 rfl) _ rfl) (b1)) (fun _ h => by obtain rfl := Option.some.inj h; rfl)⟩
                    refine ⟨?_, ?_⟩
                    · intro a' w' k' hb hf hs hc hk hd
                      exact ⟨wanted_none rfl, left_val (.int .u8 (((xn).toNat : Nat) : Int)) (by decide) hs (ex_load5 rfl ((hd 34 (by kernel_rfl) 95 rfl) _ rfl) ((unhide HRD _ _ (hk 0 37 _ rfl rfl (by kernel_rfl)) hs).2)) (fun _ h => by obtain rfl := Option.some.inj h; rfl)⟩
                    refine ⟨?_, ?_⟩
                    · intro a' w' k' hb hf hs hc hk hd
                      exact ⟨wanted_none rfl, left_val (.pointer (some ⟨q, n * cols + t, none⟩)) (by decide) hs (ex_idx0 rfl ((hd 1 (by kernel_rfl) 62 rfl) _ rfl) ((hd 7 (by kernel_rfl) 68 rfl) _ rfl) (b1)) (fun _ h => by obtain rfl := Option.some.inj h; rfl)⟩
                    refine ⟨?_, ?_⟩
                    · intro a' w' k' hb hf hs hc hk hd
                      obtain rfl := hc 0 rfl
                      obtain ⟨⟨old, hold⟩, hfz, hnext⟩ := unhide HS1 w' hs
                      exact ⟨wanted_none rfl, wp_store5 rfl ((hd 36 (by kernel_rfl) 97 rfl) _ rfl) ((hd 25 (by kernel_rfl) 86 rfl) _ rfl) hold hfz ⟨undef, rfl, fun _ h => by first | (obtain rfl := Option.some.inj h; rfl) | (simp at h; subst h; rfl), (Fr.refl (fun k => k = q) _).setCell (p := ⟨q, n * cols + t, none⟩) (fun _ => rfl) _, by rw [if_pos (by decide)]; exact hnext⟩⟩
                    refine ⟨?_, ?_⟩
                    · intro a' w' k' hb hf hs hc hk hd
                      exact ⟨wanted_none rfl, left_val (.pointer (some ⟨q, r * cols + t, none⟩)) (by decide) hs (ex_idx0 rfl ((hd 9 (by kernel_rfl) 70 rfl) _ rfl) ((hd 15 (by kernel_rfl) 76 rfl) _ rfl) (b2)) (fun _ h => by obtain rfl := Option.some.inj h; rfl)⟩
                    refine ⟨?_, ?_⟩
                    · intro a' w' k' hb hf hs hc hk hd
                      obtain rfl := hc 1 rfl
                      obtain ⟨⟨old, hold⟩, hfz, hnext⟩ := unhide HS2 w' hs
                      exact ⟨wanted_none rfl, wp_store5 rfl ((hd 38 (by kernel_rfl) 98 rfl) _ rfl) ((hd 35 (by kernel_rfl) 96 rfl) _ rfl) hold hfz ⟨undef, rfl, fun _ h => by first | (obtain rfl := Option.some.inj h; rfl) | (simp at h; subst h; rfl), (Fr.refl (fun k => k = q) _).setCell (p := ⟨q, r * cols + t, none⟩) (fun _ => rfl) _, by rw [if_pos (by decide)]; exact hnext⟩⟩
                    exact trivial
                  case done =>
                    intro a' w' hb hf hs hall
                    have e0_ : a'.tmps.getD 0 undef = a0.tmps.getD 0 undef := hb.old 0 (by decide +kernel)
                    have e1_ : a'.tmps.getD 1 undef = a0.tmps.getD 1 undef := hb.old 1 (by decide +kernel)
                    have e2_ : a'.tmps.getD 2 undef = a0.tmps.getD 2 undef := hb.old 2 (by decide +kernel)
                    have e3_ : a'.tmps.getD 3 undef = a0.tmps.getD 3 undef := hb.old 3 (by decide +kernel)
                    have e4_ : a'.tmps.getD 4 undef = a0.tmps.getD 4 undef := hb.old 4 (by decide +kernel)
                    have e5_ : a'.tmps.getD 5 undef = a0.tmps.getD 5 undef := hb.old 5 (by decide +kernel)
                    have e6_ : a'.tmps.getD 6 undef = .pointer (some ⟨Mb, 0, none⟩) := (hb.old 6 (by decide +kernel)).trans h6
                    have e7_ : a'.tmps.getD 7 undef = .int .i64 ((n : Nat) : Int) := (hb.old 7 (by decide +kernel)).trans h7
                    have e8_ : a'.tmps.getD 8 undef = a0.tmps.getD 8 undef := hb.old 8 (by decide +kernel)
                    have e9_ : a'.tmps.getD 9 undef = .int .i64 ((r : Nat) : Int) := (hb.old 9 (by decide +kernel)).trans h9
                    have e10_ : a'.tmps.getD 10 undef = .int .i64 ((t : Nat) : Int) := (hb.old 10 (by decide +kernel)).trans h10
                    have e11_ : a'.tmps.getD 11 undef = a0.tmps.getD 11 undef := hb.old 11 (by decide +kernel)
                    have e12_ : a'.tmps.getD 12 undef = a0.tmps.getD 12 undef := hb.old 12 (by decide +kernel)
                    have e13_ : a'.tmps.getD 13 undef = a0.tmps.getD 13 undef := hb.old 13 (by decide +kernel)
                    have e14_ : a'.tmps.getD 14 undef = a0.tmps.getD 14 undef := hb.old 14 (by decide +kernel)
                    have e15_ : a'.tmps.getD 15 undef = a0.tmps.getD 15 undef := hb.old 15 (by decide +kernel)
                    have e16_ : a'.tmps.getD 16 undef = a0.tmps.getD 16 undef := hb.old 16 (by decide +kernel)
                    have e17_ : a'.tmps.getD 17 undef = a0.tmps.getD 17 undef := hb.old 17 (by decide +kernel)
                    have e18_ : a'.tmps.getD 18 undef = a0.tmps.getD 18 undef := hb.old 18 (by decide +kernel)
                    have e19_ : a'.tmps.getD 19 undef = a0.tmps.getD 19 undef := hb.old 19 (by decide +kernel)
                    have e20_ : a'.tmps.getD 20 undef = a0.tmps.getD 20 undef := hb.old 20 (by decide +kernel)
                    have e21_ : a'.tmps.getD 21 undef = a0.tmps.getD 21 undef := hb.old 21 (by decide +kernel)
                    have e22_ : a'.tmps.getD 22 undef = a0.tmps.getD 22 undef := hb.old 22 (by decide +kernel)
                    have e23_ : a'.tmps.getD 23 undef = a0.tmps.getD 23 undef := hb.old 23 (by decide +kernel)
                    have e24_ : a'.tmps.getD 24 undef = a0.tmps.getD 24 undef := hb.old 24 (by decide +kernel)
                    have e25_ : a'.tmps.getD 25 undef = a0.tmps.getD 25 undef := hb.old 25 (by decide +kernel)
                    have e26_ : a'.tmps.getD 26 undef = a0.tmps.getD 26 undef := hb.old 26 (by decide +kernel)
                    have e27_ : a'.tmps.getD 27 undef = a0.tmps.getD 27 undef := hb.old 27 (by decide +kernel)
                    have e28_ : a'.tmps.getD 28 undef = a0.tmps.getD 28 undef := hb.old 28 (by decide +kernel)
                    have e29_ : a'.tmps.getD 29 undef = a0.tmps.getD 29 undef := hb.old 29 (by decide +kernel)
                    have e30_ : a'.tmps.getD 30 undef = a0.tmps.getD 30 undef := hb.old 30 (by decide +kernel)
                    have e31_ : a'.tmps.getD 31 undef = a0.tmps.getD 31 undef := hb.old 31 (by decide +kernel)
                    have e32_ : a'.tmps.getD 32 undef = a0.tmps.getD 32 undef := hb.old 32 (by decide +kernel)
                    have e33_ : a'.tmps.getD 33 undef = a0.tmps.getD 33 undef := hb.old 33 (by decide +kernel)
                    have e34_ : a'.tmps.getD 34 undef = a0.tmps.getD 34 undef := hb.old 34 (by decide +kernel)
                    have e35_ : a'.tmps.getD 35 undef = a0.tmps.getD 35 undef := hb.old 35 (by decide +kernel)
                    have e36_ : a'.tmps.getD 36 undef = a0.tmps.getD 36 undef := hb.old 36 (by decide +kernel)
                    have e37_ : a'.tmps.getD 37 undef = a0.tmps.getD 37 undef := hb.old 37 (by decide +kernel)
                    have e38_ : a'.tmps.getD 38 undef = a0.tmps.getD 38 undef := hb.old 38 (by decide +kernel)
                    have e39_ : a'.tmps.getD 39 undef = a0.tmps.getD 39 undef := hb.old 39 (by decide +kernel)
                    have e40_ : a'.tmps.getD 40 undef = a0.tmps.getD 40 undef := hb.old 40 (by decide +kernel)
                    have e41_ : a'.tmps.getD 41 undef = a0.tmps.getD 41 undef := hb.old 41 (by decide +kernel)
                    have e42_ : a'.tmps.getD 42 undef = a0.tmps.getD 42 undef := hb.old 42 (by decide +kernel)
                    have e43_ : a'.tmps.getD 43 undef = a0.tmps.getD 43 undef := hb.old 43 (by decide +kernel)
                    have e44_ : a'.tmps.getD 44 undef = a0.tmps.getD 44 undef := hb.old 44 (by decide +kernel)
                    have e45_ : a'.tmps.getD 45 undef = a0.tmps.getD 45 undef := hb.old 45 (by decide +kernel)
                    have e46_ : a'.tmps.getD 46 undef = a0.tmps.getD 46 undef := hb.old 46 (by decide +kernel)
                    have e47_ : a'.tmps.getD 47 undef = a0.tmps.getD 47 undef := hb.old 47 (by decide +kernel)
                    have e48_ : a'.tmps.getD 48 undef = a0.tmps.getD 48 undef := hb.old 48 (by decide +kernel)
                    have e49_ : a'.tmps.getD 49 undef = a0.tmps.getD 49 undef := hb.old 49 (by decide +kernel)
                    have e50_ : a'.tmps.getD 50 undef = a0.tmps.getD 50 undef := hb.old 50 (by decide +kernel)
                    have e51_ : a'.tmps.getD 51 undef = a0.tmps.getD 51 undef := hb.old 51 (by decide +kernel)
                    have e52_ : a'.tmps.getD 52 undef = a0.tmps.getD 52 undef := hb.old 52 (by decide +kernel)
                    have e53_ : a'.tmps.getD 53 undef = a0.tmps.getD 53 undef := hb.old 53 (by decide +kernel)
                    have e54_ : a'.tmps.getD 54 undef = a0.tmps.getD 54 undef := hb.old 54 (by decide +kernel)
                    have e55_ : a'.tmps.getD 55 undef = a0.tmps.getD 55 undef := hb.old 55 (by decide +kernel)
                    have e56_ : a'.tmps.getD 56 undef = a0.tmps.getD 56 undef := hb.old 56 (by decide +kernel)
                    have e57_ : a'.tmps.getD 57 undef = a0.tmps.getD 57 undef := hb.old 57 (by decide +kernel)
                    have e58_ : a'.tmps.getD 58 undef = a0.tmps.getD 58 undef := hb.old 58 (by decide +kernel)
                    have e59_ : a'.tmps.getD 59 undef = a0.tmps.getD 59 undef := hb.old 59 (by decide +kernel)
                    have e60_ : a'.tmps.getD 60 undef = a0.tmps.getD 60 undef := hb.old 60 (by decide +kernel)
                    have e61_ : a'.tmps.getD 61 undef = .pointer (some ⟨Mb, 2, none⟩) := (hall 0 (by decide) 61 rfl) _ rfl
                    have e62_ : a'.tmps.getD 62 undef = .slice (some ⟨q, 0, none⟩) (rows * cols) cap := (hall 1 (by decide) 62 rfl) _ rfl
                    have e63_ : a'.tmps.getD 63 undef = .int .i64 ((n : Nat) : Int) := (hall 2 (by decide) 63 rfl) _ rfl
                    have e64_ : a'.tmps.getD 64 undef = .pointer (some ⟨Mb, 1, none⟩) := (hall 3 (by decide) 64 rfl) _ rfl
                    have e65_ : a'.tmps.getD 65 undef = .int .i64 ((cols : Nat) : Int) := (hall 4 (by decide) 65 rfl) _ rfl
                    have e66_ : a'.tmps.getD 66 undef = .int .i64 ((n * cols : Nat) : Int) := (hall 5 (by decide) 66 rfl) _ rfl
                    have e67_ : a'.tmps.getD 67 undef = .int .i64 ((t : Nat) : Int) := (hall 6 (by decide) 67 rfl) _ rfl
                    have e68_ : a'.tmps.getD 68 undef = .int .i64 ((n * cols + t : Nat) : Int) := (hall 7 (by decide) 68 rfl) _ rfl
                    have e69_ : a'.tmps.getD 69 undef = .pointer (some ⟨Mb, 2, none⟩) := (hall 8 (by decide) 69 rfl) _ rfl
                    have e70_ : a'.tmps.getD 70 undef = .slice (some ⟨q, 0, none⟩) (rows * cols) cap := (hall 9 (by decide) 70 rfl) _ rfl
                    have e71_ : a'.tmps.getD 71 undef = .int .i64 ((r : Nat) : Int) := (hall 10 (by decide) 71 rfl) _ rfl
                    have e72_ : a'.tmps.getD 72 undef = .pointer (some ⟨Mb, 1, none⟩) := (hall 11 (by decide) 72 rfl) _ rfl
                    have e73_ : a'.tmps.getD 73 undef = .int .i64 ((cols : Nat) : Int) := (hall 12 (by decide) 73 rfl) _ rfl
                    have e74_ : a'.tmps.getD 74 undef = .int .i64 ((r * cols : Nat) : Int) := (hall 13 (by decide) 74 rfl) _ rfl
                    have e75_ : a'.tmps.getD 75 undef = .int .i64 ((t : Nat) : Int) := (hall 14 (by decide) 75 rfl) _ rfl
                    have e76_ : a'.tmps.getD 76 undef = .int .i64 ((r * cols + t : Nat) : Int) := (hall 15 (by decide) 76 rfl) _ rfl
                    have e77_ : a'.tmps.getD 77 undef = .pointer (some ⟨Mb, 2, none⟩) := (hall 16 (by decide) 77 rfl) _ rfl
                    have e78_ : a'.tmps.getD 78 undef = .slice (some ⟨q, 0, none⟩) (rows * cols) cap := (hall 17 (by decide) 78 rfl) _ rfl
                    have e79_ : a'.tmps.getD 79 undef = .int .i64 ((r : Nat) : Int) := (hall 18 (by decide) 79 rfl) _ rfl
                    have e80_ : a'.tmps.getD 80 undef = .pointer (some ⟨Mb, 1, none⟩) := (hall 19 (by decide) 80 rfl) _ rfl
                    have e81_ : a'.tmps.getD 81 undef = .int .i64 ((cols : Nat) : Int) := (hall 20 (by decide) 81 rfl) _ rfl
                    have e82_ : a'.tmps.getD 82 undef = .int .i64 ((r * cols : Nat) : Int) := (hall 21 (by decide) 82 rfl) _ rfl
                    have e83_ : a'.tmps.getD 83 undef = .int .i64 ((t : Nat) : Int) := (hall 22 (by decide) 83 rfl) _ rfl
                    have e84_ : a'.tmps.getD 84 undef = .int .i64 ((r * cols + t : Nat) : Int) := (hall 23 (by decide) 84 rfl) _ rfl
                    have e85_ : a'.tmps.getD 85 undef = .pointer (some ⟨q, r * cols + t, none⟩) := (hall 24 (by decide) 85 rfl) _ rfl
                    have e86_ : a'.tmps.getD 86 undef = .int .u8 (((xr).toNat : Nat) : Int) := (hall 25 (by decide) 86 rfl) _ rfl
                    have e87_ : a'.tmps.getD 87 undef = .pointer (some ⟨Mb, 2, none⟩) := (hall 26 (by decide) 87 rfl) _ rfl
                    have e88_ : a'.tmps.getD 88 undef = .slice (some ⟨q, 0, none⟩) (rows * cols) cap := (hall 27 (by decide) 88 rfl) _ rfl
                    have e89_ : a'.tmps.getD 89 undef = .int .i64 ((n : Nat) : Int) := (hall 28 (by decide) 89 rfl) _ rfl
                    have e90_ : a'.tmps.getD 90 undef = .pointer (some ⟨Mb, 1, none⟩) := (hall 29 (by decide) 90 rfl) _ rfl
                    have e91_ : a'.tmps.getD 91 undef = .int .i64 ((cols : Nat) : Int) := (hall 30 (by decide) 91 rfl) _ rfl
                    have e92_ : a'.tmps.getD 92 undef = .int .i64 ((n * cols : Nat) : Int) := (hall 31 (by decide) 92 rfl) _ rfl
                    have e93_ : a'.tmps.getD 93 undef = .int .i64 ((t : Nat) : Int) := (hall 32 (by decide) 93 rfl) _ rfl
                    have e94_ : a'.tmps.getD 94 undef = .int .i64 ((n * cols + t : Nat) : Int) := (hall 33 (by decide) 94 rfl) _ rfl
                    have e95_ : a'.tmps.getD 95 undef = .pointer (some ⟨q, n * cols + t, none⟩) := (hall 34 (by decide) 95 rfl) _ rfl
                    have e96_ : a'.tmps.getD 96 undef = .int .u8 (((xn).toNat : Nat) : Int) := (hall 35 (by decide) 96 rfl) _ rfl
                    have e97_ : a'.tmps.getD 97 undef = .pointer (some ⟨q, n * cols + t, none⟩) := (hall 36 (by decide) 97 rfl) _ rfl
                    have e98_ : a'.tmps.getD 98 undef = .pointer (some ⟨q, r * cols + t, none⟩) := (hall 38 (by decide) 98 rfl) _ rfl
                    have e99_ : a'.tmps.getD 99 undef = a0.tmps.getD 99 undef := hb.old 99 (by decide +kernel)
                    have e100_ : a'.tmps.getD 100 undef = a0.tmps.getD 100 undef := hb.old 100 (by decide +kernel)
                    have e101_ : a'.tmps.getD 101 undef = a0.tmps.getD 101 undef := hb.old 101 (by decide +kernel)
                    have e102_ : a'.tmps.getD 102 undef = a0.tmps.getD 102 undef := hb.old 102 (by decide +kernel)
                    have e103_ : a'.tmps.getD 103 undef = a0.tmps.getD 103 undef := hb.old 103 (by decide +kernel)
                    have e104_ : a'.tmps.getD 104 undef = a0.tmps.getD 104 undef := hb.old 104 (by decide +kernel)
                    have e105_ : a'.tmps.getD 105 undef = a0.tmps.getD 105 undef := hb.old 105 (by decide +kernel)
                    have e106_ : a'.tmps.getD 106 undef = a0.tmps.getD 106 undef := hb.old 106 (by decide +kernel)
                    have e107_ : a'.tmps.getD 107 undef = a0.tmps.getD 107 undef := hb.old 107 (by decide +kernel)
                    have e108_ : a'.tmps.getD 108 undef = a0.tmps.getD 108 undef := hb.old 108 (by decide +kernel)
                    have e109_ : a'.tmps.getD 109 undef = a0.tmps.getD 109 undef := hb.old 109 (by decide +kernel)
                    have e110_ : a'.tmps.getD 110 undef = a0.tmps.getD 110 undef := hb.old 110 (by decide +kernel)
                    have e111_ : a'.tmps.getD 111 undef = a0.tmps.getD 111 undef := hb.old 111 (by decide +kernel)
                    have e112_ : a'.tmps.getD 112 undef = a0.tmps.getD 112 undef := hb.old 112 (by decide +kernel)
                    have e113_ : a'.tmps.getD 113 undef = a0.tmps.getD 113 undef := hb.old 113 (by decide +kernel)
                    have e114_ : a'.tmps.getD 114 undef = a0.tmps.getD 114 undef := hb.old 114 (by decide +kernel)
                    have e115_ : a'.tmps.getD 115 undef = a0.tmps.getD 115 undef := hb.old 115 (by decide +kernel)
                    have e116_ : a'.tmps.getD 116 undef = a0.tmps.getD 116 undef := hb.old 116 (by decide +kernel)
                    have e117_ : a'.tmps.getD 117 undef = a0.tmps.getD 117 undef := hb.old 117 (by decide +kernel)
                    have e118_ : a'.tmps.getD 118 undef = a0.tmps.getD 118 undef := hb.old 118 (by decide +kernel)
                    have e119_ : a'.tmps.getD 119 undef = a0.tmps.getD 119 undef := hb.old 119 (by decide +kernel)
                    have e120_ : a'.tmps.getD 120 undef = a0.tmps.getD 120 undef := hb.old 120 (by decide +kernel)
                    have e121_ : a'.tmps.getD 121 undef = a0.tmps.getD 121 undef := hb.old 121 (by decide +kernel)
                    have e122_ : a'.tmps.getD 122 undef = a0.tmps.getD 122 undef := hb.old 122 (by decide +kernel)
                    have e123_ : a'.tmps.getD 123 undef = a0.tmps.getD 123 undef := hb.old 123 (by decide +kernel)
                    have e124_ : a'.tmps.getD 124 undef = a0.tmps.getD 124 undef := hb.old 124 (by decide +kernel)
                    have e125_ : a'.tmps.getD 125 undef = a0.tmps.getD 125 undef := hb.old 125 (by decide +kernel)
                    have e126_ : a'.tmps.getD 126 undef = a0.tmps.getD 126 undef := hb.old 126 (by decide +kernel)
                    have e127_ : a'.tmps.getD 127 undef = a0.tmps.getD 127 undef := hb.old 127 (by decide +kernel)
                    have e128_ : a'.tmps.getD 128 undef = a0.tmps.getD 128 undef := hb.old 128 (by decide +kernel)
                    have e129_ : a'.tmps.getD 129 undef = a0.tmps.getD 129 undef := hb.old 129 (by decide +kernel)
                    have e130_ : a'.tmps.getD 130 undef = a0.tmps.getD 130 undef := hb.old 130 (by decide +kernel)
                    have e131_ : a'.tmps.getD 131 undef = a0.tmps.getD 131 undef := hb.old 131 (by decide +kernel)
                    have e132_ : a'.tmps.getD 132 undef = a0.tmps.getD 132 undef := hb.old 132 (by decide +kernel)
                    have e133_ : a'.tmps.getD 133 undef = a0.tmps.getD 133 undef := hb.old 133 (by decide +kernel)
                    have e134_ : a'.tmps.getD 134 undef = a0.tmps.getD 134 undef := hb.old 134 (by decide +kernel)
                    have e135_ : a'.tmps.getD 135 undef = a0.tmps.getD 135 undef := hb.old 135 (by decide +kernel)
                    have e136_ : a'.tmps.getD 136 undef = a0.tmps.getD 136 undef := hb.old 136 (by decide +kernel)
                    have e137_ : a'.tmps.getD 137 undef = a0.tmps.getD 137 undef := hb.old 137 (by decide +kernel)
                    have e138_ : a'.tmps.getD 138 undef = a0.tmps.getD 138 undef := hb.old 138 (by decide +kernel)
                    have e139_ : a'.tmps.getD 139 undef = a0.tmps.getD 139 undef := hb.old 139 (by decide +kernel)
                    have e140_ : a'.tmps.getD 140 undef = a0.tmps.getD 140 undef := hb.old 140 (by decide +kernel)
                    have e141_ : a'.tmps.getD 141 undef = a0.tmps.getD 141 undef := hb.old 141 (by decide +kernel)
                    have e142_ : a'.tmps.getD 142 undef = a0.tmps.getD 142 undef := hb.old 142 (by decide +kernel)
                    have e143_ : a'.tmps.getD 143 undef = a0.tmps.getD 143 undef := hb.old 143 (by decide +kernel)
                    have e144_ : a'.tmps.getD 144 undef = a0.tmps.getD 144 undef := hb.old 144 (by decide +kernel)
                    have e145_ : a'.tmps.getD 145 undef = a0.tmps.getD 145 undef := hb.old 145 (by decide +kernel)
                    have e146_ : a'.tmps.getD 146 undef = a0.tmps.getD 146 undef := hb.old 146 (by decide +kernel)
                    have e147_ : a'.tmps.getD 147 undef = a0.tmps.getD 147 undef := hb.old 147 (by decide +kernel)
                    have e148_ : a'.tmps.getD 148 undef = a0.tmps.getD 148 undef := hb.old 148 (by decide +kernel)
                    have e149_ : a'.tmps.getD 149 undef = a0.tmps.getD 149 undef := hb.old 149 (by decide +kernel)
                    have e150_ : a'.tmps.getD 150 undef = a0.tmps.getD 150 undef := hb.old 150 (by decide +kernel)
                    have e151_ : a'.tmps.getD 151 undef = a0.tmps.getD 151 undef := hb.old 151 (by decide +kernel)
                    have e152_ : a'.tmps.getD 152 undef = a0.tmps.getD 152 undef := hb.old 152 (by decide +kernel)
                    have e153_ : a'.tmps.getD 153 undef = a0.tmps.getD 153 undef := hb.old 153 (by decide +kernel)
                    have e154_ : a'.tmps.getD 154 undef = a0.tmps.getD 154 undef := hb.old 154 (by decide +kernel)
                    have e155_ : a'.tmps.getD 155 undef = a0.tmps.getD 155 undef := hb.old 155 (by decide +kernel)
                    have e156_ : a'.tmps.getD 156 undef = a0.tmps.getD 156 undef := hb.old 156 (by decide +kernel)
                    have e157_ : a'.tmps.getD 157 undef = a0.tmps.getD 157 undef := hb.old 157 (by decide +kernel)
                    have e158_ : a'.tmps.getD 158 undef = a0.tmps.getD 158 undef := hb.old 158 (by decide +kernel)
                    have e159_ : a'.tmps.getD 159 undef = a0.tmps.getD 159 undef := hb.old 159 (by decide +kernel)
                    have e160_ : a'.tmps.getD 160 undef = a0.tmps.getD 160 undef := hb.old 160 (by decide +kernel)
                    have e161_ : a'.tmps.getD 161 undef = a0.tmps.getD 161 undef := hb.old 161 (by decide +kernel)
                    have e162_ : a'.tmps.getD 162 undef = a0.tmps.getD 162 undef := hb.old 162 (by decide +kernel)
                    have e163_ : a'.tmps.getD 163 undef = a0.tmps.getD 163 undef := hb.old 163 (by decide +kernel)
                    have e164_ : a'.tmps.getD 164 undef = a0.tmps.getD 164 undef := hb.old 164 (by decide +kernel)
                    have e165_ : a'.tmps.getD 165 undef = a0.tmps.getD 165 undef := hb.old 165 (by decide +kernel)
                    have e166_ : a'.tmps.getD 166 undef = a0.tmps.getD 166 undef := hb.old 166 (by decide +kernel)
                    have e167_ : a'.tmps.getD 167 undef = a0.tmps.getD 167 undef := hb.old 167 (by decide +kernel)
                    have e168_ : a'.tmps.getD 168 undef = a0.tmps.getD 168 undef := hb.old 168 (by decide +kernel)
                    have e169_ : a'.tmps.getD 169 undef = a0.tmps.getD 169 undef := hb.old 169 (by decide +kernel)
                    have e170_ : a'.tmps.getD 170 undef = a0.tmps.getD 170 undef := hb.old 170 (by decide +kernel)
                    have e171_ : a'.tmps.getD 171 undef = a0.tmps.getD 171 undef := hb.old 171 (by decide +kernel)
                    have e172_ : a'.tmps.getD 172 undef = a0.tmps.getD 172 undef := hb.old 172 (by decide +kernel)
                    have e173_ : a'.tmps.getD 173 undef = a0.tmps.getD 173 undef := hb.old 173 (by decide +kernel)
                    have e174_ : a'.tmps.getD 174 undef = a0.tmps.getD 174 undef := hb.old 174 (by decide +kernel)
                    have e175_ : a'.tmps.getD 175 undef = a0.tmps.getD 175 undef := hb.old 175 (by decide +kernel)
                    have e176_ : a'.tmps.getD 176 undef = a0.tmps.getD 176 undef := hb.old 176 (by decide +kernel)
                    have hfr := frame_eq (a := a') (vs := [a0.tmps.getD 0 undef, a0.tmps.getD 1 undef, a0.tmps.getD 2 undef, a0.tmps.getD 3 undef, a0.tmps.getD 4 undef, a0.tmps.getD 5 undef, .pointer (some ⟨Mb, 0, none⟩), .int .i64 ((n : Nat) : Int), a0.tmps.getD 8 undef, .int .i64 ((r : Nat) : Int), .int .i64 ((t : Nat) : Int), a0.tmps.getD 11 undef, a0.tmps.getD 12 undef, a0.tmps.getD 13 undef, a0.tmps.getD 14 undef, a0.tmps.getD 15 undef, a0.tmps.getD 16 undef, a0.tmps.getD 17 undef, a0.tmps.getD 18 undef, a0.tmps.getD 19 undef, a0.tmps.getD 20 undef, a0.tmps.getD 21 undef, a0.tmps.getD 22 undef, a0.tmps.getD 23 undef, a0.tmps.getD 24 undef, a0.tmps.getD 25 undef, a0.tmps.getD 26 undef, a0.tmps.getD 27 undef, a0.tmps.getD 28 undef, a0.tmps.getD 29 undef, a0.tmps.getD 30 undef, a0.tmps.getD 31 undef, a0.tmps.getD 32 undef, a0.tmps.getD 33 undef, a0.tmps.getD 34 undef, a0.tmps.getD 35 undef, a0.tmps.getD 36 undef, a0.tmps.getD 37 undef, a0.tmps.getD 38 undef, a0.tmps.getD 39 undef, a0.tmps.getD 40 undef, a0.tmps.getD 41 undef, a0.tmps.getD 42 undef, a0.tmps.getD 43 undef, a0.tmps.getD 44 undef, a0.tmps.getD 45 undef, a0.tmps.getD 46 undef, a0.tmps.getD 47 undef, a0.tmps.getD 48 undef, a0.tmps.getD 49 undef, a0.tmps.getD 50 undef, a0.tmps.getD 51 undef, a0.tmps.getD 52 undef, a0.tmps.getD 53 undef, a0.tmps.getD 54 undef, a0.tmps.getD 55 undef, a0.tmps.getD 56 undef, a0.tmps.getD 57 undef, a0.tmps.getD 58 undef, a0.tmps.getD 59 undef, a0.tmps.getD 60 undef, .pointer (some ⟨Mb, 2, none⟩), .slice (some ⟨q, 0, none⟩) (rows * cols) cap, .int .i64 ((n : Nat) : Int), .pointer (some ⟨Mb, 1, none⟩), .int .i64 ((cols : Nat) : Int), .int .i64 ((n * cols : Nat) : Int), .int .i64 ((t : Nat) : Int), .int .i64 ((n * cols + t : Nat) : Int), .pointer (some ⟨Mb, 2, none⟩), .slice (some ⟨q, 0, none⟩) (rows * cols) cap, .int .i64 ((r : Nat) : Int), .pointer (some ⟨Mb, 1, none⟩), .int .i64 ((cols : Nat) : Int), .int .i64 ((r * cols : Nat) : Int), .int .i64 ((t : Nat) : Int), .int .i64 ((r * cols + t : Nat) : Int), .pointer (some ⟨Mb, 2, none⟩), .slice (some ⟨q, 0, none⟩) (rows * cols) cap, .int .i64 ((r : Nat) : Int), .pointer (some ⟨Mb, 1, none⟩), .int .i64 ((cols : Nat) : Int), .int .i64 ((r * cols : Nat) : Int), .int .i64 ((t : Nat) : Int), .int .i64 ((r * cols + t : Nat) : Int), .pointer (some ⟨q, r * cols + t, none⟩), .int .u8 (((xr).toNat : Nat) : Int), .pointer (some ⟨Mb, 2, none⟩), .slice (some ⟨q, 0, none⟩) (rows * cols) cap, .int .i64 ((n : Nat) : Int), .pointer (some ⟨Mb, 1, none⟩), .int .i64 ((cols : Nat) : Int), .int .i64 ((n * cols : Nat) : Int), .int .i64 ((t : Nat) : Int), .int .i64 ((n * cols + t : Nat) : Int), .pointer (some ⟨q, n * cols + t, none⟩), .int .u8 (((xn).toNat : Nat) : Int), .pointer (some ⟨q, n * cols + t, none⟩), .pointer (some ⟨q, r * cols + t, none⟩), a0.tmps.getD 99 undef, a0.tmps.getD 100 undef, a0.tmps.getD 101 undef, a0.tmps.getD 102 undef, a0.tmps.getD 103 undef, a0.tmps.getD 104 undef, a0.tmps.getD 105 undef, a0.tmps.getD 106 undef, a0.tmps.getD 107 undef, a0.tmps.getD 108 undef, a0.tmps.getD 109 undef, a0.tmps.getD 110 undef, a0.tmps.getD 111 undef, a0.tmps.getD 112 undef, a0.tmps.getD 113 undef, a0.tmps.getD 114 undef, a0.tmps.getD 115 undef, a0.tmps.getD 116 undef, a0.tmps.getD 117 undef, a0.tmps.getD 118 undef, a0.tmps.getD 119 undef, a0.tmps.getD 120 undef, a0.tmps.getD 121 undef, a0.tmps.getD 122 undef, a0.tmps.getD 123 undef, a0.tmps.getD 124 undef, a0.tmps.getD 125 undef, a0.tmps.getD 126 undef, a0.tmps.getD 127 undef, a0.tmps.getD 128 undef, a0.tmps.getD 129 undef, a0.tmps.getD 130 undef, a0.tmps.getD 131 undef, a0.tmps.getD 132 undef, a0.tmps.getD 133 undef, a0.tmps.getD 134 undef, a0.tmps.getD 135 undef, a0.tmps.getD 136 undef, a0.tmps.getD 137 undef, a0.tmps.getD 138 undef, a0.tmps.getD 139 undef, a0.tmps.getD 140 undef, a0.tmps.getD 141 undef, a0.tmps.getD 142 undef, a0.tmps.getD 143 undef, a0.tmps.getD 144 undef, a0.tmps.getD 145 undef, a0.tmps.getD 146 undef, a0.tmps.getD 147 undef, a0.tmps.getD 148 undef, a0.tmps.getD 149 undef, a0.tmps.getD 150 undef, a0.tmps.getD 151 undef, a0.tmps.getD 152 undef, a0.tmps.getD 153 undef, a0.tmps.getD 154 undef, a0.tmps.getD 155 undef, a0.tmps.getD 156 undef, a0.tmps.getD 157 undef, a0.tmps.getD 158 undef, a0.tmps.getD 159 undef, a0.tmps.getD 160 undef, a0.tmps.getD 161 undef, a0.tmps.getD 162 undef, a0.tmps.getD 163 undef, a0.tmps.getD 164 undef, a0.tmps.getD 165 undef, a0.tmps.getD 166 undef, a0.tmps.getD 167 undef, a0.tmps.getD 168 undef, a0.tmps.getD 169 undef, a0.tmps.getD 170 undef, a0.tmps.getD 171 undef, a0.tmps.getD 172 undef, a0.tmps.getD 173 undef, a0.tmps.getD 174 undef, a0.tmps.getD 175 undef, a0.tmps.getD 176 undef]) (by rw [hb.size, hsz]; rfl) (by rw [hb.defers]; exact hdf) ⟨e0_, e1_, e2_, e3_, e4_, e5_, e6_, e7_, e8_, e9_, e10_, e11_, e12_, e13_, e14_, e15_, e16_, e17_, e18_, e19_, e20_, e21_, e22_, e23_, e24_, e25_, e26_, e27_, e28_, e29_, e30_, e31_, e32_, e33_, e34_, e35_, e36_, e37_, e38_, e39_, e40_, e41_, e42_, e43_, e44_, e45_, e46_, e47_, e48_, e49_, e50_, e51_, e52_, e53_, e54_, e55_, e56_, e57_, e58_, e59_, e60_, e61_, e62_, e63_, e64_, e65_, e66_, e67_, e68_, e69_, e70_, e71_, e72_, e73_, e74_, e75_, e76_, e77_, e78_, e79_, e80_, e81_, e82_, e83_, e84_, e85_, e86_, e87_, e88_, e89_, e90_, e91_, e92_, e93_, e94_, e95_, e96_, e97_, e98_, e99_, e100_, e101_, e102_, e103_, e104_, e105_, e106_, e107_, e108_, e109_, e110_, e111_, e112_, e113_, e114_, e115_, e116_, e117_, e118_, e119_, e120_, e121_, e122_, e123_, e124_, e125_, e126_, e127_, e128_, e129_, e130_, e131_, e132_, e133_, e134_, e135_, e136_, e137_, e138_, e139_, e140_, e141_, e142_, e143_, e144_, e145_, e146_, e147_, e148_, e149_, e150_, e151_, e152_, e153_, e154_, e155_, e156_, e157_, e158_, e159_, e160_, e161_, e162_, e163_, e164_, e165_, e166_, e167_, e168_, e169_, e170_, e171_, e172_, e173_, e174_, e175_, e176_, trivial⟩
                    have HSZ := hide hs
                    clear hall hb hf hs e0_ e1_ e2_ e3_ e4_ e5_ e6_ e7_ e8_ e9_ e10_ e11_ e12_ e13_ e14_ e15_ e16_ e17_ e18_ e19_ e20_ e21_ e22_ e23_ e24_ e25_ e26_ e27_ e28_ e29_ e30_ e31_ e32_ e33_ e34_ e35_ e36_ e37_ e38_ e39_ e40_ e41_ e42_ e43_ e44_ e45_ e46_ e47_ e48_ e49_ e50_ e51_ e52_ e53_ e54_ e55_ e56_ e57_ e58_ e59_ e60_ e61_ e62_ e63_ e64_ e65_ e66_ e67_ e68_ e69_ e70_ e71_ e72_ e73_ e74_ e75_ e76_ e77_ e78_ e79_ e80_ e81_ e82_ e83_ e84_ e85_ e86_ e87_ e88_ e89_ e90_ e91_ e92_ e93_ e94_ e95_ e96_ e97_ e98_ e99_ e100_ e101_ e102_ e103_ e104_ e105_ e106_ e107_ e108_ e109_ e110_ e111_ e112_ e113_ e114_ e115_ e116_ e117_ e118_ e119_ e120_ e121_ e122_ e123_ e124_ e125_ e126_ e127_ e128_ e129_ e130_ e131_ e132_ e133_ e134_ e135_ e136_ e137_ e138_ e139_ e140_ e141_ e142_ e143_ e144_ e145_ e146_ e147_ e148_ e149_ e150_ e151_ e152_ e153_ e154_ e155_ e156_ e157_ e158_ e159_ e160_ e161_ e162_ e163_ e164_ e165_ e166_ e167_ e168_ e169_ e170_ e171_ e172_ e173_ e174_ e175_ e176_ h6 h7 h9 h10
                    subst hfr
                    rw [unhide HA0]
                    clear HA0 hsz hdf
                    apply_assumption
                    go_wp2_with fail
                    go_roundw
                    case rel =>
                      have hz := unhide HSZ
                      have h1 := hz.1
                      rw [unhide HGS] at h1
                      refine ⟨t + 1, by omega, by go_num, ?_, hz.2.1, hz.2.2⟩
                      rw [← unhide HSTEP]
                      exact h1
                    case measure => simp [intOf]; omega
                · have hte : t = cols := by omega
                  subst hte
                  have hti : ¬ (t : Int) < (t : Int) := by omega
                  have v1 : swK (cel S) n r t n k = x := by
                    rw [unhide HXX]
                    unfold swK
                    rw [if_pos (by omega)]
                    by_cases e : n = r
                    · rw [if_pos e, e]
                    · rw [if_neg e, if_pos rfl]
                  have hcx := (hX.cell n k (by omega) (by omega)).1
                  rw [v1] at hcx
                  have HAT2 := hide (rat_any wr rows t q (rows * t) cap n k x (flat_lt (by omega) (by omega)) (by omega) hcx)
                  have hdv : dv 1 x = (div 1 x, 0) := by unfold dv; rw [if_neg hx0]
                  obtain ⟨iv, hiv⟩ : ∃ iv, iv = div 1 x := ⟨_, rfl⟩
                  have HIN := hide (fun W => rinv_any W x)
                  rw [hdv, ← hiv] at HIN
                  have HIV := hide hiv
                  obtain ⟨F1, hF1⟩ : ∃ F1, F1 = swK (cel S) n r t := ⟨_, rfl⟩
                  rw [← hF1] at HX
                  have HF1 := hide hF1
                  clear hX v1 hcx hdv hiv hF1
                  go_wp2_with fail
                  refine (unhide HAT2).mono ?_
                  rintro e w4 ⟨rfl, f4⟩
                  have HX4 := hide ((unhide HX).keptF f4)
                  have HZ4 := hide ((unhide HZ).kept f4 id)
                  have HF4 := hide ((unhide HF).trans f4 (fun _ _ h => h))
                  clear f4 HX HZ HF HAT2 m0 m1 m2
                  go_wp2_with fail
                  refine (unhide HIN w4).mono ?_
                  rintro e w5 ⟨rfl, rfl⟩
                  have hX0 := (unhide HX4).facts w4 (Fr.refl _ _)
                  have m0 := hX0.1
                  have m1 := hX0.2.1
                  have m2 := hX0.2.2.1
                  clear HIN hX0
                  go_wp2_with fail
                  go_loopw [13] (fun y w' => ∃ j : Nat, j ≤ t ∧ y = .int .i64 (j : Int) ∧ XAt w' Mb q rows t cap (scK F1 n iv j) ∧ Z3 w' (w.heap.size + 1) ∧ Fr (fun _ => False) w w') (fun y _ => t - (intOf y).toNat)
                  case atStart => exact ⟨0, Nat.zero_le _, rfl, by rw [scK_zero]; exact unhide HX4, unhide HZ4, unhide HF4⟩
                  case round =>
                    clear m0 m1 m2 HX4 HZ4 HF4
                    obtain ⟨j, hj, rfl, hX, hZ, hF⟩ := hrel
                    have HX := hide hX
                    have HZ := hide hZ
                    have HF := hide hF
                    have hX0 := hX.facts wr (Fr.refl _ _)
                    have m0 := hX0.1
                    have m1 := hX0.2.1
                    have m2 := hX0.2.2.1
                    clear hZ hF hX0
                    by_cases hjc : j < t
                    · have hji : (j : Int) < (t : Int) := by omega
                      have b1 := flat_lt (c := j) (show n < rows by omega) hjc
                      have bn : n * t ≤ 1000000 := by omega
                      have hcl := hX.cell n j (by omega) hjc
                      rw [scK_at] at hcl
                      obtain ⟨y, hy⟩ : ∃ y, y = F1 n j := ⟨_, rfl⟩
                      rw [← hy] at hcl
                      have HSTEP := hide (scK_step F1 n iv j)
                      rw [← hy] at HSTEP
                      have HM0 := hide (fun W (f : Fr (fun _ => False) wr W) => ((unhide HX).facts W f).1)
                      have HM1 := hide (fun W (f : Fr (fun _ => False) wr W) => ((unhide HX).facts W f).2.1)
                      have HM2 := hide (fun W (f : Fr (fun _ => False) wr W) => ((unhide HX).facts W f).2.2.1)
                      have HMR := hide (fun W (f : Fr (fun _ => False) wr W) => ((unhide HX).facts W f).2.2.2)
                      have HQC := hide (fun W (f : Fr (fun _ => False) wr W) => (f.cell (a := ⟨q, n * t + j, none⟩) hcl.2.2 id).trans hcl.1)
                      have HQZ := hide (fun W (f : Fr (fun _ => False) wr W) => (f.frozen (a := ⟨q, n * t + j, none⟩) hcl.2.2 id).trans hcl.2.1)
                      have hnr2 : n < rows := by omega
                      clear hX hy hcl m0 m1 m2
                      have m1 := unhide HM1 wr (Fr.refl _ _)
                      go_wp2_with fail
                      clear m1
                      refine wp_name' ?_
                      intro a0 hA
                      have h6 : a0.tmps.getD 6 undef = .pointer (some ⟨Mb, 0, none⟩) := by rw [hA]; rfl
                      have h7 : a0.tmps.getD 7 undef = .int .i64 ((n : Nat) : Int) := by rw [hA]; rfl
                      have h11 : a0.tmps.getD 11 undef = .int .u8 (((iv).toNat : Nat) : Int) := by rw [hA]; rfl
                      have h13 : a0.tmps.getD 13 undef = .int .i64 ((j : Nat) : Int) := by rw [hA]; rfl
                      have hsz : a0.tmps.size = 177 := by rw [hA]; rfl
                      have hdf : a0.defers = [] := by rw [hA]
                      have HA0 := hide hA
                      clear hA
                      refine wp_region_last (by kernel_rfl) (by kernel_rfl) (by kernel_rfl) (by decide +kernel) (by rw [hsz]; decide +kernel) _ rfl (Tk [.eq (.pointer (some ⟨Mb, 2, none⟩)), .eq (.slice (some ⟨q, 0, none⟩) (rows * t) cap), .eq (.int .i64 ((n : Nat) : Int)), .eq (.pointer (some ⟨Mb, 1, none⟩)), .eq (.int .i64 ((t : Nat) : Int)), .eq (.int .i64 ((n * t : Nat) : Int)), .eq (.int .i64 ((j : Nat) : Int)), .eq (.int .i64 ((n * t + j : Nat) : Int)), .eq (.int .u8 (((iv).toNat : Nat) : Int)), .eq (.agg #[.int .i64 ((rows : Nat) : Int), .int .i64 ((t : Nat) : Int), .slice (some ⟨q, 0, none⟩) (rows * t) cap]), .eq (.int .i64 ((n : Nat) : Int)), .eq (.int .i64 ((j : Nat) : Int)), .eq (.int .u8 (((y).toNat : Nat) : Int)), .eq (.int .u8 (((mul iv y).toNat : Nat) : Int)), .eq (.pointer (some ⟨q, n * t + j, none⟩))]) (Tk.mono _) ?steps ?last
                      case steps =>
                        refine ⟨?_, ?_⟩
                        · intro a' w' hb hf hd
                          exact ⟨wanted_none rfl, ex_val (.pointer (some ⟨Mb, 2, none⟩)) (ex_f24_2 rfl ((hb.old 6 (by decide +kernel)).trans h6)) rfl⟩
                        refine ⟨?_, ?_⟩
                        · intro a' w' hb hf hd
                          exact ⟨wanted_none rfl, ex_val (.slice (some ⟨q, 0, none⟩) (rows * t) cap) (ex_load22 rfl (hd 0 (by kernel_rfl) 113 rfl) (unhide HM2 w' hf)) rfl⟩
                        refine ⟨?_, ?_⟩
                        · intro a' w' hb hf hd
                          exact ⟨wanted_none rfl, ex_val (.int .i64 ((n : Nat) : Int)) (ex_move rfl ((hb.old 7 (by decide +kernel)).trans h7)) rfl⟩
                        refine ⟨?_, ?_⟩
                        · intro a' w' hb hf hd
                          exact ⟨wanted_none rfl, ex_val (.pointer (some ⟨Mb, 1, none⟩)) (ex_f24_1 rfl ((hb.old 6 (by decide +kernel)).trans h6)) rfl⟩
                        refine ⟨?_, ?_⟩
                        · intro a' w' hb hf hd
                          exact ⟨wanted_none rfl, ex_val (.int .i64 ((t : Nat) : Int)) (ex_load3 rfl (hd 3 (by kernel_rfl) 116 rfl) (unhide HM1 w' hf)) rfl⟩
                        refine ⟨?_, ?_⟩
                        · intro a' w' hb hf hd
                          exact ⟨wanted_none rfl, ex_val (.int .i64 ((n * t : Nat) : Int)) (ex_mulN rfl (hd 2 (by kernel_rfl) 115 rfl) (hd 4 (by kernel_rfl) 117 rfl) (bn)) rfl⟩
                        refine ⟨?_, ?_⟩
                        · intro a' w' hb hf hd
                          exact ⟨wanted_none rfl, ex_val (.int .i64 ((j : Nat) : Int)) (ex_move rfl ((hb.old 13 (by decide +kernel)).trans h13)) rfl⟩
                        refine ⟨?_, ?_⟩
                        · intro a' w' hb hf hd
                          exact ⟨wanted_none rfl, ex_val (.int .i64 ((n * t + j : Nat) : Int)) (ex_addN rfl (hd 5 (by kernel_rfl) 118 rfl) (hd 6 (by kernel_rfl) 119 rfl) (by omega)) rfl⟩
                        refine ⟨?_, ?_⟩
                        · intro a' w' hb hf hd
                          exact ⟨wanted_none rfl, ex_val (.int .u8 (((iv).toNat : Nat) : Int)) (ex_move rfl ((hb.old 11 (by decide +kernel)).trans h11)) rfl⟩
                        refine ⟨?_, ?_⟩
                        · intro a' w' hb hf hd
                          exact ⟨wanted_none rfl, ex_val (.agg #[.int .i64 ((rows : Nat) : Int), .int .i64 ((t : Nat) : Int), .slice (some ⟨q, 0, none⟩) (rows * t) cap]) (ex_load24 rfl ((hb.old 6 (by decide +kernel)).trans h6) (unhide HMR w' hf)) rfl⟩
                        refine ⟨?_, ?_⟩
                        · intro a' w' hb hf hd
                          exact ⟨wanted_none rfl, ex_val (.int .i64 ((n : Nat) : Int)) (ex_move rfl ((hb.old 7 (by decide +kernel)).trans h7)) rfl⟩
                        refine ⟨?_, ?_⟩
                        · intro a' w' hb hf hd
                          exact ⟨wanted_none rfl, ex_val (.int .i64 ((j : Nat) : Int)) (ex_move rfl ((hb.old 13 (by decide +kernel)).trans h13)) rfl⟩
                        refine ⟨?_, ?_⟩
                        · intro a' w' hb hf hd
                          exact ⟨wanted_none rfl, ex_call 73 _ (en_call3 rfl rfl (hd 9 (by kernel_rfl) 122 rfl) (hd 10 (by kernel_rfl) 123 rfl) (hd 11 (by kernel_rfl) 124 rfl) cfv73) ((rat_any w' rows t q (rows * t) cap n j y (flat_lt (by omega) (by omega)) (by omega) (unhide HQC w' hf)).mono (by rintro e w7 ⟨rfl, f7⟩; exact ⟨⟨_, rfl, rfl⟩, f7⟩))⟩
                        refine ⟨?_, ?_⟩
                        · intro a' w' hb hf hd
                          exact ⟨wanted_none rfl, ex_call 72 _ (en_call2 rfl rfl (hd 8 (by kernel_rfl) 121 rfl) (hd 12 (by kernel_rfl) 125 rfl) cfw72) ((rmul_any w' iv y).mono (by rintro e w7 ⟨rfl, rfl⟩; exact ⟨⟨_, rfl, rfl⟩, Fr.refl _ _⟩))⟩
                        refine ⟨?_, ?_⟩
                        · intro a' w' hb hf hd
                          exact ⟨wanted_none rfl, ex_val (.pointer (some ⟨q, n * t + j, none⟩)) (ex_idx0 rfl (hd 1 (by kernel_rfl) 114 rfl) (hd 7 (by kernel_rfl) 120 rfl) (b1)) rfl⟩
                        exact trivial
                      case last =>
                        intro a' w' hb hf hall
                        refine ⟨wanted_none rfl, wp_store5 rfl (hall 14 (by decide) 127 rfl) (hall 13 (by decide) 126 rfl) (unhide HQC w' hf) (unhide HQZ w' hf) ?_⟩
                        have e0_ : a'.tmps.getD 0 undef = a0.tmps.getD 0 undef := hb.old 0 (by decide +kernel)
                        have e1_ : a'.tmps.getD 1 undef = a0.tmps.getD 1 undef := hb.old 1 (by decide +kernel)
                        have e2_ : a'.tmps.getD 2 undef = a0.tmps.getD 2 undef := hb.old 2 (by decide +kernel)
                        have e3_ : a'.tmps.getD 3 undef = a0.tmps.getD 3 undef := hb.old 3 (by decide +kernel)
                        have e4_ : a'.tmps.getD 4 undef = a0.tmps.getD 4 undef := hb.old 4 (by decide +kernel)
                        have e5_ : a'.tmps.getD 5 undef = a0.tmps.getD 5 undef := hb.old 5 (by decide +kernel)
                        have e6_ : a'.tmps.getD 6 undef = .pointer (some ⟨Mb, 0, none⟩) := (hb.old 6 (by decide +kernel)).trans h6
                        have e7_ : a'.tmps.getD 7 undef = .int .i64 ((n : Nat) : Int) := (hb.old 7 (by decide +kernel)).trans h7
                        have e8_ : a'.tmps.getD 8 undef = a0.tmps.getD 8 undef := hb.old 8 (by decide +kernel)
                        have e9_ : a'.tmps.getD 9 undef = a0.tmps.getD 9 undef := hb.old 9 (by decide +kernel)
                        have e10_ : a'.tmps.getD 10 undef = a0.tmps.getD 10 undef := hb.old 10 (by decide +kernel)
                        have e11_ : a'.tmps.getD 11 undef = .int .u8 (((iv).toNat : Nat) : Int) := (hb.old 11 (by decide +kernel)).trans h11
                        have e12_ : a'.tmps.getD 12 undef = a0.tmps.getD 12 undef := hb.old 12 (by decide +kernel)
                        have e13_ : a'.tmps.getD 13 undef = .int .i64 ((j : Nat) : Int) := (hb.old 13 (by decide +kernel)).trans h13
                        have e14_ : a'.tmps.getD 14 undef = a0.tmps.getD 14 undef := hb.old 14 (by decide +kernel)
                        have e15_ : a'.tmps.getD 15 undef = a0.tmps.getD 15 undef := hb.old 15 (by decide +kernel)
                        have e16_ : a'.tmps.getD 16 undef = a0.tmps.getD 16 undef := hb.old 16 (by decide +kernel)
                        have e17_ : a'.tmps.getD 17 undef = a0.tmps.getD 17 undef := hb.old 17 (by decide +kernel)
                        have e18_ : a'.tmps.getD 18 undef = a0.tmps.getD 18 undef := hb.old 18 (by decide +kernel)
                        have e19_ : a'.tmps.getD 19 undef = a0.tmps.getD 19 undef := hb.old 19 (by decide +kernel)
                        have e20_ : a'.tmps.getD 20 undef = a0.tmps.getD 20 undef := hb.old 20 (by decide +kernel)
                        have e21_ : a'.tmps.getD 21 undef = a0.tmps.getD 21 undef := hb.old 21 (by decide +kernel)
                        have e22_ : a'.tmps.getD 22 undef = a0.tmps.getD 22 undef := hb.old 22 (by decide +kernel)
                        have e23_ : a'.tmps.getD 23 undef = a0.tmps.getD 23 undef := hb.old 23 (by decide +kernel)
                        have e24_ : a'.tmps.getD 24 undef = a0.tmps.getD 24 undef := hb.old 24 (by decide +kernel)
                        have e25_ : a'.tmps.getD 25 undef = a0.tmps.getD 25 undef := hb.old 25 (by decide +kernel)
                        have e26_ : a'.tmps.getD 26 undef = a0.tmps.getD 26 undef := hb.old 26 (by decide +kernel)
                        have e27_ : a'.tmps.getD 27 undef = a0.tmps.getD 27 undef := hb.old 27 (by decide +kernel)
                        have e28_ : a'.tmps.getD 28 undef = a0.tmps.getD 28 undef := hb.old 28 (by decide +kernel)
                        have e29_ : a'.tmps.getD 29 undef = a0.tmps.getD 29 undef := hb.old 29 (by decide +kernel)
                        have e30_ : a'.tmps.getD 30 undef = a0.tmps.getD 30 undef := hb.old 30 (by decide +kernel)
                        have e31_ : a'.tmps.getD 31 undef = a0.tmps.getD 31 undef := hb.old 31 (by decide +kernel)
                        have e32_ : a'.tmps.getD 32 undef = a0.tmps.getD 32 undef := hb.old 32 (by decide +kernel)
                        have e33_ : a'.tmps.getD 33 undef = a0.tmps.getD 33 undef := hb.old 33 (by decide +kernel)
                        have e34_ : a'.tmps.getD 34 undef = a0.tmps.getD 34 undef := hb.old 34 (by decide +kernel)
                        have e35_ : a'.tmps.getD 35 undef = a0.tmps.getD 35 undef := hb.old 35 (by decide +kernel)
                        have e36_ : a'.tmps.getD 36 undef = a0.tmps.getD 36 undef := hb.old 36 (by decide +kernel)
                        have e37_ : a'.tmps.getD 37 undef = a0.tmps.getD 37 undef := hb.old 37 (by decide +kernel)
                        have e38_ : a'.tmps.getD 38 undef = a0.tmps.getD 38 undef := hb.old 38 (by decide +kernel)
                        have e39_ : a'.tmps.getD 39 undef = a0.tmps.getD 39 undef := hb.old 39 (by decide +kernel)
                        have e40_ : a'.tmps.getD 40 undef = a0.tmps.getD 40 undef := hb.old 40 (by decide +kernel)
                        have e41_ : a'.tmps.getD 41 undef = a0.tmps.getD 41 undef := hb.old 41 (by decide +kernel)
                        have e42_ : a'.tmps.getD 42 undef = a0.tmps.getD 42 undef := hb.old 42 (by decide +kernel)
                        have e43_ : a'.tmps.getD 43 undef = a0.tmps.getD 43 undef := hb.old 43 (by decide +kernel)
                        have e44_ : a'.tmps.getD 44 undef = a0.tmps.getD 44 undef := hb.old 44 (by decide +kernel)
                        have e45_ : a'.tmps.getD 45 undef = a0.tmps.getD 45 undef := hb.old 45 (by decide +kernel)
                        have e46_ : a'.tmps.getD 46 undef = a0.tmps.getD 46 undef := hb.old 46 (by decide +kernel)
                        have e47_ : a'.tmps.getD 47 undef = a0.tmps.getD 47 undef := hb.old 47 (by decide +kernel)
                        have e48_ : a'.tmps.getD 48 undef = a0.tmps.getD 48 undef := hb.old 48 (by decide +kernel)
                        have e49_ : a'.tmps.getD 49 undef = a0.tmps.getD 49 undef := hb.old 49 (by decide +kernel)
                        have e50_ : a'.tmps.getD 50 undef = a0.tmps.getD 50 undef := hb.old 50 (by decide +kernel)
                        have e51_ : a'.tmps.getD 51 undef = a0.tmps.getD 51 undef := hb.old 51 (by decide +kernel)
                        have e52_ : a'.tmps.getD 52 undef = a0.tmps.getD 52 undef := hb.old 52 (by decide +kernel)
                        have e53_ : a'.tmps.getD 53 undef = a0.tmps.getD 53 undef := hb.old 53 (by decide +kernel)
                        have e54_ : a'.tmps.getD 54 undef = a0.tmps.getD 54 undef := hb.old 54 (by decide +kernel)
                        have e55_ : a'.tmps.getD 55 undef = a0.tmps.getD 55 undef := hb.old 55 (by decide +kernel)
                        have e56_ : a'.tmps.getD 56 undef = a0.tmps.getD 56 undef := hb.old 56 (by decide +kernel)
                        have e57_ : a'.tmps.getD 57 undef = a0.tmps.getD 57 undef := hb.old 57 (by decide +kernel)
                        have e58_ : a'.tmps.getD 58 undef = a0.tmps.getD 58 undef := hb.old 58 (by decide +kernel)
                        have e59_ : a'.tmps.getD 59 undef = a0.tmps.getD 59 undef := hb.old 59 (by decide +kernel)
                        have e60_ : a'.tmps.getD 60 undef = a0.tmps.getD 60 undef := hb.old 60 (by decide +kernel)
                        have e61_ : a'.tmps.getD 61 undef = a0.tmps.getD 61 undef := hb.old 61 (by decide +kernel)
                        have e62_ : a'.tmps.getD 62 undef = a0.tmps.getD 62 undef := hb.old 62 (by decide +kernel)
                        have e63_ : a'.tmps.getD 63 undef = a0.tmps.getD 63 undef := hb.old 63 (by decide +kernel)
                        have e64_ : a'.tmps.getD 64 undef = a0.tmps.getD 64 undef := hb.old 64 (by decide +kernel)
                        have e65_ : a'.tmps.getD 65 undef = a0.tmps.getD 65 undef := hb.old 65 (by decide +kernel)
                        have e66_ : a'.tmps.getD 66 undef = a0.tmps.getD 66 undef := hb.old 66 (by decide +kernel)
                        have e67_ : a'.tmps.getD 67 undef = a0.tmps.getD 67 undef := hb.old 67 (by decide +kernel)
                        have e68_ : a'.tmps.getD 68 undef = a0.tmps.getD 68 undef := hb.old 68 (by decide +kernel)
                        have e69_ : a'.tmps.getD 69 undef = a0.tmps.getD 69 undef := hb.old 69 (by decide +kernel)
                        have e70_ : a'.tmps.getD 70 undef = a0.tmps.getD 70 undef := hb.old 70 (by decide +kernel)
                        have e71_ : a'.tmps.getD 71 undef = a0.tmps.getD 71 undef := hb.old 71 (by decide +kernel)
                        have e72_ : a'.tmps.getD 72 undef = a0.tmps.getD 72 undef := hb.old 72 (by decide +kernel)
                        have e73_ : a'.tmps.getD 73 undef = a0.tmps.getD 73 undef := hb.old 73 (by decide +kernel)
                        have e74_ : a'.tmps.getD 74 undef = a0.tmps.getD 74 undef := hb.old 74 (by decide +kernel)
                        have e75_ : a'.tmps.getD 75 undef = a0.tmps.getD 75 undef := hb.old 75 (by decide +kernel)
                        have e76_ : a'.tmps.getD 76 undef = a0.tmps.getD 76 undef := hb.old 76 (by decide +kernel)
                        have e77_ : a'.tmps.getD 77 undef = a0.tmps.getD 77 undef := hb.old 77 (by decide +kernel)
                        have e78_ : a'.tmps.getD 78 undef = a0.tmps.getD 78 undef := hb.old 78 (by decide +kernel)
                        have e79_ : a'.tmps.getD 79 undef = a0.tmps.getD 79 undef := hb.old 79 (by decide +kernel)
                        have e80_ : a'.tmps.getD 80 undef = a0.tmps.getD 80 undef := hb.old 80 (by decide +kernel)
                        have e81_ : a'.tmps.getD 81 undef = a0.tmps.getD 81 undef := hb.old 81 (by decide +kernel)
                        have e82_ : a'.tmps.getD 82 undef = a0.tmps.getD 82 undef := hb.old 82 (by decide +kernel)
                        have e83_ : a'.tmps.getD 83 undef = a0.tmps.getD 83 undef := hb.old 83 (by decide +kernel)
                        have e84_ : a'.tmps.getD 84 undef = a0.tmps.getD 84 undef := hb.old 84 (by decide +kernel)
                        have e85_ : a'.tmps.getD 85 undef = a0.tmps.getD 85 undef := hb.old 85 (by decide +kernel)
                        have e86_ : a'.tmps.getD 86 undef = a0.tmps.getD 86 undef := hb.old 86 (by decide +kernel)
                        have e87_ : a'.tmps.getD 87 undef = a0.tmps.getD 87 undef := hb.old 87 (by decide +kernel)
                        have e88_ : a'.tmps.getD 88 undef = a0.tmps.getD 88 undef := hb.old 88 (by decide +kernel)
                        have e89_ : a'.tmps.getD 89 undef = a0.tmps.getD 89 undef := hb.old 89 (by decide +kernel)
                        have e90_ : a'.tmps.getD 90 undef = a0.tmps.getD 90 undef := hb.old 90 (by decide +kernel)
                        have e91_ : a'.tmps.getD 91 undef = a0.tmps.getD 91 undef := hb.old 91 (by decide +kernel)
                        have e92_ : a'.tmps.getD 92 undef = a0.tmps.getD 92 undef := hb.old 92 (by decide +kernel)
                        have e93_ : a'.tmps.getD 93 undef = a0.tmps.getD 93 undef := hb.old 93 (by decide +kernel)
                        have e94_ : a'.tmps.getD 94 undef = a0.tmps.getD 94 undef := hb.old 94 (by decide +kernel)
                        have e95_ : a'.tmps.getD 95 undef = a0.tmps.getD 95 undef := hb.old 95 (by decide +kernel)
                        have e96_ : a'.tmps.getD 96 undef = a0.tmps.getD 96 undef := hb.old 96 (by decide +kernel)
                        have e97_ : a'.tmps.getD 97 undef = a0.tmps.getD 97 undef := hb.old 97 (by decide +kernel)
                        have e98_ : a'.tmps.getD 98 undef = a0.tmps.getD 98 undef := hb.old 98 (by decide +kernel)
                        have e99_ : a'.tmps.getD 99 undef = a0.tmps.getD 99 undef := hb.old 99 (by decide +kernel)
                        have e100_ : a'.tmps.getD 100 undef = a0.tmps.getD 100 undef := hb.old 100 (by decide +kernel)
                        have e101_ : a'.tmps.getD 101 undef = a0.tmps.getD 101 undef := hb.old 101 (by decide +kernel)
                        have e102_ : a'.tmps.getD 102 undef = a0.tmps.getD 102 undef := hb.old 102 (by decide +kernel)
                        have e103_ : a'.tmps.getD 103 undef = a0.tmps.getD 103 undef := hb.old 103 (by decide +kernel)
                        have e104_ : a'.tmps.getD 104 undef = a0.tmps.getD 104 undef := hb.old 104 (by decide +kernel)
                        have e105_ : a'.tmps.getD 105 undef = a0.tmps.getD 105 undef := hb.old 105 (by decide +kernel)
                        have e106_ : a'.tmps.getD 106 undef = a0.tmps.getD 106 undef := hb.old 106 (by decide +kernel)
                        have e107_ : a'.tmps.getD 107 undef = a0.tmps.getD 107 undef := hb.old 107 (by decide +kernel)
                        have e108_ : a'.tmps.getD 108 undef = a0.tmps.getD 108 undef := hb.old 108 (by decide +kernel)
                        have e109_ : a'.tmps.getD 109 undef = a0.tmps.getD 109 undef := hb.old 109 (by decide +kernel)
                        have e110_ : a'.tmps.getD 110 undef = a0.tmps.getD 110 undef := hb.old 110 (by decide +kernel)
                        have e111_ : a'.tmps.getD 111 undef = a0.tmps.getD 111 undef := hb.old 111 (by decide +kernel)
                        have e112_ : a'.tmps.getD 112 undef = a0.tmps.getD 112 undef := hb.old 112 (by decide +kernel)
                        have e113_ : a'.tmps.getD 113 undef = .pointer (some ⟨Mb, 2, none⟩) := hall 0 (by decide) 113 rfl
                        have e114_ : a'.tmps.getD 114 undef = .slice (some ⟨q, 0, none⟩) (rows * t) cap := hall 1 (by decide) 114 rfl
                        have e115_ : a'.tmps.getD 115 undef = .int .i64 ((n : Nat) : Int) := hall 2 (by decide) 115 rfl
                        have e116_ : a'.tmps.getD 116 undef = .pointer (some ⟨Mb, 1, none⟩) := hall 3 (by decide) 116 rfl
                        have e117_ : a'.tmps.getD 117 undef = .int .i64 ((t : Nat) : Int) := hall 4 (by decide) 117 rfl
                        have e118_ : a'.tmps.getD 118 undef = .int .i64 ((n * t : Nat) : Int) := hall 5 (by decide) 118 rfl
                        have e119_ : a'.tmps.getD 119 undef = .int .i64 ((j : Nat) : Int) := hall 6 (by decide) 119 rfl
                        have e120_ : a'.tmps.getD 120 undef = .int .i64 ((n * t + j : Nat) : Int) := hall 7 (by decide) 120 rfl
                        have e121_ : a'.tmps.getD 121 undef = .int .u8 (((iv).toNat : Nat) : Int) := hall 8 (by decide) 121 rfl
                        have e122_ : a'.tmps.getD 122 undef = .agg #[.int .i64 ((rows : Nat) : Int), .int .i64 ((t : Nat) : Int), .slice (some ⟨q, 0, none⟩) (rows * t) cap] := hall 9 (by decide) 122 rfl
                        have e123_ : a'.tmps.getD 123 undef = .int .i64 ((n : Nat) : Int) := hall 10 (by decide) 123 rfl
                        have e124_ : a'.tmps.getD 124 undef = .int .i64 ((j : Nat) : Int) := hall 11 (by decide) 124 rfl
                        have e125_ : a'.tmps.getD 125 undef = .int .u8 (((y).toNat : Nat) : Int) := hall 12 (by decide) 125 rfl
                        have e126_ : a'.tmps.getD 126 undef = .int .u8 (((mul iv y).toNat : Nat) : Int) := hall 13 (by decide) 126 rfl
                        have e127_ : a'.tmps.getD 127 undef = .pointer (some ⟨q, n * t + j, none⟩) := hall 14 (by decide) 127 rfl
                        have e128_ : a'.tmps.getD 128 undef = a0.tmps.getD 128 undef := hb.old 128 (by decide +kernel)
                        have e129_ : a'.tmps.getD 129 undef = a0.tmps.getD 129 undef := hb.old 129 (by decide +kernel)
                        have e130_ : a'.tmps.getD 130 undef = a0.tmps.getD 130 undef := hb.old 130 (by decide +kernel)
                        have e131_ : a'.tmps.getD 131 undef = a0.tmps.getD 131 undef := hb.old 131 (by decide +kernel)
                        have e132_ : a'.tmps.getD 132 undef = a0.tmps.getD 132 undef := hb.old 132 (by decide +kernel)
                        have e133_ : a'.tmps.getD 133 undef = a0.tmps.getD 133 undef := hb.old 133 (by decide +kernel)
                        have e134_ : a'.tmps.getD 134 undef = a0.tmps.getD 134 undef := hb.old 134 (by decide +kernel)
                        have e135_ : a'.tmps.getD 135 undef = a0.tmps.getD 135 undef := hb.old 135 (by decide +kernel)
                        have e136_ : a'.tmps.getD 136 undef = a0.tmps.getD 136 undef := hb.old 136 (by decide +kernel)
                        have e137_ : a'.tmps.getD 137 undef = a0.tmps.getD 137 undef := hb.old 137 (by decide +kernel)
                        have e138_ : a'.tmps.getD 138 undef = a0.tmps.getD 138 undef := hb.old 138 (by decide +kernel)
                        have e139_ : a'.tmps.getD 139 undef = a0.tmps.getD 139 undef := hb.old 139 (by decide +kernel)
                        have e140_ : a'.tmps.getD 140 undef = a0.tmps.getD 140 undef := hb.old 140 (by decide +kernel)
                        have e141_ : a'.tmps.getD 141 undef = a0.tmps.getD 141 undef := hb.old 141 (by decide +kernel)
                        have e142_ : a'.tmps.getD 142 undef = a0.tmps.getD 142 undef := hb.old 142 (by decide +kernel)
                        have e143_ : a'.tmps.getD 143 undef = a0.tmps.getD 143 undef := hb.old 143 (by decide +kernel)
                        have e144_ : a'.tmps.getD 144 undef = a0.tmps.getD 144 undef := hb.old 144 (by decide +kernel)
                        have e145_ : a'.tmps.getD 145 undef = a0.tmps.getD 145 undef := hb.old 145 (by decide +kernel)
                        have e146_ : a'.tmps.getD 146 undef = a0.tmps.getD 146 undef := hb.old 146 (by decide +kernel)
                        have e147_ : a'.tmps.getD 147 undef = a0.tmps.getD 147 undef := hb.old 147 (by decide +kernel)
                        have e148_ : a'.tmps.getD 148 undef = a0.tmps.getD 148 undef := hb.old 148 (by decide +kernel)
                        have e149_ : a'.tmps.getD 149 undef = a0.tmps.getD 149 undef := hb.old 149 (by decide +kernel)
                        have e150_ : a'.tmps.getD 150 undef = a0.tmps.getD 150 undef := hb.old 150 (by decide +kernel)
                        have e151_ : a'.tmps.getD 151 undef = a0.tmps.getD 151 undef := hb.old 151 (by decide +kernel)
                        have e152_ : a'.tmps.getD 152 undef = a0.tmps.getD 152 undef := hb.old 152 (by decide +kernel)
                        have e153_ : a'.tmps.getD 153 undef = a0.tmps.getD 153 undef := hb.old 153 (by decide +kernel)
                        have e154_ : a'.tmps.getD 154 undef = a0.tmps.getD 154 undef := hb.old 154 (by decide +kernel)
                        have e155_ : a'.tmps.getD 155 undef = a0.tmps.getD 155 undef := hb.old 155 (by decide +kernel)
                        have e156_ : a'.tmps.getD 156 undef = a0.tmps.getD 156 undef := hb.old 156 (by decide +kernel)
                        have e157_ : a'.tmps.getD 157 undef = a0.tmps.getD 157 undef := hb.old 157 (by decide +kernel)
                        have e158_ : a'.tmps.getD 158 undef = a0.tmps.getD 158 undef := hb.old 158 (by decide +kernel)
                        have e159_ : a'.tmps.getD 159 undef = a0.tmps.getD 159 undef := hb.old 159 (by decide +kernel)
                        have e160_ : a'.tmps.getD 160 undef = a0.tmps.getD 160 undef := hb.old 160 (by decide +kernel)
                        have e161_ : a'.tmps.getD 161 undef = a0.tmps.getD 161 undef := hb.old 161 (by decide +kernel)
                        have e162_ : a'.tmps.getD 162 undef = a0.tmps.getD 162 undef := hb.old 162 (by decide +kernel)
                        have e163_ : a'.tmps.getD 163 undef = a0.tmps.getD 163 undef := hb.old 163 (by decide +kernel)
                        have e164_ : a'.tmps.getD 164 undef = a0.tmps.getD 164 undef := hb.old 164 (by decide +kernel)
                        have e165_ : a'.tmps.getD 165 undef = a0.tmps.getD 165 undef := hb.old 165 (by decide +kernel)
                        have e166_ : a'.tmps.getD 166 undef = a0.tmps.getD 166 undef := hb.old 166 (by decide +kernel)
                        have e167_ : a'.tmps.getD 167 undef = a0.tmps.getD 167 undef := hb.old 167 (by decide +kernel)
                        have e168_ : a'.tmps.getD 168 undef = a0.tmps.getD 168 undef := hb.old 168 (by decide +kernel)
                        have e169_ : a'.tmps.getD 169 undef = a0.tmps.getD 169 undef := hb.old 169 (by decide +kernel)
                        have e170_ : a'.tmps.getD 170 undef = a0.tmps.getD 170 undef := hb.old 170 (by decide +kernel)
                        have e171_ : a'.tmps.getD 171 undef = a0.tmps.getD 171 undef := hb.old 171 (by decide +kernel)
                        have e172_ : a'.tmps.getD 172 undef = a0.tmps.getD 172 undef := hb.old 172 (by decide +kernel)
                        have e173_ : a'.tmps.getD 173 undef = a0.tmps.getD 173 undef := hb.old 173 (by decide +kernel)
                        have e174_ : a'.tmps.getD 174 undef = a0.tmps.getD 174 undef := hb.old 174 (by decide +kernel)
                        have e175_ : a'.tmps.getD 175 undef = a0.tmps.getD 175 undef := hb.old 175 (by decide +kernel)
                        have e176_ : a'.tmps.getD 176 undef = a0.tmps.getD 176 undef := hb.old 176 (by decide +kernel)
                        have hfr := frame_eq (a := a') (vs := [a0.tmps.getD 0 undef, a0.tmps.getD 1 undef, a0.tmps.getD 2 undef, a0.tmps.getD 3 undef, a0.tmps.getD 4 undef, a0.tmps.getD 5 undef, .pointer (some ⟨Mb, 0, none⟩), .int .i64 ((n : Nat) : Int), a0.tmps.getD 8 undef, a0.tmps.getD 9 undef, a0.tmps.getD 10 undef, .int .u8 (((iv).toNat : Nat) : Int), a0.tmps.getD 12 undef, .int .i64 ((j : Nat) : Int), a0.tmps.getD 14 undef, a0.tmps.getD 15 undef, a0.tmps.getD 16 undef, a0.tmps.getD 17 undef, a0.tmps.getD 18 undef, a0.tmps.getD 19 undef, a0.tmps.getD 20 undef, a0.tmps.getD 21 undef, a0.tmps.getD 22 undef, a0.tmps.getD 23 undef, a0.tmps.getD 24 undef, a0.tmps.getD 25 undef, a0.tmps.getD 26 undef, a0.tmps.getD 27 undef, a0.tmps.getD 28 undef, a0.tmps.getD 29 undef, a0.tmps.getD 30 undef, a0.tmps.getD 31 undef, a0.tmps.getD 32 undef, a0.tmps.getD 33 undef, a0.tmps.getD 34 undef, a0.tmps.getD 35 undef, a0.tmps.getD 36 undef, a0.tmps.getD 37 undef, a0.tmps.getD 38 undef, a0.tmps.getD 39 undef, a0.tmps.getD 40 undef, a0.tmps.getD 41 undef, a0.tmps.getD 42 undef, a0.tmps.getD 43 undef, a0.tmps.getD 44 undef, a0.tmps.getD 45 undef, a0.tmps.getD 46 undef, a0.tmps.getD 47 undef, a0.tmps.getD 48 undef, a0.tmps.getD 49 undef, a0.tmps.getD 50 undef, a0.tmps.getD 51 undef, a0.tmps.getD 52 undef, a0.tmps.getD 53 undef, a0.tmps.getD 54 undef, a0.tmps.getD 55 undef, a0.tmps.getD 56 undef, a0.tmps.getD 57 undef, a0.tmps.getD 58 undef, a0.tmps.getD 59 undef, a0.tmps.getD 60 undef, a0.tmps.getD 61 undef, a0.tmps.getD 62 undef, a0.tmps.getD 63 undef, a0.tmps.getD 64 undef, a0.tmps.getD 65 undef, a0.tmps.getD 66 undef, a0.tmps.getD 67 undef, a0.tmps.getD 68 undef, a0.tmps.getD 69 undef, a0.tmps.getD 70 undef, a0.tmps.getD 71 undef, a0.tmps.getD 72 undef, a0.tmps.getD 73 undef, a0.tmps.getD 74 undef, a0.tmps.getD 75 undef, a0.tmps.getD 76 undef, a0.tmps.getD 77 undef, a0.tmps.getD 78 undef, a0.tmps.getD 79 undef, a0.tmps.getD 80 undef, a0.tmps.getD 81 undef, a0.tmps.getD 82 undef, a0.tmps.getD 83 undef, a0.tmps.getD 84 undef, a0.tmps.getD 85 undef, a0.tmps.getD 86 undef, a0.tmps.getD 87 undef, a0.tmps.getD 88 undef, a0.tmps.getD 89 undef, a0.tmps.getD 90 undef, a0.tmps.getD 91 undef, a0.tmps.getD 92 undef, a0.tmps.getD 93 undef, a0.tmps.getD 94 undef, a0.tmps.getD 95 undef, a0.tmps.getD 96 undef, a0.tmps.getD 97 undef, a0.tmps.getD 98 undef, a0.tmps.getD 99 undef, a0.tmps.getD 100 undef, a0.tmps.getD 101 undef, a0.tmps.getD 102 undef, a0.tmps.getD 103 undef, a0.tmps.getD 104 undef, a0.tmps.getD 105 undef, a0.tmps.getD 106 undef, a0.tmps.getD 107 undef, a0.tmps.getD 108 undef, a0.tmps.getD 109 undef, a0.tmps.getD 110 undef, a0.tmps.getD 111 undef, a0.tmps.getD 112 undef, .pointer (some ⟨Mb, 2, none⟩), .slice (some ⟨q, 0, none⟩) (rows * t) cap, .int .i64 ((n : Nat) : Int), .pointer (some ⟨Mb, 1, none⟩), .int .i64 ((t : Nat) : Int), .int .i64 ((n * t : Nat) : Int), .int .i64 ((j : Nat) : Int), .int .i64 ((n * t + j : Nat) : Int), .int .u8 (((iv).toNat : Nat) : Int), .agg #[.int .i64 ((rows : Nat) : Int), .int .i64 ((t : Nat) : Int), .slice (some ⟨q, 0, none⟩) (rows * t) cap], .int .i64 ((n : Nat) : Int), .int .i64 ((j : Nat) : Int), .int .u8 (((y).toNat : Nat) : Int), .int .u8 (((mul iv y).toNat : Nat) : Int), .pointer (some ⟨q, n * t + j, none⟩), a0.tmps.getD 128 undef, a0.tmps.getD 129 undef, a0.tmps.getD 130 undef, a0.tmps.getD 131 undef, a0.tmps.getD 132 undef, a0.tmps.getD 133 undef, a0.tmps.getD 134 undef, a0.tmps.getD 135 undef, a0.tmps.getD 136 undef, a0.tmps.getD 137 undef, a0.tmps.getD 138 undef, a0.tmps.getD 139 undef, a0.tmps.getD 140 undef, a0.tmps.getD 141 undef, a0.tmps.getD 142 undef, a0.tmps.getD 143 undef, a0.tmps.getD 144 undef, a0.tmps.getD 145 undef, a0.tmps.getD 146 undef, a0.tmps.getD 147 undef, a0.tmps.getD 148 undef, a0.tmps.getD 149 undef, a0.tmps.getD 150 undef, a0.tmps.getD 151 undef, a0.tmps.getD 152 undef, a0.tmps.getD 153 undef, a0.tmps.getD 154 undef, a0.tmps.getD 155 undef, a0.tmps.getD 156 undef, a0.tmps.getD 157 undef, a0.tmps.getD 158 undef, a0.tmps.getD 159 undef, a0.tmps.getD 160 undef, a0.tmps.getD 161 undef, a0.tmps.getD 162 undef, a0.tmps.getD 163 undef, a0.tmps.getD 164 undef, a0.tmps.getD 165 undef, a0.tmps.getD 166 undef, a0.tmps.getD 167 undef, a0.tmps.getD 168 undef, a0.tmps.getD 169 undef, a0.tmps.getD 170 undef, a0.tmps.getD 171 undef, a0.tmps.getD 172 undef, a0.tmps.getD 173 undef, a0.tmps.getD 174 undef, a0.tmps.getD 175 undef, a0.tmps.getD 176 undef]) (by rw [hb.size, hsz]; rfl) (by rw [hb.defers]; exact hdf) ⟨e0_, e1_, e2_, e3_, e4_, e5_, e6_, e7_, e8_, e9_, e10_, e11_, e12_, e13_, e14_, e15_, e16_, e17_, e18_, e19_, e20_, e21_, e22_, e23_, e24_, e25_, e26_, e27_, e28_, e29_, e30_, e31_, e32_, e33_, e34_, e35_, e36_, e37_, e38_, e39_, e40_, e41_, e42_, e43_, e44_, e45_, e46_, e47_, e48_, e49_, e50_, e51_, e52_, e53_, e54_, e55_, e56_, e57_, e58_, e59_, e60_, e61_, e62_, e63_, e64_, e65_, e66_, e67_, e68_, e69_, e70_, e71_, e72_, e73_, e74_, e75_, e76_, e77_, e78_, e79_, e80_, e81_, e82_, e83_, e84_, e85_, e86_, e87_, e88_, e89_, e90_, e91_, e92_, e93_, e94_, e95_, e96_, e97_, e98_, e99_, e100_, e101_, e102_, e103_, e104_, e105_, e106_, e107_, e108_, e109_, e110_, e111_, e112_, e113_, e114_, e115_, e116_, e117_, e118_, e119_, e120_, e121_, e122_, e123_, e124_, e125_, e126_, e127_, e128_, e129_, e130_, e131_, e132_, e133_, e134_, e135_, e136_, e137_, e138_, e139_, e140_, e141_, e142_, e143_, e144_, e145_, e146_, e147_, e148_, e149_, e150_, e151_, e152_, e153_, e154_, e155_, e156_, e157_, e158_, e159_, e160_, e161_, e162_, e163_, e164_, e165_, e166_, e167_, e168_, e169_, e170_, e171_, e172_, e173_, e174_, e175_, e176_, trivial⟩
                        have HFF := hide hf
                        clear hall hb hf e0_ e1_ e2_ e3_ e4_ e5_ e6_ e7_ e8_ e9_ e10_ e11_ e12_ e13_ e14_ e15_ e16_ e17_ e18_ e19_ e20_ e21_ e22_ e23_ e24_ e25_ e26_ e27_ e28_ e29_ e30_ e31_ e32_ e33_ e34_ e35_ e36_ e37_ e38_ e39_ e40_ e41_ e42_ e43_ e44_ e45_ e46_ e47_ e48_ e49_ e50_ e51_ e52_ e53_ e54_ e55_ e56_ e57_ e58_ e59_ e60_ e61_ e62_ e63_ e64_ e65_ e66_ e67_ e68_ e69_ e70_ e71_ e72_ e73_ e74_ e75_ e76_ e77_ e78_ e79_ e80_ e81_ e82_ e83_ e84_ e85_ e86_ e87_ e88_ e89_ e90_ e91_ e92_ e93_ e94_ e95_ e96_ e97_ e98_ e99_ e100_ e101_ e102_ e103_ e104_ e105_ e106_ e107_ e108_ e109_ e110_ e111_ e112_ e113_ e114_ e115_ e116_ e117_ e118_ e119_ e120_ e121_ e122_ e123_ e124_ e125_ e126_ e127_ e128_ e129_ e130_ e131_ e132_ e133_ e134_ e135_ e136_ e137_ e138_ e139_ e140_ e141_ e142_ e143_ e144_ e145_ e146_ e147_ e148_ e149_ e150_ e151_ e152_ e153_ e154_ e155_ e156_ e157_ e158_ e159_ e160_ e161_ e162_ e163_ e164_ e165_ e166_ e167_ e168_ e169_ e170_ e171_ e172_ e173_ e174_ e175_ e176_ h6 h7 h11 h13
                        subst hfr
                        rw [unhide HA0]
                        clear HA0 hsz hdf
                        apply_assumption
                        go_wp2_with fail
                        go_roundw
                        case rel =>
                          have hX' := ((unhide HX).keptF (unhide HFF)).set n j (mul iv y) hnr2 hjc
                          rw [unhide HSTEP] at hX'
                          refine ⟨j + 1, by omega, by go_num, hX', ((unhide HZ).kept (unhide HFF) id).kept (S := fun k => k = q) ((Fr.refl (fun k => k = q) _).setCell (p := ⟨q, n * t + j, none⟩) (fun _ => rfl) _) (by omega), ((unhide HF).trans (unhide HFF) (fun _ _ h => h)).setCell (p := ⟨q, n * t + j, none⟩) (fun h' => by simp at h'; omega) _⟩
                        case measure => simp [intOf]; omega
                    · have hje : j = t := by omega
                      subst hje
                      have hji : ¬ (j : Int) < (j : Int) := by omega
                      obtain ⟨F2, hF2⟩ : ∃ F2, F2 = scK F1 n iv j := ⟨_, rfl⟩
                      rw [← hF2] at HX
                      have HF2 := hide hF2
                      clear hX hF2
                      go_wp2_with fail
                      go_loopw [14] (fun y w' => ∃ u : Nat, u ≤ rows ∧ y = .int .i64 (u : Int) ∧ XAt w' Mb q rows j cap (clK F2 n k u) ∧ Z3 w' (w.heap.size + 1) ∧ Fr (fun _ => False) w w') (fun y _ => rows - (intOf y).toNat)
                      case atStart => exact ⟨0, Nat.zero_le _, rfl, by rw [clK_zero]; exact unhide HX, unhide HZ, unhide HF⟩
                      case round =>
                        clear m0 m1 m2 HX HZ HF
                        obtain ⟨u, hu, rfl, hX, hZ, hF⟩ := hrel
                        have hX0 := hX.facts wr (Fr.refl _ _)
                        have m0 := hX0.1
                        have m1 := hX0.2.1
                        have m2 := hX0.2.2.1
                        have HX := hide hX
                        have HZ := hide hZ
                        have HF := hide hF
                        clear hZ hF hX0
                        by_cases hur : u < rows
                        · have hui : (u : Int) < (rows : Int) := by omega
                          have hcx := (hX.cell u k hur (by omega)).1
                          rw [clK_self] at hcx
                          obtain ⟨y, hy⟩ : ∃ y, y = F2 u k := ⟨_, rfl⟩
                          rw [← hy] at hcx
                          have HAT3 := hide (rat_any wr rows j q (rows * j) cap u k y (flat_lt hur (by omega)) (by omega) hcx)
                          have HY := hide hy
                          clear hX hcx hy
                          go_wp2_with fail
                          refine (unhide HAT3).mono ?_
                          rintro e w4 ⟨rfl, f4⟩
                          have HX4 := hide ((unhide HX).keptF f4)
                          have HZ4 := hide ((unhide HZ).kept f4 id)
                          have HF4 := hide ((unhide HF).trans f4 (fun _ _ h => h))
                          have hX0 := (unhide HX4).facts w4 (Fr.refl _ _)
                          have m0 := hX0.1
                          have m1 := hX0.2.1
                          have m2 := hX0.2.2.1
                          obtain ⟨G, hG⟩ : ∃ G, G = clK F2 n k u := ⟨_, rfl⟩
                          rw [← hG] at HX4
                          have HG := hide hG
                          clear f4 HX HZ HF HAT3 hX0 hG
                          go_wp2_with fail
                          go_loopw [16] (fun z w' => ∃ v : Nat, v ≤ j ∧ (v = 0 ∨ (u ≠ n ∧ y ≠ 0)) ∧ z = .int .i64 (v : Int) ∧ XAt w' Mb q rows j cap (adK G n u y v) ∧ Z3 w' (w.heap.size + 1) ∧ Fr (fun _ => False) w w') (fun z _ => j - (intOf z).toNat)
                          case atStart => exact ⟨0, Nat.zero_le _, .inl rfl, rfl, by rw [adK_zero]; exact unhide HX4, unhide HZ4, unhide HF4⟩
                          case round =>
                            clear m0 m1 m2 HX4 HZ4 HF4
                            obtain ⟨v, hv, hv0, rfl, hX, hZ, hF⟩ := hrel
                            have hX0 := hX.facts wr (Fr.refl _ _)
                            have m0 := hX0.1
                            have m1 := hX0.2.1
                            have m2 := hX0.2.2.1
                            have HX := hide hX
                            have HZ := hide hZ
                            have HF := hide hF
                            clear hZ hF hX0
                            by_cases hskip : u = n ∨ y = 0
                            · have hv00 : v = 0 := by
                                rcases hv0 with h | h
                                · exact h
                                · rcases hskip with h' | h'
                                  · exact absurd h' h.1
                                  · exact absurd h' h.2
                              subst hv00
                              have HSK := hide hskip
                              have HE : Hid (XAt wr Mb q rows j cap (clK F2 n k (u + 1))) := hide (by
                                have h := unhide HX
                                rw [adK_zero, unhide HG] at h
                                rw [clK_skip F2 n k u (by rcases unhide HSK with h' | h'; exact .inl h'; exact .inr ((unhide HY).symm.trans h'))]
                                exact h)
                              have hji0 : (0 : Int) < (j : Int) := by omega
                              clear hX hv0 HSK
                              by_cases hun : u = n
                              · have c1 : ((u : Int) != (n : Int)) = false := by rw [hun]; simp
                                go_wp2_with fail
                                go_roundw
                                case rel => exact ⟨u + 1, by omega, by go_num, unhide HE, unhide HZ, unhide HF⟩
                                case measure => simp [intOf]; omega
                              · have c1 : ((u : Int) != (n : Int)) = true := bne_iff_ne.2 (by omega)
                                have hy0 : y = 0 := by rcases hskip with h | h; exact absurd h hun; exact h
                                have c2 : (((y.toNat : Nat) : Int) != 0) = false := by rw [hy0]; rfl
                                have c3 : ((y.toNat : Nat) : Int) = 0 := by rw [hy0]; rfl
                                go_wp2_with fail
                                go_roundw
                                case rel => exact ⟨u + 1, by omega, by go_num, unhide HE, unhide HZ, unhide HF⟩
                                case measure => simp [intOf]; omega
                            · have hun : u ≠ n := fun h => hskip (.inl h)
                              have hy0 : y ≠ 0 := fun h => hskip (.inr h)
                              have c1 : ((u : Int) != (n : Int)) = true := bne_iff_ne.2 (by omega)
                              have hy1 : ¬ (((y.toNat : Nat) : Int) = 0) := fun h => hy0 (UInt8.toNat_inj.1 (by simpa using h))
                              have c2 : (((y.toNat : Nat) : Int) != 0) = true := bne_iff_ne.2 hy1
                              by_cases hvj : v < j
                              · have hvi : (v : Int) < (j : Int) := by omega
                                have b1 := flat_lt (c := v) hur hvj
                                have bu : u * j ≤ 1000000 := by omega
                                have hcu := hX.cell u v hur hvj
                                have hcn := hX.cell n v (by omega) hvj
                                rw [adK_at] at hcu
                                rw [adK_nat G n u y v hun] at hcn
                                obtain ⟨yu, hyu⟩ : ∃ yu, yu = G u v := ⟨_, rfl⟩
                                obtain ⟨yn, hyn⟩ : ∃ yn, yn = G n v := ⟨_, rfl⟩
                                rw [← hyu] at hcu
                                rw [← hyn] at hcn
                                have HSTEP := hide (adK_step G n u y v)
                                rw [← hyu, ← hyn] at HSTEP
                                have HM0 := hide (fun W (f : Fr (fun _ => False) wr W) => ((unhide HX).facts W f).1)
                                have HM1 := hide (fun W (f : Fr (fun _ => False) wr W) => ((unhide HX).facts W f).2.1)
                                have HM2 := hide (fun W (f : Fr (fun _ => False) wr W) => ((unhide HX).facts W f).2.2.1)
                                have HMR := hide (fun W (f : Fr (fun _ => False) wr W) => ((unhide HX).facts W f).2.2.2)
                                have HQU := hide (fun W (f : Fr (fun _ => False) wr W) => (f.cell (a := ⟨q, u * j + v, none⟩) hcu.2.2 id).trans hcu.1)
                                have HQN := hide (fun W (f : Fr (fun _ => False) wr W) => (f.cell (a := ⟨q, n * j + v, none⟩) hcn.2.2 id).trans hcn.1)
                                have HQZ := hide (fun W (f : Fr (fun _ => False) wr W) => (f.frozen (a := ⟨q, u * j + v, none⟩) hcu.2.2 id).trans hcu.2.1)
                                have hnr2 : n < rows := by omega
                                clear hX hyu hyn hcu hcn
                                go_wp2_with fail
                                clear m0 m1 m2 c1 c2
                                refine wp_name' ?_
                                intro a0 hA
                                have h6 : a0.tmps.getD 6 undef = .pointer (some ⟨Mb, 0, none⟩) := by rw [hA]; rfl
                                have h7 : a0.tmps.getD 7 undef = .int .i64 ((n : Nat) : Int) := by rw [hA]; rfl
                                have h14 : a0.tmps.getD 14 undef = .int .i64 ((u : Nat) : Int) := by rw [hA]; rfl
                                have h15 : a0.tmps.getD 15 undef = .int .u8 (((y).toNat : Nat) : Int) := by rw [hA]; rfl
                                have h16 : a0.tmps.getD 16 undef = .int .i64 ((v : Nat) : Int) := by rw [hA]; rfl
                                have hsz : a0.tmps.size = 177 := by rw [hA]; rfl
                                have hdf : a0.defers = [] := by rw [hA]
                                have HA0 := hide hA
                                clear hA
                                refine wp_region_last (by kernel_rfl) (by kernel_rfl) (by kernel_rfl) (by decide +kernel) (by rw [hsz]; decide +kernel) _ rfl (Tk [.eq (.pointer (some ⟨Mb, 2, none⟩)), .eq (.slice (some ⟨q, 0, none⟩) (rows * j) cap), .eq (.int .i64 ((u : Nat) : Int)), .eq (.pointer (some ⟨Mb, 1, none⟩)), .eq (.int .i64 ((j : Nat) : Int)), .eq (.int .i64 ((u * j : Nat) : Int)), .eq (.int .i64 ((v : Nat) : Int)), .eq (.int .i64 ((u * j + v : Nat) : Int)), .eq (.agg #[.int .i64 ((rows : Nat) : Int), .int .i64 ((j : Nat) : Int), .slice (some ⟨q, 0, none⟩) (rows * j) cap]), .eq (.int .i64 ((u : Nat) : Int)), .eq (.int .i64 ((v : Nat) : Int)), .eq (.int .u8 (((yu).toNat : Nat) : Int)), .eq (.int .u8 (((y).toNat : Nat) : Int)), .eq (.agg #[.int .i64 ((rows : Nat) : Int), .int .i64 ((j : Nat) : Int), .slice (some ⟨q, 0, none⟩) (rows * j) cap]), .eq (.int .i64 ((n : Nat) : Int)), .eq (.int .i64 ((v : Nat) : Int)), .eq (.int .u8 (((yn).toNat : Nat) : Int)), .eq (.int .u8 (((mul y yn).toNat : Nat) : Int)), .eq (.int .u8 (((yu ^^^ mul y yn).toNat : Nat) : Int)), .eq (.pointer (some ⟨q, u * j + v, none⟩))]) (Tk.mono _) ?steps ?last
                                case steps =>
                                  refine ⟨?_, ?_⟩
                                  · intro a' w' hb hf hd
                                    exact ⟨wanted_none rfl, ex_val (.pointer (some ⟨Mb, 2, none⟩)) (ex_f24_2 rfl ((hb.old 6 (by decide +kernel)).trans h6)) rfl⟩
                                  refine ⟨?_, ?_⟩
                                  · intro a' w' hb hf hd
                                    exact ⟨wanted_none rfl, ex_val (.slice (some ⟨q, 0, none⟩) (rows * j) cap) (ex_load22 rfl (hd 0 (by kernel_rfl) 153 rfl) (unhide HM2 w' hf)) rfl⟩
                                  refine ⟨?_, ?_⟩
                                  · intro a' w' hb hf hd
                                    exact ⟨wanted_none rfl, ex_val (.int .i64 ((u : Nat) : Int)) (ex_move rfl ((hb.old 14 (by decide +kernel)).trans h14)) rfl⟩
                                  refine ⟨?_, ?_⟩
                                  · intro a' w' hb hf hd
                                    exact ⟨wanted_none rfl, ex_val (.pointer (some ⟨Mb, 1, none⟩)) (ex_f24_1 rfl ((hb.old 6 (by decide +kernel)).trans h6)) rfl⟩
                                  refine ⟨?_, ?_⟩
                                  · intro a' w' hb hf hd
                                    exact ⟨wanted_none rfl, ex_val (.int .i64 ((j : Nat) : Int)) (ex_load3 rfl (hd 3 (by kernel_rfl) 156 rfl) (unhide HM1 w' hf)) rfl⟩
                                  refine ⟨?_, ?_⟩
                                  · intro a' w' hb hf hd
                                    exact ⟨wanted_none rfl, ex_val (.int .i64 ((u * j : Nat) : Int)) (ex_mulN rfl (hd 2 (by kernel_rfl) 155 rfl) (hd 4 (by kernel_rfl) 157 rfl) (bu)) rfl⟩
                                  refine ⟨?_, ?_⟩
                                  · intro a' w' hb hf hd
                                    exact ⟨wanted_none rfl, ex_val (.int .i64 ((v : Nat) : Int)) (ex_move rfl ((hb.old 16 (by decide +kernel)).trans h16)) rfl⟩
                                  refine ⟨?_, ?_⟩
                                  · intro a' w' hb hf hd
                                    exact ⟨wanted_none rfl, ex_val (.int .i64 ((u * j + v : Nat) : Int)) (ex_addN rfl (hd 5 (by kernel_rfl) 158 rfl) (hd 6 (by kernel_rfl) 159 rfl) (by omega)) rfl⟩
                                  refine ⟨?_, ?_⟩
                                  · intro a' w' hb hf hd
                                    exact ⟨wanted_none rfl, ex_val (.agg #[.int .i64 ((rows : Nat) : Int), .int .i64 ((j : Nat) : Int), .slice (some ⟨q, 0, none⟩) (rows * j) cap]) (ex_load24 rfl ((hb.old 6 (by decide +kernel)).trans h6) (unhide HMR w' hf)) rfl⟩
                                  refine ⟨?_, ?_⟩
                                  · intro a' w' hb hf hd
                                    exact ⟨wanted_none rfl, ex_val (.int .i64 ((u : Nat) : Int)) (ex_move rfl ((hb.old 14 (by decide +kernel)).trans h14)) rfl⟩
                                  refine ⟨?_, ?_⟩
                                  · intro a' w' hb hf hd
                                    exact ⟨wanted_none rfl, ex_val (.int .i64 ((v : Nat) : Int)) (ex_move rfl ((hb.old 16 (by decide +kernel)).trans h16)) rfl⟩
                                  refine ⟨?_, ?_⟩
                                  · intro a' w' hb hf hd
                                    exact ⟨wanted_none rfl, ex_call 73 _ (en_call3 rfl rfl (hd 8 (by kernel_rfl) 161 rfl) (hd 9 (by kernel_rfl) 162 rfl) (hd 10 (by kernel_rfl) 163 rfl) cfv73) ((rat_any w' rows j q (rows * j) cap u v yu (flat_lt (by omega) (by omega)) (by omega) (unhide HQU w' hf)).mono (by rintro e w7 ⟨rfl, f7⟩; exact ⟨⟨_, rfl, rfl⟩, f7⟩))⟩
                                  refine ⟨?_, ?_⟩
                                  · intro a' w' hb hf hd
                                    exact ⟨wanted_none rfl, ex_val (.int .u8 (((y).toNat : Nat) : Int)) (ex_move rfl ((hb.old 15 (by decide +kernel)).trans h15)) rfl⟩
                                  refine ⟨?_, ?_⟩
                                  · intro a' w' hb hf hd
                                    exact ⟨wanted_none rfl, ex_val (.agg #[.int .i64 ((rows : Nat) : Int), .int .i64 ((j : Nat) : Int), .slice (some ⟨q, 0, none⟩) (rows * j) cap]) (ex_load24 rfl ((hb.old 6 (by decide +kernel)).trans h6) (unhide HMR w' hf)) rfl⟩
                                  refine ⟨?_, ?_⟩
                                  · intro a' w' hb hf hd
                                    exact ⟨wanted_none rfl, ex_val (.int .i64 ((n : Nat) : Int)) (ex_move rfl ((hb.old 7 (by decide +kernel)).trans h7)) rfl⟩
                                  refine ⟨?_, ?_⟩
                                  · intro a' w' hb hf hd
                                    exact ⟨wanted_none rfl, ex_val (.int .i64 ((v : Nat) : Int)) (ex_move rfl ((hb.old 16 (by decide +kernel)).trans h16)) rfl⟩
                                  refine ⟨?_, ?_⟩
                                  · intro a' w' hb hf hd
                                    exact ⟨wanted_none rfl, ex_call 73 _ (en_call3 rfl rfl (hd 13 (by kernel_rfl) 166 rfl) (hd 14 (by kernel_rfl) 167 rfl) (hd 15 (by kernel_rfl) 168 rfl) cfv73) ((rat_any w' rows j q (rows * j) cap n v yn (flat_lt (by omega) (by omega)) (by omega) (unhide HQN w' hf)).mono (by rintro e w7 ⟨rfl, f7⟩; exact ⟨⟨_, rfl, rfl⟩, f7⟩))⟩
                                  refine ⟨?_, ?_⟩
                                  · intro a' w' hb hf hd
                                    exact ⟨wanted_none rfl, ex_call 72 _ (en_call2 rfl rfl (hd 12 (by kernel_rfl) 165 rfl) (hd 16 (by kernel_rfl) 169 rfl) cfw72) ((rmul_any w' y yn).mono (by rintro e w7 ⟨rfl, rfl⟩; exact ⟨⟨_, rfl, rfl⟩, Fr.refl _ _⟩))⟩
                                  refine ⟨?_, ?_⟩
                                  · intro a' w' hb hf hd
                                    exact ⟨wanted_none rfl, ex_val (.int .u8 (((yu ^^^ mul y yn).toNat : Nat) : Int)) (ex_xor5 rfl (hd 11 (by kernel_rfl) 164 rfl) (hd 17 (by kernel_rfl) 170 rfl)) rfl⟩
                                  refine ⟨?_, ?_⟩
                                  · intro a' w' hb hf hd
                                    exact ⟨wanted_none rfl, ex_val (.pointer (some ⟨q, u * j + v, none⟩)) (ex_idx0 rfl (hd 1 (by kernel_rfl) 154 rfl) (hd 7 (by kernel_rfl) 160 rfl) (b1)) rfl⟩
                                  exact trivial
                                case last =>
                                  intro a' w' hb hf hall
                                  refine ⟨wanted_none rfl, wp_store5 rfl (hall 19 (by decide) 172 rfl) (hall 18 (by decide) 171 rfl) (unhide HQU w' hf) (unhide HQZ w' hf) ?_⟩
                                  have e0_ : a'.tmps.getD 0 undef = a0.tmps.getD 0 undef := hb.old 0 (by decide +kernel)
                                  have e1_ : a'.tmps.getD 1 undef = a0.tmps.getD 1 undef := hb.old 1 (by decide +kernel)
                                  have e2_ : a'.tmps.getD 2 undef = a0.tmps.getD 2 undef := hb.old 2 (by decide +kernel)
                                  have e3_ : a'.tmps.getD 3 undef = a0.tmps.getD 3 undef := hb.old 3 (by decide +kernel)
                                  have e4_ : a'.tmps.getD 4 undef = a0.tmps.getD 4 undef := hb.old 4 (by decide +kernel)
                                  have e5_ : a'.tmps.getD 5 undef = a0.tmps.getD 5 undef := hb.old 5 (by decide +kernel)
                                  have e6_ : a'.tmps.getD 6 undef = .pointer (some ⟨Mb, 0, none⟩) := (hb.old 6 (by decide +kernel)).trans h6
                                  have e7_ : a'.tmps.getD 7 undef = .int .i64 ((n : Nat) : Int) := (hb.old 7 (by decide +kernel)).trans h7
                                  have e8_ : a'.tmps.getD 8 undef = a0.tmps.getD 8 undef := hb.old 8 (by decide +kernel)
                                  have e9_ : a'.tmps.getD 9 undef = a0.tmps.getD 9 undef := hb.old 9 (by decide +kernel)
                                  have e10_ : a'.tmps.getD 10 undef = a0.tmps.getD 10 undef := hb.old 10 (by decide +kernel)
                                  have e11_ : a'.tmps.getD 11 undef = a0.tmps.getD 11 undef := hb.old 11 (by decide +kernel)
                                  have e12_ : a'.tmps.getD 12 undef = a0.tmps.getD 12 undef := hb.old 12 (by decide +kernel)
                                  have e13_ : a'.tmps.getD 13 undef = a0.tmps.getD 13 undef := hb.old 13 (by decide +kernel)
                                  have e14_ : a'.tmps.getD 14 undef = .int .i64 ((u : Nat) : Int) := (hb.old 14 (by decide +kernel)).trans h14
                                  have e15_ : a'.tmps.getD 15 undef = .int .u8 (((y).toNat : Nat) : Int) := (hb.old 15 (by decide +kernel)).trans h15
                                  have e16_ : a'.tmps.getD 16 undef = .int .i64 ((v : Nat) : Int) := (hb.old 16 (by decide +kernel)).trans h16
                                  have e17_ : a'.tmps.getD 17 undef = a0.tmps.getD 17 undef := hb.old 17 (by decide +kernel)
                                  have e18_ : a'.tmps.getD 18 undef = a0.tmps.getD 18 undef := hb.old 18 (by decide +kernel)
                                  have e19_ : a'.tmps.getD 19 undef = a0.tmps.getD 19 undef := hb.old 19 (by decide +kernel)
                                  have e20_ : a'.tmps.getD 20 undef = a0.tmps.getD 20 undef := hb.old 20 (by decide +kernel)
                                  have e21_ : a'.tmps.getD 21 undef = a0.tmps.getD 21 undef := hb.old 21 (by decide +kernel)
                                  have e22_ : a'.tmps.getD 22 undef = a0.tmps.getD 22 undef := hb.old 22 (by decide +kernel)
                                  have e23_ : a'.tmps.getD 23 undef = a0.tmps.getD 23 undef := hb.old 23 (by decide +kernel)
                                  have e24_ : a'.tmps.getD 24 undef = a0.tmps.getD 24 undef := hb.old 24 (by decide +kernel)
                                  have e25_ : a'.tmps.getD 25 undef = a0.tmps.getD 25 undef := hb.old 25 (by decide +kernel)
                                  have e26_ : a'.tmps.getD 26 undef = a0.tmps.getD 26 undef := hb.old 26 (by decide +kernel)
                                  have e27_ : a'.tmps.getD 27 undef = a0.tmps.getD 27 undef := hb.old 27 (by decide +kernel)
                                  have e28_ : a'.tmps.getD 28 undef = a0.tmps.getD 28 undef := hb.old 28 (by decide +kernel)
                                  have e29_ : a'.tmps.getD 29 undef = a0.tmps.getD 29 undef := hb.old 29 (by decide +kernel)
                                  have e30_ : a'.tmps.getD 30 undef = a0.tmps.getD 30 undef := hb.old 30 (by decide +kernel)
                                  have e31_ : a'.tmps.getD 31 undef = a0.tmps.getD 31 undef := hb.old 31 (by decide +kernel)
                                  have e32_ : a'.tmps.getD 32 undef = a0.tmps.getD 32 undef := hb.old 32 (by decide +kernel)
                                  have e33_ : a'.tmps.getD 33 undef = a0.tmps.getD 33 undef := hb.old 33 (by decide +kernel)
                                  have e34_ : a'.tmps.getD 34 undef = a0.tmps.getD 34 undef := hb.old 34 (by decide +kernel)
                                  have e35_ : a'.tmps.getD 35 undef = a0.tmps.getD 35 undef := hb.old 35 (by decide +kernel)
                                  have e36_ : a'.tmps.getD 36 undef = a0.tmps.getD 36 undef := hb.old 36 (by decide +kernel)
                                  have e37_ : a'.tmps.getD 37 undef = a0.tmps.getD 37 undef := hb.old 37 (by decide +kernel)
                                  have e38_ : a'.tmps.getD 38 undef = a0.tmps.getD 38 undef := hb.old 38 (by decide +kernel)
                                  have e39_ : a'.tmps.getD 39 undef = a0.tmps.getD 39 undef := hb.old 39 (by decide +kernel)
                                  have e40_ : a'.tmps.getD 40 undef = a0.tmps.getD 40 undef := hb.old 40 (by decide +kernel)
                                  have e41_ : a'.tmps.getD 41 undef = a0.tmps.getD 41 undef := hb.old 41 (by decide +kernel)
                                  have e42_ : a'.tmps.getD 42 undef = a0.tmps.getD 42 undef := hb.old 42 (by decide +kernel)
                                  have e43_ : a'.tmps.getD 43 undef = a0.tmps.getD 43 undef := hb.old 43 (by decide +kernel)
                                  have e44_ : a'.tmps.getD 44 undef = a0.tmps.getD 44 undef := hb.old 44 (by decide +kernel)
                                  have e45_ : a'.tmps.getD 45 undef = a0.tmps.getD 45 undef := hb.old 45 (by decide +kernel)
                                  have e46_ : a'.tmps.getD 46 undef = a0.tmps.getD 46 undef := hb.old 46 (by decide +kernel)
                                  have e47_ : a'.tmps.getD 47 undef = a0.tmps.getD 47 undef := hb.old 47 (by decide +kernel)
                                  have e48_ : a'.tmps.getD 48 undef = a0.tmps.getD 48 undef := hb.old 48 (by decide +kernel)
                                  have e49_ : a'.tmps.getD 49 undef = a0.tmps.getD 49 undef := hb.old 49 (by decide +kernel)
                                  have e50_ : a'.tmps.getD 50 undef = a0.tmps.getD 50 undef := hb.old 50 (by decide +kernel)
                                  have e51_ : a'.tmps.getD 51 undef = a0.tmps.getD 51 undef := hb.old 51 (by decide +kernel)
                                  have e52_ : a'.tmps.getD 52 undef = a0.tmps.getD 52 undef := hb.old 52 (by decide +kernel)
                                  have e53_ : a'.tmps.getD 53 undef = a0.tmps.getD 53 undef := hb.old 53 (by decide +kernel)
                                  have e54_ : a'.tmps.getD 54 undef = a0.tmps.getD 54 undef := hb.old 54 (by decide +kernel)
                                  have e55_ : a'.tmps.getD 55 undef = a0.tmps.getD 55 undef := hb.old 55 (by decide +kernel)
                                  have e56_ : a'.tmps.getD 56 undef = a0.tmps.getD 56 undef := hb.old 56 (by decide +kernel)
                                  have e57_ : a'.tmps.getD 57 undef = a0.tmps.getD 57 undef := hb.old 57 (by decide +kernel)
                                  have e58_ : a'.tmps.getD 58 undef = a0.tmps.getD 58 undef := hb.old 58 (by decide +kernel)
                                  have e59_ : a'.tmps.getD 59 undef = a0.tmps.getD 59 undef := hb.old 59 (by decide +kernel)
                                  have e60_ : a'.tmps.getD 60 undef = a0.tmps.getD 60 undef := hb.old 60 (by decide +kernel)
                                  have e61_ : a'.tmps.getD 61 undef = a0.tmps.getD 61 undef := hb.old 61 (by decide +kernel)
                                  have e62_ : a'.tmps.getD 62 undef = a0.tmps.getD 62 undef := hb.old 62 (by decide +kernel)
                                  have e63_ : a'.tmps.getD 63 undef = a0.tmps.getD 63 undef := hb.old 63 (by decide +kernel)
                                  have e64_ : a'.tmps.getD 64 undef = a0.tmps.getD 64 undef := hb.old 64 (by decide +kernel)
                                  have e65_ : a'.tmps.getD 65 undef = a0.tmps.getD 65 undef := hb.old 65 (by decide +kernel)
                                  have e66_ : a'.tmps.getD 66 undef = a0.tmps.getD 66 undef := hb.old 66 (by decide +kernel)
                                  have e67_ : a'.tmps.getD 67 undef = a0.tmps.getD 67 undef := hb.old 67 (by decide +kernel)
                                  have e68_ : a'.tmps.getD 68 undef = a0.tmps.getD 68 undef := hb.old 68 (by decide +kernel)
                                  have e69_ : a'.tmps.getD 69 undef = a0.tmps.getD 69 undef := hb.old 69 (by decide +kernel)
                                  have e70_ : a'.tmps.getD 70 undef = a0.tmps.getD 70 undef := hb.old 70 (by decide +kernel)
                                  have e71_ : a'.tmps.getD 71 undef = a0.tmps.getD 71 undef := hb.old 71 (by decide +kernel)
                                  have e72_ : a'.tmps.getD 72 undef = a0.tmps.getD 72 undef := hb.old 72 (by decide +kernel)
                                  have e73_ : a'.tmps.getD 73 undef = a0.tmps.getD 73 undef := hb.old 73 (by decide +kernel)
                                  have e74_ : a'.tmps.getD 74 undef = a0.tmps.getD 74 undef := hb.old 74 (by decide +kernel)
                                  have e75_ : a'.tmps.getD 75 undef = a0.tmps.getD 75 undef := hb.old 75 (by decide +kernel)
                                  have e76_ : a'.tmps.getD 76 undef = a0.tmps.getD 76 undef := hb.old 76 (by decide +kernel)
                                  have e77_ : a'.tmps.getD 77 undef = a0.tmps.getD 77 undef := hb.old 77 (by decide +kernel)
                                  have e78_ : a'.tmps.getD 78 undef = a0.tmps.getD 78 undef := hb.old 78 (by decide +kernel)
                                  have e79_ : a'.tmps.getD 79 undef = a0.tmps.getD 79 undef := hb.old 79 (by decide +kernel)
                                  have e80_ : a'.tmps.getD 80 undef = a0.tmps.getD 80 undef := hb.old 80 (by decide +kernel)
                                  have e81_ : a'.tmps.getD 81 undef = a0.tmps.getD 81 undef := hb.old 81 (by decide +kernel)
                                  have e82_ : a'.tmps.getD 82 undef = a0.tmps.getD 82 undef := hb.old 82 (by decide +kernel)
                                  have e83_ : a'.tmps.getD 83 undef = a0.tmps.getD 83 undef := hb.old 83 (by decide +kernel)
                                  have e84_ : a'.tmps.getD 84 undef = a0.tmps.getD 84 undef := hb.old 84 (by decide +kernel)
                                  have e85_ : a'.tmps.getD 85 undef = a0.tmps.getD 85 undef := hb.old 85 (by decide +kernel)
                                  have e86_ : a'.tmps.getD 86 undef = a0.tmps.getD 86 undef := hb.old 86 (by decide +kernel)
                                  have e87_ : a'.tmps.getD 87 undef = a0.tmps.getD 87 undef := hb.old 87 (by decide +kernel)
                                  have e88_ : a'.tmps.getD 88 undef = a0.tmps.getD 88 undef := hb.old 88 (by decide +kernel)
                                  have e89_ : a'.tmps.getD 89 undef = a0.tmps.getD 89 undef := hb.old 89 (by decide +kernel)
                                  have e90_ : a'.tmps.getD 90 undef = a0.tmps.getD 90 undef := hb.old 90 (by decide +kernel)
                                  have e91_ : a'.tmps.getD 91 undef = a0.tmps.getD 91 undef := hb.old 91 (by decide +kernel)
                                  have e92_ : a'.tmps.getD 92 undef = a0.tmps.getD 92 undef := hb.old 92 (by decide +kernel)
                                  have e93_ : a'.tmps.getD 93 undef = a0.tmps.getD 93 undef := hb.old 93 (by decide +kernel)
                                  have e94_ : a'.tmps.getD 94 undef = a0.tmps.getD 94 undef := hb.old 94 (by decide +kernel)
                                  have e95_ : a'.tmps.getD 95 undef = a0.tmps.getD 95 undef := hb.old 95 (by decide +kernel)
                                  have e96_ : a'.tmps.getD 96 undef = a0.tmps.getD 96 undef := hb.old 96 (by decide +kernel)
                                  have e97_ : a'.tmps.getD 97 undef = a0.tmps.getD 97 undef := hb.old 97 (by decide +kernel)
                                  have e98_ : a'.tmps.getD 98 undef = a0.tmps.getD 98 undef := hb.old 98 (by decide +kernel)
                                  have e99_ : a'.tmps.getD 99 undef = a0.tmps.getD 99 undef := hb.old 99 (by decide +kernel)
                                  have e100_ : a'.tmps.getD 100 undef = a0.tmps.getD 100 undef := hb.old 100 (by decide +kernel)
                                  have e101_ : a'.tmps.getD 101 undef = a0.tmps.getD 101 undef := hb.old 101 (by decide +kernel)
                                  have e102_ : a'.tmps.getD 102 undef = a0.tmps.getD 102 undef := hb.old 102 (by decide +kernel)
                                  have e103_ : a'.tmps.getD 103 undef = a0.tmps.getD 103 undef := hb.old 103 (by decide +kernel)
                                  have e104_ : a'.tmps.getD 104 undef = a0.tmps.getD 104 undef := hb.old 104 (by decide +kernel)
                                  have e105_ : a'.tmps.getD 105 undef = a0.tmps.getD 105 undef := hb.old 105 (by decide +kernel)
                                  have e106_ : a'.tmps.getD 106 undef = a0.tmps.getD 106 undef := hb.old 106 (by decide +kernel)
                                  have e107_ : a'.tmps.getD 107 undef = a0.tmps.getD 107 undef := hb.old 107 (by decide +kernel)
                                  have e108_ : a'.tmps.getD 108 undef = a0.tmps.getD 108 undef := hb.old 108 (by decide +kernel)
                                  have e109_ : a'.tmps.getD 109 undef = a0.tmps.getD 109 undef := hb.old 109 (by decide +kernel)
                                  have e110_ : a'.tmps.getD 110 undef = a0.tmps.getD 110 undef := hb.old 110 (by decide +kernel)
                                  have e111_ : a'.tmps.getD 111 undef = a0.tmps.getD 111 undef := hb.old 111 (by decide +kernel)
                                  have e112_ : a'.tmps.getD 112 undef = a0.tmps.getD 112 undef := hb.old 112 (by decide +kernel)
                                  have e113_ : a'.tmps.getD 113 undef = a0.tmps.getD 113 undef := hb.old 113 (by decide +kernel)
                                  have e114_ : a'.tmps.getD 114 undef = a0.tmps.getD 114 undef := hb.old 114 (by decide +kernel)
                                  have e115_ : a'.tmps.getD 115 undef = a0.tmps.getD 115 undef := hb.old 115 (by decide +kernel)
                                  have e116_ : a'.tmps.getD 116 undef = a0.tmps.getD 116 undef := hb.old 116 (by decide +kernel)
                                  have e117_ : a'.tmps.getD 117 undef = a0.tmps.getD 117 undef := hb.old 117 (by decide +kernel)
                                  have e118_ : a'.tmps.getD 118 undef = a0.tmps.getD 118 undef := hb.old 118 (by decide +kernel)
                                  have e119_ : a'.tmps.getD 119 undef = a0.tmps.getD 119 undef := hb.old 119 (by decide +kernel)
                                  have e120_ : a'.tmps.getD 120 undef = a0.tmps.getD 120 undef := hb.old 120 (by decide +kernel)
                                  have e121_ : a'.tmps.getD 121 undef = a0.tmps.getD 121 undef := hb.old 121 (by decide +kernel)
                                  have e122_ : a'.tmps.getD 122 undef = a0.tmps.getD 122 undef := hb.old 122 (by decide +kernel)
                                  have e123_ : a'.tmps.getD 123 undef = a0.tmps.getD 123 undef := hb.old 123 (by decide +kernel)
                                  have e124_ : a'.tmps.getD 124 undef = a0.tmps.getD 124 undef := hb.old 124 (by decide +kernel)
                                  have e125_ : a'.tmps.getD 125 undef = a0.tmps.getD 125 undef := hb.old 125 (by decide +kernel)
                                  have e126_ : a'.tmps.getD 126 undef = a0.tmps.getD 126 undef := hb.old 126 (by decide +kernel)
                                  have e127_ : a'.tmps.getD 127 undef = a0.tmps.getD 127 undef := hb.old 127 (by decide +kernel)
                                  have e128_ : a'.tmps.getD 128 undef = a0.tmps.getD 128 undef := hb.old 128 (by decide +kernel)
                                  have e129_ : a'.tmps.getD 129 undef = a0.tmps.getD 129 undef := hb.old 129 (by decide +kernel)
                                  have e130_ : a'.tmps.getD 130 undef = a0.tmps.getD 130 undef := hb.old 130 (by decide +kernel)
                                  have e131_ : a'.tmps.getD 131 undef = a0.tmps.getD 131 undef := hb.old 131 (by decide +kernel)
                                  have e132_ : a'.tmps.getD 132 undef = a0.tmps.getD 132 undef := hb.old 132 (by decide +kernel)
                                  have e133_ : a'.tmps.getD 133 undef = a0.tmps.getD 133 undef := hb.old 133 (by decide +kernel)
                                  have e134_ : a'.tmps.getD 134 undef = a0.tmps.getD 134 undef := hb.old 134 (by decide +kernel)
                                  have e135_ : a'.tmps.getD 135 undef = a0.tmps.getD 135 undef := hb.old 135 (by decide +kernel)
                                  have e136_ : a'.tmps.getD 136 undef = a0.tmps.getD 136 undef := hb.old 136 (by decide +kernel)
                                  have e137_ : a'.tmps.getD 137 undef = a0.tmps.getD 137 undef := hb.old 137 (by decide +kernel)
                                  have e138_ : a'.tmps.getD 138 undef = a0.tmps.getD 138 undef := hb.old 138 (by decide +kernel)
                                  have e139_ : a'.tmps.getD 139 undef = a0.tmps.getD 139 undef := hb.old 139 (by decide +kernel)
                                  have e140_ : a'.tmps.getD 140 undef = a0.tmps.getD 140 undef := hb.old 140 (by decide +kernel)
                                  have e141_ : a'.tmps.getD 141 undef = a0.tmps.getD 141 undef := hb.old 141 (by decide +kernel)
                                  have e142_ : a'.tmps.getD 142 undef = a0.tmps.getD 142 undef := hb.old 142 (by decide +kernel)
                                  have e143_ : a'.tmps.getD 143 undef = a0.tmps.getD 143 undef := hb.old 143 (by decide +kernel)
                                  have e144_ : a'.tmps.getD 144 undef = a0.tmps.getD 144 undef := hb.old 144 (by decide +kernel)
                                  have e145_ : a'.tmps.getD 145 undef = a0.tmps.getD 145 undef := hb.old 145 (by decide +kernel)
                                  have e146_ : a'.tmps.getD 146 undef = a0.tmps.getD 146 undef := hb.old 146 (by decide +kernel)
                                  have e147_ : a'.tmps.getD 147 undef = a0.tmps.getD 147 undef := hb.old 147 (by decide +kernel)
                                  have e148_ : a'.tmps.getD 148 undef = a0.tmps.getD 148 undef := hb.old 148 (by decide +kernel)
                                  have e149_ : a'.tmps.getD 149 undef = a0.tmps.getD 149 undef := hb.old 149 (by decide +kernel)
                                  have e150_ : a'.tmps.getD 150 undef = a0.tmps.getD 150 undef := hb.old 150 (by decide +kernel)
                                  have e151_ : a'.tmps.getD 151 undef = a0.tmps.getD 151 undef := hb.old 151 (by decide +kernel)
                                  have e152_ : a'.tmps.getD 152 undef = a0.tmps.getD 152 undef := hb.old 152 (by decide +kernel)
                                  have e153_ : a'.tmps.getD 153 undef = .pointer (some ⟨Mb, 2, none⟩) := hall 0 (by decide) 153 rfl
                                  have e154_ : a'.tmps.getD 154 undef = .slice (some ⟨q, 0, none⟩) (rows * j) cap := hall 1 (by decide) 154 rfl
                                  have e155_ : a'.tmps.getD 155 undef = .int .i64 ((u : Nat) : Int) := hall 2 (by decide) 155 rfl
                                  have e156_ : a'.tmps.getD 156 undef = .pointer (some ⟨Mb, 1, none⟩) := hall 3 (by decide) 156 rfl
                                  have e157_ : a'.tmps.getD 157 undef = .int .i64 ((j : Nat) : Int) := hall 4 (by decide) 157 rfl
                                  have e158_ : a'.tmps.getD 158 undef = .int .i64 ((u * j : Nat) : Int) := hall 5 (by decide) 158 rfl
                                  have e159_ : a'.tmps.getD 159 undef = .int .i64 ((v : Nat) : Int) := hall 6 (by decide) 159 rfl
                                  have e160_ : a'.tmps.getD 160 undef = .int .i64 ((u * j + v : Nat) : Int) := hall 7 (by decide) 160 rfl
                                  have e161_ : a'.tmps.getD 161 undef = .agg #[.int .i64 ((rows : Nat) : Int), .int .i64 ((j : Nat) : Int), .slice (some ⟨q, 0, none⟩) (rows * j) cap] := hall 8 (by decide) 161 rfl
                                  have e162_ : a'.tmps.getD 162 undef = .int .i64 ((u : Nat) : Int) := hall 9 (by decide) 162 rfl
                                  have e163_ : a'.tmps.getD 163 undef = .int .i64 ((v : Nat) : Int) := hall 10 (by decide) 163 rfl
                                  have e164_ : a'.tmps.getD 164 undef = .int .u8 (((yu).toNat : Nat) : Int) := hall 11 (by decide) 164 rfl
                                  have e165_ : a'.tmps.getD 165 undef = .int .u8 (((y).toNat : Nat) : Int) := hall 12 (by decide) 165 rfl
                                  have e166_ : a'.tmps.getD 166 undef = .agg #[.int .i64 ((rows : Nat) : Int), .int .i64 ((j : Nat) : Int), .slice (some ⟨q, 0, none⟩) (rows * j) cap] := hall 13 (by decide) 166 rfl
                                  have e167_ : a'.tmps.getD 167 undef = .int .i64 ((n : Nat) : Int) := hall 14 (by decide) 167 rfl
                                  have e168_ : a'.tmps.getD 168 undef = .int .i64 ((v : Nat) : Int) := hall 15 (by decide) 168 rfl
                                  have e169_ : a'.tmps.getD 169 undef = .int .u8 (((yn).toNat : Nat) : Int) := hall 16 (by decide) 169 rfl
                                  have e170_ : a'.tmps.getD 170 undef = .int .u8 (((mul y yn).toNat : Nat) : Int) := hall 17 (by decide) 170 rfl
                                  have e171_ : a'.tmps.getD 171 undef = .int .u8 (((yu ^^^ mul y yn).toNat : Nat) : Int) := hall 18 (by decide) 171 rfl
                                  have e172_ : a'.tmps.getD 172 undef = .pointer (some ⟨q, u * j + v, none⟩) := hall 19 (by decide) 172 rfl
                                  have e173_ : a'.tmps.getD 173 undef = a0.tmps.getD 173 undef := hb.old 173 (by decide +kernel)
                                  have e174_ : a'.tmps.getD 174 undef = a0.tmps.getD 174 undef := hb.old 174 (by decide +kernel)
                                  have e175_ : a'.tmps.getD 175 undef = a0.tmps.getD 175 undef := hb.old 175 (by decide +kernel)
                                  have e176_ : a'.tmps.getD 176 undef = a0.tmps.getD 176 undef := hb.old 176 (by decide +kernel)
                                  have hfr := frame_eq (a := a') (vs := [a0.tmps.getD 0 undef, a0.tmps.getD 1 undef, a0.tmps.getD 2 undef, a0.tmps.getD 3 undef, a0.tmps.getD 4 undef, a0.tmps.getD 5 undef, .pointer (some ⟨Mb, 0, none⟩), .int .i64 ((n : Nat) : Int), a0.tmps.getD 8 undef, a0.tmps.getD 9 undef, a0.tmps.getD 10 undef, a0.tmps.getD 11 undef, a0.tmps.getD 12 undef, a0.tmps.getD 13 undef, .int .i64 ((u : Nat) : Int), .int .u8 (((y).toNat : Nat) : Int), .int .i64 ((v : Nat) : Int), a0.tmps.getD 17 undef, a0.tmps.getD 18 undef, a0.tmps.getD 19 undef, a0.tmps.getD 20 undef, a0.tmps.getD 21 undef, a0.tmps.getD 22 undef, a0.tmps.getD 23 undef, a0.tmps.getD 24 undef, a0.tmps.getD 25 undef, a0.tmps.getD 26 undef, a0.tmps.getD 27 undef, a0.tmps.getD 28 undef, a0.tmps.getD 29 undef, a0.tmps.getD 30 undef, a0.tmps.getD 31 undef, a0.tmps.getD 32 undef, a0.tmps.getD 33 undef, a0.tmps.getD 34 undef, a0.tmps.getD 35 undef, a0.tmps.getD 36 undef, a0.tmps.getD 37 undef, a0.tmps.getD 38 undef, a0.tmps.getD 39 undef, a0.tmps.getD 40 undef, a0.tmps.getD 41 undef, a0.tmps.getD 42 undef, a0.tmps.getD 43 undef, a0.tmps.getD 44 undef, a0.tmps.getD 45 undef, a0.tmps.getD 46 undef, a0.tmps.getD 47 undef, a0.tmps.getD 48 undef, a0.tmps.getD 49 undef, a0.tmps.getD 50 undef, a0.tmps.getD 51 undef, a0.tmps.getD 52 undef, a0.tmps.getD 53 undef, a0.tmps.getD 54 undef, a0.tmps.getD 55 undef, a0.tmps.getD 56 undef, a0.tmps.getD 57 undef, a0.tmps.getD 58 undef, a0.tmps.getD 59 undef, a0.tmps.getD 60 undef, a0.tmps.getD 61 undef, a0.tmps.getD 62 undef, a0.tmps.getD 63 undef, a0.tmps.getD 64 undef, a0.tmps.getD 65 undef, a0.tmps.getD 66 undef, a0.tmps.getD 67 undef, a0.tmps.getD 68 undef, a0.tmps.getD 69 undef, a0.tmps.getD 70 undef, a0.tmps.getD 71 undef, a0.tmps.getD 72 undef, a0.tmps.getD 73 undef, a0.tmps.getD 74 undef, a0.tmps.getD 75 undef, a0.tmps.getD 76 undef, a0.tmps.getD 77 undef, a0.tmps.getD 78 undef, a0.tmps.getD 79 undef, a0.tmps.getD 80 undef, a0.tmps.getD 81 undef, a0.tmps.getD 82 undef, a0.tmps.getD 83 undef, a0.tmps.getD 84 undef, a0.tmps.getD 85 undef, a0.tmps.getD 86 undef, a0.tmps.getD 87 undef, a0.tmps.getD 88 undef, a0.tmps.getD 89 undef, a0.tmps.getD 90 undef, a0.tmps.getD 91 undef, a0.tmps.getD 92 undef, a0.tmps.getD 93 undef, a0.tmps.getD 94 undef, a0.tmps.getD 95 undef, a0.tmps.getD 96 undef, a0.tmps.getD 97 undef, a0.tmps.getD 98 undef, a0.tmps.getD 99 undef, a0.tmps.getD 100 undef, a0.tmps.getD 101 undef, a0.tmps.getD 102 undef, a0.tmps.getD 103 undef, a0.tmps.getD 104 undef, a0.tmps.getD 105 undef, a0.tmps.getD 106 undef, a0.tmps.getD 107 undef, a0.tmps.getD 108 undef, a0.tmps.getD 109 undef, a0.tmps.getD 110 undef, a0.tmps.getD 111 undef, a0.tmps.getD 112 undef, a0.tmps.getD 113 undef, a0.tmps.getD 114 undef, a0.tmps.getD 115 undef, a0.tmps.getD 116 undef, a0.tmps.getD 117 undef, a0.tmps.getD 118 undef, a0.tmps.getD 119 undef, a0.tmps.getD 120 undef, a0.tmps.getD 121 undef, a0.tmps.getD 122 undef, a0.tmps.getD 123 undef, a0.tmps.getD 124 undef, a0.tmps.getD 125 undef, a0.tmps.getD 126 undef, a0.tmps.getD 127 undef, a0.tmps.getD 128 undef, a0.tmps.getD 129 undef, a0.tmps.getD 130 undef, a0.tmps.getD 131 undef, a0.tmps.getD 132 undef, a0.tmps.getD 133 undef, a0.tmps.getD 134 undef, a0.tmps.getD 135 undef, a0.tmps.getD 136 undef, a0.tmps.getD 137 undef, a0.tmps.getD 138 undef, a0.tmps.getD 139 undef, a0.tmps.getD 140 undef, a0.tmps.getD 141 undef, a0.tmps.getD 142 undef, a0.tmps.getD 143 undef, a0.tmps.getD 144 undef, a0.tmps.getD 145 undef, a0.tmps.getD 146 undef, a0.tmps.getD 147 undef, a0.tmps.getD 148 undef, a0.tmps.getD 149 undef, a0.tmps.getD 150 undef, a0.tmps.getD 151 undef, a0.tmps.getD 152 undef, .pointer (some ⟨Mb, 2, none⟩), .slice (some ⟨q, 0, none⟩) (rows * j) cap, .int .i64 ((u : Nat) : Int), .pointer (some ⟨Mb, 1, none⟩), .int .i64 ((j : Nat) : Int), .int .i64 ((u * j : Nat) : Int), .int .i64 ((v : Nat) : Int), .int .i64 ((u * j + v : Nat) : Int), .agg #[.int .i64 ((rows : Nat) : Int), .int .i64 ((j : Nat) : Int), .slice (some ⟨q, 0, none⟩) (rows * j) cap], .int .i64 ((u : Nat) : Int), .int .i64 ((v : Nat) : Int), .int .u8 (((yu).toNat : Nat) : Int), .int .u8 (((y).toNat : Nat) : Int), .agg #[.int .i64 ((rows : Nat) : Int), .int .i64 ((j : Nat) : Int), .slice (some ⟨q, 0, none⟩) (rows * j) cap], .int .i64 ((n : Nat) : Int), .int .i64 ((v : Nat) : Int), .int .u8 (((yn).toNat : Nat) : Int), .int .u8 (((mul y yn).toNat : Nat) : Int), .int .u8 (((yu ^^^ mul y yn).toNat : Nat) : Int), .pointer (some ⟨q, u * j + v, none⟩), a0.tmps.getD 173 undef, a0.tmps.getD 174 undef, a0.tmps.getD 175 undef, a0.tmps.getD 176 undef]) (by rw [hb.size, hsz]; rfl) (by rw [hb.defers]; exact hdf) ⟨e0_, e1_, e2_, e3_, e4_, e5_, e6_, e7_, e8_, e9_, e10_, e11_, e12_, e13_, e14_, e15_, e16_, e17_, e18_, e19_, e20_, e21_, e22_, e23_, e24_, e25_, e26_, e27_, e28_, e29_, e30_, e31_, e32_, e33_, e34_, e35_, e36_, e37_, e38_, e39_, e40_, e41_, e42_, e43_, e44_, e45_, e46_, e47_, e48_, e49_, e50_, e51_, e52_, e53_, e54_, e55_, e56_, e57_, e58_, e59_, e60_, e61_, e62_, e63_, e64_, e65_, e66_, e67_, e68_, e69_, e70_, e71_, e72_, e73_, e74_, e75_, e76_, e77_, e78_, e79_, e80_, e81_, e82_, e83_, e84_, e85_, e86_, e87_, e88_, e89_, e90_, e91_, e92_, e93_, e94_, e95_, e96_, e97_, e98_, e99_, e100_, e101_, e102_, e103_, e104_, e105_, e106_, e107_, e108_, e109_, e110_, e111_, e112_, e113_, e114_, e115_, e116_, e117_, e118_, e119_, e120_, e121_, e122_, e123_, e124_, e125_, e126_, e127_, e128_, e129_, e130_, e131_, e132_, e133_, e134_, e135_, e136_, e137_, e138_, e139_, e140_, e141_, e142_, e143_, e144_, e145_, e146_, e147_, e148_, e149_, e150_, e151_, e152_, e153_, e154_, e155_, e156_, e157_, e158_, e159_, e160_, e161_, e162_, e163_, e164_, e165_, e166_, e167_, e168_, e169_, e170_, e171_, e172_, e173_, e174_, e175_, e176_, trivial⟩
                                  have HFF := hide hf
                                  clear hall hb hf e0_ e1_ e2_ e3_ e4_ e5_ e6_ e7_ e8_ e9_ e10_ e11_ e12_ e13_ e14_ e15_ e16_ e17_ e18_ e19_ e20_ e21_ e22_ e23_ e24_ e25_ e26_ e27_ e28_ e29_ e30_ e31_ e32_ e33_ e34_ e35_ e36_ e37_ e38_ e39_ e40_ e41_ e42_ e43_ e44_ e45_ e46_ e47_ e48_ e49_ e50_ e51_ e52_ e53_ e54_ e55_ e56_ e57_ e58_ e59_ e60_ e61_ e62_ e63_ e64_ e65_ e66_ e67_ e68_ e69_ e70_ e71_ e72_ e73_ e74_ e75_ e76_ e77_ e78_ e79_ e80_ e81_ e82_ e83_ e84_ e85_ e86_ e87_ e88_ e89_ e90_ e91_ e92_ e93_ e94_ e95_ e96_ e97_ e98_ e99_ e100_ e101_ e102_ e103_ e104_ e105_ e106_ e107_ e108_ e109_ e110_ e111_ e112_ e113_ e114_ e115_ e116_ e117_ e118_ e119_ e120_ e121_ e122_ e123_ e124_ e125_ e126_ e127_ e128_ e129_ e130_ e131_ e132_ e133_ e134_ e135_ e136_ e137_ e138_ e139_ e140_ e141_ e142_ e143_ e144_ e145_ e146_ e147_ e148_ e149_ e150_ e151_ e152_ e153_ e154_ e155_ e156_ e157_ e158_ e159_ e160_ e161_ e162_ e163_ e164_ e165_ e166_ e167_ e168_ e169_ e170_ e171_ e172_ e173_ e174_ e175_ e176_ h6 h7 h14 h15 h16
                                  subst hfr
                                  rw [unhide HA0]
                                  clear HA0 hsz hdf
                                  apply_assumption
                                  go_wp2_with fail
                                  go_roundw
                                  case rel =>
                                    have hX' := ((unhide HX).keptF (unhide HFF)).set u v (yu ^^^ mul y yn) hur hvj
                                    rw [unhide HSTEP] at hX'
                                    refine ⟨v + 1, by omega, .inr ⟨hun, hy0⟩, by go_num, hX', ((unhide HZ).kept (unhide HFF) id).kept (S := fun k => k = q) ((Fr.refl (fun k => k = q) _).setCell (p := ⟨q, u * j + v, none⟩) (fun _ => rfl) _) (by omega), ((unhide HF).trans (unhide HFF) (fun _ _ h => h)).setCell (p := ⟨q, u * j + v, none⟩) (fun h' => by simp at h'; omega) _⟩
                                  case measure => simp [intOf]; omega
                              · have hve : v = j := by omega
                                have HVE := hide hve
                                have hvi : ¬ (v : Int) < (j : Int) := by omega
                                have HE : Hid (XAt wr Mb q rows j cap (clK F2 n k (u + 1))) := hide (by
                                  have h := unhide HX
                                  rw [unhide HVE, unhide HG, unhide HY] at h
                                  exact h.congr (by omega) (fun a b ha hb => clK_step F2 n k u j hun a b hb))
                                clear hX hv0
                                go_wp2_with fail
                                go_roundw
                                case rel => exact ⟨u + 1, by omega, by go_num, unhide HE, unhide HZ, unhide HF⟩
                                case measure => simp [intOf]; omega
                        · have hue : u = rows := by omega
                          subst hue
                          have hui : ¬ (u : Int) < (u : Int) := by omega
                          clear hX
                          go_wp2_with fail
                          go_roundw
                          case rel =>
                            have hlt2 := lead_some (unhide HSM)
                            have e2 : stp (S, n) k = ((stp (S, n) k).1, n + 1) := by unfold stp; simp only [unhide HSM]
                            refine ⟨k + 1, by omega, by go_num, ?_, ?_, unhide HZ, unhide HF⟩
                            · rw [unhide HNX, e2]; go_num
                            · rw [unhide HNX]
                              refine (unhide HX).congr (by omega) (fun a b ha hb => ?_)
                              rw [unhide HF2, unhide HF1, unhide HIV, unhide HXX]
                              have := cel_all (unhide HSW) (unhide HSM) (by rw [unhide HSL]; omega) (by rw [unhide HSL]; omega) (show k < j by omega) a b (by rw [unhide HSL]; exact ha) hb
                              rw [unhide HSL] at this
                              exact this
                          case measure => simp [intOf]; omega
          · have hre : r = rows := by omega
            have HRE := hide hre
            have hri : ¬ (r : Int) < (rows : Int) := by omega
            have hrw : ((r : Int) == (rows : Int)) = true := by rw [hre]; simp
            go_wp2_with fail
            go_roundw
            case rel =>
              have hn0 : lead S n k = none := (unhide HLD).trans (lead_end (by rw [unhide HSL]; omega))
              have hn1 : stp (S, n) k = (S, n) := stp_none hn0
              refine ⟨k + 1, by omega, by go_num, ?_, ?_, unhide HZ, unhide HF⟩
              · rw [unhide HNX, hn1]
              · rw [unhide HNX, hn1]; exact unhide HX
            case measure => simp [intOf]; omega
      · have hend : redK ls ld = (S, n) := by
          by_cases e : k = ld
          · rw [← e]; exact unhide HSN
          · have h1 := unhide HST (by omega) (ld - k)
            rw [show k + (ld - k) = ld by omega] at h1
            exact h1
        have HEND := hide hend
        clear hend
        have hz3 := (unhide HZ).there
        have hMR : Mb ≠ w.heap.size + 1 := by omega
        have hput := (unhide HZ).put (.int .i64 ((rows : Nat) : Int)) (.int .i64 ((cols : Nat) : Int)) (.slice (some ⟨q, 0, none⟩) (rows * cols) cap)
        have hfs := setCells_frame (w.heap.size + 1) [.int .i64 ((rows : Nat) : Int), .int .i64 ((cols : Nat) : Int), .slice (some ⟨q, 0, none⟩) (rows * cols) cap] 0 wr
        have hown := owns_kept (unhide HX).own hfs (fun b hb => by simp [Value.ownBlock] at hb; omega)
        have hFF : Fr (fun _ => False) w (wr.setCells (w.heap.size + 1) 0 [.int .i64 ((rows : Nat) : Int), .int .i64 ((cols : Nat) : Int), .slice (some ⟨q, 0, none⟩) (rows * cols) cap]) := (unhide HF).trans hfs (fun i hi e => by omega)
        have HPUT := hide hput
        have HOWN := hide hown
        have HFIN := hide hFF
        clear hput hfs hown hFF
        by_cases hki : k < ld
        · have hki2 : (k : Int) < (ld : Int) := by omega
          have hni : ¬ (n : Int) < (rows : Int) := by omega
          go_wp2_with (refine wpList_store_mid rfl 24 _ _ rfl (w.heap.size + 1) 0 #[.int .i64 ((rows : Nat) : Int), .int .i64 ((cols : Nat) : Int), .slice (some ⟨q, 0, none⟩) (rows * cols) cap] rfl rfl hz3 info24_size (by simp [Value.oneCell']) ?_)
          generalize wr.setCells (w.heap.size + 1) 0 _ = W at *
          have c0 := cell_of_heap (unhide HPUT) 0
          have c1 := cell_of_heap (unhide HPUT) 1
          have c2 := cell_of_heap (unhide HPUT) 2
          simp at c0 c1 c2
          refine bodyPost_ret (v := .tuple #[.agg #[.int .i64 ((rows : Nat) : Int), .int .i64 ((cols : Nat) : Int), .slice (some ⟨q, 0, none⟩) (rows * cols) cap], .int .i64 ((n : Nat) : Int)]) (by simp [results, Try.results78, go_sem, c0, c1, c2]) rfl ⟨⟨q, cap, by rw [unhide HEND], by omega, by rw [unhide HEND]; exact unhide HOWN⟩, unhide HFIN⟩
        · have hki2 : ¬ (k : Int) < (ld : Int) := by omega
          go_wp2_with (refine wpList_store_mid rfl 24 _ _ rfl (w.heap.size + 1) 0 #[.int .i64 ((rows : Nat) : Int), .int .i64 ((cols : Nat) : Int), .slice (some ⟨q, 0, none⟩) (rows * cols) cap] rfl rfl hz3 info24_size (by simp [Value.oneCell']) ?_)
          generalize wr.setCells (w.heap.size + 1) 0 _ = W at *
          have c0 := cell_of_heap (unhide HPUT) 0
          have c1 := cell_of_heap (unhide HPUT) 1
          have c2 := cell_of_heap (unhide HPUT) 2
          simp at c0 c1 c2
          refine bodyPost_ret (v := .tuple #[.agg #[.int .i64 ((rows : Nat) : Int), .int .i64 ((cols : Nat) : Int), .slice (some ⟨q, 0, none⟩) (rows * cols) cap], .int .i64 ((n : Nat) : Int)]) (by simp [results, Try.results78, go_sem, c0, c1, c2]) rfl ⟨⟨q, cap, by rw [unhide HEND], by omega, by rw [unhide HEND]; exact unhide HOWN⟩, unhide HFIN⟩
end Go.Proofs.Ytckmddkhkdcmmaa
