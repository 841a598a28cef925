/-
  Rows that grow by append, and copies made by it.
  The walks of package gf's Scale and Sum, and of the document's own Scale, Sum and Eval.
  The walks of package gf's Sum, and of the document's own Sum and Eval.
  Cauchy's matrix, plainly: any k rows of the code have an inverse.
  The walks of package rs: a code's rows, copies.
-/
import Derived.Test.YtckmddkhkdcmmaaM04
import Derived.Test.YtckmddkhkdcmmaaM09
import Derived.Deep.RegionWith
import Derived.Deep.DeepCutAuto
import Derived.Deep.CutBlock
import Derived.Test.YtckmddkhkdcmmaaM05
namespace Go.Proofs.Ytckmddkhkdcmmaa
set_option linter.unusedVariables false
set_option linter.unusedSimpArgs false
open Go.RowKit
set_option linter.unusedVariables false

attribute [local go_sem ↓] Go.wp_at_zero Go.wp_at_succ

theorem owns_new {w : World} {b : Nat} (hb : w.heap[b]? = some (.cells #[] 5 (0, 0))) : w.ownsRow 0 5 1 (.slice (some ⟨b, 0, none⟩) 0 0) 0 [] :=
  ⟨rfl, .inr ⟨b, 0, #[], rfl, Nat.zero_le _, hb, Nat.le_refl _, by simp [maxLen], rfl, rfl⟩⟩

/-- append([]byte{}, x...): a copy. -/
theorem wp_clone {w : World} {o : Oper} {a : Act} {K : Act → World → Prop} {Q : Exit → Act → World → Prop} (s x : Operand)
    (ho : o.op = .call { callee := .builtin .append, args := #[s, x], argTypes := #[22, 22] }) (b : Nat) (hs : a.eval s = .slice (some ⟨b, 0, none⟩) 0 0) (hb : w.heap[b]? = some (.cells #[] 5 (0, 0)))
    (xv : Value) (l : List UInt8) (hxv : a.eval x = xv) (hx : Rd w xv l) (hl : l.length ≤ 100000)
    (h : ∀ ao cap w', Rd w' (.slice ao l.length cap) l → Fr (fun k => k = b) w w' → (∀ k, (Value.slice ao l.length cap).ownBlock = some k → k = b ∨ w.heap.size ≤ k) → K (a.put o.dst (.slice ao l.length cap)) w') : o.wp Try.prog a w K Q := by
  obtain ⟨i, hi, hz0, hz1, hz2⟩ := info_parts Try.info5
  refine wp_app s x 22 ho 5 i _ 1 1 Try.underlying22 hi hz0 hz1 hz2 rfl (by decide) _ 0 [] hs _ hxv l.length (bvs l) (owns_new hb) hx.sr (bvs_one _) (by omega) (by simp only [maxLen]; omega) ?_
  intro ao cap w' ho' hg hpl
  simp only [Nat.zero_add, List.nil_append] at ho' hpl ⊢
  refine h ao cap w' (Rd.of_owns ho') ⟨hg.os, hg.tape, hg.output, hg.size, fun k hk hs => hg.block k hk (fun e => hs (by simpa [Value.ownBlock] using e))⟩ (fun k hk => ?_)
  rcases hpl with e | ⟨k', e, hk'⟩
  · rw [e] at hk; simp [Value.ownBlock] at hk; exact .inl hk.symm
  · rw [e] at hk; simp at hk; exact .inr (by omega)

theorem wpList_clone {w : World} {ops : Array Oper} {rest : List Oper} {o : Oper} {a : Act} {Q : Exit → Act → World → Prop} (hgd : o.guard = none) (s x : Operand)
    (ho : o.op = .call { callee := .builtin .append, args := #[s, x], argTypes := #[22, 22] }) (b : Nat) (hs : a.eval s = .slice (some ⟨b, 0, none⟩) 0 0) (hb : w.heap[b]? = some (.cells #[] 5 (0, 0)))
    (xv : Value) (l : List UInt8) (hxv : a.eval x = xv) (hx : Rd w xv l) (hl : l.length ≤ 100000)
    (h : ∀ ao cap w', Rd w' (.slice ao l.length cap) l → Fr (fun k => k = b) w w' → (∀ k, (Value.slice ao l.length cap).ownBlock = some k → k = b ∨ w.heap.size ≤ k) → wpList Try.prog ops Q rest (a.put o.dst (.slice ao l.length cap)) w') : wpList Try.prog ops Q (o :: rest) a w :=
  wpList_plain hgd fun _ hK => wp_clone s x ho b hs hb xv l hxv hx hl fun ao cap w' h1 h2 h3 => hK _ _ (h ao cap w' h1 h2 h3)

theorem step_clone {w : World} {ops : Array Oper} {o : Oper} {a : Act} {K : Act → World → Prop} {Q : Exit → Act → World → Prop} {E : Prop} (hgd : o.guard = none) (s x : Operand)
    (ho : o.op = .call { callee := .builtin .append, args := #[s, x], argTypes := #[22, 22] }) (b : Nat) (hs : a.eval s = .slice (some ⟨b, 0, none⟩) 0 0) (hb : w.heap[b]? = some (.cells #[] 5 (0, 0)))
    (xv : Value) (l : List UInt8) (hxv : a.eval x = xv) (hx : Rd w xv l) (hl : l.length ≤ 100000)
    (h : ∀ ao cap w', Rd w' (.slice ao l.length cap) l → Fr (fun k => k = b) w w' → (∀ k, (Value.slice ao l.length cap).ownBlock = some k → k = b ∨ w.heap.size ≤ k) → K (a.put o.dst (.slice ao l.length cap)) w') :
    if Region.wanted o (yielded ops a.tmps) = true then Oper.wp Try.prog o a w K Q else E := by
  have hw : Region.wanted o (yielded ops a.tmps) = true := by simp [Region.wanted, hgd]
  rw [if_pos hw]
  exact wp_clone s x ho b hs hb xv l hxv hx hl h
theorem Rd.ilt {w : World} {b o : Nat} {l : List UInt8} (h : ∀ j (h : j < l.length), w.cell? ⟨b, o + j, none⟩ = some (.int .u8 ((l[j]).toNat : Int))) (hl : 0 < l.length) : b < w.heap.size := by
  have := World.block_lt_of_cell? w _ (h 0 hl)
  exact this

theorem owns_kept {S : Nat → Prop} {w w' : World} {e : TypeId} {size : Nat} {v : Value} {n : Nat} {xs : List Value} (h : w.ownsRow 0 e size v n xs) (f : Fr S w w') (hS : ∀ k, v.ownBlock = some k → ¬ S k) : w'.ownsRow 0 e size v n xs := by
  refine ⟨h.1, ?_⟩
  rcases h.2 with h4 | ⟨g, cap, cur, rfl, hb, hg, r⟩
  · exact .inl h4
  · exact .inr ⟨g, cap, cur, rfl, hb, by rw [f.block g (lt_of_heap hg) (hS g rfl)]; exact hg, r⟩

theorem owns_nil (w : World) : w.ownsRow 0 5 1 (.slice none 0 0) 0 [] := ⟨rfl, .inl ⟨rfl, rfl⟩⟩

theorem one_cell (w : World) (v : UInt8) : Sr (w.alloc (Obj.cells #[.int .u8 ((v.toNat : Nat) : Int)] 5)) 1 (.slice (some ⟨w.heap.size, 0, none⟩) 1 1) 1 (bvs [v]) := by
  refine .inr ⟨_, _, rfl, by simp [bvs], fun j u hu => ?_⟩
  rw [Addr.add_lit, Nat.zero_add, cell_of_heap (heap_alloc_new w _)]
  simpa [bvs] using hu

set_option maxHeartbeats 8000000 in

theorem Rd.gt {w : World} {b o n cap : Nat} {l : List UInt8} (h : ∀ j (h : j < l.length), w.cell? ⟨b, o + j, none⟩ = some (.int .u8 ((l[j]).toNat : Int))) (j : Nat) (hj : j < l.length) : w.cell? ⟨b, o + j, none⟩ = some (.int .u8 (((gt l j).toNat : Nat) : Int)) := by
  rw [h j hj]
  unfold Ytckmddkhkdcmmaa.gt
  rw [List.getElem?_eq_getElem hj]
  rfl

end Go.Proofs.Ytckmddkhkdcmmaa

namespace Go.Proofs.Ytckmddkhkdcmmaa
set_option linter.unusedVariables false
set_option linter.unusedSimpArgs false
open Go.RowKit
set_option linter.unusedVariables false

attribute [local go_sem ↓] Go.wp_at_zero Go.wp_at_succ

theorem addt_zeros (c : UInt8) (l : List UInt8) : addt c (List.replicate l.length 0) l = scl c l := by
  apply List.ext_getElem
  · simp [addt, scl]
  · intro i h1 h2
    simp [addt, scl]

theorem addTimes_empty (w : World) (p b : Nat) (c : UInt8) (ao : Option Addr) (cap : Nat) :
    Calls Try.prog 116 #[.pointer (some ⟨p, 0, none⟩), .slice (some ⟨b, 0, none⟩) 0 0, .int .u8 (c.toNat : Int), .slice ao 0 cap] w fun e w' => e = .returned (.tuple #[]) ∧ w = w' := by
  by_cases hc : c = 0
  · subst hc
    go_enter Try.func116, Try.ntmps116
    go_wp2_with fail
    exact bodyPost_ret (results_none rfl _ _ _) rfl ⟨rfl, rfl⟩
  · have hcb : (((c.toNat : Nat) : Int) == 0) = false := by simpa using fun e => hc (natB.1 e)
    go_enter Try.func116, Try.ntmps116
    go_wp2_with fail
    go_loopw [14] (fun i w' => i = .int .i64 0 ∧ w = w') (fun _ _ => 0)
    case atStart => exact ⟨rfl, rfl⟩
    case round =>
      obtain ⟨rfl, rfl⟩ := hrel
      go_wp2_with fail
      go_end0
      exact ⟨rfl, rfl⟩

theorem gscale_any (w : World) (c : UInt8) (v : Value) (l : List UInt8) (hv : Rd w v l) (hl : l.length ≤ 4096) :
    Calls Try.prog 114 #[.int .u8 (c.toNat : Int), v] w fun e w' => (∃ ao cap, e = .returned (.slice ao l.length cap) ∧ Rd w' (.slice ao l.length cap) (scl c l) ∧ ∀ k, (Value.slice ao l.length cap).ownBlock = some k → w.heap.size ≤ k) ∧ Fr (fun _ => False) w w' := by
  have HV := hide hv
  obtain ⟨vo, vcap, rfl⟩ := hv.shape
  have hsl : (scl c l).length = l.length := by simp [scl]
  by_cases h0 : 0 < l.length
  · obtain ⟨vb, vof, rfl, -, hcap, hcm, hcell⟩ := hv.lits h0
    have hlt := Rd.ilt hcell h0
    have hmk := run_make5 l.length (by omega)
    have HB0 := hide (show BAt (w.alloc (Obj.cells (bvs (List.replicate l.length 0)).toArray 5)) w.heap.size (List.replicate l.length 0) from heap_alloc_new w _)
    have HF0 := hide (show Fr (fun _ => False) w (w.alloc (Obj.cells (bvs (List.replicate l.length 0)).toArray 5)) from (Fr.refl _ _).alloc _)
    have hsz : (w.alloc (Obj.cells (bvs (List.replicate l.length 0)).toArray 5)).heap.size = w.heap.size + 1 := by simp
    have HSZ := hide hsz
    clear hv hcell hsz
    go_enter Try.func114, Try.ntmps114
    go_wp2_with fail
    refine (newField_any _).mono ?_
    rintro e w1 ⟨rfl, hF, f1⟩
    rw [unhide HSZ] at hF ⊢
    have B1 := (unhide HB0).kept f1 id
    have F1 := (unhide HF0).trans f1 (fun _ _ h => h)
    have HA := hide (addTimes_any w1 _ w.heap.size _ c _ l hF B1 ((unhide HV).kept F1 (fun _ _ h => h)) (by simp [Value.ownBlock]; omega) (by omega) (by simp; omega) (by simp))
    rw [List.length_replicate, addt_zeros] at HA
    have HF1 := hide F1
    clear hF f1 B1 F1 hmk
    go_wp2_with fail
    refine (unhide HA).mono ?_
    rintro e w2 ⟨rfl, B2, f2⟩
    have HB2 := hide B2
    clear B2
    go_wp2_with fail
    go_ret
    refine ⟨⟨_, _, rfl, ?_, fun k hk => by simp [Value.ownBlock] at hk; omega⟩, (unhide HF1).trans f2 (fun i hi h => by omega)⟩
    have := (unhide HB2).rd (by rw [hsl]; unfold maxLen; omega)
    rwa [hsl] at this
  · have e0 : l = [] := List.eq_nil_of_length_eq_zero (by omega)
    subst e0
    have hmk : ∀ w, (Instr.makeSlice 22 (.int .i64 0) (.int .i64 0)).run Try.prog w = .ok (.slice (some ⟨w.heap.size, 0, none⟩) 0 0) (w.alloc (.cells (bvs (List.replicate 0 0)).toArray 5)) := run_make5 0 (by omega)
    have HF0 := hide (show Fr (fun _ => False) w (w.alloc (Obj.cells (bvs (List.replicate 0 0)).toArray 5)) from (Fr.refl _ _).alloc _)
    generalize bvs (List.replicate 0 0) = A at *
    clear hv h0 hsl
    go_enter Try.func114, Try.ntmps114
    go_wp2_with fail
    refine (newField_any _).mono ?_
    rintro e w1 ⟨rfl, hF, f1⟩
    have F1 := hide ((unhide HF0).trans f1 (fun _ _ h => h))
    clear hF f1 hmk
    go_wp2_with fail
    refine (addTimes_empty _ _ _ c _ _).mono ?_
    rintro e w2 ⟨rfl, rfl⟩
    go_wp2_with fail
    go_ret
    exact ⟨⟨_, 0, rfl, .inr ⟨_, 0, rfl, Nat.le_refl _, by simp [maxLen], fun j hj => by simp [scl] at hj⟩, fun k hk => by simp [Value.ownBlock] at hk; omega⟩, unhide F1⟩

end Go.Proofs.Ytckmddkhkdcmmaa

namespace Go.Proofs.Ytckmddkhkdcmmaa
set_option linter.unusedVariables false
set_option linter.unusedSimpArgs false
open Go.RowKit
set_option linter.unusedVariables false

attribute [local go_sem ↓] Go.wp_at_zero Go.wp_at_succ

/-- The sum of two vectors. -/
def sm (l m : List UInt8) : List UInt8 := List.zipWith (fun a b => a ^^^ b) l m

theorem sm_length {l m : List UInt8} (h : l.length = m.length) : (sm l m).length = l.length := by simp [sm]; omega

theorem sm_step (l m : List UInt8) (k : Nat) (h : k < l.length) (hm : l.length = m.length) : sm (l.take (k + 1)) (m.take (k + 1)) = sm (l.take k) (m.take k) ++ [gt l k ^^^ gt m k] := by
  unfold sm gt
  rw [List.take_succ_eq_append_getElem h, List.take_succ_eq_append_getElem (show k < m.length by omega), List.zipWith_append (by simp; omega), List.getElem?_eq_getElem h, List.getElem?_eq_getElem (show k < m.length by omega)]
  rfl

theorem gsum_side (w : World) (ao bo : Option Addr) (n m ca cb : Nat) (h : n ≠ m) : Calls Try.prog 100 #[.slice ao n ca, .slice bo m cb] w fun e w' => e = .returned (.tuple #[.slice none 0 0, .int .i64 23]) ∧ w = w' := by
  have hb : ((n : Int) != (m : Int)) = true := by simp; omega
  clear h
  go_enter Try.func100, Try.ntmps100
  go_wp2
  go_ret2
  exact ⟨rfl, rfl⟩

set_option maxHeartbeats 2000000 in
set_option maxRecDepth 100000 in
theorem gsum_ok (w : World) (v m : Value) (l x : List UInt8) (hv : Rd w v l) (hm : Rd w m x) (he : l.length = x.length) (hl : l.length ≤ 4096) :
    Calls Try.prog 100 #[v, m] w fun e w' => (∃ ao cap, e = .returned (.tuple #[.slice ao l.length cap, .int .i64 0]) ∧ Rd w' (.slice ao l.length cap) (sm l x)) ∧ Fr (fun _ => False) w w' := by
  have HV := hide hv
  have HM := hide hm
  obtain ⟨vo, vcap, rfl⟩ := hv.shape
  obtain ⟨mo, mcap, rfl⟩ := hm.shape
  have HSL := hide (sm_length he)
  have HE := hide he
  rw [← he]
  have hmk := run_make5 l.length (by omega)
  have HB0 := hide (show BAt (w.alloc (Obj.cells (bvs (List.replicate l.length 0)).toArray 5)) w.heap.size (List.replicate l.length 0) from heap_alloc_new w _)
  have HF0 := hide (show Fr (fun _ => False) w (w.alloc (Obj.cells (bvs (List.replicate l.length 0)).toArray 5)) from (Fr.refl _ _).alloc _)
  clear hv hm he
  go_enter Try.func100, Try.ntmps100
  go_wp2_with fail
  clear hmk
  go_loopw [18] (fun i w' => ∃ k : Nat, k ≤ l.length ∧ i = .int .i64 (k : Int) ∧ BAt w' w.heap.size (sm (l.take k) (x.take k) ++ List.replicate (l.length - k) 0) ∧ Fr (fun _ => False) w w') (fun i _ => l.length - (intOf i).toNat)
  case atStart => exact ⟨0, by omega, rfl, by simpa [sm] using unhide HB0, unhide HF0⟩
  case round =>
    obtain ⟨k, hk, rfl, hB, hf⟩ := hrel
    by_cases hlt : k < l.length
    · have hxl := unhide HE
      obtain ⟨vb, vof, rfl, -, hvcap, hvcm, hcv⟩ := ((unhide HV).kept hf (fun _ _ h => h)).lits (by omega)
      obtain ⟨mb, mof, rfl, -, hmcap, hmcm, hcm⟩ := ((unhide HM).kept hf (fun _ _ h => h)).lits (by omega)
      have v1 := Rd.gt (n := 0) (cap := 0) hcv k hlt
      have m1 := Rd.gt (n := 0) (cap := 0) hcm k (by omega)
      unfold maxLen at hvcm hmcm
      have hs1 : (sm (l.take k) (x.take k)).length = k := by rw [sm_length (by simp; omega)]; simp; omega
      have hlen : (sm (l.take k) (x.take k) ++ List.replicate (l.length - k) 0).length = l.length := by rw [List.length_append, hs1]; simp; omega
      have c1 := hB.cell k (by omega)
      have z1 := hB.frozen k
      generalize (sm (l.take k) (x.take k) ++ List.replicate (l.length - k) 0)[k]'(by omega) = old at c1
      have HST := hide (show (sm (l.take k) (x.take k) ++ List.replicate (l.length - k) 0).set k (gt l k ^^^ gt x k) = sm (l.take (k + 1)) (x.take (k + 1)) ++ List.replicate (l.length - (k + 1)) 0 by
        rw [List.set_append_right _ _ (by omega), hs1, Nat.sub_self, show l.length - k = (l.length - (k + 1)) + 1 by omega, List.replicate_succ, List.set_cons_zero, sm_step l x k hlt hxl]
        simp)
      have HX := hide (xorV (gt l k) (gt x k))
      have HB := hide hB
      have Hf := hide hf
      have b2 : k < x.length := by omega
      clear hB hf hcv hcm hs1 hlen hxl
      generalize gt l k = lk at *
      generalize gt x k = xk at *
      go_wp2_with fail
      go_region
      all_goals
        go_wp2_with fail
        go_roundw
        case rel =>
          refine ⟨k + 1, by omega, by go_num, ?_, (by first | exact ((unhide Hf).drew).setCell (fun h => absurd h (by simp)) _ | exact ((unhide Hf).setCell (fun h => absurd h (by simp)) _).drew)⟩
          rw [← unhide HST, unhide HX]
          exact BAt.set (w := wr.drew) (unhide HB) k _
        case measure => simp [intOf]; omega
    · have hke : k = l.length := by omega
      subst hke
      have HB := hide hB
      clear hB
      go_wp2_with fail
      go_ret2
      refine ⟨⟨_, _, rfl, ?_⟩, hf⟩
      have hB := unhide HB
      rw [List.take_length, unhide HE, List.take_length, Nat.sub_self, List.replicate_zero, List.append_nil] at hB
      have := hB.rd (by rw [unhide HSL]; unfold maxLen; omega)
      rwa [unhide HSL] at this

end Go.Proofs.Ytckmddkhkdcmmaa

namespace Go.Proofs.Ytckmddkhkdcmmaa
set_option linter.unusedVariables false
set_option linter.unusedSimpArgs false
set_option linter.unusedVariables false

/-- The inverse of an element that is not 0. -/
def iv (a : UInt8) : UInt8 := div 1 a

theorem iv_mul {a : UInt8} (h : a ≠ 0) : mul (iv a) a = 1 := div_mul h
theorem mul_iv {a : UInt8} (h : a ≠ 0) : mul a (iv a) = 1 := by rw [mul_comm]; exact iv_mul h
theorem iv_ne {a : UInt8} (h : a ≠ 0) : iv a ≠ 0 := div_ne h
theorem xor_ne {a b : UInt8} (h : a ≠ b) : a ^^^ b ≠ 0 := fun e => h (xor_cancel _ _ e)
theorem mul_cancel {a b c : UInt8} (h : c ≠ 0) (e : mul c a = mul c b) : a = b := by
  have : mul (iv c) (mul c a) = mul (iv c) (mul c b) := by rw [e]
  rwa [← mul_assoc, ← mul_assoc, iv_mul h, one_mul, one_mul] at this

/-- The sum of f over a list. -/
def ss : List UInt8 → (UInt8 → UInt8) → UInt8
  | [], _ => 0
  | y :: t, f => f y ^^^ ss t f

theorem ss_congr {l : List UInt8} {f g : UInt8 → UInt8} (h : ∀ y ∈ l, f y = g y) : ss l f = ss l g := by
  induction l with
  | nil => rfl
  | cons y t ih => simp only [ss]; rw [h y (List.mem_cons_self ..), ih (fun z hz => h z (List.mem_cons_of_mem _ hz))]

theorem ss_zero {l : List UInt8} {f : UInt8 → UInt8} (h : ∀ y ∈ l, f y = 0) : ss l f = 0 := by
  induction l with
  | nil => rfl
  | cons y t ih => simp only [ss]; rw [h y (List.mem_cons_self ..), ih (fun z hz => h z (List.mem_cons_of_mem _ hz))]; rfl

theorem ss_add (l : List UInt8) (f g : UInt8 → UInt8) : ss l (fun y => f y ^^^ g y) = ss l f ^^^ ss l g := by
  induction l with
  | nil => simp only [ss]; rw [UInt8.xor_self]
  | cons y t ih => simp only [ss]; rw [ih, xor4]

theorem ss_mul (l : List UInt8) (c : UInt8) (f : UInt8 → UInt8) : ss l (fun y => mul c (f y)) = mul c (ss l f) := by
  induction l with
  | nil => simp only [ss]; rw [mul_zero]
  | cons y t ih => simp only [ss]; rw [ih, mul_xor2]

theorem ss_append (l m : List UInt8) (f : UInt8 → UInt8) : ss (l ++ m) f = ss l f ^^^ ss m f := by
  induction l with
  | nil => simp only [ss, List.nil_append]; rw [UInt8.zero_xor]
  | cons y t ih => simp only [ss, List.cons_append]; rw [ih, UInt8.xor_assoc]

theorem ss_filter (l : List Nat) (p : Nat → Bool) (f : UInt8 → UInt8) (h : ∀ i ∈ l, p i = false → f (UInt8.ofNat i) = 0) : ss ((l.filter p).map UInt8.ofNat) f = ss (l.map UInt8.ofNat) f := by
  induction l with
  | nil => rfl
  | cons y t ih =>
    have ih := ih (fun z hz => h z (List.mem_cons_of_mem _ hz))
    by_cases hp : p y = true
    · rw [List.filter_cons_of_pos hp]; simp only [ss, List.map_cons]; rw [ih]
    · rw [List.filter_cons_of_neg hp]; simp only [ss, List.map_cons]; rw [ih, h y (List.mem_cons_self ..) (by simpa using hp), UInt8.zero_xor]

theorem cau_split {x y z : UInt8} (h : x ≠ y) : mul (x ^^^ z) (iv (x ^^^ y)) = 1 ^^^ mul (y ^^^ z) (iv (x ^^^ y)) := by
  have e : x ^^^ z = (x ^^^ y) ^^^ (y ^^^ z) := by rw [UInt8.xor_assoc, ← UInt8.xor_assoc y y z, UInt8.xor_self, UInt8.zero_xor]
  rw [e, mul_xor, mul_iv (xor_ne h)]

theorem cau_two {x z y : UInt8} (h1 : x ≠ y) (h2 : z ≠ y) : iv (x ^^^ y) ^^^ iv (z ^^^ y) = mul (x ^^^ z) (mul (iv (x ^^^ y)) (iv (z ^^^ y))) := by
  have e : x ^^^ z = (x ^^^ y) ^^^ (z ^^^ y) := by rw [xor4, UInt8.xor_self, UInt8.xor_zero]
  rw [e, mul_xor, ← mul_assoc, mul_iv (xor_ne h1), one_mul, mul_comm (iv (x ^^^ y)), ← mul_assoc, mul_iv (xor_ne h2), one_mul, UInt8.xor_comm]

/-- Cauchy's matrix: only 0 goes to 0. -/
theorem cauchy (ys : List UInt8) : ∀ (xs : List UInt8) (v : UInt8 → UInt8), ys.length ≤ xs.length → ys.Nodup → xs.Nodup → (∀ x ∈ xs, ∀ y ∈ ys, x ≠ y) → (∀ x ∈ xs, ss ys (fun y => mul (v y) (iv (x ^^^ y))) = 0) → ∀ y ∈ ys, v y = 0 := by
  induction ys with
  | nil => intro xs v _ _ _ _ _ y hy; simp at hy
  | cons y0 t ih =>
    intro xs v hlen ny nx hd hz
    cases xs with
    | nil => simp at hlen
    | cons x0 u =>
      rw [List.nodup_cons] at ny nx
      have hx0 : ∀ y ∈ t, x0 ≠ y := fun y hy => hd x0 (List.mem_cons_self ..) y (List.mem_cons_of_mem _ hy)
      have hx00 : x0 ≠ y0 := hd x0 (List.mem_cons_self ..) y0 (List.mem_cons_self ..)
      have A : ∀ x ∈ x0 :: u, v y0 ^^^ (ss t v ^^^ ss t (fun y => mul (mul (v y) (y ^^^ y0)) (iv (x ^^^ y)))) = 0 := by
        intro x hx
        have hne : x ≠ y0 := hd x hx y0 (List.mem_cons_self ..)
        have h := hz x hx
        simp only [ss] at h
        have h2 : mul (x ^^^ y0) (mul (v y0) (iv (x ^^^ y0)) ^^^ ss t (fun y => mul (v y) (iv (x ^^^ y)))) = 0 := by rw [h, mul_zero]
        rw [mul_xor2, mul_comm (v y0), ← mul_assoc, mul_iv (xor_ne hne), one_mul, ← ss_mul] at h2
        rw [← h2, ← ss_add]
        congr 1
        refine ss_congr (fun y hy => ?_)
        rw [← mul_assoc (x ^^^ y0), mul_comm (x ^^^ y0), mul_assoc (v y) (x ^^^ y0), cau_split (hd x hx y (List.mem_cons_of_mem _ hy)), mul_xor2 (v y) 1, mul_one, mul_assoc]
      have B : ∀ y ∈ t, mul (mul (v y) (y ^^^ y0)) (iv (x0 ^^^ y)) = 0 := by
        refine ih u (fun y => mul (mul (v y) (y ^^^ y0)) (iv (x0 ^^^ y))) (by simpa using hlen) ny.2 nx.2 (fun x hx y hy => hd x (List.mem_cons_of_mem _ hx) y (List.mem_cons_of_mem _ hy)) ?_
        intro x hx
        have hxx : x ≠ x0 := fun e => nx.1 (e ▸ hx)
        have h1 := A x (List.mem_cons_of_mem _ hx)
        have h2 := A x0 (List.mem_cons_self ..)
        have h3 : ss t (fun y => mul (mul (v y) (y ^^^ y0)) (iv (x ^^^ y))) = ss t (fun y => mul (mul (v y) (y ^^^ y0)) (iv (x0 ^^^ y))) := by
          have e := (h1.trans h2.symm)
          have f := fun (a b c : UInt8) (h : a ^^^ b = a ^^^ c) => show b = c by rw [← xsl' a b, h, xsl']
          exact f _ _ _ (f _ _ _ e)
        have h4 : ss t (fun y => mul (mul (v y) (y ^^^ y0)) (iv (x ^^^ y)) ^^^ mul (mul (v y) (y ^^^ y0)) (iv (x0 ^^^ y))) = 0 := by rw [ss_add, h3, UInt8.xor_self]
        have h5 : mul (x ^^^ x0) (ss t (fun y => mul (mul (mul (v y) (y ^^^ y0)) (iv (x0 ^^^ y))) (iv (x ^^^ y)))) = 0 := by
          rw [← ss_mul, ← h4]
          refine ss_congr (fun y hy => ?_)
          rw [← mul_xor2, cau_two (hd x (List.mem_cons_of_mem _ hx) y (List.mem_cons_of_mem _ hy)) (hx0 y hy), mul_assoc (mul (v y) (y ^^^ y0)), mul_comm (iv (x0 ^^^ y)), ← mul_assoc, mul_comm (x ^^^ x0), mul_assoc]
        rw [mul_eq_zero] at h5
        exact h5.resolve_left (xor_ne hxx)
      have C : ∀ y ∈ t, v y = 0 := by
        intro y hy
        have h := B y hy
        rw [mul_eq_zero, mul_eq_zero] at h
        rcases h with (h | h) | h
        · exact h
        · exact absurd h (xor_ne (fun e => ny.1 (e ▸ hy)))
        · exact absurd h (iv_ne (xor_ne (hx0 y hy)))
      intro y hy
      rcases List.mem_cons.1 hy with rfl | hy
      · have h := hz x0 (List.mem_cons_self ..)
        simp only [ss] at h
        rw [ss_zero (fun z hz => by rw [C z hz, zero_mul]), UInt8.xor_zero, mul_eq_zero] at h
        exact h.resolve_right (iv_ne (xor_ne hx00))
      · exact C y hy

/-- The code's coefficients. -/
def co (k i j : Nat) : UInt8 := if i < k then (if i = j then 1 else 0) else iv (UInt8.ofNat i ^^^ UInt8.ofNat j)

theorem nodup_sub {l : List Nat} : ∀ {m : List Nat}, l.Nodup → (∀ x ∈ l, x ∈ m) → l.length ≤ m.length := by
  induction l with
  | nil => intro m _ _; simp
  | cons x t ih =>
    intro m nd h
    rw [List.nodup_cons] at nd
    have hx := h x (List.mem_cons_self ..)
    have h1 := ih (m := m.erase x) nd.2 (fun y hy => (List.mem_erase_of_ne (fun e => nd.1 (by rw [← e]; exact hy))).2 (h y (List.mem_cons_of_mem _ hy)))
    rw [List.length_erase_of_mem hx] at h1
    have := List.length_pos_of_mem hx
    simp only [List.length_cons]
    omega

theorem ofNat_toNat_lt {j : Nat} (h : j < 256) : (UInt8.ofNat j).toNat = j := by simp; omega

theorem sg_ss (k : Nat) (hk : k ≤ 256) (g : Nat → UInt8) : sg k g = ss ((List.range k).map UInt8.ofNat) (fun y => g y.toNat) := by
  induction k with
  | zero => rfl
  | succ k ih =>
    rw [List.range_succ, List.map_append, ss_append]
    simp only [sg, ss, List.map_cons, List.map_nil]
    rw [ih (by omega), ofNat_toNat_lt (by omega), UInt8.xor_zero]

theorem nodup_ofNat {l : List Nat} (h : l.Nodup) (hb : ∀ x ∈ l, x < 256) : (l.map UInt8.ofNat).Nodup := by
  induction l with
  | nil => simp
  | cons x t ih =>
    rw [List.nodup_cons] at h
    rw [List.map_cons, List.nodup_cons]
    refine ⟨?_, ih h.2 (fun y hy => hb y (List.mem_cons_of_mem _ hy))⟩
    intro hx
    obtain ⟨y, hy, e⟩ := List.mem_map.1 hx
    have h1 := ofNat_toNat_lt (hb y (List.mem_cons_of_mem _ hy))
    have h2 := ofNat_toNat_lt (hb x (List.mem_cons_self ..))
    rw [e, h2] at h1
    exact h.1 (by rw [h1]; exact hy)

theorem filter_two (l : List Nat) (p : Nat → Bool) : (l.filter p).length + (l.filter (fun x => !p x)).length = l.length := by
  induction l with
  | nil => rfl
  | cons x t ih =>
    by_cases h : p x = true
    · rw [List.filter_cons_of_pos h, List.filter_cons_of_neg (by simp [h])]; simp only [List.length_cons]; omega
    · rw [List.filter_cons_of_neg h, List.filter_cons_of_pos (by simpa using h)]; simp only [List.length_cons]; omega

/-- Any k rows of the code: only 0 goes to 0. -/
theorem co_reg {k m : Nat} (hk : k + m ≤ 256) (which : List Nat) (hlen : which.length = k) (nd : which.Nodup) (hb : ∀ i ∈ which, i < k + m) (v : Nat → UInt8)
    (hz : ∀ i ∈ which, sg k (fun c => mul (co k i c) (v c)) = 0) (c : Nat) (hc : c < k) : v c = 0 := by
  have hd : ∀ i ∈ which, i < k → v i = 0 := by
    intro i hi hik
    have h := hz i hi
    rw [sg_one (j := i) hik (fun j hj he => by unfold co; rw [if_pos hik, if_neg (fun h => he h.symm), zero_mul])] at h
    unfold co at h
    rwa [if_pos hik, if_pos rfl, one_mul] at h
  by_cases hcw : c ∈ which
  · exact hd c hcw hc
  have h1 : (which.filter (fun i => decide (i < k))).length ≤ ((List.range k).filter (fun i => decide (i ∈ which))).length := by
    refine nodup_sub (nd.filter _) (fun x hx => ?_)
    rw [List.mem_filter] at hx
    rw [List.mem_filter]
    exact ⟨List.mem_range.2 (by simpa using hx.2), by simpa using hx.1⟩
  have h2 := filter_two which (fun i => decide (i < k))
  have h3 := filter_two (List.range k) (fun i => decide (i ∈ which))
  rw [List.length_range] at h3
  have ca := cauchy (((List.range k).filter (fun i => !decide (i ∈ which))).map UInt8.ofNat) ((which.filter (fun i => !decide (i < k))).map UInt8.ofNat) (fun y => v y.toNat)
    (by rw [List.length_map, List.length_map]; omega)
    (nodup_ofNat (List.nodup_range.filter _) (fun x hx => by rw [List.mem_filter, List.mem_range] at hx; omega))
    (nodup_ofNat (nd.filter _) (fun x hx => by have := hb x (List.mem_filter.1 hx).1; omega))
    (by
      intro x hx y hy e
      obtain ⟨i, hi, rfl⟩ := List.mem_map.1 hx
      obtain ⟨j, hj, rfl⟩ := List.mem_map.1 hy
      rw [List.mem_filter] at hi hj
      have a1 := hb i hi.1
      have a2 : ¬ i < k := by simpa using hi.2
      have a3 := List.mem_range.1 hj.1
      have := congrArg UInt8.toNat e
      rw [ofNat_toNat_lt (by omega), ofNat_toNat_lt (by omega)] at this
      omega)
    (by
      intro x hx
      obtain ⟨i, hi, rfl⟩ := List.mem_map.1 hx
      rw [List.mem_filter] at hi
      have a2 : ¬ i < k := by simpa using hi.2
      have h := hz i hi.1
      rw [sg_ss k (by omega)] at h
      rw [ss_filter _ _ _ (fun j hj hp => by
        have j1 := List.mem_range.1 hj
        rw [ofNat_toNat_lt (by omega), hd j (by simpa using hp) j1, zero_mul])]
      rw [← h]
      refine ss_congr (fun y hy => ?_)
      obtain ⟨j, hj, rfl⟩ := List.mem_map.1 hy
      have j1 := List.mem_range.1 hj
      rw [ofNat_toNat_lt (by omega)]
      unfold co
      rw [if_neg a2, mul_comm])
  have := ca (UInt8.ofNat c) (List.mem_map.2 ⟨c, List.mem_filter.2 ⟨List.mem_range.2 hc, by simpa using hcw⟩, rfl⟩)
  simpa [ofNat_toNat_lt (show c < 256 by omega)] using this

/-- The rows of the code with these numbers. -/
def cw (k : Nat) (which : List Nat) : List UInt8 := fl k (fun r c => co k (which[r]?.getD 0) c) (k * k)

theorem cw_length (k : Nat) (which : List Nat) : (cw k which).length = k * k := fl_length _ _ _

theorem cw_reg {k m : Nat} (hk : k + m ≤ 256) (which : List Nat) (hlen : which.length = k) (nd : which.Nodup) (hb : ∀ i ∈ which, i < k + m) : Reg (cw k which) k := by
  intro v hz c hc
  refine co_reg hk which hlen nd hb v (fun i hi => ?_) c hc
  obtain ⟨r, hr, rfl⟩ := List.getElem_of_mem hi
  rw [← hz r (by omega)]
  refine sg_congr (fun c hc => ?_)
  rw [cw, mc_fl (by omega) hc, List.getElem?_eq_getElem hr]; rfl

theorem cw_full {k m : Nat} (hk : k + m ≤ 256) (which : List Nat) (hlen : which.length = k) (nd : which.Nodup) (hb : ∀ i ∈ which, i < k + m) : (invR k (cw k which)).2 = k :=
  full_of_reg (cw_length k which) (cw_reg hk which hlen nd hb)

end Go.Proofs.Ytckmddkhkdcmmaa

namespace Go.Proofs.Ytckmddkhkdcmmaa
set_option linter.unusedVariables false
set_option linter.unusedSimpArgs false
open Go.RowKit
set_option linter.unusedVariables false

attribute [local go_sem ↓] Go.wp_at_zero Go.wp_at_succ

/-- A code of k and m at block p. -/
structure CAt (w : World) (p k m : Nat) : Prop where
  ex : ∃ q, w.heap[p]? = some (.cells #[.int .i64 (k : Int), .int .i64 (m : Int), .slice (some ⟨q, 0, none⟩) ((k + m) * k) ((k + m) * k)] 117 (0, 0)) ∧ BAt w q (fl k (co k) ((k + m) * k))
  hk : 1 ≤ k ∧ k ≤ 16
  hm : m ≤ 8

theorem CAt.kept {S : Nat → Prop} {w w' : World} {p k m : Nat} (h : CAt w p k m) (f : Fr S w w') (hs : ∀ b, b < w.heap.size → ¬ S b) : CAt w' p k m := by
  obtain ⟨q, h1, h2⟩ := h.ex
  exact ⟨⟨q, by rw [f.block p (lt_of_heap h1) (hs _ (lt_of_heap h1))]; exact h1, h2.kept f (hs _ (lt_of_heap h2))⟩, h.hk, h.hm⟩

set_option maxHeartbeats 400000 in
theorem rowOf_any (w : World) (q o i k n cap : Nat) (hi : i ≤ 24) (hk : 1 ≤ k ∧ k ≤ 16) (hc : (i + 1) * k ≤ cap) :
    Calls Try.prog 111 #[.slice (some ⟨q, o, none⟩) n cap, .int .i64 (i : Int), .int .i64 (k : Int)] w fun e w' => e = .returned (.slice (some ⟨q, o + i * k, none⟩) k k) ∧ w = w' := by
  obtain ⟨a, ha⟩ : ∃ a, a = i * k := ⟨_, rfl⟩
  have hb : (i + 1) * k = a + k := by rw [Nat.succ_mul, ha]
  have e1 : (i : Int) * (k : Int) = (a : Int) := by rw [ha]; simp
  have e2 : ((i : Int) + 1) * (k : Int) = ((a + k : Nat) : Int) := by rw [← hb]; simp
  have e3 : ((a + k : Nat) : Int) = (a : Int) + (k : Int) := by simp
  rw [hb] at hc
  have ha2 : a ≤ 24 * 16 := by rw [ha]; exact Nat.mul_le_mul hi hk.2
  rw [← ha]
  clear ha hb
  go_enter Try.func111, Try.ntmps111
  go_wp2
  go_ret
  refine ⟨?_, rfl⟩
  rw [show a + k - a = k by omega]
  rfl

/-- The coefficients of the shard i. -/
def rowL (k i : Nat) : List UInt8 := (List.range k).map (co k i)
theorem rowL_length (k i : Nat) : (rowL k i).length = k := by simp [rowL]
theorem rowL_get (k i j : Nat) (h : j < (rowL k i).length) : (rowL k i)[j] = co k i j := by simp [rowL]

theorem row_raw (w : World) (p q k m i n : Nat) (hp : w.heap[p]? = some (.cells #[.int .i64 (k : Int), .int .i64 (m : Int), .slice (some ⟨q, 0, none⟩) n n] 117 (0, 0))) (hi : i ≤ 24) (hk : 1 ≤ k ∧ k ≤ 16) (hc : (i + 1) * k ≤ n) (hn : n ≤ 100000) :
    Calls Try.prog 91 #[.pointer (some ⟨p, 0, none⟩), .int .i64 (i : Int)] w fun e w' => e = .returned (.slice (some ⟨q, i * k, none⟩) k k) ∧ ∃ j, w' = w.drewN j := by
  have c0 := cell_of_heap hp 0
  have c2 := cell_of_heap hp 2
  simp at c0 c2
  clear hp
  have H := hide (fun W => (rowOf_any W q 0 i k n n hi hk hc).mono (fun e w' (h : e = _ ∧ W = w') => show e = _ ∧ w' = W from ⟨h.1, h.2.symm⟩))
  clear hi hc hn hk
  go_enter Try.func91, Try.ntmps91
  go_wp2_with fail
  go_quiet ((go_at_call 111; exact Calls.quiet_of_same (unhide H _)))
  go_wp2_with fail
  go_ret
  refine ⟨?_, _, rfl⟩
  rw [Nat.zero_add]
  rfl

theorem rd_row {w : World} {q k m i : Nat} (h : BAt w q (fl k (co k) ((k + m) * k))) (hk : 1 ≤ k ∧ k ≤ 16) (hi : i < k + m) : Rd w (.slice (some ⟨q, i * k, none⟩) k k) (rowL k i) := by
  refine Rd.lit (rowL_length k i) (Nat.le_refl _) (by simp only [maxLen]; omega) fun j hj => ?_
  have hj' : j < k := by rwa [rowL_length] at hj
  rw [h.cell (i * k + j) (by rw [fl_length]; exact mul_step hi hj'), fl_get, rowL_get, Nat.mul_comm i k, Nat.mul_add_div (by omega), Nat.div_eq_of_lt hj', Nat.mul_add_mod, Nat.mod_eq_of_lt hj', Nat.add_zero]

/-- A row of a code, where it is kept. -/
theorem row_any (w : World) (p k m i : Nat) (h : CAt w p k m) (hi : i < k + m) :
    Calls Try.prog 91 #[.pointer (some ⟨p, 0, none⟩), .int .i64 (i : Int)] w fun e w' => (∃ q, e = .returned (.slice (some ⟨q, i * k, none⟩) k k) ∧ Rd w' (.slice (some ⟨q, i * k, none⟩) k k) (rowL k i) ∧ q < w.heap.size) ∧ Fr (fun _ => False) w w' := by
  obtain ⟨q, h1, h2⟩ := h.ex
  have hk := h.hk
  have hm := h.hm
  have hle : (i + 1) * k ≤ (k + m) * k := Nat.mul_le_mul_right _ hi
  have hn : (k + m) * k ≤ 24 * 16 := Nat.mul_le_mul (by omega) hk.2
  refine (row_raw w p q k m i _ h1 (by omega) hk hle (by omega)).mono ?_
  rintro e w' ⟨rfl, j, rfl⟩
  exact ⟨⟨q, rfl, rd_row (h2.kept (Fr.ofDrewN (S := fun _ => False) w j) id) hk hi, lt_of_heap h2⟩, Fr.ofDrewN w j⟩

/-- copy into a part of a block of bytes. -/
theorem copy_any (w : World) (g o dLen dCap : Nat) (A : List UInt8) (x : Value) (cs : List UInt8) (hA : BAt w g A) (hx : Rd w x cs) (hle : cs.length ≤ dLen) (hfit : o + dLen ≤ A.length) :
    ∃ w', (Builtin.copy_ #[22, 22] 3 #[.slice (some ⟨g, o, none⟩) dLen dCap, x]).run Try.prog w = .ok (.int .i64 (cs.length : Int)) w' ∧ BAt w' g (A.take o ++ cs ++ A.drop (o + cs.length)) ∧ Fr (fun b => b = g) w w' := by
  obtain ⟨ao, cap, rfl⟩ := hx.shape
  by_cases h0 : 0 < cs.length
  · obtain ⟨b, so, rfl, -, h1, h2, h3⟩ := hx.lits h0
    have hn : Nat.min cs.length dLen = cs.length := Nat.min_eq_left hle
    have := run_copy_row (P := Try.prog) w 22 22 3 5 g o dLen dCap ⟨b, so, none⟩ cs.length cap (bvs A).toArray 5 (bvs cs) Try.underlying22 (by kernel_rfl) hA (by rw [bvs_length, hn])
      (fun j v hv => by
        have hj : j < cs.length := by
          have := (List.getElem?_eq_some_iff.1 hv).1
          rwa [bvs_length] at this
        rw [Addr.add_lit, h3 j hj]
        rw [bvs_get cs j hj] at hv
        exact hv) (by rw [bvs_length, List.size_toArray, bvs_length]; omega) (bvs_one _)
    refine ⟨_, by rw [this, bvs_length]; rfl, ?_, ?_⟩
    · unfold BAt
      rw [setRow_heap w g _ _ _ _ hA]
      unfold bvs
      simp [List.map_take, List.map_drop]
    · exact ⟨rfl, rfl, rfl, by simp, fun k hk hs => setRow_other w g k _ hs⟩
  · have he : cs = [] := List.eq_nil_of_length_eq_zero (by omega)
    subst he
    refine ⟨w, ?_, ?_, Fr.refl _ _⟩
    · have := run_copy_none (P := Try.prog) w 22 22 3 5 (some ⟨g, o, none⟩) ao dLen dCap 0 cap Try.underlying22 (by kernel_rfl) (by simp)
      exact this
    · simpa using hA

theorem bat_new (w : World) (l : List UInt8) : BAt (w.alloc (Obj.cells (bvs l).toArray 5)) w.heap.size l := heap_alloc_new w _

/-- make([]byte, n): the new world by a name of its own. -/
theorem mk_any (w : World) (n : Nat) (hn : n ≤ 100000) : ∃ w1, (Instr.makeSlice 22 (.int .i64 (n : Int)) (.int .i64 (n : Int))).run Try.prog w = .ok (.slice (some ⟨w.heap.size, 0, none⟩) n n) w1 ∧ BAt w1 w.heap.size (List.replicate n 0) ∧ Fr (fun _ => False) w w1 :=
  ⟨_, run_make5 n (by omega) w, bat_new w _, (Fr.refl _ _).alloc _⟩

/-- copyOf: the same bytes in a new block. -/
theorem copyOf_any (w : World) (v : Value) (l : List UInt8) (hv : Rd w v l) (hl : l.length ≤ 100000) :
    Calls Try.prog 90 #[v] w fun e w' => e = .returned (.slice (some ⟨w.heap.size, 0, none⟩) l.length l.length) ∧ BAt w' w.heap.size l ∧ Fr (fun _ => False) w w' := by
  have hmk := run_make5 l.length (by omega) w
  obtain ⟨w2, hcp, hB, hf⟩ := copy_any (w.alloc (.cells (bvs (List.replicate l.length 0)).toArray 5)) w.heap.size 0 l.length l.length (List.replicate l.length 0) v l (bat_new w _) (hv.kept ((Fr.refl (fun _ => False) w).alloc _) (fun _ _ h => h)) (Nat.le_refl _) (by simp)
  have e1 : List.take 0 (List.replicate l.length (0 : UInt8)) ++ l ++ List.drop (0 + l.length) (List.replicate l.length 0) = l := by simp
  rw [e1] at hB
  have hF : Fr (fun _ => False) w w2 := ((Fr.refl (fun _ => False) w).alloc _).trans hf (fun i hi h => by omega)
  have HB := hide hB
  have HF := hide hF
  obtain ⟨ao, cap, rfl⟩ := hv.shape
  clear hv hB hF hf e1
  go_enter Try.func90, Try.ntmps90
  go_wp2_with fail
  go_ret
  exact ⟨rfl, unhide HB, unhide HF⟩

end Go.Proofs.Ytckmddkhkdcmmaa
