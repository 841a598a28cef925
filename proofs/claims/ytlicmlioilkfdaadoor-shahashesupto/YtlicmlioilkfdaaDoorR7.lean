/-
  The walk of the document's Save.
-/
import Derived.Test.YtlicmlioilkfdaaDoorP2
import Derived.Test.YtlicmlioilkfdaaDoorR5
import Derived.Test.YtlicmlioilkfdaaDoorT10
namespace Go.Proofs.YtlicmlioilkfdaaDoor
open Go.RowKit
set_option linter.unusedVariables false
set_option linter.unusedSimpArgs false

attribute [local go_sem ↓] Go.wp_at_zero Go.wp_at_succ

/-- Bytes in memory newer than N, that may be appended to. -/
def OwN (N : Nat) (w : World) (v : Value) (l : List UInt8) : Prop := Ow w v l ∧ ∀ k, v.ownBlock = some k → N ≤ k

/-- Bytes are appended. -/
theorem app_own {N : Nat} {w : World} {v x : Value} {l q : List UInt8} (h : OwN N w v l) (hx : Rd w x q) (hl : l.length + q.length ≤ 100000000) (ty : TypeId) (hN : N ≤ w.heap.size) :
    ∃ v' w', (Builtin.append_ #[22, 22] ty #[v, x]).run Tryd.prog w = .ok v' w' ∧ OwN N w' v' (l ++ q) ∧ Fr (fun k => N ≤ k) w w' := by
  obtain ⟨i, hi, hz0, hz1, hz2⟩ := info_parts Tryd.info5
  obtain ⟨v', w', hr, h2, h3, h4⟩ := run_app (P := Tryd.prog) w 22 ty 5 i _ 1 1 Tryd.underlying22 hi hz0 hz1 hz2 rfl (by decide) v l.length (bvs l) h.1 x q.length (bvs q) hx.sr (bvs_one _) (by omega) (by unfold maxLen; omega)
  refine ⟨v', w', hr, ⟨?_, fun k hk => ?_⟩, (Fr.refl (fun k => N ≤ k) w).grown h3 (fun k hk e => h.2 k e)⟩
  · unfold Ow
    rw [List.length_append, bvs_append]
    exact h2
  · rcases h4 with e | e
    · rw [e] at hk; exact h.2 k hk
    · rw [e] at hk; simp at hk; omega

/-- What an operation leaves, and until when. -/
inductive Kw where
  | eq (u : Value)
  | ow (m : Nat) (l : List UInt8)
  | rd (m : Nat) (l : List UInt8)

def Kw.holds (N : Nat) (kd : Kw) (k : Nat) (v : Value) (w : World) : Prop := match kd with
  | .eq u => v = u
  | .ow m l => m ≤ k ∧ (k = m → OwN N w v l)
  | .rd m l => m ≤ k ∧ (k = m → Rd w v l)

def Tw2 (N : Nat) (ks : List Kw) (k i : Nat) (v : Value) (w : World) : Prop := ∀ kd, ks[i]? = some kd → kd.holds N k v w

theorem Tw2.mono (N : Nat) (ks : List Kw) (k i : Nat) (v : Value) (w1 w2 : World) (h : Tw2 N ks k i v w1) (f : Fr (fun _ => False) w1 w2) : Tw2 N ks k i v w2 := by
  intro kd hkd
  have h1 := h kd hkd
  cases kd with
  | eq u => exact h1
  | ow m l => exact ⟨h1.1, fun e => ⟨(h1.2 e).1.kept f (fun _ _ h => h), (h1.2 e).2⟩⟩
  | rd m l => exact ⟨h1.1, fun e => (h1.2 e).kept f (fun _ _ h => h)⟩

theorem Tw2.monoC (N : Nat) (ks : List Kw) (k i : Nat) (v : Value) (w1 w2 : World) (h : Tw2 N ks k i v w1) (f : Fr (fun k => N ≤ k) w1 w2) : Tw2 N ks (k + 1) i v w2 := by
  intro kd hkd
  have h1 := h kd hkd
  cases kd with
  | eq u => exact h1
  | ow m l => exact ⟨by have := h1.1; omega, fun e => by have := h1.1; omega⟩
  | rd m l => exact ⟨by have := h1.1; omega, fun e => by have := h1.1; omega⟩

section
variable {ρ : Operand → Value} {o : Oper} {w : World}
theorem xk_nil {x : Operand} {ad : Addr} (ho : o.op = .nilCheck x) (hx : ρ x = .pointer (some ad)) : (execOp ρ o).run Tryd.prog w = .ok (.value (.pointer (some ad))) w := by
  simp [execOp, ho, hx, go_sem]
theorem xk_f0 {x : Operand} {p : Nat} (ho : o.op = .fieldAddr 52 x 0) (hx : ρ x = .pointer (some ⟨p, 0, none⟩)) : (execOp ρ o).run Tryd.prog w = .ok (.value (.pointer (some ⟨p, 0, none⟩))) w := by
  simp [execOp, ho, hx, go_sem]
theorem xk_f1 {x : Operand} {p : Nat} (ho : o.op = .fieldAddr 52 x 1) (hx : ρ x = .pointer (some ⟨p, 0, none⟩)) : (execOp ρ o).run Tryd.prog w = .ok (.value (.pointer (some ⟨p, 8, none⟩))) w := by
  simp [execOp, ho, hx, go_sem]
theorem xk_f2 {x : Operand} {p : Nat} (ho : o.op = .fieldAddr 52 x 2) (hx : ρ x = .pointer (some ⟨p, 0, none⟩)) : (execOp ρ o).run Tryd.prog w = .ok (.value (.pointer (some ⟨p, 9, none⟩))) w := by
  simp [execOp, ho, hx, go_sem]
theorem xk_l48 {x : Operand} {b of : Nat} {v : Value} (ho : o.op = .load 48 x) (hx : ρ x = .pointer (some ⟨b, of, none⟩)) (hc : w.cell? ⟨b, of, none⟩ = some v) : (execOp ρ o).run Tryd.prog w = .ok (.value v) w := by
  simp [execOp, ho, hx, go_sem, hc]
theorem xk_l22 {x : Operand} {b of : Nat} {v : Value} (ho : o.op = .load 22 x) (hx : ρ x = .pointer (some ⟨b, of, none⟩)) (hc : w.cell? ⟨b, of, none⟩ = some v) : (execOp ρ o).run Tryd.prog w = .ok (.value v) w := by
  simp [execOp, ho, hx, go_sem, hc]
theorem xk_l50 {x : Operand} {b of : Nat} {l : List Wd} (ho : o.op = .load 50 x) (hx : ρ x = .pointer (some ⟨b, of, none⟩)) (hl : l.length = 8) (hc : w.rangeAt b of (wvs l)) : (execOp ρ o).run Tryd.prog w = .ok (.value (.agg (wvs l).toArray)) w := by
  have := run_loadAt_mid (P := Tryd.prog) w b of 50 (wvs l) _ hc Tryd.u50 rfl (by rw [wvs_length, hl]; exact Tryd.s50)
  simp [execOp, ho, hx, this]
theorem ex_app22 {w' : World} {s x : Operand} {u v r : Value} (ho : o.op = .call { callee := .builtin .append, args := #[s, x], argTypes := #[22, 22] }) (hs : ρ s = u) (hx : ρ x = v) (hr : (Builtin.append_ #[22, 22] o.type #[u, v]).run Tryd.prog w = .ok r w') : (execOp ρ o).run Tryd.prog w = .ok (.value r) w' := by
  simp only [execOp, ho, resolve, invoke, builtin, Sem.run_bind, Sem.run_pure, Result.andThen_ok, List.map_toArray, List.map_cons, List.map_nil, hs, hx, hr]
end
theorem cfk47 (args : Array Value) (W : World) : Sem.run Tryd.prog (callFunc 47 args) W = .ok (.enter 47 args) W := by simp [go_sem]
theorem cfk48 (args : Array Value) (W : World) : Sem.run Tryd.prog (callFunc 48 args) W = .ok (.enter 48 args) W := by simp [go_sem]

set_option maxHeartbeats 2000000 in
set_option maxRecDepth 100000 in
theorem rsave_any (w : World) (p : Nat) (s : St) (n : Nat) (v : Value) (r : List UInt8) (h : GAt w p s n v r) :
    Calls Tryd.prog 23 #[.pointer (some ⟨p, 0, none⟩)] w fun e w' => (∃ v', e = .returned v' ∧ OwN w.heap.size w' v' (svB s n r)) ∧ Fr (fun _ => False) w w' := by
  have hsm := h.small
  have hlt := h.lt
  have HC0 := hide fun (W : World) (f : Fr (fun k => w.heap.size ≤ k) w W) => (show W.rangeAt p 0 (wvs s.l) from fun j u hu => by
    have hj : j < 8 := by have := (List.getElem?_eq_some_iff.1 hu).1; rwa [wvs_length] at this
    rw [Nat.zero_add, f.cell (a := ⟨p, j, none⟩) hlt (by show ¬ w.heap.size ≤ p; omega), h.word j hj]
    rw [wvs_get _ _ hj] at hu
    exact hu)
  have HC8 := hide fun (W : World) (f : Fr (fun k => w.heap.size ≤ k) w W) => (f.cell (a := ⟨p, 8, none⟩) hlt (by show ¬ w.heap.size ≤ p; omega)).trans h.num
  have HC9 := hide fun (W : World) (f : Fr (fun k => w.heap.size ≤ k) w W) => (f.cell (a := ⟨p, 9, none⟩) hlt (by show ¬ w.heap.size ≤ p; omega)).trans h.val
  have HR := hide fun (W : World) (f : Fr (fun k => w.heap.size ≤ k) w W) => h.rest.kept f (fun b hb => by have := (h.ne b hb).2; omega)
  have hsv : svB s n r = sb s ++ lb n ++ r := rfl
  rw [hsv]
  clear h hsv
  go_enter Tryd.func23, Tryd.ntmps23
  go_wp2_with fail
  refine wp_nameK ?_
  intro a0 hA
  have h0 : a0.tmps.getD 0 undef = Value.pointer (some ⟨p, 0, none⟩) := by rw [hA]; rfl
  have hsz : a0.tmps.size = 19 := by rw [hA]; rfl
  have hdf : a0.defers = [] := by rw [hA]
  clear hA
  refine wp_region_chain2 (by kernel_rfl) (by kernel_rfl) (by decide +kernel) (by rw [hsz]; decide +kernel) (fun w' w'' => Fr (fun k => w.heap.size ≤ k) w' w'') (fun w w' => Fr (fun _ => False) w w') (fun w' w'' => Fr (fun k => w.heap.size ≤ k) w' w'') (Fr.refl _ _).drew (fun _ _ _ h k => h.trans k (fun _ _ h => h)) (fun _ _ h => h.mono (fun _ _ h => h.elim)) (fun _ _ h => h)
    (Tw2 w.heap.size [.eq (Value.pointer (some ⟨p, 0, none⟩)), .eq (Value.pointer (some ⟨p, 0, none⟩)), .eq (Value.pointer (some ⟨p, 0, none⟩)), .eq (.agg (wvs s.l).toArray), .ow 0 (sb s), .eq (Value.pointer (some ⟨p, 0, none⟩)), .eq (Value.pointer (some ⟨p, 0, none⟩)), .eq (.pointer (some ⟨p, 8, none⟩)), .eq (.int .u64 ((n : Nat) : Int)), .rd 0 (lb n), .ow 1 (sb s ++ lb n), .eq (Value.pointer (some ⟨p, 0, none⟩)), .eq (Value.pointer (some ⟨p, 0, none⟩)), .eq (.pointer (some ⟨p, 9, none⟩)), .eq v, .ow 2 (sb s ++ lb n ++ r), .ow 2 (sb s ++ lb n ++ r)]) (Tw2.mono _ _) (Tw2.monoC _ _) [10, 15] (by decide) (by decide) (chain_paths _ [[10]] (by kernel_rfl)) (fun _ _ => True) trivial ?steps ?done
  case steps =>
    refine ⟨?_, ?_⟩
    · intro a' w' k' hb hf hs hc hd
      exact ⟨wanted_none rfl, left2_val (Value.pointer (some ⟨p, 0, none⟩)) (by decide) trivial (xk_move rfl ((hb.old 0 (by decide +kernel)).trans h0)) (fun _ h => by obtain rfl := Option.some.inj h; rfl)⟩
    refine ⟨?_, ?_⟩
    · intro a' w' k' hb hf hs hc hd
      exact ⟨wanted_none rfl, left2_val (Value.pointer (some ⟨p, 0, none⟩)) (by decide) trivial (xk_nil rfl ((hd 0 (by kernel_rfl) 3 rfl) _ rfl)) (fun _ h => by obtain rfl := Option.some.inj h; rfl)⟩
    refine ⟨?_, ?_⟩
    · intro a' w' k' hb hf hs hc hd
      exact ⟨wanted_none rfl, left2_val (Value.pointer (some ⟨p, 0, none⟩)) (by decide) trivial (xk_f0 rfl ((hd 1 (by kernel_rfl) 4 rfl) _ rfl)) (fun _ h => by obtain rfl := Option.some.inj h; rfl)⟩
    refine ⟨?_, ?_⟩
    · intro a' w' k' hb hf hs hc hd
      exact ⟨wanted_none rfl, left2_val (.agg (wvs s.l).toArray) (by decide) trivial (xk_l50 rfl ((hd 2 (by kernel_rfl) 5 rfl) _ rfl) rfl (unhide HC0 _ hf)) (fun _ h => by obtain rfl := Option.some.inj h; rfl)⟩
    refine ⟨?_, ?_⟩
    · intro a' w' k' hb hf hs hc hd
      exact ⟨wanted_none rfl, left2_call 47 _ (by decide) (en_call1 rfl rfl ((hd 3 (by kernel_rfl) 6 rfl) _ rfl) cfk47) ((words_any w' s).mono (by rintro e w7 ⟨⟨v7, rfl, o7, n7⟩, f7⟩; exact ⟨_, rfl, fun _ h => (by obtain rfl := Option.some.inj h; exact ⟨Nat.zero_le _, fun _ => ⟨o7, fun j hj => Nat.le_trans hf.size (n7 j hj)⟩⟩), f7, trivial⟩))⟩
    refine ⟨?_, ?_⟩
    · intro a' w' k' hb hf hs hc hd
      exact ⟨wanted_none rfl, left2_val (Value.pointer (some ⟨p, 0, none⟩)) (by decide) trivial (xk_move rfl ((hb.old 0 (by decide +kernel)).trans h0)) (fun _ h => by obtain rfl := Option.some.inj h; rfl)⟩
    refine ⟨?_, ?_⟩
    · intro a' w' k' hb hf hs hc hd
      exact ⟨wanted_none rfl, left2_val (Value.pointer (some ⟨p, 0, none⟩)) (by decide) trivial (xk_nil rfl ((hd 5 (by kernel_rfl) 8 rfl) _ rfl)) (fun _ h => by obtain rfl := Option.some.inj h; rfl)⟩
    refine ⟨?_, ?_⟩
    · intro a' w' k' hb hf hs hc hd
      exact ⟨wanted_none rfl, left2_val (.pointer (some ⟨p, 8, none⟩)) (by decide) trivial (xk_f1 rfl ((hd 6 (by kernel_rfl) 9 rfl) _ rfl)) (fun _ h => by obtain rfl := Option.some.inj h; rfl)⟩
    refine ⟨?_, ?_⟩
    · intro a' w' k' hb hf hs hc hd
      exact ⟨wanted_none rfl, left2_val (.int .u64 ((n : Nat) : Int)) (by decide) trivial (xk_l48 rfl ((hd 7 (by kernel_rfl) 10 rfl) _ rfl) (unhide HC8 _ hf)) (fun _ h => by obtain rfl := Option.some.inj h; rfl)⟩
    refine ⟨?_, ?_⟩
    · intro a' w' k' hb hf hs hc hd
      exact ⟨wanted_none rfl, left2_call 48 _ (by decide) (en_call1 rfl rfl ((hd 8 (by kernel_rfl) 11 rfl) _ rfl) cfk48) ((eight_any w' n).mono (by rintro e w7 ⟨⟨b7, rfl, n7, r7⟩, f7⟩; exact ⟨_, rfl, fun _ h => (by obtain rfl := Option.some.inj h; exact ⟨Nat.zero_le _, fun _ => r7⟩), f7, trivial⟩))⟩
    refine ⟨?_, ?_⟩
    · intro a' w' k' hb hf hs hc hd
      obtain rfl := hc 0 rfl
      obtain ⟨v2, w2, hr2, ho2, hf2⟩ := app_own (((hd 4 (by kernel_rfl) 7 rfl) _ rfl).2 rfl) (((hd 9 (by kernel_rfl) 12 rfl) _ rfl).2 rfl) (by rw [sb_length, lb_length]; omega) 22 hf.size
      exact ⟨wanted_none rfl, left2_chain _ _ (by decide) trivial hf2 (ex_app22 rfl rfl rfl hr2) (fun _ h => by obtain rfl := Option.some.inj h; exact ⟨Nat.le_refl _, fun _ => ho2⟩)⟩
    refine ⟨?_, ?_⟩
    · intro a' w' k' hb hf hs hc hd
      exact ⟨wanted_none rfl, left2_val (Value.pointer (some ⟨p, 0, none⟩)) (by decide) trivial (xk_move rfl ((hb.old 0 (by decide +kernel)).trans h0)) (fun _ h => by obtain rfl := Option.some.inj h; rfl)⟩
    refine ⟨?_, ?_⟩
    · intro a' w' k' hb hf hs hc hd
      exact ⟨wanted_none rfl, left2_val (Value.pointer (some ⟨p, 0, none⟩)) (by decide) trivial (xk_nil rfl ((hd 11 (by kernel_rfl) 14 rfl) _ rfl)) (fun _ h => by obtain rfl := Option.some.inj h; rfl)⟩
    refine ⟨?_, ?_⟩
    · intro a' w' k' hb hf hs hc hd
      exact ⟨wanted_none rfl, left2_val (.pointer (some ⟨p, 9, none⟩)) (by decide) trivial (xk_f2 rfl ((hd 12 (by kernel_rfl) 15 rfl) _ rfl)) (fun _ h => by obtain rfl := Option.some.inj h; rfl)⟩
    refine ⟨?_, ?_⟩
    · intro a' w' k' hb hf hs hc hd
      exact ⟨wanted_none rfl, left2_val (v) (by decide) trivial (xk_l22 rfl ((hd 13 (by kernel_rfl) 16 rfl) _ rfl) (unhide HC9 _ hf)) (fun _ h => by obtain rfl := Option.some.inj h; rfl)⟩
    refine ⟨?_, ?_⟩
    · intro a' w' k' hb hf hs hc hd
      obtain rfl := hc 1 rfl
      have hv17 := (hd 14 (by kernel_rfl) 17 rfl) _ rfl
      obtain ⟨v2, w2, hr2, ho2, hf2⟩ := app_own (((hd 10 (by kernel_rfl) 13 rfl) _ rfl).2 rfl) (unhide HR _ hf) (by rw [List.length_append, sb_length, lb_length]; omega) 22 hf.size
      exact ⟨wanted_none rfl, left2_chain _ _ (by decide) trivial hf2 (ex_app22 rfl rfl hv17 hr2) (fun _ h => by obtain rfl := Option.some.inj h; exact ⟨Nat.le_refl _, fun _ => ho2⟩)⟩
    refine ⟨?_, ?_⟩
    · intro a' w' k' hb hf hs hc hd
      have h9 := (hd 15 (by kernel_rfl) 18 rfl) _ rfl
      exact ⟨wanted_none rfl, left2_val _ (by decide) trivial (xk_assign rfl rfl) (fun _ h => by obtain rfl := Option.some.inj h; exact h9)⟩
    exact trivial
  case done =>
    intro a' w' hb hf hs hall
    have h9 : OwN w.heap.size w' (a'.tmps.getD 2 undef) (sb s ++ lb n ++ r) := ((hall 16 (by decide) 2 rfl) _ rfl).2 rfl
    have hdf' : a'.defers = [] := by rw [hb.defers]; exact hdf
    have hr : bodyPost Tryd.prog Tryd.f23 (fun e w' => (∃ v', e = Ending.returned v' ∧ OwN w.heap.size w' v' (sb s ++ lb n ++ r)) ∧ Fr (fun _ => False) w w') .ret a' w' :=
      bodyPost_ret (results_tmp rfl _ _ _) hdf' ⟨⟨_, rfl, h9⟩, hf.mono (fun j hj h => by omega)⟩
    clear hall hb
    apply_assumption
    exact wp_ret hr
end Go.Proofs.YtlicmlioilkfdaaDoor
