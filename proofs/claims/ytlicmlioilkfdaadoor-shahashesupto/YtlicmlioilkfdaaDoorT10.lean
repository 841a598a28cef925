/-
  Trees: a path, and the document's.
-/
import Derived.Test.YtlicmlioilkfdaaDoorT9
import Derived.Test.YtlicmlioilkfdaaDoorCg2
namespace Go.Proofs.YtlicmlioilkfdaaDoor
open Go.RowKit
set_option linter.unusedVariables false
set_option linter.unusedSimpArgs false

attribute [local go_sem ↓] Go.wp_at_zero Go.wp_at_succ

/-- The others beside the way up from i. -/
def oth (ls : List Dg) (i : Nat) : List Dg :=
  if h : ls.length ≤ 1 then []
  else if i < hf ls.length then oth (ls.take (hf ls.length)) i ++ [root (ls.drop (hf ls.length))]
  else oth (ls.drop (hf ls.length)) (i - hf ls.length) ++ [root (ls.take (hf ls.length))]
termination_by ls.length
decreasing_by
  all_goals have hb := hf_bounds ls.length (by omega)
  · simp; omega
  · simp; omega

theorem oth_one (ls : List Dg) (i : Nat) (h : ls.length ≤ 1) : oth ls i = [] := by rw [oth, dif_pos h]
theorem oth_left (ls : List Dg) (i : Nat) (h : 2 ≤ ls.length) (hi : i < hf ls.length) : oth ls i = oth (ls.take (hf ls.length)) i ++ [root (ls.drop (hf ls.length))] := by rw [oth, dif_neg (by omega), if_pos hi]
theorem oth_right (ls : List Dg) (i : Nat) (h : 2 ≤ ls.length) (hi : ¬ i < hf ls.length) : oth ls i = oth (ls.drop (hf ls.length)) (i - hf ls.length) ++ [root (ls.take (hf ls.length))] := by rw [oth, dif_neg (by omega), if_neg hi]

/-- Digests as cells. -/
def dcs (ls : List Dg) : List Value := ls.flatMap bvs
theorem dcs_snoc (ls : List Dg) (d : Dg) : dcs (ls ++ [d]) = dcs ls ++ bvs d := by simp [dcs]
theorem dcs_length (ls : List Dg) (h : ∀ d ∈ ls, d.length = 32) : (dcs ls).length = ls.length * 32 := by
  induction ls with
  | nil => rfl
  | cons d ls ih =>
    have h1 := h d (by simp)
    have h2 := ih (fun x hx => h x (by simp [hx]))
    simp only [dcs, List.flatMap_cons, List.length_append, List.length_cons, bvs_length] at *
    omega
theorem dcs_get (ls : List Dg) (h : ∀ d ∈ ls, d.length = 32) (j t : Nat) (hj : j < ls.length) (ht : t < 32) : (dcs ls)[32 * j + t]? = (bvs ls[j])[t]? := by
  induction ls generalizing j with
  | nil => simp at hj
  | cons d ls ih =>
    have h1 := h d (by simp)
    show (bvs d ++ dcs ls)[32 * j + t]? = _
    cases j with
    | zero =>
      rw [List.getElem?_append_left (by rw [bvs_length]; omega)]
      simp
    | succ j =>
      rw [List.getElem?_append_right (by rw [bvs_length]; omega), bvs_length, h1, show 32 * (j + 1) + t - 32 = 32 * j + t by omega, ih (fun x hx => h x (by simp [hx])) j (by simpa using hj)]
      simp

theorem oth_32 (n : Nat) : ∀ (ls : List Dg) (i : Nat), ls.length = n → (∀ d ∈ ls, d.length = 32) → (∀ d ∈ oth ls i, d.length = 32) ∧ (oth ls i).length ≤ n := by
  induction n using Nat.strongRecOn with
  | ind n ih =>
  intro ls i hn h
  by_cases h1 : ls.length ≤ 1
  · rw [oth_one ls i h1]; simp
  · have hb := hf_bounds ls.length (by omega)
    have ht : ∀ d ∈ ls.take (hf ls.length), d.length = 32 := fun d hd => h d (List.mem_of_mem_take hd)
    have hr : ∀ d ∈ ls.drop (hf ls.length), d.length = 32 := fun d hd => h d (List.mem_of_mem_drop hd)
    by_cases hi : i < hf ls.length
    · rw [oth_left ls i (by omega) hi]
      have := ih (hf ls.length) (by omega) (ls.take (hf ls.length)) i (by simp; omega) ht
      refine ⟨fun d hd => ?_, by simp; omega⟩
      rcases List.mem_append.1 hd with hd | hd
      · exact this.1 d hd
      · simp at hd; subst hd; exact root_length _ hr
    · rw [oth_right ls i (by omega) hi]
      have := ih (ls.length - hf ls.length) (by omega) (ls.drop (hf ls.length)) (i - hf ls.length) (by simp) hr
      refine ⟨fun d hd => ?_, by simp; omega⟩
      rcases List.mem_append.1 hd with hd | hd
      · exact this.1 d hd
      · simp at hd; subst hd; exact root_length _ ht

/-- Digests in memory newer than N, that may be appended to. -/
def DOw (N : Nat) (w : World) (v : Value) (ls : List Dg) : Prop := (∀ d ∈ ls, d.length = 32) ∧ w.ownsRow N 26 32 v ls.length (dcs ls)

theorem DOw.shape {N : Nat} {w : World} {v : Value} {ls : List Dg} (h : DOw N w v ls) : ∃ ao cap, v = .slice ao ls.length cap := owns_shape h.2
theorem DOw.new {N : Nat} {w : World} {v : Value} {ls : List Dg} (h : DOw N w v ls) : ∀ k, v.ownBlock = some k → N ≤ k ∧ k < w.heap.size := by
  intro k hk
  rcases h.2.2 with ⟨rfl, _⟩ | ⟨g, cap, cur, rfl, hb, hg, _⟩
  · simp [Value.ownBlock] at hk
  · simp only [Value.ownBlock, Option.some.injEq] at hk
    subst hk
    exact ⟨hb, lt_of_heap hg⟩
theorem DOw.kept {N : Nat} {w w' : World} {v : Value} {ls : List Dg} (h : DOw N w v ls) (f : Fr (fun _ => False) w w') : DOw N w' v ls := by
  refine ⟨h.1, h.2.1, ?_⟩
  rcases h.2.2 with h4 | ⟨g, cap, cur, rfl, hb, hg, r⟩
  · exact .inl h4
  · exact .inr ⟨g, cap, cur, rfl, hb, by rw [f.block g (lt_of_heap hg) id]; exact hg, r⟩
theorem DOw.base {N N2 : Nat} {w : World} {v : Value} {ls : List Dg} (h : DOw N w v ls) (hN : N2 ≤ N) : DOw N2 w v ls := by
  refine ⟨h.1, h.2.1, ?_⟩
  rcases h.2.2 with h4 | ⟨g, cap, cur, e, hb, r⟩
  · exact .inl h4
  · exact .inr ⟨g, cap, cur, e, by omega, r⟩
theorem DOw.rd {N : Nat} {w : World} {v : Value} {ls : List Dg} (h : DOw N w v ls) : DRd w v ls := by
  refine ⟨h.1, ?_⟩
  rcases h.2.2 with ⟨rfl, hn⟩ | ⟨g, cap, cur, rfl, hb, hg, hnc, hcm, hcs, htake⟩
  · exact .inl ⟨_, _, rfl, List.eq_nil_of_length_eq_zero hn⟩
  · refine .inr ⟨g, 0, cap, rfl, hnc, hcm, fun j hj t v hv => ?_⟩
    have ht : t < 32 := by have := (List.getElem?_eq_some_iff.1 hv).1; rw [bvs_length, h.1 _ (List.getElem_mem hj)] at this; exact this
    rw [Nat.zero_add, cell_of_heap hg, ← Array.getElem?_toList]
    have e : (dcs ls)[32 * j + t]? = cur.toList[32 * j + t]? := by
      rw [← htake, List.getElem?_take_of_lt (by omega)]
    rw [← e, dcs_get ls h.1 j t hj ht, hv]

theorem Tryd.info26b : (Tryd.prog.info? 26).map (fun i => (i.zero.map (fun z => z.cells.size), i.size, i.bytes)) = some (some 32, 32, 32) := by kernel_rfl

theorem info26_parts : ∃ i z, Tryd.prog.info? 26 = some i ∧ i.zero = some z ∧ i.size = 32 ∧ i.bytes = 32 ∧ z.cells.size = 32 := by
  have h := Tryd.info26b
  cases hi : Tryd.prog.info? 26 with
  | none => rw [hi] at h; simp at h
  | some i =>
    rw [hi] at h
    simp at h
    obtain ⟨⟨z, hz, hzs⟩, h1, h2⟩ := h
    exact ⟨i, z, rfl, hz, h1, h2, hzs⟩

/-- A literal of one digest is appended. -/
theorem app_dig {N : Nat} {w : World} {v : Value} {ls : List Dg} {d : Dg} {g0 : Nat} (h : DOw N w v ls) (hd : d.length = 32) (hg0 : w.heap[g0]? = some (.cells (bvs d).toArray 26 (0, 0))) (hl : ls.length ≤ 2000000) (ty : TypeId) (hN : N ≤ w.heap.size) :
    ∃ ao cap w', (Builtin.append_ #[59, 59] ty #[v, .slice (some ⟨g0, 0, none⟩) 1 1]).run Tryd.prog w = .ok (.slice ao (ls.length + 1) cap) w' ∧ DOw N w' (.slice ao (ls.length + 1) cap) (ls ++ [d]) ∧ Fr (fun k => N ≤ k) w w' := by
  obtain ⟨i, z, hi, hz, hsz, hby, hzs⟩ := info26_parts
  have hown : w.ownsRow 0 26 32 v ls.length (dcs ls) := by
    refine ⟨h.2.1, ?_⟩
    rcases h.2.2 with h4 | ⟨g, cap, cur, e, hb, r⟩
    · exact .inl h4
    · exact .inr ⟨g, cap, cur, e, Nat.zero_le _, r⟩
  have hsr : Sr w 32 (.slice (some ⟨g0, 0, none⟩) 1 1) 1 (bvs d) := by
    refine .inr ⟨_, _, rfl, by rw [bvs_length, hd], fun j u hu => ?_⟩
    rw [Addr.add_lit, Nat.zero_add, cell_of_heap hg0]
    simpa using hu
  obtain ⟨v', w', hr, h2, h3, h4⟩ := run_app (P := Tryd.prog) w 59 ty 26 i z 32 32 Tryd.u59 hi hz hsz hby hzs (by decide) v ls.length (dcs ls) hown _ 1 (bvs d) hsr (bvs_one _) (by omega) (by unfold maxLen; omega)
  obtain ⟨ao, cap, rfl⟩ := owns_shape h2
  have hnew : ∀ k, (Value.slice ao (ls.length + 1) cap).ownBlock = some k → N ≤ k := by
    intro k hk
    rcases h4 with e | e
    · rw [e] at hk; exact (h.new k hk).1
    · rw [e] at hk; simp at hk; omega
  refine ⟨ao, cap, w', hr, ⟨fun x hx => ?_, ?_⟩, ?_⟩
  · rcases List.mem_append.1 hx with hx | hx
    · exact h.1 x hx
    · simp at hx; subst hx; exact hd
  · rw [dcs_snoc, List.length_append]
    refine ⟨h2.1, ?_⟩
    rcases h2.2 with h5 | ⟨g, cap', cur, e, _, r⟩
    · exact .inl h5
    · exact .inr ⟨g, cap', cur, e, hnew g (by rw [e]; rfl), r⟩
  · exact (Fr.refl (fun k => N ≤ k) w).grown h3 (fun k hk e => (h.new k e).1)

/-- What an operation leaves, and until when. -/
inductive Kg where
  | eq (u : Value)
  | own (ls : List Dg)
  | dig (d : Dg)
  | fin (ls : List Dg)

def Kg.holds (N : Nat) (kd : Kg) (k : Nat) (v : Value) (w : World) : Prop := match kd with
  | .eq u => v = u
  | .own ls => k = 0 → DOw N w v ls
  | .dig d => k = 0 → ∃ g, v = .slice (some ⟨g, 0, none⟩) 1 1 ∧ w.heap[g]? = some (.cells (bvs d).toArray 26 (0, 0))
  | .fin ls => match k with | 0 => False | 1 => DOw N w v ls | _ => True

def Tg (N : Nat) (ks : List Kg) (k i : Nat) (v : Value) (w : World) : Prop := ∀ kd, ks[i]? = some kd → kd.holds N k v w

theorem Tg.mono (N : Nat) (ks : List Kg) (k i : Nat) (v : Value) (w1 w2 : World) (h : Tg N ks k i v w1) (f : Fr (fun _ => False) w1 w2) : Tg N ks k i v w2 := by
  intro kd hkd
  have h1 := h kd hkd
  cases kd with
  | eq u => exact h1
  | own ls => exact fun e => (h1 e).kept f
  | dig d =>
    intro e
    obtain ⟨g, hg, hb⟩ := h1 e
    exact ⟨g, hg, by rw [f.block g (lt_of_heap hb) id]; exact hb⟩
  | fin ls =>
    match k, h1 with
    | 0, h1 => exact h1
    | 1, h1 => exact DOw.kept (show DOw N w1 v ls from h1) f
    | k + 2, _ => exact trivial

theorem Tg.monoC (N : Nat) (ks : List Kg) (k i : Nat) (v : Value) (w1 w2 : World) (h : Tg N ks k i v w1) (f : Fr (fun k => N ≤ k) w1 w2) : Tg N ks (k + 1) i v w2 := by
  intro kd hkd
  have h1 := h kd hkd
  cases kd with
  | eq u => exact h1
  | own ls => exact fun e => by omega
  | dig d => exact fun e => by omega
  | fin ls =>
    match k, h1 with
    | 0, h1 => exact (show False from h1).elim
    | k + 1, _ => exact trivial

section
variable {P : Program} {o : Oper} {a : Act} {w : World} {Q : Exit → Act → World → Prop} {N : Nat} {St : Nat → World → Prop} {T : Nat → Nat → Value → World → Prop} {calls : List Nat} {i k : Nat}
theorem left2_val (v : Value) (hi : i ∉ calls) (hs : St k w) (h : (execOp a.eval o).run P w = .ok (.value v) w) (hT : T k i v w) : o.wp P a w (Left2 (fun w w' => Fr (fun _ => False) w w') (fun w w' => Fr (fun k => N ≤ k) w w') St T calls i o k a w) Q := by
  unfold Oper.wp
  rw [h, Oper.upon_value]
  exact ⟨v, rfl, by rw [if_neg hi]; exact hT, fun _ => Fr.refl _ _, fun h => absurd h hi, by rw [if_neg hi]; exact hs⟩
theorem left2_new (v : Value) (w2 : World) (hi : i ∉ calls) (hs : St k w2) (f : Fr (fun _ => False) w w2) (h : (execOp a.eval o).run P w = .ok (.value v) w2) (hT : T k i v w2) : o.wp P a w (Left2 (fun w w' => Fr (fun _ => False) w w') (fun w w' => Fr (fun k => N ≤ k) w w') St T calls i o k a w) Q := by
  unfold Oper.wp
  rw [h, Oper.upon_value]
  exact ⟨v, rfl, by rw [if_neg hi]; exact hT, fun _ => f, fun h => absurd h hi, by rw [if_neg hi]; exact hs⟩
theorem left2_chain (v : Value) (w2 : World) (hi : i ∈ calls) (hs : St (k + 1) w2) (f : Fr (fun k => N ≤ k) w w2) (h : (execOp a.eval o).run P w = .ok (.value v) w2) (hT : T (k + 1) i v w2) : o.wp P a w (Left2 (fun w w' => Fr (fun _ => False) w w') (fun w w' => Fr (fun k => N ≤ k) w w') St T calls i o k a w) Q := by
  unfold Oper.wp
  rw [h, Oper.upon_value]
  exact ⟨v, rfl, by rw [if_pos hi]; exact hT, fun h => absurd hi h, fun _ => f, by rw [if_pos hi]; exact hs⟩
theorem left2_call (f : Nat) (args : Array Value) (hi : i ∉ calls) (h : (execOp a.eval o).run P w = .ok (.enter f args) w)
    (hc : Calls P f args w fun e w' => ∃ v, e = .returned v ∧ T k i v w' ∧ Fr (fun _ => False) w w' ∧ St k w') : o.wp P a w (Left2 (fun w w' => Fr (fun _ => False) w w') (fun w w' => Fr (fun k => N ≤ k) w w') St T calls i o k a w) Q := by
  unfold Oper.wp
  rw [h, Oper.upon_enter]
  refine hc.mono ?_
  rintro e w' ⟨v, rfl, hT, f, hs⟩
  exact ⟨v, rfl, by rw [if_neg hi]; exact hT, fun _ => f, fun h => absurd h hi, by rw [if_neg hi]; exact hs⟩
end

theorem xk_sliceLo {ρ : Operand → Value} {o : Oper} {w : World} {x y : Operand} {b of L cap m : Nat} (ho : o.op = .slice 59 x (some y) none none) (hx : ρ x = .slice (some ⟨b, of, none⟩) L cap) (hy : ρ y = .int .i64 ((m : Nat) : Int)) (hm : m ≤ L) (hL : L ≤ cap) (hc : m < cap) : (execOp ρ o).run Tryd.prog w = .ok (.value (.slice (some ⟨b, of + m * 32, none⟩) (L - m) (cap - m))) w := by
  have h1 : ((m : Nat) : Int) ≤ ((L : Nat) : Int) := by omega
  have h2 : ¬ cap = m := by omega
  have h3 : ¬ cap - m = 0 := by omega
  have h4 : ((L : Nat) : Int) ≤ ((cap : Nat) : Int) := by omega
  simp [execOp, ho, hx, hy, go_sem, h1, h2, h3, h4, hm, hL]

theorem ex_app59 {ρ : Operand → Value} {o : Oper} {w w' : World} {s x : Operand} {u v r : Value} (ho : o.op = .call { callee := .builtin .append, args := #[s, x], argTypes := #[59, 59] }) (hs : ρ s = u) (hx : ρ x = v) (hr : (Builtin.append_ #[59, 59] o.type #[u, v]).run Tryd.prog w = .ok r w') : (execOp ρ o).run Tryd.prog w = .ok (.value r) w' := by
  simp only [execOp, ho, resolve, invoke, builtin, Sem.run_bind, Sem.run_pure, Result.andThen_ok, List.map_toArray, List.map_cons, List.map_nil, hs, hx, hr]
theorem cfk54 (args : Array Value) (W : World) : Sem.run Tryd.prog (callFunc 54 args) W = .ok (.enter 54 args) W := by simp [go_sem]
theorem cfk38 (args : Array Value) (W : World) : Sem.run Tryd.prog (callFunc 38 args) W = .ok (.enter 38 args) W := by simp [go_sem]

set_option maxHeartbeats 2000000 in
set_option maxRecDepth 100000 in
theorem others_any (n : Nat) : ∀ (w : World) (v : Value) (ls : List Dg) (i : Nat), ls.length = n → i < n → n ≤ 1000000 → Tb w → DRd w v ls → Calls Tryd.prog 54 #[v, .int .i64 ((i : Nat) : Int)] w fun e w' => ∃ v', e = .returned v' ∧ DOw w.heap.size w' v' (oth ls i) ∧ Fr (fun _ => False) w w' := by
  induction n using Nat.strongRecOn with
  | ind n ih =>
  intro w v ls i hn hi hle T hv
  obtain ⟨ao, cap, rfl⟩ := hv.shape
  subst hn
  by_cases h1 : ls.length = 1
  · rw [oth_one ls i (by omega)]
    have c1 : (((ls.length : Nat) : Int) == 1) = true := beq_iff_eq.2 (by omega)
    clear hv T ih
    go_enter Tryd.func54, Tryd.ntmps54
    go_wp2_with fail
    go_ret
    exact ⟨_, rfl, ⟨by simp, World.ownsRow_nil _ _ _ _⟩, Fr.refl _ _⟩
  · have c1 : (((ls.length : Nat) : Int) == 1) = false := beq_eq_false_iff_ne.2 (by omega)
    have hb := hf_bounds ls.length (by omega)
    obtain ⟨b, o, rfl, -, hnc, hcm, hbl, hc⟩ := hv.lits (by omega)
    have HH := hide fun W => half_any W ls.length (by omega) (by omega)
    have hdA : DRd w (.slice (some ⟨b, o, none⟩) (hf ls.length) cap) (ls.take (hf ls.length)) := hv.take (by omega) (hf ls.length) (by omega)
    have hdB : DRd w (.slice (some ⟨b, o + hf ls.length * 32, none⟩) (ls.length - hf ls.length) (cap - hf ls.length)) (ls.drop (hf ls.length)) := by rw [Nat.mul_comm]; exact hv.drop (hf ls.length) hb.2.1
    by_cases hl : i < hf ls.length
    · have hmore := oth_left ls i (by omega) hl
      have hhA := oth_32 (ls.take (hf ls.length)).length (ls.take (hf ls.length)) (i) rfl hdA.1
      have hrl := root_length (ls.drop (hf ls.length)) hdB.1
      have HG := hide fun (W : World) (f : Fr (fun _ => False) w W) => ih (ls.take (hf ls.length)).length (by simp; omega) W _ (ls.take (hf ls.length)) (i) rfl (by simp; omega) (by simp; omega) (T.kept f id id) (hdA.kept f)
      have HR := hide fun (W : World) (f : Fr (fun _ => False) w W) => root_any (ls.drop (hf ls.length)).length W _ (ls.drop (hf ls.length)) rfl (by simp; omega) (T.kept f id id) (hdB.kept f)
      have hAl : (oth (ls.take (hf ls.length)) (i)).length ≤ 1000000 := by
        have h9 := hhA.2
        simp at h9
        omega
      rw [hmore]
      generalize oth (ls.take (hf ls.length)) (i) = oA at *
      generalize root (ls.drop (hf ls.length)) = D at *
      generalize hf ls.length = k at *
      have hk0 := hb.1
      have hkL := hb.2.1
      have hli : ((i : Nat) : Int) < ((k : Nat) : Int) := by omega
      have hk1 : ((k : Nat) : Int) ≤ ((ls.length : Nat) : Int) := by omega
      have hk2 : ((k : Nat) : Int) ≤ ((cap : Nat) : Int) := by omega
      have hk3 : k ≤ cap := by omega
      have hk4 : k ≤ ls.length := by omega
      have hk5 : ¬ cap = k := by omega
      have hk6 : ¬ cap - k = 0 := by omega
      have HRL := hide hrl
      have HAL := hide hAl
      clear hmore hdA hdB ih hv T hc hb hhA hrl hAl
      generalize ls.length = L at *
      go_enter Tryd.func54, Tryd.ntmps54
      go_wp2_with fail
      refine (unhide HH _).mono ?_
      rintro e w1 ⟨rfl, hw1⟩
      subst hw1
      clear HH
      go_wp2_with fail
      refine wp_nameK ?_
      intro a0 hA
      have h0 : a0.tmps.getD 0 undef = Value.slice (some ⟨b, o, none⟩) L cap := by rw [hA]; rfl
      have h1 : a0.tmps.getD 1 undef = .int .i64 ((i : Nat) : Int) := by rw [hA]; rfl
      have h5 : a0.tmps.getD 5 undef = .int .i64 ((k : Nat) : Int) := by rw [hA]; rfl
      have hsz : a0.tmps.size = 39 := by rw [hA]; rfl
      have hdf : a0.defers = [] := by rw [hA]
      clear hA
      refine wp_region_chain2 (by kernel_rfl) (by kernel_rfl) (by decide +kernel) (by rw [hsz]; decide +kernel) (fun w' w'' => Fr (fun k => w.heap.size ≤ k) w' w'') (fun w w' => Fr (fun _ => False) w w') (fun w' w'' => Fr (fun k => w.heap.size ≤ k) w' w'') (Fr.refl _ _).drew (fun _ _ _ h k => h.trans k (fun _ _ h => h)) (fun _ _ h => h.mono (fun _ _ h => h.elim)) (fun _ _ h => h)
        (Tg w.heap.size [.eq (Value.slice (some ⟨b, o, none⟩) L cap), .eq (.int .i64 ((k : Nat) : Int)), .eq (Value.slice (some ⟨b, o, none⟩) k cap), .eq (.int .i64 ((i : Nat) : Int)), .own oA, .eq (Value.slice (some ⟨b, o, none⟩) L cap), .eq (.int .i64 ((k : Nat) : Int)), .eq (Value.slice (some ⟨b, o + k * 32, none⟩) (L - k) (cap - k)), .eq (.agg (bvs D).toArray), .dig D, .fin (oA ++ [D]), .fin (oA ++ [D])]) (Tg.mono _ _) (Tg.monoC _ _) [10] (by decide) (by decide) (chain_paths _ [] (by kernel_rfl)) (fun _ _ => True) trivial ?steps ?done
      case steps =>
        refine ⟨?_, ?_⟩
        · intro a' w' k' hb hf hs hc hd
          exact ⟨wanted_none rfl, left2_val (Value.slice (some ⟨b, o, none⟩) L cap) (by decide) trivial (xk_move rfl ((hb.old 0 (by decide +kernel)).trans h0)) (fun _ h => by obtain rfl := Option.some.inj h; rfl)⟩
        refine ⟨?_, ?_⟩
        · intro a' w' k' hb hf hs hc hd
          exact ⟨wanted_none rfl, left2_val (.int .i64 ((k : Nat) : Int)) (by decide) trivial (xk_move rfl ((hb.old 5 (by decide +kernel)).trans h5)) (fun _ h => by obtain rfl := Option.some.inj h; rfl)⟩
        refine ⟨?_, ?_⟩
        · intro a' w' k' hb hf hs hc hd
          exact ⟨wanted_none rfl, left2_val (Value.slice (some ⟨b, o, none⟩) k cap) (by decide) trivial (xk_slice rfl ((hd 0 (by kernel_rfl) 15 rfl) _ rfl) ((hd 1 (by kernel_rfl) 16 rfl) _ rfl) hk3) (fun _ h => by obtain rfl := Option.some.inj h; rfl)⟩
        refine ⟨?_, ?_⟩
        · intro a' w' k' hb hf hs hc hd
          exact ⟨wanted_none rfl, left2_val (.int .i64 ((i : Nat) : Int)) (by decide) trivial (xk_move rfl ((hb.old 1 (by decide +kernel)).trans h1)) (fun _ h => by obtain rfl := Option.some.inj h; rfl)⟩
        refine ⟨?_, ?_⟩
        · intro a' w' k' hb hf hs hc hd
          exact ⟨wanted_none rfl, left2_call 54 _ (by decide) (en_call2 rfl rfl ((hd 2 (by kernel_rfl) 17 rfl) _ rfl) ((hd 3 (by kernel_rfl) 18 rfl) _ rfl) cfk54) ((unhide HG _ (hf.mono (fun j hj h => by omega))).mono (by rintro e w7 ⟨v7, rfl, o7, f7⟩; exact ⟨_, rfl, fun _ h => (by obtain rfl := Option.some.inj h; exact fun _ => o7.base (by have := hf.size; omega)), f7, trivial⟩))⟩
        refine ⟨?_, ?_⟩
        · intro a' w' k' hb hf hs hc hd
          exact ⟨wanted_none rfl, left2_val (Value.slice (some ⟨b, o, none⟩) L cap) (by decide) trivial (xk_move rfl ((hb.old 0 (by decide +kernel)).trans h0)) (fun _ h => by obtain rfl := Option.some.inj h; rfl)⟩
        refine ⟨?_, ?_⟩
        · intro a' w' k' hb hf hs hc hd
          exact ⟨wanted_none rfl, left2_val (.int .i64 ((k : Nat) : Int)) (by decide) trivial (xk_move rfl ((hb.old 5 (by decide +kernel)).trans h5)) (fun _ h => by obtain rfl := Option.some.inj h; rfl)⟩
        refine ⟨?_, ?_⟩
        · intro a' w' k' hb hf hs hc hd
          exact ⟨wanted_none rfl, left2_val (Value.slice (some ⟨b, o + k * 32, none⟩) (L - k) (cap - k)) (by decide) trivial (xk_sliceLo rfl ((hd 5 (by kernel_rfl) 20 rfl) _ rfl) ((hd 6 (by kernel_rfl) 21 rfl) _ rfl) hk4 hnc (by omega)) (fun _ h => by obtain rfl := Option.some.inj h; rfl)⟩
        refine ⟨?_, ?_⟩
        · intro a' w' k' hb hf hs hc hd
          exact ⟨wanted_none rfl, left2_call 38 _ (by decide) (en_call1 rfl rfl ((hd 7 (by kernel_rfl) 22 rfl) _ rfl) cfk38) ((unhide HR _ (hf.mono (fun j hj h => by omega))).mono (by rintro e w7 ⟨rfl, f7⟩; exact ⟨_, rfl, fun _ h => (by obtain rfl := Option.some.inj h; rfl), f7, trivial⟩))⟩
        refine ⟨?_, ?_⟩
        · intro a' w' k' hb hf hs hc hd
          exact ⟨wanted_none rfl, left2_new _ _ (by decide) trivial ((Fr.refl _ _).alloc _) (ex_build59 (unhide HRL) rfl ((hd 8 (by kernel_rfl) 23 rfl) _ rfl)) (fun _ h => (by obtain rfl := Option.some.inj h; exact fun _ => ⟨_, rfl, heap_alloc_new _ _⟩))⟩
        refine ⟨?_, ?_⟩
        · intro a' w' k' hb hf hs hc hd
          obtain rfl := hc 0 rfl
          obtain ⟨g0, hg0, hb0⟩ := (hd 9 (by kernel_rfl) 24 rfl) _ rfl rfl
          obtain ⟨ao2, cap2, w2, hr2, ho2, hf2⟩ := app_dig ((hd 4 (by kernel_rfl) 19 rfl) _ rfl rfl) (unhide HRL) hb0 (by have := unhide HAL; omega) 59 (hf.size)
          exact ⟨wanted_none rfl, left2_chain _ _ (by decide) trivial hf2 (ex_app59 rfl rfl hg0 hr2) (fun _ h => by obtain rfl := Option.some.inj h; exact ho2)⟩
        refine ⟨?_, ?_⟩
        · intro a' w' k' hb hf hs hc hd
          have h9 := (hd 10 (by kernel_rfl) 25 rfl) _ rfl
          exact ⟨wanted_none rfl, left2_val _ (by decide) trivial (xk_assign rfl rfl) (fun _ h => by obtain rfl := Option.some.inj h; exact h9)⟩
        exact trivial
      case done =>
        intro a' w' hb hf hs hall
        have h9 : DOw w.heap.size w' (a'.tmps.getD 4 undef) (oA ++ [D]) := (hall 11 (by decide) 4 rfl) _ rfl
        have hdf' : a'.defers = [] := by rw [hb.defers]; exact hdf
        have hr : bodyPost Tryd.prog Tryd.f54 (fun e w' => ∃ v', e = Ending.returned v' ∧ DOw w.heap.size w' v' (oA ++ [D]) ∧ Fr (fun _ => False) w w') .ret a' w' :=
          bodyPost_ret (results_tmp rfl _ _ _) hdf' ⟨_, rfl, h9, hf.mono (fun j hj h => by omega)⟩
        clear hall hb
        apply_assumption
        exact wp_ret hr
    · have hmore := oth_right ls i (by omega) hl
      have hhA := oth_32 (ls.drop (hf ls.length)).length (ls.drop (hf ls.length)) (i - hf ls.length) rfl hdB.1
      have hrl := root_length (ls.take (hf ls.length)) hdA.1
      have HG := hide fun (W : World) (f : Fr (fun _ => False) w W) => ih (ls.drop (hf ls.length)).length (by simp; omega) W _ (ls.drop (hf ls.length)) (i - hf ls.length) rfl (by simp; omega) (by simp; omega) (T.kept f id id) (hdB.kept f)
      have HR := hide fun (W : World) (f : Fr (fun _ => False) w W) => root_any (ls.take (hf ls.length)).length W _ (ls.take (hf ls.length)) rfl (by simp; omega) (T.kept f id id) (hdA.kept f)
      have e1 : ((i : Nat) : Int) - ((hf ls.length : Nat) : Int) = ((i - hf ls.length : Nat) : Int) := by omega
      have hAl : (oth (ls.drop (hf ls.length)) (i - hf ls.length)).length ≤ 1000000 := by
        have h9 := hhA.2
        simp at h9
        omega
      rw [hmore]
      generalize oth (ls.drop (hf ls.length)) (i - hf ls.length) = oA at *
      generalize root (ls.take (hf ls.length)) = D at *
      generalize i - hf ls.length = i2 at *
      generalize hf ls.length = k at *
      have hk0 := hb.1
      have hkL := hb.2.1
      have hli : ¬ ((i : Nat) : Int) < ((k : Nat) : Int) := by omega
      have hk1 : ((k : Nat) : Int) ≤ ((ls.length : Nat) : Int) := by omega
      have hk2 : ((k : Nat) : Int) ≤ ((cap : Nat) : Int) := by omega
      have hk3 : k ≤ cap := by omega
      have hk4 : k ≤ ls.length := by omega
      have hk5 : ¬ cap = k := by omega
      have hk6 : ¬ cap - k = 0 := by omega
      have HRL := hide hrl
      have HAL := hide hAl
      clear hmore hdA hdB ih hv T hc hb hhA hrl hAl
      generalize ls.length = L at *
      go_enter Tryd.func54, Tryd.ntmps54
      go_wp2_with fail
      refine (unhide HH _).mono ?_
      rintro e w1 ⟨rfl, hw1⟩
      subst hw1
      clear HH
      go_wp2_with fail
      refine wp_nameK ?_
      intro a0 hA
      have h0 : a0.tmps.getD 0 undef = Value.slice (some ⟨b, o, none⟩) L cap := by rw [hA]; rfl
      have h1 : a0.tmps.getD 1 undef = .int .i64 ((i : Nat) : Int) := by rw [hA]; rfl
      have h5 : a0.tmps.getD 5 undef = .int .i64 ((k : Nat) : Int) := by rw [hA]; rfl
      have hsz : a0.tmps.size = 39 := by rw [hA]; rfl
      have hdf : a0.defers = [] := by rw [hA]
      clear hA
      refine wp_region_chain2 (by kernel_rfl) (by kernel_rfl) (by decide +kernel) (by rw [hsz]; decide +kernel) (fun w' w'' => Fr (fun k => w.heap.size ≤ k) w' w'') (fun w w' => Fr (fun _ => False) w w') (fun w' w'' => Fr (fun k => w.heap.size ≤ k) w' w'') (Fr.refl _ _).drew (fun _ _ _ h k => h.trans k (fun _ _ h => h)) (fun _ _ h => h.mono (fun _ _ h => h.elim)) (fun _ _ h => h)
        (Tg w.heap.size [.eq (Value.slice (some ⟨b, o, none⟩) L cap), .eq (.int .i64 ((k : Nat) : Int)), .eq (Value.slice (some ⟨b, o + k * 32, none⟩) (L - k) (cap - k)), .eq (.int .i64 ((i : Nat) : Int)), .eq (.int .i64 ((k : Nat) : Int)), .eq (.int .i64 ((i2 : Nat) : Int)), .own oA, .eq (Value.slice (some ⟨b, o, none⟩) L cap), .eq (.int .i64 ((k : Nat) : Int)), .eq (Value.slice (some ⟨b, o, none⟩) k cap), .eq (.agg (bvs D).toArray), .dig D, .fin (oA ++ [D]), .fin (oA ++ [D])]) (Tg.mono _ _) (Tg.monoC _ _) [12] (by decide) (by decide) (chain_paths _ [] (by kernel_rfl)) (fun _ _ => True) trivial ?steps ?done
      case steps =>
        refine ⟨?_, ?_⟩
        · intro a' w' k' hb hf hs hc hd
          exact ⟨wanted_none rfl, left2_val (Value.slice (some ⟨b, o, none⟩) L cap) (by decide) trivial (xk_move rfl ((hb.old 0 (by decide +kernel)).trans h0)) (fun _ h => by obtain rfl := Option.some.inj h; rfl)⟩
        refine ⟨?_, ?_⟩
        · intro a' w' k' hb hf hs hc hd
          exact ⟨wanted_none rfl, left2_val (.int .i64 ((k : Nat) : Int)) (by decide) trivial (xk_move rfl ((hb.old 5 (by decide +kernel)).trans h5)) (fun _ h => by obtain rfl := Option.some.inj h; rfl)⟩
        refine ⟨?_, ?_⟩
        · intro a' w' k' hb hf hs hc hd
          exact ⟨wanted_none rfl, left2_val (Value.slice (some ⟨b, o + k * 32, none⟩) (L - k) (cap - k)) (by decide) trivial (xk_sliceLo rfl ((hd 0 (by kernel_rfl) 26 rfl) _ rfl) ((hd 1 (by kernel_rfl) 27 rfl) _ rfl) hk4 hnc (by omega)) (fun _ h => by obtain rfl := Option.some.inj h; rfl)⟩
        refine ⟨?_, ?_⟩
        · intro a' w' k' hb hf hs hc hd
          exact ⟨wanted_none rfl, left2_val (.int .i64 ((i : Nat) : Int)) (by decide) trivial (xk_move rfl ((hb.old 1 (by decide +kernel)).trans h1)) (fun _ h => by obtain rfl := Option.some.inj h; rfl)⟩
        refine ⟨?_, ?_⟩
        · intro a' w' k' hb hf hs hc hd
          exact ⟨wanted_none rfl, left2_val (.int .i64 ((k : Nat) : Int)) (by decide) trivial (xk_move rfl ((hb.old 5 (by decide +kernel)).trans h5)) (fun _ h => by obtain rfl := Option.some.inj h; rfl)⟩
        refine ⟨?_, ?_⟩
        · intro a' w' k' hb hf hs hc hd
          exact ⟨wanted_none rfl, left2_val (.int .i64 ((i2 : Nat) : Int)) (by decide) trivial (xk_sub rfl ((hd 3 (by kernel_rfl) 29 rfl) _ rfl) ((hd 4 (by kernel_rfl) 30 rfl) _ rfl) (by omega) (by omega) (by omega)) (fun _ h => by obtain rfl := Option.some.inj h; rfl)⟩
        refine ⟨?_, ?_⟩
        · intro a' w' k' hb hf hs hc hd
          exact ⟨wanted_none rfl, left2_call 54 _ (by decide) (en_call2 rfl rfl ((hd 2 (by kernel_rfl) 28 rfl) _ rfl) ((hd 5 (by kernel_rfl) 31 rfl) _ rfl) cfk54) ((unhide HG _ (hf.mono (fun j hj h => by omega))).mono (by rintro e w7 ⟨v7, rfl, o7, f7⟩; exact ⟨_, rfl, fun _ h => (by obtain rfl := Option.some.inj h; exact fun _ => o7.base (by have := hf.size; omega)), f7, trivial⟩))⟩
        refine ⟨?_, ?_⟩
        · intro a' w' k' hb hf hs hc hd
          exact ⟨wanted_none rfl, left2_val (Value.slice (some ⟨b, o, none⟩) L cap) (by decide) trivial (xk_move rfl ((hb.old 0 (by decide +kernel)).trans h0)) (fun _ h => by obtain rfl := Option.some.inj h; rfl)⟩
        refine ⟨?_, ?_⟩
        · intro a' w' k' hb hf hs hc hd
          exact ⟨wanted_none rfl, left2_val (.int .i64 ((k : Nat) : Int)) (by decide) trivial (xk_move rfl ((hb.old 5 (by decide +kernel)).trans h5)) (fun _ h => by obtain rfl := Option.some.inj h; rfl)⟩
        refine ⟨?_, ?_⟩
        · intro a' w' k' hb hf hs hc hd
          exact ⟨wanted_none rfl, left2_val (Value.slice (some ⟨b, o, none⟩) k cap) (by decide) trivial (xk_slice rfl ((hd 7 (by kernel_rfl) 33 rfl) _ rfl) ((hd 8 (by kernel_rfl) 34 rfl) _ rfl) hk3) (fun _ h => by obtain rfl := Option.some.inj h; rfl)⟩
        refine ⟨?_, ?_⟩
        · intro a' w' k' hb hf hs hc hd
          exact ⟨wanted_none rfl, left2_call 38 _ (by decide) (en_call1 rfl rfl ((hd 9 (by kernel_rfl) 35 rfl) _ rfl) cfk38) ((unhide HR _ (hf.mono (fun j hj h => by omega))).mono (by rintro e w7 ⟨rfl, f7⟩; exact ⟨_, rfl, fun _ h => (by obtain rfl := Option.some.inj h; rfl), f7, trivial⟩))⟩
        refine ⟨?_, ?_⟩
        · intro a' w' k' hb hf hs hc hd
          exact ⟨wanted_none rfl, left2_new _ _ (by decide) trivial ((Fr.refl _ _).alloc _) (ex_build59 (unhide HRL) rfl ((hd 10 (by kernel_rfl) 36 rfl) _ rfl)) (fun _ h => (by obtain rfl := Option.some.inj h; exact fun _ => ⟨_, rfl, heap_alloc_new _ _⟩))⟩
        refine ⟨?_, ?_⟩
        · intro a' w' k' hb hf hs hc hd
          obtain rfl := hc 0 rfl
          obtain ⟨g0, hg0, hb0⟩ := (hd 11 (by kernel_rfl) 37 rfl) _ rfl rfl
          obtain ⟨ao2, cap2, w2, hr2, ho2, hf2⟩ := app_dig ((hd 6 (by kernel_rfl) 32 rfl) _ rfl rfl) (unhide HRL) hb0 (by have := unhide HAL; omega) 59 (hf.size)
          exact ⟨wanted_none rfl, left2_chain _ _ (by decide) trivial hf2 (ex_app59 rfl rfl hg0 hr2) (fun _ h => by obtain rfl := Option.some.inj h; exact ho2)⟩
        refine ⟨?_, ?_⟩
        · intro a' w' k' hb hf hs hc hd
          have h9 := (hd 12 (by kernel_rfl) 38 rfl) _ rfl
          exact ⟨wanted_none rfl, left2_val _ (by decide) trivial (xk_assign rfl rfl) (fun _ h => by obtain rfl := Option.some.inj h; exact h9)⟩
        exact trivial
      case done =>
        intro a' w' hb hf hs hall
        have h9 : DOw w.heap.size w' (a'.tmps.getD 4 undef) (oA ++ [D]) := (hall 13 (by decide) 4 rfl) _ rfl
        have hdf' : a'.defers = [] := by rw [hb.defers]; exact hdf
        have hr : bodyPost Tryd.prog Tryd.f54 (fun e w' => ∃ v', e = Ending.returned v' ∧ DOw w.heap.size w' v' (oA ++ [D]) ∧ Fr (fun _ => False) w w') .ret a' w' :=
          bodyPost_ret (results_tmp rfl _ _ _) hdf' ⟨_, rfl, h9, hf.mono (fun j hj h => by omega)⟩
        clear hall hb
        apply_assumption
        exact wp_ret hr

end Go.Proofs.YtlicmlioilkfdaaDoor
