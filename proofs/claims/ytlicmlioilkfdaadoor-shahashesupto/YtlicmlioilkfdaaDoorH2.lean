/-
  What Write does, plainly; copies into a row; regions whose calls lay new blocks.
-/
import Derived.Test.YtlicmlioilkfdaaDoorH1
import Derived.Lib.QuietBelow
namespace Go.Proofs.YtlicmlioilkfdaaDoor
open Go.RowKit Go.Sort
set_option linter.unusedVariables false
set_option linter.unusedSimpArgs false

theorem Rd.dropN {w : World} {b o n c k : Nat} {l : List UInt8} (h : Rd w (.slice (some ⟨b, o, none⟩) n c) l) (hk : k ≤ l.length) : Rd w (.slice (if c = k then some ⟨b, o, none⟩ else some ⟨b, o + k, none⟩) (n - k) (c - k)) (l.drop k) := by
  obtain ⟨ao, cap, e⟩ := h.shape
  simp only [Value.slice.injEq] at e
  obtain ⟨-, rfl, -⟩ := e
  rcases h with ⟨hv, -⟩ | ⟨ad, cap', hv, h1, h2, h3⟩
  · simp at hv
  · simp only [Value.slice.injEq, Option.some.injEq] at hv
    obtain ⟨rfl, -, rfl⟩ := hv
    have hl : (l.drop k).length = l.length - k := by simp
    by_cases e : c = k
    · rw [if_pos e]
      have : l.drop k = [] := List.eq_nil_of_length_eq_zero (by omega)
      rw [this]
      refine .inr ⟨_, _, by rw [show l.length - k = 0 by omega]; rfl, by simp, by omega, fun j hj => by simp at hj⟩
    · rw [if_neg e]
      refine .inr ⟨_, _, by rw [hl], by omega, by omega, fun j hj => ?_⟩
      have := h3 (k + j) (by omega)
      rw [Addr.add_lit] at this ⊢
      rw [← Nat.add_assoc] at this
      rw [this]
      simp

theorem Rd.takeN {w : World} {ao : Option Addr} {n cap : Nat} {D : List UInt8} (h : Rd w (.slice ao n cap) D) (a : Nat) (ha : a ≤ D.length) : Rd w (.slice ao a cap) (D.take a) := by
  have hl : (D.take a).length = a := by simp; omega
  rcases h with ⟨hv, rfl⟩ | ⟨ad, cap', hv, h1, h2, h3⟩
  · simp at ha
    subst ha
    simp only [Value.slice.injEq] at hv
    obtain ⟨rfl, -, rfl⟩ := hv
    exact .inl ⟨rfl, by simp⟩
  · simp only [Value.slice.injEq] at hv
    obtain ⟨rfl, -, rfl⟩ := hv
    refine .inr ⟨ad, cap, by rw [hl], by omega, h2, fun j hj => ?_⟩
    rw [hl] at hj
    rw [h3 j (by omega)]
    simp

/-- Whole pieces are stirred in; the state, and what is left. -/
def feed (s : St) (b : List UInt8) : St × List UInt8 := if h : 64 ≤ b.length then feed (stir s (b.take 64)) (b.drop 64) else (s, b)
termination_by b.length
decreasing_by simp; omega

theorem feed_few (s : St) (b : List UInt8) (h : b.length < 64) : feed s b = (s, b) := by
  rw [feed, dif_neg (by omega)]
theorem feed_more (s : St) (b : List UInt8) (h : 64 ≤ b.length) : feed s b = feed (stir s (b.take 64)) (b.drop 64) := by
  rw [feed, dif_pos h]

theorem feed_length (s : St) (b : List UInt8) : (feed s b).2.length = b.length % 64 := by
  induction hn : b.length using Nat.strongRecOn generalizing s b with
  | ind n ih =>
    by_cases h : 64 ≤ b.length
    · rw [feed_more s b h, ih (b.length - 64) (by omega) _ (b.drop 64) (by simp)]
      omega
    · rw [feed_few s b (by omega)]
      show b.length = _
      omega

/-- In pieces. -/
theorem feed_app (s : St) (a b : List UInt8) : feed (feed s a).1 ((feed s a).2 ++ b) = feed s (a ++ b) := by
  induction hn : a.length using Nat.strongRecOn generalizing s a with
  | ind n ih =>
    by_cases h : 64 ≤ a.length
    · rw [feed_more s a h, ih (a.length - 64) (by omega) _ (a.drop 64) (by simp), feed_more s (a ++ b) (by simp; omega)]
      rw [List.take_append_of_le_length h, List.drop_append_of_le_length h]
    · rw [feed_few s a (by omega)]

/-- A Hash: its state, its length, the bytes that are left. -/
def HH (w : World) (p : Nat) (s : St) (n : Nat) (r : List UInt8) : Prop := ∃ pc, HAt w p s n pc ∧ pc.take (n % 64) = r

theorem HH.kept {S : Nat → Prop} {w w' : World} {p : Nat} {s : St} {n : Nat} {r : List UInt8} (h : HH w p s n r) (f : Fr S w w') (hs : ¬ S p) : HH w' p s n r := by
  obtain ⟨pc, h1, h2⟩ := h
  exact ⟨pc, h1.kept f hs, h2⟩
theorem HH.len {w : World} {p : Nat} {s : St} {n : Nat} {r : List UInt8} (h : HH w p s n r) : r.length = n % 64 := by
  obtain ⟨pc, h1, rfl⟩ := h
  have := h1.len
  rw [List.length_take]
  have := Nat.mod_lt n (show 0 < 64 by decide)
  omega

/-- copy into the middle of a row of any kind. -/
theorem copy_gen (w : World) (g off dLen dCap : Nat) (cur : List Value) (t : TypeId) (hg : w.heap[g]? = some (.cells cur.toArray t (0, 0))) (x : Value) (q : List UInt8) (hx : Rd w x q) (hq : 0 < min q.length dLen) (hfit : off + dLen ≤ cur.length) :
    ∃ w', (Builtin.copy_ #[22, 22] 3 #[.slice (some ⟨g, off, none⟩) dLen dCap, x]).run Tryd.prog w = .ok (.int .i64 ((min q.length dLen : Nat) : Int)) w' ∧
      w'.heap[g]? = some (.cells (cur.take off ++ bvs (q.take dLen) ++ cur.drop (off + min q.length dLen)).toArray t (0, 0)) ∧ Fr (fun b => b = g) w w' := by
  obtain ⟨ao, cap, rfl⟩ := hx.shape
  obtain ⟨b, so, rfl, -, h1, h2, h3⟩ := hx.lits (by omega)
  have hlt : (q.take dLen).length = min q.length dLen := by rw [List.length_take]; omega
  have := run_copy_row (P := Tryd.prog) w 22 22 3 5 g off dLen dCap ⟨b, so, none⟩ q.length cap cur.toArray t (bvs (q.take dLen)) Tryd.underlying22 (by kernel_rfl) hg (by rw [bvs_length, hlt])
    (fun j v hv => by
      have hj : j < (q.take dLen).length := by
        have := (List.getElem?_eq_some_iff.1 hv).1
        rwa [bvs_length] at this
      rw [Addr.add_lit, h3 j (by omega)]
      rw [bvs_get _ j hj] at hv
      rw [← hv, List.getElem_take]) (by rw [bvs_length, List.size_toArray]; omega) (bvs_one _)
  refine ⟨_, by rw [this, bvs_length, hlt]; rfl, ?_, ?_⟩
  · rw [setRow_heap w g _ _ _ _ hg]
  · exact ⟨rfl, rfl, rfl, by simp, fun k hk hs => setRow_other w g k _ hs⟩

theorem wpList_copyG {w : World} {ops : Array Oper} {rest : List Oper} {o : Oper} {a : Act} {Q : Exit → Act → World → Prop} (hgd : o.guard = none) (s x : Operand)
    (ho : o.op = .call { callee := .builtin .copy, args := #[s, x], argTypes := #[22, 22] }) (hty : o.type = 3)
    (g off dLen dCap : Nat) (cur : List Value) (t : TypeId) (xv : Value) (q : List UInt8) (hs : a.eval s = .slice (some ⟨g, off, none⟩) dLen dCap) (hxv : a.eval x = xv) (hg : w.heap[g]? = some (.cells cur.toArray t (0, 0))) (hx : Rd w xv q) (hq : 0 < min q.length dLen) (hfit : off + dLen ≤ cur.length)
    (h : ∀ w', w'.heap[g]? = some (.cells (cur.take off ++ bvs (q.take dLen) ++ cur.drop (off + min q.length dLen)).toArray t (0, 0)) → Fr (fun b => b = g) w w' → wpList Tryd.prog ops Q rest (a.put o.dst (.int .i64 ((min q.length dLen : Nat) : Int))) w') : wpList Tryd.prog ops Q (o :: rest) a w := by
  obtain ⟨w', hr, h2, h3⟩ := copy_gen w g off dLen dCap cur t hg xv q hx hq hfit
  refine wpList_plain hgd fun _ hK => ?_
  unfold Oper.wp execOp
  simp only [ho, hty, resolve, invoke, builtin, Sem.run_bind, Sem.run_pure, Result.andThen_ok, List.map_toArray, List.map_cons, List.map_nil, hs, hxv, hr]
  exact hK _ _ (h w' h2 h3)

/-- The piece of a Hash behind a copy. -/
theorem hcs_put (s : St) (n : Nat) (pc : List UInt8) (k : Nat) (q : List UInt8) (hk : k + q.length ≤ pc.length) : (hcs s n pc).take (9 + k) ++ bvs q ++ (hcs s n pc).drop (9 + k + q.length) = hcs s n (pc.take k ++ q ++ pc.drop (k + q.length)) := by
  have h8 : (wvs s.l).length = 8 := by rw [wvs_length]; rfl
  have e1 : (hcs s n pc).take (9 + k) = wvs s.l ++ (Value.int .u64 ((n : Nat) : Int) :: bvs (pc.take k)) := by
    unfold hcs
    rw [List.take_append, h8, List.take_of_length_le (by omega), show 9 + k - 8 = k + 1 by omega, List.take_succ_cons]
    simp [bvs, List.map_take]
  have e2 : (hcs s n pc).drop (9 + k + q.length) = bvs (pc.drop (k + q.length)) := by
    unfold hcs
    rw [List.drop_append, h8, List.drop_of_length_le (by omega), show 9 + k + q.length - 8 = (k + q.length) + 1 by omega, List.drop_succ_cons]
    simp [bvs, List.map_drop]
  rw [e1, e2]
  unfold hcs
  simp [bvs_append]

/-- A call that lays new blocks alone, in a quiet region. -/
theorem reg_call {P : Program} {f : FuncId} {args : Array Value} {w : World} {d : Nat} {os : Array Obj} {v : Value}
    (h : Calls P f args (grow (redrawn w d) os) fun e w' => e = .returned v ∧ Fr (fun _ => False) (grow (redrawn w d) os) w') : Calls P f args (grow (redrawn w d) os) fun e w'' => e = .returned v ∧ ∃ p : Regrown, w'' = grow (redrawn w p.d) p.os :=
  Calls.regrown_of (h.mono fun e w' hh => ⟨hh.1, hh.2.below (Nat.le_refl _) (fun _ _ h => h)⟩)

theorem fr_reg (w : World) (d : Nat) (os : Array Obj) (S : Nat → Prop) : Fr S w (grow (redrawn w d) os) := Fr.of_below (below_regrown w d os) S

theorem reg_drew (w : World) : ∃ p : Regrown, w.drew = grow (redrawn w p.d) p.os := ⟨⟨w.drawn + 1, #[]⟩, by rw [grow_empty]; rfl⟩

/-- The round of Write, plainly. -/
theorem feed_step (s : St) (pc q : List UInt8) (k : Nat) (hpc : pc.length = 64) (hk : k < 64) (hq : q ≠ []) :
    let m := min q.length (64 - k)
    let pc' := pc.take k ++ q.take (64 - k) ++ pc.drop (k + m)
    pc'.length = 64 ∧ pc'.take (k + m) = pc.take k ++ q.take m ∧ (k + m = 64 → pc' = pc.take k ++ q.take m ∧ feed s (pc.take k ++ q) = feed (stir s pc') (q.drop m)) ∧ (k + m < 64 → q.drop m = [] ∧ q.take m = q) := by
  intro m pc'
  have hqt : q.take (64 - k) = q.take m := by
    show _ = q.take (min q.length (64 - k))
    rcases Nat.le_total q.length (64 - k) with h | h
    · rw [Nat.min_eq_left h, List.take_of_length_le h, List.take_of_length_le (Nat.le_refl _)]
    · rw [Nat.min_eq_right h]
  have hm : m ≤ q.length := Nat.min_le_left _ _
  have hm2 : m ≤ 64 - k := Nat.min_le_right _ _
  have l1 : (pc.take k).length = k := by simp; omega
  have l2 : (q.take m).length = m := by simp; omega
  have hp : pc' = pc.take k ++ q.take m ++ pc.drop (k + m) := by show pc.take k ++ q.take (64 - k) ++ pc.drop (k + m) = _; rw [hqt]
  refine ⟨?_, ?_, fun h => ?_, fun h => ?_⟩
  · rw [hp]; simp [hpc]; omega
  · rw [hp, List.take_append_of_le_length (by simp; omega), List.take_of_length_le (by simp; omega)]
  · have e : pc' = pc.take k ++ q.take m := by rw [hp, h, List.drop_of_length_le (by omega), List.append_nil]
    refine ⟨e, ?_⟩
    have : pc.take k ++ q = pc.take k ++ q.take m ++ q.drop m := by rw [List.append_assoc, List.take_append_drop]
    rw [this, feed_more _ _ (by simp; omega), List.take_append_of_le_length (by simp; omega), List.drop_append_of_le_length (by simp; omega), List.take_of_length_le (by simp; omega), List.drop_of_length_le (by simp; omega), List.nil_append, ← e]
  · have : m = q.length := by
      have : m = min q.length (64 - k) := rfl
      omega
    rw [this]
    exact ⟨List.drop_length .., List.take_length ..⟩
end Go.Proofs.YtlicmlioilkfdaaDoor
