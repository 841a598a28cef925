/-
  The walk of the law's own 'writes': a step on both writers, kind by kind.
-/
import Derived.Test.YtmnbdpdblpgnlaaVr
namespace Go.Proofs.Ytmnbdpdblpgnlaa
open Go.RowKit
set_option linter.unusedVariables false

attribute [local go_sem ↓] Go.wp_at_zero Go.wp_at_succ

/-- Both writers, the program's and the document's, and that their bytes lie apart. -/
def Duo (w : World) (p : Nat) (q : Option Nat) (B : List UInt8) (E : Int) (p2 : Nat) (q2 : Option Nat) (B2 : List UInt8) (E2 : Int) : Prop :=
  WAt w p q B E ∧ VAt w p2 q2 B2 E2 ∧ ∀ k, q = some k → q2 ≠ some k

/-- What a step on both may turn. -/
def DSt (w w' : World) (p : Nat) (q q' : Option Nat) (p2 : Nat) (q2 q2' : Option Nat) : Prop :=
  Fr (fun k => foot p q k ∨ foot p2 q2 k) w w' ∧ (∀ k, k < w.heap.size → q' = some k → q = some k) ∧ (∀ k, k < w.heap.size → q2' = some k → q2 = some k)

theorem DSt.refl (w : World) (p : Nat) (q : Option Nat) (p2 : Nat) (q2 : Option Nat) : DSt w w p q q p2 q2 q2 := ⟨Fr.refl _ _, fun _ _ h => h, fun _ _ h => h⟩

theorem DSt.trans {w w1 w2 : World} {p p2 : Nat} {q q1 q3 q2 q21 q23 : Option Nat} (h : DSt w w1 p q q1 p2 q2 q21) (k : DSt w1 w2 p q1 q3 p2 q21 q23) : DSt w w2 p q q3 p2 q2 q23 := by
  refine ⟨h.1.trans k.1 (fun i hi hf => ?_), fun i hi e => h.2.1 i hi (k.2.1 i (Nat.lt_of_lt_of_le hi h.1.size) e), fun i hi e => h.2.2 i hi (k.2.2 i (Nat.lt_of_lt_of_le hi h.1.size) e)⟩
  rcases hf with (e | e) | (e | e)
  · exact .inl (.inl e)
  · exact .inl (.inr (h.2.1 i hi e))
  · exact .inr (.inl e)
  · exact .inr (.inr (h.2.2 i hi e))

theorem DSt.alloc {w w' : World} {o : Obj} {p p2 : Nat} {q q' q2 q2' : Option Nat} (k : DSt (w.alloc o) w' p q q' p2 q2 q2') : DSt w w' p q q' p2 q2 q2' :=
  ⟨((Fr.refl _ _).alloc o).trans k.1 (fun _ _ h => h), fun i hi e => k.2.1 i (by simp; omega) e, fun i hi e => k.2.2 i (by simp; omega) e⟩

theorem Duo.pne {w : World} {p : Nat} {q : Option Nat} {B : List UInt8} {E : Int} {p2 : Nat} {q2 : Option Nat} {B2 : List UInt8} {E2 : Int} (d : Duo w p q B E p2 q2 B2 E2) : ¬ foot p q p2 ∧ ¬ foot p2 q2 p := by
  obtain ⟨⟨v, h1, h2, h3⟩, ⟨v', k1, k2, k3⟩, _⟩ := d
  refine ⟨fun hf => ?_, fun hf => ?_⟩
  · rcases hf with e | e
    · subst e; rw [h1] at k1; simp at k1
    · subst h2
      rcases h3.2 with ⟨rfl, _⟩ | ⟨g, cap, cur, rfl, _, hg, _⟩
      · simp [Value.ownBlock] at e
      · simp only [Value.ownBlock, Option.some.injEq] at e
        subst e; rw [hg] at k1; simp at k1
  · rcases hf with e | e
    · subst e; rw [h1] at k1; simp at k1
    · subst k2
      rcases k3.2 with ⟨rfl, _⟩ | ⟨g, cap, cur, rfl, _, hg, _⟩
      · simp [Value.ownBlock] at e
      · simp only [Value.ownBlock, Option.some.injEq] at e
        subst e; rw [hg] at h1; simp at h1

theorem Duo.left {w w1 : World} {p : Nat} {q q1 : Option Nat} {B B1 : List UInt8} {E E1 : Int} {p2 : Nat} {q2 : Option Nat} {B2 : List UInt8} {E2 : Int} (d : Duo w p q B E p2 q2 B2 E2) (h : WAt w1 p q1 B1 E1) (s : WSt w w1 p q q1) :
    Duo w1 p q1 B1 E1 p2 q2 B2 E2 ∧ DSt w w1 p q q1 p2 q2 q2 := by
  have hp := d.pne
  have hl := d.2.1.lt
  refine ⟨⟨h, d.2.1.kept s.1 hp.1 (fun k hk hf => ?_), fun k hk e => d.2.2 k (s.2 k (hl.2 k e) hk) e⟩, s.1.mono (fun _ _ h => .inl h), s.2, fun _ _ h => h⟩
  rcases hf with e | e
  · exact hp.2 (.inr (by rw [hk, e]))
  · exact d.2.2 k e hk

theorem Duo.right {w w1 : World} {p : Nat} {q : Option Nat} {B : List UInt8} {E : Int} {p2 : Nat} {q2 q21 : Option Nat} {B2 B1 : List UInt8} {E2 E1 : Int} (d : Duo w p q B E p2 q2 B2 E2) (h : VAt w1 p2 q21 B1 E1) (s : WSt w w1 p2 q2 q21) :
    Duo w1 p q B E p2 q21 B1 E1 ∧ DSt w w1 p q q p2 q2 q21 := by
  have hp := d.pne
  have hl := d.1.lt
  refine ⟨⟨d.1.kept s.1 hp.2 (fun k hk hf => ?_), h, fun k hk e => d.2.2 k hk (s.2 k (hl.2 k hk) e)⟩, s.1.mono (fun _ _ h => .inr h), fun _ _ h => h, s.2⟩
  rcases hf with e | e
  · exact hp.1 (.inr (by rw [hk, e]))
  · exact d.2.2 k hk e

theorem Duo.kept {w w1 : World} {p : Nat} {q : Option Nat} {B : List UInt8} {E : Int} {p2 : Nat} {q2 : Option Nat} {B2 : List UInt8} {E2 : Int} (d : Duo w p q B E p2 q2 B2 E2) (f : Fr (fun _ => False) w w1) : Duo w1 p q B E p2 q2 B2 E2 :=
  ⟨d.1.kept f id (fun _ _ h => h), d.2.1.kept f id (fun _ _ h => h), d.2.2⟩

theorem Duo.alloc {w : World} {p : Nat} {q : Option Nat} {B : List UInt8} {E : Int} {p2 : Nat} {q2 : Option Nat} {B2 : List UInt8} {E2 : Int} (d : Duo w p q B E p2 q2 B2 E2) (o : Obj) : Duo (w.alloc o) p q B E p2 q2 B2 E2 := d.kept ((Fr.refl _ _).alloc o)

/-- No old block that is not the writers' own is in their reach. -/
def Away (w : World) (p : Nat) (q : Option Nat) (p2 : Nat) (q2 : Option Nat) (b : Nat) : Prop := b < w.heap.size ∧ ¬ foot p q b ∧ ¬ foot p2 q2 b

theorem Away.step {w w1 : World} {p : Nat} {q q1 : Option Nat} {p2 : Nat} {q2 q21 : Option Nat} {b : Nat} (h : Away w p q p2 q2 b) (s : DSt w w1 p q q1 p2 q2 q21) : Away w1 p q1 p2 q21 b :=
  ⟨Nat.lt_of_lt_of_le h.1 s.1.size, fun hf => h.2.1 (hf.elim .inl fun e => .inr (s.2.1 b h.1 e)), fun hf => h.2.2 (hf.elim .inl fun e => .inr (s.2.2 b h.1 e))⟩

theorem Away.alloc {w : World} {p : Nat} {q : Option Nat} {p2 : Nat} {q2 : Option Nat} {b : Nat} (h : Away w p q p2 q2 b) (o : Obj) : Away (w.alloc o) p q p2 q2 b := ⟨by simp; have := h.1; omega, h.2⟩

theorem Duo.away {w : World} {p : Nat} {q : Option Nat} {B : List UInt8} {E : Int} {p2 : Nat} {q2 : Option Nat} {B2 : List UInt8} {E2 : Int} (d : Duo w p q B E p2 q2 B2 E2) (o : Obj) : Away (w.alloc o) p q p2 q2 w.heap.size := by
  have h1 := d.1.lt
  have h2 := d.2.1.lt
  refine ⟨by simp, fun hf => ?_, fun hf => ?_⟩
  · rcases hf with e | e
    · omega
    · have := h1.2 _ e; omega
  · rcases hf with e | e
    · omega
    · have := h2.2 _ e; omega

/-- A step as it comes: its slices can be read, and lie away from the writers. -/
structure SAt (w : World) (p : Nat) (q : Option Nat) (p2 : Nat) (q2 : Option Nat) (n : Int) (pv lv tv : Value) (lp : List UInt8) (ln : List Int) (lt : List ByteArray) : Prop where
  hn : 0 ≤ n ∧ n < 18446744073709551616
  rp : Rd w pv lp
  rl : RdV w lv (uvs ln)
  rt : RdV w tv (svs lt)
  ap : ∀ b, pv.ownBlock = some b → Away w p q p2 q2 b
  al : ∀ b, lv.ownBlock = some b → ln = [] ∨ Away w p q p2 q2 b
  at_ : ∀ b, tv.ownBlock = some b → lt = [] ∨ Away w p q p2 q2 b
  wl : ∀ n ∈ ln, 0 ≤ n ∧ n < 4294967296
  wt : ∀ t ∈ lt, t.size ≤ 1048576
  zp : lp.length ≤ 1048576
  zl : ln.length ≤ 1048576
  zt : lt.length ≤ 1048576

theorem SAt.step {w w1 : World} {p : Nat} {q q1 : Option Nat} {p2 : Nat} {q2 q21 : Option Nat} {n : Int} {pv lv tv : Value} {lp : List UInt8} {ln : List Int} {lt : List ByteArray} (h : SAt w p q p2 q2 n pv lv tv lp ln lt) (s : DSt w w1 p q q1 p2 q2 q21) : SAt w1 p q1 p2 q21 n pv lv tv lp ln lt where
  hn := h.hn
  rp := h.rp.kept s.1 (fun b hb hf => hf.elim (h.ap b hb).2.1 (h.ap b hb).2.2)
  rl := by
    by_cases e : ln = []
    · have := h.rl
      subst e
      rcases this with h | ⟨ad, cap, h1, h2, h3, h4⟩
      · exact .inl h
      · exact .inr ⟨ad, cap, h1, h2, h3, fun j hj => by simp [uvs] at hj⟩
    · exact h.rl.kept s.1 (fun b hb hf => hf.elim ((h.al b hb).resolve_left e).2.1 ((h.al b hb).resolve_left e).2.2)
  rt := by
    by_cases e : lt = []
    · have := h.rt
      subst e
      rcases this with h | ⟨ad, cap, h1, h2, h3, h4⟩
      · exact .inl h
      · exact .inr ⟨ad, cap, h1, h2, h3, fun j hj => by simp [svs] at hj⟩
    · exact h.rt.kept s.1 (fun b hb hf => hf.elim ((h.at_ b hb).resolve_left e).2.1 ((h.at_ b hb).resolve_left e).2.2)
  ap := fun b hb => (h.ap b hb).step s
  al := fun b hb => (h.al b hb).imp id (·.step s)
  at_ := fun b hb => (h.at_ b hb).imp id (·.step s)
  wl := h.wl
  wt := h.wt
  zp := h.zp
  zl := h.zl
  zt := h.zt

theorem DSt.ofAlloc {w : World} (o : Obj) (p : Nat) (q : Option Nat) (p2 : Nat) (q2 : Option Nat) : DSt w (w.alloc o) p q q p2 q2 q2 := ⟨(Fr.refl _ _).alloc o, fun _ _ h => h, fun _ _ h => h⟩

/-- What a step leaves: both writers with the same bytes and the same error. -/
def Wrote (w w' : World) (p : Nat) (q : Option Nat) (p2 : Nat) (q2 : Option Nat) (B : List UInt8) : Prop :=
  ∃ q' q2' B' E', Duo w' p q' B' E' p2 q2' B' E' ∧ DSt w w' p q q' p2 q2 q2' ∧ B'.length ≤ B.length + 33554432

/-- The box of a step, wherever the writers have gone. -/
theorem box_kept {w w1 : World} {p : Nat} {q q1 : Option Nat} {p2 : Nat} {q2 q21 : Option Nat} {b : Nat} {o : Obj} (h : w.heap[b]? = some o) (a : Away w p q p2 q2 b) (s : DSt w w1 p q q1 p2 q2 q21) : w1.heap[b]? = some o := by
  rw [s.1.block b a.1 (fun hf => hf.elim a.2.1 a.2.2)]; exact h

theorem wrap32_in (n : Int) : -2147483648 ≤ wrap32 n ∧ wrap32 n < 2147483648 := by
  unfold wrap32; omega

theorem wopq_le (B : List UInt8) (E : Int) (l : List UInt8) (most : Int) : (wopq B E l most).1.length ≤ B.length + l.length + 8 := by
  unfold wopq
  repeat' split
  · simp; omega
  · simp; omega
  · simp [opq, pad, be32]; omega

theorem lay4 (E : Int) (B : List UInt8) (n : Int) : (lay E B (be32 n)).length ≤ B.length + 4 := by have := lay_len E B (be32 n); simpa [be32] using this

set_option maxHeartbeats 1000000 in
set_option maxRecDepth 100000 in
theorem wr0 (w : World) (p : Nat) (q : Option Nat) (p2 : Nat) (q2 : Option Nat) (B : List UInt8) (E : Int) (n most : Int) (pv lv tv : Value) (lp : List UInt8) (ln : List Int) (lt : List ByteArray) (d : Duo w p q B E p2 q2 B E) (hs : SAt w p q p2 q2 n pv lv tv lp ln lt) (hB : B.length ≤ 1099511627776) :
    Calls Try.prog 11 #[.pointer (some ⟨p, 0, none⟩), .pointer (some ⟨p2, 0, none⟩), .agg #[.int .i64 0, .int .u64 n, pv, .int .i64 most, lv, tv]] w fun e w' => e = .returned (.tuple #[]) ∧ Wrote w w' p q p2 q2 B := by
  have hX := heap_alloc_new w (Obj.cells #[Value.int IntKind.i64 0, Value.int IntKind.u64 n, pv, Value.int IntKind.i64 most, lv, tv] 35)
  have hA := d.away (Obj.cells #[Value.int IntKind.i64 0, Value.int IntKind.u64 n, pv, Value.int IntKind.i64 most, lv, tv] 35)
  have d0 := d.alloc (Obj.cells #[Value.int IntKind.i64 0, Value.int IntKind.u64 n, pv, Value.int IntKind.i64 most, lv, tv] 35)
  have hs0 := hs.step (DSt.ofAlloc (Obj.cells #[Value.int IntKind.i64 0, Value.int IntKind.u64 n, pv, Value.int IntKind.i64 most, lv, tv] 35) p q p2 q2)
  have hn := hs.hn
  have zp := hs.zp
  have zl := hs.zl
  have zt := hs.zt
  have HX := hide hX
  clear hs d hX
  have HC := hide (uint_any _ p q B E (n % 4294967296) d0.1 (by omega) (by omega))
  go_enter Try.func11, Try.ntmps11
  go_wp2_with fail
  refine (unhide HC).mono ?_
  rintro e w1 ⟨rfl, q1, h1, s1⟩
  obtain ⟨d1, t1⟩ := d0.left h1 s1
  have hX1 := box_kept (unhide HX) hA t1
  have hs1 := hs0.step t1
  have c1 : w1.cell? ⟨w.heap.size, 1, none⟩ = some (Value.int IntKind.u64 n) := by rw [cell_of_heap hX1]; rfl
  have HC2 := hide (vuint_any _ p2 q2 B E (n % 4294967296) d1.2.1 (by omega) (by omega))
  clear h1 s1 hX1 HC HX
  go_wp2_with fail
  refine (unhide HC2).mono ?_
  rintro e w2 ⟨rfl, q3, h2, s2⟩
  obtain ⟨d2, t2⟩ := d1.right h2 s2
  go_wp2_with fail
  go_end0
  refine ⟨rfl, q1, q3, _, _, d2, (t1.trans t2).alloc, ?_⟩
  exact Nat.le_trans (lay4 _ _ _) (by omega)


set_option maxHeartbeats 1000000 in
set_option maxRecDepth 100000 in
theorem wr7 (w : World) (p : Nat) (q : Option Nat) (p2 : Nat) (q2 : Option Nat) (B : List UInt8) (E : Int) (n most : Int) (pv lv tv : Value) (lp : List UInt8) (ln : List Int) (lt : List ByteArray) (d : Duo w p q B E p2 q2 B E) (hs : SAt w p q p2 q2 n pv lv tv lp ln lt) (hB : B.length ≤ 1099511627776) :
    Calls Try.prog 11 #[.pointer (some ⟨p, 0, none⟩), .pointer (some ⟨p2, 0, none⟩), .agg #[.int .i64 7, .int .u64 n, pv, .int .i64 most, lv, tv]] w fun e w' => e = .returned (.tuple #[]) ∧ Wrote w w' p q p2 q2 B := by
  have hX := heap_alloc_new w (Obj.cells #[Value.int IntKind.i64 7, Value.int IntKind.u64 n, pv, Value.int IntKind.i64 most, lv, tv] 35)
  have hA := d.away (Obj.cells #[Value.int IntKind.i64 7, Value.int IntKind.u64 n, pv, Value.int IntKind.i64 most, lv, tv] 35)
  have d0 := d.alloc (Obj.cells #[Value.int IntKind.i64 7, Value.int IntKind.u64 n, pv, Value.int IntKind.i64 most, lv, tv] 35)
  have hs0 := hs.step (DSt.ofAlloc (Obj.cells #[Value.int IntKind.i64 7, Value.int IntKind.u64 n, pv, Value.int IntKind.i64 most, lv, tv] 35) p q p2 q2)
  have hn := hs.hn
  have zp := hs.zp
  have zl := hs.zl
  have zt := hs.zt
  have HX := hide hX
  clear hs d hX
  have HC := hide (uint_any _ p q B E (n % 4294967296) d0.1 (by omega) (by omega))
  go_enter Try.func11, Try.ntmps11
  go_wp2_with fail
  refine (unhide HC).mono ?_
  rintro e w1 ⟨rfl, q1, h1, s1⟩
  obtain ⟨d1, t1⟩ := d0.left h1 s1
  have hX1 := box_kept (unhide HX) hA t1
  have hs1 := hs0.step t1
  have c1 : w1.cell? ⟨w.heap.size, 1, none⟩ = some (Value.int IntKind.u64 n) := by rw [cell_of_heap hX1]; rfl
  have HC2 := hide (vuint_any _ p2 q2 B E (n % 4294967296) d1.2.1 (by omega) (by omega))
  clear h1 s1 hX1 HC HX
  go_wp2_with fail
  refine (unhide HC2).mono ?_
  rintro e w2 ⟨rfl, q3, h2, s2⟩
  obtain ⟨d2, t2⟩ := d1.right h2 s2
  go_wp2_with fail
  go_end0
  refine ⟨rfl, q1, q3, _, _, d2, (t1.trans t2).alloc, ?_⟩
  exact Nat.le_trans (lay4 _ _ _) (by omega)


set_option maxHeartbeats 1000000 in
set_option maxRecDepth 100000 in
theorem wr1 (w : World) (p : Nat) (q : Option Nat) (p2 : Nat) (q2 : Option Nat) (B : List UInt8) (E : Int) (n most : Int) (pv lv tv : Value) (lp : List UInt8) (ln : List Int) (lt : List ByteArray) (d : Duo w p q B E p2 q2 B E) (hs : SAt w p q p2 q2 n pv lv tv lp ln lt) (hB : B.length ≤ 1099511627776) :
    Calls Try.prog 11 #[.pointer (some ⟨p, 0, none⟩), .pointer (some ⟨p2, 0, none⟩), .agg #[.int .i64 1, .int .u64 n, pv, .int .i64 most, lv, tv]] w fun e w' => e = .returned (.tuple #[]) ∧ Wrote w w' p q p2 q2 B := by
  have hX := heap_alloc_new w (Obj.cells #[Value.int IntKind.i64 1, Value.int IntKind.u64 n, pv, Value.int IntKind.i64 most, lv, tv] 35)
  have hA := d.away (Obj.cells #[Value.int IntKind.i64 1, Value.int IntKind.u64 n, pv, Value.int IntKind.i64 most, lv, tv] 35)
  have d0 := d.alloc (Obj.cells #[Value.int IntKind.i64 1, Value.int IntKind.u64 n, pv, Value.int IntKind.i64 most, lv, tv] 35)
  have hs0 := hs.step (DSt.ofAlloc (Obj.cells #[Value.int IntKind.i64 1, Value.int IntKind.u64 n, pv, Value.int IntKind.i64 most, lv, tv] 35) p q p2 q2)
  have hn := hs.hn
  have zp := hs.zp
  have zl := hs.zl
  have zt := hs.zt
  have HX := hide hX
  clear hs d hX
  have HC := hide (int_any _ p q B E (wrap32 n) d0.1 (wrap32_in n) (by omega))
  go_enter Try.func11, Try.ntmps11
  go_wp2_with fail
  refine (unhide HC).mono ?_
  rintro e w1 ⟨rfl, q1, h1, s1⟩
  obtain ⟨d1, t1⟩ := d0.left h1 s1
  have hX1 := box_kept (unhide HX) hA t1
  have hs1 := hs0.step t1
  have c1 : w1.cell? ⟨w.heap.size, 1, none⟩ = some (Value.int IntKind.u64 n) := by rw [cell_of_heap hX1]; rfl
  have HC2 := hide (vuint_any _ p2 q2 B E (wrap32 n % 4294967296) d1.2.1 (by omega) (by omega))
  clear h1 s1 hX1 HC HX
  go_wp2_with fail
  refine (unhide HC2).mono ?_
  rintro e w2 ⟨rfl, q3, h2, s2⟩
  obtain ⟨d2, t2⟩ := d1.right h2 s2
  go_wp2_with fail
  go_end0
  refine ⟨rfl, q1, q3, _, _, d2, (t1.trans t2).alloc, ?_⟩
  exact Nat.le_trans (lay4 _ _ _) (by omega)


set_option maxHeartbeats 1000000 in
set_option maxRecDepth 100000 in
theorem wr2 (w : World) (p : Nat) (q : Option Nat) (p2 : Nat) (q2 : Option Nat) (B : List UInt8) (E : Int) (n most : Int) (pv lv tv : Value) (lp : List UInt8) (ln : List Int) (lt : List ByteArray) (d : Duo w p q B E p2 q2 B E) (hs : SAt w p q p2 q2 n pv lv tv lp ln lt) (hB : B.length ≤ 1099511627776) :
    Calls Try.prog 11 #[.pointer (some ⟨p, 0, none⟩), .pointer (some ⟨p2, 0, none⟩), .agg #[.int .i64 2, .int .u64 n, pv, .int .i64 most, lv, tv]] w fun e w' => e = .returned (.tuple #[]) ∧ Wrote w w' p q p2 q2 B := by
  have hX := heap_alloc_new w (Obj.cells #[Value.int IntKind.i64 2, Value.int IntKind.u64 n, pv, Value.int IntKind.i64 most, lv, tv] 35)
  have hA := d.away (Obj.cells #[Value.int IntKind.i64 2, Value.int IntKind.u64 n, pv, Value.int IntKind.i64 most, lv, tv] 35)
  have d0 := d.alloc (Obj.cells #[Value.int IntKind.i64 2, Value.int IntKind.u64 n, pv, Value.int IntKind.i64 most, lv, tv] 35)
  have hs0 := hs.step (DSt.ofAlloc (Obj.cells #[Value.int IntKind.i64 2, Value.int IntKind.u64 n, pv, Value.int IntKind.i64 most, lv, tv] 35) p q p2 q2)
  have hn := hs.hn
  have zp := hs.zp
  have zl := hs.zl
  have zt := hs.zt
  have HX := hide hX
  clear hs d hX
  have HC := hide (hyper_any _ p q B E n d0.1 hn (by omega))
  go_enter Try.func11, Try.ntmps11
  go_wp2_with fail
  refine (unhide HC).mono ?_
  rintro e w1 ⟨rfl, q1, h1, s1⟩
  obtain ⟨d1, t1⟩ := d0.left h1 s1
  have hX1 := box_kept (unhide HX) hA t1
  have hs1 := hs0.step t1
  have c1 : w1.cell? ⟨w.heap.size, 1, none⟩ = some (Value.int IntKind.u64 n) := by rw [cell_of_heap hX1]; rfl
  have HC2 := hide (vhyper_any _ p2 q2 B E n d1.2.1 hn (by omega))
  clear h1 s1 hX1 HC HX
  go_wp2_with fail
  refine (unhide HC2).mono ?_
  rintro e w2 ⟨rfl, q3, h2, s2⟩
  obtain ⟨d2, t2⟩ := d1.right h2 s2
  go_wp2_with fail
  go_end0
  refine ⟨rfl, q1, q3, _, _, d2, (t1.trans t2).alloc, ?_⟩
  have h8 := lay_len E B (be32 (n / 4294967296) ++ be32 (n % 4294967296)); have h9 : (be32 (n / 4294967296) ++ be32 (n % 4294967296)).length = 8 := rfl; omega


set_option maxHeartbeats 1000000 in
set_option maxRecDepth 100000 in
theorem wr3 (w : World) (p : Nat) (q : Option Nat) (p2 : Nat) (q2 : Option Nat) (B : List UInt8) (E : Int) (n most : Int) (pv lv tv : Value) (lp : List UInt8) (ln : List Int) (lt : List ByteArray) (d : Duo w p q B E p2 q2 B E) (hs : SAt w p q p2 q2 n pv lv tv lp ln lt) (hB : B.length ≤ 1099511627776) :
    Calls Try.prog 11 #[.pointer (some ⟨p, 0, none⟩), .pointer (some ⟨p2, 0, none⟩), .agg #[.int .i64 3, .int .u64 n, pv, .int .i64 most, lv, tv]] w fun e w' => e = .returned (.tuple #[]) ∧ Wrote w w' p q p2 q2 B := by
  have hX := heap_alloc_new w (Obj.cells #[Value.int IntKind.i64 3, Value.int IntKind.u64 n, pv, Value.int IntKind.i64 most, lv, tv] 35)
  have hA := d.away (Obj.cells #[Value.int IntKind.i64 3, Value.int IntKind.u64 n, pv, Value.int IntKind.i64 most, lv, tv] 35)
  have d0 := d.alloc (Obj.cells #[Value.int IntKind.i64 3, Value.int IntKind.u64 n, pv, Value.int IntKind.i64 most, lv, tv] 35)
  have hs0 := hs.step (DSt.ofAlloc (Obj.cells #[Value.int IntKind.i64 3, Value.int IntKind.u64 n, pv, Value.int IntKind.i64 most, lv, tv] 35) p q p2 q2)
  have hn := hs.hn
  have zp := hs.zp
  have zl := hs.zl
  have zt := hs.zt
  have HX := hide hX
  clear hs d hX
  have HC := hide (bool_any _ p q B E (n == 1) d0.1 (by omega))
  go_enter Try.func11, Try.ntmps11
  go_wp2_with fail
  refine (unhide HC).mono ?_
  rintro e w1 ⟨rfl, q1, h1, s1⟩
  obtain ⟨d1, t1⟩ := d0.left h1 s1
  have hX1 := box_kept (unhide HX) hA t1
  have hs1 := hs0.step t1
  have c1 : w1.cell? ⟨w.heap.size, 1, none⟩ = some (Value.int IntKind.u64 n) := by rw [cell_of_heap hX1]; rfl
  have HC2 := hide (vbool_any _ p2 q2 B E (n == 1) d1.2.1 (by omega))
  clear h1 s1 hX1 HC HX
  go_wp2_with fail
  refine (unhide HC2).mono ?_
  rintro e w2 ⟨rfl, q3, h2, s2⟩
  obtain ⟨d2, t2⟩ := d1.right h2 s2
  go_wp2_with fail
  go_end0
  refine ⟨rfl, q1, q3, _, _, d2, (t1.trans t2).alloc, ?_⟩
  exact Nat.le_trans (lay4 _ _ _) (by omega)


set_option maxHeartbeats 1000000 in
set_option maxRecDepth 100000 in
theorem wr4 (w : World) (p : Nat) (q : Option Nat) (p2 : Nat) (q2 : Option Nat) (B : List UInt8) (E : Int) (n most : Int) (pv lv tv : Value) (lp : List UInt8) (ln : List Int) (lt : List ByteArray) (d : Duo w p q B E p2 q2 B E) (hs : SAt w p q p2 q2 n pv lv tv lp ln lt) (hB : B.length ≤ 1099511627776) :
    Calls Try.prog 11 #[.pointer (some ⟨p, 0, none⟩), .pointer (some ⟨p2, 0, none⟩), .agg #[.int .i64 4, .int .u64 n, pv, .int .i64 most, lv, tv]] w fun e w' => e = .returned (.tuple #[]) ∧ Wrote w w' p q p2 q2 B := by
  have hX := heap_alloc_new w (Obj.cells #[Value.int IntKind.i64 4, Value.int IntKind.u64 n, pv, Value.int IntKind.i64 most, lv, tv] 35)
  have hA := d.away (Obj.cells #[Value.int IntKind.i64 4, Value.int IntKind.u64 n, pv, Value.int IntKind.i64 most, lv, tv] 35)
  have d0 := d.alloc (Obj.cells #[Value.int IntKind.i64 4, Value.int IntKind.u64 n, pv, Value.int IntKind.i64 most, lv, tv] 35)
  have hs0 := hs.step (DSt.ofAlloc (Obj.cells #[Value.int IntKind.i64 4, Value.int IntKind.u64 n, pv, Value.int IntKind.i64 most, lv, tv] 35) p q p2 q2)
  have hn := hs.hn
  have zp := hs.zp
  have zl := hs.zl
  have zt := hs.zt
  have HX := hide hX
  clear hs d hX
  obtain ⟨ao, cap, rfl⟩ := hs0.rp.shape
  have HC := hide (fixed_any _ p q B E _ lp d0.1 hs0.rp (by omega))
  go_enter Try.func11, Try.ntmps11
  go_wp2_with fail
  refine (unhide HC).mono ?_
  rintro e w1 ⟨rfl, q1, h1, s1⟩
  obtain ⟨d1, t1⟩ := d0.left h1 s1
  have hX1 := box_kept (unhide HX) hA t1
  have hs1 := hs0.step t1
  have c2 : w1.cell? ⟨w.heap.size, 2, none⟩ = some (Value.slice ao lp.length cap) := by rw [cell_of_heap hX1]; rfl
  have HC2 := hide (vfixed_any _ p2 q2 B E _ lp d1.2.1 hs1.rp (by omega))
  clear h1 s1 hX1 HC HX
  go_wp2_with fail
  refine (unhide HC2).mono ?_
  rintro e w2 ⟨rfl, q3, h2, s2⟩
  obtain ⟨d2, t2⟩ := d1.right h2 s2
  go_wp2_with fail
  go_end0
  refine ⟨rfl, q1, q3, _, _, d2, (t1.trans t2).alloc, ?_⟩
  have := lay_len E B (lp ++ pad lp.length); have e : (pad lp.length).length ≤ 4 := (by simp [pad]; omega); rw [List.length_append] at this; omega


set_option maxHeartbeats 1000000 in
set_option maxRecDepth 100000 in
theorem wr5 (w : World) (p : Nat) (q : Option Nat) (p2 : Nat) (q2 : Option Nat) (B : List UInt8) (E : Int) (n most : Int) (pv lv tv : Value) (lp : List UInt8) (ln : List Int) (lt : List ByteArray) (d : Duo w p q B E p2 q2 B E) (hs : SAt w p q p2 q2 n pv lv tv lp ln lt) (hB : B.length ≤ 1099511627776) :
    Calls Try.prog 11 #[.pointer (some ⟨p, 0, none⟩), .pointer (some ⟨p2, 0, none⟩), .agg #[.int .i64 5, .int .u64 n, pv, .int .i64 most, lv, tv]] w fun e w' => e = .returned (.tuple #[]) ∧ Wrote w w' p q p2 q2 B := by
  have hX := heap_alloc_new w (Obj.cells #[Value.int IntKind.i64 5, Value.int IntKind.u64 n, pv, Value.int IntKind.i64 most, lv, tv] 35)
  have hA := d.away (Obj.cells #[Value.int IntKind.i64 5, Value.int IntKind.u64 n, pv, Value.int IntKind.i64 most, lv, tv] 35)
  have d0 := d.alloc (Obj.cells #[Value.int IntKind.i64 5, Value.int IntKind.u64 n, pv, Value.int IntKind.i64 most, lv, tv] 35)
  have hs0 := hs.step (DSt.ofAlloc (Obj.cells #[Value.int IntKind.i64 5, Value.int IntKind.u64 n, pv, Value.int IntKind.i64 most, lv, tv] 35) p q p2 q2)
  have hn := hs.hn
  have zp := hs.zp
  have zl := hs.zl
  have zt := hs.zt
  have HX := hide hX
  clear hs d hX
  obtain ⟨ao, cap, rfl⟩ := hs0.rp.shape
  have HC := hide (opaque_any _ p q B E _ lp most d0.1 hs0.rp (fun b hb => (hs0.ap b hb).2.1) (by omega) (by omega))
  go_enter Try.func11, Try.ntmps11
  go_wp2_with fail
  refine (unhide HC).mono ?_
  rintro e w1 ⟨rfl, q1, h1, s1⟩
  obtain ⟨d1, t1⟩ := d0.left h1 s1
  have hX1 := box_kept (unhide HX) hA t1
  have hs1 := hs0.step t1
  have c2 : w1.cell? ⟨w.heap.size, 2, none⟩ = some (Value.slice ao lp.length cap) := by rw [cell_of_heap hX1]; rfl
  have c3 : w1.cell? ⟨w.heap.size, 3, none⟩ = some (Value.int IntKind.i64 most) := by rw [cell_of_heap hX1]; rfl
  have HC2 := hide (vopaque_any _ p2 q2 B E _ lp most d1.2.1 hs1.rp (fun b hb => (hs1.ap b hb).2.2) (by omega) (by omega))
  clear h1 s1 hX1 HC HX
  go_wp2_with fail
  refine (unhide HC2).mono ?_
  rintro e w2 ⟨rfl, q3, h2, s2⟩
  obtain ⟨d2, t2⟩ := d1.right h2 s2
  go_wp2_with fail
  go_end0
  refine ⟨rfl, q1, q3, _, _, d2, (t1.trans t2).alloc, ?_⟩
  exact Nat.le_trans (wopq_le _ _ _ _) (by omega)


set_option maxHeartbeats 1000000 in
set_option maxRecDepth 100000 in
theorem wr6 (w : World) (p : Nat) (q : Option Nat) (p2 : Nat) (q2 : Option Nat) (B : List UInt8) (E : Int) (n most : Int) (pv lv tv : Value) (lp : List UInt8) (ln : List Int) (lt : List ByteArray) (d : Duo w p q B E p2 q2 B E) (hs : SAt w p q p2 q2 n pv lv tv lp ln lt) (hB : B.length ≤ 1099511627776) :
    Calls Try.prog 11 #[.pointer (some ⟨p, 0, none⟩), .pointer (some ⟨p2, 0, none⟩), .agg #[.int .i64 6, .int .u64 n, pv, .int .i64 most, lv, tv]] w fun e w' => e = .returned (.tuple #[]) ∧ Wrote w w' p q p2 q2 B := by
  have hX := heap_alloc_new w (Obj.cells #[Value.int IntKind.i64 6, Value.int IntKind.u64 n, pv, Value.int IntKind.i64 most, lv, tv] 35)
  have hA := d.away (Obj.cells #[Value.int IntKind.i64 6, Value.int IntKind.u64 n, pv, Value.int IntKind.i64 most, lv, tv] 35)
  have d0 := d.alloc (Obj.cells #[Value.int IntKind.i64 6, Value.int IntKind.u64 n, pv, Value.int IntKind.i64 most, lv, tv] 35)
  have hs0 := hs.step (DSt.ofAlloc (Obj.cells #[Value.int IntKind.i64 6, Value.int IntKind.u64 n, pv, Value.int IntKind.i64 most, lv, tv] 35) p q p2 q2)
  have hn := hs.hn
  have zp := hs.zp
  have zl := hs.zl
  have zt := hs.zt
  have HX := hide hX
  clear hs d hX
  have kc := conv_rd (P := Try.prog) hs0.rp 28 9 5 Try.underlying28 Try.underlying5 Try.underlying9
  obtain ⟨ao, cap, rfl⟩ := hs0.rp.shape
  have HC := hide (text_any _ p q B E (str lp) most d0.1 (by rw [str_size]; omega) (by rw [str_size]; omega))
  go_enter Try.func11, Try.ntmps11
  go_wp2_with fail
  refine (unhide HC).mono ?_
  rintro e w1 ⟨rfl, q1, h1, s1⟩
  rw [str_data] at h1
  clear kc
  obtain ⟨d1, t1⟩ := d0.left h1 s1
  have hX1 := box_kept (unhide HX) hA t1
  have hs1 := hs0.step t1
  have c2 : w1.cell? ⟨w.heap.size, 2, none⟩ = some (Value.slice ao lp.length cap) := by rw [cell_of_heap hX1]; rfl
  have c3 : w1.cell? ⟨w.heap.size, 3, none⟩ = some (Value.int IntKind.i64 most) := by rw [cell_of_heap hX1]; rfl
  have HC2 := hide (vopaque_any _ p2 q2 B E _ lp most d1.2.1 hs1.rp (fun b hb => (hs1.ap b hb).2.2) (by omega) (by omega))
  clear h1 s1 hX1 HC HX
  go_wp2_with fail
  refine (unhide HC2).mono ?_
  rintro e w2 ⟨rfl, q3, h2, s2⟩
  obtain ⟨d2, t2⟩ := d1.right h2 s2
  go_wp2_with fail
  go_end0
  refine ⟨rfl, q1, q3, _, _, d2, (t1.trans t2).alloc, ?_⟩
  exact Nat.le_trans (wopq_le _ _ _ _) (by omega)


set_option maxHeartbeats 1000000 in
set_option maxRecDepth 100000 in
theorem wrX (w : World) (p : Nat) (q : Option Nat) (p2 : Nat) (q2 : Option Nat) (B : List UInt8) (E : Int) (n most : Int) (pv lv tv : Value) (lp : List UInt8) (ln : List Int) (lt : List ByteArray) (d : Duo w p q B E p2 q2 B E) (hs : SAt w p q p2 q2 n pv lv tv lp ln lt) (hB : B.length ≤ 1099511627776) (K : Int) (hK : K ≠ 0 ∧ K ≠ 1 ∧ K ≠ 2 ∧ K ≠ 3 ∧ K ≠ 4 ∧ K ≠ 5 ∧ K ≠ 6 ∧ K ≠ 7 ∧ K ≠ 8 ∧ K ≠ 9 ∧ K ≠ 10 ∧ K ≠ 11) :
    Calls Try.prog 11 #[.pointer (some ⟨p, 0, none⟩), .pointer (some ⟨p2, 0, none⟩), .agg #[.int .i64 K, .int .u64 n, pv, .int .i64 most, lv, tv]] w fun e w' => e = .returned (.tuple #[]) ∧ Wrote w w' p q p2 q2 B := by
  have hX := heap_alloc_new w (Obj.cells #[Value.int IntKind.i64 K, Value.int IntKind.u64 n, pv, Value.int IntKind.i64 most, lv, tv] 35)
  have hA := d.away (Obj.cells #[Value.int IntKind.i64 K, Value.int IntKind.u64 n, pv, Value.int IntKind.i64 most, lv, tv] 35)
  have d0 := d.alloc (Obj.cells #[Value.int IntKind.i64 K, Value.int IntKind.u64 n, pv, Value.int IntKind.i64 most, lv, tv] 35)
  have hs0 := hs.step (DSt.ofAlloc (Obj.cells #[Value.int IntKind.i64 K, Value.int IntKind.u64 n, pv, Value.int IntKind.i64 most, lv, tv] 35) p q p2 q2)
  have hn := hs.hn
  have zp := hs.zp
  have zl := hs.zl
  have zt := hs.zt
  have HX := hide hX
  clear hs d hX
  have n0 : (K == 0) = false := by simpa using hK.1
  have n1 : (K == 1) = false := by simpa using hK.2.1
  have n2 : (K == 2) = false := by simpa using hK.2.2.1
  have n3 : (K == 3) = false := by simpa using hK.2.2.2.1
  have n4 : (K == 4) = false := by simpa using hK.2.2.2.2.1
  have n5 : (K == 5) = false := by simpa using hK.2.2.2.2.2.1
  have n6 : (K == 6) = false := by simpa using hK.2.2.2.2.2.2.1
  have n7 : (K == 7) = false := by simpa using hK.2.2.2.2.2.2.2.1
  have n8 : (K == 8) = false := by simpa using hK.2.2.2.2.2.2.2.2.1
  have n9 : (K == 9) = false := by simpa using hK.2.2.2.2.2.2.2.2.2.1
  have n10 : (K == 10) = false := by simpa using hK.2.2.2.2.2.2.2.2.2.2.1
  have n11 : (K == 11) = false := by simpa using hK.2.2.2.2.2.2.2.2.2.2.2
  clear hK
  go_enter Try.func11, Try.ntmps11
  go_wp2_with fail
  go_end0
  exact ⟨rfl, q, q2, _, _, d0, (DSt.ofAlloc _ p q p2 q2), by omega⟩

end Go.Proofs.Ytmnbdpdblpgnlaa
