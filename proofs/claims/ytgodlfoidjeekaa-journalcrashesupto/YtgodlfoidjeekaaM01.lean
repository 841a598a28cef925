/-
  Plain facts on memory for the proofs over package gf: which blocks a call may turn ('Fr'), bytes as cells ('bvs'), a slice of bytes that can be read ('Rd').
  A rule for a region that draws its order, whose operations only read, but for the last, which waits for all the others: the others are walked once, in the order of the text, and then the last.
  A rule for a region that draws its order, whose operations turn nothing that was there: each operation is shown ONCE, whatever came ahead of it: what it leaves is told by a property of its value that lasts while memory grows.
  A rule for a region that draws its order, some of whose operations (the calls of 'calls') wait for each other and lead from one state to the next, while all others leave the state alone: each operation is shown ONCE, whatever came ahead of it.
  The rule once more, where what is known of a value may end with a call of the chain (an append in place): some of whose operations (the calls of 'calls') wait for each other and lead from one state to the next, while all others leave the state alone: each operation is shown ONCE, whatever came ahead of it.
  Plain facts on memory for the proofs over package cache: blocks of bytes, copies, rows of one's own.
  Regions that draw their order: the kinds of values and of operations, over one rule (Cg2).
  The rule once more, where some operations are not wanted (their guard is off): each operation is shown once.
  Small facts, of no program: draws, texts of bytes, frames.
  A world with blocks more, that nobody looks into: as a word that a walk can go on with.
  Whole structs, loaded and stored at once: what a walk needs not go through cell by cell.
-/
import Derived.WalkKit
import Derived.WalkSpells
import Derived.WalkLawsBesides
import Derived.BigQuiet
import Derived.Orders
import Derived.KernelRfl
import Derived.Test.YtgodlfoidjeekaaChecked
import Derived.Deep.RegionHeld3
import Derived.Deep.RegionLaw
import Derived.Deep.DrawnRows
import Derived.WalkMore
import Derived.Deep.LoopGhost
import Derived.Laws.CopyOwn
import Derived.Deep.WholeRow
import Derived.Laws.OwnMore
import Derived.Laws.BytesArg
import Derived.Lib.ConvBytes
import Derived.Laws.Tables
import Derived.Laws.Rows
import Derived.Handy
namespace Go.Proofs.Ytgodlfoidjeekaa
set_option linter.unusedVariables false
set_option linter.unusedSimpArgs false
open Go.RowKit
set_option linter.unusedVariables false

theorem hide {p : Prop} (h : p) : Hid p := h
theorem unhide {p : Prop} (h : Hid p) : p := h

/-- Bytes as cells. -/
def bvs (l : List UInt8) : List Value := l.map fun b => Value.int .u8 (b.toNat : Int)

theorem bvs_length (l : List UInt8) : (bvs l).length = l.length := by simp [bvs]
theorem bvs_append (l m : List UInt8) : bvs (l ++ m) = bvs l ++ bvs m := by simp [bvs]
theorem bvs_one (l : List UInt8) : ∀ u ∈ bvs l, u.oneCell' = true := by
  intro u hu
  obtain ⟨_, _, rfl⟩ := List.mem_map.1 hu
  rfl
theorem bvs_get (l : List UInt8) (j : Nat) (h : j < l.length) : (bvs l)[j]? = some (.int .u8 ((l[j]).toNat : Int)) := by simp [bvs, h]

/-- Of what was there before, only the blocks in S may have turned. -/
structure Fr (S : Nat → Prop) (w w' : World) : Prop where
  os : w'.os = w.os
  tape : w'.tape = w.tape
  output : w'.output = w.output
  size : w.heap.size ≤ w'.heap.size
  block : ∀ k, k < w.heap.size → ¬ S k → w'.heap[k]? = w.heap[k]?

theorem Fr.refl (S : Nat → Prop) (w : World) : Fr S w w := ⟨rfl, rfl, rfl, Nat.le_refl _, fun _ _ _ => rfl⟩

theorem Fr.trans {S T : Nat → Prop} {a b c : World} (h : Fr S a b) (k : Fr T b c) (hT : ∀ i, i < a.heap.size → T i → S i) : Fr S a c :=
  ⟨k.os.trans h.os, k.tape.trans h.tape, k.output.trans h.output, Nat.le_trans h.size k.size,
    fun i hi hs => (k.block i (Nat.lt_of_lt_of_le hi h.size) (fun ht => hs (hT i hi ht))).trans (h.block i hi hs)⟩

theorem Fr.mono {S T : Nat → Prop} {a b : World} (h : Fr S a b) (hT : ∀ i, i < a.heap.size → S i → T i) : Fr T a b :=
  ⟨h.os, h.tape, h.output, h.size, fun i hi hs => h.block i hi (fun ht => hs (hT i hi ht))⟩

theorem Fr.drew {S : Nat → Prop} {a w : World} (h : Fr S a w) : Fr S a w.drew := ⟨h.os, h.tape, h.output, h.size, h.block⟩
theorem Fr.drewL {S : Nat → Prop} {a w : World} (h : Fr S a.drew w) : Fr S a w := ⟨h.os, h.tape, h.output, h.size, h.block⟩

theorem Fr.alloc {S : Nat → Prop} {a w : World} (h : Fr S a w) (o : Obj) : Fr S a (w.alloc o) :=
  h.trans (T := fun _ => False) ⟨rfl, rfl, rfl, by simp, fun k hk _ => Below.heap_alloc _ _ _ hk⟩ (fun _ _ h => h.elim)

theorem Fr.setCell {S : Nat → Prop} {a w : World} (h : Fr S a w) {p : Addr} (hp : p.block < a.heap.size → S p.block) (u : Value) : Fr S a (w.setCell p u) :=
  h.trans (T := fun i => i = p.block) ⟨rfl, rfl, rfl, by simp [World.setCell], fun k _ hs => Below.heap_setCell _ _ _ _ hs⟩ (fun i hi h => by subst h; exact hp hi)

theorem Fr.grown {S : Nat → Prop} {a w w' : World} {row : Option Nat} (h : Fr S a w) (hg : w.grownBy w' row) (hr : ∀ k, k < a.heap.size → row = some k → S k) : Fr S a w' :=
  h.trans (T := fun i => row = some i) ⟨hg.os, hg.tape, hg.output, hg.size, fun k hk hs => hg.block k hk (fun e => hs e.symm)⟩ hr

theorem Fr.below {B : Nat} {S : Nat → Prop} {w w' : World} (h : Fr S w w') (hB : B ≤ w.heap.size) (hS : ∀ k, k < B → ¬ S k) : Below B w w' :=
  ⟨h.os, h.tape, h.output, h.size, fun k hk => h.block k (Nat.lt_of_lt_of_le hk hB) (hS k hk)⟩

theorem Fr.of_below {w w' : World} (h : Below w.heap.size w w') (S : Nat → Prop) : Fr S w w' := ⟨h.os, h.tape, h.output, h.size, fun k hk _ => h.block k hk⟩

theorem Fr.cell {S : Nat → Prop} {w w' : World} (h : Fr S w w') {a : Addr} (ha : a.block < w.heap.size) (hs : ¬ S a.block) : w'.cell? a = w.cell? a := World.cell?_of_block (w := w) (h.block a.block ha hs)
theorem Fr.frozen {S : Nat → Prop} {w w' : World} (h : Fr S w w') {a : Addr} (ha : a.block < w.heap.size) (hs : ¬ S a.block) : w'.frozen? a = w.frozen? a := World.frozen?_of_block (w := w) (h.block a.block ha hs)

theorem lt_of_heap {w : World} {p : Nat} {o : Obj} (h : w.heap[p]? = some o) : p < w.heap.size := (Array.getElem?_eq_some_iff.1 h).1

/-- A cell of a block that lies written out. -/
theorem cell_of_heap {w : World} {p : Nat} {cs : Array Value} {e : TypeId} (h : w.heap[p]? = some (.cells cs e (0, 0))) (j : Nat) : w.cell? ⟨p, j, none⟩ = cs[j]? :=
  cell_of_row w p j cs e (0, 0) h
theorem frozen_of_heap {w : World} {p : Nat} {cs : Array Value} {e : TypeId} (h : w.heap[p]? = some (.cells cs e (0, 0))) (j : Nat) : w.frozen? ⟨p, j, none⟩ = false :=
  frozen_of_row w p j cs e h

/-- A slice of bytes that can be read: l are its bytes. -/
def Rd (w : World) (v : Value) (l : List UInt8) : Prop :=
  (v = .slice none 0 0 ∧ l = []) ∨
  ∃ ad cap, v = .slice (some ad) l.length cap ∧ l.length ≤ cap ∧ cap ≤ maxLen ∧ ∀ j (h : j < l.length), w.cell? (ad.add j) = some (.int .u8 ((l[j]).toNat : Int))

theorem add_block (a : Addr) (j : Nat) : (a.add j).block = a.block := by unfold Addr.add; split <;> rfl

theorem Rd.lit {w : World} {b o n cap : Nat} {l : List UInt8} (hn : l.length = n) (h1 : n ≤ cap) (h2 : cap ≤ maxLen) (h3 : ∀ j (h : j < l.length), w.cell? ⟨b, o + j, none⟩ = some (.int .u8 ((l[j]).toNat : Int))) : Rd w (.slice (some ⟨b, o, none⟩) n cap) l := by
  subst hn
  exact .inr ⟨⟨b, o, none⟩, cap, rfl, h1, h2, fun j hj => by rw [Addr.add_lit]; exact h3 j hj⟩

theorem Rd.kept {S : Nat → Prop} {w w' : World} {v : Value} {l : List UInt8} (h : Rd w v l) (f : Fr S w w') (hS : ∀ b, v.ownBlock = some b → ¬ S b) : Rd w' v l := by
  rcases h with h | ⟨ad, cap, rfl, h1, h2, h3⟩
  · exact .inl h
  · refine .inr ⟨ad, cap, rfl, h1, h2, fun j hj => ?_⟩
    rw [f.cell (World.block_lt_of_cell? w _ (h3 j hj)) (by rw [add_block]; exact hS ad.block rfl)]
    exact h3 j hj

theorem Rd.nil (w : World) : Rd w (.slice none 0 0) [] := .inl ⟨rfl, rfl⟩

theorem Rd.shape {w : World} {v : Value} {l : List UInt8} (h : Rd w v l) : ∃ ao cap, v = .slice ao l.length cap := by
  rcases h with ⟨rfl, rfl⟩ | ⟨ad, cap, rfl, _⟩
  · exact ⟨_, _, rfl⟩
  · exact ⟨_, _, rfl⟩

theorem Rd.len {w : World} {v : Value} {l : List UInt8} (h : Rd w v l) : l.length ≤ maxLen := by
  rcases h with ⟨_, rfl⟩ | ⟨ad, cap, rfl, h1, h2, h3⟩
  · simp
  · omega

/-- A slice that somebody owns can be read. -/
theorem Rd.of_owns {w : World} {base : Nat} {v : Value} {l : List UInt8} (h : w.ownsRow base 5 1 v l.length (bvs l)) : Rd w v l := by
  rcases h.2 with ⟨hv, hn⟩ | ⟨g, cap, cur, rfl, hb, hg, hnc, hcm, hcs, htake⟩
  · exact .inl ⟨hv, List.eq_nil_of_length_eq_zero hn⟩
  · refine Rd.lit rfl hnc hcm fun j hj => ?_
    have h2 := World.ownsRow.cellAt h j (by omega)
    rw [Nat.zero_add, h2]
    exact bvs_get l j hj

/-- The cells of a slice that is not empty. -/
theorem Rd.lits {w : World} {ao : Option Addr} {n cap : Nat} {l : List UInt8} (h : Rd w (.slice ao n cap) l) (hl : 0 < l.length) : ∃ b o, ao = some ⟨b, o, none⟩ ∧ n = l.length ∧ n ≤ cap ∧ cap ≤ maxLen ∧ ∀ j (h : j < l.length), w.cell? ⟨b, o + j, none⟩ = some (.int .u8 ((l[j]).toNat : Int)) := by
  rcases h with ⟨_, rfl⟩ | ⟨ad, cap', hv, h1, h2, h3⟩
  · simp at hl
  · simp only [Value.slice.injEq] at hv
    obtain ⟨rfl, rfl, rfl⟩ := hv
    obtain ⟨b, off, spot⟩ := ad
    have hspot : spot = none := by simpa [Addr.add] using World.cell?_spot (h3 0 hl)
    subst hspot
    exact ⟨b, off, rfl, rfl, h1, h2, fun j hj => by rw [← Addr.add_lit]; exact h3 j hj⟩

/-- What is appended: a nil slice, or one whose cells can be read. -/
def Sr (w : World) (size : Nat) (x : Value) (m : Nat) (news : List Value) : Prop :=
  (x = .slice none 0 0 ∧ m = 0 ∧ news = []) ∨
  ∃ ad c, x = .slice (some ad) m c ∧ news.length = m * size ∧ ∀ j u, news[j]? = some u → w.cell? (ad.add j) = some u

theorem Rd.sr {w : World} {v : Value} {l : List UInt8} (h : Rd w v l) : Sr w 1 v l.length (bvs l) := by
  rcases h with ⟨rfl, rfl⟩ | ⟨ad, cap, rfl, h1, h2, h3⟩
  · exact .inl ⟨rfl, rfl, rfl⟩
  · refine .inr ⟨ad, cap, rfl, by simp [bvs_length], fun j u hu => ?_⟩
    have hj : j < l.length := by
      have := (List.getElem?_eq_some_iff.1 hu).1
      rwa [bvs_length] at this
    rw [h3 j hj]
    rw [bvs_get l j hj] at hu
    exact hu

theorem owns_shape {w : World} {base : Nat} {e : TypeId} {size : Nat} {v : Value} {n : Nat} {xs : List Value} (h : w.ownsRow base e size v n xs) : ∃ ao cap, v = .slice ao n cap := by
  rcases h.2 with ⟨rfl, rfl⟩ | ⟨g, cap, cur, rfl, _⟩
  · exact ⟨_, _, rfl⟩
  · exact ⟨_, _, rfl⟩

/-- append: what is owned grows, in its own block or in a new one. -/
theorem run_app {P : Program} (w : World) (t ty e : TypeId) (i : TypeInfo) (z : Value) (size bytes : Nat) (ht : P.underlying t = some (.slice e)) (hi : P.info? e = some i) (hz : i.zero = some z)
    (hsize : i.size = size) (hby : i.bytes = bytes) (hzs : z.cells.size = size) (hsz : 0 < size)
    (v : Value) (n : Nat) (xs : List Value) (hown : w.ownsRow 0 e size v n xs)
    (x : Value) (m : Nat) (news : List Value) (hx : Sr w size x m news) (h1 : ∀ u ∈ news, u.oneCell' = true) (hbytes : (n + m) * bytes ≤ 140737488355328) (h63 : n + m ≤ maxLen) :
    ∃ v' w', (Builtin.append_ #[t, t] ty #[v, x]).run P w = .ok v' w' ∧ w'.ownsRow 0 e size v' (n + m) (xs ++ news) ∧ w.grownBy w' v.ownBlock ∧
      (v'.ownBlock = v.ownBlock ∨ v'.ownBlock = some w.heap.size) := by
  rcases hx with ⟨rfl, rfl, rfl⟩ | ⟨ad, c, rfl, hl, hc⟩
  · exact ⟨v, w, run_append_owned_none w 0 t ty e i size ht hi v n xs hown, by simpa using hown, World.grownBy.refl _ _, .inl rfl⟩
  · obtain ⟨v', w', hr, ho, hg, hn⟩ := run_append_own (P := P) w 0 t ty e i z size bytes ht hi hz hsize hby hzs hsz v n xs hown ad m c news hl hc h1 h63 hbytes (Nat.zero_le _)
    refine ⟨v', w', hr, ho, hg, ?_⟩
    have h63' : ((n + m : Nat) : Int) ≤ 9223372036854775807 := by simp only [maxLen] at h63; omega
    rcases hown.2 with ⟨rfl, rfl⟩ | ⟨g, cap, cur, rfl, hbg, hgg, hnc, hcm, hcs, htake⟩
    · by_cases hm : m = 0
      · left; rw [hn.2 ⟨rfl, hm⟩]
      · right
        have hr2 := run_append_nil (P := P) w t ty e i z ht hi hz ad m c news (by rw [hsize]; exact hl) hc (by omega) (by omega) (by rw [hby]; simp only [Nat.zero_add] at hbytes; omega)
        rw [hr] at hr2
        simp only [Result.ok.injEq] at hr2
        rw [hr2.1]; rfl
    · by_cases hroom : n + m ≤ cap
      · left
        obtain ⟨w2, hr2, _⟩ := run_append_fits (P := P) w 0 t ty e i size ht hi hsize g n cap xs hown ad m c news hl hc h1 hroom
        rw [hr] at hr2
        simp only [Result.ok.injEq] at hr2
        rw [hr2.1]; rfl
      · right
        have hr2 := run_append_grow (P := P) w t ty e i z ht hi hz ⟨g, 0, none⟩ n cap xs (by rw [hsize]; exact hown.1) (hown.cells (g := g) rfl) ad m c news (by rw [hsize]; exact hl) hc (by omega) h63' (by rw [hby]; exact growslice_fits (by omega) hbytes)
        rw [hr] at hr2
        simp only [Result.ok.injEq] at hr2
        rw [hr2.1]; rfl

theorem wp_app {P : Program} {w : World} {o : Oper} {a : Act} {K : Act → World → Prop} {Q : Exit → Act → World → Prop} (s x : Operand) (t : TypeId)
    (ho : o.op = .call { callee := .builtin .append, args := #[s, x], argTypes := #[t, t] })
    (e : TypeId) (i : TypeInfo) (z : Value) (size bytes : Nat) (ht : P.underlying t = some (.slice e)) (hi : P.info? e = some i) (hz : i.zero = some z)
    (hsize : i.size = size) (hby : i.bytes = bytes) (hzs : z.cells.size = size) (hsz : 0 < size)
    (v : Value) (n : Nat) (xs : List Value) (hs : a.eval s = v) (xv : Value) (hxv : a.eval x = xv) (m : Nat) (news : List Value)
    (hown : w.ownsRow 0 e size v n xs) (hx : Sr w size xv m news) (h1 : ∀ u ∈ news, u.oneCell' = true) (hbytes : (n + m) * bytes ≤ 140737488355328) (h63 : n + m ≤ maxLen)
    (h : ∀ ao cap w', w'.ownsRow 0 e size (.slice ao (n + m) cap) (n + m) (xs ++ news) → w.grownBy w' v.ownBlock → ((Value.slice ao (n + m) cap).ownBlock = v.ownBlock ∨ ∃ k, (Value.slice ao (n + m) cap).ownBlock = some k ∧ w.heap.size ≤ k) → K (a.put o.dst (.slice ao (n + m) cap)) w') : o.wp P a w K Q := by
  obtain ⟨v', w', hr, h2, h3, h4⟩ := run_app (P := P) w t o.type e i z size bytes ht hi hz hsize hby hzs hsz v n xs hown xv m news hx h1 hbytes h63
  unfold Oper.wp execOp
  simp only [ho, resolve, invoke, builtin, Sem.run_bind, Sem.run_pure, Result.andThen_ok, List.map_toArray, List.map_cons, List.map_nil, hs, hxv, hr]
  obtain ⟨ao, cap, rfl⟩ := owns_shape h2
  exact h ao cap w' h2 h3 (by rcases h4 with h4 | h4; exact .inl h4; exact .inr ⟨_, h4, Nat.le_refl _⟩)

theorem wpList_app {P : Program} {w : World} {ops : Array Oper} {rest : List Oper} {o : Oper} {a : Act} {Q : Exit → Act → World → Prop} (hgd : o.guard = none) (s x : Operand) (t : TypeId)
    (ho : o.op = .call { callee := .builtin .append, args := #[s, x], argTypes := #[t, t] })
    (e : TypeId) (i : TypeInfo) (z : Value) (size bytes : Nat) (ht : P.underlying t = some (.slice e)) (hi : P.info? e = some i) (hz : i.zero = some z)
    (hsize : i.size = size) (hby : i.bytes = bytes) (hzs : z.cells.size = size) (hsz : 0 < size)
    (v : Value) (n : Nat) (xs : List Value) (hs : a.eval s = v) (xv : Value) (hxv : a.eval x = xv) (m : Nat) (news : List Value)
    (hown : w.ownsRow 0 e size v n xs) (hx : Sr w size xv m news) (h1 : ∀ u ∈ news, u.oneCell' = true) (hbytes : (n + m) * bytes ≤ 140737488355328) (h63 : n + m ≤ maxLen)
    (h : ∀ ao cap w', w'.ownsRow 0 e size (.slice ao (n + m) cap) (n + m) (xs ++ news) → w.grownBy w' v.ownBlock → ((Value.slice ao (n + m) cap).ownBlock = v.ownBlock ∨ ∃ k, (Value.slice ao (n + m) cap).ownBlock = some k ∧ w.heap.size ≤ k) → wpList P ops Q rest (a.put o.dst (.slice ao (n + m) cap)) w') : wpList P ops Q (o :: rest) a w :=
  wpList_plain hgd fun _ hK => wp_app s x t ho e i z size bytes ht hi hz hsize hby hzs hsz v n xs hs xv hxv m news hown hx h1 hbytes h63 fun ao cap w' h2 h3 h4 => hK _ _ (h ao cap w' h2 h3 h4)

/-- append, as a step of a region that draws its order. -/
theorem step_app {P : Program} {w : World} {ops : Array Oper} {o : Oper} {a : Act} {K : Act → World → Prop} {Q : Exit → Act → World → Prop} {E : Prop} (hgd : o.guard = none) (s x : Operand) (t : TypeId)
    (ho : o.op = .call { callee := .builtin .append, args := #[s, x], argTypes := #[t, t] })
    (e : TypeId) (i : TypeInfo) (z : Value) (size bytes : Nat) (ht : P.underlying t = some (.slice e)) (hi : P.info? e = some i) (hz : i.zero = some z)
    (hsize : i.size = size) (hby : i.bytes = bytes) (hzs : z.cells.size = size) (hsz : 0 < size)
    (v : Value) (n : Nat) (xs : List Value) (hs : a.eval s = v) (xv : Value) (hxv : a.eval x = xv) (m : Nat) (news : List Value)
    (hown : w.ownsRow 0 e size v n xs) (hx : Sr w size xv m news) (h1 : ∀ u ∈ news, u.oneCell' = true) (hbytes : (n + m) * bytes ≤ 140737488355328) (h63 : n + m ≤ maxLen)
    (h : ∀ ao cap w', w'.ownsRow 0 e size (.slice ao (n + m) cap) (n + m) (xs ++ news) → w.grownBy w' v.ownBlock → ((Value.slice ao (n + m) cap).ownBlock = v.ownBlock ∨ ∃ k, (Value.slice ao (n + m) cap).ownBlock = some k ∧ w.heap.size ≤ k) → K (a.put o.dst (.slice ao (n + m) cap)) w') :
    if Region.wanted o (yielded ops a.tmps) = true then Oper.wp P o a w K Q else E := by
  have hw : Region.wanted o (yielded ops a.tmps) = true := by simp [Region.wanted, hgd]
  rw [if_pos hw]
  exact wp_app s x t ho e i z size bytes ht hi hz hsize hby hzs hsz v n xs hs xv hxv m news hown hx h1 hbytes h63 h

/-- A slice of one-celled values that can be read. -/
def RdV (w : World) (v : Value) (xs : List Value) : Prop :=
  (v = .slice none 0 0 ∧ xs = []) ∨
  ∃ ad cap, v = .slice (some ad) xs.length cap ∧ xs.length ≤ cap ∧ cap ≤ maxLen ∧ ∀ j (h : j < xs.length), w.cell? (ad.add j) = some xs[j]

theorem RdV.kept {S : Nat → Prop} {w w' : World} {v : Value} {l : List Value} (h : RdV w v l) (f : Fr S w w') (hS : ∀ b, v.ownBlock = some b → ¬ S b) : RdV w' v l := by
  rcases h with h | ⟨ad, cap, rfl, h1, h2, h3⟩
  · exact .inl h
  · refine .inr ⟨ad, cap, rfl, h1, h2, fun j hj => ?_⟩
    rw [f.cell (World.block_lt_of_cell? w _ (h3 j hj)) (by rw [add_block]; exact hS ad.block rfl)]
    exact h3 j hj

theorem RdV.nil (w : World) : RdV w (.slice none 0 0) [] := .inl ⟨rfl, rfl⟩

theorem RdV.shape {w : World} {v : Value} {l : List Value} (h : RdV w v l) : ∃ ao cap, v = .slice ao l.length cap := by
  rcases h with ⟨rfl, rfl⟩ | ⟨ad, cap, rfl, _⟩
  · exact ⟨_, _, rfl⟩
  · exact ⟨_, _, rfl⟩

theorem RdV.len {w : World} {v : Value} {l : List Value} (h : RdV w v l) : l.length ≤ maxLen := by
  rcases h with ⟨_, rfl⟩ | ⟨ad, cap, rfl, h1, h2, h3⟩
  · simp
  · omega

theorem RdV.lits {w : World} {ao : Option Addr} {n cap : Nat} {l : List Value} (h : RdV w (.slice ao n cap) l) (hl : 0 < l.length) : ∃ b o, ao = some ⟨b, o, none⟩ ∧ n = l.length ∧ n ≤ cap ∧ cap ≤ maxLen ∧ ∀ j (h : j < l.length), w.cell? ⟨b, o + j, none⟩ = some l[j] := by
  rcases h with ⟨_, rfl⟩ | ⟨ad, cap', hv, h1, h2, h3⟩
  · simp at hl
  · simp only [Value.slice.injEq] at hv
    obtain ⟨rfl, rfl, rfl⟩ := hv
    obtain ⟨b, off, spot⟩ := ad
    have hspot : spot = none := by simpa [Addr.add] using World.cell?_spot (h3 0 hl)
    subst hspot
    exact ⟨b, off, rfl, rfl, h1, h2, fun j hj => by rw [← Addr.add_lit]; exact h3 j hj⟩

theorem RdV.of_owns {w : World} {base : Nat} {e : TypeId} {v : Value} {l : List Value} (h : w.ownsRow base e 1 v l.length l) : RdV w v l := by
  rcases h.2 with ⟨hv, hn⟩ | ⟨g, cap, cur, rfl, hb, hg, hnc, hcm, hcs, htake⟩
  · exact .inl ⟨hv, List.eq_nil_of_length_eq_zero hn⟩
  · refine .inr ⟨_, cap, rfl, hnc, hcm, fun j hj => ?_⟩
    rw [Addr.add_lit, Nat.zero_add, World.ownsRow.cellAt h j (by omega)]
    simp [hj]

end Go.Proofs.Ytgodlfoidjeekaa

namespace Go.Proofs.Ytgodlfoidjeekaa
set_option linter.unusedVariables false
set_option linter.unusedSimpArgs false
open Go.RowKit
set_option linter.unusedVariables false
set_option linter.unusedSimpArgs false

/-- Edges lead back. -/
def backB (l : List Oper) : Nat → Bool
  | k => match l with
    | [] => true
    | o :: l => (o.after.all fun e => !Region.binds .any e || decide (e.on < k)) && backB l (k + 1)

theorem backB_get {l : List Oper} {k : Nat} (h : backB l k = true) {i : Nat} {o : Oper} (ho : l[i]? = some o) : ∀ e ∈ o.after, Region.binds .any e = true → e.on < k + i := by
  induction l generalizing k i with
  | nil => simp at ho
  | cons x l ih =>
    simp only [backB, Bool.and_eq_true] at h
    cases i with
    | zero =>
      simp at ho
      subst ho
      intro e he hb
      have := (Array.all_eq_true_iff_forall_mem.1 h.1) e he
      simp [hb] at this
      omega
    | succ i =>
      simp at ho
      intro e he hb
      have := ih h.2 ho e he hb
      omega

/-- Where nothing is ready all are listed. -/
theorem all_listed {l : List Oper} (hB : backB l 0 = true) {listed : Array Bool} (hs : listed.size = l.length) (hr : Region.ready .any l.toArray listed = []) : ∀ i, i < l.length → listed.getD i false = true := by
  intro i
  induction i using Nat.strongRecOn with
  | ind i ih =>
    intro hi
    cases hv : listed.getD i false with
    | true => rfl
    | false =>
      exfalso
      have hmem : i ∈ Region.ready .any l.toArray listed := by
        rw [mem_ready]
        refine ⟨?_, l[i], by simp [hi], fun e he hb => ?_⟩
        · have hlt : i < listed.size := by omega
          simp [hlt] at hv ⊢
          exact hv
        · have := backB_get hB (show l[i]? = some l[i] by simp [hi]) e he hb
          exact ih e.on (by omega) (by omega)
      rw [hr] at hmem
      simp at hmem

def waitsB (o : Oper) (j : Nat) : Bool := o.after.any fun e => Region.binds .any e && e.on == j

section
variable {P : Program} {C : World → Prop}

theorem app_get {l zs : List Oper} {i : Nat} (h : i < l.length) : (l ++ zs).toArray[i]? = l.toArray[i]? := by
  simp [List.getElem?_append, h]

theorem listed_app {listed : Array Bool} {m i : Nat} (d : Bool) (h : i < listed.size) : (listed ++ Array.replicate m false).getD i d = listed.getD i d := by
  simp only [Array.getD_eq_getD_getElem?]
  rw [Array.getElem?_append_left h]

/-- What has come up has all that it waits for ahead of it. -/
def Closed (l : List Oper) (listed : Array Bool) : Prop := ∀ i o, l[i]? = some o → listed.getD i false = true → ∀ e ∈ o.after, Region.binds .any e = true → listed.getD e.on false = true

theorem Closed.set {l : List Oper} {listed : Array Bool} (h : Closed l listed) {i : Nat} (hi : i ∈ Region.ready .any l.toArray listed) : Closed l (listed.setIfInBounds i true) := by
  obtain ⟨g1, o, ho, g2⟩ := mem_ready.1 hi
  have hmono : ∀ k, listed.getD k false = true → (listed.setIfInBounds i true).getD k false = true := fun k hk => by
    by_cases e : i = k
    · subst e
      have hlt : i < listed.size := by
        rcases Nat.lt_or_ge i listed.size with h' | h'
        · exact h'
        · simp [Array.getElem?_eq_none h'] at hk
      simp [hlt]
    · rw [getD_set_ne false e]; exact hk
  intro k ok hok hk e he hb
  by_cases eq : i = k
  · subst eq
    have : ok = o := by rw [show l[i]? = some o by simpa using ho] at hok; simpa using hok.symm
    subst this
    exact hmono _ (g2 e he hb)
  · rw [getD_set_ne false eq] at hk
    exact hmono _ (h k ok hok hk e he hb)

/-- Does operation i wait for operation j, itself or through others? -/
def needsB (l : List Oper) : Nat → Nat → Nat → Bool
  | 0, _, _ => false
  | f + 1, i, j => match l[i]? with
    | some o => waitsB o j || o.after.any fun e => Region.binds .any e && needsB l f e.on j
    | none => false

theorem waitsB_get {o : Oper} {j : Nat} (h : waitsB o j = true) : ∃ e ∈ o.after, Region.binds .any e = true ∧ e.on = j := by
  unfold waitsB at h
  rw [← Array.any_toList, List.any_eq_true] at h
  obtain ⟨e, he', hb⟩ := h
  simp only [Bool.and_eq_true, beq_iff_eq] at hb
  exact ⟨e, by simpa using he', hb.1, hb.2⟩

theorem needsB_get {l : List Oper} {listed : Array Bool} (hC : Closed l listed) : ∀ (f i j : Nat) (o : Oper), l[i]? = some o → (∀ e ∈ o.after, Region.binds .any e = true → listed.getD e.on false = true) → needsB l f i j = true → listed.getD j false = true := by
  intro f
  induction f with
  | zero => intro i j o _ _ h; simp [needsB] at h
  | succ f ih =>
    intro i j o ho hd h
    unfold needsB at h
    rw [ho] at h
    simp only [Bool.or_eq_true] at h
    rcases h with h | h
    · obtain ⟨e, he, hb, rfl⟩ := waitsB_get h
      exact hd e he hb
    · rw [← Array.any_toList, List.any_eq_true] at h
      obtain ⟨e, he', hb⟩ := h
      simp only [Bool.and_eq_true] at hb
      have he : e ∈ o.after := by simpa using he'
      have hl := hd e he hb.1
      have h2 := hb.2
      cases hoe : l[e.on]? with
      | none =>
        cases f with
        | zero => simp [needsB] at h2
        | succ f => unfold needsB at h2; rw [hoe] at h2; simp at h2
      | some o2 => exact ih e.on j o2 hoe (fun e2 he2 hb2 => hC e.on o2 hoe hl e2 he2 hb2) h2

/-- The operation at k waits for all ahead of it, and each behind it for the one ahead of it. -/
def seqB (l : List Oper) (k : Nat) : Bool := ((List.range k).all fun j => needsB l 50 k j) && (List.range l.length).all fun i => decide (i ≤ k) || match l[i]? with
  | some o => waitsB o (i - 1)
  | none => true

theorem seqB_get {l : List Oper} {k i : Nat} (h : seqB l k = true) (hi : i < l.length) (hk : k < i) {o : Oper} (ho : l[i]? = some o) : ∃ e ∈ o.after, Region.binds .any e = true ∧ e.on = i - 1 := by
  unfold seqB at h
  rw [Bool.and_eq_true] at h
  have h1 := List.all_eq_true.1 h.2 i (by simpa using hi)
  rw [ho] at h1
  simp only [Bool.or_eq_true, decide_eq_true_eq] at h1
  exact waitsB_get (h1.resolve_left (by omega))

theorem seqB_needs {l : List Oper} {k : Nat} (h : seqB l k = true) {j : Nat} (hj : j < k) : needsB l 50 k j = true := by
  unfold seqB at h
  rw [Bool.and_eq_true] at h
  exact List.all_eq_true.1 h.1 j (by simpa using hj)

/-- The tail, in the order of the text. -/
theorem seq_tail {ops : List Oper} {Q : Exit → Act → World → Prop} (hB : backB ops 0 = true) (n : Nat) (hS : seqB ops n = true) :
    ∀ (zs : List Oper) (k : Nat), n ≤ k → ops.drop k = zs → ∀ (listed : Array Bool) (a : Act) (w : World) (fuel : Nat), listed.size = ops.length → (∀ i, i < k → i < ops.length → listed.getD i false = true) → (∀ i, k ≤ i → i < ops.length → listed.getD i true = false) →
      zs.length ≤ fuel → wpList P ops.toArray Q zs a w → wpAny P .any ops.toArray Q fuel listed a w := by
  intro zs
  induction zs with
  | nil =>
    intro k hk hd listed a w fuel hs h1 h2 hf h
    have hlen : ops.length ≤ k := by
      have := congrArg List.length hd
      simp at this
      omega
    have hr : Region.ready .any ops.toArray listed = [] := by
      rw [List.eq_nil_iff_forall_not_mem]
      intro i hi
      obtain ⟨g1, o, ho, -⟩ := mem_ready.1 hi
      have hil : i < ops.length := by
        have := (Array.getElem?_eq_some_iff.1 ho).1
        simpa using this
      have h3 := h1 i (by omega) hil
      have hlt : i < listed.size := by omega
      simp [hlt] at g1 h3
      rw [g1] at h3
      exact absurd h3 (by decide)
    cases fuel with
    | zero => exact ⟨hr, h⟩
    | succ f => exact ⟨fun _ => h, fun i hi => by rw [hr] at hi; simp at hi⟩
  | cons z zs ih =>
    intro k hk hd listed a w fuel hs h1 h2 hf h
    have hkl : k < ops.length := by
      have := congrArg List.length hd
      simp at this
      omega
    have hz : ops[k]? = some z := by
      have := congrArg (fun l => l[0]?) hd
      simpa using this
    have hd' : ops.drop (k + 1) = zs := by
      have := congrArg List.tail hd
      simpa using this
    obtain ⟨f, rfl⟩ : ∃ f, fuel = f + 1 := ⟨fuel - 1, by simp at hf; omega⟩
    refine ⟨fun hr => ?_, fun i hi => ?_⟩
    · have h3 := all_listed hB hs hr k hkl
      have h4 := h2 k (Nat.le_refl _) hkl
      have hlt : k < listed.size := by omega
      simp [hlt] at h3 h4
      rw [h3] at h4
      exact absurd h4 (by decide)
    · obtain ⟨g1, o, ho, g2⟩ := mem_ready.1 hi
      have hil : i < ops.length := by
        have := (Array.getElem?_eq_some_iff.1 ho).1
        simpa using this
      have hlt : i < listed.size := by omega
      have hik : i = k := by
        rcases Nat.lt_trichotomy i k with h3 | h3 | h3
        · have h4 := h1 i h3 hil
          simp [hlt] at g1 h4
          rw [g1] at h4
          exact absurd h4 (by decide)
        · exact h3
        · obtain ⟨e, he, hb, hon⟩ := seqB_get hS hil (by omega) (show ops[i]? = some o by simpa using ho)
          have h4 := g2 e he hb
          have h5 := h2 (i - 1) (by omega) (by omega)
          rw [hon] at h4
          have hlt2 : i - 1 < listed.size := by omega
          simp [hlt2] at h4 h5
          rw [h4] at h5
          exact absurd h5 (by decide)
      subst hik
      have hnext : ∀ a' w', wpList P ops.toArray Q zs a' w' → wpAny P .any ops.toArray Q f (listed.setIfInBounds i true) a' w' := fun a' w' h' =>
        ih (i + 1) (by omega) hd' (listed.setIfInBounds i true) a' w' f (by simpa using hs)
          (fun j hj hjl => by
            by_cases e : i = j
            · subst e; simp [hlt]
            · rw [getD_set_ne false e]; exact h1 j (by omega) hjl)
          (fun j hj hjl => by
            rw [getD_set_ne true (by omega)]; exact h2 j (by omega) hjl)
          (by simp at hf; omega) h'
      unfold wpOp
      have hz' : ops.toArray[i]? = some z := by simpa using hz
      simp only [hz']
      unfold wpList at h
      split
      · rename_i hw
        rw [if_pos hw] at h
        exact h.imp (Oper.wp_mono hnext) id
      · rename_i hw
        rw [if_neg hw] at h
        exact hnext _ _ h

def guardsB (l : List Oper) : Bool := l.all fun o => match o.guard with
  | some (j, _) => decide (j < l.length)
  | none => true

theorem wanted_app {l zs : List Oper} (hg : guardsB l = true) {o : Oper} (ho : o ∈ l) (tmps : Array Value) : Region.wanted o (yielded (l ++ zs).toArray tmps) = Region.wanted o (yielded l.toArray tmps) := by
  have h1 := List.all_eq_true.1 hg o ho
  unfold Region.wanted
  cases hgd : o.guard with
  | none => rfl
  | some g =>
    obtain ⟨j, b⟩ := g
    rw [hgd] at h1
    have hj : j < l.length := by simpa using h1
    simp only [yielded, app_get hj]

theorem wpAny_of_quietTail {l zs : List Oper} {Q : Act → Prop} {Q' : Exit → Act → World → Prop} (hB : backB (l ++ zs) 0 = true) (hBl : backB l 0 = true) (hS : seqB (l ++ zs) l.length = true) (hG : guardsB l = true)
    (hQ : ∀ a w, C w → Q a → wpList P (l ++ zs).toArray Q' zs a w) : ∀ (fuel : Nat) (listed : Array Bool) (a : Act) (w : World), C w → listed.size = l.length → Closed l listed →
    wpAnyQ P .any l.toArray C Q fuel listed a → wpAny P .any (l ++ zs).toArray Q' (fuel + zs.length) (listed ++ Array.replicate zs.length false) a w := by
  have tail : ∀ (listed : Array Bool) (a : Act) (w : World) (fuel : Nat), listed.size = l.length → (∀ i, i < l.length → listed.getD i false = true) → zs.length ≤ fuel → wpList P (l ++ zs).toArray Q' zs a w → wpAny P .any (l ++ zs).toArray Q' fuel (listed ++ Array.replicate zs.length false) a w := by
    intro listed a w fuel hs hall hf h
    refine seq_tail hB l.length hS zs l.length (Nat.le_refl _) (by simp) _ a w fuel (by simp [hs]) (fun i hi _ => ?_) (fun i hi hil => ?_) hf h
    · rw [listed_app false (by omega)]; exact hall i hi
    · simp only [Array.getD_eq_getD_getElem?]
      rw [Array.getElem?_append_right (by omega), Array.getElem?_replicate]
      rw [if_pos (by simp at hil; omega)]
      rfl
  have hold : ∀ (listed : Array Bool), listed.size = l.length → ∀ i, i < l.length → i ∈ Region.ready .any (l ++ zs).toArray (listed ++ Array.replicate zs.length false) → i ∈ Region.ready .any l.toArray listed := by
    intro listed hs i hil hi
    obtain ⟨g1, o, ho, g2⟩ := mem_ready.1 hi
    rw [app_get hil] at ho
    rw [listed_app true (by omega)] at g1
    refine mem_ready.2 ⟨g1, o, ho, fun e he hb => ?_⟩
    have h4 := backB_get hBl (show l[i]? = some o by simpa using ho) e he hb
    have h5 := g2 e he hb
    rwa [listed_app false (by omega)] at h5
  have hclosed : ∀ (listed : Array Bool), listed.size = l.length → Closed l listed → Closed (l ++ zs) (listed ++ Array.replicate zs.length false) := by
    intro listed hs hc i o ho hi e he hb
    have hil : i < l.length := by
      rcases Nat.lt_or_ge i l.length with h' | h'
      · exact h'
      · simp only [Array.getD_eq_getD_getElem?] at hi
        rw [Array.getElem?_append_right (by omega), Array.getElem?_replicate] at hi
        split at hi <;> simp at hi
    rw [List.getElem?_append_left hil] at ho
    rw [listed_app false (by omega)] at hi
    have h4 := backB_get hBl ho e he hb
    rw [listed_app false (by omega)]
    exact hc i o ho hi e he hb
  have hnew : ∀ (listed : Array Bool), listed.size = l.length → Closed l listed → ∀ i, ¬ i < l.length → i ∈ Region.ready .any (l ++ zs).toArray (listed ++ Array.replicate zs.length false) → ∀ j, j < l.length → listed.getD j false = true := by
    intro listed hs hc i hil hi j hj
    obtain ⟨g1, o, ho, g2⟩ := mem_ready.1 hi
    have hil2 : i < (l ++ zs).length := by
      have := (Array.getElem?_eq_some_iff.1 ho).1
      simpa using this
    have ho' : (l ++ zs)[i]? = some o := by simpa using ho
    by_cases hik : i = l.length
    · subst hik
      have := needsB_get (hclosed listed hs hc) 50 l.length j o ho' g2 (seqB_needs hS hj)
      rwa [listed_app false (by omega)] at this
    · exfalso
      obtain ⟨e, he, hb, hon⟩ := seqB_get hS hil2 (by omega) ho'
      have h5 := g2 e he hb
      rw [hon] at h5
      simp only [Array.getD_eq_getD_getElem?] at h5
      rw [Array.getElem?_append_right (by omega), Array.getElem?_replicate] at h5
      split at h5 <;> simp at h5
  intro fuel
  induction fuel with
  | zero =>
    intro listed a w hC hs hcl h
    have hall := all_listed hBl hs h.1
    rw [Nat.zero_add]
    exact tail listed a w _ hs hall (Nat.le_refl _) (hQ a w hC h.2)
  | succ fuel ih =>
    intro listed a w hC hs hcl h
    by_cases hr : Region.ready .any l.toArray listed = []
    · exact tail listed a w _ hs (all_listed hBl hs hr) (by omega) (hQ a w hC (h.1 hr))
    · rw [show fuel + 1 + zs.length = (fuel + zs.length) + 1 by omega]
      have hsome : ∀ i, i ∈ Region.ready .any (l ++ zs).toArray (listed ++ Array.replicate zs.length false) → i < l.length := by
        intro i hi
        by_cases hil : i < l.length
        · exact hil
        · exfalso
          apply hr
          have hall := hnew listed hs hcl i hil hi
          rw [List.eq_nil_iff_forall_not_mem]
          intro j hj
          obtain ⟨g1, o, ho, -⟩ := mem_ready.1 hj
          have hjl : j < l.length := by
            have := (Array.getElem?_eq_some_iff.1 ho).1
            simpa using this
          have h3 := hall j hjl
          have hlt : j < listed.size := by omega
          simp [hlt] at g1 h3
          rw [g1] at h3
          exact absurd h3 (by decide)
      refine ⟨fun hr2 => ?_, fun i hi => ?_⟩
      · exfalso
        apply hr
        rw [List.eq_nil_iff_forall_not_mem]
        intro j hj
        obtain ⟨g1, o, ho, -⟩ := mem_ready.1 hj
        have hjl : j < l.length := by
          have := (Array.getElem?_eq_some_iff.1 ho).1
          simpa using this
        have h3 := all_listed hB (by simp [hs]) hr2 j (by simp; omega)
        rw [listed_app false (by omega)] at h3
        have hlt : j < listed.size := by omega
        simp [hlt] at g1 h3
        rw [g1] at h3
        exact absurd h3 (by decide)
      · have hil := hsome i hi
        have hq := h.2 i (hold listed hs i hil hi)
        unfold qOp at hq
        unfold wpOp
        rw [app_get hil]
        obtain ⟨o, ho⟩ : ∃ o, l.toArray[i]? = some o := ⟨l[i], by simp [hil]⟩
        have hmem : o ∈ l := List.mem_of_getElem? (show l[i]? = some o by simpa using ho)
        simp only [ho] at hq ⊢
        rw [wanted_app hG hmem]
        have hnext : ∀ a' w', C w' → wpAnyQ P .any l.toArray C Q fuel (listed.setIfInBounds i true) a' → wpAny P .any (l ++ zs).toArray Q' (fuel + zs.length) ((listed ++ Array.replicate zs.length false).setIfInBounds i true) a' w' := by
          intro a' w' hC' h'
          have := ih (listed.setIfInBounds i true) a' w' hC' (by simp [hs]) (hcl.set (hold listed hs i hil hi)) h'
          rwa [← Array.setIfInBounds_append_left (by omega)] at this
        split
        · rename_i hw
          rw [if_pos hw] at hq
          exact .inl (Oper.wp_of_quiet hC hnext hq)
        · rename_i hw
          rw [if_neg hw] at hq
          exact hnext _ _ hC hq

/-- What the rule asks of the region's edges. -/
def tailB (l : List Oper) (n : Nat) : Bool := backB l 0 && backB (l.take n) 0 && Region.lexB .any (l.take n).toArray && guardsB (l.take n) && seqB l n && decide (n ≤ l.length)

/-- THE RULE. -/
theorem wp_region_quietTail (n : Nat) {id : Nat} {Q : Exit → Act → World → Prop} {a : Act} {w : World} {l : List Oper} (hm : P.follows .mixedOrders = true) (hB : tailB l n = true)
    (h : wpQuiet P (l.take n).toArray (fun w' => ∃ n, w' = w.drewN n) (fun a' => ∀ w', (∃ n, w' = w.drewN n) → wpList P l.toArray Q (l.drop n) a' w') (l.take n) a) : (Code.region id l.toArray true).wp P Q a w := by
  unfold tailB at hB
  simp only [Bool.and_eq_true, decide_eq_true_eq] at hB
  obtain ⟨⟨⟨⟨⟨h1, h2⟩, h3⟩, h4⟩, h5⟩, h6⟩ := hB
  have hlen : (l.take n).length = n := by simp; omega
  have e := List.take_append_drop n l
  generalize l.take n = l1 at *
  generalize l.drop n = zs at *
  subst e
  simp only [Region.lexB, Bool.and_eq_true] at h3
  refine wp_region_any hm ?_
  have hq := wpAnyQ_lex (P := P) (C := fun w' => ∃ n, w' = w.drewN n) (md := .any) h3.1 l1 0 (Array.replicate l1.length false) a (by simp) (by simpa using h3.2) h
  have := wpAny_of_quietTail (Q' := Q) h1 h2 (by rw [hlen]; exact h5) h4 (fun a' w' hC hq => hq w' hC) _ _ a w.drew ⟨1, rfl⟩ (by simp) (fun i o _ hi => by
    simp only [Array.getD_eq_getD_getElem?, Array.getElem?_replicate] at hi
    split at hi <;> simp at hi) hq
  rw [Array.replicate_append_replicate] at this
  simpa using this

/-- The same, over any class of worlds. -/
theorem wp_region_quietTailC (n : Nat) {id : Nat} {Q : Exit → Act → World → Prop} {a : Act} {w : World} {l : List Oper} (hm : P.follows .mixedOrders = true) (hB : tailB l n = true) (hC : C w.drew)
    (h : wpQuiet P (l.take n).toArray C (fun a' => ∀ w', C w' → wpList P l.toArray Q (l.drop n) a' w') (l.take n) a) : (Code.region id l.toArray true).wp P Q a w := by
  unfold tailB at hB
  simp only [Bool.and_eq_true, decide_eq_true_eq] at hB
  obtain ⟨⟨⟨⟨⟨h1, h2⟩, h3⟩, h4⟩, h5⟩, h6⟩ := hB
  have hlen : (l.take n).length = n := by simp; omega
  have e := List.take_append_drop n l
  generalize l.take n = l1 at *
  generalize l.drop n = zs at *
  subst e
  simp only [Region.lexB, Bool.and_eq_true] at h3
  refine wp_region_any hm ?_
  have hq := wpAnyQ_lex (P := P) (C := C) (md := .any) h3.1 l1 0 (Array.replicate l1.length false) a (by simp) (by simpa using h3.2) h
  have := wpAny_of_quietTail (Q' := Q) h1 h2 (by rw [hlen]; exact h5) h4 (fun a' w' hC hq => hq w' hC) _ _ a w.drew hC (by simp) (fun i o _ hi => by
    simp only [Array.getD_eq_getD_getElem?, Array.getElem?_replicate] at hi
    split at hi <;> simp at hi) hq
  rw [Array.replicate_append_replicate] at this
  simpa using this
end

end Go.Proofs.Ytgodlfoidjeekaa

namespace Go.Proofs.Ytgodlfoidjeekaa
set_option linter.unusedVariables false
set_option linter.unusedSimpArgs false
open Go.RowKit
set_option linter.unusedVariables false
set_option linter.unusedSimpArgs false

section
variable {P : Program} {ops : Array Oper} {Q : Exit → Act → World → Prop} {R : World → World → Prop}

/-- How many are not listed yet. -/
def lefts (listed : Array Bool) : Nat := listed.toList.count false

theorem lefts_set (listed : Array Bool) (i : Nat) (h : listed.getD i true = false) : lefts (listed.setIfInBounds i true) + 1 = lefts listed := by
  rcases listed with ⟨l⟩
  have hi : i < l.length := by
    rcases Nat.lt_or_ge i l.length with h' | h'
    · exact h'
    · simp [List.getElem?_eq_none h'] at h
  have hv : l[i] = false := by simpa [List.getElem?_eq_getElem hi] using h
  unfold lefts
  rw [List.setIfInBounds_toArray]
  simp only
  have h1 := List.count_set (l := l) (i := i) (a := true) (b := false) hi
  rw [h1, hv]
  simp
  have : 0 < l.count false := List.count_pos_iff.2 (by rw [← hv]; exact List.getElem_mem hi)
  omega

theorem ready_none {md : Region.Mode} {listed : Array Bool} (h : lefts listed = 0) : Region.ready md ops listed = [] := by
  rw [List.eq_nil_iff_forall_not_mem]
  intro i hi
  have h1 := (mem_ready.1 hi).1
  have := lefts_set listed i h1
  omega

theorem wpAny_inv {md : Region.Mode} (I : Array Bool → Act → World → Prop)
    (hstep : ∀ listed a w i, I listed a w → i ∈ Region.ready md ops listed → wpOp P ops Q i (I (listed.setIfInBounds i true)) a w)
    (hdone : ∀ listed a w, I listed a w → Region.ready md ops listed = [] → Q .normal a w) :
    ∀ fuel listed a w, lefts listed ≤ fuel → I listed a w → wpAny P md ops Q fuel listed a w := by
  intro fuel
  induction fuel with
  | zero =>
    intro listed a w hf hI
    have hr := ready_none (ops := ops) (md := md) (show lefts listed = 0 by omega)
    exact ⟨hr, hdone _ _ _ hI hr⟩
  | succ fuel ih =>
    intro listed a w hf hI
    refine ⟨fun hr => hdone _ _ _ hI hr, fun i hi => ?_⟩
    refine wpOp_mono (fun a' w' h' => ?_) (hstep listed a w i hI hi)
    have := lefts_set listed i (mem_ready.1 hi).1
    exact ih _ _ _ (by omega) h'

/-- No two write one slot. -/
def dsts (l : List Oper) : List Nat := l.filterMap (·.dst)

/-- The frame ahead of the region, where it is not written. -/
structure Base (l : List Oper) (a a' : Act) : Prop where
  size : a'.tmps.size = a.tmps.size
  defers : a'.defers = a.defers
  old : ∀ s, s ∉ dsts l → a'.tmps.getD s undef = a.tmps.getD s undef

/-- What is known of the operations that an operation waits for. -/
def Held (l : List Oper) (T : Nat → Value → World → Prop) (a : Act) (w : World) (j : Nat) : Prop := ∀ d, (l[j]?).bind (·.dst) = some d → T j (a.tmps.getD d undef) w

def depB (o : Oper) (j : Nat) : Bool := o.after.any fun e => Region.binds .any e && e.on == j

/-- An operation, shown once. -/
def Step (R : World → World → Prop) (P : Program) (Q : Exit → Act → World → Prop) (l : List Oper) (T : Nat → Value → World → Prop) (a : Act) (w : World) (i : Nat) (o : Oper) : Prop :=
  ∀ a' w', Base l a a' → R w w' → (∀ j, depB o j = true → Held l T a' w' j) →
    Region.wanted o (yielded l.toArray a'.tmps) = true ∧ o.wp P a' w' (fun a'' w'' => ∃ v, a'' = a'.put o.dst v ∧ T i v w'' ∧ R w' w'') Q

def Steps (R : World → World → Prop) (P : Program) (Q : Exit → Act → World → Prop) (l : List Oper) (T : Nat → Value → World → Prop) (a : Act) (w : World) : Nat → List Oper → Prop
  | _, [] => True
  | i, o :: r => Step R P Q l T a w i o ∧ Steps R P Q l T a w (i + 1) r

theorem Steps.get {l : List Oper} {T : Nat → Value → World → Prop} {a : Act} {w : World} {k : Nat} {r : List Oper} (h : Steps R P Q l T a w k r) {i : Nat} {o : Oper} (ho : r[i]? = some o) : Step R P Q l T a w (k + i) o := by
  induction r generalizing k i with
  | nil => simp at ho
  | cons x r ih =>
    cases i with
    | zero => simp at ho; subst ho; exact h.1
    | succ i =>
      simp at ho
      have := ih h.2 ho
      rwa [show k + 1 + i = k + (i + 1) by omega] at this

theorem mem_dsts {l : List Oper} {i : Nat} {o : Oper} {d : Nat} (ho : l[i]? = some o) (hd : o.dst = some d) : d ∈ dsts l :=
  List.mem_filterMap.2 ⟨o, List.mem_of_getElem? ho, hd⟩

theorem dsts_inj {l : List Oper} (nd : (dsts l).Nodup) {i j : Nat} {oi oj : Oper} {d : Nat} (hi : l[i]? = some oi) (hj : l[j]? = some oj) (di : oi.dst = some d) (dj : oj.dst = some d) : i = j := by
  induction l generalizing i j with
  | nil => simp at hi
  | cons x l ih =>
    have key : ∀ {y : Oper} {m : Nat}, x.dst = some d → l[m]? = some y → y.dst = some d → False := by
      intro y m hx hy hyd
      have : dsts (x :: l) = d :: dsts l := by simp [dsts, hx]
      rw [this, List.nodup_cons] at nd
      exact nd.1 (mem_dsts hy hyd)
    have nd' : (dsts l).Nodup := by
      unfold dsts at nd ⊢
      rw [List.filterMap_cons] at nd
      split at nd
      · exact nd
      · exact (List.nodup_cons.1 nd).2
    cases i with
    | zero =>
      simp at hi; subst hi
      cases j with
      | zero => rfl
      | succ j => simp at hj; exact (key di hj dj).elim
    | succ i =>
      simp at hi
      cases j with
      | zero => simp at hj; subst hj; exact (key dj hi di).elim
      | succ j => simp at hj; rw [ih nd' hi hj]

theorem put_getD {a : Act} {d s : Nat} {v : Value} (h : d ≠ s) : (a.put (some d) v).tmps.getD s undef = a.tmps.getD s undef := by
  simp [Act.put, Array.getElem?_setIfInBounds_ne h]
theorem put_self {a : Act} {d : Nat} {v : Value} (h : d < a.tmps.size) : (a.put (some d) v).tmps.getD d undef = v := by
  simp [Act.put, h]

/-- THE RULE. -/
theorem wp_region_freeR (hRd : ∀ w, R w w.drew) (hRt : ∀ a b c, R a b → R b c → R a c) {id : Nat} {l : List Oper} {a : Act} {w : World} (hm : P.follows .mixedOrders = true) (hB : backB l 0 = true) (nd : (dsts l).Nodup) (hd : ∀ d ∈ dsts l, d < a.tmps.size)
    (T : Nat → Value → World → Prop) (mono : ∀ i v w1 w2, T i v w1 → R w1 w2 → T i v w2)
    (steps : Steps R P Q l T a w 0 l)
    (done : ∀ a' w', Base l a a' → R w w' → (∀ j, j < l.length → Held l T a' w' j) → Q .normal a' w') : (Code.region id l.toArray true).wp P Q a w := by
  refine wp_region_any hm ?_
  have hsz : l.toArray.size = l.length := by simp
  rw [hsz]
  let I : Array Bool → Act → World → Prop := fun listed a' w' => listed.size = l.length ∧ Base l a a' ∧ R w w' ∧ ∀ j, listed.getD j false = true → Held l T a' w' j
  refine wpAny_inv I ?_ ?_ _ _ _ _ ?_ ?_
  · intro listed a' w' i ⟨h1, h2, h3, h4⟩ hi
    obtain ⟨h5, o, ho, h6⟩ := mem_ready.1 hi
    have ho' : l[i]? = some o := by simpa using ho
    have hil : i < l.length := (List.getElem?_eq_some_iff.1 ho').1
    have hst := steps.get ho'
    rw [Nat.zero_add] at hst
    obtain ⟨hw, hwp⟩ := hst a' w' h2 h3 (fun j hj => by
      unfold depB at hj
      rw [← Array.any_toList, List.any_eq_true] at hj
      obtain ⟨e, he', hb⟩ := hj
      have he : e ∈ o.after := by simpa using he'
      simp only [Bool.and_eq_true, beq_iff_eq] at hb
      rw [← hb.2]
      exact h4 _ (h6 e he hb.1))
    unfold wpOp
    simp only [ho, hw, if_true]
    refine .inl (Oper.wp_mono ?_ hwp)
    rintro a'' w'' ⟨v, rfl, hT, hf⟩
    refine ⟨by simp [h1], ⟨?_, ?_, fun s hs => ?_⟩, hRt _ _ _ h3 hf, fun j hj d hdj => ?_⟩
    · cases hdst : o.dst with
      | none => exact h2.size
      | some d => simp [Act.put, h2.size]
    · cases hdst : o.dst with
      | none => exact h2.defers
      | some d => exact h2.defers
    · cases hdst : o.dst with
      | none => exact h2.old s hs
      | some d =>
        rw [put_getD (fun e => hs (by rw [← e]; exact mem_dsts ho' hdst))]
        exact h2.old s hs
    · obtain ⟨oj, hoj, hdj'⟩ : ∃ oj, l[j]? = some oj ∧ oj.dst = some d := by
        cases hc : l[j]? with
        | none => rw [hc] at hdj; simp at hdj
        | some oj => rw [hc] at hdj; exact ⟨oj, rfl, by simpa using hdj⟩
      by_cases e : i = j
      · subst e
        rw [ho'] at hoj
        simp at hoj
        subst hoj
        rw [hdj', put_self (by rw [h2.size]; exact hd d (mem_dsts ho' hdj'))]
        exact hT
      · rw [getD_set_ne false e] at hj
        have hold := mono _ _ _ _ (h4 j hj d hdj) hf
        cases hdst : o.dst with
        | none => exact hold
        | some d' =>
          rw [put_getD (fun e2 => e (dsts_inj nd ho' hoj (by rw [hdst, e2]) hdj'))]
          exact hold
  · intro listed a' w' ⟨h1, h2, h3, h4⟩ hr
    exact done a' w' h2 h3 (fun j hj => h4 j (all_listed hB h1 hr j hj))
  · simp [lefts]
  · refine ⟨by simp, ⟨rfl, rfl, fun _ _ => rfl⟩, hRd w, fun j hj => ?_⟩
    simp only [Array.getD_eq_getD_getElem?, Array.getElem?_replicate] at hj
    split at hj <;> simp at hj
end

end Go.Proofs.Ytgodlfoidjeekaa

namespace Go.Proofs.Ytgodlfoidjeekaa
set_option linter.unusedVariables false
set_option linter.unusedSimpArgs false
open Go.RowKit
set_option linter.unusedVariables false
set_option linter.unusedSimpArgs false

section
variable {P : Program} {ops : Array Oper} {Q : Exit → Act → World → Prop}

/-- j comes ahead of i. -/
inductive Path (l : List Oper) : Nat → Nat → Prop where
  | one {i j : Nat} {o : Oper} (h : l[i]? = some o) (d : depB o j = true) : Path l i j
  | step {i m j : Nat} {o : Oper} (h : l[i]? = some o) (d : depB o m = true) (r : Path l m j) : Path l i j

/-- A way back, as a list. -/
def pathB (l : List Oper) : Nat → List Nat → Bool
  | _, [] => false
  | i, [j] => match l[i]? with | some o => depB o j | none => false
  | i, m :: r => match l[i]? with | some o => depB o m && pathB l m r | none => false

theorem path_of {l : List Oper} : ∀ (r : List Nat) (i : Nat), pathB l i r = true → ∃ j, r.getLast? = some j ∧ Path l i j
  | [], i, h => by simp [pathB] at h
  | [j], i, h => by
    simp only [pathB] at h
    split at h
    · rename_i o ho; exact ⟨j, rfl, .one ho h⟩
    · simp at h
  | m :: n :: r, i, h => by
    simp only [pathB] at h
    split at h
    · rename_i o ho
      simp only [Bool.and_eq_true] at h
      obtain ⟨j, hj, p⟩ := path_of (n :: r) m h.2
      exact ⟨j, by rw [List.getLast?_cons_cons]; exact hj, .step ho h.1 p⟩
    · simp at h

/-- Each call's way back to the one ahead of it. -/
def chainB (l : List Oper) : List Nat → List (List Nat) → Bool
  | i :: j :: r, p :: ps => pathB l j p && (p.getLast? == some i) && chainB l (j :: r) ps
  | [_], _ => true
  | [], _ => true
  | _, _ => false

theorem chain_paths {l : List Oper} : ∀ (calls : List Nat) (ps : List (List Nat)), chainB l calls ps = true → ∀ k i j, calls[k]? = some i → calls[k + 1]? = some j → Path l j i
  | [], _, _, k, i, j, hi, _ => by simp at hi
  | [_], _, _, k, i, j, _, hj => by simp at hj
  | x :: y :: r, [], h, _, _, _, _, _ => by simp [chainB] at h
  | x :: y :: r, p :: ps, h, k, i, j, hi, hj => by
    simp only [chainB, Bool.and_eq_true, beq_iff_eq] at h
    cases k with
    | zero =>
      simp at hi hj
      subst hi hj
      obtain ⟨z, hz, hp⟩ := path_of p y h.1.1
      rw [h.1.2] at hz
      simp at hz
      subst hz
      exact hp
    | succ k => exact chain_paths (y :: r) ps h.2 k i j (by simpa using hi) (by simpa using hj)

/-- What is listed has all listed that it waits for. -/
def Shut (l : List Oper) (listed : Array Bool) : Prop := ∀ i o, l[i]? = some o → listed.getD i false = true → ∀ j, depB o j = true → listed.getD j false = true

theorem Path.listed {l : List Oper} {listed : Array Bool} (hs : Shut l listed) {i j : Nat} (p : Path l i j) (hd : ∀ o, l[i]? = some o → ∀ m, depB o m = true → listed.getD m false = true) : listed.getD j false = true := by
  induction p with
  | one h d => exact hd _ h _ d
  | step h d r ih => exact ih (fun o ho m hm => hs _ _ ho (hd _ h _ d) m hm)

/-- Behind an operation. -/
def Left (R : World → World → Prop) (St : Nat → World → Prop) (T : Nat → Value → World → Prop) (calls : List Nat) (i : Nat) (o : Oper) (k : Nat) (a' : Act) (w' : World) (a'' : Act) (w'' : World) : Prop :=
  ∃ v, a'' = a'.put o.dst v ∧ T i v w'' ∧ R w' w'' ∧ St (if i ∈ calls then k + 1 else k) w''

/-- An operation, shown once. -/
def StepC (P : Program) (Q : Exit → Act → World → Prop) (l : List Oper) (R : World → World → Prop) (St : Nat → World → Prop) (T : Nat → Value → World → Prop) (calls : List Nat) (a : Act) (w : World) (i : Nat) (o : Oper) : Prop :=
  ∀ a' w' k, Base l a a' → R w w' → St k w' → (∀ m, calls[m]? = some i → m = k) → (∀ j, depB o j = true → Held l T a' w' j) →
    Region.wanted o (yielded l.toArray a'.tmps) = true ∧ o.wp P a' w' (Left R St T calls i o k a' w') Q

def StepsC (P : Program) (Q : Exit → Act → World → Prop) (l : List Oper) (R : World → World → Prop) (St : Nat → World → Prop) (T : Nat → Value → World → Prop) (calls : List Nat) (a : Act) (w : World) : Nat → List Oper → Prop
  | _, [] => True
  | i, o :: r => StepC P Q l R St T calls a w i o ∧ StepsC P Q l R St T calls a w (i + 1) r

theorem StepsC.get {l : List Oper} {R : World → World → Prop} {St : Nat → World → Prop} {T : Nat → Value → World → Prop} {calls : List Nat} {a : Act} {w : World} {k : Nat} {r : List Oper} (h : StepsC P Q l R St T calls a w k r) {i : Nat} {o : Oper} (ho : r[i]? = some o) : StepC P Q l R St T calls a w (k + i) o := by
  induction r generalizing k i with
  | nil => simp at ho
  | cons x r ih =>
    cases i with
    | zero => simp at ho; subst ho; exact h.1
    | succ i =>
      simp at ho
      have := ih h.2 ho
      rwa [show k + 1 + i = k + (i + 1) by omega] at this

/-- THE RULE. -/
theorem wp_region_chain {id : Nat} {l : List Oper} {a : Act} {w : World} (hm : P.follows .mixedOrders = true) (hB : backB l 0 = true) (nd : (dsts l).Nodup) (hd : ∀ d ∈ dsts l, d < a.tmps.size)
    (R : World → World → Prop) (Rdrew : R w w.drew) (Rtrans : ∀ a b c, R a b → R b c → R a c)
    (T : Nat → Value → World → Prop) (mono : ∀ i v w1 w2, T i v w1 → R w1 w2 → T i v w2)
    (calls : List Nat) (cn : calls.Nodup) (cl : ∀ i ∈ calls, i < l.length) (cp : ∀ k i j, calls[k]? = some i → calls[k + 1]? = some j → Path l j i) (St : Nat → World → Prop) (st0 : St 0 w.drew)
    (steps : StepsC P Q l R St T calls a w 0 l)
    (done : ∀ a' w', Base l a a' → R w w' → St calls.length w' → (∀ j, j < l.length → Held l T a' w' j) → Q .normal a' w') : (Code.region id l.toArray true).wp P Q a w := by
  refine wp_region_any hm ?_
  have hsz : l.toArray.size = l.length := by simp
  rw [hsz]
  let I : Array Bool → Act → World → Prop := fun listed a' w' => listed.size = l.length ∧ Base l a a' ∧ R w w' ∧ (∀ j, listed.getD j false = true → Held l T a' w' j) ∧ Shut l listed ∧
    ∃ k, k ≤ calls.length ∧ St k w' ∧ ∀ m i, calls[m]? = some i → (listed.getD i false = true ↔ m < k)
  refine wpAny_inv I ?_ ?_ _ _ _ _ ?_ ?_
  · intro listed a' w' i ⟨h1, h2, h3, h4, hS, k, hk, hst, hck⟩ hi
    obtain ⟨h5, o, ho, h6⟩ := mem_ready.1 hi
    have ho' : l[i]? = some o := by simpa using ho
    have hil : i < l.length := (List.getElem?_eq_some_iff.1 ho').1
    have hdep : ∀ j, depB o j = true → listed.getD j false = true := fun j hj => by
      unfold depB at hj
      rw [← Array.any_toList, List.any_eq_true] at hj
      obtain ⟨e, he', hb⟩ := hj
      have he : e ∈ o.after := by simpa using he'
      simp only [Bool.and_eq_true, beq_iff_eq] at hb
      rw [← hb.2]
      exact h6 e he hb.1
    have hni : listed.getD i false = false := by
      have hlt : i < listed.size := by omega
      simp [hlt] at h5 ⊢
      exact h5
    have hmk : ∀ m, calls[m]? = some i → m = k := fun m hm' => by
      have h7 : ¬ m < k := fun h => by rw [(hck m i hm').2 h] at hni; simp at hni
      rcases Nat.eq_zero_or_pos m with e | e
      · omega
      · obtain ⟨m', rfl⟩ : ∃ m', m = m' + 1 := ⟨m - 1, by omega⟩
        have hlt : m' < calls.length := by have := (List.getElem?_eq_some_iff.1 hm').1; omega
        have hp := cp m' _ i (List.getElem?_eq_getElem hlt) hm'
        have := hp.listed hS (fun o2 ho2 j hj => by rw [ho'] at ho2; simp at ho2; subst ho2; exact hdep j hj)
        have := (hck m' _ (List.getElem?_eq_getElem hlt)).1 this
        omega
    have hst' := steps.get ho'
    rw [Nat.zero_add] at hst'
    obtain ⟨hw, hwp⟩ := hst' a' w' k h2 h3 hst hmk (fun j hj => h4 _ (hdep j hj))
    unfold wpOp
    simp only [ho, hw, if_true]
    refine .inl (Oper.wp_mono ?_ hwp)
    rintro a'' w'' ⟨v, rfl, hT, hf, hsk⟩
    refine ⟨by simp [h1], ⟨?_, ?_, fun s hs => ?_⟩, Rtrans _ _ _ h3 hf, fun j hj d hdj => ?_, ?_, ?_⟩
    · cases hdst : o.dst with
      | none => exact h2.size
      | some d => simp [Act.put, h2.size]
    · cases hdst : o.dst with
      | none => exact h2.defers
      | some d => exact h2.defers
    · cases hdst : o.dst with
      | none => exact h2.old s hs
      | some d =>
        rw [put_getD (fun e => hs (by rw [← e]; exact mem_dsts ho' hdst))]
        exact h2.old s hs
    · obtain ⟨oj, hoj, hdj'⟩ : ∃ oj, l[j]? = some oj ∧ oj.dst = some d := by
        cases hc : l[j]? with
        | none => rw [hc] at hdj; simp at hdj
        | some oj => rw [hc] at hdj; exact ⟨oj, rfl, by simpa using hdj⟩
      by_cases e : i = j
      · subst e
        rw [ho'] at hoj
        simp at hoj
        subst hoj
        rw [hdj', put_self (by rw [h2.size]; exact hd d (mem_dsts ho' hdj'))]
        exact hT
      · rw [getD_set_ne false e] at hj
        have hold := mono _ _ _ _ (h4 j hj d hdj) hf
        cases hdst : o.dst with
        | none => exact hold
        | some d' =>
          rw [put_getD (fun e2 => e (dsts_inj nd ho' hoj (by rw [hdst, e2]) hdj'))]
          exact hold
    · intro i2 o2 ho2 hl2 j hj
      have grow : ∀ x, listed.getD x false = true → (listed.setIfInBounds i true).getD x false = true := fun x hx => by
        by_cases e : i = x
        · subst e
          have hlt : i < listed.size := by omega
          simp [hlt]
        · rw [getD_set_ne false e]; exact hx
      by_cases e : i = i2
      · subst e
        rw [ho'] at ho2
        simp at ho2
        subst ho2
        exact grow j (hdep j hj)
      · rw [getD_set_ne false e] at hl2
        exact grow j (hS i2 o2 ho2 hl2 j hj)
    · by_cases hic : i ∈ calls
      · obtain ⟨m, hm'⟩ := List.getElem?_of_mem hic
        have hmk' := hmk m hm'
        subst hmk'
        rw [if_pos hic] at hsk
        have hml : m < calls.length := (List.getElem?_eq_some_iff.1 hm').1
        refine ⟨m + 1, by omega, hsk, fun m2 i2 hm2 => ?_⟩
        by_cases e : i = i2
        · subst e
          have hlt : i < listed.size := by omega
          have : m2 = m := (List.getElem?_inj (List.getElem?_eq_some_iff.1 hm2).1 cn).1 (hm2.trans hm'.symm)
          subst this
          simp [hlt]
        · rw [getD_set_ne false e, hck m2 i2 hm2]
          constructor
          · intro h; omega
          · intro h
            rcases Nat.lt_or_ge m2 m with h' | h'
            · exact h'
            · have : m2 = m := by omega
              subst this
              rw [hm2] at hm'
              simp at hm'
              exact absurd hm'.symm e
      · rw [if_neg hic] at hsk
        refine ⟨k, hk, hsk, fun m2 i2 hm2 => ?_⟩
        rw [getD_set_ne false (fun e => hic (by subst e; exact List.mem_of_getElem? hm2)), hck m2 i2 hm2]
  · intro listed a' w' ⟨h1, h2, h3, h4, hS, k, hk, hst, hck⟩ hr
    have hall := all_listed hB h1 hr
    have hke : k = calls.length := by
      rcases Nat.lt_or_ge k calls.length with h | h
      · have := (hck k _ (List.getElem?_eq_getElem h)).1 (hall _ (cl _ (List.getElem_mem h)))
        omega
      · omega
    subst hke
    exact done a' w' h2 h3 hst (fun j hj => h4 j (hall j hj))
  · simp [lefts]
  · have none : ∀ j, ¬ (Array.replicate l.length false).getD j false = true := fun j hj => by
      simp only [Array.getD_eq_getD_getElem?, Array.getElem?_replicate] at hj
      split at hj <;> simp at hj
    exact ⟨by simp, ⟨rfl, rfl, fun _ _ => rfl⟩, Rdrew, fun j hj => (none j hj).elim, fun i o _ hl => (none i hl).elim, 0, Nat.zero_le _, st0, fun m i _ => ⟨fun h => (none i h).elim, fun h => by omega⟩⟩
end

#print axioms wp_region_chain
end Go.Proofs.Ytgodlfoidjeekaa

namespace Go.Proofs.Ytgodlfoidjeekaa
set_option linter.unusedVariables false
set_option linter.unusedSimpArgs false
open Go.RowKit
set_option linter.unusedVariables false
set_option linter.unusedSimpArgs false

section
variable {P : Program} {ops : Array Oper} {Q : Exit → Act → World → Prop}

/-- Behind an operation. -/
def Left2 (R Rc : World → World → Prop) (St : Nat → World → Prop) (T : Nat → Nat → Value → World → Prop) (calls : List Nat) (i : Nat) (o : Oper) (k : Nat) (a' : Act) (w' : World) (a'' : Act) (w'' : World) : Prop :=
  ∃ v, a'' = a'.put o.dst v ∧ T (if i ∈ calls then k + 1 else k) i v w'' ∧ (i ∉ calls → R w' w'') ∧ (i ∈ calls → Rc w' w'') ∧ St (if i ∈ calls then k + 1 else k) w''

/-- An operation, shown once. -/
def Step2 (P : Program) (Q : Exit → Act → World → Prop) (l : List Oper) (RO R Rc : World → World → Prop) (St : Nat → World → Prop) (T : Nat → Nat → Value → World → Prop) (calls : List Nat) (a : Act) (w : World) (i : Nat) (o : Oper) : Prop :=
  ∀ a' w' k, Base l a a' → RO w w' → St k w' → (∀ m, calls[m]? = some i → m = k) → (∀ m j, calls[m]? = some j → Path l j i → k ≤ m) → (∀ m j, calls[m]? = some j → Path l i j → m < k) → (∀ j, depB o j = true → Held l (T k) a' w' j) →
    Region.wanted o (yielded l.toArray a'.tmps) = true ∧ o.wp P a' w' (Left2 R Rc St T calls i o k a' w') Q

def Steps2 (P : Program) (Q : Exit → Act → World → Prop) (l : List Oper) (RO R Rc : World → World → Prop) (St : Nat → World → Prop) (T : Nat → Nat → Value → World → Prop) (calls : List Nat) (a : Act) (w : World) : Nat → List Oper → Prop
  | _, [] => True
  | i, o :: r => Step2 P Q l RO R Rc St T calls a w i o ∧ Steps2 P Q l RO R Rc St T calls a w (i + 1) r

theorem Steps2.get {l : List Oper} {RO R Rc : World → World → Prop} {St : Nat → World → Prop} {T : Nat → Nat → Value → World → Prop} {calls : List Nat} {a : Act} {w : World} {k : Nat} {r : List Oper} (h : Steps2 P Q l RO R Rc St T calls a w k r) {i : Nat} {o : Oper} (ho : r[i]? = some o) : Step2 P Q l RO R Rc St T calls a w (k + i) o := by
  induction r generalizing k i with
  | nil => simp at ho
  | cons x r ih =>
    cases i with
    | zero => simp at ho; subst ho; exact h.1
    | succ i =>
      simp at ho
      have := ih h.2 ho
      rwa [show k + 1 + i = k + (i + 1) by omega] at this

/-- THE RULE. -/
theorem wp_region_chain2 {id : Nat} {l : List Oper} {a : Act} {w : World} (hm : P.follows .mixedOrders = true) (hB : backB l 0 = true) (nd : (dsts l).Nodup) (hd : ∀ d ∈ dsts l, d < a.tmps.size)
    (RO R Rc : World → World → Prop) (Rdrew : RO w w.drew) (Rtrans : ∀ a b c, RO a b → RO b c → RO a c) (r1 : ∀ a b, R a b → RO a b) (r2 : ∀ a b, Rc a b → RO a b)
    (T : Nat → Nat → Value → World → Prop) (mono : ∀ k i v w1 w2, T k i v w1 → R w1 w2 → T k i v w2) (monoC : ∀ k i v w1 w2, T k i v w1 → Rc w1 w2 → T (k + 1) i v w2)
    (calls : List Nat) (cn : calls.Nodup) (cl : ∀ i ∈ calls, i < l.length) (cp : ∀ k i j, calls[k]? = some i → calls[k + 1]? = some j → Path l j i) (St : Nat → World → Prop) (st0 : St 0 w.drew)
    (steps : Steps2 P Q l RO R Rc St T calls a w 0 l)
    (done : ∀ a' w', Base l a a' → RO w w' → St calls.length w' → (∀ j, j < l.length → Held l (T calls.length) a' w' j) → Q .normal a' w') : (Code.region id l.toArray true).wp P Q a w := by
  refine wp_region_any hm ?_
  have hsz : l.toArray.size = l.length := by simp
  rw [hsz]
  let I : Array Bool → Act → World → Prop := fun listed a' w' => listed.size = l.length ∧ Base l a a' ∧ RO w w' ∧ Shut l listed ∧
    ∃ k, (∀ j, listed.getD j false = true → Held l (T k) a' w' j) ∧ k ≤ calls.length ∧ St k w' ∧ ∀ m i, calls[m]? = some i → (listed.getD i false = true ↔ m < k)
  refine wpAny_inv I ?_ ?_ _ _ _ _ ?_ ?_
  · intro listed a' w' i ⟨h1, h2, h3, hS, k, h4, hk, hst, hck⟩ hi
    obtain ⟨h5, o, ho, h6⟩ := mem_ready.1 hi
    have ho' : l[i]? = some o := by simpa using ho
    have hil : i < l.length := (List.getElem?_eq_some_iff.1 ho').1
    have hdep : ∀ j, depB o j = true → listed.getD j false = true := fun j hj => by
      unfold depB at hj
      rw [← Array.any_toList, List.any_eq_true] at hj
      obtain ⟨e, he', hb⟩ := hj
      have he : e ∈ o.after := by simpa using he'
      simp only [Bool.and_eq_true, beq_iff_eq] at hb
      rw [← hb.2]
      exact h6 e he hb.1
    have hni : listed.getD i false = false := by
      have hlt : i < listed.size := by omega
      simp [hlt] at h5 ⊢
      exact h5
    have hmk : ∀ m, calls[m]? = some i → m = k := fun m hm' => by
      have h7 : ¬ m < k := fun h => by rw [(hck m i hm').2 h] at hni; simp at hni
      rcases Nat.eq_zero_or_pos m with e | e
      · omega
      · obtain ⟨m', rfl⟩ : ∃ m', m = m' + 1 := ⟨m - 1, by omega⟩
        have hlt : m' < calls.length := by have := (List.getElem?_eq_some_iff.1 hm').1; omega
        have hp := cp m' _ i (List.getElem?_eq_getElem hlt) hm'
        have := hp.listed hS (fun o2 ho2 j hj => by rw [ho'] at ho2; simp at ho2; subst ho2; exact hdep j hj)
        have := (hck m' _ (List.getElem?_eq_getElem hlt)).1 this
        omega
    have hle : ∀ m j, calls[m]? = some j → Path l j i → k ≤ m := fun m j hmj hp => by
      rcases Nat.lt_or_ge m k with h | h
      · have hj := (hck m j hmj).2 h
        have := hp.listed hS (fun o2 ho2 x hx => hS j o2 ho2 hj x hx)
        rw [this] at hni
        simp at hni
      · exact h
    have hge : ∀ m j, calls[m]? = some j → Path l i j → m < k := fun m j hmj hp =>
      (hck m j hmj).1 (hp.listed hS (fun o2 ho2 x hx => by rw [ho'] at ho2; simp at ho2; subst ho2; exact hdep x hx))
    have hst' := steps.get ho'
    rw [Nat.zero_add] at hst'
    obtain ⟨hw, hwp⟩ := hst' a' w' k h2 h3 hst hmk hle hge (fun j hj => h4 _ (hdep j hj))
    unfold wpOp
    simp only [ho, hw, if_true]
    refine .inl (Oper.wp_mono ?_ hwp)
    rintro a'' w'' ⟨v, rfl, hT, hf, hfc, hsk⟩
    have hRO : RO w' w'' := by
      by_cases hic : i ∈ calls
      · exact r2 _ _ (hfc hic)
      · exact r1 _ _ (hf hic)
    have hold : ∀ j v, T k j v w' → T (if i ∈ calls then k + 1 else k) j v w'' := fun j v h => by
      by_cases hic : i ∈ calls
      · rw [if_pos hic]; exact monoC _ _ _ _ _ h (hfc hic)
      · rw [if_neg hic]; exact mono _ _ _ _ _ h (hf hic)
    refine ⟨by simp [h1], ⟨?_, ?_, fun s hs => ?_⟩, Rtrans _ _ _ h3 hRO, ?_, (if i ∈ calls then k + 1 else k), fun j hj d hdj => ?_, ?_⟩
    · cases hdst : o.dst with
      | none => exact h2.size
      | some d => simp [Act.put, h2.size]
    · cases hdst : o.dst with
      | none => exact h2.defers
      | some d => exact h2.defers
    · cases hdst : o.dst with
      | none => exact h2.old s hs
      | some d =>
        rw [put_getD (fun e => hs (by rw [← e]; exact mem_dsts ho' hdst))]
        exact h2.old s hs
    · intro i2 o2 ho2 hl2 j hj
      have grow : ∀ x, listed.getD x false = true → (listed.setIfInBounds i true).getD x false = true := fun x hx => by
        by_cases e : i = x
        · subst e
          have hlt : i < listed.size := by omega
          simp [hlt]
        · rw [getD_set_ne false e]; exact hx
      by_cases e : i = i2
      · subst e
        rw [ho'] at ho2
        simp at ho2
        subst ho2
        exact grow j (hdep j hj)
      · rw [getD_set_ne false e] at hl2
        exact grow j (hS i2 o2 ho2 hl2 j hj)
    · obtain ⟨oj, hoj, hdj'⟩ : ∃ oj, l[j]? = some oj ∧ oj.dst = some d := by
        cases hc : l[j]? with
        | none => rw [hc] at hdj; simp at hdj
        | some oj => rw [hc] at hdj; exact ⟨oj, rfl, by simpa using hdj⟩
      by_cases e : i = j
      · subst e
        rw [ho'] at hoj
        simp at hoj
        subst hoj
        rw [hdj', put_self (by rw [h2.size]; exact hd d (mem_dsts ho' hdj'))]
        exact hT
      · rw [getD_set_ne false e] at hj
        have hold' := hold _ _ (h4 j hj d hdj)
        cases hdst : o.dst with
        | none => exact hold'
        | some d' =>
          rw [put_getD (fun e2 => e (dsts_inj nd ho' hoj (by rw [hdst, e2]) hdj'))]
          exact hold'
    · by_cases hic : i ∈ calls
      · obtain ⟨m, hm'⟩ := List.getElem?_of_mem hic
        have hmk' := hmk m hm'
        subst hmk'
        rw [if_pos hic] at hsk ⊢
        have hml : m < calls.length := (List.getElem?_eq_some_iff.1 hm').1
        refine ⟨by omega, hsk, fun m2 i2 hm2 => ?_⟩
        by_cases e : i = i2
        · subst e
          have hlt : i < listed.size := by omega
          have : m2 = m := (List.getElem?_inj (List.getElem?_eq_some_iff.1 hm2).1 cn).1 (hm2.trans hm'.symm)
          subst this
          simp [hlt]
        · rw [getD_set_ne false e, hck m2 i2 hm2]
          constructor
          · intro h; omega
          · intro h
            rcases Nat.lt_or_ge m2 m with h' | h'
            · exact h'
            · have : m2 = m := by omega
              subst this
              rw [hm2] at hm'
              simp at hm'
              exact absurd hm'.symm e
      · rw [if_neg hic] at hsk ⊢
        refine ⟨hk, hsk, fun m2 i2 hm2 => ?_⟩
        rw [getD_set_ne false (fun e => hic (by subst e; exact List.mem_of_getElem? hm2)), hck m2 i2 hm2]
  · intro listed a' w' ⟨h1, h2, h3, hS, k, h4, hk, hst, hck⟩ hr
    have hall := all_listed hB h1 hr
    have hke : k = calls.length := by
      rcases Nat.lt_or_ge k calls.length with h | h
      · have := (hck k _ (List.getElem?_eq_getElem h)).1 (hall _ (cl _ (List.getElem_mem h)))
        omega
      · omega
    subst hke
    exact done a' w' h2 h3 hst (fun j hj => h4 j (hall j hj))
  · simp [lefts]
  · have none : ∀ j, ¬ (Array.replicate l.length false).getD j false = true := fun j hj => by
      simp only [Array.getD_eq_getD_getElem?, Array.getElem?_replicate] at hj
      split at hj <;> simp at hj
    exact ⟨by simp, ⟨rfl, rfl, fun _ _ => rfl⟩, Rdrew, fun i o _ hl => (none i hl).elim, 0, fun j hj => (none j hj).elim, Nat.zero_le _, st0, fun m i _ => ⟨fun h => (none i h).elim, fun h => by omega⟩⟩
end

end Go.Proofs.Ytgodlfoidjeekaa

namespace Go.Proofs.Ytgodlfoidjeekaa
set_option linter.unusedVariables false
set_option linter.unusedSimpArgs false
open Go.RowKit
set_option linter.unusedVariables false

attribute [local go_sem ↓] Go.wp_at_zero Go.wp_at_succ

/-- Bytes lie at block p, from its first cell on. -/
def BAt (w : World) (p : Nat) (l : List UInt8) : Prop := w.heap[p]? = some (.cells (bvs l).toArray 5 (0, 0))

theorem BAt.kept {S : Nat → Prop} {w w' : World} {p : Nat} {l : List UInt8} (h : BAt w p l) (f : Fr S w w') (hs : ¬ S p) : BAt w' p l := by
  unfold BAt at *
  rw [f.block p (lt_of_heap h) hs]; exact h

theorem BAt.cell {w : World} {p : Nat} {l : List UInt8} (h : BAt w p l) (j : Nat) (hj : j < l.length) : w.cell? ⟨p, j, none⟩ = some (.int .u8 (((l[j]).toNat : Nat) : Int)) := by
  rw [cell_of_heap h]
  simpa using bvs_get l j hj

theorem BAt.frozen {w : World} {p : Nat} {l : List UInt8} (h : BAt w p l) (j : Nat) : w.frozen? ⟨p, j, none⟩ = false := frozen_of_heap h j

theorem bvs_set (l : List UInt8) (i : Nat) (b : UInt8) : (bvs l).toArray.setIfInBounds i (.int .u8 ((b.toNat : Nat) : Int)) = (bvs (l.set i b)).toArray := by
  rw [List.setIfInBounds_toArray]
  simp [bvs, List.map_set]

theorem BAt.set {w : World} {p : Nat} {l : List UInt8} (h : BAt w p l) (i : Nat) (b : UInt8) : BAt (w.setCell ⟨p, i, none⟩ (.int .u8 ((b.toNat : Nat) : Int))) p (l.set i b) := by
  unfold BAt at *
  rw [← bvs_set]
  exact heap_setCell_same w p i _ 5 _ h

theorem BAt.rd {w : World} {p : Nat} {l : List UInt8} (h : BAt w p l) (hl : l.length ≤ maxLen) : Rd w (.slice (some ⟨p, 0, none⟩) l.length l.length) l :=
  Rd.lit rfl (Nat.le_refl _) hl fun j hj => by rw [Nat.zero_add]; exact h.cell j hj

theorem made_bytes (n : Nat) : madeCells (Value.int .u8 0).cells (n * 1) = (bvs (List.replicate n 0)).toArray := by
  apply Array.ext
  · simp [bvs, size_madeCells]
  · intro i h1 h2
    simp [bvs, madeCells, Value.cells, Nat.mod_one]

theorem Try.info5 : (Try.prog.info? 5).map (fun i => (i.zero, i.size, i.bytes)) = some (some (.int .u8 0), 1, 1) := by kernel_rfl

theorem run_make5 (n : Nat) (hn : n ≤ 140737488355328) (w : World) : (Instr.makeSlice 23 (.int .i64 (n : Int)) (.int .i64 (n : Int))).run Try.prog w = .ok (.slice (some ⟨w.heap.size, 0, none⟩) n n) (w.alloc (.cells (bvs (List.replicate n 0)).toArray 5)) := by
  obtain ⟨i, hi, hz0, hz1, hz2⟩ := info_parts Try.info5
  have := run_make (P := Try.prog) w 23 5 i _ Try.underlying23 hi hz0 .i64 .i64 (n : Int) (n : Int) (by omega) (Int.le_refl _) (by rw [hz2]; omega) (by omega)
  rw [this, hz1, Int.toNat_natCast, made_bytes]

/-- A block of elements of this type. -/
def TyAt (w : World) (b t : Nat) : Prop := ∃ cs, w.heap[b]? = some (.cells cs t (0, 0))

theorem TyAt.kept {w w' : World} {b t : Nat} (h : TyAt w b t) (f : Fr (fun _ => False) w w') : TyAt w' b t := by
  obtain ⟨cs, h⟩ := h
  exact ⟨cs, by rw [f.block b (lt_of_heap h) id]; exact h⟩

theorem TyAt.ne {w : World} {b c s t : Nat} (h : TyAt w b s) (k : TyAt w c t) (hst : s ≠ t) : b ≠ c := by
  obtain ⟨cs, h⟩ := h
  obtain ⟨ds, k⟩ := k
  rintro rfl
  rw [h] at k
  simp at k
  exact hst k.2

theorem TyAt.setCell {w : World} {b t : Nat} (h : TyAt w b t) (g i : Nat) (u : Value) : TyAt (w.setCell ⟨g, i, none⟩ u) b t := by
  obtain ⟨cs, h⟩ := h
  by_cases e : b = g
  · subst e
    exact ⟨_, heap_setCell_same w b i cs t u h⟩
  · exact ⟨cs, by rw [Below.heap_setCell _ _ _ _ e]; exact h⟩

theorem owns_new {w : World} {b : Nat} (hb : w.heap[b]? = some (.cells #[] 5 (0, 0))) : w.ownsRow 0 5 1 (.slice (some ⟨b, 0, none⟩) 0 0) 0 [] :=
  ⟨rfl, .inr ⟨b, 0, #[], rfl, Nat.zero_le _, hb, Nat.le_refl _, by simp [maxLen], rfl, rfl⟩⟩

theorem owns_kept {S : Nat → Prop} {w w' : World} {e : TypeId} {size : Nat} {v : Value} {n : Nat} {xs : List Value} (h : w.ownsRow 0 e size v n xs) (f : Fr S w w') (hS : ∀ k, v.ownBlock = some k → ¬ S k) : w'.ownsRow 0 e size v n xs := by
  refine ⟨h.1, ?_⟩
  rcases h.2 with h4 | ⟨g, cap, cur, rfl, hb, hg, r⟩
  · exact .inl h4
  · exact .inr ⟨g, cap, cur, rfl, hb, by rw [f.block g (lt_of_heap hg) (hS g rfl)]; exact hg, r⟩

theorem owns_nil (w : World) : w.ownsRow 0 5 1 (.slice none 0 0) 0 [] := ⟨rfl, .inl ⟨rfl, rfl⟩⟩

theorem one_cellV (w : World) (x : Value) (e : TypeId) : Sr (w.alloc (Obj.cells #[x] e)) 1 (.slice (some ⟨w.heap.size, 0, none⟩) 1 1) 1 [x] := by
  refine .inr ⟨_, _, rfl, rfl, fun j u hu => ?_⟩
  rw [Addr.add_lit, Nat.zero_add, cell_of_heap (heap_alloc_new w _)]
  simpa using hu

theorem owns_nilE (w : World) (e : TypeId) : w.ownsRow 0 e 1 (.slice none 0 0) 0 [] := ⟨rfl, .inl ⟨rfl, rfl⟩⟩

theorem own_len (ao : Option Addr) (n c n' c' : Nat) : (Value.slice ao n c).ownBlock = (Value.slice ao n' c').ownBlock := by cases ao <;> rfl

theorem owns_cap {w : World} {e : TypeId} {ao : Option Addr} {n m cap : Nat} {xs : List Value} (h : w.ownsRow 0 e 1 (.slice ao n cap) m xs) : n ≤ cap := by
  rcases h.2 with ⟨hv, -⟩ | ⟨g, cap', cur, hv, -, -, hnc, -⟩
  · simp only [Value.slice.injEq] at hv
    omega
  · simp only [Value.slice.injEq] at hv
    omega

theorem grown_fr {wr W w1 : World} {row : Option Nat} (hW : Fr (fun _ => False) wr W) (hg : W.grownBy w1 row) (hrow : ∀ k, row = some k → wr.heap.size ≤ k) : Fr (fun _ => False) wr w1 :=
  hW.grown hg (fun k hk e => absurd (hrow k e) (by omega))

theorem bat_new (w : World) (l : List UInt8) : BAt (w.alloc (Obj.cells (bvs l).toArray 5)) w.heap.size l := heap_alloc_new w _

/-- make([]byte, n): the new world by a name of its own. -/
theorem mk_any (w : World) (n : Nat) (hn : n ≤ 100000) : ∃ w1, (Instr.makeSlice 23 (.int .i64 (n : Int)) (.int .i64 (n : Int))).run Try.prog w = .ok (.slice (some ⟨w.heap.size, 0, none⟩) n n) w1 ∧ BAt w1 w.heap.size (List.replicate n 0) ∧ Fr (fun _ => False) w w1 :=
  ⟨_, run_make5 n (by omega) w, bat_new w _, (Fr.refl _ _).alloc _⟩

/-- copy, as far as there is room. -/
theorem copy_min (w : World) (g o dLen dCap : Nat) (dao : Option Addr) (A : List UInt8) (x : Value) (cs : List UInt8) (hd : 0 < dLen → dao = some ⟨g, o, none⟩) (hA : BAt w g A) (hx : Rd w x cs) (hfit : o + dLen ≤ A.length) :
    ∃ w', (Builtin.copy_ #[23, 23] 3 #[.slice dao dLen dCap, x]).run Try.prog w = .ok (.int .i64 ((min cs.length dLen : Nat) : Int)) w' ∧ BAt w' g (A.take o ++ cs.take dLen ++ A.drop (o + min cs.length dLen)) ∧ Fr (fun b => b = g) w w' := by
  obtain ⟨ao, cap, rfl⟩ := hx.shape
  by_cases h0 : 0 < min cs.length dLen
  · obtain ⟨b, so, rfl, -, h1, h2, h3⟩ := hx.lits (by omega)
    have hdl : 0 < dLen := by omega
    rw [hd hdl]
    have hlt : (cs.take dLen).length = min cs.length dLen := by rw [List.length_take]; omega
    have := run_copy_row (P := Try.prog) w 23 23 3 5 g o dLen dCap ⟨b, so, none⟩ cs.length cap (bvs A).toArray 5 (bvs (cs.take dLen)) Try.underlying23 (by kernel_rfl) hA (by rw [bvs_length, hlt])
      (fun j v hv => by
        have hj : j < (cs.take dLen).length := by
          have := (List.getElem?_eq_some_iff.1 hv).1
          rwa [bvs_length] at this
        rw [Addr.add_lit, h3 j (by omega)]
        rw [bvs_get _ j hj] at hv
        rw [← hv, List.getElem_take]) (by rw [bvs_length, List.size_toArray, bvs_length]; omega) (bvs_one _)
    refine ⟨_, by rw [this, bvs_length, hlt]; rfl, ?_, ?_⟩
    · unfold BAt
      rw [setRow_heap w g _ _ _ _ hA]
      rw [← hlt]
      unfold bvs
      simp [List.map_take, List.map_drop]
    · exact ⟨rfl, rfl, rfl, by simp, fun k hk hs => setRow_other w g k _ hs⟩
  · have he : min cs.length dLen = 0 := by omega
    refine ⟨w, ?_, ?_, Fr.refl _ _⟩
    · have := run_copy_none (P := Try.prog) w 23 23 3 5 dao ao dLen dCap cs.length cap Try.underlying23 (by kernel_rfl) he
      rw [this, he]
      rfl
    · have e2 : cs.take dLen = [] := List.eq_nil_of_length_eq_zero (by rw [List.length_take]; omega)
      rw [he, e2]
      simpa using hA

theorem wp_copy {w : World} {o : Oper} {a : Act} {K : Act → World → Prop} {Q : Exit → Act → World → Prop} (s x : Operand)
    (ho : o.op = .call { callee := .builtin .copy, args := #[s, x], argTypes := #[23, 23] }) (hty : o.type = 3)
    (g of dLen dCap : Nat) (dao : Option Addr) (A : List UInt8) (xv : Value) (cs : List UInt8) (hs : a.eval s = .slice dao dLen dCap) (hxv : a.eval x = xv) (hd : 0 < dLen → dao = some ⟨g, of, none⟩) (hA : BAt w g A) (hx : Rd w xv cs) (hfit : of + dLen ≤ A.length)
    (h : ∀ w', BAt w' g (A.take of ++ cs.take dLen ++ A.drop (of + min cs.length dLen)) → Fr (fun b => b = g) w w' → K (a.put o.dst (.int .i64 ((min cs.length dLen : Nat) : Int))) w') : o.wp Try.prog a w K Q := by
  obtain ⟨w', hr, h2, h3⟩ := copy_min w g of dLen dCap dao A xv cs hd hA hx hfit
  unfold Oper.wp execOp
  simp only [ho, hty, resolve, invoke, builtin, Sem.run_bind, Sem.run_pure, Result.andThen_ok, List.map_toArray, List.map_cons, List.map_nil, hs, hxv, hr]
  exact h w' h2 h3

theorem step_copy {w : World} {ops : Array Oper} {o : Oper} {a : Act} {K : Act → World → Prop} {Q : Exit → Act → World → Prop} {E : Prop} (hgd : o.guard = none) (s x : Operand)
    (ho : o.op = .call { callee := .builtin .copy, args := #[s, x], argTypes := #[23, 23] }) (hty : o.type = 3)
    (g of dLen dCap : Nat) (dao : Option Addr) (A : List UInt8) (xv : Value) (cs : List UInt8) (hs : a.eval s = .slice dao dLen dCap) (hxv : a.eval x = xv) (hd : 0 < dLen → dao = some ⟨g, of, none⟩) (hA : BAt w g A) (hx : Rd w xv cs) (hfit : of + dLen ≤ A.length)
    (h : ∀ w', BAt w' g (A.take of ++ cs.take dLen ++ A.drop (of + min cs.length dLen)) → Fr (fun b => b = g) w w' → K (a.put o.dst (.int .i64 ((min cs.length dLen : Nat) : Int))) w') :
    if Region.wanted o (yielded ops a.tmps) = true then Oper.wp Try.prog o a w K Q else E := by
  have hw : Region.wanted o (yielded ops a.tmps) = true := by simp [Region.wanted, hgd]
  rw [if_pos hw]
  exact wp_copy s x ho hty g of dLen dCap dao A xv cs hs hxv hd hA hx hfit h

end Go.Proofs.Ytgodlfoidjeekaa

namespace Go.Proofs.Ytgodlfoidjeekaa
set_option linter.unusedVariables false
set_option linter.unusedSimpArgs false
open Go.RowKit
set_option linter.unusedVariables false
set_option linter.unusedSimpArgs false

/-- What an operation leaves: this value; something that lasts; something that holds at one stage. -/
inductive Kd (S : Nat → Prop) where
  | eq (u : Value)
  | pr (f : Value → World → Prop) (h : ∀ v w1 w2, f v w1 → Fr S w1 w2 → f v w2)
  | st (m : Nat) (f : Value → World → Prop) (h : ∀ v w1 w2, f v w1 → Fr (fun _ => False) w1 w2 → f v w2)
  | any

def Kd.holds {S : Nat → Prop} : Kd S → Nat → Value → World → Prop
  | .eq u, _, v, _ => v = u
  | .pr f _, _, v, w => f v w
  | .st m f _, k, v, w => m ≤ k ∧ (k = m → f v w)
  | .any, _, _, _ => True

def Tk {S : Nat → Prop} (ks : List (Kd S)) (k i : Nat) (v : Value) (w : World) : Prop := match ks[i]? with
  | some x => x.holds k v w
  | none => True

theorem Tk.mono {S : Nat → Prop} (ks : List (Kd S)) (k i : Nat) (v : Value) (w1 w2 : World) (h : Tk ks k i v w1) (f : Fr (fun _ => False) w1 w2) : Tk ks k i v w2 := by
  unfold Tk at *
  split
  · rename_i x hx
    rw [hx] at h
    cases x with
    | eq u => exact h
    | pr g hg => exact hg _ _ _ h (f.mono (fun _ _ h => h.elim))
    | st m g hg => exact ⟨h.1, fun e => hg _ _ _ (h.2 e) f⟩
    | any => trivial
  · trivial

theorem Tk.monoC {S : Nat → Prop} (ks : List (Kd S)) (k i : Nat) (v : Value) (w1 w2 : World) (h : Tk ks k i v w1) (f : Fr S w1 w2) : Tk ks (k + 1) i v w2 := by
  unfold Tk at *
  split
  · rename_i x hx
    rw [hx] at h
    cases x with
    | eq u => exact h
    | pr g hg => exact hg _ _ _ h f
    | st m g hg => exact ⟨Nat.le_succ_of_le h.1, fun e => absurd h.1 (by omega)⟩
    | any => trivial
  · trivial

/-- THE RULE, over these kinds. -/
theorem wp_region_kinds {P : Program} {Q : Exit → Act → World → Prop} (S : Nat → Prop) {id : Nat} {l : List Oper} {a : Act} {w : World} (hm : P.follows .mixedOrders = true) (hB : backB l 0 = true) (nd : (dsts l).Nodup) (hd : ∀ d ∈ dsts l, d < a.tmps.size)
    (ks : List (Kd S)) (calls : List Nat) (cn : calls.Nodup) (cl : ∀ i ∈ calls, i < l.length) (cp : ∀ k i j, calls[k]? = some i → calls[k + 1]? = some j → Path l j i) (St : Nat → World → Prop) (st0 : St 0 w.drew)
    (steps : Steps2 P Q l (fun w w' => Fr S w w') (fun w w' => Fr (fun _ => False) w w') (fun w w' => Fr S w w') St (Tk ks) calls a w 0 l)
    (done : ∀ a' w', Base l a a' → Fr S w w' → St calls.length w' → (∀ j, j < l.length → Held l (Tk ks calls.length) a' w' j) → Q .normal a' w') : (Code.region id l.toArray true).wp P Q a w :=
  wp_region_chain2 hm hB nd hd _ _ _ (Fr.refl _ _).drew (fun _ _ _ h k => h.trans k (fun _ _ h => h)) (fun _ _ h => h.mono (fun _ _ h => h.elim)) (fun _ _ h => h) (Tk ks) (Tk.mono ks) (Tk.monoC ks) calls cn cl cp St st0 steps done

/-- Which operations wait for operation j, themselves or through others. -/
def reachL (j : Nat) : List Oper → List Bool → List Bool
  | [], acc => acc
  | o :: r, acc => reachL j r (acc ++ [o.after.any fun e => Region.binds .any e && (e.on == j || acc.getD e.on false)])

theorem reachL_path {l : List Oper} {j : Nat} : ∀ (r : List Oper) (acc : List Bool), l.drop acc.length = r → (∀ k, acc.getD k false = true → Path l k j) → ∀ k, (reachL j r acc).getD k false = true → Path l k j := by
  intro r
  induction r with
  | nil => intro acc _ h k hk; exact h k hk
  | cons o r ih =>
    intro acc hd h k hk
    have ho : l[acc.length]? = some o := by
      have := congrArg (fun x => x[0]?) hd
      simpa using this
    refine ih _ ?_ ?_ k hk
    · have := congrArg List.tail hd
      simpa using this
    · intro k hk
      rcases Nat.lt_trichotomy k acc.length with h1 | h1 | h1
      · refine h k ?_
        simpa [List.getD, List.getElem?_append_left h1] using hk
      · subst h1
        simp only [List.getD, List.getElem?_append_right (Nat.le_refl _), Nat.sub_self, List.getElem?_cons_zero, Option.getD_some] at hk
        rw [← Array.any_toList, List.any_eq_true] at hk
        obtain ⟨e, he', hb⟩ := hk
        simp only [Bool.and_eq_true, Bool.or_eq_true, beq_iff_eq] at hb
        have hdep : depB o e.on = true := by
          unfold depB
          rw [← Array.any_toList, List.any_eq_true]
          exact ⟨e, he', by simp [hb.1]⟩
        rcases hb.2 with h2 | h2
        · rw [h2] at hdep
          exact .one ho hdep
        · exact .step ho hdep (h _ h2)
      · rw [List.getD, List.getElem?_eq_none (by simp; omega)] at hk
        simp at hk

/-- Operation i waits for operation j. -/
theorem waits {l : List Oper} {i j : Nat} (h : (reachL j l []).getD i false = true) : Path l i j :=
  reachL_path l [] (by simp) (fun k hk => by simp at hk) i h

section
variable {P : Program} {o : Oper} {a : Act} {w : World} {Q : Exit → Act → World → Prop} {S : Nat → Prop} {St : Nat → World → Prop} {T : Nat → Nat → Value → World → Prop} {calls : List Nat} {i k : Nat}

theorem k_val (v : Value) (hi : i ∉ calls) (hs : St k w) (h : (execOp a.eval o).run P w = .ok (.value v) w) (hT : T k i v w) : o.wp P a w (Left2 (fun w w' => Fr (fun _ => False) w w') (fun w w' => Fr S w w') St T calls i o k a w) Q := by
  unfold Oper.wp
  rw [h, Oper.upon_value]
  exact ⟨v, rfl, by rw [if_neg hi]; exact hT, fun _ => Fr.refl _ _, fun h => absurd h hi, by rw [if_neg hi]; exact hs⟩
theorem k_new (v : Value) (w2 : World) (hi : i ∉ calls) (hs : St k w2) (f : Fr (fun _ => False) w w2) (h : (execOp a.eval o).run P w = .ok (.value v) w2) (hT : T k i v w2) : o.wp P a w (Left2 (fun w w' => Fr (fun _ => False) w w') (fun w w' => Fr S w w') St T calls i o k a w) Q := by
  unfold Oper.wp
  rw [h, Oper.upon_value]
  exact ⟨v, rfl, by rw [if_neg hi]; exact hT, fun _ => f, fun h => absurd h hi, by rw [if_neg hi]; exact hs⟩
theorem k_chain (v : Value) (w2 : World) (hi : i ∈ calls) (hs : St (k + 1) w2) (f : Fr S w w2) (h : (execOp a.eval o).run P w = .ok (.value v) w2) (hT : T (k + 1) i v w2) : o.wp P a w (Left2 (fun w w' => Fr (fun _ => False) w w') (fun w w' => Fr S w w') St T calls i o k a w) Q := by
  unfold Oper.wp
  rw [h, Oper.upon_value]
  exact ⟨v, rfl, by rw [if_pos hi]; exact hT, fun h => absurd hi h, fun _ => f, by rw [if_pos hi]; exact hs⟩
theorem k_store (w2 : World) (hi : i ∈ calls) (hs : St (k + 1) w2) (f : Fr S w w2) (h : (execOp a.eval o).run P w = .ok .skip w2) (hT : T (k + 1) i undef w2) : o.wp P a w (Left2 (fun w w' => Fr (fun _ => False) w w') (fun w w' => Fr S w w') St T calls i o k a w) Q := by
  unfold Oper.wp
  rw [h, Oper.upon_skip]
  exact ⟨undef, rfl, by rw [if_pos hi]; exact hT, fun h => absurd hi h, fun _ => f, by rw [if_pos hi]; exact hs⟩
theorem k_call (f : Nat) (args : Array Value) (hi : i ∉ calls) (h : (execOp a.eval o).run P w = .ok (.enter f args) w)
    (hc : Calls P f args w fun e w' => ∃ v, e = .returned v ∧ T k i v w' ∧ Fr (fun _ => False) w w' ∧ St k w') : o.wp P a w (Left2 (fun w w' => Fr (fun _ => False) w w') (fun w w' => Fr S w w') St T calls i o k a w) Q := by
  unfold Oper.wp
  rw [h, Oper.upon_enter]
  refine hc.mono ?_
  rintro e w' ⟨v, rfl, hT, f, hs⟩
  exact ⟨v, rfl, by rw [if_neg hi]; exact hT, fun _ => f, fun h => absurd h hi, by rw [if_neg hi]; exact hs⟩
theorem k_callC (f : Nat) (args : Array Value) (hi : i ∈ calls) (h : (execOp a.eval o).run P w = .ok (.enter f args) w)
    (hc : Calls P f args w fun e w' => ∃ v, e = .returned v ∧ T (k + 1) i v w' ∧ Fr S w w' ∧ St (k + 1) w') : o.wp P a w (Left2 (fun w w' => Fr (fun _ => False) w w') (fun w w' => Fr S w w') St T calls i o k a w) Q := by
  unfold Oper.wp
  rw [h, Oper.upon_enter]
  refine hc.mono ?_
  rintro e w' ⟨v, rfl, hT, f, hs⟩
  exact ⟨v, rfl, by rw [if_pos hi]; exact hT, fun h => absurd hi h, fun _ => f, by rw [if_pos hi]; exact hs⟩

theorem wantedT {l : List Oper} {j d : Nat} (hg : o.guard = some (j, true)) (hd : (l[j]?).bind (·.dst) = some d) (hlt : d < a.tmps.size) (hv : a.tmps.getD d undef = .bool true) : Region.wanted o (yielded l.toArray a.tmps) = true := by
  have h1 : a.tmps[d]? = some (.bool true) := by
    rw [Array.getD_eq_getD_getElem?, Array.getElem?_eq_getElem hlt] at hv
    rw [Array.getElem?_eq_getElem hlt]
    simpa using hv
  simp [Region.wanted, hg, yielded, hd, h1]
theorem wantedF {l : List Oper} {j d : Nat} (hg : o.guard = some (j, false)) (hd : (l[j]?).bind (·.dst) = some d) (hlt : d < a.tmps.size) (hv : a.tmps.getD d undef = .bool false) : Region.wanted o (yielded l.toArray a.tmps) = true := by
  have h1 : a.tmps[d]? = some (.bool false) := by
    rw [Array.getD_eq_getD_getElem?, Array.getElem?_eq_getElem hlt] at hv
    rw [Array.getElem?_eq_getElem hlt]
    simpa using hv
  simp [Region.wanted, hg, yielded, hd, h1]
theorem wantedN {l : List Oper} (hg : o.guard = none) : Region.wanted o (yielded l.toArray a.tmps) = true := by simp [Region.wanted, hg]
end

section
variable {P : Program} {ρ : Operand → Value} {o : Oper} {w : World}
theorem x_move {x : Operand} {v : Value} (ho : o.op = .move x) (hx : ρ x = v) : (execOp ρ o).run P w = .ok (.value v) w := by
  subst hx; simp [execOp, ho]
theorem x_assign {x : Operand} {v : Value} (ho : o.op = .assign x) (hx : ρ x = v) : (execOp ρ o).run P w = .ok (.value v) w := by
  subst hx; simp [execOp, ho]
theorem x_pickT {c x y : Operand} {v : Value} (ho : o.op = .pick c x y) (hc : ρ c = .bool true) (hx : ρ x = v) : (execOp ρ o).run P w = .ok (.value v) w := by
  subst hx; simp [execOp, ho, hc, go_sem]
theorem x_pickF {c x y : Operand} {v : Value} (ho : o.op = .pick c x y) (hc : ρ c = .bool false) (hx : ρ y = v) : (execOp ρ o).run P w = .ok (.value v) w := by
  subst hx; simp [execOp, ho, hc, go_sem]
theorem x_conv {s t : TypeId} {x : Operand} {v u : Value} (ho : o.op = .convert s t x) (hx : ρ x = v) (hc : (convert s t v).run P w = .ok u w) : (execOp ρ o).run P w = .ok (.value u) w := by
  subst hx; simp [execOp, ho, hc]
theorem x_nilCheck {x : Operand} {b : Addr} (ho : o.op = .nilCheck x) (hx : ρ x = .pointer (some b)) : (execOp ρ o).run P w = .ok (.value (.pointer (some b))) w := by
  simp [execOp, ho, hx, go_sem]
end

section
variable {ρ : Operand → Value} {o : Oper} {w : World}
theorem x_load1 {x : Operand} {t : TypeId} {b of : Nat} {v : Value} (ht : ∀ W a u, World.cell? W a = some u → (Instr.loadAt t (.pointer (some a))).run Try.prog W = .ok u W) (ho : o.op = .load t x) (hx : ρ x = .pointer (some ⟨b, of, none⟩)) (hc : w.cell? ⟨b, of, none⟩ = some v) : (execOp ρ o).run Try.prog w = .ok (.value v) w := by
  have := ht w _ _ hc
  simp [execOp, ho, hx, this]
theorem x_field {t n : Nat} {x : Operand} {b of off : Nat} (hf : ∀ W, (Instr.fieldAt t (.pointer (some ⟨b, of, none⟩)) n).run Try.prog W = .ok (.pointer (some ⟨b, of + off, none⟩)) W) (ho : o.op = .fieldAddr t x n) (hx : ρ x = .pointer (some ⟨b, of, none⟩)) : (execOp ρ o).run Try.prog w = .ok (.value (.pointer (some ⟨b, of + off, none⟩))) w := by
  have := hf w
  simp [execOp, ho, hx, this]
theorem x_eqI {t : TypeId} {x y : Operand} {k : IntKind} {n m : Int} {b : Bool} (ht : Try.prog.underlying t = some (.int k)) (ho : o.op = .binOp .eql t x y t) (hx : ρ x = .int k n) (hy : ρ y = .int k m) (hb : (n == m) = b) : (execOp ρ o).run Try.prog w = .ok (.value (.bool b)) w := by
  subst hb; simp [execOp, ho, hx, hy, go_sem]
theorem x_eqS {x y : Operand} {s : ByteArray} (ho : o.op = .binOp .eql 9 x y 9) (hx : ρ x = .string s) (hy : ρ y = .string s) : (execOp ρ o).run Try.prog w = .ok (.value (.bool true)) w := by
  simp [execOp, ho, hx, hy, go_sem]
theorem e_call1 {k : Nat} {x : Operand} {t : Array TypeId} {u : Value} (ho : o.op = .call { callee := .value (.func k), args := #[x], argTypes := t }) (hf : ρ (.func k) = .func (.func k) #[] #[]) (hx : ρ x = u) (hk : ∀ args W, Sem.run Try.prog (callFunc k args) W = .ok (.enter k args) W) : (execOp ρ o).run Try.prog w = .ok (.enter k #[u]) w := by
  have hk' := hk #[u] w
  simp [execOp, ho, hf, hx, go_sem, hk']
theorem e_call2 {k : Nat} {x y : Operand} {t : Array TypeId} {u v : Value} (ho : o.op = .call { callee := .value (.func k), args := #[x, y], argTypes := t }) (hf : ρ (.func k) = .func (.func k) #[] #[]) (hx : ρ x = u) (hy : ρ y = v) (hk : ∀ args W, Sem.run Try.prog (callFunc k args) W = .ok (.enter k args) W) : (execOp ρ o).run Try.prog w = .ok (.enter k #[u, v]) w := by
  have hk' := hk #[u, v] w
  simp [execOp, ho, hf, hx, hy, go_sem, hk']
theorem e_call3 {k : Nat} {x y z : Operand} {t : Array TypeId} {u v q : Value} (ho : o.op = .call { callee := .value (.func k), args := #[x, y, z], argTypes := t }) (hf : ρ (.func k) = .func (.func k) #[] #[]) (hx : ρ x = u) (hy : ρ y = v) (hz : ρ z = q) (hk : ∀ args W, Sem.run Try.prog (callFunc k args) W = .ok (.enter k args) W) : (execOp ρ o).run Try.prog w = .ok (.enter k #[u, v, q]) w := by
  have hk' := hk #[u, v, q] w
  simp [execOp, ho, hf, hx, hy, hz, go_sem, hk']
end

theorem ld3 (W : World) (a : Addr) (u : Value) (h : W.cell? a = some u) : (Instr.loadAt 3 (.pointer (some a))).run Try.prog W = .ok u W := by simp [go_sem, h]
theorem ld4 (W : World) (a : Addr) (u : Value) (h : W.cell? a = some u) : (Instr.loadAt 4 (.pointer (some a))).run Try.prog W = .ok u W := by simp [go_sem, h]
theorem ld5 (W : World) (a : Addr) (u : Value) (h : W.cell? a = some u) : (Instr.loadAt 5 (.pointer (some a))).run Try.prog W = .ok u W := by simp [go_sem, h]

theorem wp_nameK {P : Program} {C : Code} {Q : Exit → Act → World → Prop} {a : Act} {w : World} (h : ∀ a0, a0 = a → C.wp P Q a0 w) : C.wp P Q a w := h a rfl

end Go.Proofs.Ytgodlfoidjeekaa

namespace Go.Proofs.Ytgodlfoidjeekaa
set_option linter.unusedVariables false
set_option linter.unusedSimpArgs false
open Go.RowKit
set_option linter.unusedVariables false
set_option linter.unusedSimpArgs false

section
variable {P : Program} {ops : Array Oper} {Q : Exit → Act → World → Prop}

/-- An operation, shown once: it is wanted, and does this, or it is not wanted. -/
def Step3 (P : Program) (Q : Exit → Act → World → Prop) (l : List Oper) (RO R Rc : World → World → Prop) (St : Nat → World → Prop) (T : Nat → Nat → Value → World → Prop) (calls : List Nat) (a : Act) (w : World) (i : Nat) (o : Oper) : Prop :=
  ∀ a' w' k, Base l a a' → RO w w' → St k w' → (∀ m, calls[m]? = some i → m = k) → (∀ m j, calls[m]? = some j → Path l j i → k ≤ m) → (∀ m j, calls[m]? = some j → Path l i j → m < k) → (∀ j, depB o j = true → Held l (T k) a' w' j) →
    (Region.wanted o (yielded l.toArray a'.tmps) = true ∧ o.wp P a' w' (Left2 R Rc St T calls i o k a' w') Q) ∨ (Region.wanted o (yielded l.toArray a'.tmps) = false ∧ i ∉ calls ∧ T k i undef w' ∧ R w' w')

def Steps3 (P : Program) (Q : Exit → Act → World → Prop) (l : List Oper) (RO R Rc : World → World → Prop) (St : Nat → World → Prop) (T : Nat → Nat → Value → World → Prop) (calls : List Nat) (a : Act) (w : World) : Nat → List Oper → Prop
  | _, [] => True
  | i, o :: r => Step3 P Q l RO R Rc St T calls a w i o ∧ Steps3 P Q l RO R Rc St T calls a w (i + 1) r

theorem Steps3.get {l : List Oper} {RO R Rc : World → World → Prop} {St : Nat → World → Prop} {T : Nat → Nat → Value → World → Prop} {calls : List Nat} {a : Act} {w : World} {k : Nat} {r : List Oper} (h : Steps3 P Q l RO R Rc St T calls a w k r) {i : Nat} {o : Oper} (ho : r[i]? = some o) : Step3 P Q l RO R Rc St T calls a w (k + i) o := by
  induction r generalizing k i with
  | nil => simp at ho
  | cons x r ih =>
    cases i with
    | zero => simp at ho; subst ho; exact h.1
    | succ i =>
      simp at ho
      have := ih h.2 ho
      rwa [show k + 1 + i = k + (i + 1) by omega] at this

/-- THE RULE. -/
theorem wp_region_chain3 {id : Nat} {l : List Oper} {a : Act} {w : World} (hm : P.follows .mixedOrders = true) (hB : backB l 0 = true) (nd : (dsts l).Nodup) (hd : ∀ d ∈ dsts l, d < a.tmps.size)
    (RO R Rc : World → World → Prop) (Rdrew : RO w w.drew) (Rtrans : ∀ a b c, RO a b → RO b c → RO a c) (r1 : ∀ a b, R a b → RO a b) (r2 : ∀ a b, Rc a b → RO a b)
    (T : Nat → Nat → Value → World → Prop) (mono : ∀ k i v w1 w2, T k i v w1 → R w1 w2 → T k i v w2) (monoC : ∀ k i v w1 w2, T k i v w1 → Rc w1 w2 → T (k + 1) i v w2)
    (calls : List Nat) (cn : calls.Nodup) (cl : ∀ i ∈ calls, i < l.length) (cp : ∀ k i j, calls[k]? = some i → calls[k + 1]? = some j → Path l j i) (St : Nat → World → Prop) (st0 : St 0 w.drew)
    (steps : Steps3 P Q l RO R Rc St T calls a w 0 l)
    (done : ∀ a' w', Base l a a' → RO w w' → St calls.length w' → (∀ j, j < l.length → Held l (T calls.length) a' w' j) → Q .normal a' w') : (Code.region id l.toArray true).wp P Q a w := by
  refine wp_region_any hm ?_
  have hsz : l.toArray.size = l.length := by simp
  rw [hsz]
  let I : Array Bool → Act → World → Prop := fun listed a' w' => listed.size = l.length ∧ Base l a a' ∧ RO w w' ∧ Shut l listed ∧
    ∃ k, (∀ j, listed.getD j false = true → Held l (T k) a' w' j) ∧ k ≤ calls.length ∧ St k w' ∧ ∀ m i, calls[m]? = some i → (listed.getD i false = true ↔ m < k)
  refine wpAny_inv I ?_ ?_ _ _ _ _ ?_ ?_
  · intro listed a' w' i ⟨h1, h2, h3, hS, k, h4, hk, hst, hck⟩ hi
    obtain ⟨h5, o, ho, h6⟩ := mem_ready.1 hi
    have ho' : l[i]? = some o := by simpa using ho
    have hil : i < l.length := (List.getElem?_eq_some_iff.1 ho').1
    have hdep : ∀ j, depB o j = true → listed.getD j false = true := fun j hj => by
      unfold depB at hj
      rw [← Array.any_toList, List.any_eq_true] at hj
      obtain ⟨e, he', hb⟩ := hj
      have he : e ∈ o.after := by simpa using he'
      simp only [Bool.and_eq_true, beq_iff_eq] at hb
      rw [← hb.2]
      exact h6 e he hb.1
    have hni : listed.getD i false = false := by
      have hlt : i < listed.size := by omega
      simp [hlt] at h5 ⊢
      exact h5
    have hmk : ∀ m, calls[m]? = some i → m = k := fun m hm' => by
      have h7 : ¬ m < k := fun h => by rw [(hck m i hm').2 h] at hni; simp at hni
      rcases Nat.eq_zero_or_pos m with e | e
      · omega
      · obtain ⟨m', rfl⟩ : ∃ m', m = m' + 1 := ⟨m - 1, by omega⟩
        have hlt : m' < calls.length := by have := (List.getElem?_eq_some_iff.1 hm').1; omega
        have hp := cp m' _ i (List.getElem?_eq_getElem hlt) hm'
        have := hp.listed hS (fun o2 ho2 j hj => by rw [ho'] at ho2; simp at ho2; subst ho2; exact hdep j hj)
        have := (hck m' _ (List.getElem?_eq_getElem hlt)).1 this
        omega
    have hle : ∀ m j, calls[m]? = some j → Path l j i → k ≤ m := fun m j hmj hp => by
      rcases Nat.lt_or_ge m k with h | h
      · have hj := (hck m j hmj).2 h
        have := hp.listed hS (fun o2 ho2 x hx => hS j o2 ho2 hj x hx)
        rw [this] at hni
        simp at hni
      · exact h
    have hge : ∀ m j, calls[m]? = some j → Path l i j → m < k := fun m j hmj hp =>
      (hck m j hmj).1 (hp.listed hS (fun o2 ho2 x hx => by rw [ho'] at ho2; simp at ho2; subst ho2; exact hdep x hx))
    have hst' := steps.get ho'
    rw [Nat.zero_add] at hst'
    have hstep := hst' a' w' k h2 h3 hst hmk hle hge (fun j hj => h4 _ (hdep j hj))
    suffices fin : ∀ a'' w'', Left2 R Rc St T calls i o k a' w' a'' w'' → I (listed.setIfInBounds i true) a'' w'' by
      unfold wpOp
      rcases hstep with ⟨hw, hwp⟩ | ⟨hw, hic, hT, hR⟩
      · simp only [ho, hw, if_true]
        exact .inl (Oper.wp_mono fin hwp)
      · simp only [ho, hw]
        exact fin _ _ ⟨undef, rfl, by rw [if_neg hic]; exact hT, fun _ => hR, fun h => absurd h hic, by rw [if_neg hic]; exact hst⟩
    rintro a'' w'' ⟨v, rfl, hT, hf, hfc, hsk⟩
    have hRO : RO w' w'' := by
      by_cases hic : i ∈ calls
      · exact r2 _ _ (hfc hic)
      · exact r1 _ _ (hf hic)
    have hold : ∀ j v, T k j v w' → T (if i ∈ calls then k + 1 else k) j v w'' := fun j v h => by
      by_cases hic : i ∈ calls
      · rw [if_pos hic]; exact monoC _ _ _ _ _ h (hfc hic)
      · rw [if_neg hic]; exact mono _ _ _ _ _ h (hf hic)
    refine ⟨by simp [h1], ⟨?_, ?_, fun s hs => ?_⟩, Rtrans _ _ _ h3 hRO, ?_, (if i ∈ calls then k + 1 else k), fun j hj d hdj => ?_, ?_⟩
    · cases hdst : o.dst with
      | none => exact h2.size
      | some d => simp [Act.put, h2.size]
    · cases hdst : o.dst with
      | none => exact h2.defers
      | some d => exact h2.defers
    · cases hdst : o.dst with
      | none => exact h2.old s hs
      | some d =>
        rw [put_getD (fun e => hs (by rw [← e]; exact mem_dsts ho' hdst))]
        exact h2.old s hs
    · intro i2 o2 ho2 hl2 j hj
      have grow : ∀ x, listed.getD x false = true → (listed.setIfInBounds i true).getD x false = true := fun x hx => by
        by_cases e : i = x
        · subst e
          have hlt : i < listed.size := by omega
          simp [hlt]
        · rw [getD_set_ne false e]; exact hx
      by_cases e : i = i2
      · subst e
        rw [ho'] at ho2
        simp at ho2
        subst ho2
        exact grow j (hdep j hj)
      · rw [getD_set_ne false e] at hl2
        exact grow j (hS i2 o2 ho2 hl2 j hj)
    · obtain ⟨oj, hoj, hdj'⟩ : ∃ oj, l[j]? = some oj ∧ oj.dst = some d := by
        cases hc : l[j]? with
        | none => rw [hc] at hdj; simp at hdj
        | some oj => rw [hc] at hdj; exact ⟨oj, rfl, by simpa using hdj⟩
      by_cases e : i = j
      · subst e
        rw [ho'] at hoj
        simp at hoj
        subst hoj
        rw [hdj', put_self (by rw [h2.size]; exact hd d (mem_dsts ho' hdj'))]
        exact hT
      · rw [getD_set_ne false e] at hj
        have hold' := hold _ _ (h4 j hj d hdj)
        cases hdst : o.dst with
        | none => exact hold'
        | some d' =>
          rw [put_getD (fun e2 => e (dsts_inj nd ho' hoj (by rw [hdst, e2]) hdj'))]
          exact hold'
    · by_cases hic : i ∈ calls
      · obtain ⟨m, hm'⟩ := List.getElem?_of_mem hic
        have hmk' := hmk m hm'
        subst hmk'
        rw [if_pos hic] at hsk ⊢
        have hml : m < calls.length := (List.getElem?_eq_some_iff.1 hm').1
        refine ⟨by omega, hsk, fun m2 i2 hm2 => ?_⟩
        by_cases e : i = i2
        · subst e
          have hlt : i < listed.size := by omega
          have : m2 = m := (List.getElem?_inj (List.getElem?_eq_some_iff.1 hm2).1 cn).1 (hm2.trans hm'.symm)
          subst this
          simp [hlt]
        · rw [getD_set_ne false e, hck m2 i2 hm2]
          constructor
          · intro h; omega
          · intro h
            rcases Nat.lt_or_ge m2 m with h' | h'
            · exact h'
            · have : m2 = m := by omega
              subst this
              rw [hm2] at hm'
              simp at hm'
              exact absurd hm'.symm e
      · rw [if_neg hic] at hsk ⊢
        refine ⟨hk, hsk, fun m2 i2 hm2 => ?_⟩
        rw [getD_set_ne false (fun e => hic (by subst e; exact List.mem_of_getElem? hm2)), hck m2 i2 hm2]
  · intro listed a' w' ⟨h1, h2, h3, hS, k, h4, hk, hst, hck⟩ hr
    have hall := all_listed hB h1 hr
    have hke : k = calls.length := by
      rcases Nat.lt_or_ge k calls.length with h | h
      · have := (hck k _ (List.getElem?_eq_getElem h)).1 (hall _ (cl _ (List.getElem_mem h)))
        omega
      · omega
    subst hke
    exact done a' w' h2 h3 hst (fun j hj => h4 j (hall j hj))
  · simp [lefts]
  · have none : ∀ j, ¬ (Array.replicate l.length false).getD j false = true := fun j hj => by
      simp only [Array.getD_eq_getD_getElem?, Array.getElem?_replicate] at hj
      split at hj <;> simp at hj
    exact ⟨by simp, ⟨rfl, rfl, fun _ _ => rfl⟩, Rdrew, fun i o _ hl => (none i hl).elim, 0, fun j hj => (none j hj).elim, Nat.zero_le _, st0, fun m i _ => ⟨fun h => (none i h).elim, fun h => by omega⟩⟩
end

/-- THE RULE, over the kinds. -/
theorem wp_region_kinds3 {P : Program} {Q : Exit → Act → World → Prop} (S : Nat → Prop) {id : Nat} {l : List Oper} {a : Act} {w : World} (hm : P.follows .mixedOrders = true) (hB : backB l 0 = true) (nd : (dsts l).Nodup) (hd : ∀ d ∈ dsts l, d < a.tmps.size)
    (ks : List (Kd S)) (calls : List Nat) (cn : calls.Nodup) (cl : ∀ i ∈ calls, i < l.length) (cp : ∀ k i j, calls[k]? = some i → calls[k + 1]? = some j → Path l j i) (St : Nat → World → Prop) (st0 : St 0 w.drew)
    (steps : Steps3 P Q l (fun w w' => Fr S w w') (fun w w' => Fr (fun _ => False) w w') (fun w w' => Fr S w w') St (Tk ks) calls a w 0 l)
    (done : ∀ a' w', Base l a a' → Fr S w w' → St calls.length w' → (∀ j, j < l.length → Held l (Tk ks calls.length) a' w' j) → Q .normal a' w') : (Code.region id l.toArray true).wp P Q a w :=
  wp_region_chain3 hm hB nd hd _ _ _ (Fr.refl _ _).drew (fun _ _ _ h k => h.trans k (fun _ _ h => h)) (fun _ _ h => h.mono (fun _ _ h => h.elim)) (fun _ _ h => h) (Tk ks) (Tk.mono ks) (Tk.monoC ks) calls cn cl cp St st0 steps done

section
variable {P : Program} {o : Oper} {a : Act} {w : World} {S : Nat → Prop} {T : Nat → Nat → Value → World → Prop} {calls : List Nat} {i k : Nat}
theorem offT {l : List Oper} {j d : Nat} (hg : o.guard = some (j, true)) (hd : (l[j]?).bind (·.dst) = some d) (hlt : d < a.tmps.size) (hv : a.tmps.getD d undef = .bool false) : Region.wanted o (yielded l.toArray a.tmps) = false := by
  have h1 : a.tmps[d]? = some (.bool false) := by
    rw [Array.getD_eq_getD_getElem?, Array.getElem?_eq_getElem hlt] at hv
    rw [Array.getElem?_eq_getElem hlt]
    simpa using hv
  simp [Region.wanted, hg, yielded, hd, h1]
theorem offF {l : List Oper} {j d : Nat} (hg : o.guard = some (j, false)) (hd : (l[j]?).bind (·.dst) = some d) (hlt : d < a.tmps.size) (hv : a.tmps.getD d undef = .bool true) : Region.wanted o (yielded l.toArray a.tmps) = false := by
  have h1 : a.tmps[d]? = some (.bool true) := by
    rw [Array.getD_eq_getD_getElem?, Array.getElem?_eq_getElem hlt] at hv
    rw [Array.getElem?_eq_getElem hlt]
    simpa using hv
  simp [Region.wanted, hg, yielded, hd, h1]
theorem offU {l : List Oper} {j d : Nat} {b : Bool} (hg : o.guard = some (j, b)) (hd : (l[j]?).bind (·.dst) = some d) (hv : a.tmps.getD d undef = undef) : Region.wanted o (yielded l.toArray a.tmps) = false := by
  have h1 : a.tmps[d]? = none ∨ a.tmps[d]? = some undef := by
    rw [Array.getD_eq_getD_getElem?] at hv
    cases h : a.tmps[d]? with
    | none => exact .inl rfl
    | some v => rw [h] at hv; right; simpa using hv
  rcases h1 with h1 | h1 <;> simp [Region.wanted, hg, yielded, hd, h1, undef]
end
end Go.Proofs.Ytgodlfoidjeekaa

namespace Go.Proofs.Ytgodlfoidjeekaa
set_option linter.unusedVariables false
set_option linter.unusedSimpArgs false
open Go.RowKit
set_option linter.unusedVariables false

attribute [local go_sem ↓] Go.wp_at_zero Go.wp_at_succ

theorem Fr.drewN {S : Nat → Prop} {a w : World} (h : Fr S a w) (n : Nat) : Fr S a (w.drewN n) := by
  induction n with
  | zero => exact h
  | succ n ih => exact ih.drew
theorem Fr.ofDrewN {S : Nat → Prop} (w : World) (n : Nat) : Fr S w (w.drewN n) := (Fr.refl S w).drewN n
theorem wp_world {P : Program} {C : Code} {Q : Exit → Act → World → Prop} {a : Act} {w : World} (h : ∀ w2, w2 = w → C.wp P Q a w2) : C.wp P Q a w := h w rfl

/-- A text of bytes. -/
def str (l : List UInt8) : ByteArray := ⟨l.toArray⟩

theorem str_data (l : List UInt8) : (str l).data.toList = l := by simp [str]
theorem str_size (l : List UInt8) : (str l).size = l.length := by simp [str, ByteArray.size]

theorem conv_rd {P : Program} {w : World} {v : Value} {l : List UInt8} (h : Rd w v l) (src dst e : TypeId) (hs : P.underlying src = some (.slice e)) (he : P.underlying e = some (.int .u8)) (hd : P.underlying dst = some .string) :
    (convert src dst v).run P w = .ok (.string (str l)) w := by
  obtain ⟨ao, cap, rfl⟩ := h.shape
  by_cases hl : l.length = 0
  · obtain rfl := List.eq_nil_of_length_eq_zero hl
    rw [run_convert_bytes_string w src dst e _ _ _ hs he hd]
    cases ao with
    | none => simp [Conv.bytesToString, str]; rfl
    | some ad =>
      have e2 : (loadCells ad 0).run P w = .ok (([] : List Int).map (Value.int .u8)).toArray w := by simp [loadCells, loadCellsFrom]
      exact (run_bytesToString w ad 0 cap [] e2).trans rfl
  · obtain ⟨b, o, rfl, _, _, _, h3⟩ := h.lits (by omega)
    rw [run_convert_bytes_arg w src e hs he b o l.length cap (l.map fun b => (b.toNat : Int)) (by simp) ?_ dst hd]
    · rw [show strOfNums (l.map fun b => (b.toNat : Int)) = str l from ?_]
      unfold strOfNums str
      rw [List.map_map]
      congr 2
      have : ((fun n : Int => UInt8.ofNat n.toNat) ∘ fun b : UInt8 => (b.toNat : Int)) = id := by
        funext b; simp
      rw [this, List.map_id]
    · intro i hi
      rw [h3 i hi]
      simp [List.getD, hi]

theorem str_inj {a b : List UInt8} (h : str a = str b) : a = b := by
  have := congrArg (fun s => s.data.toList) h
  simpa [str] using this


def Slots (a : Act) : Nat → List Value → Prop
  | _, [] => True
  | i, v :: vs => a.tmps.getD i undef = v ∧ Slots a (i + 1) vs

theorem Slots.get {a : Act} {vs : List Value} {k : Nat} (h : Slots a k vs) (i : Nat) (hi : i < vs.length) : a.tmps.getD (k + i) undef = vs[i] := by
  induction vs generalizing k i with
  | nil => simp at hi
  | cons v vs ih =>
    cases i with
    | zero => exact h.1
    | succ i =>
      have := ih h.2 i (by simpa using hi)
      rw [show k + (i + 1) = k + 1 + i by omega]
      simpa using this

theorem frame_eq {a : Act} {vs : List Value} (hs : a.tmps.size = vs.length) (hd : a.defers = []) (h : Slots a 0 vs) : a = { tmps := vs.toArray, defers := [] } := by
  obtain ⟨t, df⟩ := a
  simp only at hs hd
  subst hd
  congr 1
  apply Array.ext
  · simpa using hs
  · intro i h1 h2
    have := h.get i (by omega)
    rw [Nat.zero_add] at this
    simpa [h1] using this

end Go.Proofs.Ytgodlfoidjeekaa

namespace Go.Proofs.Ytgodlfoidjeekaa
set_option linter.unusedVariables false
set_option linter.unusedSimpArgs false
open Go.RowKit
set_option linter.unusedVariables false

/-- The blocks of w, then those of e; all else as in e. -/
def ext (w e : World) : World := { e with heap := w.heap ++ e.heap }
/-- Of e what is no memory is as in w. -/
def Like (w e : World) : Prop := e.os = w.os ∧ e.tape = w.tape ∧ e.output = w.output

theorem ext_of {w w' : World} (f : Fr (fun _ => False) w w') : ∃ e, w' = ext w e ∧ Like w e := by
  refine ⟨{ w' with heap := w'.heap.extract w.heap.size w'.heap.size }, ?_, f.os, f.tape, f.output⟩
  have : w.heap ++ w'.heap.extract w.heap.size w'.heap.size = w'.heap := by
    apply Array.ext_getElem?
    intro k
    by_cases hk : k < w.heap.size
    · rw [Array.getElem?_append_left hk, f.block k hk (fun e => e)]
    · rw [Array.getElem?_append_right (by omega), Array.getElem?_extract]
      by_cases h2 : k < w'.heap.size
      · rw [if_pos (by omega)]; congr 1; omega
      · rw [if_neg (by omega)]; symm; simp; omega
  unfold ext
  dsimp only
  rw [this]
theorem Fr.ext {S : Nat → Prop} {a w e : World} (f : Fr S a w) (h : Like w e) : Fr S a (ext w e) := by
  obtain ⟨h1, h2, h3⟩ := h
  refine ⟨h1.trans f.os, h2.trans f.tape, h3.trans f.output, ?_, fun k hk hs => ?_⟩
  · have := f.size
    unfold Ytgodlfoidjeekaa.ext; simp; omega
  · rw [← f.block k hk hs]
    unfold Ytgodlfoidjeekaa.ext
    exact Array.getElem?_append_left (by have := f.size; omega)
@[go_sem, simp] theorem ext_size (w e : World) : (ext w e).heap.size = w.heap.size + e.heap.size := by unfold ext; simp
theorem ext_heap (w e : World) (n : Nat) (hn : n < w.heap.size) : (ext w e).heap[n]? = w.heap[n]? := Array.getElem?_append_left hn
@[go_sem] theorem ext_cell (w e : World) (n i : Nat) (hn : n < w.heap.size) : (ext w e).cell? ⟨n, i, none⟩ = w.cell? ⟨n, i, none⟩ := World.cell?_of_block (w := w) (ext_heap w e n hn)
@[go_sem] theorem ext_frozen (w e : World) (n i : Nat) (hn : n < w.heap.size) : (ext w e).frozen? ⟨n, i, none⟩ = w.frozen? ⟨n, i, none⟩ := World.frozen?_of_block (w := w) (ext_heap w e n hn)
@[go_sem] theorem ext_setCell (w e : World) (n i : Nat) (v : Value) (hn : n < w.heap.size) : (ext w e).setCell ⟨n, i, none⟩ v = ext (w.setCell ⟨n, i, none⟩ v) e := by
  unfold World.setCell ext
  congr 1
  apply Array.ext_getElem?
  intro k
  by_cases hk : k < w.heap.size
  · rw [Array.getElem?_append_left (by simpa using hk), Array.getElem?_modify, Array.getElem?_modify, Array.getElem?_append_left hk]
  · rw [Array.getElem?_append_right (by simp; omega), Array.getElem?_modify, Array.getElem?_append_right (by omega), if_neg (by dsimp; omega), Array.size_modify]
theorem Like.fr {w w2 e : World} (h : Like w e) (f : w2.os = w.os ∧ w2.tape = w.tape ∧ w2.output = w.output) : Like w2 e := ⟨h.1.trans f.1.symm, h.2.1.trans f.2.1.symm, h.2.2.trans f.2.2.symm⟩
/-- Behind a call that makes blocks alone. -/
theorem mono_ext {P : Program} {n : Nat} {vs : Array Value} {w : World} {R : Ending → Prop} {Q : Ending → World → Prop} (h : Calls P n vs w fun e w' => R e ∧ Fr (fun _ => False) w w') (k : ∀ e E, R e → Like w E → Q e (ext w E)) : Calls P n vs w Q := by
  refine h.mono ?_
  rintro e w' ⟨hr, f⟩
  obtain ⟨E, rfl, hE⟩ := ext_of f
  exact k e E hr hE
@[go_sem] theorem ext_ext (w a b : World) : ext (ext w a) b = ext w (ext a b) := by
  unfold ext
  simp [Array.append_assoc]
theorem Like.ext {w a b : World} (h1 : Like w a) (h2 : Like (ext w a) b) : Like w (ext a b) := ⟨h2.1.trans h1.1, h2.2.1.trans h1.2.1, h2.2.2.trans h1.2.2⟩
/-- A statement, what it leaves, and what follows. -/
theorem wp_cut {P : Program} {x y : Code} {Q : Exit → Act → World → Prop} {a : Act} {w : World} (K : Act → World → Prop) (h1 : x.wp P (Exit.then K Q) a w) (h2 : ∀ a w, K a w → y.wp P Q a w) : (Code.seq x y).wp P Q a w :=
  wp_seq (Code.wp_mono (fun e a w h => by cases e <;> first | exact h | exact h2 _ _ h) h1)
/-- A frame of which some slots are told. -/
theorem mkF {a : Act} {F : (Nat → Value) → Act} (h : a = F (fun i => a.tmps.getD i undef)) : ∃ f, a = F f := ⟨_, h⟩
end Go.Proofs.Ytgodlfoidjeekaa

namespace Go.Proofs.Ytgodlfoidjeekaa
set_option linter.unusedVariables false
set_option linter.unusedSimpArgs false
open Go.RowKit
set_option linter.unusedVariables false

/-- The cells of a block that may be written. -/
def row? (w : World) (n : Nat) : Option (Array Value) := match w.heap[n]? with | some (.cells cs _ (0, 0)) => some cs | _ => none
theorem row?_heap {w : World} {n : Nat} {cs : Array Value} (h : row? w n = some cs) : ∃ t, w.heap[n]? = some (.cells cs t (0, 0)) := by
  unfold row? at h
  split at h
  · rename_i e; injection h with h; subst h; exact ⟨_, e⟩
  · cases h
theorem row?_of {w w' : World} {n : Nat} (h : w'.heap[n]? = w.heap[n]?) : row? w' n = row? w n := by unfold row?; rw [h]
@[go_sem] theorem row?_alloc_at (w : World) (c : Array Value) (t : TypeId) (n : Nat) (hn : n = w.heap.size) : row? (w.alloc (.cells c t)) n = some c := by
  subst hn; unfold row?; rw [heap_alloc_new]; rfl
@[go_sem] theorem row?_alloc_past (w : World) (o : Obj) (n : Nat) (hn : n < w.heap.size) : row? (w.alloc o) n = row? w n := row?_of (Below.heap_alloc w o n hn)
@[go_sem] theorem row?_ext (w e : World) (n : Nat) (hn : n < w.heap.size) : row? (ext w e) n = row? w n := row?_of (ext_heap w e n hn)
@[go_sem] theorem setRow_alloc_at (w : World) (c d : Array Value) (t : TypeId) (n : Nat) (hn : n = w.heap.size) : (w.alloc (.cells c t)).setRow n d = w.alloc (.cells d t) := by
  subst hn
  unfold World.setRow World.alloc
  congr 1
  apply Array.ext_getElem?
  intro k
  simp only [Array.getElem?_modify, Array.getElem?_push]
  by_cases hk : k = w.heap.size
  · subst hk; simp
  · simp [hk, Ne.symm hk]
@[go_sem] theorem setRow_alloc_past (w : World) (o : Obj) (d : Array Value) (n : Nat) (hn : n < w.heap.size) : (w.alloc o).setRow n d = (w.setRow n d).alloc o := by
  unfold World.setRow World.alloc
  congr 1
  apply Array.ext_getElem?
  intro k
  simp only [Array.getElem?_modify, Array.getElem?_push, Array.size_modify]
  by_cases hk : k = w.heap.size
  · subst hk; simp [Nat.ne_of_lt hn]
  · simp [hk]
@[go_sem] theorem setRow_ext (w e : World) (d : Array Value) (n : Nat) (hn : n < w.heap.size) : (ext w e).setRow n d = ext (w.setRow n d) e := by
  unfold World.setRow ext
  congr 1
  apply Array.ext_getElem?
  intro k
  by_cases hk : k < w.heap.size
  · rw [Array.getElem?_append_left (by simpa using hk), Array.getElem?_modify, Array.getElem?_modify, Array.getElem?_append_left hk]
  · rw [Array.getElem?_append_right (by simp; omega), Array.getElem?_modify, Array.getElem?_append_right (by omega), if_neg (by omega), Array.size_modify]
theorem load_row (ty k : Nat) (fs : _) (hu : Try.prog.underlying ty = some (.struct fs)) (hi : (Try.prog.info? ty).map (·.size) = some k) (w : World) (n : Nat) (h : (row? w n).map Array.size = some k) : (loadVar ty ⟨n, 0, none⟩).run Try.prog w = .ok (.agg ((row? w n).getD #[])) w := by
  cases hr : row? w n with
  | none => rw [hr] at h; cases h
  | some cs =>
    obtain ⟨t, ht⟩ := row?_heap hr
    rw [hr] at h
    have hk : cs.size = k := by injection h
    exact run_loadVar_row w n t ty cs (0, 0) (.struct fs) ht hu rfl (by rw [hi, hk])
theorem store_row (ty k : Nat) (hi : (Try.prog.info? ty).map (·.size) = some k) (w : World) (n : Nat) (c : Array Value) (hc : c.size = k) (h1 : c.all (·.oneCell') = true) (h : (row? w n).map Array.size = some k) : (storeVar ty ⟨n, 0, none⟩ (.agg c)).run Try.prog w = .ok () (w.setRow n c) := by
  cases hr : row? w n with
  | none => rw [hr] at h; cases h
  | some cs =>
    obtain ⟨t, ht⟩ := row?_heap hr
    rw [hr] at h
    have hk : cs.size = k := by injection h
    exact run_storeVar_row w n t ty cs c ht (by rw [hi, hc]) (by rw [hk, hc]) h1
/-- The cells of a block, of so many. -/
def rowD (w : World) (n : Nat) : Array Value := (row? w n).getD #[]
def rowN (w : World) (n k : Nat) : Bool := decide ((row? w n).map Array.size = some k)
@[go_sem] theorem rowD_alloc_at (w : World) (c : Array Value) (t : TypeId) (n : Nat) (hn : n = w.heap.size) : rowD (w.alloc (.cells c t)) n = c := by unfold rowD; rw [row?_alloc_at w c t n hn]; rfl
@[go_sem] theorem rowD_alloc_past (w : World) (o : Obj) (n : Nat) (hn : n < w.heap.size) : rowD (w.alloc o) n = rowD w n := by unfold rowD; rw [row?_alloc_past w o n hn]
@[go_sem] theorem rowD_ext (w e : World) (n : Nat) (hn : n < w.heap.size) : rowD (ext w e) n = rowD w n := by unfold rowD; rw [row?_ext w e n hn]
@[go_sem] theorem rowN_alloc_past (w : World) (o : Obj) (n k : Nat) (hn : n < w.heap.size) : rowN (w.alloc o) n k = rowN w n k := by unfold rowN; rw [row?_alloc_past w o n hn]
@[go_sem] theorem rowN_ext (w e : World) (n k : Nat) (hn : n < w.heap.size) : rowN (ext w e) n k = rowN w n k := by unfold rowN; rw [row?_ext w e n hn]
end Go.Proofs.Ytgodlfoidjeekaa
