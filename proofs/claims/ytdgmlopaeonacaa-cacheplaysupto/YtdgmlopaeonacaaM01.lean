/-
  Plain facts on memory for the proofs over package gf: which blocks a call may turn ('Fr'), bytes as cells ('bvs'), a slice of bytes that can be read ('Rd').
  A rule for a region that draws its order, whose operations only read, but for the last, which waits for all the others: the others are walked once, in the order of the text, and then the last.
-/
import Derived.WalkKit
import Derived.WalkSpells
import Derived.WalkLawsBesides
import Derived.BigQuiet
import Derived.Orders
import Derived.KernelRfl
namespace Go.Proofs.Ytdgmlopaeonacaa
set_option linter.unusedVariables false
set_option linter.unusedSimpArgs false
open Go.RowKit
set_option linter.unusedVariables false

theorem hide {p : Prop} (h : p) : Hid p := h
theorem unhide {p : Prop} (h : Hid p) : p := h

/-- Bytes as cells. -/
def bvs (l : List UInt8) : List Value := l.map fun b => Value.int .u8 (b.toNat : Int)

theorem bvs_length (l : List UInt8) : (bvs l).length = l.length := by simp [bvs]
theorem bvs_append (l m : List UInt8) : bvs (l ++ m) = bvs l ++ bvs m := by simp [bvs]
theorem bvs_one (l : List UInt8) : ∀ u ∈ bvs l, u.oneCell' = true := by
  intro u hu
  obtain ⟨_, _, rfl⟩ := List.mem_map.1 hu
  rfl
theorem bvs_get (l : List UInt8) (j : Nat) (h : j < l.length) : (bvs l)[j]? = some (.int .u8 ((l[j]).toNat : Int)) := by simp [bvs, h]

/-- Of what was there before, only the blocks in S may have turned. -/
structure Fr (S : Nat → Prop) (w w' : World) : Prop where
  os : w'.os = w.os
  tape : w'.tape = w.tape
  output : w'.output = w.output
  size : w.heap.size ≤ w'.heap.size
  block : ∀ k, k < w.heap.size → ¬ S k → w'.heap[k]? = w.heap[k]?

theorem Fr.refl (S : Nat → Prop) (w : World) : Fr S w w := ⟨rfl, rfl, rfl, Nat.le_refl _, fun _ _ _ => rfl⟩

theorem Fr.trans {S T : Nat → Prop} {a b c : World} (h : Fr S a b) (k : Fr T b c) (hT : ∀ i, i < a.heap.size → T i → S i) : Fr S a c :=
  ⟨k.os.trans h.os, k.tape.trans h.tape, k.output.trans h.output, Nat.le_trans h.size k.size,
    fun i hi hs => (k.block i (Nat.lt_of_lt_of_le hi h.size) (fun ht => hs (hT i hi ht))).trans (h.block i hi hs)⟩

theorem Fr.mono {S T : Nat → Prop} {a b : World} (h : Fr S a b) (hT : ∀ i, i < a.heap.size → S i → T i) : Fr T a b :=
  ⟨h.os, h.tape, h.output, h.size, fun i hi hs => h.block i hi (fun ht => hs (hT i hi ht))⟩

theorem Fr.drew {S : Nat → Prop} {a w : World} (h : Fr S a w) : Fr S a w.drew := ⟨h.os, h.tape, h.output, h.size, h.block⟩
theorem Fr.drewL {S : Nat → Prop} {a w : World} (h : Fr S a.drew w) : Fr S a w := ⟨h.os, h.tape, h.output, h.size, h.block⟩

theorem Fr.alloc {S : Nat → Prop} {a w : World} (h : Fr S a w) (o : Obj) : Fr S a (w.alloc o) :=
  h.trans (T := fun _ => False) ⟨rfl, rfl, rfl, by simp, fun k hk _ => Below.heap_alloc _ _ _ hk⟩ (fun _ _ h => h.elim)

theorem Fr.setCell {S : Nat → Prop} {a w : World} (h : Fr S a w) {p : Addr} (hp : p.block < a.heap.size → S p.block) (u : Value) : Fr S a (w.setCell p u) :=
  h.trans (T := fun i => i = p.block) ⟨rfl, rfl, rfl, by simp [World.setCell], fun k _ hs => Below.heap_setCell _ _ _ _ hs⟩ (fun i hi h => by subst h; exact hp hi)

theorem Fr.grown {S : Nat → Prop} {a w w' : World} {row : Option Nat} (h : Fr S a w) (hg : w.grownBy w' row) (hr : ∀ k, k < a.heap.size → row = some k → S k) : Fr S a w' :=
  h.trans (T := fun i => row = some i) ⟨hg.os, hg.tape, hg.output, hg.size, fun k hk hs => hg.block k hk (fun e => hs e.symm)⟩ hr

theorem Fr.below {B : Nat} {S : Nat → Prop} {w w' : World} (h : Fr S w w') (hB : B ≤ w.heap.size) (hS : ∀ k, k < B → ¬ S k) : Below B w w' :=
  ⟨h.os, h.tape, h.output, h.size, fun k hk => h.block k (Nat.lt_of_lt_of_le hk hB) (hS k hk)⟩

theorem Fr.of_below {w w' : World} (h : Below w.heap.size w w') (S : Nat → Prop) : Fr S w w' := ⟨h.os, h.tape, h.output, h.size, fun k hk _ => h.block k hk⟩

theorem Fr.cell {S : Nat → Prop} {w w' : World} (h : Fr S w w') {a : Addr} (ha : a.block < w.heap.size) (hs : ¬ S a.block) : w'.cell? a = w.cell? a := World.cell?_of_block (w := w) (h.block a.block ha hs)
theorem Fr.frozen {S : Nat → Prop} {w w' : World} (h : Fr S w w') {a : Addr} (ha : a.block < w.heap.size) (hs : ¬ S a.block) : w'.frozen? a = w.frozen? a := World.frozen?_of_block (w := w) (h.block a.block ha hs)

theorem lt_of_heap {w : World} {p : Nat} {o : Obj} (h : w.heap[p]? = some o) : p < w.heap.size := (Array.getElem?_eq_some_iff.1 h).1

/-- A cell of a block that lies written out. -/
theorem cell_of_heap {w : World} {p : Nat} {cs : Array Value} {e : TypeId} (h : w.heap[p]? = some (.cells cs e (0, 0))) (j : Nat) : w.cell? ⟨p, j, none⟩ = cs[j]? :=
  cell_of_row w p j cs e (0, 0) h
theorem frozen_of_heap {w : World} {p : Nat} {cs : Array Value} {e : TypeId} (h : w.heap[p]? = some (.cells cs e (0, 0))) (j : Nat) : w.frozen? ⟨p, j, none⟩ = false :=
  frozen_of_row w p j cs e h

/-- A slice of bytes that can be read: l are its bytes. -/
def Rd (w : World) (v : Value) (l : List UInt8) : Prop :=
  (v = .slice none 0 0 ∧ l = []) ∨
  ∃ ad cap, v = .slice (some ad) l.length cap ∧ l.length ≤ cap ∧ cap ≤ maxLen ∧ ∀ j (h : j < l.length), w.cell? (ad.add j) = some (.int .u8 ((l[j]).toNat : Int))

theorem add_block (a : Addr) (j : Nat) : (a.add j).block = a.block := by unfold Addr.add; split <;> rfl

theorem Rd.lit {w : World} {b o n cap : Nat} {l : List UInt8} (hn : l.length = n) (h1 : n ≤ cap) (h2 : cap ≤ maxLen) (h3 : ∀ j (h : j < l.length), w.cell? ⟨b, o + j, none⟩ = some (.int .u8 ((l[j]).toNat : Int))) : Rd w (.slice (some ⟨b, o, none⟩) n cap) l := by
  subst hn
  exact .inr ⟨⟨b, o, none⟩, cap, rfl, h1, h2, fun j hj => by rw [Addr.add_lit]; exact h3 j hj⟩

theorem Rd.kept {S : Nat → Prop} {w w' : World} {v : Value} {l : List UInt8} (h : Rd w v l) (f : Fr S w w') (hS : ∀ b, v.ownBlock = some b → ¬ S b) : Rd w' v l := by
  rcases h with h | ⟨ad, cap, rfl, h1, h2, h3⟩
  · exact .inl h
  · refine .inr ⟨ad, cap, rfl, h1, h2, fun j hj => ?_⟩
    rw [f.cell (World.block_lt_of_cell? w _ (h3 j hj)) (by rw [add_block]; exact hS ad.block rfl)]
    exact h3 j hj

theorem Rd.nil (w : World) : Rd w (.slice none 0 0) [] := .inl ⟨rfl, rfl⟩

theorem Rd.shape {w : World} {v : Value} {l : List UInt8} (h : Rd w v l) : ∃ ao cap, v = .slice ao l.length cap := by
  rcases h with ⟨rfl, rfl⟩ | ⟨ad, cap, rfl, _⟩
  · exact ⟨_, _, rfl⟩
  · exact ⟨_, _, rfl⟩

theorem Rd.len {w : World} {v : Value} {l : List UInt8} (h : Rd w v l) : l.length ≤ maxLen := by
  rcases h with ⟨_, rfl⟩ | ⟨ad, cap, rfl, h1, h2, h3⟩
  · simp
  · omega

/-- A slice that somebody owns can be read. -/
theorem Rd.of_owns {w : World} {base : Nat} {v : Value} {l : List UInt8} (h : w.ownsRow base 5 1 v l.length (bvs l)) : Rd w v l := by
  rcases h.2 with ⟨hv, hn⟩ | ⟨g, cap, cur, rfl, hb, hg, hnc, hcm, hcs, htake⟩
  · exact .inl ⟨hv, List.eq_nil_of_length_eq_zero hn⟩
  · refine Rd.lit rfl hnc hcm fun j hj => ?_
    have h2 := World.ownsRow.cellAt h j (by omega)
    rw [Nat.zero_add, h2]
    exact bvs_get l j hj

/-- The cells of a slice that is not empty. -/
theorem Rd.lits {w : World} {ao : Option Addr} {n cap : Nat} {l : List UInt8} (h : Rd w (.slice ao n cap) l) (hl : 0 < l.length) : ∃ b o, ao = some ⟨b, o, none⟩ ∧ n = l.length ∧ n ≤ cap ∧ cap ≤ maxLen ∧ ∀ j (h : j < l.length), w.cell? ⟨b, o + j, none⟩ = some (.int .u8 ((l[j]).toNat : Int)) := by
  rcases h with ⟨_, rfl⟩ | ⟨ad, cap', hv, h1, h2, h3⟩
  · simp at hl
  · simp only [Value.slice.injEq] at hv
    obtain ⟨rfl, rfl, rfl⟩ := hv
    obtain ⟨b, off, spot⟩ := ad
    have hspot : spot = none := by simpa [Addr.add] using World.cell?_spot (h3 0 hl)
    subst hspot
    exact ⟨b, off, rfl, rfl, h1, h2, fun j hj => by rw [← Addr.add_lit]; exact h3 j hj⟩

/-- What is appended: a nil slice, or one whose cells can be read. -/
def Sr (w : World) (size : Nat) (x : Value) (m : Nat) (news : List Value) : Prop :=
  (x = .slice none 0 0 ∧ m = 0 ∧ news = []) ∨
  ∃ ad c, x = .slice (some ad) m c ∧ news.length = m * size ∧ ∀ j u, news[j]? = some u → w.cell? (ad.add j) = some u

theorem Rd.sr {w : World} {v : Value} {l : List UInt8} (h : Rd w v l) : Sr w 1 v l.length (bvs l) := by
  rcases h with ⟨rfl, rfl⟩ | ⟨ad, cap, rfl, h1, h2, h3⟩
  · exact .inl ⟨rfl, rfl, rfl⟩
  · refine .inr ⟨ad, cap, rfl, by simp [bvs_length], fun j u hu => ?_⟩
    have hj : j < l.length := by
      have := (List.getElem?_eq_some_iff.1 hu).1
      rwa [bvs_length] at this
    rw [h3 j hj]
    rw [bvs_get l j hj] at hu
    exact hu

theorem owns_shape {w : World} {base : Nat} {e : TypeId} {size : Nat} {v : Value} {n : Nat} {xs : List Value} (h : w.ownsRow base e size v n xs) : ∃ ao cap, v = .slice ao n cap := by
  rcases h.2 with ⟨rfl, rfl⟩ | ⟨g, cap, cur, rfl, _⟩
  · exact ⟨_, _, rfl⟩
  · exact ⟨_, _, rfl⟩

/-- append: what is owned grows, in its own block or in a new one. -/
theorem run_app {P : Program} (w : World) (t ty e : TypeId) (i : TypeInfo) (z : Value) (size bytes : Nat) (ht : P.underlying t = some (.slice e)) (hi : P.info? e = some i) (hz : i.zero = some z)
    (hsize : i.size = size) (hby : i.bytes = bytes) (hzs : z.cells.size = size) (hsz : 0 < size)
    (v : Value) (n : Nat) (xs : List Value) (hown : w.ownsRow 0 e size v n xs)
    (x : Value) (m : Nat) (news : List Value) (hx : Sr w size x m news) (h1 : ∀ u ∈ news, u.oneCell' = true) (hbytes : (n + m) * bytes ≤ 140737488355328) (h63 : n + m ≤ maxLen) :
    ∃ v' w', (Builtin.append_ #[t, t] ty #[v, x]).run P w = .ok v' w' ∧ w'.ownsRow 0 e size v' (n + m) (xs ++ news) ∧ w.grownBy w' v.ownBlock ∧
      (v'.ownBlock = v.ownBlock ∨ v'.ownBlock = some w.heap.size) := by
  rcases hx with ⟨rfl, rfl, rfl⟩ | ⟨ad, c, rfl, hl, hc⟩
  · exact ⟨v, w, run_append_owned_none w 0 t ty e i size ht hi v n xs hown, by simpa using hown, World.grownBy.refl _ _, .inl rfl⟩
  · obtain ⟨v', w', hr, ho, hg, hn⟩ := run_append_own (P := P) w 0 t ty e i z size bytes ht hi hz hsize hby hzs hsz v n xs hown ad m c news hl hc h1 h63 hbytes (Nat.zero_le _)
    refine ⟨v', w', hr, ho, hg, ?_⟩
    have h63' : ((n + m : Nat) : Int) ≤ 9223372036854775807 := by simp only [maxLen] at h63; omega
    rcases hown.2 with ⟨rfl, rfl⟩ | ⟨g, cap, cur, rfl, hbg, hgg, hnc, hcm, hcs, htake⟩
    · by_cases hm : m = 0
      · left; rw [hn.2 ⟨rfl, hm⟩]
      · right
        have hr2 := run_append_nil (P := P) w t ty e i z ht hi hz ad m c news (by rw [hsize]; exact hl) hc (by omega) (by omega) (by rw [hby]; simp only [Nat.zero_add] at hbytes; omega)
        rw [hr] at hr2
        simp only [Result.ok.injEq] at hr2
        rw [hr2.1]; rfl
    · by_cases hroom : n + m ≤ cap
      · left
        obtain ⟨w2, hr2, _⟩ := run_append_fits (P := P) w 0 t ty e i size ht hi hsize g n cap xs hown ad m c news hl hc h1 hroom
        rw [hr] at hr2
        simp only [Result.ok.injEq] at hr2
        rw [hr2.1]; rfl
      · right
        have hr2 := run_append_grow (P := P) w t ty e i z ht hi hz ⟨g, 0, none⟩ n cap xs (by rw [hsize]; exact hown.1) (hown.cells (g := g) rfl) ad m c news (by rw [hsize]; exact hl) hc (by omega) h63' (by rw [hby]; exact growslice_fits (by omega) hbytes)
        rw [hr] at hr2
        simp only [Result.ok.injEq] at hr2
        rw [hr2.1]; rfl

theorem wp_app {P : Program} {w : World} {o : Oper} {a : Act} {K : Act → World → Prop} {Q : Exit → Act → World → Prop} (s x : Operand) (t : TypeId)
    (ho : o.op = .call { callee := .builtin .append, args := #[s, x], argTypes := #[t, t] })
    (e : TypeId) (i : TypeInfo) (z : Value) (size bytes : Nat) (ht : P.underlying t = some (.slice e)) (hi : P.info? e = some i) (hz : i.zero = some z)
    (hsize : i.size = size) (hby : i.bytes = bytes) (hzs : z.cells.size = size) (hsz : 0 < size)
    (v : Value) (n : Nat) (xs : List Value) (hs : a.eval s = v) (xv : Value) (hxv : a.eval x = xv) (m : Nat) (news : List Value)
    (hown : w.ownsRow 0 e size v n xs) (hx : Sr w size xv m news) (h1 : ∀ u ∈ news, u.oneCell' = true) (hbytes : (n + m) * bytes ≤ 140737488355328) (h63 : n + m ≤ maxLen)
    (h : ∀ ao cap w', w'.ownsRow 0 e size (.slice ao (n + m) cap) (n + m) (xs ++ news) → w.grownBy w' v.ownBlock → ((Value.slice ao (n + m) cap).ownBlock = v.ownBlock ∨ ∃ k, (Value.slice ao (n + m) cap).ownBlock = some k ∧ w.heap.size ≤ k) → K (a.put o.dst (.slice ao (n + m) cap)) w') : o.wp P a w K Q := by
  obtain ⟨v', w', hr, h2, h3, h4⟩ := run_app (P := P) w t o.type e i z size bytes ht hi hz hsize hby hzs hsz v n xs hown xv m news hx h1 hbytes h63
  unfold Oper.wp execOp
  simp only [ho, resolve, invoke, builtin, Sem.run_bind, Sem.run_pure, Result.andThen_ok, List.map_toArray, List.map_cons, List.map_nil, hs, hxv, hr]
  obtain ⟨ao, cap, rfl⟩ := owns_shape h2
  exact h ao cap w' h2 h3 (by rcases h4 with h4 | h4; exact .inl h4; exact .inr ⟨_, h4, Nat.le_refl _⟩)

theorem wpList_app {P : Program} {w : World} {ops : Array Oper} {rest : List Oper} {o : Oper} {a : Act} {Q : Exit → Act → World → Prop} (hgd : o.guard = none) (s x : Operand) (t : TypeId)
    (ho : o.op = .call { callee := .builtin .append, args := #[s, x], argTypes := #[t, t] })
    (e : TypeId) (i : TypeInfo) (z : Value) (size bytes : Nat) (ht : P.underlying t = some (.slice e)) (hi : P.info? e = some i) (hz : i.zero = some z)
    (hsize : i.size = size) (hby : i.bytes = bytes) (hzs : z.cells.size = size) (hsz : 0 < size)
    (v : Value) (n : Nat) (xs : List Value) (hs : a.eval s = v) (xv : Value) (hxv : a.eval x = xv) (m : Nat) (news : List Value)
    (hown : w.ownsRow 0 e size v n xs) (hx : Sr w size xv m news) (h1 : ∀ u ∈ news, u.oneCell' = true) (hbytes : (n + m) * bytes ≤ 140737488355328) (h63 : n + m ≤ maxLen)
    (h : ∀ ao cap w', w'.ownsRow 0 e size (.slice ao (n + m) cap) (n + m) (xs ++ news) → w.grownBy w' v.ownBlock → ((Value.slice ao (n + m) cap).ownBlock = v.ownBlock ∨ ∃ k, (Value.slice ao (n + m) cap).ownBlock = some k ∧ w.heap.size ≤ k) → wpList P ops Q rest (a.put o.dst (.slice ao (n + m) cap)) w') : wpList P ops Q (o :: rest) a w :=
  wpList_plain hgd fun _ hK => wp_app s x t ho e i z size bytes ht hi hz hsize hby hzs hsz v n xs hs xv hxv m news hown hx h1 hbytes h63 fun ao cap w' h2 h3 h4 => hK _ _ (h ao cap w' h2 h3 h4)

/-- append, as a step of a region that draws its order. -/
theorem step_app {P : Program} {w : World} {ops : Array Oper} {o : Oper} {a : Act} {K : Act → World → Prop} {Q : Exit → Act → World → Prop} {E : Prop} (hgd : o.guard = none) (s x : Operand) (t : TypeId)
    (ho : o.op = .call { callee := .builtin .append, args := #[s, x], argTypes := #[t, t] })
    (e : TypeId) (i : TypeInfo) (z : Value) (size bytes : Nat) (ht : P.underlying t = some (.slice e)) (hi : P.info? e = some i) (hz : i.zero = some z)
    (hsize : i.size = size) (hby : i.bytes = bytes) (hzs : z.cells.size = size) (hsz : 0 < size)
    (v : Value) (n : Nat) (xs : List Value) (hs : a.eval s = v) (xv : Value) (hxv : a.eval x = xv) (m : Nat) (news : List Value)
    (hown : w.ownsRow 0 e size v n xs) (hx : Sr w size xv m news) (h1 : ∀ u ∈ news, u.oneCell' = true) (hbytes : (n + m) * bytes ≤ 140737488355328) (h63 : n + m ≤ maxLen)
    (h : ∀ ao cap w', w'.ownsRow 0 e size (.slice ao (n + m) cap) (n + m) (xs ++ news) → w.grownBy w' v.ownBlock → ((Value.slice ao (n + m) cap).ownBlock = v.ownBlock ∨ ∃ k, (Value.slice ao (n + m) cap).ownBlock = some k ∧ w.heap.size ≤ k) → K (a.put o.dst (.slice ao (n + m) cap)) w') :
    if Region.wanted o (yielded ops a.tmps) = true then Oper.wp P o a w K Q else E := by
  have hw : Region.wanted o (yielded ops a.tmps) = true := by simp [Region.wanted, hgd]
  rw [if_pos hw]
  exact wp_app s x t ho e i z size bytes ht hi hz hsize hby hzs hsz v n xs hs xv hxv m news hown hx h1 hbytes h63 h

/-- A slice of one-celled values that can be read. -/
def RdV (w : World) (v : Value) (xs : List Value) : Prop :=
  (v = .slice none 0 0 ∧ xs = []) ∨
  ∃ ad cap, v = .slice (some ad) xs.length cap ∧ xs.length ≤ cap ∧ cap ≤ maxLen ∧ ∀ j (h : j < xs.length), w.cell? (ad.add j) = some xs[j]

theorem RdV.kept {S : Nat → Prop} {w w' : World} {v : Value} {l : List Value} (h : RdV w v l) (f : Fr S w w') (hS : ∀ b, v.ownBlock = some b → ¬ S b) : RdV w' v l := by
  rcases h with h | ⟨ad, cap, rfl, h1, h2, h3⟩
  · exact .inl h
  · refine .inr ⟨ad, cap, rfl, h1, h2, fun j hj => ?_⟩
    rw [f.cell (World.block_lt_of_cell? w _ (h3 j hj)) (by rw [add_block]; exact hS ad.block rfl)]
    exact h3 j hj

theorem RdV.nil (w : World) : RdV w (.slice none 0 0) [] := .inl ⟨rfl, rfl⟩

theorem RdV.shape {w : World} {v : Value} {l : List Value} (h : RdV w v l) : ∃ ao cap, v = .slice ao l.length cap := by
  rcases h with ⟨rfl, rfl⟩ | ⟨ad, cap, rfl, _⟩
  · exact ⟨_, _, rfl⟩
  · exact ⟨_, _, rfl⟩

theorem RdV.len {w : World} {v : Value} {l : List Value} (h : RdV w v l) : l.length ≤ maxLen := by
  rcases h with ⟨_, rfl⟩ | ⟨ad, cap, rfl, h1, h2, h3⟩
  · simp
  · omega

theorem RdV.lits {w : World} {ao : Option Addr} {n cap : Nat} {l : List Value} (h : RdV w (.slice ao n cap) l) (hl : 0 < l.length) : ∃ b o, ao = some ⟨b, o, none⟩ ∧ n = l.length ∧ n ≤ cap ∧ cap ≤ maxLen ∧ ∀ j (h : j < l.length), w.cell? ⟨b, o + j, none⟩ = some l[j] := by
  rcases h with ⟨_, rfl⟩ | ⟨ad, cap', hv, h1, h2, h3⟩
  · simp at hl
  · simp only [Value.slice.injEq] at hv
    obtain ⟨rfl, rfl, rfl⟩ := hv
    obtain ⟨b, off, spot⟩ := ad
    have hspot : spot = none := by simpa [Addr.add] using World.cell?_spot (h3 0 hl)
    subst hspot
    exact ⟨b, off, rfl, rfl, h1, h2, fun j hj => by rw [← Addr.add_lit]; exact h3 j hj⟩

theorem RdV.of_owns {w : World} {base : Nat} {e : TypeId} {v : Value} {l : List Value} (h : w.ownsRow base e 1 v l.length l) : RdV w v l := by
  rcases h.2 with ⟨hv, hn⟩ | ⟨g, cap, cur, rfl, hb, hg, hnc, hcm, hcs, htake⟩
  · exact .inl ⟨hv, List.eq_nil_of_length_eq_zero hn⟩
  · refine .inr ⟨_, cap, rfl, hnc, hcm, fun j hj => ?_⟩
    rw [Addr.add_lit, Nat.zero_add, World.ownsRow.cellAt h j (by omega)]
    simp [hj]

end Go.Proofs.Ytdgmlopaeonacaa

namespace Go.Proofs.Ytdgmlopaeonacaa
set_option linter.unusedVariables false
set_option linter.unusedSimpArgs false
open Go.RowKit
set_option linter.unusedVariables false
set_option linter.unusedSimpArgs false

/-- Edges lead back. -/
def backB (l : List Oper) : Nat → Bool
  | k => match l with
    | [] => true
    | o :: l => (o.after.all fun e => !Region.binds .any e || decide (e.on < k)) && backB l (k + 1)

theorem backB_get {l : List Oper} {k : Nat} (h : backB l k = true) {i : Nat} {o : Oper} (ho : l[i]? = some o) : ∀ e ∈ o.after, Region.binds .any e = true → e.on < k + i := by
  induction l generalizing k i with
  | nil => simp at ho
  | cons x l ih =>
    simp only [backB, Bool.and_eq_true] at h
    cases i with
    | zero =>
      simp at ho
      subst ho
      intro e he hb
      have := (Array.all_eq_true_iff_forall_mem.1 h.1) e he
      simp [hb] at this
      omega
    | succ i =>
      simp at ho
      intro e he hb
      have := ih h.2 ho e he hb
      omega

/-- Where nothing is ready all are listed. -/
theorem all_listed {l : List Oper} (hB : backB l 0 = true) {listed : Array Bool} (hs : listed.size = l.length) (hr : Region.ready .any l.toArray listed = []) : ∀ i, i < l.length → listed.getD i false = true := by
  intro i
  induction i using Nat.strongRecOn with
  | ind i ih =>
    intro hi
    cases hv : listed.getD i false with
    | true => rfl
    | false =>
      exfalso
      have hmem : i ∈ Region.ready .any l.toArray listed := by
        rw [mem_ready]
        refine ⟨?_, l[i], by simp [hi], fun e he hb => ?_⟩
        · have hlt : i < listed.size := by omega
          simp [hlt] at hv ⊢
          exact hv
        · have := backB_get hB (show l[i]? = some l[i] by simp [hi]) e he hb
          exact ih e.on (by omega) (by omega)
      rw [hr] at hmem
      simp at hmem

def waitsB (o : Oper) (j : Nat) : Bool := o.after.any fun e => Region.binds .any e && e.on == j

section
variable {P : Program} {C : World → Prop}

theorem app_get {l zs : List Oper} {i : Nat} (h : i < l.length) : (l ++ zs).toArray[i]? = l.toArray[i]? := by
  simp [List.getElem?_append, h]

theorem listed_app {listed : Array Bool} {m i : Nat} (d : Bool) (h : i < listed.size) : (listed ++ Array.replicate m false).getD i d = listed.getD i d := by
  simp only [Array.getD_eq_getD_getElem?]
  rw [Array.getElem?_append_left h]

/-- What has come up has all that it waits for ahead of it. -/
def Closed (l : List Oper) (listed : Array Bool) : Prop := ∀ i o, l[i]? = some o → listed.getD i false = true → ∀ e ∈ o.after, Region.binds .any e = true → listed.getD e.on false = true

theorem Closed.set {l : List Oper} {listed : Array Bool} (h : Closed l listed) {i : Nat} (hi : i ∈ Region.ready .any l.toArray listed) : Closed l (listed.setIfInBounds i true) := by
  obtain ⟨g1, o, ho, g2⟩ := mem_ready.1 hi
  have hmono : ∀ k, listed.getD k false = true → (listed.setIfInBounds i true).getD k false = true := fun k hk => by
    by_cases e : i = k
    · subst e
      have hlt : i < listed.size := by
        rcases Nat.lt_or_ge i listed.size with h' | h'
        · exact h'
        · simp [Array.getElem?_eq_none h'] at hk
      simp [hlt]
    · rw [getD_set_ne false e]; exact hk
  intro k ok hok hk e he hb
  by_cases eq : i = k
  · subst eq
    have : ok = o := by rw [show l[i]? = some o by simpa using ho] at hok; simpa using hok.symm
    subst this
    exact hmono _ (g2 e he hb)
  · rw [getD_set_ne false eq] at hk
    exact hmono _ (h k ok hok hk e he hb)

/-- Does operation i wait for operation j, itself or through others? -/
def needsB (l : List Oper) : Nat → Nat → Nat → Bool
  | 0, _, _ => false
  | f + 1, i, j => match l[i]? with
    | some o => waitsB o j || o.after.any fun e => Region.binds .any e && needsB l f e.on j
    | none => false

theorem waitsB_get {o : Oper} {j : Nat} (h : waitsB o j = true) : ∃ e ∈ o.after, Region.binds .any e = true ∧ e.on = j := by
  unfold waitsB at h
  rw [← Array.any_toList, List.any_eq_true] at h
  obtain ⟨e, he', hb⟩ := h
  simp only [Bool.and_eq_true, beq_iff_eq] at hb
  exact ⟨e, by simpa using he', hb.1, hb.2⟩

theorem needsB_get {l : List Oper} {listed : Array Bool} (hC : Closed l listed) : ∀ (f i j : Nat) (o : Oper), l[i]? = some o → (∀ e ∈ o.after, Region.binds .any e = true → listed.getD e.on false = true) → needsB l f i j = true → listed.getD j false = true := by
  intro f
  induction f with
  | zero => intro i j o _ _ h; simp [needsB] at h
  | succ f ih =>
    intro i j o ho hd h
    unfold needsB at h
    rw [ho] at h
    simp only [Bool.or_eq_true] at h
    rcases h with h | h
    · obtain ⟨e, he, hb, rfl⟩ := waitsB_get h
      exact hd e he hb
    · rw [← Array.any_toList, List.any_eq_true] at h
      obtain ⟨e, he', hb⟩ := h
      simp only [Bool.and_eq_true] at hb
      have he : e ∈ o.after := by simpa using he'
      have hl := hd e he hb.1
      have h2 := hb.2
      cases hoe : l[e.on]? with
      | none =>
        cases f with
        | zero => simp [needsB] at h2
        | succ f => unfold needsB at h2; rw [hoe] at h2; simp at h2
      | some o2 => exact ih e.on j o2 hoe (fun e2 he2 hb2 => hC e.on o2 hoe hl e2 he2 hb2) h2

/-- The operation at k waits for all ahead of it, and each behind it for the one ahead of it. -/
def seqB (l : List Oper) (k : Nat) : Bool := ((List.range k).all fun j => needsB l 50 k j) && (List.range l.length).all fun i => decide (i ≤ k) || match l[i]? with
  | some o => waitsB o (i - 1)
  | none => true

theorem seqB_get {l : List Oper} {k i : Nat} (h : seqB l k = true) (hi : i < l.length) (hk : k < i) {o : Oper} (ho : l[i]? = some o) : ∃ e ∈ o.after, Region.binds .any e = true ∧ e.on = i - 1 := by
  unfold seqB at h
  rw [Bool.and_eq_true] at h
  have h1 := List.all_eq_true.1 h.2 i (by simpa using hi)
  rw [ho] at h1
  simp only [Bool.or_eq_true, decide_eq_true_eq] at h1
  exact waitsB_get (h1.resolve_left (by omega))

theorem seqB_needs {l : List Oper} {k : Nat} (h : seqB l k = true) {j : Nat} (hj : j < k) : needsB l 50 k j = true := by
  unfold seqB at h
  rw [Bool.and_eq_true] at h
  exact List.all_eq_true.1 h.1 j (by simpa using hj)

/-- The tail, in the order of the text. -/
theorem seq_tail {ops : List Oper} {Q : Exit → Act → World → Prop} (hB : backB ops 0 = true) (n : Nat) (hS : seqB ops n = true) :
    ∀ (zs : List Oper) (k : Nat), n ≤ k → ops.drop k = zs → ∀ (listed : Array Bool) (a : Act) (w : World) (fuel : Nat), listed.size = ops.length → (∀ i, i < k → i < ops.length → listed.getD i false = true) → (∀ i, k ≤ i → i < ops.length → listed.getD i true = false) →
      zs.length ≤ fuel → wpList P ops.toArray Q zs a w → wpAny P .any ops.toArray Q fuel listed a w := by
  intro zs
  induction zs with
  | nil =>
    intro k hk hd listed a w fuel hs h1 h2 hf h
    have hlen : ops.length ≤ k := by
      have := congrArg List.length hd
      simp at this
      omega
    have hr : Region.ready .any ops.toArray listed = [] := by
      rw [List.eq_nil_iff_forall_not_mem]
      intro i hi
      obtain ⟨g1, o, ho, -⟩ := mem_ready.1 hi
      have hil : i < ops.length := by
        have := (Array.getElem?_eq_some_iff.1 ho).1
        simpa using this
      have h3 := h1 i (by omega) hil
      have hlt : i < listed.size := by omega
      simp [hlt] at g1 h3
      rw [g1] at h3
      exact absurd h3 (by decide)
    cases fuel with
    | zero => exact ⟨hr, h⟩
    | succ f => exact ⟨fun _ => h, fun i hi => by rw [hr] at hi; simp at hi⟩
  | cons z zs ih =>
    intro k hk hd listed a w fuel hs h1 h2 hf h
    have hkl : k < ops.length := by
      have := congrArg List.length hd
      simp at this
      omega
    have hz : ops[k]? = some z := by
      have := congrArg (fun l => l[0]?) hd
      simpa using this
    have hd' : ops.drop (k + 1) = zs := by
      have := congrArg List.tail hd
      simpa using this
    obtain ⟨f, rfl⟩ : ∃ f, fuel = f + 1 := ⟨fuel - 1, by simp at hf; omega⟩
    refine ⟨fun hr => ?_, fun i hi => ?_⟩
    · have h3 := all_listed hB hs hr k hkl
      have h4 := h2 k (Nat.le_refl _) hkl
      have hlt : k < listed.size := by omega
      simp [hlt] at h3 h4
      rw [h3] at h4
      exact absurd h4 (by decide)
    · obtain ⟨g1, o, ho, g2⟩ := mem_ready.1 hi
      have hil : i < ops.length := by
        have := (Array.getElem?_eq_some_iff.1 ho).1
        simpa using this
      have hlt : i < listed.size := by omega
      have hik : i = k := by
        rcases Nat.lt_trichotomy i k with h3 | h3 | h3
        · have h4 := h1 i h3 hil
          simp [hlt] at g1 h4
          rw [g1] at h4
          exact absurd h4 (by decide)
        · exact h3
        · obtain ⟨e, he, hb, hon⟩ := seqB_get hS hil (by omega) (show ops[i]? = some o by simpa using ho)
          have h4 := g2 e he hb
          have h5 := h2 (i - 1) (by omega) (by omega)
          rw [hon] at h4
          have hlt2 : i - 1 < listed.size := by omega
          simp [hlt2] at h4 h5
          rw [h4] at h5
          exact absurd h5 (by decide)
      subst hik
      have hnext : ∀ a' w', wpList P ops.toArray Q zs a' w' → wpAny P .any ops.toArray Q f (listed.setIfInBounds i true) a' w' := fun a' w' h' =>
        ih (i + 1) (by omega) hd' (listed.setIfInBounds i true) a' w' f (by simpa using hs)
          (fun j hj hjl => by
            by_cases e : i = j
            · subst e; simp [hlt]
            · rw [getD_set_ne false e]; exact h1 j (by omega) hjl)
          (fun j hj hjl => by
            rw [getD_set_ne true (by omega)]; exact h2 j (by omega) hjl)
          (by simp at hf; omega) h'
      unfold wpOp
      have hz' : ops.toArray[i]? = some z := by simpa using hz
      simp only [hz']
      unfold wpList at h
      split
      · rename_i hw
        rw [if_pos hw] at h
        exact h.imp (Oper.wp_mono hnext) id
      · rename_i hw
        rw [if_neg hw] at h
        exact hnext _ _ h

def guardsB (l : List Oper) : Bool := l.all fun o => match o.guard with
  | some (j, _) => decide (j < l.length)
  | none => true

theorem wanted_app {l zs : List Oper} (hg : guardsB l = true) {o : Oper} (ho : o ∈ l) (tmps : Array Value) : Region.wanted o (yielded (l ++ zs).toArray tmps) = Region.wanted o (yielded l.toArray tmps) := by
  have h1 := List.all_eq_true.1 hg o ho
  unfold Region.wanted
  cases hgd : o.guard with
  | none => rfl
  | some g =>
    obtain ⟨j, b⟩ := g
    rw [hgd] at h1
    have hj : j < l.length := by simpa using h1
    simp only [yielded, app_get hj]

theorem wpAny_of_quietTail {l zs : List Oper} {Q : Act → Prop} {Q' : Exit → Act → World → Prop} (hB : backB (l ++ zs) 0 = true) (hBl : backB l 0 = true) (hS : seqB (l ++ zs) l.length = true) (hG : guardsB l = true)
    (hQ : ∀ a w, C w → Q a → wpList P (l ++ zs).toArray Q' zs a w) : ∀ (fuel : Nat) (listed : Array Bool) (a : Act) (w : World), C w → listed.size = l.length → Closed l listed →
    wpAnyQ P .any l.toArray C Q fuel listed a → wpAny P .any (l ++ zs).toArray Q' (fuel + zs.length) (listed ++ Array.replicate zs.length false) a w := by
  have tail : ∀ (listed : Array Bool) (a : Act) (w : World) (fuel : Nat), listed.size = l.length → (∀ i, i < l.length → listed.getD i false = true) → zs.length ≤ fuel → wpList P (l ++ zs).toArray Q' zs a w → wpAny P .any (l ++ zs).toArray Q' fuel (listed ++ Array.replicate zs.length false) a w := by
    intro listed a w fuel hs hall hf h
    refine seq_tail hB l.length hS zs l.length (Nat.le_refl _) (by simp) _ a w fuel (by simp [hs]) (fun i hi _ => ?_) (fun i hi hil => ?_) hf h
    · rw [listed_app false (by omega)]; exact hall i hi
    · simp only [Array.getD_eq_getD_getElem?]
      rw [Array.getElem?_append_right (by omega), Array.getElem?_replicate]
      rw [if_pos (by simp at hil; omega)]
      rfl
  have hold : ∀ (listed : Array Bool), listed.size = l.length → ∀ i, i < l.length → i ∈ Region.ready .any (l ++ zs).toArray (listed ++ Array.replicate zs.length false) → i ∈ Region.ready .any l.toArray listed := by
    intro listed hs i hil hi
    obtain ⟨g1, o, ho, g2⟩ := mem_ready.1 hi
    rw [app_get hil] at ho
    rw [listed_app true (by omega)] at g1
    refine mem_ready.2 ⟨g1, o, ho, fun e he hb => ?_⟩
    have h4 := backB_get hBl (show l[i]? = some o by simpa using ho) e he hb
    have h5 := g2 e he hb
    rwa [listed_app false (by omega)] at h5
  have hclosed : ∀ (listed : Array Bool), listed.size = l.length → Closed l listed → Closed (l ++ zs) (listed ++ Array.replicate zs.length false) := by
    intro listed hs hc i o ho hi e he hb
    have hil : i < l.length := by
      rcases Nat.lt_or_ge i l.length with h' | h'
      · exact h'
      · simp only [Array.getD_eq_getD_getElem?] at hi
        rw [Array.getElem?_append_right (by omega), Array.getElem?_replicate] at hi
        split at hi <;> simp at hi
    rw [List.getElem?_append_left hil] at ho
    rw [listed_app false (by omega)] at hi
    have h4 := backB_get hBl ho e he hb
    rw [listed_app false (by omega)]
    exact hc i o ho hi e he hb
  have hnew : ∀ (listed : Array Bool), listed.size = l.length → Closed l listed → ∀ i, ¬ i < l.length → i ∈ Region.ready .any (l ++ zs).toArray (listed ++ Array.replicate zs.length false) → ∀ j, j < l.length → listed.getD j false = true := by
    intro listed hs hc i hil hi j hj
    obtain ⟨g1, o, ho, g2⟩ := mem_ready.1 hi
    have hil2 : i < (l ++ zs).length := by
      have := (Array.getElem?_eq_some_iff.1 ho).1
      simpa using this
    have ho' : (l ++ zs)[i]? = some o := by simpa using ho
    by_cases hik : i = l.length
    · subst hik
      have := needsB_get (hclosed listed hs hc) 50 l.length j o ho' g2 (seqB_needs hS hj)
      rwa [listed_app false (by omega)] at this
    · exfalso
      obtain ⟨e, he, hb, hon⟩ := seqB_get hS hil2 (by omega) ho'
      have h5 := g2 e he hb
      rw [hon] at h5
      simp only [Array.getD_eq_getD_getElem?] at h5
      rw [Array.getElem?_append_right (by omega), Array.getElem?_replicate] at h5
      split at h5 <;> simp at h5
  intro fuel
  induction fuel with
  | zero =>
    intro listed a w hC hs hcl h
    have hall := all_listed hBl hs h.1
    rw [Nat.zero_add]
    exact tail listed a w _ hs hall (Nat.le_refl _) (hQ a w hC h.2)
  | succ fuel ih =>
    intro listed a w hC hs hcl h
    by_cases hr : Region.ready .any l.toArray listed = []
    · exact tail listed a w _ hs (all_listed hBl hs hr) (by omega) (hQ a w hC (h.1 hr))
    · rw [show fuel + 1 + zs.length = (fuel + zs.length) + 1 by omega]
      have hsome : ∀ i, i ∈ Region.ready .any (l ++ zs).toArray (listed ++ Array.replicate zs.length false) → i < l.length := by
        intro i hi
        by_cases hil : i < l.length
        · exact hil
        · exfalso
          apply hr
          have hall := hnew listed hs hcl i hil hi
          rw [List.eq_nil_iff_forall_not_mem]
          intro j hj
          obtain ⟨g1, o, ho, -⟩ := mem_ready.1 hj
          have hjl : j < l.length := by
            have := (Array.getElem?_eq_some_iff.1 ho).1
            simpa using this
          have h3 := hall j hjl
          have hlt : j < listed.size := by omega
          simp [hlt] at g1 h3
          rw [g1] at h3
          exact absurd h3 (by decide)
      refine ⟨fun hr2 => ?_, fun i hi => ?_⟩
      · exfalso
        apply hr
        rw [List.eq_nil_iff_forall_not_mem]
        intro j hj
        obtain ⟨g1, o, ho, -⟩ := mem_ready.1 hj
        have hjl : j < l.length := by
          have := (Array.getElem?_eq_some_iff.1 ho).1
          simpa using this
        have h3 := all_listed hB (by simp [hs]) hr2 j (by simp; omega)
        rw [listed_app false (by omega)] at h3
        have hlt : j < listed.size := by omega
        simp [hlt] at g1 h3
        rw [g1] at h3
        exact absurd h3 (by decide)
      · have hil := hsome i hi
        have hq := h.2 i (hold listed hs i hil hi)
        unfold qOp at hq
        unfold wpOp
        rw [app_get hil]
        obtain ⟨o, ho⟩ : ∃ o, l.toArray[i]? = some o := ⟨l[i], by simp [hil]⟩
        have hmem : o ∈ l := List.mem_of_getElem? (show l[i]? = some o by simpa using ho)
        simp only [ho] at hq ⊢
        rw [wanted_app hG hmem]
        have hnext : ∀ a' w', C w' → wpAnyQ P .any l.toArray C Q fuel (listed.setIfInBounds i true) a' → wpAny P .any (l ++ zs).toArray Q' (fuel + zs.length) ((listed ++ Array.replicate zs.length false).setIfInBounds i true) a' w' := by
          intro a' w' hC' h'
          have := ih (listed.setIfInBounds i true) a' w' hC' (by simp [hs]) (hcl.set (hold listed hs i hil hi)) h'
          rwa [← Array.setIfInBounds_append_left (by omega)] at this
        split
        · rename_i hw
          rw [if_pos hw] at hq
          exact .inl (Oper.wp_of_quiet hC hnext hq)
        · rename_i hw
          rw [if_neg hw] at hq
          exact hnext _ _ hC hq

/-- What the rule asks of the region's edges. -/
def tailB (l : List Oper) (n : Nat) : Bool := backB l 0 && backB (l.take n) 0 && Region.lexB .any (l.take n).toArray && guardsB (l.take n) && seqB l n && decide (n ≤ l.length)

/-- THE RULE. -/
theorem wp_region_quietTail (n : Nat) {id : Nat} {Q : Exit → Act → World → Prop} {a : Act} {w : World} {l : List Oper} (hm : P.follows .mixedOrders = true) (hB : tailB l n = true)
    (h : wpQuiet P (l.take n).toArray (fun w' => ∃ n, w' = w.drewN n) (fun a' => ∀ w', (∃ n, w' = w.drewN n) → wpList P l.toArray Q (l.drop n) a' w') (l.take n) a) : (Code.region id l.toArray true).wp P Q a w := by
  unfold tailB at hB
  simp only [Bool.and_eq_true, decide_eq_true_eq] at hB
  obtain ⟨⟨⟨⟨⟨h1, h2⟩, h3⟩, h4⟩, h5⟩, h6⟩ := hB
  have hlen : (l.take n).length = n := by simp; omega
  have e := List.take_append_drop n l
  generalize l.take n = l1 at *
  generalize l.drop n = zs at *
  subst e
  simp only [Region.lexB, Bool.and_eq_true] at h3
  refine wp_region_any hm ?_
  have hq := wpAnyQ_lex (P := P) (C := fun w' => ∃ n, w' = w.drewN n) (md := .any) h3.1 l1 0 (Array.replicate l1.length false) a (by simp) (by simpa using h3.2) h
  have := wpAny_of_quietTail (Q' := Q) h1 h2 (by rw [hlen]; exact h5) h4 (fun a' w' hC hq => hq w' hC) _ _ a w.drew ⟨1, rfl⟩ (by simp) (fun i o _ hi => by
    simp only [Array.getD_eq_getD_getElem?, Array.getElem?_replicate] at hi
    split at hi <;> simp at hi) hq
  rw [Array.replicate_append_replicate] at this
  simpa using this

/-- The same, over any class of worlds. -/
theorem wp_region_quietTailC (n : Nat) {id : Nat} {Q : Exit → Act → World → Prop} {a : Act} {w : World} {l : List Oper} (hm : P.follows .mixedOrders = true) (hB : tailB l n = true) (hC : C w.drew)
    (h : wpQuiet P (l.take n).toArray C (fun a' => ∀ w', C w' → wpList P l.toArray Q (l.drop n) a' w') (l.take n) a) : (Code.region id l.toArray true).wp P Q a w := by
  unfold tailB at hB
  simp only [Bool.and_eq_true, decide_eq_true_eq] at hB
  obtain ⟨⟨⟨⟨⟨h1, h2⟩, h3⟩, h4⟩, h5⟩, h6⟩ := hB
  have hlen : (l.take n).length = n := by simp; omega
  have e := List.take_append_drop n l
  generalize l.take n = l1 at *
  generalize l.drop n = zs at *
  subst e
  simp only [Region.lexB, Bool.and_eq_true] at h3
  refine wp_region_any hm ?_
  have hq := wpAnyQ_lex (P := P) (C := C) (md := .any) h3.1 l1 0 (Array.replicate l1.length false) a (by simp) (by simpa using h3.2) h
  have := wpAny_of_quietTail (Q' := Q) h1 h2 (by rw [hlen]; exact h5) h4 (fun a' w' hC hq => hq w' hC) _ _ a w.drew hC (by simp) (fun i o _ hi => by
    simp only [Array.getD_eq_getD_getElem?, Array.getElem?_replicate] at hi
    split at hi <;> simp at hi) hq
  rw [Array.replicate_append_replicate] at this
  simpa using this
end

end Go.Proofs.Ytdgmlopaeonacaa
