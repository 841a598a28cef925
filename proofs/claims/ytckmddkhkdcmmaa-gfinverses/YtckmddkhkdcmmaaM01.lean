/-
  Plain facts on memory for the proofs over package gf: which blocks a call may turn ('Fr'), bytes as cells ('bvs'), a slice of bytes that can be read ('Rd').
  The field of 256 elements, plainly: products by doubling, powers of 2, logarithms.
  The walks of package gf's elements: sums, products.
-/
import Derived.WalkKit
import Derived.WalkSpells
import Derived.WalkLawsBesides
import Derived.Test.YtckmddkhkdcmmaaChecked
import Derived.KernelRfl
import Derived.BigQuiet
import Derived.Deep.RegionHeld3
import Derived.Deep.RegionLaw
import Derived.Deep.DrawnRows
namespace Go.Proofs.Ytckmddkhkdcmmaa
set_option linter.unusedVariables false
set_option linter.unusedSimpArgs false
open Go.RowKit
set_option linter.unusedVariables false

theorem hide {p : Prop} (h : p) : Hid p := h
theorem unhide {p : Prop} (h : Hid p) : p := h

/-- Bytes as cells. -/
def bvs (l : List UInt8) : List Value := l.map fun b => Value.int .u8 (b.toNat : Int)

theorem bvs_length (l : List UInt8) : (bvs l).length = l.length := by simp [bvs]
theorem bvs_append (l m : List UInt8) : bvs (l ++ m) = bvs l ++ bvs m := by simp [bvs]
theorem bvs_one (l : List UInt8) : ∀ u ∈ bvs l, u.oneCell' = true := by
  intro u hu
  obtain ⟨_, _, rfl⟩ := List.mem_map.1 hu
  rfl
theorem bvs_get (l : List UInt8) (j : Nat) (h : j < l.length) : (bvs l)[j]? = some (.int .u8 ((l[j]).toNat : Int)) := by simp [bvs, h]

/-- Of what was there before, only the blocks in S may have turned. -/
structure Fr (S : Nat → Prop) (w w' : World) : Prop where
  os : w'.os = w.os
  tape : w'.tape = w.tape
  output : w'.output = w.output
  size : w.heap.size ≤ w'.heap.size
  block : ∀ k, k < w.heap.size → ¬ S k → w'.heap[k]? = w.heap[k]?

theorem Fr.refl (S : Nat → Prop) (w : World) : Fr S w w := ⟨rfl, rfl, rfl, Nat.le_refl _, fun _ _ _ => rfl⟩

theorem Fr.trans {S T : Nat → Prop} {a b c : World} (h : Fr S a b) (k : Fr T b c) (hT : ∀ i, i < a.heap.size → T i → S i) : Fr S a c :=
  ⟨k.os.trans h.os, k.tape.trans h.tape, k.output.trans h.output, Nat.le_trans h.size k.size,
    fun i hi hs => (k.block i (Nat.lt_of_lt_of_le hi h.size) (fun ht => hs (hT i hi ht))).trans (h.block i hi hs)⟩

theorem Fr.mono {S T : Nat → Prop} {a b : World} (h : Fr S a b) (hT : ∀ i, i < a.heap.size → S i → T i) : Fr T a b :=
  ⟨h.os, h.tape, h.output, h.size, fun i hi hs => h.block i hi (fun ht => hs (hT i hi ht))⟩

theorem Fr.drew {S : Nat → Prop} {a w : World} (h : Fr S a w) : Fr S a w.drew := ⟨h.os, h.tape, h.output, h.size, h.block⟩
theorem Fr.drewL {S : Nat → Prop} {a w : World} (h : Fr S a.drew w) : Fr S a w := ⟨h.os, h.tape, h.output, h.size, h.block⟩

theorem Fr.alloc {S : Nat → Prop} {a w : World} (h : Fr S a w) (o : Obj) : Fr S a (w.alloc o) :=
  h.trans (T := fun _ => False) ⟨rfl, rfl, rfl, by simp, fun k hk _ => Below.heap_alloc _ _ _ hk⟩ (fun _ _ h => h.elim)

theorem Fr.setCell {S : Nat → Prop} {a w : World} (h : Fr S a w) {p : Addr} (hp : p.block < a.heap.size → S p.block) (u : Value) : Fr S a (w.setCell p u) :=
  h.trans (T := fun i => i = p.block) ⟨rfl, rfl, rfl, by simp [World.setCell], fun k _ hs => Below.heap_setCell _ _ _ _ hs⟩ (fun i hi h => by subst h; exact hp hi)

theorem Fr.grown {S : Nat → Prop} {a w w' : World} {row : Option Nat} (h : Fr S a w) (hg : w.grownBy w' row) (hr : ∀ k, k < a.heap.size → row = some k → S k) : Fr S a w' :=
  h.trans (T := fun i => row = some i) ⟨hg.os, hg.tape, hg.output, hg.size, fun k hk hs => hg.block k hk (fun e => hs e.symm)⟩ hr

theorem Fr.below {B : Nat} {S : Nat → Prop} {w w' : World} (h : Fr S w w') (hB : B ≤ w.heap.size) (hS : ∀ k, k < B → ¬ S k) : Below B w w' :=
  ⟨h.os, h.tape, h.output, h.size, fun k hk => h.block k (Nat.lt_of_lt_of_le hk hB) (hS k hk)⟩

theorem Fr.of_below {w w' : World} (h : Below w.heap.size w w') (S : Nat → Prop) : Fr S w w' := ⟨h.os, h.tape, h.output, h.size, fun k hk _ => h.block k hk⟩

theorem Fr.cell {S : Nat → Prop} {w w' : World} (h : Fr S w w') {a : Addr} (ha : a.block < w.heap.size) (hs : ¬ S a.block) : w'.cell? a = w.cell? a := World.cell?_of_block (w := w) (h.block a.block ha hs)
theorem Fr.frozen {S : Nat → Prop} {w w' : World} (h : Fr S w w') {a : Addr} (ha : a.block < w.heap.size) (hs : ¬ S a.block) : w'.frozen? a = w.frozen? a := World.frozen?_of_block (w := w) (h.block a.block ha hs)

theorem lt_of_heap {w : World} {p : Nat} {o : Obj} (h : w.heap[p]? = some o) : p < w.heap.size := (Array.getElem?_eq_some_iff.1 h).1

/-- A cell of a block that lies written out. -/
theorem cell_of_heap {w : World} {p : Nat} {cs : Array Value} {e : TypeId} (h : w.heap[p]? = some (.cells cs e (0, 0))) (j : Nat) : w.cell? ⟨p, j, none⟩ = cs[j]? :=
  cell_of_row w p j cs e (0, 0) h
theorem frozen_of_heap {w : World} {p : Nat} {cs : Array Value} {e : TypeId} (h : w.heap[p]? = some (.cells cs e (0, 0))) (j : Nat) : w.frozen? ⟨p, j, none⟩ = false :=
  frozen_of_row w p j cs e h

/-- A slice of bytes that can be read: l are its bytes. -/
def Rd (w : World) (v : Value) (l : List UInt8) : Prop :=
  (v = .slice none 0 0 ∧ l = []) ∨
  ∃ ad cap, v = .slice (some ad) l.length cap ∧ l.length ≤ cap ∧ cap ≤ maxLen ∧ ∀ j (h : j < l.length), w.cell? (ad.add j) = some (.int .u8 ((l[j]).toNat : Int))

theorem add_block (a : Addr) (j : Nat) : (a.add j).block = a.block := by unfold Addr.add; split <;> rfl

theorem Rd.lit {w : World} {b o n cap : Nat} {l : List UInt8} (hn : l.length = n) (h1 : n ≤ cap) (h2 : cap ≤ maxLen) (h3 : ∀ j (h : j < l.length), w.cell? ⟨b, o + j, none⟩ = some (.int .u8 ((l[j]).toNat : Int))) : Rd w (.slice (some ⟨b, o, none⟩) n cap) l := by
  subst hn
  exact .inr ⟨⟨b, o, none⟩, cap, rfl, h1, h2, fun j hj => by rw [Addr.add_lit]; exact h3 j hj⟩

theorem Rd.kept {S : Nat → Prop} {w w' : World} {v : Value} {l : List UInt8} (h : Rd w v l) (f : Fr S w w') (hS : ∀ b, v.ownBlock = some b → ¬ S b) : Rd w' v l := by
  rcases h with h | ⟨ad, cap, rfl, h1, h2, h3⟩
  · exact .inl h
  · refine .inr ⟨ad, cap, rfl, h1, h2, fun j hj => ?_⟩
    rw [f.cell (World.block_lt_of_cell? w _ (h3 j hj)) (by rw [add_block]; exact hS ad.block rfl)]
    exact h3 j hj

theorem Rd.nil (w : World) : Rd w (.slice none 0 0) [] := .inl ⟨rfl, rfl⟩

theorem Rd.shape {w : World} {v : Value} {l : List UInt8} (h : Rd w v l) : ∃ ao cap, v = .slice ao l.length cap := by
  rcases h with ⟨rfl, rfl⟩ | ⟨ad, cap, rfl, _⟩
  · exact ⟨_, _, rfl⟩
  · exact ⟨_, _, rfl⟩

theorem Rd.len {w : World} {v : Value} {l : List UInt8} (h : Rd w v l) : l.length ≤ maxLen := by
  rcases h with ⟨_, rfl⟩ | ⟨ad, cap, rfl, h1, h2, h3⟩
  · simp
  · omega

/-- A slice that somebody owns can be read. -/
theorem Rd.of_owns {w : World} {base : Nat} {v : Value} {l : List UInt8} (h : w.ownsRow base 5 1 v l.length (bvs l)) : Rd w v l := by
  rcases h.2 with ⟨hv, hn⟩ | ⟨g, cap, cur, rfl, hb, hg, hnc, hcm, hcs, htake⟩
  · exact .inl ⟨hv, List.eq_nil_of_length_eq_zero hn⟩
  · refine Rd.lit rfl hnc hcm fun j hj => ?_
    have h2 := World.ownsRow.cellAt h j (by omega)
    rw [Nat.zero_add, h2]
    exact bvs_get l j hj

/-- The cells of a slice that is not empty. -/
theorem Rd.lits {w : World} {ao : Option Addr} {n cap : Nat} {l : List UInt8} (h : Rd w (.slice ao n cap) l) (hl : 0 < l.length) : ∃ b o, ao = some ⟨b, o, none⟩ ∧ n = l.length ∧ n ≤ cap ∧ cap ≤ maxLen ∧ ∀ j (h : j < l.length), w.cell? ⟨b, o + j, none⟩ = some (.int .u8 ((l[j]).toNat : Int)) := by
  rcases h with ⟨_, rfl⟩ | ⟨ad, cap', hv, h1, h2, h3⟩
  · simp at hl
  · simp only [Value.slice.injEq] at hv
    obtain ⟨rfl, rfl, rfl⟩ := hv
    obtain ⟨b, off, spot⟩ := ad
    have hspot : spot = none := by simpa [Addr.add] using World.cell?_spot (h3 0 hl)
    subst hspot
    exact ⟨b, off, rfl, rfl, h1, h2, fun j hj => by rw [← Addr.add_lit]; exact h3 j hj⟩

/-- What is appended: a nil slice, or one whose cells can be read. -/
def Sr (w : World) (size : Nat) (x : Value) (m : Nat) (news : List Value) : Prop :=
  (x = .slice none 0 0 ∧ m = 0 ∧ news = []) ∨
  ∃ ad c, x = .slice (some ad) m c ∧ news.length = m * size ∧ ∀ j u, news[j]? = some u → w.cell? (ad.add j) = some u

theorem Rd.sr {w : World} {v : Value} {l : List UInt8} (h : Rd w v l) : Sr w 1 v l.length (bvs l) := by
  rcases h with ⟨rfl, rfl⟩ | ⟨ad, cap, rfl, h1, h2, h3⟩
  · exact .inl ⟨rfl, rfl, rfl⟩
  · refine .inr ⟨ad, cap, rfl, by simp [bvs_length], fun j u hu => ?_⟩
    have hj : j < l.length := by
      have := (List.getElem?_eq_some_iff.1 hu).1
      rwa [bvs_length] at this
    rw [h3 j hj]
    rw [bvs_get l j hj] at hu
    exact hu

theorem owns_shape {w : World} {base : Nat} {e : TypeId} {size : Nat} {v : Value} {n : Nat} {xs : List Value} (h : w.ownsRow base e size v n xs) : ∃ ao cap, v = .slice ao n cap := by
  rcases h.2 with ⟨rfl, rfl⟩ | ⟨g, cap, cur, rfl, _⟩
  · exact ⟨_, _, rfl⟩
  · exact ⟨_, _, rfl⟩

/-- append: what is owned grows, in its own block or in a new one. -/
theorem run_app {P : Program} (w : World) (t ty e : TypeId) (i : TypeInfo) (z : Value) (size bytes : Nat) (ht : P.underlying t = some (.slice e)) (hi : P.info? e = some i) (hz : i.zero = some z)
    (hsize : i.size = size) (hby : i.bytes = bytes) (hzs : z.cells.size = size) (hsz : 0 < size)
    (v : Value) (n : Nat) (xs : List Value) (hown : w.ownsRow 0 e size v n xs)
    (x : Value) (m : Nat) (news : List Value) (hx : Sr w size x m news) (h1 : ∀ u ∈ news, u.oneCell' = true) (hbytes : (n + m) * bytes ≤ 140737488355328) (h63 : n + m ≤ maxLen) :
    ∃ v' w', (Builtin.append_ #[t, t] ty #[v, x]).run P w = .ok v' w' ∧ w'.ownsRow 0 e size v' (n + m) (xs ++ news) ∧ w.grownBy w' v.ownBlock ∧
      (v'.ownBlock = v.ownBlock ∨ v'.ownBlock = some w.heap.size) := by
  rcases hx with ⟨rfl, rfl, rfl⟩ | ⟨ad, c, rfl, hl, hc⟩
  · exact ⟨v, w, run_append_owned_none w 0 t ty e i size ht hi v n xs hown, by simpa using hown, World.grownBy.refl _ _, .inl rfl⟩
  · obtain ⟨v', w', hr, ho, hg, hn⟩ := run_append_own (P := P) w 0 t ty e i z size bytes ht hi hz hsize hby hzs hsz v n xs hown ad m c news hl hc h1 h63 hbytes (Nat.zero_le _)
    refine ⟨v', w', hr, ho, hg, ?_⟩
    have h63' : ((n + m : Nat) : Int) ≤ 9223372036854775807 := by simp only [maxLen] at h63; omega
    rcases hown.2 with ⟨rfl, rfl⟩ | ⟨g, cap, cur, rfl, hbg, hgg, hnc, hcm, hcs, htake⟩
    · by_cases hm : m = 0
      · left; rw [hn.2 ⟨rfl, hm⟩]
      · right
        have hr2 := run_append_nil (P := P) w t ty e i z ht hi hz ad m c news (by rw [hsize]; exact hl) hc (by omega) (by omega) (by rw [hby]; simp only [Nat.zero_add] at hbytes; omega)
        rw [hr] at hr2
        simp only [Result.ok.injEq] at hr2
        rw [hr2.1]; rfl
    · by_cases hroom : n + m ≤ cap
      · left
        obtain ⟨w2, hr2, _⟩ := run_append_fits (P := P) w 0 t ty e i size ht hi hsize g n cap xs hown ad m c news hl hc h1 hroom
        rw [hr] at hr2
        simp only [Result.ok.injEq] at hr2
        rw [hr2.1]; rfl
      · right
        have hr2 := run_append_grow (P := P) w t ty e i z ht hi hz ⟨g, 0, none⟩ n cap xs (by rw [hsize]; exact hown.1) (hown.cells (g := g) rfl) ad m c news (by rw [hsize]; exact hl) hc (by omega) h63' (by rw [hby]; exact growslice_fits (by omega) hbytes)
        rw [hr] at hr2
        simp only [Result.ok.injEq] at hr2
        rw [hr2.1]; rfl

theorem wp_app {P : Program} {w : World} {o : Oper} {a : Act} {K : Act → World → Prop} {Q : Exit → Act → World → Prop} (s x : Operand) (t : TypeId)
    (ho : o.op = .call { callee := .builtin .append, args := #[s, x], argTypes := #[t, t] })
    (e : TypeId) (i : TypeInfo) (z : Value) (size bytes : Nat) (ht : P.underlying t = some (.slice e)) (hi : P.info? e = some i) (hz : i.zero = some z)
    (hsize : i.size = size) (hby : i.bytes = bytes) (hzs : z.cells.size = size) (hsz : 0 < size)
    (v : Value) (n : Nat) (xs : List Value) (hs : a.eval s = v) (xv : Value) (hxv : a.eval x = xv) (m : Nat) (news : List Value)
    (hown : w.ownsRow 0 e size v n xs) (hx : Sr w size xv m news) (h1 : ∀ u ∈ news, u.oneCell' = true) (hbytes : (n + m) * bytes ≤ 140737488355328) (h63 : n + m ≤ maxLen)
    (h : ∀ ao cap w', w'.ownsRow 0 e size (.slice ao (n + m) cap) (n + m) (xs ++ news) → w.grownBy w' v.ownBlock → ((Value.slice ao (n + m) cap).ownBlock = v.ownBlock ∨ ∃ k, (Value.slice ao (n + m) cap).ownBlock = some k ∧ w.heap.size ≤ k) → K (a.put o.dst (.slice ao (n + m) cap)) w') : o.wp P a w K Q := by
  obtain ⟨v', w', hr, h2, h3, h4⟩ := run_app (P := P) w t o.type e i z size bytes ht hi hz hsize hby hzs hsz v n xs hown xv m news hx h1 hbytes h63
  unfold Oper.wp execOp
  simp only [ho, resolve, invoke, builtin, Sem.run_bind, Sem.run_pure, Result.andThen_ok, List.map_toArray, List.map_cons, List.map_nil, hs, hxv, hr]
  obtain ⟨ao, cap, rfl⟩ := owns_shape h2
  exact h ao cap w' h2 h3 (by rcases h4 with h4 | h4; exact .inl h4; exact .inr ⟨_, h4, Nat.le_refl _⟩)

theorem wpList_app {P : Program} {w : World} {ops : Array Oper} {rest : List Oper} {o : Oper} {a : Act} {Q : Exit → Act → World → Prop} (hgd : o.guard = none) (s x : Operand) (t : TypeId)
    (ho : o.op = .call { callee := .builtin .append, args := #[s, x], argTypes := #[t, t] })
    (e : TypeId) (i : TypeInfo) (z : Value) (size bytes : Nat) (ht : P.underlying t = some (.slice e)) (hi : P.info? e = some i) (hz : i.zero = some z)
    (hsize : i.size = size) (hby : i.bytes = bytes) (hzs : z.cells.size = size) (hsz : 0 < size)
    (v : Value) (n : Nat) (xs : List Value) (hs : a.eval s = v) (xv : Value) (hxv : a.eval x = xv) (m : Nat) (news : List Value)
    (hown : w.ownsRow 0 e size v n xs) (hx : Sr w size xv m news) (h1 : ∀ u ∈ news, u.oneCell' = true) (hbytes : (n + m) * bytes ≤ 140737488355328) (h63 : n + m ≤ maxLen)
    (h : ∀ ao cap w', w'.ownsRow 0 e size (.slice ao (n + m) cap) (n + m) (xs ++ news) → w.grownBy w' v.ownBlock → ((Value.slice ao (n + m) cap).ownBlock = v.ownBlock ∨ ∃ k, (Value.slice ao (n + m) cap).ownBlock = some k ∧ w.heap.size ≤ k) → wpList P ops Q rest (a.put o.dst (.slice ao (n + m) cap)) w') : wpList P ops Q (o :: rest) a w :=
  wpList_plain hgd fun _ hK => wp_app s x t ho e i z size bytes ht hi hz hsize hby hzs hsz v n xs hs xv hxv m news hown hx h1 hbytes h63 fun ao cap w' h2 h3 h4 => hK _ _ (h ao cap w' h2 h3 h4)

/-- append, as a step of a region that draws its order. -/
theorem step_app {P : Program} {w : World} {ops : Array Oper} {o : Oper} {a : Act} {K : Act → World → Prop} {Q : Exit → Act → World → Prop} {E : Prop} (hgd : o.guard = none) (s x : Operand) (t : TypeId)
    (ho : o.op = .call { callee := .builtin .append, args := #[s, x], argTypes := #[t, t] })
    (e : TypeId) (i : TypeInfo) (z : Value) (size bytes : Nat) (ht : P.underlying t = some (.slice e)) (hi : P.info? e = some i) (hz : i.zero = some z)
    (hsize : i.size = size) (hby : i.bytes = bytes) (hzs : z.cells.size = size) (hsz : 0 < size)
    (v : Value) (n : Nat) (xs : List Value) (hs : a.eval s = v) (xv : Value) (hxv : a.eval x = xv) (m : Nat) (news : List Value)
    (hown : w.ownsRow 0 e size v n xs) (hx : Sr w size xv m news) (h1 : ∀ u ∈ news, u.oneCell' = true) (hbytes : (n + m) * bytes ≤ 140737488355328) (h63 : n + m ≤ maxLen)
    (h : ∀ ao cap w', w'.ownsRow 0 e size (.slice ao (n + m) cap) (n + m) (xs ++ news) → w.grownBy w' v.ownBlock → ((Value.slice ao (n + m) cap).ownBlock = v.ownBlock ∨ ∃ k, (Value.slice ao (n + m) cap).ownBlock = some k ∧ w.heap.size ≤ k) → K (a.put o.dst (.slice ao (n + m) cap)) w') :
    if Region.wanted o (yielded ops a.tmps) = true then Oper.wp P o a w K Q else E := by
  have hw : Region.wanted o (yielded ops a.tmps) = true := by simp [Region.wanted, hgd]
  rw [if_pos hw]
  exact wp_app s x t ho e i z size bytes ht hi hz hsize hby hzs hsz v n xs hs xv hxv m news hown hx h1 hbytes h63 h

/-- A slice of one-celled values that can be read. -/
def RdV (w : World) (v : Value) (xs : List Value) : Prop :=
  (v = .slice none 0 0 ∧ xs = []) ∨
  ∃ ad cap, v = .slice (some ad) xs.length cap ∧ xs.length ≤ cap ∧ cap ≤ maxLen ∧ ∀ j (h : j < xs.length), w.cell? (ad.add j) = some xs[j]

theorem RdV.kept {S : Nat → Prop} {w w' : World} {v : Value} {l : List Value} (h : RdV w v l) (f : Fr S w w') (hS : ∀ b, v.ownBlock = some b → ¬ S b) : RdV w' v l := by
  rcases h with h | ⟨ad, cap, rfl, h1, h2, h3⟩
  · exact .inl h
  · refine .inr ⟨ad, cap, rfl, h1, h2, fun j hj => ?_⟩
    rw [f.cell (World.block_lt_of_cell? w _ (h3 j hj)) (by rw [add_block]; exact hS ad.block rfl)]
    exact h3 j hj

theorem RdV.nil (w : World) : RdV w (.slice none 0 0) [] := .inl ⟨rfl, rfl⟩

theorem RdV.shape {w : World} {v : Value} {l : List Value} (h : RdV w v l) : ∃ ao cap, v = .slice ao l.length cap := by
  rcases h with ⟨rfl, rfl⟩ | ⟨ad, cap, rfl, _⟩
  · exact ⟨_, _, rfl⟩
  · exact ⟨_, _, rfl⟩

theorem RdV.len {w : World} {v : Value} {l : List Value} (h : RdV w v l) : l.length ≤ maxLen := by
  rcases h with ⟨_, rfl⟩ | ⟨ad, cap, rfl, h1, h2, h3⟩
  · simp
  · omega

theorem RdV.lits {w : World} {ao : Option Addr} {n cap : Nat} {l : List Value} (h : RdV w (.slice ao n cap) l) (hl : 0 < l.length) : ∃ b o, ao = some ⟨b, o, none⟩ ∧ n = l.length ∧ n ≤ cap ∧ cap ≤ maxLen ∧ ∀ j (h : j < l.length), w.cell? ⟨b, o + j, none⟩ = some l[j] := by
  rcases h with ⟨_, rfl⟩ | ⟨ad, cap', hv, h1, h2, h3⟩
  · simp at hl
  · simp only [Value.slice.injEq] at hv
    obtain ⟨rfl, rfl, rfl⟩ := hv
    obtain ⟨b, off, spot⟩ := ad
    have hspot : spot = none := by simpa [Addr.add] using World.cell?_spot (h3 0 hl)
    subst hspot
    exact ⟨b, off, rfl, rfl, h1, h2, fun j hj => by rw [← Addr.add_lit]; exact h3 j hj⟩

theorem RdV.of_owns {w : World} {base : Nat} {e : TypeId} {v : Value} {l : List Value} (h : w.ownsRow base e 1 v l.length l) : RdV w v l := by
  rcases h.2 with ⟨hv, hn⟩ | ⟨g, cap, cur, rfl, hb, hg, hnc, hcm, hcs, htake⟩
  · exact .inl ⟨hv, List.eq_nil_of_length_eq_zero hn⟩
  · refine .inr ⟨_, cap, rfl, hnc, hcm, fun j hj => ?_⟩
    rw [Addr.add_lit, Nat.zero_add, World.ownsRow.cellAt h j (by omega)]
    simp [hj]

end Go.Proofs.Ytckmddkhkdcmmaa

namespace Go.Proofs.Ytckmddkhkdcmmaa
set_option linter.unusedVariables false
set_option linter.unusedSimpArgs false
set_option linter.unusedVariables false

/-- Twice an element. -/
def xt (a : UInt8) : UInt8 := if a &&& 128 = 0 then a <<< 1 else (a <<< 1) ^^^ 29

/-- The product of a and the first n bits of b. -/
def gm : Nat → UInt8 → UInt8 → UInt8
  | 0, _, _ => 0
  | n + 1, a, b => (if b &&& 1 = 1 then a else 0) ^^^ gm n (xt a) (b >>> 1)

def mul (a b : UInt8) : UInt8 := gm 8 a b

def xtn : Nat → UInt8 → UInt8
  | 0, a => a
  | n + 1, a => xt (xtn n a)

/-- The powers of 2. -/
def E (n : Nat) : UInt8 := xtn n 1

def Lgo : Nat → UInt8 → Nat → UInt8 → Nat
  | 0, _, k, _ => k
  | f + 1, x, k, b => if x = b then k else Lgo f (xt x) (k + 1) b

/-- The logarithm. -/
def L (b : UInt8) : Nat := Lgo 255 1 0 b

theorem all256 {P : UInt8 → Prop} (h : ∀ n, n < 256 → P (UInt8.ofNat n)) (a : UInt8) : P a := by
  have := h a.toNat a.toNat_lt
  rwa [UInt8.ofNat_toNat] at this

theorem top_bit (a : UInt8) : a &&& 128 = 0 ∨ a &&& 128 = 128 :=
  all256 (P := fun a => a &&& 128 = 0 ∨ a &&& 128 = 128) (by decide +kernel) a

theorem shl_xor (a b : UInt8) : (a ^^^ b) <<< 1 = (a <<< 1) ^^^ (b <<< 1) := by
  rw [← UInt8.toBitVec_inj]
  simp [BitVec.shiftLeft_xor_distrib]

theorem and_xor (a b c : UInt8) : (a ^^^ b) &&& c = (a &&& c) ^^^ (b &&& c) := by
  rw [← UInt8.toBitVec_inj]
  apply BitVec.eq_of_getLsbD_eq
  intro i hi
  simp only [UInt8.toBitVec_and, UInt8.toBitVec_xor, BitVec.getLsbD_and, BitVec.getLsbD_xor]
  cases a.toBitVec.getLsbD i <;> cases b.toBitVec.getLsbD i <;> cases c.toBitVec.getLsbD i <;> rfl

theorem shr_xor (a b : UInt8) : (a ^^^ b) >>> 1 = (a >>> 1) ^^^ (b >>> 1) := by
  rw [← UInt8.toBitVec_inj]
  simp [BitVec.ushiftRight_xor_distrib]

theorem xor4 (a b c d : UInt8) : (a ^^^ b) ^^^ (c ^^^ d) = (a ^^^ c) ^^^ (b ^^^ d) := by
  simp only [UInt8.xor_assoc]
  rw [← UInt8.xor_assoc b c d, UInt8.xor_comm b c, UInt8.xor_assoc]

theorem xor_cancel (a b : UInt8) (h : a ^^^ b = 0) : a = b := by
  have : (a ^^^ b) ^^^ b = 0 ^^^ b := by rw [h]
  rwa [UInt8.xor_assoc, UInt8.xor_self, UInt8.xor_zero, UInt8.zero_xor] at this

theorem xt_xor (a b : UInt8) : xt (a ^^^ b) = xt a ^^^ xt b := by
  unfold xt
  rw [and_xor, shl_xor]
  rcases top_bit a with ha | ha <;> rcases top_bit b with hb | hb <;> rw [ha, hb] <;> simp
  · rw [UInt8.xor_assoc]
  · rw [UInt8.xor_assoc, UInt8.xor_assoc, UInt8.xor_comm (b <<< 1)]
  · rw [xor4]; simp

theorem gm_xor (n : Nat) (a b c : UInt8) : gm n (a ^^^ b) c = gm n a c ^^^ gm n b c := by
  induction n generalizing a b c with
  | zero => simp [gm]
  | succ n ih =>
    simp only [gm]
    rw [xt_xor, ih, xor4]
    congr 1
    split <;> simp

theorem mul_xor (a b c : UInt8) : mul (a ^^^ b) c = mul a c ^^^ mul b c := gm_xor 8 a b c

theorem bits8 (x : UInt8) : x = (x &&& 1) ^^^ (x &&& 2) ^^^ (x &&& 4) ^^^ (x &&& 8) ^^^ (x &&& 16) ^^^ (x &&& 32) ^^^ (x &&& 64) ^^^ (x &&& 128) :=
  all256 (P := fun x => x = (x &&& 1) ^^^ (x &&& 2) ^^^ (x &&& 4) ^^^ (x &&& 8) ^^^ (x &&& 16) ^^^ (x &&& 32) ^^^ (x &&& 64) ^^^ (x &&& 128)) (by decide +kernel) x

theorem bit_or (x : UInt8) : (x &&& 1 = 0 ∨ x &&& 1 = 1) ∧ (x &&& 2 = 0 ∨ x &&& 2 = 2) ∧ (x &&& 4 = 0 ∨ x &&& 4 = 4) ∧ (x &&& 8 = 0 ∨ x &&& 8 = 8) ∧ (x &&& 16 = 0 ∨ x &&& 16 = 16) ∧ (x &&& 32 = 0 ∨ x &&& 32 = 32) ∧ (x &&& 64 = 0 ∨ x &&& 64 = 64) ∧ (x &&& 128 = 0 ∨ x &&& 128 = 128) :=
  all256 (P := fun x => (x &&& 1 = 0 ∨ x &&& 1 = 1) ∧ (x &&& 2 = 0 ∨ x &&& 2 = 2) ∧ (x &&& 4 = 0 ∨ x &&& 4 = 4) ∧ (x &&& 8 = 0 ∨ x &&& 8 = 8) ∧ (x &&& 16 = 0 ∨ x &&& 16 = 16) ∧ (x &&& 32 = 0 ∨ x &&& 32 = 32) ∧ (x &&& 64 = 0 ∨ x &&& 64 = 64) ∧ (x &&& 128 = 0 ∨ x &&& 128 = 128)) (by decide +kernel) x

/-- Two maps that go over sums are the same if they are at the eight bits. -/
theorem lin_ext (f g : UInt8 → UInt8) (hf : ∀ x y, f (x ^^^ y) = f x ^^^ f y) (hg : ∀ x y, g (x ^^^ y) = g x ^^^ g y)
    (h : f 1 = g 1 ∧ f 2 = g 2 ∧ f 4 = g 4 ∧ f 8 = g 8 ∧ f 16 = g 16 ∧ f 32 = g 32 ∧ f 64 = g 64 ∧ f 128 = g 128) (x : UInt8) : f x = g x := by
  have f0 : f 0 = 0 := by have := hf 0 0; simpa using this
  have g0 : g 0 = 0 := by have := hg 0 0; simpa using this
  obtain ⟨h1, h2, h3, h4, h5, h6, h7, h8⟩ := h
  obtain ⟨b1, b2, b3, b4, b5, b6, b7, b8⟩ := bit_or x
  have k1 : f (x &&& 1) = g (x &&& 1) := by rcases b1 with e | e <;> rw [e] <;> simp [f0, g0, h1]
  have k2 : f (x &&& 2) = g (x &&& 2) := by rcases b2 with e | e <;> rw [e] <;> simp [f0, g0, h2]
  have k3 : f (x &&& 4) = g (x &&& 4) := by rcases b3 with e | e <;> rw [e] <;> simp [f0, g0, h3]
  have k4 : f (x &&& 8) = g (x &&& 8) := by rcases b4 with e | e <;> rw [e] <;> simp [f0, g0, h4]
  have k5 : f (x &&& 16) = g (x &&& 16) := by rcases b5 with e | e <;> rw [e] <;> simp [f0, g0, h5]
  have k6 : f (x &&& 32) = g (x &&& 32) := by rcases b6 with e | e <;> rw [e] <;> simp [f0, g0, h6]
  have k7 : f (x &&& 64) = g (x &&& 64) := by rcases b7 with e | e <;> rw [e] <;> simp [f0, g0, h7]
  have k8 : f (x &&& 128) = g (x &&& 128) := by rcases b8 with e | e <;> rw [e] <;> simp [f0, g0, h8]
  rw [bits8 x]
  simp only [hf, hg]
  rw [k1, k2, k3, k4, k5, k6, k7, k8]

theorem mul_xt (a b : UInt8) : mul a (xt b) = xt (mul a b) := by
  refine lin_ext (fun a => mul a (xt b)) (fun a => xt (mul a b)) (fun x y => mul_xor x y _) (fun x y => by show xt (mul (x ^^^ y) b) = xt (mul x b) ^^^ xt (mul y b); rw [mul_xor, xt_xor]) ?_ a
  exact all256 (P := fun b => mul 1 (xt b) = xt (mul 1 b) ∧ mul 2 (xt b) = xt (mul 2 b) ∧ mul 4 (xt b) = xt (mul 4 b) ∧ mul 8 (xt b) = xt (mul 8 b) ∧ mul 16 (xt b) = xt (mul 16 b) ∧ mul 32 (xt b) = xt (mul 32 b) ∧ mul 64 (xt b) = xt (mul 64 b) ∧ mul 128 (xt b) = xt (mul 128 b)) (by decide +kernel) b

theorem mul_one (a : UInt8) : mul a 1 = a := all256 (P := fun a => mul a 1 = a) (by decide +kernel) a
theorem mul_zero (a : UInt8) : mul a 0 = 0 := all256 (P := fun a => mul a 0 = 0) (by decide +kernel) a
theorem zero_mul (a : UInt8) : mul 0 a = 0 := all256 (P := fun a => mul 0 a = 0) (by decide +kernel) a

theorem mul_E (a : UInt8) (n : Nat) : mul a (E n) = xtn n a := by
  induction n with
  | zero => exact mul_one a
  | succ n ih => show mul a (xt (E n)) = xt (xtn n a); rw [mul_xt, ih]

theorem xtn_add (m n : Nat) (a : UInt8) : xtn n (xtn m a) = xtn (m + n) a := by
  induction n with
  | zero => rfl
  | succ n ih => show xt (xtn n (xtn m a)) = xt (xtn (m + n) a); rw [ih]

theorem E_add (m n : Nat) : mul (E m) (E n) = E (m + n) := by rw [mul_E]; exact xtn_add m n 1

theorem E_255 : E 255 = 1 := by decide +kernel
theorem E_zero : E 0 = 1 := rfl
theorem E_succ (n : Nat) : E (n + 1) = xt (E n) := rfl

theorem E_over (n : Nat) : E (n + 255) = E n := by rw [← E_add, E_255, mul_one]
theorem E_overs (n k : Nat) : E (n + 255 * k) = E n := by
  induction k with
  | zero => rfl
  | succ k ih => rw [Nat.mul_succ, ← Nat.add_assoc, E_over, ih]
theorem E_mod (n : Nat) : E (n % 255) = E n := by
  have := E_overs (n % 255) (n / 255)
  rw [Nat.mod_add_div] at this
  exact this.symm
theorem E_cong {m n : Nat} (h : m % 255 = n % 255) : E m = E n := by rw [← E_mod m, h, E_mod]

theorem L_facts (b : UInt8) : b = 0 ∨ (L b < 255 ∧ E (L b) = b) :=
  all256 (P := fun b => b = 0 ∨ (L b < 255 ∧ E (L b) = b)) (by decide +kernel) b
theorem L_lt {b : UInt8} (h : b ≠ 0) : L b < 255 := ((L_facts b).resolve_left h).1
theorem E_L {b : UInt8} (h : b ≠ 0) : E (L b) = b := ((L_facts b).resolve_left h).2
theorem L_E_lt : ∀ n, n < 255 → E n ≠ 0 ∧ L (E n) = n := by decide +kernel
theorem E_ne (n : Nat) : E n ≠ 0 := by rw [← E_mod]; exact (L_E_lt _ (Nat.mod_lt _ (by decide))).1
theorem L_E (n : Nat) : L (E n) = n % 255 := by rw [← E_mod]; exact (L_E_lt _ (Nat.mod_lt _ (by decide))).2

theorem mul_logs {a b : UInt8} (ha : a ≠ 0) (hb : b ≠ 0) : mul a b = E (L a + L b) := by
  rw [← E_add, E_L ha, E_L hb]

theorem mul_eq_zero {a b : UInt8} : mul a b = 0 ↔ a = 0 ∨ b = 0 := by
  constructor
  · intro h
    by_cases ha : a = 0
    · exact .inl ha
    by_cases hb : b = 0
    · exact .inr hb
    rw [mul_logs ha hb] at h
    exact absurd h (E_ne _)
  · rintro (rfl | rfl)
    · exact zero_mul _
    · exact mul_zero _

theorem mul_comm (a b : UInt8) : mul a b = mul b a := by
  by_cases ha : a = 0
  · rw [ha, zero_mul, mul_zero]
  by_cases hb : b = 0
  · rw [hb, zero_mul, mul_zero]
  rw [mul_logs ha hb, mul_logs hb ha, Nat.add_comm]

theorem mul_assoc (a b c : UInt8) : mul (mul a b) c = mul a (mul b c) := by
  by_cases ha : a = 0
  · rw [ha, zero_mul, zero_mul, zero_mul]
  by_cases hb : b = 0
  · rw [hb, mul_zero, zero_mul, mul_zero]
  by_cases hc : c = 0
  · rw [hc, mul_zero, mul_zero, mul_zero]
  rw [← E_L ha, ← E_L hb, ← E_L hc, E_add, E_add, E_add, E_add, Nat.add_assoc]

theorem mul_xor2 (a b c : UInt8) : mul a (b ^^^ c) = mul a b ^^^ mul a c := by
  rw [mul_comm, mul_xor, mul_comm b, mul_comm c]

theorem one_mul (a : UInt8) : mul 1 a = a := by rw [mul_comm, mul_one]

/-- a by b, of which b is not 0. -/
def div (a b : UInt8) : UInt8 := if a = 0 then 0 else E (L a + 255 - L b)

theorem div_mul {a b : UInt8} (hb : b ≠ 0) : mul (div a b) b = a := by
  unfold div
  split
  · rename_i h; rw [h, zero_mul]
  · rename_i ha
    have h1 := L_lt hb
    rw [← E_L hb, E_add, L_E, Nat.mod_eq_of_lt h1, show L a + 255 - L b + L b = L a + 255 by omega, E_over, E_L ha]

theorem div_eq {a b c : UInt8} (hb : b ≠ 0) (h : mul c b = a) : div a b = c := by
  have h2 : mul (div a b) b = mul c b := by rw [div_mul hb, h]
  have h3 : mul (div a b ^^^ c) b = 0 := by rw [mul_xor, h2, UInt8.xor_self]
  exact xor_cancel _ _ ((mul_eq_zero.1 h3).resolve_right hb)

theorem div_as_mul {a b : UInt8} (hb : b ≠ 0) : div a b = mul a (div 1 b) := by
  refine div_eq hb ?_
  rw [mul_assoc, div_mul hb, mul_one]

/-- The product of n a's. -/
def gpow (a : UInt8) : Nat → UInt8
  | 0 => 1
  | n + 1 => mul (gpow a n) a

theorem gpow_E (m n : Nat) : gpow (E m) n = E (m * n) := by
  induction n with
  | zero => rfl
  | succ n ih => simp only [gpow]; rw [ih, E_add, Nat.mul_succ]

theorem gpow_logs {a : UInt8} (ha : a ≠ 0) (n : Nat) : gpow a n = E (L a * n) := by
  have := gpow_E (L a) n
  rwa [E_L ha] at this

theorem gpow_254 {a : UInt8} (ha : a ≠ 0) : gpow a 254 = div 1 a := by
  refine (div_eq ha ?_).symm
  have h : mul (gpow a 254) a = gpow a 255 := rfl
  rw [h, gpow_logs ha, ← E_zero]
  exact E_cong (by omega)

/-- A power, of any number. -/
def pw (a : UInt8) (n : Int) : UInt8 := if n = 0 then 1 else if a = 0 then 0 else E (L a * (n % 255).toNat)

theorem pw_ne {a : UInt8} (ha : a ≠ 0) (n : Int) : pw a n = E (L a * (n % 255).toNat) := by
  unfold pw
  by_cases h : n = 0
  · subst h; rfl
  · rw [if_neg h, if_neg ha]

theorem pw_gpow {a : UInt8} (ha : a ≠ 0) (n : Int) : pw a n = gpow a (n % 255).toNat := by rw [pw_ne ha, gpow_logs ha]

theorem pw_add {a : UInt8} (ha : a ≠ 0) (m n : Int) : mul (pw a m) (pw a n) = pw a (m + n) := by
  rw [pw_ne ha, pw_ne ha, pw_ne ha, E_add, ← Nat.mul_add]
  refine E_cong ?_
  rw [Nat.mul_mod, Nat.mul_mod (L a) ((m + n) % 255).toNat]
  congr 2
  omega

theorem pw_two (s : UInt8) : pw s 2 = mul s s := by
  by_cases h : s = 0
  · subst h; decide
  · rw [pw_ne h, mul_logs h h]
    exact congrArg E (by rw [show ((2 : Int) % 255).toNat = 2 from rfl]; omega)

theorem pw_255 {a : UInt8} (ha : a ≠ 0) : pw a 255 = 1 := by rw [pw_ne ha]; rfl

theorem L_two : L 2 = 1 := by decide +kernel
theorem exp_log {a : UInt8} (ha : a ≠ 0) : pw 2 (L a : Int) = a := by
  rw [pw_ne (by decide), L_two, Nat.one_mul]
  have h := L_lt ha
  rw [show ((L a : Int) % 255).toNat = L a by omega, E_L ha]

theorem square_xor (a b : UInt8) : mul (a ^^^ b) (a ^^^ b) = mul a a ^^^ mul b b := by
  rw [mul_xor, mul_xor2, mul_xor2, mul_comm b a, xor4]
  rw [UInt8.xor_comm (mul a b), xor4, UInt8.xor_self, UInt8.xor_zero]

/-- A round of the product. -/
theorem gm_step (n : Nat) (s a b : UInt8) : s ^^^ gm (n + 1) a b = (if b &&& 1 = 1 then s ^^^ a else s) ^^^ gm n (xt a) (b >>> 1) := by
  simp only [gm]
  split
  · rw [UInt8.xor_assoc]
  · rw [UInt8.zero_xor]
theorem gm_zero (n : Nat) (a : UInt8) : gm n a 0 = 0 := by
  induction n generalizing a with
  | zero => rfl
  | succ n ih => simp only [gm]; rw [show (0 : UInt8) >>> 1 = 0 from rfl, ih, UInt8.xor_zero, if_neg (by decide)]

end Go.Proofs.Ytckmddkhkdcmmaa

namespace Go.Proofs.Ytckmddkhkdcmmaa
set_option linter.unusedVariables false
set_option linter.unusedSimpArgs false
open Go.RowKit
set_option linter.unusedVariables false

attribute [local go_sem ↓] Go.wp_at_zero Go.wp_at_succ

theorem wrap_u8 (c : UInt8) : IntKind.u8.wrap ((c.toNat : Nat) : Int) = ((c.toNat : Nat) : Int) := by
  have := c.toNat_lt
  generalize c.toNat = n at *
  simp only [IntKind.wrap, IntKind.bits, IntKind.signed]
  simp
  omega

theorem xorV (a b : UInt8) : bits BinOp.xor IntKind.u8 ((a.toNat : Nat) : Int) ((b.toNat : Nat) : Int) = (((a ^^^ b).toNat : Nat) : Int) := by
  show IntKind.u8.wrap ((BitVec.ofInt 8 ((a.toNat : Nat) : Int) ^^^ BitVec.ofInt 8 ((b.toNat : Nat) : Int)).toNat : Int) = _
  rw [BitVec.ofInt_natCast, BitVec.ofInt_natCast, ← UInt8.toBitVec_ofNat', ← UInt8.toBitVec_ofNat', UInt8.ofNat_toNat, UInt8.ofNat_toNat, ← UInt8.toBitVec_xor, UInt8.toNat_toBitVec]
  exact wrap_u8 _

theorem andV (a b : UInt8) : bits BinOp.and IntKind.u8 ((a.toNat : Nat) : Int) ((b.toNat : Nat) : Int) = (((a &&& b).toNat : Nat) : Int) := by
  show IntKind.u8.wrap ((BitVec.ofInt 8 ((a.toNat : Nat) : Int) &&& BitVec.ofInt 8 ((b.toNat : Nat) : Int)).toNat : Int) = _
  rw [BitVec.ofInt_natCast, BitVec.ofInt_natCast, ← UInt8.toBitVec_ofNat', ← UInt8.toBitVec_ofNat', UInt8.ofNat_toNat, UInt8.ofNat_toNat, ← UInt8.toBitVec_and, UInt8.toNat_toBitVec]
  exact wrap_u8 _

theorem natB {a : UInt8} : (((a.toNat : Nat) : Int) = 0) ↔ a = 0 := by
  constructor
  · intro h; rw [← UInt8.toNat_inj]; show a.toNat = 0; omega
  · rintro rfl; rfl

theorem natI {a b : UInt8} : (((a.toNat : Nat) : Int) = ((b.toNat : Nat) : Int)) ↔ a = b := by
  constructor
  · intro h; rw [← UInt8.toNat_inj]; omega
  · rintro rfl; rfl

theorem eqV (a b : UInt8) : (((a.toNat : Nat) : Int) == ((b.toNat : Nat) : Int)) = decide (a = b) := by
  rw [Bool.eq_iff_iff]; simp only [beq_iff_eq, decide_eq_true_eq]; exact natI
theorem neV (a b : UInt8) : (((a.toNat : Nat) : Int) != ((b.toNat : Nat) : Int)) = decide (a ≠ b) := by
  rw [Bool.eq_iff_iff]; simp only [bne_iff_ne, ne_eq, decide_eq_true_eq]; exact not_congr natI

theorem shlV (a : UInt8) : ((a.toNat : Nat) : Int) * (2 : Int) % (256 : Int) = (((a <<< 1).toNat : Nat) : Int) :=
  all256 (P := fun a => ((a.toNat : Nat) : Int) * (2 : Int) % (256 : Int) = (((a <<< 1).toNat : Nat) : Int)) (by decide +kernel) a
theorem shrV (a : UInt8) : ((a.toNat : Nat) : Int) / (2 : Int) = (((a >>> 1).toNat : Nat) : Int) :=
  all256 (P := fun a => ((a.toNat : Nat) : Int) / (2 : Int) = (((a >>> 1).toNat : Nat) : Int)) (by decide +kernel) a

theorem add_any (w : World) (a b : UInt8) : Calls Try.prog 115 #[.int .u8 (a.toNat : Int), .int .u8 (b.toNat : Int)] w fun e w' => e = .returned (.int .u8 ((a ^^^ b).toNat : Int)) ∧ w = w' := by
  have h := xorV a b
  go_enter Try.func115, Try.ntmps115
  go_wp2
  go_ret
  exact ⟨rfl, rfl⟩

theorem num_any (w : World) (n : Int) : Calls Try.prog 22 #[.int .i64 n] w fun e w' => e = .returned (.int .i64 n) ∧ w = w' := by
  go_enter Try.func22, Try.ntmps22
  go_wp2
  go_ret
  exact ⟨rfl, rfl⟩

theorem double_any (w : World) (a : UInt8) : Calls Try.prog 104 #[.int .u8 (a.toNat : Int)] w fun e w' => e = .returned (.int .u8 ((xt a).toNat : Int)) ∧ w = w' := by
  have h1 : bits BinOp.and IntKind.u8 ((a.toNat : Nat) : Int) 128 = (((a &&& 128).toNat : Nat) : Int) := andV a 128
  have h2 : bits BinOp.xor IntKind.u8 (((a.toNat : Nat) : Int) * (2 : Int) % (256 : Int)) 29 = ((((a <<< 1) ^^^ 29).toNat : Nat) : Int) := by rw [shlV]; exact xorV (a <<< 1) 29
  have h3 := shlV a
  by_cases h : a &&& 128 = 0
  · have hx : xt a = a <<< 1 := by unfold xt; rw [if_pos h]
    have hb : (bits BinOp.and IntKind.u8 ((a.toNat : Nat) : Int) 128 != 0) = false := by rw [h1, h]; rfl
    have H3 := hide h3
    clear h1 h2 h3
    rw [hx]
    go_enter Try.func104, Try.ntmps104
    go_wp2
    go_ret
    exact ⟨by rw [← unhide H3]; rfl, rfl⟩
  · have hx : xt a = (a <<< 1) ^^^ 29 := by unfold xt; rw [if_neg h]
    have hb : (bits BinOp.and IntKind.u8 ((a.toNat : Nat) : Int) 128 != 0) = true := by
      rw [h1]
      simp only [bne_iff_ne, ne_eq]
      intro e
      exact h (natB.1 e)
    have H2 := hide h2
    clear h1 h2 h3
    rw [hx]
    go_enter Try.func104, Try.ntmps104
    go_wp2
    go_ret
    exact ⟨by rw [← unhide H2]; rfl, rfl⟩

theorem shr_lt {Y : UInt8} (h : Y ≠ 0) : (Y >>> 1).toNat < Y.toNat := by
  have h1 := shrV Y
  have h2 : Y.toNat ≠ 0 := fun e => h (natB.1 (by omega))
  omega

theorem gm_round (n : Nat) (S X Y : UInt8) (hn : Y.toNat < 2 ^ n) (h0 : Y ≠ 0) : ∃ m, (Y >>> 1).toNat < 2 ^ m ∧ S ^^^ gm n X Y = (if Y &&& 1 = 1 then S ^^^ X else S) ^^^ gm m (xt X) (Y >>> 1) := by
  have h1 := shrV Y
  have h2 : Y.toNat ≠ 0 := fun e => h0 (natB.1 (by omega))
  cases n with
  | zero => simp at hn; omega
  | succ n =>
    refine ⟨n, ?_, gm_step n S X Y⟩
    rw [Nat.pow_succ] at hn
    omega

set_option maxHeartbeats 400000 in
theorem mul_any (w : World) (a b : UInt8) : Calls Try.prog 63 #[.int .u8 (a.toNat : Int), .int .u8 (b.toNat : Int)] w fun e w' => e = .returned (.int .u8 ((mul a b).toNat : Int)) ∧ w = w' := by
  go_enter Try.func63, Try.ntmps63
  go_wp2_with fail
  go_loopw [0, 1, 5] (fun x y s w' => ∃ X Y S : UInt8, ∃ n : Nat, x = .int .u8 ((X.toNat : Nat) : Int) ∧ y = .int .u8 ((Y.toNat : Nat) : Int) ∧ s = .int .u8 ((S.toNat : Nat) : Int) ∧ Y.toNat < 2 ^ n ∧ mul a b = S ^^^ gm n X Y ∧ w = w') (fun _ y _ _ => (intOf y).toNat)
  case atStart => exact ⟨a, b, 0, 8, rfl, rfl, rfl, b.toNat_lt, by rw [UInt8.zero_xor]; rfl, rfl⟩
  case round =>
    obtain ⟨X, Y, S, n, rfl, rfl, rfl, hn, hm, rfl⟩ := hrel
    by_cases h0 : Y = 0
    · subst h0
      rw [gm_zero, UInt8.xor_zero] at hm
      go_wp2_with fail
      go_ret
      exact ⟨by rw [hm]; rfl, rfl⟩
    · have hY : (((Y.toNat : Nat) : Int) != 0) = true := by simp only [bne_iff_ne, ne_eq]; exact fun e => h0 (natB.1 e)
      obtain ⟨m, hm1, hm2⟩ := gm_round n S X Y hn h0
      have hlt := shr_lt h0
      have hsh := shrV Y
      have ha : bits BinOp.and IntKind.u8 ((Y.toNat : Nat) : Int) 1 = (((Y &&& 1).toNat : Nat) : Int) := andV Y 1
      have hx := xorV S X
      by_cases h1 : Y &&& 1 = 1
      · have hb : (bits BinOp.and IntKind.u8 ((Y.toNat : Nat) : Int) 1 == 1) = true := by rw [ha, h1]; rfl
        rw [if_pos h1] at hm2
        rw [hm2] at hm
        have H := hide hm
        have H1 := hide hm1
        have H2 := hide hlt
        have H3 := hide hsh
        have H4 := hide hx
        clear ha hm hn hm1 hm2 hlt hsh hx
        go_wp2_with (go_at_call 104; refine (double_any _ X).mono ?_; rintro e w' ⟨rfl, rfl⟩)
        go_roundw
        case rel => exact ⟨xt X, Y >>> 1, S ^^^ X, m, rfl, by rw [← unhide H3], by rw [← unhide H4], unhide H1, unhide H, trivial⟩
        case measure => have := unhide H2; have := unhide H3; simp [intOf]; omega
      · have hb : (bits BinOp.and IntKind.u8 ((Y.toNat : Nat) : Int) 1 == 1) = false := by
          rw [ha]
          have : ((((Y &&& 1).toNat : Nat) : Int) == ((((1 : UInt8)).toNat : Nat) : Int)) = false := by rw [eqV]; simpa using h1
          exact this
        rw [if_neg h1] at hm2
        rw [hm2] at hm
        have H := hide hm
        have H1 := hide hm1
        have H2 := hide hlt
        have H3 := hide hsh
        clear ha hm hn hm1 hm2 hlt hsh hx
        go_wp2_with (go_at_call 104; refine (double_any _ X).mono ?_; rintro e w' ⟨rfl, rfl⟩)
        go_roundw
        case rel => exact ⟨xt X, Y >>> 1, S, m, rfl, by rw [← unhide H3], rfl, unhide H1, unhide H, trivial⟩
        case measure => have := unhide H2; have := unhide H3; simp [intOf]; omega

end Go.Proofs.Ytckmddkhkdcmmaa
