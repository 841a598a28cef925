/-
  The walks of package xdr's Writer, function by function: what each call does to the writer's bytes and its error.
-/
import Derived.Test.YtmnbdpdblpgnlaaChecked
import Derived.Test.YtmnbdpdblpgnlaaMem
import Derived.KernelRfl
import Derived.Deep.RegionHeld3
import Derived.Deep.RegionLaw
import Derived.Deep.DrawnRows
namespace Go.Proofs.Ytmnbdpdblpgnlaa
open Go.RowKit
set_option linter.unusedVariables false

attribute [local go_sem ↓] Go.wp_at_zero Go.wp_at_succ

theorem Try.info5 : (Try.prog.info? 5).map (fun i => (i.zero, i.size, i.bytes)) = some (some (.int .u8 0), 1, 1) := by kernel_rfl

/-- A writer lies at block p, its bytes in block q (if any): B are the bytes, E the error. -/
def WAt (w : World) (p : Nat) (q : Option Nat) (B : List UInt8) (E : Int) : Prop :=
  ∃ v, w.heap[p]? = some (.cells #[v, .int .i64 E] 83 (0, 0)) ∧ v.ownBlock = q ∧ w.ownsRow 0 5 1 v B.length (bvs B)

/-- What a call on such a writer may turn. -/
def foot (p : Nat) (q : Option Nat) (k : Nat) : Prop := k = p ∨ q = some k

/-- A call on a writer: its own blocks alone have turned, and its bytes lie where they lay or in new memory. -/
def WSt (w w' : World) (p : Nat) (q q' : Option Nat) : Prop := Fr (foot p q) w w' ∧ ∀ k, k < w.heap.size → q' = some k → q = some k

theorem WSt.refl (w : World) (p : Nat) (q : Option Nat) : WSt w w p q q := ⟨Fr.refl _ _, fun _ _ h => h⟩
theorem WSt.trans {w w1 w2 : World} {p : Nat} {q q1 q2 : Option Nat} (h : WSt w w1 p q q1) (k : WSt w1 w2 p q1 q2) : WSt w w2 p q q2 :=
  ⟨h.1.trans k.1 (fun i hi hf => hf.elim .inl (fun e => .inr (h.2 i hi e))), fun i hi e => h.2 i hi (k.2 i (Nat.lt_of_lt_of_le hi h.1.size) e)⟩

theorem stuck_nil (w : World) : Calls Try.prog 67 #[.pointer none] w fun e w' => e = .returned (.bool true) ∧ w = w' := by
  go_enter Try.func67, Try.ntmps67
  go_wp2
  go_ret
  exact ⟨rfl, rfl⟩

theorem stuck_any (w : World) (p : Nat) (E : Int) (h : w.cell? ⟨p, 1, none⟩ = some (.int .i64 E)) : Calls Try.prog 67 #[.pointer (some ⟨p, 0, none⟩)] w fun e w' => e = .returned (.bool (E != 0)) ∧ w = w' := by
  go_enter Try.func67, Try.ntmps67
  go_wp2
  go_ret
  exact ⟨rfl, rfl⟩

theorem WAt.cell0 {w : World} {p : Nat} {v : Value} {E : Int} (h : w.heap[p]? = some (.cells #[v, .int .i64 E] 83 (0, 0))) : w.cell? ⟨p, 0, none⟩ = some v := by rw [cell_of_heap h]; rfl
theorem WAt.cell1 {w : World} {p : Nat} {v : Value} {E : Int} (h : w.heap[p]? = some (.cells #[v, .int .i64 E] 83 (0, 0))) : w.cell? ⟨p, 1, none⟩ = some (.int .i64 E) := by rw [cell_of_heap h]; rfl

/-- The writer's own block is not that of its bytes. -/
theorem WAt.apart {w : World} {p : Nat} {v : Value} {E : Int} {n : Nat} {xs : List Value} (h : w.heap[p]? = some (.cells #[v, .int .i64 E] 83 (0, 0))) (ho : w.ownsRow 0 5 1 v n xs) : ¬ v.ownBlock = some p := by
  intro e
  rcases ho.2 with ⟨rfl, _⟩ | ⟨g, cap, cur, rfl, _, hg, _⟩
  · simp [Value.ownBlock] at e
  · simp only [Value.ownBlock, Option.some.injEq] at e
    subst e
    rw [hg] at h
    simp at h

theorem heap_setCell_two {w : World} {p : Nat} {a b u : Value} {e : TypeId} (h : w.heap[p]? = some (.cells #[a, b] e (0, 0))) : (w.setCell ⟨p, 0, none⟩ u).heap[p]? = some (.cells #[u, b] e (0, 0)) :=
  heap_setCell_same w p 0 #[a, b] e u h
theorem heap_setCell_two1 {w : World} {p : Nat} {a b u : Value} {e : TypeId} (h : w.heap[p]? = some (.cells #[a, b] e (0, 0))) : (w.setCell ⟨p, 1, none⟩ u).heap[p]? = some (.cells #[a, u] e (0, 0)) :=
  heap_setCell_same w p 1 #[a, b] e u h

/-- Behind an append to the writer's bytes: where the writer lies all is as it was. -/
theorem WAt.behind {w w1 w' : World} {p : Nat} {v : Value} {E : Int} {n : Nat} {xs : List Value} (hp : w.heap[p]? = some (.cells #[v, .int .i64 E] 83 (0, 0))) (hown : w.ownsRow 0 5 1 v n xs)
    (f : Fr (fun _ => False) w w1) (hg : w1.grownBy w' v.ownBlock) : w'.heap[p]? = some (.cells #[v, .int .i64 E] 83 (0, 0)) := by
  have hlt := lt_of_heap hp
  rw [hg.block p (Nat.lt_of_lt_of_le hlt f.size) (fun e => WAt.apart hp hown e.symm), f.block p hlt id]
  exact hp

/-- Behind an append to the writer's bytes and the store into the writer. -/
theorem WAt.laid {w w1 w' : World} {p : Nat} {v v' : Value} {E : Int} {n : Nat} {xs : List Value} {B' : List UInt8} {m : Nat} (hp : w.heap[p]? = some (.cells #[v, .int .i64 E] 83 (0, 0))) (hown : w.ownsRow 0 5 1 v n xs)
    (f : Fr (fun _ => False) w w1) (hg : w1.grownBy w' v.ownBlock) (ho : w'.ownsRow 0 5 1 v' m (bvs B')) (hm : m = B'.length) (hpl : v'.ownBlock = v.ownBlock ∨ ∃ k, v'.ownBlock = some k ∧ w.heap.size ≤ k) :
    WAt (w'.setCell ⟨p, 0, none⟩ v') p v'.ownBlock B' E ∧ WSt w (w'.setCell ⟨p, 0, none⟩ v') p v.ownBlock v'.ownBlock := by
  subst hm
  have hb := WAt.behind hp hown f hg
  have hne : ¬ v'.ownBlock = some p := by
    rcases hpl with e | ⟨k, e, hk⟩
    · rw [e]; exact WAt.apart hp hown
    · rw [e]
      have := lt_of_heap hp
      simp; omega
  refine ⟨⟨v', heap_setCell_two hb, rfl, ?_⟩, ?_, fun k hk e => ?_⟩
  · refine ho.kept (row := some p) ⟨rfl, rfl, rfl, by simp [World.setCell], fun k _ h => Below.heap_setCell _ _ _ _ (fun e => h (by simp [e]))⟩ (.inr hne)
  · have f1 : Fr (foot p v.ownBlock) w w' := (f.mono (T := foot p v.ownBlock) (fun _ _ h => h.elim)).grown hg (fun k _ e => .inr e)
    exact f1.setCell (fun _ => .inl rfl) _
  · rcases hpl with e' | ⟨k', e', hk'⟩
    · rw [← e']; exact e
    · rw [e'] at e
      simp only [Option.some.injEq] at e
      omega

/-- The four bytes of a number. -/
def be32 (n : Int) : List UInt8 := [UInt8.ofNat (n / 16777216 % 256).toNat, UInt8.ofNat (n / 65536 % 256).toNat, UInt8.ofNat (n / 256 % 256).toNat, UInt8.ofNat (n % 256).toNat]

theorem ofNat_byte (x : Int) (h : 0 ≤ x) (h2 : x < 256) : (((UInt8.ofNat x.toNat).toNat : Nat) : Int) = x := by
  rw [UInt8.toNat_ofNat']; omega

theorem bvs_be32 (n : Int) (hn : 0 ≤ n ∧ n < 4294967296) : bvs (be32 n) = [Value.int IntKind.u8 (n / 16777216), Value.int IntKind.u8 (n / 65536 % 256), Value.int IntKind.u8 (n / 256 % 256), Value.int IntKind.u8 (n % 256)] := by
  simp only [bvs, be32, List.map_cons, List.map_nil]
  rw [ofNat_byte _ (by omega) (by omega), ofNat_byte _ (by omega) (by omega), ofNat_byte _ (by omega) (by omega), ofNat_byte _ (by omega) (by omega)]
  rw [Int.emod_eq_of_lt (a := n / 16777216) (by omega) (by omega)]

/-- Four new cells. -/
theorem cell_four_new (w : World) (a b c d : Value) (e : TypeId) : ∀ j u, [a, b, c, d][j]? = some u → (w.alloc (Obj.cells #[a, b, c, d] e)).cell? ((⟨w.heap.size, 0, none⟩ : Addr).add j) = some u := by
  intro j u hu
  rw [Addr.add_lit, Nat.zero_add, cell_of_heap (heap_alloc_new w _) j]
  simpa using hu

set_option maxHeartbeats 400000 in
set_option maxRecDepth 100000 in
theorem uint_ok (w : World) (p : Nat) (q : Option Nat) (B : List UInt8) (n : Int) (h : WAt w p q B 0) (hn : 0 ≤ n ∧ n < 4294967296) (hB : B.length + 4 ≤ 140737488355328) :
    Calls Try.prog 24 #[.pointer (some ⟨p, 0, none⟩), .int .u32 n] w fun e w' => e = .returned (.tuple #[]) ∧ ∃ q', WAt w' p q' (B ++ be32 n) 0 ∧ WSt w w' p q q' := by
  obtain ⟨v, hp, hq, hown⟩ := h
  subst hq
  have c0 := WAt.cell0 hp
  have c1 := WAt.cell1 hp
  have hlt := lt_of_heap hp
  obtain ⟨i, hi, hz0, hz1, hz2⟩ := info_parts Try.info5
  go_enter Try.func24, Try.ntmps24
  go_wp2_with (first | (go_at_call 67; refine (stuck_any _ _ 0 c1).mono ?_; rintro e w' ⟨rfl, rfl⟩) | (at_builtin; refine wpList_app rfl (.tmp 10) (.tmp 22) 28 rfl 5 i _ 1 1 Try.underlying28 hi hz0 hz1 hz2 rfl (by decide) v B.length (bvs B) rfl _ rfl 4 (bvs (be32 n)) ?hown ?hx ?h1 ?hb ?h63 ?hK))
  case hown => exact hown.alloc _
  case hx => rw [bvs_be32 n hn]; exact .inr ⟨_, _, rfl, rfl, cell_four_new _ _ _ _ _ _⟩
  case h1 => exact bvs_one _
  case hb => omega
  case h63 => simp only [maxLen]; omega
  case hK =>
    intro ao cap w' ho hg hpl
    have f : Fr (fun _ => False) w (w.alloc (Obj.cells #[Value.int IntKind.u8 (n / 16777216), Value.int IntKind.u8 (n / 65536 % 256), Value.int IntKind.u8 (n / 256 % 256), Value.int IntKind.u8 (n % 256)] 5)) := (Fr.refl _ _).alloc _
    have hb := WAt.behind hp hown f hg
    have L := WAt.laid (B' := B ++ be32 n) hp hown f hg (by rw [bvs_append]; exact ho) (by simp [be32]) (by rcases hpl with e | ⟨k, e, hk⟩; exact .inl e; exact .inr ⟨k, e, by omega⟩)
    have c0' := WAt.cell0 hb
    have z0' := frozen_of_heap hb 0
    clear hp c0 c1 hb hown ho hg hpl f
    go_wp2
    go_end0
    exact ⟨rfl, _, L.1, L.2⟩

set_option maxHeartbeats 400000 in
theorem uint_er (w : World) (p : Nat) (q : Option Nat) (B : List UInt8) (E : Int) (n : Int) (h : WAt w p q B E) (hE : E ≠ 0) :
    Calls Try.prog 24 #[.pointer (some ⟨p, 0, none⟩), .int .u32 n] w fun e w' => e = .returned (.tuple #[]) ∧ w = w' := by
  obtain ⟨v, hp, hq, hown⟩ := h
  have c1 := WAt.cell1 hp
  have hb : (E != 0) = true := by simpa using hE
  clear hp hq hown
  go_enter Try.func24, Try.ntmps24
  go_wp2_with (go_at_call 67; refine (stuck_any _ _ E c1).mono ?_; rintro e w' ⟨rfl, rfl⟩)
  exact bodyPost_ret (results_none rfl _ _ _) rfl ⟨rfl, rfl⟩

theorem uint_nil (w : World) (n : Int) : Calls Try.prog 24 #[.pointer none, .int .u32 n] w fun e w' => e = .returned (.tuple #[]) ∧ w = w' := by
  go_enter Try.func24, Try.ntmps24
  go_wp2_with (go_at_call 67; refine (stuck_nil _).mono ?_; rintro e w' ⟨rfl, rfl⟩)
  exact bodyPost_ret (results_none rfl _ _ _) rfl ⟨rfl, rfl⟩

/-- What is laid behind B: nothing if there is an error. -/
def lay (E : Int) (B l : List UInt8) : List UInt8 := if E = 0 then B ++ l else B

theorem lay_lay (E : Int) (B l m : List UInt8) : lay E (lay E B l) m = lay E B (l ++ m) := by
  unfold lay; split <;> simp

theorem lay_len (E : Int) (B l : List UInt8) : (lay E B l).length ≤ B.length + l.length := by
  unfold lay; split <;> simp

theorem uint_any (w : World) (p : Nat) (q : Option Nat) (B : List UInt8) (E : Int) (n : Int) (h : WAt w p q B E) (hn : 0 ≤ n ∧ n < 4294967296) (hB : B.length + 4 ≤ 140737488355328) :
    Calls Try.prog 24 #[.pointer (some ⟨p, 0, none⟩), .int .u32 n] w fun e w' => e = .returned (.tuple #[]) ∧ ∃ q', WAt w' p q' (lay E B (be32 n)) E ∧ WSt w w' p q q' := by
  by_cases hE : E = 0
  · subst hE
    exact uint_ok w p q B n h hn hB
  · refine (uint_er w p q B E n h hE).mono ?_
    rintro e w' ⟨rfl, rfl⟩
    refine ⟨rfl, q, ?_, WSt.refl _ _ _⟩
    unfold lay; rw [if_neg hE]; exact h

theorem int_any (w : World) (p : Nat) (q : Option Nat) (B : List UInt8) (E : Int) (n : Int) (h : WAt w p q B E) (hn : -2147483648 ≤ n ∧ n < 2147483648) (hB : B.length + 4 ≤ 140737488355328) :
    Calls Try.prog 25 #[.pointer (some ⟨p, 0, none⟩), .int .i32 n] w fun e w' => e = .returned (.tuple #[]) ∧ ∃ q', WAt w' p q' (lay E B (be32 (n % 4294967296))) E ∧ WSt w w' p q q' := by
  go_enter Try.func25, Try.ntmps25
  go_wp2_with (go_at_call 24; refine (uint_any w p q B E _ h (by omega) hB).mono ?_; rintro e w' ⟨rfl, h'⟩)
  go_end0
  exact ⟨rfl, h'⟩

theorem bool_any (w : World) (p : Nat) (q : Option Nat) (B : List UInt8) (E : Int) (b : Bool) (h : WAt w p q B E) (hB : B.length + 4 ≤ 140737488355328) :
    Calls Try.prog 27 #[.pointer (some ⟨p, 0, none⟩), .bool b] w fun e w' => e = .returned (.tuple #[]) ∧ ∃ q', WAt w' p q' (lay E B (be32 (if b then 1 else 0))) E ∧ WSt w w' p q q' := by
  cases b
  · go_enter Try.func27, Try.ntmps27
    go_wp2_with (go_at_call 24; refine (uint_any w p q B E _ h (by omega) hB).mono ?_; rintro e w' ⟨rfl, h'⟩)
    go_end0
    exact ⟨rfl, h'⟩
  · go_enter Try.func27, Try.ntmps27
    go_wp2_with (go_at_call 24; refine (uint_any w p q B E _ h (by omega) hB).mono ?_; rintro e w' ⟨rfl, h'⟩)
    exact bodyPost_ret (results_none rfl _ _ _) rfl ⟨rfl, h'⟩

theorem hyper_any (w : World) (p : Nat) (q : Option Nat) (B : List UInt8) (E : Int) (n : Int) (h : WAt w p q B E) (hn : 0 ≤ n ∧ n < 18446744073709551616) (hB : B.length + 8 ≤ 140737488355328) :
    Calls Try.prog 26 #[.pointer (some ⟨p, 0, none⟩), .int .u64 n] w fun e w' => e = .returned (.tuple #[]) ∧ ∃ q', WAt w' p q' (lay E B (be32 (n / 4294967296) ++ be32 (n % 4294967296))) E ∧ WSt w w' p q q' := by
  have hl := lay_len E B (be32 (n / 4294967296))
  have hl2 : (be32 (n / 4294967296)).length = 4 := rfl
  go_enter Try.func26, Try.ntmps26
  go_wp2_with fail
  refine (uint_any w p q B E _ h (by omega) (by omega)).mono ?_
  rintro e w1 ⟨rfl, q1, h1, s1⟩
  go_wp2_with fail
  refine (uint_any w1 p q1 _ E _ h1 (by omega) (by omega)).mono ?_
  rintro e w2 ⟨rfl, q2, h2, s2⟩
  go_wp2
  go_end0
  exact ⟨rfl, q2, by rw [← lay_lay]; exact h2, s1.trans s2⟩

theorem and3 (n : Nat) (hn : n ≤ 9223372036854775807) : bits BinOp.and IntKind.i64 (-(n : Int)) 3 = (((4 - n % 4) % 4 : Nat) : Int) := by
  show IntKind.i64.wrap ((BitVec.ofInt 64 (-(n : Int)) &&& BitVec.ofInt 64 3).toNat : Int) = _
  rw [BitVec.toNat_and, show (BitVec.ofInt 64 3).toNat = 3 from rfl, nat_mask2, BitVec.toNat_ofInt]
  have e : ((-(n : Int)) % ((2 ^ 64 : Nat) : Int)).toNat % 4 = (4 - n % 4) % 4 := by omega
  rw [e]
  have hl : (4 - n % 4) % 4 < 4 := Nat.mod_lt _ (by omega)
  simp only [IntKind.wrap, IntKind.bits, IntKind.signed]
  simp
  omega

theorem padding_any (w : World) (n : Nat) (hn : n ≤ maxLen) : Calls Try.prog 68 #[.int .i64 (n : Int)] w fun e w' => e = .returned (.int .i64 (((4 - n % 4) % 4 : Nat) : Int)) ∧ w = w' := by
  unfold maxLen at hn
  go_enter Try.func68, Try.ntmps68
  go_wp2
  go_ret
  exact ⟨by rw [and3 n (by omega)]; rfl, rfl⟩

/-- Zeros up to a multiple of four. -/
def pad (n : Nat) : List UInt8 := List.replicate ((4 - n % 4) % 4) 0

set_option maxHeartbeats 400000 in
set_option maxRecDepth 100000 in
theorem fixed_ok (w : World) (p : Nat) (q : Option Nat) (B : List UInt8) (x : Value) (l : List UInt8) (h : WAt w p q B 0) (hx : Rd w x l) (hB : B.length + l.length + 4 ≤ 140737488355328) :
    Calls Try.prog 29 #[.pointer (some ⟨p, 0, none⟩), x] w fun e w' => e = .returned (.tuple #[]) ∧ ∃ q', WAt w' p q' (B ++ (l ++ pad l.length)) 0 ∧ WSt w w' p q q' := by
  obtain ⟨v, hp, hq, hown⟩ := h
  subst hq
  have c0 := WAt.cell0 hp
  have c1 := WAt.cell1 hp
  have hlt := lt_of_heap hp
  have hll := hx.len
  obtain ⟨ao0, cap0, rfl⟩ := hx.shape
  obtain ⟨i, hi, hz0, hz1, hz2⟩ := info_parts Try.info5
  go_enter Try.func29, Try.ntmps29
  go_wp2_with (first | (go_at_call 67; refine (stuck_any _ _ 0 c1).mono ?_; rintro e w' ⟨rfl, rfl⟩) | (at_builtin; refine wpList_app rfl (.tmp 11) (.tmp 12) 28 rfl 5 i _ 1 1 Try.underlying28 hi hz0 hz1 hz2 rfl (by decide) v B.length (bvs B) rfl _ rfl l.length (bvs l) ?hown ?hx ?h1 ?hb ?h63 ?hK))
  case hown => exact hown.alloc _
  case hx => exact (hx.kept ((Fr.refl (fun _ => False) w).alloc _) (fun _ _ h => h)).sr
  case h1 => exact bvs_one _
  case hb => omega
  case h63 => simp only [maxLen]; omega
  case hK =>
    intro ao cap w1 ho hg hpl
    have f : Fr (fun _ => False) w (w.alloc (Obj.cells #[Value.int IntKind.u8 0, Value.int IntKind.u8 0, Value.int IntKind.u8 0, Value.int IntKind.u8 0] 91)) := (Fr.refl _ _).alloc _
    have hb := WAt.behind hp hown f hg
    have L := WAt.laid (B' := B ++ l) hp hown f hg (by rw [bvs_append]; exact ho) (by simp) (by rcases hpl with e | ⟨k, e, hk⟩; exact .inl e; exact .inr ⟨k, e, by omega⟩)
    have c0' := WAt.cell0 hb
    have z0' := frozen_of_heap hb 0
    have hzz : w1.heap[w.heap.size]? = some (Obj.cells #[Value.int IntKind.u8 0, Value.int IntKind.u8 0, Value.int IntKind.u8 0, Value.int IntKind.u8 0] 91 (0, 0)) := by
      rw [hg.block w.heap.size (by simp) (fun e => by have := (hown.lt w.heap.size e.symm).2; omega)]
      exact heap_alloc_new w _
    have hzp : ¬ w.heap.size = p := by omega
    clear hp c0 c1 hb hown ho hg hpl f hx
    go_wp2
    obtain ⟨⟨v2, hp2, hq2, hown2⟩, st2⟩ := L
    have hzz2 : (w1.setCell ⟨p, 0, none⟩ (Value.slice ao (B.length + l.length) cap)).heap[w.heap.size]? = some (Obj.cells #[Value.int IntKind.u8 0, Value.int IntKind.u8 0, Value.int IntKind.u8 0, Value.int IntKind.u8 0] 91 (0, 0)) := by
      rw [Below.heap_setCell _ _ _ _ hzp]; exact hzz
    clear hzz c0' z0'
    generalize w1.setCell ⟨p, 0, none⟩ (Value.slice ao (B.length + l.length) cap) = w2 at *
    obtain ⟨ao2, cap2, rfl⟩ := owns_shape hown2
    have d0 := WAt.cell0 hp2
    have y0 := frozen_of_heap hp2 0
    have hlen2 : (B ++ l).length = B.length + l.length := by simp
    obtain ⟨pd, hpd, hpd4, hcon⟩ : ∃ pd, (4 - l.length % 4) % 4 = pd ∧ pd < 4 ∧ ∀ wx, Calls Try.prog 68 #[.int .i64 (l.length : Int)] wx fun e w' => e = .returned (.int .i64 (pd : Int)) ∧ wx = w' :=
      ⟨_, rfl, Nat.mod_lt _ (by omega), fun wx => padding_any wx l.length hll⟩
    have HC := hide hcon
    have hpp : pad l.length = List.replicate pd 0 := by unfold pad; rw [hpd]
    have b0 : (0 : Int) ≤ (pd : Int) := by omega
    have b4 : (pd : Int) ≤ 4 := by omega
    have hsr : Sr w2.drew 1 (.slice (some ⟨w.heap.size, 0, none⟩) pd 4) pd (bvs (pad l.length)) := by
      refine .inr ⟨_, _, rfl, by simp [bvs_length, hpp], fun j u hu => ?_⟩
      rw [hpp] at hu
      have hj : j < pd := by
        have := (List.getElem?_eq_some_iff.1 hu).1
        simpa [bvs_length] using this
      rw [bvs_get _ _ (by simpa using hj)] at hu
      simp at hu
      subst hu
      rw [Addr.add_lit, Nat.zero_add]
      show w2.cell? _ = _
      rw [cell_of_heap hzz2]
      rcases j with _ | _ | _ | _ | j
      · rfl
      · rfl
      · rfl
      · rfl
      · omega
    rw [hlen2] at hown2 hp2 d0
    have kb : ∀ w3 : World, w2.drew.grownBy w3 (Value.slice ao2 (B.length + l.length) cap2).ownBlock → w3.heap[p]? = some (.cells #[Value.slice ao2 (B.length + l.length) cap2, .int .i64 0] 83 (0, 0)) :=
      fun w3 hg => WAt.behind hp2 hown2 (Fr.refl _ _).drew hg
    have HK := hide kb
    have HP := hide hpp
    have HL := hide hlen2
    have HW := hide hp2
    have HO := hide hown2
    have HS := hide hsr
    clear hcon hpp hpd hlen2 hzz2 hp2 hown2 hsr kb
    go_region_law ((first | (refine step_app rfl (.tmp 20) (.tmp 24) 28 rfl 5 i _ 1 1 Try.underlying28 hi hz0 hz1 hz2 rfl (by decide) (.slice ao2 (B.length + l.length) cap2) (B.length + l.length) (bvs (B ++ l)) (by rfl) _ (by rfl) pd (bvs (pad l.length)) (by exact unhide HO) (by exact unhide HS) (bvs_one _) (by omega) (by simp only [maxLen]; omega) ?_; intro ao3 cap3 w3 ho3 hg3 hpl3; have y3 := frozen_of_heap (unhide HK _ hg3) 0; have x3 := WAt.cell0 (unhide HK _ hg3)) | (go_simp; go_at_call 68; refine (unhide HC _).mono ?_; rintro e w' ⟨rfl, rfl⟩; dsimp only)))
    all_goals
      go_end0
      have L3 := WAt.laid (B' := (B ++ l) ++ pad l.length) (unhide HW) (unhide HO) (Fr.refl _ _).drew hg3 (by rw [bvs_append (B ++ l)]; exact ho3) (by rw [unhide HP]; simp; omega) (by rcases hpl3 with e | ⟨k, e, hk⟩; exact .inl e; exact .inr ⟨k, e, hk⟩)
      rw [unhide HL] at hq2
      rw [← hq2] at st2
      exact ⟨rfl, _, by rw [← List.append_assoc]; exact L3.1, st2.trans L3.2⟩

set_option maxHeartbeats 400000 in
theorem fixed_er (w : World) (p : Nat) (E : Int) (x : Value) (h : w.cell? ⟨p, 1, none⟩ = some (.int .i64 E)) (hE : E ≠ 0) :
    Calls Try.prog 29 #[.pointer (some ⟨p, 0, none⟩), x] w fun e w' => e = .returned (.tuple #[]) ∧ w = w' := by
  have hb : (E != 0) = true := by simpa using hE
  go_enter Try.func29, Try.ntmps29
  go_wp2_with (go_at_call 67; refine (stuck_any _ _ E h).mono ?_; rintro e w' ⟨rfl, rfl⟩)
  exact bodyPost_ret (results_none rfl _ _ _) rfl ⟨rfl, rfl⟩

theorem fixed_nil (w : World) (x : Value) : Calls Try.prog 29 #[.pointer none, x] w fun e w' => e = .returned (.tuple #[]) ∧ w = w' := by
  go_enter Try.func29, Try.ntmps29
  go_wp2_with (go_at_call 67; refine (stuck_nil _).mono ?_; rintro e w' ⟨rfl, rfl⟩)
  exact bodyPost_ret (results_none rfl _ _ _) rfl ⟨rfl, rfl⟩

theorem fixed_any (w : World) (p : Nat) (q : Option Nat) (B : List UInt8) (E : Int) (x : Value) (l : List UInt8) (h : WAt w p q B E) (hx : Rd w x l) (hB : B.length + l.length + 4 ≤ 140737488355328) :
    Calls Try.prog 29 #[.pointer (some ⟨p, 0, none⟩), x] w fun e w' => e = .returned (.tuple #[]) ∧ ∃ q', WAt w' p q' (lay E B (l ++ pad l.length)) E ∧ WSt w w' p q q' := by
  by_cases hE : E = 0
  · subst hE
    exact fixed_ok w p q B x l h hx hB
  · obtain ⟨v, hp, _⟩ := id h
    refine (fixed_er w p E x (WAt.cell1 hp) hE).mono ?_
    rintro e w' ⟨rfl, rfl⟩
    refine ⟨rfl, q, ?_, WSt.refl _ _ _⟩
    unfold lay; rw [if_neg hE]; exact h

/-- length: what follows may be laid. -/
theorem wlength_ok (w : World) (p : Nat) (q : Option Nat) (B : List UInt8) (n : Nat) (most : Int) (h : WAt w p q B 0) (hn : n < 4294967296) (hm : (n : Int) ≤ most) (hB : B.length + 4 ≤ 140737488355328) :
    Calls Try.prog 69 #[.pointer (some ⟨p, 0, none⟩), .int .i64 (n : Int), .int .i64 most] w fun e w' => e = .returned (.bool true) ∧ ∃ q', WAt w' p q' (B ++ be32 (n : Int)) 0 ∧ WSt w w' p q q' := by
  obtain ⟨v, hp, _⟩ := id h
  have c1 := WAt.cell1 hp
  have hm' : ¬ most < (n : Int) := by omega
  clear hp
  go_enter Try.func69, Try.ntmps69
  go_wp2_with (first | (go_at_call 67; refine (stuck_any _ _ 0 c1).mono ?_; rintro e w' ⟨rfl, rfl⟩) | (go_at_call 24; refine (uint_ok w p q B _ h (by omega) hB).mono ?_; rintro e w' ⟨rfl, h'⟩))
  go_ret
  exact ⟨rfl, h'⟩

theorem wlength_long (w : World) (p : Nat) (q : Option Nat) (B : List UInt8) (n : Nat) (most : Int) (h : WAt w p q B 0) (hm : most < (n : Int)) :
    Calls Try.prog 69 #[.pointer (some ⟨p, 0, none⟩), .int .i64 (n : Int), .int .i64 most] w fun e w' => e = .returned (.bool false) ∧ WAt w' p q B 1 ∧ WSt w w' p q q := by
  obtain ⟨v, hp, hq, hown⟩ := id h
  have c1 := WAt.cell1 hp
  have z1 := frozen_of_heap hp 1
  have HW := hide hp
  have HO := hide hown
  clear hp hown
  go_enter Try.func69, Try.ntmps69
  go_wp2_with (first | (go_at_call 67; refine (stuck_any _ _ 0 c1).mono ?_; rintro e w' ⟨rfl, rfl⟩))
  go_ret
  have hap := WAt.apart (unhide HW) (unhide HO)
  refine ⟨rfl, ⟨v, heap_setCell_two1 (unhide HW), hq, ?_⟩, (Fr.refl _ _).setCell (fun _ => .inl rfl) _, fun _ _ h => h⟩
  exact (unhide HO).kept (row := some p) ⟨rfl, rfl, rfl, by simp [World.setCell], fun k _ h => Below.heap_setCell _ _ _ _ (fun e => h (by simp [e]))⟩ (.inr hap)

theorem wlength_er (w : World) (p : Nat) (E : Int) (n most : Int) (h : w.cell? ⟨p, 1, none⟩ = some (.int .i64 E)) (hE : E ≠ 0) :
    Calls Try.prog 69 #[.pointer (some ⟨p, 0, none⟩), .int .i64 n, .int .i64 most] w fun e w' => e = .returned (.bool false) ∧ w = w' := by
  have hb : (E != 0) = true := by simpa using hE
  go_enter Try.func69, Try.ntmps69
  go_wp2_with (go_at_call 67; refine (stuck_any _ _ E h).mono ?_; rintro e w' ⟨rfl, rfl⟩)
  go_ret
  exact ⟨rfl, rfl⟩

theorem wlength_nil (w : World) (n most : Int) : Calls Try.prog 69 #[.pointer none, .int .i64 n, .int .i64 most] w fun e w' => e = .returned (.bool false) ∧ w = w' := by
  go_enter Try.func69, Try.ntmps69
  go_wp2_with (go_at_call 67; refine (stuck_nil _).mono ?_; rintro e w' ⟨rfl, rfl⟩)
  go_ret
  exact ⟨rfl, rfl⟩

end Go.Proofs.Ytmnbdpdblpgnlaa
