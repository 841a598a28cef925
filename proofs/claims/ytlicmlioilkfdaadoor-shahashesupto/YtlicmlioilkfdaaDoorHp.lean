/-
  For the law ShaHashes: a list of steps as it comes, and the walk of the law's own 'huge'; bytes that are spoilt; kinds of operations.
-/
import Derived.Test.YtlicmlioilkfdaaDoorR8
import Derived.Test.YtlicmlioilkfdaaDoorP4
import Derived.Test.YtlicmlioilkfdaaDoorLv
namespace Go.Proofs.YtlicmlioilkfdaaDoor
open Go.RowKit
set_option linter.unusedVariables false
set_option linter.unusedSimpArgs false

attribute [local go_sem ↓] Go.wp_at_zero Go.wp_at_succ

/-- A step, plainly, with the value of its slice. -/
structure Sp where
  kind : Int
  pv : Value
  lp : List UInt8

instance : Inhabited Sp := ⟨⟨0, .slice none 0 0, []⟩⟩

def Sp.cells (s : Sp) : List Value := [.int .i64 s.kind, s.pv]

structure Sp.Ok (w : World) (s : Sp) : Prop where
  rp : Rd w s.pv s.lp
  zp : s.lp.length ≤ 1048576

theorem Sp.Ok.kept {w w' : World} {s : Sp} (h : s.Ok w) (f : Fr (fun _ => False) w w') : s.Ok w' := ⟨h.rp.kept f (fun _ _ h => h), h.zp⟩

/-- A list of steps that can be read. -/
def RdS (w : World) (v : Value) (ss : List Sp) : Prop :=
  (v = .slice none 0 0 ∧ ss = []) ∨
  ∃ ad cap, v = .slice (some ad) ss.length cap ∧ ss.length ≤ cap ∧ cap ≤ maxLen ∧ ∀ j (h : j < ss.length), (∀ i (hi : i < 2), w.cell? (ad.add (j * 2 + i)) = some ((ss[j]).cells[i]'(by simpa [Sp.cells] using hi))) ∧ (ss[j]).Ok w

theorem RdS.kept {w w' : World} {v : Value} {ss : List Sp} (h : RdS w v ss) (f : Fr (fun _ => False) w w') : RdS w' v ss := by
  rcases h with h | ⟨ad, cap, h1, h2, h3, h4⟩
  · exact .inl h
  · refine .inr ⟨ad, cap, h1, h2, h3, fun j hj => ⟨fun i hi => ?_, ((h4 j hj).2).kept f⟩⟩
    rw [f.cell (World.block_lt_of_cell? w _ ((h4 j hj).1 i hi)) id]
    exact (h4 j hj).1 i hi

theorem RdS.shape {w : World} {v : Value} {ss : List Sp} (h : RdS w v ss) : ∃ ao cap, v = .slice ao ss.length cap := by
  rcases h with ⟨rfl, rfl⟩ | ⟨ad, cap, rfl, _⟩
  · exact ⟨_, _, rfl⟩
  · exact ⟨_, _, rfl⟩

theorem RdS.len {w : World} {v : Value} {ss : List Sp} (h : RdS w v ss) : ss.length ≤ maxLen := by
  rcases h with ⟨_, rfl⟩ | ⟨ad, cap, rfl, h1, h2, h3⟩
  · simp
  · omega

theorem RdS.lits {w : World} {ao : Option Addr} {n cap : Nat} {ss : List Sp} (h : RdS w (.slice ao n cap) ss) (hl : 0 < ss.length) : ∃ b o, ao = some ⟨b, o, none⟩ ∧ n = ss.length ∧ n ≤ cap ∧ cap ≤ maxLen ∧ b < w.heap.size ∧
    ∀ j (h : j < ss.length), w.cell? ⟨b, o + j * 2, none⟩ = some (.int .i64 (ss[j]).kind) ∧ w.cell? ⟨b, o + j * 2 + 1, none⟩ = some (ss[j]).pv ∧ (ss[j]).Ok w := by
  rcases h with ⟨_, rfl⟩ | ⟨ad, cap', hv, h1, h2, h3⟩
  · simp at hl
  · simp only [Value.slice.injEq] at hv
    obtain ⟨rfl, rfl, rfl⟩ := hv
    obtain ⟨b, off, spot⟩ := ad
    have hspot : spot = none := by simpa [Addr.add] using World.cell?_spot ((h3 0 hl).1 0 (by omega))
    subst hspot
    refine ⟨b, off, rfl, rfl, h1, h2, ?_, fun j hj => ⟨?_, ?_, (h3 j hj).2⟩⟩
    · have := World.block_lt_of_cell? w _ ((h3 0 hl).1 0 (by omega)); rwa [add_block] at this
    · have := (h3 j hj).1 0 (by omega); rw [Addr.add_lit] at this; exact this
    · have := (h3 j hj).1 1 (by omega); rw [Addr.add_lit, ← Nat.add_assoc] at this; exact this

/-- How many bytes the first k steps have. -/
def bulk (ss : List Sp) (k : Nat) : Nat := ((ss.take k).map fun s => s.lp.length).sum

theorem bulk_succ (ss : List Sp) (k : Nat) (h : k < ss.length) : bulk ss (k + 1) = bulk ss k + (ss[k]).lp.length := by
  unfold bulk
  rw [List.take_add_one, List.getElem?_eq_getElem h, List.map_append, List.sum_append]
  simp only [Option.toList, List.map_cons, List.map_nil, List.sum_cons, List.sum_nil, Nat.add_zero]

theorem bulk_mono (ss : List Sp) (k m : Nat) (h : m ≤ ss.length) : k ≤ m → bulk ss k ≤ bulk ss m := by
  intro hk
  induction m with
  | zero => have : k = 0 := by omega
            subst this; exact Nat.le_refl _
  | succ m ih =>
    by_cases e : k = m + 1
    · subst e; exact Nat.le_refl _
    · rw [bulk_succ ss m (by omega)]
      have := ih (by omega) (by omega)
      omega

theorem bulk_each (ss : List Sp) (k : Nat) (h : k < ss.length) : (ss[k]).lp.length ≤ bulk ss ss.length := by
  have h1 := bulk_mono ss (k + 1) ss.length (Nat.le_refl _) (by omega)
  rw [bulk_succ ss k h] at h1
  omega

/-- What 'huge' answers: if not, there are few steps, with few bytes. -/
def hugeB (ss : List Sp) (b : Bool) : Prop := b = false → ss.length ≤ 60 ∧ bulk ss ss.length ≤ 9000
def HugeSaid (w w' : World) (ss : List Sp) (e : Ending) : Prop := ∃ b, e = .returned (.bool b) ∧ w = w' ∧ hugeB ss b

set_option maxHeartbeats 1000000 in
set_option maxRecDepth 100000 in
theorem huge_any (w : World) (x : Value) (ss : List Sp) (hx : RdS w x ss) : Calls Tryd.prog 17 #[x] w fun e w' => HugeSaid w w' ss e := by
  have hlm := hx.len
  unfold maxLen at hlm
  obtain ⟨ao, cap, rfl⟩ := hx.shape
  have HX := hide hx
  clear hx
  go_enter Tryd.func17, Tryd.ntmps17
  go_wp2_with fail
  go_loopw [3, 4] (fun n i w' => ∃ k : Nat, k ≤ ss.length ∧ k ≤ 61 ∧ i = .int .i64 k ∧ n = .int .i64 ((bulk ss k : Nat) : Int) ∧ bulk ss k ≤ k * 1048576 ∧ Hid (w = w')) (fun _ i _ => ss.length - (intOf i).toNat)
  case atStart => exact ⟨0, Nat.zero_le _, by omega, rfl, rfl, Nat.le_refl _, hide rfl⟩
  case round =>
    obtain ⟨k, hk, hk61, rfl, rfl, hm, hw⟩ := hrel
    obtain rfl := unhide hw
    clear hw
    by_cases hlt : k < ss.length
    · by_cases hk60 : k ≤ 60
      · obtain ⟨b, o, rfl, -, hnc, hcm, -, hcell⟩ := (unhide HX).lits (by omega)
        obtain ⟨c0, c1, hok⟩ := hcell k hlt
        have zp := hok.zp
        obtain ⟨a1, p1, e1⟩ := hok.rp.shape
        rw [e1] at c1
        have hbs := bulk_succ ss k hlt
        generalize (ss[k]).lp.length = P at *
        generalize bulk ss k = m at *
        have HBS := hide hbs
        have HZ : Hid (m + P ≤ (k + 1) * 1048576) := by show m + P ≤ (k + 1) * 1048576; omega
        unfold maxLen at hcm
        have w1 : IntKind.i64.wrap ((m : Int) + (P : Int)) = (m : Int) + (P : Int) := by rw [IntKind.wrap_i64]; omega
        have hlti : (k : Int) < (ss.length : Int) := by omega
        have hk6 : (k : Int) ≤ 60 := by omega
        clear hcell hok e1 c0 hbs
        go_wp2_with fail
        go_roundw
        case rel => exact ⟨k + 1, by omega, by omega, by go_num, by rw [unhide HBS]; go_num, by rw [unhide HBS]; exact unhide HZ, hide (by trivial)⟩
        case measure => simp [intOf]; omega
      · have hk6 : ¬ (k : Int) ≤ 60 := by omega
        have hl6 : (60 : Int) < (ss.length : Int) := by omega
        have hlti : (k : Int) < (ss.length : Int) := by omega
        go_wp2_with fail
        go_ret
        exact ⟨true, rfl, rfl, fun h => by simp at h⟩
    · have hlti : ¬ (k : Int) < (ss.length : Int) := by omega
      have hke : k = ss.length := by omega
      subst hke
      by_cases h60 : ss.length ≤ 60
      · have hl6 : ¬ (60 : Int) < (ss.length : Int) := by omega
        by_cases h9 : bulk ss ss.length ≤ 9000
        · have h9i : ¬ (9000 : Int) < ((bulk ss ss.length : Nat) : Int) := by omega
          go_wp2_with fail
          go_ret
          exact ⟨_, rfl, rfl, fun _ => ⟨h60, h9⟩⟩
        · have h9i : (9000 : Int) < ((bulk ss ss.length : Nat) : Int) := by omega
          go_wp2_with fail
          go_ret
          exact ⟨_, rfl, rfl, fun h => by simp at h⟩
      · have hl6 : (60 : Int) < (ss.length : Int) := by omega
        go_wp2_with fail
        go_ret
        exact ⟨true, rfl, rfl, fun h => by simp at h⟩

theorem owns_set {w : World} {e : TypeId} {g n cap : Nat} {xs : List Value} (h : w.ownsRow 0 e 1 (.slice (some ⟨g, 0, none⟩) n cap) n xs) (t : Nat) (ht : t < n) (u : Value) :
    (w.setCell ⟨g, t, none⟩ u).ownsRow 0 e 1 (.slice (some ⟨g, 0, none⟩) n cap) n (xs.set t u) ∧ w.cell? ⟨g, t, none⟩ = xs[t]? ∧ w.frozen? ⟨g, t, none⟩ = false := by
  obtain ⟨h1, h2⟩ := h
  rcases h2 with ⟨hv, -⟩ | ⟨g', cap', cur, hv, hb, hh, hn, hm, hs, hx⟩
  · simp at hv
  · simp only [Value.slice.injEq, Option.some.injEq, Addr.mk.injEq] at hv
    obtain ⟨⟨rfl, -, -⟩, -, rfl⟩ := hv
    refine ⟨⟨by simpa using h1, .inr ⟨g, cap, cur.setIfInBounds t u, rfl, hb, heap_setCell_same w g t cur e u hh, hn, hm, by simpa using hs, ?_⟩⟩, ?_, frozen_of_heap hh t⟩
    · rw [Array.toList_setIfInBounds, List.take_set, hx]
    · rw [cell_of_heap hh, ← hx, List.getElem?_take_of_lt (by omega), Array.getElem?_toList]

theorem bvs_setL (l : List UInt8) (t : Nat) (c : UInt8) : bvs (l.set t c) = (bvs l).set t (.int .u8 ((c.toNat : Nat) : Int)) := by
  unfold bvs
  rw [List.map_set]

theorem wrapB (b : UInt8) : IntKind.u8.wrap ((b.toNat : Nat) : Int) = ((b.toNat : Nat) : Int) := by
  have := b.toNat_lt
  simp only [IntKind.wrap, IntKind.bits, IntKind.signed]
  simp
  omega

theorem xorB (a b : UInt8) : bits BinOp.xor IntKind.u8 ((a.toNat : Nat) : Int) ((b.toNat : Nat) : Int) = (((a ^^^ b).toNat : Nat) : Int) := by
  show IntKind.u8.wrap ((BitVec.ofInt 8 ((a.toNat : Nat) : Int) ^^^ BitVec.ofInt 8 ((b.toNat : Nat) : Int)).toNat : Int) = _
  rw [BitVec.ofInt_natCast, BitVec.ofInt_natCast, ← UInt8.toBitVec_ofNat', ← UInt8.toBitVec_ofNat', UInt8.ofNat_toNat, UInt8.ofNat_toNat, ← UInt8.toBitVec_xor, UInt8.toNat_toBitVec]
  exact wrapB _

/-- One byte that somebody owns is turned. -/
theorem Ow.spoil {w : World} {ao : Option Addr} {n cap t : Nat} {l : List UInt8} (h : Ow w (.slice ao n cap) l) (hn : l.length = n) (ht : t < n) :
    ∃ g, ao = some ⟨g, 0, none⟩ ∧ t < cap ∧ w.cell? ⟨g, t, none⟩ = some (.int .u8 ((((l.getD t 0).toNat : Nat)) : Int)) ∧ w.frozen? ⟨g, t, none⟩ = false ∧
      ∀ c : UInt8, Ow (w.setCell ⟨g, t, none⟩ (.int .u8 ((c.toNat : Nat) : Int))) (.slice ao n cap) (l.set t c) := by
  subst hn
  obtain ⟨g, rfl⟩ : ∃ g, ao = some ⟨g, 0, none⟩ := by
    rcases h.2 with ⟨hv, hn⟩ | ⟨g, cap', cur, hv, _⟩
    · omega
    · simp at hv; exact ⟨g, hv.1⟩
  have hcap : t < cap := by
    rcases h.2 with ⟨hv, hn⟩ | ⟨g, cap', cur, hv, _, _, h, _⟩
    · omega
    · simp at hv; omega
  have hk := owns_set h t ht (.int .u8 0)
  refine ⟨g, rfl, hcap, ?_, hk.2.2, fun c => ?_⟩
  · rw [hk.2.1, bvs_get _ _ ht]; simp [ht]
  · have := (owns_set h t ht (.int .u8 ((c.toNat : Nat) : Int))).1
    unfold Ow
    rw [List.length_set, bvs_setL]
    exact this

theorem Cg.gat {N : Nat} {w w' : World} (h : Cg N w w') {p : Nat} {s : St} {n : Nat} {v : Value} {r : List UInt8} (R : GAt w p s n v r) (hp : p < N) : GAt w' p s n v r :=
  ⟨by rw [h.block p hp R.lt]; exact R.heap, R.fit, h.rd R.rest, fun b hb => ⟨(R.ne b hb).1, Nat.lt_of_lt_of_le (R.ne b hb).2 h.size⟩, R.small⟩

theorem ex_neS {ρ : Operand → Value} {o : Oper} {w : World} {x y : Operand} {s : ByteArray} (ho : o.op = .binOp .neq 9 x y 9) (hx : ρ x = .string s) (hy : ρ y = .string s) : (execOp ρ o).run Tryd.prog w = .ok (.value (.bool false)) w := by
  simp [execOp, ho, hx, hy, go_sem]
theorem ex_neJ {ρ : Operand → Value} {o : Oper} {w : World} {t : TypeId} {x y : Operand} {k : IntKind} {n : Int} (ht : Tryd.prog.underlying t = some (.int k)) (ho : o.op = .binOp .neq t x y t) (hx : ρ x = .int k n) (hy : ρ y = .int k n) : (execOp ρ o).run Tryd.prog w = .ok (.value (.bool false)) w := by
  simp [execOp, ho, hx, hy, go_sem]
theorem ex_pickN {ρ : Operand → Value} {o : Oper} {w : World} {c x y : Operand} {v : Value} (ho : o.op = .pick c x y) (hc : ρ c = .bool false) (hy : ρ y = v) : (execOp ρ o).run Tryd.prog w = .ok (.value v) w := by
  subst hy; simp [execOp, ho, hc, go_sem]
theorem cfv28 (args : Array Value) (W : World) : Sem.run Tryd.prog (callFunc 28 args) W = .ok (.enter 28 args) W := by simp [go_sem]
theorem cfv29 (args : Array Value) (W : World) : Sem.run Tryd.prog (callFunc 29 args) W = .ok (.enter 29 args) W := by simp [go_sem]
theorem cfv22 (args : Array Value) (W : World) : Sem.run Tryd.prog (callFunc 22 args) W = .ok (.enter 22 args) W := by simp [go_sem]
theorem cfv23 (args : Array Value) (W : World) : Sem.run Tryd.prog (callFunc 23 args) W = .ok (.enter 23 args) W := by simp [go_sem]
theorem Tryd.u48h : Tryd.prog.underlying 48 = some (.int .u64) := by kernel_rfl

/-- The two hashes and what is left to know of them, round by round. -/
structure Two (N : Nat) (w : World) (ph pg : Nat) (s : St) (n : Nat) (gv : Value) (r : List UInt8) : Prop where
  h : HH w ph s n r
  g : GAt w pg s n gv r
  nh : N ≤ ph
  ng : N ≤ pg
  nv : ∀ b, gv.ownBlock = some b → N ≤ b ∧ b ≠ ph

theorem Two.ne {N : Nat} {w : World} {ph pg : Nat} {s : St} {n : Nat} {gv : Value} {r : List UInt8} (t : Two N w ph pg s n gv r) : ph ≠ pg := by
  rintro rfl
  obtain ⟨pc, h1, -⟩ := t.h
  have := h1.heap.symm.trans t.g.heap
  simp at this

theorem Two.kept {N : Nat} {S : Nat → Prop} {w w' : World} {ph pg : Nat} {s : St} {n : Nat} {gv : Value} {r : List UInt8} (t : Two N w ph pg s n gv r) (f : Fr S w w') (hS : ∀ b, b < w.heap.size → ¬ S b) : Two N w' ph pg s n gv r := by
  have hl : ph < w.heap.size := t.h.choose_spec.1.lt
  exact ⟨t.h.kept f (hS _ hl), t.g.kept f (hS _ t.g.lt) (fun b hb => hS b (t.g.ne b hb).2), t.nh, t.ng, t.nv⟩
theorem Two.lt {N : Nat} {w : World} {ph pg : Nat} {s : St} {n : Nat} {gv : Value} {r : List UInt8} (t : Two N w ph pg s n gv r) : ph < w.heap.size ∧ pg < w.heap.size := ⟨t.h.choose_spec.1.lt, t.g.lt⟩
end Go.Proofs.YtlicmlioilkfdaaDoor
