/-
  The document's cache in memory; where a block is.
  The document's list of places: what is taken out of it, put behind it; kinds of operations.
  The document's cache: a place's last use is now.
-/
import Derived.Test.YtdgmlopaeonacaaM10
import Derived.Test.YtdgmlopaeonacaaM12
namespace Go.Proofs.Ytdgmlopaeonacaa
set_option linter.unusedVariables false
set_option linter.unusedSimpArgs false
open Go.RowKit
set_option linter.unusedVariables false

attribute [local go_sem ↓] Go.wp_at_zero Go.wp_at_succ

def fz (x : Pl) : Int := if x.dirty = true then (x.first : Int) else 0
def lz (x : Pl) : Int := if x.dirty = true then (x.last : Int) else 0
/-- A place of the document's. -/
def PAt [Av] (w : World) (a : Nat) (pv : Value) (x : Pl) : Prop := w.heap[a]? = some (.cells #[.int .i64 x.b, pv, .bool x.dirty, .int .u64 (fz x), .int .u64 (lz x), .int .i64 x.pins] 94 (0, 0)) ∧ Rd w pv x.P ∧ (∀ k, pv.ownBlock = some k → knd w k = 5) ∧ ∀ k, pv.ownBlock = some k → Av.z ≠ some k
/-- The document's cache: q the struct, g its home, lv the list of places. -/
structure DAtK [Av] (K : Pl → Prop) (w : World) (q g : Nat) (lv : Value) (R : List (Nat × Pl)) (c : Ca) : Prop where
  heap : w.heap[q]? = some (.cells #[ptr g, .int .i64 (c.places : Int), lv, .int .u64 (c.safe : Int), .int .i64 (c.hit : Int), .int .i64 (c.miss : Int)] 56 (0, 0))
  row : w.ownsRow 0 95 1 lv R.length (R.map fun x => ptr x.1)
  pl : ∀ x ∈ R, ∃ pv, PAt w x.1 pv x.2
  nd : (adr R).Nodup
  ok : ∀ x ∈ R, K x.2
  num : c.hit ≤ 1000000000 ∧ c.miss ≤ 1000000000 ∧ c.safe < 18446744073709551616 ∧ c.places ≤ 4096
abbrev DAt [Av] (w : World) (q g : Nat) (lv : Value) (R : List (Nat × Pl)) (c : Ca) : Prop := DAtK Pl.Ok w q g lv R c
def DB (q : Nat) (lv : Value) (R : List (Nat × Pl)) (k : Nat) : Prop := k = q ∨ lv.ownBlock = some k ∨ k ∈ adr R

section
variable {w w' : World} {q g a : Nat} {lv pv : Value} {R : List (Nat × Pl)} {c : Ca} {x : Pl} {S : Nat → Prop} {K : Pl → Prop}
theorem PAt.kept [Av] (H : PAt w a pv x) (f : Fr S w w') (h1 : ¬ S a) (h5 : ∀ k, S k → knd w k ≠ 5) : PAt w' a pv x :=
  ⟨by rw [f.block a (lt_of_heap H.1) h1]; exact H.1, H.2.1.kept f (fun k hk e => h5 k e (H.2.2.1 k hk)), ⟨fun k hk => by
    have e := H.2.2.1 k hk
    have hl : k < w.heap.size := knd_lt (by rw [e]; decide)
    unfold knd at *
    rw [f.block k hl (fun s => h5 k s e)]
    exact e, H.2.2.2⟩⟩
theorem PAt.cells [Av] (H : PAt w a pv x) : w.cell? ⟨a, 0, none⟩ = some (.int .i64 x.b) ∧ w.cell? ⟨a, 1, none⟩ = some pv ∧ w.cell? ⟨a, 2, none⟩ = some (.bool x.dirty) ∧ w.cell? ⟨a, 3, none⟩ = some (.int .u64 (fz x)) ∧ w.cell? ⟨a, 4, none⟩ = some (.int .u64 (lz x)) ∧ w.cell? ⟨a, 5, none⟩ = some (.int .i64 x.pins) := by
  have h := H.1
  refine ⟨?_, ?_, ?_, ?_, ?_, ?_⟩ <;> rw [cell_of_heap h] <;> rfl
theorem DAtK.kept [Av] (H : DAtK K w q g lv R c) (f : Fr S w w') (hs : ∀ k, S k → ¬ DB q lv R k ∧ knd w k ≠ 5) : DAtK K w' q g lv R c :=
  ⟨by rw [f.block q (lt_of_heap H.heap) (fun e => (hs q e).1 (.inl rfl))]; exact H.heap, owns_kept H.row f (fun k hk e => (hs k e).1 (.inr (.inl hk))),
    fun x hx => by
      obtain ⟨pv, h⟩ := H.pl x hx
      exact ⟨pv, h.kept f (fun e => (hs _ e).1 (.inr (.inr (List.mem_map.2 ⟨x, hx, rfl⟩)))) (fun k e => (hs k e).2)⟩, H.nd, H.ok, H.num⟩
theorem DAtK.kept0 [Av] (H : DAtK K w q g lv R c) (f : Fr (fun _ => False) w w') : DAtK K w' q g lv R c := H.kept f (fun _ e => e.elim)
theorem DAtK.cells [Av] (H : DAtK K w q g lv R c) : w.cell? ⟨q, 0, none⟩ = some (ptr g) ∧ w.cell? ⟨q, 1, none⟩ = some (.int .i64 (c.places : Int)) ∧ w.cell? ⟨q, 2, none⟩ = some lv ∧ w.cell? ⟨q, 3, none⟩ = some (.int .u64 (c.safe : Int)) ∧ w.cell? ⟨q, 4, none⟩ = some (.int .i64 (c.hit : Int)) ∧ w.cell? ⟨q, 5, none⟩ = some (.int .i64 (c.miss : Int)) := by
  have h := H.heap
  refine ⟨?_, ?_, ?_, ?_, ?_, ?_⟩ <;> rw [cell_of_heap h] <;> rfl
/-- The list of places, as far as there are some. -/
theorem DAtK.lit [Av] (H : DAtK K w q g lv R c) (hR : 0 < R.length) : ∃ gl cap, lv = .slice (some ⟨gl, 0, none⟩) R.length cap ∧ R.length ≤ cap ∧ cap ≤ maxLen ∧ ∀ i (hi : i < R.length), w.cell? ⟨gl, i, none⟩ = some (ptr (R[i]).1) := by
  obtain ⟨gl, cap, cur, e, hnc, hcm, hg, hcs, hcells⟩ := owns_at H.row hR
  refine ⟨gl, cap, e, hnc, hcm, fun i hi => ?_⟩
  rw [hcells i hi]; simp [hi]
theorem DAtK.shape [Av] (H : DAtK K w q g lv R c) : ∃ ao cap, lv = .slice ao R.length cap := owns_shape H.row
theorem DAtK.knds [Av] (H : DAtK K w q g lv R c) {k : Nat} (hk : DB q lv R k) : knd w k = 56 ∨ knd w k = 95 ∨ knd w k = 94 := by
  rcases hk with rfl | hk | hk
  · exact .inl (knd_cells H.heap)
  · exact .inr (.inl (knd_owns H.row hk))
  · obtain ⟨x, hx, rfl⟩ := List.mem_map.1 hk
    obtain ⟨pv, h⟩ := H.pl x hx
    exact .inr (.inr (knd_cells h.1))
end

/-- Where a block is, as a number. -/
def atN (l : List Pl) (b : Int) : Int := match atI l b with
  | some i => (i : Int)
  | none => -1

section
variable (w : World) (q g : Nat) (lv : Value) (R : List (Nat × Pl)) (c : Ca)

set_option maxRecDepth 100000 in
set_option maxHeartbeats 1000000 in
theorem at_any [Av] (b : Int) (hR : R.length ≤ 5000) (H : DAt w q g lv R c) : Calls Try.prog 54 #[ptr q, .int .i64 b] w fun e w' => e = .returned (.int .i64 (atN (R.map Prod.snd) b)) ∧ w = w' := by
  obtain ⟨-, -, c2, -, -, -⟩ := H.cells
  obtain ⟨ao, cap, rfl⟩ := H.shape
  have HH := hide H
  obtain ⟨N, hN⟩ : ∃ N, N = R.length := ⟨_, rfl⟩
  rw [← hN] at c2 HH
  have HN := hide hN
  rw [← hN] at hR
  clear H hN
  unfold ptr at *
  go_enter Try.func54, Try.ntmps54
  go_wp2_with fail
  go_loopw [5] (fun y W => ∃ i : Nat, i ≤ N ∧ y = .int .i64 (i : Int) ∧ (∀ j, j < i → ∀ x, (R.map Prod.snd)[j]? = some x → x.b ≠ b) ∧ Hid (W = w)) (fun y _ => N - (intOf y).toNat)
  case atStart => exact ⟨0, by omega, rfl, fun j hj => by omega, hide rfl⟩
  case round =>
    obtain ⟨i, hi, rfl, hno, hW⟩ := hrel
    have hw := unhide hW
    clear hW
    subst hw
    have HNO := hide hno
    clear hno
    by_cases hlt : i < N
    · have hiR : i < R.length := by have := unhide HN; omega
      obtain ⟨gl, cap', e, hnc, hcm, hc⟩ := DAtK.lit (by have := unhide HH; rw [unhide HN] at this; exact this) (by omega)
      simp only [Value.slice.injEq] at e
      obtain ⟨rfl, -, rfl⟩ := e
      have ci := hc i hiR
      obtain ⟨pv, hp⟩ := (unhide HH).pl R[i] (List.getElem_mem hiR)
      obtain ⟨p0, -⟩ := hp.cells
      have hicap : i < cap := by omega
      have HX : Hid ((R.map Prod.snd)[i]? = some (R[i]).2) := hide (by simp [hiR])
      unfold ptr at ci
      generalize R[i] = rx at *
      clear hp hc hnc hcm hiR
      by_cases hb : rx.2.b = b
      · have qb : (rx.2.b == b) = true := by simpa using hb
        have HA : Hid (atN (R.map Prod.snd) b = (i : Int)) := hide (by
          unfold atN atI
          have : (R.map Prod.snd).findIdx? (fun x => decide (x.b = b)) = some i := by
            rw [List.findIdx?_eq_some_iff_getElem]
            obtain ⟨h1, h2⟩ := List.getElem?_eq_some_iff.1 (unhide HX)
            refine ⟨h1, by rw [h2]; simpa using hb, fun j hj => ?_⟩
            have := unhide HNO j hj _ (List.getElem?_eq_getElem (by omega))
            simpa using this
          rw [this])
        clear hb
        go_wp2_with fail
        go_ret
        exact ⟨by rw [unhide HA]; rfl, rfl⟩
      · have qb : (rx.2.b == b) = false := by simpa using hb
        have HB := hide hb
        clear hb
        go_wp2_with fail
        go_roundw
        case rel => exact ⟨i + 1, by omega, by go_num, fun j hj x hx => by
          rcases Nat.lt_or_ge j i with h | h
          · exact unhide HNO j h x hx
          · obtain rfl : j = i := by omega
            rw [unhide HX] at hx
            simp at hx
            rw [← hx]; exact unhide HB, hide (by trivial)⟩
        case measure => simp [intOf]; omega
    · have hie : N = i := by omega
      subst hie
      have HA : Hid (atN (R.map Prod.snd) b = -1) := hide (by
        unfold atN atI
        have : (R.map Prod.snd).findIdx? (fun x => decide (x.b = b)) = none := by
          rw [List.findIdx?_eq_none_iff]
          intro x hx
          obtain ⟨j, hj⟩ := List.getElem?_of_mem hx
          have hjl := (List.getElem?_eq_some_iff.1 hj).1
          have := unhide HNO j (by have := unhide HN; simp at hjl; omega) x hj
          simpa using this
        rw [this])
      clear hlt hi
      go_wp2_with fail
      go_ret
      exact ⟨by rw [unhide HA]; rfl, rfl⟩
end
end Go.Proofs.Ytdgmlopaeonacaa

namespace Go.Proofs.Ytdgmlopaeonacaa
set_option linter.unusedVariables false
set_option linter.unusedSimpArgs false
open Go.RowKit
set_option linter.unusedVariables false
set_option linter.unusedSimpArgs false

theorem Try.info95 : (Try.prog.info? 95).map (fun i => (i.zero, i.size, i.bytes)) = some (some (.pointer none), 1, 8) := by kernel_rfl
theorem fa56_2 (b o : Nat) (W : World) : (Instr.fieldAt 56 (.pointer (some ⟨b, o, none⟩)) 2).run Try.prog W = .ok (.pointer (some ⟨b, o + 2, none⟩)) W := by simp [go_sem]
theorem ld54 (W : World) (a : Addr) (u : Value) (h : W.cell? a = some u) : (Instr.loadAt 54 (.pointer (some a))).run Try.prog W = .ok u W := by simp [go_sem, h]
section
variable {ρ : Operand → Value} {o : Oper} {w w2 : World}
theorem x_bs54 (ho : o.op = .buildSlice 54 0 #[]) : (execOp ρ o).run Try.prog w = .ok (.value (.slice (some ⟨w.heap.size, 0, none⟩) 0 0)) (w.alloc (.cells #[] 95)) := by
  simp [execOp, ho, go_sem]
theorem x_bs54p {x : Operand} {a : Nat} (ho : o.op = .buildSlice 54 1 #[(0, x)]) (hx : ρ x = ptr a) : (execOp ρ o).run Try.prog w = .ok (.value (.slice (some ⟨w.heap.size, 0, none⟩) 1 1)) (w.alloc (.cells #[ptr a] 95)) := by
  unfold ptr at *
  simp [execOp, ho, hx, go_sem]
theorem x_app54 {x y : Operand} {a b v : Value} (ho : o.op = .call { callee := .builtin .append, args := #[x, y], argTypes := #[54, 54] }) (hty : o.type = 54) (hx : ρ x = a) (hy : ρ y = b) (hr : (Builtin.append_ #[54, 54] 54 #[a, b]).run Try.prog w = .ok v w2) : (execOp ρ o).run Try.prog w = .ok (.value v) w2 := by
  simp only [execOp, ho, hty, resolve, invoke, builtin, Sem.run_bind, Sem.run_pure, Result.andThen_ok, List.map_toArray, List.map_cons, List.map_nil, hx, hy, hr]
theorem x_addI {x y : Operand} {a b c : Int} (ho : o.op = .binOp .add 3 x y 3) (hx : ρ x = .int .i64 a) (hy : ρ y = .int .i64 b) (hc : IntKind.i64.wrap (a + b) = c) : (execOp ρ o).run Try.prog w = .ok (.value (.int .i64 c)) w := by
  subst hc; simp [execOp, ho, hx, hy, go_sem]
theorem x_to54 {x y : Operand} {gl i n cap : Nat} (ho : o.op = .slice 54 x none (some y) none) (hx : ρ x = .slice (some ⟨gl, 0, none⟩) n cap) (hy : ρ y = .int .i64 (i : Int)) (hi : i ≤ n) (hn : n ≤ cap) : (execOp ρ o).run Try.prog w = .ok (.value (.slice (some ⟨gl, 0, none⟩) i cap)) w := by
  have h1 : i ≤ cap := by omega
  simp [execOp, ho, hx, hy, go_sem, h1]
theorem x_from54 {x y : Operand} {gl i n cap : Nat} (ho : o.op = .slice 54 x (some y) none none) (hx : ρ x = .slice (some ⟨gl, 0, none⟩) n cap) (hy : ρ y = .int .i64 (i : Int)) (hi : i ≤ n) (hn : n ≤ cap) : (execOp ρ o).run Try.prog w = .ok (.value (.slice (some ⟨gl, if cap = i then 0 else i, none⟩) (n - i) (cap - i))) w := by
  by_cases h : cap = i
  · subst h
    obtain rfl : n = cap := by omega
    simp [execOp, ho, hx, hy, go_sem]
  · simp [execOp, ho, hx, hy, go_sem, h, hi, hn]
theorem x_store54 {x y : Operand} {b : Nat} {v d : Value} (ho : o.op = .store 54 x y) (hx : ρ x = .pointer (some ⟨b, 2, none⟩)) (hy : ρ y = v) (hc : w.cell? ⟨b, 2, none⟩ = some d) (hz : w.frozen? ⟨b, 2, none⟩ = false) (hv : ∃ ao n c, v = .slice ao n c) : (execOp ρ o).run Try.prog w = .ok .skip (w.setCell ⟨b, 2, none⟩ v) := by
  obtain ⟨ao, n, c, rfl⟩ := hv
  simp [execOp, ho, hx, hy, go_sem, hc, hz]
end
theorem own0p (w : World) : (w.alloc (.cells #[] 95)).ownsRow 0 95 1 (.slice (some ⟨w.heap.size, 0, none⟩) 0 0) 0 [] :=
  ⟨rfl, .inr ⟨w.heap.size, 0, #[], rfl, Nat.zero_le _, heap_alloc_new _ _, Nat.le_refl _, Nat.zero_le _, rfl, rfl⟩⟩
theorem app54 (w : World) (v0 : Value) {n k : Nat} {xs ys : List Value} (ho : w.ownsRow 0 95 1 v0 n xs) {x : Value} (hx : Sr w 1 x k ys) (h1 : ∀ u ∈ ys, u.oneCell' = true) (hb : n + k ≤ 100000) : ∃ v w', (Builtin.append_ #[54, 54] 54 #[v0, x]).run Try.prog w = .ok v w' ∧ w'.ownsRow 0 95 1 v (n + k) (xs ++ ys) ∧ w.grownBy w' v0.ownBlock ∧ (v.ownBlock = v0.ownBlock ∨ v.ownBlock = some w.heap.size) := by
  obtain ⟨inf, hi0, hz0, hz1, hz2⟩ := info_parts Try.info95
  exact run_app (P := Try.prog) w 54 54 95 inf _ 1 8 Try.underlying54 hi0 hz0 hz1 hz2 rfl (by decide) v0 n xs ho x k ys hx h1 (by omega) (by simp only [maxLen]; omega)
theorem ptrs_one (R : List (Nat × Pl)) : ∀ u ∈ R.map (fun x => ptr x.1), u.oneCell' = true := by
  intro u hu
  obtain ⟨_, _, rfl⟩ := List.mem_map.1 hu
  rfl
section
variable {w w' : World} {q g gl n cap : Nat} {lv lv' : Value} {R R1 R2 R' : List (Nat × Pl)} {x : Nat × Pl} {c : Ca} {K : Pl → Prop}
/-- The list is laid anew. -/
theorem relist [Av] (heap : w.heap[q]? = some (.cells #[ptr g, .int .i64 (c.places : Int), lv, .int .u64 (c.safe : Int), .int .i64 (c.hit : Int), .int .i64 (c.miss : Int)] 56 (0, 0))) (num : c.hit ≤ 1000000000 ∧ c.miss ≤ 1000000000 ∧ c.safe < 18446744073709551616 ∧ c.places ≤ 4096) (row : w.ownsRow 0 95 1 lv' R'.length (R'.map fun x => ptr x.1)) (pl : ∀ x ∈ R', ∃ pv, PAt w x.1 pv x.2) (nd : (adr R').Nodup) (ok : ∀ x ∈ R', K x.2) : DAtK K (w.setCell ⟨q, 2, none⟩ lv') q g lv' R' c ∧ Fr (fun k => k = q) w (w.setCell ⟨q, 2, none⟩ lv') := by
  have f : Fr (fun k => k = q) w (w.setCell ⟨q, 2, none⟩ lv') := (Fr.refl (fun k => k = q) w).setCell (p := ⟨q, 2, none⟩) (fun _ => rfl) _
  have hq := knd_cells heap
  refine ⟨⟨?_, owns_kept row f (fun k hk e => ?_), fun x hx => ?_, nd, ok, num⟩, f⟩
  · rw [heap_setCell_same w q 2 _ 56 lv' heap]; rfl
  · have := knd_owns row hk
    rw [show k = q from e, hq] at this
    exact absurd this (by decide)
  · obtain ⟨pv, hp⟩ := pl x hx
    refine ⟨pv, hp.kept f (fun e => ?_) (fun k e e5 => ?_)⟩
    · have := knd_cells hp.1
      rw [show x.1 = q from e, hq] at this
      exact absurd this (by decide)
    · rw [show k = q from e, hq] at e5
      exact absurd e5 (by decide)
theorem DAtK.srTo [Av] (H : DAtK K w q g (.slice (some ⟨gl, 0, none⟩) n cap) (R1 ++ x :: R2) c) : Sr w 1 (.slice (some ⟨gl, 0, none⟩) R1.length cap) R1.length (R1.map fun x => ptr x.1) := by
  obtain ⟨gl', cap', e, -, -, hc⟩ := H.lit (by simp; omega)
  simp only [Value.slice.injEq, Option.some.injEq, Addr.mk.injEq] at e
  obtain ⟨⟨rfl, -⟩, -, rfl⟩ := e
  refine .inr ⟨_, cap, rfl, by simp, fun j u hu => ?_⟩
  have hj : j < R1.length := by have := (List.getElem?_eq_some_iff.1 hu).1; simpa using this
  rw [Addr.add_lit, Nat.zero_add, hc j (by simp; omega)]
  have : (R1 ++ x :: R2)[j]'(by simp; omega) = R1[j] := by simp [hj]
  rw [this]
  simpa [hj] using hu
theorem DAtK.srFrom [Av] (H : DAtK K w q g (.slice (some ⟨gl, 0, none⟩) n cap) (R1 ++ x :: R2) c) (hn : n = R1.length + 1 + R2.length) (hcap : n ≤ cap) : Sr w 1 (.slice (some ⟨gl, if cap = R1.length + 1 then 0 else R1.length + 1, none⟩) (n - (R1.length + 1)) (cap - (R1.length + 1))) (n - (R1.length + 1)) (R2.map fun x => ptr x.1) := by
  obtain ⟨gl', cap', e, -, -, hc⟩ := H.lit (by simp; omega)
  simp only [Value.slice.injEq, Option.some.injEq, Addr.mk.injEq] at e
  obtain ⟨⟨rfl, -⟩, -, rfl⟩ := e
  refine .inr ⟨_, _, rfl, by simp; omega, fun j u hu => ?_⟩
  have hj : j < R2.length := by have := (List.getElem?_eq_some_iff.1 hu).1; simpa using this
  rw [if_neg (by omega), Addr.add_lit, hc (R1.length + 1 + j) (by simp; omega)]
  have : (R1 ++ x :: R2)[R1.length + 1 + j]'(by simp; omega) = R2[j] := by
    rw [List.getElem_append_right (by omega)]
    simp [show R1.length + 1 + j - R1.length = j + 1 by omega]
  rw [this]
  simpa [hj] using hu
/-- A place is put behind all. -/
theorem DAtK.push [Av] (H : DAtK K w q g lv R c) {x : Nat × Pl} (f : Fr (fun k => lv.ownBlock = some k) w w') {v : Value} (row : w'.ownsRow 0 95 1 v (R.length + 1) ((R.map fun x => ptr x.1) ++ [ptr x.1])) (hx : ∃ pv, PAt w x.1 pv x.2) (hnd : x.1 ∉ adr R) (ok : K x.2) : DAtK K (w'.setCell ⟨q, 2, none⟩ v) q g v (R ++ [x]) c ∧ Fr (fun k => k = q ∨ lv.ownBlock = some k) w (w'.setCell ⟨q, 2, none⟩ v) := by
  have hlk : ∀ k, lv.ownBlock = some k → knd w k = 95 := fun k hk => knd_owns H.row hk
  have heap' : w'.heap[q]? = _ := (f.block q (lt_of_heap H.heap) (fun e => by have := hlk q e; rw [knd_cells H.heap] at this; exact absurd this (by decide))).trans H.heap
  obtain ⟨h1, h2⟩ := relist heap' H.num (lv' := v) (R' := R ++ [x]) (by simpa using row) (fun y hy => by
    obtain ⟨pv, hp⟩ : ∃ pv, PAt w y.1 pv y.2 := by
      rcases List.mem_append.1 hy with h | h
      · exact H.pl y h
      · rw [List.mem_singleton.1 h]; exact hx
    exact ⟨pv, hp.kept f (fun e => by have := hlk _ e; rw [knd_cells hp.1] at this; exact absurd this (by decide)) (fun k e => by rw [hlk k e]; decide)⟩)
    (by unfold adr at *; rw [List.map_append, List.nodup_append]; exact ⟨H.nd, by simp, fun a ha b hb => by simp at hb; subst hb; exact fun e => hnd (e ▸ ha)⟩)
    (fun y hy => by
      rcases List.mem_append.1 hy with h | h
      · exact H.ok y h
      · rw [List.mem_singleton.1 h]; exact ok)
  exact ⟨h1, (f.mono (fun _ _ e => .inr e)).trans h2 (fun _ _ e => .inl e)⟩
theorem push_facts [Av] {w8 : World} {o : Obj} {v : Value} (H : DAtK K w q g lv R c) {x : Nat × Pl} (hx : ∃ pv, PAt w x.1 pv x.2) (hnd : x.1 ∉ adr R) (ok : K x.2) (ho : w8.ownsRow 0 95 1 v (R.length + 1) ((R.map fun x => ptr x.1) ++ [ptr x.1])) (hg : (w.alloc o).grownBy w8 lv.ownBlock) :
    w8.cell? ⟨q, 2, none⟩ = some lv ∧ w8.frozen? ⟨q, 2, none⟩ = false ∧ DAtK K (w8.setCell ⟨q, 2, none⟩ v) q g v (R ++ [x]) c ∧ Fr (fun k => k = q ∨ lv.ownBlock = some k) w (w8.setCell ⟨q, 2, none⟩ v) := by
  have f8 : Fr (fun k => lv.ownBlock = some k) w w8 := ((Fr.refl _ _).alloc o).grown hg (fun k _ e => e)
  have hne : ¬ lv.ownBlock = some q := fun e => by have := knd_owns H.row e; rw [knd_cells H.heap] at this; exact absurd this (by decide)
  obtain ⟨h1, h2⟩ := H.push f8 ho hx hnd ok
  refine ⟨?_, ?_, h1, h2⟩
  · rw [f8.cell (lt_of_heap H.heap) hne]; exact H.cells.2.2.1
  · rw [f8.frozen (lt_of_heap H.heap) hne]; exact frozen_of_heap H.heap 2
/-- What is left when one is taken out. -/
def RmPK [Av] (K : Pl → Prop) (w : World) (q g : Nat) (R1 R2 : List (Nat × Pl)) (c : Ca) (W : World) : Prop := ∃ lv', DAtK K W q g lv' (R1 ++ R2) c ∧ (∀ k, lv'.ownBlock = some k → w.heap.size ≤ k) ∧ Fr (fun k => k = q) w W
abbrev RmP [Av] (w : World) (q g : Nat) (R1 R2 : List (Nat × Pl)) (c : Ca) (W : World) : Prop := RmPK Pl.Ok w q g R1 R2 c W
theorem DAtK.rm [Av] (H : DAtK K w q g lv (R1 ++ x :: R2) c) (f : Fr (fun _ => False) w w') {v : Value} {k : Nat} (row : w'.ownsRow 0 95 1 v k ((R1.map fun x => ptr x.1) ++ R2.map fun x => ptr x.1)) (hk : k = R1.length + R2.length) (hv : ∀ k, v.ownBlock = some k → w.heap.size ≤ k) : RmPK K w q g R1 R2 c (w'.setCell ⟨q, 2, none⟩ v) := by
  have H' := H.kept0 f
  have hsub : ∀ y ∈ R1 ++ R2, y ∈ R1 ++ x :: R2 := fun y hy => by
    rcases List.mem_append.1 hy with h | h
    · exact List.mem_append_left _ h
    · exact List.mem_append_right _ (List.mem_cons_of_mem _ h)
  have hnd : (adr (R1 ++ R2)).Nodup := by
    have hs : (R1 ++ R2).Sublist (R1 ++ x :: R2) := List.Sublist.append (List.Sublist.refl _) (List.sublist_cons_self _ _)
    exact List.Nodup.sublist (hs.map _) H.nd
  obtain ⟨h1, h2⟩ := relist H'.heap H'.num (lv' := v) (R' := R1 ++ R2) (by rw [List.length_append, List.map_append, ← hk]; exact row) (fun y hy => H'.pl y (hsub y hy)) hnd (fun y hy => H.ok y (hsub y hy))
  exact ⟨v, h1, hv, (f.mono (fun _ _ e => e.elim)).trans h2 (fun _ _ e => e)⟩
end
end Go.Proofs.Ytdgmlopaeonacaa

namespace Go.Proofs.Ytdgmlopaeonacaa
set_option linter.unusedVariables false
set_option linter.unusedSimpArgs false
open Go.RowKit
set_option linter.unusedVariables false
set_option linter.unusedSimpArgs false

attribute [local go_sem ↓] Go.wp_at_zero Go.wp_at_succ

theorem threepath {l : List Oper} {a b c : Nat} (h : Path l b a) (h2 : Path l c b) : ∀ k i j, ([a, b, c] : List Nat)[k]? = some i → ([a, b, c] : List Nat)[k + 1]? = some j → Path l j i := by
  intro k i j hi hj
  match k with
  | 0 => simp at hi hj; subst hi hj; exact h
  | 1 => simp at hi hj; subst hi hj; exact h2
  | k + 2 => simp at hj
section
variable {w4 w' w9 : World} {v0 v9 : Value} {q : Nat}
theorem app_fr9 (hs : Fr (fun _ => False) w4 w') (hg : w'.grownBy w9 v0.ownBlock) (hb : ∀ k, v0.ownBlock = some k → w4.heap.size ≤ k) : Fr (fun k => k = q ∨ w4.heap.size ≤ k) w' w9 :=
  ((Fr.refl (fun k => v0.ownBlock = some k) w').grown hg (fun k _ e => e)).mono (fun k _ e => .inr (hb k e))
theorem app_new {w4 w' : World} {v0 v9 : Value} (hz : w4.heap.size ≤ w'.heap.size) (hn : v9.ownBlock = v0.ownBlock ∨ v9.ownBlock = some w'.heap.size) (hb : ∀ k, v0.ownBlock = some k → w4.heap.size ≤ k) : ∀ k, v9.ownBlock = some k → w4.heap.size ≤ k := by
  intro k hk
  rcases hn with e | e
  · exact hb k (e ▸ hk)
  · rw [e] at hk; simp at hk; omega
end
section
variable (wr0 : World) (q g : Nat) (lv : Value) (R1 R2 : List (Nat × Pl)) (x : Nat × Pl) (c : Ca) {K : Pl → Prop}

set_option maxRecDepth 100000 in
set_option maxHeartbeats 2000000 in
theorem used_any [Av] (hR : (R1 ++ x :: R2).length ≤ 5000) (H : DAtK K wr0 q g lv (R1 ++ x :: R2) c) : Calls Try.prog 56 #[ptr q, .int .i64 (R1.length : Int)] wr0 fun e w' => e = .returned (ptr x.1) ∧ (∃ lv', DAtK K w' q g lv' (R1 ++ R2 ++ [x]) c ∧ ∀ k, lv'.ownBlock = some k → wr0.heap.size ≤ k) ∧ Fr (fun k => k = q) wr0 w' := by
  obtain ⟨gl, cap, e, hnc, hcm, hcl⟩ := H.lit (by simp; omega)
  obtain ⟨n, hn⟩ : ∃ n, n = (R1 ++ x :: R2).length := ⟨_, rfl⟩
  rw [← hn] at e hnc hR
  subst e
  have hnn : n = R1.length + 1 + R2.length := by rw [hn]; simp; omega
  obtain ⟨i, hi⟩ : ∃ i, i = R1.length := ⟨_, rfl⟩
  rw [← hi]
  obtain ⟨-, -, c2, -⟩ := H.cells
  have ci := hcl i (by rw [← hn]; omega)
  have ex : (R1 ++ x :: R2)[i]'(by rw [← hn]; omega) = x := by subst hi; simp
  rw [ex] at ci
  have HD := hide H
  have HI := hide hi
  have HNN := hide hnn
  have HCP := hide hnc
  have HNB := hide hR
  have hin : i < n := by omega
  have hic : i < cap := by omega
  clear H hcl hcm ex hn hi hnn hR hnc
  unfold ptr at *
  go_enter Try.func56, Try.ntmps56
  go_wp2_with fail
  refine wp_nameK ?_
  intro a0 hA
  have h0 : a0.tmps.getD 0 undef = .pointer (some ⟨q, 0, none⟩) := by rw [hA]; rfl
  have h1 : a0.tmps.getD 1 undef = .int .i64 (i : Int) := by rw [hA]; rfl
  have hsz : a0.tmps.size = 43 := by rw [hA]; rfl
  have hdf : a0.defers = [] := by rw [hA]
  have HA0 := hide hA
  clear hA
  refine wp_region_kinds (fun k => k = q ∨ wr0.heap.size ≤ k) (by kernel_rfl) (by kernel_rfl) (by decide +kernel) (by rw [hsz]; decide +kernel) [.eq (.pointer (some ⟨q, 0, none⟩)), (.st 0 (fun v W => W.ownsRow 0 95 1 v 0 ([]) ∧ ∀ k, v.ownBlock = some k → wr0.heap.size ≤ k) (fun v w1 w2 ⟨h1, h2⟩ f => ⟨owns_kept h1 f (fun _ _ e => e), h2⟩)), .eq (.pointer (some ⟨q, 0, none⟩)), .eq (.pointer (some ⟨q, 0, none⟩)), .eq (.pointer (some ⟨q, 2, none⟩)), .eq (.slice (some ⟨gl, 0, none⟩) n cap), .eq (.int .i64 (i : Int)), .eq (.slice (some ⟨gl, 0, none⟩) i cap), (.st 1 (fun v W => W.ownsRow 0 95 1 v (0 + i) ([] ++ R1.map fun x => ptr x.1) ∧ ∀ k, v.ownBlock = some k → wr0.heap.size ≤ k) (fun v w1 w2 ⟨h1, h2⟩ f => ⟨owns_kept h1 f (fun _ _ e => e), h2⟩)), .eq (.pointer (some ⟨q, 0, none⟩)), .eq (.pointer (some ⟨q, 0, none⟩)), .eq (.pointer (some ⟨q, 2, none⟩)), .eq (.slice (some ⟨gl, 0, none⟩) n cap), .eq (.int .i64 (i : Int)), .eq (.int .i64 ((i + 1 : Nat) : Int)), .eq (.slice (some ⟨gl, if cap = i + 1 then 0 else i + 1, none⟩) (n - (i + 1)) (cap - (i + 1))), (.st 2 (fun v W => W.ownsRow 0 95 1 v (0 + i + (n - (i + 1))) ([] ++ (R1.map fun x => ptr x.1) ++ R2.map fun x => ptr x.1) ∧ ∀ k, v.ownBlock = some k → wr0.heap.size ≤ k) (fun v w1 w2 ⟨h1, h2⟩ f => ⟨owns_kept h1 f (fun _ _ e => e), h2⟩)), .eq (.pointer (some ⟨q, 0, none⟩)), .eq (.pointer (some ⟨q, 2, none⟩)), .any] [8, 16, 19] (by decide) (by decide) (threepath (waits (by kernel_rfl)) (waits (by kernel_rfl))) (fun k W => (k ≤ 2 → Fr (fun _ => False) wr0 W) ∧ (k = 3 → RmPK K wr0 q g R1 R2 c W)) ⟨fun _ => (Fr.refl _ _).drew, fun e => by omega⟩ ?steps ?done
  case steps =>
    refine ⟨?_, ?_⟩
    · intro a' w' k' hb hf hs hc hq hg hd
      exact ⟨wantedN rfl, k_val (.pointer (some ⟨q, 0, none⟩)) (by decide) hs (x_move rfl ((hb.old 0 (by decide +kernel)).trans h0)) rfl⟩
    refine ⟨?_, ?_⟩
    · intro a' w' k' hb hf hs hc hq hg hd
      obtain rfl : k' = 0 := Nat.le_zero.1 (hq 0 8 rfl (waits (by kernel_rfl))); have hF0 : Fr (fun _ => False) wr0 w' := hs.1 (by omega); exact ⟨wantedN rfl, k_new _ (w'.alloc (.cells #[] 95)) (by decide) ⟨fun _ => hF0.trans ((Fr.refl (fun _ => False) _).alloc _) (fun _ _ h => h), fun e => by omega⟩ ((Fr.refl _ _).alloc _) (x_bs54 rfl) ⟨Nat.zero_le _, fun _ => ⟨own0p _, fun k hk => own0_blk hF0 hk⟩⟩⟩
    refine ⟨?_, ?_⟩
    · intro a' w' k' hb hf hs hc hq hg hd
      exact ⟨wantedN rfl, k_val (.pointer (some ⟨q, 0, none⟩)) (by decide) hs (x_move rfl ((hb.old 0 (by decide +kernel)).trans h0)) rfl⟩
    refine ⟨?_, ?_⟩
    · intro a' w' k' hb hf hs hc hq hg hd
      exact ⟨wantedN rfl, k_val (.pointer (some ⟨q, 0, none⟩)) (by decide) hs (x_nilCheck rfl (hd 2 (by kernel_rfl) 15 rfl)) rfl⟩
    refine ⟨?_, ?_⟩
    · intro a' w' k' hb hf hs hc hq hg hd
      exact ⟨wantedN rfl, k_val (.pointer (some ⟨q, 2, none⟩)) (by decide) hs (x_field (of := 0) (off := 2) (fa56_2 q 0) rfl (hd 3 (by kernel_rfl) 16 rfl)) rfl⟩
    refine ⟨?_, ?_⟩
    · intro a' w' k' hb hf hs hc hq hg hd
      have hF0 : Fr (fun _ => False) wr0 w' := hs.1 (hq 2 19 rfl (waits (by kernel_rfl))); exact ⟨wantedN rfl, k_val (.slice (some ⟨gl, 0, none⟩) n cap) (by decide) hs (x_load1 ld54 rfl (hd 4 (by kernel_rfl) 17 rfl) ((unhide HD).kept0 hF0).cells.2.2.1) rfl⟩
    refine ⟨?_, ?_⟩
    · intro a' w' k' hb hf hs hc hq hg hd
      exact ⟨wantedN rfl, k_val (.int .i64 (i : Int)) (by decide) hs (x_move rfl ((hb.old 1 (by decide +kernel)).trans h1)) rfl⟩
    refine ⟨?_, ?_⟩
    · intro a' w' k' hb hf hs hc hq hg hd
      exact ⟨wantedN rfl, k_val (.slice (some ⟨gl, 0, none⟩) i cap) (by decide) hs (x_to54 rfl (hd 5 (by kernel_rfl) 18 rfl) (hd 6 (by kernel_rfl) 19 rfl) (by have h1 := unhide HI; have h2 := unhide HNN; omega) (unhide HCP)) rfl⟩
    refine ⟨?_, ?_⟩
    · intro a' w' k' hb hf hs hc hq hg hd
      obtain rfl := hc 0 rfl; have hF0 : Fr (fun _ => False) wr0 w' := hs.1 (by omega); have hh := hd 1 (by kernel_rfl) 14 rfl; obtain ⟨ho7, hb7⟩ := hh.2 rfl; obtain ⟨v9, w9, hr9, ho9, hg9, hn9⟩ := app54 w' _ ho7 (x := .slice (some ⟨gl, 0, none⟩) i cap) (k := i) (by rw [unhide HI]; exact ((unhide HD).kept0 hF0).srTo) (ptrs_one R1) (by have h1 := unhide HI; have h2 := unhide HNN; have h3 := unhide HNB; omega); exact ⟨wantedN rfl, k_chain v9 w9 (by decide) ⟨fun _ => app_st hF0 hg9 hb7, fun e => by omega⟩ (app_fr9 hF0 hg9 hb7) (x_app54 rfl rfl rfl (hd 7 (by kernel_rfl) 20 rfl) hr9) ⟨Nat.le_refl _, fun _ => ⟨ho9, app_new hF0.size hn9 hb7⟩⟩⟩
    refine ⟨?_, ?_⟩
    · intro a' w' k' hb hf hs hc hq hg hd
      exact ⟨wantedN rfl, k_val (.pointer (some ⟨q, 0, none⟩)) (by decide) hs (x_move rfl ((hb.old 0 (by decide +kernel)).trans h0)) rfl⟩
    refine ⟨?_, ?_⟩
    · intro a' w' k' hb hf hs hc hq hg hd
      exact ⟨wantedN rfl, k_val (.pointer (some ⟨q, 0, none⟩)) (by decide) hs (x_nilCheck rfl (hd 9 (by kernel_rfl) 22 rfl)) rfl⟩
    refine ⟨?_, ?_⟩
    · intro a' w' k' hb hf hs hc hq hg hd
      exact ⟨wantedN rfl, k_val (.pointer (some ⟨q, 2, none⟩)) (by decide) hs (x_field (of := 0) (off := 2) (fa56_2 q 0) rfl (hd 10 (by kernel_rfl) 23 rfl)) rfl⟩
    refine ⟨?_, ?_⟩
    · intro a' w' k' hb hf hs hc hq hg hd
      have hF0 : Fr (fun _ => False) wr0 w' := hs.1 (hq 2 19 rfl (waits (by kernel_rfl))); exact ⟨wantedN rfl, k_val (.slice (some ⟨gl, 0, none⟩) n cap) (by decide) hs (x_load1 ld54 rfl (hd 11 (by kernel_rfl) 24 rfl) ((unhide HD).kept0 hF0).cells.2.2.1) rfl⟩
    refine ⟨?_, ?_⟩
    · intro a' w' k' hb hf hs hc hq hg hd
      exact ⟨wantedN rfl, k_val (.int .i64 (i : Int)) (by decide) hs (x_move rfl ((hb.old 1 (by decide +kernel)).trans h1)) rfl⟩
    refine ⟨?_, ?_⟩
    · intro a' w' k' hb hf hs hc hq hg hd
      exact ⟨wantedN rfl, k_val (.int .i64 ((i + 1 : Nat) : Int)) (by decide) hs (x_addI rfl (hd 13 (by kernel_rfl) 26 rfl) rfl (by have h1 := unhide HI; have h2 := unhide HNN; have h3 := unhide HNB; rw [IntKind.wrap_i64]; omega)) rfl⟩
    refine ⟨?_, ?_⟩
    · intro a' w' k' hb hf hs hc hq hg hd
      exact ⟨wantedN rfl, k_val (.slice (some ⟨gl, if cap = i + 1 then 0 else i + 1, none⟩) (n - (i + 1)) (cap - (i + 1))) (by decide) hs (x_from54 rfl (hd 12 (by kernel_rfl) 25 rfl) (hd 14 (by kernel_rfl) 27 rfl) (by have h1 := unhide HI; have h2 := unhide HNN; omega) (unhide HCP)) rfl⟩
    refine ⟨?_, ?_⟩
    · intro a' w' k' hb hf hs hc hq hg hd
      obtain rfl := hc 1 rfl; have hF0 : Fr (fun _ => False) wr0 w' := hs.1 (by omega); have hh := hd 8 (by kernel_rfl) 21 rfl; obtain ⟨ho7, hb7⟩ := hh.2 rfl; obtain ⟨v9, w9, hr9, ho9, hg9, hn9⟩ := app54 w' _ ho7 (x := .slice (some ⟨gl, if cap = i + 1 then 0 else i + 1, none⟩) (n - (i + 1)) (cap - (i + 1))) (k := n - (i + 1)) (by rw [unhide HI]; exact ((unhide HD).kept0 hF0).srFrom (unhide HNN) (unhide HCP)) (ptrs_one R2) (by have h1 := unhide HI; have h2 := unhide HNN; have h3 := unhide HNB; omega); exact ⟨wantedN rfl, k_chain v9 w9 (by decide) ⟨fun _ => app_st hF0 hg9 hb7, fun e => by omega⟩ (app_fr9 hF0 hg9 hb7) (x_app54 rfl rfl rfl (hd 15 (by kernel_rfl) 28 rfl) hr9) ⟨Nat.le_refl _, fun _ => ⟨ho9, app_new hF0.size hn9 hb7⟩⟩⟩
    refine ⟨?_, ?_⟩
    · intro a' w' k' hb hf hs hc hq hg hd
      exact ⟨wantedN rfl, k_val (.pointer (some ⟨q, 0, none⟩)) (by decide) hs (x_nilCheck rfl (hd 0 (by kernel_rfl) 13 rfl)) rfl⟩
    refine ⟨?_, ?_⟩
    · intro a' w' k' hb hf hs hc hq hg hd
      exact ⟨wantedN rfl, k_val (.pointer (some ⟨q, 2, none⟩)) (by decide) hs (x_field (of := 0) (off := 2) (fa56_2 q 0) rfl (hd 17 (by kernel_rfl) 30 rfl)) rfl⟩
    refine ⟨?_, ?_⟩
    · intro a' w' k' hb hf hs hc hq hg hd
      obtain rfl := hc 2 rfl; have hF0 : Fr (fun _ => False) wr0 w' := hs.1 (by omega); have hh := hd 16 (by kernel_rfl) 29 rfl; obtain ⟨ho7, hb7⟩ := hh.2 rfl; have hD7 := (unhide HD).kept0 hF0; exact ⟨wantedN rfl, k_store _ (by decide) ⟨fun e => by omega, fun _ => (unhide HD).rm hF0 (by simpa using ho7) (by have h1 := unhide HI; have h2 := unhide HNN; omega) hb7⟩ (((Fr.refl (fun k => k = q) w').setCell (p := ⟨q, 2, none⟩) (fun _ => rfl) _).mono (fun _ _ e => .inl e)) (x_store54 rfl (hd 18 (by kernel_rfl) 31 rfl) rfl hD7.cells.2.2.1 (frozen_of_heap hD7.heap 2) (let ⟨ao, c, e⟩ := owns_shape ho7; ⟨ao, _, c, e⟩)) trivial⟩
    exact trivial
  case done =>
    intro a' w6 hb hf hs hall
    have hdf' : a'.defers = [] := by rw [hb.defers]; exact hdf
    obtain ⟨v13, hv13⟩ : ∃ v, a'.tmps.getD 13 undef = v := ⟨_, rfl⟩
    obtain ⟨v14, hv14⟩ : ∃ v, a'.tmps.getD 14 undef = v := ⟨_, rfl⟩
    obtain ⟨v15, hv15⟩ : ∃ v, a'.tmps.getD 15 undef = v := ⟨_, rfl⟩
    obtain ⟨v16, hv16⟩ : ∃ v, a'.tmps.getD 16 undef = v := ⟨_, rfl⟩
    obtain ⟨v17, hv17⟩ : ∃ v, a'.tmps.getD 17 undef = v := ⟨_, rfl⟩
    obtain ⟨v18, hv18⟩ : ∃ v, a'.tmps.getD 18 undef = v := ⟨_, rfl⟩
    obtain ⟨v19, hv19⟩ : ∃ v, a'.tmps.getD 19 undef = v := ⟨_, rfl⟩
    obtain ⟨v20, hv20⟩ : ∃ v, a'.tmps.getD 20 undef = v := ⟨_, rfl⟩
    obtain ⟨v21, hv21⟩ : ∃ v, a'.tmps.getD 21 undef = v := ⟨_, rfl⟩
    obtain ⟨v22, hv22⟩ : ∃ v, a'.tmps.getD 22 undef = v := ⟨_, rfl⟩
    obtain ⟨v23, hv23⟩ : ∃ v, a'.tmps.getD 23 undef = v := ⟨_, rfl⟩
    obtain ⟨v24, hv24⟩ : ∃ v, a'.tmps.getD 24 undef = v := ⟨_, rfl⟩
    obtain ⟨v25, hv25⟩ : ∃ v, a'.tmps.getD 25 undef = v := ⟨_, rfl⟩
    obtain ⟨v26, hv26⟩ : ∃ v, a'.tmps.getD 26 undef = v := ⟨_, rfl⟩
    obtain ⟨v27, hv27⟩ : ∃ v, a'.tmps.getD 27 undef = v := ⟨_, rfl⟩
    obtain ⟨v28, hv28⟩ : ∃ v, a'.tmps.getD 28 undef = v := ⟨_, rfl⟩
    obtain ⟨v29, hv29⟩ : ∃ v, a'.tmps.getD 29 undef = v := ⟨_, rfl⟩
    obtain ⟨v30, hv30⟩ : ∃ v, a'.tmps.getD 30 undef = v := ⟨_, rfl⟩
    obtain ⟨v31, hv31⟩ : ∃ v, a'.tmps.getD 31 undef = v := ⟨_, rfl⟩
    have hfr := frame_eq (a := a') (vs := [.pointer (some ⟨q, 0, none⟩), .int .i64 (i : Int), a0.tmps.getD 2 undef, a0.tmps.getD 3 undef, a0.tmps.getD 4 undef, .pointer (some ⟨x.1, 0, none⟩), a0.tmps.getD 6 undef, a0.tmps.getD 7 undef, a0.tmps.getD 8 undef, a0.tmps.getD 9 undef, a0.tmps.getD 10 undef, a0.tmps.getD 11 undef, a0.tmps.getD 12 undef, v13, v14, v15, v16, v17, v18, v19, v20, v21, v22, v23, v24, v25, v26, v27, v28, v29, v30, v31, a0.tmps.getD 32 undef, a0.tmps.getD 33 undef, a0.tmps.getD 34 undef, a0.tmps.getD 35 undef, a0.tmps.getD 36 undef, a0.tmps.getD 37 undef, a0.tmps.getD 38 undef, a0.tmps.getD 39 undef, a0.tmps.getD 40 undef, a0.tmps.getD 41 undef, a0.tmps.getD 42 undef]) (by rw [hb.size, hsz]; rfl) hdf' ⟨((hb.old 0 (by decide +kernel)).trans h0), ((hb.old 1 (by decide +kernel)).trans h1), (hb.old 2 (by decide +kernel)), (hb.old 3 (by decide +kernel)), (hb.old 4 (by decide +kernel)), ((hb.old 5 (by decide +kernel)).trans (by rw [unhide HA0]; rfl)), (hb.old 6 (by decide +kernel)), (hb.old 7 (by decide +kernel)), (hb.old 8 (by decide +kernel)), (hb.old 9 (by decide +kernel)), (hb.old 10 (by decide +kernel)), (hb.old 11 (by decide +kernel)), (hb.old 12 (by decide +kernel)), hv13, hv14, hv15, hv16, hv17, hv18, hv19, hv20, hv21, hv22, hv23, hv24, hv25, hv26, hv27, hv28, hv29, hv30, hv31, (hb.old 32 (by decide +kernel)), (hb.old 33 (by decide +kernel)), (hb.old 34 (by decide +kernel)), (hb.old 35 (by decide +kernel)), (hb.old 36 (by decide +kernel)), (hb.old 37 (by decide +kernel)), (hb.old 38 (by decide +kernel)), (hb.old 39 (by decide +kernel)), (hb.old 40 (by decide +kernel)), (hb.old 41 (by decide +kernel)), (hb.old 42 (by decide +kernel)), trivial⟩
    have HST : Hid (RmPK K wr0 q g R1 R2 c w6) := hide (hs.2 rfl)
    clear hall hb hf hs hv13 hv14 hv15 hv16 hv17 hv18 hv19 hv20 hv21 hv22 hv23 hv24 hv25 hv26 hv27 hv28 hv29 hv30 hv31
    subst hfr
    clear HA0 h0 h1 hsz hdf hdf'
    apply_assumption
    obtain ⟨lv6, hD6, hl6, f6⟩ := unhide HST
    obtain ⟨-, -, d2, -⟩ := hD6.cells
    have hz := frozen_of_heap hD6.heap 2
    obtain ⟨ao6, c6, e6⟩ := hD6.shape
    subst e6
    have hx : ∃ pv, PAt w6 x.1 pv x.2 := by
      obtain ⟨pv, hp⟩ := (unhide HD).pl x (by simp)
      exact ⟨pv, hp.kept f6 (fun e => by have := knd_cells hp.1; rw [show x.1 = q from e, knd_cells (unhide HD).heap] at this; exact absurd this (by decide)) (fun k e => by rw [show k = q from e, knd_cells (unhide HD).heap]; decide)⟩
    have hnd : x.1 ∉ adr (R1 ++ R2) := by
      have := (unhide HD).nd
      unfold adr at *
      simp only [List.map_append, List.map_cons, List.nodup_append, List.nodup_cons] at this
      intro e
      rw [List.map_append] at e
      rcases List.mem_append.1 e with e | e
      · exact this.2.2 _ e _ (List.mem_cons_self ..) rfl
      · exact this.2.1.1 e
    have hnb : (R1 ++ R2).length ≤ 5000 := by have h1 := unhide HNN; have h2 := unhide HNB; simp; omega
    have HROW := hide hD6.row
    have HPF := hide (fun (w8 : World) (o : Obj) (v : Value) ho hg => push_facts (w8 := w8) (o := o) (v := v) hD6 hx hnd ((unhide HD).ok x (by simp)) ho hg)
    have HL6 := hide hl6
    have F6 := hide f6
    obtain ⟨nn, hnn6⟩ : ∃ nn, nn = (R1 ++ R2).length := ⟨_, rfl⟩
    rw [← hnn6] at HROW HPF d2 hnb HL6
    clear hD6 f6 hx hnd hl6 HST hnn6
    obtain ⟨inf, hi0, hz0, hz1, hz2⟩ := info_parts Try.info95
    unfold ptr at *
    go_wp2_with (at_builtin; refine wpList_app rfl (.tmp 36) (.tmp 38) 54 rfl 95 inf _ 1 8 Try.underlying54 hi0 hz0 hz1 hz2 rfl (by decide) (.slice ao6 nn c6) nn _ rfl (.slice (some ⟨w6.heap.size, 0, none⟩) 1 1) rfl 1 [.pointer (some ⟨x.1, 0, none⟩)] ((unhide HROW).alloc _) (one_cellV w6 _ 95) (fun u hu => by simp at hu; subst hu; rfl) (by omega) (by simp only [maxLen]; omega) ?_)
    intro ao8 c8 w8 ho8 hg8 hn8
    obtain ⟨hq8, hz8, hD9, f9⟩ := unhide HPF w8 _ _ (by simpa using ho8) hg8
    have HD9 := hide hD9
    have F9 : Hid (Fr (fun k => k = q) wr0 (w8.setCell ⟨q, 2, none⟩ (.slice ao8 (nn + 1) c8))) := hide ((unhide F6).trans f9 (fun k hk e => by
      rcases e with e | e
      · exact e
      · have := unhide HL6 k e; omega))
    have HL9 : Hid (∀ k, (Value.slice ao8 (nn + 1) c8).ownBlock = some k → wr0.heap.size ≤ k) := hide (fun k hk => by
      rcases hn8 with e | ⟨k2, e, e2⟩
      · exact unhide HL6 k (e ▸ hk)
      · rw [e] at hk; simp at hk e2; have := (unhide F6).size; omega)
    clear ho8 hg8 hn8 hD9 f9 HPF HROW
    go_wp2_with fail
    go_ret
    exact ⟨rfl, ⟨_, unhide HD9, unhide HL9⟩, unhide F9⟩
end
end Go.Proofs.Ytdgmlopaeonacaa
