/-
  The walk of the law's own 'reads': a step on both readers; the kinds whose operations come in the order of the text.
-/
import Derived.Test.YtmnbdpdblpgnlaaQr4
import Derived.Test.YtmnbdpdblpgnlaaGet2
import Derived.Test.YtmnbdpdblpgnlaaSame
import Derived.Test.YtmnbdpdblpgnlaaLc
import Derived.Deep.RegionWith
namespace Go.Proofs.Ytmnbdpdblpgnlaa
open Go.RowKit
set_option linter.unusedVariables false

attribute [local go_sem ↓] Go.wp_at_zero Go.wp_at_succ

/-- The two readers lie apart. -/
theorem rq_apart {w : World} {p : Nat} {q : Option Nat} {D : List UInt8} {a : Nat} {E : Int} {p2 : Nat} {q2 : Option Nat} {D2 : List UInt8} {a2 : Nat} {E2 : Int} (h : RAt w p q D a E) (k : QAt w p2 q2 D2 a2 E2) : ¬ p2 = p ∧ (∀ j, q = some j → ¬ j = p2) ∧ (∀ j, q2 = some j → ¬ j = p) := by
  obtain ⟨v, h1, h2, h3, _⟩ := h
  obtain ⟨u, k1, k2, k3, _⟩ := k
  refine ⟨fun e => by subst e; rw [h1] at k1; simp at k1, fun j hj e => ?_, fun j hj e => ?_⟩
  · subst h2 e
    rcases h3.2 with ⟨rfl, _⟩ | ⟨g, cap, cur, rfl, _, hg, _⟩
    · simp [Value.ownBlock] at hj
    · simp only [Value.ownBlock, Option.some.injEq] at hj
      subst hj; rw [hg] at k1; simp at k1
  · subst k2 e
    rcases k3.2 with ⟨rfl, _⟩ | ⟨g, cap, cur, rfl, _, hg, _⟩
    · simp [Value.ownBlock] at hj
    · simp only [Value.ownBlock, Option.some.injEq] at hj
      subst hj; rw [hg] at h1; simp at h1

/-- What a step leaves: both readers at the same place, with the same error. -/
def ReadSaid (w w' : World) (p : Nat) (q : Option Nat) (p2 : Nat) (q2 : Option Nat) (D : List UInt8) : Prop :=
  ∃ a' E', RAt w' p q D a' E' ∧ QAt w' p2 q2 D a' E' ∧ Fr (fun k => k = p ∨ k = p2) w w'

theorem rdv_self {w w' : World} {v : Value} {l : List ByteArray} (hl : (svs l).length = l.length) (h : LAt w w' 9 v l.length (svs l)) : RdV w' v (svs l) := by
  have hx := h.1
  rw [← hl] at hx
  exact RdV.of_owns hx

theorem rdv_of {w w1 w2 : World} {v : Value} {l : List ByteArray} {p : Nat} (hl : (svs l).length = l.length) (h : LAt w w1 9 v l.length (svs l)) (f : Fr (fun k => k = p) w1 w2) (hn : ∀ k, v.ownBlock = some k → ¬ k = p) : RdV w2 v (svs l) := (rdv_self hl h).kept f hn

theorem Fr.or1 {w w' : World} {p p2 : Nat} (h : Fr (fun k => k = p) w w') : Fr (fun k => k = p ∨ k = p2) w w' := h.mono (fun _ _ e => .inl e)
theorem Fr.or2 {w w' : World} {p p2 : Nat} (h : Fr (fun k => k = p2) w w') : Fr (fun k => k = p ∨ k = p2) w w' := h.mono (fun _ _ e => .inr e)

set_option maxHeartbeats 2000000 in
set_option maxRecDepth 100000 in
theorem re1 (w : World) (p : Nat) (q : Option Nat) (p2 : Nat) (q2 : Option Nat) (D : List UInt8) (a : Nat) (E : Int) (n most : Int) (pv lv tv : Value) (h1 : RAt w p q D a E) (h2 : QAt w p2 q2 D a E) (hn : 0 ≤ n ∧ n < 18446744073709551616) (hm : -9223372036854775808 ≤ most ∧ most ≤ 9223372036854775807) (hD : D.length ≤ 1048576) :
    Calls Try.prog 17 #[.pointer (some ⟨p, 0, none⟩), .pointer (some ⟨p2, 0, none⟩), .agg #[.int .i64 1, .int .u64 n, pv, .int .i64 most, lv, tv]] w fun e w' => e = .returned (.bool true) ∧ ReadSaid w w' p q p2 q2 D := by
  have hml : D.length ≤ maxLen := by unfold maxLen; omega
  have hap := rq_apart h1 h2
  have l1 := h1.lt
  have l2 := h2.lt
  have f0 : Fr (fun k => k = p ∨ k = p2) w (w.alloc (Obj.cells #[Value.int IntKind.i64 1, Value.int IntKind.u64 n, pv, Value.int IntKind.i64 most, lv, tv] 35)) := (Fr.refl _ _).alloc _
  have r0 := h1.kept ((Fr.refl (fun _ => False) w).alloc (Obj.cells #[Value.int IntKind.i64 1, Value.int IntKind.u64 n, pv, Value.int IntKind.i64 most, lv, tv] 35)) id (fun _ _ h => h)
  have s0 := h2.kept ((Fr.refl (fun _ => False) w).alloc (Obj.cells #[Value.int IntKind.i64 1, Value.int IntKind.u64 n, pv, Value.int IntKind.i64 most, lv, tv] 35)) id (fun _ _ h => h)
  have hX := heap_alloc_new w (Obj.cells #[Value.int IntKind.i64 1, Value.int IntKind.u64 n, pv, Value.int IntKind.i64 most, lv, tv] 35)
  have HX := hide hX
  clear h1 h2 hX
  have HC := hide (rint_any _ p q D a E r0 hml)
  go_enter Try.func17, Try.ntmps17
  go_wp2_with fail
  refine (unhide HC).mono ?_
  rintro e w1 ⟨rfl, r1, f1⟩
  have s1 := s0.kept f1 hap.1 hap.2.2
  have HC2 := hide (quint_any _ p2 q2 D a E s1 (by omega))
  clear s0 HC
  go_wp2_with fail
  refine (unhide HC2).mono ?_
  rintro e w2 ⟨rfl, s2, f2⟩
  have r2 := r1.kept f2 (fun e => hap.1 e.symm) hap.2.1
  go_wp2_with fail
  go_ret
  exact ⟨by simp, _, _, r2, s2, (f0.trans f1.or1 (fun _ _ h => h)).trans f2.or2 (fun _ _ h => h)⟩


set_option maxHeartbeats 2000000 in
set_option maxRecDepth 100000 in
theorem re2 (w : World) (p : Nat) (q : Option Nat) (p2 : Nat) (q2 : Option Nat) (D : List UInt8) (a : Nat) (E : Int) (n most : Int) (pv lv tv : Value) (h1 : RAt w p q D a E) (h2 : QAt w p2 q2 D a E) (hn : 0 ≤ n ∧ n < 18446744073709551616) (hm : -9223372036854775808 ≤ most ∧ most ≤ 9223372036854775807) (hD : D.length ≤ 1048576) :
    Calls Try.prog 17 #[.pointer (some ⟨p, 0, none⟩), .pointer (some ⟨p2, 0, none⟩), .agg #[.int .i64 2, .int .u64 n, pv, .int .i64 most, lv, tv]] w fun e w' => e = .returned (.bool true) ∧ ReadSaid w w' p q p2 q2 D := by
  have hml : D.length ≤ maxLen := by unfold maxLen; omega
  have hap := rq_apart h1 h2
  have l1 := h1.lt
  have l2 := h2.lt
  have f0 : Fr (fun k => k = p ∨ k = p2) w (w.alloc (Obj.cells #[Value.int IntKind.i64 2, Value.int IntKind.u64 n, pv, Value.int IntKind.i64 most, lv, tv] 35)) := (Fr.refl _ _).alloc _
  have r0 := h1.kept ((Fr.refl (fun _ => False) w).alloc (Obj.cells #[Value.int IntKind.i64 2, Value.int IntKind.u64 n, pv, Value.int IntKind.i64 most, lv, tv] 35)) id (fun _ _ h => h)
  have s0 := h2.kept ((Fr.refl (fun _ => False) w).alloc (Obj.cells #[Value.int IntKind.i64 2, Value.int IntKind.u64 n, pv, Value.int IntKind.i64 most, lv, tv] 35)) id (fun _ _ h => h)
  have hX := heap_alloc_new w (Obj.cells #[Value.int IntKind.i64 2, Value.int IntKind.u64 n, pv, Value.int IntKind.i64 most, lv, tv] 35)
  have HX := hide hX
  clear h1 h2 hX
  have HC := hide (rhyper_any _ p q D a E r0 hml)
  go_enter Try.func17, Try.ntmps17
  go_wp2_with fail
  refine (unhide HC).mono ?_
  rintro e w1 ⟨rfl, r1, f1⟩
  have s1 := s0.kept f1 hap.1 hap.2.2
  have HC2 := hide (qhyper_any _ p2 q2 D a E s1 (by omega))
  clear s0 HC
  go_wp2_with fail
  refine (unhide HC2).mono ?_
  rintro e w2 ⟨rfl, s2, f2⟩
  have r2 := r1.kept f2 (fun e => hap.1 e.symm) hap.2.1
  go_wp2_with fail
  go_ret
  exact ⟨by simp, _, _, r2, s2, (f0.trans f1.or1 (fun _ _ h => h)).trans f2.or2 (fun _ _ h => h)⟩


set_option maxHeartbeats 2000000 in
set_option maxRecDepth 100000 in
theorem re3 (w : World) (p : Nat) (q : Option Nat) (p2 : Nat) (q2 : Option Nat) (D : List UInt8) (a : Nat) (E : Int) (n most : Int) (pv lv tv : Value) (h1 : RAt w p q D a E) (h2 : QAt w p2 q2 D a E) (hn : 0 ≤ n ∧ n < 18446744073709551616) (hm : -9223372036854775808 ≤ most ∧ most ≤ 9223372036854775807) (hD : D.length ≤ 1048576) :
    Calls Try.prog 17 #[.pointer (some ⟨p, 0, none⟩), .pointer (some ⟨p2, 0, none⟩), .agg #[.int .i64 3, .int .u64 n, pv, .int .i64 most, lv, tv]] w fun e w' => e = .returned (.bool true) ∧ ReadSaid w w' p q p2 q2 D := by
  have hml : D.length ≤ maxLen := by unfold maxLen; omega
  have hap := rq_apart h1 h2
  have l1 := h1.lt
  have l2 := h2.lt
  have f0 : Fr (fun k => k = p ∨ k = p2) w (w.alloc (Obj.cells #[Value.int IntKind.i64 3, Value.int IntKind.u64 n, pv, Value.int IntKind.i64 most, lv, tv] 35)) := (Fr.refl _ _).alloc _
  have r0 := h1.kept ((Fr.refl (fun _ => False) w).alloc (Obj.cells #[Value.int IntKind.i64 3, Value.int IntKind.u64 n, pv, Value.int IntKind.i64 most, lv, tv] 35)) id (fun _ _ h => h)
  have s0 := h2.kept ((Fr.refl (fun _ => False) w).alloc (Obj.cells #[Value.int IntKind.i64 3, Value.int IntKind.u64 n, pv, Value.int IntKind.i64 most, lv, tv] 35)) id (fun _ _ h => h)
  have hX := heap_alloc_new w (Obj.cells #[Value.int IntKind.i64 3, Value.int IntKind.u64 n, pv, Value.int IntKind.i64 most, lv, tv] 35)
  have HX := hide hX
  clear h1 h2 hX
  have HC := hide (rbool_any _ p q D a E r0 hml)
  go_enter Try.func17, Try.ntmps17
  go_wp2_with fail
  refine (unhide HC).mono ?_
  rintro e w1 ⟨rfl, r1, f1⟩
  have s1 := s0.kept f1 hap.1 hap.2.2
  have HC2 := hide (qbool_any _ p2 q2 D a E s1 (by omega))
  clear s0 HC
  go_wp2_with fail
  refine (unhide HC2).mono ?_
  rintro e w2 ⟨rfl, s2, f2⟩
  have r2 := r1.kept f2 (fun e => hap.1 e.symm) hap.2.1
  go_wp2_with fail
  go_ret
  exact ⟨by simp, _, _, r2, s2, (f0.trans f1.or1 (fun _ _ h => h)).trans f2.or2 (fun _ _ h => h)⟩


set_option maxHeartbeats 2000000 in
set_option maxRecDepth 100000 in
theorem reX (w : World) (p : Nat) (q : Option Nat) (p2 : Nat) (q2 : Option Nat) (D : List UInt8) (a : Nat) (E : Int) (n most : Int) (pv lv tv : Value) (h1 : RAt w p q D a E) (h2 : QAt w p2 q2 D a E) (hn : 0 ≤ n ∧ n < 18446744073709551616) (hm : -9223372036854775808 ≤ most ∧ most ≤ 9223372036854775807) (hD : D.length ≤ 1048576) (K : Int) (hK : K ≠ 1 ∧ K ≠ 2 ∧ K ≠ 3 ∧ K ≠ 4 ∧ K ≠ 5 ∧ K ≠ 6 ∧ K ≠ 7 ∧ K ≠ 8 ∧ K ≠ 9 ∧ K ≠ 10 ∧ K ≠ 11) :
    Calls Try.prog 17 #[.pointer (some ⟨p, 0, none⟩), .pointer (some ⟨p2, 0, none⟩), .agg #[.int .i64 K, .int .u64 n, pv, .int .i64 most, lv, tv]] w fun e w' => e = .returned (.bool true) ∧ ReadSaid w w' p q p2 q2 D := by
  have hml : D.length ≤ maxLen := by unfold maxLen; omega
  have hap := rq_apart h1 h2
  have l1 := h1.lt
  have l2 := h2.lt
  have f0 : Fr (fun k => k = p ∨ k = p2) w (w.alloc (Obj.cells #[Value.int IntKind.i64 K, Value.int IntKind.u64 n, pv, Value.int IntKind.i64 most, lv, tv] 35)) := (Fr.refl _ _).alloc _
  have r0 := h1.kept ((Fr.refl (fun _ => False) w).alloc (Obj.cells #[Value.int IntKind.i64 K, Value.int IntKind.u64 n, pv, Value.int IntKind.i64 most, lv, tv] 35)) id (fun _ _ h => h)
  have s0 := h2.kept ((Fr.refl (fun _ => False) w).alloc (Obj.cells #[Value.int IntKind.i64 K, Value.int IntKind.u64 n, pv, Value.int IntKind.i64 most, lv, tv] 35)) id (fun _ _ h => h)
  have hX := heap_alloc_new w (Obj.cells #[Value.int IntKind.i64 K, Value.int IntKind.u64 n, pv, Value.int IntKind.i64 most, lv, tv] 35)
  have HX := hide hX
  clear h1 h2 hX
  have n1 : (K == 1) = false := by simpa using hK.1
  have n2 : (K == 2) = false := by simpa using hK.2.1
  have n3 : (K == 3) = false := by simpa using hK.2.2.1
  have n4 : (K == 4) = false := by simpa using hK.2.2.2.1
  have n5 : (K == 5) = false := by simpa using hK.2.2.2.2.1
  have n6 : (K == 6) = false := by simpa using hK.2.2.2.2.2.1
  have n7 : (K == 7) = false := by simpa using hK.2.2.2.2.2.2.1
  have n8 : (K == 8) = false := by simpa using hK.2.2.2.2.2.2.2.1
  have n9 : (K == 9) = false := by simpa using hK.2.2.2.2.2.2.2.2.1
  have n10 : (K == 10) = false := by simpa using hK.2.2.2.2.2.2.2.2.2.1
  have n11 : (K == 11) = false := by simpa using hK.2.2.2.2.2.2.2.2.2.2
  clear hK
  have HC := hide (ruint_any _ p q D a E r0 hml)
  go_enter Try.func17, Try.ntmps17
  go_wp2_with fail
  refine (unhide HC).mono ?_
  rintro e w1 ⟨rfl, r1, f1⟩
  have s1 := s0.kept f1 hap.1 hap.2.2
  have HC2 := hide (quint_any _ p2 q2 D a E s1 (by omega))
  clear s0 HC
  go_wp2_with fail
  refine (unhide HC2).mono ?_
  rintro e w2 ⟨rfl, s2, f2⟩
  have r2 := r1.kept f2 (fun e => hap.1 e.symm) hap.2.1
  go_wp2_with fail
  go_ret
  exact ⟨by simp, _, _, r2, s2, (f0.trans f1.or1 (fun _ _ h => h)).trans f2.or2 (fun _ _ h => h)⟩


set_option maxHeartbeats 2000000 in
set_option maxRecDepth 100000 in
theorem re4 (w : World) (p : Nat) (q : Option Nat) (p2 : Nat) (q2 : Option Nat) (D : List UInt8) (a : Nat) (E : Int) (n most : Int) (pv lv tv : Value) (h1 : RAt w p q D a E) (h2 : QAt w p2 q2 D a E) (hn : 0 ≤ n ∧ n < 18446744073709551616) (hm : -9223372036854775808 ≤ most ∧ most ≤ 9223372036854775807) (hD : D.length ≤ 1048576) :
    Calls Try.prog 17 #[.pointer (some ⟨p, 0, none⟩), .pointer (some ⟨p2, 0, none⟩), .agg #[.int .i64 4, .int .u64 n, pv, .int .i64 most, lv, tv]] w fun e w' => e = .returned (.bool true) ∧ ReadSaid w w' p q p2 q2 D := by
  have hml : D.length ≤ maxLen := by unfold maxLen; omega
  have hap := rq_apart h1 h2
  have l1 := h1.lt
  have l2 := h2.lt
  have f0 : Fr (fun k => k = p ∨ k = p2) w (w.alloc (Obj.cells #[Value.int IntKind.i64 4, Value.int IntKind.u64 n, pv, Value.int IntKind.i64 most, lv, tv] 35)) := (Fr.refl _ _).alloc _
  have r0 := h1.kept ((Fr.refl (fun _ => False) w).alloc (Obj.cells #[Value.int IntKind.i64 4, Value.int IntKind.u64 n, pv, Value.int IntKind.i64 most, lv, tv] 35)) id (fun _ _ h => h)
  have s0 := h2.kept ((Fr.refl (fun _ => False) w).alloc (Obj.cells #[Value.int IntKind.i64 4, Value.int IntKind.u64 n, pv, Value.int IntKind.i64 most, lv, tv] 35)) id (fun _ _ h => h)
  have hX := heap_alloc_new w (Obj.cells #[Value.int IntKind.i64 4, Value.int IntKind.u64 n, pv, Value.int IntKind.i64 most, lv, tv] 35)
  have HX := hide hX
  clear h1 h2 hX
  have c3 : (w.alloc (Obj.cells #[Value.int IntKind.i64 4, Value.int IntKind.u64 n, pv, Value.int IntKind.i64 most, lv, tv] 35)).cell? ⟨w.heap.size, 3, none⟩ = some (.int .i64 most) := by rw [cell_of_heap (unhide HX)]; rfl
  have HC := hide (fun wx (f : Fr (fun _ => False) (w.alloc (Obj.cells #[Value.int IntKind.i64 4, Value.int IntKind.u64 n, pv, Value.int IntKind.i64 most, lv, tv] 35)) wx) => rfixed_any wx p q D a E most (r0.kept f id (fun _ _ h => h)) hm.2 (by omega))
  have HC2 := hide (fun w1 (s1 : QAt w1 p2 q2 D a E) => qfixed_any w1 p2 q2 D a E most s1 hm.2 (by omega))
  have HS := hide s0
  clear s0 r0
  generalize tk D a E most a = T at *
  obtain ⟨l, a1, E1⟩ := T
  dsimp only at *
  go_enter Try.func17, Try.ntmps17
  go_wp2_with fail
  go_region_with ((first | (go_at_call 40; refine (unhide HC _ (by first | exact (Fr.refl _ _).drew | exact Fr.refl _ _)).mono ?_; rintro e w1 ⟨v1, rfl, o1, n1, r1, f1⟩; have kc1 := conv_rd (P := Try.prog) (Rd.of_owns o1) 28 9 5 Try.underlying28 Try.underlying5 Try.underlying9; have c3' : w1.cell? ⟨w.heap.size, 3, none⟩ = some (Value.int IntKind.i64 most) := (by rw [f1.drewL.cell (a := ⟨w.heap.size, 3, none⟩) (by simp) (by intro e; dsimp only at e; omega)]; exact c3); obtain ⟨ao1, cap1, rfl⟩ := owns_shape o1) | (go_at_call 62; refine (unhide HC2 _ ((unhide HS).kept f1.drewL hap.1 hap.2.2)).mono ?_; rintro e w2 ⟨v2, rfl, b2, s2, f2⟩; have kc2 := conv_rd (P := Try.prog) (Rd.of_owns b2.1) 28 9 5 Try.underlying28 Try.underlying5 Try.underlying9; have kc3 := conv_rd (P := Try.prog) ((Rd.of_owns o1).kept f2 (fun j hj e => by have := n1 j hj; simp at this; omega)) 28 9 5 Try.underlying28 Try.underlying5 Try.underlying9; obtain ⟨ao2, cap2, rfl⟩ := owns_shape b2.1)))
  all_goals
    go_wp2_with fail
    go_ret
    have r2 := r1.kept f2 (fun e => hap.1 e.symm) hap.2.1
    exact ⟨rfl, _, _, r2, s2, (f0.trans f1.drewL.or1 (fun _ _ h => h)).trans f2.or2 (fun _ _ h => h)⟩


set_option maxHeartbeats 2000000 in
set_option maxRecDepth 100000 in
theorem re5 (w : World) (p : Nat) (q : Option Nat) (p2 : Nat) (q2 : Option Nat) (D : List UInt8) (a : Nat) (E : Int) (n most : Int) (pv lv tv : Value) (h1 : RAt w p q D a E) (h2 : QAt w p2 q2 D a E) (hn : 0 ≤ n ∧ n < 18446744073709551616) (hm : -9223372036854775808 ≤ most ∧ most ≤ 9223372036854775807) (hD : D.length ≤ 1048576) :
    Calls Try.prog 17 #[.pointer (some ⟨p, 0, none⟩), .pointer (some ⟨p2, 0, none⟩), .agg #[.int .i64 5, .int .u64 n, pv, .int .i64 most, lv, tv]] w fun e w' => e = .returned (.bool true) ∧ ReadSaid w w' p q p2 q2 D := by
  have hml : D.length ≤ maxLen := by unfold maxLen; omega
  have hap := rq_apart h1 h2
  have l1 := h1.lt
  have l2 := h2.lt
  have f0 : Fr (fun k => k = p ∨ k = p2) w (w.alloc (Obj.cells #[Value.int IntKind.i64 5, Value.int IntKind.u64 n, pv, Value.int IntKind.i64 most, lv, tv] 35)) := (Fr.refl _ _).alloc _
  have r0 := h1.kept ((Fr.refl (fun _ => False) w).alloc (Obj.cells #[Value.int IntKind.i64 5, Value.int IntKind.u64 n, pv, Value.int IntKind.i64 most, lv, tv] 35)) id (fun _ _ h => h)
  have s0 := h2.kept ((Fr.refl (fun _ => False) w).alloc (Obj.cells #[Value.int IntKind.i64 5, Value.int IntKind.u64 n, pv, Value.int IntKind.i64 most, lv, tv] 35)) id (fun _ _ h => h)
  have hX := heap_alloc_new w (Obj.cells #[Value.int IntKind.i64 5, Value.int IntKind.u64 n, pv, Value.int IntKind.i64 most, lv, tv] 35)
  have HX := hide hX
  clear h1 h2 hX
  have c3 : (w.alloc (Obj.cells #[Value.int IntKind.i64 5, Value.int IntKind.u64 n, pv, Value.int IntKind.i64 most, lv, tv] 35)).cell? ⟨w.heap.size, 3, none⟩ = some (.int .i64 most) := by rw [cell_of_heap (unhide HX)]; rfl
  have HC := hide (fun wx (f : Fr (fun _ => False) (w.alloc (Obj.cells #[Value.int IntKind.i64 5, Value.int IntKind.u64 n, pv, Value.int IntKind.i64 most, lv, tv] 35)) wx) => ropaque_any wx p q D a E most (r0.kept f id (fun _ _ h => h)) (by omega))
  have HC2 := hide (fun w1 (s1 : QAt w1 p2 q2 D a E) => qopaque_any w1 p2 q2 D a E most s1 hm.1 hm.2 (by omega))
  have HS := hide s0
  clear s0 r0
  generalize rcnt D a E most = T at *
  obtain ⟨l, a1, E1⟩ := T
  dsimp only at *
  go_enter Try.func17, Try.ntmps17
  go_wp2_with fail
  go_region_with ((first | (go_at_call 52; refine (unhide HC _ (by first | exact (Fr.refl _ _).drew | exact Fr.refl _ _)).mono ?_; rintro e w1 ⟨v1, rfl, o1, n1, r1, f1⟩; have kc1 := conv_rd (P := Try.prog) (Rd.of_owns o1) 28 9 5 Try.underlying28 Try.underlying5 Try.underlying9; have c3' : w1.cell? ⟨w.heap.size, 3, none⟩ = some (Value.int IntKind.i64 most) := (by rw [f1.drewL.cell (a := ⟨w.heap.size, 3, none⟩) (by simp) (by intro e; dsimp only at e; omega)]; exact c3); obtain ⟨ao1, cap1, rfl⟩ := owns_shape o1) | (go_at_call 63; refine (unhide HC2 _ ((unhide HS).kept f1.drewL hap.1 hap.2.2)).mono ?_; rintro e w2 ⟨v2, rfl, b2, s2, f2⟩; have kc2 := conv_rd (P := Try.prog) (Rd.of_owns b2.1) 28 9 5 Try.underlying28 Try.underlying5 Try.underlying9; have kc3 := conv_rd (P := Try.prog) ((Rd.of_owns o1).kept f2 (fun j hj e => by have := n1 j hj; simp at this; omega)) 28 9 5 Try.underlying28 Try.underlying5 Try.underlying9; obtain ⟨ao2, cap2, rfl⟩ := owns_shape b2.1)))
  all_goals
    go_wp2_with fail
    go_ret
    have r2 := r1.kept f2 (fun e => hap.1 e.symm) hap.2.1
    exact ⟨rfl, _, _, r2, s2, (f0.trans f1.drewL.or1 (fun _ _ h => h)).trans f2.or2 (fun _ _ h => h)⟩


set_option maxHeartbeats 2000000 in
set_option maxRecDepth 100000 in
theorem re6 (w : World) (p : Nat) (q : Option Nat) (p2 : Nat) (q2 : Option Nat) (D : List UInt8) (a : Nat) (E : Int) (n most : Int) (pv lv tv : Value) (h1 : RAt w p q D a E) (h2 : QAt w p2 q2 D a E) (hn : 0 ≤ n ∧ n < 18446744073709551616) (hm : -9223372036854775808 ≤ most ∧ most ≤ 9223372036854775807) (hD : D.length ≤ 1048576) :
    Calls Try.prog 17 #[.pointer (some ⟨p, 0, none⟩), .pointer (some ⟨p2, 0, none⟩), .agg #[.int .i64 6, .int .u64 n, pv, .int .i64 most, lv, tv]] w fun e w' => e = .returned (.bool true) ∧ ReadSaid w w' p q p2 q2 D := by
  have hml : D.length ≤ maxLen := by unfold maxLen; omega
  have hap := rq_apart h1 h2
  have l1 := h1.lt
  have l2 := h2.lt
  have f0 : Fr (fun k => k = p ∨ k = p2) w (w.alloc (Obj.cells #[Value.int IntKind.i64 6, Value.int IntKind.u64 n, pv, Value.int IntKind.i64 most, lv, tv] 35)) := (Fr.refl _ _).alloc _
  have r0 := h1.kept ((Fr.refl (fun _ => False) w).alloc (Obj.cells #[Value.int IntKind.i64 6, Value.int IntKind.u64 n, pv, Value.int IntKind.i64 most, lv, tv] 35)) id (fun _ _ h => h)
  have s0 := h2.kept ((Fr.refl (fun _ => False) w).alloc (Obj.cells #[Value.int IntKind.i64 6, Value.int IntKind.u64 n, pv, Value.int IntKind.i64 most, lv, tv] 35)) id (fun _ _ h => h)
  have hX := heap_alloc_new w (Obj.cells #[Value.int IntKind.i64 6, Value.int IntKind.u64 n, pv, Value.int IntKind.i64 most, lv, tv] 35)
  have HX := hide hX
  clear h1 h2 hX
  have c3 : (w.alloc (Obj.cells #[Value.int IntKind.i64 6, Value.int IntKind.u64 n, pv, Value.int IntKind.i64 most, lv, tv] 35)).cell? ⟨w.heap.size, 3, none⟩ = some (.int .i64 most) := by rw [cell_of_heap (unhide HX)]; rfl
  have HC := hide (fun wx (f : Fr (fun _ => False) (w.alloc (Obj.cells #[Value.int IntKind.i64 6, Value.int IntKind.u64 n, pv, Value.int IntKind.i64 most, lv, tv] 35)) wx) => rtext_any wx p q D a E most (r0.kept f id (fun _ _ h => h)) hml)
  have HC2 := hide (fun w1 (s1 : QAt w1 p2 q2 D a E) => qopaque_any w1 p2 q2 D a E most s1 hm.1 hm.2 (by omega))
  have HS := hide s0
  clear s0 r0
  generalize rcnt D a E most = T at *
  obtain ⟨l, a1, E1⟩ := T
  dsimp only at *
  go_enter Try.func17, Try.ntmps17
  go_wp2_with fail
  go_region_with ((first | (go_at_call 39; refine (unhide HC _ (by first | exact (Fr.refl _ _).drew | exact Fr.refl _ _)).mono ?_; rintro e w1 ⟨rfl, r1, f1⟩; have c3' : w1.cell? ⟨w.heap.size, 3, none⟩ = some (Value.int IntKind.i64 most) := (by rw [f1.drewL.cell (a := ⟨w.heap.size, 3, none⟩) (by simp) (by intro e; dsimp only at e; omega)]; exact c3)) | (go_at_call 63; refine (unhide HC2 _ ((unhide HS).kept f1.drewL hap.1 hap.2.2)).mono ?_; rintro e w2 ⟨v2, rfl, b2, s2, f2⟩; have kc2 := conv_rd (P := Try.prog) (Rd.of_owns b2.1) 28 9 5 Try.underlying28 Try.underlying5 Try.underlying9; obtain ⟨ao2, cap2, rfl⟩ := owns_shape b2.1)))
  all_goals
    go_wp2_with fail
    go_ret
    have r2 := r1.kept f2 (fun e => hap.1 e.symm) hap.2.1
    exact ⟨rfl, _, _, r2, s2, (f0.trans f1.drewL.or1 (fun _ _ h => h)).trans f2.or2 (fun _ _ h => h)⟩


set_option maxHeartbeats 2000000 in
set_option maxRecDepth 100000 in
theorem re7 (w : World) (p : Nat) (q : Option Nat) (p2 : Nat) (q2 : Option Nat) (D : List UInt8) (a : Nat) (E : Int) (n most : Int) (pv lv tv : Value) (h1 : RAt w p q D a E) (h2 : QAt w p2 q2 D a E) (hn : 0 ≤ n ∧ n < 18446744073709551616) (hm : -9223372036854775808 ≤ most ∧ most ≤ 9223372036854775807) (hD : D.length ≤ 1048576) :
    Calls Try.prog 17 #[.pointer (some ⟨p, 0, none⟩), .pointer (some ⟨p2, 0, none⟩), .agg #[.int .i64 7, .int .u64 n, pv, .int .i64 most, lv, tv]] w fun e w' => e = .returned (.bool true) ∧ ReadSaid w w' p q p2 q2 D := by
  have hml : D.length ≤ maxLen := by unfold maxLen; omega
  have hap := rq_apart h1 h2
  have l1 := h1.lt
  have l2 := h2.lt
  have f0 : Fr (fun k => k = p ∨ k = p2) w (w.alloc (Obj.cells #[Value.int IntKind.i64 7, Value.int IntKind.u64 n, pv, Value.int IntKind.i64 most, lv, tv] 35)) := (Fr.refl _ _).alloc _
  have r0 := h1.kept ((Fr.refl (fun _ => False) w).alloc (Obj.cells #[Value.int IntKind.i64 7, Value.int IntKind.u64 n, pv, Value.int IntKind.i64 most, lv, tv] 35)) id (fun _ _ h => h)
  have s0 := h2.kept ((Fr.refl (fun _ => False) w).alloc (Obj.cells #[Value.int IntKind.i64 7, Value.int IntKind.u64 n, pv, Value.int IntKind.i64 most, lv, tv] 35)) id (fun _ _ h => h)
  have hX := heap_alloc_new w (Obj.cells #[Value.int IntKind.i64 7, Value.int IntKind.u64 n, pv, Value.int IntKind.i64 most, lv, tv] 35)
  have HX := hide hX
  clear h1 h2 hX
  have c1 : (w.alloc (Obj.cells #[Value.int IntKind.i64 7, Value.int IntKind.u64 n, pv, Value.int IntKind.i64 most, lv, tv] 35)).cell? ⟨w.heap.size, 1, none⟩ = some (.int .u64 n) := by rw [cell_of_heap (unhide HX)]; rfl
  have HC := hide (fun wx (f : Fr (fun _ => False) (w.alloc (Obj.cells #[Value.int IntKind.i64 7, Value.int IntKind.u64 n, pv, Value.int IntKind.i64 most, lv, tv] 35)) wx) => renum_any wx p q D a E (n % 4294967296) (r0.kept f id (fun _ _ h => h)) hml (by omega))
  have HC2 := hide (fun w1 (s1 : QAt w1 p2 q2 D a E) => qenum_any w1 p2 q2 D a E (n % 4294967296) s1 (by omega) (by omega))
  have HS := hide s0
  clear s0 r0
  generalize rup D a E (n % 4294967296) 12 = T at *
  obtain ⟨l, a1, E1⟩ := T
  dsimp only at *
  go_enter Try.func17, Try.ntmps17
  go_wp2_with fail
  go_region_with ((first | (go_at_call 51; refine (unhide HC _ (by first | exact (Fr.refl _ _).drew | exact Fr.refl _ _)).mono ?_; rintro e w1 ⟨rfl, r1, f1⟩; have c1' : w1.cell? ⟨w.heap.size, 1, none⟩ = some (Value.int IntKind.u64 n) := (by rw [f1.drewL.cell (a := ⟨w.heap.size, 1, none⟩) (by simp) (by intro e; dsimp only at e; omega)]; exact c1)) | (go_at_call 64; refine (unhide HC2 _ ((unhide HS).kept f1.drewL hap.1 hap.2.2)).mono ?_; rintro e w2 ⟨rfl, s2, f2⟩)))
  all_goals
    go_wp2_with fail
    go_ret
    have r2 := r1.kept f2 (fun e => hap.1 e.symm) hap.2.1
    exact ⟨rfl, _, _, r2, s2, (f0.trans f1.drewL.or1 (fun _ _ h => h)).trans f2.or2 (fun _ _ h => h)⟩


set_option maxHeartbeats 2000000 in
set_option maxRecDepth 100000 in
theorem re8 (w : World) (p : Nat) (q : Option Nat) (p2 : Nat) (q2 : Option Nat) (D : List UInt8) (a : Nat) (E : Int) (n most : Int) (pv lv tv : Value) (h1 : RAt w p q D a E) (h2 : QAt w p2 q2 D a E) (hn : 0 ≤ n ∧ n < 18446744073709551616) (hm : -9223372036854775808 ≤ most ∧ most ≤ 9223372036854775807) (hD : D.length ≤ 1048576) :
    Calls Try.prog 17 #[.pointer (some ⟨p, 0, none⟩), .pointer (some ⟨p2, 0, none⟩), .agg #[.int .i64 8, .int .u64 n, pv, .int .i64 most, lv, tv]] w fun e w' => e = .returned (.bool true) ∧ ReadSaid w w' p q p2 q2 D := by
  have hml : D.length ≤ maxLen := by unfold maxLen; omega
  have hap := rq_apart h1 h2
  have l1 := h1.lt
  have l2 := h2.lt
  have f0 : Fr (fun k => k = p ∨ k = p2) w (w.alloc (Obj.cells #[Value.int IntKind.i64 8, Value.int IntKind.u64 n, pv, Value.int IntKind.i64 most, lv, tv] 35)) := (Fr.refl _ _).alloc _
  have r0 := h1.kept ((Fr.refl (fun _ => False) w).alloc (Obj.cells #[Value.int IntKind.i64 8, Value.int IntKind.u64 n, pv, Value.int IntKind.i64 most, lv, tv] 35)) id (fun _ _ h => h)
  have s0 := h2.kept ((Fr.refl (fun _ => False) w).alloc (Obj.cells #[Value.int IntKind.i64 8, Value.int IntKind.u64 n, pv, Value.int IntKind.i64 most, lv, tv] 35)) id (fun _ _ h => h)
  have hX := heap_alloc_new w (Obj.cells #[Value.int IntKind.i64 8, Value.int IntKind.u64 n, pv, Value.int IntKind.i64 most, lv, tv] 35)
  have HX := hide hX
  clear h1 h2 hX
  have HC := hide (qlistN_any _ p2 q2 D a E most s0 hm (by omega))
  have HC2 := hide (fun w1 (s1 : RAt w1 p q D a E) => listN_any w1 p q D a E most s1 hml)
  have HS := hide r0
  clear s0 r0
  generalize rlistN D a E most = T at *
  obtain ⟨l, a1, E1⟩ := T
  dsimp only at *
  go_enter Try.func17, Try.ntmps17
  go_wp2_with fail
  refine (unhide HC).mono ?_
  rintro e w1 ⟨v1, rfl, b1, s1, f1⟩
  have hX1 : w1.heap[w.heap.size]? = some (Obj.cells #[Value.int IntKind.i64 8, Value.int IntKind.u64 n, pv, Value.int IntKind.i64 most, lv, tv] 35) := by rw [f1.block w.heap.size (by simp) (by omega)]; exact unhide HX
  have c3 : w1.cell? ⟨w.heap.size, 3, none⟩ = some (Value.int IntKind.i64 most) := by rw [cell_of_heap hX1]; rfl
  have r1 := (unhide HS).kept f1 (fun e => hap.1 e.symm) hap.2.1
  have HC3 := hide (unhide HC2 w1 r1)
  obtain ⟨ao1, cap1, rfl⟩ := owns_shape b1.1
  clear HC HC2 HS r1
  go_wp2_with fail
  refine (unhide HC3).mono ?_
  rintro e w2 ⟨v2, rfl, b2, r2, f2⟩
  have s2 := s1.kept f2 hap.1 hap.2.2
  have hvl : (uvs l).length = l.length := by simp [uvs]
  have x1 : RdV w2 (Value.slice ao1 l.length cap1) (uvs l) := by
    have hx := b1.1
    rw [← hvl] at hx
    have hx2 := (RdV.of_owns hx).kept f2 (fun j hj e => by have := b1.2 j (by cases ao1 <;> exact hj); simp at this; omega)
    rwa [hvl] at hx2
  have x2 : RdV w2 v2 (uvs l) := by
    have hx := b2.1
    rw [← hvl] at hx
    exact RdV.of_owns hx
  have HE := hide (same_eq w2 v2 _ l x2 x1)
  obtain ⟨ao2, cap2, rfl⟩ := owns_shape b2.1
  clear hvl x1 x2
  go_wp2_with fail
  refine (unhide HE).mono ?_
  rintro e w3 ⟨rfl, q3⟩
  go_wp2_with fail
  go_ret
  have F3 := q3.fr (fun _ => False)
  exact ⟨rfl, _, _, r2.kept F3 id (fun _ _ h => h), s2.kept F3 id (fun _ _ h => h), ((f0.trans f1.or2 (fun _ _ h => h)).trans f2.or1 (fun _ _ h => h)).trans (F3.mono (T := fun k => k = p ∨ k = p2) (fun _ _ h => h.elim)) (fun _ _ h => h)⟩


set_option maxHeartbeats 2000000 in
set_option maxRecDepth 100000 in
theorem re11 (w : World) (p : Nat) (q : Option Nat) (p2 : Nat) (q2 : Option Nat) (D : List UInt8) (a : Nat) (E : Int) (n most : Int) (pv lv tv : Value) (h1 : RAt w p q D a E) (h2 : QAt w p2 q2 D a E) (hn : 0 ≤ n ∧ n < 18446744073709551616) (hm : -9223372036854775808 ≤ most ∧ most ≤ 9223372036854775807) (hD : D.length ≤ 1048576) :
    Calls Try.prog 17 #[.pointer (some ⟨p, 0, none⟩), .pointer (some ⟨p2, 0, none⟩), .agg #[.int .i64 11, .int .u64 n, pv, .int .i64 most, lv, tv]] w fun e w' => e = .returned (.bool true) ∧ ReadSaid w w' p q p2 q2 D := by
  have hml : D.length ≤ maxLen := by unfold maxLen; omega
  have hap := rq_apart h1 h2
  have l1 := h1.lt
  have l2 := h2.lt
  have f0 : Fr (fun k => k = p ∨ k = p2) w (w.alloc (Obj.cells #[Value.int IntKind.i64 11, Value.int IntKind.u64 n, pv, Value.int IntKind.i64 most, lv, tv] 35)) := (Fr.refl _ _).alloc _
  have r0 := h1.kept ((Fr.refl (fun _ => False) w).alloc (Obj.cells #[Value.int IntKind.i64 11, Value.int IntKind.u64 n, pv, Value.int IntKind.i64 most, lv, tv] 35)) id (fun _ _ h => h)
  have s0 := h2.kept ((Fr.refl (fun _ => False) w).alloc (Obj.cells #[Value.int IntKind.i64 11, Value.int IntKind.u64 n, pv, Value.int IntKind.i64 most, lv, tv] 35)) id (fun _ _ h => h)
  have hX := heap_alloc_new w (Obj.cells #[Value.int IntKind.i64 11, Value.int IntKind.u64 n, pv, Value.int IntKind.i64 most, lv, tv] 35)
  have HX := hide hX
  clear h1 h2 hX
  have HC := hide (qlistS_any _ p2 q2 D a E most s0 hm (by omega))
  have HC2 := hide (fun w1 (s1 : RAt w1 p q D a E) => listS_any w1 p q D a E most s1 hml)
  have HS := hide r0
  clear s0 r0
  generalize rlistS D a E most = T at *
  obtain ⟨l, a1, E1⟩ := T
  dsimp only at *
  go_enter Try.func17, Try.ntmps17
  go_wp2_with fail
  refine (unhide HC).mono ?_
  rintro e w1 ⟨v1, rfl, b1, s1, f1⟩
  have hX1 : w1.heap[w.heap.size]? = some (Obj.cells #[Value.int IntKind.i64 11, Value.int IntKind.u64 n, pv, Value.int IntKind.i64 most, lv, tv] 35) := by rw [f1.block w.heap.size (by simp) (by omega)]; exact unhide HX
  have c3 : w1.cell? ⟨w.heap.size, 3, none⟩ = some (Value.int IntKind.i64 most) := by rw [cell_of_heap hX1]; rfl
  have r1 := (unhide HS).kept f1 (fun e => hap.1 e.symm) hap.2.1
  have HC3 := hide (unhide HC2 w1 r1)
  obtain ⟨ao1, cap1, rfl⟩ := owns_shape b1.1
  clear HC HC2 HS r1
  go_wp2_with fail
  refine (unhide HC3).mono ?_
  rintro e w2 ⟨v2, rfl, b2, r2, f2⟩
  have s2 := s1.kept f2 hap.1 hap.2.2
  have hvl : (svs l).length = l.length := by simp [svs]
  have x1 : RdV w2 (Value.slice ao1 l.length cap1) (svs l) := by
    have hx := b1.1
    rw [← hvl] at hx
    have hx2 := (RdV.of_owns hx).kept f2 (fun j hj e => by have := b1.2 j (by cases ao1 <;> exact hj); simp at this; omega)
    rwa [hvl] at hx2
  have x2 : RdV w2 v2 (svs l) := by
    have hx := b2.1
    rw [← hvl] at hx
    exact RdV.of_owns hx
  have HE := hide (texts_eq w2 v2 _ l x2 x1)
  obtain ⟨ao2, cap2, rfl⟩ := owns_shape b2.1
  clear hvl x1 x2
  go_wp2_with fail
  refine (unhide HE).mono ?_
  rintro e w3 ⟨rfl, q3⟩
  go_wp2_with fail
  go_ret
  have F3 := q3.fr (fun _ => False)
  exact ⟨rfl, _, _, r2.kept F3 id (fun _ _ h => h), s2.kept F3 id (fun _ _ h => h), ((f0.trans f1.or2 (fun _ _ h => h)).trans f2.or1 (fun _ _ h => h)).trans (F3.mono (T := fun k => k = p ∨ k = p2) (fun _ _ h => h.elim)) (fun _ _ h => h)⟩


set_option maxHeartbeats 2000000 in
set_option maxRecDepth 100000 in
theorem re9 (w : World) (p : Nat) (q : Option Nat) (p2 : Nat) (q2 : Option Nat) (D : List UInt8) (a : Nat) (E : Int) (n most : Int) (pv lv tv : Value) (h1 : RAt w p q D a E) (h2 : QAt w p2 q2 D a E) (hn : 0 ≤ n ∧ n < 18446744073709551616) (hm : -9223372036854775808 ≤ most ∧ most ≤ 9223372036854775807) (hD : D.length ≤ 1048576) :
    Calls Try.prog 17 #[.pointer (some ⟨p, 0, none⟩), .pointer (some ⟨p2, 0, none⟩), .agg #[.int .i64 9, .int .u64 n, pv, .int .i64 most, lv, tv]] w fun e w' => e = .returned (.bool true) ∧ ReadSaid w w' p q p2 q2 D := by
  have hml : D.length ≤ maxLen := by unfold maxLen; omega
  have hap := rq_apart h1 h2
  have l1 := h1.lt
  have l2 := h2.lt
  have f0 : Fr (fun k => k = p ∨ k = p2) w (w.alloc (Obj.cells #[Value.int IntKind.i64 9, Value.int IntKind.u64 n, pv, Value.int IntKind.i64 most, lv, tv] 35)) := (Fr.refl _ _).alloc _
  have r0 := h1.kept ((Fr.refl (fun _ => False) w).alloc (Obj.cells #[Value.int IntKind.i64 9, Value.int IntKind.u64 n, pv, Value.int IntKind.i64 most, lv, tv] 35)) id (fun _ _ h => h)
  have s0 := h2.kept ((Fr.refl (fun _ => False) w).alloc (Obj.cells #[Value.int IntKind.i64 9, Value.int IntKind.u64 n, pv, Value.int IntKind.i64 most, lv, tv] 35)) id (fun _ _ h => h)
  have hX := heap_alloc_new w (Obj.cells #[Value.int IntKind.i64 9, Value.int IntKind.u64 n, pv, Value.int IntKind.i64 most, lv, tv] 35)
  have HX := hide hX
  clear h1 h2 hX
  have c3 : (w.alloc (Obj.cells #[Value.int IntKind.i64 9, Value.int IntKind.u64 n, pv, Value.int IntKind.i64 most, lv, tv] 35)).cell? ⟨w.heap.size, 3, none⟩ = some (.int .i64 most) := by rw [cell_of_heap (unhide HX)]; rfl
  have HC := hide (fun wx (f : Fr (fun _ => False) (w.alloc (Obj.cells #[Value.int IntKind.i64 9, Value.int IntKind.u64 n, pv, Value.int IntKind.i64 most, lv, tv] 35)) wx) => chain_any wx p q D a E most (r0.kept f id (fun _ _ h => h)) (by omega))
  have HC2 := hide (fun w1 (s1 : QAt w1 p2 q2 D a E) => qchain_any w1 p2 q2 D a E most s1 (by omega))
  have HS := hide s0
  clear s0 r0
  generalize rchain D a E most = T at *
  obtain ⟨l, a1, E1⟩ := T
  dsimp only at *
  have hvl : (svs l).length = l.length := by simp [svs]
  have HVL := hide hvl
  clear hvl
  go_enter Try.func17, Try.ntmps17
  go_wp2_with fail
  go_region_with ((first | (go_at_call 45; refine (unhide HC _ (by first | exact (Fr.refl _ _).drew | exact Fr.refl _ _)).mono ?_; rintro e w1 ⟨v1, rfl, b1, r1, f1⟩; have c3' : w1.cell? ⟨w.heap.size, 3, none⟩ = some (Value.int IntKind.i64 most) := (by rw [f1.drewL.cell (a := ⟨w.heap.size, 3, none⟩) (by simp) (by intro e; dsimp only at e; omega)]; exact c3); obtain ⟨ao1, cap1, rfl⟩ := owns_shape b1.1) | (go_at_call 66; refine (unhide HC2 _ ((unhide HS).kept f1.drewL hap.1 hap.2.2)).mono ?_; rintro e w2 ⟨v2, rfl, b2, s2, f2⟩; obtain ⟨ao2, cap2, rfl⟩ := owns_shape b2.1) | (go_at_call 44; refine (texts_eq w2 _ _ l (rdv_of (unhide HVL) b1 f2 (fun j hj e => by have := b1.2 j hj; simp at this; omega)) (rdv_self (unhide HVL) b2)).mono ?_; rintro e w3 ⟨rfl, q3⟩)))
  all_goals
    go_wp2_with fail
    go_ret
    have r2 := r1.kept f2 (fun e => hap.1 e.symm) hap.2.1
    have F3 := q3.fr (fun _ => False)
    exact ⟨rfl, _, _, r2.kept F3 id (fun _ _ h => h), s2.kept F3 id (fun _ _ h => h), ((f0.trans f1.drewL.or1 (fun _ _ h => h)).trans f2.or2 (fun _ _ h => h)).trans (F3.mono (T := fun k => k = p ∨ k = p2) (fun _ _ h => h.elim)) (fun _ _ h => h)⟩


set_option maxHeartbeats 2000000 in
set_option maxRecDepth 100000 in
theorem re10 (w : World) (p : Nat) (q : Option Nat) (p2 : Nat) (q2 : Option Nat) (D : List UInt8) (a : Nat) (E : Int) (n most : Int) (pv lv tv : Value) (h1 : RAt w p q D a E) (h2 : QAt w p2 q2 D a E) (hn : 0 ≤ n ∧ n < 18446744073709551616) (hm : -9223372036854775808 ≤ most ∧ most ≤ 9223372036854775807) (hD : D.length ≤ 1048576) :
    Calls Try.prog 17 #[.pointer (some ⟨p, 0, none⟩), .pointer (some ⟨p2, 0, none⟩), .agg #[.int .i64 10, .int .u64 n, pv, .int .i64 most, lv, tv]] w fun e w' => e = .returned (.bool true) ∧ ReadSaid w w' p q p2 q2 D := by
  have hml : D.length ≤ maxLen := by unfold maxLen; omega
  have hap := rq_apart h1 h2
  have l1 := h1.lt
  have l2 := h2.lt
  have f0 : Fr (fun k => k = p ∨ k = p2) w (w.alloc (Obj.cells #[Value.int IntKind.i64 10, Value.int IntKind.u64 n, pv, Value.int IntKind.i64 most, lv, tv] 35)) := (Fr.refl _ _).alloc _
  have r0 := h1.kept ((Fr.refl (fun _ => False) w).alloc (Obj.cells #[Value.int IntKind.i64 10, Value.int IntKind.u64 n, pv, Value.int IntKind.i64 most, lv, tv] 35)) id (fun _ _ h => h)
  have s0 := h2.kept ((Fr.refl (fun _ => False) w).alloc (Obj.cells #[Value.int IntKind.i64 10, Value.int IntKind.u64 n, pv, Value.int IntKind.i64 most, lv, tv] 35)) id (fun _ _ h => h)
  have hX := heap_alloc_new w (Obj.cells #[Value.int IntKind.i64 10, Value.int IntKind.u64 n, pv, Value.int IntKind.i64 most, lv, tv] 35)
  have HX := hide hX
  clear h1 h2 hX
  have HC := hide (qbool_any _ p2 q2 D a E s0 (by omega))
  have HC2 := hide (fun w1 (s1 : RAt w1 p q D a E) => option_any w1 p q D a E s1 hml)
  have HS := hide r0
  unfold ropt at HC2
  generalize hR : rbool D a E = R at *
  obtain ⟨b, a1, E1⟩ := R
  dsimp only at *
  clear s0 r0 hR
  cases b
  · simp only [if_true] at HC2
    go_enter Try.func17, Try.ntmps17
    go_wp2_with fail
    refine (unhide HC).mono ?_
    rintro e w1 ⟨rfl, s1, f1⟩
    have r1 := (unhide HS).kept f1 (fun e => hap.1 e.symm) hap.2.1
    have HC3 := hide (unhide HC2 w1 r1)
    clear HC HC2 HS r1
    go_wp2_with fail
    refine (unhide HC3).mono ?_
    rintro e w2 ⟨v2, rfl, hP, r2, f2⟩
    have s2 := s1.kept f2 hap.1 hap.2.2
    obtain rfl : v2 = .pointer none := hP
    go_wp2_with fail
    go_ret
    exact ⟨rfl, _, _, r2, s2, (f0.trans f1.or2 (fun _ _ h => h)).trans f2.or1 (fun _ _ h => h)⟩
  · simp only [Bool.true_eq_false, if_false] at HC2
    have HU := hide (fun w1 (s1 : QAt w1 p2 q2 D a1 E1) => quint_any w1 p2 q2 D a1 E1 s1 (by omega))
    generalize ru D a1 E1 = U at *
    obtain ⟨m, a3, E3⟩ := U
    dsimp only at *
    by_cases hE3 : E3 = 0
    · subst hE3
      rw [if_neg (by simp)] at HC2
      go_enter Try.func17, Try.ntmps17
      go_wp2_with fail
      refine (unhide HC).mono ?_
      rintro e w1 ⟨rfl, s1, f1⟩
      have HU1 := hide (unhide HU w1 s1)
      have r1 := (unhide HS).kept f1 (fun e => hap.1 e.symm) hap.2.1
      clear HC HS HU s1
      go_wp2_with fail
      refine (unhide HU1).mono ?_
      rintro e w2 ⟨rfl, s2, f2⟩
      have r2 := r1.kept f2 (fun e => hap.1 e.symm) hap.2.1
      have HC3 := hide (unhide HC2 w2 r2)
      clear HC2 HU1 r1 r2
      go_wp2_with fail
      refine (unhide HC3).mono ?_
      rintro e w3 ⟨v3, rfl, hP, r3, f3⟩
      have s3 := s2.kept f3 hap.1 hap.2.2
      obtain ⟨bb, rfl, hbb, hcc⟩ : ∃ b, v3 = .pointer (some ⟨b, 0, none⟩) ∧ w2.heap.size ≤ b ∧ w3.cell? ⟨b, 0, none⟩ = some (.int .u32 (m : Int)) := hP
      have c2 := s3.cell2'
      clear HC3
      go_wp2_with fail
      go_ret
      exact ⟨rfl, _, _, r3, s3, ((f0.trans f1.or2 (fun _ _ h => h)).trans f2.or2 (fun _ _ h => h)).trans f3.or1 (fun _ _ h => h)⟩
    · rw [if_pos hE3] at HC2
      have hb : (E3 != 0) = true := by simpa using hE3
      go_enter Try.func17, Try.ntmps17
      go_wp2_with fail
      refine (unhide HC).mono ?_
      rintro e w1 ⟨rfl, s1, f1⟩
      have HU1 := hide (unhide HU w1 s1)
      have r1 := (unhide HS).kept f1 (fun e => hap.1 e.symm) hap.2.1
      clear HC HS HU s1
      go_wp2_with fail
      refine (unhide HU1).mono ?_
      rintro e w2 ⟨rfl, s2, f2⟩
      have r2 := r1.kept f2 (fun e => hap.1 e.symm) hap.2.1
      have HC3 := hide (unhide HC2 w2 r2)
      clear HC2 HU1 r1 r2
      go_wp2_with fail
      refine (unhide HC3).mono ?_
      rintro e w3 ⟨v3, rfl, hP, r3, f3⟩
      have s3 := s2.kept f3 hap.1 hap.2.2
      obtain rfl : v3 = .pointer none := hP
      have c2 := s3.cell2'
      clear HC3
      go_wp2_with fail
      go_ret
      exact ⟨rfl, _, _, r3, s3, ((f0.trans f1.or2 (fun _ _ h => h)).trans f2.or2 (fun _ _ h => h)).trans f3.or1 (fun _ _ h => h)⟩


theorem reads_any (w : World) (p : Nat) (q : Option Nat) (p2 : Nat) (q2 : Option Nat) (D : List UInt8) (a : Nat) (E : Int) (n most : Int) (pv lv tv : Value) (h1 : RAt w p q D a E) (h2 : QAt w p2 q2 D a E) (hn : 0 ≤ n ∧ n < 18446744073709551616) (hm : -9223372036854775808 ≤ most ∧ most ≤ 9223372036854775807) (hD : D.length ≤ 1048576) (K : Int) :
    Calls Try.prog 17 #[.pointer (some ⟨p, 0, none⟩), .pointer (some ⟨p2, 0, none⟩), .agg #[.int .i64 K, .int .u64 n, pv, .int .i64 most, lv, tv]] w fun e w' => e = .returned (.bool true) ∧ ReadSaid w w' p q p2 q2 D := by
  by_cases k1 : K = 1
  · subst k1; exact re1 w p q p2 q2 D a E n most pv lv tv h1 h2 hn hm hD
  by_cases k2 : K = 2
  · subst k2; exact re2 w p q p2 q2 D a E n most pv lv tv h1 h2 hn hm hD
  by_cases k3 : K = 3
  · subst k3; exact re3 w p q p2 q2 D a E n most pv lv tv h1 h2 hn hm hD
  by_cases k4 : K = 4
  · subst k4; exact re4 w p q p2 q2 D a E n most pv lv tv h1 h2 hn hm hD
  by_cases k5 : K = 5
  · subst k5; exact re5 w p q p2 q2 D a E n most pv lv tv h1 h2 hn hm hD
  by_cases k6 : K = 6
  · subst k6; exact re6 w p q p2 q2 D a E n most pv lv tv h1 h2 hn hm hD
  by_cases k7 : K = 7
  · subst k7; exact re7 w p q p2 q2 D a E n most pv lv tv h1 h2 hn hm hD
  by_cases k8 : K = 8
  · subst k8; exact re8 w p q p2 q2 D a E n most pv lv tv h1 h2 hn hm hD
  by_cases k9 : K = 9
  · subst k9; exact re9 w p q p2 q2 D a E n most pv lv tv h1 h2 hn hm hD
  by_cases k10 : K = 10
  · subst k10; exact re10 w p q p2 q2 D a E n most pv lv tv h1 h2 hn hm hD
  by_cases k11 : K = 11
  · subst k11; exact re11 w p q p2 q2 D a E n most pv lv tv h1 h2 hn hm hD
  exact reX w p q p2 q2 D a E n most pv lv tv h1 h2 hn hm hD K ⟨k1, k2, k3, k4, k5, k6, k7, k8, k9, k10, k11⟩

#print axioms reads_any
end Go.Proofs.Ytmnbdpdblpgnlaa
