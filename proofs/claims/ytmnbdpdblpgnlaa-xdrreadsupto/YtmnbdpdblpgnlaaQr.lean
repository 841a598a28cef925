/-
  The walks of the document's own reader (package granaryref01), function by function.
-/
import Derived.Test.YtmnbdpdblpgnlaaSeg
namespace Go.Proofs.Ytmnbdpdblpgnlaa
open Go.RowKit
set_option linter.unusedVariables false

attribute [local go_sem ↓] Go.wp_at_zero Go.wp_at_succ

/-- Where an error lies: 0 if there is none. -/
def spot (a : Nat) (E : Int) : Int := if E = 0 then 0 else (a : Int)

/-- The document's reader lies at block p, its bytes D in block q: a is the place, E the error. -/
def QAt (w : World) (p : Nat) (q : Option Nat) (D : List UInt8) (a : Nat) (E : Int) : Prop :=
  ∃ v, w.heap[p]? = some (.cells #[v, .int .i64 (a : Int), .int .i64 E, .int .i64 (spot a E)] 49 (0, 0)) ∧ v.ownBlock = q ∧ w.ownsRow 0 5 1 v D.length (bvs D) ∧ a ≤ D.length

section
variable {w : World} {p : Nat} {a b c d : Value}
theorem QAt.cell0 (h : w.heap[p]? = some (.cells #[a, b, c, d] 49 (0, 0))) : w.cell? ⟨p, 0, none⟩ = some a := by rw [cell_of_heap h]; rfl
theorem QAt.cell1 (h : w.heap[p]? = some (.cells #[a, b, c, d] 49 (0, 0))) : w.cell? ⟨p, 1, none⟩ = some b := by rw [cell_of_heap h]; rfl
theorem QAt.cell2 (h : w.heap[p]? = some (.cells #[a, b, c, d] 49 (0, 0))) : w.cell? ⟨p, 2, none⟩ = some c := by rw [cell_of_heap h]; rfl
theorem QAt.cell3 (h : w.heap[p]? = some (.cells #[a, b, c, d] 49 (0, 0))) : w.cell? ⟨p, 3, none⟩ = some d := by rw [cell_of_heap h]; rfl
end

theorem QAt.apart {w : World} {p : Nat} {v b c d : Value} {n : Nat} {xs : List Value} (h : w.heap[p]? = some (.cells #[v, b, c, d] 49 (0, 0))) (ho : w.ownsRow 0 5 1 v n xs) : ¬ v.ownBlock = some p := by
  intro e
  rcases ho.2 with ⟨rfl, _⟩ | ⟨g, cap, cur, rfl, _, hg, _⟩
  · simp [Value.ownBlock] at e
  · simp only [Value.ownBlock, Option.some.injEq] at e
    subst e
    rw [hg] at h
    simp at h

theorem QAt.kept {w w' : World} {p : Nat} {q : Option Nat} {D : List UInt8} {a : Nat} {E : Int} {S : Nat → Prop} (h : QAt w p q D a E) (f : Fr S w w') (hp : ¬ S p) (hq : ∀ k, q = some k → ¬ S k) : QAt w' p q D a E := by
  obtain ⟨v, h1, h2, h3, h5⟩ := h
  refine ⟨v, by rw [f.block p (lt_of_heap h1) hp]; exact h1, h2, ⟨h3.1, ?_⟩, h5⟩
  rcases h3.2 with h4 | ⟨g, cap, cur, rfl, hb, hg, r⟩
  · exact .inl h4
  · exact .inr ⟨g, cap, cur, rfl, hb, by rw [f.block g (lt_of_heap hg) (hq g h2.symm)]; exact hg, r⟩

theorem QAt.lt {w : World} {p : Nat} {q : Option Nat} {D : List UInt8} {a : Nat} {E : Int} (h : QAt w p q D a E) : p < w.heap.size ∧ ∀ k, q = some k → k < w.heap.size := by
  obtain ⟨v, h1, h2, h3, _⟩ := h
  exact ⟨lt_of_heap h1, fun k e => (h3.lt k (h2.trans e)).2⟩

theorem QAt.put {w : World} {p : Nat} {q : Option Nat} {D : List UInt8} {v : Value} {x y z : Value} (h1 : w.heap[p]? = some (.cells #[v, x, y, z] 49 (0, 0))) (h2 : v.ownBlock = q) (h3 : w.ownsRow 0 5 1 v D.length (bvs D)) (w' : World) (a' : Nat) (E' : Int)
    (hw : w'.heap[p]? = some (.cells #[v, .int .i64 (a' : Int), .int .i64 E', .int .i64 (spot a' E')] 49 (0, 0))) (f : Fr (fun k => k = p) w w') (ha : a' ≤ D.length) : QAt w' p q D a' E' := by
  have hne := QAt.apart h1 h3
  refine ⟨v, hw, h2, ⟨h3.1, ?_⟩, ha⟩
  rcases h3.2 with h4 | ⟨g, cap, cur, rfl, hb, hg, r⟩
  · exact .inl h4
  · exact .inr ⟨g, cap, cur, rfl, hb, by rw [f.block g (lt_of_heap hg) (fun e => hne (by simp [Value.ownBlock, e]))]; exact hg, r⟩

theorem qleft_any (w : World) (p : Nat) (a n : Nat) (ao : Option Addr) (cap : Nat) (h0 : w.cell? ⟨p, 0, none⟩ = some (.slice ao n cap)) (h : w.cell? ⟨p, 1, none⟩ = some (.int .i64 (a : Int))) (ha : a ≤ n) (hn : n ≤ maxLen) :
    Calls Try.prog 21 #[.pointer (some ⟨p, 0, none⟩)] w fun e w' => e = .returned (.int .i64 ((n : Int) - (a : Int))) ∧ Qt w w' := by
  unfold maxLen at hn
  go_enter Try.func21, Try.ntmps21
  go_wp2
  go_quiet (fail)
  go_wp2
  go_ret
  exact ⟨rfl, Qt.drewN _ _⟩

theorem qfail_er (w : World) (p : Nat) (E why a : Int) (h : w.cell? ⟨p, 2, none⟩ = some (.int .i64 E)) (hE : E ≠ 0) : Calls Try.prog 77 #[.pointer (some ⟨p, 0, none⟩), .int .i64 why, .int .i64 a] w fun e w' => e = .returned (.tuple #[]) ∧ w = w' := by
  have hb : (E == 0) = false := by simpa using hE
  go_enter Try.func77, Try.ntmps77
  go_wp2
  go_end0
  exact ⟨rfl, rfl⟩

theorem qfail_ok (w : World) (p : Nat) (q : Option Nat) (D : List UInt8) (a : Nat) (why : Int) (a' : Nat) (h : QAt w p q D a 0) (ha : a' ≤ D.length) (hwhy : why ≠ 0) :
    Calls Try.prog 77 #[.pointer (some ⟨p, 0, none⟩), .int .i64 why, .int .i64 (a' : Int)] w fun e w' => e = .returned (.tuple #[]) ∧ QAt w' p q D a' why ∧ Fr (fun k => k = p) w w' := by
  obtain ⟨v, h1, h2, h3, h5⟩ := h
  have c1 := QAt.cell1 h1
  have c2 := QAt.cell2 h1
  have c3 := QAt.cell3 h1
  have z1 := frozen_of_heap h1 1
  have z2 := frozen_of_heap h1 2
  have z3 := frozen_of_heap h1 3
  have H1 := hide h1
  clear h1
  go_enter Try.func77, Try.ntmps77
  go_wp2
  go_end0
  have e1 : (((w.setCell ⟨p, 2, none⟩ (.int .i64 why)).setCell ⟨p, 3, none⟩ (.int .i64 (a' : Int))).setCell ⟨p, 1, none⟩ (.int .i64 (a' : Int))).heap[p]? = some (.cells #[v, .int .i64 (a' : Int), .int .i64 why, .int .i64 (spot a' why)] 49 (0, 0)) := by
    unfold spot
    rw [if_neg hwhy]
    exact heap_setCell_same _ p 1 _ 49 _ (heap_setCell_same _ p 3 _ 49 _ (heap_setCell_same w p 2 _ 49 _ (unhide H1)))
  have f : Fr (fun k => k = p) w (((w.setCell ⟨p, 2, none⟩ (.int .i64 why)).setCell ⟨p, 3, none⟩ (.int .i64 (a' : Int))).setCell ⟨p, 1, none⟩ (.int .i64 (a' : Int))) := (((Fr.refl (fun k => k = p) w).setCell (fun _ => rfl) _).setCell (fun _ => rfl) _).setCell (fun _ => rfl) _
  exact ⟨rfl, QAt.put (unhide H1) h2 h3 _ a' why e1 f ha, f⟩

theorem qdone_any (w : World) (p : Nat) (q : Option Nat) (D : List UInt8) (a : Nat) (E : Int) (h : QAt w p q D a E) (hD : D.length ≤ maxLen) : Calls Try.prog 23 #[.pointer (some ⟨p, 0, none⟩)] w fun e w' => e = .returned (.int .i64 (rdone D a E)) ∧ Qt w w' := by
  unfold rdone
  obtain ⟨v, h1, _, h3, hal⟩ := id h
  obtain ⟨ao, cap, rfl⟩ := owns_shape h3
  have c0 := QAt.cell0 h1
  have c1 := QAt.cell1 h1
  have c2 := QAt.cell2 h1
  clear h1 h3 h
  by_cases hE : E = 0
  · subst hE
    rw [if_neg (by simp)]
    have HL := hide (qleft_any w p a D.length ao cap c0 c1 hal hD)
    by_cases hlt : a < D.length
    · rw [if_pos hlt]
      have hlt' : (0 : Int) < (D.length : Int) - (a : Int) := by omega
      go_enter Try.func23, Try.ntmps23
      go_wp2_with fail
      refine (unhide HL).mono ?_
      rintro e w1 ⟨rfl, q1⟩
      go_wp2
      go_ret
      exact ⟨rfl, q1⟩
    · rw [if_neg hlt]
      have hlt' : ¬ (0 : Int) < (D.length : Int) - (a : Int) := by omega
      go_enter Try.func23, Try.ntmps23
      go_wp2_with fail
      refine (unhide HL).mono ?_
      rintro e w1 ⟨rfl, q1⟩
      have d2 : w1.cell? ⟨p, 2, none⟩ = some (.int .i64 0) := by rw [World.cell?_of_block (w := w) (by rw [q1.heap])]; exact c2
      go_wp2
      go_ret
      exact ⟨rfl, q1⟩
  · rw [if_pos hE]
    have hb : (E == 0) = false := by simpa using hE
    go_enter Try.func23, Try.ntmps23
    go_wp2
    go_ret
    exact ⟨rfl, Qt.refl _⟩

set_option maxRecDepth 100000 in
theorem qnew_any (w : World) (x : Value) (D : List UInt8) (hx : Rd w x D) (hD : D.length ≤ 140737488355328) :
    Calls Try.prog 16 #[x] w fun e w' => ∃ p q, e = .returned (.pointer (some ⟨p, 0, none⟩)) ∧ QAt w' p q D 0 0 ∧ w.heap.size ≤ p ∧ (∀ k, q = some k → w.heap.size ≤ k) ∧ Fr (fun _ => False) w w' := by
  obtain ⟨i, hi, hz0, hz1, hz2⟩ := info_parts Try.info5
  obtain ⟨ao0, cap0, rfl⟩ := hx.shape
  go_enter Try.func16, Try.ntmps16
  go_wp2_with (at_builtin; refine wpList_app rfl (.tmp 3) (.tmp 4) 28 rfl 5 i _ 1 1 Try.underlying28 hi hz0 hz1 hz2 rfl (by decide) _ 0 [] rfl _ rfl D.length (bvs D) ?hown ?hx ?h1 ?hb ?h63 ?hK)
  case hown => exact ⟨rfl, .inr ⟨w.heap.size, 0, #[], rfl, Nat.zero_le _, heap_alloc_new w _, Nat.le_refl _, by simp [maxLen], rfl, rfl⟩⟩
  case hx => exact (hx.kept ((Fr.refl (fun _ => False) w).alloc _) (fun _ _ h => h)).sr
  case h1 => exact bvs_one _
  case hb => omega
  case h63 => simp only [maxLen]; omega
  case hK =>
    intro ao cap' w' ho hg hpl
    have f : Fr (fun _ => False) w (w.alloc (Obj.cells #[] 5)) := (Fr.refl _ _).alloc _
    have f2 := f.grown hg (fun k hk e => by simp [Value.ownBlock] at e; omega)
    have h5 : ∀ k, (Value.slice ao D.length cap').ownBlock = some k → w.heap.size ≤ k := by
      intro k hk
      rcases hpl with e | ⟨k', e, hk'⟩
      · rw [e] at hk; simp [Value.ownBlock] at hk; omega
      · rw [e] at hk; simp at hk; omega
    have HO := hide ho
    clear hpl hg hx ho
    go_wp2
    go_ret
    refine ⟨w'.heap.size, _, rfl, ⟨_, heap_alloc_new w' _, rfl, (unhide HO).alloc _, Nat.zero_le _⟩, f2.size, h5, f2.alloc _⟩

end Go.Proofs.Ytmnbdpdblpgnlaa
