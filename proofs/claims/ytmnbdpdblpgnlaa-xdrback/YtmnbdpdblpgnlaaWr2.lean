/-
  The walks of package xdr's Writer, on: Opaque, Text, Bytes, Why, NewWriter, bytes.Clone.
-/
import Derived.Test.YtmnbdpdblpgnlaaWr
import Derived.Lib.ConvBytes
import Derived.Lib.SliceRun
namespace Go.Proofs.Ytmnbdpdblpgnlaa
open Go.RowKit
set_option linter.unusedVariables false

attribute [local go_sem ↓] Go.wp_at_zero Go.wp_at_succ

/-- What Opaque lays. -/
def opq (l : List UInt8) : List UInt8 := be32 (l.length : Int) ++ (l ++ pad l.length)

theorem opaque_ok (w : World) (p : Nat) (q : Option Nat) (B : List UInt8) (x : Value) (l : List UInt8) (most : Int) (h : WAt w p q B 0) (hx : Rd w x l) (hap : ∀ b, x.ownBlock = some b → ¬ foot p q b) (hl : l.length < 4294967296) (hm : (l.length : Int) ≤ most) (hB : B.length + l.length + 8 ≤ 140737488355328) :
    Calls Try.prog 50 #[.pointer (some ⟨p, 0, none⟩), x, .int .i64 most] w fun e w' => e = .returned (.tuple #[]) ∧ ∃ q', WAt w' p q' (B ++ opq l) 0 ∧ WSt w w' p q q' := by
  obtain ⟨ao0, cap0, rfl⟩ := hx.shape
  go_enter Try.func50, Try.ntmps50
  go_wp2_with fail
  refine (wlength_ok w p q B l.length most h hl hm (by omega)).mono ?_
  rintro e w1 ⟨rfl, q1, h1, s1⟩
  have hx1 := hx.kept s1.1 hap
  go_wp2_with fail
  refine (fixed_ok w1 p q1 _ _ l h1 hx1 (by simp [be32]; omega)).mono ?_
  rintro e w2 ⟨rfl, q2, h2, s2⟩
  go_wp2
  go_end0
  exact ⟨rfl, q2, by unfold opq; rw [← List.append_assoc]; exact h2, s1.trans s2⟩

theorem opaque_long (w : World) (p : Nat) (q : Option Nat) (B : List UInt8) (x : Value) (l : List UInt8) (most : Int) (h : WAt w p q B 0) (hx : Rd w x l) (hm : most < (l.length : Int)) :
    Calls Try.prog 50 #[.pointer (some ⟨p, 0, none⟩), x, .int .i64 most] w fun e w' => e = .returned (.tuple #[]) ∧ WAt w' p q B 1 ∧ WSt w w' p q q := by
  obtain ⟨ao0, cap0, rfl⟩ := hx.shape
  go_enter Try.func50, Try.ntmps50
  go_wp2_with fail
  refine (wlength_long w p q B l.length most h hm).mono ?_
  rintro e w1 ⟨rfl, h1, s1⟩
  go_wp2
  go_end0
  exact ⟨rfl, h1, s1⟩

theorem opaque_er (w : World) (p : Nat) (E : Int) (x : Value) (l : List UInt8) (most : Int) (h : w.cell? ⟨p, 1, none⟩ = some (.int .i64 E)) (hE : E ≠ 0) (hx : Rd w x l) :
    Calls Try.prog 50 #[.pointer (some ⟨p, 0, none⟩), x, .int .i64 most] w fun e w' => e = .returned (.tuple #[]) ∧ w = w' := by
  obtain ⟨ao0, cap0, rfl⟩ := hx.shape
  go_enter Try.func50, Try.ntmps50
  go_wp2_with fail
  refine (wlength_er w p E _ most h hE).mono ?_
  rintro e w1 ⟨rfl, rfl⟩
  go_wp2
  go_end0
  exact ⟨rfl, rfl⟩

theorem opaque_nil (w : World) (x : Value) (l : List UInt8) (most : Int) (hx : Rd w x l) :
    Calls Try.prog 50 #[.pointer none, x, .int .i64 most] w fun e w' => e = .returned (.tuple #[]) ∧ w = w' := by
  obtain ⟨ao0, cap0, rfl⟩ := hx.shape
  go_enter Try.func50, Try.ntmps50
  go_wp2_with fail
  refine (wlength_nil w _ most).mono ?_
  rintro e w1 ⟨rfl, rfl⟩
  go_wp2
  go_end0
  exact ⟨rfl, rfl⟩

theorem why_any (w : World) (p : Nat) (E : Int) (h : w.cell? ⟨p, 1, none⟩ = some (.int .i64 E)) : Calls Try.prog 14 #[.pointer (some ⟨p, 0, none⟩)] w fun e w' => e = .returned (.int .i64 E) ∧ w = w' := by
  go_enter Try.func14, Try.ntmps14
  go_wp2
  go_ret
  exact ⟨rfl, rfl⟩

theorem why_nil (w : World) : Calls Try.prog 14 #[.pointer none] w fun e w' => e = .returned (.int .i64 0) ∧ w = w' := by
  go_enter Try.func14, Try.ntmps14
  go_wp2
  go_ret
  exact ⟨rfl, rfl⟩

theorem num_any (w : World) (E : Int) : Calls Try.prog 13 #[.int .i64 E] w fun e w' => e = .returned (.int .i64 E) ∧ w = w' := by
  go_enter Try.func13, Try.ntmps13
  go_wp2
  go_ret
  exact ⟨rfl, rfl⟩

theorem newWriter_any (w : World) : Calls Try.prog 10 #[] w fun e w' => e = .returned (.pointer (some ⟨w.heap.size, 0, none⟩)) ∧ WAt w' w.heap.size none [] 0 ∧ Fr (fun _ => False) w w' ∧ w'.heap.size = w.heap.size + 1 := by
  go_enter Try.func10, Try.ntmps10
  go_wp2
  go_ret
  exact ⟨rfl, ⟨_, heap_alloc_new w _, rfl, World.ownsRow_nil _ _ _ _⟩, (Fr.refl _ _).alloc _, by simp⟩

theorem WAt.kept {w w' : World} {p : Nat} {q : Option Nat} {B : List UInt8} {E : Int} {S : Nat → Prop} (h : WAt w p q B E) (f : Fr S w w') (hp : ¬ S p) (hq : ∀ k, q = some k → ¬ S k) : WAt w' p q B E := by
  obtain ⟨v, h1, h2, h3⟩ := h
  refine ⟨v, by rw [f.block p (lt_of_heap h1) hp]; exact h1, h2, h3.1, ?_⟩
  rcases h3.2 with h4 | ⟨g, cap, cur, rfl, hb, hg, r⟩
  · exact .inl h4
  · exact .inr ⟨g, cap, cur, rfl, hb, by rw [f.block g (lt_of_heap hg) (hq g h2.symm)]; exact hg, r⟩

theorem WAt.lt {w : World} {p : Nat} {q : Option Nat} {B : List UInt8} {E : Int} (h : WAt w p q B E) : p < w.heap.size ∧ ∀ k, q = some k → k < w.heap.size := by
  obtain ⟨v, h1, h2, h3⟩ := h
  exact ⟨lt_of_heap h1, fun k e => (h3.lt k (h2.trans e)).2⟩

theorem bytesWorld_fr (w : World) (e : TypeId) (s : ByteArray) : Fr (fun _ => False) w (Lib.bytesWorld w e s) :=
  ⟨rfl, rfl, rfl, by rw [Lib.bytesWorld_size]; omega, fun k hk _ => Lib.bytesWorld_at_old w e s k hk⟩

theorem bytesWorld_rd (w : World) (t : ByteArray) (h : t.size ≤ maxLen) : Rd (Lib.bytesWorld w 5 t) (.slice (some ⟨w.heap.size, 0, none⟩) t.size (grownCap w t.size 0 5)) t.data.toList := by
  refine Rd.lit (by simp) (grownCap_ge w _ _ _) (grownCap_le_maxLen w _ _ _ h) fun j hj => ?_
  rw [Nat.zero_add, Lib.bytesWorld_cell w 5 t j (by simpa using hj)]
  rw [show t.data.toList.getD j 0 = t.data.toList[j] from by rw [List.getD, List.getElem?_eq_getElem hj]; rfl]

/-- What Opaque makes of a writer: its bytes, its error. -/
def wopq (B : List UInt8) (E : Int) (l : List UInt8) (most : Int) : List UInt8 × Int := if E ≠ 0 then (B, E) else if most < (l.length : Int) then (B, 1) else (B ++ opq l, 0)

theorem opaque_any (w : World) (p : Nat) (q : Option Nat) (B : List UInt8) (E : Int) (x : Value) (l : List UInt8) (most : Int) (h : WAt w p q B E) (hx : Rd w x l) (hap : ∀ b, x.ownBlock = some b → ¬ foot p q b) (hl : l.length < 4294967296) (hB : B.length + l.length + 8 ≤ 140737488355328) :
    Calls Try.prog 50 #[.pointer (some ⟨p, 0, none⟩), x, .int .i64 most] w fun e w' => e = .returned (.tuple #[]) ∧ ∃ q', WAt w' p q' (wopq B E l most).1 (wopq B E l most).2 ∧ WSt w w' p q q' := by
  unfold wopq
  by_cases hE : E = 0
  · subst hE
    by_cases hm : most < (l.length : Int)
    · refine (opaque_long w p q B x l most h hx hm).mono ?_
      rintro e w' ⟨rfl, h1, h2⟩
      exact ⟨rfl, q, by simpa [hm] using h1, h2⟩
    · refine (opaque_ok w p q B x l most h hx hap hl (by omega) hB).mono ?_
      rintro e w' ⟨rfl, q', h1, h2⟩
      exact ⟨rfl, q', by simpa [hm] using h1, h2⟩
  · obtain ⟨v, hp, _⟩ := id h
    refine (opaque_er w p E x l most (WAt.cell1 hp) hE hx).mono ?_
    rintro e w' ⟨rfl, rfl⟩
    exact ⟨rfl, q, by simpa [hE] using h, WSt.refl _ _ _⟩

theorem text_any (w : World) (p : Nat) (q : Option Nat) (B : List UInt8) (E : Int) (t : ByteArray) (most : Int) (h : WAt w p q B E) (hl : t.size < 4294967296) (hB : B.length + t.size + 8 ≤ 140737488355328) :
    Calls Try.prog 28 #[.pointer (some ⟨p, 0, none⟩), .string t, .int .i64 most] w fun e w' => e = .returned (.tuple #[]) ∧ ∃ q', WAt w' p q' (wopq B E t.data.toList most).1 (wopq B E t.data.toList most).2 ∧ WSt w w' p q q' := by
  have kc := fun (wx : World) => Lib.run_convert_string_bytes (P := Try.prog) wx 9 28 5 t Try.underlying9
  have hlt := h.lt
  have h0 := h.kept (bytesWorld_fr w 5 t) id (fun _ _ h => h)
  have hr := bytesWorld_rd w t (by simp only [maxLen]; omega)
  have hc := opaque_any _ p q B E _ t.data.toList most h0 hr (by
    intro b hb hf
    simp only [Value.ownBlock, Option.some.injEq] at hb
    subst hb
    rcases hf with e | e
    · omega
    · have := hlt.2 _ e; omega) (by simpa using hl) (by simpa using hB)
  have HC := hide hc
  have HL := hide hlt
  clear hc h0 hr h hlt
  go_enter Try.func28, Try.ntmps28
  go_wp2_with fail
  refine (unhide HC).mono ?_
  rintro e w2 ⟨rfl, q2, h2, s2⟩
  go_wp2
  go_end0
  refine ⟨rfl, q2, h2, ((bytesWorld_fr w 5 t).mono (T := foot p q) (fun _ _ h => h.elim)).trans s2.1 (fun _ _ h => h), fun k hk e => s2.2 k ?_ e⟩
  rw [Lib.bytesWorld_size]; omega

theorem text_nil (w : World) (t : ByteArray) (most : Int) (ht : t.size ≤ maxLen) :
    Calls Try.prog 28 #[.pointer none, .string t, .int .i64 most] w fun e w' => e = .returned (.tuple #[]) ∧ Fr (fun _ => False) w w' := by
  have kc := fun (wx : World) => Lib.run_convert_string_bytes (P := Try.prog) wx 9 28 5 t Try.underlying9
  have hr := bytesWorld_rd w t ht
  go_enter Try.func28, Try.ntmps28
  go_wp2_with fail
  refine (opaque_nil _ _ _ most hr).mono ?_
  rintro e w2 ⟨rfl, rfl⟩
  go_wp2
  go_end0
  exact ⟨rfl, bytesWorld_fr w 5 t⟩

set_option maxRecDepth 100000 in
theorem clone_any (w : World) (x : Value) (l : List UInt8) (hx : Rd w x l) (hl : l.length ≤ 140737488355328) :
    Calls Try.prog 58 #[x] w fun e w' => ∃ v, e = .returned v ∧ w'.ownsRow 0 5 1 v l.length (bvs l) ∧ Fr (fun _ => False) w w' ∧ ∀ k, v.ownBlock = some k → w.heap.size ≤ k := by
  have q5 : ∀ (w : World) (a : Option Addr) (n c n' c' : Nat), (binOp .eql 28 (.slice a n c) (.slice none n' c')).run Try.prog w = .ok (.bool a.isNone) w := fun w a n c n' c' => Lib.run_eql_slice_nil w 28 5 a n c n' c' Try.underlying28
  obtain ⟨i, hi, hz0, hz1, hz2⟩ := info_parts Try.info5
  rcases id hx with ⟨rfl, rfl⟩ | ⟨ad, cap, rfl, _⟩
  · go_enter Try.func58, Try.ntmps58
    go_wp2
    go_ret
    exact ⟨_, rfl, World.ownsRow_nil _ _ _ _, Fr.refl _ _, fun k h => by simp [Value.ownBlock] at h⟩
  · go_enter Try.func58, Try.ntmps58
    go_wp2_with (at_builtin; refine wpList_app rfl (.tmp 5) (.tmp 6) 28 rfl 5 i _ 1 1 Try.underlying28 hi hz0 hz1 hz2 rfl (by decide) _ 0 [] rfl _ rfl l.length (bvs l) ?hown ?hx ?h1 ?hb ?h63 ?hK)
    case hown => exact ⟨rfl, .inr ⟨w.heap.size, 0, #[], rfl, Nat.zero_le _, heap_alloc_new w _, Nat.le_refl _, by simp [maxLen], rfl, rfl⟩⟩
    case hx => exact (hx.kept ((Fr.refl (fun _ => False) w).alloc _) (fun _ _ h => h)).sr
    case h1 => exact bvs_one _
    case hb => omega
    case h63 => simp only [maxLen]; omega
    case hK =>
      intro ao cap' w' ho hg hpl
      have f : Fr (fun _ => False) w (w.alloc (Obj.cells #[] 5)) := (Fr.refl _ _).alloc _
      have f2 := f.grown hg (fun k hk e => by simp [Value.ownBlock] at e; omega)
      have h5 : ∀ k, (Value.slice ao l.length cap').ownBlock = some k → w.heap.size ≤ k := by
        intro k hk
        rcases hpl with e | ⟨k', e, hk'⟩
        · rw [e] at hk; simp [Value.ownBlock] at hk; omega
        · rw [e] at hk; simp at hk; omega
      clear hpl hg hx
      go_wp2
      go_ret
      exact ⟨_, rfl, ho, f2, h5⟩

theorem wbytes_any (w : World) (p : Nat) (q : Option Nat) (B : List UInt8) (E : Int) (h : WAt w p q B E) (hl : B.length ≤ 140737488355328) :
    Calls Try.prog 12 #[.pointer (some ⟨p, 0, none⟩)] w fun e w' => ∃ v, e = .returned v ∧ w'.ownsRow 0 5 1 v B.length (bvs B) ∧ Fr (fun _ => False) w w' ∧ ∀ k, v.ownBlock = some k → w.heap.size ≤ k := by
  obtain ⟨v, hp, hq, hown⟩ := h
  have c0 := WAt.cell0 hp
  have hc := clone_any w v B (Rd.of_owns hown) hl
  have HC := hide hc
  obtain ⟨ao, cap, rfl⟩ := owns_shape hown
  clear hp hq hown hc
  go_enter Try.func12, Try.ntmps12
  go_wp2_with fail
  refine (unhide HC).mono ?_
  rintro e w' ⟨v', rfl, h1, h2, h3⟩
  go_wp2
  go_ret
  exact ⟨_, rfl, h1, h2, h3⟩

theorem wbytes_nil (w : World) : Calls Try.prog 12 #[.pointer none] w fun e w' => e = .returned (.slice none 0 0) ∧ w = w' := by
  go_enter Try.func12, Try.ntmps12
  go_wp2
  go_ret
  exact ⟨rfl, rfl⟩

end Go.Proofs.Ytmnbdpdblpgnlaa
