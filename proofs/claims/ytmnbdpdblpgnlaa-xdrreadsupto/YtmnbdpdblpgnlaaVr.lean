/-
  The walks of the document's own writer (package granaryref01), function by function.
-/
import Derived.Test.YtmnbdpdblpgnlaaPut2
namespace Go.Proofs.Ytmnbdpdblpgnlaa
open Go.RowKit
set_option linter.unusedVariables false

attribute [local go_sem ↓] Go.wp_at_zero Go.wp_at_succ

/-- The document's writer lies at block p, its bytes in block q (if any): B are the bytes, E the error. -/
def VAt (w : World) (p : Nat) (q : Option Nat) (B : List UInt8) (E : Int) : Prop :=
  ∃ v, w.heap[p]? = some (.cells #[v, .int .i64 E] 30 (0, 0)) ∧ v.ownBlock = q ∧ w.ownsRow 0 5 1 v B.length (bvs B)


theorem VAt.cell0 {w : World} {p : Nat} {v : Value} {E : Int} (h : w.heap[p]? = some (.cells #[v, .int .i64 E] 30 (0, 0))) : w.cell? ⟨p, 0, none⟩ = some v := by rw [cell_of_heap h]; rfl
theorem VAt.cell1 {w : World} {p : Nat} {v : Value} {E : Int} (h : w.heap[p]? = some (.cells #[v, .int .i64 E] 30 (0, 0))) : w.cell? ⟨p, 1, none⟩ = some (.int .i64 E) := by rw [cell_of_heap h]; rfl

/-- The writer's own block is not that of its bytes. -/
theorem VAt.apart {w : World} {p : Nat} {v : Value} {E : Int} {n : Nat} {xs : List Value} (h : w.heap[p]? = some (.cells #[v, .int .i64 E] 30 (0, 0))) (ho : w.ownsRow 0 5 1 v n xs) : ¬ v.ownBlock = some p := by
  intro e
  rcases ho.2 with ⟨rfl, _⟩ | ⟨g, cap, cur, rfl, _, hg, _⟩
  · simp [Value.ownBlock] at e
  · simp only [Value.ownBlock, Option.some.injEq] at e
    subst e
    rw [hg] at h
    simp at h

/-- Behind an append to the writer's bytes: where the writer lies all is as it was. -/
theorem VAt.behind {w w1 w' : World} {p : Nat} {v : Value} {E : Int} {n : Nat} {xs : List Value} (hp : w.heap[p]? = some (.cells #[v, .int .i64 E] 30 (0, 0))) (hown : w.ownsRow 0 5 1 v n xs)
    (f : Fr (fun _ => False) w w1) (hg : w1.grownBy w' v.ownBlock) : w'.heap[p]? = some (.cells #[v, .int .i64 E] 30 (0, 0)) := by
  have hlt := lt_of_heap hp
  rw [hg.block p (Nat.lt_of_lt_of_le hlt f.size) (fun e => VAt.apart hp hown e.symm), f.block p hlt id]
  exact hp

/-- Behind an append to the writer's bytes and the store into the writer. -/
theorem VAt.laid {w w1 w' : World} {p : Nat} {v v' : Value} {E : Int} {n : Nat} {xs : List Value} {B' : List UInt8} {m : Nat} (hp : w.heap[p]? = some (.cells #[v, .int .i64 E] 30 (0, 0))) (hown : w.ownsRow 0 5 1 v n xs)
    (f : Fr (fun _ => False) w w1) (hg : w1.grownBy w' v.ownBlock) (ho : w'.ownsRow 0 5 1 v' m (bvs B')) (hm : m = B'.length) (hpl : v'.ownBlock = v.ownBlock ∨ ∃ k, v'.ownBlock = some k ∧ w.heap.size ≤ k) :
    VAt (w'.setCell ⟨p, 0, none⟩ v') p v'.ownBlock B' E ∧ WSt w (w'.setCell ⟨p, 0, none⟩ v') p v.ownBlock v'.ownBlock := by
  subst hm
  have hb := VAt.behind hp hown f hg
  have hne : ¬ v'.ownBlock = some p := by
    rcases hpl with e | ⟨k, e, hk⟩
    · rw [e]; exact VAt.apart hp hown
    · rw [e]
      have := lt_of_heap hp
      simp; omega
  refine ⟨⟨v', heap_setCell_two hb, rfl, ?_⟩, ?_, fun k hk e => ?_⟩
  · refine ho.kept (row := some p) ⟨rfl, rfl, rfl, by simp [World.setCell], fun k _ h => Below.heap_setCell _ _ _ _ (fun e => h (by simp [e]))⟩ (.inr hne)
  · have f1 : Fr (foot p v.ownBlock) w w' := (f.mono (T := foot p v.ownBlock) (fun _ _ h => h.elim)).grown hg (fun k _ e => .inr e)
    exact f1.setCell (fun _ => .inl rfl) _
  · rcases hpl with e' | ⟨k', e', hk'⟩
    · rw [← e']; exact e
    · rw [e'] at e
      simp only [Option.some.injEq] at e
      omega


theorem VAt.kept {w w' : World} {p : Nat} {q : Option Nat} {B : List UInt8} {E : Int} {S : Nat → Prop} (h : VAt w p q B E) (f : Fr S w w') (hp : ¬ S p) (hq : ∀ k, q = some k → ¬ S k) : VAt w' p q B E := by
  obtain ⟨v, h1, h2, h3⟩ := h
  refine ⟨v, by rw [f.block p (lt_of_heap h1) hp]; exact h1, h2, h3.1, ?_⟩
  rcases h3.2 with h4 | ⟨g, cap, cur, rfl, hb, hg, r⟩
  · exact .inl h4
  · exact .inr ⟨g, cap, cur, rfl, hb, by rw [f.block g (lt_of_heap hg) (hq g h2.symm)]; exact hg, r⟩

theorem VAt.lt {w : World} {p : Nat} {q : Option Nat} {B : List UInt8} {E : Int} (h : VAt w p q B E) : p < w.heap.size ∧ ∀ k, q = some k → k < w.heap.size := by
  obtain ⟨v, h1, h2, h3⟩ := h
  exact ⟨lt_of_heap h1, fun k e => (h3.lt k (h2.trans e)).2⟩

set_option maxHeartbeats 400000 in
set_option maxRecDepth 100000 in
theorem vuint_ok (w : World) (p : Nat) (q : Option Nat) (B : List UInt8) (n : Int) (h : VAt w p q B 0) (hn : 0 ≤ n ∧ n < 4294967296) (hB : B.length + 4 ≤ 140737488355328) :
    Calls Try.prog 53 #[.pointer (some ⟨p, 0, none⟩), .int .u32 n] w fun e w' => e = .returned (.tuple #[]) ∧ ∃ q', VAt w' p q' (B ++ be32 n) 0 ∧ WSt w w' p q q' := by
  obtain ⟨v, hp, hq, hown⟩ := h
  subst hq
  have c0 := VAt.cell0 hp
  have c1 := VAt.cell1 hp
  have hlt := lt_of_heap hp
  obtain ⟨i, hi, hz0, hz1, hz2⟩ := info_parts Try.info5
  go_enter Try.func53, Try.ntmps53
  go_wp2_with (first | (at_builtin; refine wpList_app rfl (.tmp 13) (.tmp 25) 28 rfl 5 i _ 1 1 Try.underlying28 hi hz0 hz1 hz2 rfl (by decide) v B.length (bvs B) rfl _ rfl 4 (bvs (be32 n)) ?hown ?hx ?h1 ?hb ?h63 ?hK))
  case hown => exact hown.alloc _
  case hx => rw [bvs_be32 n hn]; exact .inr ⟨_, _, rfl, rfl, cell_four_new _ _ _ _ _ _⟩
  case h1 => exact bvs_one _
  case hb => omega
  case h63 => simp only [maxLen]; omega
  case hK =>
    intro ao cap w' ho hg hpl
    have f : Fr (fun _ => False) w (w.alloc (Obj.cells #[Value.int IntKind.u8 (n / 16777216), Value.int IntKind.u8 (n / 65536 % 256), Value.int IntKind.u8 (n / 256 % 256), Value.int IntKind.u8 (n % 256)] 5)) := (Fr.refl _ _).alloc _
    have hb := VAt.behind hp hown f hg
    have L := VAt.laid (B' := B ++ be32 n) hp hown f hg (by rw [bvs_append]; exact ho) (by simp [be32]) (by rcases hpl with e | ⟨k, e, hk⟩; exact .inl e; exact .inr ⟨k, e, by omega⟩)
    have c0' := VAt.cell0 hb
    have z0' := frozen_of_heap hb 0
    clear hp c0 c1 hb hown ho hg hpl f
    go_wp2
    go_end0
    exact ⟨rfl, _, L.1, L.2⟩

theorem VAt.cell1' {w : World} {p : Nat} {q : Option Nat} {B : List UInt8} {E : Int} (h : VAt w p q B E) : w.cell? ⟨p, 1, none⟩ = some (.int .i64 E) := by
  obtain ⟨v, hp, _⟩ := h
  exact VAt.cell1 hp

theorem vuint_er (w : World) (p : Nat) (E : Int) (n : Int) (h : w.cell? ⟨p, 1, none⟩ = some (.int .i64 E)) (hE : E ≠ 0) :
    Calls Try.prog 53 #[.pointer (some ⟨p, 0, none⟩), .int .u32 n] w fun e w' => e = .returned (.tuple #[]) ∧ w = w' := by
  have hb : (E == 0) = false := by simpa using hE
  go_enter Try.func53, Try.ntmps53
  go_wp2
  go_end0
  exact ⟨rfl, rfl⟩

theorem vuint_any (w : World) (p : Nat) (q : Option Nat) (B : List UInt8) (E : Int) (n : Int) (h : VAt w p q B E) (hn : 0 ≤ n ∧ n < 4294967296) (hB : B.length + 4 ≤ 140737488355328) :
    Calls Try.prog 53 #[.pointer (some ⟨p, 0, none⟩), .int .u32 n] w fun e w' => e = .returned (.tuple #[]) ∧ ∃ q', VAt w' p q' (lay E B (be32 n)) E ∧ WSt w w' p q q' := by
  by_cases hE : E = 0
  · subst hE
    exact vuint_ok w p q B n h hn hB
  · refine (vuint_er w p E n h.cell1' hE).mono ?_
    rintro e w' ⟨rfl, rfl⟩
    refine ⟨rfl, q, ?_, WSt.refl _ _ _⟩
    unfold lay; rw [if_neg hE]; exact h

theorem vbool_any (w : World) (p : Nat) (q : Option Nat) (B : List UInt8) (E : Int) (b : Bool) (h : VAt w p q B E) (hB : B.length + 4 ≤ 140737488355328) :
    Calls Try.prog 55 #[.pointer (some ⟨p, 0, none⟩), .bool b] w fun e w' => e = .returned (.tuple #[]) ∧ ∃ q', VAt w' p q' (lay E B (be32 (if b then 1 else 0))) E ∧ WSt w w' p q q' := by
  cases b
  · go_enter Try.func55, Try.ntmps55
    go_wp2_with (go_at_call 53; refine (vuint_any w p q B E _ h (by omega) hB).mono ?_; rintro e w' ⟨rfl, h'⟩)
    go_end0
    exact ⟨rfl, h'⟩
  · go_enter Try.func55, Try.ntmps55
    go_wp2_with (go_at_call 53; refine (vuint_any w p q B E _ h (by omega) hB).mono ?_; rintro e w' ⟨rfl, h'⟩)
    go_end0
    exact ⟨rfl, h'⟩

theorem vhyper_any (w : World) (p : Nat) (q : Option Nat) (B : List UInt8) (E : Int) (n : Int) (h : VAt w p q B E) (hn : 0 ≤ n ∧ n < 18446744073709551616) (hB : B.length + 8 ≤ 140737488355328) :
    Calls Try.prog 54 #[.pointer (some ⟨p, 0, none⟩), .int .u64 n] w fun e w' => e = .returned (.tuple #[]) ∧ ∃ q', VAt w' p q' (lay E B (be32 (n / 4294967296) ++ be32 (n % 4294967296))) E ∧ WSt w w' p q q' := by
  have hl := lay_len E B (be32 (n / 4294967296))
  have hl2 : (be32 (n / 4294967296)).length = 4 := rfl
  go_enter Try.func54, Try.ntmps54
  go_wp2_with fail
  refine (vuint_any w p q B E _ h (by omega) (by omega)).mono ?_
  rintro e w1 ⟨rfl, q1, h1, s1⟩
  go_wp2_with fail
  refine (vuint_any w1 p q1 _ E _ h1 (by omega) (by omega)).mono ?_
  rintro e w2 ⟨rfl, q2, h2, s2⟩
  go_wp2
  go_end0
  exact ⟨rfl, q2, by rw [← lay_lay]; exact h2, s1.trans s2⟩

/-- One zero behind the writer's bytes. -/
theorem cell_one_new' (w : World) (a : Value) (e : TypeId) : Sr (w.alloc (.cells #[a] e)) 1 (.slice (some ⟨w.heap.size, 0, none⟩) 1 1) 1 [a] := by
  refine .inr ⟨_, _, rfl, rfl, fun j u hu => ?_⟩
  cases j with
  | zero =>
    simp at hu; subst hu
    rw [Addr.add_lit, cell_of_heap (heap_alloc_new w _)]; rfl
  | succ j => simp at hu

set_option maxHeartbeats 400000 in
set_option maxRecDepth 100000 in
theorem vfixed_ok (w : World) (p : Nat) (q : Option Nat) (B : List UInt8) (x : Value) (l : List UInt8) (h : VAt w p q B 0) (hx : Rd w x l) (hB : B.length + l.length + 8 ≤ 140737488355328) :
    Calls Try.prog 56 #[.pointer (some ⟨p, 0, none⟩), x] w fun e w' => e = .returned (.tuple #[]) ∧ ∃ q', VAt w' p q' (B ++ (l ++ pad l.length)) 0 ∧ WSt w w' p q q' := by
  obtain ⟨v, hp, hq, hown⟩ := h
  subst hq
  have c0 := VAt.cell0 hp
  have c1 := VAt.cell1 hp
  have hlt := lt_of_heap hp
  obtain ⟨ao0, cap0, rfl⟩ := hx.shape
  obtain ⟨i, hi, hz0, hz1, hz2⟩ := info_parts Try.info5
  obtain ⟨pd, hpd, hpd4⟩ : ∃ pd, (4 - l.length % 4) % 4 = pd ∧ pd < 4 := ⟨_, rfl, Nat.mod_lt _ (by omega)⟩
  have hpp : pad l.length = List.replicate pd 0 := by unfold pad; rw [hpd]
  have HPD := hide hpd
  rw [hpp]
  clear hpd hpp
  go_enter Try.func56, Try.ntmps56
  go_wp2_with (at_builtin; refine wpList_app rfl (.tmp 14) (.tmp 15) 28 rfl 5 i _ 1 1 Try.underlying28 hi hz0 hz1 hz2 rfl (by decide) v B.length (bvs B) rfl _ rfl l.length (bvs l) ?hown ?hx ?h1 ?hb ?h63 ?hK)
  case hown => exact hown
  case hx => exact hx.sr
  case h1 => exact bvs_one _
  case hb => omega
  case h63 => simp only [maxLen]; omega
  case hK =>
    intro ao cap w1 ho hg hpl
    have f : Fr (fun _ => False) w w := Fr.refl _ _
    have hb := VAt.behind hp hown f hg
    have L := VAt.laid (B' := B ++ l) hp hown f hg (by rw [bvs_append]; exact ho) (by simp) hpl
    have c0' := VAt.cell0 hb
    have z0' := frozen_of_heap hb 0
    clear hp c0 c1 hb hown ho hg hpl f hx
    have HL := hide L
    clear L
    go_wp2_with fail
    generalize w1.setCell ⟨p, 0, none⟩ (Value.slice ao (B.length + l.length) cap) = w2 at *
    obtain ⟨L1, L2⟩ := unhide HL
    clear c0' z0' HL
    go_loopw [4] (fun j w' => ∃ k : Nat, k ≤ pd ∧ j = .int .i64 ((l.length + k : Nat) : Int) ∧ ∃ q', VAt w' p q' (B ++ (l ++ List.replicate k 0)) 0 ∧ WSt w w' p v.ownBlock q') (fun j _ => l.length + pd - (intOf j).toNat)
    case atStart => exact ⟨0, Nat.zero_le _, rfl, _, by simpa using L1, L2⟩
    case round =>
      obtain ⟨k, hk, rfl, q3, ⟨v3, hp3, hq3, hown3⟩, s3⟩ := hrel
      by_cases hkp : k < pd
      · have hne : ((l.length + k : Nat) : Int) % 4 ≠ 0 := by have := unhide HPD; omega
        have hneb : (((l.length + k : Nat) : Int) % 4 != 0) = true := by simpa using hne
        have hnet : ((((l.length + k : Nat) : Int)).tmod 4 != 0) = true := by rw [Int.tmod_eq_emod_of_nonneg (by omega)]; exact hneb
        have d0 := VAt.cell0 hp3
        have HP3 := hide hp3
        have HO3 := hide hown3
        have S3 := hide s3
        subst hq3
        have hlen3 : (B ++ (l ++ List.replicate k 0)).length = B.length + l.length + k := by simp; omega
        have HL3 := hide hlen3
        clear hp3 hown3 s3 hne hlen3
        go_wp2_with (at_builtin; refine wpList_app rfl (.tmp 30) (.tmp 31) 28 rfl 5 i _ 1 1 Try.underlying28 hi hz0 hz1 hz2 rfl (by decide) v3 (B ++ (l ++ List.replicate k 0)).length (bvs (B ++ (l ++ List.replicate k 0))) rfl _ rfl 1 [.int .u8 0] ?hown ?hx ?h1 ?hb ?h63 ?hK)
        case hown => exact (unhide HO3).alloc _
        case hx => exact cell_one_new' _ _ 5
        case h1 => intro u hu; simp at hu; subst hu; rfl
        case hb => rw [unhide HL3]; omega
        case h63 => rw [unhide HL3]; simp only [maxLen]; omega
        case hK =>
          intro ao4 cap4 w4 ho4 hg4 hpl4
          have f4 : Fr (fun _ => False) wr (wr.alloc (Obj.cells #[Value.int IntKind.u8 0] 5)) := (Fr.refl _ _).alloc _
          have hb4 := VAt.behind (unhide HP3) (unhide HO3) f4 hg4
          have L4 := VAt.laid (B' := B ++ (l ++ List.replicate (k + 1) 0)) (unhide HP3) (unhide HO3) f4 hg4 (by
            have e : B ++ (l ++ List.replicate (k + 1) 0) = (B ++ (l ++ List.replicate k 0)) ++ [0] := by rw [List.replicate_succ']; simp
            rw [e, bvs_append]; exact ho4) (by simp; omega) (by rcases hpl4 with e | ⟨k', e, hk'⟩; exact .inl e; exact .inr ⟨k', e, by omega⟩)
          have e0 := VAt.cell0 hb4
          have y0 := frozen_of_heap hb4 0
          have H4 := hide L4
          clear L4 hb4 f4 ho4 hg4 hpl4 d0
          go_wp2_with fail
          go_roundw
          case rel => exact ⟨k + 1, by omega, congrArg (Value.int .i64) (by omega), _, (unhide H4).1, (unhide S3).trans (unhide H4).2⟩
          case measure => simp [intOf]; omega
      · have hkk : k = pd := by omega
        have hne : ((l.length + k : Nat) : Int) % 4 = 0 := by have := unhide HPD; omega
        have hnet : (((l.length + k : Nat) : Int)).tmod 4 = 0 := by rw [Int.tmod_eq_emod_of_nonneg (by omega)]; exact hne
        have HX := hide hkk
        have S3 := hide s3
        have HP3 := hide hp3
        clear hkk s3 hp3
        go_wp2_with fail
        go_end0
        rw [← unhide HX]
        exact ⟨rfl, q3, ⟨v3, unhide HP3, hq3, hown3⟩, unhide S3⟩

theorem vfixed_er (w : World) (p : Nat) (E : Int) (x : Value) (h : w.cell? ⟨p, 1, none⟩ = some (.int .i64 E)) (hE : E ≠ 0) :
    Calls Try.prog 56 #[.pointer (some ⟨p, 0, none⟩), x] w fun e w' => e = .returned (.tuple #[]) ∧ w = w' := by
  have hb : (E != 0) = true := by simpa using hE
  go_enter Try.func56, Try.ntmps56
  go_wp2
  exact bodyPost_ret (results_none rfl _ _ _) rfl ⟨rfl, rfl⟩

theorem vfixed_any (w : World) (p : Nat) (q : Option Nat) (B : List UInt8) (E : Int) (x : Value) (l : List UInt8) (h : VAt w p q B E) (hx : Rd w x l) (hB : B.length + l.length + 8 ≤ 140737488355328) :
    Calls Try.prog 56 #[.pointer (some ⟨p, 0, none⟩), x] w fun e w' => e = .returned (.tuple #[]) ∧ ∃ q', VAt w' p q' (lay E B (l ++ pad l.length)) E ∧ WSt w w' p q q' := by
  by_cases hE : E = 0
  · subst hE
    exact vfixed_ok w p q B x l h hx hB
  · refine (vfixed_er w p E x h.cell1' hE).mono ?_
    rintro e w' ⟨rfl, rfl⟩
    refine ⟨rfl, q, ?_, WSt.refl _ _ _⟩
    unfold lay; rw [if_neg hE]; exact h

theorem vopaque_any (w : World) (p : Nat) (q : Option Nat) (B : List UInt8) (E : Int) (x : Value) (l : List UInt8) (most : Int) (h : VAt w p q B E) (hx : Rd w x l) (hap : ∀ b, x.ownBlock = some b → ¬ foot p q b) (hl : l.length < 4294967296) (hB : B.length + l.length + 12 ≤ 140737488355328) :
    Calls Try.prog 57 #[.pointer (some ⟨p, 0, none⟩), x, .int .i64 most] w fun e w' => e = .returned (.tuple #[]) ∧ ∃ q', VAt w' p q' (wopq B E l most).1 (wopq B E l most).2 ∧ WSt w w' p q q' := by
  unfold wopq
  have c1 := h.cell1'
  obtain ⟨ao0, cap0, rfl⟩ := hx.shape
  by_cases hE : E = 0
  · subst hE
    rw [if_neg (by simp)]
    by_cases hm : most < (l.length : Int)
    · rw [if_pos hm]
      obtain ⟨v, hp, hq, hown⟩ := h
      have z1 := frozen_of_heap hp 1
      have HW := hide hp
      have HO := hide hown
      clear hp hown hx
      go_enter Try.func57, Try.ntmps57
      go_wp2
      have hap' := VAt.apart (unhide HW) (unhide HO)
      refine bodyPost_ret (results_none rfl _ _ _) rfl ⟨rfl, q, ⟨v, heap_setCell_two1 (unhide HW), hq, ?_⟩, (Fr.refl (foot p q) _).setCell (fun _ => .inl rfl) _, fun _ _ h => h⟩
      exact (unhide HO).kept (row := some p) ⟨rfl, rfl, rfl, by simp [World.setCell], fun k _ h => Below.heap_setCell _ _ _ _ (fun e => h (by simp [e]))⟩ (.inr hap')
    · rw [if_neg hm]
      have HU := hide (vuint_ok w p q B (l.length : Int) h (by omega) (by omega))
      go_enter Try.func57, Try.ntmps57
      go_wp2_with fail
      refine (unhide HU).mono ?_
      rintro e w1 ⟨rfl, q1, h1, s1⟩
      have hx1 := hx.kept s1.1 hap
      have HF := hide (vfixed_ok w1 p q1 _ _ l h1 hx1 (by simp [be32]; omega))
      go_wp2_with fail
      refine (unhide HF).mono ?_
      rintro e w2 ⟨rfl, q2, h2, s2⟩
      go_wp2_with fail
      go_end0
      exact ⟨rfl, q2, by unfold opq; rw [← List.append_assoc]; exact h2, s1.trans s2⟩
  · have hb : (E != 0) = true := by simpa using hE
    rw [if_pos hE]
    go_enter Try.func57, Try.ntmps57
    go_wp2
    exact bodyPost_ret (results_none rfl _ _ _) rfl ⟨rfl, q, h, WSt.refl _ _ _⟩

end Go.Proofs.Ytmnbdpdblpgnlaa
