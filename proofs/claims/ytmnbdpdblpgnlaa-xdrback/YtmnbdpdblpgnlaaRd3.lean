/-
  The walks of package xdr's Reader, on: Fixed, Opaque, Text, Why, Done, NewReader.
-/
import Derived.Test.YtmnbdpdblpgnlaaRd2
import Derived.Laws.BytesArg
namespace Go.Proofs.Ytmnbdpdblpgnlaa
open Go.RowKit
set_option linter.unusedVariables false

attribute [local go_sem ↓] Go.wp_at_zero Go.wp_at_succ

/-- A text of bytes. -/
def str (l : List UInt8) : ByteArray := ⟨l.toArray⟩

theorem str_data (l : List UInt8) : (str l).data.toList = l := by simp [str]
theorem str_size (l : List UInt8) : (str l).size = l.length := by simp [str, ByteArray.size]

theorem conv_rd {P : Program} {w : World} {v : Value} {l : List UInt8} (h : Rd w v l) (src dst e : TypeId) (hs : P.underlying src = some (.slice e)) (he : P.underlying e = some (.int .u8)) (hd : P.underlying dst = some .string) :
    (convert src dst v).run P w = .ok (.string (str l)) w := by
  obtain ⟨ao, cap, rfl⟩ := h.shape
  by_cases hl : l.length = 0
  · obtain rfl := List.eq_nil_of_length_eq_zero hl
    rw [run_convert_bytes_string w src dst e _ _ _ hs he hd]
    cases ao with
    | none => simp [Conv.bytesToString, str]; rfl
    | some ad =>
      have e2 : (loadCells ad 0).run P w = .ok (([] : List Int).map (Value.int .u8)).toArray w := by simp [loadCells, loadCellsFrom]
      exact (run_bytesToString w ad 0 cap [] e2).trans rfl
  · obtain ⟨b, o, rfl, _, _, _, h3⟩ := h.lits (by omega)
    rw [run_convert_bytes_arg w src e hs he b o l.length cap (l.map fun b => (b.toNat : Int)) (by simp) ?_ dst hd]
    · rw [show strOfNums (l.map fun b => (b.toNat : Int)) = str l from ?_]
      unfold strOfNums str
      rw [List.map_map]
      congr 2
      have : ((fun n : Int => UInt8.ofNat n.toNat) ∘ fun b : UInt8 => (b.toNat : Int)) = id := by
        funext b; simp
      rw [this, List.map_id]
    · intro i hi
      rw [h3 i hi]
      simp [List.getD, hi]

theorem rfixed_any (w : World) (p : Nat) (q : Option Nat) (D : List UInt8) (a : Nat) (E : Int) (n : Int) (h : RAt w p q D a E) (hn : n ≤ 9223372036854775807) (hD : D.length ≤ 140737488355328) :
    Calls Try.prog 40 #[.pointer (some ⟨p, 0, none⟩), .int .i64 n] w fun e w' => ∃ v, e = .returned v ∧ w'.ownsRow 0 5 1 v (tk D a E n a).1.length (bvs (tk D a E n a).1) ∧ (∀ k, v.ownBlock = some k → w.heap.size ≤ k) ∧ RAt w' p q D (tk D a E n a).2.1 (tk D a E n a).2.2 ∧ Fr (fun k => k = p) w w' := by
  obtain ⟨v, h1, _, _, hal⟩ := id h
  have c1 := RAt.cell1 h1
  have HT := hide (take_any w p q D a E n a h hn (by unfold maxLen; omega) hal)
  have hlen : (tk D a E n a).1.length ≤ D.length := by
    unfold tk
    repeat' split
    all_goals simp
    all_goals omega
  generalize tk D a E n a = T at *
  obtain ⟨l, a1, E1⟩ := T
  dsimp only at *
  clear h h1
  go_enter Try.func40, Try.ntmps40
  go_wp2_with (first | (go_at_call 19; refine (at_any _ p a c1).mono ?_; rintro e w' ⟨rfl, rfl⟩))
  refine (unhide HT).mono ?_
  rintro e w1 ⟨x, rfl, hrd, hx, hr1, hf1⟩
  have HC := hide (clone_any w1 x l hrd (by omega))
  obtain ⟨ao, cap, rfl⟩ := hrd.shape
  clear hrd
  go_wp2_with fail
  refine (unhide HC).mono ?_
  rintro e w2 ⟨v2, rfl, h1, h2, h3⟩
  go_wp2
  go_ret
  refine ⟨_, rfl, h1, fun k hk => Nat.le_trans hf1.size (h3 k hk), hr1.kept h2 id (fun _ _ h => h), hf1.trans h2 (fun _ _ h => h.elim)⟩

theorem rfixed_nil (w : World) (n : Int) : Calls Try.prog 40 #[.pointer none, .int .i64 n] w fun e w' => e = .returned (.slice none 0 0) ∧ w = w' := by
  have q5 : ∀ (w : World) (a : Option Addr) (n c n' c' : Nat), (binOp .eql 28 (.slice a n c) (.slice none n' c')).run Try.prog w = .ok (.bool a.isNone) w := fun w a n c n' c' => Lib.run_eql_slice_nil w 28 5 a n c n' c' Try.underlying28
  go_enter Try.func40, Try.ntmps40
  go_wp2_with (first | (go_at_call 19; refine (at_nil _).mono ?_; rintro e w' ⟨rfl, rfl⟩) | (go_at_call 73; refine (take_nil _ _ _).mono ?_; rintro e w' ⟨rfl, rfl⟩) | go_in)
  go_ret
  exact ⟨rfl, rfl⟩

theorem rcnt_len (D : List UInt8) (a : Nat) (E : Int) (most : Int) : (rcnt D a E most).1.length ≤ D.length := by
  unfold rcnt tk
  repeat' split
  all_goals simp
  all_goals omega

theorem ropaque_any (w : World) (p : Nat) (q : Option Nat) (D : List UInt8) (a : Nat) (E : Int) (most : Int) (h : RAt w p q D a E) (hD : D.length ≤ 140737488355328) :
    Calls Try.prog 52 #[.pointer (some ⟨p, 0, none⟩), .int .i64 most] w fun e w' => ∃ v, e = .returned v ∧ w'.ownsRow 0 5 1 v (rcnt D a E most).1.length (bvs (rcnt D a E most).1) ∧ (∀ k, v.ownBlock = some k → w.heap.size ≤ k) ∧ RAt w' p q D (rcnt D a E most).2.1 (rcnt D a E most).2.2 ∧ Fr (fun k => k = p) w w' := by
  have HT := hide (counted_any w p q D a E most h (by unfold maxLen; omega))
  have hlen := rcnt_len D a E most
  generalize rcnt D a E most = T at *
  obtain ⟨l, a1, E1⟩ := T
  dsimp only at *
  clear h
  go_enter Try.func52, Try.ntmps52
  go_wp2_with fail
  refine (unhide HT).mono ?_
  rintro e w1 ⟨x, rfl, hrd, hx, hr1, hf1⟩
  have HC := hide (clone_any w1 x l hrd (by omega))
  obtain ⟨ao, cap, rfl⟩ := hrd.shape
  clear hrd
  go_wp2_with fail
  refine (unhide HC).mono ?_
  rintro e w2 ⟨v2, rfl, h1, h2, h3⟩
  go_wp2
  go_ret
  refine ⟨_, rfl, h1, fun k hk => Nat.le_trans hf1.size (h3 k hk), hr1.kept h2 id (fun _ _ h => h), hf1.trans h2 (fun _ _ h => h.elim)⟩

theorem ropaque_nil (w : World) (n : Int) : Calls Try.prog 52 #[.pointer none, .int .i64 n] w fun e w' => e = .returned (.slice none 0 0) ∧ w = w' := by
  have q5 : ∀ (w : World) (a : Option Addr) (n c n' c' : Nat), (binOp .eql 28 (.slice a n c) (.slice none n' c')).run Try.prog w = .ok (.bool a.isNone) w := fun w a n c n' c' => Lib.run_eql_slice_nil w 28 5 a n c n' c' Try.underlying28
  go_enter Try.func52, Try.ntmps52
  go_wp2_with (first | (go_at_call 72; refine (counted_nil _ _).mono ?_; rintro e w' ⟨rfl, rfl⟩) | go_in)
  go_ret
  exact ⟨rfl, rfl⟩

theorem rtext_any (w : World) (p : Nat) (q : Option Nat) (D : List UInt8) (a : Nat) (E : Int) (most : Int) (h : RAt w p q D a E) (hD : D.length ≤ maxLen) :
    Calls Try.prog 39 #[.pointer (some ⟨p, 0, none⟩), .int .i64 most] w fun e w' => e = .returned (.string (str (rcnt D a E most).1)) ∧ RAt w' p q D (rcnt D a E most).2.1 (rcnt D a E most).2.2 ∧ Fr (fun k => k = p) w w' := by
  have HT := hide (counted_any w p q D a E most h hD)
  generalize rcnt D a E most = T at *
  obtain ⟨l, a1, E1⟩ := T
  dsimp only at *
  clear h
  go_enter Try.func39, Try.ntmps39
  go_wp2_with fail
  refine (unhide HT).mono ?_
  rintro e w1 ⟨x, rfl, hrd, hx, hr1, hf1⟩
  have kc := conv_rd (P := Try.prog) hrd 28 9 5 Try.underlying28 Try.underlying5 Try.underlying9
  obtain ⟨ao, cap, rfl⟩ := hrd.shape
  clear hrd
  go_wp2_with fail
  go_ret
  exact ⟨rfl, hr1, hf1⟩

theorem rtext_nil (w : World) (n : Int) : Calls Try.prog 39 #[.pointer none, .int .i64 n] w fun e w' => e = .returned (.string (str [])) ∧ w = w' := by
  have kc := conv_rd (P := Try.prog) (Rd.nil w) 28 9 5 Try.underlying28 Try.underlying5 Try.underlying9
  go_enter Try.func39, Try.ntmps39
  go_wp2_with (first | (go_at_call 72; refine (counted_nil _ _).mono ?_; rintro e w' ⟨rfl, rfl⟩))
  go_ret
  exact ⟨rfl, rfl⟩

theorem rwhy_nil (w : World) : Calls Try.prog 18 #[.pointer none] w fun e w' => e = .returned (.tuple #[.int .i64 0, .int .i64 0]) ∧ w = w' := by
  go_enter Try.func18, Try.ntmps18
  go_wp2
  go_ret2
  exact ⟨rfl, rfl⟩

theorem rwhy_ok (w : World) (p : Nat) (c2 : w.cell? ⟨p, 2, none⟩ = some (.int .i64 0)) : Calls Try.prog 18 #[.pointer (some ⟨p, 0, none⟩)] w fun e w' => e = .returned (.tuple #[.int .i64 0, .int .i64 0]) ∧ Qt w w' := by
  go_enter Try.func18, Try.ntmps18
  go_wp2
  go_ret2
  exact ⟨rfl, Qt.refl _⟩

theorem rwhy_er (w : World) (p : Nat) (a E : Int) (c1 : w.cell? ⟨p, 1, none⟩ = some (.int .i64 a)) (c2 : w.cell? ⟨p, 2, none⟩ = some (.int .i64 E)) (hE : E ≠ 0) : Calls Try.prog 18 #[.pointer (some ⟨p, 0, none⟩)] w fun e w' => e = .returned (.tuple #[.int .i64 E, .int .i64 a]) ∧ Qt w w' := by
  have hb : (E == 0) = false := by simpa using hE
  go_enter Try.func18, Try.ntmps18
  go_wp2
  go_quiet (fail)
  go_wp2
  go_ret2
  exact ⟨rfl, Qt.drewN _ _⟩

theorem rwhy_any (w : World) (p : Nat) (q : Option Nat) (D : List UInt8) (a : Nat) (E : Int) (h : RAt w p q D a E) : Calls Try.prog 18 #[.pointer (some ⟨p, 0, none⟩)] w fun e w' => e = .returned (.tuple #[.int .i64 E, .int .i64 (if E = 0 then 0 else (a : Int))]) ∧ Qt w w' := by
  obtain ⟨v, h1, _⟩ := h
  by_cases hE : E = 0
  · subst hE
    exact rwhy_ok w p (RAt.cell2 h1)
  · rw [if_neg hE]
    exact rwhy_er w p a E (RAt.cell1 h1) (RAt.cell2 h1) hE

/-- Done. -/
def rdone (D : List UInt8) (a : Nat) (E : Int) : Int := if E ≠ 0 then E else if a < D.length then 4 else 0

theorem rdone_any (w : World) (p : Nat) (q : Option Nat) (D : List UInt8) (a : Nat) (E : Int) (h : RAt w p q D a E) (hD : D.length ≤ maxLen) : Calls Try.prog 22 #[.pointer (some ⟨p, 0, none⟩)] w fun e w' => e = .returned (.int .i64 (rdone D a E)) ∧ Qt w w' := by
  unfold rdone
  obtain ⟨v, h1, _, h3, hal⟩ := id h
  obtain ⟨ao, cap, rfl⟩ := owns_shape h3
  have HW := hide (rwhy_any w p q D a E h)
  by_cases hE : E = 0
  · subst hE
    have c0 := RAt.cell0 h1
    have c1 := RAt.cell1 h1
    clear h1 h3 h
    have HL := hide (left_any (n := D.length) (ao := ao) (cap := cap) (a := a) (p := p))
    rw [if_neg (show ¬ ((0 : Int) ≠ 0) by simp)]
    by_cases hlt : a < D.length
    · rw [if_pos hlt]
      have hlt' : (0 : Int) < (D.length : Int) - (a : Int) := by omega
      go_enter Try.func22, Try.ntmps22
      go_wp2_with fail
      refine (unhide HW).mono ?_
      rintro e w1 ⟨rfl, q1⟩
      have d0 : w1.cell? ⟨p, 0, none⟩ = some (.slice ao D.length cap) := by rw [World.cell?_of_block (w := w) (by rw [q1.heap])]; exact c0
      have d1 : w1.cell? ⟨p, 1, none⟩ = some (.int .i64 (a : Int)) := by rw [World.cell?_of_block (w := w) (by rw [q1.heap])]; exact c1
      go_wp2_with fail
      refine (unhide HL w1 d0 d1 hal hD).mono ?_
      rintro e w2 ⟨rfl, q2⟩
      go_wp2
      go_ret
      exact ⟨rfl, q1.trans q2⟩
    · rw [if_neg hlt]
      have hlt' : ¬ (0 : Int) < (D.length : Int) - (a : Int) := by omega
      go_enter Try.func22, Try.ntmps22
      go_wp2_with fail
      refine (unhide HW).mono ?_
      rintro e w1 ⟨rfl, q1⟩
      have d0 : w1.cell? ⟨p, 0, none⟩ = some (.slice ao D.length cap) := by rw [World.cell?_of_block (w := w) (by rw [q1.heap])]; exact c0
      have d1 : w1.cell? ⟨p, 1, none⟩ = some (.int .i64 (a : Int)) := by rw [World.cell?_of_block (w := w) (by rw [q1.heap])]; exact c1
      go_wp2_with fail
      refine (unhide HL w1 d0 d1 hal hD).mono ?_
      rintro e w2 ⟨rfl, q2⟩
      go_wp2
      go_ret
      exact ⟨rfl, q1.trans q2⟩
  · rw [if_pos hE]
    clear h1 h3 h
    have hb : (E != 0) = true := by simpa using hE
    go_enter Try.func22, Try.ntmps22
    go_wp2_with fail
    refine (unhide HW).mono ?_
    rintro e w1 ⟨rfl, q1⟩
    go_wp2
    go_ret
    exact ⟨rfl, q1⟩

theorem rdone_nil (w : World) : Calls Try.prog 22 #[.pointer none] w fun e w' => e = .returned (.int .i64 0) ∧ w = w' := by
  go_enter Try.func22, Try.ntmps22
  go_wp2_with (first | (go_at_call 18; refine (rwhy_nil _).mono ?_; rintro e w' ⟨rfl, rfl⟩) | (go_at_call 20; refine (left_nil _).mono ?_; rintro e w' ⟨rfl, rfl⟩))
  go_ret
  exact ⟨rfl, rfl⟩

theorem newReader_any (w : World) (x : Value) (D : List UInt8) (hx : Rd w x D) (hD : D.length ≤ 140737488355328) :
    Calls Try.prog 15 #[x] w fun e w' => ∃ p q, e = .returned (.pointer (some ⟨p, 0, none⟩)) ∧ RAt w' p q D 0 0 ∧ w.heap.size ≤ p ∧ (∀ k, q = some k → w.heap.size ≤ k) ∧ Fr (fun _ => False) w w' := by
  have HC := hide (clone_any w x D hx hD)
  obtain ⟨ao, cap, rfl⟩ := hx.shape
  clear hx
  go_enter Try.func15, Try.ntmps15
  go_wp2_with fail
  refine (unhide HC).mono ?_
  rintro e w1 ⟨v2, rfl, h1, h2, h3⟩
  obtain ⟨ao2, cap2, rfl⟩ := owns_shape h1
  have HO := hide h1
  clear h1
  go_wp2
  go_ret
  refine ⟨w1.heap.size, _, rfl, ⟨_, heap_alloc_new w1 _, rfl, (unhide HO).alloc _, Nat.zero_le _⟩, h2.size, h3, h2.alloc _⟩

end Go.Proofs.Ytmnbdpdblpgnlaa
