/-
  Read's answer, whose bytes may be spoilt.
  What does does, both beside each other: Read, whose answer is spoilt.
  append(s, "rest"...): a string's bytes behind what is owned.
-/
import Derived.Test.YtdgmlopaeonacaaM24
import Derived.Lib.AppendStr
namespace Go.Proofs.Ytdgmlopaeonacaa
set_option linter.unusedVariables false
set_option linter.unusedSimpArgs false
open Go.RowKit
set_option linter.unusedVariables false
set_option linter.unusedSimpArgs false

attribute [local go_sem ↓] Go.wp_at_zero Go.wp_at_succ

set_option maxRecDepth 100000 in
theorem clone2_any (w : World) (ao : Option Addr) (n cap : Nat) (l : List UInt8) (hv : Rd w (.slice ao n cap) l) (hn : (ao.isSome = true)) (h0 : 0 < l.length) (hl : l.length = n) (hn5 : n ≤ 100000) : Calls Try.prog 43 #[.slice ao n cap] w fun e w' => ∃ a c, e = .returned (.slice a n c) ∧ w'.ownsRow 0 5 1 (.slice a n c) n (bvs l) ∧ Fr (fun _ => False) w w' ∧ ∀ b, (Value.slice a n c).ownBlock = some b → w.heap.size ≤ b := by
  obtain ⟨vb, vo, rfl, -, hvc, hvm, -⟩ := hv.lits h0
  obtain ⟨inf, hi0, hz0, hz1, hz2⟩ := info_parts Try.info5
  have hlm : n ≤ maxLen := by omega
  have hby : n ≤ 140737488355328 := by omega
  have HV := hide hv
  have HL := hide hl
  have HM := hide hlm
  have HBY := hide hby
  have heq : (binOp .eql 37 (.slice (some ⟨vb, vo, none⟩) n cap) (.slice none 0 0)).run Try.prog w = .ok (.bool false) w := Lib.run_eql_slice_nil w 37 5 _ _ _ _ _ Try.underlying37
  clear hv hl h0 hvc hvm hlm hby
  go_enter Try.func43, Try.ntmps43
  go_wp2_with (at_builtin; refine wpList_app rfl (.tmp 5) (.tmp 6) 37 rfl 5 inf _ 1 1 Try.underlying37 hi0 hz0 hz1 hz2 rfl (by decide) (.slice (some ⟨w.heap.size, 0, none⟩) 0 0) 0 [] rfl (.slice (some ⟨vb, vo, none⟩) n cap) rfl n (bvs l) (owns_new (heap_alloc_new _ _)) (by have := ((unhide HV).kept ((Fr.refl (fun _ => False) w).alloc (.cells #[] 5)) (fun _ _ h => h)).sr; rw [unhide HL] at this; exact this) (bvs_one _) (by rw [Nat.zero_add, Nat.mul_one]; exact unhide HBY) (by rw [Nat.zero_add]; exact unhide HM) ?_)
  intro ao c w2 o2 g2 p2
  have hR2 : w2.ownsRow 0 5 1 (.slice ao n c) n (bvs l) := by simpa using o2
  have hnew : ∀ b, (Value.slice ao n c).ownBlock = some b → w.heap.size ≤ b := fun b hb => by
    rcases p2 with e | ⟨k, e, hk⟩
    · rw [e] at hb; simp [Value.ownBlock] at hb; omega
    · rw [e] at hb; simp at hb; omega
  have HR2 := hide hR2
  have HP2 := hide hnew
  have F2 := hide (((Fr.refl (fun _ => False) w).alloc (.cells #[] 5)).grown g2 (fun k hk e => by simp [Value.ownBlock] at e; omega))
  clear o2 g2 p2 hR2 hnew
  go_wp2_with fail
  go_ret
  exact ⟨ao, c, rfl, unhide HR2, unhide F2, unhide HP2⟩

/-- What Read answers, and where the answer lies: behind all that there was. -/
def RdP3 [Av] (w : World) (p h r u : Nat) (dv lv : Value) (R : List (Nat × Pl)) (t : Int × List Pl × Hm × Ca) (e : Ending) (w' : World) : Prop :=
  ∃ w1 lv' vs' L' R', Cs w w1 p h r u dv lv R lv' vs' L' R' t.2.2.2 t.2.2.1 ∧ R'.map Prod.snd = t.2.1 ∧ Fr (fun _ => False) w1 w' ∧ ((t.1 ≠ 0 ∧ e = .returned (.tuple #[.slice none 0 0, .int .i64 t.1])) ∨ (t.1 = 0 ∧ ∃ x ao cc, t.2.1.getLast? = some x ∧ e = .returned (.tuple #[.slice ao 384 cc, .int .i64 0]) ∧ w'.ownsRow 0 5 1 (.slice ao 384 cc) 384 (bvs x.P) ∧ x.P.length = 384 ∧ ∀ b, (Value.slice ao 384 cc).ownBlock = some b → w1.heap.size ≤ b))
section
variable (w : World) (p h r u : Nat) (L : List (Int × Nat)) (R : List (Nat × Pl)) (c : Ca) (dv lv : Value) (vs : List Value) (m : Hm)
set_option maxRecDepth 100000 in
set_option maxHeartbeats 1000000 in
theorem cread3_any [Av] (b : Int) (H : KAt w p h r u L R c) (HH : HAt w h dv lv vs m) (hD : ∀ q ∈ R, q.2.b < (m.D.length : Int)) (hc : m.calls < 999999990) (hn : c.hit + c.miss < 1000000000) : Calls Try.prog 22 #[ptr p, .int .i64 b] w fun e w' => RdP3 w p h r u dv lv R (ftR c m (R.map Prod.snd) b) e w' := by
  have HF := hide (fetch_any w p h r u L R c dv lv vs m b H HH hD hc hn)
  clear H HH hD hc hn
  generalize ftR c m (R.map Prod.snd) b = t at *
  obtain ⟨te, tl, tm, tc⟩ := t
  unfold ptr at *
  go_enter Try.func22, Try.ntmps22
  go_wp2_with fail
  refine (unhide HF).mono ?_
  rintro e w1 ⟨lv1, vs1, L1, R1, hCs, hl1, h1⟩
  dsimp only at hCs hl1 h1
  rcases h1 with ⟨hne, rfl⟩ | ⟨rfl, R2, ⟨qa, qx⟩, rfl, rfl⟩
  · have bne : (te != 0) = true := by simpa using hne
    have HNE := hide hne
    have HCs := hide hCs
    have HL1 := hide hl1
    clear hne hCs hl1 HF
    go_wp2_with fail
    go_ret2
    exact ⟨w1, lv1, vs1, L1, R1, unhide HCs, unhide HL1, Fr.refl _ _, .inl ⟨unhide HNE, rfl⟩⟩
  · obtain ⟨o, n, hN⟩ := hCs.k.at (q := (qa, qx)) (by simp)
    have hok := hCs.k.ok (qa, qx) (by simp)
    have HCL := hide (clone2_any w1 (some ⟨qa, 7, none⟩) 384 384 qx.P (rd_node hN hok.len) rfl (by rw [hok.len]; decide) hok.len (by decide))
    have HLN := hide hok.len
    have HCs := hide hCs
    have HL1 := hide hl1
    unfold ptr
    clear hCs hl1 hN hok HF
    dsimp only
    go_wp2_with fail
    refine (unhide HCL).mono ?_
    rintro e w2 ⟨ao, cc, rfl, h2, f2, h4⟩
    have F2 := hide f2
    have H2 := hide h2
    have H4 := hide h4
    clear h2 f2 h4 HCL
    go_wp2_with fail
    go_ret2
    exact ⟨w1, lv1, vs1, L1, _, unhide HCs, unhide HL1, unhide F2, .inr ⟨rfl, qx, ao, cc, by rw [← unhide HL1]; simp, rfl, unhide H2, unhide HLN, unhide H4⟩⟩

end
section
variable {X Y : Nat → Prop} {w0 w W W' : World} {p h r u : Nat} {dv : Value} {q g : Nat} {dv2 : Value} {k : Nat} {c c' c2 c2' : Ca} {m m' m2 m2' : Hm} {l l' l2 l2' : List Pl}
/-- What Read answers, behind w1. -/
def RdE (t : Int × List Pl × Hm × Ca) (e : Ending) (w1 w' : World) : Prop :=
  Fr (fun _ => False) w1 w' ∧ ((t.1 ≠ 0 ∧ e = .returned (.tuple #[.slice none 0 0, .int .i64 t.1])) ∨ (t.1 = 0 ∧ ∃ x ao cc, t.2.1.getLast? = some x ∧ e = .returned (.tuple #[.slice ao 384 cc, .int .i64 0]) ∧ w'.ownsRow 0 5 1 (.slice ao 384 cc) 384 (bvs x.P) ∧ x.P.length = 384 ∧ ∀ b, (Value.slice ao 384 cc).ownBlock = some b → w1.heap.size ≤ b))
theorem cx_read3 [Av] (b : Int) (H : CX X w0 w p h r u dv c m l) (hD : InD m l) (hc : m.calls < 999999990) (hn : c.hit + c.miss < 1000000000) : Calls Try.prog 22 #[ptr p, .int .i64 b] w fun e w' => ∃ w1, RdE (ftR c m l b) e w1 w' ∧ CX X w0 w1 p h r u dv (ftR c m l b).2.2.2 (ftR c m l b).2.2.1 (ftR c m l b).2.1 := by
  obtain ⟨lv, vs, L, R, h1, h2, rfl, h4, h5⟩ := H
  refine (cread3_any w p h r u L R c dv lv vs m b h1 h2 hD.rr hc hn).mono ?_
  rintro e w' ⟨w1, lv', vs', L', R', C, hl, f, hA⟩
  exact ⟨w1, ⟨f, hA⟩, cx_of h4 h5 C hl⟩
/-- A call of the program's. -/
theorem PR.prog2 [Av] {F : Nat} {args : Array Value} {Ψ : Ending → World → World → Prop} (H : PR w W p h r u dv q g dv2 c m l c2 m2 l2) (call : ∀ X, CX X W W p h r u dv c m l → Calls Try.prog F args W fun e V => ∃ W', Ψ e W' V ∧ CX X W W' p h r u dv c' m' l') : Calls Try.prog F args W fun e V => ∃ W', Ψ e W' V ∧ PR w W' p h r u dv q g dv2 c' m' l' c2 m2 l2 ∧ Fr (KY W) W W' := by
  obtain ⟨X, Y, h1, h2, h3, h4, h5, h6⟩ := H
  refine (call X h1).mono ?_
  rintro e V ⟨W', hΨ, C⟩
  obtain ⟨X', b1, b2, b3⟩ := C.base
  have f := C.f
  refine ⟨W', hΨ, ⟨X', Y, b1, h2.keep f h3 (fun k hk => (h4 k hk).2), fun k hk hy => ?_, fun k hk => ⟨?_, b3 k hk⟩, fun k hk => ⟨(h5 k hk).1, (h5 k hk).2.up f (fun hx => h3 k hx hk)⟩, h6.trans f (fun k hk e => by have := (h4 k e).1; omega)⟩, f.mono (fun k _ e => (h4 k e).2)⟩
  · rcases b2 k hk with hx | hx
    · exact h3 k hx hy
    · have := (h5 k hy).2.lt; omega
  · rcases b2 k hk with hx | hx
    · exact (h4 k hx).1
    · have := h6.size; omega
/-- What lp_read1 says of an answer of 384 bytes in block a. -/
def RdO (w : World) (p h r u : Nat) (dv : Value) (q g : Nat) (dv2 : Value) (c : Ca) (m : Hm) (l : List Pl) (t : Int × List Pl × Hm × Ca) (e : Ending) (W1 : World) : Prop :=
  (t.1 ≠ 0 ∧ e = .returned (.tuple #[.slice none 0 0, .int .i64 t.1]) ∧ @PR avNo w W1 p h r u dv q g dv2 t.2.2.2 t.2.2.1 t.2.1 c m l) ∨
  (t.1 = 0 ∧ ∃ x a cc, t.2.1.getLast? = some x ∧ e = .returned (.tuple #[.slice (some ⟨a, 0, none⟩) 384 cc, .int .i64 0]) ∧ W1.ownsRow 0 5 1 (.slice (some ⟨a, 0, none⟩) 384 cc) 384 (bvs x.P) ∧ x.P.length = 384 ∧ 384 ≤ cc ∧ cc ≤ maxLen ∧ w.heap.size ≤ a ∧ @PR (avOne a) w W1 p h r u dv q g dv2 t.2.2.2 t.2.2.1 t.2.1 c m l)
theorem lp_read1 (H : @LP avNo w W p h r u dv q g dv2 k c m l) (hk : k ≤ 1000) (kb : Int) : Calls Try.prog 22 #[ptr p, .int .i64 kb] W fun e W1 => RdO w p h r u dv q g dv2 c m l (ftR c m l kb) e W1 ∧ Fr (KY W) W W1 := by
  obtain ⟨hP, hN, hpp⟩ := H
  obtain ⟨n1, n2, n3, n4, n5, n6⟩ := hN.num hk
  letI := avNo
  refine (PR.prog2 hP (Ψ := RdE (ftR c m l kb)) (fun X C => cx_read3 kb C hN.inD n2 n3)).mono ?_
  rintro e V ⟨W', ⟨f, hA⟩, hp, f1⟩
  have hw : w.heap.size ≤ W'.heap.size := by
    obtain ⟨X, Y, -, -, -, -, -, h6⟩ := hp
    exact h6.size
  refine ⟨?_, f1.trans f (fun _ _ e => e.elim)⟩
  rcases hA with ⟨e1, e2⟩ | ⟨e1, x, ao, cc, e2, e3, e4, e5, e6⟩
  · exact .inl ⟨e1, e2, PR.fr hp (S := fun _ => False) f (fun _ e => e.elim)⟩
  · obtain ⟨a, cc', cur, ev, h1, h2, h3, h4, h5⟩ := owns_at e4 (by decide)
    simp only [Value.slice.injEq] at ev
    obtain ⟨rfl, -, rfl⟩ := ev
    have ha := e6 a rfl
    exact .inr ⟨e1, x, a, cc, e2, e3, e4, e5, h1, h2, by omega, hp.to f ha (lt_of_heap h3)⟩
end
end Go.Proofs.Ytdgmlopaeonacaa

namespace Go.Proofs.Ytdgmlopaeonacaa
set_option linter.unusedVariables false
set_option linter.unusedSimpArgs false
open Go.RowKit
set_option linter.unusedVariables false
set_option linter.unusedSimpArgs false

attribute [local go_sem ↓] Go.wp_at_zero Go.wp_at_succ

theorem wrapU8 (n : UInt8) : IntKind.u8.wrap ((n.toNat : Nat) : Int) = ((n.toNat : Nat) : Int) := by
  have := n.toNat_lt
  simp [IntKind.wrap, IntKind.bits, IntKind.signed]
  omega
theorem xorV (a b : UInt8) : bits BinOp.xor IntKind.u8 ((a.toNat : Nat) : Int) ((b.toNat : Nat) : Int) = (((a ^^^ b).toNat : Nat) : Int) := by
  show IntKind.u8.wrap ((BitVec.ofInt 8 ((a.toNat : Nat) : Int) ^^^ BitVec.ofInt 8 ((b.toNat : Nat) : Int)).toNat : Int) = _
  rw [BitVec.ofInt_natCast, BitVec.ofInt_natCast, ← UInt8.toBitVec_ofNat', ← UInt8.toBitVec_ofNat', UInt8.ofNat_toNat, UInt8.ofNat_toNat, ← UInt8.toBitVec_xor, UInt8.toNat_toBitVec]
  exact wrapU8 _
theorem bvsSet9 (P : List UInt8) (j : Nat) (b : UInt8) : (bvs P).set j (.int .u8 ((b.toNat : Nat) : Int)) = bvs (P.set j b) := by unfold bvs; rw [List.map_set]
theorem bvsGet9 (P : List UInt8) (j : Nat) (hj : j < P.length) : (bvs P)[j]? = some (.int .u8 (((P[j]).toNat : Nat) : Int)) := by unfold bvs; rw [List.getElem?_map, List.getElem?_eq_getElem hj]; rfl
section
variable {w W W1 : World} {p h r u : Nat} {dv : Value} {q g : Nat} {dv2 : Value} {k : Nat} {c cc : Ca} {m mm : Hm} {l ll : List Pl} {kb kn : Int} {pv : Value} {ch : Nat}
theorem lp_read2 [Av] (hN : Nm k c m l) (hk : k ≤ 1000) (kb : Int) (H1 : PR w W1 p h r u dv q g dv2 cc mm ll c m l) : Calls Try.prog 31 #[ptr q, .int .i64 kb] W1 fun e w' => (((ftR c m l kb).1 ≠ 0 ∧ e = .returned (.tuple #[.slice none 0 0, .int .i64 (ftR c m l kb).1])) ∨ ((ftR c m l kb).1 = 0 ∧ ∃ x ao cc, (ftR c m l kb).2.1.getLast? = some x ∧ e = .returned (.tuple #[.slice ao 384 cc, .int .i64 0]) ∧ Rd w' (.slice ao 384 cc) x.P)) ∧ PR w w' p h r u dv q g dv2 cc mm ll (ftR c m l kb).2.2.2 (ftR c m l kb).2.2.1 (ftR c m l kb).2.1 ∧ Fr (KY W1) W1 w' := by
  obtain ⟨n1, n2, n3, n4, n5, n6⟩ := hN.num hk
  exact H1.doc (fun Y D _ => dx_read kb D n4 hN.inD n2 n3)
set_option maxRecDepth 100000 in
set_option maxHeartbeats 16000000 in
theorem does0 (H : @LP avNo w W p h r u dv q g dv2 k c m l) (hk : k ≤ 1000) : Calls Try.prog 13 #[ptr p, ptr q, .agg #[.int .i64 0, .int .i64 kb, pv, .int .u64 (ch : Int), .int .i64 kn]] W fun e W' => e = .returned (.bool true) ∧ ∃ c' m' l', @LP avNo w W' p h r u dv q g dv2 (k + 1) c' m' l' := by
  obtain ⟨hB, hA⟩ := @LP.box _ _ _ _ _ _ _ _ _ _ _ _ _ _ avNo H 0 kb pv ch kn
  obtain ⟨W4, hW4⟩ : ∃ W4, W4 = W.alloc (.cells #[.int .i64 0, .int .i64 kb, pv, .int .u64 (ch : Int), .int .i64 kn] 40) := ⟨_, rfl⟩
  obtain ⟨ga, hga⟩ : ∃ ga, ga = W.heap.size := ⟨_, rfl⟩
  rw [← hW4] at hB hA
  rw [← hga] at hA
  obtain ⟨-, hN, hpp⟩ := H
  have HA := hide hA
  have HC := hide (lp_read1 hB hk kb)
  have HD1 := hide (fun W1 P1 => @lp_read2 w W1 p h r u dv q g dv2 k c (ftR c m l kb).2.2.2 m (ftR c m l kb).2.2.1 l (ftR c m l kb).2.1 avNo hN hk kb P1)
  have HD2 := hide (fun a W1 P1 => @lp_read2 w W1 p h r u dv q g dv2 k c (ftR c m l kb).2.2.2 m (ftR c m l kb).2.2.1 l (ftR c m l kb).2.1 (avOne a) hN hk kb P1)
  have HN := hide (hN.ft hpp kb)
  have HPP : Hid (0 < (ftR c m l kb).2.2.2.places) := hide (by rw [ft_places]; exact hpp)
  obtain ⟨c0, c1, -, -, -⟩ := hA.cells
  rw [hW4, hga] at c0 c1
  have HW4 := hide hW4
  have HGA := hide hga
  rw [hW4] at HC
  generalize ftR c m l kb = t at *
  obtain ⟨te, tl, tm, tc⟩ := t
  dsimp only at HC HD1 HD2 HN HPP
  clear hA hB hW4 hga hN hpp
  unfold ptr at *
  go_enter Try.func13, Try.ntmps13
  go_wp2_with fail
  refine (unhide HC).mono ?_
  rintro e W1 ⟨hR, f1⟩
  rw [← unhide HW4] at f1
  have HA1 := hide ((unhide HA).ky f1)
  rw [← unhide HGA]
  clear c0 c1 HC f1
  obtain ⟨c0, c1, -, -, -⟩ := (unhide HA1).cells
  rcases hR with ⟨hne, rfl, hP⟩ | ⟨h0, x, a, cc, hx, rfl, hO, hl, hcc, hcm, hwa, hP⟩
  · have HD := hide (unhide HD1 W1 hP)
    have HNE := hide hne
    dsimp only
    clear HD1 HD2 hP hne
    go_wp2_with fail
    refine (unhide HD).mono ?_
    rintro e W2 ⟨hA2, p2, -⟩
    have HP2 := hide p2
    clear p2 HD
    rcases hA2 with ⟨-, rfl⟩ | ⟨e0, -⟩
    · have kc := conv_rd (P := Try.prog) (Rd.nil W2) 37 9 5 Try.underlying37 Try.underlying5 Try.underlying9
      go_wp2_with (go_at_call 12; refine (num_any _ _).mono ?_; rintro e w' ⟨rfl, rfl⟩)
      go_loopw [12] (fun y W' => y = .int .i64 0 ∧ W2 = W') (fun _ _ => 0)
      case atStart => exact ⟨rfl, rfl⟩
      case round =>
        obtain ⟨rfl, rfl⟩ := hrel
        go_wp2_with fail
        go_ret
        exact ⟨rfl, _, _, _, @LP.mk avNo _ _ _ _ _ _ _ _ _ _ _ _ _ _ (unhide HP2) (unhide HN) (unhide HPP)⟩
    · exact absurd e0 (unhide HNE)
  · subst h0
    have HD := hide (unhide HD2 a W1 hP)
    have HO := hide hO
    have HL := hide hl
    have HX := hide hx
    dsimp only
    clear HD1 HD2 hP hO hl hx
    go_wp2_with fail
    refine (unhide HD).mono ?_
    rintro e W2 ⟨hA2, p2, f2⟩
    have hk1 : knd W1 a = 5 := knd_owns (unhide HO) rfl
    have hO2 : W2.ownsRow 0 5 1 (.slice (some ⟨a, 0, none⟩) 384 cc) 384 (bvs x.P) := owns_kept (unhide HO) f2 (fun b hb e => by simp [Value.ownBlock] at hb; subst hb; exact e.n5 hk1)
    have HK2 : Hid (knd W2 a = 5) := hide (knd_owns hO2 rfl)
    have HP2 := hide p2
    have HO2 := hide hO2
    clear p2 HD f2 hk1 HO
    rcases hA2 with ⟨e0, -⟩ | ⟨-, x', ao, c9, hx', rfl, hR⟩
    · exact absurd rfl e0
    · obtain rfl : x = x' := by have := unhide HX; rw [this] at hx'; injection hx'
      have kc2 := conv_rd (P := Try.prog) hR 37 9 5 Try.underlying37 Try.underlying5 Try.underlying9
      have kc1 := conv_rd (P := Try.prog) (Rd.of_owns (base := 0) (l := x.P) (by rw [unhide HL]; exact hO2)) 37 9 5 Try.underlying37 Try.underlying5 Try.underlying9
      generalize str x.P = sx at *
      clear hR hO2 hx'
      go_wp2_with (go_at_call 12; refine (num_any _ _).mono ?_; rintro e w' ⟨rfl, rfl⟩)
      go_loopw [12] (fun y W' => ∃ (j : Nat) (P' : List UInt8), j ≤ 384 ∧ y = .int .i64 (j : Int) ∧ P'.length = 384 ∧ W'.ownsRow 0 5 1 (.slice (some ⟨a, 0, none⟩) 384 cc) 384 (bvs P') ∧ Fr (fun k => k = a) W2 W') (fun y _ => 384 - (intOf y).toNat)
      case atStart => exact ⟨0, x.P, by omega, rfl, unhide HL, unhide HO2, Fr.refl _ _⟩
      case round =>
        obtain ⟨j, P', hj, rfl, hPl, hOw, hf⟩ := hrel
        by_cases hlt : j < 384
        · have hjP : j < P'.length := by omega
          obtain ⟨-, y1, z1⟩ := owns_set hOw j hlt (.int .u8 0)
          have HS := hide (owns_set hOw j hlt (.int .u8 (((P'[j] ^^^ 85).toNat : Nat) : Int))).1
          rw [bvsSet9] at HS
          have HPL : Hid ((P'.set j (P'[j] ^^^ 85)).length = 384) := hide (by rw [List.length_set]; exact hPl)
          rw [bvsGet9 P' j hjP] at y1
          generalize P'.set j (P'[j] ^^^ 85) = P9 at *
          generalize P'[j] = old at *
          have hxo : bits BinOp.xor IntKind.u8 ((old.toNat : Nat) : Int) 85 = (((old ^^^ 85).toNat : Nat) : Int) := xorV old 85
          have bl : decide ((j : Int) < 384) = true := by simp; omega
          have hjc : j < cc := by omega
          have HF := hide (hf.setCell (p := ⟨a, j, none⟩) (fun _ => rfl) (.int .u8 (((old ^^^ 85).toNat : Nat) : Int)))
          clear hOw hf hPl hjP kc1 kc2
          go_wp2_with fail
          go_roundw
          case rel => exact ⟨j + 1, P9, by omega, by go_num, unhide HPL, unhide HS, unhide HF⟩
          case measure => simp [intOf]; omega
        · obtain rfl : j = 384 := by omega
          have HF := hide hf
          clear hOw hf kc1 kc2
          go_wp2_with fail
          go_ret
          exact ⟨rfl, _, _, _, @LP.mk avNo _ _ _ _ _ _ _ _ _ _ _ _ _ _ ((unhide HP2).off (unhide HK2) hwa (unhide HF)) (unhide HN) (unhide HPP)⟩
end
end Go.Proofs.Ytdgmlopaeonacaa

namespace Go.Proofs.Ytdgmlopaeonacaa
set_option linter.unusedVariables false
set_option linter.unusedSimpArgs false
open Go.RowKit Go.Lib
set_option linter.unusedVariables false
set_option linter.unusedSimpArgs false

theorem wpList_appS {w : World} {ops : Array Oper} {rest : List Oper} {o : Oper} {a : Act} {Q : Exit → Act → World → Prop} (hgd : o.guard = none) (hty : o.type = 37) (s : Operand) (x : Operand) (ho : o.op = .call { callee := .builtin .append, args := #[s, x], argTypes := #[37, 9] }) {v : Value} {n base : Nat} {xs : List Value} {t : ByteArray} (hs : a.eval s = v) (hx : a.eval x = .string t) (hown : w.ownsRow base 5 1 v n xs) (hk : n + t.size ≤ 100000000) (hb : base ≤ w.heap.size)
    (h : ∀ ao c w', w'.ownsRow base 5 1 (.slice ao (n + t.size) c) (n + t.size) (xs ++ strCells t) → w.grownBy w' v.ownBlock → wpList Try.prog ops Q rest (a.put o.dst (.slice ao (n + t.size) c)) w') : wpList Try.prog ops Q (o :: rest) a w := by
  refine wpList_plain hgd fun K hK => ?_
  obtain ⟨inf, hi0, hz0, hz1, hz2⟩ := info_parts Try.info5
  obtain ⟨v', w', hr, h2, h3, -⟩ := run_append_own_string (P := Try.prog) (w := w) base 37 9 37 5 inf Try.underlying37 Try.underlying9 hi0 hz0 hz1 hz2 v n xs hown t (by simp only [maxLen]; omega) (by omega) hb
  unfold Oper.wp execOp
  simp only [ho, hty, resolve, invoke, builtin, Sem.run_bind, Sem.run_pure, Result.andThen_ok, List.map_toArray, List.map_cons, List.map_nil, hs, hx, hr]
  have hsh : ∃ ao c, v' = .slice ao (n + t.size) c := by
    rcases h2.2 with ⟨e, e2⟩ | ⟨g, cap, cur, e, -⟩
    · exact ⟨none, 0, by rw [e]; simp [e2]⟩
    · exact ⟨_, _, e⟩
  obtain ⟨ao, c, rfl⟩ := hsh
  exact hK _ _ (h ao c w' h2 h3)
/-- The four bytes behind what is written. -/
def rest4 : List UInt8 := [114, 101, 115, 116]
theorem rest4_cells : strCells { data := #[114, 101, 115, 116] } = bvs rest4 := by rfl
theorem bvsApp9 (P Q : List UInt8) : bvs P ++ bvs Q = bvs (P ++ Q) := by unfold bvs; rw [List.map_append]
end Go.Proofs.Ytdgmlopaeonacaa
