/-
  The walk of the law XdrOne.
-/
import Derived.Test.YtmnbdpdblpgnlaaSeg
import Derived.Deep.RegionWith
import Derived.Deep.DeepCutAuto
import Derived.Deep.CutBlock
namespace Go.Proofs.Ytmnbdpdblpgnlaa
open Go.RowKit
set_option linter.unusedVariables false

attribute [local go_sem ↓] Go.wp_at_zero Go.wp_at_succ

theorem RAt.cell1' {w : World} {p : Nat} {q : Option Nat} {D : List UInt8} {a : Nat} {E : Int} (h : RAt w p q D a E) : w.cell? ⟨p, 1, none⟩ = some (.int .i64 (a : Int)) := by
  obtain ⟨v, hp, _⟩ := h
  exact RAt.cell1 hp

theorem rloop_err {α : Type} (get : Nat → Int → α × Nat × Int) : ∀ (n : Nat) (l : List α) (a : Nat) (E : Int), (E ≠ 0 → l = []) → (E ≠ 0 → n = 0) → (rloop get n l a E).2.2 ≠ 0 → (rloop get n l a E).1 = []
  | 0, l, a, E, hE, _, h => hE h
  | n + 1, l, a, E, hE, hn, h => by
    rw [rloop_succ] at *
    by_cases hg : (get a E).2.2 = 0
    · rw [if_neg (by simpa using hg)] at *
      exact rloop_err get n _ _ _ (fun h => absurd hg h) (fun h => absurd hg h) h
    · rw [if_pos hg]

theorem rlen_err (D : List UInt8) (a : Nat) (E : Int) (most : Int) (h : (rlen D a E most).2.2 ≠ 0) : (rlen D a E most).1 = 0 := by
  have he := ru_err D a E
  unfold rlen at *
  by_cases hc : most < ((ru D a E).1 : Int)
  · rw [if_pos hc] at *
    by_cases hE : (ru D a E).2.2 = 0
    · rw [if_pos hE]
    · rw [if_neg hE]
  · rw [if_neg hc] at *
    exact he h

theorem rlistS_err (D : List UInt8) (a : Nat) (E : Int) (most : Int) (h : (rlistS D a E most).2.2 ≠ 0) : (rlistS D a E most).1 = [] :=
  rloop_err _ _ _ _ _ (fun _ => rfl) (rlen_err D a E most) h

theorem catS_len : ∀ l : List ByteArray, 4 * l.length ≤ (catS l).length
  | [] => by simp
  | t :: l => by
    have h := catS_len l
    simp only [catS, List.map_cons, List.flatten_cons, List.length_append, List.length_cons] at *
    have : 4 ≤ (opq t.data.toList).length := by simp [opq, be32]
    omega

theorem catC_len : ∀ l : List ByteArray, 4 * l.length ≤ (catC l).length
  | [] => by simp
  | t :: l => by
    have h := catC_len l
    simp only [catC, List.map_cons, List.flatten_cons, List.length_append, List.length_cons] at *
    have : (be32 1).length = 4 := rfl
    omega

theorem Seg.len {D : List UInt8} {a b : Nat} {x : List UInt8} (h : Seg D a b x) : x.length = b - a := by
  obtain ⟨h1, h2, rfl⟩ := h
  simp; omega

theorem rlistS_all (D : List UInt8) (a : Nat) (E : Int) (most : Int) (ha : a ≤ D.length) : (∀ t ∈ (rlistS D a E most).1, t.size ≤ 7) ∧ (rlistS D a E most).1.length ≤ D.length := by
  by_cases h : (rlistS D a E most).2.2 = 0
  · obtain ⟨_, h2, h3⟩ := rlistS_seg D a E most ha (rlen_le D a E most ha) h
    refine ⟨h3, ?_⟩
    have h4 := h2.len
    have h5 := catS_len (rlistS D a E most).1
    have h6 := h2.2.1
    rw [List.length_append] at h4
    omega
  · rw [rlistS_err D a E most h]
    simp

theorem rch_err (D : List UInt8) (most : Int) : ∀ (n : Nat) (l : List ByteArray) (a : Nat) (E : Int), a ≤ D.length → D.length - a < n → (rch D most n l a E).2.2 ≠ 0 → (rch D most n l a E).1 = []
  | 0, l, a, E, ha, hn, h => by omega
  | n + 1, l, a, E, ha, hn, h => by
    rw [rch_succ] at *
    by_cases hb : (rbool D a E).1 = false
    · rw [if_pos hb] at *
      dsimp only at h
      rw [if_pos h]
    · rw [if_neg hb] at *
      have hb' : (rbool D a E).1 = true := by simpa using hb
      obtain ⟨e1, e2, e3, e4⟩ := rbool_true D a E hb'
      by_cases hm : most ≤ (l.length : Int)
      · rw [if_pos hm]
      · rw [if_neg hm] at *
        rw [e2, e3] at h ⊢
        have hle : (gtext D (a + 4) 0).2.1 ≤ D.length := rcnt_le D (a + 4) 0 7 e4
        have hge : a + 4 ≤ (gtext D (a + 4) 0).2.1 := rcnt_ge D (a + 4) 0 7
        exact rch_err D most n _ _ _ hle (by omega) h

theorem rchain_seg (D : List UInt8) (a : Nat) (E : Int) (most : Int) (ha : a ≤ D.length) (h : (rchain D a E most).2.2 = 0) : E = 0 ∧ Seg D a (rchain D a E most).2.1 (catC (rchain D a E most).1 ++ be32 0) ∧ ∀ t ∈ (rchain D a E most).1, t.size ≤ 7 := by
  obtain ⟨h1, l1, h2, h3, h4⟩ := rch_seg D most (D.length + 1) [] a E ha (by omega) h
  rw [List.nil_append] at h2
  unfold rchain
  rw [h2]
  exact ⟨h1, h3, h4⟩

theorem rchain_all (D : List UInt8) (a : Nat) (E : Int) (most : Int) (ha : a ≤ D.length) : (∀ t ∈ (rchain D a E most).1, t.size ≤ 7) ∧ (rchain D a E most).1.length ≤ D.length := by
  by_cases h : (rchain D a E most).2.2 = 0
  · obtain ⟨_, h2, h3⟩ := rchain_seg D a E most ha h
    refine ⟨h3, ?_⟩
    have h4 := h2.len
    have h5 := catC_len (rchain D a E most).1
    have h6 := h2.2.1
    rw [List.length_append] at h4
    omega
  · rw [show (rchain D a E most).1 = [] from rch_err D most (D.length + 1) [] a E ha (by omega) h]
    simp

theorem LAt.rd {w wr : World} {e : TypeId} {v : Value} {xs : List Value} {n : Nat} (h : LAt w wr e v n xs) (hn : xs.length = n) : RdV wr v xs := by
  subst hn
  exact RdV.of_owns h.1

theorem num_same (w : World) (E : Int) : Calls Try.prog 13 #[.int .i64 E] w fun e w' => e = .returned (.int .i64 E) ∧ w' = w :=
  (num_any w E).mono fun e w' ⟨h1, h2⟩ => ⟨h1, h2.symm⟩

theorem Rd.takeN {w : World} {ao : Option Addr} {cap : Nat} {D : List UInt8} (h : Rd w (.slice ao D.length cap) D) (a : Nat) (ha : a ≤ D.length) : Rd w (.slice ao a cap) (D.take a) := by
  have hl : (D.take a).length = a := by simp; omega
  rcases h with ⟨hv, rfl⟩ | ⟨ad, cap', hv, h1, h2, h3⟩
  · simp only [List.length_nil, Nat.le_zero_eq] at ha
    subst ha
    exact .inl ⟨by simpa using hv, rfl⟩
  · simp only [Value.slice.injEq, true_and] at hv
    obtain ⟨rfl, rfl⟩ := hv
    refine .inr ⟨ad, cap, by rw [hl], by rw [hl]; omega, h2, fun j hj => ?_⟩
    rw [hl] at hj
    rw [h3 j (by omega)]
    simp

theorem xdrOne_big (w : World) (ao : Option Addr) (n cap : Nat) (k : Int) (hn : (60000 : Int) < (n : Int)) : Calls Try.prog 6 #[.slice ao n cap, .int .i64 k] w fun e w' => e = .returned (.bool true) ∧ Fr (fun _ => False) w w' := by
  go_enter Try.func6, Try.ntmps6
  go_wp2_with fail
  refine (live_any w).mono ?_
  rintro e w1 ⟨rfl, f1⟩
  go_wp2_with fail
  go_ret
  exact ⟨rfl, f1⟩

set_option maxHeartbeats 2000000 in
set_option maxRecDepth 100000 in
theorem xdrOne_small (w : World) (x : Value) (D : List UInt8) (most : Int) (hx : Rd w x D) (hn : (D.length : Int) ≤ 60000) : Calls Try.prog 6 #[x, .int .i64 most] w fun e w' => e = .returned (.bool true) ∧ Fr (fun _ => False) w w' := by
  obtain ⟨ao, cap, rfl⟩ := hx.shape
  have hml : D.length ≤ maxLen := by unfold maxLen; omega
  have hcap : D.length ≤ cap := by
    rcases hx with ⟨hv, rfl⟩ | ⟨ad, cap', hv, h1, _⟩
    · simp
    · simp at hv; omega
  go_enter Try.func6, Try.ntmps6
  go_wp2_with fail
  go_loopw [5] (fun i w' => ∃ k : Nat, k ≤ 4 ∧ i = .int .i64 k ∧ Fr (fun _ => False) w w') (fun i _ => 4 - (intOf i).toNat)
  case atStart => exact ⟨0, by omega, rfl, Fr.refl _ _⟩
  case round =>
    obtain ⟨k, hk, rfl, f0⟩ := hrel
    have hx0 := hx.kept f0 (fun _ _ h => h)
    by_cases hlt : k < 4
    · have HN := hide (newReader_any _ _ _ hx0 (by omega))
      go_wp2_with fail
      refine (unhide HN).mono ?_
      rintro e w1 ⟨rp, rq, rfl, r1, np1, nq1, f1⟩
      have hr1 := r1.lt
      go_wp2_with fail
      refine (newWriter_any w1).mono ?_
      rintro e w2 ⟨rfl, a2, f2, z2⟩
      have r2 := r1.kept f2 id (fun _ _ h => h)
      have z1 : w.heap.size ≤ w1.heap.size := (f0.trans f1 (fun _ _ h => h)).size
      have zp : w.heap.size ≤ rp := Nat.le_trans f0.size np1
      have F2 := hide ((f0.trans f1 (fun _ _ h => h)).trans f2 (fun _ _ h => h))
      have hml' : D.length ≤ 140737488355328 := by omega
      clear r1 np1 nq1 f0 f1 f2 z2 hx0 HN
      go_upto_block 2 with fail
      go_cut [8] (fun _ w' => ∃ (a : Nat) (E : Int) (wq : Option Nat) (B : List UInt8) (E2 : Int), RAt w' rp rq D a E ∧ WAt w' w1.heap.size wq B E2 ∧ (E = 0 → E2 = 0 ∧ B = D.take a) ∧ Fr (fun _ => False) w w')
      case first =>
        rcases (show k = 0 ∨ k = 1 ∨ k = 2 ∨ k = 3 by omega) with rfl | rfl | rfl | rfl
        · have HB := hide (rbool_any _ _ _ _ _ _ r2 hml)
          have KS := hide (rbool_seg D 0 0 (Nat.zero_le _))
          generalize rbool D 0 0 = R at *
          obtain ⟨b, a, E⟩ := R
          dsimp only at *
          go_wp2_with fail
          refine (unhide HB).mono ?_
          rintro e w3 ⟨rfl, r3, f3⟩
          have a3 := a2.kept f3 (by omega) (fun k hk => by simp at hk)
          have HW := hide (bool_any _ _ _ _ _ b a3 (by simp))
          go_wp2_with fail
          refine (unhide HW).mono ?_
          rintro e w4 ⟨rfl, wq, wa, s4⟩
          have ra := r3.kept s4.1 (by unfold foot; simp; omega) (fun k hk => by have := hr1.2 k hk; unfold foot; simp; omega)
          go_wp2_with fail
          go_meet
          case rel =>
            refine ⟨a, E, wq, _, 0, ra, wa, fun h => ?_, ((unhide F2).trans f3 (fun i hi h => by omega)).trans s4.1 (fun i hi h => by unfold foot at h; simp at h; omega)⟩
            obtain ⟨_, h2, h3⟩ := unhide KS h
            rw [← h2] at h3
            exact ⟨rfl, by rw [← h3.zero]; rfl⟩
        · have HB := hide (rtext_any _ _ _ _ _ _ most r2 hml)
          have KS := hide (rcnt_seg D 0 0 most (Nat.zero_le _))
          have KL := rcnt_len D 0 0 most
          generalize rcnt D 0 0 most = R at *
          obtain ⟨l, a, E⟩ := R
          dsimp only at *
          go_wp2_with fail
          refine (unhide HB).mono ?_
          rintro e w3 ⟨rfl, r3, f3⟩
          have a3 := a2.kept f3 (by omega) (fun k hk => by simp at hk)
          have HW := hide (text_any _ _ _ _ _ (str l) ((str l).size : Int) a3 (by rw [str_size]; omega) (by rw [str_size]; simp; omega))
          go_wp2_with fail
          refine (unhide HW).mono ?_
          rintro e w4 ⟨rfl, wq, wa, s4⟩
          have ra := r3.kept s4.1 (by unfold foot; simp; omega) (fun k hk => by have := hr1.2 k hk; unfold foot; simp; omega)
          go_wp2_with fail
          go_meet
          case rel =>
            refine ⟨a, E, wq, _, _, ra, wa, fun h => ?_, ((unhide F2).trans f3 (fun i hi h => by omega)).trans s4.1 (fun i hi h => by unfold foot at h; simp at h; omega)⟩
            obtain ⟨_, h2, h3, h4⟩ := unhide KS h
            rw [str_data, wopq_ok _ _ _ (by rw [str_size]; omega)]
            exact ⟨rfl, by rw [← h2.zero]; rfl⟩
        · have HB := hide (listS_any _ _ _ _ _ _ most r2 hml)
          have KS := hide (rlistS_seg D 0 0 most (Nat.zero_le _) (rlen_le D 0 0 most (Nat.zero_le _)))
          obtain ⟨KW, KL⟩ := rlistS_all D 0 0 most (Nat.zero_le _)
          generalize rlistS D 0 0 most = R at *
          obtain ⟨l, a, E⟩ := R
          dsimp only at *
          have hz2 := a2.lt.1
          go_wp2_with fail
          refine (unhide HB).mono ?_
          rintro e w3 ⟨v3, rfl, l3, r3, f3⟩
          have a3 := a2.kept f3 (by omega) (fun k hk => by simp at hk)
          have HW := hide (putListS_any _ _ _ _ _ v3 l (l.length : Int) a3 (l3.rd (by simp [svs])) (fun b hb hf => by have := l3.2 b hb; unfold foot at hf; simp at hf; omega) (fun t ht => by have := KW t ht; omega) (by omega) (by simp; omega))
          obtain ⟨ao3, cap3, rfl⟩ := owns_shape l3.1
          clear l3
          go_wp2_with fail
          refine (unhide HW).mono ?_
          rintro e w4 ⟨rfl, wq, wa, s4⟩
          have ra := r3.kept s4.1 (by unfold foot; simp; omega) (fun k hk => by have := hr1.2 k hk; unfold foot; simp; omega)
          go_wp2_with fail
          go_meet
          case rel =>
            refine ⟨a, E, wq, _, _, ra, wa, fun h => ?_, ((unhide F2).trans f3 (fun i hi h => by omega)).trans s4.1 (fun i hi h => by unfold foot at h; simp at h; omega)⟩
            obtain ⟨_, h2, h3⟩ := unhide KS h
            unfold wlistS
            rw [if_neg (by simp), if_neg (by omega), List.nil_append, wtexts_ok _ _ h3]
            exact ⟨rfl, h2.zero⟩
        · have HB := hide (chain_any _ _ _ _ _ _ most r2 (by omega))
          have KS := hide (rchain_seg D 0 0 most (Nat.zero_le _))
          obtain ⟨KW, KL⟩ := rchain_all D 0 0 most (Nat.zero_le _)
          generalize rchain D 0 0 most = R at *
          obtain ⟨l, a, E⟩ := R
          dsimp only at *
          have hz2 := a2.lt.1
          go_wp2_with fail
          refine (unhide HB).mono ?_
          rintro e w3 ⟨v3, rfl, l3, r3, f3⟩
          have a3 := a2.kept f3 (by omega) (fun k hk => by simp at hk)
          have HW := hide (putChain_any _ _ _ _ _ v3 l a3 (l3.rd (by simp [svs])) (fun b hb hf => by have := l3.2 b hb; unfold foot at hf; simp at hf; omega) (fun t ht => by have := KW t ht; omega) (by simp; omega))
          obtain ⟨ao3, cap3, rfl⟩ := owns_shape l3.1
          clear l3
          go_wp2_with fail
          refine (unhide HW).mono ?_
          rintro e w4 ⟨rfl, wq, wa, s4⟩
          have ra := r3.kept s4.1 (by unfold foot; simp; omega) (fun k hk => by have := hr1.2 k hk; unfold foot; simp; omega)
          go_wp2_with fail
          go_meet
          case rel =>
            refine ⟨a, E, wq, _, _, ra, wa, fun h => ?_, ((unhide F2).trans f3 (fun i hi h => by omega)).trans s4.1 (fun i hi h => by unfold foot at h; simp at h; omega)⟩
            obtain ⟨_, h2, h3⟩ := unhide KS h
            rw [wch_ok _ _ h3, List.nil_append]
            exact ⟨rfl, h2.zero⟩
      case rest =>
        go_wp2_with fail
        obtain ⟨a, E, wq, B, E2, ra, wa, KK0, FX0⟩ := hcut
        have KK := hide KK0
        have FX := hide FX0
        have hx4 := hx.kept FX0 (fun _ _ h => h)
        have hale : a ≤ D.length := by obtain ⟨_, _, _, _, h⟩ := ra; exact h
        clear KK0 FX0 F2 a2 r2 hr1
        refine (rwhy_any _ _ _ _ _ _ ra).mono ?_
        rintro e w5 ⟨rfl, q5⟩
        have ra5 := ra.kept (q5.fr (fun _ => False)) id (fun _ _ h => h)
        have wa5 := wa.kept (q5.fr (fun _ => False)) id (fun _ _ h => h)
        have hx5 := hx4.kept (q5.fr (fun _ => False)) (fun _ _ h => h)
        by_cases hE : E = 0
        · subst hE
          obtain ⟨rfl, rfl⟩ := unhide KK rfl
          clear KK ra wa hx4
          obtain ⟨v5, hp5, _⟩ := id wa5
          have c1 := WAt.cell1 hp5
          have c2 := RAt.cell1' ra5
          clear hp5
          have hdg : decide ((D.length : Int) < (a : Int)) = false := by simp; omega
          have hdi : (a : Int) ≤ (D.length : Int) := by omega
          have hdn : decide (D.length < a) = false := by simp; omega
          have hdc : a ≤ cap := by omega
          have hdc' : (a : Int) ≤ (cap : Int) := by omega
          have HLEN : Hid ((D.take a).length = a) := by show (D.take a).length = a; simp; omega
          go_wp2_with fail
          go_region_with ((first | (go_at_call 13; refine (num_any _ _).mono ?_; rintro e w' ⟨rfl, rfl⟩) | (go_at_call 14; refine (why_any _ _ 0 (by exact c1)).mono ?_; rintro e w' ⟨rfl, rfl⟩) | (go_at_call 19; refine (at_any _ _ a (by first | exact c2 | exact c3)).mono ?_; rintro e w' ⟨rfl, rfl⟩) | (go_at_call 12; refine (wbytes_any _ _ wq (D.take a) 0 (by exact wa5) (by simp; omega)).mono ?_; rintro e w6 ⟨v6, rfl, o6, f6, n6⟩; have kc1 := conv_rd (P := Try.prog) (Rd.of_owns o6) 28 9 5 Try.underlying28 Try.underlying5 Try.underlying9; have kc2 := conv_rd (P := Try.prog) ((hx5.kept f6.drewL (fun _ _ h => h)).takeN a hale) 28 9 5 Try.underlying28 Try.underlying5 Try.underlying9; rw [unhide HLEN] at o6; obtain ⟨ao6, cap6, rfl⟩ := owns_shape o6; have c3 := RAt.cell1' (ra5.kept f6.drewL id (fun _ _ h => h)); clear o6 n6)))
          all_goals
            go_wp2_with fail
            go_roundw
            case rel => exact ⟨k + 1, by omega, by go_num, ((unhide FX).trans (q5.fr _) (fun _ _ h => h)).trans f6.drewL (fun _ _ h => h)⟩
            case measure => simp [intOf]; omega
        · have hb0 : (E == 0) = false := by simpa using hE
          clear KK ra wa hx4
          go_wp2_with fail
          go_quiet ((go_at_call 13; exact Calls.quiet_of_same (num_same _ _)))
          go_wp2_with fail
          go_roundw
          case rel => exact ⟨k + 1, by omega, by go_num, ((unhide FX).trans (q5.fr _) (fun _ _ h => h)).trans ((Qt.drewN _ _).fr _) (fun _ _ h => h)⟩
          case measure => simp [intOf]; omega
    · go_wp2_with fail
      refine (live_any _).mono ?_
      rintro e w1 ⟨rfl, f1⟩
      go_wp2_with fail
      go_ret
      exact ⟨rfl, f0.trans f1 (fun _ _ h => h)⟩

end Go.Proofs.Ytmnbdpdblpgnlaa
