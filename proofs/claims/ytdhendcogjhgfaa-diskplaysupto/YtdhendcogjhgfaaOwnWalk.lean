/-
  The walk of 'granarylaw04.DiskOwn'.
-/
import Derived.Test.YtdhendcogjhgfaaL8
import Derived.Test.YtdhendcogjhgfaaFullWalk
namespace Go.Proofs.Ytdhendcogjhgfaa
open Go.RowKit
set_option linter.unusedVariables false

attribute [local go_sem ↓] Go.wp_at_zero Go.wp_at_succ

section
variable {ρ : Operand → Value} {o : Oper} {w : World}
theorem x_neI {t : TypeId} {x y : Operand} {k : IntKind} {n m : Int} {b : Bool} (ht : Try.prog.underlying t = some (.int k)) (ho : o.op = .binOp .neq t x y t) (hx : ρ x = .int k n) (hy : ρ y = .int k m) (hb : (n != m) = b) : (execOp ρ o).run Try.prog w = .ok (.value (.bool b)) w := by
  subst hb; simp [execOp, ho, hx, hy, go_sem]
theorem x_neS {x y : Operand} {s : ByteArray} (ho : o.op = .binOp .neq 9 x y 9) (hx : ρ x = .string s) (hy : ρ y = .string s) : (execOp ρ o).run Try.prog w = .ok (.value (.bool false)) w := by
  simp [execOp, ho, hx, hy, go_sem]
theorem x_not {x : Operand} {b : Bool} (ho : o.op = .unOp .not 4 x) (hx : ρ x = .bool b) : (execOp ρ o).run Try.prog w = .ok (.value (.bool (!b))) w := by
  simp [execOp, ho, hx, go_sem]
end

/-- Bytes, and numbers, that can be read. -/
def kRb (l : List UInt8) : Kd (fun _ => False) := .pr (fun v W => Rd W v l) (fun _ _ _ h f => h.kept f (fun _ _ h => h))
def kRv (l : List Int) : Kd (fun _ => False) := .pr (fun v W => RdV W v (l.map (Value.int .i64))) (fun _ _ _ h f => h.kept f (fun _ _ h => h))
theorem nopaths {l : List Oper} : ∀ k i j, ([] : List Nat)[k]? = some i → ([] : List Nat)[k + 1]? = some j → Path l j i := by
  intro k i j hi hj
  simp at hi

/-- The injured sectors. -/
def iz (l : List Nat) : List Int := l.map fun (n : Nat) => (n : Int)
theorem iz_ivs (l : List Nat) : (iz l).map (Value.int .i64) = ivs l := by simp [iz, ivs, Function.comp_def]
theorem injured_rd {w : World} {p gs : Nat} {q : Value} {d : Dk} (h : KAt w p gs q d) : Calls Try.prog 26 #[.pointer (some ⟨p, 0, none⟩)] w fun e w' => ∃ ao c, e = .returned (.slice ao (inI d d.S.length).length c) ∧ RdV w' (.slice ao (inI d d.S.length).length c) ((iz (inI d d.S.length)).map (Value.int .i64)) ∧ Fr (fun _ => False) w w' := by
  refine (injured_any w p gs q d h).mono ?_
  rintro e w' ⟨⟨ao, c, rfl, h1, -⟩, f⟩
  refine ⟨ao, c, rfl, ?_, f⟩
  rw [iz_ivs]
  have := h1
  rw [← ivs_length] at this
  exact RdV.of_owns (by rw [ivs_length] at this ⊢; exact h1)

/-- Numbers that lie apart from a disk. -/
structure Av (w : World) (p gs : Nat) (q v : Value) (l : List Int) : Prop where
  r : RdV w v (l.map (Value.int .i64))
  a : ∀ b, v.ownBlock = some b → b < w.heap.size ∧ b ≠ p ∧ b ≠ gs ∧ q.ownBlock ≠ some b
theorem Av.kept {w w' : World} {p gs : Nat} {q v : Value} {l : List Int} (h : Av w p gs q v l) (f : Fr (fun _ => False) w w') : Av w' p gs q v l :=
  ⟨h.r.kept f (fun _ _ h => h), fun b hb => ⟨Nat.lt_of_lt_of_le (h.a b hb).1 f.size, (h.a b hb).2⟩⟩
theorem Av.mv {w w' : World} {p gs : Nat} {q q' v : Value} {l : List Int} (h : Av w p gs q v l) (m : Mv w w' p gs q q') : Av w' p gs q' v l := by
  refine ⟨h.r.kept m.f (fun b hb e => ?_), fun b hb => ?_⟩
  · obtain ⟨-, h1, h2, h3⟩ := h.a b hb
    rcases e with e | e | e
    · exact h1 e
    · exact h2 e
    · exact h3 e
  · obtain ⟨h0, h1, h2, h3⟩ := h.a b hb
    refine ⟨Nat.lt_of_lt_of_le h0 m.f.size, h1, h2, fun e => ?_⟩
    rcases m.q b e with e | e
    · exact h3 e
    · omega
theorem injured_av {w : World} {p gs : Nat} {q : Value} {d : Dk} (h : KAt w p gs q d) : Calls Try.prog 26 #[.pointer (some ⟨p, 0, none⟩)] w fun e w' => ∃ ao c, e = .returned (.slice ao (inI d d.S.length).length c) ∧ Av w' p gs q (.slice ao (inI d d.S.length).length c) (iz (inI d d.S.length)) ∧ Fr (fun _ => False) w w' := by
  refine (injured_any w p gs q d h).mono ?_
  rintro e w' ⟨⟨ao, c, rfl, h1, h2⟩, f⟩
  refine ⟨ao, c, rfl, ⟨?_, fun b hb => ?_⟩, f⟩
  · rw [iz_ivs]
    exact RdV.of_owns (by rw [ivs_length]; exact h1)
  · have h3 := h2 b hb
    obtain ⟨l1, l2, l3⟩ := h.lt
    obtain ⟨cs, hc⟩ := owns_ty h1 hb
    exact ⟨lt_of_heap hc, by omega, by omega, fun e => by have := l3 b e; omega⟩

/-- Which injuries are left, of the first i. -/
def lfL (d : Dk) (M : List Nat) (i : Nat) : List Nat := (M.take i).filter fun x => !(d.Q.any fun q => q.1 == x)
theorem lfL_succ (d : Dk) (M : List Nat) (i : Nat) (hi : i < M.length) : lfL d M (i + 1) = if (d.Q.any fun q => q.1 == M[i]) = true then lfL d M i else lfL d M i ++ [M[i]] := by
  unfold lfL
  rw [List.take_succ_eq_append_getElem hi, List.filter_append]
  split
  · rename_i h
    rw [List.filter_cons_of_neg (by show ¬ (!(d.Q.any fun q => q.1 == M[i])) = true; rw [h]; decide), List.filter_nil, List.append_nil]
  · rename_i h
    rw [List.filter_cons_of_pos (by show (!(d.Q.any fun q => q.1 == M[i])) = true; rw [Bool.eq_false_iff.mpr h]; decide), List.filter_nil]
theorem lfL_len (d : Dk) (M : List Nat) (i : Nat) : (lfL d M i).length ≤ i := by
  unfold lfL
  refine Nat.le_trans (List.length_filter_le _ _) ?_
  rw [List.length_take]
  omega
theorem any_succ (Q : List (Nat × List UInt8)) (k x : Nat) (hk : k < Q.length) : ((Q.take (k + 1)).any fun q => q.1 == x) = (((Q.take k).any fun q => q.1 == x) || ((Q[k]).1 == x)) := by
  rw [List.take_succ_eq_append_getElem hk, List.any_append]
  simp

set_option maxHeartbeats 4000000 in
set_option maxRecDepth 100000 in
theorem diskOwn_any (w : World) (s a : Int) (c : UInt8) (v : Value) (l : List Sp) (h : RdS w v l) : Calls Try.prog 6 #[.agg #[.int .i64 s, v, .int .i64 a, .int .u8 ((c.toNat : Nat) : Int)]] w fun e w' => e = .returned (.bool true) ∧ Fr (fun _ => False) w w' := by
  have H := hide h
  obtain ⟨ao, ac, rfl⟩ := h.shape
  clear h
  go_enter Try.func6, Try.ntmps6
  go_wp2_with fail
  go_quiet (fail)
  rename_i nq
  have hfr : Fr (fun _ => False) w ((w.alloc (Obj.cells #[.int .i64 s, .slice ao l.length ac, .int .i64 a, .int .u8 ((c.toNat : Nat) : Int)] 58)).drewN nq) := ((Fr.refl _ w).alloc _).drewN nq
  generalize ((w.alloc (Obj.cells #[.int .i64 s, .slice ao l.length ac, .int .i64 a, .int .u8 ((c.toNat : Nat) : Int)] 58)).drewN nq) = w0 at *
  have H0 := hide ((unhide H).kept hfr)
  have HF := hide hfr
  clear hfr H
  go_wp2_with fail
  have HL := hide (long_any w0 _ l (unhide H0))
  rcases hb : loB l with _ | _
  · rw [hb] at HL
    refine (unhide HL).mono ?_
    rintro e w' ⟨rfl, n1, rfl⟩
    clear HL
    by_cases h40 : 40 < s
    · have b1 : decide (40 < s) = true := by simpa using h40
      go_wp2_with fail
      refine (live_any _).mono ?_
      rintro e w' ⟨rfl, f⟩
      have HG := hide f
      clear f
      go_wp2_with fail
      go_ret
      exact ⟨rfl, (unhide HF).trans ((Fr.ofDrewN _ _).trans (unhide HG) (fun _ _ h => h)) (fun _ _ h => h)⟩
    · have b1 : decide (40 < s) = false := by simpa using h40
      by_cases h0 : s < 1
      · go_wp2_with fail
        refine (played_no _ s (by omega) ao _ _).mono ?_
        rintro e w' ⟨rfl, rfl⟩
        go_wp2_with fail
        refine (live_any _).mono ?_
        rintro e w' ⟨rfl, f⟩
        have HG := hide f
        clear f
        go_wp2_with fail
        go_ret
        exact ⟨rfl, (unhide HF).trans ((Fr.ofDrewN _ _).trans (unhide HG) (fun _ _ h => h)) (fun _ _ h => h)⟩
      · obtain ⟨z, rfl⟩ : ∃ z : Nat, s = (z : Int) := ⟨s.toNat, by omega⟩
        have hz : 1 ≤ z ∧ z ≤ 65536 := by omega
        go_wp2_with fail
        refine (played_ok _ z hz _ l ((unhide H0).kept (Fr.ofDrewN w0 n1)) hb).mono ?_
        rintro e w1 ⟨p, gs, q, p2, sg, hg, q2, rfl, hP, hnn⟩
        have hSL : (plI (newD z 16) l l.length).size = 16 := by rw [(plI_shape _ _ _).2]; simp [newD]
        generalize plI (newD z 16) l l.length = d at *
        have F0 := ((unhide HF).trans (Fr.ofDrewN w0 n1) (fun _ _ h => h)).size
        have HN1 : Hid (Nd w w1 p gs q d) := hide ⟨hP.k, (unhide HF).trans ((Fr.ofDrewN w0 n1).trans hP.f (fun _ _ h => h)) (fun _ _ h => h), fun b hb => Nat.le_trans F0 (hP.hk b (.inr (.inr hb))), Nat.le_trans F0 (hP.hk _ (.inl rfl)), Nat.le_trans F0 (hP.hk _ (.inr (.inl rfl)))⟩
        have hdl : d.S.length ≤ 65536 := (unhide HN1).k.ok.len.2
        clear hP hb h0 HF H0 F0
        go_wp2_with fail
        refine (injured_av (unhide HN1).k).mono ?_
        rintro e w2 ⟨oH, cH, rfl, hA2, f2⟩
        have HA2 := hide hA2
        have HN2 := hide ((unhide HN1).fr f2)
        obtain ⟨nH, hnH⟩ : ∃ n, n = (inI d d.S.length).length := ⟨_, rfl⟩
        rw [← hnH] at HA2 ⊢
        have HnH := hide hnH
        clear hA2 f2 HN1 hnH
        go_wp2_with fail
        refine (full_any w2 16 c (by omega)).mono ?_
        rintro e w3 ⟨rfl, hB3, f3⟩
        have HA3 := hide ((unhide HA2).kept f3)
        have HN3 := hide ((unhide HN2).fr f3)
        have HB3 := hide (hB3.rd (by simp [maxLen]))
        rw [List.length_replicate] at HB3
        clear hB3 f3 HA2 HN2
        go_wp2_with fail
        refine (write_nd a _ (List.replicate 16 c) (unhide HN3) (unhide HB3)).mono ?_
        rintro e w4 ⟨rfl, q4, hN4, m4⟩
        have HA4 := hide ((unhide HA3).mv m4)
        have HN4 := hide hN4
        clear hN4 m4 HA3 HN3 HB3
        by_cases hE : wrE d a (List.replicate 16 c) = 0
        · rw [hE]
          have HE := hide hE
          clear hE
          go_wp2_with (go_at_call 14; refine (num_any _ _).mono ?_; rintro e w' ⟨rfl, rfl⟩)
          refine (read_nd a (List.replicate 16 c) 16 0 (unhide HN4) (wr_read (unhide HE)) (by simp)).mono ?_
          rintro e w5 ⟨oX, cX, rfl, hX5, hN5, f5⟩
          have HX5 := hide hX5.rd
          have HA5 := hide ((unhide HA4).kept f5)
          have HN5 := hide hN5
          clear hX5 hN5 f5 HA4 HN4
          go_wp2_with fail
          refine wp_world ?_
          intro w1 hw1
          rw [← hw1] at HX5 HA5 HN5
          have HR5 := hide (unhide HA5).r
          clear hw1
          have HIQ : Hid (iz (inI (wrD d a (List.replicate 16 c)) (wrD d a (List.replicate 16 c)).S.length) = iz (inI d d.S.length)) := hide (by
            have e := (wr_facts (unhide HE)).2.2.2.2
            have e2 : (wrD d a (List.replicate 16 c)).S = d.S := by rw [e]
            rw [inI_S e2, e2])
          refine wp_nameK ?_
          intro a0 hA
          have h2 : a0.tmps.getD 2 undef = .bool false := by rw [hA]; rfl
          have h3 : a0.tmps.getD 3 undef = .int .i64 (z : Int) := by rw [hA]; rfl
          have h5 : a0.tmps.getD 5 undef = .int .i64 a := by rw [hA]; rfl
          have h6 : a0.tmps.getD 6 undef = .int .u8 ((c.toNat : Nat) : Int) := by rw [hA]; rfl
          have h7 : a0.tmps.getD 7 undef = .pointer (some ⟨p, 0, none⟩) := by rw [hA]; rfl
          have h9 : a0.tmps.getD 9 undef = .slice oH nH cH := by rw [hA]; rfl
          have h11 : a0.tmps.getD 11 undef = .slice oX 16 cX := by rw [hA]; rfl
          have h12 : a0.tmps.getD 12 undef = .int .i64 0 := by rw [hA]; rfl
          have hsz : a0.tmps.size = 163 := by rw [hA]; rfl
          have hdf : a0.defers = [] := by rw [hA]
          have HA0 := hide hA
          clear hA
          refine wp_region_kinds (fun _ => False) (by kernel_rfl) (by kernel_rfl) (by decide +kernel) (by rw [hsz]; decide +kernel) [.eq (.int .i64 0), .eq (.int .i64 0), .eq (.bool false), .eq (.bool false), .eq (.slice oX 16 cX), .eq (.string (str (List.replicate 16 c))), .eq (.int .u8 ((c.toNat : Nat) : Int)), kRb (List.replicate 16 c), .eq (.string (str (List.replicate 16 c))), .eq (.bool false), .eq (.bool false), .eq (.bool false), .eq (.pointer (some ⟨p, 0, none⟩)), kRv (iz (inI (wrD d a (List.replicate 16 c)) (wrD d a (List.replicate 16 c)).S.length)), .eq (.slice oH nH cH), .eq (.bool true), .eq (.bool false), .eq (.bool false)] [] (by decide) (by decide) (nopaths) (fun _ W => Fr (fun _ => False) w1 W) (Fr.refl _ _).drew ?steps ?done
          case steps =>
            refine ⟨?_, ?_⟩
            · intro a' w' k' hb hf hs hc hq hg hd
              exact ⟨wantedN rfl, k_val (.int .i64 0) (by decide) hs (x_move rfl ((hb.old 12 (by decide +kernel)).trans h12)) rfl⟩
            refine ⟨?_, ?_⟩
            · intro a' w' k' hb hf hs hc hq hg hd
              exact ⟨wantedN rfl, k_call 14 _ (by decide) (e_call1 rfl rfl (hd 0 (by kernel_rfl) 63 rfl) cf14) ((num_any _ _).mono (by rintro e w7 ⟨rfl, rfl⟩; exact ⟨_, rfl, rfl, Fr.refl _ _, hs⟩))⟩
            refine ⟨?_, ?_⟩
            · intro a' w' k' hb hf hs hc hq hg hd
              exact ⟨wantedN rfl, k_val (.bool false) (by decide) hs (x_neI Try.underlying3 rfl (hd 1 (by kernel_rfl) 64 rfl) rfl (by first | rfl | decide | simp)) rfl⟩
            refine ⟨?_, ?_⟩
            · intro a' w' k' hb hf hs hc hq hg hd
              exact ⟨wantedN rfl, k_val (.bool false) (by decide) hs (x_move rfl (hd 2 (by kernel_rfl) 65 rfl)) rfl⟩
            refine ⟨?_, ?_⟩
            · intro a' w' k' hb hf hs hc hq hg hd
              exact ⟨wantedF (d := 66) rfl rfl (by rw [hb.size, hsz]; omega) (hd 3 (by kernel_rfl) 66 rfl), k_val (.slice oX 16 cX) (by decide) hs (x_move rfl ((hb.old 11 (by decide +kernel)).trans h11)) rfl⟩
            refine ⟨?_, ?_⟩
            · intro a' w' k' hb hf hs hc hq hg hd
              exact ⟨wantedF (d := 66) rfl rfl (by rw [hb.size, hsz]; omega) (hd 3 (by kernel_rfl) 66 rfl), k_val (.string (str (List.replicate 16 c))) (by decide) hs (x_conv rfl (hd 4 (by kernel_rfl) 67 rfl) (conv_rd (P := Try.prog) ((unhide HX5).kept hs (fun _ _ h => h)) 36 9 5 Try.underlying36 Try.underlying5 Try.underlying9)) rfl⟩
            refine ⟨?_, ?_⟩
            · intro a' w' k' hb hf hs hc hq hg hd
              exact ⟨wantedF (d := 66) rfl rfl (by rw [hb.size, hsz]; omega) (hd 3 (by kernel_rfl) 66 rfl), k_val (.int .u8 ((c.toNat : Nat) : Int)) (by decide) hs (x_move rfl ((hb.old 6 (by decide +kernel)).trans h6)) rfl⟩
            refine ⟨?_, ?_⟩
            · intro a' w' k' hb hf hs hc hq hg hd
              exact ⟨wantedF (d := 66) rfl rfl (by rw [hb.size, hsz]; omega) (hd 3 (by kernel_rfl) 66 rfl), k_call 28 _ (by decide) (e_call2 rfl rfl rfl (hd 6 (by kernel_rfl) 69 rfl) cf28) ((full_any _ 16 c (by omega)).mono (by rintro e w7 ⟨rfl, hB, f⟩; exact ⟨_, rfl, hB.rd (by simp [maxLen]), f, Fr.trans hs f (fun _ _ h => h)⟩))⟩
            refine ⟨?_, ?_⟩
            · intro a' w' k' hb hf hs hc hq hg hd
              have hh : Rd w' _ _ := (hd 7 (by kernel_rfl) 70 rfl); exact ⟨wantedF (d := 66) rfl rfl (by rw [hb.size, hsz]; omega) (hd 3 (by kernel_rfl) 66 rfl), k_val (.string (str (List.replicate 16 c))) (by decide) hs (x_conv rfl rfl (conv_rd (P := Try.prog) hh 36 9 5 Try.underlying36 Try.underlying5 Try.underlying9)) rfl⟩
            refine ⟨?_, ?_⟩
            · intro a' w' k' hb hf hs hc hq hg hd
              exact ⟨wantedF (d := 66) rfl rfl (by rw [hb.size, hsz]; omega) (hd 3 (by kernel_rfl) 66 rfl), k_val (.bool false) (by decide) hs (x_neS rfl (hd 5 (by kernel_rfl) 68 rfl) (hd 8 (by kernel_rfl) 71 rfl)) rfl⟩
            refine ⟨?_, ?_⟩
            · intro a' w' k' hb hf hs hc hq hg hd
              exact ⟨wantedN rfl, k_val (.bool false) (by decide) hs (x_pickF rfl (hd 3 (by kernel_rfl) 66 rfl) (hd 9 (by kernel_rfl) 72 rfl)) rfl⟩
            refine ⟨?_, ?_⟩
            · intro a' w' k' hb hf hs hc hq hg hd
              exact ⟨wantedN rfl, k_val (.bool false) (by decide) hs (x_move rfl (hd 10 (by kernel_rfl) 73 rfl)) rfl⟩
            refine ⟨?_, ?_⟩
            · intro a' w' k' hb hf hs hc hq hg hd
              exact ⟨wantedF (d := 74) rfl rfl (by rw [hb.size, hsz]; omega) (hd 11 (by kernel_rfl) 74 rfl), k_val (.pointer (some ⟨p, 0, none⟩)) (by decide) hs (x_move rfl ((hb.old 7 (by decide +kernel)).trans h7)) rfl⟩
            refine ⟨?_, ?_⟩
            · intro a' w' k' hb hf hs hc hq hg hd
              exact ⟨wantedF (d := 74) rfl rfl (by rw [hb.size, hsz]; omega) (hd 11 (by kernel_rfl) 74 rfl), k_call 26 _ (by decide) (e_call1 rfl rfl (hd 12 (by kernel_rfl) 75 rfl) cf26) ((injured_rd ((unhide HN5).k.kept hs id id (fun _ _ h => h))).mono (by rintro e w7 ⟨ao9, c9, rfl, hB, f⟩; exact ⟨_, rfl, hB, f, Fr.trans hs f (fun _ _ h => h)⟩))⟩
            refine ⟨?_, ?_⟩
            · intro a' w' k' hb hf hs hc hq hg hd
              exact ⟨wantedF (d := 74) rfl rfl (by rw [hb.size, hsz]; omega) (hd 11 (by kernel_rfl) 74 rfl), k_val (.slice oH nH cH) (by decide) hs (x_move rfl ((hb.old 9 (by decide +kernel)).trans h9)) rfl⟩
            refine ⟨?_, ?_⟩
            · intro a' w' k' hb hf hs hc hq hg hd
              have hh : RdV w' _ _ := (hd 13 (by kernel_rfl) 76 rfl); exact ⟨wantedF (d := 74) rfl rfl (by rw [hb.size, hsz]; omega) (hd 11 (by kernel_rfl) 74 rfl), k_call 30 _ (by decide) (e_call2 rfl rfl rfl (hd 14 (by kernel_rfl) 77 rfl) cf30) ((ints_any _ _ _ _ _ hh ((unhide HR5).kept hs (fun _ _ h => h))).mono (by rintro e w7 ⟨rfl, n9, rfl⟩; exact ⟨_, rfl, by rw [decide_eq_true (unhide HIQ)]; rfl, Fr.ofDrewN _ _, Fr.trans hs (Fr.ofDrewN _ _) (fun _ _ h => h)⟩))⟩
            refine ⟨?_, ?_⟩
            · intro a' w' k' hb hf hs hc hq hg hd
              exact ⟨wantedF (d := 74) rfl rfl (by rw [hb.size, hsz]; omega) (hd 11 (by kernel_rfl) 74 rfl), k_val (.bool false) (by decide) hs (x_not (b := true) rfl (hd 15 (by kernel_rfl) 78 rfl)) rfl⟩
            refine ⟨?_, ?_⟩
            · intro a' w' k' hb hf hs hc hq hg hd
              exact ⟨wantedN rfl, k_val (.bool false) (by decide) hs (x_pickF rfl (hd 11 (by kernel_rfl) 74 rfl) (hd 16 (by kernel_rfl) 79 rfl)) rfl⟩
            exact trivial
          case done =>
            intro a' w' hb hf hs hall
            have hdf' : a'.defers = [] := by rw [hb.defers]; exact hdf
            obtain ⟨v70, hv70⟩ : ∃ v, a'.tmps.getD 70 undef = v := ⟨_, rfl⟩
            obtain ⟨v76, hv76⟩ : ∃ v, a'.tmps.getD 76 undef = v := ⟨_, rfl⟩
            have hfr := frame_eq (a := a') (vs := [a0.tmps.getD 0 undef, a0.tmps.getD 1 undef, .bool false, .int .i64 (z : Int), a0.tmps.getD 4 undef, .int .i64 a, .int .u8 ((c.toNat : Nat) : Int), .pointer (some ⟨p, 0, none⟩), a0.tmps.getD 8 undef, .slice oH nH cH, a0.tmps.getD 10 undef, .slice oX 16 cX, .int .i64 0, a0.tmps.getD 13 undef, a0.tmps.getD 14 undef, a0.tmps.getD 15 undef, a0.tmps.getD 16 undef, a0.tmps.getD 17 undef, a0.tmps.getD 18 undef, a0.tmps.getD 19 undef, a0.tmps.getD 20 undef, a0.tmps.getD 21 undef, a0.tmps.getD 22 undef, a0.tmps.getD 23 undef, a0.tmps.getD 24 undef, a0.tmps.getD 25 undef, a0.tmps.getD 26 undef, a0.tmps.getD 27 undef, a0.tmps.getD 28 undef, a0.tmps.getD 29 undef, a0.tmps.getD 30 undef, a0.tmps.getD 31 undef, a0.tmps.getD 32 undef, a0.tmps.getD 33 undef, a0.tmps.getD 34 undef, a0.tmps.getD 35 undef, a0.tmps.getD 36 undef, a0.tmps.getD 37 undef, a0.tmps.getD 38 undef, a0.tmps.getD 39 undef, a0.tmps.getD 40 undef, a0.tmps.getD 41 undef, a0.tmps.getD 42 undef, a0.tmps.getD 43 undef, a0.tmps.getD 44 undef, a0.tmps.getD 45 undef, a0.tmps.getD 46 undef, a0.tmps.getD 47 undef, a0.tmps.getD 48 undef, a0.tmps.getD 49 undef, a0.tmps.getD 50 undef, a0.tmps.getD 51 undef, a0.tmps.getD 52 undef, a0.tmps.getD 53 undef, a0.tmps.getD 54 undef, a0.tmps.getD 55 undef, a0.tmps.getD 56 undef, a0.tmps.getD 57 undef, a0.tmps.getD 58 undef, a0.tmps.getD 59 undef, a0.tmps.getD 60 undef, a0.tmps.getD 61 undef, a0.tmps.getD 62 undef, .int .i64 0, .int .i64 0, .bool false, .bool false, .slice oX 16 cX, .string (str (List.replicate 16 c)), .int .u8 ((c.toNat : Nat) : Int), v70, .string (str (List.replicate 16 c)), .bool false, .bool false, .bool false, .pointer (some ⟨p, 0, none⟩), v76, .slice oH nH cH, .bool true, .bool false, .bool false, a0.tmps.getD 81 undef, a0.tmps.getD 82 undef, a0.tmps.getD 83 undef, a0.tmps.getD 84 undef, a0.tmps.getD 85 undef, a0.tmps.getD 86 undef, a0.tmps.getD 87 undef, a0.tmps.getD 88 undef, a0.tmps.getD 89 undef, a0.tmps.getD 90 undef, a0.tmps.getD 91 undef, a0.tmps.getD 92 undef, a0.tmps.getD 93 undef, a0.tmps.getD 94 undef, a0.tmps.getD 95 undef, a0.tmps.getD 96 undef, a0.tmps.getD 97 undef, a0.tmps.getD 98 undef, a0.tmps.getD 99 undef, a0.tmps.getD 100 undef, a0.tmps.getD 101 undef, a0.tmps.getD 102 undef, a0.tmps.getD 103 undef, a0.tmps.getD 104 undef, a0.tmps.getD 105 undef, a0.tmps.getD 106 undef, a0.tmps.getD 107 undef, a0.tmps.getD 108 undef, a0.tmps.getD 109 undef, a0.tmps.getD 110 undef, a0.tmps.getD 111 undef, a0.tmps.getD 112 undef, a0.tmps.getD 113 undef, a0.tmps.getD 114 undef, a0.tmps.getD 115 undef, a0.tmps.getD 116 undef, a0.tmps.getD 117 undef, a0.tmps.getD 118 undef, a0.tmps.getD 119 undef, a0.tmps.getD 120 undef, a0.tmps.getD 121 undef, a0.tmps.getD 122 undef, a0.tmps.getD 123 undef, a0.tmps.getD 124 undef, a0.tmps.getD 125 undef, a0.tmps.getD 126 undef, a0.tmps.getD 127 undef, a0.tmps.getD 128 undef, a0.tmps.getD 129 undef, a0.tmps.getD 130 undef, a0.tmps.getD 131 undef, a0.tmps.getD 132 undef, a0.tmps.getD 133 undef, a0.tmps.getD 134 undef, a0.tmps.getD 135 undef, a0.tmps.getD 136 undef, a0.tmps.getD 137 undef, a0.tmps.getD 138 undef, a0.tmps.getD 139 undef, a0.tmps.getD 140 undef, a0.tmps.getD 141 undef, a0.tmps.getD 142 undef, a0.tmps.getD 143 undef, a0.tmps.getD 144 undef, a0.tmps.getD 145 undef, a0.tmps.getD 146 undef, a0.tmps.getD 147 undef, a0.tmps.getD 148 undef, a0.tmps.getD 149 undef, a0.tmps.getD 150 undef, a0.tmps.getD 151 undef, a0.tmps.getD 152 undef, a0.tmps.getD 153 undef, a0.tmps.getD 154 undef, a0.tmps.getD 155 undef, a0.tmps.getD 156 undef, a0.tmps.getD 157 undef, a0.tmps.getD 158 undef, a0.tmps.getD 159 undef, a0.tmps.getD 160 undef, a0.tmps.getD 161 undef, a0.tmps.getD 162 undef]) (by rw [hb.size, hsz]; rfl) hdf' ⟨(hb.old 0 (by decide +kernel)), (hb.old 1 (by decide +kernel)), ((hb.old 2 (by decide +kernel)).trans h2), ((hb.old 3 (by decide +kernel)).trans h3), (hb.old 4 (by decide +kernel)), ((hb.old 5 (by decide +kernel)).trans h5), ((hb.old 6 (by decide +kernel)).trans h6), ((hb.old 7 (by decide +kernel)).trans h7), (hb.old 8 (by decide +kernel)), ((hb.old 9 (by decide +kernel)).trans h9), (hb.old 10 (by decide +kernel)), ((hb.old 11 (by decide +kernel)).trans h11), ((hb.old 12 (by decide +kernel)).trans h12), (hb.old 13 (by decide +kernel)), (hb.old 14 (by decide +kernel)), (hb.old 15 (by decide +kernel)), (hb.old 16 (by decide +kernel)), (hb.old 17 (by decide +kernel)), (hb.old 18 (by decide +kernel)), (hb.old 19 (by decide +kernel)), (hb.old 20 (by decide +kernel)), (hb.old 21 (by decide +kernel)), (hb.old 22 (by decide +kernel)), (hb.old 23 (by decide +kernel)), (hb.old 24 (by decide +kernel)), (hb.old 25 (by decide +kernel)), (hb.old 26 (by decide +kernel)), (hb.old 27 (by decide +kernel)), (hb.old 28 (by decide +kernel)), (hb.old 29 (by decide +kernel)), (hb.old 30 (by decide +kernel)), (hb.old 31 (by decide +kernel)), (hb.old 32 (by decide +kernel)), (hb.old 33 (by decide +kernel)), (hb.old 34 (by decide +kernel)), (hb.old 35 (by decide +kernel)), (hb.old 36 (by decide +kernel)), (hb.old 37 (by decide +kernel)), (hb.old 38 (by decide +kernel)), (hb.old 39 (by decide +kernel)), (hb.old 40 (by decide +kernel)), (hb.old 41 (by decide +kernel)), (hb.old 42 (by decide +kernel)), (hb.old 43 (by decide +kernel)), (hb.old 44 (by decide +kernel)), (hb.old 45 (by decide +kernel)), (hb.old 46 (by decide +kernel)), (hb.old 47 (by decide +kernel)), (hb.old 48 (by decide +kernel)), (hb.old 49 (by decide +kernel)), (hb.old 50 (by decide +kernel)), (hb.old 51 (by decide +kernel)), (hb.old 52 (by decide +kernel)), (hb.old 53 (by decide +kernel)), (hb.old 54 (by decide +kernel)), (hb.old 55 (by decide +kernel)), (hb.old 56 (by decide +kernel)), (hb.old 57 (by decide +kernel)), (hb.old 58 (by decide +kernel)), (hb.old 59 (by decide +kernel)), (hb.old 60 (by decide +kernel)), (hb.old 61 (by decide +kernel)), (hb.old 62 (by decide +kernel)), (show a'.tmps.getD 63 undef = .int .i64 0 from hall 0 (by decide) 63 rfl), (show a'.tmps.getD 64 undef = .int .i64 0 from hall 1 (by decide) 64 rfl), (show a'.tmps.getD 65 undef = .bool false from hall 2 (by decide) 65 rfl), (show a'.tmps.getD 66 undef = .bool false from hall 3 (by decide) 66 rfl), (show a'.tmps.getD 67 undef = .slice oX 16 cX from hall 4 (by decide) 67 rfl), (show a'.tmps.getD 68 undef = .string (str (List.replicate 16 c)) from hall 5 (by decide) 68 rfl), (show a'.tmps.getD 69 undef = .int .u8 ((c.toNat : Nat) : Int) from hall 6 (by decide) 69 rfl), hv70, (show a'.tmps.getD 71 undef = .string (str (List.replicate 16 c)) from hall 8 (by decide) 71 rfl), (show a'.tmps.getD 72 undef = .bool false from hall 9 (by decide) 72 rfl), (show a'.tmps.getD 73 undef = .bool false from hall 10 (by decide) 73 rfl), (show a'.tmps.getD 74 undef = .bool false from hall 11 (by decide) 74 rfl), (show a'.tmps.getD 75 undef = .pointer (some ⟨p, 0, none⟩) from hall 12 (by decide) 75 rfl), hv76, (show a'.tmps.getD 77 undef = .slice oH nH cH from hall 14 (by decide) 77 rfl), (show a'.tmps.getD 78 undef = .bool true from hall 15 (by decide) 78 rfl), (show a'.tmps.getD 79 undef = .bool false from hall 16 (by decide) 79 rfl), (show a'.tmps.getD 80 undef = .bool false from hall 17 (by decide) 80 rfl), (hb.old 81 (by decide +kernel)), (hb.old 82 (by decide +kernel)), (hb.old 83 (by decide +kernel)), (hb.old 84 (by decide +kernel)), (hb.old 85 (by decide +kernel)), (hb.old 86 (by decide +kernel)), (hb.old 87 (by decide +kernel)), (hb.old 88 (by decide +kernel)), (hb.old 89 (by decide +kernel)), (hb.old 90 (by decide +kernel)), (hb.old 91 (by decide +kernel)), (hb.old 92 (by decide +kernel)), (hb.old 93 (by decide +kernel)), (hb.old 94 (by decide +kernel)), (hb.old 95 (by decide +kernel)), (hb.old 96 (by decide +kernel)), (hb.old 97 (by decide +kernel)), (hb.old 98 (by decide +kernel)), (hb.old 99 (by decide +kernel)), (hb.old 100 (by decide +kernel)), (hb.old 101 (by decide +kernel)), (hb.old 102 (by decide +kernel)), (hb.old 103 (by decide +kernel)), (hb.old 104 (by decide +kernel)), (hb.old 105 (by decide +kernel)), (hb.old 106 (by decide +kernel)), (hb.old 107 (by decide +kernel)), (hb.old 108 (by decide +kernel)), (hb.old 109 (by decide +kernel)), (hb.old 110 (by decide +kernel)), (hb.old 111 (by decide +kernel)), (hb.old 112 (by decide +kernel)), (hb.old 113 (by decide +kernel)), (hb.old 114 (by decide +kernel)), (hb.old 115 (by decide +kernel)), (hb.old 116 (by decide +kernel)), (hb.old 117 (by decide +kernel)), (hb.old 118 (by decide +kernel)), (hb.old 119 (by decide +kernel)), (hb.old 120 (by decide +kernel)), (hb.old 121 (by decide +kernel)), (hb.old 122 (by decide +kernel)), (hb.old 123 (by decide +kernel)), (hb.old 124 (by decide +kernel)), (hb.old 125 (by decide +kernel)), (hb.old 126 (by decide +kernel)), (hb.old 127 (by decide +kernel)), (hb.old 128 (by decide +kernel)), (hb.old 129 (by decide +kernel)), (hb.old 130 (by decide +kernel)), (hb.old 131 (by decide +kernel)), (hb.old 132 (by decide +kernel)), (hb.old 133 (by decide +kernel)), (hb.old 134 (by decide +kernel)), (hb.old 135 (by decide +kernel)), (hb.old 136 (by decide +kernel)), (hb.old 137 (by decide +kernel)), (hb.old 138 (by decide +kernel)), (hb.old 139 (by decide +kernel)), (hb.old 140 (by decide +kernel)), (hb.old 141 (by decide +kernel)), (hb.old 142 (by decide +kernel)), (hb.old 143 (by decide +kernel)), (hb.old 144 (by decide +kernel)), (hb.old 145 (by decide +kernel)), (hb.old 146 (by decide +kernel)), (hb.old 147 (by decide +kernel)), (hb.old 148 (by decide +kernel)), (hb.old 149 (by decide +kernel)), (hb.old 150 (by decide +kernel)), (hb.old 151 (by decide +kernel)), (hb.old 152 (by decide +kernel)), (hb.old 153 (by decide +kernel)), (hb.old 154 (by decide +kernel)), (hb.old 155 (by decide +kernel)), (hb.old 156 (by decide +kernel)), (hb.old 157 (by decide +kernel)), (hb.old 158 (by decide +kernel)), (hb.old 159 (by decide +kernel)), (hb.old 160 (by decide +kernel)), (hb.old 161 (by decide +kernel)), (hb.old 162 (by decide +kernel)), trivial⟩
            have HN6 := hide ((unhide HN5).fr hf)
            have HA6 := hide ((unhide HA5).kept hf)
            clear hall hb hf hs hv70 hv76
            subst hfr
            rw [unhide HA0]
            clear HA0 h2 h3 h5 h6 h7 h9 h11 h12 hsz hdf hdf' HN5 HA5 HX5 HR5
            apply_assumption
            go_wp2_with fail
            refine (queue_any _ _ _ _ _ (unhide HN6).k).mono ?_
            rintro e w7 ⟨rfl, hs7, f7⟩
            have HN7 := hide ((unhide HN6).fr f7)
            have HA7 := hide ((unhide HA6).kept f7)
            have hgQ : w'.heap.size ≠ p ∧ w'.heap.size ≠ gs ∧ ∀ b, q4.ownBlock = some b → b ≠ w'.heap.size := by
              obtain ⟨l1, l2, l3⟩ := (unhide HN6).k.lt
              exact ⟨by omega, by omega, fun b hb => by have := l3 b hb; omega⟩
            generalize w'.heap.size = gQ at *
            obtain ⟨wf1, wf2, wf3, wf4, wf5⟩ := wr_facts (unhide HE)
            have hroom := (unhide HN7).k.ok.room
            have hdn : (wrD d a (List.replicate 16 c)).n = d.n := by rw [wf5]
            have hoff : (wrD d a (List.replicate 16 c)).off = false := by rw [wf5]; exact wf2
            have hfl : flE (wrD d a (List.replicate 16 c)) = 0 := by unfold flE; rw [hoff]; rfl
            have HC8 := hide (flush_nd (unhide HN7) (by omega))
            rw [hfl] at HC8
            have HLF := hide (fl_inI hoff)
            have HRD := hide (fl_read (unhide HE))
            have HFS : Hid ((flD (wrD d a (List.replicate 16 c))).S.length = (wrD d a (List.replicate 16 c)).S.length) := hide (by rw [(fl_last (unhide HE)).2.1, wf5])
            have HS7 := hide hs7
            have HG7 := hide hgQ
            have HSS : Hid ((wrD d a (List.replicate 16 c)).S = d.S) := hide (by rw [wf5])
            clear hs7 f7 HN6 HA6 hgQ wf1 wf2 wf3 wf4 wf5 hdn hoff hfl HN7 HIQ
            generalize wrD d a (List.replicate 16 c) = d1 at *
            go_wp2_with fail
            refine (unhide HC8).mono ?_
            rintro e w8 ⟨rfl, q8, hN8, m8⟩
            have HN8 := hide hN8
            have HA8 := hide ((unhide HA7).mv m8)
            have HS8 : Hid (SAt w8 gQ (quL d1)) := hide ((unhide HS7).kept m8.f (fun e => by
              obtain ⟨g1, g2, g3⟩ := unhide HG7
              rcases e with e | e | e
              · exact g1 e
              · exact g2 e
              · exact g3 _ e rfl))
            clear hN8 m8 HA7 HS7 HC8 HG7
            go_wp2_with (go_at_call 14; refine (num_any _ _).mono ?_; rintro e w' ⟨rfl, rfl⟩)
            obtain ⟨M, hM⟩ : ∃ M, M = inI d d.S.length := ⟨_, rfl⟩
            rw [← hM] at HA8 HnH
            have hMl : M.length ≤ 65536 := by rw [hM]; exact Nat.le_trans (inI_len _ _) hdl
            have HM := hide hM
            obtain ⟨inf, hi0, hz0, hz1, hz2⟩ := info_parts Try.info3
            clear hM
            go_loopw [14, 15] (fun x y W => ∃ i : Nat, i ≤ nH ∧ y = .int .i64 (i : Int) ∧ (∃ ao N ac, x = .slice ao N ac ∧ N = (lfL d1 M i).length ∧ W.ownsRow 0 3 1 (.slice ao N ac) N (ivs (lfL d1 M i)) ∧ ∀ b, (Value.slice ao N ac).ownBlock = some b → w8.heap.size ≤ b) ∧ Fr (fun _ => False) w8 W) (fun _ y _ => nH - (intOf y).toNat)
            case atStart => exact ⟨0, by omega, rfl, ⟨none, 0, 0, rfl, rfl, owns_nilE _ 3, fun b hb => by simp [Value.ownBlock] at hb⟩, Fr.refl _ _⟩
            case round =>
              obtain ⟨i, hi, rfl, ⟨al, Nl, cl, rfl, hN, hO, hnew⟩, hf⟩ := hrel
              have hHn := unhide HnH
              by_cases hlt : i < nH
              · have him : i < M.length := by omega
                have hav := ((unhide HA8).kept hf).r
                have hst := lfL_succ d1 M i him
                have hNl : Nl ≤ i := by rw [hN]; exact lfL_len _ _ _
                obtain ⟨bh, oh, hvv, -, x1, y1, z1⟩ := hav.lits (by simp [iz]; omega)
                have k1 := z1 i (by simp [iz]; omega)
                rw [List.getElem_map] at k1
                have ez : (iz M)[i]'(by simp [iz]; omega) = ((M[i] : Nat) : Int) := by simp [iz]
                rw [ez] at k1
                subst hvv
                have HS9 := hide ((unhide HS8).kept hf id)
                have HST := hide hst
                have HO := hide hO
                have Hf := hide hf
                have HNW := hide hnew
                have HNN := hide hN
                have bl : decide ((i : Int) < (nH : Int)) = true := by simp; omega
                generalize M[i] = x at *
                have hcap : i < cH := by omega
                clear hav hst hO hf hnew hN z1 ez x1 hHn
                rename World => wo
                go_wp2_with fail
                go_loopw [16, 17] (fun u y W => ∃ k : Nat, k ≤ d1.Q.length ∧ y = .int .i64 (k : Int) ∧ u = .bool ((d1.Q.take k).any fun q => q.1 == x) ∧ ∃ n, W = wo.drewN n) (fun _ y _ => d1.Q.length - (intOf y).toNat)
                case atStart => exact ⟨0, by omega, rfl, by simp, 0, rfl⟩
                case round =>
                  obtain ⟨k, hk, rfl, rfl, nn, rfl⟩ := hrel
                  by_cases hkl : k < d1.Q.length
                  · have bk : decide ((k : Int) < (d1.Q.length : Int)) = true := by simp; omega
                    have HT := hide (any_succ d1.Q k x hkl)
                    obtain ⟨r1, -⟩ := (unhide HS9).at k (by simp [quL]; exact hkl)
                    have er : ((quL d1)[k]'(by simp [quL]; exact hkl)).1 = (((d1.Q[k]).1 : Nat) : Int) := by simp [quL]
                    rw [er] at r1
                    generalize (d1.Q[k]).1 = y at *
                    clear er
                    rcases hbv : (d1.Q.take k).any (fun q => q.1 == x) with _ | _
                    · rw [hbv, Bool.false_or] at HT
                      have bq : (((y : Nat) : Int) == ((x : Nat) : Int)) = (y == x) := by
                        rw [Bool.eq_iff_iff]
                        simp
                        omega
                      generalize (y == x) = yx at *
                      clear hbv
                      go_wp2_with fail
                      go_quiet (fail)
                      go_wp2_with fail
                      go_roundw
                      case rel => exact ⟨k + 1, by omega, by go_num, by rw [unhide HT], _, rfl⟩
                      case measure => simp [intOf]; omega
                    · rw [hbv, Bool.true_or] at HT
                      clear hbv
                      go_wp2_with fail
                      go_quiet (fail)
                      go_wp2_with fail
                      go_roundw
                      case rel => exact ⟨k + 1, by omega, by go_num, by rw [unhide HT], _, rfl⟩
                      case measure => simp [intOf]; omega
                  · have bk : decide ((k : Int) < (d1.Q.length : Int)) = false := by simp; omega
                    have hke : k = d1.Q.length := by omega
                    subst hke
                    rw [List.take_length]
                    rcases hbv : d1.Q.any (fun q => q.1 == x) with _ | _
                    · have HE2 := hide (show lfL d1 M (i + 1) = lfL d1 M i ++ [x] by rw [unhide HST, hbv, if_neg (by decide)])
                      have HO2 := hide (owns_kept (unhide HO) (Fr.ofDrewN (S := fun _ => False) wo nn) (fun _ _ h => h))
                      have k2 : (wo.drewN nn).cell? ⟨bh, oh + i, none⟩ = some (.int .i64 ((x : Nat) : Int)) := by simpa using k1
                      have HF2 := hide ((unhide Hf).trans (Fr.ofDrewN (S := fun _ => False) wo nn) (fun _ _ h => h))
                      clear hbv HST HO Hf
                      refine wp_world ?_
                      intro wk hwk
                      rw [← hwk] at HO2 k2 HF2
                      clear hwk
                      go_wp2_with (at_builtin; refine wpList_app rfl (.tmp 114) (.tmp 119) 37 rfl 3 inf _ 1 8 Try.underlying37 hi0 hz0 hz1 hz2 rfl (by decide) (.slice al Nl cl) Nl _ rfl (.slice (some ⟨wk.heap.size, 0, none⟩) 1 1) rfl 1 [.int .i64 ((x : Nat) : Int)] ((unhide HO2).alloc _) (one_cellV wk _ 3) (fun u hu => by simp at hu; subst hu; rfl) (by omega) (by simp only [maxLen]; omega) ?_)
                      intro ao4 ac4 w4 o4 g4 p4
                      have n4 : ∀ b, (Value.slice ao4 (Nl + 1) ac4).ownBlock = some b → w8.heap.size ≤ b := by
                        intro b hb
                        rcases p4 with e | ⟨k', e, hk'⟩
                        · rw [e] at hb; exact unhide HNW b hb
                        · rw [e] at hb; simp at hb; have := (unhide HF2).size; omega
                      have hO4 : w4.ownsRow 0 3 1 (.slice ao4 (Nl + 1) ac4) (Nl + 1) (ivs (lfL d1 M (i + 1))) := by
                        rw [unhide HE2]
                        have e : ivs (lfL d1 M i ++ [x]) = ivs (lfL d1 M i) ++ [Value.int .i64 (x : Int)] := by simp [ivs]
                        rw [e]; exact o4
                      have HO4 := hide hO4
                      have HN4' := hide n4
                      have HF4 := hide (((unhide HF2).alloc _).grown g4 (fun k hk e => by have := unhide HNW k e; omega))
                      have HNN2 := hide (show Nl + 1 = (lfL d1 M (i + 1)).length by rw [unhide HE2, List.length_append, ← unhide HNN]; rfl)
                      clear o4 g4 p4 n4 hO4
                      go_wp2_with fail
                      go_roundw
                      case rel => exact ⟨i + 1, by omega, by go_num, ⟨ao4, Nl + 1, ac4, rfl, unhide HNN2, unhide HO4, unhide HN4'⟩, unhide HF4⟩
                      case measure => simp [intOf]; omega
                    · have HE2 := hide (show lfL d1 M (i + 1) = lfL d1 M i by rw [unhide HST, hbv, if_pos rfl])
                      have HO2 := hide (owns_kept (unhide HO) (Fr.ofDrewN (S := fun _ => False) wo nn) (fun _ _ h => h))
                      clear hbv HST HO
                      go_wp2_with fail
                      go_roundw
                      case rel => exact ⟨i + 1, by omega, by go_num, ⟨al, Nl, cl, rfl, by rw [unhide HE2]; exact unhide HNN, by rw [unhide HE2]; exact unhide HO2, unhide HNW⟩, (unhide Hf).trans (Fr.ofDrewN _ _) (fun _ _ h => h)⟩
                      case measure => simp [intOf]; omega
              · have bl : decide ((i : Int) < (nH : Int)) = false := by simp; omega
                have hie : i = nH := by omega
                subst hie
                have HO := hide hO
                have HNN := hide hN
                have HNr := hide ((unhide HN8).fr hf)
                have HEQ : Hid (iz (inI (flD d1) (flD d1).S.length) = iz (lfL d1 M i)) := hide (by
                  have e1 : (flD d1).S.length = d.S.length := by rw [(unhide HFS), unhide HSS]
                  rw [e1, unhide HLF, inI_S (unhide HSS), ← unhide HM]
                  unfold lfL
                  rw [hHn, List.take_length])
                clear hO hf hN hnew hHn HA8 HS8
                go_wp2_with fail
                refine (read_nd a (List.replicate 16 c) 16 0 (unhide HNr) (unhide HRD).1 (by simp)).mono ?_
                rintro e w9 ⟨oY, cY, rfl, hY, hN9, f9⟩
                have HY9 := hide hY.rd
                have HN9 := hide hN9
                have HO9 := hide (owns_kept (unhide HO) f9 (fun _ _ h => h))
                clear hY hN9 f9 HNr HO
                go_wp2_with fail
                have hsb := stable_any _ _ _ _ _ a (unhide HN9).k
                rw [(unhide HRD).2.1, (unhide HRD).2.2, List.length_replicate] at hsb
                refine hsb.mono ?_
                clear hsb
                rintro e wA ⟨⟨oS, cS, rfl, hrA, -⟩, fA⟩
                have HYA := hide ((unhide HY9).kept fA (fun _ _ h => h))
                have HSA := hide hrA
                have HNA := hide ((unhide HN9).fr fA)
                have hlr : RdV wA (.slice al Nl cl) ((iz (lfL d1 M i)).map (Value.int .i64)) := by
                  rw [iz_ivs]
                  refine RdV.of_owns (base := 0) (e := 3) ?_
                  rw [ivs_length, ← unhide HNN]
                  exact owns_kept (unhide HO9) fA (fun _ _ h => h)
                have HLA := hide hlr
                clear hrA fA HY9 HN9 HO9 hlr
                go_wp2_with fail
                refine wp_world ?_
                intro w1 hw1
                rw [← hw1] at HYA HSA HNA HLA
                clear hw1
                refine wp_nameK ?_
                intro a0 hA
                have h6 : a0.tmps.getD 6 undef = .int .u8 ((c.toNat : Nat) : Int) := by rw [hA]; rfl
                have h7 : a0.tmps.getD 7 undef = .pointer (some ⟨p, 0, none⟩) := by rw [hA]; rfl
                have h14 : a0.tmps.getD 14 undef = .slice al Nl cl := by rw [hA]; rfl
                have h18 : a0.tmps.getD 18 undef = .slice oY 16 cY := by rw [hA]; rfl
                have h19 : a0.tmps.getD 19 undef = .int .i64 0 := by rw [hA]; rfl
                have h20 : a0.tmps.getD 20 undef = .slice oS 16 cS := by rw [hA]; rfl
                have h21 : a0.tmps.getD 21 undef = .bool true := by rw [hA]; rfl
                have hsz : a0.tmps.size = 163 := by rw [hA]; rfl
                have hdf : a0.defers = [] := by rw [hA]
                have HA0 := hide hA
                clear hA
                refine wp_region_kinds (fun _ => False) (by kernel_rfl) (by kernel_rfl) (by decide +kernel) (by rw [hsz]; decide +kernel) [.eq (.int .i64 0), .eq (.int .i64 0), .eq (.bool true), .eq (.bool true), .eq (.slice oY 16 cY), .eq (.string (str (List.replicate 16 c))), .eq (.int .u8 ((c.toNat : Nat) : Int)), kRb (List.replicate 16 c), .eq (.string (str (List.replicate 16 c))), .eq (.bool true), .eq (.bool true), .eq (.bool true), .eq (.bool true), .eq (.bool true), .eq (.bool true), .eq (.slice oS 16 cS), .eq (.string (str (List.replicate 16 c))), .eq (.slice oY 16 cY), .eq (.string (str (List.replicate 16 c))), .eq (.bool true), .eq (.bool true), .eq (.bool true), .eq (.pointer (some ⟨p, 0, none⟩)), kRv (iz (inI (flD d1) (flD d1).S.length)), .eq (.slice al Nl cl), .eq (.bool true), .eq (.bool true), .eq (.bool true), .eq (.bool true), .eq (.bool true), .eq (.bool true)] [] (by decide) (by decide) (nopaths) (fun _ W => Fr (fun _ => False) w1 W) (Fr.refl _ _).drew ?steps ?done
                case steps =>
                  refine ⟨?_, ?_⟩
                  · intro a' w' k' hb hf hs hc hq hg hd
                    exact ⟨wantedN rfl, k_val (.int .i64 0) (by decide) hs (x_move rfl ((hb.old 19 (by decide +kernel)).trans h19)) rfl⟩
                  refine ⟨?_, ?_⟩
                  · intro a' w' k' hb hf hs hc hq hg hd
                    exact ⟨wantedN rfl, k_call 14 _ (by decide) (e_call1 rfl rfl (hd 0 (by kernel_rfl) 133 rfl) cf14) ((num_any _ _).mono (by rintro e w7 ⟨rfl, rfl⟩; exact ⟨_, rfl, rfl, Fr.refl _ _, hs⟩))⟩
                  refine ⟨?_, ?_⟩
                  · intro a' w' k' hb hf hs hc hq hg hd
                    exact ⟨wantedN rfl, k_val (.bool true) (by decide) hs (x_eqI Try.underlying3 rfl (hd 1 (by kernel_rfl) 134 rfl) rfl (by first | rfl | decide | simp)) rfl⟩
                  refine ⟨?_, ?_⟩
                  · intro a' w' k' hb hf hs hc hq hg hd
                    exact ⟨wantedN rfl, k_val (.bool true) (by decide) hs (x_move rfl (hd 2 (by kernel_rfl) 135 rfl)) rfl⟩
                  refine ⟨?_, ?_⟩
                  · intro a' w' k' hb hf hs hc hq hg hd
                    exact ⟨wantedT (d := 136) rfl rfl (by rw [hb.size, hsz]; omega) (hd 3 (by kernel_rfl) 136 rfl), k_val (.slice oY 16 cY) (by decide) hs (x_move rfl ((hb.old 18 (by decide +kernel)).trans h18)) rfl⟩
                  refine ⟨?_, ?_⟩
                  · intro a' w' k' hb hf hs hc hq hg hd
                    exact ⟨wantedT (d := 136) rfl rfl (by rw [hb.size, hsz]; omega) (hd 3 (by kernel_rfl) 136 rfl), k_val (.string (str (List.replicate 16 c))) (by decide) hs (x_conv rfl (hd 4 (by kernel_rfl) 137 rfl) (conv_rd (P := Try.prog) ((unhide HYA).kept hs (fun _ _ h => h)) 36 9 5 Try.underlying36 Try.underlying5 Try.underlying9)) rfl⟩
                  refine ⟨?_, ?_⟩
                  · intro a' w' k' hb hf hs hc hq hg hd
                    exact ⟨wantedT (d := 136) rfl rfl (by rw [hb.size, hsz]; omega) (hd 3 (by kernel_rfl) 136 rfl), k_val (.int .u8 ((c.toNat : Nat) : Int)) (by decide) hs (x_move rfl ((hb.old 6 (by decide +kernel)).trans h6)) rfl⟩
                  refine ⟨?_, ?_⟩
                  · intro a' w' k' hb hf hs hc hq hg hd
                    exact ⟨wantedT (d := 136) rfl rfl (by rw [hb.size, hsz]; omega) (hd 3 (by kernel_rfl) 136 rfl), k_call 28 _ (by decide) (e_call2 rfl rfl rfl (hd 6 (by kernel_rfl) 139 rfl) cf28) ((full_any _ 16 c (by omega)).mono (by rintro e w7 ⟨rfl, hB, f⟩; exact ⟨_, rfl, hB.rd (by simp [maxLen]), f, Fr.trans hs f (fun _ _ h => h)⟩))⟩
                  refine ⟨?_, ?_⟩
                  · intro a' w' k' hb hf hs hc hq hg hd
                    have hh : Rd w' _ _ := (hd 7 (by kernel_rfl) 140 rfl); exact ⟨wantedT (d := 136) rfl rfl (by rw [hb.size, hsz]; omega) (hd 3 (by kernel_rfl) 136 rfl), k_val (.string (str (List.replicate 16 c))) (by decide) hs (x_conv rfl rfl (conv_rd (P := Try.prog) hh 36 9 5 Try.underlying36 Try.underlying5 Try.underlying9)) rfl⟩
                  refine ⟨?_, ?_⟩
                  · intro a' w' k' hb hf hs hc hq hg hd
                    exact ⟨wantedT (d := 136) rfl rfl (by rw [hb.size, hsz]; omega) (hd 3 (by kernel_rfl) 136 rfl), k_val (.bool true) (by decide) hs (x_eqS rfl (hd 5 (by kernel_rfl) 138 rfl) (hd 8 (by kernel_rfl) 141 rfl)) rfl⟩
                  refine ⟨?_, ?_⟩
                  · intro a' w' k' hb hf hs hc hq hg hd
                    exact ⟨wantedN rfl, k_val (.bool true) (by decide) hs (x_pickT rfl (hd 3 (by kernel_rfl) 136 rfl) (hd 9 (by kernel_rfl) 142 rfl)) rfl⟩
                  refine ⟨?_, ?_⟩
                  · intro a' w' k' hb hf hs hc hq hg hd
                    exact ⟨wantedN rfl, k_val (.bool true) (by decide) hs (x_move rfl (hd 10 (by kernel_rfl) 143 rfl)) rfl⟩
                  refine ⟨?_, ?_⟩
                  · intro a' w' k' hb hf hs hc hq hg hd
                    exact ⟨wantedT (d := 144) rfl rfl (by rw [hb.size, hsz]; omega) (hd 11 (by kernel_rfl) 144 rfl), k_val (.bool true) (by decide) hs (x_move rfl ((hb.old 21 (by decide +kernel)).trans h21)) rfl⟩
                  refine ⟨?_, ?_⟩
                  · intro a' w' k' hb hf hs hc hq hg hd
                    exact ⟨wantedN rfl, k_val (.bool true) (by decide) hs (x_pickT rfl (hd 11 (by kernel_rfl) 144 rfl) (hd 12 (by kernel_rfl) 145 rfl)) rfl⟩
                  refine ⟨?_, ?_⟩
                  · intro a' w' k' hb hf hs hc hq hg hd
                    exact ⟨wantedN rfl, k_val (.bool true) (by decide) hs (x_move rfl (hd 13 (by kernel_rfl) 146 rfl)) rfl⟩
                  refine ⟨?_, ?_⟩
                  · intro a' w' k' hb hf hs hc hq hg hd
                    exact ⟨wantedT (d := 147) rfl rfl (by rw [hb.size, hsz]; omega) (hd 14 (by kernel_rfl) 147 rfl), k_val (.slice oS 16 cS) (by decide) hs (x_move rfl ((hb.old 20 (by decide +kernel)).trans h20)) rfl⟩
                  refine ⟨?_, ?_⟩
                  · intro a' w' k' hb hf hs hc hq hg hd
                    exact ⟨wantedT (d := 147) rfl rfl (by rw [hb.size, hsz]; omega) (hd 14 (by kernel_rfl) 147 rfl), k_val (.string (str (List.replicate 16 c))) (by decide) hs (x_conv rfl (hd 15 (by kernel_rfl) 148 rfl) (conv_rd (P := Try.prog) ((unhide HSA).kept hs (fun _ _ h => h)) 36 9 5 Try.underlying36 Try.underlying5 Try.underlying9)) rfl⟩
                  refine ⟨?_, ?_⟩
                  · intro a' w' k' hb hf hs hc hq hg hd
                    exact ⟨wantedT (d := 147) rfl rfl (by rw [hb.size, hsz]; omega) (hd 14 (by kernel_rfl) 147 rfl), k_val (.slice oY 16 cY) (by decide) hs (x_move rfl ((hb.old 18 (by decide +kernel)).trans h18)) rfl⟩
                  refine ⟨?_, ?_⟩
                  · intro a' w' k' hb hf hs hc hq hg hd
                    exact ⟨wantedT (d := 147) rfl rfl (by rw [hb.size, hsz]; omega) (hd 14 (by kernel_rfl) 147 rfl), k_val (.string (str (List.replicate 16 c))) (by decide) hs (x_conv rfl (hd 17 (by kernel_rfl) 150 rfl) (conv_rd (P := Try.prog) ((unhide HYA).kept hs (fun _ _ h => h)) 36 9 5 Try.underlying36 Try.underlying5 Try.underlying9)) rfl⟩
                  refine ⟨?_, ?_⟩
                  · intro a' w' k' hb hf hs hc hq hg hd
                    exact ⟨wantedT (d := 147) rfl rfl (by rw [hb.size, hsz]; omega) (hd 14 (by kernel_rfl) 147 rfl), k_val (.bool true) (by decide) hs (x_eqS rfl (hd 16 (by kernel_rfl) 149 rfl) (hd 18 (by kernel_rfl) 151 rfl)) rfl⟩
                  refine ⟨?_, ?_⟩
                  · intro a' w' k' hb hf hs hc hq hg hd
                    exact ⟨wantedN rfl, k_val (.bool true) (by decide) hs (x_pickT rfl (hd 14 (by kernel_rfl) 147 rfl) (hd 19 (by kernel_rfl) 152 rfl)) rfl⟩
                  refine ⟨?_, ?_⟩
                  · intro a' w' k' hb hf hs hc hq hg hd
                    exact ⟨wantedN rfl, k_val (.bool true) (by decide) hs (x_move rfl (hd 20 (by kernel_rfl) 153 rfl)) rfl⟩
                  refine ⟨?_, ?_⟩
                  · intro a' w' k' hb hf hs hc hq hg hd
                    exact ⟨wantedT (d := 154) rfl rfl (by rw [hb.size, hsz]; omega) (hd 21 (by kernel_rfl) 154 rfl), k_val (.pointer (some ⟨p, 0, none⟩)) (by decide) hs (x_move rfl ((hb.old 7 (by decide +kernel)).trans h7)) rfl⟩
                  refine ⟨?_, ?_⟩
                  · intro a' w' k' hb hf hs hc hq hg hd
                    exact ⟨wantedT (d := 154) rfl rfl (by rw [hb.size, hsz]; omega) (hd 21 (by kernel_rfl) 154 rfl), k_call 26 _ (by decide) (e_call1 rfl rfl (hd 22 (by kernel_rfl) 155 rfl) cf26) ((injured_rd ((unhide HNA).k.kept hs id id (fun _ _ h => h))).mono (by rintro e w7 ⟨ao9, c9, rfl, hB, f⟩; exact ⟨_, rfl, hB, f, Fr.trans hs f (fun _ _ h => h)⟩))⟩
                  refine ⟨?_, ?_⟩
                  · intro a' w' k' hb hf hs hc hq hg hd
                    exact ⟨wantedT (d := 154) rfl rfl (by rw [hb.size, hsz]; omega) (hd 21 (by kernel_rfl) 154 rfl), k_val (.slice al Nl cl) (by decide) hs (x_move rfl ((hb.old 14 (by decide +kernel)).trans h14)) rfl⟩
                  refine ⟨?_, ?_⟩
                  · intro a' w' k' hb hf hs hc hq hg hd
                    have hh : RdV w' _ _ := (hd 23 (by kernel_rfl) 156 rfl); exact ⟨wantedT (d := 154) rfl rfl (by rw [hb.size, hsz]; omega) (hd 21 (by kernel_rfl) 154 rfl), k_call 30 _ (by decide) (e_call2 rfl rfl rfl (hd 24 (by kernel_rfl) 157 rfl) cf30) ((ints_any _ _ _ _ _ hh ((unhide HLA).kept hs (fun _ _ h => h))).mono (by rintro e w7 ⟨rfl, n9, rfl⟩; exact ⟨_, rfl, by rw [decide_eq_true (unhide HEQ)]; rfl, Fr.ofDrewN _ _, Fr.trans hs (Fr.ofDrewN _ _) (fun _ _ h => h)⟩))⟩
                  refine ⟨?_, ?_⟩
                  · intro a' w' k' hb hf hs hc hq hg hd
                    exact ⟨wantedN rfl, k_val (.bool true) (by decide) hs (x_pickT rfl (hd 21 (by kernel_rfl) 154 rfl) (hd 25 (by kernel_rfl) 158 rfl)) rfl⟩
                  refine ⟨?_, ?_⟩
                  · intro a' w' k' hb hf hs hc hq hg hd
                    exact ⟨wantedN rfl, k_val (.bool true) (by decide) hs (x_move rfl (hd 26 (by kernel_rfl) 159 rfl)) rfl⟩
                  refine ⟨?_, ?_⟩
                  · intro a' w' k' hb hf hs hc hq hg hd
                    exact ⟨wantedT (d := 160) rfl rfl (by rw [hb.size, hsz]; omega) (hd 27 (by kernel_rfl) 160 rfl), k_call 11 _ (by decide) (e_call0 rfl rfl cf11) ((live_any _).mono (by rintro e w7 ⟨rfl, f⟩; exact ⟨_, rfl, rfl, f, Fr.trans hs f (fun _ _ h => h)⟩))⟩
                  refine ⟨?_, ?_⟩
                  · intro a' w' k' hb hf hs hc hq hg hd
                    exact ⟨wantedN rfl, k_val (.bool true) (by decide) hs (x_pickT rfl (hd 27 (by kernel_rfl) 160 rfl) (hd 28 (by kernel_rfl) 161 rfl)) rfl⟩
                  refine ⟨?_, ?_⟩
                  · intro a' w' k' hb hf hs hc hq hg hd
                    exact ⟨wantedN rfl, k_val (.bool true) (by decide) hs (x_assign rfl (hd 29 (by kernel_rfl) 162 rfl)) rfl⟩
                  exact trivial
                case done =>
                  intro a' w' hb hf hs hall
                  have hres : a'.tmps.getD 2 undef = .bool true := hall 30 (by decide) 2 rfl
                  have hdf' : a'.defers = [] := by rw [hb.defers]; exact hdf
                  have hF : Fr (fun _ => False) w w' := (unhide HNA).f.trans hf (fun _ _ h => h)
                  have hr : bodyPost Try.prog Try.f6 (fun e w' => e = Ending.returned (Value.bool true) ∧ Fr (fun x => False) w w') .ret a' w' :=
                    bodyPost_ret (v := .bool true) (by
                      have h6' : a'.tmps[2]?.getD undef = .bool true := by simpa using hres
                      simp [results, Try.results6, go_sem, h6']) hdf' ⟨rfl, hF⟩
                  clear hall hb
                  apply_assumption
                  exact wp_ret hr
        · have bE : (wrE d a (List.replicate 16 c) != 0) = true := by simpa using hE
          generalize wrE d a (List.replicate 16 c) = E at *
          clear hE
          go_wp2_with (go_at_call 14; refine (num_any _ _).mono ?_; rintro e w' ⟨rfl, rfl⟩)
          refine (live_any _).mono ?_
          rintro e w' ⟨rfl, f⟩
          have HG := hide f
          clear f
          go_wp2_with fail
          go_ret
          exact ⟨rfl, (unhide HN4).f.trans (unhide HG) (fun _ _ h => h)⟩
  · rw [hb] at HL
    refine (unhide HL).mono ?_
    rintro e w' ⟨rfl, n1, rfl⟩
    go_wp2_with fail
    refine (live_any _).mono ?_
    rintro e w' ⟨rfl, f⟩
    have HG := hide f
    clear f
    go_wp2_with fail
    go_ret
    exact ⟨rfl, (unhide HF).trans ((Fr.ofDrewN _ _).trans (unhide HG) (fun _ _ h => h)) (fun _ _ h => h)⟩
end Go.Proofs.Ytdhendcogjhgfaa
