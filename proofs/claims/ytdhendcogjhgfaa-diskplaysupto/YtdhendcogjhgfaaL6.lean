/-
  The document's Sectors and Same, held against the disk's.
-/
import Derived.Test.YtdhendcogjhgfaaL5
namespace Go.Proofs.Ytdhendcogjhgfaa
open Go.RowKit
set_option linter.unusedVariables false

attribute [local go_sem ↓] Go.wp_at_zero Go.wp_at_succ

theorem Try.fl55 : (Try.prog.fieldsOf 55).toList.map (fun f => (f.name != "_", f.type, f.offset)) = [(true, 3, 0), (true, 9, 1)] := by kernel_rfl
theorem Try.sh55 : Try.prog.stoodInHeld 55 = false := by kernel_rfl
theorem Try.us55 : Try.prog.underlying 55 = some (.struct (Try.prog.fieldsOf 55)) := by kernel_rfl
theorem Try.g55 : Try.prog.eqGuardType Try.prog.depth 55 = false := by kernel_rfl
theorem Try.s55' : (Try.prog.info? 55).map (fun i => i.size) = some 2 := by kernel_rfl
theorem Try.ur55 : ∃ d, Try.prog.underlying 55 = some d ∧ d.isRow = true := ⟨_, Try.us55, rfl⟩

theorem equal_sc (w : World) (d : Nat) (s t : Int × List UInt8) : (Op.equalIn (d + 3) 55 (.agg (sC s).toArray) (.agg (sC t).toArray)).run Try.prog w = .ok (decide (s = t)) w := by
  rw [run_equalIn_struct w (d + 2) 55 _ _ Try.us55 Try.sh55]
  obtain ⟨f, g, hfs, hf1, hf2, hf3, hg1, hg2, hg3⟩ := fields2 Try.fl55
  rw [hfs]
  have e1 : ∀ (s : Int × List UInt8), (part 9 (sC s).toArray 1).run Try.prog w = .ok (.string (str s.2)) w := fun s => by
    have : (sC s).toArray[1]? = some (.string (str s.2)) := by unfold sC; rfl
    simp [part, isAgg, run_underlying Try.underlying9, this]
  have e2 : ∀ (s : Int × List UInt8), (part 3 (sC s).toArray 0).run Try.prog w = .ok (.int .i64 s.1) w := fun s => by
    have : (sC s).toArray[0]? = some (.int .i64 s.1) := by unfold sC; rfl
    simp [part, isAgg, run_underlying Try.underlying3, this]
  have p1 := e1 s
  have p2 := e1 t
  have p3 := run_equalIn_string (P := Try.prog) (w := w) (d + 1) 9 (str s.2) (str t.2) Try.underlying9
  have p4 := e2 s
  have p5 := e2 t
  have p6 := run_equalIn_int (P := Try.prog) w (d + 1) 3 .i64 .i64 s.1 t.1 Try.underlying3
  clear e1 e2
  simp only [Op.eqFields, hf1, hg1, ne_eq, not_false_eq_true, if_true, hf2, hf3, hg2, hg3, Sem.run_bind]
  rw [p4, Result.andThen_ok, p5, Result.andThen_ok, p6, Result.andThen_ok, Sem.run_ite]
  clear p4 p5 p6
  by_cases h2 : s.1 = t.1
  · have hb : (s.1 == t.1) = true := by rw [h2]; exact beq_self_eq_true _
    rw [hb, if_neg (by decide)]
    simp only [Sem.run_bind]
    rw [p1, Result.andThen_ok, p2, Result.andThen_ok, p3, Result.andThen_ok, Sem.run_ite]
    by_cases h1 : s.2 = t.2
    · have h1' : ((str s.2).toList == (str t.2).toList) = true := by rw [h1]; exact beq_self_eq_true _
      rw [h1', decide_eq_true (Prod.ext h2 h1), if_neg (by decide)]
      rfl
    · have h1' : ((str s.2).toList == (str t.2).toList) = false := by
        rw [beq_eq_false_iff_ne]
        exact fun e => h1 (by rw [ByteArray.toList_eq, ByteArray.toList_eq] at e; simpa [str] using e)
      rw [h1', decide_eq_false (fun e => h1 (by rw [e])), if_pos (by decide)]
      rfl
  · have hb : (s.1 == t.1) = false := by
      rw [beq_eq_false_iff_ne]
      exact h2
    rw [hb, decide_eq_false (fun e => h2 (by rw [e])), if_pos (by decide)]
    rfl

section
variable {ρ : Operand → Value} {o : Oper} {w : World}
theorem x_neSc {x y : Operand} {s t : Int × List UInt8} (ho : o.op = .binOp .neq 55 x y 55) (hx : ρ x = .agg (sC s).toArray) (hy : ρ y = .agg (sC t).toArray) : (execOp ρ o).run Try.prog w = .ok (.value (.bool (!decide (s = t)))) w := by
  have h1 : (binOp .neq 55 (.agg (sC s).toArray) (.agg (sC t).toArray)).run Try.prog w = .ok (.bool (!decide (s = t))) w := by
    rw [run_neq_struct, equal_sc w 9997 s t]
    rfl
  simp [execOp, ho, hx, hy, eqGuard, h1]
theorem x_load55 {x : Operand} {b of : Nat} {cs : List Value} (ho : o.op = .load 55 x) (hx : ρ x = .pointer (some ⟨b, of, none⟩)) (hl : cs.length = 2) (hc : w.rangeAt b of cs) : (execOp ρ o).run Try.prog w = .ok (.value (.agg cs.toArray)) w := by
  obtain ⟨d, hu, hd⟩ := Try.ur55
  have := run_loadAt_mid (P := Try.prog) w b of 55 cs d hc hu hd (by rw [hl]; exact Try.s55')
  simp [execOp, ho, hx, this]
end

/-- A list of sectors that can be read. -/
def SRd (w : World) (v : Value) (L : List (Int × List UInt8)) : Prop :=
  (∃ ao cap, v = .slice ao L.length cap) ∧ L.length ≤ 1000000 ∧ (L ≠ [] → ∃ g cap, v = .slice (some ⟨g, 0, none⟩) L.length cap ∧ L.length ≤ cap ∧ cap ≤ maxLen ∧ ∀ i (h : i < L.length), w.rangeAt g (i * 2) (sC L[i]))

theorem range_two {w : World} {g i : Nat} {q : Int × List UInt8} (h0 : w.cell? ⟨g, i * 2, none⟩ = some (.int .i64 q.1)) (h1 : w.cell? ⟨g, i * 2 + 1, none⟩ = some (.string (str q.2))) : w.rangeAt g (i * 2) (sC q) := by
  intro j v hv
  unfold sC at hv
  match j, hv with
  | 0, hv => simp at hv; subst hv; exact h0
  | 1, hv => simp at hv; subst hv; exact h1
  | j + 2, hv => simp at hv

theorem SRd.kept {S : Nat → Prop} {w w' : World} {v : Value} {L : List (Int × List UInt8)} (h : SRd w v L) (f : Fr S w w') (hs : ∀ b, v.ownBlock = some b → ¬ S b) : SRd w' v L := by
  refine ⟨h.1, h.2.1, fun hn => ?_⟩
  obtain ⟨g, cap, rfl, h1, h2, h3⟩ := h.2.2 hn
  refine ⟨g, cap, rfl, h1, h2, fun i hi j v hv => ?_⟩
  have := h3 i hi j v hv
  rw [f.cell (World.block_lt_of_cell? w _ this) (hs g rfl)]
  exact this

theorem RAt.srd {w : World} {p sg hg : Nat} {qv : Value} {d : Dk} (h : RAt w p sg hg qv d) : SRd w qv (quL d) := by
  have hl : (quL d).length = d.Q.length := by simp [quL]
  have hr := h.ok.room
  have h1 := owns_shape h.queue
  refine ⟨by rw [hl]; exact h1, by omega, fun hn => ?_⟩
  have h0 : 0 < d.Q.length := by
    rcases Nat.eq_zero_or_pos d.Q.length with h0 | h0
    · exact absurd (List.length_eq_zero_iff.mp (hl.trans h0)) hn
    · exact h0
  obtain ⟨g, cap, rfl, x1, x2, -, -⟩ := h.wr 0 h0
  refine ⟨g, cap, by rw [hl], by omega, x2, fun i hi => ?_⟩
  obtain ⟨g', cap', e, -, -, y1, y2⟩ := h.wr i (by omega)
  simp at e
  obtain ⟨rfl, rfl⟩ := e
  exact range_two (by rw [y1]; simp [quL]) (by rw [y2]; simp [quL])

theorem SAt.srd {w : World} {g : Nat} {L : List (Int × List UInt8)} (h : SAt w g L) (hl : L.length ≤ 1000000) : SRd w (.slice (some ⟨g, 0, none⟩) L.length L.length) L :=
  ⟨⟨_, _, rfl⟩, hl, fun _ => ⟨g, L.length, rfl, Nat.le_refl _, by unfold maxLen; omega, fun i hi => range_two (h.at i hi).1 (h.at i hi).2⟩⟩

set_option maxHeartbeats 1000000 in
theorem rsectors_any (w : World) (v u : Value) (A B : List (Int × List UInt8)) (h1 : SRd w v A) (h2 : SRd w u B) :
    Calls Try.prog 34 #[v, u] w fun e w' => e = .returned (.bool (decide (A = B))) ∧ ∃ n, w' = w.drewN n := by
  have H1 := hide h1
  have H2 := hide h2
  obtain ⟨ao, ac, rfl⟩ := h1.1
  obtain ⟨bo, bc, rfl⟩ := h2.1
  have hl1 := h1.2.1
  have hl2 := h2.2.1
  clear h1 h2
  by_cases he : A.length = B.length
  · rw [← he] at H2 ⊢
    have HE := hide he
    clear he hl2
    obtain ⟨n, hn⟩ : ∃ n, n = A.length := ⟨_, rfl⟩
    rw [← hn] at H1 H2 hl1 ⊢
    have HN := hide hn
    clear hn
    go_enter Try.func34, Try.ntmps34
    go_wp2_with fail
    go_loopw [5] (fun x w' => ∃ i : Nat, i ≤ n ∧ x = .int .i64 (i : Int) ∧ A.take i = B.take i ∧ ∃ k, w' = w.drewN k) (fun x _ => n - (intOf x).toNat)
    case atStart => exact ⟨0, by omega, rfl, by simp, 0, rfl⟩
    case round =>
      obtain ⟨i, hi, rfl, ht, kk, rfl⟩ := hrel
      by_cases hlt : i < n
      · have i1 : i < A.length := by have := unhide HN; omega
        have i2 : i < B.length := by have := unhide HN; have := unhide HE; omega
        obtain ⟨g1, cc1, hv1, x1, y1, z1⟩ := (unhide H1).2.2 (by rintro rfl; simp at i1)
        obtain ⟨g2, cc2, hv2, x2, y2, z2⟩ := (unhide H2).2.2 (by rintro rfl; simp at i2)
        simp only [Value.slice.injEq] at hv1 hv2
        obtain ⟨rfl, -, rfl⟩ := hv1
        obtain ⟨rfl, -, rfl⟩ := hv2
        have r1 := z1 i i1
        have r2 := z2 i i2
        have HT := hide ht
        have T1 := hide (List.take_succ_eq_append_getElem i1)
        have T2 := hide (List.take_succ_eq_append_getElem i2)
        have HG := hide (show A = B → A[i] = B[i] by rintro rfl; rfl)
        generalize A[i] = s at *
        generalize B[i] = t at *
        have R1 := hide r1
        have R2 := hide r2
        have hic1 : i < ac := by omega
        have hic2 : i < bc := by omega
        clear ht r1 r2 z1 z2
        go_wp2_with fail
        refine wp_region_quiet_lit (by kernel_rfl) (by kernel_rfl) ?_
        go_big_quiet_step (fail)
        go_big_quiet_step (fail)
        go_big_quiet_step (fail)
        refine wpQuiet_val (by rfl) (.agg (sC s).toArray) (fun W hW => x_load55 rfl rfl rfl ?_) ?_
        · obtain ⟨nn, rfl⟩ := hW
          intro j v hv
          have := unhide R1 j v hv
          simpa using this
        simp only [Act.put, List.setIfInBounds_toArray, List.set_cons_zero, List.set_cons_succ]
        go_big_quiet_step (fail)
        go_big_quiet_step (fail)
        go_big_quiet_step (fail)
        refine wpQuiet_val (by rfl) (.agg (sC t).toArray) (fun W hW => x_load55 rfl rfl rfl ?_) ?_
        · obtain ⟨nn, rfl⟩ := hW
          intro j v hv
          have := unhide R2 j v hv
          simpa using this
        simp only [Act.put, List.setIfInBounds_toArray, List.set_cons_zero, List.set_cons_succ]
        refine wpQuiet_val (by rfl) (.bool (!decide (s = t))) (fun W hW => x_neSc rfl rfl rfl) ?_
        simp only [Act.put, List.setIfInBounds_toArray, List.set_cons_zero, List.set_cons_succ]
        refine wpQuiet_nil ?_
        intro _ hw'
        obtain ⟨nq, hw''⟩ := hw'
        subst hw''
        generalize sC s = cs at *
        generalize sC t = ct at *
        by_cases hd : s = t
        · have hb : (!decide (s = t)) = false := by simpa using hd
          rw [hb]
          have HD := hide hd
          clear hd hb
          go_wp2_with fail
          go_roundw
          case rel => exact ⟨i + 1, by omega, by go_num, by rw [unhide T1, unhide T2, unhide HT, unhide HD], _, rfl⟩
          case measure => simp [intOf]; omega
        · have hb : (!decide (s = t)) = true := by simpa using hd
          rw [hb]
          have HD := hide hd
          clear hd hb
          go_wp2_with fail
          go_ret
          have e : decide (A = B) = false := by
            simp only [decide_eq_false_iff_not]
            exact fun e => unhide HD (unhide HG e)
          rw [e]
          exact ⟨rfl, _, World.drewN_drewN _ _ _⟩
      · have hie : i = n := by omega
        subst hie
        have HT := hide ht
        clear ht
        go_wp2_with fail
        go_ret
        have e : decide (A = B) = true := by
          have h := unhide HT
          have hN := unhide HN
          have hE := unhide HE
          rw [List.take_of_length_le (by omega), List.take_of_length_le (by omega)] at h
          simpa using h
        rw [e]
        exact ⟨rfl, _, rfl⟩
  · have hb : ((A.length : Int) != (B.length : Int)) = true := by simp; omega
    have e : decide (A = B) = false := by
      simp only [decide_eq_false_iff_not]
      rintro rfl; exact he rfl
    rw [e]
    clear he H1 H2
    go_enter Try.func34, Try.ntmps34
    go_wp2_with fail
    go_ret
    exact ⟨rfl, 0, rfl⟩

theorem smB_iff {d e : Dk} : smB d e = true ↔ d.size = e.size ∧ d.off = e.off ∧ d.S = e.S ∧ d.Q = e.Q := by
  unfold smB
  simp [Bool.and_eq_true, and_assoc]
theorem smB_no {d e : Dk} (h : d.size = e.size → d.off = e.off → d.S = e.S → d.Q = e.Q → False) : smB d e = false := by
  rw [Bool.eq_false_iff]
  intro hb
  obtain ⟨h1, h2, h3, h4⟩ := smB_iff.mp hb
  exact h h1 h2 h3 h4

def hl (d : Dk) : List Int := d.S.map fun s => ((s.2.toNat : Nat) : Int)
theorem quL_inj {d e : Dk} (h : quL d = quL e) : d.Q = e.Q := by
  unfold quL at h
  refine List.map_inj_right ?_ |>.mp h
  rintro ⟨a, b⟩ ⟨c, f⟩ he
  simp at he
  exact Prod.ext (by have := he.1; omega) he.2
theorem secs_inj {d e : Dk} (h1 : hl d = hl e) (h2 : d.S.map (·.1) = e.S.map (·.1)) : d.S = e.S := by
  unfold hl at h1
  have h3 : d.S.map (·.2) = e.S.map (·.2) := by
    have := congrArg (List.map (fun x : Int => UInt8.ofNat x.toNat)) h1
    simpa [Function.comp_def] using this
  have hn : d.S.length = e.S.length := by simpa using congrArg List.length h2
  refine List.ext_getElem hn (fun i i1 i2 => ?_)
  have a1 : (d.S.map (·.1))[i]'(by simpa using i1) = (e.S.map (·.1))[i]'(by simpa using i2) := by simp only [h2]
  have a2 : (d.S.map (·.2))[i]'(by simpa using i1) = (e.S.map (·.2))[i]'(by simpa using i2) := by simp only [h3]
  rw [List.getElem_map, List.getElem_map] at a1 a2
  exact Prod.ext a1 a2

theorem RAt.hrd {w : World} {p sg hg : Nat} {qv : Value} {d : Dk} (h : RAt w p sg hg qv d) : RdV w (.slice (some ⟨hg, 0, none⟩) d.S.length d.S.length) ((hl d).map (Value.int .i64)) := by
  have hs := h.ok.len
  have hn : ((hl d).map (Value.int .i64)).length = d.S.length := by simp [hl]
  refine .inr ⟨⟨hg, 0, none⟩, d.S.length, by rw [hn], by omega, by unfold maxLen; omega, fun j hj => ?_⟩
  have := h.hrt j (by omega)
  have ea : (⟨hg, 0, none⟩ : Addr).add j = ⟨hg, j, none⟩ := by
    unfold Addr.add
    split
    · rename_i h0; rw [h0]
    · simp
  rw [ea, this]
  simp [hl]

set_option maxHeartbeats 2000000 in
theorem rsame_any (w : World) (p sg hg : Nat) (qv : Value) (d : Dk) (p2 sg2 hg2 : Nat) (q2 : Value) (e : Dk) (h : RAt w p sg hg qv d) (k : RAt w p2 sg2 hg2 q2 e) : Calls Try.prog 19 #[.pointer (some ⟨p, 0, none⟩), .pointer (some ⟨p2, 0, none⟩)] w fun r w' => r = .returned (.bool (smB d e)) ∧ ∃ n, w' = w.drewN n := by
  have c0 := cell_of_heap h.heap 0
  have c1 := cell_of_heap h.heap 1
  have c2 := cell_of_heap h.heap 2
  have c3 := cell_of_heap h.heap 3
  have c5 := cell_of_heap h.heap 5
  have e0 := cell_of_heap k.heap 0
  have e1 := cell_of_heap k.heap 1
  have e2 := cell_of_heap k.heap 2
  have e3 := cell_of_heap k.heap 3
  have e5 := cell_of_heap k.heap 5
  simp at c0 c1 c2 c3 c5 e0 e1 e2 e3 e5
  have HD := hide h
  have HK := hide k
  have HS := hide (fun j => rsectors_any (w.drewN j) _ _ _ _ (h.srd.kept (Fr.ofDrewN (S := fun _ => False) w j) (fun _ _ h => h)) (k.srd.kept (Fr.ofDrewN (S := fun _ => False) w j) (fun _ _ h => h)))
  have HI := hide (fun j => ints_any (w.drewN j) _ _ _ _ (h.hrd.kept (Fr.ofDrewN (S := fun _ => False) w j) (fun _ _ h => h)) (k.hrd.kept (Fr.ofDrewN (S := fun _ => False) w j) (fun _ _ h => h)))
  obtain ⟨qo, qc, rfl⟩ := owns_shape h.queue
  obtain ⟨ro, rc, rfl⟩ := owns_shape k.queue
  have hln := h.ok.len
  have kln := k.ok.len
  clear h k
  by_cases h1 : d.S.length = e.S.length
  · rw [← h1] at e0 e1 HI
    by_cases h2 : d.size = e.size
    · rw [← h2] at e5
      by_cases h3 : d.off = e.off
      · rw [← h3] at e3
        by_cases h4 : quL d = quL e
        · rw [decide_eq_true h4] at HS
          by_cases h5 : hl d = hl e
          · rw [decide_eq_true h5] at HI
            have HE := hide (And.intro h2 (And.intro h3 (And.intro h4 h5)))
            have H1 := hide h1
            obtain ⟨n, hn⟩ : ∃ n, n = d.S.length := ⟨_, rfl⟩
            rw [← hn] at c0 c1 e0 e1 HI hln
            have HN := hide hn
            clear h1 h2 h3 h4 h5 hn kln
            go_enter Try.func19, Try.ntmps19
            go_wp2_with fail
            go_quiet ((first | (go_at_call 34; exact Calls.quiet_of (unhide HS _)) | (go_at_call 30; exact Calls.quiet_of (unhide HI _))))
            go_wp2_with fail
            clear HS HI
            go_loopw [5] (fun x w' => ∃ i : Nat, i ≤ n ∧ x = .int .i64 (i : Int) ∧ (d.S.map (·.1)).take i = (e.S.map (·.1)).take i ∧ ∃ k, w' = w.drewN k) (fun x _ => n - (intOf x).toNat)
            case atStart => exact ⟨0, by omega, rfl, by simp, _, rfl⟩
            case round =>
              obtain ⟨i, hi, rfl, ht, kk, rfl⟩ := hrel
              by_cases hlt : i < n
              · have i1 : i < d.S.length := by have := unhide HN; omega
                have i2 : i < e.S.length := by have := unhide HN; have := unhide H1; omega
                have s1 := (unhide HD).stc i i1
                have s2 := (unhide HK).stc i i2
                have HT := hide ht
                have T1 := hide (List.take_succ_eq_append_getElem (l := d.S.map (·.1)) (by simpa using i1))
                have T2 := hide (List.take_succ_eq_append_getElem (l := e.S.map (·.1)) (by simpa using i2))
                rw [List.getElem_map] at T1 T2
                have HG := hide (show d.S = e.S → (d.S[i]).1 = (e.S[i]).1 by intro h; simp [h])
                generalize (d.S[i]).1 = s at *
                generalize (e.S[i]).1 = t at *
                clear ht
                by_cases hd : s = t
                · subst hd
                  have hb : ((str s).toList == (str s).toList) = true := by simp
                  go_wp2_with fail
                  go_quiet (fail)
                  go_wp2_with fail
                  go_roundw
                  case rel => exact ⟨i + 1, by omega, by go_num, by rw [unhide T1, unhide T2, unhide HT], _, rfl⟩
                  case measure => simp [intOf]; omega
                · have hb : ((str s).toList == (str t).toList) = false := by
                    rw [beq_eq_false_iff_ne]
                    intro e
                    rw [ByteArray.toList_eq, ByteArray.toList_eq] at e
                    exact hd (by simpa [str] using e)
                  have HD := hide hd
                  clear hd
                  go_wp2_with fail
                  go_quiet (fail)
                  go_wp2_with fail
                  go_ret
                  rw [smB_no (fun _ _ h _ => unhide HD (unhide HG h))]
                  exact ⟨rfl, _, World.drewN_drewN _ _ _⟩
              · have hie : i = n := by omega
                subst hie
                have HT := hide ht
                clear ht
                go_wp2_with fail
                go_ret
                have e : smB d e = true := by
                  have h := unhide HT
                  have hN := unhide HN
                  have hE := unhide H1
                  obtain ⟨a1, a2, a3, a4⟩ := unhide HE
                  rw [List.take_of_length_le (by rw [List.length_map]; omega), List.take_of_length_le (by rw [List.length_map]; omega)] at h
                  exact smB_iff.mpr ⟨a1, a2, secs_inj a4 h, quL_inj a3⟩
                rw [e]
                exact ⟨rfl, _, rfl⟩
          · rw [decide_eq_false h5] at HI
            rw [smB_no (fun _ _ h _ => h5 (by unfold hl; rw [h]))]
            clear h1 h2 h3 h4 h5 HD HK
            go_enter Try.func19, Try.ntmps19
            go_wp2_with fail
            go_quiet ((first | (go_at_call 34; exact Calls.quiet_of (unhide HS _)) | (go_at_call 30; exact Calls.quiet_of (unhide HI _))))
            go_wp2_with fail
            go_ret
            exact ⟨rfl, _, rfl⟩
        · rw [decide_eq_false h4] at HS
          rw [smB_no (fun _ _ _ h => h4 (by unfold quL; rw [h]))]
          clear h1 h2 h3 h4 HD HK HI
          go_enter Try.func19, Try.ntmps19
          go_wp2_with fail
          go_quiet ((go_at_call 34; exact Calls.quiet_of (unhide HS _)))
          go_wp2_with fail
          go_ret
          exact ⟨rfl, _, rfl⟩
      · have hb : (d.off == e.off) = false := by simpa using h3
        rw [smB_no (fun _ h _ _ => h3 h)]
        generalize d.off = o1 at *
        generalize e.off = o2 at *
        clear h1 h2 h3 HD HK HI HS
        go_enter Try.func19, Try.ntmps19
        go_wp2_with fail
        go_quiet (fail)
        go_wp2_with fail
        go_ret
        exact ⟨rfl, _, rfl⟩
    · have hb : ((d.size : Int) != (e.size : Int)) = true := by simp; omega
      rw [smB_no (fun h _ _ _ => h2 h)]
      clear h1 h2 HD HK HI HS
      go_enter Try.func19, Try.ntmps19
      go_wp2_with fail
      go_quiet (fail)
      go_wp2_with fail
      go_ret
      exact ⟨rfl, _, rfl⟩
  · have hb : ((d.S.length : Int) != (e.S.length : Int)) = true := by simp; omega
    rw [smB_no (fun _ _ h _ => h1 (by rw [h]))]
    clear h1 HD HK HI HS
    go_enter Try.func19, Try.ntmps19
    go_wp2_with fail
    go_quiet (fail)
    go_wp2_with fail
    go_ret
    exact ⟨rfl, _, rfl⟩
end Go.Proofs.Ytdhendcogjhgfaa
