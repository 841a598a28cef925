/-
  The walk of 'granarylaw04.DiskTurns'.
-/
import Derived.Test.YtdhendcogjhgfaaL7
namespace Go.Proofs.Ytdhendcogjhgfaa
open Go.RowKit
set_option linter.unusedVariables false

attribute [local go_sem ↓] Go.wp_at_zero Go.wp_at_succ

theorem str_ne {a b : List UInt8} (h : a ≠ b) : ((str a).toList == (str b).toList) = false := by
  rw [beq_eq_false_iff_ne]
  intro e
  rw [ByteArray.toList_eq, ByteArray.toList_eq] at e
  exact h (by simpa [str] using e)

/-- A third disk that lies apart. -/
structure Wa (w : World) (p gs : Nat) (q : Value) (p2 sg hg : Nat) (q2 : Value) (pc gc : Nat) (qc : Value) (dc : Dk) : Prop where
  k : KAt w pc gc qc dc
  ap : ∀ b, KB p gs q b ∨ RB p2 sg hg q2 b → ¬ KB pc gc qc b

theorem KAt.ltB {w : World} {p gs : Nat} {q : Value} {d : Dk} (h : KAt w p gs q d) {b : Nat} (hb : KB p gs q b) : b < w.heap.size := by
  obtain ⟨l1, l2, l3⟩ := h.lt
  rcases hb with rfl | rfl | hb
  · exact l1
  · exact l2
  · exact l3 b hb

theorem Wa.mv {w w' : World} {p gs : Nat} {q : Value} {p2 sg hg : Nat} {q2 : Value} {pc gc : Nat} {qc : Value} {dc : Dk} {q' q2' : Value} (h : Wa w p gs q p2 sg hg q2 pc gc qc dc) (m : Mq w w' p gs q p2 sg hg q2 q' q2') : Wa w' p gs q' p2 sg hg q2' pc gc qc dc := by
  refine ⟨h.k.kept m.f (fun t => h.ap _ t (.inl rfl)) (fun t => h.ap _ t (.inr (.inl rfl))) (fun b hb t => h.ap _ t (.inr (.inr hb))), fun b hb hc => ?_⟩
  have hlt := h.k.ltB hc
  rcases hb with hb | hb
  · rcases m.k b hb with h1 | h1
    · exact h.ap b (.inl h1) hc
    · omega
  · rcases m.r b hb with h1 | h1
    · exact h.ap b (.inr h1) hc
    · omega
theorem Wa.fr {w w' : World} {p gs : Nat} {q : Value} {p2 sg hg : Nat} {q2 : Value} {pc gc : Nat} {qc : Value} {dc : Dk} (h : Wa w p gs q p2 sg hg q2 pc gc qc dc) (f : Fr (fun _ => False) w w') : Wa w' p gs q p2 sg hg q2 pc gc qc dc :=
  ⟨h.k.kept f id id (fun _ _ h => h), h.ap⟩

theorem Pq.copy {w0 w w' : World} {p gs : Nat} {q : Value} {p2 sg hg : Nat} {q2 : Value} {d e : Dk} {pc gc : Nat} {qc : Value} {dc : Dk} (h : Pq w0 w p gs q p2 sg hg q2 d e) (k : KAt w' pc gc qc dc) (h1 : w.heap.size ≤ pc) (h2 : w.heap.size ≤ gc) (h3 : ∀ b, qc.ownBlock = some b → w.heap.size ≤ b) : Wa w' p gs q p2 sg hg q2 pc gc qc dc := by
  refine ⟨k, fun b hb hc => ?_⟩
  have := h.lt hb
  rcases hc with rfl | rfl | hc
  · omega
  · omega
  · have := h3 b hc; omega

theorem queue_srd {w : World} {g : Nat} {d : Dk} (ok : d.Ok) (h : SAt w g (quL d)) : SRd w (.slice (some ⟨g, 0, none⟩) d.Q.length d.Q.length) (quL d) := by
  have hl : (quL d).length = d.Q.length := by simp [quL]
  have hr := ok.room
  have := h.srd (by omega)
  rw [hl] at this
  exact this

set_option maxHeartbeats 4000000 in
theorem diskTurns_any (w : World) (s a b : Int) (m : Nat) (hm : m < 4294967296) (v : Value) (l : List Sp) (h : RdS w v l) : Calls Try.prog 7 #[.agg #[.int .i64 s, v, .int .i64 a, .int .i64 b, .int .u32 (m : Int)]] w fun e w' => e = .returned (.bool true) ∧ Fr (fun _ => False) w w' := by
  have H := hide h
  obtain ⟨ao, ac, rfl⟩ := h.shape
  clear h
  go_enter Try.func7, Try.ntmps7
  go_wp2_with fail
  go_quiet (fail)
  rename_i nq
  have hfr : Fr (fun _ => False) w ((w.alloc (Obj.cells #[.int .i64 s, .slice ao l.length ac, .int .i64 a, .int .i64 b, .int .u32 (m : Int)] 67)).drewN nq) := ((Fr.refl _ w).alloc _).drewN nq
  generalize ((w.alloc (Obj.cells #[.int .i64 s, .slice ao l.length ac, .int .i64 a, .int .i64 b, .int .u32 (m : Int)] 67)).drewN nq) = w0 at *
  have H0 := hide ((unhide H).kept hfr)
  have HF := hide hfr
  clear hfr H
  go_wp2_with fail
  have HL := hide (long_any w0 _ l (unhide H0))
  rcases hb : loB l with _ | _
  · rw [hb] at HL
    refine (unhide HL).mono ?_
    rintro e w' ⟨rfl, n1, rfl⟩
    clear HL
    by_cases h40 : 40 < s
    · have b1 : decide (40 < s) = true := by simpa using h40
      go_wp2_with fail
      refine (live_any _).mono ?_
      rintro e w' ⟨rfl, f⟩
      have HG := hide f
      clear f
      go_wp2_with fail
      go_ret
      exact ⟨rfl, (unhide HF).trans ((Fr.ofDrewN _ _).trans (unhide HG) (fun _ _ h => h)) (fun _ _ h => h)⟩
    · have b1 : decide (40 < s) = false := by simpa using h40
      by_cases h0 : s < 1
      · go_wp2_with fail
        refine (played_no _ s (by omega) ao _ _).mono ?_
        rintro e w' ⟨rfl, rfl⟩
        go_wp2_with fail
        refine (live_any _).mono ?_
        rintro e w' ⟨rfl, f⟩
        have HG := hide f
        clear f
        go_wp2_with fail
        go_ret
        exact ⟨rfl, (unhide HF).trans ((Fr.ofDrewN _ _).trans (unhide HG) (fun _ _ h => h)) (fun _ _ h => h)⟩
      · obtain ⟨z, rfl⟩ : ∃ z : Nat, s = (z : Int) := ⟨s.toNat, by omega⟩
        have hz : 1 ≤ z ∧ z ≤ 65536 := by omega
        go_wp2_with fail
        refine (played_ok _ z hz _ l ((unhide H0).kept (Fr.ofDrewN w0 n1)) hb).mono ?_
        rintro e w1 ⟨p, gs, q, p2, sg, hg, q2, rfl, hP, -⟩
        have hSL : (plI (newD z 16) l l.length).S.length = z := by rw [(plI_shape _ _ _).1]; simp [newD]
        generalize plI (newD z 16) l l.length = d at *
        have F1 := hide ((unhide HF).trans ((Fr.ofDrewN w0 n1).trans hP.f (fun _ _ h => h)) (fun _ _ h => h))
        have HP : Hid (Pq w w1 p gs q p2 sg hg q2 d d) := hide ⟨hP.k, hP.r, unhide F1, fun b hb => Nat.le_trans (((unhide HF).trans (Fr.ofDrewN w0 n1) (fun _ _ h => h)).size) (hP.hk b hb), fun b hb => Nat.le_trans (((unhide HF).trans (Fr.ofDrewN w0 n1) (fun _ _ h => h)).size) (hP.hr b hb)⟩
        clear hP hb h0 h40 HF H0 F1
        go_wp2_with fail
        refine (copy_any _ _ _ _ _ (unhide HP).k).mono ?_
        rintro e w2 ⟨⟨pc, gc, qc, dc, rfl, hco, hKc, g1, g2, g3⟩, f2⟩
        have HW := hide ((unhide HP).copy hKc g1 g2 g3)
        have HOK := hide (unhide HP).k.ok
        have HP2 := hide ((unhide HP).fr f2)
        have hcf := core_facts hco
        have HC := hide hcf
        clear hKc g1 g2 g3 f2 HP hco hcf
        go_wp2_with fail
        refine (tup_any a b m hm (unhide HP2)).mono ?_
        rintro e w3 ⟨rfl, q', hP3, m3⟩
        have HW3 := hide ((unhide HW).mv m3)
        have HP3 := hide hP3
        clear hP3 m3 HW HP2
        go_wp2_with (go_at_call 14; refine (num_any _ _).mono ?_; rintro e w' ⟨rfl, rfl⟩)
        refine (tur_any a b m hm (unhide HP3)).mono ?_
        rintro e w4 ⟨rfl, q2', hP4, m4⟩
        have HW4 := hide ((unhide HW3).mv m4)
        have HP4 := hide hP4
        clear hP4 m4 HW3 HP3
        have hEE : (tuE d a b m != tuE d a b m) = false := by simp
        by_cases hE : tuE d a b m = 0
        · obtain ⟨t1, t2, t3, t4, t5, t6, t7⟩ := tuD_facts (unhide HOK) hm hE
          have bE : (tuE d a b m != 0) = false := by simp [hE]
          have C5 := fun (W : World) (Q : Value) (h : Pq w W p gs Q p2 sg hg q2' (tuD d a b m) (tuD d a b m)) => tup_any a b m hm h
          have C6 := fun (W : World) (Q : Value) (h : Pq w W p gs Q p2 sg hg q2' (tuD d a b m) (tuD d a b m)) => lop_any a h
          rw [t1, t3] at C5
          rw [t2, t4] at C6
          have HT := hide t7
          have HQ := hide t5
          generalize tuD d a b m = d1 at *
          generalize tuE d a b m = E at *
          have H5 := hide C5
          have H6 := hide C6
          clear hE t1 t2 t3 t4 t5 t6 t7 C5 C6
          go_wp2_with (go_at_call 14; refine (num_any _ _).mono ?_; rintro e w' ⟨rfl, rfl⟩)
          refine (unhide H5 _ _ (unhide HP4)).mono ?_
          rintro e w5 ⟨rfl, q5, hP5, m5⟩
          have HW5 := hide ((unhide HW4).mv m5)
          have HP5 := hide hP5
          clear hP5 m5 HW4 HP4
          go_wp2_with (go_at_call 14; refine (num_any _ _).mono ?_; rintro e w' ⟨rfl, rfl⟩)
          refine (unhide H6 _ _ (unhide HP5)).mono ?_
          rintro e w6 ⟨rfl, q6, hP6, m6⟩
          have HW6 := hide ((unhide HW5).mv m6)
          have HP6 := hide hP6
          clear hP6 m6 HW5 HP5 H5 H6
          go_wp2_with (go_at_call 14; refine (num_any _ _).mono ?_; rintro e w' ⟨rfl, rfl⟩)
          go_loopw [12] (fun y W => ∃ i : Nat, i ≤ z ∧ y = .int .i64 (i : Int) ∧ Fr (fun _ => False) w6 W) (fun y _ => z - (intOf y).toNat)
          case atStart => exact ⟨0, by omega, rfl, Fr.refl _ _⟩
          case round =>
            obtain ⟨i, hi, rfl, hfr⟩ := hrel
            by_cases hlt : i < z
            · have bl : decide ((i : Int) < (z : Int)) = true := by simp; omega
              have HR := hide hfr
              clear hfr
              go_wp2_with fail
              refine (stable_any _ _ _ _ _ (i : Int) ((unhide HW6).fr (unhide HR)).k).mono ?_
              rintro e w7 ⟨⟨ao7, c7, rfl, hr7, -⟩, f7⟩
              have HR7 := hide hr7
              have H7 := hide ((unhide HR).trans f7 (fun _ _ h => h))
              clear hr7 f7
              go_wp2_with fail
              refine (stable_any _ _ _ _ _ (i : Int) ((unhide HP6).fr (unhide H7)).k).mono ?_
              rintro e w8 ⟨⟨ao8, c8, rfl, hr8, -⟩, f8⟩
              have k7 := conv_rd (P := Try.prog) ((unhide HR7).kept f8 (fun _ _ h => h)) 36 9 5 Try.underlying36 Try.underlying5 Try.underlying9
              have k8 := conv_rd (P := Try.prog) hr8 36 9 5 Try.underlying36 Try.underlying5 Try.underlying9
              have H8 := hide ((unhide H7).trans f8 (fun _ _ h => h))
              have hst := unhide HT i (by omega)
              have hcd : stD dc (i : Int) = stD d (i : Int) := by
                unfold stD hasB
                rw [(unhide HC).2.1]
              rw [hcd] at k7 ⊢
              clear hr8 f8 HR7 H7 HR hcd
              by_cases hia : (i : Int) = a
              · have bi : ((i : Int) == a) = true := by simpa using hia
                have bs := str_ne (fun e => (hst.1 hia) e.symm)
                generalize stD d (i : Int) = A at *
                generalize stD d1 (i : Int) = B at *
                clear hst hia
                go_wp2_with fail
                go_roundw
                case rel => exact ⟨i + 1, by omega, by go_num, unhide H8⟩
                case measure => simp [intOf]; omega
              · have bi : ((i : Int) == a) = false := by simpa using hia
                have he := hst.2 hia
                rw [he] at k8 ⊢
                generalize stD d (i : Int) = A at *
                have bs : ((str A).toList == (str A).toList) = true := by simp
                clear hst hia he
                go_wp2_with fail
                go_roundw
                case rel => exact ⟨i + 1, by omega, by go_num, unhide H8⟩
                case measure => simp [intOf]; omega
            · have bl : decide ((i : Int) < (z : Int)) = false := by simp; omega
              have HR := hide hfr
              clear hfr
              go_wp2_with fail
              refine (queue_any _ _ _ _ _ ((unhide HP6).fr (unhide HR)).k).mono ?_
              rintro e w7 ⟨rfl, hs7, f7⟩
              have H7 := hide ((unhide HR).trans f7 (fun _ _ h => h))
              have hq7 := queue_srd (unhide HP6).k.ok hs7
              have HQ7 := hide hq7
              clear hs7 f7 hq7 HR
              go_wp2_with fail
              refine (queue_any _ _ _ _ _ ((unhide HW6).fr (unhide H7)).k).mono ?_
              rintro e w8 ⟨rfl, hs8, f8⟩
              have hrs := rsectors_any _ _ _ _ _ ((unhide HQ7).kept f8 (fun _ _ h => h)) (queue_srd (unhide HW6).k.ok hs8)
              have heq : quL d1 = quL dc := by unfold quL; rw [unhide HQ, (unhide HC).2.2.1]
              rw [decide_eq_true heq] at hrs
              have HRS := hide hrs
              have H8 := hide ((unhide HP6).f.trans ((unhide H7).trans f8 (fun _ _ h => h)) (fun _ _ h => h))
              clear hrs hs8 f8 HQ7 H7 heq
              go_wp2_with fail
              refine (unhide HRS).mono ?_
              rintro e w' ⟨rfl, n9, rfl⟩
              clear HRS
              go_wp2_with fail
              refine (live_any _).mono ?_
              rintro e w' ⟨rfl, f⟩
              have HG := hide f
              clear f
              go_wp2_with fail
              go_ret
              exact ⟨rfl, (unhide H8).trans ((Fr.ofDrewN _ _).trans (unhide HG) (fun _ _ h => h)) (fun _ _ h => h)⟩
        · have e1 : tuD d a b m = d := by unfold tuD; rw [if_neg hE]
          rw [e1] at HP4
          have bE : (tuE d a b m != 0) = true := by simpa using hE
          generalize tuE d a b m = E at *
          clear hE
          go_wp2_with (go_at_call 14; refine (num_any _ _).mono ?_; rintro e w' ⟨rfl, rfl⟩)
          have hs := same_any _ _ _ _ _ _ _ _ _ (unhide HP4).k (unhide HW4).k
          rw [smB_iff.mpr ⟨(unhide HC).1.symm, (unhide HC).2.2.2.1.symm, (unhide HC).2.1.symm, (unhide HC).2.2.1.symm⟩] at hs
          refine hs.mono ?_
          clear hs
          rintro e w' ⟨rfl, n5, rfl⟩
          go_wp2_with fail
          refine (live_any _).mono ?_
          rintro e w' ⟨rfl, f⟩
          have HG := hide f
          clear f
          go_wp2_with fail
          go_ret
          exact ⟨rfl, (unhide HP4).f.trans ((Fr.ofDrewN _ _).trans (unhide HG) (fun _ _ h => h)) (fun _ _ h => h)⟩
  · rw [hb] at HL
    refine (unhide HL).mono ?_
    rintro e w' ⟨rfl, n1, rfl⟩
    go_wp2_with fail
    refine (live_any _).mono ?_
    rintro e w' ⟨rfl, f⟩
    have HG := hide f
    clear f
    go_wp2_with fail
    go_ret
    exact ⟨rfl, (unhide HF).trans ((Fr.ofDrewN _ _).trans (unhide HG) (fun _ _ h => h)) (fun _ _ h => h)⟩
end Go.Proofs.Ytdhendcogjhgfaa
