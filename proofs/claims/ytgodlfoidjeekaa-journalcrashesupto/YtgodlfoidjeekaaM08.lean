/-
  readTx.
  findSuper.
  readAll.
  begin.
  Open.
  Rounds of a range over a function: what is walked plainly is walked in a round.
  slices.Chunk.
  writeEntries: its regions that draw.
  writeEntries.
-/
import Derived.Test.YtgodlfoidjeekaaM07
import Derived.OwnWalk
import Derived.Test.YtgodlfoidjeekaaM01
import Derived.RangeFuncFrom
import Derived.RangeFuncLeaves
import Derived.RangeFuncCalls
import Derived.OrdersIn
import Derived.OwnWalkIn
import Derived.TacticsInMore
import Derived.LoopNIn
import Derived.LoopIn
namespace Go.Proofs.Ytgodlfoidjeekaa
set_option linter.unusedVariables false
set_option linter.unusedSimpArgs false
open Go.RowKit
set_option linter.unusedVariables false
set_option linter.unusedSimpArgs false

attribute [local go_sem ↓] Go.wp_at_zero Go.wp_at_succ

/-- The entry with which the next transaction may begin. -/
def rtH (J : Jn) (D : Dv) : En := enR (rdB D (J.blk J.nd))
/-- Its first k + 1 parts. -/
def rtP (J : Jn) (D : Dv) (H : En) : Nat → Option (List UInt8)
  | 0 => some H.L
  | k + 1 => match rtP J D H k with
    | none => none
    | some p => if goB H (enR (rdB D (J.blk (J.nd + (k + 1))))) (k + 1) = true then some (p ++ (enR (rdB D (J.blk (J.nd + (k + 1))))).L) else none
/-- The next transaction's bytes. -/
def rtX (J : Jn) (D : Dv) : Option (List UInt8) := if flwB J (rtH J D) = true then (match rtP J D (rtH J D) ((rtH J D).ps - 1) with
    | some p => if gtB p = true then some p else none
    | none => none) else none
/-- The journal behind it. -/
def rtJ (J : Jn) (D : Dv) : Jn := J.more ⟨J.nd + (rtH J D).ps, (rtH J D).b, (rtH J D).s⟩
theorem rtP_len (J : Jn) (D : Dv) (H : En) (hH : H.L.length ≤ 336) : ∀ k p, rtP J D H k = some p → p.length ≤ 336 * (k + 1) := by
  intro k
  induction k with
  | zero => intro p h; simp only [rtP, Option.some.injEq] at h; subst h; omega
  | succ k ih =>
    intro p h
    unfold rtP at h
    split at h
    · simp at h
    · rename_i q hq
      split at h
      · simp only [Option.some.injEq] at h
        subst h
        have h1 := ih q hq
        have h2 := (enR_ok (rdB D (J.blk (J.nd + (k + 1))))).2.2.2.2.2.2
        rw [List.length_append]
        omega
      · simp at h
theorem rtP_none (J : Jn) (D : Dv) (H : En) (k : Nat) (h : rtP J D H k = none) : ∀ i, rtP J D H (k + i) = none := by
  intro i
  induction i with
  | zero => exact h
  | succ i ih =>
    show (match rtP J D H (k + i) with | none => none | some p => _) = none
    rw [ih]
theorem flwB_ok {J : Jn} {D : Dv} {n : Nat} (h : J.Ok n) (hf : flwB J (rtH J D) = true) : (rtJ J D).Ok n ∧ 1 ≤ (rtH J D).ps := by
  have hok := enR_ok (rdB D (J.blk J.nd))
  unfold flwB flw3 at hf
  simp only [Bool.and_eq_true, decide_eq_true_eq] at hf
  obtain ⟨⟨⟨⟨⟨h1, h2⟩, -⟩, h4⟩, h5⟩, h6⟩ := hf
  have hps : 1 ≤ (rtH J D).ps := by
    unfold rtH enR at h2 ⊢
    cases e : enG (rdB D (J.blk J.nd)) with
    | none => rw [e] at h2; simp [en0] at h2
    | some E => exact (enG_ok _ _ e).2.2.2.2
  have hn := h.nd
  have hfl := h.full
  unfold Jn.room at h6
  refine ⟨h.more _ (by show J.nd < J.nd + _; omega) (by show J.nd + _ ≤ _; omega) hok.1 hok.2.1, hps⟩
theorem PAt.mono {N M : Nat} {w : World} {G n j : Nat} {l : List UInt8} (h : PAt M w G n j l) (hN : N ≤ M) : PAt N w G n j l := by
  obtain ⟨cs, h1, h2, h3⟩ := h
  refine ⟨cs, h1, h2, fun i hi => ?_⟩
  obtain ⟨h4, x, h5, h6⟩ := h3 i hi
  exact ⟨h4, x, h5, h6.mono hN⟩
theorem PAt.keptK {N : Nat} {w w' : World} {G n j : Nat} {l : List UInt8} {S : Nat → Prop} (h : PAt N w G n j l) (f : Fr S w w') (hs : ∀ k, S k → knd w k ≠ 94 ∧ knd w k ≠ 5) : PAt N w' G n j l := by
  obtain ⟨cs, h1, h2, h3⟩ := h
  refine ⟨cs, (f.block G (lt_of_heap h1) (fun e => (hs G e).1 (knd_cells h1))).trans h1, h2, fun i hi => ?_⟩
  obtain ⟨h4, x, h5, h6⟩ := h3 i hi
  refine ⟨h4, x, h5, ?_⟩
  obtain ⟨h7, h8 | ⟨g, cap, cur, h9, h10, h11, h12⟩⟩ := h6
  · exact ⟨h7, .inl h8⟩
  · exact ⟨h7, .inr ⟨g, cap, cur, h9, h10, (f.block g (lt_of_heap h11) (fun e => (hs g e).2 (knd_cells h11))).trans h11, h12⟩⟩

theorem Ob.nb {w W : World} {v : Value} {l : List UInt8} (h : Ob w.heap.size W v l) (f : Fr (fun _ => False) w W) : Nb w W v l := by
  obtain ⟨h1, h2 | ⟨g, cap, cur, h3, h4, h5, h6⟩⟩ := h
  · exact ⟨⟨h1, .inl h2⟩, f, fun k e => by rw [h2.1] at e; simp [Value.ownBlock] at e⟩
  · exact ⟨⟨h1, .inr ⟨g, cap, cur, h3, Nat.zero_le _, h5, h6⟩⟩, f, fun k e => by rw [h3] at e; simp [Value.ownBlock] at e; omega⟩
/-- What readTx leaves. -/
def RtP (X : Nat → Prop) (w0 w : World) (j s : Nat) (J : Jn) (D : Dv) (e : Ending) (w' : World) : Prop :=
  (rtX J D = none ∧ e = .returned (.tuple #[.slice none 0 0, .int .i64 0]) ∧ Fr (fun _ => False) w w') ∨
  (∃ p G, rtX J D = some p ∧ e = .returned (.tuple #[.slice (some ⟨G, 0, none⟩) (gtN p) (gtN p), .int .i64 0]) ∧ w.heap.size ≤ G ∧ PAt w.heap.size w' G (gtN p) (gtN p) p ∧ JS X w0 w' j s (rtJ J D) D ∧ Fr (Zs X w0 w) w w')

set_option maxRecDepth 100000 in
set_option maxHeartbeats 4000000 in
theorem readTx_any {X : Nat → Prop} {w0 : World} (w : World) (j s : Nat) (J : Jn) (D : Dv) (H : JS X w0 w j s J D) : Calls Try.prog 90 #[.pointer (some ⟨j, 0, none⟩)] w fun e w' => RtP X w0 w j s J D e w' := by
  have HS := hide H
  have ok := H.ok
  have HO := hide ok
  have hnd := ok.nd
  obtain ⟨mv, sv, qv, hJ, -, -⟩ := H.ex
  have HE1 := hide (end_any w j s mv J hJ ok.nd.2.1)
  clear H hJ ok
  go_enter Try.func90, Try.ntmps90
  go_wp2_with fail
  refine (unhide HE1).mono ?_
  rintro e w1 ⟨rfl, f1⟩
  have F1 := hide f1
  clear f1 HE1
  go_wp2_with fail
  refine (readEntry_any w1 j s J D J.nd (by omega) ((unhide HS).kept0 (unhide F1))).mono ?_
  rintro e w2 ⟨u, rfl, ho, f2⟩
  have hEo := enR_ok (rdB D (J.blk J.nd))
  obtain ⟨E, hE⟩ : ∃ E, E = rtH J D := ⟨_, rfl⟩
  have hE' : enR (rdB D (J.blk J.nd)) = E := hE.symm
  rw [hE'] at ho hEo ⊢
  obtain ⟨ao0, kk, rfl⟩ := ho.shape
  have HOB := hide (ho.mono (unhide F1).size)
  have F2 := hide ((unhide F1).trans f2 (fun _ _ e => e))
  have hsz2 := (unhide F2).size
  have HE := hide hE
  clear ho f2 F1 hE hE'
  unfold En.c
  go_upto_region 2 with fail
  have hA := heap_alloc_new w2 (.cells (E.c (.slice ao0 E.L.length kk)) 25)
  have fA : Fr (fun _ => False) w2 (w2.alloc (.cells (E.c (.slice ao0 E.L.length kk)) 25)) := (Fr.refl _ _).alloc _
  have HOB := hide ((unhide HOB).kept fA)
  have F2 := hide ((unhide F2).trans fA (fun _ _ e => e))
  unfold En.c at hA HOB F2
  refine wp_world ?_
  intro w3 hw3
  rw [← hw3] at hA HOB F2
  obtain ⟨q, hq⟩ : ∃ q, q = w2.heap.size := ⟨_, rfl⟩
  rw [← hq] at hA ⊢
  have HA := hide hA
  have HQN := hide (show w.heap.size ≤ q by rw [hq]; exact hsz2)
  clear hw3 hq hA fA hsz2
  have hJ3 := (unhide HS).kept0 (unhide F2)
  obtain ⟨mv3, sv3, qv3, hJ3, -, -⟩ := hJ3.ex
  have HF := hide (follows_any w3 j s _ mv3 J E ao0 E.L.length kk hJ3 (unhide HO))
  unfold En.c at HF
  clear hJ3
  by_cases hfl : flwB J E = true
  case neg =>
    have hX : rtX J D = none := by unfold rtX; rw [← unhide HE, if_neg hfl]
    have hfl' : flwB J E = false := by simpa using hfl
    rw [hfl'] at HF
    have HX := hide hX
    clear hX hfl hfl'
    go_wp2_with (refine wl_loadR 25 7 _ Try.underlying25 (by kernel_rfl) (.tmp 4) rfl rfl q rfl _ 25 (unhide HA) rfl ?_)
    refine (unhide HF).mono ?_
    rintro e w4 ⟨rfl, f4⟩
    have F4 := hide ((unhide F2).trans f4 (fun _ _ e => e))
    clear f4 HF HA HOB F2
    go_wp2_with fail
    go_ret2
    exact .inl ⟨unhide HX, rfl, unhide F4⟩
  case pos =>
    rw [hfl] at HF
    have hps := (flwB_ok (unhide HO) (by rw [← unhide HE]; exact hfl)).2
    rw [← unhide HE] at hps
    have HX : Hid (rtX J D = match rtP J D E (E.ps - 1) with | some p => if gtB p = true then some p else none | none => none) := hide (by unfold rtX; rw [← unhide HE, if_pos hfl])
    clear hfl
    go_upto_region 4 with (first | (refine wl_loadR 25 7 _ Try.underlying25 (by kernel_rfl) (.tmp 4) rfl rfl q rfl _ 25 (unhide HA) rfl ?_) | (go_at_call 95; refine (unhide HF).mono ?_; rintro e w4 ⟨rfl, f4⟩; have HA4 := hide ((f4.block _ (lt_of_heap (unhide HA)) id).trans (unhide HA)); have HOB4 := hide ((unhide HOB).kept f4); have F4 := hide ((unhide F2).trans f4 (fun _ _ e => e)); clear f4 HF HA HOB F2))
    have c5 := cell_of_heap (unhide HA4) 5
    have c6 := cell_of_heap (unhide HA4) 6
    simp at c5 c6
    have NB0 := hide ((unhide HOB4).nb (unhide F4))
    clear HOB4
    go_wp2_with fail
    go_loopw [6, 7] (fun py ky W => ∃ (k : Nat) (p : List UInt8) (ao : Option Addr) (c : Nat), k + 1 ≤ E.ps ∧ ky = .int .i64 ((k + 1 : Nat) : Int) ∧ py = .slice ao p.length c ∧ rtP J D E k = some p ∧ Nb w W (.slice ao p.length c) p ∧ W.heap[q]? = some (.cells (E.c (.slice ao0 E.L.length kk)) 25 (0, 0))) (fun _ ky _ => E.ps - (intOf ky).toNat)
    case atStart => exact ⟨0, E.L, _, _, hps, rfl, rfl, rfl, unhide NB0, unhide HA4⟩
    case round =>
      clear c5 c6 NB0 HA4 F4
      obtain ⟨k, p, ao, c, hk, rfl, rfl, hP, hNB, hA5⟩ := hrel
      have c5 := cell_of_heap hA5 5
      simp [En.c] at c5
      have hEok := enR_ok (rdB D (J.blk J.nd))
      have hpl := rtP_len J D E (by rw [unhide HE]; exact hEok.2.2.2.2.2.2) k p hP
      have hps100 : E.ps ≤ 100 := by rw [unhide HE]; exact hEok.2.2.2.2.2.1
      have HNB := hide hNB
      have HA5 := hide hA5
      have HP := hide hP
      have HPL := hide hpl
      clear hEok hNB hA5 hP hpl
      by_cases hlt : k + 1 < E.ps
      · have HSr := hide ((unhide HS).kept0 (unhide HNB).fr)
        obtain ⟨mv5, sv5, qv5, hJ5, -, -⟩ := (unhide HSr).ex
        have HE5 := hide (end_any wr j s mv5 J hJ5 (unhide HO).nd.2.1)
        clear hJ5
        go_wp2_with fail
        refine (unhide HE5).mono ?_
        rintro e w5 ⟨rfl, f5⟩
        have F5 := hide f5
        have k1 : ∀ W : World, (convert 3 22 (.int .i64 ((k + 1 : Nat) : Int))).run Try.prog W = .ok (.int .u64 ((k + 1 : Nat) : Int)) W := fun W => cvI W _ (by omega)
        have k2 : IntKind.u64.wrap ((J.nd : Int) + ((k + 1 : Nat) : Int)) = ((J.nd + (k + 1) : Nat) : Int) := by
          have := wrapU (J.nd + (k + 1)) (by omega)
          exact_mod_cast this
        have HP6 : Hid (J.nd + (k + 1) < 18446744073709551616) := hide (by omega)
        clear f5 HE5
        have HPN0 : Hid (rtP J D E (k + 1) = if goB E (enR (rdB D (J.blk (J.nd + (k + 1))))) (k + 1) = true then some (p ++ (enR (rdB D (J.blk (J.nd + (k + 1))))).L) else none) := hide (by
          show (match rtP J D E k with | none => none | some p => _) = _
          rw [unhide HP])
        generalize hk1 : k + 1 = k1' at *
        generalize hpp : J.nd + k1' = pp at *
        go_wp2_with fail
        refine (readEntry_any w5 j s J D pp (unhide HP6) ((unhide HSr).kept0 (unhide F5))).mono ?_
        rintro e w6 ⟨u6, rfl, ho6, f6⟩
        obtain ⟨F, hF⟩ : ∃ F, F = enR (rdB D (J.blk pp)) := ⟨_, rfl⟩
        have hFo := enR_ok (rdB D (J.blk pp))
        rw [← hF] at ho6 hFo HPN0 ⊢
        obtain ⟨ao6, kk6, rfl⟩ := ho6.shape
        have F6 := hide ((unhide F5).trans f6 (fun _ _ e => e))
        have HO6 := hide ho6
        have HFF := hide hF
        have HFO := hide hFo
        have hs65 := f6.size
        clear f6 ho6 hF hFo F5 k1 k2 HP6
        unfold En.c
        go_upto_region 9 with fail
        have hA6 := heap_alloc_new w6 (.cells (F.c (.slice ao6 F.L.length kk6)) 25)
        have fA6 : Fr (fun _ => False) w6 (w6.alloc (.cells (F.c (.slice ao6 F.L.length kk6)) 25)) := (Fr.refl _ _).alloc _
        have HO7 := hide ((unhide HO6).kept fA6)
        have F7 := hide ((unhide F6).trans fA6 (fun _ _ e => e))
        have hs57 := (unhide F6).size
        unfold En.c at hA6 HO7 F7
        refine wp_world ?_
        intro w7 hw7
        rw [← hw7] at hA6 HO7 F7
        obtain ⟨q7, hq7⟩ : ∃ q7, q7 = w6.heap.size := ⟨_, rfl⟩
        rw [← hq7] at hA6 ⊢
        have HA7 := hide hA6
        clear hw7 hA6 fA6 HO6 F6
        have HA8 := hide (((unhide F7).block _ (lt_of_heap (unhide HA5)) id).trans (unhide HA5))
        have HNB7 := hide ((unhide HNB).kept (unhide F7))
        have HG := hide (fun W => goesOn_any W E F k1' (by rw [unhide HE]; exact enR_ok _) (by omega) ao0 ao6 E.L.length kk F.L.length kk6)
        unfold En.c at HG HA8
        have HPN := HPN0
        clear HA5 hq7
        by_cases hgo : goB E F k1' = true
        case neg =>
          have hgo' : goB E F k1' = false := by simpa using hgo
          rw [hgo'] at HG
          have HXN : Hid (rtX J D = none) := hide (by
            have h1 : rtP J D E k1' = none := by rw [unhide HPN, if_neg hgo]
            have h2 := rtP_none J D E k1' h1 (E.ps - 1 - k1')
            rw [show k1' + (E.ps - 1 - k1') = E.ps - 1 by omega] at h2
            rw [unhide HX, h2])
          clear hgo hgo' HPN
          go_wp2_with (first | (refine wl_loadR 25 7 _ Try.underlying25 (by kernel_rfl) (.tmp 4) rfl rfl q rfl _ 25 (unhide HA8) rfl ?_) | (refine wl_loadR 25 7 _ Try.underlying25 (by kernel_rfl) (.tmp 8) rfl rfl q7 rfl _ 25 (unhide HA7) rfl ?_))
          refine (unhide HG _).mono ?_
          rintro e w8 ⟨rfl, f8⟩
          have F8 := hide ((unhide HNB7).fr.trans f8 (fun _ _ e => e))
          clear f8 HG HA7 HA8 HNB7
          go_wp2_with fail
          go_ret2
          exact .inl ⟨unhide HXN, rfl, unhide F8⟩
        case pos =>
          rw [hgo] at HG
          have HPN2 : Hid (rtP J D E k1' = some (p ++ F.L)) := hide (by rw [unhide HPN, if_pos hgo])
          clear hgo HPN
          go_upto_region 11 with (first | (refine wl_loadR 25 7 _ Try.underlying25 (by kernel_rfl) (.tmp 4) rfl rfl q rfl _ 25 (unhide HA8) rfl ?_) | (refine wl_loadR 25 7 _ Try.underlying25 (by kernel_rfl) (.tmp 8) rfl rfl q7 rfl _ 25 (unhide HA7) rfl ?_) | (go_at_call 96; refine (unhide HG _).mono ?_; rintro e w8 ⟨rfl, f8⟩; have HA9 := hide ((f8.block _ (lt_of_heap (unhide HA7)) id).trans (unhide HA7)); have HA10 := hide ((f8.block _ (lt_of_heap (unhide HA8)) id).trans (unhide HA8)); have HNB8 := hide ((unhide HNB7).kept f8); have HO8 := hide ((unhide HO7).kept f8); clear f8 HG HA7 HA8 HNB7 HO7))
          have d6 := cell_of_heap (unhide HA9) 6
          simp at d6
          obtain ⟨inf, hi0, hz0, hz1, hz2⟩ := info_parts Try.info5
          have hFL := (unhide HFO).2.2.2.2.2.2
          have hPL := unhide HPL
          go_wp2_with (at_builtin; refine wpList_app rfl (.tmp 55) (.tmp 57) 23 rfl 5 inf _ 1 1 Try.underlying23 hi0 hz0 hz1 hz2 rfl (by decide) (.slice ao p.length c) p.length (bvs p) rfl (.slice ao6 F.L.length kk6) rfl F.L.length (bvs F.L) (unhide HNB8).own ((unhide HO8).rd.sr) (bvs_one _) (by omega) (by simp only [maxLen]; omega) ?_)
          intro ao9 ac9 w9 o9 g9 p9
          have f9 : Fr (fun k => (Value.slice ao p.length c).ownBlock = some k) w8 w9 := (Fr.refl _ _).grown g9 (fun k _ e => e)
          have hq9 : ¬ (Value.slice ao p.length c).ownBlock = some q := fun e => by
            have h1 := knd_owns (unhide HNB8).own e
            rw [knd_cells (unhide HA10)] at h1
            exact absurd h1 (by decide)
          have HA11 := hide ((f9.block q (lt_of_heap (unhide HA10)) hq9).trans (unhide HA10))
          have HNB9 : Hid (Nb w w9 (.slice ao9 (p ++ F.L).length ac9) (p ++ F.L)) := hide (by
            have hs8 := (unhide HNB8).fr.size
            refine ⟨?_, (((unhide HNB8).fr.mono (fun _ _ e => e.elim)).trans f9 (fun k hk e => e)).mono (fun k hk e => by have := (unhide HNB8).new k e; omega), fun b hb => ?_⟩
            · rw [bvs_append, List.length_append]; exact o9
            · rw [List.length_append] at hb
              rcases p9 with e | ⟨k', e, hk'⟩
              · rw [e] at hb; exact (unhide HNB8).new b hb
              · rw [e] at hb; simp at hb; omega)
          clear o9 g9 p9 f9 hq9 HNB8 HA10 HO8 HA9 d6
          go_wp2_with fail
          go_roundw
          case rel => exact ⟨k1', p ++ F.L, ao9, ac9, by omega, by go_num, by rw [List.length_append], unhide HPN2, unhide HNB9, unhide HA11⟩
          case measure => simp [intOf]; omega
      · have hke : k = E.ps - 1 := by omega
        have HX2 : Hid (rtX J D = if gtB p = true then some p else none) := hide (by rw [unhide HX, ← hke, unhide HP])
        have hcond : ¬ (((k + 1 : Nat) : Int) < (E.ps : Int)) := by omega
        clear HP HX hke hlt
        generalize hk1 : k + 1 = k1' at *
        go_wp2_with fail
        refine (getTx_any wr _ p (unhide HNB).rd).mono ?_
        rintro e w9 ⟨r, c9, rfl, hG⟩
        unfold Gt at hG
        by_cases hg : gtB p = true
        · rw [if_pos hg] at hG
          have HX3 : Hid (rtX J D = some p) := hide (by rw [unhide HX2, if_pos hg])
          obtain ⟨rfl, ⟨G, rfl, hG1, hG2⟩, f9⟩ := hG
          have hsr := (unhide HNB).fr.size
          have HG1 := hide (Nat.le_trans hsr hG1)
          have HG2 := hide (hG2.mono hsr)
          have F9 := hide ((unhide HNB).fr.trans f9 (fun _ _ e => e))
          have HA9 := hide ((f9.block _ (lt_of_heap (unhide HA5)) id).trans (unhide HA5))
          obtain ⟨⟨mv9, sv9, qv9, hJ9, hD9, hB9⟩, ok9, sz9⟩ := (unhide HS).kept0 (unhide F9)
          obtain ⟨mo, mc, rfl⟩ := owns_shape hJ9.mks
          have HJ9 := hide hJ9
          have HD9 := hide hD9
          have HB9 := hide hB9
          have HSZ := hide sz9
          have HPS := hide hps100
          have HFL := hide (show (rtJ J D).Ok D.S.length from (flwB_ok (unhide HO) (by
            by_cases e : flwB J (rtH J D) = true
            · exact e
            · have := unhide HX3
              unfold rtX at this
              rw [if_neg e] at this
              simp at this)).1)
          clear hG1 hG2 f9 HX2 HNB HA5 hg hJ9 hD9 hB9 ok9 sz9 hsr c5
          go_upto_region 15 with fail
          refine gt15 (E := E) (unhide HJ9) (unhide HO) (unhide HA9) (unhide HPS) ?_
          intros
          rename_i W' hW
          obtain ⟨mv', hJ', fJ, hmv'⟩ := hW
          have HR := hide (js_jr (unhide HJ9) (unhide HD9) (unhide HB9) (unhide HSZ) (J' := rtJ J D) (by unfold rtJ; rw [← unhide HE]; exact hJ') fJ hmv' (unhide HFL))
          have HP9 := hide ((unhide HG2).keptK fJ (fun k e => by
            have := (unhide HJ9).knds e
            unfold KJ at this
            omega))
          clear hJ' fJ hmv' HJ9 HD9 HB9 HSZ HA9 HG2 HFL HPS HO HS HE
          go_wp2_with fail
          go_ret2
          exact .inr ⟨p, G, unhide HX3, rfl, unhide HG1, unhide HP9, (unhide HR).1, zs_trans (zs_none (unhide F9)) (unhide HR).2⟩
        · rw [if_neg hg] at hG
          have HX3 : Hid (rtX J D = none) := hide (by rw [unhide HX2, if_neg hg])
          obtain ⟨rfl, rfl, f9⟩ := hG
          have F9 := hide ((unhide HNB).fr.trans f9 (fun _ _ e => e))
          clear f9 HX2 HNB HA5 hg
          go_wp2_with fail
          go_ret2
          exact .inl ⟨unhide HX3, rfl, unhide F9⟩
end Go.Proofs.Ytgodlfoidjeekaa

namespace Go.Proofs.Ytgodlfoidjeekaa
set_option linter.unusedVariables false
set_option linter.unusedSimpArgs false
open Go.RowKit
set_option linter.unusedVariables false
set_option linter.unusedSimpArgs false

attribute [local go_sem ↓] Go.wp_at_zero Go.wp_at_succ

theorem suG_ok (l : List UInt8) (u : Su) (h : suG l = some u) : u.Ok ∧ 1 ≤ u.g ∧ 1 ≤ u.b := by
  unfold suG at h
  split at h
  · rename_i hh
    obtain ⟨h1, h2, h3⟩ := hh
    simp only [Option.some.injEq] at h
    subst h
    unfold sbB wiB at h2
    simp only [Bool.and_eq_true, decide_eq_true_eq, List.all_cons, List.all_nil] at h2
    unfold Su.Ok
    simp only
    omega
  · simp at h
theorem suR_ok (l : List UInt8) : (suR l).Ok := by
  unfold suR
  cases h : suG l with
  | none => unfold Su.Ok su0; decide
  | some u => exact (suG_ok l u h).1
theorem fr_setCells (j : Nat) : ∀ (vs : List Value) (o : Nat) (a w : World), Fr (fun k => k = j) a w → Fr (fun k => k = j) a (w.setCells j o vs)
  | [], _, _, _, h => h
  | v :: r, o, a, w, h => fr_setCells j r (o + 1) a _ (h.setCell (p := ⟨j, o, none⟩) (fun _ => rfl) v)
def Jn.setS (J : Jn) (u : Su) : Jn := { J with sup := u }
theorem Jn.Ok.setS {J : Jn} {n : Nat} (h : J.Ok n) (hl : J.live = []) (u : Su) (hu : u.Ok) : (J.setS u).Ok n := by
  refine ⟨h.place, h.ring, hu, h.marks, ?_, ?_, h.serial, h.synced⟩
  · show rise u.p J.live
    rw [hl]; trivial
  · show (J.setS u).nd ≤ u.p + J.ring
    unfold Jn.nd Jn.last Jn.setS
    rw [hl]
    show u.p ≤ u.p + J.ring
    omega
/-- The superblock's fields are stored. -/
theorem JAt.setS {w : World} {j s : Nat} {mv : Value} {J : Jn} (h : JAt w j s mv J) (u : Su) : JAt (w.setCells j 3 u.vs) j s mv (J.setS u) ∧ Fr (JB j mv) w (w.setCells j 3 u.vs) := by
  have fs : Fr (fun k => k = j) w (w.setCells j 3 u.vs) := by
    exact fr_setCells j _ 3 w w (Fr.refl _ _)
  refine ⟨⟨?_, ?_⟩, fs.mono (fun _ _ e => .inl e)⟩
  · simp only [Su.vs, World.setCells]
    rw [heap_setCell_same _ j _ _ 115 _ (heap_setCell_same _ j _ _ 115 _ (heap_setCell_same _ j _ _ 115 _ (heap_setCell_same _ j _ _ 115 _ (heap_setCell_same _ j _ _ 115 _ (heap_setCell_same w j _ _ 115 _ h.heap)))))]
    rfl
  · exact owns_kept h.mks fs (fun b hb e => h.ne b hb e)
theorem JAt.there {w : World} {j s : Nat} {mv : Value} {J : Jn} (h : JAt w j s mv J) : w.there j 3 6 := fun i hi => by
  refine ⟨?_, frozen_of_heap h.heap _⟩
  rw [cell_of_heap h.heap]
  rcases (by omega : i = 0 ∨ i = 1 ∨ i = 2 ∨ i = 3 ∨ i = 4 ∨ i = 5) with rfl | rfl | rfl | rfl | rfl | rfl <;> rfl
/-- Behind i superblocks. -/
def fsI (J : Jn) (D : Dv) : Nat → Jn
  | 0 => J
  | i + 1 => if suC (rdB D (J.first + i)) = 0 ∧ (fsI J D i).sup.g < (suR (rdB D (J.first + i))).g then (fsI J D i).setS (suR (rdB D (J.first + i))) else fsI J D i
/-- What findSuper answers. -/
def fsE (J : Jn) (D : Dv) : Int := if (fsI J D 2).sup.g = 0 then 80 else 0
theorem fsI_all (J : Jn) (D : Dv) (i : Nat) : (fsI J D i).first = J.first ∧ (fsI J D i).live = J.live ∧ (fsI J D i).ring = J.ring := by
  induction i with
  | zero => exact ⟨rfl, rfl, rfl⟩
  | succ i ih =>
    unfold fsI
    split
    · exact ih
    · exact ih

set_option maxHeartbeats 4000000 in
set_option maxRecDepth 100000 in
theorem gf78 {W : World} {X : Nat → Prop} {w0 : World} {j s i : Nat} {J : Jn} {D : Dv} {u1 u2 u4 u5 u6 u7 u8 u9 u10 u11 u12 u13 u14 u15 u16 u17 u18 u19 u20 u21 u22 u23 u24 u25 u26 u27 u28 u29 u30 u31 u32 u33 u34 u35 u36 u37 u38 u39 u40 u41 u42 u43 u44 u45 u46 u47 u48 u49 u50 u51 u52 u53 u54 u55 u56 u57 : Value} {Q : Exit → Act → World → Prop} (h : JS X w0 W j s J D) (hx : J.first + i < D.S.length)
    (hQ : ∀ (y4 y11 y12 y13 y14 y15 y16 y17 y18 y19 y20 y21 y22 y23 y24 y25 y26 : Value) (W' : World), Rd W' y4 (rdB D (J.first + i)) ∧ Fr (fun _ => False) W W' → Q .normal ⟨#[.pointer (some ⟨j, 0, none⟩), u1, u2, .int .i64 (i : Int), y4, .int .i64 0, u6, u7, u8, u9, u10, y11, y12, y13, y14, y15, y16, y17, y18, y19, y20, y21, y22, y23, y24, y25, y26, u27, u28, u29, u30, u31, u32, u33, u34, u35, u36, u37, u38, u39, u40, u41, u42, u43, u44, u45, u46, u47, u48, u49, u50, u51, u52, u53, u54, u55, u56, u57], []⟩ W') : (rgF Try.f78 4).wp Try.prog Q ⟨#[.pointer (some ⟨j, 0, none⟩), u1, u2, .int .i64 (i : Int), u4, u5, u6, u7, u8, u9, u10, u11, u12, u13, u14, u15, u16, u17, u18, u19, u20, u21, u22, u23, u24, u25, u26, u27, u28, u29, u30, u31, u32, u33, u34, u35, u36, u37, u38, u39, u40, u41, u42, u43, u44, u45, u46, u47, u48, u49, u50, u51, u52, u53, u54, u55, u56, u57], []⟩ W := by
  have HQ := hide hQ
  clear hQ
  have HH := hide h
  have HX := hide hx
  have HA : Hid (IntKind.i64.wrap ((J.first : Int) + (i : Int)) = ((J.first + i : Nat) : Int)) := hide (by
    have h1 := h.ok.place
    have := wrapI (J.first + i) (by omega)
    exact_mod_cast this)
  clear h hx
  conv => arg 2; whnf
  refine wp_nameK ?_
  intro a0 hA
  have h0 : a0.tmps.getD 0 undef = .pointer (some ⟨j, 0, none⟩) := by rw [hA]; rfl
  have h3 : a0.tmps.getD 3 undef = .int .i64 (i : Int) := by rw [hA]; rfl
  have hsz : a0.tmps.size = 58 := by rw [hA]; rfl
  have hdf : a0.defers = [] := by rw [hA]
  have HA0 := hide hA
  clear hA
  refine wp_region_kinds (fun _ => False) (by kernel_rfl) (by kernel_rfl) (by decide +kernel) (by rw [hsz]; decide +kernel) [.eq (.pointer (some ⟨j, 0, none⟩)), .eq (.pointer (some ⟨j, 0, none⟩)), .eq (.pointer (some ⟨j, 0, none⟩)), .eq (.iface 64 (.pointer (some ⟨s, 0, none⟩))), .eq (.pointer (some ⟨j, 0, none⟩)), .eq (.pointer (some ⟨j, 0, none⟩)), .eq (.pointer (some ⟨j, 1, none⟩)), .eq (.int .i64 (J.first : Int)), .eq (.int .i64 (i : Int)), .eq (.int .i64 ((J.first + i : Nat) : Int)), .eq (.iface 64 (.pointer (some ⟨s, 0, none⟩))), .eq (.iface 64 (.pointer (some ⟨s, 0, none⟩))), kRt (rdB D (J.first + i)), kRt (rdB D (J.first + i)), kRd (rdB D (J.first + i)), .eq (.int .i64 0), kRd (rdB D (J.first + i)), .eq (.int .i64 0)] [] (by decide) (by decide) (chain_paths _ [] (by kernel_rfl)) (fun _ _ => True) trivial ?steps ?done
  case steps =>
    refine ⟨?_, ?_⟩
    · intro a' w' k' hb hf hs hc hq hg hd
      exact ⟨wantedN rfl, k_val (.pointer (some ⟨j, 0, none⟩)) (by decide) trivial (x_move rfl ((hb.old 0 (by decide +kernel)).trans h0)) rfl⟩
    refine ⟨?_, ?_⟩
    · intro a' w' k' hb hf hs hc hq hg hd
      exact ⟨wantedN rfl, k_val (.pointer (some ⟨j, 0, none⟩)) (by decide) trivial (x_nilCheck rfl (hd 0 (by kernel_rfl) 12 rfl)) rfl⟩
    refine ⟨?_, ?_⟩
    · intro a' w' k' hb hf hs hc hq hg hd
      exact ⟨wantedN rfl, k_val (.pointer (some ⟨j, 0, none⟩)) (by decide) trivial (x_field (of := 0) (off := 0) (fa115_0 j 0) rfl (hd 1 (by kernel_rfl) 13 rfl)) rfl⟩
    refine ⟨?_, ?_⟩
    · intro a' w' k' hb hf hs hc hq hg hd
      exact ⟨wantedN rfl, k_val (.iface 64 (.pointer (some ⟨s, 0, none⟩))) (by decide) trivial (x_load1 ld111 rfl (hd 2 (by kernel_rfl) 14 rfl) ((unhide HH).kept0 hf |> js_cell0).1) rfl⟩
    refine ⟨?_, ?_⟩
    · intro a' w' k' hb hf hs hc hq hg hd
      exact ⟨wantedN rfl, k_val (.pointer (some ⟨j, 0, none⟩)) (by decide) trivial (x_move rfl ((hb.old 0 (by decide +kernel)).trans h0)) rfl⟩
    refine ⟨?_, ?_⟩
    · intro a' w' k' hb hf hs hc hq hg hd
      exact ⟨wantedN rfl, k_val (.pointer (some ⟨j, 0, none⟩)) (by decide) trivial (x_nilCheck rfl (hd 4 (by kernel_rfl) 16 rfl)) rfl⟩
    refine ⟨?_, ?_⟩
    · intro a' w' k' hb hf hs hc hq hg hd
      exact ⟨wantedN rfl, k_val (.pointer (some ⟨j, 1, none⟩)) (by decide) trivial (x_field (of := 0) (off := 1) (fa115_1 j 0) rfl (hd 5 (by kernel_rfl) 17 rfl)) rfl⟩
    refine ⟨?_, ?_⟩
    · intro a' w' k' hb hf hs hc hq hg hd
      exact ⟨wantedN rfl, k_val (.int .i64 (J.first : Int)) (by decide) trivial (x_load1 ld3 rfl (hd 6 (by kernel_rfl) 18 rfl) ((unhide HH).kept0 hf |> js_cell0).2) rfl⟩
    refine ⟨?_, ?_⟩
    · intro a' w' k' hb hf hs hc hq hg hd
      exact ⟨wantedN rfl, k_val (.int .i64 (i : Int)) (by decide) trivial (x_move rfl ((hb.old 3 (by decide +kernel)).trans h3)) rfl⟩
    refine ⟨?_, ?_⟩
    · intro a' w' k' hb hf hs hc hq hg hd
      exact ⟨wantedN rfl, k_val _ (by decide) trivial (x_addI rfl (hd 7 (by kernel_rfl) 19 rfl) (hd 8 (by kernel_rfl) 20 rfl) (unhide HA)) rfl⟩
    refine ⟨?_, ?_⟩
    · intro a' w' k' hb hf hs hc hq hg hd
      exact ⟨wantedN rfl, k_val (.iface 64 (.pointer (some ⟨s, 0, none⟩))) (by decide) trivial (x_nilCheckI rfl (hd 3 (by kernel_rfl) 15 rfl)) rfl⟩
    refine ⟨?_, ?_⟩
    · intro a' w' k' hb hf hs hc hq hg hd
      exact ⟨wantedN rfl, k_val (.iface 64 (.pointer (some ⟨s, 0, none⟩))) (by decide) trivial (x_move rfl (hd 3 (by kernel_rfl) 15 rfl)) rfl⟩
    refine ⟨?_, ?_⟩
    · intro a' w' k' hb hf hs hc hq hg hd
      exact ⟨wantedN rfl, k_call 81 _ (by decide) (e_invR rfl (hd 11 (by kernel_rfl) 23 rfl) (hd 9 (by kernel_rfl) 21 rfl)) ((dw_read ((unhide HH).kept0 hf).dw (J.first + i) (unhide HX)).mono (by rintro e w9 ⟨v, rfl, h1, f9, -⟩; exact ⟨_, rfl, ⟨v, rfl, h1⟩, f9, trivial⟩))⟩
    refine ⟨?_, ?_⟩
    · intro a' w' k' hb hf hs hc hq hg hd
      have hh := (hd 12 (by kernel_rfl) 24 rfl); exact ⟨wantedN rfl, k_val _ (by decide) trivial (x_move rfl rfl) hh⟩
    refine ⟨?_, ?_⟩
    · intro a' w' k' hb hf hs hc hq hg hd
      obtain ⟨x9, e9, h9⟩ := (hd 13 (by kernel_rfl) 11 rfl)
      exact ⟨wantedN rfl, k_val x9 (by decide) trivial (x_extract rfl e9 rfl) h9⟩
    refine ⟨?_, ?_⟩
    · intro a' w' k' hb hf hs hc hq hg hd
      obtain ⟨x9, e9, h9⟩ := (hd 13 (by kernel_rfl) 11 rfl)
      exact ⟨wantedN rfl, k_val (.int .i64 0) (by decide) trivial (x_extract rfl e9 rfl) rfl⟩
    refine ⟨?_, ?_⟩
    · intro a' w' k' hb hf hs hc hq hg hd
      have hh := (hd 14 (by kernel_rfl) 25 rfl); exact ⟨wantedN rfl, k_val _ (by decide) trivial (x_assign rfl rfl) hh⟩
    refine ⟨?_, ?_⟩
    · intro a' w' k' hb hf hs hc hq hg hd
      exact ⟨wantedN rfl, k_val (.int .i64 0) (by decide) trivial (x_assign rfl (hd 15 (by kernel_rfl) 26 rfl)) rfl⟩
    exact trivial
  case done =>
    intro a' w' hb hf hs hall
    have hslots : Slots a' 0 [.pointer (some ⟨j, 0, none⟩), u1, u2, .int .i64 (i : Int), a'.tmps.getD 4 undef, .int .i64 0, u6, u7, u8, u9, u10, a'.tmps.getD 11 undef, a'.tmps.getD 12 undef, a'.tmps.getD 13 undef, a'.tmps.getD 14 undef, a'.tmps.getD 15 undef, a'.tmps.getD 16 undef, a'.tmps.getD 17 undef, a'.tmps.getD 18 undef, a'.tmps.getD 19 undef, a'.tmps.getD 20 undef, a'.tmps.getD 21 undef, a'.tmps.getD 22 undef, a'.tmps.getD 23 undef, a'.tmps.getD 24 undef, a'.tmps.getD 25 undef, a'.tmps.getD 26 undef, u27, u28, u29, u30, u31, u32, u33, u34, u35, u36, u37, u38, u39, u40, u41, u42, u43, u44, u45, u46, u47, u48, u49, u50, u51, u52, u53, u54, u55, u56, u57] := ⟨(hb.old 0 (by decide +kernel)).trans (by rw [unhide HA0]; rfl), (hb.old 1 (by decide +kernel)).trans (by rw [unhide HA0]; rfl), (hb.old 2 (by decide +kernel)).trans (by rw [unhide HA0]; rfl), (hb.old 3 (by decide +kernel)).trans (by rw [unhide HA0]; rfl), rfl, hall 17 (by decide) 5 rfl, (hb.old 6 (by decide +kernel)).trans (by rw [unhide HA0]; rfl), (hb.old 7 (by decide +kernel)).trans (by rw [unhide HA0]; rfl), (hb.old 8 (by decide +kernel)).trans (by rw [unhide HA0]; rfl), (hb.old 9 (by decide +kernel)).trans (by rw [unhide HA0]; rfl), (hb.old 10 (by decide +kernel)).trans (by rw [unhide HA0]; rfl), rfl, rfl, rfl, rfl, rfl, rfl, rfl, rfl, rfl, rfl, rfl, rfl, rfl, rfl, rfl, rfl, (hb.old 27 (by decide +kernel)).trans (by rw [unhide HA0]; rfl), (hb.old 28 (by decide +kernel)).trans (by rw [unhide HA0]; rfl), (hb.old 29 (by decide +kernel)).trans (by rw [unhide HA0]; rfl), (hb.old 30 (by decide +kernel)).trans (by rw [unhide HA0]; rfl), (hb.old 31 (by decide +kernel)).trans (by rw [unhide HA0]; rfl), (hb.old 32 (by decide +kernel)).trans (by rw [unhide HA0]; rfl), (hb.old 33 (by decide +kernel)).trans (by rw [unhide HA0]; rfl), (hb.old 34 (by decide +kernel)).trans (by rw [unhide HA0]; rfl), (hb.old 35 (by decide +kernel)).trans (by rw [unhide HA0]; rfl), (hb.old 36 (by decide +kernel)).trans (by rw [unhide HA0]; rfl), (hb.old 37 (by decide +kernel)).trans (by rw [unhide HA0]; rfl), (hb.old 38 (by decide +kernel)).trans (by rw [unhide HA0]; rfl), (hb.old 39 (by decide +kernel)).trans (by rw [unhide HA0]; rfl), (hb.old 40 (by decide +kernel)).trans (by rw [unhide HA0]; rfl), (hb.old 41 (by decide +kernel)).trans (by rw [unhide HA0]; rfl), (hb.old 42 (by decide +kernel)).trans (by rw [unhide HA0]; rfl), (hb.old 43 (by decide +kernel)).trans (by rw [unhide HA0]; rfl), (hb.old 44 (by decide +kernel)).trans (by rw [unhide HA0]; rfl), (hb.old 45 (by decide +kernel)).trans (by rw [unhide HA0]; rfl), (hb.old 46 (by decide +kernel)).trans (by rw [unhide HA0]; rfl), (hb.old 47 (by decide +kernel)).trans (by rw [unhide HA0]; rfl), (hb.old 48 (by decide +kernel)).trans (by rw [unhide HA0]; rfl), (hb.old 49 (by decide +kernel)).trans (by rw [unhide HA0]; rfl), (hb.old 50 (by decide +kernel)).trans (by rw [unhide HA0]; rfl), (hb.old 51 (by decide +kernel)).trans (by rw [unhide HA0]; rfl), (hb.old 52 (by decide +kernel)).trans (by rw [unhide HA0]; rfl), (hb.old 53 (by decide +kernel)).trans (by rw [unhide HA0]; rfl), (hb.old 54 (by decide +kernel)).trans (by rw [unhide HA0]; rfl), (hb.old 55 (by decide +kernel)).trans (by rw [unhide HA0]; rfl), (hb.old 56 (by decide +kernel)).trans (by rw [unhide HA0]; rfl), (hb.old 57 (by decide +kernel)).trans (by rw [unhide HA0]; rfl), trivial⟩
    have hfr := frame_eq (a := a') (by rw [hb.size, hsz]; rfl) (by rw [hb.defers, hdf]) hslots
    rw [hfr]
    exact unhide HQ (a'.tmps.getD 4 undef) (a'.tmps.getD 11 undef) (a'.tmps.getD 12 undef) (a'.tmps.getD 13 undef) (a'.tmps.getD 14 undef) (a'.tmps.getD 15 undef) (a'.tmps.getD 16 undef) (a'.tmps.getD 17 undef) (a'.tmps.getD 18 undef) (a'.tmps.getD 19 undef) (a'.tmps.getD 20 undef) (a'.tmps.getD 21 undef) (a'.tmps.getD 22 undef) (a'.tmps.getD 23 undef) (a'.tmps.getD 24 undef) (a'.tmps.getD 25 undef) (a'.tmps.getD 26 undef) w' ⟨hall 16 (by decide) 4 rfl, hf⟩
theorem js_set {X : Nat → Prop} {w0 w : World} {j s : Nat} {J : Jn} {D : Dv} (h : JS X w0 w j s J D) (hl : J.live = []) (u : Su) (hu : u.Ok) : w.there j 3 6 ∧ JS X w0 (w.setCells j 3 u.vs) j s (J.setS u) D ∧ Fr (Zs X w0 w) w (w.setCells j 3 u.vs) := by
  obtain ⟨⟨mv, sv, qv, hJ, hD, hB⟩, ok, sz⟩ := h
  obtain ⟨h1, h2⟩ := hJ.setS u
  exact ⟨hJ.there, js_jr hJ hD hB sz h1 h2 (fun _ e => .inl e) (ok.setS hl u hu)⟩
/-- A row stored in the middle of a block, in a walk. -/
theorem wl_storeM (ty k : Nat) (hi : (Try.prog.info? ty).map (·.size) = some k) {ops : Array Oper} {rest : List Oper} {o : Oper} {a : Act} {w : World} {Q : Exit → Act → World → Prop} (x y : Operand) (ho : o.op = .store ty x y) (hg : Region.wanted o (yielded ops a.tmps) = true) (n of : Nat) (hx : a.eval x = .pointer (some ⟨n, of, none⟩)) (c : Array Value) (hy : a.eval y = .agg c) (ht : w.there n of k) (hc : c.size = k) (h1 : c.all (·.oneCell') = true) (h : ∀ w2, w2 = w.setCells n of c.toList → wpList Try.prog ops Q rest (a.put o.dst undef) w2) : wpList Try.prog ops Q (o :: rest) a w :=
  wpList_want hg fun _ hK => wp_store_mid ty x y ho n of c hx hy (by rw [hc]; exact ht) (by rw [hc]; exact hi) h1 (hK _ _ (h _ rfl))
theorem js_gen {X : Nat → Prop} {w0 w : World} {j s : Nat} {J : Jn} {D : Dv} (h : JS X w0 w j s J D) : w.cell? ⟨j, 3, none⟩ = some (.int .u64 (J.sup.g : Int)) := by
  obtain ⟨⟨mv, sv, qv, hJ, -, -⟩, -, -⟩ := h
  have c0 := cell_of_heap hJ.heap 3
  simpa using c0
set_option maxRecDepth 100000 in
set_option maxHeartbeats 4000000 in
theorem findSuper_any {X : Nat → Prop} {w0 : World} (w : World) (j s : Nat) (J : Jn) (D : Dv) (H : JS X w0 w j s J D) (hl : J.live = []) : Calls Try.prog 78 #[.pointer (some ⟨j, 0, none⟩)] w fun e w' => e = .returned (.int .i64 (fsE J D)) ∧ JS X w0 w' j s (fsI J D 2) D ∧ Fr (Zs X w0 w) w w' := by
  have HS := hide H
  have HLV := hide hl
  have hpl := H.ok.place
  have hrg := H.ok.ring
  clear H hl
  go_enter Try.func78, Try.ntmps78
  go_wp2_with fail
  go_loopw [8] (fun y W => ∃ i : Nat, i ≤ 2 ∧ y = .int .i64 (i : Int) ∧ JS X w0 W j s (fsI J D i) D ∧ Fr (Zs X w0 w) w W) (fun y _ => 2 - (intOf y).toNat)
  case atStart => exact ⟨0, by omega, rfl, unhide HS, Fr.refl _ _⟩
  case round =>
    clear HS
    obtain ⟨i, hi, rfl, hJ, hF⟩ := hrel
    obtain ⟨hfi, hli, hri⟩ := fsI_all J D i
    rw [unhide HLV] at hli
    by_cases hlt : i < 2
    · have hx : (fsI J D i).first + i < D.S.length := by rw [hfi]; omega
      have HX := hide hx
      have HJ := hide hJ
      have HF := hide hF
      have HFI := hide hfi
      have HLI := hide hli
      have HST := hide (show fsI J D (i + 1) = if suC (rdB D (J.first + i)) = 0 ∧ (fsI J D i).sup.g < (suR (rdB D (J.first + i))).g then (fsI J D i).setS (suR (rdB D (J.first + i))) else fsI J D i from rfl)
      clear hx hJ hF hfi hli hri
      go_upto_region 4 with fail
      refine gf78 (unhide HJ) (unhide HX) ?_
      intro y4
      intros
      rename_i W1 hW
      have HR := hide hW.1
      rw [unhide HFI] at HR
      have HJ1 := hide ((unhide HJ).kept0 hW.2)
      have HF1 := hide (zs_trans (unhide HF) (zs_none hW.2))
      clear hW HJ HF HX
      go_wp2_with fail
      refine (getSuper_any _ _ _ (unhide HR)).mono ?_
      rintro e w2 ⟨rfl, f2⟩
      have HJ2 := hide ((unhide HJ1).kept0 f2)
      have HF2 := hide (zs_trans (unhide HF1) (zs_none f2))
      obtain ⟨u, hu⟩ : ∃ u, u = suR (rdB D (J.first + i)) := ⟨_, rfl⟩
      have hok := suR_ok (rdB D (J.first + i))
      rw [← hu] at HST hok ⊢
      have HUO := hide hok
      clear hu hok f2 HJ1 HF1 HR
      obtain ⟨c, hc⟩ : ∃ c, c = suC (rdB D (J.first + i)) := ⟨_, rfl⟩
      rw [← hc] at HST ⊢
      clear hc
      unfold Su.v
      go_upto_region 8 with fail
      have hA := heap_alloc_new w2 (.cells u.vs.toArray 27)
      have fA : Fr (fun _ => False) w2 (w2.alloc (.cells u.vs.toArray 27)) := (Fr.refl _ _).alloc _
      have HJ3 := hide ((unhide HJ2).kept0 fA)
      have HF3 := hide (zs_trans (unhide HF2) (zs_none fA))
      unfold Su.vs at hA HJ3 HF3
      refine wp_world ?_
      intro w3 hw3
      rw [← hw3] at hA HJ3 HF3
      obtain ⟨q, hq⟩ : ∃ q, q = w2.heap.size := ⟨_, rfl⟩
      rw [← hq] at hA ⊢
      have HA := hide hA
      clear hw3 hq fA HJ2 HF2
      have d0 := cell_of_heap hA 0
      have d3 := js_gen (unhide HJ3)
      simp at d0
      clear hA
      by_cases h1 : c = 0 ∧ (fsI J D i).sup.g < u.g
      · have HST2 : Hid (fsI J D (i + 1) = (fsI J D i).setS u) := hide (by rw [unhide HST, if_pos h1])
        obtain ⟨rfl, h2⟩ := h1
        have b1 : decide (((fsI J D i).sup.g : Int) < (u.g : Int)) = true := by simp; omega
        have b2 : decide ((fsI J D i).sup.g < u.g) = true := decide_eq_true h2
        clear HST
        generalize (fsI J D i).sup.g = g9 at *
        go_wp2_with fail
        go_quiet (fail)
        have fq := Fr.ofDrewN (S := fun _ => False) w3 nq
        have HJ4 := hide ((unhide HJ3).kept0 fq)
        have HA4 := hide ((fq.block _ (lt_of_heap (unhide HA)) id).trans (unhide HA))
        have HF4 := hide (zs_trans (unhide HF3) (zs_none fq))
        generalize w3.drewN nq = w4 at *
        clear fq HJ3 HA HF3 d0 d3
        have hset := js_set (unhide HJ4) (unhide HLI) u (unhide HUO)
        have hth := hset.1
        have HN := hide hset.2
        unfold Su.vs at HN
        clear hset
        have hNN : ∀ w5, w5 = w4.setCells j 3 (#[.int .u64 (u.g : Int), .int .u64 (u.b : Int), .int .u64 (u.p : Int), .int .u64 (u.l : Int), .int .u64 (u.x : Int), .int .u64 (u.y : Int)] : Array Value).toList → JS X w0 w5 j s ((fsI J D i).setS u) D ∧ Fr (Zs X w0 w4) w4 w5 := fun w5 e => by rw [e]; exact unhide HN
        have HNN := hide hNN
        have HTH := hide hth
        clear hNN hth HN
        go_wp2_with (first | (refine wl_loadR 27 6 _ Try.underlying27 (by kernel_rfl) (.tmp 6) rfl rfl q rfl _ 27 (unhide HA4) rfl ?_) | (refine wl_storeM 27 6 (by kernel_rfl) (.tmp 50) (.tmp 48) rfl rfl j 3 rfl _ rfl (unhide HTH) rfl (by simp [Value.oneCell']) ?_; intro w5 hw5; obtain ⟨hn5, hf5⟩ := unhide HNN w5 hw5; have HN5 := hide hn5; have HF5 := hide hf5; clear hw5 hn5 hf5))
        go_roundw
        case rel => exact ⟨i + 1, by omega, by go_num, by rw [unhide HST2]; exact unhide HN5, zs_trans (unhide HF4) (unhide HF5)⟩
        case measure => simp [intOf]; omega
      · have HST2 : Hid (fsI J D (i + 1) = fsI J D i) := hide (by rw [unhide HST, if_neg h1])
        clear HST
        by_cases hc0 : c = 0
        · have h2 : ¬ (fsI J D i).sup.g < u.g := fun e => h1 ⟨hc0, e⟩
          have b1 : decide (((fsI J D i).sup.g : Int) < (u.g : Int)) = false := by simp; omega
          have b2 : decide ((fsI J D i).sup.g < u.g) = false := decide_eq_false h2
          subst hc0
          clear h1
          generalize (fsI J D i).sup.g = g9 at *
          go_wp2_with fail
          go_quiet (fail)
          have fq := Fr.ofDrewN (S := fun _ => False) w3 nq
          have HJ4 := hide ((unhide HJ3).kept0 fq)
          have HF4 := hide (zs_trans (unhide HF3) (zs_none fq))
          generalize w3.drewN nq = w4 at *
          clear fq HJ3 HA HF3 d0 d3
          go_wp2_with fail
          go_roundw
          case rel => exact ⟨i + 1, by omega, by go_num, by rw [unhide HST2]; exact unhide HJ4, unhide HF4⟩
          case measure => simp [intOf]; omega
        · have b1 : (c == 0) = false := by simpa using hc0
          clear h1 hc0
          generalize (fsI J D i).sup.g = g9 at *
          go_wp2_with fail
          go_quiet (fail)
          have fq := Fr.ofDrewN (S := fun _ => False) w3 nq
          have HJ4 := hide ((unhide HJ3).kept0 fq)
          have HF4 := hide (zs_trans (unhide HF3) (zs_none fq))
          generalize w3.drewN nq = w4 at *
          clear fq HJ3 HA HF3 d0 d3
          go_wp2_with fail
          go_roundw
          case rel => exact ⟨i + 1, by omega, by go_num, by rw [unhide HST2]; exact unhide HJ4, unhide HF4⟩
          case measure => simp [intOf]; omega
    · obtain rfl : i = 2 := by omega
      have d3 := js_gen hJ
      have HJ := hide hJ
      have HF := hide hF
      clear hJ hF hfi hli hri hpl hrg
      obtain ⟨g, hg⟩ : ∃ g, g = (fsI J D 2).sup.g := ⟨_, rfl⟩
      rw [← hg] at d3
      have HG := hide hg
      clear hg
      by_cases h0 : g = 0
      · subst h0
        have b1 : (((0 : Nat) : Int) == 0) = true := by decide
        go_wp2_with fail
        go_ret
        rw [show fsE J D = 80 by unfold fsE; rw [← unhide HG]; rfl]
        exact ⟨rfl, unhide HJ, unhide HF⟩
      · have b1 : ((g : Int) == 0) = false := by simp; omega
        have HG0 := hide h0
        clear h0
        go_wp2_with fail
        go_ret
        rw [show fsE J D = 0 by unfold fsE; rw [← unhide HG, if_neg (unhide HG0)]]
        exact ⟨rfl, unhide HJ, unhide HF⟩
end Go.Proofs.Ytgodlfoidjeekaa

namespace Go.Proofs.Ytgodlfoidjeekaa
set_option linter.unusedVariables false
set_option linter.unusedSimpArgs false
open Go.RowKit
set_option linter.unusedVariables false
set_option linter.unusedSimpArgs false

attribute [local go_sem ↓] Go.wp_at_zero Go.wp_at_succ

/-- The journal, and what was told, behind n transactions at most. -/
def raI (J : Jn) (D : Dv) : Nat → Jn × List (List UInt8)
  | 0 => (J, [])
  | n + 1 => match rtX (raI J D n).1 D with
    | some p => (rtJ (raI J D n).1 D, (raI J D n).2 ++ [p])
    | none => raI J D n
def raR (J : Jn) (D : Dv) : Jn × List (List UInt8) := raI J D (J.ring + 1)
theorem raI_stop (J : Jn) (D : Dv) (n : Nat) (h : rtX (raI J D n).1 D = none) : ∀ k, raI J D (n + k) = raI J D n := by
  intro k
  induction k with
  | zero => rfl
  | succ k ih =>
    show (match rtX (raI J D (n + k)).1 D with | some p => _ | none => raI J D (n + k)) = _
    rw [ih, h]
theorem rtX_flw {J : Jn} {D : Dv} {p : List UInt8} (h : rtX J D = some p) : flwB J (rtH J D) = true := by
  by_cases e : flwB J (rtH J D) = true
  · exact e
  · unfold rtX at h
    rw [if_neg e] at h
    simp at h
theorem raI_ok {J : Jn} {D : Dv} {n : Nat} (h : J.Ok n) : ∀ i, (raI J D i).1.Ok n ∧ (raI J D i).1.ring = J.ring ∧ (raI J D i).1.sup = J.sup ∧ J.live.length + (raI J D i).2.length = (raI J D i).1.live.length ∧ (raI J D i).1.first = J.first := by
  intro i
  induction i with
  | zero => exact ⟨h, rfl, rfl, rfl, rfl⟩
  | succ i ih =>
    unfold raI
    split
    · rename_i p hp
      obtain ⟨h1, h2, h3, h4, h5⟩ := ih
      refine ⟨(flwB_ok h1 (rtX_flw hp)).1, h2, h3, ?_, h5⟩
      show _ = ((raI J D i).1.live ++ [_]).length
      simp
      omega
    · exact ih
theorem live_ring {J : Jn} {n : Nat} (h : J.Ok n) : J.live.length ≤ J.ring := by
  have h1 := h.nd.1
  have h2 := h.full
  omega

def tlV (gs : List Nat) (ps : List (List UInt8)) : List Value := (gs.zip ps).map fun q => .slice (some ⟨q.1, 0, none⟩) (gtN q.2) (gtN q.2)
/-- What was told, in memory. -/
structure Tl (N : Nat) (w : World) (v : Value) (ps : List (List UInt8)) : Prop where
  ex : ∃ gs : List Nat, gs.length = ps.length ∧ w.ownsRow 0 28 1 v ps.length (tlV gs ps) ∧ ∀ i (hi : i < ps.length), ∃ g, gs[i]? = some g ∧ N ≤ g ∧ PAt N w g (gtN ps[i]) (gtN ps[i]) ps[i]
  new : ∀ b, v.ownBlock = some b → N ≤ b
theorem Tl.nil (N : Nat) (w : World) : Tl N w (.slice none 0 0) [] := ⟨⟨[], rfl, ⟨rfl, .inl ⟨rfl, rfl⟩⟩, fun i hi => by simp at hi⟩, fun b e => by simp [Value.ownBlock] at e⟩
theorem Tl.keptK {N : Nat} {w w' : World} {v : Value} {ps : List (List UInt8)} {S : Nat → Prop} (h : Tl N w v ps) (f : Fr S w w') (hs : ∀ k, S k → knd w k ≠ 28 ∧ knd w k ≠ 94 ∧ knd w k ≠ 5) : Tl N w' v ps := by
  obtain ⟨⟨gs, h1, h2, h3⟩, h4⟩ := h
  refine ⟨⟨gs, h1, owns_kept h2 f (fun b hb e => (hs b e).1 (knd_owns h2 hb)), fun i hi => ?_⟩, h4⟩
  obtain ⟨g, h5, h6, h7⟩ := h3 i hi
  exact ⟨g, h5, h6, h7.keptK f (fun k e => (hs k e).2)⟩
theorem tlV_more (gs : List Nat) (ps : List (List UInt8)) (g : Nat) (p : List UInt8) (h : gs.length = ps.length) : tlV (gs ++ [g]) (ps ++ [p]) = tlV gs ps ++ [.slice (some ⟨g, 0, none⟩) (gtN p) (gtN p)] := by
  unfold tlV
  rw [List.zip_append h, List.map_append]
  rfl
theorem Try.info28 : (Try.prog.info? 28).map (fun i => (i.zero, i.size, i.bytes)) = some (some (.slice none 0 0), 1, 24) := by kernel_rfl
theorem Try.u79 : Try.prog.underlying 79 = some (.slice 28) := by kernel_rfl
def lenOf : Value → Nat
  | .slice _ n _ => n
  | _ => 0

set_option maxRecDepth 100000 in
set_option maxHeartbeats 2000000 in
theorem readAll_any {X : Nat → Prop} {w0 : World} (w : World) (j s : Nat) (J : Jn) (D : Dv) (H : JS X w0 w j s J D) : Calls Try.prog 79 #[.pointer (some ⟨j, 0, none⟩)] w fun e w' => ∃ v, e = .returned (.tuple #[v, .int .i64 0]) ∧ Tl w.heap.size w' v (raR J D).2 ∧ JS X w0 w' j s (raR J D).1 D ∧ Fr (Zs X w0 w) w w' := by
  have HS := hide H
  have HO := hide H.ok
  have hsz := H.sz
  clear H
  obtain ⟨inf, hi0, hz0, hz1, hz2⟩ := info_parts Try.info28
  have qn : ∀ (w : World) (a : Option Addr) (n c n' c' : Nat), (binOp .eql 28 (.slice a n c) (.slice none n' c')).run Try.prog w = .ok (.bool a.isNone) w := fun w a n c n' c' => Go.Lib.run_eql_slice_nil w 28 94 a n c n' c' Try.underlying28
  go_enter Try.func79, Try.ntmps79
  go_wp2_with fail
  go_loopw [4] (fun v W => ∃ (i : Nat) (ao : Option Addr) (c : Nat), i ≤ J.ring ∧ v = .slice ao i c ∧ (raI J D i).2.length = i ∧ Tl w.heap.size W (.slice ao i c) (raI J D i).2 ∧ JS X w0 W j s (raI J D i).1 D ∧ Fr (Zs X w0 w) w W) (fun v _ => J.ring + 1 - lenOf v)
  case atStart => exact ⟨0, none, 0, Nat.zero_le _, rfl, rfl, Tl.nil _ _, unhide HS, Fr.refl _ _⟩
  case round =>
    clear HS
    obtain ⟨i, ao, c, hi, rfl, hli, hT, hJ, hF⟩ := hrel
    have hir : (raI J D i).1.ring = J.ring := (raI_ok (unhide HO) i).2.1
    have HT := hide hT
    have HF := hide hF
    have HR := hide (readTx_any wr j s (raI J D i).1 D hJ)
    have HJ := hide hJ
    have HLI := hide hli
    clear hT hF hJ hli
    go_wp2_with fail
    refine (unhide HR).mono ?_
    clear HR
    rintro e w1 (⟨hx, rfl, f1⟩ | ⟨p, G, hx, rfl, hG, hP, hJ1, f1⟩)
    · have HX := hide (show raR J D = raI J D i by
        have := raI_stop J D i hx (J.ring + 1 - i)
        rw [show i + (J.ring + 1 - i) = J.ring + 1 by omega] at this
        exact this)
      have HT1 := hide ((unhide HT).keptK f1 (fun _ e => e.elim))
      have HJ1 := hide ((unhide HJ).kept0 f1)
      have HF1 := hide (zs_trans (unhide HF) (zs_none f1))
      clear hx f1 HT HF HJ
      go_wp2_with fail
      go_ret2
      refine ⟨_, rfl, ?_⟩
      rw [unhide HX]
      exact ⟨unhide HT1, unhide HJ1, unhide HF1⟩
    · have HX := hide (show raI J D (i + 1) = (rtJ (raI J D i).1 D, (raI J D i).2 ++ [p]) by
        show (match rtX (raI J D i).1 D with | some p => _ | none => raI J D i) = _
        rw [hx])
      have hok1 := (raI_ok (unhide HO) (D := D) (i + 1))
      have hlen : (raI J D (i + 1)).2.length = i + 1 := by rw [unhide HX]; simp [unhide HLI]
      have hi1 : i + 1 ≤ J.ring := by
        have a := hok1.2.2.2.1
        have b := live_ring hok1.1
        rw [hok1.2.1] at b
        omega
      have hT1 := (unhide HT).keptK f1 (fun k e => by
        have := e.1
        unfold KD KJ at this
        omega)
      have hnz := (unhide HF).size
      have HT1 := hide hT1
      have HJ1 := hide hJ1
      have HF1 := hide (zs_trans (unhide HF) f1)
      have HP := hide (hP.mono hnz)
      have HG := hide (Nat.le_trans hnz hG)
      have hRG := (unhide HO).place
      clear hx f1 HT HF HJ hT1 hJ1 hP hG hok1
      obtain ⟨⟨gs, hgl, hgo, hge⟩, hgn⟩ := unhide HT1
      rw [unhide HLI] at hgo
      have HO1 := hide (hgo.alloc (.cells #[.slice (some ⟨G, 0, none⟩) (gtN p) (gtN p)] 28))
      have HSR := hide (one_cellV w1 (.slice (some ⟨G, 0, none⟩) (gtN p) (gtN p)) 28)
      have HGL := hide hgl
      have HGE := hide hge
      have HGN := hide hgn
      clear hgo hgl hge hgn
      go_wp2_with (at_builtin; refine wpList_app rfl (.tmp 18) (.tmp 20) 79 rfl 28 inf _ 1 24 Try.u79 hi0 hz0 hz1 hz2 rfl (by decide) (.slice ao i c) i _ rfl (.slice (some ⟨w1.heap.size, 0, none⟩) 1 1) rfl 1 [.slice (some ⟨G, 0, none⟩) (gtN p) (gtN p)] (unhide HO1) (unhide HSR) (fun u hu => by simp at hu; subst hu; rfl) (by omega) (by simp only [maxLen]; omega) ?_)
      intro ao4 ac4 w4 o4 g4 p4
      have f4 : Fr (fun k => (Value.slice ao i c).ownBlock = some k) w1 w4 := ((Fr.refl _ _).alloc (.cells #[.slice (some ⟨G, 0, none⟩) (gtN p) (gtN p)] 28)).grown g4 (fun k _ e => e)
      have hkd : ∀ k, (Value.slice ao i c).ownBlock = some k → knd w1 k = 28 := fun k e => by
        obtain ⟨⟨gs', -, ho', -⟩, -⟩ := unhide HT1
        exact knd_owns ho' e
      have hs4 := f4.size
      have hsw := (unhide HF1).size
      have HJ4 := hide (show JS X w0 w4 j s (rtJ (raI J D i).1 D) D by
        obtain ⟨⟨mv, sv, qv, h1, h2, h3⟩, h5, h6⟩ := unhide HJ1
        exact ⟨⟨mv, sv, qv, h1.kept f4 (fun k e z => by have a := h1.knds e; have b := hkd k z; unfold KJ at a; omega), h2.kept f4 (fun k e z => by have a := h2.knds e; have b := hkd k z; unfold KD at a; omega), h3⟩, h5, Nat.le_trans h6 hs4⟩)
      have HF4 := hide (show Fr (Zs X w0 w) w w4 from (unhide HF1).trans f4 (fun k hk e => by have := unhide HGN k e; omega))
      have HT4 := hide (show Tl w.heap.size w4 (.slice ao4 (i + 1) ac4) ((raI J D i).2 ++ [p]) by
        refine ⟨⟨gs ++ [G], by simp [unhide HGL], ?_, fun i' hi' => ?_⟩, fun b hb => ?_⟩
        · rw [tlV_more gs _ G p (unhide HGL), List.length_append, unhide HLI]
          exact o4
        · by_cases e : i' < (raI J D i).2.length
          · obtain ⟨g, h1, h2, h3⟩ := unhide HGE i' e
            have e1 : ((raI J D i).2 ++ [p])[i'] = (raI J D i).2[i'] := List.getElem_append_left e
            rw [e1]
            exact ⟨g, by rw [List.getElem?_append_left (by rw [unhide HGL]; exact e)]; exact h1, h2, h3.keptK f4 (fun k z => by have := hkd k z; omega)⟩
          · have e2 : i' = (raI J D i).2.length := by simp at hi'; omega
            subst e2
            have e1 : ((raI J D i).2 ++ [p])[(raI J D i).2.length]'hi' = p := by simp
            rw [e1]
            exact ⟨G, by rw [← unhide HGL]; simp, unhide HG, (unhide HP).keptK f4 (fun k z => by have := hkd k z; omega)⟩
        · rcases p4 with e | ⟨k', e, hk'⟩
          · rw [e] at hb; exact unhide HGN b hb
          · rw [e] at hb; simp at hb hk'; omega)
      clear o4 g4 p4 f4 hkd hs4 hsw HO1 HSR HT1 HJ1 HF1
      go_wp2_with fail
      go_roundw
      case rel => exact ⟨i + 1, ao4, ac4, hi1, rfl, hlen, by rw [unhide HX]; exact unhide HT4, by rw [unhide HX]; exact unhide HJ4, unhide HF4⟩
      case measure => simp only [lenOf]; omega
end Go.Proofs.Ytgodlfoidjeekaa

namespace Go.Proofs.Ytgodlfoidjeekaa
set_option linter.unusedVariables false
set_option linter.unusedSimpArgs false
open Go.RowKit
set_option linter.unusedVariables false
set_option linter.unusedSimpArgs false

attribute [local go_sem ↓] Go.wp_at_zero Go.wp_at_succ

def bgU (u : Su) : Su := ⟨u.g + 1, u.b + 1, u.p, u.l, u.x, u.y⟩
def bgB (u : Su) : Bool := wiB [u.g + 1, u.b + 1]
def bgE (J : Jn) (D : Dv) : Int := if bgB J.sup = true then wsE D (bgU J.sup) else 5
def bgJ (J : Jn) (D : Dv) : Jn := if bgB J.sup = true then (if wsE D (bgU J.sup) = 0 then J.syn.setS (bgU J.sup) else J) else J
def bgD (J : Jn) (D : Dv) : Dv := if bgB J.sup = true then stD J D (bgU J.sup) else D
theorem bgU_ok {u : Su} (h : u.Ok) (hb : bgB u = true) : (bgU u).Ok := by
  unfold bgB wiB at hb
  simp only [List.all_cons, List.all_nil, Bool.and_eq_true, decide_eq_true_eq] at hb
  unfold Su.Ok bgU at *
  simp only
  omega
theorem Jn.Ok.setS2 {J : Jn} {n : Nat} (h : J.Ok n) (u : Su) (hu : u.Ok) (hp : u.p = J.sup.p) (hx : u.x = J.sup.x ∧ u.y = J.sup.y) : (J.setS u).Ok n := by
  refine ⟨h.place, h.ring, hu, h.marks, ?_, ?_, h.serial, h.synced⟩
  · show rise u.p J.live
    rw [hp]; exact h.up
  · have e : (J.setS u).nd = J.nd := by unfold Jn.nd Jn.last Jn.setS; simp only [hp, hx]
    rw [e]
    show J.nd ≤ u.p + J.ring
    rw [hp]; exact h.full
theorem js_setX {X : Nat → Prop} {w0 w : World} {j s : Nat} {J : Jn} {D : Dv} (h : JS X w0 w j s J D) (u : Su) (ok' : (J.setS u).Ok D.S.length) : w.there j 3 6 ∧ JS X w0 (w.setCells j 3 u.vs) j s (J.setS u) D ∧ Fr (Zs X w0 w) w (w.setCells j 3 u.vs) := by
  obtain ⟨⟨mv, sv, qv, hJ, hD, hB⟩, ok, sz⟩ := h
  obtain ⟨h1, h2⟩ := hJ.setS u
  exact ⟨hJ.there, js_jr hJ hD hB sz h1 h2 (fun _ e => .inl e) ok'⟩
theorem js_sup {X : Nat → Prop} {w0 w : World} {j s : Nat} {J : Jn} {D : Dv} (h : JS X w0 w j s J D) : w.rangeAt j 3 J.sup.vs := by
  obtain ⟨⟨mv, sv, qv, hJ, -, -⟩, -, -⟩ := h
  intro i v hv
  rw [cell_of_heap hJ.heap]
  have hi : i < 6 := by have := (List.getElem?_eq_some_iff.1 hv).1; simpa [Su.vs] using this
  rcases (by omega : i = 0 ∨ i = 1 ∨ i = 2 ∨ i = 3 ∨ i = 4 ∨ i = 5) with rfl | rfl | rfl | rfl | rfl | rfl <;> exact hv

set_option maxRecDepth 100000 in
set_option maxHeartbeats 2000000 in
theorem begin_any {X : Nat → Prop} {w0 : World} (w : World) (j s : Nat) (J : Jn) (D : Dv) (H : JS X w0 w j s J D) (hqq : D.Q.length < 1000000) : Calls Try.prog 80 #[.pointer (some ⟨j, 0, none⟩)] w fun e w' => e = .returned (.int .i64 (bgE J D)) ∧ JS X w0 w' j s (bgJ J D) (bgD J D) ∧ Fr (Zs X w0 w) w w' := by
  have HS := hide H
  have hrg := js_sup H
  have hok := H.ok.sup
  have HOK := hide H.ok
  unfold Su.vs at hrg
  have HRG := hide hrg
  clear H hrg
  have HUO := hide hok
  obtain ⟨o1, o2, o3, o4, o5, o6⟩ := hok
  have HE := hide (show bgE J D = if bgB J.sup = true then wsE D (bgU J.sup) else 5 from rfl)
  have HJ := hide (show bgJ J D = if bgB J.sup = true then (if wsE D (bgU J.sup) = 0 then J.syn.setS (bgU J.sup) else J) else J from rfl)
  have HD := hide (show bgD J D = if bgB J.sup = true then stD J D (bgU J.sup) else D from rfl)
  have k1 : IntKind.u64.wrap ((J.sup.g : Int) + 1) = ((J.sup.g + 1 : Nat) : Int) := by
    have := wrapU (J.sup.g + 1) (by omega)
    exact_mod_cast this
  have k2 : IntKind.u64.wrap ((J.sup.b : Int) + 1) = ((J.sup.b + 1 : Nat) : Int) := by
    have := wrapU (J.sup.b + 1) (by omega)
    exact_mod_cast this
  obtain ⟨u, hu⟩ : ∃ u, u = J.sup := ⟨_, rfl⟩
  rw [← hu] at HRG k1 k2 HE HJ HD HUO o1 o2 o3 o4 o5 o6
  have HU := hide hu
  clear hu o1 o2 o3 o4 o5 o6
  obtain ⟨g, b, p, l, x, y⟩ := u
  dsimp only at k1 k2 HRG
  go_enter Try.func80, Try.ntmps80
  go_upto_region 4 with (refine wpList_load_mid rfl 27 (.tmp 7) rfl j 3 rfl _ _ (unhide HRG) Try.underlying27 rfl (by kernel_rfl) ?_)
  have hA := heap_alloc_new w (.cells #[.int .u64 ((g : Int) + 1), .int .u64 ((b : Int) + 1), .int .u64 (p : Int), .int .u64 (l : Int), .int .u64 (x : Int), .int .u64 (y : Int)] 27)
  have fA : Fr (fun _ => False) w (w.alloc (.cells #[.int .u64 ((g : Int) + 1), .int .u64 ((b : Int) + 1), .int .u64 (p : Int), .int .u64 (l : Int), .int .u64 (x : Int), .int .u64 (y : Int)] 27)) := (Fr.refl _ _).alloc _
  have HS2 := hide ((unhide HS).kept0 fA)
  have FA := hide fA
  refine wp_world ?_
  intro w2 hw2
  rw [← hw2] at hA HS2 FA
  obtain ⟨q, hq⟩ : ∃ q, q = w.heap.size := ⟨_, rfl⟩
  rw [← hq] at hA ⊢
  have HA := hide hA
  clear hw2 hq hA fA HS HRG
  have fB : Fr (fun _ => False) w2 (w2.alloc (.cells #[.int .u64 ((g : Int) + 1), .int .u64 ((b : Int) + 1)] 22)) := (Fr.refl _ _).alloc _
  have hrv : RdV (w2.alloc (.cells #[.int .u64 ((g : Int) + 1), .int .u64 ((b : Int) + 1)] 22)) (.slice (some ⟨w2.heap.size, 0, none⟩) 2 2) (uvs [g + 1, b + 1]) := by
    refine .inr ⟨⟨w2.heap.size, 0, none⟩, 2, rfl, Nat.le_refl _, by decide, fun j hj => ?_⟩
    rw [Addr.add_lit, Nat.zero_add, cell_of_heap (heap_alloc_new w2 _)]
    have : j < 2 := hj
    rcases (by omega : j = 0 ∨ j = 1) with rfl | rfl <;> rfl
  have HW := hide (within_any _ _ [g + 1, b + 1] hrv (by show 2 ≤ 1000; omega))
  have HS3 := hide ((unhide HS2).kept0 fB)
  have HA3 := hide ((fB.block _ (lt_of_heap (unhide HA)) id).trans (unhide HA))
  have F3 := hide ((unhide FA).trans fB (fun _ _ e => e))
  have HWB := hide (show bgB ⟨g, b, p, l, x, y⟩ = wiB [g + 1, b + 1] from rfl)
  have hcell := cell_of_heap (unhide HA) 0
  have hcell1 := cell_of_heap (unhide HA) 1
  simp at hcell hcell1
  clear fB hrv HS2 HA FA
  by_cases hb : wiB [g + 1, b + 1] = true
  case neg =>
    have hb' : wiB [g + 1, b + 1] = false := by simpa using hb
    rw [hb'] at HW
    go_wp2_with fail
    refine (unhide HW).mono ?_
    rintro e w3 ⟨rfl, rfl⟩
    go_wp2_with fail
    go_ret
    rw [unhide HE, unhide HJ, unhide HD, if_neg (by rw [unhide HWB]; exact hb), if_neg (by rw [unhide HWB]; exact hb), if_neg (by rw [unhide HWB]; exact hb)]
    exact ⟨rfl, unhide HS3, zs_none (unhide F3)⟩
  case pos =>
    rw [hb] at HW
    go_upto_region 6 with (go_at_call 54; refine (unhide HW).mono ?_; rintro e w3 ⟨rfl, rfl⟩)
    have HU2 := hide (bgU_ok (unhide HUO) (by rw [unhide HWB]; exact hb))
    have HE2 : Hid (bgE J D = wsE D (bgU ⟨g, b, p, l, x, y⟩)) := hide (by rw [unhide HE, if_pos (by rw [unhide HWB]; exact hb)])
    have HJ2 : Hid (bgJ J D = if wsE D (bgU ⟨g, b, p, l, x, y⟩) = 0 then J.syn.setS (bgU ⟨g, b, p, l, x, y⟩) else J) := hide (by rw [unhide HJ, if_pos (by rw [unhide HWB]; exact hb)])
    have HD2 : Hid (bgD J D = stD J D (bgU ⟨g, b, p, l, x, y⟩)) := hide (by rw [unhide HD, if_pos (by rw [unhide HWB]; exact hb)])
    clear HE HJ HD HW HWB hb k1 k2 hcell hcell1
    refine wp_world ?_
    intro w3 hw3
    rw [← hw3] at HS3 HA3 F3
    clear hw3
    have HC : Hid (Calls Try.prog 77 #[.pointer (some ⟨j, 0, none⟩), .agg #[.int .u64 ((g : Int) + 1), .int .u64 ((b : Int) + 1), .int .u64 (p : Int), .int .u64 (l : Int), .int .u64 (x : Int), .int .u64 (y : Int)]] w3 fun e w' => e = .returned (.int .i64 (wsE D (bgU ⟨g, b, p, l, x, y⟩))) ∧ JS X w0 w' j s (stJ J D (bgU ⟨g, b, p, l, x, y⟩)) (stD J D (bgU ⟨g, b, p, l, x, y⟩)) ∧ Fr (Zs X w0 w3) w3 w') := hide (by
      have := settle_any w3 j s J D (bgU ⟨g, b, p, l, x, y⟩) (unhide HS3) hqq
      simpa [Su.v, bgU] using this)
    obtain ⟨E, hE⟩ : ∃ E, E = wsE D (bgU ⟨g, b, p, l, x, y⟩) := ⟨_, rfl⟩
    rw [← hE] at HC HE2 HJ2
    have hsj : stJ J D (bgU ⟨g, b, p, l, x, y⟩) = if E = 0 then J.syn else J := by unfold stJ; rw [hE]
    rw [hsj] at HC
    clear hE hsj
    go_wp2_with (refine wl_loadR 27 6 _ Try.underlying27 (by kernel_rfl) (.tmp 3) rfl rfl q rfl _ 27 (unhide HA3) rfl ?_)
    refine (unhide HC).mono ?_
    rintro e w4 ⟨rfl, h4, f4⟩
    have HA4 := hide ((f4.block _ (lt_of_heap (unhide HA3)) (fun e => by
      have := e.1
      rw [knd_cells (unhide HA3)] at this
      unfold KD KJ at this
      omega)).trans (unhide HA3))
    have F4 := hide (zs_trans (zs_none (unhide F3)) f4)
    have H4 := hide h4
    clear h4 f4 HC HS3 F3 HA3
    by_cases h0 : E = 0
    · subst h0
      rw [if_pos rfl] at H4 HJ2
      have hst := js_setX (unhide H4) (bgU ⟨g, b, p, l, x, y⟩) (by
        rw [stD_len]
        exact (unhide HOK).syn.setS2 _ (unhide HU2) (by show p = J.sup.p; rw [← unhide HU]) (by show x = J.sup.x ∧ y = J.sup.y; rw [← unhide HU]; exact ⟨rfl, rfl⟩))
      have HTH := hide hst.1
      have HNN : Hid (∀ w5, w5 = w4.setCells j 3 (#[.int .u64 ((g : Int) + 1), .int .u64 ((b : Int) + 1), .int .u64 (p : Int), .int .u64 (l : Int), .int .u64 (x : Int), .int .u64 (y : Int)] : Array Value).toList → JS X w0 w5 j s (J.syn.setS (bgU ⟨g, b, p, l, x, y⟩)) (stD J D (bgU ⟨g, b, p, l, x, y⟩)) ∧ Fr (Zs X w0 w4) w4 w5) := hide (fun w5 e => by
        have h9 := hst.2
        have e2 : (bgU ⟨g, b, p, l, x, y⟩).vs = (#[.int .u64 ((g : Int) + 1), .int .u64 ((b : Int) + 1), .int .u64 (p : Int), .int .u64 (l : Int), .int .u64 (x : Int), .int .u64 (y : Int)] : Array Value).toList := by simp [Su.vs, bgU]
        rw [e2, ← e] at h9
        exact h9)
      clear hst
      go_wp2_with (first | (refine wl_loadR 27 6 _ Try.underlying27 (by kernel_rfl) (.tmp 3) rfl rfl q rfl _ 27 (unhide HA4) rfl ?_) | (refine wl_storeM 27 6 (by kernel_rfl) (.tmp 33) (.tmp 31) rfl rfl j 3 rfl _ rfl (unhide HTH) rfl (by simp [Value.oneCell']) ?_; intro w5 hw5; obtain ⟨hn5, hf5⟩ := unhide HNN w5 hw5; have HN5 := hide hn5; have HF5 := hide hf5; clear hw5 hn5 hf5))
      go_ret
      rw [unhide HE2, unhide HJ2, unhide HD2]
      exact ⟨rfl, unhide HN5, zs_trans (unhide F4) (unhide HF5)⟩
    · rw [if_neg h0] at H4 HJ2
      have b1 : (E != 0) = true := by simpa using h0
      clear h0
      go_wp2_with fail
      go_ret
      rw [unhide HE2, unhide HJ2, unhide HD2]
      exact ⟨rfl, unhide H4, unhide F4⟩
end Go.Proofs.Ytgodlfoidjeekaa

namespace Go.Proofs.Ytgodlfoidjeekaa
set_option linter.unusedVariables false
set_option linter.unusedSimpArgs false
open Go.RowKit
set_option linter.unusedVariables false
set_option linter.unusedSimpArgs false

attribute [local go_sem ↓] Go.wp_at_zero Go.wp_at_succ

def opR (D : Dv) (f c : Nat) : Jn × List (List UInt8) := raR (fsI (jn0 f c) D 2) D
/-- What Open answers, and makes. -/
def opE (D : Dv) (f c : Nat) : Int := if fsE (jn0 f c) D = 0 then bgE (opR D f c).1 D else fsE (jn0 f c) D
def opJ (D : Dv) (f c : Nat) : Jn := bgJ (opR D f c).1 D
def opD (D : Dv) (f c : Nat) : Dv := if fsE (jn0 f c) D = 0 then bgD (opR D f c).1 D else D

theorem Tl.mono {N M : Nat} {w : World} {v : Value} {ps : List (List UInt8)} (h : Tl M w v ps) (hN : N ≤ M) : Tl N w v ps := by
  obtain ⟨⟨gs, h1, h2, h3⟩, h4⟩ := h
  refine ⟨⟨gs, h1, h2, fun i hi => ?_⟩, fun b hb => Nat.le_trans hN (h4 b hb)⟩
  obtain ⟨g, h5, h6, h7⟩ := h3 i hi
  exact ⟨g, h5, Nat.le_trans hN h6, h7.mono hN⟩
/-- What Open leaves. -/
def OpP (X : Nat → Prop) (w0 w : World) (s : Nat) (D : Dv) (f c : Nat) (e : Ending) (w' : World) : Prop :=
  (opE D f c ≠ 0 ∧ e = .returned (.tuple #[.pointer none, .slice none 0 0, .int .i64 (opE D f c)]) ∧ DW X w0 w' s (opD D f c) ∧ Fr (Zs X w0 w) w w') ∨
  (opE D f c = 0 ∧ ∃ j v, e = .returned (.tuple #[.pointer (some ⟨j, 0, none⟩), v, .int .i64 0]) ∧ w.heap.size ≤ j ∧ Tl w.heap.size w' v (opR D f c).2 ∧ JS X w0 w' j s (opJ D f c) (opD D f c) ∧ Fr (Zs X w0 w) w w')

section
variable {X : Nat → Prop} {w0 : World} (w : World) (s : Nat) (D : Dv)
set_option maxRecDepth 100000 in
theorem open_no (f c : Int) (hf : -9223372036854775808 ≤ f ∧ f ≤ 9223372036854775807) (h : DW X w0 w s D) (hn : D.S.length ≤ 1000) (he : fitE f c D.S.length ≠ 0) : Calls Try.prog 41 #[.iface 64 (.pointer (some ⟨s, 0, none⟩)), .int .i64 f, .int .i64 c] w fun e w' => e = .returned (.tuple #[.pointer none, .slice none 0 0, .int .i64 (fitE f c D.S.length)]) ∧ w = w' := by
  have HC := hide (fits_any w s D f c hf h hn)
  have b1 : (fitE f c D.S.length != 0) = true := by simpa using he
  generalize fitE f c D.S.length = E at *
  clear h
  go_enter Try.func41, Try.ntmps41
  go_wp2_with fail
  refine (unhide HC).mono ?_
  rintro e w' ⟨rfl, rfl⟩
  go_wp2_with fail
  go_ret3
  exact ⟨rfl, rfl⟩
set_option maxRecDepth 100000 in
theorem open_nil (w : World) (f c : Value) : Calls Try.prog 41 #[.nilIface, f, c] w fun e w' => e = .returned (.tuple #[.pointer none, .slice none 0 0, .int .i64 7]) ∧ w = w' := by
  go_enter Try.func41, Try.ntmps41
  go_wp2_with fail
  refine (fits_nil w f c).mono ?_
  rintro e w' ⟨rfl, rfl⟩
  go_wp2_with fail
  go_ret3
  exact ⟨rfl, rfl⟩
set_option maxRecDepth 100000 in
set_option maxHeartbeats 4000000 in
theorem open_any (f c : Nat) (h1 : 6 ≤ c) (h2 : f + c ≤ D.S.length) (h3 : D.S.length ≤ 1000) (hqq : D.Q.length < 1000000) (h : DW X w0 w s D) : Calls Try.prog 41 #[.iface 64 (.pointer (some ⟨s, 0, none⟩)), .int .i64 (f : Int), .int .i64 (c : Int)] w fun e w' => OpP X w0 w s D f c e w' := by
  have he : fitE (f : Int) (c : Int) D.S.length = 0 := by unfold fitE; rw [if_neg (by omega)]
  have HC := hide (fits_any w s D f c (by omega) h h3)
  rw [he] at HC
  have ok := jn0_ok f c D.S.length h1 h2 h3
  have HJ := hide (h.jn ok)
  have fA : Fr (fun _ => False) w (w.alloc (.cells #[.iface 64 (.pointer (some ⟨s, 0, none⟩)), .int .i64 (f : Int), .int .i64 ((c - 2 : Nat) : Int), .int .u64 0, .int .u64 0, .int .u64 0, .int .u64 0, .int .u64 0, .int .u64 0, .slice none 0 0, .int .u64 0, .int .u64 0] 115)) := (Fr.refl _ _).alloc _
  have FA := hide fA
  have hc2 : (c : Int) - 2 = ((c - 2 : Nat) : Int) := by omega
  have HQ := hide hqq
  clear h he ok fA hqq
  go_enter Try.func41, Try.ntmps41
  go_wp2_with fail
  refine (unhide HC).mono ?_
  rintro e w' ⟨rfl, rfl⟩
  clear HC
  go_upto_region 5 with fail
  refine wp_world ?_
  intro W1 hW1
  rw [← hW1] at HJ FA
  obtain ⟨j, hj⟩ : ∃ j, j = w.heap.size := ⟨_, rfl⟩
  rw [← hj] at HJ ⊢
  have HJN := hide (show w.heap.size ≤ j by omega)
  clear hW1 hj
  have HFS := hide (findSuper_any W1 j s (jn0 f c) D (unhide HJ) rfl)
  clear HJ
  by_cases h0 : fsE (jn0 f c) D = 0
  case neg =>
    have HE : Hid (opE D f c = fsE (jn0 f c) D) := hide (by unfold opE; rw [if_neg h0])
    have HD : Hid (opD D f c = D) := hide (by unfold opD; rw [if_neg h0])
    have H0 := hide h0
    have b1 : (fsE (jn0 f c) D != 0) = true := by simpa using h0
    clear h0
    go_wp2_with fail
    refine (unhide HFS).mono ?_
    rintro e w2 ⟨rfl, h2', f2⟩
    have H2 := hide h2'.dw
    have F2 := hide (zs_trans (zs_none (unhide FA)) f2)
    clear h2' f2 HFS FA
    generalize fsE (jn0 f c) D = E at *
    go_wp2_with fail
    go_ret3
    left
    rw [unhide HE, unhide HD]
    exact ⟨unhide H0, rfl, unhide H2, unhide F2⟩
  case pos =>
    have HE : Hid (opE D f c = bgE (opR D f c).1 D) := hide (by unfold opE; rw [if_pos h0])
    have HD : Hid (opD D f c = bgD (opR D f c).1 D) := hide (by unfold opD; rw [if_pos h0])
    rw [h0] at HFS
    clear h0
    go_wp2_with fail
    refine (unhide HFS).mono ?_
    rintro e w2 ⟨rfl, h2', f2⟩
    have H2 := hide h2'
    have F2 := hide (zs_trans (zs_none (unhide FA)) f2)
    clear h2' f2 HFS FA
    go_wp2_with fail
    refine (readAll_any w2 j s _ D (unhide H2)).mono ?_
    rintro e w3 ⟨v, rfl, hT, h3', f3⟩
    obtain ⟨ao, n, c', rfl⟩ : ∃ ao n c', v = .slice ao n c' := by
      obtain ⟨⟨gs, -, ho, -⟩, -⟩ := hT
      obtain ⟨ao, c', rfl⟩ := owns_shape ho
      exact ⟨_, _, _, rfl⟩
    have H3 := hide (show JS X w0 w3 j s (opR D f c).1 D from h3')
    have F3 := hide (zs_trans (unhide F2) f3)
    have hns := (unhide F2).size
    have HT := hide (show Tl w2.heap.size w3 (.slice ao n c') (opR D f c).2 from hT)
    have HNS := hide hns
    clear hT h3' f3 H2 hns
    go_wp2_with fail
    refine (begin_any w3 j s _ D (unhide H3) (unhide HQ)).mono ?_
    rintro e w4 ⟨rfl, h4, f4⟩
    have H4 := hide (show JS X w0 w4 j s (opJ D f c) (bgD (opR D f c).1 D) from h4)
    have F4 := hide (zs_trans (unhide F3) f4)
    have HT4 := hide ((unhide HT).keptK f4 (fun k e => by
      have := e.1
      unfold KD KJ at this
      omega))
    clear h4 f4 H3 F3 HT
    obtain ⟨E, hE⟩ : ∃ E, E = bgE (opR D f c).1 D := ⟨_, rfl⟩
    rw [← hE] at HE ⊢
    clear hE
    by_cases h0 : E = 0
    · subst h0
      go_wp2_with fail
      go_ret3
      right
      rw [unhide HD]
      exact ⟨unhide HE, j, _, rfl, unhide HJN, (unhide HT4).mono (unhide HNS), unhide H4, unhide F4⟩
    · have b1 : (E != 0) = true := by simpa using h0
      have H0 := hide h0
      clear h0
      go_wp2_with fail
      go_ret3
      left
      rw [unhide HE, unhide HD]
      exact ⟨unhide H0, rfl, (unhide H4).dw, unhide F4⟩
end
end Go.Proofs.Ytgodlfoidjeekaa

namespace Go.Proofs.Ytgodlfoidjeekaa
set_option linter.unusedVariables false
set_option linter.unusedSimpArgs false
open Go.RowKit
set_option linter.unusedVariables false
set_option linter.unusedSimpArgs false

section
variable {P : Program} {ops : Array Oper} {Q : Exit → Act → World → Prop}
theorem wpAny_chain2 {l : List Oper} {a : Act} {w : World} (hm : P.follows .mixedOrders = true) (hB : backB l 0 = true) (nd : (dsts l).Nodup) (hd : ∀ d ∈ dsts l, d < a.tmps.size)
    (RO R Rc : World → World → Prop) (Rdrew : RO w w.drew) (Rtrans : ∀ a b c, RO a b → RO b c → RO a c) (r1 : ∀ a b, R a b → RO a b) (r2 : ∀ a b, Rc a b → RO a b)
    (T : Nat → Nat → Value → World → Prop) (mono : ∀ k i v w1 w2, T k i v w1 → R w1 w2 → T k i v w2) (monoC : ∀ k i v w1 w2, T k i v w1 → Rc w1 w2 → T (k + 1) i v w2)
    (calls : List Nat) (cn : calls.Nodup) (cl : ∀ i ∈ calls, i < l.length) (cp : ∀ k i j, calls[k]? = some i → calls[k + 1]? = some j → Path l j i) (St : Nat → World → Prop) (st0 : St 0 w.drew)
    (steps : Steps2 P Q l RO R Rc St T calls a w 0 l)
    (done : ∀ a' w', Base l a a' → RO w w' → St calls.length w' → (∀ j, j < l.length → Held l (T calls.length) a' w' j) → Q .normal a' w') : wpAny P .any l.toArray Q l.length (Array.replicate l.length false) a { w with drawn := w.drawn + 1 } := by
  have hsz : l.toArray.size = l.length := by simp
  let I : Array Bool → Act → World → Prop := fun listed a' w' => listed.size = l.length ∧ Base l a a' ∧ RO w w' ∧ Shut l listed ∧
    ∃ k, (∀ j, listed.getD j false = true → Held l (T k) a' w' j) ∧ k ≤ calls.length ∧ St k w' ∧ ∀ m i, calls[m]? = some i → (listed.getD i false = true ↔ m < k)
  refine wpAny_inv I ?_ ?_ _ _ _ _ ?_ ?_
  · intro listed a' w' i ⟨h1, h2, h3, hS, k, h4, hk, hst, hck⟩ hi
    obtain ⟨h5, o, ho, h6⟩ := mem_ready.1 hi
    have ho' : l[i]? = some o := by simpa using ho
    have hil : i < l.length := (List.getElem?_eq_some_iff.1 ho').1
    have hdep : ∀ j, depB o j = true → listed.getD j false = true := fun j hj => by
      unfold depB at hj
      rw [← Array.any_toList, List.any_eq_true] at hj
      obtain ⟨e, he', hb⟩ := hj
      have he : e ∈ o.after := by simpa using he'
      simp only [Bool.and_eq_true, beq_iff_eq] at hb
      rw [← hb.2]
      exact h6 e he hb.1
    have hni : listed.getD i false = false := by
      have hlt : i < listed.size := by omega
      simp [hlt] at h5 ⊢
      exact h5
    have hmk : ∀ m, calls[m]? = some i → m = k := fun m hm' => by
      have h7 : ¬ m < k := fun h => by rw [(hck m i hm').2 h] at hni; simp at hni
      rcases Nat.eq_zero_or_pos m with e | e
      · omega
      · obtain ⟨m', rfl⟩ : ∃ m', m = m' + 1 := ⟨m - 1, by omega⟩
        have hlt : m' < calls.length := by have := (List.getElem?_eq_some_iff.1 hm').1; omega
        have hp := cp m' _ i (List.getElem?_eq_getElem hlt) hm'
        have := hp.listed hS (fun o2 ho2 j hj => by rw [ho'] at ho2; simp at ho2; subst ho2; exact hdep j hj)
        have := (hck m' _ (List.getElem?_eq_getElem hlt)).1 this
        omega
    have hle : ∀ m j, calls[m]? = some j → Path l j i → k ≤ m := fun m j hmj hp => by
      rcases Nat.lt_or_ge m k with h | h
      · have hj := (hck m j hmj).2 h
        have := hp.listed hS (fun o2 ho2 x hx => hS j o2 ho2 hj x hx)
        rw [this] at hni
        simp at hni
      · exact h
    have hge : ∀ m j, calls[m]? = some j → Path l i j → m < k := fun m j hmj hp =>
      (hck m j hmj).1 (hp.listed hS (fun o2 ho2 x hx => by rw [ho'] at ho2; simp at ho2; subst ho2; exact hdep x hx))
    have hst' := steps.get ho'
    rw [Nat.zero_add] at hst'
    obtain ⟨hw, hwp⟩ := hst' a' w' k h2 h3 hst hmk hle hge (fun j hj => h4 _ (hdep j hj))
    unfold wpOp
    simp only [ho, hw, if_true]
    refine .inl (Oper.wp_mono ?_ hwp)
    rintro a'' w'' ⟨v, rfl, hT, hf, hfc, hsk⟩
    have hRO : RO w' w'' := by
      by_cases hic : i ∈ calls
      · exact r2 _ _ (hfc hic)
      · exact r1 _ _ (hf hic)
    have hold : ∀ j v, T k j v w' → T (if i ∈ calls then k + 1 else k) j v w'' := fun j v h => by
      by_cases hic : i ∈ calls
      · rw [if_pos hic]; exact monoC _ _ _ _ _ h (hfc hic)
      · rw [if_neg hic]; exact mono _ _ _ _ _ h (hf hic)
    refine ⟨by simp [h1], ⟨?_, ?_, fun s hs => ?_⟩, Rtrans _ _ _ h3 hRO, ?_, (if i ∈ calls then k + 1 else k), fun j hj d hdj => ?_, ?_⟩
    · cases hdst : o.dst with
      | none => exact h2.size
      | some d => simp [Act.put, h2.size]
    · cases hdst : o.dst with
      | none => exact h2.defers
      | some d => exact h2.defers
    · cases hdst : o.dst with
      | none => exact h2.old s hs
      | some d =>
        rw [put_getD (fun e => hs (by rw [← e]; exact mem_dsts ho' hdst))]
        exact h2.old s hs
    · intro i2 o2 ho2 hl2 j hj
      have grow : ∀ x, listed.getD x false = true → (listed.setIfInBounds i true).getD x false = true := fun x hx => by
        by_cases e : i = x
        · subst e
          have hlt : i < listed.size := by omega
          simp [hlt]
        · rw [getD_set_ne false e]; exact hx
      by_cases e : i = i2
      · subst e
        rw [ho'] at ho2
        simp at ho2
        subst ho2
        exact grow j (hdep j hj)
      · rw [getD_set_ne false e] at hl2
        exact grow j (hS i2 o2 ho2 hl2 j hj)
    · obtain ⟨oj, hoj, hdj'⟩ : ∃ oj, l[j]? = some oj ∧ oj.dst = some d := by
        cases hc : l[j]? with
        | none => rw [hc] at hdj; simp at hdj
        | some oj => rw [hc] at hdj; exact ⟨oj, rfl, by simpa using hdj⟩
      by_cases e : i = j
      · subst e
        rw [ho'] at hoj
        simp at hoj
        subst hoj
        rw [hdj', put_self (by rw [h2.size]; exact hd d (mem_dsts ho' hdj'))]
        exact hT
      · rw [getD_set_ne false e] at hj
        have hold' := hold _ _ (h4 j hj d hdj)
        cases hdst : o.dst with
        | none => exact hold'
        | some d' =>
          rw [put_getD (fun e2 => e (dsts_inj nd ho' hoj (by rw [hdst, e2]) hdj'))]
          exact hold'
    · by_cases hic : i ∈ calls
      · obtain ⟨m, hm'⟩ := List.getElem?_of_mem hic
        have hmk' := hmk m hm'
        subst hmk'
        rw [if_pos hic] at hsk ⊢
        have hml : m < calls.length := (List.getElem?_eq_some_iff.1 hm').1
        refine ⟨by omega, hsk, fun m2 i2 hm2 => ?_⟩
        by_cases e : i = i2
        · subst e
          have hlt : i < listed.size := by omega
          have : m2 = m := (List.getElem?_inj (List.getElem?_eq_some_iff.1 hm2).1 cn).1 (hm2.trans hm'.symm)
          subst this
          simp [hlt]
        · rw [getD_set_ne false e, hck m2 i2 hm2]
          constructor
          · intro h; omega
          · intro h
            rcases Nat.lt_or_ge m2 m with h' | h'
            · exact h'
            · have : m2 = m := by omega
              subst this
              rw [hm2] at hm'
              simp at hm'
              exact absurd hm'.symm e
      · rw [if_neg hic] at hsk ⊢
        refine ⟨hk, hsk, fun m2 i2 hm2 => ?_⟩
        rw [getD_set_ne false (fun e => hic (by subst e; exact List.mem_of_getElem? hm2)), hck m2 i2 hm2]
  · intro listed a' w' ⟨h1, h2, h3, hS, k, h4, hk, hst, hck⟩ hr
    have hall := all_listed hB h1 hr
    have hke : k = calls.length := by
      rcases Nat.lt_or_ge k calls.length with h | h
      · have := (hck k _ (List.getElem?_eq_getElem h)).1 (hall _ (cl _ (List.getElem_mem h)))
        omega
      · omega
    subst hke
    exact done a' w' h2 h3 hst (fun j hj => h4 j (hall j hj))
  · simp [lefts]
  · have none : ∀ j, ¬ (Array.replicate l.length false).getD j false = true := fun j hj => by
      simp only [Array.getD_eq_getD_getElem?, Array.getElem?_replicate] at hj
      split at hj <;> simp at hj
    exact ⟨by simp, ⟨rfl, rfl, fun _ _ => rfl⟩, Rdrew, fun i o _ hl => (none i hl).elim, 0, fun j hj => (none j hj).elim, Nat.zero_le _, st0, fun m i _ => ⟨fun h => (none i h).elim, fun h => by omega⟩⟩
end

section
variable {P : Program} {ops : Array Oper} {Q : Exit → Act → World → Prop} {lr n : Nat}
theorem rows_in {row : String} {args : Array Value} {w : World} {R : Value → World → Prop} (h : Rows P row args w R) : RowsIn (Fence.wide.inRound lr) n P row args w R := fun c cs _ => by
  obtain ⟨v, w', r, s⟩ := h c cs
  exact ⟨v, w', r, (stepsIn_wide.2 s : StepsIn (Machine.fenced P Fence.wide) P _ _)⟩
theorem oper_in {o : Oper} {a : Act} {w : World} {K : Act → World → Prop} (hd : ∀ c, o.op ≠ .defer c) (h : o.wp P a w K Q) : o.wpIn (Fence.wide.inRound lr) n P a w K Q := by
  refine ⟨fun _ _ => trivial, ?_⟩
  rw [Fence.inRound_round, Oper.semAt_some _ _ _ hd]
  unfold Oper.wp at h
  generalize (execOp a.eval o).run P w = r at *
  cases r with
  | ok x w' =>
    cases x <;> simp only [Oper.upon, Oper.uponIn] at h ⊢ <;> first
      | exact h
      | exact ⟨fun e => by simp [Fence.wide] at e, CallsIn.inRound lr (callsIn_wide.2 h)⟩
      | exact ⟨fun e => by simp [Fence.wide] at e, rows_in h⟩
  | halt x w' => cases x <;> simp only [Oper.upon, Oper.uponIn] at h ⊢ <;> exact h
def noDefer (l : List Oper) : Bool := l.all fun o => match o.op with | .defer _ => false | _ => true
theorem noDefer_get {l : List Oper} (h : noDefer l = true) {o : Oper} (ho : o ∈ l) : ∀ c, o.op ≠ .defer c := fun c e => by
  have := List.all_eq_true.1 h o ho
  rw [e] at this
  simp at this
theorem list_in (hL : ¬ LetsOut Q) : ∀ (l : List Oper), noDefer l = true → ∀ a w, wpList P ops Q l a w → wpListIn (Fence.wide.inRound lr) n P ops Q l a w := by
  intro l
  induction l with
  | nil => intro _ a w h; exact h
  | cons o r ih =>
    intro hd a w h
    have hd1 : noDefer r = true := by unfold noDefer at hd ⊢; rw [List.all_cons, Bool.and_eq_true] at hd; exact hd.2
    unfold wpList at h
    unfold wpListIn
    split at h
    · rename_i hw
      rw [if_pos hw]
      rcases h with h | h
      · exact oper_in (noDefer_get hd (List.mem_cons_self ..)) (Oper.wp_mono (fun a w h => ih hd1 a w h) h)
      · exact absurd h.2 hL
    · rename_i hw
      rw [if_neg hw]
      exact ⟨fun _ _ => trivial, ih hd1 _ _ h⟩
theorem any_in (hL : ¬ LetsOut Q) (hd : noDefer ops.toList = true) : ∀ (fuel : Nat) (listed : Array Bool) (a : Act) (w : World), wpAny P .any ops Q fuel listed a w → wpAnyIn (Fence.wide.inRound lr) n P .any ops Q fuel listed a w := by
  intro fuel
  induction fuel with
  | zero => intro listed a w h; exact h
  | succ fuel ih =>
    intro listed a w h
    refine ⟨h.1, fun i hi => ?_⟩
    have h2 := h.2 i hi
    unfold wpOp at h2
    unfold wpOpIn
    cases ho : ops[i]? with
    | none => simp only [ho] at h2 ⊢; exact ih _ _ _ h2
    | some o =>
      simp only [ho] at h2 ⊢
      split at h2
      · rename_i hw
        rw [if_pos hw]
        rcases h2 with h2 | h2
        · exact oper_in (noDefer_get hd (by obtain ⟨h3, h4⟩ := Array.getElem?_eq_some_iff.1 ho; rw [← h4]; simp)) (Oper.wp_mono (fun a w h => ih _ a w h) h2)
        · exact absurd h2.2 hL
      · rename_i hw
        rw [if_neg hw]
        exact ⟨fun _ _ => trivial, ih _ _ _ h2⟩
/-- A plain region in a round. -/
theorem region_in {id : Nat} {a : Act} {w : World} (hL : ¬ LetsOut Q) (hd : noDefer ops.toList = true) (h : wpList P ops Q ops.toList a w) : (Code.region id ops false).wpIn (Fence.wide.inRound lr) n P Q a w := wpIn_region_list (list_in hL _ hd a w h)
/-- A region that draws its order, in a round. -/
theorem wpIn_region_kinds (S : Nat → Prop) {id : Nat} {l : List Oper} {a : Act} {w : World} (hL : ¬ LetsOut Q) (hnd : noDefer l = true) (hm : P.follows .mixedOrders = true) (hB : backB l 0 = true) (nd : (dsts l).Nodup) (hd : ∀ d ∈ dsts l, d < a.tmps.size)
    (ks : List (Kd S)) (calls : List Nat) (cn : calls.Nodup) (cl : ∀ i ∈ calls, i < l.length) (cp : ∀ k i j, calls[k]? = some i → calls[k + 1]? = some j → Path l j i) (St : Nat → World → Prop) (st0 : St 0 w.drew)
    (steps : Steps2 P Q l (fun w w' => Fr S w w') (fun w w' => Fr (fun _ => False) w w') (fun w w' => Fr S w w') St (Tk ks) calls a w 0 l)
    (done : ∀ a' w', Base l a a' → Fr S w w' → St calls.length w' → (∀ j, j < l.length → Held l (Tk ks calls.length) a' w' j) → Q .normal a' w') : (Code.region id l.toArray true).wpIn (Fence.wide.inRound lr) n P Q a w :=
  wpIn_region_any hm (by
    have h := wpAny_chain2 hm hB nd hd _ _ _ (Fr.refl _ _).drew (fun _ _ _ h k => h.trans k (fun _ _ h => h)) (fun _ _ h => h.mono (fun _ _ h => h.elim)) (fun _ _ h => h) (Tk ks) (Tk.mono ks) (Tk.monoC ks) calls cn cl cp St st0 steps done
    have h2 := any_in (lr := lr) (n := n) hL (ops := l.toArray) (by simpa using hnd) _ _ _ _ h
    have hsz : l.toArray.size = l.length := by simp
    rw [hsz]
    exact h2)
end
end Go.Proofs.Ytgodlfoidjeekaa

namespace Go.Proofs.Ytgodlfoidjeekaa
set_option linter.unusedVariables false
set_option linter.unusedSimpArgs false
open Go.RowKit
set_option linter.unusedVariables false
set_option linter.unusedSimpArgs false

attribute [local go_sem] Oper.semAt_some

/-- How many pieces. -/
def nP (L : Nat) : Nat := (L + 335) / 336
def pieceV (B o L k : Nat) : Value := .slice (some ⟨B, o + 336 * k, none⟩) (min 336 (L - 336 * k)) (min 336 (L - 336 * k))
/-- What a round keeps. -/
def KpC (c1 c2 : Nat) (W W' : World) : Prop := ∀ v, (W.cell? ⟨c1, 0, none⟩ = some v → W'.cell? ⟨c1, 0, none⟩ = some v) ∧ (W.cell? ⟨c2, 0, none⟩ = some v → W'.cell? ⟨c2, 0, none⟩ = some v)

set_option maxRecDepth 100000 in
theorem chunk_any (w : World) (ao : Option Addr) (n c : Nat) : Calls Try.prog 88 #[.slice ao n c, .int .i64 336] w fun e w' => ∃ c1 c2, e = .returned (.func (.func 93) #[] #[.pointer (some ⟨c1, 0, none⟩), .pointer (some ⟨c2, 0, none⟩)]) ∧ w.heap.size ≤ c1 ∧ w.heap.size ≤ c2 ∧ w'.cell? ⟨c1, 0, none⟩ = some (.slice ao n c) ∧ w'.cell? ⟨c2, 0, none⟩ = some (.int .i64 336) ∧ Fr (fun _ => False) w w' ∧ knd w' c1 = 23 ∧ knd w' c2 = 3 := by
  have f1 : Fr (fun _ => False) w ((w.alloc (.cells #[.slice ao n c] 23)).alloc (.cells #[.int .i64 336] 3)) := ((Fr.refl _ _).alloc _).alloc _
  have hs : (w.alloc (.cells #[.slice ao n c] 23)).heap.size = w.heap.size + 1 := by simp
  have a1 : ((w.alloc (.cells #[.slice ao n c] 23)).alloc (.cells #[.int .i64 336] 3)).cell? ⟨w.heap.size, 0, none⟩ = some (.slice ao n c) := by
    have f2 : Fr (fun _ => False) (w.alloc (.cells #[.slice ao n c] 23)) ((w.alloc (.cells #[.slice ao n c] 23)).alloc (.cells #[.int .i64 336] 3)) := (Fr.refl _ _).alloc _
    rw [f2.cell (a := ⟨w.heap.size, 0, none⟩) (by rw [hs]; exact Nat.lt_succ_self _) id, cell_of_heap (heap_alloc_new w _)]; rfl
  have a2 : ((w.alloc (.cells #[.slice ao n c] 23)).alloc (.cells #[.int .i64 336] 3)).cell? ⟨w.heap.size + 1, 0, none⟩ = some (.int .i64 336) := by
    have := cell_of_heap (heap_alloc_new (w.alloc (.cells #[.slice ao n c] 23)) (.cells #[.int .i64 336] 3)) 0
    rw [hs] at this
    rw [this]; rfl
  have k1 : knd ((w.alloc (.cells #[.slice ao n c] 23)).alloc (.cells #[.int .i64 336] 3)) w.heap.size = 23 := by
    have f2 : Fr (fun _ => False) (w.alloc (.cells #[.slice ao n c] 23)) ((w.alloc (.cells #[.slice ao n c] 23)).alloc (.cells #[.int .i64 336] 3)) := (Fr.refl _ _).alloc _
    exact knd_cells ((f2.block _ (by rw [hs]; exact Nat.lt_succ_self _) id).trans (heap_alloc_new w _))
  have k2 : knd ((w.alloc (.cells #[.slice ao n c] 23)).alloc (.cells #[.int .i64 336] 3)) (w.heap.size + 1) = 3 := by
    have := heap_alloc_new (w.alloc (.cells #[.slice ao n c] 23)) (.cells #[.int .i64 336] 3)
    rw [hs] at this
    exact knd_cells this
  have A1 := hide a1
  have A2 := hide a2
  have F1 := hide f1
  have K1 := hide k1
  have K2 := hide k2
  clear a1 a2 f1 hs k1 k2
  go_enter Try.func88, Try.ntmps88
  go_wp2_with fail
  go_ret
  exact ⟨_, _, rfl, Nat.le_refl _, Nat.le_succ _, unhide A1, unhide A2, unhide F1, unhide K1, unhide K2⟩

set_option maxRecDepth 100000 in
set_option maxHeartbeats 2000000 in
theorem chunk_stops (n : Nat) (w : World) (c1 c2 B o L cap : Nat) (hn : 1 ≤ n) (hL : 1 ≤ L ∧ L ≤ 100000) (hc : L ≤ cap) (hm : cap ≤ maxLen) (h1 : w.cell? ⟨c1, 0, none⟩ = some (.slice (some ⟨B, o, none⟩) L cap)) (h2 : w.cell? ⟨c2, 0, none⟩ = some (.int .i64 336)) :
    SeqStopsK Fence.wide n Try.prog 93 #[.pointer (some ⟨c1, 0, none⟩), .pointer (some ⟨c2, 0, none⟩)] (fun k : Nat => #[pieceV B o L k]) (KpC c1 c2) (fun xs => xs = List.range (nP L)) (fun pre => ∃ k, k ≤ nP L ∧ pre = List.range k) (nP L) w := by
  intro l J Jx W hW hJ hJx hY h0
  have g1 : W.cell? ⟨c1, 0, none⟩ = some (.slice (some ⟨B, o, none⟩) L cap) := by rw [hW.cell (p := ⟨c1, 0, none⟩) (World.block_lt_of_cell? w _ h1)]; exact h1
  have g2 : W.cell? ⟨c2, 0, none⟩ = some (.int .i64 336) := by rw [hW.cell (p := ⟨c2, 0, none⟩) (World.block_lt_of_cell? w _ h2)]; exact h2
  clear h1 h2 hW hJx
  refine callsIn_of_wp Try.func93 rfl trivial ?_ rfl
  simp only [Try.ntmps93, List.size_toArray, List.length_cons, List.length_nil, Nat.reduceAdd, Nat.reduceSub, Array.replicate_succ, Array.replicate_zero, List.push_toArray, List.append_toArray, List.nil_append, List.cons_append]
  gi_wp2
  gi_loopw [4] (fun i wr => ∃ k : Nat, k ≤ nP L ∧ i = .int .i64 ((336 * k : Nat) : Int) ∧ J (List.range k) wr ∧ wr.cell? ⟨c1, 0, none⟩ = some (.slice (some ⟨B, o, none⟩) L cap) ∧ wr.cell? ⟨c2, 0, none⟩ = some (.int .i64 336)) (fun i _ => L + 336 - (intOf i).toNat)
  case atStart => exact ⟨0, Nat.zero_le _, rfl, h0, g1, g2⟩
  case round =>
    clear g1 g2 h0
    obtain ⟨k, hk, rfl, hJs, g1, g2⟩ := hrel
    by_cases hlt : 336 * k < L
    · have hkn : k < nP L := by unfold nP; omega
      have hcond : ((336 * k : Nat) : Int) < (L : Int) := by omega
      gi_wp2
      refine wpIn_wide.2 ?_
      obtain ⟨q, hq⟩ : ∃ q, q = 336 * k := ⟨_, rfl⟩
      rw [← hq] at hlt hcond ⊢
      have HQ := hide hq
      clear hq
      have e1 : q ≤ cap := by omega
      have e2 : ¬ cap = q := by omega
      have e3 : q ≤ L := by omega
      have e4 : ¬ L = q := by omega
      obtain ⟨mm, hmm⟩ : ∃ mm, mm = min 336 (L - q) := ⟨_, rfl⟩
      have e9 : (if ((L - q : Nat) : Int) < 336 then ((L - q : Nat) : Int) else 336) = (mm : Int) := by rw [hmm]; split <;> omega
      have e5 : q + mm ≤ cap := by omega
      have e7 : q + mm - q = mm := by omega
      have hmm1 : 1 ≤ mm := by omega
      have e8 : ¬ q + mm = q := by omega
      have e10 : mm ≤ 336 := by omega
      have HMM := hide hmm
      clear hmm
      go_quiet (fail)
      have fq := Fr.ofDrewN (S := fun _ => False) wr nq
      have g1' := (fq.cell (a := ⟨c1, 0, none⟩) (World.block_lt_of_cell? wr _ g1) id).trans g1
      have g2' := (fq.cell (a := ⟨c2, 0, none⟩) (World.block_lt_of_cell? wr _ g2) id).trans g2
      have hJ2 := hJ _ _ (wr.drewN nq) none hJs ⟨fq.os, fq.tape, fq.output, fq.size, fun k hk _ => fq.block k hk id⟩ (fun r e => by cases e)
      obtain ⟨fn, tmps, assign, body, hy, hR⟩ := hY _ k _ hJ2 (by simpa using hkn)
      have hPV : pieceV B o L k = .slice (some ⟨B, o + 336 * k, none⟩) (min 336 (L - 336 * k)) (min 336 (L - 336 * k)) := rfl
      rw [hPV, ← unhide HQ] at hy
      generalize wr.drewN nq = w2 at *
      clear hPV fq g1 g2 hJs hJ2
      rw [← unhide HMM] at hy
      gi_wp2
      refine hR.mono ?_
      rintro e W3 (⟨rfl, hJ3, hk3⟩ | ⟨rfl, hJx3⟩)
      · have g1'' := (hk3 _).1 g1'
        have g2'' := (hk3 _).2 g2'
        clear hy hR g1' g2'
        gi_wp2
        go_roundw
        case rel => exact ⟨k + 1, by omega, by have := unhide HQ; congr 1; omega, by rw [List.range_succ]; exact hJ3, g1'', g2''⟩
        case measure =>
          rw [← unhide HQ]
          show L + 336 - ((q : Int) + 336).toNat < L + 336 - ((q : Int)).toNat
          omega
      · gi_wp2
        refine bodyPost_ret (results_none rfl _ _ _) rfl ?_
        exact ⟨⟨_, rfl⟩, .inr ⟨_, ⟨k + 1, by omega, (List.range_succ).symm⟩, hJx3⟩⟩
    · have hkn : k = nP L := by unfold nP at hk ⊢; omega
      subst hkn
      have hcond : ¬ (((336 * nP L : Nat) : Int) < (L : Int)) := by omega
      gi_wp2
      go_end0
      first
        | exact ⟨⟨_, rfl⟩, .inl ⟨_, rfl, hJs⟩⟩
        | exact ⟨⟨_, rfl⟩, .inl hJs⟩
        | exact .inl hJs
end Go.Proofs.Ytgodlfoidjeekaa

namespace Go.Proofs.Ytgodlfoidjeekaa
set_option linter.unusedVariables false
set_option linter.unusedSimpArgs false
open Go.RowKit
set_option linter.unusedVariables false
set_option linter.unusedSimpArgs false

attribute [local go_sem ↓] Go.wp_at_zero Go.wp_at_succ

theorem ld66 : ∀ W a u, World.cell? W a = some u → (Instr.loadAt 66 (.pointer (some a))).run Try.prog W = .ok u W := by intro W a u h; simp [go_sem, h]
theorem ld23b : ∀ W a u, World.cell? W a = some u → (Instr.loadAt 23 (.pointer (some a))).run Try.prog W = .ok u W := by intro W a u h; simp [go_sem, h]
section
variable {ρ : Operand → Value} {o : Oper} {w : World}
theorem x_build25s {x0 x1 x2 x3 x5 : Operand} {n0 n1 n2 n3 n5 : Int} (ho : o.op = .build 25 #[(0, x0), (1, x1), (2, x2), (3, x3), (5, x5)]) (h0 : ρ x0 = .int .u64 n0) (h1 : ρ x1 = .int .u64 n1) (h2 : ρ x2 = .int .u64 n2) (h3 : ρ x3 = .int .u64 n3) (h5 : ρ x5 = .int .i64 n5) : (execOp ρ o).run Try.prog w = .ok (.value (.agg #[.int .u64 n0, .int .u64 n1, .int .u64 n2, .int .u64 n3, .int .i64 0, .int .i64 n5, .slice none 0 0])) w := by
  simp [execOp, ho, h0, h1, h2, h3, h5, go_sem]
end
/-- Behind k stores of a row. -/
def StR (c : Array Value) (d N k : Nat) (a : Act) (w : World) : Prop := 1 ≤ k → ∃ b, a.tmps.getD d undef = .pointer (some ⟨b, 0, none⟩) ∧ N ≤ b ∧ w.heap[b]? = some (.cells c 25 (0, 0))
theorem StR.put {c : Array Value} {d N k s : Nat} {a : Act} {w w' : World} {v : Value} (h : StR c d N k a w) (hs : s ≠ d) (f : Fr (fun _ => False) w w') : StR c d N k (a.put (some s) v) w' := by
  intro hk
  obtain ⟨b, e, hN, hh⟩ := h hk
  exact ⟨b, (put_getD hs).trans e, hN, (f.block _ (lt_of_heap hh) id).trans hh⟩
set_option maxHeartbeats 4000000 in
set_option maxRecDepth 100000 in
theorem we1 {W : World} {b4 j s lsn parts : Nat} {mv : Value} {J : Jn} {u0 u1 u5 u6 u7 u8 u9 u10 u11 u12 u13 u14 u15 u16 u17 u18 u19 u20 u21 u22 u23 u24 u25 u26 u27 u28 u29 u30 u31 u32 u33 u34 u35 u36 u37 u38 u39 u40 u41 u42 u43 u44 u45 u46 u47 u48 u49 u50 u51 u52 u53 u54 u55 u56 u57 u58 u59 u60 u61 : Value} {Q : Exit → Act → World → Prop} (hJ : JAt W j s mv J) (hL : J.live.length ≤ 1000) (hB : W.heap[b4]? = some (.cells #[.pointer (some ⟨j, 0, none⟩)] 66 (0, 0)))
    (hQ : ∀ (y13 y14 y15 y16 y17 y18 y19 y20 y21 y22 y23 y24 y25 y26 : Value) (b : Nat) (W' : World), Fr (fun _ => False) W W' → W.heap.size ≤ b → W'.heap[b]? = some (.cells #[.int .u64 (J.sup.b : Int), .int .u64 (J.serial : Int), .int .u64 (J.nd : Int), .int .u64 (lsn : Int), .int .i64 0, .int .i64 (parts : Int), .slice none 0 0] 25 (0, 0)) → Q .normal ⟨#[u0, u1, .int .u64 (lsn : Int), .int .i64 (parts : Int), .pointer (some ⟨b4, 0, none⟩), u5, u6, u7, u8, .pointer (some ⟨b, 0, none⟩), u10, u11, u12, y13, y14, y15, y16, y17, y18, y19, y20, y21, y22, y23, y24, y25, y26, u27, u28, u29, u30, u31, u32, u33, u34, u35, u36, u37, u38, u39, u40, u41, u42, u43, u44, u45, u46, u47, u48, u49, u50, u51, u52, u53, u54, u55, u56, u57, u58, u59, u60, u61], []⟩ W') : (rgF Try.f75 1).wp Try.prog Q ⟨#[u0, u1, .int .u64 (lsn : Int), .int .i64 (parts : Int), .pointer (some ⟨b4, 0, none⟩), u5, u6, u7, u8, u9, u10, u11, u12, u13, u14, u15, u16, u17, u18, u19, u20, u21, u22, u23, u24, u25, u26, u27, u28, u29, u30, u31, u32, u33, u34, u35, u36, u37, u38, u39, u40, u41, u42, u43, u44, u45, u46, u47, u48, u49, u50, u51, u52, u53, u54, u55, u56, u57, u58, u59, u60, u61], []⟩ W := by
  have HQ := hide hQ
  clear hQ
  have lB := lt_of_heap hB
  conv => arg 2; whnf
  refine wp_nm ?_
  intro a0' hA0
  have s2 : a0'.tmps.getD 2 undef = .int .u64 (lsn : Int) := by rw [hA0]; rfl
  have s3 : a0'.tmps.getD 3 undef = .int .i64 (parts : Int) := by rw [hA0]; rfl
  have s4 : a0'.tmps.getD 4 undef = .pointer (some ⟨b4, 0, none⟩) := by rw [hA0]; rfl
  have hsz : a0'.tmps.size = 62 := by rw [hA0]; rfl
  have hdf : a0'.defers = [] := by rw [hA0]
  refine wp_region_chainA (by kernel_rfl) (by kernel_rfl) (by decide +kernel) (by rw [hsz]; decide +kernel) (fun w w' => RS W.heap.size w w') (RS.of_fr (Fr.refl _ _).drew) (fun _ _ _ => RS.trans) (Tw [KV.eq (.pointer (some ⟨j, 0, none⟩)), KV.eq (.pointer (some ⟨j, 0, none⟩)), KV.eq (.pointer (some ⟨j, 3, none⟩)), KV.eq (.pointer (some ⟨j, 4, none⟩)), KV.eq (.int .u64 (J.sup.b : Int)), KV.eq (.pointer (some ⟨j, 0, none⟩)), KV.eq (.pointer (some ⟨j, 0, none⟩)), KV.eq (.pointer (some ⟨j, 10, none⟩)), KV.eq (.int .u64 (J.serial : Int)), KV.eq (.pointer (some ⟨j, 0, none⟩)), KV.eq (.int .u64 (J.nd : Int)), KV.eq (.int .u64 (lsn : Int)), KV.eq (.int .i64 (parts : Int)), KV.eq (.agg #[.int .u64 (J.sup.b : Int), .int .u64 (J.serial : Int), .int .u64 (J.nd : Int), .int .u64 (lsn : Int), .int .i64 0, .int .i64 (parts : Int), .slice none 0 0]), KV.box 25 7]) (Tw.mono _) [15] (by decide) (by decide) (fun k i j h1 h2 => ?cp) (StR #[.int .u64 (J.sup.b : Int), .int .u64 (J.serial : Int), .int .u64 (J.nd : Int), .int .u64 (lsn : Int), .int .i64 0, .int .i64 (parts : Int), .slice none 0 0] 9 W.heap.size) ?st0 ?steps ?done
  case cp =>
    match k, h1, h2 with
    | 0, h1, h2 => simp at h2
    | k + 1, h1, h2 => simp at h2
  case st0 => exact fun h => by omega
  case steps =>
    have hJ' : ∀ w', RS W.heap.size W w' → JAt w' j s mv J := fun w' f => hJ.kept f.fr (fun k e z => by have := hJ.lt e; omega)
    refine ⟨?_, ?_⟩
    · intro a' w' k hb hR hst hck hle hd
      exact .inl ⟨wanted_none rfl, la_val _ _ (by decide) (x_load1 ld66 rfl ((hb.old 4 (by decide +kernel)).trans s4) ((hR.fr.cell (a := ⟨b4, 0, none⟩) lB (fun e => absurd lB (Nat.not_lt.2 e))).trans (cell_of_heap hB 0))) rfl (RS.of_fr (Fr.refl _ _)) (hst.put (by decide) (Fr.refl _ _))⟩
    refine ⟨?_, ?_⟩
    · intro a' w' k hb hR hst hck hle hd
      exact .inl ⟨wanted_none rfl, la_val _ _ (by decide) (x_nilCheck rfl (hd 0 (by kernel_rfl) 13 rfl)) rfl (RS.of_fr (Fr.refl _ _)) (hst.put (by decide) (Fr.refl _ _))⟩
    refine ⟨?_, ?_⟩
    · intro a' w' k hb hR hst hck hle hd
      exact .inl ⟨wanted_none rfl, la_val _ _ (by decide) (x_field (of := 0) (off := 3) (fa115_3 j 0) rfl (hd 1 (by kernel_rfl) 14 rfl)) rfl (RS.of_fr (Fr.refl _ _)) (hst.put (by decide) (Fr.refl _ _))⟩
    refine ⟨?_, ?_⟩
    · intro a' w' k hb hR hst hck hle hd
      exact .inl ⟨wanted_none rfl, la_val _ _ (by decide) (x_field (of := 3) (off := 1) (fa27_1 j 3) rfl (hd 2 (by kernel_rfl) 15 rfl)) rfl (RS.of_fr (Fr.refl _ _)) (hst.put (by decide) (Fr.refl _ _))⟩
    refine ⟨?_, ?_⟩
    · intro a' w' k hb hR hst hck hle hd
      exact .inl ⟨wanted_none rfl, la_val _ _ (by decide) (x_load1 ldU rfl (hd 3 (by kernel_rfl) 16 rfl) (by have := cell_of_heap (hJ' w' hR).heap 4; simpa using this)) rfl (RS.of_fr (Fr.refl _ _)) (hst.put (by decide) (Fr.refl _ _))⟩
    refine ⟨?_, ?_⟩
    · intro a' w' k hb hR hst hck hle hd
      exact .inl ⟨wanted_none rfl, la_val _ _ (by decide) (x_load1 ld66 rfl ((hb.old 4 (by decide +kernel)).trans s4) ((hR.fr.cell (a := ⟨b4, 0, none⟩) lB (fun e => absurd lB (Nat.not_lt.2 e))).trans (cell_of_heap hB 0))) rfl (RS.of_fr (Fr.refl _ _)) (hst.put (by decide) (Fr.refl _ _))⟩
    refine ⟨?_, ?_⟩
    · intro a' w' k hb hR hst hck hle hd
      exact .inl ⟨wanted_none rfl, la_val _ _ (by decide) (x_nilCheck rfl (hd 5 (by kernel_rfl) 18 rfl)) rfl (RS.of_fr (Fr.refl _ _)) (hst.put (by decide) (Fr.refl _ _))⟩
    refine ⟨?_, ?_⟩
    · intro a' w' k hb hR hst hck hle hd
      exact .inl ⟨wanted_none rfl, la_val _ _ (by decide) (x_field (of := 0) (off := 10) (fa115_5 j 0) rfl (hd 6 (by kernel_rfl) 19 rfl)) rfl (RS.of_fr (Fr.refl _ _)) (hst.put (by decide) (Fr.refl _ _))⟩
    refine ⟨?_, ?_⟩
    · intro a' w' k hb hR hst hck hle hd
      exact .inl ⟨wanted_none rfl, la_val _ _ (by decide) (x_load1 ldU rfl (hd 7 (by kernel_rfl) 20 rfl) (by have := cell_of_heap (hJ' w' hR).heap 10; simpa using this)) rfl (RS.of_fr (Fr.refl _ _)) (hst.put (by decide) (Fr.refl _ _))⟩
    refine ⟨?_, ?_⟩
    · intro a' w' k hb hR hst hck hle hd
      exact .inl ⟨wanted_none rfl, la_val _ _ (by decide) (x_load1 ld66 rfl ((hb.old 4 (by decide +kernel)).trans s4) ((hR.fr.cell (a := ⟨b4, 0, none⟩) lB (fun e => absurd lB (Nat.not_lt.2 e))).trans (cell_of_heap hB 0))) rfl (RS.of_fr (Fr.refl _ _)) (hst.put (by decide) (Fr.refl _ _))⟩
    refine ⟨?_, ?_⟩
    · intro a' w' k hb hR hst hck hle hd
      refine .inl ⟨wanted_none rfl, la_call 74 _ (by decide) (e_call1 rfl rfl (hd 9 (by kernel_rfl) 22 rfl) (fun _ _ => by simp [go_sem])) ((end_any w' j s mv J (hJ' w' hR) hL).mono ?_)⟩
      rintro e w2 ⟨rfl, hv⟩
      exact ⟨_, rfl, rfl, RS.of_fr hv, hst.put (by decide) hv⟩
    refine ⟨?_, ?_⟩
    · intro a' w' k hb hR hst hck hle hd
      exact .inl ⟨wanted_none rfl, la_val _ _ (by decide) (x_move rfl ((hb.old 2 (by decide +kernel)).trans s2)) rfl (RS.of_fr (Fr.refl _ _)) (hst.put (by decide) (Fr.refl _ _))⟩
    refine ⟨?_, ?_⟩
    · intro a' w' k hb hR hst hck hle hd
      exact .inl ⟨wanted_none rfl, la_val _ _ (by decide) (x_move rfl ((hb.old 3 (by decide +kernel)).trans s3)) rfl (RS.of_fr (Fr.refl _ _)) (hst.put (by decide) (Fr.refl _ _))⟩
    refine ⟨?_, ?_⟩
    · intro a' w' k hb hR hst hck hle hd
      exact .inl ⟨wanted_none rfl, la_val _ _ (by decide) (x_build25s rfl (hd 4 (by kernel_rfl) 17 rfl) (hd 8 (by kernel_rfl) 21 rfl) (hd 10 (by kernel_rfl) 23 rfl) (hd 11 (by kernel_rfl) 24 rfl) (hd 12 (by kernel_rfl) 25 rfl)) rfl (RS.of_fr (Fr.refl _ _)) (hst.put (by decide) (Fr.refl _ _))⟩
    refine ⟨?_, ?_⟩
    · intro a' w' k hb hR hst hck hle hd
      have hk : k ≤ 0 := hle 0 15 _ rfl rfl (by kernel_rfl)
      exact .inl ⟨wanted_none rfl, la_val _ _ (by decide) (x_alloc25 rfl) ⟨_, rfl, hR.fr.size, .of (heap_alloc_new w' _) rfl⟩ (RS.of_fr ((Fr.refl _ _).alloc _)) (fun h => by omega)⟩
    refine ⟨?_, ?_⟩
    · intro a' w' k hb hR hst hck hle hd
      obtain rfl : 0 = k := hck 0 rfl
      obtain ⟨b, eb, hbN, hbM⟩ := hd 14 (by kernel_rfl) 9 rfl
      have hbM2 := hbM
      obtain ⟨cs, hh, hk⟩ := hbM2
      exact .inl ⟨wanted_none rfl, la_store (w'.setRow b #[.int .u64 (J.sup.b : Int), .int .u64 (J.serial : Int), .int .u64 (J.nd : Int), .int .u64 (lsn : Int), .int .i64 0, .int .i64 (parts : Int), .slice none 0 0]) (by decide) (x_storeR 25 7 (by kernel_rfl) rfl eb (hd 13 (by kernel_rfl) 26 rfl) rfl (by simp [Value.oneCell']) hbM) trivial (RS.setRow hbN hbM rfl) (fun _ => ⟨b, eb, hbN, setRow_at hh _⟩)⟩
    exact trivial
  case done =>
    intro a' w' hb hR hst hall
    obtain ⟨b, eb, hbN, hh⟩ := hst (by decide)
    have f := hR.old (Nat.le_refl _)
    have hslots : Slots a' 0 [u0, u1, .int .u64 (lsn : Int), .int .i64 (parts : Int), .pointer (some ⟨b4, 0, none⟩), u5, u6, u7, u8, .pointer (some ⟨b, 0, none⟩), u10, u11, u12, a'.tmps.getD 13 undef, a'.tmps.getD 14 undef, a'.tmps.getD 15 undef, a'.tmps.getD 16 undef, a'.tmps.getD 17 undef, a'.tmps.getD 18 undef, a'.tmps.getD 19 undef, a'.tmps.getD 20 undef, a'.tmps.getD 21 undef, a'.tmps.getD 22 undef, a'.tmps.getD 23 undef, a'.tmps.getD 24 undef, a'.tmps.getD 25 undef, a'.tmps.getD 26 undef, u27, u28, u29, u30, u31, u32, u33, u34, u35, u36, u37, u38, u39, u40, u41, u42, u43, u44, u45, u46, u47, u48, u49, u50, u51, u52, u53, u54, u55, u56, u57, u58, u59, u60, u61] := ⟨(hb.old 0 (by decide +kernel)).trans (by rw [hA0]; rfl), (hb.old 1 (by decide +kernel)).trans (by rw [hA0]; rfl), (hb.old 2 (by decide +kernel)).trans (by rw [hA0]; rfl), (hb.old 3 (by decide +kernel)).trans (by rw [hA0]; rfl), (hb.old 4 (by decide +kernel)).trans (by rw [hA0]; rfl), (hb.old 5 (by decide +kernel)).trans (by rw [hA0]; rfl), (hb.old 6 (by decide +kernel)).trans (by rw [hA0]; rfl), (hb.old 7 (by decide +kernel)).trans (by rw [hA0]; rfl), (hb.old 8 (by decide +kernel)).trans (by rw [hA0]; rfl), eb, (hb.old 10 (by decide +kernel)).trans (by rw [hA0]; rfl), (hb.old 11 (by decide +kernel)).trans (by rw [hA0]; rfl), (hb.old 12 (by decide +kernel)).trans (by rw [hA0]; rfl), rfl, rfl, rfl, rfl, rfl, rfl, rfl, rfl, rfl, rfl, rfl, rfl, rfl, rfl, (hb.old 27 (by decide +kernel)).trans (by rw [hA0]; rfl), (hb.old 28 (by decide +kernel)).trans (by rw [hA0]; rfl), (hb.old 29 (by decide +kernel)).trans (by rw [hA0]; rfl), (hb.old 30 (by decide +kernel)).trans (by rw [hA0]; rfl), (hb.old 31 (by decide +kernel)).trans (by rw [hA0]; rfl), (hb.old 32 (by decide +kernel)).trans (by rw [hA0]; rfl), (hb.old 33 (by decide +kernel)).trans (by rw [hA0]; rfl), (hb.old 34 (by decide +kernel)).trans (by rw [hA0]; rfl), (hb.old 35 (by decide +kernel)).trans (by rw [hA0]; rfl), (hb.old 36 (by decide +kernel)).trans (by rw [hA0]; rfl), (hb.old 37 (by decide +kernel)).trans (by rw [hA0]; rfl), (hb.old 38 (by decide +kernel)).trans (by rw [hA0]; rfl), (hb.old 39 (by decide +kernel)).trans (by rw [hA0]; rfl), (hb.old 40 (by decide +kernel)).trans (by rw [hA0]; rfl), (hb.old 41 (by decide +kernel)).trans (by rw [hA0]; rfl), (hb.old 42 (by decide +kernel)).trans (by rw [hA0]; rfl), (hb.old 43 (by decide +kernel)).trans (by rw [hA0]; rfl), (hb.old 44 (by decide +kernel)).trans (by rw [hA0]; rfl), (hb.old 45 (by decide +kernel)).trans (by rw [hA0]; rfl), (hb.old 46 (by decide +kernel)).trans (by rw [hA0]; rfl), (hb.old 47 (by decide +kernel)).trans (by rw [hA0]; rfl), (hb.old 48 (by decide +kernel)).trans (by rw [hA0]; rfl), (hb.old 49 (by decide +kernel)).trans (by rw [hA0]; rfl), (hb.old 50 (by decide +kernel)).trans (by rw [hA0]; rfl), (hb.old 51 (by decide +kernel)).trans (by rw [hA0]; rfl), (hb.old 52 (by decide +kernel)).trans (by rw [hA0]; rfl), (hb.old 53 (by decide +kernel)).trans (by rw [hA0]; rfl), (hb.old 54 (by decide +kernel)).trans (by rw [hA0]; rfl), (hb.old 55 (by decide +kernel)).trans (by rw [hA0]; rfl), (hb.old 56 (by decide +kernel)).trans (by rw [hA0]; rfl), (hb.old 57 (by decide +kernel)).trans (by rw [hA0]; rfl), (hb.old 58 (by decide +kernel)).trans (by rw [hA0]; rfl), (hb.old 59 (by decide +kernel)).trans (by rw [hA0]; rfl), (hb.old 60 (by decide +kernel)).trans (by rw [hA0]; rfl), (hb.old 61 (by decide +kernel)).trans (by rw [hA0]; rfl), trivial⟩
    have hfr := frame_eq (a := a') (by rw [hb.size, hsz]; rfl) (by rw [hb.defers, hdf]) hslots
    rw [hfr]
    exact unhide HQ _ _ _ _ _ _ _ _ _ _ _ _ _ _ b w' f hbN hh
/-- The region of that number, in rounds too. -/
def rgnR (n : Nat) : Code → Option Code
  | .region id ops d => if id = n then some (.region id ops d) else none
  | .loop c => rgnR n c
  | .seq a b => match rgnR n a with
    | some c => some c
    | none => rgnR n b
  | .block _ c => rgnR n c
  | .scope c => rgnR n c
  | .cond _ a b => match rgnR n a with
    | some c => some c
    | none => rgnR n b
  | .rangeFunc _ _ a b => match rgnR n a with
    | some c => some c
    | none => rgnR n b
  | _ => none
noncomputable def rgFR (f : Func) (n : Nat) : Code := ((f.body.bind (rgnR n)).getD .skip)
theorem wp_worldIn {F : Fence} {n : Nat} {P : Program} {c : Code} {Q : Exit → Act → World → Prop} {a : Act} {w : World} (h : ∀ w2, w2 = w → c.wpIn F n P Q a w2) : c.wpIn F n P Q a w := h w rfl
theorem wpIn_name {F : Fence} {n : Nat} {P : Program} {c : Code} {Q : Exit → Act → World → Prop} {a : Act} {w : World} (h : ∀ a0, a0 = a → c.wpIn F n P Q a0 w) : c.wpIn F n P Q a w := h a rfl
set_option maxHeartbeats 4000000 in
set_option maxRecDepth 100000 in
theorem we7 {W : World} {X : Nat → Prop} {w0 : World} {lr nn j s pos b4 b9 g : Nat} {J : Jn} {D : Dv} {l : List UInt8} {v0 v1 v3 v4 v5 v6 : Value} {u0 u1 u2 u3 u5 u6 u7 u8 u10 u12 u13 u14 u15 u16 u17 u18 u19 u20 u21 u22 u23 u24 u25 u26 u27 u28 u29 u30 u31 u32 u33 u34 u35 u36 u37 u38 u39 u40 u41 u42 u43 u44 u45 u46 u47 u48 u49 u50 u51 u52 u53 u54 u55 u56 u57 u58 u59 u60 u61 : Value} {Q : Exit → Act → World → Prop} (hLO : ¬ LetsOut Q) (h : JS X w0 W j s J D) (h4 : W.heap[b4]? = some (.cells #[.pointer (some ⟨j, 0, none⟩)] 66 (0, 0))) (h9 : W.heap[b9]? = some (.cells #[v0, v1, .int .u64 (pos : Int), v3, v4, v5, v6] 25 (0, 0))) (hp : pos < 18446744073709551616) (hbg : BAt W g l) (hl : l.length = 384) (hql : D.Q.length < 1000000)
    (hQ : ∀ (y39 y40 y41 y42 y43 y44 y45 y46 y47 y48 y49 y50 : Value) (W' : World), JS X w0 W' j s J (wrD D (J.blk pos) l) ∧ Fr (Zs X w0 W) W W' → Q .normal ⟨#[u0, u1, u2, u3, .pointer (some ⟨b4, 0, none⟩), u5, u6, u7, u8, .pointer (some ⟨b9, 0, none⟩), u10, .slice (some ⟨g, 0, none⟩) 384 384, .int .i64 (wrE D), u13, u14, u15, u16, u17, u18, u19, u20, u21, u22, u23, u24, u25, u26, u27, u28, u29, u30, u31, u32, u33, u34, u35, u36, u37, u38, y39, y40, y41, y42, y43, y44, y45, y46, y47, y48, y49, y50, u51, u52, u53, u54, u55, u56, u57, u58, u59, u60, u61], []⟩ W') : (rgFR Try.f75 7).wpIn (Fence.wide.inRound lr) nn Try.prog Q ⟨#[u0, u1, u2, u3, .pointer (some ⟨b4, 0, none⟩), u5, u6, u7, u8, .pointer (some ⟨b9, 0, none⟩), u10, .slice (some ⟨g, 0, none⟩) 384 384, u12, u13, u14, u15, u16, u17, u18, u19, u20, u21, u22, u23, u24, u25, u26, u27, u28, u29, u30, u31, u32, u33, u34, u35, u36, u37, u38, u39, u40, u41, u42, u43, u44, u45, u46, u47, u48, u49, u50, u51, u52, u53, u54, u55, u56, u57, u58, u59, u60, u61], []⟩ W := by
  have HQ := hide hQ
  clear hQ
  have HH := hide h
  have H4 := hide h4
  have H9 := hide h9
  have HP := hide hp
  have HBG := hide hbg
  have HL3 := hide hl
  have HQL := hide hql
  clear h h4 h9 hp hbg hl hql
  conv => arg 4; whnf
  refine wpIn_name ?_
  intro a0 hA
  have h4 : a0.tmps.getD 4 undef = .pointer (some ⟨b4, 0, none⟩) := by rw [hA]; rfl
  have h9 : a0.tmps.getD 9 undef = .pointer (some ⟨b9, 0, none⟩) := by rw [hA]; rfl
  have h11 : a0.tmps.getD 11 undef = .slice (some ⟨g, 0, none⟩) 384 384 := by rw [hA]; rfl
  have hsz : a0.tmps.size = 62 := by rw [hA]; rfl
  have hdf : a0.defers = [] := by rw [hA]
  have HA0 := hide hA
  clear hA
  refine wpIn_region_kinds (fun k => Zs X w0 W k ∨ W.heap.size ≤ k) hLO (by kernel_rfl) (by kernel_rfl) (by kernel_rfl) (by decide +kernel) (by rw [hsz]; decide +kernel) [.eq (.pointer (some ⟨j, 0, none⟩)), .eq (.pointer (some ⟨j, 0, none⟩)), .eq (.pointer (some ⟨j, 0, none⟩)), .eq (.iface 64 (.pointer (some ⟨s, 0, none⟩))), .eq (.pointer (some ⟨j, 0, none⟩)), .eq (.pointer (some ⟨b9, 2, none⟩)), .eq (.int .u64 (pos : Int)), .eq (.int .i64 (J.blk pos : Int)), .eq (.slice (some ⟨g, 0, none⟩) 384 384), .eq (.iface 64 (.pointer (some ⟨s, 0, none⟩))), .eq (.iface 64 (.pointer (some ⟨s, 0, none⟩))), .eq (.int .i64 (wrE D)), .eq (.int .i64 (wrE D))] [11] (by decide) (by decide) (chain_paths _ [] (by kernel_rfl)) (fun k w => match k with | 0 => Fr (fun _ => False) W w | _ => JS X w0 w j s J (wrD D (J.blk pos) l) ∧ Fr (Zs X w0 W) W w) (Fr.refl _ _).drew ?steps ?done
  case steps =>
    refine ⟨?_, ?_⟩
    · intro a' w' k' hb hf hs hc hq hg hd
      obtain rfl : k' = 0 := Nat.le_zero.1 (hq 0 11 rfl (waits (by kernel_rfl))); exact ⟨wantedN rfl, k_val (.pointer (some ⟨j, 0, none⟩)) (by decide) hs (x_load1 ld66 rfl ((hb.old 4 (by decide +kernel)).trans h4) ((Fr.cell hs (a := ⟨b4, 0, none⟩) (lt_of_heap (unhide H4)) id).trans (by have := cell_of_heap (unhide H4) 0; simpa using this))) rfl⟩
    refine ⟨?_, ?_⟩
    · intro a' w' k' hb hf hs hc hq hg hd
      exact ⟨wantedN rfl, k_val (.pointer (some ⟨j, 0, none⟩)) (by decide) hs (x_nilCheck rfl (hd 0 (by kernel_rfl) 39 rfl)) rfl⟩
    refine ⟨?_, ?_⟩
    · intro a' w' k' hb hf hs hc hq hg hd
      exact ⟨wantedN rfl, k_val (.pointer (some ⟨j, 0, none⟩)) (by decide) hs (x_field (of := 0) (off := 0) (fa115_0 j 0) rfl (hd 1 (by kernel_rfl) 40 rfl)) rfl⟩
    refine ⟨?_, ?_⟩
    · intro a' w' k' hb hf hs hc hq hg hd
      obtain rfl : k' = 0 := Nat.le_zero.1 (hq 0 11 rfl (waits (by kernel_rfl))); exact ⟨wantedN rfl, k_val (.iface 64 (.pointer (some ⟨s, 0, none⟩))) (by decide) hs (x_load1 ld111 rfl (hd 2 (by kernel_rfl) 41 rfl) (js_cell0 ((unhide HH).kept0 hs)).1) rfl⟩
    refine ⟨?_, ?_⟩
    · intro a' w' k' hb hf hs hc hq hg hd
      obtain rfl : k' = 0 := Nat.le_zero.1 (hq 0 11 rfl (waits (by kernel_rfl))); exact ⟨wantedN rfl, k_val (.pointer (some ⟨j, 0, none⟩)) (by decide) hs (x_load1 ld66 rfl ((hb.old 4 (by decide +kernel)).trans h4) ((Fr.cell hs (a := ⟨b4, 0, none⟩) (lt_of_heap (unhide H4)) id).trans (by have := cell_of_heap (unhide H4) 0; simpa using this))) rfl⟩
    refine ⟨?_, ?_⟩
    · intro a' w' k' hb hf hs hc hq hg hd
      exact ⟨wantedN rfl, k_val (.pointer (some ⟨b9, 2, none⟩)) (by decide) hs (x_field (of := 0) (off := 2) (fa25_2 b9 0) rfl ((hb.old 9 (by decide +kernel)).trans h9)) rfl⟩
    refine ⟨?_, ?_⟩
    · intro a' w' k' hb hf hs hc hq hg hd
      obtain rfl : k' = 0 := Nat.le_zero.1 (hq 0 11 rfl (waits (by kernel_rfl))); exact ⟨wantedN rfl, k_val (.int .u64 (pos : Int)) (by decide) hs (x_load1 ldU rfl (hd 5 (by kernel_rfl) 44 rfl) ((Fr.cell hs (a := ⟨b9, 2, none⟩) (lt_of_heap (unhide H9)) id).trans (by have := cell_of_heap (unhide H9) 2; simpa using this))) rfl⟩
    refine ⟨?_, ?_⟩
    · intro a' w' k' hb hf hs hc hq hg hd
      obtain rfl : k' = 0 := Nat.le_zero.1 (hq 0 11 rfl (waits (by kernel_rfl))); exact ⟨wantedN rfl, k_call 89 _ (by decide) (e_call2 rfl rfl (hd 4 (by kernel_rfl) 43 rfl) (hd 6 (by kernel_rfl) 45 rfl) (fun _ _ => by simp [go_sem])) ((js_blk ((unhide HH).kept0 hs) pos (unhide HP)).mono (by rintro e w9 ⟨rfl, f9⟩; exact ⟨_, rfl, rfl, f9, Fr.trans hs f9 (fun _ _ e => e)⟩))⟩
    refine ⟨?_, ?_⟩
    · intro a' w' k' hb hf hs hc hq hg hd
      exact ⟨wantedN rfl, k_val (.slice (some ⟨g, 0, none⟩) 384 384) (by decide) hs (x_move rfl ((hb.old 11 (by decide +kernel)).trans h11)) rfl⟩
    refine ⟨?_, ?_⟩
    · intro a' w' k' hb hf hs hc hq hg hd
      exact ⟨wantedN rfl, k_val (.iface 64 (.pointer (some ⟨s, 0, none⟩))) (by decide) hs (x_nilCheckI rfl (hd 3 (by kernel_rfl) 42 rfl)) rfl⟩
    refine ⟨?_, ?_⟩
    · intro a' w' k' hb hf hs hc hq hg hd
      exact ⟨wantedN rfl, k_val (.iface 64 (.pointer (some ⟨s, 0, none⟩))) (by decide) hs (x_move rfl (hd 3 (by kernel_rfl) 42 rfl)) rfl⟩
    refine ⟨?_, ?_⟩
    · intro a' w' k' hb hf hs hc hq hg hd
      obtain rfl := hc 0 rfl
      have hs' : Fr (fun _ => False) W w' := hs
      have hbg := (unhide HBG).kept hs' id
      have hrd := hbg.rd (by rw [unhide HL3]; decide)
      rw [unhide HL3] at hrd
      exact ⟨wantedN rfl, k_callC 64 _ (by decide) (e_invW rfl (hd 10 (by kernel_rfl) 49 rfl) (hd 7 (by kernel_rfl) 46 rfl) (hd 8 (by kernel_rfl) 47 rfl)) ((js_write ((unhide HH).kept0 hs') (J.blk pos) _ l (blk_lt (unhide HH).ok pos) hrd (unhide HL3) (unhide HQL) (fun k hk => by simp [Value.ownBlock] at hk; subst hk; exact knd_cells hbg)).mono (by rintro e w7 ⟨rfl, h1, f⟩; exact ⟨_, rfl, rfl, zs_S hs' f, h1, zs_trans (zs_none hs') f⟩))⟩
    refine ⟨?_, ?_⟩
    · intro a' w' k' hb hf hs hc hq hg hd
      exact ⟨wantedN rfl, k_val (.int .i64 (wrE D)) (by decide) hs (x_assign rfl (hd 11 (by kernel_rfl) 50 rfl)) rfl⟩
    exact trivial
  case done =>
    intro a' w' hb hf hs hall
    have hslots : Slots a' 0 [u0, u1, u2, u3, .pointer (some ⟨b4, 0, none⟩), u5, u6, u7, u8, .pointer (some ⟨b9, 0, none⟩), u10, .slice (some ⟨g, 0, none⟩) 384 384, .int .i64 (wrE D), u13, u14, u15, u16, u17, u18, u19, u20, u21, u22, u23, u24, u25, u26, u27, u28, u29, u30, u31, u32, u33, u34, u35, u36, u37, u38, a'.tmps.getD 39 undef, a'.tmps.getD 40 undef, a'.tmps.getD 41 undef, a'.tmps.getD 42 undef, a'.tmps.getD 43 undef, a'.tmps.getD 44 undef, a'.tmps.getD 45 undef, a'.tmps.getD 46 undef, a'.tmps.getD 47 undef, a'.tmps.getD 48 undef, a'.tmps.getD 49 undef, a'.tmps.getD 50 undef, u51, u52, u53, u54, u55, u56, u57, u58, u59, u60, u61] := ⟨(hb.old 0 (by decide +kernel)).trans (by rw [unhide HA0]; rfl), (hb.old 1 (by decide +kernel)).trans (by rw [unhide HA0]; rfl), (hb.old 2 (by decide +kernel)).trans (by rw [unhide HA0]; rfl), (hb.old 3 (by decide +kernel)).trans (by rw [unhide HA0]; rfl), (hb.old 4 (by decide +kernel)).trans (by rw [unhide HA0]; rfl), (hb.old 5 (by decide +kernel)).trans (by rw [unhide HA0]; rfl), (hb.old 6 (by decide +kernel)).trans (by rw [unhide HA0]; rfl), (hb.old 7 (by decide +kernel)).trans (by rw [unhide HA0]; rfl), (hb.old 8 (by decide +kernel)).trans (by rw [unhide HA0]; rfl), (hb.old 9 (by decide +kernel)).trans (by rw [unhide HA0]; rfl), (hb.old 10 (by decide +kernel)).trans (by rw [unhide HA0]; rfl), (hb.old 11 (by decide +kernel)).trans (by rw [unhide HA0]; rfl), hall 12 (by decide) 12 rfl, (hb.old 13 (by decide +kernel)).trans (by rw [unhide HA0]; rfl), (hb.old 14 (by decide +kernel)).trans (by rw [unhide HA0]; rfl), (hb.old 15 (by decide +kernel)).trans (by rw [unhide HA0]; rfl), (hb.old 16 (by decide +kernel)).trans (by rw [unhide HA0]; rfl), (hb.old 17 (by decide +kernel)).trans (by rw [unhide HA0]; rfl), (hb.old 18 (by decide +kernel)).trans (by rw [unhide HA0]; rfl), (hb.old 19 (by decide +kernel)).trans (by rw [unhide HA0]; rfl), (hb.old 20 (by decide +kernel)).trans (by rw [unhide HA0]; rfl), (hb.old 21 (by decide +kernel)).trans (by rw [unhide HA0]; rfl), (hb.old 22 (by decide +kernel)).trans (by rw [unhide HA0]; rfl), (hb.old 23 (by decide +kernel)).trans (by rw [unhide HA0]; rfl), (hb.old 24 (by decide +kernel)).trans (by rw [unhide HA0]; rfl), (hb.old 25 (by decide +kernel)).trans (by rw [unhide HA0]; rfl), (hb.old 26 (by decide +kernel)).trans (by rw [unhide HA0]; rfl), (hb.old 27 (by decide +kernel)).trans (by rw [unhide HA0]; rfl), (hb.old 28 (by decide +kernel)).trans (by rw [unhide HA0]; rfl), (hb.old 29 (by decide +kernel)).trans (by rw [unhide HA0]; rfl), (hb.old 30 (by decide +kernel)).trans (by rw [unhide HA0]; rfl), (hb.old 31 (by decide +kernel)).trans (by rw [unhide HA0]; rfl), (hb.old 32 (by decide +kernel)).trans (by rw [unhide HA0]; rfl), (hb.old 33 (by decide +kernel)).trans (by rw [unhide HA0]; rfl), (hb.old 34 (by decide +kernel)).trans (by rw [unhide HA0]; rfl), (hb.old 35 (by decide +kernel)).trans (by rw [unhide HA0]; rfl), (hb.old 36 (by decide +kernel)).trans (by rw [unhide HA0]; rfl), (hb.old 37 (by decide +kernel)).trans (by rw [unhide HA0]; rfl), (hb.old 38 (by decide +kernel)).trans (by rw [unhide HA0]; rfl), rfl, rfl, rfl, rfl, rfl, rfl, rfl, rfl, rfl, rfl, rfl, rfl, (hb.old 51 (by decide +kernel)).trans (by rw [unhide HA0]; rfl), (hb.old 52 (by decide +kernel)).trans (by rw [unhide HA0]; rfl), (hb.old 53 (by decide +kernel)).trans (by rw [unhide HA0]; rfl), (hb.old 54 (by decide +kernel)).trans (by rw [unhide HA0]; rfl), (hb.old 55 (by decide +kernel)).trans (by rw [unhide HA0]; rfl), (hb.old 56 (by decide +kernel)).trans (by rw [unhide HA0]; rfl), (hb.old 57 (by decide +kernel)).trans (by rw [unhide HA0]; rfl), (hb.old 58 (by decide +kernel)).trans (by rw [unhide HA0]; rfl), (hb.old 59 (by decide +kernel)).trans (by rw [unhide HA0]; rfl), (hb.old 60 (by decide +kernel)).trans (by rw [unhide HA0]; rfl), (hb.old 61 (by decide +kernel)).trans (by rw [unhide HA0]; rfl), trivial⟩
    have hfr := frame_eq (a := a') (by rw [hb.size, hsz]; rfl) (by rw [hb.defers, hdf]) hslots
    rw [hfr]
    exact unhide HQ (a'.tmps.getD 39 undef) (a'.tmps.getD 40 undef) (a'.tmps.getD 41 undef) (a'.tmps.getD 42 undef) (a'.tmps.getD 43 undef) (a'.tmps.getD 44 undef) (a'.tmps.getD 45 undef) (a'.tmps.getD 46 undef) (a'.tmps.getD 47 undef) (a'.tmps.getD 48 undef) (a'.tmps.getD 49 undef) (a'.tmps.getD 50 undef) w' hs
end Go.Proofs.Ytgodlfoidjeekaa

namespace Go.Proofs.Ytgodlfoidjeekaa
set_option linter.unusedVariables false
set_option linter.unusedSimpArgs false
open Go.RowKit
set_option linter.unusedVariables false
set_option linter.unusedSimpArgs false

attribute [local go_sem ↓] Go.wp_at_zero Go.wp_at_succ

/-- May this entry be written? -/
def weC (J : Jn) (lsn parts i : Nat) (L : List UInt8) : Bool := cbB J.sup.b J.serial (J.nd + i) lsn (i : Int) (parts : Int) L.length
/-- A piece more. -/
def weS (J : Jn) (lsn parts : Nat) (r : Dv × Int) (i : Nat) (L : List UInt8) : Dv × Int :=
  if r.2 = 0 then (if weC J lsn parts i L = true then (wrD r.1 (J.blk (J.nd + i)) (enB J.sup.b J.serial (J.nd + i) lsn i parts L.length L), wrE r.1) else (r.1, 81)) else r
def weF (J : Jn) (lsn parts : Nat) : Dv × Int → Nat → List (List UInt8) → Dv × Int
  | r, _, [] => r
  | r, i, L :: Ls => weF J lsn parts (weS J lsn parts r i L) (i + 1) Ls
theorem weF_snoc (J : Jn) (lsn parts : Nat) (L : List UInt8) : ∀ (Ls : List (List UInt8)) (r : Dv × Int) (i : Nat), weF J lsn parts r i (Ls ++ [L]) = weS J lsn parts (weF J lsn parts r i Ls) (i + Ls.length) L := by
  intro Ls
  induction Ls with
  | nil => intro r i; rfl
  | cons a Ls ih =>
    intro r i
    show weF J lsn parts (weS J lsn parts r i a) (i + 1) (Ls ++ [L]) = _
    rw [ih, List.length_cons, show i + 1 + Ls.length = i + (Ls.length + 1) by omega]
    rfl
def pieceL (p : List UInt8) (k : Nat) : List UInt8 := (p.drop (336 * k)).take 336
/-- Behind these pieces. -/
def weI (J : Jn) (D : Dv) (lsn parts : Nat) (p : List UInt8) (pre : List Nat) : Dv × Int := weF J lsn parts (D, 0) 0 (pre.map (pieceL p))
theorem weI_snoc (J : Jn) (D : Dv) (lsn parts : Nat) (p : List UInt8) (pre : List Nat) (x : Nat) : weI J D lsn parts p (pre ++ [x]) = weS J lsn parts (weI J D lsn parts p pre) pre.length (pieceL p x) := by
  unfold weI
  rw [List.map_append, List.map_cons, List.map_nil, weF_snoc, Nat.zero_add, List.length_map]
theorem snoc_ind {P : List Nat → Prop} (h0 : P []) (hs : ∀ l x, P l → P (l ++ [x])) : ∀ l, P l := by
  have : ∀ l : List Nat, P l.reverse := by
    intro l
    induction l with
    | nil => exact h0
    | cons a r ih => rw [List.reverse_cons]; exact hs _ _ ih
  intro l
  have h := this l.reverse
  rwa [List.reverse_reverse] at h
theorem weI_stop (J : Jn) (D : Dv) (lsn parts : Nat) (p : List UInt8) (pre : List Nat) (h : (weI J D lsn parts p pre).2 ≠ 0) : ∀ suf : List Nat, weI J D lsn parts p (pre ++ suf) = weI J D lsn parts p pre := by
  refine snoc_ind (by rw [List.append_nil]) (fun suf x ih => ?_)
  rw [← List.append_assoc, weI_snoc, ih]
  unfold weS
  rw [if_neg h]
theorem weI_len (J : Jn) (D : Dv) (lsn parts : Nat) (p : List UInt8) (pre : List Nat) : (weI J D lsn parts p pre).1.S.length = D.S.length ∧ (weI J D lsn parts p pre).1.Q.length ≤ D.Q.length + pre.length := by
  revert pre
  refine snoc_ind ⟨rfl, Nat.le_refl _⟩ (fun pre x ih => ?_)
  rw [weI_snoc, List.length_append, List.length_singleton]
  unfold weS
  split
  · split
    · refine ⟨(wrD_len _ _ _).trans ih.1, ?_⟩
      have := wrD_Q (weI J D lsn parts p pre).1 (J.blk (J.nd + pre.length)) (enB J.sup.b J.serial (J.nd + pre.length) lsn pre.length parts (pieceL p x).length (pieceL p x))
      dsimp only
      omega
    · exact ⟨ih.1, by dsimp only; omega⟩
  · exact ⟨ih.1, by omega⟩
def weR (J : Jn) (D : Dv) (lsn parts : Nat) (p : List UInt8) : Dv × Int := weI J D lsn parts p (List.range (nP p.length))
theorem pieceL_rd {w : World} {B o cap : Nat} {p : List UInt8} (h : Rd w (.slice (some ⟨B, o, none⟩) p.length cap) p) (hp : 1 ≤ p.length) (k : Nat) : Rd w (pieceV B o p.length k) (pieceL p k) ∧ (pieceL p k).length = min 336 (p.length - 336 * k) := by
  have hl : (pieceL p k).length = min 336 (p.length - 336 * k) := by unfold pieceL; rw [List.length_take, List.length_drop]
  refine ⟨?_, hl⟩
  obtain ⟨B', o', e, hn, hnc, hcm, hcell⟩ := h.lits (by omega)
  simp at e
  obtain ⟨rfl, rfl⟩ := e
  refine Rd.lit hl (Nat.le_refl _) (by unfold maxLen at *; omega) (fun i hi => ?_)
  rw [hl] at hi
  have := hcell (336 * k + i) (by omega)
  have e2 : ∀ (h : i < (pieceL p k).length), (pieceL p k)[i] = p[336 * k + i]'(by rw [hl] at h; omega) := fun h => by simp [pieceL]
  rw [show o + 336 * k + i = o + (336 * k + i) by omega, this, e2]

/-- The loop's state. -/
structure We (X : Nat → Prop) (w0 w : World) (j s b4 b8 b9 : Nat) (J : Jn) (lsn parts : Nat) (v : Value) (p : List UInt8) (D : Dv) (i : Nat) (W : World) : Prop where
  js : JS X w0 W j s J D
  h4 : W.heap[b4]? = some (.cells #[.pointer (some ⟨j, 0, none⟩)] 66 (0, 0))
  h8 : ∃ r : Int, W.heap[b8]? = some (.cells #[.int .i64 r] 33 (0, 0))
  h9 : ∃ u, W.heap[b9]? = some (.cells #[.int .u64 (J.sup.b : Int), .int .u64 (J.serial : Int), .int .u64 ((J.nd + i : Nat) : Int), .int .u64 (lsn : Int), .int .i64 (i : Int), .int .i64 (parts : Int), u] 25 (0, 0))
  rd : Rd W v p
  rk : ∀ b, v.ownBlock = some b → knd W b = 5
  fr : Fr (Zs X w0 w) w W
theorem JS.keptN {X : Nat → Prop} {w0 w w' : World} {j s : Nat} {J : Jn} {D : Dv} {S : Nat → Prop} (h : JS X w0 w j s J D) (f : Fr S w w') (hs : ∀ k, S k → ¬ KD (knd w k) ∧ ¬ KJ (knd w k)) : JS X w0 w' j s J D := by
  obtain ⟨⟨mv, sv, qv, h1, h2, h3⟩, h4, h5⟩ := h
  exact ⟨⟨mv, sv, qv, h1.kept f (fun k e z => (hs k z).2 (h1.knds e)), h2.kept f (fun k e z => (hs k z).1 (h2.knds e)), h3⟩, h4, Nat.le_trans h5 f.size⟩
theorem knd_noncells {w : World} {k : Nat} {o : Obj} (h : w.heap[k]? = some o) (hc : o.isCells = false) : knd w k = 1000 ∨ knd w k = 1001 := by
  unfold knd
  rw [h]
  cases o <;> simp_all [Obj.isCells]
theorem We.kept {X : Nat → Prop} {w0 w W W' : World} {j s b4 b8 b9 : Nat} {J : Jn} {lsn parts : Nat} {v : Value} {p : List UInt8} {D : Dv} {i : Nat} {S : Nat → Prop} (h : We X w0 w j s b4 b8 b9 J lsn parts v p D i W) (f : Fr S W W') (hs : ∀ k, S k → w.heap.size ≤ k ∧ (knd W k = 1000 ∨ knd W k = 1001)) : We X w0 w j s b4 b8 b9 J lsn parts v p D i W' := by
  have hn : ∀ {k : Nat} {cs : Array Value} {t : Nat}, t < 1000 → W.heap[k]? = some (.cells cs t (0, 0)) → W'.heap[k]? = some (.cells cs t (0, 0)) := fun {k cs t} ht hk => by
    refine (f.block k (lt_of_heap hk) (fun e => ?_)).trans hk
    have := (hs k e).2
    rw [knd_cells hk] at this
    omega
  obtain ⟨r, h8⟩ := h.h8
  obtain ⟨u, h9⟩ := h.h9
  have hrk : ∀ b, v.ownBlock = some b → ¬ S b := fun b e z => by
    have h1 := h.rk b e
    have h2 := (hs b z).2
    omega
  refine ⟨h.js.keptN f (fun k e => ?_), hn (by decide) h.h4, ⟨r, hn (by decide) h8⟩, ⟨u, hn (by decide) h9⟩, h.rd.kept f hrk, fun b e => ?_, h.fr.trans f (fun k hk e => absurd (hs k e).1 (by omega))⟩
  · have := (hs k e).2
    unfold KD KJ
    omega
  · by_cases hb : b < W.heap.size
    · rw [knd_fr f (hrk b e) hb]; exact h.rk b e
    · have := h.rk b e
      unfold knd at this
      rw [Array.getElem?_eq_none (by omega)] at this
      simp at this
end Go.Proofs.Ytgodlfoidjeekaa
