/-
  The body of writeEntries' loop.
  writeEntries.
  Append.
  A block of one byte.
  The plain side of live: what each act answers.
  The last region of live.
  live.
  A nil Journal.
  Are there too many bytes?
-/
import Derived.Test.YtgodlfoidjeekaaM08
namespace Go.Proofs.Ytgodlfoidjeekaa
set_option linter.unusedVariables false
set_option linter.unusedSimpArgs false
open Go.RowKit
set_option linter.unusedVariables false
set_option linter.unusedSimpArgs false

attribute [local go_sem ↓] Go.wp_at_zero Go.wp_at_succ

/-- The body of a range over a function. -/
def rfB : Code → Option Code
  | .loop c => rfB c
  | .seq a b => match rfB a with
    | some c => some c
    | none => rfB b
  | .block _ c => rfB c
  | .scope c => rfB c
  | .rangeFunc _ _ _ b => some b
  | _ => none
noncomputable def rfBody (f : Func) : Code := ((f.body.bind rfB).getD .skip)
/-- What a round may turn. -/
def KeepsB (X : Nat → Prop) (w0 : World) (b8 b9 : Nat) (W W' : World) : Prop := Fr (fun k => Zs X w0 W k ∨ k = b8 ∨ k = b9) W W'
theorem kb_trans {X : Nat → Prop} {w0 A B C : World} {b8 b9 : Nat} (f : KeepsB X w0 b8 b9 A B) (g : KeepsB X w0 b8 b9 B C) : KeepsB X w0 b8 b9 A C := Fr.trans f g (fun k hk h => by
  by_cases e : Zs X w0 A k ∨ k = b8 ∨ k = b9
  · exact e
  · rcases h with h | h
    · have := knd_fr f e hk
      unfold Zs at h
      rw [this] at h
      exact .inl h
    · exact .inr h)
theorem kb_zs {X : Nat → Prop} {w0 A B : World} {b8 b9 : Nat} (f : Fr (Zs X w0 A) A B) : KeepsB X w0 b8 b9 A B := f.mono (fun _ _ e => .inl e)
theorem kb_none {X : Nat → Prop} {w0 A B : World} {b8 b9 : Nat} (f : Fr (fun _ => False) A B) : KeepsB X w0 b8 b9 A B := f.mono (fun _ _ e => e.elim)
theorem not_lo_then {K : Act → World → Prop} {Q : Exit → Act → World → Prop} (h : ¬ LetsOut Q) : ¬ LetsOut (Exit.then K Q) := by
  rintro ⟨a, w, e⟩
  exact h ⟨a, w, e⟩
theorem not_lo_block {id : Nat} {Q : Exit → Act → World → Prop} (h : ¬ LetsOut Q) : ¬ LetsOut (Exit.inBlock id Q) := by
  rintro ⟨a, w, e⟩
  exact h ⟨a, w, e⟩
/-- A plain region in a round, its operations a list. -/
theorem region_inL {P : Program} {l : List Oper} {Q : Exit → Act → World → Prop} {lr n id : Nat} {a : Act} {w : World} (hL : ¬ LetsOut Q) (hd : noDefer l = true) (h : wpList P l.toArray Q l a w) : (Code.region id l.toArray false).wpIn (Fence.wide.inRound lr) n P Q a w :=
  region_in hL (by simpa using hd) (by simpa using h)
set_option maxHeartbeats 4000000 in
set_option maxRecDepth 100000 in
theorem weBody {X : Nat → Prop} {w0 w W : World} {lr nn j s b4 b8 b9 lsn parts i B o2 cp : Nat} {J : Jn} {D : Dv} {v : Value} {p L : List UInt8} {u0 u1 u2 u3 u5 u6 u7 u11 u12 u13 u14 u15 u16 u17 u18 u19 u20 u21 u22 u23 u24 u25 u26 u27 u28 u29 u30 u31 u32 u33 u34 u35 u36 u37 u38 u39 u40 u41 u42 u43 u44 u45 u46 u47 u48 u49 u50 u51 u52 u53 u54 u55 u56 u57 u58 u59 u60 u61 : Value} {Q : Exit → Act → World → Prop} (hW : We X w0 w j s b4 b8 b9 J lsn parts v p D i W) (hn8 : w.heap.size ≤ b8) (hn9 : w.heap.size ≤ b9) (hR : Rd W (.slice (some ⟨B, o2, none⟩) L.length cp) L) (hL : L.length ≤ 336) (hq : D.Q.length < 1000000) (hi : i ≤ 100000) (hlo : ¬ LetsOut Q) (hBk : knd W B = 5)
    (hQn : ∀ a W', (weS J lsn parts (D, 0) i L).2 = 0 → We X w0 w j s b4 b8 b9 J lsn parts v p (weS J lsn parts (D, 0) i L).1 (i + 1) W' → KeepsB X w0 b8 b9 W W' → Q .normal a W')
    (hQr : ∀ a W', (weS J lsn parts (D, 0) i L).2 ≠ 0 → JS X w0 W' j s J (weS J lsn parts (D, 0) i L).1 → W'.heap[b8]? = some (.cells #[.int .i64 (weS J lsn parts (D, 0) i L).2] 33 (0, 0)) → Fr (Zs X w0 w) w W' → KeepsB X w0 b8 b9 W W' → Q .ret a W') :
    (rfBody Try.f75).wpIn (Fence.wide.inRound lr) nn Try.prog Q ⟨#[u0, u1, u2, u3, .pointer (some ⟨b4, 0, none⟩), u5, u6, u7, .pointer (some ⟨b8, 0, none⟩), .pointer (some ⟨b9, 0, none⟩), .slice (some ⟨B, o2, none⟩) L.length cp, u11, u12, u13, u14, u15, u16, u17, u18, u19, u20, u21, u22, u23, u24, u25, u26, u27, u28, u29, u30, u31, u32, u33, u34, u35, u36, u37, u38, u39, u40, u41, u42, u43, u44, u45, u46, u47, u48, u49, u50, u51, u52, u53, u54, u55, u56, u57, u58, u59, u60, u61], []⟩ W := by
  have HQN := hide hQn
  have HQR := hide hQr
  have HLO := hide hlo
  obtain ⟨js, h4, ⟨r8, h8⟩, ⟨u9, h9⟩, hrd, hrk, hfr⟩ := hW
  have hnd := js.ok.nd
  have hse := js.ok.serial
  have z9 := frozen_of_heap h9 6
  have c9 := cell_of_heap h9 6
  simp at c9
  have h9' := heap_setCell_same W b9 6 _ 25 (.slice (some ⟨B, o2, none⟩) L.length cp) h9
  have fs : Fr (fun k => k = b9) W (W.setCell ⟨b9, 6, none⟩ (.slice (some ⟨B, o2, none⟩) L.length cp)) := (Fr.refl (fun k => k = b9) W).setCell (p := ⟨b9, 6, none⟩) (fun _ => rfl) _
  have k9 := knd_cells h9
  have n84 : b4 ≠ b9 := fun e => by rw [← e, knd_cells h4] at k9; exact absurd k9 (by decide)
  have n89 : b8 ≠ b9 := fun e => by rw [← e, knd_cells h8] at k9; exact absurd k9 (by decide)
  have J1 := hide (js.keptN fs (fun k e => by rw [show k = b9 from e, k9]; unfold KD KJ; omega))
  have H41 := hide ((fs.block _ (lt_of_heap h4) (fun e => n84 e)).trans h4)
  have H81 := hide ((fs.block _ (lt_of_heap h8) (fun e => n89 e)).trans h8)
  have hnB : B ≠ b9 := fun e => by rw [e, k9] at hBk; exact absurd hBk (by decide)
  have R1 := hide (hR.kept fs (fun b e z => by simp [Value.ownBlock] at e; exact hnB (by rw [e]; exact z)))
  have RD1 := hide (hrd.kept fs (fun b e z => by have := hrk b e; rw [show b = b9 from z, k9] at this; exact absurd this (by decide)))
  have hltB : ∀ b, v.ownBlock = some b → b < W.heap.size := fun b e => by
    have := hrk b e
    rcases Nat.lt_or_ge b W.heap.size with h' | h'
    · exact h'
    · unfold knd at this
      rw [Array.getElem?_eq_none h'] at this
      simp at this
  have RK1 := hide (show ∀ b, v.ownBlock = some b → knd (W.setCell ⟨b9, 6, none⟩ (.slice (some ⟨B, o2, none⟩) L.length cp)) b = 5 from fun b e => by
    rw [knd_fr fs (fun z => by have := hrk b e; rw [show b = b9 from z, k9] at this; exact absurd this (by decide)) (hltB b e)]
    exact hrk b e)
  have F1 := hide (hfr.trans fs (fun k hk e => absurd (show k = b9 from e) (by omega)))
  have KB1 : Hid (KeepsB X w0 b8 b9 W (W.setCell ⟨b9, 6, none⟩ (.slice (some ⟨B, o2, none⟩) L.length cp))) := hide (fs.mono (fun _ _ e => .inr (.inr e)))
  have H91 : Hid ((W.setCell ⟨b9, 6, none⟩ (.slice (some ⟨B, o2, none⟩) L.length cp)).heap[b9]? = some (.cells #[.int .u64 (J.sup.b : Int), .int .u64 (J.serial : Int), .int .u64 ((J.nd + i : Nat) : Int), .int .u64 (lsn : Int), .int .i64 (i : Int), .int .i64 (parts : Int), .slice (some ⟨B, o2, none⟩) L.length cp] 25 (0, 0))) := hide (by rw [h9']; rfl)
  have HST := hide (show weS J lsn parts (D, 0) i L = if weC J lsn parts i L = true then (wrD D (J.blk (J.nd + i)) (enB J.sup.b J.serial (J.nd + i) lsn i parts L.length L), wrE D) else (D, 81) from by unfold weS; rw [if_pos rfl])
  clear js h4 h8 h9 hrd hrk hfr h9' fs hR hltB k9 hQn hQr hlo hBk n84 n89 hnB
  conv => arg 4; whnf
  refine wpIn_block ?_
  refine wpIn_seq_k (fun K1 hK1 => ?_)
  refine region_inL (not_lo_then (not_lo_block (unhide HLO))) (by kernel_rfl) ?_
  go_wp2_with fail
  clear c9 z9
  refine wp_worldIn ?_
  intro W1 hW1
  rw [← hW1] at J1 H41 H81 H91 R1 RD1 RK1 F1 KB1
  clear hW1
  obtain ⟨pos, hpos⟩ : ∃ pos, pos = J.nd + i := ⟨_, rfl⟩
  rw [← hpos] at H91
  have HPOS := hide hpos
  by_cases hc : weC J lsn parts i L = true
  case neg =>
    have hc' : weC J lsn parts i L = false := by simpa using hc
    have HW : Hid (weS J lsn parts (D, 0) i L = (D, 81)) := hide (by rw [unhide HST, if_neg hc])
    have HC := hide (putEntry_no W1 J.sup.b J.serial pos lsn (i : Int) (parts : Int) (some ⟨B, o2, none⟩) L.length cp (by rw [hpos]; exact hc'))
    clear hc hc' HST hpos
    refine wpIn_seq_k (fun K2 hK2 => ?_)
    refine region_inL (not_lo_then (not_lo_block (unhide HLO))) (by kernel_rfl) ?_
    go_wp2_with (refine wl_loadR 25 7 _ Try.underlying25 (by kernel_rfl) (.tmp 9) rfl rfl b9 rfl _ 25 (unhide H91) rfl ?_)
    refine (unhide HC).mono ?_
    rintro e W2 ⟨rfl, f2⟩
    have J2 := hide ((unhide J1).kept0 f2)
    have H82 := hide ((f2.block _ (lt_of_heap (unhide H81)) id).trans (unhide H81))
    have F2 := hide ((unhide F1).trans f2 (fun _ _ e => e.elim))
    have KB2 := hide (kb_trans (unhide KB1) (kb_none f2))
    clear f2 HC J1 H41 H81 H91 R1 RD1 RK1 F1 KB1
    go_wp2_with fail
    refine wpIn_seq_k (fun K3 hK3 => ?_)
    refine wpIn_seq_k (fun K4 hK4 => ?_)
    refine region_inL (by repeat' (first | exact unhide HLO | apply not_lo_then | apply not_lo_block)) (by kernel_rfl) ?_
    go_wp2_with fail
    refine wpIn_cond_false rfl ?_
    refine wpIn_skip ?_
    refine hK3 _ _ ?_
    refine wpIn_seq_k (fun K5 hK5 => ?_)
    refine wpIn_seq_k (fun K6 hK6 => ?_)
    refine region_inL (by repeat' (first | exact unhide HLO | apply not_lo_then | apply not_lo_block)) (by kernel_rfl) ?_
    go_wp2_with fail
    refine wpIn_cond_true rfl ?_
    refine wpIn_seq_k (fun K7 hK7 => ?_)
    refine region_inL (by repeat' (first | exact unhide HLO | apply not_lo_then | apply not_lo_block)) (by kernel_rfl) ?_
    have c8 := cell_of_heap (unhide H82) 0
    have z8 := frozen_of_heap (unhide H82) 0
    simp at c8
    have hs8 := heap_setCell_same _ b8 0 _ 33 (.int .i64 81) (unhide H82)
    have f8 : Fr (fun k => k = b8) W2 (W2.setCell ⟨b8, 0, none⟩ (.int .i64 81)) := (Fr.refl (fun k => k = b8) _).setCell (p := ⟨b8, 0, none⟩) (fun _ => rfl) _
    have kk8 := knd_cells (unhide H82)
    have HJ8 := hide ((unhide J2).keptN f8 (fun k e => by rw [show k = b8 from e, kk8]; unfold KD KJ; omega))
    have HS8 := hide hs8
    have HF8 := hide ((unhide F2).trans f8 (fun k hk e => absurd (show k = b8 from e) (by omega)))
    have HK8 := hide (kb_trans (unhide KB2) (f8.mono (fun _ _ e => .inr (.inl e))))
    clear hs8 f8 kk8
    go_wp2_with fail
    refine wpIn_ret ?_
    refine unhide HQR _ _ (by rw [unhide HW]; exact (by decide : (81 : Int) ≠ 0)) (by rw [unhide HW]; exact unhide HJ8) (by rw [unhide HW]; have := unhide HS8; simpa using this) (unhide HF8) (unhide HK8)
  case pos =>
    have HW : Hid (weS J lsn parts (D, 0) i L = (wrD D (J.blk pos) (enB J.sup.b J.serial pos lsn i parts L.length L), wrE D)) := hide (by rw [unhide HST, if_pos hc, hpos])
    have HC := hide (putEntry_ok W1 J.sup.b J.serial pos lsn i parts (some ⟨B, o2, none⟩) L.length cp L (unhide R1) rfl (by rw [hpos]; exact hc))
    have HEL := hide (enB_length (b := J.sup.b) (s := J.serial) (p := pos) (l := lsn) (pt := i) (ps := parts) (n := L.length) hL)
    have hp64 : pos < 9223372036854775807 := by omega
    clear hc HST hpos
    refine wpIn_seq_k (fun K2 hK2 => ?_)
    refine region_inL (by repeat' (first | exact unhide HLO | apply not_lo_then | apply not_lo_block)) (by kernel_rfl) ?_
    go_wp2_with (refine wl_loadR 25 7 _ Try.underlying25 (by kernel_rfl) (.tmp 9) rfl rfl b9 rfl _ 25 (unhide H91) rfl ?_)
    refine (unhide HC).mono ?_
    rintro e W2 ⟨g, rfl, hg, -, f2⟩
    have HG := hide hg
    have J2 := hide ((unhide J1).kept0 f2)
    have H42 := hide ((f2.block _ (lt_of_heap (unhide H41)) id).trans (unhide H41))
    have H82 := hide ((f2.block _ (lt_of_heap (unhide H81)) id).trans (unhide H81))
    have H92 := hide ((f2.block _ (lt_of_heap (unhide H91)) id).trans (unhide H91))
    have RD2 := hide ((unhide RD1).kept f2 (fun _ _ e => e))
    have RK2 := hide (show ∀ b, v.ownBlock = some b → knd W2 b = 5 from fun b e => by
      have h5 := unhide RK1 b e
      rcases Nat.lt_or_ge b W1.heap.size with h' | h'
      · rw [knd_fr f2 id h']; exact h5
      · unfold knd at h5
        rw [Array.getElem?_eq_none h'] at h5
        simp at h5)
    have F2 := hide ((unhide F1).trans f2 (fun _ _ e => e.elim))
    have KB2 := hide (kb_trans (unhide KB1) (kb_none f2))
    clear hg f2 HC J1 H41 H81 H91 R1 RD1 RK1 F1 KB1
    generalize enB J.sup.b J.serial pos lsn i parts L.length L = en at *
    go_wp2_with fail
    refine wpIn_seq_k (fun K3 hK3 => ?_)
    refine wpIn_seq_k (fun K4 hK4 => ?_)
    refine region_inL (by repeat' (first | exact unhide HLO | apply not_lo_then | apply not_lo_block)) (by kernel_rfl) ?_
    go_wp2_with fail
    refine wpIn_cond_true rfl ?_
    refine we7 (by repeat' (first | exact unhide HLO | apply not_lo_then | apply not_lo_block)) (unhide J2) (unhide H42) (unhide H92) (by omega) (unhide HG) (unhide HEL) hq ?_
    intros
    rename_i W3 hW3
    obtain ⟨h3, f3⟩ := hW3
    have J3 := hide h3
    have nz : ∀ {k : Nat} {cs : Array Value} {t : Nat}, W2.heap[k]? = some (.cells cs t (0, 0)) → ¬ KD t ∧ ¬ KJ t → W3.heap[k]? = some (.cells cs t (0, 0)) := fun {k cs t} hk ht => by
      refine (f3.block k (lt_of_heap hk) (fun e => ?_)).trans hk
      have := e.1
      rw [knd_cells hk] at this
      rcases this with h | h
      · exact ht.1 h
      · exact ht.2 h
    have H43 := hide (nz (unhide H42) (by unfold KD KJ; omega))
    have H83 := hide (nz (unhide H82) (by unfold KD KJ; omega))
    have H93 := hide (nz (unhide H92) (by unfold KD KJ; omega))
    have RD3 := hide (zs_rd f3 (unhide RD2) (unhide RK2))
    have RK3 := hide (show ∀ b, v.ownBlock = some b → knd W3 b = 5 from fun b e => by
      have h5 := unhide RK2 b e
      rcases Nat.lt_or_ge b W2.heap.size with h' | h'
      · rw [knd_fr f3 (fun z => by have := z.1; rw [h5] at this; unfold KD KJ at this; omega) h']; exact h5
      · unfold knd at h5
        rw [Array.getElem?_eq_none h'] at h5
        simp at h5)
    have F3 := hide (zs_trans (unhide F2) f3)
    have KB3 := hide (kb_trans (unhide KB2) (kb_zs f3))
    clear h3 f3 nz J2 H42 H82 H92 RD2 RK2 F2 KB2 HG HEL
    refine hK3 _ _ ?_
    by_cases hE : wrE D = 0
    case neg =>
      have HW2 : Hid ((weS J lsn parts (D, 0) i L).2 ≠ 0) := hide (by rw [unhide HW]; exact hE)
      have b1 : (wrE D != 0) = true := by simpa using hE
      clear hE
      refine wpIn_seq_k (fun K5 hK5 => ?_)
      refine wpIn_seq_k (fun K6 hK6 => ?_)
      refine region_inL (by repeat' (first | exact unhide HLO | apply not_lo_then | apply not_lo_block)) (by kernel_rfl) ?_
      go_wp2_with fail
      refine wpIn_cond_true rfl ?_
      refine wpIn_seq_k (fun K7 hK7 => ?_)
      refine region_inL (by repeat' (first | exact unhide HLO | apply not_lo_then | apply not_lo_block)) (by kernel_rfl) ?_
      have c8 := cell_of_heap (unhide H83) 0
      have z8 := frozen_of_heap (unhide H83) 0
      simp at c8
      have hs8 := heap_setCell_same _ b8 0 _ 33 (.int .i64 (wrE D)) (unhide H83)
      have f8 : Fr (fun k => k = b8) W3 (W3.setCell ⟨b8, 0, none⟩ (.int .i64 (wrE D))) := (Fr.refl (fun k => k = b8) _).setCell (p := ⟨b8, 0, none⟩) (fun _ => rfl) _
      have kk8 := knd_cells (unhide H83)
      have HJ8 := hide ((unhide J3).keptN f8 (fun k e => by rw [show k = b8 from e, kk8]; unfold KD KJ; omega))
      have HS8 := hide hs8
      have HF8 := hide ((unhide F3).trans f8 (fun k hk e => absurd (show k = b8 from e) (by omega)))
      have HK8 := hide (kb_trans (unhide KB3) (f8.mono (fun _ _ e => .inr (.inl e))))
      clear hs8 f8 kk8
      go_wp2_with fail
      refine wpIn_ret ?_
      refine unhide HQR _ _ (unhide HW2) (by rw [unhide HW]; exact unhide HJ8) (by rw [unhide HW]; have := unhide HS8; simpa using this) (unhide HF8) (unhide HK8)
    case pos =>
      have HW2 : Hid ((weS J lsn parts (D, 0) i L).2 = 0) := hide (by rw [unhide HW]; exact hE)
      rw [hE]
      clear hE
      refine wpIn_seq_k (fun K5 hK5 => ?_)
      refine wpIn_seq_k (fun K6 hK6 => ?_)
      refine region_inL (by repeat' (first | exact unhide HLO | apply not_lo_then | apply not_lo_block)) (by kernel_rfl) ?_
      go_wp2_with fail
      refine wpIn_cond_false rfl ?_
      refine wpIn_skip ?_
      refine hK5 _ _ ?_
      have d4 := cell_of_heap (unhide H93) 4
      have y4 := frozen_of_heap (unhide H93) 4
      simp at d4
      have hi1 := heap_setCell_same _ b9 4 _ 25 (.int .i64 ((i : Int) + 1)) (unhide H93)
      have fi1 : Fr (fun k => k = b9) W3 (W3.setCell ⟨b9, 4, none⟩ (.int .i64 ((i : Int) + 1))) := (Fr.refl (fun k => k = b9) W3).setCell (p := ⟨b9, 4, none⟩) (fun _ => rfl) _
      have d2 := cell_of_heap hi1 2
      have y2 := frozen_of_heap hi1 2
      simp at d2
      have hi2 := heap_setCell_same _ b9 2 _ 25 (.int .u64 ((pos : Int) + 1)) hi1
      have fi2 : Fr (fun k => k = b9) W3 ((W3.setCell ⟨b9, 4, none⟩ (.int .i64 ((i : Int) + 1))).setCell ⟨b9, 2, none⟩ (.int .u64 ((pos : Int) + 1))) := fi1.setCell (p := ⟨b9, 2, none⟩) (fun _ => rfl) _
      have HI2 := hide hi2
      have FI2 := hide fi2
      have k9 := knd_cells (unhide H93)
      have K9 := hide k9
      clear hi1 fi1 hi2 fi2 k9
      refine wpIn_seq_k (fun K7 hK7 => ?_)
      refine region_inL (by repeat' (first | exact unhide HLO | apply not_lo_then | apply not_lo_block)) (by kernel_rfl) ?_
      go_wp2_with fail
      refine region_inL (by repeat' (first | exact unhide HLO | apply not_lo_then | apply not_lo_block)) (by kernel_rfl) ?_
      go_wp2_with fail
      have n84 : b4 ≠ b9 := fun e => by have := unhide K9; rw [← e, knd_cells (unhide H43)] at this; exact absurd this (by decide)
      have n89 : b8 ≠ b9 := fun e => by have := unhide K9; rw [← e, knd_cells (unhide H83)] at this; exact absurd this (by decide)
      refine unhide HQN _ _ (unhide HW2) ⟨?_, ((unhide FI2).block _ (lt_of_heap (unhide H43)) n84).trans (unhide H43), ⟨_, ((unhide FI2).block _ (lt_of_heap (unhide H83)) n89).trans (unhide H83)⟩, ⟨.slice (some ⟨B, o2, none⟩) L.length cp, ?_⟩, ?_, fun b e => ?_, ?_⟩ ?_
      · rw [unhide HW]; exact (unhide J3).keptN (unhide FI2) (fun k e => by rw [show k = b9 from e, unhide K9]; unfold KD KJ; omega)
      · rw [unhide HI2, unhide HPOS]
        simp
        omega
      · exact (unhide RD3).kept (unhide FI2) (fun b e z => by have := unhide RK3 b e; rw [show b = b9 from z, unhide K9] at this; exact absurd this (by decide))
      · have h5 := unhide RK3 b e
        rcases Nat.lt_or_ge b W3.heap.size with h' | h'
        · rw [knd_fr (unhide FI2) (fun z => by rw [show b = b9 from z, unhide K9] at h5; exact absurd h5 (by decide)) h']; exact h5
        · unfold knd at h5
          rw [Array.getElem?_eq_none h'] at h5
          simp at h5
      · exact (unhide F3).trans (unhide FI2) (fun k hk e => absurd (show k = b9 from e) (by omega))
      · exact kb_trans (unhide KB3) ((unhide FI2).mono (fun _ _ e => .inr (.inr e)))
end Go.Proofs.Ytgodlfoidjeekaa

namespace Go.Proofs.Ytgodlfoidjeekaa
set_option linter.unusedVariables false
set_option linter.unusedSimpArgs false
open Go.RowKit
set_option linter.unusedVariables false
set_option linter.unusedSimpArgs false

attribute [local go_sem ↓] Go.wp_at_zero Go.wp_at_succ

def WeInv (X : Nat → Prop) (w0 w : World) (j s b4 b8 b9 : Nat) (J : Jn) (lsn parts : Nat) (v : Value) (p : List UInt8) (D : Dv) (c1 c2 : Nat) (pre : List Nat) (W : World) : Prop :=
  We X w0 w j s b4 b8 b9 J lsn parts v p (weI J D lsn parts p pre).1 pre.length W ∧ (weI J D lsn parts p pre).2 = 0 ∧ knd W c1 = 23 ∧ knd W c2 = 3
def WeEnd (X : Nat → Prop) (w0 w : World) (j s b8 : Nat) (J : Jn) (lsn parts : Nat) (p : List UInt8) (D : Dv) (c : Code) (pre : List Nat) (W : World) : Prop :=
  c = .ret ∧ (weI J D lsn parts p pre).2 ≠ 0 ∧ JS X w0 W j s J (weI J D lsn parts p pre).1 ∧ W.heap[b8]? = some (.cells #[.int .i64 (weI J D lsn parts p pre).2] 33 (0, 0)) ∧ Fr (Zs X w0 w) w W
theorem fr_grown {W W' : World} {row : Option Nat} (h : W.grownBy W' row) : Fr (fun k => row = some k) W W' := ⟨h.os, h.tape, h.output, h.size, fun k hk hn => h.block k hk (fun e => hn e.symm)⟩
theorem knd_lt {w : World} {b k : Nat} (h : knd w b = k) (hk : k < 1000) : b < w.heap.size := by
  rcases Nat.lt_or_ge b w.heap.size with h' | h'
  · exact h'
  · unfold knd at h
    rw [Array.getElem?_eq_none h'] at h
    simp at h
    omega
theorem grown_kinds {W W' : World} {B : Nat} {row : Option Nat} (hr : ∀ r, row = some r → B ≤ r ∧ ∃ o : Obj, W.heap[r]? = some o ∧ o.isCells = false) : ∀ k, row = some k → B ≤ k ∧ (knd W k = 1000 ∨ knd W k = 1001) := fun k e => by
  obtain ⟨h1, o, h2, h3⟩ := hr k e
  exact ⟨h1, knd_noncells h2 h3⟩
theorem weInv_own {X : Nat → Prop} {w0 w : World} {j s b4 b8 b9 : Nat} {J : Jn} {lsn parts : Nat} {v : Value} {p : List UInt8} {D : Dv} {c1 c2 B : Nat} (hB : w.heap.size ≤ B) : OwnFrom B (WeInv X w0 w j s b4 b8 b9 J lsn parts v p D c1 c2) := by
  rintro pre W W' row ⟨hW, hz, h1, h2⟩ hg hr
  have hk := grown_kinds (W' := W') hr
  have f := fr_grown hg
  refine ⟨hW.kept f (fun k e => ⟨Nat.le_trans hB (hk k e).1, (hk k e).2⟩), hz, ?_, ?_⟩
  · rw [knd_fr f (fun e => by have := (hk _ e).2; omega) (knd_lt h1 (by decide))]; exact h1
  · rw [knd_fr f (fun e => by have := (hk _ e).2; omega) (knd_lt h2 (by decide))]; exact h2
theorem weEnd_own {X : Nat → Prop} {w0 w : World} {j s b8 : Nat} {J : Jn} {lsn parts : Nat} {p : List UInt8} {D : Dv} {B : Nat} {c : Code} (hB : w.heap.size ≤ B) (h8 : w.heap.size ≤ b8) : OwnFrom B (WeEnd X w0 w j s b8 J lsn parts p D c) := by
  rintro pre W W' row ⟨hc, hz, hJ, h8', hF⟩ hg hr
  have hk := grown_kinds (W' := W') hr
  have f := fr_grown hg
  refine ⟨hc, hz, hJ.keptN f (fun k e => ?_), ?_, hF.trans f (fun k hk' e => by have := (hk k e).1; omega)⟩
  · have := (hk k e).2
    unfold KD KJ
    omega
  · refine (f.block _ (lt_of_heap h8') (fun e => ?_)).trans h8'
    have := (hk _ e).2
    rw [knd_cells h8'] at this
    omega
theorem kpc_t {c1 c2 : Nat} {A B C : World} (h : KpC c1 c2 A B) (g : KpC c1 c2 B C) : KpC c1 c2 A C := fun v => ⟨fun e => (g v).1 ((h v).1 e), fun e => (g v).2 ((h v).2 e)⟩
theorem kpc_put {c1 c2 : Nat} {W : World} {l : Nat} {o o' : Obj} (h : W.heap[l]? = some o) (hc : o.isCells = false) : KpC c1 c2 W (W.putObj l o') := fun v => by
  have f : ∀ c v, W.cell? ⟨c, 0, none⟩ = some v → (W.putObj l o').cell? ⟨c, 0, none⟩ = some v := fun c v e => cell_kept e (grownBy_putObj' W l o') (fun r e => by cases e; exact ⟨o, h, hc⟩)
  exact ⟨f c1 v, f c2 v⟩
theorem kb_out {X : Nat → Prop} {w0 W : World} {b8 b9 k t8 t9 : Nat} {cs8 cs9 : Array Value} (h8 : W.heap[b8]? = some (.cells cs8 33 (0, 0))) (h9 : W.heap[b9]? = some (.cells cs9 25 (0, 0))) (hk : ¬ KD (knd W k) ∧ ¬ KJ (knd W k) ∧ knd W k ≠ 33 ∧ knd W k ≠ 25) : ¬ (Zs X w0 W k ∨ k = b8 ∨ k = b9) := by
  rintro (h | rfl | rfl)
  · rcases h.1 with h | h
    · exact hk.1 h
    · exact hk.2.1 h
  · exact hk.2.2.1 (knd_cells h8)
  · exact hk.2.2.2 (knd_cells h9)
theorem kb_others {X : Nat → Prop} {w0 W W' : World} {b8 b9 : Nat} {cs8 cs9 : Array Value} (h8 : W.heap[b8]? = some (.cells cs8 33 (0, 0))) (h9 : W.heap[b9]? = some (.cells cs9 25 (0, 0))) (f : KeepsB X w0 b8 b9 W W') : KeepsOthers W W' := by
  refine ⟨f.size, fun k ob h hc => (f.block k (lt_of_heap h) (kb_out (t8 := 0) (t9 := 0) h8 h9 ?_)).trans h⟩
  have := knd_noncells h hc
  unfold KD KJ
  omega
theorem kb_knd {X : Nat → Prop} {w0 W W' : World} {b8 b9 c t : Nat} {cs8 cs9 : Array Value} (h8 : W.heap[b8]? = some (.cells cs8 33 (0, 0))) (h9 : W.heap[b9]? = some (.cells cs9 25 (0, 0))) (h : knd W c = t) (ht : t = 23 ∨ t = 3) (f : KeepsB X w0 b8 b9 W W') : knd W' c = t := by
  rw [knd_fr f (kb_out (t8 := 0) (t9 := 0) h8 h9 (by rw [h]; unfold KD KJ; omega)) (knd_lt h (by omega))]
  exact h
theorem kb_kpc {X : Nat → Prop} {w0 W W' : World} {b8 b9 c1 c2 : Nat} {cs8 cs9 : Array Value} (h8 : W.heap[b8]? = some (.cells cs8 33 (0, 0))) (h9 : W.heap[b9]? = some (.cells cs9 25 (0, 0))) (h1 : knd W c1 = 23) (h2 : knd W c2 = 3) (f : KeepsB X w0 b8 b9 W W') : KpC c1 c2 W W' := by
  have n1 := kb_out (X := X) (w0 := w0) (t8 := 0) (t9 := 0) (k := c1) h8 h9 (by rw [h1]; unfold KD KJ; omega)
  have n2 := kb_out (X := X) (w0 := w0) (t8 := 0) (t9 := 0) (k := c2) h8 h9 (by rw [h2]; unfold KD KJ; omega)
  intro v
  exact ⟨fun e => (f.cell (a := ⟨c1, 0, none⟩) (knd_lt h1 (by decide)) n1).trans e, fun e => (f.cell (a := ⟨c2, 0, none⟩) (knd_lt h2 (by decide)) n2).trans e⟩
theorem we_ret {X : Nat → Prop} {w0 w W : World} {j s b8 Dd : Nat} {r : Int} {J : Jn} {D : Dv} (hK : W.heap[Dd]? = some (.deferred (some []))) (hJ : JS X w0 W j s J D) (h8 : W.cell? ⟨b8, 0, none⟩ = some (.int .i64 r)) (hF : Fr (Zs X w0 w) w W) (hD : w.heap.size ≤ Dd) :
    (W.putObj Dd (.deferred none)).cell? ⟨b8, 0, none⟩ = some (.int .i64 r) ∧ JS X w0 (W.putObj Dd (.deferred none)) j s J D ∧ Fr (Zs X w0 w) w (W.putObj Dd (.deferred none)) := by
  have hg := grownBy_putObj' W Dd (.deferred none)
  have f := fr_grown hg
  have hk := knd_noncells hK rfl
  refine ⟨cell_kept h8 hg (fun r e => by cases e; exact ⟨_, hK, rfl⟩), hJ.keptN f (fun k e => ?_), hF.trans f (fun k hk' e => ?_)⟩
  · simp at e
    subst e
    unfold KD KJ
    omega
  · simp at e
    omega
theorem not_lo_thenF {K : Act → World → Prop} : ¬ LetsOut (Exit.then K (fun _ _ _ => False)) := by
  rintro ⟨a, w, e⟩
  exact e

set_option maxRecDepth 100000 in
set_option maxHeartbeats 4000000 in
theorem writeEntries_any {X : Nat → Prop} {w0 : World} (w : World) (j s : Nat) (J : Jn) (D : Dv) (B o cap : Nat) (p : List UInt8) (lsn parts : Nat) (hlsn : lsn < 18446744073709551616) (hparts : parts ≤ 1000) (H : JS X w0 w j s J D) (hV : Rd w (.slice (some ⟨B, o, none⟩) p.length cap) p) (hvk : knd w B = 5) (hp : 1 ≤ p.length ∧ p.length ≤ 100000) (hq : D.Q.length ≤ 900000) :
    Calls Try.prog 75 #[.pointer (some ⟨j, 0, none⟩), .slice (some ⟨B, o, none⟩) p.length cap, .int .u64 (lsn : Int), .int .i64 (parts : Int)] w fun e w' => e = .returned (.int .i64 (weR J D lsn parts p).2) ∧ JS X w0 w' j s J (weR J D lsn parts p).1 ∧ Fr (Zs X w0 w) w w' := by
  have hA : ((w.alloc (.cells #[.pointer (some ⟨j, 0, none⟩)] 66)).alloc (.cells #[.int .i64 0] 33)).heap[w.heap.size]? = some (.cells #[.pointer (some ⟨j, 0, none⟩)] 66 (0, 0)) := by
    refine (((Fr.refl (fun _ => False) (w.alloc (.cells #[.pointer (some ⟨j, 0, none⟩)] 66))).alloc (.cells #[.int .i64 0] 33)).block w.heap.size (by simp) id).trans (heap_alloc_new w _)
  have hB : ((w.alloc (.cells #[.pointer (some ⟨j, 0, none⟩)] 66)).alloc (.cells #[.int .i64 0] 33)).heap[w.heap.size + 1]? = some (.cells #[.int .i64 0] 33 (0, 0)) := by
    have := heap_alloc_new (w.alloc (.cells #[.pointer (some ⟨j, 0, none⟩)] 66)) (.cells #[.int .i64 0] 33)
    simpa using this
  have fA : Fr (fun _ => False) w ((w.alloc (.cells #[.pointer (some ⟨j, 0, none⟩)] 66)).alloc (.cells #[.int .i64 0] 33)) := ((Fr.refl _ _).alloc _).alloc _
  have HS := hide (H.kept0 fA)
  have HV := hide (hV.kept fA (fun _ _ e => e))
  have hBl : B < w.heap.size := by
    obtain ⟨B', o', e, -, -, -, hcs⟩ := hV.lits (by omega)
    simp only [Option.some.injEq, Addr.mk.injEq] at e
    obtain ⟨rfl, rfl, -⟩ := e
    exact World.block_lt_of_cell? w _ (hcs 0 (by omega))
  have HVK := hide (show knd ((w.alloc (.cells #[.pointer (some ⟨j, 0, none⟩)] 66)).alloc (.cells #[.int .i64 0] 33)) B = 5 by rw [knd_fr fA id hBl]; exact hvk)
  have FA := hide fA
  have HBL := hide hBl
  have hcp : p.length ≤ cap ∧ cap ≤ maxLen := by
    obtain ⟨B', o', e, -, h1, h2, -⟩ := hV.lits (by omega)
    exact ⟨h1, h2⟩
  have HCP := hide hcp
  have HQ := hide hq
  have HPL := hide hp
  clear H hV hvk hq hcp fA hBl hp
  refine (callsIn_wide (n := 10)).1 ?_
  refine callsIn_of_wp_marks Try.func75 rfl trivial ?_ rfl
  simp only [Try.ntmps75, List.size_toArray, List.length_cons, List.length_nil, Nat.reduceAdd, Nat.reduceSub, Array.replicate_succ, Array.replicate_zero, List.push_toArray, List.append_toArray, List.nil_append, List.cons_append]
  refine wpIn_wide.2 ?_
  obtain ⟨Q0, hQ0⟩ : ∃ Q0, Q0 = bodyPostM Fence.wide 10 Try.prog Try.f75 (fun e w' => e = .returned (.int .i64 (weR J D lsn parts p).2) ∧ JS X w0 w' j s J (weR J D lsn parts p).1 ∧ Fr (Zs X w0 w) w w') := ⟨_, rfl⟩
  rw [← hQ0]
  have HQ0 := hide hQ0
  clear hQ0
  go_upto_region 1 with fail
  refine wp_world ?_
  intro w1 hw1
  rw [← hw1] at hA hB HS HV HVK FA
  obtain ⟨b4, hb4⟩ : ∃ b4, b4 = w.heap.size := ⟨_, rfl⟩
  rw [← hb4] at hA hB ⊢
  obtain ⟨b8, hb8⟩ : ∃ b8, b8 = b4 + 1 := ⟨_, rfl⟩
  rw [← hb8] at hB ⊢
  have HN4 := hide (show w.heap.size ≤ b4 by omega)
  have HN8 := hide (show w.heap.size ≤ b8 by omega)
  have HA := hide hA
  have HB := hide hB
  clear hw1 hb4 hb8 hA hB
  obtain ⟨mv, sv, qv, hJ, -, -⟩ := (unhide HS).ex
  have HO := hide (unhide HS).ok
  have hnd := (unhide HO).nd
  refine we1 hJ hnd.2.1 (unhide HA) ?_
  intro y13 y14 y15 y16 y17 y18 y19 y20 y21 y22 y23 y24 y25 y26 b9 w2 f2 hb9 h9
  have hsw := (unhide FA).size
  have HN9 := hide (show w.heap.size ≤ b9 by omega)
  have HS2 := hide ((unhide HS).kept0 f2)
  have H4 := hide ((f2.block _ (lt_of_heap (unhide HA)) id).trans (unhide HA))
  have H8 := hide ((f2.block _ (lt_of_heap (unhide HB)) id).trans (unhide HB))
  have H9 := hide h9
  have HV2 := hide ((unhide HV).kept f2 (fun _ _ e => e))
  have HVK2 := hide (show knd w2 B = 5 by rw [knd_fr f2 id (Nat.lt_of_lt_of_le (unhide HBL) hsw)]; exact unhide HVK)
  have F2 := hide ((unhide FA).trans f2 (fun _ _ e => e))
  clear f2 hb9 h9 hsw hJ HS HA HB HV HVK FA
  go_wp2_with fail
  refine (chunk_any w2 (some ⟨B, o, none⟩) p.length cap).mono ?_
  rintro e w3 ⟨c1, c2, rfl, hc1, hc2, g1, g2, f3, k1, k2⟩
  have HS3 := hide ((unhide HS2).kept0 f3)
  have H43 := hide ((f3.block _ (lt_of_heap (unhide H4)) id).trans (unhide H4))
  have H83 := hide ((f3.block _ (lt_of_heap (unhide H8)) id).trans (unhide H8))
  have H93 := hide ((f3.block _ (lt_of_heap (unhide H9)) id).trans (unhide H9))
  have HV3 := hide ((unhide HV2).kept f3 (fun _ _ e => e))
  have hsw2 := (unhide F2).size
  have HVK3 := hide (show knd w3 B = 5 by rw [knd_fr f3 id (Nat.lt_of_lt_of_le (unhide HBL) hsw2)]; exact unhide HVK2)
  have F3 := hide ((unhide F2).trans f3 (fun _ _ e => e))
  have G1 := hide g1
  have G2 := hide g2
  clear f3 g1 g2 hc1 hc2 HS2 H4 H8 H9 HV2 HVK2 F2 hsw2
  go_wp2_with fail
  refine (wpIn_wide (n := 10)).1 ?_
  have hchunk := chunk_stops 9 w3 c1 c2 B o p.length cap (by decide) (unhide HPL) (unhide HCP).1 (unhide HCP).2 (unhide G1) (unhide G2)
  have h0 : WeInv X w0 w j s b4 b8 b9 J lsn parts (.slice (some ⟨B, o, none⟩) p.length cap) p D c1 c2 [] w3 := ⟨⟨unhide HS3, unhide H43, ⟨_, unhide H83⟩, ⟨_, by have := unhide H93; simpa using this⟩, unhide HV3, fun b e => by simp [Value.ownBlock] at e; subst e; exact unhide HVK3, (unhide F3).mono (fun _ _ e => e.elim)⟩, rfl, k1, k2⟩
  have hsw3 := (unhide F3).size
  refine wpIn_rangeFunc_ownF (F := Fence.wide) rfl (by decide) (gf := 93) (lb := #[.pointer (some ⟨c1, 0, none⟩), .pointer (some ⟨c2, 0, none⟩)]) rfl trivial (by simp [go_sem]) hchunk kpc_t (fun W l ob ob' _ h1 h2 _ => kpc_put h1 h2) (Below.refl _ _) (fun _ => rfl)
    (WeInv X w0 w j s b4 b8 b9 J lsn parts (.slice (some ⟨B, o, none⟩) p.length cap) p D c1 c2) (WeEnd X w0 w j s b8 J lsn parts p D) (weInv_own hsw3) (fun _ => weEnd_own hsw3 (unhide HN8)) h0
    (fun x => ⟨#[.pointer (some ⟨j, 0, none⟩), .slice (some ⟨B, o, none⟩) p.length cap, .int .u64 (lsn : Int), .int .i64 (parts : Int), .pointer (some ⟨b4, 0, none⟩), undef, undef, undef, .pointer (some ⟨b8, 0, none⟩), .pointer (some ⟨b9, 0, none⟩), .slice (some ⟨B, o + 336 * x, none⟩) (min 336 (p.length - 336 * x)) (min 336 (p.length - 336 * x)), undef, undef, y13, y14, y15, y16, y17, y18, y19, y20, y21, y22, y23, y24, y25, y26, .slice (some ⟨B, o, none⟩) p.length cap, .func (.func 93) #[] #[.pointer (some ⟨c1, 0, none⟩), .pointer (some ⟨c2, 0, none⟩)], .slice (some ⟨B, o + 336 * x, none⟩) (min 336 (p.length - 336 * x)) (min 336 (p.length - 336 * x)), undef, undef, undef, undef, undef, undef, undef, undef, undef, undef, undef, undef, undef, undef, undef, undef, undef, undef, undef, undef, undef, undef, undef, undef, undef, undef, undef, undef, undef, undef, undef, undef], []⟩) ?assign ?body ?done ?stop
  case assign =>
    intro l x W K hK
    refine region_inL (not_lo_thenF) (by kernel_rfl) ?_
    go_wp2_with fail
    exact hK
  case body =>
    rintro l pre x W ⟨hW, hz, hk1, hk2⟩ hN
    have hnp : nP p.length ≤ 1000 := by unfold nP; have := (unhide HPL).2; omega
    obtain ⟨hpr, hpl⟩ := pieceL_rd hW.rd (unhide HPL).1 x
    have hlen := weI_len J D lsn parts p pre
    unfold pieceV at hpr
    rw [← hpl] at hpr ⊢
    have hDD : weI J D lsn parts p pre = ((weI J D lsn parts p pre).1, 0) := Prod.ext rfl hz
    have hst : weI J D lsn parts p (pre ++ [x]) = weS J lsn parts ((weI J D lsn parts p pre).1, 0) pre.length (pieceL p x) := by rw [weI_snoc, ← hDD]
    have hrk := hW.rk B rfl
    have hfrW := hW.fr
    obtain ⟨r8, hh8⟩ := hW.h8
    obtain ⟨u9, hh9⟩ := hW.h9
    refine weBody (w := w) (X := X) (w0 := w0) (s := s) (lsn := lsn) (parts := parts) (J := J) (D := (weI J D lsn parts p pre).1) (p := p) (i := pre.length) (L := pieceL p x) hW (unhide HN8) (unhide HN9) hpr (by rw [hpl]; exact Nat.min_le_left _ _) (by have := unhide HQ; omega) (by omega) (by rintro ⟨a, w, e⟩; exact e) hrk ?_ ?_
    · intro a W' hz' hW' hKB
      refine ⟨kb_others hh8 hh9 hKB, kb_kpc hh8 hh9 hk1 hk2 hKB, ⟨?_, by rw [hst]; exact hz', ?_, ?_⟩⟩
      · rw [hst, List.length_append, List.length_singleton]; exact hW'
      · exact kb_knd hh8 hh9 hk1 (by decide) hKB
      · exact kb_knd hh8 hh9 hk2 (by decide) hKB
    · intro a W' hz' hJS h8' hF hKB
      exact ⟨kb_others hh8 hh9 hKB, rfl, by rw [hst]; exact hz', by rw [hst]; exact hJS, by rw [hst]; exact h8', hF⟩
  case done =>
    rintro Dd xs W hDd rfl ⟨hW, hz, hk1, hk2⟩ hK
    have hJS := hW.js
    obtain ⟨r8, h8'⟩ := hW.h8
    have hF := hW.fr
    have hR : weR J D lsn parts p = weI J D lsn parts p (List.range (nP p.length)) := rfl
    rw [← hR] at hJS hz
    have c8 := cell_of_heap h8' 0
    have z8 := frozen_of_heap h8' 0
    simp at c8
    have hs8 := heap_setCell_same W b8 0 _ 33 (.int .i64 0) h8'
    have f8 : Fr (fun k => k = b8) W (W.setCell ⟨b8, 0, none⟩ (.int .i64 0)) := (Fr.refl (fun k => k = b8) W).setCell (p := ⟨b8, 0, none⟩) (fun _ => rfl) _
    have kk8 := knd_cells h8'
    have HJ8 := hide (hJS.keptN f8 (fun k e => by rw [show k = b8 from e, kk8]; unfold KD KJ; omega))
    have HS8 := hide hs8
    have HF8 := hide (hF.trans f8 (fun k hk e => absurd (show k = b8 from e) (by have := unhide HN8; omega)))
    have HK8 := hide ((f8.block Dd (lt_of_heap hK) (fun e => by rw [show Dd = b8 from e, h8'] at hK; simp at hK)).trans hK)
    have HZ := hide hz
    clear hs8 f8 kk8 hK h8' hF hJS hW hR hz hk1 hk2 h0 hchunk
    go_wp2_with fail
    rw [unhide HQ0]
    have h8c := cell_of_heap (unhide HS8) 0
    obtain ⟨e1, e2, e3⟩ := we_ret (unhide HK8) (unhide HJ8) (r := 0) (by simpa using h8c) (unhide HF8) (Nat.le_trans hsw3 hDd)
    refine ⟨by simp, .inl ⟨_, _, rfl, run_takeDeferred (unhide HK8), ?_⟩⟩
    refine ⟨.int .i64 0, ?_, by rw [unhide HZ], e2, e3⟩
    simp [results, Try.f75, go_sem, e1]
  case stop =>
    rintro Dd c pre W hDd ⟨k, hk, rfl⟩ ⟨rfl, hz, hJS, h8', hF⟩ hK
    have hR : weR J D lsn parts p = weI J D lsn parts p (List.range k) := by
      have e1 : List.range (nP p.length) = List.range k ++ (List.range (nP p.length)).drop k := by
        conv => lhs; rw [← List.take_append_drop k (List.range (nP p.length))]
        rw [List.take_range, Nat.min_eq_left hk]
      unfold weR
      rw [e1, weI_stop _ _ _ _ _ _ hz]
    rw [← hR] at hz hJS h8'
    have h8c := cell_of_heap h8' 0
    obtain ⟨e1, e2, e3⟩ := we_ret hK hJS (r := (weR J D lsn parts p).2) (by simpa using h8c) hF (Nat.le_trans hsw3 hDd)
    refine wpIn_ret ?_
    show Q0 _ _ _
    rw [unhide HQ0]
    refine ⟨by simp, .inl ⟨_, _, rfl, run_takeDeferred hK, ?_⟩⟩
    refine ⟨.int .i64 (weR J D lsn parts p).2, ?_, rfl, e2, e3⟩
    simp [results, Try.f75, go_sem, e1]
end Go.Proofs.Ytgodlfoidjeekaa

namespace Go.Proofs.Ytgodlfoidjeekaa
set_option linter.unusedVariables false
set_option linter.unusedSimpArgs false
open Go.RowKit
set_option linter.unusedVariables false
set_option linter.unusedSimpArgs false

attribute [local go_sem ↓] Go.wp_at_zero Go.wp_at_succ

theorem within3 (w : World) (a : Nat) (ha : a = w.heap.size) (b s p : Nat) : Calls Try.prog 54 #[.slice (some ⟨a, 0, none⟩) 3 3] (w.alloc (.cells #[.int .u64 (b : Int), .int .u64 (s : Int), .int .u64 (p : Int)] 22)) fun e w' => e = .returned (.bool (wiB [b, s, p])) ∧ w.alloc (.cells #[.int .u64 (b : Int), .int .u64 (s : Int), .int .u64 (p : Int)] 22) = w' := by
  subst ha
  exact within_any _ _ [b, s, p] (rdv_new w (uvs [b, s, p]) 22 (by simp [uvs])) (by simp)
/-- How many entries. -/
def apN (ps : List (Int × List UInt8)) : Nat := nP (ptL ps).length
/-- Does it fit? -/
def apB (J : Jn) (ps : List (Int × List UInt8)) : Bool := decide (apN ps ≤ J.room) && wiB [J.lst + 1, J.serial + 1, J.nd + apN ps - 1]
/-- A Serial more. -/
def Jn.up (J : Jn) : Jn := { J with serial := J.serial + 1 }
def apW (J : Jn) (D : Dv) (ps : List (Int × List UInt8)) : Dv × Int := weR J.up D (J.lst + 1) (apN ps) (ptL ps)
/-- What Append answers. -/
def apE (J : Jn) (D : Dv) (ps : List (Int × List UInt8)) : Nat × Int :=
  if ptB ps = true then (if apB J ps = true then (if (apW J D ps).2 = 0 then (J.lst + 1, 0) else (0, (apW J D ps).2)) else (0, 5)) else (0, 82)
def apJ (J : Jn) (D : Dv) (ps : List (Int × List UInt8)) : Jn :=
  if ptB ps = true then (if apB J ps = true then (if (apW J D ps).2 = 0 then J.up.more ⟨J.nd + apN ps, J.sup.b, J.serial + 1⟩ else J.up) else J) else J
def apD (J : Jn) (D : Dv) (ps : List (Int × List UInt8)) : Dv :=
  if ptB ps = true then (if apB J ps = true then (apW J D ps).1 else D) else D
def ApP (X : Nat → Prop) (w0 w : World) (j s : Nat) (J : Jn) (D : Dv) (ps : List (Int × List UInt8)) (e : Ending) (w' : World) : Prop :=
  e = .returned (.tuple #[.int .u64 ((apE J D ps).1 : Int), .int .i64 (apE J D ps).2]) ∧ JS X w0 w' j s (apJ J D ps) (apD J D ps) ∧ Fr (Zs X w0 w) w w'
theorem ptL_len {ps : List (Int × List UInt8)} (h : ptB ps = true) : (ptL ps).length = 4 + 388 * ps.length ∧ 1 ≤ ps.length ∧ ps.length ≤ 64 := by
  unfold ptB ctB at h
  simp only [Bool.and_eq_true, decide_eq_true_eq] at h
  refine ⟨?_, by omega, by omega⟩
  unfold ptL
  rw [List.length_append, pbs_length h.2]
  simp [lay_length]
theorem need_apN {ps : List (Int × List UInt8)} (h : ptB ps = true) : needX (ps.length : Int) = (apN ps : Int) ∧ 1 ≤ apN ps ∧ apN ps ≤ 100 := by
  obtain ⟨h1, h2, h3⟩ := ptL_len h
  have hc : ctB (ps.length : Int) = true := by unfold ptB at h; simp only [Bool.and_eq_true] at h; exact h.1
  unfold needX apN nP
  rw [if_pos hc, h1]
  omega
theorem JAt.up {w : World} {j s : Nat} {mv : Value} {J : Jn} (h : JAt w j s mv J) : JAt (w.setCell ⟨j, 10, none⟩ (.int .u64 ((J.serial + 1 : Nat) : Int))) j s mv J.up ∧ Fr (JB j mv) w (w.setCell ⟨j, 10, none⟩ (.int .u64 ((J.serial + 1 : Nat) : Int))) := by
  have fs : Fr (fun k => k = j) w (w.setCell ⟨j, 10, none⟩ (.int .u64 ((J.serial + 1 : Nat) : Int))) := (Fr.refl (fun k => k = j) w).setCell (p := ⟨j, 10, none⟩) (fun _ => rfl) _
  refine ⟨⟨?_, owns_kept h.mks fs (fun b hb e => h.ne b hb e)⟩, fs.mono (fun _ _ e => .inl e)⟩
  rw [heap_setCell_same w j 10 _ 115 _ h.heap]
  rfl
theorem Jn.Ok.upS {J : Jn} {n : Nat} (h : J.Ok n) (hs : J.serial + 1 ≤ 4611686018427387904) : J.up.Ok n := ⟨h.place, h.ring, h.sup, h.marks, h.up, h.full, hs, h.synced⟩
theorem js_up {X : Nat → Prop} {w0 w : World} {j s : Nat} {J : Jn} {D : Dv} (h : JS X w0 w j s J D) (hs : J.serial + 1 ≤ 4611686018427387904) : JS X w0 (w.setCell ⟨j, 10, none⟩ (.int .u64 ((J.serial + 1 : Nat) : Int))) j s J.up D ∧ Fr (Zs X w0 w) w (w.setCell ⟨j, 10, none⟩ (.int .u64 ((J.serial + 1 : Nat) : Int))) := by
  obtain ⟨⟨mv, sv, qv, hJ, hD, hB⟩, ok, sz⟩ := h
  obtain ⟨h1, h2⟩ := hJ.up
  exact js_jr hJ hD hB sz h1 h2 (fun b hb => .inl hb) (ok.upS hs)
theorem apB_ok {J : Jn} {n : Nat} {ps : List (Int × List UInt8)} (ok : J.Ok n) (h : apB J ps = true) (hn : 1 ≤ apN ps) : J.serial + 1 ≤ 4611686018427387904 ∧ J.lst + 1 ≤ 4611686018427387904 ∧ J.nd + apN ps ≤ J.sup.p + J.ring ∧ J.nd < J.nd + apN ps := by
  unfold apB wiB at h
  simp only [Bool.and_eq_true, decide_eq_true_eq, List.all_cons, List.all_nil] at h
  have h1 := ok.full
  have h2 := ok.nd
  unfold Jn.room at h
  omega
/-- The mark is appended. -/
theorem js_more {X : Nat → Prop} {w0 w w' : World} {j s : Nat} {J : Jn} {D : Dv} {mv sv qv : Value} {m : Mk} (hJ : JAt w j s mv J) (hD : DAt w s sv qv D) (hB : ∀ b, (JB j mv b ∨ DB s sv qv b) → X b ∨ w0.heap.size ≤ b) (sz : w0.heap.size ≤ w.heap.size) (ok' : (J.more m).Ok D.S.length) (h : ∃ mv', JAt w' j s mv' (J.more m) ∧ Fr (JB j mv) w w' ∧ ∀ b, mv'.ownBlock = some b → mv.ownBlock = some b ∨ w.heap.size ≤ b) : JS X w0 w' j s (J.more m) D ∧ Fr (Zs X w0 w) w w' := by
  obtain ⟨mv', h1, h2, h3⟩ := h
  exact js_jr hJ hD hB sz h1 h2 h3 ok'

theorem fr_set10 {w : World} {j s : Nat} {mv x : Value} {J : Jn} (h : JAt w j s mv J) : Fr (fun k => k = j) w (w.setCell ⟨j, 10, none⟩ x) := (Fr.refl (fun k => k = j) w).setCell (p := ⟨j, 10, none⟩) (fun _ => rfl) _
section
variable {X : Nat → Prop} {w0 w w' : World} {j s : Nat} {J : Jn} {D : Dv} {ps : List (Int × List UInt8)}
theorem ap_tx (h : ¬ ptB ps = true) (a : JS X w0 w' j s J D) (f : Fr (Zs X w0 w) w w') : ApP X w0 w j s J D ps (.returned (.tuple #[.int .u64 0, .int .i64 82])) w' := by
  unfold ApP apE apJ apD
  simp only [if_neg h]
  exact ⟨rfl, a, f⟩
theorem ap_full (h : ptB ps = true) (h2 : ¬ apB J ps = true) (a : JS X w0 w' j s J D) (f : Fr (Zs X w0 w) w w') : ApP X w0 w j s J D ps (.returned (.tuple #[.int .u64 0, .int .i64 5])) w' := by
  unfold ApP apE apJ apD
  simp only [if_pos h, if_neg h2]
  exact ⟨rfl, a, f⟩
theorem ap_dev (h : ptB ps = true) (h2 : apB J ps = true) (h3 : (apW J D ps).2 ≠ 0) (a : JS X w0 w' j s J.up (apW J D ps).1) (f : Fr (Zs X w0 w) w w') : ApP X w0 w j s J D ps (.returned (.tuple #[.int .u64 0, .int .i64 (apW J D ps).2])) w' := by
  unfold ApP apE apJ apD
  simp only [if_pos h, if_pos h2, if_neg h3]
  exact ⟨rfl, a, f⟩
theorem ap_yes (h : ptB ps = true) (h2 : apB J ps = true) (h3 : (apW J D ps).2 = 0) (a : JS X w0 w' j s (J.up.more ⟨J.nd + apN ps, J.sup.b, J.serial + 1⟩) (apW J D ps).1) (f : Fr (Zs X w0 w) w w') : ApP X w0 w j s J D ps (.returned (.tuple #[.int .u64 ((J.lst + 1 : Nat) : Int), .int .i64 0])) w' := by
  unfold ApP apE apJ apD
  simp only [if_pos h, if_pos h2, if_pos h3]
  exact ⟨trivial, a, f⟩
end
set_option maxRecDepth 100000 in
set_option maxHeartbeats 4000000 in
theorem append_any {X : Nat → Prop} {w0 : World} (w : World) (j s : Nat) (J : Jn) (D : Dv) (v : Value) (ps : List (Int × List UInt8)) (H : JS X w0 w j s J D) (hP : RdP w v ps) (hl : ps.length ≤ 100000) (hq : D.Q.length ≤ 900000) :
    Calls Try.prog 37 #[.pointer (some ⟨j, 0, none⟩), v] w fun e w' => ApP X w0 w j s J D ps e w' := by
  obtain ⟨ao, cap, rfl⟩ := hP.shape
  have HS := hide H
  have HPP := hide hP
  obtain ⟨mv, sv, qv, hJ, -, -⟩ := H.ex
  have HN := hide (none_any w j s mv J hJ)
  clear hJ
  have HO := hide H.ok
  clear H hP
  go_enter Try.func37, Try.ntmps37
  go_wp2_with fail
  refine (unhide HN).mono ?_
  rintro e w1 ⟨rfl, rfl⟩
  have HS1 := HS
  have HP1 := hide (putTx_any w _ ps (unhide HPP) hl)
  have F1 := hide (Fr.refl (fun _ => False) w)
  clear HN HPP HS
  go_wp2_with fail
  refine (unhide HP1).mono ?_
  rintro e w2 ⟨r, c, rfl, hPt⟩
  unfold Pt at hPt
  by_cases hpt : ptB ps = true
  case neg =>
    rw [if_neg hpt] at hPt
    obtain ⟨rfl, rfl, f2⟩ := hPt
    have HS2 := hide ((unhide HS1).kept0 f2)
    have F2 := hide ((unhide F1).trans f2 (fun _ _ e => e))
    have HPT := hide hpt
    clear f2 F1 HS1 HP1 hpt
    go_wp2_with fail
    go_ret2
    exact ap_tx (unhide HPT) (unhide HS2) ((unhide F2).mono (fun _ _ e => e.elim))
  case pos =>
    rw [if_pos hpt] at hPt
    obtain ⟨rfl, hNb⟩ := hPt
    obtain ⟨hne, hn1, hn2⟩ := need_apN hpt
    obtain ⟨hl1, hl2, hl3⟩ := ptL_len hpt
    obtain ⟨rao, rc, rfl⟩ := hNb.shape
    obtain ⟨rB, ro, hro, -⟩ := hNb.rd.lits (by omega)
    subst hro
    have HL1 := hide hl1
    clear hl1
    have HS2 := hide ((unhide HS1).kept0 hNb.fr)
    have F2 := hide ((unhide F1).trans hNb.fr (fun _ _ e => e))
    have HNB := hide hNb
    obtain ⟨mv2, sv2, qv2, hJ2, -, -⟩ := (unhide HS2).ex
    have hnd := (unhide HO).nd
    have hlst : J.lst ≤ 4611686018427389000 := by
      have := (unhide HO).sup
      unfold Su.Ok at this
      unfold Jn.lst
      omega
    have HL2 := hide (last_any w2 j s mv2 J _ hJ2 (unhide HO))
    obtain ⟨lsn, hlsn⟩ : ∃ lsn, lsn = J.lst + 1 := ⟨_, rfl⟩
    obtain ⟨en, hen⟩ : ∃ en, en = J.nd + apN ps := ⟨_, rfl⟩
    obtain ⟨se, hse⟩ : ∃ se, se = J.serial + 1 := ⟨_, rfl⟩
    have hse0 := (unhide HO).serial
    have k2 : IntKind.u64.wrap ((J.lst : Int) + 1) = (lsn : Int) := by
      have := wrapU (J.lst + 1) (by omega)
      rw [hlsn]
      exact_mod_cast this
    have k4 : IntKind.u64.wrap ((J.nd : Int) + (apN ps : Int)) = (en : Int) := by
      have := wrapU (J.nd + apN ps) (by omega)
      rw [hen]
      exact_mod_cast this
    have k5 : IntKind.u64.wrap ((J.serial : Int) + 1) = (se : Int) := by
      have := wrapU (J.serial + 1) (by omega)
      rw [hse]
      exact_mod_cast this
    have k6 : IntKind.u64.wrap ((en : Int) - 1) = ((en - 1 : Nat) : Int) := by
      have := wrapU (en - 1) (by omega)
      rw [← this]
      congr 1
      omega
    have hlsn64 : lsn < 18446744073709551616 := by omega
    have HLSN := hide hlsn
    have HSE := hide hse
    have HEN := hide hen
    have HLV := hide hlsn64
    obtain ⟨en1, hen1⟩ : ∃ en1, en1 = en - 1 := ⟨_, rfl⟩
    rw [← hen1] at k6
    have HEN1 := hide hen1
    clear hlsn hse hen hse0 hlsn64 hen1
    have HPT := hide hpt
    clear F1 HS1 HP1 hNb hJ2 hpt
    go_wp2_with fail
    refine (need_any w2 (ps.length : Int)).mono ?_
    rintro e w3 ⟨rfl, rfl⟩
    rw [hne]
    clear hne
    go_wp2_with fail
    refine (unhide HL2).mono ?_
    rintro e w3 ⟨rfl, f3⟩
    have HS3 := hide ((unhide HS2).kept0 f3)
    have F3 := hide ((unhide F2).trans f3 (fun _ _ e => e))
    have HNB3 := hide ((unhide HNB).kept f3)
    obtain ⟨mv3, sv3, qv3, hJ3, -, -⟩ := (unhide HS3).ex
    have HE3 := hide (end_any w3 j s mv3 J hJ3 hnd.2.1)
    clear hJ3 f3 HS2 F2 HNB HL2
    go_wp2_with fail
    refine (unhide HE3).mono ?_
    rintro e w4 ⟨rfl, f4⟩
    have HS4 := hide ((unhide HS3).kept0 f4)
    have F4 := hide ((unhide F3).trans f4 (fun _ _ e => e))
    have HNB4 := hide ((unhide HNB3).kept f4)
    obtain ⟨mv4, sv4, qv4, hJ4, -, -⟩ := (unhide HS4).ex
    have HR4 := hide (room_any w4 j s mv4 J _ hJ4 (unhide HO))
    have c10 : w4.cell? ⟨j, 10, none⟩ = some (.int .u64 (J.serial : Int)) := by have := cell_of_heap hJ4.heap 10; simpa using this
    have z10 := frozen_of_heap hJ4.heap 10
    have k3 : ∀ W : World, (convert 3 22 (.int .i64 (apN ps : Int))).run Try.prog W = .ok (.int .u64 (apN ps : Int)) W := fun W => cvI W _ (by omega)
    clear hJ4 f4 HS3 F3 HNB3 HE3
    by_cases hap : apB J ps = true
    case neg =>
      have HAP := hide hap
      by_cases hr : J.room < apN ps
      case pos =>
        have hrm : (J.room : Int) < (apN ps : Int) := by omega
        clear hap
        go_wp2_with fail
        refine (unhide HR4).mono ?_
        rintro e w5 ⟨rfl, f5⟩
        have HS5 := hide ((unhide HS4).kept0 f5)
        have F5 := hide ((unhide F4).trans f5 (fun _ _ e => e))
        clear f5 HS4 F4 HNB4 HR4 c10 z10
        go_wp2_with fail
        go_ret2
        exact ap_full (unhide HPT) (unhide HAP) (unhide HS5) ((unhide F5).mono (fun _ _ e => e.elim))
      case neg =>
        have hrm : ¬ ((J.room : Int) < (apN ps : Int)) := by omega
        have HWI : Hid (wiB [lsn, se, en1] = false) := hide (by
          rw [unhide HLSN, unhide HSE, unhide HEN1, unhide HEN]
          unfold apB at hap
          rw [decide_eq_true (Nat.not_lt.1 hr), Bool.true_and] at hap
          simpa using hap)
        clear hap
        go_wp2_with fail
        refine (unhide HR4).mono ?_
        rintro e w5 ⟨rfl, f5⟩
        have HS5 := hide ((unhide HS4).kept0 f5)
        have F5 := hide ((unhide F4).trans f5 (fun _ _ e => e))
        have d10 : w5.cell? ⟨j, 10, none⟩ = some (.int .u64 (J.serial : Int)) := (f5.cell (a := ⟨j, 10, none⟩) (World.block_lt_of_cell? w4 _ c10) id).trans c10
        clear f5 HS4 F4 HNB4 HR4 c10 z10
        go_wp2_with fail
        refine (within3 w5 _ rfl lsn se en1).mono ?_
        rintro e w6 ⟨rfl, hw6⟩
        rw [unhide HWI]
        have f6 : Fr (fun _ => False) w5 w6 := hw6 ▸ (Fr.refl _ _).alloc _
        have HS6 := hide ((unhide HS5).kept0 f6)
        have F6 := hide ((unhide F5).trans f6 (fun _ _ e => e))
        clear hw6 f6 HS5 F5 d10 HWI
        go_wp2_with fail
        go_ret2
        exact ap_full (unhide HPT) (unhide HAP) (unhide HS6) ((unhide F6).mono (fun _ _ e => e.elim))
    case pos =>
      obtain ⟨g1, g2, g3, g4⟩ := apB_ok (unhide HO) hap hn1
      have hroom : apN ps ≤ J.room := by unfold apB at hap; simp only [Bool.and_eq_true, decide_eq_true_eq] at hap; exact hap.1
      have HWI : Hid (wiB [lsn, se, en1] = true) := hide (by rw [unhide HLSN, unhide HSE, unhide HEN1, unhide HEN]; unfold apB at hap; simp only [Bool.and_eq_true] at hap; exact hap.2)
      have HG3 := hide g3
      have HG4 := hide g4
      have HG1 := hide g1
      have hrm : ¬ ((J.room : Int) < (apN ps : Int)) := by omega
      have HAP := hide hap
      clear hap g1 g2 g3 g4 hroom hlst hnd
      go_wp2_with fail
      refine (unhide HR4).mono ?_
      rintro e w5 ⟨rfl, f5⟩
      have HS5 := hide ((unhide HS4).kept0 f5)
      have F5 := hide ((unhide F4).trans f5 (fun _ _ e => e))
      have HNB5 := hide ((unhide HNB4).kept f5)
      have d10 : w5.cell? ⟨j, 10, none⟩ = some (.int .u64 (J.serial : Int)) := (f5.cell (a := ⟨j, 10, none⟩) (World.block_lt_of_cell? w4 _ c10) id).trans c10
      clear f5 HS4 F4 HNB4 HR4 c10 z10
      go_wp2_with fail
      refine (within3 w5 _ rfl lsn se en1).mono ?_
      rintro e w6 ⟨rfl, hw6⟩
      rw [unhide HWI]
      have f6 : Fr (fun _ => False) w5 w6 := hw6 ▸ (Fr.refl _ _).alloc _
      have HS6 := hide ((unhide HS5).kept0 f6)
      have F6 := hide ((unhide F5).trans f6 (fun _ _ e => e))
      have HNB6 := hide ((unhide HNB5).kept f6)
      obtain ⟨mv6, sv6, qv6, hJ6, -, -⟩ := (unhide HS6).ex
      have c10 : w6.cell? ⟨j, 10, none⟩ = some (.int .u64 (J.serial : Int)) := by have := cell_of_heap hJ6.heap 10; simpa using this
      have z10 := frozen_of_heap hJ6.heap 10
      have hju := js_up (unhide HS6) (unhide HG1)
      rw [← unhide HSE] at hju
      have HJU := hide hju
      have fz := fr_set10 (w := w6) (x := .int .u64 (se : Int)) hJ6
      have FZ := hide fz
      have HJ6 := hide hJ6
      clear hw6 f6 HS5 F5 HNB5 d10 hju HWI hJ6 fz
      have hrmN : ¬ J.room < apN ps := by omega
      go_wp2_with fail
      have k6 := knd_cells (unhide HJ6).heap
      have kB : knd w6 rB = 5 := knd_owns (unhide HNB6).own rfl
      have nB : rB ≠ j := fun e => by rw [e, k6] at kB; exact absurd kB (by decide)
      have rd7 := (unhide HNB6).rd.kept (unhide FZ) (fun b e z => by simp [Value.ownBlock] at e; exact nB (by rw [e]; exact z))
      have kB7 : knd (w6.setCell ⟨j, 10, none⟩ (.int .u64 (se : Int))) rB = 5 := by rw [knd_fr (unhide FZ) nB (knd_lt kB (by decide))]; exact kB
      have F7 := hide (zs_trans ((unhide F6).mono (fun _ _ e => e.elim) : Fr (Zs X w0 w) w w6) (unhide HJU).2)
      have HW : Hid (apW J D ps = weR J.up D lsn (apN ps) (ptL ps)) := hide (by unfold apW; rw [unhide HLSN])
      have hparts : apN ps ≤ 1000 := by omega
      have hpl : 1 ≤ (ptL ps).length ∧ (ptL ps).length ≤ 100000 := by rw [unhide HL1]; omega
      have HWE := hide (writeEntries_any (w6.setCell ⟨j, 10, none⟩ (.int .u64 (se : Int))) j s J.up D rB ro rc (ptL ps) lsn (apN ps) (unhide HLV) hparts (unhide HJU).1 rd7 kB7 hpl hq)
      clear hparts hpl
      generalize weR J.up D lsn (apN ps) (ptL ps) = wr9 at *
      generalize (ptL ps).length = pl at *
      refine (unhide HWE).mono ?_
      rintro e w8 ⟨rfl, hs8, f8⟩
      have HS8 := hide hs8
      have F8 := hide (zs_trans (unhide F7) f8)
      clear HWE hs8 f8 rd7 kB7 nB kB k6 F7 HJU FZ HJ6 HNB6 F6 HS6 c10 z10
      have hW := unhide HW
      subst hW
      clear HW
      by_cases hE : (apW J D ps).2 = 0
      case neg =>
        have b1 : ((apW J D ps).2 != 0) = true := by simpa using hE
        have HE := hide hE
        clear hE
        go_wp2_with fail
        go_ret2
        exact ap_dev (unhide HPT) (unhide HAP) (unhide HE) (unhide HS8) (unhide F8)
      case pos =>
        have HE := hide hE
        rw [hE]
        clear hE
        obtain ⟨mv8, sv8, qv8, hJ8, hD8, hB8⟩ := (unhide HS8).ex
        obtain ⟨mo, mc, rfl⟩ := owns_shape hJ8.mks
        go_upto_region 14 with fail
        have HD8 := hide hD8
        have HB8 := hide hB8
        have HJ8 := hide hJ8
        clear hD8 hB8
        refine ga14 (J := J.up) hJ8 (unhide HS8).ok ?_
        intro y65 y66 y67 y68 y69 y70 y71 y72 y73 y74 y75 y76 y77 y78 y79 y80 y81 y82 y83 y84 w9 h9
        have hok : (J.up.more ⟨en, J.sup.b, J.serial + 1⟩).Ok (apW J D ps).1.S.length := (unhide HS8).ok.more _ (by have := unhide HG4; rw [← unhide HEN] at this; exact this) (by have := unhide HG3; rw [← unhide HEN] at this; exact this) (unhide HS8).ok.sup.2.1 (unhide HG1)
        obtain ⟨g1, g2⟩ := js_more (unhide HJ8) (unhide HD8) (unhide HB8) (unhide HS8).sz hok h9
        rw [unhide HEN] at g1
        have G1 := hide g1
        have F9 := hide (zs_trans (unhide F8) g2)
        clear g1 g2 hok h9 hJ8
        go_wp2_with fail
        go_ret2
        rw [unhide HLSN]
        exact ap_yes (unhide HPT) (unhide HAP) (unhide HE) (unhide G1) (unhide F9)
end Go.Proofs.Ytgodlfoidjeekaa

namespace Go.Proofs.Ytgodlfoidjeekaa
set_option linter.unusedVariables false
set_option linter.unusedSimpArgs false
open Go.RowKit
set_option linter.unusedVariables false
set_option linter.unusedSimpArgs false

attribute [local go_sem ↓] Go.wp_at_zero Go.wp_at_succ

/-- The first i bytes are c. -/
def flB8 (c : UInt8) (i : Nat) : List UInt8 := List.replicate i c ++ List.replicate (384 - i) 0
theorem flB8_len (c : UInt8) (i : Nat) (h : i ≤ 384) : (flB8 c i).length = 384 := by unfold flB8; simp; omega
theorem flB8_set (c : UInt8) (i : Nat) (h : i < 384) : (flB8 c i).set i c = flB8 c (i + 1) := by
  apply List.ext_getElem?
  intro k
  unfold flB8
  simp only [List.getElem?_set, List.getElem?_append, List.length_append, List.length_replicate, List.getElem?_replicate]
  repeat' split
  all_goals first
    | rfl
    | (exfalso; omega)
theorem flB8_384 (c : UInt8) : flB8 c 384 = List.replicate 384 c := by
  unfold flB8
  rw [Nat.sub_self, List.replicate_zero, List.append_nil]
set_option maxRecDepth 100000 in
set_option maxHeartbeats 4000000 in
theorem full_any (w : World) (c : UInt8) : Calls Try.prog 48 #[.int .u8 ((c.toNat : Nat) : Int)] w fun e w' => e = .returned (.slice (some ⟨w.heap.size, 0, none⟩) 384 384) ∧ BAt w' w.heap.size (List.replicate 384 c) ∧ Fr (fun _ => False) w w' := by
  obtain ⟨w1, hmk, hB1, f1⟩ := mk_any w 384 (by decide)
  have hmk' : (Instr.makeSlice 23 (.int .i64 384) (.int .i64 384)).run Try.prog w = .ok (.slice (some ⟨w.heap.size, 0, none⟩) 384 384) w1 := hmk
  have HB0 : Hid (BAt w1 w.heap.size (flB8 c 0)) := hide hB1
  have F1 := hide f1
  obtain ⟨b, hb⟩ : ∃ b, b = w.heap.size := ⟨_, rfl⟩
  rw [← hb] at hmk' HB0 ⊢
  have HB := hide hb
  obtain ⟨cc, hcc⟩ : ∃ cc : Nat, cc = c.toNat := ⟨_, rfl⟩
  rw [← hcc]
  have HCC := hide hcc
  clear hB1 f1 hmk hb hcc
  go_enter Try.func48, Try.ntmps48
  go_wp2_with fail
  go_loopw [4] (fun x W => ∃ i : Nat, i ≤ 384 ∧ x = .int .i64 (i : Int) ∧ BAt W b (flB8 c i) ∧ Fr (fun _ => False) w W) (fun x _ => 384 - (intOf x).toNat)
  case atStart => exact ⟨0, by omega, rfl, unhide HB0, unhide F1⟩
  case round =>
    clear hmk' HB0 F1
    obtain ⟨i, hi, rfl, hBi, hF⟩ := hrel
    have HBi := hide hBi
    have HF := hide hF
    by_cases hlt : i < 384
    · have hlt' : (i : Int) < 384 := by omega
      have c5 := hBi.cell i (by rw [flB8_len _ _ hi]; exact hlt)
      have z5 := hBi.frozen i
      have hadd : IntKind.i64.wrap ((i : Int) + 1) = ((i + 1 : Nat) : Int) := by
        have := wrapI (i + 1) (by omega)
        exact_mod_cast this
      clear hBi hF
      go_wp2_with fail
      go_roundw
      case rel =>
        refine ⟨i + 1, by omega, by go_num, ?_, ?_⟩
        · have := (unhide HBi).set i c
          rw [flB8_set _ _ hlt, ← unhide HCC] at this
          simpa using this
        · have f5 : Fr (fun k => k = b) wr (wr.setCell ⟨b, i, none⟩ (.int .u8 (cc : Int))) := (Fr.refl (fun k => k = b) wr).setCell (p := ⟨b, i, none⟩) (fun _ => rfl) _
          exact ((unhide HF).trans f5 (fun k hk e => by rw [show k = b from e, unhide HB] at hk; omega))
      case measure => simp [intOf]; omega
    · have hin : i = 384 := by omega
      subst hin
      clear hBi hF
      go_wp2_with fail
      go_ret
      have := unhide HBi
      rw [flB8_384] at this
      exact ⟨rfl, this, unhide HF⟩
end Go.Proofs.Ytgodlfoidjeekaa

namespace Go.Proofs.Ytgodlfoidjeekaa
set_option linter.unusedVariables false
set_option linter.unusedSimpArgs false
open Go.RowKit
set_option linter.unusedVariables false
set_option linter.unusedSimpArgs false
set_option maxRecDepth 1000000

def lvT (x : Int) (c : UInt8) : List (Int × List UInt8) := [(x, List.replicate 384 c)]
def lvD1 : Dv := (fmtR (newS 9) 1 8).1
def lvJ2 : Jn := opJ lvD1 1 8
def lvD2 : Dv := opD lvD1 1 8
def lvJ3 : Jn := apJ lvJ2 lvD2 (lvT 7 97)
def lvD3 : Dv := apD lvJ2 lvD2 (lvT 7 97)
def lvJ4 : Jn := apJ lvJ3 lvD3 (lvT 8 98)
def lvD4 : Dv := apD lvJ3 lvD3 (lvT 8 98)
def lvD5 : Dv := crD lvD4 [2, 3]
def lvJ6 : Jn := opJ lvD5 1 8
def lvD6 : Dv := opD lvD5 1 8
def lvJ7 : Jn := apJ lvJ6 lvD6 (lvT 9 99)
def lvD7 : Dv := apD lvJ6 lvD6 (lvT 9 99)
def lvD8 : Dv := flD lvD7
def lvD9 : Dv := crD lvD8 []
def lvD10 : Dv := opD lvD9 1 8
theorem lv1 : (fmtR (newS 9) 1 8).2 = 0 := by decide +kernel
theorem lv2 : opE lvD1 1 8 = 0 := by decide +kernel
theorem lv3 : (opR lvD1 1 8).2 = [] := by decide +kernel
theorem lv4 : lvJ2.room = 6 := by decide +kernel
theorem lv5 : apE lvJ2 lvD2 (lvT 7 97) = (1, 0) := by decide +kernel
theorem lv6 : apE lvJ3 lvD3 (lvT 8 98) = (2, 0) := by decide +kernel
theorem lv7 : opE lvD5 1 8 = 0 := by decide +kernel
theorem lv8 : (opR lvD5 1 8).2 = [] := by decide +kernel
theorem lv9 : apE lvJ6 lvD6 (lvT 9 99) = (1, 0) := by decide +kernel
theorem lv10 : opE lvD9 1 8 = 0 := by decide +kernel
theorem lv11 : (opR lvD9 1 8).2 = [ptL (lvT 9 99)] := by decide +kernel
theorem lv12 : lvJ7.sup.b = 3 := by decide +kernel
theorem lv13 : lvD1.S.length = 9 ∧ lvD1.Q.length = 0 := by decide +kernel
theorem lv14 : lvD2.S.length = 9 ∧ lvD2.Q.length ≤ 100 ∧ lvD3.S.length = 9 ∧ lvD3.Q.length ≤ 100 := by decide +kernel
theorem lv15 : lvD5.S.length = 9 ∧ lvD5.Q.length = 0 ∧ lvD6.Q.length ≤ 100 := by decide +kernel
theorem lv16 : lvD9.S.length = 9 ∧ lvD9.Q.length = 0 := by decide +kernel
theorem lv17 : gtN (ptL (lvT 9 99)) = 1 := by decide +kernel
end Go.Proofs.Ytgodlfoidjeekaa

namespace Go.Proofs.Ytgodlfoidjeekaa
set_option linter.unusedVariables false
set_option linter.unusedSimpArgs false
open Go.RowKit
set_option linter.unusedVariables false
set_option linter.unusedSimpArgs false

attribute [local go_sem ↓] Go.wp_at_zero Go.wp_at_succ

theorem ld28 : ∀ W a u, World.cell? W a = some u → (Instr.loadAt 28 (.pointer (some a))).run Try.prog W = .ok u W := by intro W a u h; simp [go_sem, h]
theorem fa94_0 (b o : Nat) (W : World) : (Instr.fieldAt 94 (.pointer (some ⟨b, o, none⟩)) 0).run Try.prog W = .ok (.pointer (some ⟨b, o + 0, none⟩)) W := by simp [go_sem]
theorem fa94_1 (b o : Nat) (W : World) : (Instr.fieldAt 94 (.pointer (some ⟨b, o, none⟩)) 1).run Try.prog W = .ok (.pointer (some ⟨b, o + 1, none⟩)) W := by simp [go_sem]
section
variable {ρ : Operand → Value} {o : Oper} {w : World} {x y : Operand} {ao : Option Addr} {B of n c : Nat}
theorem x_len79 (ho : o.op = .call { callee := .builtin .len, args := #[x], argTypes := #[79] }) (hx : ρ x = .slice ao n c) : (execOp ρ o).run Try.prog w = .ok (.value (.int .i64 (n : Int))) w := by
  simp [execOp, ho, hx, go_sem]
theorem x_len28 (ho : o.op = .call { callee := .builtin .len, args := #[x], argTypes := #[28] }) (hx : ρ x = .slice ao n c) : (execOp ρ o).run Try.prog w = .ok (.value (.int .i64 (n : Int))) w := by
  simp [execOp, ho, hx, go_sem]
theorem x_idx79z (ho : o.op = .indexAddr 79 x y) (hx : ρ x = .slice (some ⟨B, of, none⟩) 1 c) (hy : ρ y = .int .i64 0) : (execOp ρ o).run Try.prog w = .ok (.value (.pointer (some ⟨B, of, none⟩))) w := by
  simp [execOp, ho, hx, hy, go_sem]
theorem x_idx28z (ho : o.op = .indexAddr 28 x y) (hx : ρ x = .slice (some ⟨B, of, none⟩) 1 c) (hy : ρ y = .int .i64 0) : (execOp ρ o).run Try.prog w = .ok (.value (.pointer (some ⟨B, of, none⟩))) w := by
  simp [execOp, ho, hx, hy, go_sem]
end
theorem need_1 (w : World) : Calls Try.prog 19 #[.int .i64 1] w fun e w' => e = .returned (.int .i64 2) ∧ w = w' := need_any w 1
set_option maxHeartbeats 4000000 in
set_option maxRecDepth 100000 in
theorem gl17 {W : World} {B o cc g k : Nat} {x : Value} {u0 u1 u2 u3 u4 u10 u11 u15 u18 u19 u20 u21 u22 u23 u24 u25 u26 u27 u28 u29 u30 u31 u32 u33 u34 u35 u36 u37 u38 u39 u40 u41 u42 u43 u44 u45 u46 u47 u48 u49 u50 u51 u52 u53 u54 u55 u56 u57 u58 u59 u60 u61 u62 u63 u64 u65 u66 u67 u68 u69 u70 u71 u72 u73 u74 u75 u76 u77 u78 u79 u80 u81 u82 u83 u84 u85 u86 u87 u88 u89 u90 u91 u92 u93 u94 u95 u96 u97 u98 u99 u100 u101 u102 u103 u104 u105 u106 u107 u108 u109 u110 u111 u112 u113 u114 u115 u116 u117 u118 u119 u120 u121 u122 u123 u124 u125 u126 u127 u128 u129 u130 u131 u132 u133 u134 u135 u136 u137 u138 u139 u140 u141 u142 u143 u144 u145 u146 u147 u148 u149 u150 u151 u152 u153 u154 u155 u156 u157 u158 u159 u160 u161 u162 u163 u164 u165 u166 u167 u168 u169 u170 u171 u172 u173 u174 u175 u176 u177 u178 u179 u180 u181 : Value} {Q : Exit → Act → World → Prop} (c1 : W.cell? ⟨B, o, none⟩ = some (.slice (some ⟨g, 0, none⟩) 1 1)) (c2 : W.cell? ⟨g, 0, none⟩ = some (.int .i64 9)) (c3 : W.cell? ⟨g, 1, none⟩ = some x) (rx : Rd W x (List.replicate 384 (99 : UInt8))) (hbt : ∀ w', Fr (fun _ => False) W w' → Calls Try.prog 49 #[.pointer (some ⟨k, 0, none⟩)] w' fun e w2 => e = .returned (.int .u64 3) ∧ w' = w2)
    (hQ : ∀ (y105 y106 y107 y108 y109 y110 y111 y112 y113 y114 y115 y116 y117 y118 y119 y120 y121 y122 y123 y124 y125 y126 y127 y128 y129 y130 y131 y132 y133 y134 y135 y136 y137 y138 y139 y140 y141 y142 y143 y144 y145 y146 y147 y148 y149 y150 y151 y152 y153 y154 y155 y156 y157 y158 y159 y160 y161 y162 y163 y164 y165 y166 y167 y168 y169 y170 y171 y172 y173 y174 y175 y176 y177 y178 y179 y180 y181 : Value) (W' : World), Fr (fun _ => False) W W' → Q .normal ⟨#[.bool true, u1, u2, u3, u4, .int .u64 1, .int .i64 0, .int .u64 2, .int .i64 0, .pointer (some ⟨k, 0, none⟩), u10, u11, .int .u64 1, .int .i64 0, .int .i64 0, u15, .slice (some ⟨B, o, none⟩) 1 cc, .int .i64 0, u18, u19, u20, u21, u22, u23, u24, u25, u26, u27, u28, u29, u30, u31, u32, u33, u34, u35, u36, u37, u38, u39, u40, u41, u42, u43, u44, u45, u46, u47, u48, u49, u50, u51, u52, u53, u54, u55, u56, u57, u58, u59, u60, u61, u62, u63, u64, u65, u66, u67, u68, u69, u70, u71, u72, u73, u74, u75, u76, u77, u78, u79, u80, u81, u82, u83, u84, u85, u86, u87, u88, u89, u90, u91, u92, u93, u94, u95, u96, u97, u98, u99, u100, u101, u102, u103, u104, y105, y106, y107, y108, y109, y110, y111, y112, y113, y114, y115, y116, y117, y118, y119, y120, y121, y122, y123, y124, y125, y126, y127, y128, y129, y130, y131, y132, y133, y134, y135, y136, y137, y138, y139, y140, y141, y142, y143, y144, y145, y146, y147, y148, y149, y150, y151, y152, y153, y154, y155, y156, y157, y158, y159, y160, y161, y162, y163, y164, y165, y166, y167, y168, y169, y170, y171, y172, y173, y174, y175, y176, y177, y178, y179, y180, y181], []⟩ W') : (rgF Try.f10 17).wp Try.prog Q ⟨#[u0, u1, u2, u3, u4, .int .u64 1, .int .i64 0, .int .u64 2, .int .i64 0, .pointer (some ⟨k, 0, none⟩), u10, u11, .int .u64 1, .int .i64 0, .int .i64 0, u15, .slice (some ⟨B, o, none⟩) 1 cc, .int .i64 0, u18, u19, u20, u21, u22, u23, u24, u25, u26, u27, u28, u29, u30, u31, u32, u33, u34, u35, u36, u37, u38, u39, u40, u41, u42, u43, u44, u45, u46, u47, u48, u49, u50, u51, u52, u53, u54, u55, u56, u57, u58, u59, u60, u61, u62, u63, u64, u65, u66, u67, u68, u69, u70, u71, u72, u73, u74, u75, u76, u77, u78, u79, u80, u81, u82, u83, u84, u85, u86, u87, u88, u89, u90, u91, u92, u93, u94, u95, u96, u97, u98, u99, u100, u101, u102, u103, u104, u105, u106, u107, u108, u109, u110, u111, u112, u113, u114, u115, u116, u117, u118, u119, u120, u121, u122, u123, u124, u125, u126, u127, u128, u129, u130, u131, u132, u133, u134, u135, u136, u137, u138, u139, u140, u141, u142, u143, u144, u145, u146, u147, u148, u149, u150, u151, u152, u153, u154, u155, u156, u157, u158, u159, u160, u161, u162, u163, u164, u165, u166, u167, u168, u169, u170, u171, u172, u173, u174, u175, u176, u177, u178, u179, u180, u181], []⟩ W := by
  have HQ := hide hQ
  clear hQ
  have C1 := hide c1
  have C2 := hide c2
  have C3 := hide c3
  have RX := hide rx
  have HBT := hide hbt
  clear c1 c2 c3 rx hbt
  conv => arg 2; whnf
  simp only [List.append_eq, List.cons_append, List.nil_append]
  refine wp_nameK ?_
  intro a0 hA
  have h5 : a0.tmps.getD 5 undef = .int .u64 1 := by rw [hA]; rfl
  have h6 : a0.tmps.getD 6 undef = .int .i64 0 := by rw [hA]; rfl
  have h7 : a0.tmps.getD 7 undef = .int .u64 2 := by rw [hA]; rfl
  have h8 : a0.tmps.getD 8 undef = .int .i64 0 := by rw [hA]; rfl
  have h9 : a0.tmps.getD 9 undef = .pointer (some ⟨k, 0, none⟩) := by rw [hA]; rfl
  have h12 : a0.tmps.getD 12 undef = .int .u64 1 := by rw [hA]; rfl
  have h13 : a0.tmps.getD 13 undef = .int .i64 0 := by rw [hA]; rfl
  have h14 : a0.tmps.getD 14 undef = .int .i64 0 := by rw [hA]; rfl
  have h16 : a0.tmps.getD 16 undef = .slice (some ⟨B, o, none⟩) 1 cc := by rw [hA]; rfl
  have h17 : a0.tmps.getD 17 undef = .int .i64 0 := by rw [hA]; rfl
  have hsz : a0.tmps.size = 182 := by rw [hA]; rfl
  have hdf : a0.defers = [] := by rw [hA]
  have HA0 := hide hA
  clear hA
  refine wp_region_kinds (fun _ => False) (by kernel_rfl) (by kernel_rfl) (by decide +kernel) (by rw [hsz]; decide +kernel) [.eq (.int .u64 1), .eq (.bool true), .eq (.bool true), .eq (.int .i64 0), .eq (.int .i64 0), .eq (.bool true), .eq (.bool true), .eq (.bool true), .eq (.int .u64 2), .eq (.bool true), .eq (.bool true), .eq (.bool true), .eq (.int .i64 0), .eq (.int .i64 0), .eq (.bool true), .eq (.bool true), .eq (.bool true), .eq (.int .u64 1), .eq (.bool true), .eq (.bool true), .eq (.bool true), .eq (.int .i64 0), .eq (.int .i64 0), .eq (.bool true), .eq (.bool true), .eq (.bool true), .eq (.int .i64 0), .eq (.int .i64 0), .eq (.bool true), .eq (.bool true), .eq (.bool true), .eq (.int .i64 0), .eq (.int .i64 0), .eq (.bool true), .eq (.bool true), .eq (.bool true), .eq (.slice (some ⟨B, o, none⟩) 1 cc), .eq (.int .i64 1), .eq (.bool true), .eq (.bool true), .eq (.bool true), .eq (.slice (some ⟨B, o, none⟩) 1 cc), .eq (.pointer (some ⟨B, o, none⟩)), .eq (.slice (some ⟨g, 0, none⟩) 1 1), .eq (.int .i64 1), .eq (.bool true), .eq (.bool true), .eq (.bool true), .eq (.slice (some ⟨B, o, none⟩) 1 cc), .eq (.pointer (some ⟨B, o, none⟩)), .eq (.slice (some ⟨g, 0, none⟩) 1 1), .eq (.pointer (some ⟨g, 0, none⟩)), .eq (.pointer (some ⟨g, 0, none⟩)), .eq (.int .i64 9), .eq (.bool true), .eq (.bool true), .eq (.bool true), .eq (.slice (some ⟨B, o, none⟩) 1 cc), .eq (.pointer (some ⟨B, o, none⟩)), .eq (.slice (some ⟨g, 0, none⟩) 1 1), .eq (.pointer (some ⟨g, 0, none⟩)), .eq (.pointer (some ⟨g, 1, none⟩)), .eq (x), .eq (.string (str (List.replicate 384 (99 : UInt8)))), kRd (List.replicate 384 (99 : UInt8)), .eq (.string (str (List.replicate 384 (99 : UInt8)))), .eq (.bool true), .eq (.bool true), .eq (.bool true), .eq (.pointer (some ⟨k, 0, none⟩)), .eq (.int .u64 3), .eq (.bool true), .eq (.bool true), .eq (.bool true), .eq (.int .i64 2), .eq (.bool true), .eq (.bool true), .eq (.bool true)] [] (by decide) (by decide) (chain_paths _ [] (by kernel_rfl)) (fun _ _ => True) trivial ?steps ?done
  case steps =>
    refine ⟨?_, ?_⟩
    · intro a' w' k' hb hf hs hc hq hg hd
      exact ⟨wantedN rfl, k_val (.int .u64 1) (by decide) trivial (x_move rfl ((hb.old 5 (by decide +kernel)).trans h5)) rfl⟩
    refine ⟨?_, ?_⟩
    · intro a' w' k' hb hf hs hc hq hg hd
      exact ⟨wantedN rfl, k_val (.bool true) (by decide) trivial (x_eqI Try.underlying22 rfl (hd 0 (by kernel_rfl) 105 rfl) rfl (by first | rfl | decide | simp)) rfl⟩
    refine ⟨?_, ?_⟩
    · intro a' w' k' hb hf hs hc hq hg hd
      exact ⟨wantedN rfl, k_val (.bool true) (by decide) trivial (x_move rfl (hd 1 (by kernel_rfl) 106 rfl)) rfl⟩
    refine ⟨?_, ?_⟩
    · intro a' w' k' hb hf hs hc hq hg hd
      exact ⟨wantedT (d := 107) rfl rfl (by rw [hb.size, hsz]; omega) (hd 2 (by kernel_rfl) 107 rfl), k_val (.int .i64 0) (by decide) trivial (x_move rfl ((hb.old 6 (by decide +kernel)).trans h6)) rfl⟩
    refine ⟨?_, ?_⟩
    · intro a' w' k' hb hf hs hc hq hg hd
      exact ⟨wantedT (d := 107) rfl rfl (by rw [hb.size, hsz]; omega) (hd 2 (by kernel_rfl) 107 rfl), k_call 18 _ (by decide) (e_call1 rfl rfl (hd 3 (by kernel_rfl) 108 rfl) (fun _ _ => by simp [go_sem])) ((num_any w' 0).mono (by rintro e w9 ⟨rfl, rfl⟩; exact ⟨_, rfl, rfl, Fr.refl _ _, trivial⟩))⟩
    refine ⟨?_, ?_⟩
    · intro a' w' k' hb hf hs hc hq hg hd
      exact ⟨wantedT (d := 107) rfl rfl (by rw [hb.size, hsz]; omega) (hd 2 (by kernel_rfl) 107 rfl), k_val (.bool true) (by decide) trivial (x_eqI Try.underlying3 rfl (hd 4 (by kernel_rfl) 109 rfl) rfl (by first | rfl | decide | simp)) rfl⟩
    refine ⟨?_, ?_⟩
    · intro a' w' k' hb hf hs hc hq hg hd
      exact ⟨wantedN rfl, k_val (.bool true) (by decide) trivial (x_pickT rfl (hd 2 (by kernel_rfl) 107 rfl) (hd 5 (by kernel_rfl) 110 rfl)) rfl⟩
    refine ⟨?_, ?_⟩
    · intro a' w' k' hb hf hs hc hq hg hd
      exact ⟨wantedN rfl, k_val (.bool true) (by decide) trivial (x_move rfl (hd 6 (by kernel_rfl) 111 rfl)) rfl⟩
    refine ⟨?_, ?_⟩
    · intro a' w' k' hb hf hs hc hq hg hd
      exact ⟨wantedT (d := 112) rfl rfl (by rw [hb.size, hsz]; omega) (hd 7 (by kernel_rfl) 112 rfl), k_val (.int .u64 2) (by decide) trivial (x_move rfl ((hb.old 7 (by decide +kernel)).trans h7)) rfl⟩
    refine ⟨?_, ?_⟩
    · intro a' w' k' hb hf hs hc hq hg hd
      exact ⟨wantedT (d := 112) rfl rfl (by rw [hb.size, hsz]; omega) (hd 7 (by kernel_rfl) 112 rfl), k_val (.bool true) (by decide) trivial (x_eqI Try.underlying22 rfl (hd 8 (by kernel_rfl) 113 rfl) rfl (by first | rfl | decide | simp)) rfl⟩
    refine ⟨?_, ?_⟩
    · intro a' w' k' hb hf hs hc hq hg hd
      exact ⟨wantedN rfl, k_val (.bool true) (by decide) trivial (x_pickT rfl (hd 7 (by kernel_rfl) 112 rfl) (hd 9 (by kernel_rfl) 114 rfl)) rfl⟩
    refine ⟨?_, ?_⟩
    · intro a' w' k' hb hf hs hc hq hg hd
      exact ⟨wantedN rfl, k_val (.bool true) (by decide) trivial (x_move rfl (hd 10 (by kernel_rfl) 115 rfl)) rfl⟩
    refine ⟨?_, ?_⟩
    · intro a' w' k' hb hf hs hc hq hg hd
      exact ⟨wantedT (d := 116) rfl rfl (by rw [hb.size, hsz]; omega) (hd 11 (by kernel_rfl) 116 rfl), k_val (.int .i64 0) (by decide) trivial (x_move rfl ((hb.old 8 (by decide +kernel)).trans h8)) rfl⟩
    refine ⟨?_, ?_⟩
    · intro a' w' k' hb hf hs hc hq hg hd
      exact ⟨wantedT (d := 116) rfl rfl (by rw [hb.size, hsz]; omega) (hd 11 (by kernel_rfl) 116 rfl), k_call 18 _ (by decide) (e_call1 rfl rfl (hd 12 (by kernel_rfl) 117 rfl) (fun _ _ => by simp [go_sem])) ((num_any w' 0).mono (by rintro e w9 ⟨rfl, rfl⟩; exact ⟨_, rfl, rfl, Fr.refl _ _, trivial⟩))⟩
    refine ⟨?_, ?_⟩
    · intro a' w' k' hb hf hs hc hq hg hd
      exact ⟨wantedT (d := 116) rfl rfl (by rw [hb.size, hsz]; omega) (hd 11 (by kernel_rfl) 116 rfl), k_val (.bool true) (by decide) trivial (x_eqI Try.underlying3 rfl (hd 13 (by kernel_rfl) 118 rfl) rfl (by first | rfl | decide | simp)) rfl⟩
    refine ⟨?_, ?_⟩
    · intro a' w' k' hb hf hs hc hq hg hd
      exact ⟨wantedN rfl, k_val (.bool true) (by decide) trivial (x_pickT rfl (hd 11 (by kernel_rfl) 116 rfl) (hd 14 (by kernel_rfl) 119 rfl)) rfl⟩
    refine ⟨?_, ?_⟩
    · intro a' w' k' hb hf hs hc hq hg hd
      exact ⟨wantedN rfl, k_val (.bool true) (by decide) trivial (x_move rfl (hd 15 (by kernel_rfl) 120 rfl)) rfl⟩
    refine ⟨?_, ?_⟩
    · intro a' w' k' hb hf hs hc hq hg hd
      exact ⟨wantedT (d := 121) rfl rfl (by rw [hb.size, hsz]; omega) (hd 16 (by kernel_rfl) 121 rfl), k_val (.int .u64 1) (by decide) trivial (x_move rfl ((hb.old 12 (by decide +kernel)).trans h12)) rfl⟩
    refine ⟨?_, ?_⟩
    · intro a' w' k' hb hf hs hc hq hg hd
      exact ⟨wantedT (d := 121) rfl rfl (by rw [hb.size, hsz]; omega) (hd 16 (by kernel_rfl) 121 rfl), k_val (.bool true) (by decide) trivial (x_eqI Try.underlying22 rfl (hd 17 (by kernel_rfl) 122 rfl) rfl (by first | rfl | decide | simp)) rfl⟩
    refine ⟨?_, ?_⟩
    · intro a' w' k' hb hf hs hc hq hg hd
      exact ⟨wantedN rfl, k_val (.bool true) (by decide) trivial (x_pickT rfl (hd 16 (by kernel_rfl) 121 rfl) (hd 18 (by kernel_rfl) 123 rfl)) rfl⟩
    refine ⟨?_, ?_⟩
    · intro a' w' k' hb hf hs hc hq hg hd
      exact ⟨wantedN rfl, k_val (.bool true) (by decide) trivial (x_move rfl (hd 19 (by kernel_rfl) 124 rfl)) rfl⟩
    refine ⟨?_, ?_⟩
    · intro a' w' k' hb hf hs hc hq hg hd
      exact ⟨wantedT (d := 125) rfl rfl (by rw [hb.size, hsz]; omega) (hd 20 (by kernel_rfl) 125 rfl), k_val (.int .i64 0) (by decide) trivial (x_move rfl ((hb.old 13 (by decide +kernel)).trans h13)) rfl⟩
    refine ⟨?_, ?_⟩
    · intro a' w' k' hb hf hs hc hq hg hd
      exact ⟨wantedT (d := 125) rfl rfl (by rw [hb.size, hsz]; omega) (hd 20 (by kernel_rfl) 125 rfl), k_call 18 _ (by decide) (e_call1 rfl rfl (hd 21 (by kernel_rfl) 126 rfl) (fun _ _ => by simp [go_sem])) ((num_any w' 0).mono (by rintro e w9 ⟨rfl, rfl⟩; exact ⟨_, rfl, rfl, Fr.refl _ _, trivial⟩))⟩
    refine ⟨?_, ?_⟩
    · intro a' w' k' hb hf hs hc hq hg hd
      exact ⟨wantedT (d := 125) rfl rfl (by rw [hb.size, hsz]; omega) (hd 20 (by kernel_rfl) 125 rfl), k_val (.bool true) (by decide) trivial (x_eqI Try.underlying3 rfl (hd 22 (by kernel_rfl) 127 rfl) rfl (by first | rfl | decide | simp)) rfl⟩
    refine ⟨?_, ?_⟩
    · intro a' w' k' hb hf hs hc hq hg hd
      exact ⟨wantedN rfl, k_val (.bool true) (by decide) trivial (x_pickT rfl (hd 20 (by kernel_rfl) 125 rfl) (hd 23 (by kernel_rfl) 128 rfl)) rfl⟩
    refine ⟨?_, ?_⟩
    · intro a' w' k' hb hf hs hc hq hg hd
      exact ⟨wantedN rfl, k_val (.bool true) (by decide) trivial (x_move rfl (hd 24 (by kernel_rfl) 129 rfl)) rfl⟩
    refine ⟨?_, ?_⟩
    · intro a' w' k' hb hf hs hc hq hg hd
      exact ⟨wantedT (d := 130) rfl rfl (by rw [hb.size, hsz]; omega) (hd 25 (by kernel_rfl) 130 rfl), k_val (.int .i64 0) (by decide) trivial (x_move rfl ((hb.old 14 (by decide +kernel)).trans h14)) rfl⟩
    refine ⟨?_, ?_⟩
    · intro a' w' k' hb hf hs hc hq hg hd
      exact ⟨wantedT (d := 130) rfl rfl (by rw [hb.size, hsz]; omega) (hd 25 (by kernel_rfl) 130 rfl), k_call 18 _ (by decide) (e_call1 rfl rfl (hd 26 (by kernel_rfl) 131 rfl) (fun _ _ => by simp [go_sem])) ((num_any w' 0).mono (by rintro e w9 ⟨rfl, rfl⟩; exact ⟨_, rfl, rfl, Fr.refl _ _, trivial⟩))⟩
    refine ⟨?_, ?_⟩
    · intro a' w' k' hb hf hs hc hq hg hd
      exact ⟨wantedT (d := 130) rfl rfl (by rw [hb.size, hsz]; omega) (hd 25 (by kernel_rfl) 130 rfl), k_val (.bool true) (by decide) trivial (x_eqI Try.underlying3 rfl (hd 27 (by kernel_rfl) 132 rfl) rfl (by first | rfl | decide | simp)) rfl⟩
    refine ⟨?_, ?_⟩
    · intro a' w' k' hb hf hs hc hq hg hd
      exact ⟨wantedN rfl, k_val (.bool true) (by decide) trivial (x_pickT rfl (hd 25 (by kernel_rfl) 130 rfl) (hd 28 (by kernel_rfl) 133 rfl)) rfl⟩
    refine ⟨?_, ?_⟩
    · intro a' w' k' hb hf hs hc hq hg hd
      exact ⟨wantedN rfl, k_val (.bool true) (by decide) trivial (x_move rfl (hd 29 (by kernel_rfl) 134 rfl)) rfl⟩
    refine ⟨?_, ?_⟩
    · intro a' w' k' hb hf hs hc hq hg hd
      exact ⟨wantedT (d := 135) rfl rfl (by rw [hb.size, hsz]; omega) (hd 30 (by kernel_rfl) 135 rfl), k_val (.int .i64 0) (by decide) trivial (x_move rfl ((hb.old 17 (by decide +kernel)).trans h17)) rfl⟩
    refine ⟨?_, ?_⟩
    · intro a' w' k' hb hf hs hc hq hg hd
      exact ⟨wantedT (d := 135) rfl rfl (by rw [hb.size, hsz]; omega) (hd 30 (by kernel_rfl) 135 rfl), k_call 18 _ (by decide) (e_call1 rfl rfl (hd 31 (by kernel_rfl) 136 rfl) (fun _ _ => by simp [go_sem])) ((num_any w' 0).mono (by rintro e w9 ⟨rfl, rfl⟩; exact ⟨_, rfl, rfl, Fr.refl _ _, trivial⟩))⟩
    refine ⟨?_, ?_⟩
    · intro a' w' k' hb hf hs hc hq hg hd
      exact ⟨wantedT (d := 135) rfl rfl (by rw [hb.size, hsz]; omega) (hd 30 (by kernel_rfl) 135 rfl), k_val (.bool true) (by decide) trivial (x_eqI Try.underlying3 rfl (hd 32 (by kernel_rfl) 137 rfl) rfl (by first | rfl | decide | simp)) rfl⟩
    refine ⟨?_, ?_⟩
    · intro a' w' k' hb hf hs hc hq hg hd
      exact ⟨wantedN rfl, k_val (.bool true) (by decide) trivial (x_pickT rfl (hd 30 (by kernel_rfl) 135 rfl) (hd 33 (by kernel_rfl) 138 rfl)) rfl⟩
    refine ⟨?_, ?_⟩
    · intro a' w' k' hb hf hs hc hq hg hd
      exact ⟨wantedN rfl, k_val (.bool true) (by decide) trivial (x_move rfl (hd 34 (by kernel_rfl) 139 rfl)) rfl⟩
    refine ⟨?_, ?_⟩
    · intro a' w' k' hb hf hs hc hq hg hd
      exact ⟨wantedT (d := 140) rfl rfl (by rw [hb.size, hsz]; omega) (hd 35 (by kernel_rfl) 140 rfl), k_val (.slice (some ⟨B, o, none⟩) 1 cc) (by decide) trivial (x_move rfl ((hb.old 16 (by decide +kernel)).trans h16)) rfl⟩
    refine ⟨?_, ?_⟩
    · intro a' w' k' hb hf hs hc hq hg hd
      exact ⟨wantedT (d := 140) rfl rfl (by rw [hb.size, hsz]; omega) (hd 35 (by kernel_rfl) 140 rfl), k_val (.int .i64 1) (by decide) trivial (x_len79 rfl (hd 36 (by kernel_rfl) 141 rfl)) rfl⟩
    refine ⟨?_, ?_⟩
    · intro a' w' k' hb hf hs hc hq hg hd
      exact ⟨wantedT (d := 140) rfl rfl (by rw [hb.size, hsz]; omega) (hd 35 (by kernel_rfl) 140 rfl), k_val (.bool true) (by decide) trivial (x_eqI Try.underlying3 rfl (hd 37 (by kernel_rfl) 142 rfl) rfl (by first | rfl | decide | simp)) rfl⟩
    refine ⟨?_, ?_⟩
    · intro a' w' k' hb hf hs hc hq hg hd
      exact ⟨wantedN rfl, k_val (.bool true) (by decide) trivial (x_pickT rfl (hd 35 (by kernel_rfl) 140 rfl) (hd 38 (by kernel_rfl) 143 rfl)) rfl⟩
    refine ⟨?_, ?_⟩
    · intro a' w' k' hb hf hs hc hq hg hd
      exact ⟨wantedN rfl, k_val (.bool true) (by decide) trivial (x_move rfl (hd 39 (by kernel_rfl) 144 rfl)) rfl⟩
    refine ⟨?_, ?_⟩
    · intro a' w' k' hb hf hs hc hq hg hd
      exact ⟨wantedT (d := 145) rfl rfl (by rw [hb.size, hsz]; omega) (hd 40 (by kernel_rfl) 145 rfl), k_val (.slice (some ⟨B, o, none⟩) 1 cc) (by decide) trivial (x_move rfl ((hb.old 16 (by decide +kernel)).trans h16)) rfl⟩
    refine ⟨?_, ?_⟩
    · intro a' w' k' hb hf hs hc hq hg hd
      exact ⟨wantedT (d := 145) rfl rfl (by rw [hb.size, hsz]; omega) (hd 40 (by kernel_rfl) 145 rfl), k_val (.pointer (some ⟨B, o, none⟩)) (by decide) trivial (x_idx79z rfl (hd 41 (by kernel_rfl) 146 rfl) rfl) rfl⟩
    refine ⟨?_, ?_⟩
    · intro a' w' k' hb hf hs hc hq hg hd
      exact ⟨wantedT (d := 145) rfl rfl (by rw [hb.size, hsz]; omega) (hd 40 (by kernel_rfl) 145 rfl), k_val (.slice (some ⟨g, 0, none⟩) 1 1) (by decide) trivial (x_load1 ld28 rfl (hd 42 (by kernel_rfl) 147 rfl) ((Fr.cell hf (a := ⟨B, o, none⟩) (World.block_lt_of_cell? W _ (unhide C1)) id).trans (unhide C1))) rfl⟩
    refine ⟨?_, ?_⟩
    · intro a' w' k' hb hf hs hc hq hg hd
      exact ⟨wantedT (d := 145) rfl rfl (by rw [hb.size, hsz]; omega) (hd 40 (by kernel_rfl) 145 rfl), k_val (.int .i64 1) (by decide) trivial (x_len28 rfl (hd 43 (by kernel_rfl) 148 rfl)) rfl⟩
    refine ⟨?_, ?_⟩
    · intro a' w' k' hb hf hs hc hq hg hd
      exact ⟨wantedT (d := 145) rfl rfl (by rw [hb.size, hsz]; omega) (hd 40 (by kernel_rfl) 145 rfl), k_val (.bool true) (by decide) trivial (x_eqI Try.underlying3 rfl (hd 44 (by kernel_rfl) 149 rfl) rfl (by first | rfl | decide | simp)) rfl⟩
    refine ⟨?_, ?_⟩
    · intro a' w' k' hb hf hs hc hq hg hd
      exact ⟨wantedN rfl, k_val (.bool true) (by decide) trivial (x_pickT rfl (hd 40 (by kernel_rfl) 145 rfl) (hd 45 (by kernel_rfl) 150 rfl)) rfl⟩
    refine ⟨?_, ?_⟩
    · intro a' w' k' hb hf hs hc hq hg hd
      exact ⟨wantedN rfl, k_val (.bool true) (by decide) trivial (x_move rfl (hd 46 (by kernel_rfl) 151 rfl)) rfl⟩
    refine ⟨?_, ?_⟩
    · intro a' w' k' hb hf hs hc hq hg hd
      exact ⟨wantedT (d := 152) rfl rfl (by rw [hb.size, hsz]; omega) (hd 47 (by kernel_rfl) 152 rfl), k_val (.slice (some ⟨B, o, none⟩) 1 cc) (by decide) trivial (x_move rfl ((hb.old 16 (by decide +kernel)).trans h16)) rfl⟩
    refine ⟨?_, ?_⟩
    · intro a' w' k' hb hf hs hc hq hg hd
      exact ⟨wantedT (d := 152) rfl rfl (by rw [hb.size, hsz]; omega) (hd 47 (by kernel_rfl) 152 rfl), k_val (.pointer (some ⟨B, o, none⟩)) (by decide) trivial (x_idx79z rfl (hd 48 (by kernel_rfl) 153 rfl) rfl) rfl⟩
    refine ⟨?_, ?_⟩
    · intro a' w' k' hb hf hs hc hq hg hd
      exact ⟨wantedT (d := 152) rfl rfl (by rw [hb.size, hsz]; omega) (hd 47 (by kernel_rfl) 152 rfl), k_val (.slice (some ⟨g, 0, none⟩) 1 1) (by decide) trivial (x_load1 ld28 rfl (hd 49 (by kernel_rfl) 154 rfl) ((Fr.cell hf (a := ⟨B, o, none⟩) (World.block_lt_of_cell? W _ (unhide C1)) id).trans (unhide C1))) rfl⟩
    refine ⟨?_, ?_⟩
    · intro a' w' k' hb hf hs hc hq hg hd
      exact ⟨wantedT (d := 152) rfl rfl (by rw [hb.size, hsz]; omega) (hd 47 (by kernel_rfl) 152 rfl), k_val (.pointer (some ⟨g, 0, none⟩)) (by decide) trivial (x_idx28z rfl (hd 50 (by kernel_rfl) 155 rfl) rfl) rfl⟩
    refine ⟨?_, ?_⟩
    · intro a' w' k' hb hf hs hc hq hg hd
      exact ⟨wantedT (d := 152) rfl rfl (by rw [hb.size, hsz]; omega) (hd 47 (by kernel_rfl) 152 rfl), k_val (.pointer (some ⟨g, 0, none⟩)) (by decide) trivial (x_field (of := 0) (off := 0) (fa94_0 g 0) rfl (hd 51 (by kernel_rfl) 156 rfl)) rfl⟩
    refine ⟨?_, ?_⟩
    · intro a' w' k' hb hf hs hc hq hg hd
      exact ⟨wantedT (d := 152) rfl rfl (by rw [hb.size, hsz]; omega) (hd 47 (by kernel_rfl) 152 rfl), k_val (.int .i64 9) (by decide) trivial (x_load1 ld3 rfl (hd 52 (by kernel_rfl) 157 rfl) ((Fr.cell hf (a := ⟨g, 0, none⟩) (World.block_lt_of_cell? W _ (unhide C2)) id).trans (unhide C2))) rfl⟩
    refine ⟨?_, ?_⟩
    · intro a' w' k' hb hf hs hc hq hg hd
      exact ⟨wantedT (d := 152) rfl rfl (by rw [hb.size, hsz]; omega) (hd 47 (by kernel_rfl) 152 rfl), k_val (.bool true) (by decide) trivial (x_eqI Try.underlying3 rfl (hd 53 (by kernel_rfl) 158 rfl) rfl (by first | rfl | decide | simp)) rfl⟩
    refine ⟨?_, ?_⟩
    · intro a' w' k' hb hf hs hc hq hg hd
      exact ⟨wantedN rfl, k_val (.bool true) (by decide) trivial (x_pickT rfl (hd 47 (by kernel_rfl) 152 rfl) (hd 54 (by kernel_rfl) 159 rfl)) rfl⟩
    refine ⟨?_, ?_⟩
    · intro a' w' k' hb hf hs hc hq hg hd
      exact ⟨wantedN rfl, k_val (.bool true) (by decide) trivial (x_move rfl (hd 55 (by kernel_rfl) 160 rfl)) rfl⟩
    refine ⟨?_, ?_⟩
    · intro a' w' k' hb hf hs hc hq hg hd
      exact ⟨wantedT (d := 161) rfl rfl (by rw [hb.size, hsz]; omega) (hd 56 (by kernel_rfl) 161 rfl), k_val (.slice (some ⟨B, o, none⟩) 1 cc) (by decide) trivial (x_move rfl ((hb.old 16 (by decide +kernel)).trans h16)) rfl⟩
    refine ⟨?_, ?_⟩
    · intro a' w' k' hb hf hs hc hq hg hd
      exact ⟨wantedT (d := 161) rfl rfl (by rw [hb.size, hsz]; omega) (hd 56 (by kernel_rfl) 161 rfl), k_val (.pointer (some ⟨B, o, none⟩)) (by decide) trivial (x_idx79z rfl (hd 57 (by kernel_rfl) 162 rfl) rfl) rfl⟩
    refine ⟨?_, ?_⟩
    · intro a' w' k' hb hf hs hc hq hg hd
      exact ⟨wantedT (d := 161) rfl rfl (by rw [hb.size, hsz]; omega) (hd 56 (by kernel_rfl) 161 rfl), k_val (.slice (some ⟨g, 0, none⟩) 1 1) (by decide) trivial (x_load1 ld28 rfl (hd 58 (by kernel_rfl) 163 rfl) ((Fr.cell hf (a := ⟨B, o, none⟩) (World.block_lt_of_cell? W _ (unhide C1)) id).trans (unhide C1))) rfl⟩
    refine ⟨?_, ?_⟩
    · intro a' w' k' hb hf hs hc hq hg hd
      exact ⟨wantedT (d := 161) rfl rfl (by rw [hb.size, hsz]; omega) (hd 56 (by kernel_rfl) 161 rfl), k_val (.pointer (some ⟨g, 0, none⟩)) (by decide) trivial (x_idx28z rfl (hd 59 (by kernel_rfl) 164 rfl) rfl) rfl⟩
    refine ⟨?_, ?_⟩
    · intro a' w' k' hb hf hs hc hq hg hd
      exact ⟨wantedT (d := 161) rfl rfl (by rw [hb.size, hsz]; omega) (hd 56 (by kernel_rfl) 161 rfl), k_val (.pointer (some ⟨g, 1, none⟩)) (by decide) trivial (x_field (of := 0) (off := 1) (fa94_1 g 0) rfl (hd 60 (by kernel_rfl) 165 rfl)) rfl⟩
    refine ⟨?_, ?_⟩
    · intro a' w' k' hb hf hs hc hq hg hd
      exact ⟨wantedT (d := 161) rfl rfl (by rw [hb.size, hsz]; omega) (hd 56 (by kernel_rfl) 161 rfl), k_val x (by decide) trivial (x_load1 ld23 rfl (hd 61 (by kernel_rfl) 166 rfl) ((Fr.cell hf (a := ⟨g, 1, none⟩) (World.block_lt_of_cell? W _ (unhide C3)) id).trans (unhide C3))) rfl⟩
    refine ⟨?_, ?_⟩
    · intro a' w' k' hb hf hs hc hq hg hd
      exact ⟨wantedT (d := 161) rfl rfl (by rw [hb.size, hsz]; omega) (hd 56 (by kernel_rfl) 161 rfl), k_val (.string (str (List.replicate 384 (99 : UInt8)))) (by decide) trivial (x_conv rfl (hd 62 (by kernel_rfl) 167 rfl) (conv_rd ((unhide RX).kept hf (fun _ _ e => e)) 23 9 5 Try.underlying23 Try.underlying5 Try.underlying9)) rfl⟩
    refine ⟨?_, ?_⟩
    · intro a' w' k' hb hf hs hc hq hg hd
      exact ⟨wantedT (d := 161) rfl rfl (by rw [hb.size, hsz]; omega) (hd 56 (by kernel_rfl) 161 rfl), k_call 48 _ (by decide) (e_call1 rfl rfl rfl (fun _ _ => by simp [go_sem])) ((full_any w' 99).mono (by rintro e w9 ⟨rfl, h9, f9⟩; exact ⟨_, rfl, h9.rd (by decide), f9, trivial⟩))⟩
    refine ⟨?_, ?_⟩
    · intro a' w' k' hb hf hs hc hq hg hd
      have hh : Rd w' _ (List.replicate 384 (99 : UInt8)) := (hd 64 (by kernel_rfl) 169 rfl)
      exact ⟨wantedT (d := 161) rfl rfl (by rw [hb.size, hsz]; omega) (hd 56 (by kernel_rfl) 161 rfl), k_val (.string (str (List.replicate 384 (99 : UInt8)))) (by decide) trivial (x_conv rfl rfl (conv_rd hh 23 9 5 Try.underlying23 Try.underlying5 Try.underlying9)) rfl⟩
    refine ⟨?_, ?_⟩
    · intro a' w' k' hb hf hs hc hq hg hd
      exact ⟨wantedT (d := 161) rfl rfl (by rw [hb.size, hsz]; omega) (hd 56 (by kernel_rfl) 161 rfl), k_val (.bool true) (by decide) trivial (x_eqS rfl (hd 63 (by kernel_rfl) 168 rfl) (hd 65 (by kernel_rfl) 170 rfl)) rfl⟩
    refine ⟨?_, ?_⟩
    · intro a' w' k' hb hf hs hc hq hg hd
      exact ⟨wantedN rfl, k_val (.bool true) (by decide) trivial (x_pickT rfl (hd 56 (by kernel_rfl) 161 rfl) (hd 66 (by kernel_rfl) 171 rfl)) rfl⟩
    refine ⟨?_, ?_⟩
    · intro a' w' k' hb hf hs hc hq hg hd
      exact ⟨wantedN rfl, k_val (.bool true) (by decide) trivial (x_move rfl (hd 67 (by kernel_rfl) 172 rfl)) rfl⟩
    refine ⟨?_, ?_⟩
    · intro a' w' k' hb hf hs hc hq hg hd
      exact ⟨wantedT (d := 173) rfl rfl (by rw [hb.size, hsz]; omega) (hd 68 (by kernel_rfl) 173 rfl), k_val (.pointer (some ⟨k, 0, none⟩)) (by decide) trivial (x_move rfl ((hb.old 9 (by decide +kernel)).trans h9)) rfl⟩
    refine ⟨?_, ?_⟩
    · intro a' w' k' hb hf hs hc hq hg hd
      exact ⟨wantedT (d := 173) rfl rfl (by rw [hb.size, hsz]; omega) (hd 68 (by kernel_rfl) 173 rfl), k_call 49 _ (by decide) (e_call1 rfl rfl (hd 69 (by kernel_rfl) 174 rfl) (fun _ _ => by simp [go_sem])) ((unhide HBT w' hf).mono (by rintro e w9 ⟨rfl, rfl⟩; exact ⟨_, rfl, rfl, Fr.refl _ _, trivial⟩))⟩
    refine ⟨?_, ?_⟩
    · intro a' w' k' hb hf hs hc hq hg hd
      exact ⟨wantedT (d := 173) rfl rfl (by rw [hb.size, hsz]; omega) (hd 68 (by kernel_rfl) 173 rfl), k_val (.bool true) (by decide) trivial (x_eqI Try.underlying22 rfl (hd 70 (by kernel_rfl) 175 rfl) rfl (by first | rfl | decide | simp)) rfl⟩
    refine ⟨?_, ?_⟩
    · intro a' w' k' hb hf hs hc hq hg hd
      exact ⟨wantedN rfl, k_val (.bool true) (by decide) trivial (x_pickT rfl (hd 68 (by kernel_rfl) 173 rfl) (hd 71 (by kernel_rfl) 176 rfl)) rfl⟩
    refine ⟨?_, ?_⟩
    · intro a' w' k' hb hf hs hc hq hg hd
      exact ⟨wantedN rfl, k_val (.bool true) (by decide) trivial (x_move rfl (hd 72 (by kernel_rfl) 177 rfl)) rfl⟩
    refine ⟨?_, ?_⟩
    · intro a' w' k' hb hf hs hc hq hg hd
      exact ⟨wantedT (d := 178) rfl rfl (by rw [hb.size, hsz]; omega) (hd 73 (by kernel_rfl) 178 rfl), k_call 19 _ (by decide) (e_call1 rfl rfl rfl (fun _ _ => by simp [go_sem])) ((need_1 w').mono (by rintro e w9 ⟨rfl, rfl⟩; exact ⟨_, rfl, rfl, Fr.refl _ _, trivial⟩))⟩
    refine ⟨?_, ?_⟩
    · intro a' w' k' hb hf hs hc hq hg hd
      exact ⟨wantedT (d := 178) rfl rfl (by rw [hb.size, hsz]; omega) (hd 73 (by kernel_rfl) 178 rfl), k_val (.bool true) (by decide) trivial (x_eqI Try.underlying3 rfl (hd 74 (by kernel_rfl) 179 rfl) rfl (by first | rfl | decide | simp)) rfl⟩
    refine ⟨?_, ?_⟩
    · intro a' w' k' hb hf hs hc hq hg hd
      exact ⟨wantedN rfl, k_val (.bool true) (by decide) trivial (x_pickT rfl (hd 73 (by kernel_rfl) 178 rfl) (hd 75 (by kernel_rfl) 180 rfl)) rfl⟩
    refine ⟨?_, ?_⟩
    · intro a' w' k' hb hf hs hc hq hg hd
      exact ⟨wantedN rfl, k_val (.bool true) (by decide) trivial (x_assign rfl (hd 76 (by kernel_rfl) 181 rfl)) rfl⟩
    exact trivial
  case done =>
    intro a' w' hb hf hs hall
    have hslots : Slots a' 0 [.bool true, u1, u2, u3, u4, .int .u64 1, .int .i64 0, .int .u64 2, .int .i64 0, .pointer (some ⟨k, 0, none⟩), u10, u11, .int .u64 1, .int .i64 0, .int .i64 0, u15, .slice (some ⟨B, o, none⟩) 1 cc, .int .i64 0, u18, u19, u20, u21, u22, u23, u24, u25, u26, u27, u28, u29, u30, u31, u32, u33, u34, u35, u36, u37, u38, u39, u40, u41, u42, u43, u44, u45, u46, u47, u48, u49, u50, u51, u52, u53, u54, u55, u56, u57, u58, u59, u60, u61, u62, u63, u64, u65, u66, u67, u68, u69, u70, u71, u72, u73, u74, u75, u76, u77, u78, u79, u80, u81, u82, u83, u84, u85, u86, u87, u88, u89, u90, u91, u92, u93, u94, u95, u96, u97, u98, u99, u100, u101, u102, u103, u104, a'.tmps.getD 105 undef, a'.tmps.getD 106 undef, a'.tmps.getD 107 undef, a'.tmps.getD 108 undef, a'.tmps.getD 109 undef, a'.tmps.getD 110 undef, a'.tmps.getD 111 undef, a'.tmps.getD 112 undef, a'.tmps.getD 113 undef, a'.tmps.getD 114 undef, a'.tmps.getD 115 undef, a'.tmps.getD 116 undef, a'.tmps.getD 117 undef, a'.tmps.getD 118 undef, a'.tmps.getD 119 undef, a'.tmps.getD 120 undef, a'.tmps.getD 121 undef, a'.tmps.getD 122 undef, a'.tmps.getD 123 undef, a'.tmps.getD 124 undef, a'.tmps.getD 125 undef, a'.tmps.getD 126 undef, a'.tmps.getD 127 undef, a'.tmps.getD 128 undef, a'.tmps.getD 129 undef, a'.tmps.getD 130 undef, a'.tmps.getD 131 undef, a'.tmps.getD 132 undef, a'.tmps.getD 133 undef, a'.tmps.getD 134 undef, a'.tmps.getD 135 undef, a'.tmps.getD 136 undef, a'.tmps.getD 137 undef, a'.tmps.getD 138 undef, a'.tmps.getD 139 undef, a'.tmps.getD 140 undef, a'.tmps.getD 141 undef, a'.tmps.getD 142 undef, a'.tmps.getD 143 undef, a'.tmps.getD 144 undef, a'.tmps.getD 145 undef, a'.tmps.getD 146 undef, a'.tmps.getD 147 undef, a'.tmps.getD 148 undef, a'.tmps.getD 149 undef, a'.tmps.getD 150 undef, a'.tmps.getD 151 undef, a'.tmps.getD 152 undef, a'.tmps.getD 153 undef, a'.tmps.getD 154 undef, a'.tmps.getD 155 undef, a'.tmps.getD 156 undef, a'.tmps.getD 157 undef, a'.tmps.getD 158 undef, a'.tmps.getD 159 undef, a'.tmps.getD 160 undef, a'.tmps.getD 161 undef, a'.tmps.getD 162 undef, a'.tmps.getD 163 undef, a'.tmps.getD 164 undef, a'.tmps.getD 165 undef, a'.tmps.getD 166 undef, a'.tmps.getD 167 undef, a'.tmps.getD 168 undef, a'.tmps.getD 169 undef, a'.tmps.getD 170 undef, a'.tmps.getD 171 undef, a'.tmps.getD 172 undef, a'.tmps.getD 173 undef, a'.tmps.getD 174 undef, a'.tmps.getD 175 undef, a'.tmps.getD 176 undef, a'.tmps.getD 177 undef, a'.tmps.getD 178 undef, a'.tmps.getD 179 undef, a'.tmps.getD 180 undef, a'.tmps.getD 181 undef] := ⟨hall 77 (by decide) 0 rfl, (hb.old 1 (by decide +kernel)).trans (by rw [unhide HA0]; rfl), (hb.old 2 (by decide +kernel)).trans (by rw [unhide HA0]; rfl), (hb.old 3 (by decide +kernel)).trans (by rw [unhide HA0]; rfl), (hb.old 4 (by decide +kernel)).trans (by rw [unhide HA0]; rfl), (hb.old 5 (by decide +kernel)).trans (by rw [unhide HA0]; rfl), (hb.old 6 (by decide +kernel)).trans (by rw [unhide HA0]; rfl), (hb.old 7 (by decide +kernel)).trans (by rw [unhide HA0]; rfl), (hb.old 8 (by decide +kernel)).trans (by rw [unhide HA0]; rfl), (hb.old 9 (by decide +kernel)).trans (by rw [unhide HA0]; rfl), (hb.old 10 (by decide +kernel)).trans (by rw [unhide HA0]; rfl), (hb.old 11 (by decide +kernel)).trans (by rw [unhide HA0]; rfl), (hb.old 12 (by decide +kernel)).trans (by rw [unhide HA0]; rfl), (hb.old 13 (by decide +kernel)).trans (by rw [unhide HA0]; rfl), (hb.old 14 (by decide +kernel)).trans (by rw [unhide HA0]; rfl), (hb.old 15 (by decide +kernel)).trans (by rw [unhide HA0]; rfl), (hb.old 16 (by decide +kernel)).trans (by rw [unhide HA0]; rfl), (hb.old 17 (by decide +kernel)).trans (by rw [unhide HA0]; rfl), (hb.old 18 (by decide +kernel)).trans (by rw [unhide HA0]; rfl), (hb.old 19 (by decide +kernel)).trans (by rw [unhide HA0]; rfl), (hb.old 20 (by decide +kernel)).trans (by rw [unhide HA0]; rfl), (hb.old 21 (by decide +kernel)).trans (by rw [unhide HA0]; rfl), (hb.old 22 (by decide +kernel)).trans (by rw [unhide HA0]; rfl), (hb.old 23 (by decide +kernel)).trans (by rw [unhide HA0]; rfl), (hb.old 24 (by decide +kernel)).trans (by rw [unhide HA0]; rfl), (hb.old 25 (by decide +kernel)).trans (by rw [unhide HA0]; rfl), (hb.old 26 (by decide +kernel)).trans (by rw [unhide HA0]; rfl), (hb.old 27 (by decide +kernel)).trans (by rw [unhide HA0]; rfl), (hb.old 28 (by decide +kernel)).trans (by rw [unhide HA0]; rfl), (hb.old 29 (by decide +kernel)).trans (by rw [unhide HA0]; rfl), (hb.old 30 (by decide +kernel)).trans (by rw [unhide HA0]; rfl), (hb.old 31 (by decide +kernel)).trans (by rw [unhide HA0]; rfl), (hb.old 32 (by decide +kernel)).trans (by rw [unhide HA0]; rfl), (hb.old 33 (by decide +kernel)).trans (by rw [unhide HA0]; rfl), (hb.old 34 (by decide +kernel)).trans (by rw [unhide HA0]; rfl), (hb.old 35 (by decide +kernel)).trans (by rw [unhide HA0]; rfl), (hb.old 36 (by decide +kernel)).trans (by rw [unhide HA0]; rfl), (hb.old 37 (by decide +kernel)).trans (by rw [unhide HA0]; rfl), (hb.old 38 (by decide +kernel)).trans (by rw [unhide HA0]; rfl), (hb.old 39 (by decide +kernel)).trans (by rw [unhide HA0]; rfl), (hb.old 40 (by decide +kernel)).trans (by rw [unhide HA0]; rfl), (hb.old 41 (by decide +kernel)).trans (by rw [unhide HA0]; rfl), (hb.old 42 (by decide +kernel)).trans (by rw [unhide HA0]; rfl), (hb.old 43 (by decide +kernel)).trans (by rw [unhide HA0]; rfl), (hb.old 44 (by decide +kernel)).trans (by rw [unhide HA0]; rfl), (hb.old 45 (by decide +kernel)).trans (by rw [unhide HA0]; rfl), (hb.old 46 (by decide +kernel)).trans (by rw [unhide HA0]; rfl), (hb.old 47 (by decide +kernel)).trans (by rw [unhide HA0]; rfl), (hb.old 48 (by decide +kernel)).trans (by rw [unhide HA0]; rfl), (hb.old 49 (by decide +kernel)).trans (by rw [unhide HA0]; rfl), (hb.old 50 (by decide +kernel)).trans (by rw [unhide HA0]; rfl), (hb.old 51 (by decide +kernel)).trans (by rw [unhide HA0]; rfl), (hb.old 52 (by decide +kernel)).trans (by rw [unhide HA0]; rfl), (hb.old 53 (by decide +kernel)).trans (by rw [unhide HA0]; rfl), (hb.old 54 (by decide +kernel)).trans (by rw [unhide HA0]; rfl), (hb.old 55 (by decide +kernel)).trans (by rw [unhide HA0]; rfl), (hb.old 56 (by decide +kernel)).trans (by rw [unhide HA0]; rfl), (hb.old 57 (by decide +kernel)).trans (by rw [unhide HA0]; rfl), (hb.old 58 (by decide +kernel)).trans (by rw [unhide HA0]; rfl), (hb.old 59 (by decide +kernel)).trans (by rw [unhide HA0]; rfl), (hb.old 60 (by decide +kernel)).trans (by rw [unhide HA0]; rfl), (hb.old 61 (by decide +kernel)).trans (by rw [unhide HA0]; rfl), (hb.old 62 (by decide +kernel)).trans (by rw [unhide HA0]; rfl), (hb.old 63 (by decide +kernel)).trans (by rw [unhide HA0]; rfl), (hb.old 64 (by decide +kernel)).trans (by rw [unhide HA0]; rfl), (hb.old 65 (by decide +kernel)).trans (by rw [unhide HA0]; rfl), (hb.old 66 (by decide +kernel)).trans (by rw [unhide HA0]; rfl), (hb.old 67 (by decide +kernel)).trans (by rw [unhide HA0]; rfl), (hb.old 68 (by decide +kernel)).trans (by rw [unhide HA0]; rfl), (hb.old 69 (by decide +kernel)).trans (by rw [unhide HA0]; rfl), (hb.old 70 (by decide +kernel)).trans (by rw [unhide HA0]; rfl), (hb.old 71 (by decide +kernel)).trans (by rw [unhide HA0]; rfl), (hb.old 72 (by decide +kernel)).trans (by rw [unhide HA0]; rfl), (hb.old 73 (by decide +kernel)).trans (by rw [unhide HA0]; rfl), (hb.old 74 (by decide +kernel)).trans (by rw [unhide HA0]; rfl), (hb.old 75 (by decide +kernel)).trans (by rw [unhide HA0]; rfl), (hb.old 76 (by decide +kernel)).trans (by rw [unhide HA0]; rfl), (hb.old 77 (by decide +kernel)).trans (by rw [unhide HA0]; rfl), (hb.old 78 (by decide +kernel)).trans (by rw [unhide HA0]; rfl), (hb.old 79 (by decide +kernel)).trans (by rw [unhide HA0]; rfl), (hb.old 80 (by decide +kernel)).trans (by rw [unhide HA0]; rfl), (hb.old 81 (by decide +kernel)).trans (by rw [unhide HA0]; rfl), (hb.old 82 (by decide +kernel)).trans (by rw [unhide HA0]; rfl), (hb.old 83 (by decide +kernel)).trans (by rw [unhide HA0]; rfl), (hb.old 84 (by decide +kernel)).trans (by rw [unhide HA0]; rfl), (hb.old 85 (by decide +kernel)).trans (by rw [unhide HA0]; rfl), (hb.old 86 (by decide +kernel)).trans (by rw [unhide HA0]; rfl), (hb.old 87 (by decide +kernel)).trans (by rw [unhide HA0]; rfl), (hb.old 88 (by decide +kernel)).trans (by rw [unhide HA0]; rfl), (hb.old 89 (by decide +kernel)).trans (by rw [unhide HA0]; rfl), (hb.old 90 (by decide +kernel)).trans (by rw [unhide HA0]; rfl), (hb.old 91 (by decide +kernel)).trans (by rw [unhide HA0]; rfl), (hb.old 92 (by decide +kernel)).trans (by rw [unhide HA0]; rfl), (hb.old 93 (by decide +kernel)).trans (by rw [unhide HA0]; rfl), (hb.old 94 (by decide +kernel)).trans (by rw [unhide HA0]; rfl), (hb.old 95 (by decide +kernel)).trans (by rw [unhide HA0]; rfl), (hb.old 96 (by decide +kernel)).trans (by rw [unhide HA0]; rfl), (hb.old 97 (by decide +kernel)).trans (by rw [unhide HA0]; rfl), (hb.old 98 (by decide +kernel)).trans (by rw [unhide HA0]; rfl), (hb.old 99 (by decide +kernel)).trans (by rw [unhide HA0]; rfl), (hb.old 100 (by decide +kernel)).trans (by rw [unhide HA0]; rfl), (hb.old 101 (by decide +kernel)).trans (by rw [unhide HA0]; rfl), (hb.old 102 (by decide +kernel)).trans (by rw [unhide HA0]; rfl), (hb.old 103 (by decide +kernel)).trans (by rw [unhide HA0]; rfl), (hb.old 104 (by decide +kernel)).trans (by rw [unhide HA0]; rfl), rfl, rfl, rfl, rfl, rfl, rfl, rfl, rfl, rfl, rfl, rfl, rfl, rfl, rfl, rfl, rfl, rfl, rfl, rfl, rfl, rfl, rfl, rfl, rfl, rfl, rfl, rfl, rfl, rfl, rfl, rfl, rfl, rfl, rfl, rfl, rfl, rfl, rfl, rfl, rfl, rfl, rfl, rfl, rfl, rfl, rfl, rfl, rfl, rfl, rfl, rfl, rfl, rfl, rfl, rfl, rfl, rfl, rfl, rfl, rfl, rfl, rfl, rfl, rfl, rfl, rfl, rfl, rfl, rfl, rfl, rfl, rfl, rfl, rfl, rfl, rfl, rfl, trivial⟩
    have hfr := frame_eq (a := a') (by rw [hb.size, hsz]; rfl) (by rw [hb.defers, hdf]) hslots
    rw [hfr]
    exact unhide HQ (a'.tmps.getD 105 undef) (a'.tmps.getD 106 undef) (a'.tmps.getD 107 undef) (a'.tmps.getD 108 undef) (a'.tmps.getD 109 undef) (a'.tmps.getD 110 undef) (a'.tmps.getD 111 undef) (a'.tmps.getD 112 undef) (a'.tmps.getD 113 undef) (a'.tmps.getD 114 undef) (a'.tmps.getD 115 undef) (a'.tmps.getD 116 undef) (a'.tmps.getD 117 undef) (a'.tmps.getD 118 undef) (a'.tmps.getD 119 undef) (a'.tmps.getD 120 undef) (a'.tmps.getD 121 undef) (a'.tmps.getD 122 undef) (a'.tmps.getD 123 undef) (a'.tmps.getD 124 undef) (a'.tmps.getD 125 undef) (a'.tmps.getD 126 undef) (a'.tmps.getD 127 undef) (a'.tmps.getD 128 undef) (a'.tmps.getD 129 undef) (a'.tmps.getD 130 undef) (a'.tmps.getD 131 undef) (a'.tmps.getD 132 undef) (a'.tmps.getD 133 undef) (a'.tmps.getD 134 undef) (a'.tmps.getD 135 undef) (a'.tmps.getD 136 undef) (a'.tmps.getD 137 undef) (a'.tmps.getD 138 undef) (a'.tmps.getD 139 undef) (a'.tmps.getD 140 undef) (a'.tmps.getD 141 undef) (a'.tmps.getD 142 undef) (a'.tmps.getD 143 undef) (a'.tmps.getD 144 undef) (a'.tmps.getD 145 undef) (a'.tmps.getD 146 undef) (a'.tmps.getD 147 undef) (a'.tmps.getD 148 undef) (a'.tmps.getD 149 undef) (a'.tmps.getD 150 undef) (a'.tmps.getD 151 undef) (a'.tmps.getD 152 undef) (a'.tmps.getD 153 undef) (a'.tmps.getD 154 undef) (a'.tmps.getD 155 undef) (a'.tmps.getD 156 undef) (a'.tmps.getD 157 undef) (a'.tmps.getD 158 undef) (a'.tmps.getD 159 undef) (a'.tmps.getD 160 undef) (a'.tmps.getD 161 undef) (a'.tmps.getD 162 undef) (a'.tmps.getD 163 undef) (a'.tmps.getD 164 undef) (a'.tmps.getD 165 undef) (a'.tmps.getD 166 undef) (a'.tmps.getD 167 undef) (a'.tmps.getD 168 undef) (a'.tmps.getD 169 undef) (a'.tmps.getD 170 undef) (a'.tmps.getD 171 undef) (a'.tmps.getD 172 undef) (a'.tmps.getD 173 undef) (a'.tmps.getD 174 undef) (a'.tmps.getD 175 undef) (a'.tmps.getD 176 undef) (a'.tmps.getD 177 undef) (a'.tmps.getD 178 undef) (a'.tmps.getD 179 undef) (a'.tmps.getD 180 undef) (a'.tmps.getD 181 undef) w' hf
end Go.Proofs.Ytgodlfoidjeekaa

namespace Go.Proofs.Ytgodlfoidjeekaa
set_option linter.unusedVariables false
set_option linter.unusedSimpArgs false
open Go.RowKit
set_option linter.unusedVariables false
set_option linter.unusedSimpArgs false

attribute [local go_sem ↓] Go.wp_at_zero Go.wp_at_succ

abbrev X00 : Nat → Prop := fun _ => False
theorem js_dw {X : Nat → Prop} {w0 w : World} {j s : Nat} {J : Jn} {D : Dv} (h : JS X w0 w j s J D) : DW X w0 w s D := h.dw
/-- One put, as it is built. -/
theorem rdp_one {W : World} {B b c : Nat} {x : Int} (h1 : W.heap[B]? = some (.cells #[.int .i64 x, .slice (some ⟨b, 0, none⟩) 384 384] 94 (0, 0))) (h2 : BAt W b (List.replicate 384 (UInt8.ofNat c))) : RdP W (.slice (some ⟨B, 0, none⟩) 1 1) (lvT x (UInt8.ofNat c)) := by
  refine .inr ⟨B, 0, 1, rfl, Nat.le_refl _, by decide, fun i hi => ?_⟩
  have hl1 : (lvT x (UInt8.ofNat c)).length = 1 := rfl
  have hi0 : i = 0 := by omega
  subst hi0
  refine ⟨by rw [cell_of_heap h1]; rfl, _, by rw [cell_of_heap h1]; rfl, ?_⟩
  have := h2.rd (by simp only [List.length_replicate]; decide)
  simp only [List.length_replicate] at this
  exact this

theorem lv18 : gtZ (ptL (lvT 9 99)) 0 = 9 ∧ (gtP (ptL (lvT 9 99)) 0).drop 4 = List.replicate 384 (99 : UInt8) := by decide +kernel
theorem tl_one {N : Nat} {w : World} {v : Value} (h : Tl N w v [ptL (lvT 9 99)]) : ∃ B cc g x, v = .slice (some ⟨B, 0, none⟩) 1 cc ∧ w.cell? ⟨B, 0, none⟩ = some (.slice (some ⟨g, 0, none⟩) 1 1) ∧ w.cell? ⟨g, 0, none⟩ = some (.int .i64 9) ∧ w.cell? ⟨g, 1, none⟩ = some x ∧ Rd w x (List.replicate 384 (99 : UInt8)) := by
  obtain ⟨⟨gs, h1, h2, h3⟩, -⟩ := h
  obtain ⟨g, rfl⟩ : ∃ g, gs = [g] := by
    match gs, h1 with
    | [g], _ => exact ⟨g, rfl⟩
  obtain ⟨g', hg, hN, hP⟩ := h3 0 (by decide)
  simp only [List.getElem?_cons_zero, Option.some.injEq] at hg
  subst hg
  simp only [List.getElem_cons_zero] at hP
  obtain ⟨cs, hh, hsz, hc⟩ := hP
  obtain ⟨hc1, x, hc2, hx⟩ := hc 0 (by rw [lv17]; decide)
  rw [lv18.1] at hc1
  rw [lv18.2] at hx
  have h2' := h2
  obtain ⟨-, ⟨e, -⟩ | ⟨B, cap, cur, e, -⟩⟩ := h2'
  · subst e
    have := h2.1
    obtain ⟨ao, c, e⟩ := owns_shape h2
    simp at e
  · subst e
    have hcl := (owns_cells h2 0 (by simp [tlV])).1
    refine ⟨B, cap, g, x, rfl, ?_, ?_, ?_, hx.rd⟩
    · rw [hcl]
      simp only [tlV, List.zip_cons_cons, List.zip_nil_left, List.map_cons, List.map_nil, List.getElem?_cons_zero, lv17]
    · rw [cell_of_heap hh]; exact hc1
    · rw [cell_of_heap hh]; exact hc2
set_option maxRecDepth 100000 in
set_option maxHeartbeats 4000000 in
theorem live_any (w : World) : Calls Try.prog 10 #[] w fun e w' => e = .returned (.bool true) ∧ Fr (fun _ => False) w w' := by
  go_enter Try.func10, Try.ntmps10
  go_wp2_with fail
  refine (newStore_any w 9 (by decide)).mono ?_
  rintro e w1 ⟨s, sv, qv, rfl, hD, hB, f1⟩
  have HD1 : Hid (DW X00 w w1 s (newS 9)) := hide ⟨⟨sv, qv, hD, fun b hb => .inr (hB b hb)⟩, f1.size⟩
  have F1 : Hid (Fr (Zs X00 w w) w w1) := hide (f1.mono (fun _ _ e => e.elim))
  clear hD hB f1
  go_wp2_with fail
  have hfm := format_any (X := X00) (w0 := w) (w := w1) (s := s) (D := newS 9) 1 8 (by decide) (by decide) (by decide) (by decide) (unhide HD1)
  rw [lv1] at hfm
  refine hfm.mono ?_
  rintro e w2 ⟨rfl, hd2, f2⟩
  have HD2 : Hid (DW X00 w w2 s lvD1) := hide hd2
  have F2 := hide (zs_trans (unhide F1) f2)
  clear hd2 f2 hfm HD1 F1
  go_wp2_with (go_at_call 18; refine (num_any _ _).mono ?_; rintro e w9 ⟨rfl, rfl⟩)
  have hop := open_any (X := X00) (w0 := w) (w := w2) (s := s) (D := lvD1) 1 8 (by decide) (by rw [lv13.1]; decide) (by rw [lv13.1]; decide) (by rw [lv13.2]; decide) (unhide HD2)
  refine hop.mono ?_
  rintro e w3 (⟨h, -⟩ | ⟨-, j, v, rfl, hjn, hTl, hJS, f3⟩)
  · exact absurd lv2 h
  rw [lv3] at hTl
  obtain ⟨gs, -, hown, -⟩ := hTl.ex
  obtain ⟨vo, vc, rfl⟩ := owns_shape hown
  have HJ3 : Hid (JS X00 w w3 j s lvJ2 lvD2) := hide hJS
  have F3 := hide (zs_trans (unhide F2) f3)
  obtain ⟨mv3, sv3, qv3, hJ3, -, -⟩ := hJS.ex
  have hrm := room_any w3 j s mv3 lvJ2 _ hJ3 hJS.ok
  rw [lv4] at hrm
  have HRM := hide hrm
  clear hop hTl hown hJS f3 F2 HD2 hJ3 hrm
  go_wp2_with (first | (go_at_call 18; refine (num_any _ _).mono ?_; rintro e w9 ⟨rfl, rfl⟩) | (go_at_call 47; refine (unhide HRM).mono ?_; rintro e w4 ⟨rfl, f4⟩; have HJ4 := hide ((unhide HJ3).kept0 f4); have F4 := hide (zs_trans (unhide F3) (zs_none f4)); clear f4 HRM HJ3 F3))
  refine (full_any w4 97).mono ?_
  rintro e w5 ⟨rfl, hb, f⟩
  have fA : Fr (fun _ => False) w5 (w5.alloc (.cells #[.int .i64 7, .slice (some ⟨w4.heap.size, 0, none⟩) 384 384] 94)) := (Fr.refl _ _).alloc _
  have hrp : RdP (w5.alloc (.cells #[.int .i64 7, .slice (some ⟨w4.heap.size, 0, none⟩) 384 384] 94)) (.slice (some ⟨w5.heap.size, 0, none⟩) 1 1) (lvT 7 97) := rdp_one (c := 97) (heap_alloc_new w5 _) (hb.kept fA id)
  have HAP := hide (append_any (X := X00) (w0 := w) _ j s lvJ2 lvD2 _ _ (((unhide HJ4).kept0 f).kept0 fA) hrp (by decide) (by have := lv14.2.1; omega))
  have F5 := hide (zs_trans (zs_trans (unhide F4) (zs_none f)) (zs_none fA))
  clear hb f fA hrp HJ4 F4
  go_wp2_with fail
  refine (unhide HAP).mono ?_
  rintro e w6 ⟨he, hjs, f⟩
  rw [lv5] at he
  subst he
  have HJ6 : Hid (JS X00 w w6 j s lvJ3 lvD3) := hide hjs
  have F6 := hide (zs_trans (unhide F5) f)
  clear hjs f HAP F5
  go_wp2_with fail
  refine (full_any w6 98).mono ?_
  rintro e w7 ⟨rfl, hb, f⟩
  have fA : Fr (fun _ => False) w7 (w7.alloc (.cells #[.int .i64 8, .slice (some ⟨w6.heap.size, 0, none⟩) 384 384] 94)) := (Fr.refl _ _).alloc _
  have hrp : RdP (w7.alloc (.cells #[.int .i64 8, .slice (some ⟨w6.heap.size, 0, none⟩) 384 384] 94)) (.slice (some ⟨w7.heap.size, 0, none⟩) 1 1) (lvT 8 98) := rdp_one (c := 98) (heap_alloc_new w7 _) (hb.kept fA id)
  have HAP := hide (append_any (X := X00) (w0 := w) _ j s lvJ3 lvD3 _ _ (((unhide HJ6).kept0 f).kept0 fA) hrp (by decide) (by have := lv14.2.2.2; omega))
  have F7 := hide (zs_trans (zs_trans (unhide F6) (zs_none f)) (zs_none fA))
  clear hb f fA hrp HJ6 F6
  go_wp2_with fail
  refine (unhide HAP).mono ?_
  rintro e w8 ⟨he, hjs, f⟩
  rw [lv6] at he
  subst he
  have HJ8 : Hid (JS X00 w w8 j s lvJ4 lvD4) := hide hjs
  have F8 := hide (zs_trans (unhide F7) f)
  clear hjs f HAP F7
  obtain ⟨sv8, qv8, hD8, hB8⟩ := (unhide HJ8).dw.ex
  have fA : Fr (fun _ => False) w8 (w8.alloc (.cells #[.int .i64 2, .int .i64 3] 3)) := (Fr.refl _ _).alloc _
  have hkn : knd (w8.alloc (.cells #[.int .i64 2, .int .i64 3] 3)) w8.heap.size = 3 := knd_cells (heap_alloc_new w8 _)
  have HCR := hide (scrash_any (w8.alloc (.cells #[.int .i64 2, .int .i64 3] 3)) s sv8 qv8 lvD4 (.slice (some ⟨w8.heap.size, 0, none⟩) 2 2) [2, 3] (rdv_new w8 [.int .i64 2, .int .i64 3] 3 (by decide)) (fun b e => by simp [Value.ownBlock] at e; subst e; rw [hkn]; unfold KD; omega) (hD8.kept0 fA))
  have HSZ8 := hide (unhide HJ8).sz
  have HB8 := hide hB8
  have HD8 := hide (hD8.kept0 fA)
  have F9 := hide (zs_trans (unhide F8) (zs_none fA))
  clear hkn hD8 hB8 fA HJ8 F8
  go_wp2_with fail
  refine (unhide HCR).mono ?_
  rintro e w9 ⟨rfl, hdst⟩
  obtain ⟨hdw, f⟩ := dw_dev (X := X00) (w0 := w) (unhide HD8) (unhide HB8) (unhide F9).size hdst
  have HD9 : Hid (DW X00 w w9 s lvD5) := hide hdw
  have F10 := hide (zs_trans (unhide F9) f)
  clear hdw f hdst HCR HD8 HB8 F9 HSZ8
  go_wp2_with fail
  have hop := open_any (X := X00) (w0 := w) (w := w9) (s := s) (D := lvD5) 1 8 (by decide) (by rw [lv15.1]; decide) (by rw [lv15.1]; decide) (by rw [lv15.2.1]; decide) (unhide HD9)
  refine hop.mono ?_
  rintro e w11 (⟨h, -⟩ | ⟨-, k, v, rfl, hjn2, hTl, hJS, f⟩)
  · exact absurd lv7 h
  rw [lv8] at hTl
  obtain ⟨gs2, -, hown, -⟩ := hTl.ex
  obtain ⟨vo2, vc2, rfl⟩ := owns_shape hown
  have HK11 : Hid (JS X00 w w11 k s lvJ6 lvD6) := hide hJS
  have G11 := hide (zs_trans (unhide F10) f)
  clear hop hTl hown hJS f HD9 F10
  go_wp2_with (go_at_call 18; refine (num_any _ _).mono ?_; rintro e w9 ⟨rfl, rfl⟩)
  refine (full_any w11 99).mono ?_
  rintro e w12 ⟨rfl, hb, f⟩
  have fA : Fr (fun _ => False) w12 (w12.alloc (.cells #[.int .i64 9, .slice (some ⟨w11.heap.size, 0, none⟩) 384 384] 94)) := (Fr.refl _ _).alloc _
  have hrp : RdP (w12.alloc (.cells #[.int .i64 9, .slice (some ⟨w11.heap.size, 0, none⟩) 384 384] 94)) (.slice (some ⟨w12.heap.size, 0, none⟩) 1 1) (lvT 9 99) := rdp_one (c := 99) (heap_alloc_new w12 _) (hb.kept fA id)
  have HAP := hide (append_any (X := X00) (w0 := w) _ k s lvJ6 lvD6 _ _ (((unhide HK11).kept0 f).kept0 fA) hrp (by decide) (by have := lv15.2.2; omega))
  have F12 := hide (zs_trans (zs_trans (unhide G11) (zs_none f)) (zs_none fA))
  clear hb f fA hrp HK11 G11
  go_wp2_with fail
  refine (unhide HAP).mono ?_
  rintro e w13 ⟨he, hjs, f⟩
  rw [lv9] at he
  subst he
  have HK13 : Hid (JS X00 w w13 k s lvJ7 lvD7) := hide hjs
  have G13 := hide (zs_trans (unhide F12) f)
  clear hjs f HAP F12
  go_wp2_with fail
  refine (sync_any (H := unhide HK13)).mono ?_
  rintro e w14 ⟨rfl, hJS, f⟩
  have HK14 : Hid (JS X00 w w14 k s lvJ7.syn lvD8) := hide hJS
  have G14 := hide (zs_trans (unhide G13) f)
  clear hJS f HK13 G13
  obtain ⟨mv, sv9, qv9, hJ14, hD14, hB14⟩ := (unhide HK14).ex
  have HCR := hide (scrash_any w14 s sv9 qv9 lvD8 (.slice none 0 0) [] (.inl ⟨rfl, rfl⟩) (fun b e => by simp [Value.ownBlock] at e) hD14)
  have HJ14 := hide hJ14
  have HD14 := hide hD14
  have HBW : Hid (∀ b, DB s sv9 qv9 b → w.heap.size ≤ b) := hide (fun b hb => (hB14 b (.inr hb)).elim (fun z => z.elim) id)
  clear hJ14 hD14 hB14 HK14
  go_wp2_with fail
  refine (unhide HCR).mono ?_
  rintro e w15 ⟨rfl, hdst⟩
  have hJ15 := (unhide HJ14).kept hdst.fr (fun b hb e => by have h1 := (unhide HJ14).knds hb; have h2 := (unhide HD14).knds e; unfold KJ at h1; unfold KD at h2; omega)
  have HJ15 := hide hJ15
  obtain ⟨hdw, f⟩ := dw_dev (X := DB s sv9 qv9) (w0 := w14) (unhide HD14) (fun b hb => .inl hb) (Nat.le_refl _) hdst
  have HD15 : Hid (DW (DB s sv9 qv9) w14 w15 s lvD9) := hide hdw
  have hlt14 : ∀ b, JB k mv b → b < w14.heap.size := fun b hb => (unhide HJ14).lt hb
  have hnd14 : ∀ b, JB k mv b → ¬ DB s sv9 qv9 b := fun b hb e => by have h1 := (unhide HJ14).knds hb; have h2 := (unhide HD14).knds e; unfold KJ at h1; unfold KD at h2; omega
  have F15 := hide hdst.fr
  have HLT := hide hlt14
  have HND := hide hnd14
  clear hdst hJ15 hdw f HCR HJ14 HD14 hlt14 hnd14
  go_wp2_with fail
  have hop := open_any (X := DB s sv9 qv9) (w0 := w14) (w := w15) (s := s) (D := lvD9) 1 8 (by decide) (by rw [lv16.1]; decide) (by rw [lv16.1]; decide) (by rw [lv16.2]; decide) (unhide HD15)
  refine hop.mono ?_
  rintro e w16 (⟨h, -⟩ | ⟨-, j3, v, rfl, hjn3, hTl, hJS, f⟩)
  · exact absurd lv10 h
  rw [lv11] at hTl
  obtain ⟨B, cc, g, x, rfl, c1, c2, c3, rx⟩ := tl_one hTl
  have f16 : Fr (fun b => DB s sv9 qv9 b ∨ w14.heap.size ≤ b) w15 w16 := f.mono (fun b hb e => e.2)
  have hbt : ∀ w', Fr (fun _ => False) w16 w' → Calls Try.prog 49 #[.pointer (some ⟨k, 0, none⟩)] w' fun e w2 => e = .returned (.int .u64 3) ∧ w' = w2 := by
    intro w' fw
    have h16 := (unhide HJ15).kept f16 (fun b hb e => by
      rcases e with e | e
      · exact unhide HND b hb e
      · have := unhide HLT b hb; omega)
    have := boot_any w' k s mv lvJ7.syn (h16.kept fw (fun _ _ e => e))
    rw [show lvJ7.syn.sup.b = 3 from lv12] at this
    exact this
  have g14 : Fr (fun b => w.heap.size ≤ b) w w14 := (unhide G14).mono (fun b hb e => e.2.elim (fun z => z.elim) id)
  have g15 : Fr (fun b => w.heap.size ≤ b) w w15 := g14.trans (unhide F15) (fun b hb e => unhide HBW b e)
  have g16 : Fr (fun b => w.heap.size ≤ b) w w16 := g15.trans f16 (fun b hb e => e.elim (unhide HBW b) (fun e => Nat.le_trans g14.size e))
  have F16 : Hid (Fr (fun _ => False) w w16) := hide (g16.mono (fun b hb e => Nat.not_le.2 hb e))
  clear g14 g15 g16
  have C1 := hide c1
  have C2 := hide c2
  have C3 := hide c3
  have RX := hide rx
  have HBT := hide hbt
  clear c1 c2 c3 rx hbt hop hTl hJS f f16 HD15 F15 HJ15 HND HLT G14
  go_upto_region 17 with (go_at_call 18; refine (num_any _ _).mono ?_; rintro e w9 ⟨rfl, rfl⟩)
  refine gl17 (unhide C1) (unhide C2) (unhide C3) (unhide RX) (unhide HBT) ?_
  intros
  rename_i w17 f17
  have F17 := hide ((unhide F16).trans f17 (fun _ _ e => e))
  clear f17 F16 C1 C2 C3 RX HBT
  go_wp2_with fail
  go_ret
  exact ⟨rfl, unhide F17⟩
end Go.Proofs.Ytgodlfoidjeekaa

namespace Go.Proofs.Ytgodlfoidjeekaa
set_option linter.unusedVariables false
set_option linter.unusedSimpArgs false
open Go.RowKit
set_option linter.unusedVariables false
set_option linter.unusedSimpArgs false

attribute [local go_sem ↓] Go.wp_at_zero Go.wp_at_succ

set_option maxRecDepth 100000 in
theorem nil_37 (w : World) (v : Value) : Calls Try.prog 37 #[.pointer none, v] w fun e w' => e = .returned (.tuple #[.int .u64 0, .int .i64 7]) ∧ w = w' := by
  go_enter Try.func37, Try.ntmps37
  go_wp2_with fail
  refine (none_nil w).mono ?_
  rintro e w1 ⟨rfl, rfl⟩
  go_wp2_with fail
  go_ret2
  exact ⟨rfl, rfl⟩
set_option maxRecDepth 100000 in
theorem nil_38 (w : World) : Calls Try.prog 38 #[.pointer none] w fun e w' => e = .returned (.int .i64 7) ∧ w = w' := by
  go_enter Try.func38, Try.ntmps38
  go_wp2_with fail
  refine (none_nil w).mono ?_
  rintro e w1 ⟨rfl, rfl⟩
  go_wp2_with fail
  go_ret
  exact ⟨rfl, rfl⟩
set_option maxRecDepth 100000 in
theorem nil_39 (w : World) : Calls Try.prog 39 #[.pointer none, .int .u64 0] w fun e w' => e = .returned (.int .i64 7) ∧ w = w' := by
  go_enter Try.func39, Try.ntmps39
  go_wp2_with fail
  refine (none_nil w).mono ?_
  rintro e w1 ⟨rfl, rfl⟩
  go_wp2_with fail
  go_ret
  exact ⟨rfl, rfl⟩
set_option maxRecDepth 100000 in
theorem nil_46 (w : World) : Calls Try.prog 46 #[.pointer none] w fun e w' => e = .returned (.int .u64 0) ∧ w = w' := by
  go_enter Try.func46, Try.ntmps46
  go_wp2_with fail
  refine (none_nil w).mono ?_
  rintro e w1 ⟨rfl, rfl⟩
  go_wp2_with fail
  go_ret
  exact ⟨rfl, rfl⟩
set_option maxRecDepth 100000 in
theorem nil_44 (w : World) : Calls Try.prog 44 #[.pointer none] w fun e w' => e = .returned (.int .u64 0) ∧ w = w' := by
  go_enter Try.func44, Try.ntmps44
  go_wp2_with fail
  refine (none_nil w).mono ?_
  rintro e w1 ⟨rfl, rfl⟩
  go_wp2_with fail
  go_ret
  exact ⟨rfl, rfl⟩
set_option maxRecDepth 100000 in
theorem nil_45 (w : World) : Calls Try.prog 45 #[.pointer none] w fun e w' => e = .returned (.int .u64 0) ∧ w = w' := by
  go_enter Try.func45, Try.ntmps45
  go_wp2_with fail
  refine (none_nil w).mono ?_
  rintro e w1 ⟨rfl, rfl⟩
  go_wp2_with fail
  go_ret
  exact ⟨rfl, rfl⟩
set_option maxRecDepth 100000 in
theorem nil_47 (w : World) : Calls Try.prog 47 #[.pointer none] w fun e w' => e = .returned (.int .i64 0) ∧ w = w' := by
  go_enter Try.func47, Try.ntmps47
  go_wp2_with fail
  refine (none_nil w).mono ?_
  rintro e w1 ⟨rfl, rfl⟩
  go_wp2_with fail
  go_ret
  exact ⟨rfl, rfl⟩
set_option maxRecDepth 100000 in
theorem nil_49 (w : World) : Calls Try.prog 49 #[.pointer none] w fun e w' => e = .returned (.int .u64 0) ∧ w = w' := by
  go_enter Try.func49, Try.ntmps49
  go_wp2_with fail
  refine (none_nil w).mono ?_
  rintro e w1 ⟨rfl, rfl⟩
  go_wp2_with fail
  go_ret
  exact ⟨rfl, rfl⟩
theorem Try.eqPz {ρ : Operand → Value} {o : Oper} {w : World} {x y : Operand} (ho : o.op = .binOp .eql 66 x y 66) (hx : ρ x = .pointer none) (hy : ρ y = .pointer none) : (execOp ρ o).run Try.prog w = .ok (.value (.bool true)) w := by
  simp [execOp, ho, hx, hy, go_sem, Try.underlying66]
theorem x_len79n {ρ : Operand → Value} {o : Oper} {w : World} {x : Operand} {ao : Option Addr} {n c : Nat} (ho : o.op = .call { callee := .builtin .len, args := #[x], argTypes := #[79] }) (hx : ρ x = .slice ao n c) : (execOp ρ o).run Try.prog w = .ok (.value (.int .i64 (n : Int))) w := by
  simp [execOp, ho, hx, go_sem]
theorem e_call0 {ρ : Operand → Value} {o : Oper} {w : World} {f : Nat} {ts : Array TypeId} (ho : o.op = .call { callee := .value (.func f), args := #[], argTypes := ts }) (hw : ∀ w, (callFunc f #[]).run Try.prog w = .ok (.enter f #[]) w) (hf : ρ (.func f) = .func (.func f) #[] #[]) : (execOp ρ o).run Try.prog w = .ok (.enter f #[]) w := by
  simp [execOp, ho, go_sem, hf, hw]
set_option maxRecDepth 100000 in
set_option maxHeartbeats 4000000 in
theorem journalNil_any (w : World) : Calls Try.prog 8 #[] w fun e w' => e = .returned (.bool true) ∧ Fr (fun _ => False) w w' := by
  go_enter Try.func8, Try.ntmps8
  go_wp2_with fail
  refine (full_any w 1).mono ?_
  rintro e w1 ⟨rfl, -, f1⟩
  have F1 := hide f1
  clear f1
  go_wp2_with fail
  refine (nil_37 _ _).mono ?_
  rintro e w2 ⟨rfl, hw2⟩
  have F2 := hide ((unhide F1).trans (hw2 ▸ (Fr.refl _ _).alloc _) (fun _ _ e => e))
  clear hw2 F1
  go_wp2_with fail
  refine (open_nil _ _ _).mono ?_
  rintro e w3 ⟨rfl, rfl⟩
  go_upto_region 4 with fail
  simp only [List.append_eq, List.cons_append, List.nil_append]
  go_wp2_with (first | (go_at_call 10; refine (live_any _).mono ?_; rintro e w4 ⟨rfl, f4⟩; have F4 := hide ((unhide F2).trans f4 (fun _ _ e => e)); clear f4 F2) | (go_at_call 18; refine (num_any _ _).mono ?_; rintro e w9 ⟨rfl, rfl⟩) | (go_at_call 38; refine (nil_38 _).mono ?_; rintro e w9 ⟨rfl, rfl⟩) | (go_at_call 39; refine (nil_39 _).mono ?_; rintro e w9 ⟨rfl, rfl⟩) | (go_at_call 46; refine (nil_46 _).mono ?_; rintro e w9 ⟨rfl, rfl⟩) | (go_at_call 44; refine (nil_44 _).mono ?_; rintro e w9 ⟨rfl, rfl⟩) | (go_at_call 45; refine (nil_45 _).mono ?_; rintro e w9 ⟨rfl, rfl⟩) | (go_at_call 47; refine (nil_47 _).mono ?_; rintro e w9 ⟨rfl, rfl⟩) | (go_at_call 49; refine (nil_49 _).mono ?_; rintro e w9 ⟨rfl, rfl⟩) | (go_at_call 31; refine (format_nil _ _ _).mono ?_; rintro e w9 ⟨rfl, rfl⟩))
  go_ret
  exact ⟨rfl, unhide F4⟩
end Go.Proofs.Ytgodlfoidjeekaa

namespace Go.Proofs.Ytgodlfoidjeekaa
set_option linter.unusedVariables false
set_option linter.unusedSimpArgs false
open Go.RowKit
set_option linter.unusedVariables false
set_option linter.unusedSimpArgs false

attribute [local go_sem ↓] Go.wp_at_zero Go.wp_at_succ

/-- The bytes of the first i puts. -/
def hvN (ps : List (Int × List UInt8)) (i : Nat) : Nat := ((ps.take i).map fun p => p.2.length).sum
theorem hvN_succ (ps : List (Int × List UInt8)) (i : Nat) (h : i < ps.length) : hvN ps (i + 1) = hvN ps i + (ps[i]).2.length := by
  unfold hvN
  rw [List.take_succ_eq_append_getElem h, List.map_append, List.sum_append]
  simp
theorem rdp_kept {w w' : World} {v : Value} {ps : List (Int × List UInt8)} (h : RdP w v ps) (f : Fr (fun _ => False) w w') : RdP w' v ps := by
  rcases h with h | ⟨B, o, c, rfl, h1, h2, h3⟩
  · exact .inl h
  · refine .inr ⟨B, o, c, rfl, h1, h2, fun j hj => ?_⟩
    obtain ⟨a, x, b, r⟩ := h3 j hj
    exact ⟨(f.cell (a := ⟨B, o + j * 2, none⟩) (World.block_lt_of_cell? w _ a) id).trans a, x, (f.cell (a := ⟨B, o + j * 2 + 1, none⟩) (World.block_lt_of_cell? w _ b) id).trans b, r.kept f (fun _ _ e => e)⟩
/-- Are there too many bytes? -/
def hvB (n1 n2 : Nat) (ps : List (Int × List UInt8)) : Bool := decide (60000 < n1 + n2 + hvN ps (min ps.length 100)) || decide (100 ≤ ps.length)
set_option maxRecDepth 100000 in
set_option maxHeartbeats 4000000 in
theorem heavy_any (w : World) (e0 e1 e2 e3 e4 e5 s0 s1 s2 s3 s4 s5 nn vt : Value) (ao bo : Option Addr) (n1 k1 n2 k2 : Nat) (ps : List (Int × List UInt8)) (hT : RdP w vt ps) (h1 : n1 ≤ 10000000) (h2 : n2 ≤ 10000000) (hl : ps.length ≤ 10000000) (hd : ∀ p ∈ ps, p.2.length ≤ 10000000) :
    Calls Try.prog 9 #[.agg #[e0, e1, e2, e3, e4, e5, .slice ao n1 k1, s0, s1, s2, s3, s4, s5, vt, .slice bo n2 k2, nn]] w fun e w' => e = .returned (.bool (hvB n1 n2 ps)) ∧ Fr (fun _ => False) w w' := by
  obtain ⟨tv, tc, rfl⟩ := hT.shape
  have hA := heap_alloc_new w (.cells #[e0, e1, e2, e3, e4, e5, .slice ao n1 k1, s0, s1, s2, s3, s4, s5, .slice tv ps.length tc, .slice bo n2 k2, nn] 30)
  have fA : Fr (fun _ => False) w (w.alloc (.cells #[e0, e1, e2, e3, e4, e5, .slice ao n1 k1, s0, s1, s2, s3, s4, s5, .slice tv ps.length tc, .slice bo n2 k2, nn] 30)) := (Fr.refl _ _).alloc _
  have HT := hide (rdp_kept hT fA)
  have HA := hide hA
  have FA := hide fA
  have k1' : IntKind.i64.wrap ((n1 : Int) + (n2 : Int)) = ((n1 + n2 : Nat) : Int) := by
    have := wrapI (n1 + n2) (by omega)
    exact_mod_cast this
  clear hT fA hA
  go_enter Try.func9, Try.ntmps9
  go_upto_region 1 with fail
  refine wp_world ?_
  intro w1 hw1
  rw [← hw1] at HA HT FA
  obtain ⟨b, hb⟩ : ∃ b, b = w.heap.size := ⟨_, rfl⟩
  rw [← hb] at HA ⊢
  clear hw1 hb
  have c6 := cell_of_heap (unhide HA) 6
  have c13 := cell_of_heap (unhide HA) 13
  have c14 := cell_of_heap (unhide HA) 14
  simp at c6 c13 c14
  go_wp2_with fail
  go_loopw [3, 4] (fun x y W => W = w1 ∧ ∃ i : Nat, i ≤ min ps.length 100 ∧ x = .int .i64 ((n1 + n2 + hvN ps i : Nat) : Int) ∧ y = .int .i64 (i : Int)) (fun _ y _ => 100 - (intOf y).toNat)
  case atStart => exact ⟨rfl, 0, by omega, by simp [hvN], rfl⟩
  case round =>
    obtain ⟨rfl, i, hi, rfl, rfl⟩ := hrel
    have hsum : ∀ k, k ≤ 100 → hvN ps k ≤ k * 10000000 := by
      intro k
      induction k with
      | zero => intro _; simp [hvN]
      | succ k ih =>
        intro hk
        by_cases hlt : k < ps.length
        · rw [hvN_succ _ _ hlt]
          have := hd _ (List.getElem_mem hlt)
          have := ih (by omega)
          omega
        · have e : hvN ps (k + 1) = hvN ps k := by
            unfold hvN
            rw [List.take_of_length_le (by omega), List.take_of_length_le (by omega)]
          rw [e]
          exact Nat.le_trans (ih (by omega)) (Nat.mul_le_mul_right _ (Nat.le_succ k))
    by_cases hlt : i < min ps.length 100
    · have hi1 : i < ps.length := by omega
      have hi2 : i < 100 := by omega
      obtain ⟨B, o, hv, hv1, hv2, hv3⟩ := (unhide HT).lits (by omega)
      obtain ⟨z0, x, z1, zr⟩ := hv3 i hi1
      subst hv
      obtain ⟨xo, xc, rfl⟩ := zr.shape
      obtain ⟨S, hS⟩ : ∃ S, S = n1 + n2 + hvN ps i := ⟨_, rfl⟩
      obtain ⟨m, hm⟩ : ∃ m, m = (ps[i]).2.length := ⟨_, rfl⟩
      have hdm := hd _ (List.getElem_mem hi1)
      have hsi := hsum i (by omega)
      rw [← hm] at z1 hdm
      rw [← hS]
      have q1 : (i : Int) < (ps.length : Int) := by omega
      have q2 : (i : Int) < 100 := by omega
      have q3 : IntKind.i64.wrap ((S : Int) + (m : Int)) = ((S + m : Nat) : Int) := by
        have := wrapI (S + m) (by omega)
        exact_mod_cast this
      have q4 : IntKind.i64.wrap ((i : Int) + 1) = ((i + 1 : Nat) : Int) := by
        have := wrapI (i + 1) (by omega)
        exact_mod_cast this
      have q5 : i < tc := by omega
      have HSM := hide (show S + m = n1 + n2 + hvN ps (i + 1) by rw [hvN_succ _ _ hi1, hS, hm]; omega)
      clear hsum hS hm hsi hdm hd hv3 zr z0
      go_wp2_with fail
      go_roundw
      case rel => exact ⟨by first | rfl | trivial, i + 1, by omega, by rw [← unhide HSM]; go_num, by go_num⟩
      case measure => simp [intOf]; omega
    · have hin : i = min ps.length 100 := by omega
      have hs := hsum i (by omega)
      obtain ⟨S, hS⟩ : ∃ S, S = n1 + n2 + hvN ps i := ⟨_, rfl⟩
      rw [← hS]
      have HSS := hide hS
      have HIN := hide hin
      by_cases hb1 : 60000 < S
      · have q0 : (60000 : Int) < (S : Int) := by omega
        by_cases hfl : i < ps.length
        · have hi100 : i = 100 := by omega
          subst hi100
          have q1 : (100 : Int) < (ps.length : Int) := by omega
          clear hin hs hsum hS hd
          go_wp2_with fail
          go_ret
          refine ⟨?_, unhide FA⟩
          unfold hvB
          rw [← unhide HIN, ← unhide HSS, decide_eq_true hb1, Bool.true_or]
          rfl
        · have q1 : ¬ ((i : Int) < (ps.length : Int)) := by omega
          clear hin hs hsum hS hd
          go_wp2_with fail
          go_ret
          refine ⟨?_, unhide FA⟩
          unfold hvB
          rw [← unhide HIN, ← unhide HSS, decide_eq_true hb1, Bool.true_or]
          rfl
      · have q0 : ¬ ((60000 : Int) < (S : Int)) := by omega
        by_cases hfl : i < ps.length
        · have hi100 : i = 100 := by omega
          subst hi100
          have q1 : (100 : Int) < (ps.length : Int) := by omega
          have q2 : (100 : Int) ≤ (ps.length : Int) := by omega
          clear hin hs hsum hS hd
          go_wp2_with fail
          go_ret
          refine ⟨?_, unhide FA⟩
          unfold hvB
          rw [← unhide HIN, ← unhide HSS, decide_eq_true (show 100 ≤ ps.length by omega), Bool.or_true]
          rfl
        · have q1 : ¬ ((i : Int) < (ps.length : Int)) := by omega
          have hie : i = ps.length := by omega
          by_cases h100 : 100 ≤ ps.length
          · have q2 : (100 : Int) ≤ (ps.length : Int) := by omega
            clear hin hs hsum hS hd
            go_wp2_with fail
            go_ret
            refine ⟨?_, unhide FA⟩
            unfold hvB
            rw [← unhide HIN, ← unhide HSS, decide_eq_true h100, Bool.or_true]
            rfl
          · have q2 : ¬ ((100 : Int) ≤ (ps.length : Int)) := by omega
            clear hin hs hsum hS hd
            go_wp2_with fail
            go_ret
            refine ⟨?_, unhide FA⟩
            unfold hvB
            rw [← unhide HIN, ← unhide HSS, decide_eq_false h100, decide_eq_false hb1, Bool.or_false]
            rfl
end Go.Proofs.Ytgodlfoidjeekaa
