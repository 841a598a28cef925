/-
  The program's calls, with the very set of blocks that may turn.
  Both caches beside each other.
-/
import Derived.Test.YtdgmlopaeonacaaM22
namespace Go.Proofs.Ytdgmlopaeonacaa
set_option linter.unusedVariables false
set_option linter.unusedSimpArgs false
open Go.RowKit
set_option linter.unusedVariables false
set_option linter.unusedSimpArgs false

attribute [local go_sem ↓] Go.wp_at_zero Go.wp_at_succ

/-- Cache and home: since w0 only blocks of X have turned; their blocks are X's, or new. -/
def CX [Av] (X : Nat → Prop) (w0 w : World) (p h r u : Nat) (dv : Value) (c : Ca) (m : Hm) (l : List Pl) : Prop :=
  ∃ lv vs L R, KAt w p h r u L R c ∧ HAt w h dv lv vs m ∧ R.map Prod.snd = l ∧ Fr X w0 w ∧ ∀ k, HB h dv lv k ∨ KB p r u R k → X k ∨ w0.heap.size ≤ k
section
variable {X : Nat → Prop} {w0 : World} {w w' : World} {p h r u : Nat} {dv lv : Value} {vs : List Value} {L : List (Int × Nat)} {R : List (Nat × Pl)} {c c' : Ca} {m m' : Hm} {l l' : List Pl}
theorem CX.fr [Av] (H : CX X w0 w p h r u dv c m l) (f : Fr (fun _ => False) w w') : CX X w0 w' p h r u dv c m l := by
  obtain ⟨lv, vs, L, R, h1, h2, h3, h4, h5⟩ := H
  exact ⟨lv, vs, L, R, h1.kept0 f, h2.kept0 f, h3, h4.trans f (fun _ _ e => e.elim), h5⟩
theorem cx_of [Av] {lv' : Value} {vs' : List Value} {L' : List (Int × Nat)} {R' : List (Nat × Pl)} (f : Fr X w0 w) (hn : ∀ k, HB h dv lv k ∨ KB p r u R k → X k ∨ w0.heap.size ≤ k) (C : Cs w w' p h r u dv lv R lv' vs' L' R' c m) (hl : R'.map Prod.snd = l) : CX X w0 w' p h r u dv c m l := by
  have hs := f.size
  refine ⟨lv', vs', L', R', C.k, C.hh, hl, f.trans C.f (fun k hk e => by rcases hn k e with h | h; exact h; omega), fun k hk => ?_⟩
  rcases hk with (e | e | e) | (e | e | e)
  · exact hn k (.inl (.inl e))
  · exact hn k (.inl (.inr (.inl e)))
  · rcases C.lvn k e with e | e
    · exact hn k (.inl (.inr (.inr e)))
    · right; omega
  · exact hn k (.inr (.inl e))
  · exact hn k (.inr (.inr (.inl e)))
  · rcases List.mem_cons.1 e with e | e
    · exact hn k (.inr (.inr (.inr (by rw [e]; simp))))
    · rcases C.sub k e with e | e
      · exact hn k (.inr (.inr (.inr (List.mem_cons_of_mem _ e))))
      · right; omega
theorem cx_cp [Av] (f : Fr X w0 w) (hn : ∀ k, HB h dv lv k ∨ KB p r u R k → X k ∨ w0.heap.size ≤ k) (C : Cp w w' p h r u dv lv R c m l) : CX X w0 w' p h r u dv c m l := by
  obtain ⟨lv', vs', L', R', k1, k2, k3, k4, k5, f1⟩ := C
  exact cx_of f hn ⟨k1, k2, k4, k5, f1⟩ k3
theorem cx_write [Av] (b : Int) (v : Value) (P : List UInt8) (ch : Nat) (hch : ch < 18446744073709551616) (hv : Rd w v P) (hva : ∀ k, v.ownBlock = some k → knd w k = 5) (H : CX X w0 w p h r u dv c m l) (hD : InD m l) (hc : m.calls < 999999990) : Calls Try.prog 23 #[ptr p, .int .i64 b, v, .int .u64 (ch : Int)] w fun e w' => e = .returned (.int .i64 (wtR c m l b P ch).1) ∧ CX X w0 w' p h r u dv c (wtR c m l b P ch).2.2 (wtR c m l b P ch).2.1 := by
  obtain ⟨lv, vs, L, R, h1, h2, rfl, h4, h5⟩ := H
  refine (cwrite_any w p h r u L R c dv lv vs m b v P ch hch hv (fun k hk => ?_) h1 h2 hD.rr hc).mono ?_
  · have e := hva k hk
    refine ⟨fun e3 => ?_, fun e3 => ?_, knd_lt (by rw [e]; decide)⟩
    · rcases h2.knds e3 with e4 | e4 | e4 <;> rw [e] at e4 <;> exact absurd e4 (by decide)
    · rcases h1.knds e3 with e4 | e4 | e4 <;> rw [e] at e4 <;> exact absurd e4 (by decide)
  · rintro e w' ⟨rfl, C⟩
    exact ⟨rfl, cx_cp h4 h5 C⟩
theorem cx_read [Av] (b : Int) (H : CX X w0 w p h r u dv c m l) (hD : InD m l) (hc : m.calls < 999999990) (hn : c.hit + c.miss < 1000000000) : Calls Try.prog 22 #[ptr p, .int .i64 b] w fun e w' => RdA w (ftR c m l b) e w' ∧ CX X w0 w' p h r u dv (ftR c m l b).2.2.2 (ftR c m l b).2.2.1 (ftR c m l b).2.1 := by
  obtain ⟨lv, vs, L, R, h1, h2, rfl, h4, h5⟩ := H
  refine (cread_any w p h r u L R c dv lv vs m b h1 h2 hD.rr hc hn).mono ?_
  rintro e w' ⟨lv', vs', L', R', C, hl, hA⟩
  exact ⟨hA, cx_of h4 h5 C hl⟩

theorem cx_safe [Av] (s : Nat) (hs : s < 18446744073709551616) (H : CX X w0 w p h r u dv c m l) : Calls Try.prog 26 #[ptr p, .int .u64 (s : Int)] w fun e w' => e = .returned (.tuple #[]) ∧ CX X w0 w' p h r u dv { c with safe := max c.safe s } m l := by
  obtain ⟨lv, vs, L, R, h1, h2, rfl, h4, h5⟩ := H
  refine (safe_any w p h r u L R c s hs h1).mono ?_
  rintro e w' ⟨rfl, hK, f⟩
  exact ⟨rfl, cx_of h4 h5 (Cs.cache h1 h2 hK (fun _ h => .inl h) (f.mono (fun _ _ e => .inl e))) rfl⟩

theorem cx_held [Av] (H : CX X w0 w p h r u dv c m l) (hl : l.length ≤ 1000000) : Calls Try.prog 18 #[ptr p] w fun e w' => (∃ ao cc, e = .returned (.slice ao l.length cc) ∧ RdV w' (.slice ao l.length cc) ((l.map (·.b)).map (Value.int .i64))) ∧ Fr (fun _ => False) w w' := by
  obtain ⟨lv, vs, L, R, h1, h2, rfl, h4, h5⟩ := H
  refine (held_any w p h r u L R c (by simpa using hl) h1).mono ?_
  rintro e w' ⟨⟨ao, cc, rfl, hr⟩, f⟩
  refine ⟨⟨ao, cc, by simp, ?_⟩, f⟩
  have : (R.map Prod.snd).map (·.b) = blk R := by simp [blk]
  rw [this]
  simpa using hr

set_option maxRecDepth 100000 in
set_option maxHeartbeats 1000000 in
theorem cx_pin [Av] (b : Int) (H : CX X w0 w p h r u dv c m l) (hD : InD m l) (hc : m.calls < 999999990) (hn : c.hit + c.miss < 1000000000) (hpb : PinB l 999999990) : Calls Try.prog 24 #[ptr p, .int .i64 b] w fun e w' => e = .returned (.int .i64 (pnR c m l b).1) ∧ CX X w0 w' p h r u dv (pnR c m l b).2.2.2 (pnR c m l b).2.2.1 (pnR c m l b).2.1 := by
  obtain ⟨lv, vs, L, R, h1, h2, rfl, h4, h5⟩ := H
  have HF := hide (fetch_any w p h r u L R c dv lv vs m b h1 h2 hD.rr hc hn)
  have HFR := hide h4
  have HNW := hide h5
  have hpn : pnR c m (R.map Prod.snd) b = ((ftR c m (R.map Prod.snd) b).1, if (ftR c m (R.map Prod.snd) b).1 = 0 then pinL (ftR c m (R.map Prod.snd) b).2.1 else (ftR c m (R.map Prod.snd) b).2.1, (ftR c m (R.map Prod.snd) b).2.2.1, (ftR c m (R.map Prod.snd) b).2.2.2) := rfl
  have hpf : ∀ x ∈ (ftR c m (R.map Prod.snd) b).2.1, x.pins ≤ 999999990 := fun x hx => by
    rcases ft_mem c m _ b x hx with e | e
    · exact hpb x e
    · omega
  rw [hpn]
  generalize ftR c m (R.map Prod.snd) b = t at *
  obtain ⟨te, tl, tm, tc⟩ := t
  dsimp only at *
  clear h1 h2 h4 h5 hD hc hn hpb hpn
  have HPF := hide hpf
  obtain ⟨T, hT⟩ : ∃ T, T = (if te = 0 then pinL tl else tl) := ⟨_, rfl⟩
  rw [← hT]
  have HT := hide hT
  clear hpf hT
  unfold ptr at *
  go_enter Try.func24, Try.ntmps24
  go_wp2_with fail
  refine (unhide HF).mono ?_
  rintro e w1 ⟨lv1, vs1, L1, R1, hCs, hl1, hh⟩
  dsimp only at hCs hl1 hh
  rcases hh with ⟨hne, rfl⟩ | ⟨rfl, R2, ⟨qa, qx⟩, rfl, rfl⟩
  · have bne : (te != 0) = true := by simpa using hne
    have HNE := hide hne
    have HCs := hide hCs
    have HL1 := hide hl1
    clear hne hCs hl1 HF
    go_wp2_with fail
    go_ret
    have hT := unhide HT
    rw [if_neg (unhide HNE)] at hT
    subst hT
    exact ⟨rfl, cx_of (unhide HFR) (unhide HNW) (unhide HCs) (unhide HL1)⟩
  · obtain ⟨o, n, hN⟩ := hCs.k.at (q := (qa, qx)) (by simp)
    have hok := hCs.k.ok (qa, qx) (by simp)
    have d5 := hN.c5
    have z5 := frozen_of_heap hN 5
    have hpl : qx.pins ≤ 999999990 := unhide HPF qx (by rw [← hl1]; simp)
    have hp0 : 0 ≤ qx.pins := hok.pins.1
    have hK2 : KAt (w1.setCell ⟨qa, 5, none⟩ (.int .i64 (qx.pins + 1))) p h r u L1 (R2 ++ (qa, { qx with pins := qx.pins + 1 }) :: []) tc := KAt.turn hCs.k rfl ⟨hok.len, hok.b, hok.first, hok.last, by dsimp only; omega, by dsimp only; omega⟩ (fun o n hn => hn.set5 _) ((Fr.refl (fun k => k = qa) w1).setCell (p := ⟨qa, 5, none⟩) (fun _ => rfl) _)
    have f2 : Fr (KB p r u (R2 ++ [(qa, qx)])) w1 (w1.setCell ⟨qa, 5, none⟩ (.int .i64 (qx.pins + 1))) := ((Fr.refl (fun k => k = qa) w1).setCell (p := ⟨qa, 5, none⟩) (fun _ => rfl) _).mono (fun k _ e => .inr (.inr (by rw [e]; simp [adr])))
    have HC2 := hide (hCs.trans (Cs.cache hCs.k hCs.hh hK2 (fun k hk => .inl (by simpa [adr] using hk)) f2))
    have HL1 := hide hl1
    clear hCs hl1 hN hok HF hK2 f2
    dsimp only
    unfold ptr
    go_wp2_with fail
    go_ret
    have hT := unhide HT
    rw [if_pos trivial] at hT
    have hl : tl = R2.map Prod.snd ++ [qx] := by rw [← unhide HL1]; simp
    have hT2 : T = R2.map Prod.snd ++ [{ qx with pins := qx.pins + 1 }] := by rw [hT, hl]; simp [pinL]
    subst hT2
    exact ⟨rfl, cx_of (unhide HFR) (unhide HNW) (unhide HC2) (by simp)⟩


set_option maxRecDepth 100000 in
set_option maxHeartbeats 1000000 in
theorem cx_unpin [Av] (b : Int) (H : CX X w0 w p h r u dv c m l) : Calls Try.prog 25 #[ptr p, .int .i64 b] w fun e w' => e = .returned (.int .i64 (unR l b).1) ∧ CX X w0 w' p h r u dv c m (unR l b).2 := by
  have HCS := hide H
  obtain ⟨lv, vs, L, R, h1, h2, rfl, h4, h5⟩ := H
  have HN := hide (none_any w p h r u L R c h1)
  have c2 := cell_of_heap h1.heap 2
  simp at c2
  rcases hat : atI (R.map Prod.snd) b with _ | i
  · have hno := at_none hat
    have hlk := run_look_out h1.mp (h1.lookNo (fun q hq => hno q.2 (List.mem_map.2 ⟨q, hq, rfl⟩)))
    have e : unR (R.map Prod.snd) b = (92, R.map Prod.snd) := by unfold unR; rw [hat]
    rw [e]
    clear h1 h2 h4 h5 hno hat e
    unfold ptr at *
    go_enter Try.func25, Try.ntmps25
    go_wp2_with fail
    refine (unhide HN).mono ?_
    rintro e w' ⟨rfl, rfl⟩
    go_wp2_with fail
    go_ret
    exact ⟨rfl, unhide HCS⟩
  · obtain ⟨x, hx, hxb⟩ := at_some hat
    obtain ⟨R1, a, R2, rfl, hl1, hers⟩ := split_at hx
    have hlk := run_look_in h1.mp (h1.look (q := (a, x)) (by simp))
    dsimp only at hlk
    rw [hxb] at hlk
    obtain ⟨o, n, hN⟩ := h1.at (q := (a, x)) (by simp)
    have hok := h1.ok (a, x) (by simp)
    dsimp only at hok hN
    have d5 := hN.c5
    have z5 := frozen_of_heap hN 5
    by_cases hp : x.pins = 0
    · have e : unR ((R1 ++ (a, x) :: R2).map Prod.snd) b = (92, (R1 ++ (a, x) :: R2).map Prod.snd) := by
        unfold unR; rw [hat]; dsimp only; rw [hx]; dsimp only; rw [if_pos hp]
      rw [e]
      rw [hp] at d5
      clear h1 h2 h4 h5 hat e hN hok hx hers hp
      unfold ptr at *
      go_enter Try.func25, Try.ntmps25
      go_wp2_with fail
      refine (unhide HN).mono ?_
      rintro e w' ⟨rfl, rfl⟩
      go_wp2_with fail
      go_ret
      exact ⟨rfl, unhide HCS⟩
    · have e : unR ((R1 ++ (a, x) :: R2).map Prod.snd) b = (0, (R1 ++ (a, { x with pins := x.pins - 1 }) :: R2).map Prod.snd) := by
        unfold unR; rw [hat]; dsimp only; rw [hx]; dsimp only; rw [if_neg hp, ← hl1, set_mid]
      rw [e]
      have bp : (x.pins == 0) = false := by simpa using hp
      have hp0 := hok.pins
      have hK2 : KAt (w.setCell ⟨a, 5, none⟩ (.int .i64 (x.pins - 1))) p h r u L (R1 ++ (a, { x with pins := x.pins - 1 }) :: R2) c := KAt.turn h1 rfl ⟨hok.len, hok.b, hok.first, hok.last, by dsimp only; omega, by dsimp only; omega⟩ (fun o n hn => hn.set5 _) ((Fr.refl (fun k => k = a) w).setCell (p := ⟨a, 5, none⟩) (fun _ => rfl) _)
      have f2 : Fr (KB p r u (R1 ++ (a, x) :: R2)) w (w.setCell ⟨a, 5, none⟩ (.int .i64 (x.pins - 1))) := ((Fr.refl (fun k => k = a) w).setCell (p := ⟨a, 5, none⟩) (fun _ => rfl) _).mono (fun k _ e => .inr (.inr (by rw [e]; simp [adr])))
      have HC2 := hide (cx_of h4 h5 (Cs.cache h1 h2 hK2 (fun k hk => .inl (by simpa [adr] using hk)) f2) rfl)
      clear h1 h2 h4 h5 hat e hN hok hx hers hp hK2 f2
      unfold ptr at *
      dsimp only
      go_enter Try.func25, Try.ntmps25
      go_wp2_with fail
      refine (unhide HN).mono ?_
      rintro e w' ⟨rfl, rfl⟩
      go_wp2_with fail
      go_ret
      exact ⟨rfl, unhide HC2⟩


set_option maxRecDepth 100000 in
set_option maxHeartbeats 1000000 in
theorem cx_drop [Av] (b : Int) (H : CX X w0 w p h r u dv c m l) : Calls Try.prog 29 #[ptr p, .int .i64 b] w fun e w' => e = .returned (.int .i64 (drR m l b).1) ∧ CX X w0 w' p h r u dv c m (drR m l b).2 := by
  have HCS := hide H
  obtain ⟨lv, vs, L, R, h1, h2, rfl, h4, h5⟩ := H
  have HCH := hide (check_any w p h r u L R c dv lv vs m b h1 h2)
  have c2 := cell_of_heap h1.heap 2
  simp at c2
  rcases chE_vals m b with hch | hch
  · rw [hch] at HCH
    rcases hat : atI (R.map Prod.snd) b with _ | i
    · have hno := at_none hat
      have hlk := run_look_out h1.mp (h1.lookNo (fun q hq => hno q.2 (List.mem_map.2 ⟨q, hq, rfl⟩)))
      have e : drR m (R.map Prod.snd) b = (0, R.map Prod.snd) := by unfold drR; rw [if_pos hch, hat]
      rw [e]
      clear h1 h2 h4 h5 hno hat e hch
      unfold ptr at *
      go_enter Try.func29, Try.ntmps29
      go_wp2_with fail
      refine (unhide HCH).mono ?_
      rintro e w' ⟨rfl, rfl⟩
      go_wp2_with fail
      go_ret
      exact ⟨rfl, unhide HCS⟩
    · obtain ⟨x, hx, hxb⟩ := at_some hat
      obtain ⟨R1, a, R2, rfl, hl1, hers⟩ := split_at hx
      have hlk := run_look_in h1.mp (h1.look (q := (a, x)) (by simp))
      dsimp only at hlk
      rw [hxb] at hlk
      obtain ⟨o, n, hN⟩ := h1.at (q := (a, x)) (by simp)
      dsimp only at hN
      have d5 := hN.c5
      by_cases hp : 0 < x.pins
      · have e : drR m ((R1 ++ (a, x) :: R2).map Prod.snd) b = (90, (R1 ++ (a, x) :: R2).map Prod.snd) := by
          unfold drR; rw [if_pos hch, hat]; dsimp only; rw [hx]; dsimp only; rw [if_pos hp]
        rw [e]
        have bp : decide (0 < x.pins) = true := by simpa using hp
        clear h1 h2 h4 h5 hat e hN hx hers hp hch
        unfold ptr at *
        go_enter Try.func29, Try.ntmps29
        go_wp2_with fail
        refine (unhide HCH).mono ?_
        rintro e w' ⟨rfl, rfl⟩
        go_wp2_with fail
        go_ret
        exact ⟨rfl, unhide HCS⟩
      · have e : drR m ((R1 ++ (a, x) :: R2).map Prod.snd) b = (0, (R1 ++ R2).map Prod.snd) := by
          unfold drR; rw [if_pos hch, hat]; dsimp only; rw [hx]; dsimp only; rw [if_neg hp, hers]
        rw [e]
        have bp : decide (0 < x.pins) = false := by simpa using hp
        have HFG := hide (forget_any w p h r u L c R1 R2 (a, x) h1)
        have HK := hide h1
        have HH := hide h2
        have HF := hide h4
        have HNW := hide h5
        unfold ptr at *
        clear h1 h2 h4 h5 hat e hN hx hers hp hch
        dsimp only
        go_enter Try.func29, Try.ntmps29
        go_wp2_with fail
        refine (unhide HCH).mono ?_
        rintro e w' ⟨rfl, rfl⟩
        go_wp2_with fail
        refine (unhide HFG).mono ?_
        rintro e w2 ⟨rfl, ⟨L2, hK2⟩, f2⟩
        have HC2 := hide (cx_of (unhide HF) (unhide HNW) (Cs.cache (unhide HK) (unhide HH) hK2 (fun k hk => .inl (by simp [adr] at hk ⊢; rcases hk with e | e; exact .inl e; exact .inr (.inr e))) f2) rfl)
        clear hK2 f2 HFG
        go_wp2_with fail
        go_ret
        exact ⟨rfl, unhide HC2⟩
  · have e : drR m (R.map Prod.snd) b = (2, R.map Prod.snd) := by unfold drR; rw [if_neg (by rw [hch]; decide), hch]
    rw [e]
    rw [hch] at HCH
    clear h1 h2 h4 h5 e hch
    unfold ptr at *
    go_enter Try.func29, Try.ntmps29
    go_wp2_with fail
    refine (unhide HCH).mono ?_
    rintro e w' ⟨rfl, rfl⟩
    go_wp2_with fail
    go_ret
    exact ⟨rfl, unhide HCS⟩


set_option maxRecDepth 100000 in
set_option maxHeartbeats 1000000 in
theorem cx_hits [Av] (H : CX X w0 w p h r u dv c m l) : Calls Try.prog 14 #[ptr p] w fun e w' => e = .returned (.tuple #[.int .i64 (c.hit : Int), .int .i64 (c.miss : Int)]) ∧ Fr (fun _ => False) w w' := by
  obtain ⟨lv, vs, L, R, h1, h2, rfl, h4, h5⟩ := H
  have HN := hide (none_any w p h r u L R c h1)
  have c5 := cell_of_heap h1.heap 5
  have c6 := cell_of_heap h1.heap 6
  simp at c5 c6
  clear h1 h2 h4 h5
  unfold ptr at *
  go_enter Try.func14, Try.ntmps14
  go_wp2_with fail
  refine (unhide HN).mono ?_
  rintro e w' ⟨rfl, rfl⟩
  go_wp2_with fail
  go_quiet (fail)
  go_wp2_with fail
  go_ret2
  exact ⟨rfl, Fr.ofDrewN _ _⟩

theorem cx_oldest [Av] (H : CX X w0 w p h r u dv c m l) (hl : l.length ≤ 1000000) : Calls Try.prog 15 #[ptr p] w fun e w' => e = .returned (.tuple #[.int .u64 (oldR l).1, .bool (oldR l).2]) ∧ Fr (fun _ => False) w w' := by
  obtain ⟨lv, vs, L, R, h1, h2, rfl, h4, h5⟩ := H
  rw [List.length_map] at hl
  exact oldest_any w p h r u L R c hl h1

theorem cx_clean [Av] (most : Int) (H : CX X w0 w p h r u dv c m l) (hD : InD m l) (hc : m.calls + l.length < 999999990) (hl : l.length ≤ 1000000) : Calls Try.prog 27 #[ptr p, .int .i64 most] w fun e w' => e = .returned (.tuple #[.int .i64 ((clR c most (srtL l) 0 m l).1 : Int), .int .i64 (clR c most (srtL l) 0 m l).2.1]) ∧ CX X w0 w' p h r u dv c (clR c most (srtL l) 0 m l).2.2.1 (clR c most (srtL l) 0 m l).2.2.2 := by
  obtain ⟨lv, vs, L, R, h1, h2, rfl, h4, h5⟩ := H
  rw [List.length_map] at hl hc
  exact (clean_any w p h r u L R c dv lv vs m most h1 h2 hD.rr (by omega) hl).mono fun e w' ⟨he, C⟩ => ⟨he, cx_cp h4 h5 C⟩

theorem cx_flush [Av] (H : CX X w0 w p h r u dv c m l) (hD : InD m l) (hc : m.calls + l.length < 999999990) (hl : l.length ≤ 1000000) : Calls Try.prog 28 #[ptr p] w fun e w' => e = .returned (.int .i64 (flR c m l).1) ∧ CX X w0 w' p h r u dv c (flR c m l).2.1 (flR c m l).2.2 := by
  obtain ⟨lv, vs, L, R, h1, h2, rfl, h4, h5⟩ := H
  rw [List.length_map] at hl hc
  exact (flush_any w p h r u L R c dv lv vs m h1 h2 hD.rr hc hl).mono fun e w' ⟨he, C⟩ => ⟨he, cx_cp h4 h5 C⟩

theorem cx_dirty [Av] (H : CX X w0 w p h r u dv c m l) (hl : l.length ≤ 1000000) : Calls Try.prog 21 #[ptr p] w fun e w' => (∃ ao cc, e = .returned (.slice ao (srtL l).length cc) ∧ w'.ownsRow 0 58 4 (.slice ao (srtL l).length cc) (srtL l).length (dCs (srtL l)) ∧ ∀ b, (Value.slice ao (srtL l).length cc).ownBlock = some b → w.heap.size ≤ b) ∧ Fr (fun _ => False) w w' := by
  obtain ⟨lv, vs, L, R, h1, h2, rfl, h4, h5⟩ := H
  rw [List.length_map] at hl
  exact dirties_any w p h r u L R c hl h1

end
end Go.Proofs.Ytdgmlopaeonacaa

namespace Go.Proofs.Ytdgmlopaeonacaa
set_option linter.unusedVariables false
set_option linter.unusedSimpArgs false
open Go.RowKit
set_option linter.unusedVariables false
set_option linter.unusedSimpArgs false

attribute [local go_sem ↓] Go.wp_at_zero Go.wp_at_succ

/-- What Read answers, and where the answer lies: behind all that there was. -/
def RdP2 [Av] (w : World) (p h r u : Nat) (dv lv : Value) (R : List (Nat × Pl)) (t : Int × List Pl × Hm × Ca) (e : Ending) (w' : World) : Prop :=
  ∃ w1 lv' vs' L' R', Cs w w1 p h r u dv lv R lv' vs' L' R' t.2.2.2 t.2.2.1 ∧ R'.map Prod.snd = t.2.1 ∧ Fr (fun _ => False) w1 w' ∧ ((t.1 ≠ 0 ∧ e = .returned (.tuple #[.slice none 0 0, .int .i64 t.1])) ∨ (t.1 = 0 ∧ ∃ x ao cc, t.2.1.getLast? = some x ∧ e = .returned (.tuple #[.slice ao 384 cc, .int .i64 0]) ∧ Rd w' (.slice ao 384 cc) x.P ∧ x.P.length = 384 ∧ (∀ b, (Value.slice ao 384 cc).ownBlock = some b → w1.heap.size ≤ b) ∧ ∀ b, (Value.slice ao 384 cc).ownBlock = some b → knd w' b = 5))
section
variable (w : World) (p h r u : Nat) (L : List (Int × Nat)) (R : List (Nat × Pl)) (c : Ca) (dv lv : Value) (vs : List Value) (m : Hm)
set_option maxRecDepth 100000 in
set_option maxHeartbeats 1000000 in
theorem cread2_any [Av] (b : Int) (H : KAt w p h r u L R c) (HH : HAt w h dv lv vs m) (hD : ∀ q ∈ R, q.2.b < (m.D.length : Int)) (hc : m.calls < 999999990) (hn : c.hit + c.miss < 1000000000) : Calls Try.prog 22 #[ptr p, .int .i64 b] w fun e w' => RdP2 w p h r u dv lv R (ftR c m (R.map Prod.snd) b) e w' := by
  have HF := hide (fetch_any w p h r u L R c dv lv vs m b H HH hD hc hn)
  clear H HH hD hc hn
  generalize ftR c m (R.map Prod.snd) b = t at *
  obtain ⟨te, tl, tm, tc⟩ := t
  unfold ptr at *
  go_enter Try.func22, Try.ntmps22
  go_wp2_with fail
  refine (unhide HF).mono ?_
  rintro e w1 ⟨lv1, vs1, L1, R1, hCs, hl1, h1⟩
  dsimp only at hCs hl1 h1
  rcases h1 with ⟨hne, rfl⟩ | ⟨rfl, R2, ⟨qa, qx⟩, rfl, rfl⟩
  · have bne : (te != 0) = true := by simpa using hne
    have HNE := hide hne
    have HCs := hide hCs
    have HL1 := hide hl1
    clear hne hCs hl1 HF
    go_wp2_with fail
    go_ret2
    exact ⟨w1, lv1, vs1, L1, R1, unhide HCs, unhide HL1, Fr.refl _ _, .inl ⟨unhide HNE, rfl⟩⟩
  · obtain ⟨o, n, hN⟩ := hCs.k.at (q := (qa, qx)) (by simp)
    have hok := hCs.k.ok (qa, qx) (by simp)
    have HCL := hide (clone_any w1 (some ⟨qa, 7, none⟩) 384 384 qx.P (rd_node hN hok.len) rfl (by rw [hok.len]; decide) hok.len (by decide))
    have HLN := hide hok.len
    have HCs := hide hCs
    have HL1 := hide hl1
    unfold ptr
    clear hCs hl1 hN hok HF
    dsimp only
    go_wp2_with fail
    refine (unhide HCL).mono ?_
    rintro e w2 ⟨ao, cc, rfl, h2, h3, f2, h4⟩
    have F2 := hide f2
    have H2 := hide h2
    have H3 := hide h3
    have H4 := hide h4
    clear h2 h3 f2 h4 HCL
    go_wp2_with fail
    go_ret2
    exact ⟨w1, lv1, vs1, L1, _, unhide HCs, unhide HL1, unhide F2, .inr ⟨rfl, qx, ao, cc, by rw [← unhide HL1]; simp, rfl, unhide H2, unhide HLN, unhide H4, unhide H3⟩⟩

end
/-- The document's: since w0 only blocks of Y have turned. -/
def DX [Av] (Y : Nat → Prop) (w0 w : World) (q g : Nat) (dv : Value) (c : Ca) (m : Hm) (l : List Pl) : Prop :=
  ∃ lg vs lv R, DAt w q g lv R c ∧ HAtG w g dv lg vs m ∧ R.map Prod.snd = l ∧ Fr Y w0 w ∧ ∀ k, HB g dv lg k ∨ DB q lv R k → Y k ∨ w0.heap.size ≤ k
section
variable {Y : Nat → Prop} {w0 : World} {w w' : World} {q g : Nat} {dv lg lv : Value} {vs : List Value} {R : List (Nat × Pl)} {c c' : Ca} {m m' : Hm} {l l' : List Pl}
theorem dx_of [Av] {lg' lv' : Value} {vs' : List Value} {R' : List (Nat × Pl)} (f : Fr Y w0 w) (hn : ∀ k, HB g dv lg k ∨ DB q lv R k → Y k ∨ w0.heap.size ≤ k) (C : Dd w w' q g dv lg lv R lg' vs' lv' R' c m) (hl : R'.map Prod.snd = l) : DX Y w0 w' q g dv c m l := by
  have hs := f.size
  refine ⟨lg', vs', lv', R', C.d, C.hh, hl, f.trans C.f (fun k hk e => by rcases hn k e with h | h; exact h; omega), fun k hk => ?_⟩
  rcases hk with (e | e | e) | (e | e | e)
  · exact hn k (.inl (.inl e))
  · exact hn k (.inl (.inr (.inl e)))
  · rcases C.lgn k e with e | e
    · exact hn k (.inl (.inr (.inr e)))
    · right; omega
  · exact hn k (.inr (.inl e))
  · rcases C.lvn k e with e | e
    · exact hn k (.inr (.inr (.inl e)))
    · right; omega
  · rcases C.sub k e with e | e
    · exact hn k (.inr (.inr (.inr e)))
    · right; omega
theorem dx_dp [Av] (f : Fr Y w0 w) (hn : ∀ k, HB g dv lg k ∨ DB q lv R k → Y k ∨ w0.heap.size ≤ k) (C : Dp w w' q g dv lg lv R c m l) : DX Y w0 w' q g dv c m l := by
  obtain ⟨lg', vs', lv', R', h1, h2⟩ := C
  exact dx_of f hn h1 h2
theorem InD.dd (h : InD m (R.map Prod.snd)) : ∀ y ∈ R, y.2.b < (m.D.length : Int) := fun y hy => h y.2 (List.mem_map.2 ⟨y, hy, rfl⟩)
theorem bn_of (h : ((R.map Prod.snd).map (·.b)).Nodup) : (R.map fun y => y.2.b).Nodup := by rw [List.map_map] at h; exact h
theorem dx_read [Av] (b : Int) (H : DX Y w0 w q g dv c m l) (hl : l.length ≤ 4096) (hD : InD m l) (hc : m.calls < 999999990) (hn : c.hit + c.miss < 1000000000) : Calls Try.prog 31 #[ptr q, .int .i64 b] w fun e w' => ((((ftR c m l b).1 ≠ 0 ∧ e = .returned (.tuple #[.slice none 0 0, .int .i64 (ftR c m l b).1])) ∨ ((ftR c m l b).1 = 0 ∧ ∃ x ao cc, (ftR c m l b).2.1.getLast? = some x ∧ e = .returned (.tuple #[.slice ao 384 cc, .int .i64 0]) ∧ Rd w' (.slice ao 384 cc) x.P))) ∧ DX Y w0 w' q g dv (ftR c m l b).2.2.2 (ftR c m l b).2.2.1 (ftR c m l b).2.1 := by
  obtain ⟨lg, vs, lv, R, h1, h2, rfl, h4, h5⟩ := H
  refine (dread_any w q g dv lg lv vs R c m b (by simpa using hl) h1 h2 hD.dd hc hn).mono ?_
  rintro e w' ⟨lg', vs', lv', R', C, hl2, hA⟩
  exact ⟨hA, dx_of h4 h5 C hl2⟩
theorem dx_write [Av] (b : Int) (v : Value) (P : List UInt8) (ch : Nat) (hch : ch < 18446744073709551616) (hv : Rd w v P) (hva : ∀ W, Fr (fun k => Y k ∨ w0.heap.size ≤ k) w W → Rd W v P) (H : DX Y w0 w q g dv c m l) (hl : l.length ≤ 4096) (hD : InD m l) (hc : m.calls < 999999990) : Calls Try.prog 32 #[ptr q, .int .i64 b, v, .int .u64 (ch : Int)] w fun e w' => e = .returned (.int .i64 (wtR c m l b P ch).1) ∧ DX Y w0 w' q g dv c (wtR c m l b P ch).2.2 (wtR c m l b P ch).2.1 := by
  obtain ⟨lg, vs, lv, R, h1, h2, rfl, h4, h5⟩ := H
  refine (dwrite_any w q g dv lg lv vs R c m b v P ch hch hv (fun W f => hva W (f.mono (fun k _ e => h5 k e))) (by simpa using hl) h1 h2 hD.dd hc).mono ?_
  rintro e w' ⟨rfl, C⟩
  exact ⟨rfl, dx_dp h4 h5 C⟩
theorem dx_pin [Av] (b : Int) (H : DX Y w0 w q g dv c m l) (hl : l.length ≤ 4096) (hD : InD m l) (hc : m.calls < 999999990) (hn : c.hit + c.miss < 1000000000) (hpb : PinB l 999999990) : Calls Try.prog 33 #[ptr q, .int .i64 b] w fun e w' => e = .returned (.int .i64 (pnR c m l b).1) ∧ DX Y w0 w' q g dv (pnR c m l b).2.2.2 (pnR c m l b).2.2.1 (pnR c m l b).2.1 := by
  obtain ⟨lg, vs, lv, R, h1, h2, rfl, h4, h5⟩ := H
  refine (dpin_any w q g dv lg lv vs R c m b (by simpa using hl) h1 h2 hD.dd hc hn hpb).mono ?_
  rintro e w' ⟨rfl, lg', vs', lv', R', C, hl2⟩
  exact ⟨rfl, dx_of h4 h5 C hl2⟩
theorem dx_unpin [Av] (b : Int) (H : DX Y w0 w q g dv c m l) (hl : l.length ≤ 4096) : Calls Try.prog 34 #[ptr q, .int .i64 b] w fun e w' => e = .returned (.int .i64 (unR l b).1) ∧ DX Y w0 w' q g dv c m (unR l b).2 := by
  obtain ⟨lg, vs, lv, R, h1, h2, rfl, h4, h5⟩ := H
  refine (dunpin_any w q g dv lg lv vs R c m b (by simpa using hl) h1 h2).mono ?_
  rintro e w' ⟨rfl, lg', vs', lv', R', C, hl2⟩
  exact ⟨rfl, dx_of h4 h5 C hl2⟩
theorem dx_safe [Av] (s : Nat) (hs : s < 18446744073709551616) (H : DX Y w0 w q g dv c m l) : Calls Try.prog 35 #[ptr q, .int .u64 (s : Int)] w fun e w' => e = .returned (.tuple #[]) ∧ DX Y w0 w' q g dv { c with safe := max c.safe s } m l := by
  obtain ⟨lg, vs, lv, R, h1, h2, rfl, h4, h5⟩ := H
  refine (dsafe_any w q g dv lg lv vs R c m s hs h1 h2).mono ?_
  rintro e w' ⟨rfl, C⟩
  exact ⟨rfl, dx_of h4 h5 C rfl⟩
theorem dx_clean [Av] (most : Int) (H : DX Y w0 w q g dv c m l) (hl : l.length ≤ 4096) (hb : (l.map (·.b)).Nodup) (hD : InD m l) (hc : m.calls + l.length < 999999990) : Calls Try.prog 36 #[ptr q, .int .i64 most] w fun e w' => e = .returned (.tuple #[.int .i64 ((clR c most (srtL l) 0 m l).1 : Int), .int .i64 (clR c most (srtL l) 0 m l).2.1]) ∧ DX Y w0 w' q g dv c (clR c most (srtL l) 0 m l).2.2.1 (clR c most (srtL l) 0 m l).2.2.2 := by
  obtain ⟨lg, vs, lv, R, h1, h2, rfl, h4, h5⟩ := H
  refine (dclean_any w q g dv lg lv vs R c m most (by simpa using hl) (bn_of hb) h1 h2 hD.dd (by simp at hc; omega)).mono ?_
  rintro e w' ⟨rfl, C⟩
  exact ⟨rfl, dx_dp h4 h5 C⟩
theorem dx_flush [Av] (H : DX Y w0 w q g dv c m l) (hl : l.length ≤ 4096) (hb : (l.map (·.b)).Nodup) (hD : InD m l) (hc : m.calls + l.length < 999999990) : Calls Try.prog 37 #[ptr q] w fun e w' => e = .returned (.int .i64 (flR c m l).1) ∧ DX Y w0 w' q g dv c (flR c m l).2.1 (flR c m l).2.2 := by
  obtain ⟨lg, vs, lv, R, h1, h2, rfl, h4, h5⟩ := H
  refine (dflush_any w q g dv lg lv vs R c m (by simpa using hl) (bn_of hb) h1 h2 hD.dd (by simpa using hc)).mono ?_
  rintro e w' ⟨rfl, C⟩
  exact ⟨rfl, dx_dp h4 h5 C⟩
theorem dx_drop [Av] (b : Int) (H : DX Y w0 w q g dv c m l) (hl : l.length ≤ 4096) : Calls Try.prog 38 #[ptr q, .int .i64 b] w fun e w' => e = .returned (.int .i64 (drR m l b).1) ∧ DX Y w0 w' q g dv c m (drR m l b).2 := by
  obtain ⟨lg, vs, lv, R, h1, h2, rfl, h4, h5⟩ := H
  refine (ddrop_any w q g dv lg lv vs R c m b (by simpa using hl) h1 h2).mono ?_
  rintro e w' ⟨rfl, C⟩
  exact ⟨rfl, dx_dp h4 h5 C⟩
theorem dx_held [Av] (H : DX Y w0 w q g dv c m l) (hl : l.length ≤ 4096) : Calls Try.prog 19 #[ptr q] w fun e w' => (∃ ao cc, e = .returned (.slice ao l.length cc) ∧ RdV w' (.slice ao l.length cc) ((l.map (·.b)).map (Value.int .i64))) ∧ Fr (fun _ => False) w w' := by
  obtain ⟨lg, vs, lv, R, h1, h2, rfl, h4, h5⟩ := H
  have := dheld_any w q g lv R c (by simpa using hl) h1
  rwa [show (R.map Prod.snd).length = R.length by simp]
theorem dx_dirties [Av] (H : DX Y w0 w q g dv c m l) (hl : l.length ≤ 4096) (hb : (l.map (·.b)).Nodup) : Calls Try.prog 16 #[ptr q] w fun e w' => (∃ ao cc, e = .returned (.slice ao (srtL l).length cc) ∧ w'.ownsRow 0 58 4 (.slice ao (srtL l).length cc) (srtL l).length (dCs (srtL l))) ∧ Fr (fun _ => False) w w' := by
  obtain ⟨lg, vs, lv, R, h1, h2, rfl, h4, h5⟩ := H
  exact ddirties_any w q g lv R c (by simpa using hl) (bn_of hb) h1
end
/-- Kinds of blocks that either may turn. -/
def KY (w : World) (k : Nat) : Prop := knd w k = 51 ∨ knd w k = 37 ∨ knd w k = 3 ∨ knd w k = 78 ∨ knd w k = 1000 ∨ knd w k = 91 ∨ knd w k = 56 ∨ knd w k = 95 ∨ knd w k = 94
theorem KY.lt {w : World} {k : Nat} (h : KY w k) : k < w.heap.size := knd_lt (by unfold KY at h; intro e; rw [e] at h; revert h; decide)
theorem KY.n5 {w : World} {k : Nat} (h : KY w k) : knd w k ≠ 5 := fun e => by unfold KY at h; rw [e] at h; revert h; decide
/-- Both, each with its plain state. -/
def PR [Av] (w W : World) (p h r u : Nat) (dv : Value) (q g : Nat) (dv2 : Value) (c : Ca) (m : Hm) (l : List Pl) (c2 : Ca) (m2 : Hm) (l2 : List Pl) : Prop :=
  ∃ X Y, CX X W W p h r u dv c m l ∧ DX Y W W q g dv2 c2 m2 l2 ∧ (∀ k, X k → ¬ Y k) ∧ (∀ k, X k → w.heap.size ≤ k ∧ KY W k) ∧ (∀ k, Y k → w.heap.size ≤ k ∧ KY W k) ∧ Fr (fun _ => False) w W
section
variable {X Y : Nat → Prop} {w W W' : World} {p h r u : Nat} {dv : Value} {q g : Nat} {dv2 : Value} {c c' c2 c2' : Ca} {m m' m2 m2' : Hm} {l l' l2 l2' : List Pl}
theorem KAt.keptB {lv : Value} {L : List (Int × Nat)} {R : List (Nat × Pl)} (H : KAt W p h r u L R c) {S : Nat → Prop} (f : Fr S W W') (hs : ∀ k, S k → ¬ KB p r u R k) : KAt W' p h r u L R c :=
  ⟨by rw [f.block p (lt_of_heap H.heap) (fun e => hs p e (.inl rfl))]; exact H.heap, H.ring.kept f (fun k hk e => hs k e (.inr (.inr hk))), H.mp.kept f (fun e => hs r e (.inr (.inl rfl))), H.pm, H.ok, H.num⟩
theorem HAt.keptB [Av] {lv : Value} {vs : List Value} (H : HAt W h dv lv vs m) {S : Nat → Prop} (f : Fr S W W') (hs : ∀ k, S k → ¬ HB h dv lv k ∧ knd W k ≠ 5) : HAt W' h dv lv vs m := by
  refine ⟨?_, owns_kept H.data f (fun k hk e => (hs k e).1 (.inr (.inl hk))), fun i hi => ?_, owns_kept H.log f (fun k hk e => (hs k e).1 (.inr (.inr hk))), H.ok, H.far, fun z hz => Nat.lt_of_lt_of_le (H.old z hz) f.size⟩
  · rw [f.block h (lt_of_heap H.heap) (fun e => (hs h e).1 (.inl rfl))]; exact H.heap
  · obtain ⟨b, h1, h2⟩ := H.rd i hi
    exact ⟨b, h1, h2.kept f (fun e => (hs b e).2 (knd_cells h2))⟩
theorem HAtG.keptB [Av] {lv : Value} {vs : List Value} (H : HAtG W h dv lv vs m) {S : Nat → Prop} (f : Fr S W W') (hs : ∀ k, S k → ¬ HB h dv lv k ∧ knd W k ≠ 5) : HAtG W' h dv lv vs m := by
  refine ⟨?_, owns_kept H.data f (fun k hk e => (hs k e).1 (.inr (.inl hk))), fun i hi => ?_, owns_kept H.log f (fun k hk e => (hs k e).1 (.inr (.inr hk))), H.ok, H.far, fun z hz => Nat.lt_of_lt_of_le (H.old z hz) f.size⟩
  · rw [f.block h (lt_of_heap H.heap) (fun e => (hs h e).1 (.inl rfl))]; exact H.heap
  · obtain ⟨b, cb, h1, h2⟩ := H.rd i hi
    exact ⟨b, cb, h1, h2.kept f (fun e => (hs b e).2 h2.2.2)⟩
/-- Anew from here. -/
theorem CX.base [Av] (H : CX X W W' p h r u dv c m l) : ∃ X', CX X' W' W' p h r u dv c m l ∧ (∀ k, X' k → X k ∨ W.heap.size ≤ k) ∧ ∀ k, X' k → KY W' k := by
  obtain ⟨lv, vs, L, R, h1, h2, h3, h4, h5⟩ := H
  refine ⟨fun k => HB h dv lv k ∨ KB p r u R k, ⟨lv, vs, L, R, h1, h2, h3, Fr.refl _ _, fun k hk => .inl hk⟩, h5, fun k hk => ?_⟩
  unfold KY
  rcases hk with hk | hk
  · rcases h2.knds hk with e | e | e <;> rw [e] <;> decide
  · rcases h1.knds hk with e | e | e <;> rw [e] <;> decide
theorem DX.base [Av] (H : DX Y W W' q g dv c m l) : ∃ Y', DX Y' W' W' q g dv c m l ∧ (∀ k, Y' k → Y k ∨ W.heap.size ≤ k) ∧ ∀ k, Y' k → KY W' k := by
  obtain ⟨lg, vs, lv, R, h1, h2, h3, h4, h5⟩ := H
  refine ⟨fun k => HB g dv lg k ∨ DB q lv R k, ⟨lg, vs, lv, R, h1, h2, h3, Fr.refl _ _, fun k hk => .inl hk⟩, h5, fun k hk => ?_⟩
  unfold KY
  rcases hk with hk | hk
  · rcases h2.knds hk with e | e | e <;> rw [e] <;> decide
  · rcases h1.knds hk with e | e | e <;> rw [e] <;> decide
theorem CX.f [Av] (H : CX X W W' p h r u dv c m l) : Fr X W W' := by obtain ⟨lv, vs, L, R, h1, h2, h3, h4, h5⟩ := H; exact h4
theorem DX.f [Av] (H : DX Y W W' q g dv c m l) : Fr Y W W' := by obtain ⟨lg, vs, lv, R, h1, h2, h3, h4, h5⟩ := H; exact h4
theorem KY.up {k : Nat} (hk : KY W k) (f : Fr X W W') (hX : ¬ X k) : KY W' k := by
  have hl := hk.lt
  unfold KY knd at *
  rw [f.block k hl hX]; exact hk
theorem DX.keep [Av] (H : DX Y W W q g dv2 c2 m2 l2) (f : Fr X W W') (hXY : ∀ k, X k → ¬ Y k) (hX : ∀ k, X k → KY W k) : DX Y W' W' q g dv2 c2 m2 l2 := by
  obtain ⟨lg, vs, lv, R, h1, h2, h3, h4, h5⟩ := H
  have ho : ∀ k, X k → ¬ (HB g dv2 lg k ∨ DB q lv R k) := fun k hk e => by rcases h5 k e with h | h; exact hXY k hk h; have := (hX k hk).lt; omega
  refine ⟨lg, vs, lv, R, h1.kept f (fun k hk => ⟨fun e => ho k hk (.inr e), (hX k hk).n5⟩), h2.keptB f (fun k hk => ⟨fun e => ho k hk (.inl e), (hX k hk).n5⟩), h3, Fr.refl _ _, fun k hk => ?_⟩
  rcases h5 k hk with h | h
  · exact .inl h
  · exfalso
    rcases hk with hk | hk
    · have := (show KY W k by unfold KY; rcases h2.knds hk with e | e | e <;> rw [e] <;> decide).lt; omega
    · have := (show KY W k by unfold KY; rcases h1.knds hk with e | e | e <;> rw [e] <;> decide).lt; omega
theorem CX.keep [Av] (H : CX X W W p h r u dv c m l) (f : Fr Y W W') (hXY : ∀ k, X k → ¬ Y k) (hY : ∀ k, Y k → KY W k) : CX X W' W' p h r u dv c m l := by
  obtain ⟨lv, vs, L, R, h1, h2, h3, h4, h5⟩ := H
  have ho : ∀ k, Y k → ¬ (HB h dv lv k ∨ KB p r u R k) := fun k hk e => by rcases h5 k e with hx | hx; exact hXY k hx hk; have := (hY k hk).lt; omega
  refine ⟨lv, vs, L, R, h1.keptB (lv := lv) f (fun k hk e => ho k hk (.inr e)), h2.keptB f (fun k hk => ⟨fun e => ho k hk (.inl e), (hY k hk).n5⟩), h3, Fr.refl _ _, fun k hk => ?_⟩
  rcases h5 k hk with hx | hx
  · exact .inl hx
  · exfalso
    rcases hk with hk | hk
    · have := (show KY W k by unfold KY; rcases h2.knds hk with e | e | e <;> rw [e] <;> decide).lt; omega
    · have := (show KY W k by unfold KY; rcases h1.knds hk with e | e | e <;> rw [e] <;> decide).lt; omega
/-- A call of the program's. -/
theorem PR.prog [Av] {F : Nat} {args : Array Value} {Ψ : Ending → World → Prop} (H : PR w W p h r u dv q g dv2 c m l c2 m2 l2) (call : ∀ X, CX X W W p h r u dv c m l → Calls Try.prog F args W fun e W' => Ψ e W' ∧ CX X W W' p h r u dv c' m' l') : Calls Try.prog F args W fun e W' => Ψ e W' ∧ PR w W' p h r u dv q g dv2 c' m' l' c2 m2 l2 ∧ Fr (KY W) W W' := by
  obtain ⟨X, Y, h1, h2, h3, h4, h5, h6⟩ := H
  refine (call X h1).mono ?_
  rintro e W' ⟨hΨ, C⟩
  obtain ⟨X', b1, b2, b3⟩ := C.base
  have f := C.f
  refine ⟨hΨ, ⟨X', Y, b1, h2.keep f h3 (fun k hk => (h4 k hk).2), fun k hk hy => ?_, fun k hk => ⟨?_, b3 k hk⟩, fun k hk => ⟨(h5 k hk).1, (h5 k hk).2.up f (fun hx => h3 k hx hk)⟩, h6.trans f (fun k hk e => by have := (h4 k e).1; omega)⟩, f.mono (fun k _ e => (h4 k e).2)⟩
  · rcases b2 k hk with hx | hx
    · exact h3 k hx hy
    · have := (h5 k hy).2.lt; omega
  · rcases b2 k hk with hx | hx
    · exact (h4 k hx).1
    · have := h6.size; omega
/-- A call of the document's. -/
theorem PR.doc [Av] {F : Nat} {args : Array Value} {Ψ : Ending → World → Prop} (H : PR w W p h r u dv q g dv2 c m l c2 m2 l2) (call : ∀ Y, DX Y W W q g dv2 c2 m2 l2 → (∀ k, Y k → w.heap.size ≤ k ∧ KY W k) → Calls Try.prog F args W fun e W' => Ψ e W' ∧ DX Y W W' q g dv2 c2' m2' l2') : Calls Try.prog F args W fun e W' => Ψ e W' ∧ PR w W' p h r u dv q g dv2 c m l c2' m2' l2' ∧ Fr (KY W) W W' := by
  obtain ⟨X, Y, h1, h2, h3, h4, h5, h6⟩ := H
  refine (call Y h2 h5).mono ?_
  rintro e W' ⟨hΨ, C⟩
  obtain ⟨Y', b1, b2, b3⟩ := C.base
  have f := C.f
  refine ⟨hΨ, ⟨X, Y', h1.keep f h3 (fun k hk => (h5 k hk).2), b1, fun k hk hy => ?_, fun k hk => ⟨(h4 k hk).1, (h4 k hk).2.up f (fun hy => h3 k hk hy)⟩, fun k hk => ⟨?_, b3 k hk⟩, h6.trans f (fun k hk e => by have := (h5 k e).1; omega)⟩, f.mono (fun k _ e => (h5 k e).2)⟩
  · rcases b2 k hy with hx | hx
    · exact h3 k hk hx
    · have := (h4 k hk).2.lt; omega
  · rcases b2 k hk with hx | hx
    · exact (h5 k hx).1
    · have := h6.size; omega
/-- Blocks of bytes that are none of either's turn. -/
theorem PR.fr [Av] (H : PR w W p h r u dv q g dv2 c m l c2 m2 l2) {S : Nat → Prop} (f : Fr S W W') (hS : ∀ k, S k → ¬ k < W.heap.size) : PR w W' p h r u dv q g dv2 c m l c2 m2 l2 := by
  obtain ⟨X, Y, h1, h2, h3, h4, h5, h6⟩ := H
  have f0 : Fr (fun _ => False) W W' := f.mono (fun k hk e => hS k e hk)
  exact ⟨X, Y, h1.keep (Y := fun _ => False) f0 (fun _ _ e => e) (fun _ e => e.elim), h2.keep (X := fun _ => False) f0 (fun _ e => e.elim) (fun _ e => e.elim), h3, fun k hk => ⟨(h4 k hk).1, (h4 k hk).2.up f0 id⟩, fun k hk => ⟨(h5 k hk).1, (h5 k hk).2.up f0 id⟩, h6.trans f0 (fun _ _ e => e)⟩
end
end Go.Proofs.Ytdgmlopaeonacaa
