/-
  The cache's Pin, Unpin, Drop, Hits.
-/
import Derived.Test.YtdgmlopaeonacaaB9
namespace Go.Proofs.Ytdgmlopaeonacaa
open Go.RowKit
set_option linter.unusedVariables false

attribute [local go_sem ↓] Go.wp_at_zero Go.wp_at_succ

/-- The last one is held once more. -/
def pinL (l : List Pl) : List Pl := match l.getLast? with
  | some x => l.dropLast ++ [{ x with pins := x.pins + 1 }]
  | none => l
def pnR (c : Ca) (m : Hm) (l : List Pl) (b : Int) : Int × List Pl × Hm × Ca :=
  ((ftR c m l b).1, if (ftR c m l b).1 = 0 then pinL (ftR c m l b).2.1 else (ftR c m l b).2.1, (ftR c m l b).2.2.1, (ftR c m l b).2.2.2)
/-- One of the blocks turns. -/
def unR (l : List Pl) (b : Int) : Int × List Pl := match atI l b with
  | some i => match l[i]? with
    | some x => if x.pins = 0 then (92, l) else (0, l.set i { x with pins := x.pins - 1 })
    | none => (92, l)
  | none => (92, l)
def drR (m : Hm) (l : List Pl) (b : Int) : Int × List Pl :=
  if chE m b = 0 then
    match atI l b with
    | some i => match l[i]? with
      | some x => if 0 < x.pins then (90, l) else (0, l.eraseIdx i)
      | none => (0, l)
    | none => (0, l)
  else (chE m b, l)

theorem ft_mem (c : Ca) (m : Hm) (l : List Pl) (b : Int) : ∀ x ∈ (ftR c m l b).2.1, x ∈ l ∨ x.pins = 0 := by
  intro x hx
  unfold ftR at hx
  split at hx
  · split at hx
    · split at hx
      · rename_i i _ y hy
        rcases List.mem_append.1 hx with h | h
        · exact .inl (List.mem_of_mem_eraseIdx h)
        · simp at h; subst h; exact .inl (List.mem_of_getElem? hy)
      · exact .inl hx
    · have hr := (rmR_facts c m l).2.2.1
      split at hx
      · split at hx
        · exact .inl (hr x hx)
        · rcases List.mem_append.1 hx with h | h
          · exact .inl (hr x h)
          · simp at h; subst h; exact .inr rfl
      · exact .inl (hr x hx)
  · exact .inl hx
theorem set_mid {R1 R2 : List (Nat × Pl)} {a : Nat} {x y : Pl} : ((R1 ++ (a, x) :: R2).map Prod.snd).set R1.length y = (R1 ++ (a, y) :: R2).map Prod.snd := by
  simp [List.set_append_right]

section
variable {w0 : World × World} {w : World} {p h r u : Nat} {dv : Value} {c : Ca} {m : Hm} {l : List Pl}

/-- No block is held too often. -/
def PinB (l : List Pl) (n : Nat) : Prop := ∀ x ∈ l, x.pins ≤ (n : Int)

set_option maxRecDepth 100000 in
set_option maxHeartbeats 1000000 in
theorem cs_pin (b : Int) (H : CS w0 w p h r u dv c m l) (hD : InD m l) (hc : m.calls < 999999990) (hn : c.hit + c.miss < 1000000000) (hpb : PinB l 999999990) : Calls Try.prog 24 #[ptr p, .int .i64 b] w fun e w' => e = .returned (.int .i64 (pnR c m l b).1) ∧ CS w0 w' p h r u dv (pnR c m l b).2.2.2 (pnR c m l b).2.2.1 (pnR c m l b).2.1 := by
  obtain ⟨lv, vs, L, R, h1, h2, rfl, h4, h5⟩ := H
  have HF := hide (fetch_any w p h r u L R c dv lv vs m b h1 h2 hD.rr hc hn)
  have HFR := hide h4
  have HNW := hide h5
  have hpn : pnR c m (R.map Prod.snd) b = ((ftR c m (R.map Prod.snd) b).1, if (ftR c m (R.map Prod.snd) b).1 = 0 then pinL (ftR c m (R.map Prod.snd) b).2.1 else (ftR c m (R.map Prod.snd) b).2.1, (ftR c m (R.map Prod.snd) b).2.2.1, (ftR c m (R.map Prod.snd) b).2.2.2) := rfl
  have hpf : ∀ x ∈ (ftR c m (R.map Prod.snd) b).2.1, x.pins ≤ 999999990 := fun x hx => by
    rcases ft_mem c m _ b x hx with e | e
    · exact hpb x e
    · omega
  rw [hpn]
  generalize ftR c m (R.map Prod.snd) b = t at *
  obtain ⟨te, tl, tm, tc⟩ := t
  dsimp only at *
  clear h1 h2 h4 h5 hD hc hn hpb hpn
  have HPF := hide hpf
  obtain ⟨T, hT⟩ : ∃ T, T = (if te = 0 then pinL tl else tl) := ⟨_, rfl⟩
  rw [← hT]
  have HT := hide hT
  clear hpf hT
  unfold ptr at *
  go_enter Try.func24, Try.ntmps24
  go_wp2_with fail
  refine (unhide HF).mono ?_
  rintro e w1 ⟨lv1, vs1, L1, R1, hCs, hl1, hh⟩
  dsimp only at hCs hl1 hh
  rcases hh with ⟨hne, rfl⟩ | ⟨rfl, R2, ⟨qa, qx⟩, rfl, rfl⟩
  · have bne : (te != 0) = true := by simpa using hne
    have HNE := hide hne
    have HCs := hide hCs
    have HL1 := hide hl1
    clear hne hCs hl1 HF
    go_wp2_with fail
    go_ret
    have hT := unhide HT
    rw [if_neg (unhide HNE)] at hT
    subst hT
    exact ⟨rfl, cs_of (unhide HFR) (unhide HNW) (unhide HCs) (unhide HL1)⟩
  · obtain ⟨o, n, hN⟩ := hCs.k.at (q := (qa, qx)) (by simp)
    have hok := hCs.k.ok (qa, qx) (by simp)
    have d5 := hN.c5
    have z5 := frozen_of_heap hN 5
    have hpl : qx.pins ≤ 999999990 := unhide HPF qx (by rw [← hl1]; simp)
    have hp0 : 0 ≤ qx.pins := hok.pins.1
    have hK2 : KAt (w1.setCell ⟨qa, 5, none⟩ (.int .i64 (qx.pins + 1))) p h r u L1 (R2 ++ (qa, { qx with pins := qx.pins + 1 }) :: []) tc := KAt.turn hCs.k rfl ⟨hok.len, hok.b, hok.first, hok.last, by dsimp only; omega, by dsimp only; omega⟩ (fun o n hn => hn.set5 _) ((Fr.refl (fun k => k = qa) w1).setCell (p := ⟨qa, 5, none⟩) (fun _ => rfl) _)
    have f2 : Fr (KB p r u (R2 ++ [(qa, qx)])) w1 (w1.setCell ⟨qa, 5, none⟩ (.int .i64 (qx.pins + 1))) := ((Fr.refl (fun k => k = qa) w1).setCell (p := ⟨qa, 5, none⟩) (fun _ => rfl) _).mono (fun k _ e => .inr (.inr (by rw [e]; simp [adr])))
    have HC2 := hide (hCs.trans (Cs.cache hCs.k hCs.hh hK2 (fun k hk => .inl (by simpa [adr] using hk)) f2))
    have HL1 := hide hl1
    clear hCs hl1 hN hok HF hK2 f2
    dsimp only
    unfold ptr
    go_wp2_with fail
    go_ret
    have hT := unhide HT
    rw [if_pos trivial] at hT
    have hl : tl = R2.map Prod.snd ++ [qx] := by rw [← unhide HL1]; simp
    have hT2 : T = R2.map Prod.snd ++ [{ qx with pins := qx.pins + 1 }] := by rw [hT, hl]; simp [pinL]
    subst hT2
    exact ⟨rfl, cs_of (unhide HFR) (unhide HNW) (unhide HC2) (by simp)⟩

set_option maxRecDepth 100000 in
theorem cs_unpin (b : Int) (H : CS w0 w p h r u dv c m l) : Calls Try.prog 25 #[ptr p, .int .i64 b] w fun e w' => e = .returned (.int .i64 (unR l b).1) ∧ CS w0 w' p h r u dv c m (unR l b).2 := by
  have HCS := hide H
  obtain ⟨lv, vs, L, R, h1, h2, rfl, h4, h5⟩ := H
  have HN := hide (none_any w p h r u L R c h1)
  have c2 := cell_of_heap h1.heap 2
  simp at c2
  rcases hat : atI (R.map Prod.snd) b with _ | i
  · have hno := at_none hat
    have hlk := run_look_out h1.mp (h1.lookNo (fun q hq => hno q.2 (List.mem_map.2 ⟨q, hq, rfl⟩)))
    have e : unR (R.map Prod.snd) b = (92, R.map Prod.snd) := by unfold unR; rw [hat]
    rw [e]
    clear h1 h2 h4 h5 hno hat e
    unfold ptr at *
    go_enter Try.func25, Try.ntmps25
    go_wp2_with fail
    refine (unhide HN).mono ?_
    rintro e w' ⟨rfl, rfl⟩
    go_wp2_with fail
    go_ret
    exact ⟨rfl, unhide HCS⟩
  · obtain ⟨x, hx, hxb⟩ := at_some hat
    obtain ⟨R1, a, R2, rfl, hl1, hers⟩ := split_at hx
    have hlk := run_look_in h1.mp (h1.look (q := (a, x)) (by simp))
    dsimp only at hlk
    rw [hxb] at hlk
    obtain ⟨o, n, hN⟩ := h1.at (q := (a, x)) (by simp)
    have hok := h1.ok (a, x) (by simp)
    dsimp only at hok hN
    have d5 := hN.c5
    have z5 := frozen_of_heap hN 5
    by_cases hp : x.pins = 0
    · have e : unR ((R1 ++ (a, x) :: R2).map Prod.snd) b = (92, (R1 ++ (a, x) :: R2).map Prod.snd) := by
        unfold unR; rw [hat]; dsimp only; rw [hx]; dsimp only; rw [if_pos hp]
      rw [e]
      rw [hp] at d5
      clear h1 h2 h4 h5 hat e hN hok hx hers hp
      unfold ptr at *
      go_enter Try.func25, Try.ntmps25
      go_wp2_with fail
      refine (unhide HN).mono ?_
      rintro e w' ⟨rfl, rfl⟩
      go_wp2_with fail
      go_ret
      exact ⟨rfl, unhide HCS⟩
    · have e : unR ((R1 ++ (a, x) :: R2).map Prod.snd) b = (0, (R1 ++ (a, { x with pins := x.pins - 1 }) :: R2).map Prod.snd) := by
        unfold unR; rw [hat]; dsimp only; rw [hx]; dsimp only; rw [if_neg hp, ← hl1, set_mid]
      rw [e]
      have bp : (x.pins == 0) = false := by simpa using hp
      have hp0 := hok.pins
      have hK2 : KAt (w.setCell ⟨a, 5, none⟩ (.int .i64 (x.pins - 1))) p h r u L (R1 ++ (a, { x with pins := x.pins - 1 }) :: R2) c := KAt.turn h1 rfl ⟨hok.len, hok.b, hok.first, hok.last, by dsimp only; omega, by dsimp only; omega⟩ (fun o n hn => hn.set5 _) ((Fr.refl (fun k => k = a) w).setCell (p := ⟨a, 5, none⟩) (fun _ => rfl) _)
      have f2 : Fr (KB p r u (R1 ++ (a, x) :: R2)) w (w.setCell ⟨a, 5, none⟩ (.int .i64 (x.pins - 1))) := ((Fr.refl (fun k => k = a) w).setCell (p := ⟨a, 5, none⟩) (fun _ => rfl) _).mono (fun k _ e => .inr (.inr (by rw [e]; simp [adr])))
      have HC2 := hide (cs_of h4 h5 (Cs.cache h1 h2 hK2 (fun k hk => .inl (by simpa [adr] using hk)) f2) rfl)
      clear h1 h2 h4 h5 hat e hN hok hx hers hp hK2 f2
      unfold ptr at *
      dsimp only
      go_enter Try.func25, Try.ntmps25
      go_wp2_with fail
      refine (unhide HN).mono ?_
      rintro e w' ⟨rfl, rfl⟩
      go_wp2_with fail
      go_ret
      exact ⟨rfl, unhide HC2⟩

set_option maxRecDepth 100000 in
theorem cs_drop (b : Int) (H : CS w0 w p h r u dv c m l) : Calls Try.prog 29 #[ptr p, .int .i64 b] w fun e w' => e = .returned (.int .i64 (drR m l b).1) ∧ CS w0 w' p h r u dv c m (drR m l b).2 := by
  have HCS := hide H
  obtain ⟨lv, vs, L, R, h1, h2, rfl, h4, h5⟩ := H
  have HCH := hide (check_any w p h r u L R c dv lv vs m b h1 h2)
  have c2 := cell_of_heap h1.heap 2
  simp at c2
  rcases chE_vals m b with hch | hch
  · rw [hch] at HCH
    rcases hat : atI (R.map Prod.snd) b with _ | i
    · have hno := at_none hat
      have hlk := run_look_out h1.mp (h1.lookNo (fun q hq => hno q.2 (List.mem_map.2 ⟨q, hq, rfl⟩)))
      have e : drR m (R.map Prod.snd) b = (0, R.map Prod.snd) := by unfold drR; rw [if_pos hch, hat]
      rw [e]
      clear h1 h2 h4 h5 hno hat e hch
      unfold ptr at *
      go_enter Try.func29, Try.ntmps29
      go_wp2_with fail
      refine (unhide HCH).mono ?_
      rintro e w' ⟨rfl, rfl⟩
      go_wp2_with fail
      go_ret
      exact ⟨rfl, unhide HCS⟩
    · obtain ⟨x, hx, hxb⟩ := at_some hat
      obtain ⟨R1, a, R2, rfl, hl1, hers⟩ := split_at hx
      have hlk := run_look_in h1.mp (h1.look (q := (a, x)) (by simp))
      dsimp only at hlk
      rw [hxb] at hlk
      obtain ⟨o, n, hN⟩ := h1.at (q := (a, x)) (by simp)
      dsimp only at hN
      have d5 := hN.c5
      by_cases hp : 0 < x.pins
      · have e : drR m ((R1 ++ (a, x) :: R2).map Prod.snd) b = (90, (R1 ++ (a, x) :: R2).map Prod.snd) := by
          unfold drR; rw [if_pos hch, hat]; dsimp only; rw [hx]; dsimp only; rw [if_pos hp]
        rw [e]
        have bp : decide (0 < x.pins) = true := by simpa using hp
        clear h1 h2 h4 h5 hat e hN hx hers hp hch
        unfold ptr at *
        go_enter Try.func29, Try.ntmps29
        go_wp2_with fail
        refine (unhide HCH).mono ?_
        rintro e w' ⟨rfl, rfl⟩
        go_wp2_with fail
        go_ret
        exact ⟨rfl, unhide HCS⟩
      · have e : drR m ((R1 ++ (a, x) :: R2).map Prod.snd) b = (0, (R1 ++ R2).map Prod.snd) := by
          unfold drR; rw [if_pos hch, hat]; dsimp only; rw [hx]; dsimp only; rw [if_neg hp, hers]
        rw [e]
        have bp : decide (0 < x.pins) = false := by simpa using hp
        have HFG := hide (forget_any w p h r u L c R1 R2 (a, x) h1)
        have HK := hide h1
        have HH := hide h2
        have HF := hide h4
        have HNW := hide h5
        unfold ptr at *
        clear h1 h2 h4 h5 hat e hN hx hers hp hch
        dsimp only
        go_enter Try.func29, Try.ntmps29
        go_wp2_with fail
        refine (unhide HCH).mono ?_
        rintro e w' ⟨rfl, rfl⟩
        go_wp2_with fail
        refine (unhide HFG).mono ?_
        rintro e w2 ⟨rfl, ⟨L2, hK2⟩, f2⟩
        have HC2 := hide (cs_of (unhide HF) (unhide HNW) (Cs.cache (unhide HK) (unhide HH) hK2 (fun k hk => .inl (by simp [adr] at hk ⊢; rcases hk with e | e; exact .inl e; exact .inr (.inr e))) f2) rfl)
        clear hK2 f2 HFG
        go_wp2_with fail
        go_ret
        exact ⟨rfl, unhide HC2⟩
  · have e : drR m (R.map Prod.snd) b = (2, R.map Prod.snd) := by unfold drR; rw [if_neg (by rw [hch]; decide), hch]
    rw [e]
    rw [hch] at HCH
    clear h1 h2 h4 h5 e hch
    unfold ptr at *
    go_enter Try.func29, Try.ntmps29
    go_wp2_with fail
    refine (unhide HCH).mono ?_
    rintro e w' ⟨rfl, rfl⟩
    go_wp2_with fail
    go_ret
    exact ⟨rfl, unhide HCS⟩

theorem cs_hits (H : CS w0 w p h r u dv c m l) : Calls Try.prog 14 #[ptr p] w fun e w' => e = .returned (.tuple #[.int .i64 (c.hit : Int), .int .i64 (c.miss : Int)]) ∧ Fr (fun _ => False) w w' := by
  obtain ⟨lv, vs, L, R, h1, h2, rfl, h4, h5⟩ := H
  have HN := hide (none_any w p h r u L R c h1)
  have c5 := cell_of_heap h1.heap 5
  have c6 := cell_of_heap h1.heap 6
  simp at c5 c6
  clear h1 h2 h4 h5
  unfold ptr at *
  go_enter Try.func14, Try.ntmps14
  go_wp2_with fail
  refine (unhide HN).mono ?_
  rintro e w' ⟨rfl, rfl⟩
  go_wp2_with fail
  go_quiet (fail)
  go_wp2_with fail
  go_ret2
  exact ⟨rfl, Fr.ofDrewN _ _⟩
end
end Go.Proofs.Ytdgmlopaeonacaa
