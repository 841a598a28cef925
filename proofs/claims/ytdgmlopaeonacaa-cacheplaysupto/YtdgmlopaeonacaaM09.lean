/-
  The cache's Pin, Unpin, Drop, Hits.
  cmp.Compare and cmp.Or, plainly.
  The order of dirty blocks: what dirtyBlocks' closure answers. Memory only grows.
  The cache's dirtyBlocks, where the sort sorts.
-/
import Derived.Test.YtdgmlopaeonacaaM08
import Derived.Sort.Grow
namespace Go.Proofs.Ytdgmlopaeonacaa
set_option linter.unusedVariables false
set_option linter.unusedSimpArgs false
open Go.RowKit
set_option linter.unusedVariables false

attribute [local go_sem ↓] Go.wp_at_zero Go.wp_at_succ

/-- The last one is held once more. -/
def pinL (l : List Pl) : List Pl := match l.getLast? with
  | some x => l.dropLast ++ [{ x with pins := x.pins + 1 }]
  | none => l
def pnR (c : Ca) (m : Hm) (l : List Pl) (b : Int) : Int × List Pl × Hm × Ca :=
  ((ftR c m l b).1, if (ftR c m l b).1 = 0 then pinL (ftR c m l b).2.1 else (ftR c m l b).2.1, (ftR c m l b).2.2.1, (ftR c m l b).2.2.2)
/-- One of the blocks turns. -/
def unR (l : List Pl) (b : Int) : Int × List Pl := match atI l b with
  | some i => match l[i]? with
    | some x => if x.pins = 0 then (92, l) else (0, l.set i { x with pins := x.pins - 1 })
    | none => (92, l)
  | none => (92, l)
def drR (m : Hm) (l : List Pl) (b : Int) : Int × List Pl :=
  if chE m b = 0 then
    match atI l b with
    | some i => match l[i]? with
      | some x => if 0 < x.pins then (90, l) else (0, l.eraseIdx i)
      | none => (0, l)
    | none => (0, l)
  else (chE m b, l)

theorem ft_mem (c : Ca) (m : Hm) (l : List Pl) (b : Int) : ∀ x ∈ (ftR c m l b).2.1, x ∈ l ∨ x.pins = 0 := by
  intro x hx
  unfold ftR at hx
  split at hx
  · split at hx
    · split at hx
      · rename_i i _ y hy
        rcases List.mem_append.1 hx with h | h
        · exact .inl (List.mem_of_mem_eraseIdx h)
        · simp at h; subst h; exact .inl (List.mem_of_getElem? hy)
      · exact .inl hx
    · have hr := (rmR_facts c m l).2.2.1
      split at hx
      · split at hx
        · exact .inl (hr x hx)
        · rcases List.mem_append.1 hx with h | h
          · exact .inl (hr x h)
          · simp at h; subst h; exact .inr rfl
      · exact .inl (hr x hx)
  · exact .inl hx
theorem set_mid {R1 R2 : List (Nat × Pl)} {a : Nat} {x y : Pl} : ((R1 ++ (a, x) :: R2).map Prod.snd).set R1.length y = (R1 ++ (a, y) :: R2).map Prod.snd := by
  simp [List.set_append_right]

section
variable {w0 : World × World} {w : World} {p h r u : Nat} {dv : Value} {c : Ca} {m : Hm} {l : List Pl}

/-- No block is held too often. -/
def PinB (l : List Pl) (n : Nat) : Prop := ∀ x ∈ l, x.pins ≤ (n : Int)

set_option maxRecDepth 100000 in
set_option maxHeartbeats 1000000 in
theorem cs_pin [Av] (b : Int) (H : CS w0 w p h r u dv c m l) (hD : InD m l) (hc : m.calls < 999999990) (hn : c.hit + c.miss < 1000000000) (hpb : PinB l 999999990) : Calls Try.prog 24 #[ptr p, .int .i64 b] w fun e w' => e = .returned (.int .i64 (pnR c m l b).1) ∧ CS w0 w' p h r u dv (pnR c m l b).2.2.2 (pnR c m l b).2.2.1 (pnR c m l b).2.1 := by
  obtain ⟨lv, vs, L, R, h1, h2, rfl, h4, h5⟩ := H
  have HF := hide (fetch_any w p h r u L R c dv lv vs m b h1 h2 hD.rr hc hn)
  have HFR := hide h4
  have HNW := hide h5
  have hpn : pnR c m (R.map Prod.snd) b = ((ftR c m (R.map Prod.snd) b).1, if (ftR c m (R.map Prod.snd) b).1 = 0 then pinL (ftR c m (R.map Prod.snd) b).2.1 else (ftR c m (R.map Prod.snd) b).2.1, (ftR c m (R.map Prod.snd) b).2.2.1, (ftR c m (R.map Prod.snd) b).2.2.2) := rfl
  have hpf : ∀ x ∈ (ftR c m (R.map Prod.snd) b).2.1, x.pins ≤ 999999990 := fun x hx => by
    rcases ft_mem c m _ b x hx with e | e
    · exact hpb x e
    · omega
  rw [hpn]
  generalize ftR c m (R.map Prod.snd) b = t at *
  obtain ⟨te, tl, tm, tc⟩ := t
  dsimp only at *
  clear h1 h2 h4 h5 hD hc hn hpb hpn
  have HPF := hide hpf
  obtain ⟨T, hT⟩ : ∃ T, T = (if te = 0 then pinL tl else tl) := ⟨_, rfl⟩
  rw [← hT]
  have HT := hide hT
  clear hpf hT
  unfold ptr at *
  go_enter Try.func24, Try.ntmps24
  go_wp2_with fail
  refine (unhide HF).mono ?_
  rintro e w1 ⟨lv1, vs1, L1, R1, hCs, hl1, hh⟩
  dsimp only at hCs hl1 hh
  rcases hh with ⟨hne, rfl⟩ | ⟨rfl, R2, ⟨qa, qx⟩, rfl, rfl⟩
  · have bne : (te != 0) = true := by simpa using hne
    have HNE := hide hne
    have HCs := hide hCs
    have HL1 := hide hl1
    clear hne hCs hl1 HF
    go_wp2_with fail
    go_ret
    have hT := unhide HT
    rw [if_neg (unhide HNE)] at hT
    subst hT
    exact ⟨rfl, cs_of (unhide HFR) (unhide HNW) (unhide HCs) (unhide HL1)⟩
  · obtain ⟨o, n, hN⟩ := hCs.k.at (q := (qa, qx)) (by simp)
    have hok := hCs.k.ok (qa, qx) (by simp)
    have d5 := hN.c5
    have z5 := frozen_of_heap hN 5
    have hpl : qx.pins ≤ 999999990 := unhide HPF qx (by rw [← hl1]; simp)
    have hp0 : 0 ≤ qx.pins := hok.pins.1
    have hK2 : KAt (w1.setCell ⟨qa, 5, none⟩ (.int .i64 (qx.pins + 1))) p h r u L1 (R2 ++ (qa, { qx with pins := qx.pins + 1 }) :: []) tc := KAt.turn hCs.k rfl ⟨hok.len, hok.b, hok.first, hok.last, by dsimp only; omega, by dsimp only; omega⟩ (fun o n hn => hn.set5 _) ((Fr.refl (fun k => k = qa) w1).setCell (p := ⟨qa, 5, none⟩) (fun _ => rfl) _)
    have f2 : Fr (KB p r u (R2 ++ [(qa, qx)])) w1 (w1.setCell ⟨qa, 5, none⟩ (.int .i64 (qx.pins + 1))) := ((Fr.refl (fun k => k = qa) w1).setCell (p := ⟨qa, 5, none⟩) (fun _ => rfl) _).mono (fun k _ e => .inr (.inr (by rw [e]; simp [adr])))
    have HC2 := hide (hCs.trans (Cs.cache hCs.k hCs.hh hK2 (fun k hk => .inl (by simpa [adr] using hk)) f2))
    have HL1 := hide hl1
    clear hCs hl1 hN hok HF hK2 f2
    dsimp only
    unfold ptr
    go_wp2_with fail
    go_ret
    have hT := unhide HT
    rw [if_pos trivial] at hT
    have hl : tl = R2.map Prod.snd ++ [qx] := by rw [← unhide HL1]; simp
    have hT2 : T = R2.map Prod.snd ++ [{ qx with pins := qx.pins + 1 }] := by rw [hT, hl]; simp [pinL]
    subst hT2
    exact ⟨rfl, cs_of (unhide HFR) (unhide HNW) (unhide HC2) (by simp)⟩

set_option maxRecDepth 100000 in
theorem cs_unpin [Av] (b : Int) (H : CS w0 w p h r u dv c m l) : Calls Try.prog 25 #[ptr p, .int .i64 b] w fun e w' => e = .returned (.int .i64 (unR l b).1) ∧ CS w0 w' p h r u dv c m (unR l b).2 := by
  have HCS := hide H
  obtain ⟨lv, vs, L, R, h1, h2, rfl, h4, h5⟩ := H
  have HN := hide (none_any w p h r u L R c h1)
  have c2 := cell_of_heap h1.heap 2
  simp at c2
  rcases hat : atI (R.map Prod.snd) b with _ | i
  · have hno := at_none hat
    have hlk := run_look_out h1.mp (h1.lookNo (fun q hq => hno q.2 (List.mem_map.2 ⟨q, hq, rfl⟩)))
    have e : unR (R.map Prod.snd) b = (92, R.map Prod.snd) := by unfold unR; rw [hat]
    rw [e]
    clear h1 h2 h4 h5 hno hat e
    unfold ptr at *
    go_enter Try.func25, Try.ntmps25
    go_wp2_with fail
    refine (unhide HN).mono ?_
    rintro e w' ⟨rfl, rfl⟩
    go_wp2_with fail
    go_ret
    exact ⟨rfl, unhide HCS⟩
  · obtain ⟨x, hx, hxb⟩ := at_some hat
    obtain ⟨R1, a, R2, rfl, hl1, hers⟩ := split_at hx
    have hlk := run_look_in h1.mp (h1.look (q := (a, x)) (by simp))
    dsimp only at hlk
    rw [hxb] at hlk
    obtain ⟨o, n, hN⟩ := h1.at (q := (a, x)) (by simp)
    have hok := h1.ok (a, x) (by simp)
    dsimp only at hok hN
    have d5 := hN.c5
    have z5 := frozen_of_heap hN 5
    by_cases hp : x.pins = 0
    · have e : unR ((R1 ++ (a, x) :: R2).map Prod.snd) b = (92, (R1 ++ (a, x) :: R2).map Prod.snd) := by
        unfold unR; rw [hat]; dsimp only; rw [hx]; dsimp only; rw [if_pos hp]
      rw [e]
      rw [hp] at d5
      clear h1 h2 h4 h5 hat e hN hok hx hers hp
      unfold ptr at *
      go_enter Try.func25, Try.ntmps25
      go_wp2_with fail
      refine (unhide HN).mono ?_
      rintro e w' ⟨rfl, rfl⟩
      go_wp2_with fail
      go_ret
      exact ⟨rfl, unhide HCS⟩
    · have e : unR ((R1 ++ (a, x) :: R2).map Prod.snd) b = (0, (R1 ++ (a, { x with pins := x.pins - 1 }) :: R2).map Prod.snd) := by
        unfold unR; rw [hat]; dsimp only; rw [hx]; dsimp only; rw [if_neg hp, ← hl1, set_mid]
      rw [e]
      have bp : (x.pins == 0) = false := by simpa using hp
      have hp0 := hok.pins
      have hK2 : KAt (w.setCell ⟨a, 5, none⟩ (.int .i64 (x.pins - 1))) p h r u L (R1 ++ (a, { x with pins := x.pins - 1 }) :: R2) c := KAt.turn h1 rfl ⟨hok.len, hok.b, hok.first, hok.last, by dsimp only; omega, by dsimp only; omega⟩ (fun o n hn => hn.set5 _) ((Fr.refl (fun k => k = a) w).setCell (p := ⟨a, 5, none⟩) (fun _ => rfl) _)
      have f2 : Fr (KB p r u (R1 ++ (a, x) :: R2)) w (w.setCell ⟨a, 5, none⟩ (.int .i64 (x.pins - 1))) := ((Fr.refl (fun k => k = a) w).setCell (p := ⟨a, 5, none⟩) (fun _ => rfl) _).mono (fun k _ e => .inr (.inr (by rw [e]; simp [adr])))
      have HC2 := hide (cs_of h4 h5 (Cs.cache h1 h2 hK2 (fun k hk => .inl (by simpa [adr] using hk)) f2) rfl)
      clear h1 h2 h4 h5 hat e hN hok hx hers hp hK2 f2
      unfold ptr at *
      dsimp only
      go_enter Try.func25, Try.ntmps25
      go_wp2_with fail
      refine (unhide HN).mono ?_
      rintro e w' ⟨rfl, rfl⟩
      go_wp2_with fail
      go_ret
      exact ⟨rfl, unhide HC2⟩

set_option maxRecDepth 100000 in
theorem cs_drop [Av] (b : Int) (H : CS w0 w p h r u dv c m l) : Calls Try.prog 29 #[ptr p, .int .i64 b] w fun e w' => e = .returned (.int .i64 (drR m l b).1) ∧ CS w0 w' p h r u dv c m (drR m l b).2 := by
  have HCS := hide H
  obtain ⟨lv, vs, L, R, h1, h2, rfl, h4, h5⟩ := H
  have HCH := hide (check_any w p h r u L R c dv lv vs m b h1 h2)
  have c2 := cell_of_heap h1.heap 2
  simp at c2
  rcases chE_vals m b with hch | hch
  · rw [hch] at HCH
    rcases hat : atI (R.map Prod.snd) b with _ | i
    · have hno := at_none hat
      have hlk := run_look_out h1.mp (h1.lookNo (fun q hq => hno q.2 (List.mem_map.2 ⟨q, hq, rfl⟩)))
      have e : drR m (R.map Prod.snd) b = (0, R.map Prod.snd) := by unfold drR; rw [if_pos hch, hat]
      rw [e]
      clear h1 h2 h4 h5 hno hat e hch
      unfold ptr at *
      go_enter Try.func29, Try.ntmps29
      go_wp2_with fail
      refine (unhide HCH).mono ?_
      rintro e w' ⟨rfl, rfl⟩
      go_wp2_with fail
      go_ret
      exact ⟨rfl, unhide HCS⟩
    · obtain ⟨x, hx, hxb⟩ := at_some hat
      obtain ⟨R1, a, R2, rfl, hl1, hers⟩ := split_at hx
      have hlk := run_look_in h1.mp (h1.look (q := (a, x)) (by simp))
      dsimp only at hlk
      rw [hxb] at hlk
      obtain ⟨o, n, hN⟩ := h1.at (q := (a, x)) (by simp)
      dsimp only at hN
      have d5 := hN.c5
      by_cases hp : 0 < x.pins
      · have e : drR m ((R1 ++ (a, x) :: R2).map Prod.snd) b = (90, (R1 ++ (a, x) :: R2).map Prod.snd) := by
          unfold drR; rw [if_pos hch, hat]; dsimp only; rw [hx]; dsimp only; rw [if_pos hp]
        rw [e]
        have bp : decide (0 < x.pins) = true := by simpa using hp
        clear h1 h2 h4 h5 hat e hN hx hers hp hch
        unfold ptr at *
        go_enter Try.func29, Try.ntmps29
        go_wp2_with fail
        refine (unhide HCH).mono ?_
        rintro e w' ⟨rfl, rfl⟩
        go_wp2_with fail
        go_ret
        exact ⟨rfl, unhide HCS⟩
      · have e : drR m ((R1 ++ (a, x) :: R2).map Prod.snd) b = (0, (R1 ++ R2).map Prod.snd) := by
          unfold drR; rw [if_pos hch, hat]; dsimp only; rw [hx]; dsimp only; rw [if_neg hp, hers]
        rw [e]
        have bp : decide (0 < x.pins) = false := by simpa using hp
        have HFG := hide (forget_any w p h r u L c R1 R2 (a, x) h1)
        have HK := hide h1
        have HH := hide h2
        have HF := hide h4
        have HNW := hide h5
        unfold ptr at *
        clear h1 h2 h4 h5 hat e hN hx hers hp hch
        dsimp only
        go_enter Try.func29, Try.ntmps29
        go_wp2_with fail
        refine (unhide HCH).mono ?_
        rintro e w' ⟨rfl, rfl⟩
        go_wp2_with fail
        refine (unhide HFG).mono ?_
        rintro e w2 ⟨rfl, ⟨L2, hK2⟩, f2⟩
        have HC2 := hide (cs_of (unhide HF) (unhide HNW) (Cs.cache (unhide HK) (unhide HH) hK2 (fun k hk => .inl (by simp [adr] at hk ⊢; rcases hk with e | e; exact .inl e; exact .inr (.inr e))) f2) rfl)
        clear hK2 f2 HFG
        go_wp2_with fail
        go_ret
        exact ⟨rfl, unhide HC2⟩
  · have e : drR m (R.map Prod.snd) b = (2, R.map Prod.snd) := by unfold drR; rw [if_neg (by rw [hch]; decide), hch]
    rw [e]
    rw [hch] at HCH
    clear h1 h2 h4 h5 e hch
    unfold ptr at *
    go_enter Try.func29, Try.ntmps29
    go_wp2_with fail
    refine (unhide HCH).mono ?_
    rintro e w' ⟨rfl, rfl⟩
    go_wp2_with fail
    go_ret
    exact ⟨rfl, unhide HCS⟩

theorem cs_hits [Av] (H : CS w0 w p h r u dv c m l) : Calls Try.prog 14 #[ptr p] w fun e w' => e = .returned (.tuple #[.int .i64 (c.hit : Int), .int .i64 (c.miss : Int)]) ∧ Fr (fun _ => False) w w' := by
  obtain ⟨lv, vs, L, R, h1, h2, rfl, h4, h5⟩ := H
  have HN := hide (none_any w p h r u L R c h1)
  have c5 := cell_of_heap h1.heap 5
  have c6 := cell_of_heap h1.heap 6
  simp at c5 c6
  clear h1 h2 h4 h5
  unfold ptr at *
  go_enter Try.func14, Try.ntmps14
  go_wp2_with fail
  refine (unhide HN).mono ?_
  rintro e w' ⟨rfl, rfl⟩
  go_wp2_with fail
  go_quiet (fail)
  go_wp2_with fail
  go_ret2
  exact ⟨rfl, Fr.ofDrewN _ _⟩
end
end Go.Proofs.Ytdgmlopaeonacaa

namespace Go.Proofs.Ytdgmlopaeonacaa
set_option linter.unusedVariables false
set_option linter.unusedSimpArgs false
open Go.RowKit
set_option linter.unusedVariables false

attribute [local go_sem ↓] Go.wp_at_zero Go.wp_at_succ

/-- What cmp.Compare answers. -/
def cm (x y : Int) : Int := if x < y then -1 else if y < x then 1 else 0

section
variable (w : World) (x y : Int)

theorem nanU : Calls Try.prog 72 #[.int .u64 x] w fun e w' => e = .returned (.bool false) ∧ w = w' := by
  go_enter Try.func72, Try.ntmps72
  go_wp2_with fail
  go_ret
  exact ⟨by simp, rfl⟩

theorem nanI : Calls Try.prog 73 #[.int .i64 x] w fun e w' => e = .returned (.bool false) ∧ w = w' := by
  go_enter Try.func73, Try.ntmps73
  go_wp2_with fail
  go_ret
  exact ⟨by simp, rfl⟩

theorem compareU : Calls Try.prog 62 #[.int .u64 x, .int .u64 y] w fun e w' => e = .returned (.int .i64 (cm x y)) ∧ w = w' := by
  unfold cm
  rcases Int.lt_trichotomy x y with h | h | h
  · have b1 : decide (x < y) = true := by simp; omega
    rw [if_pos h]
    clear h
    go_enter Try.func62, Try.ntmps62
    go_wp2_with (refine (nanU _ _).mono ?_; rintro e w' ⟨rfl, rfl⟩)
    go_ret
    exact ⟨rfl, rfl⟩
  · subst h
    rw [if_neg (by omega), if_neg (by omega)]
    go_enter Try.func62, Try.ntmps62
    go_wp2_with (refine (nanU w x).mono ?_; rintro e w' ⟨rfl, rfl⟩)
    go_ret
    exact ⟨rfl, rfl⟩
  · have b1 : decide (x < y) = false := by simp; omega
    have b2 : decide (y < x) = true := by simp; omega
    rw [if_neg (by omega), if_pos h]
    clear h
    go_enter Try.func62, Try.ntmps62
    go_wp2_with (refine (nanU _ _).mono ?_; rintro e w' ⟨rfl, rfl⟩)
    go_ret
    exact ⟨rfl, rfl⟩

theorem compareI : Calls Try.prog 63 #[.int .i64 x, .int .i64 y] w fun e w' => e = .returned (.int .i64 (cm x y)) ∧ w = w' := by
  unfold cm
  rcases Int.lt_trichotomy x y with h | h | h
  · have b1 : decide (x < y) = true := by simp; omega
    rw [if_pos h]
    clear h
    go_enter Try.func63, Try.ntmps63
    go_wp2_with (refine (nanI _ _).mono ?_; rintro e w' ⟨rfl, rfl⟩)
    go_ret
    exact ⟨rfl, rfl⟩
  · subst h
    rw [if_neg (by omega), if_neg (by omega)]
    go_enter Try.func63, Try.ntmps63
    go_wp2_with (refine (nanI w x).mono ?_; rintro e w' ⟨rfl, rfl⟩)
    go_ret
    exact ⟨rfl, rfl⟩
  · have b1 : decide (x < y) = false := by simp; omega
    have b2 : decide (y < x) = true := by simp; omega
    rw [if_neg (by omega), if_pos h]
    clear h
    go_enter Try.func63, Try.ntmps63
    go_wp2_with (refine (nanI _ _).mono ?_; rintro e w' ⟨rfl, rfl⟩)
    go_ret
    exact ⟨rfl, rfl⟩

/-- What cmp.Or answers of two. -/
def orI (x y : Int) : Int := if x = 0 then y else x

theorem or_any (k cc : Nat) (hk0 : w.cell? ⟨k, 0, none⟩ = some (.int .i64 x)) (hk1 : w.cell? ⟨k, 1, none⟩ = some (.int .i64 y)) : Calls Try.prog 61 #[.slice (some ⟨k, 0, none⟩) 2 cc] w fun e w' => e = .returned (.int .i64 (orI x y)) ∧ w = w' := by
  unfold orI
  by_cases hx : x = 0
  · subst hx
    rw [if_pos rfl]
    by_cases hy : y = 0
    · subst hy
      go_enter Try.func61, Try.ntmps61
      go_wp2_with fail
      refine wp_loop_rounds 3 ?_
      rw [rounds_succ]
      go_wp2_with fail
      rw [rounds_succ]
      go_wp2_with fail
      rw [rounds_succ]
      go_wp2_with fail
      go_ret
      exact ⟨rfl, rfl⟩
    · have b1 : (y == 0) = false := by simp [hy]
      clear hy
      go_enter Try.func61, Try.ntmps61
      go_wp2_with fail
      refine wp_loop_rounds 2 ?_
      rw [rounds_succ]
      go_wp2_with fail
      rw [rounds_succ]
      go_wp2_with fail
      go_ret
      exact ⟨rfl, rfl⟩
  · have b1 : (x == 0) = false := by simp [hx]
    rw [if_neg hx]
    clear hx
    go_enter Try.func61, Try.ntmps61
    go_wp2_with fail
    refine wp_loop_rounds 1 ?_
    rw [rounds_succ]
    go_wp2_with fail
    go_ret
    exact ⟨rfl, rfl⟩
end
end Go.Proofs.Ytdgmlopaeonacaa

namespace Go.Proofs.Ytdgmlopaeonacaa
set_option linter.unusedVariables false
set_option linter.unusedSimpArgs false
open Go.RowKit
set_option linter.unusedVariables false

attribute [local go_sem ↓] Go.wp_at_zero Go.wp_at_succ

/-- So many draws on, new blocks behind; nothing else. -/
def Gw (w w' : World) : Prop := ∃ q os, w' = Go.Sort.grow (w.drewN q) os
theorem Gw.refl (w : World) : Gw w w := ⟨0, #[], by rw [Go.Sort.grow_empty]; rfl⟩
theorem Gw.drew (w : World) : Gw w w.drew := ⟨1, #[], by rw [Go.Sort.grow_empty]; rfl⟩
theorem Gw.alloc (w : World) (o : Obj) : Gw w (w.alloc o) := ⟨0, #[o], by rw [Go.Sort.alloc_eq_grow]; rfl⟩
theorem Gw.trans {a b c : World} (h : Gw a b) (k : Gw b c) : Gw a c := by
  obtain ⟨q, os, rfl⟩ := h
  obtain ⟨q', os', rfl⟩ := k
  refine ⟨q + q', os ++ os', ?_⟩
  show Go.Sort.grow (Go.Sort.grow ((a.drewN q).drewN q') os) os' = _
  rw [Go.Sort.grow_grow, World.drewN_drewN]
theorem Gw.fr {w w' : World} (h : Gw w w') : Fr (fun _ => False) w w' := by
  obtain ⟨q, os, rfl⟩ := h
  exact ⟨rfl, rfl, rfl, by simp [Go.Sort.grow], fun k hk _ => Go.Sort.heap_grow_old _ _ hk⟩
theorem Gw.cell {w w' : World} (h : Gw w w') {a : Addr} {v : Value} (hc : w.cell? a = some v) : w'.cell? a = some v := by
  rw [h.fr.cell (World.block_lt_of_cell? w a hc) id]; exact hc

/-- What an operation leaves: this value; a new slice of two numbers. -/
inductive Kg where
  | eq (u : Value)
  | two (m n : Int)
def Kg.holds : Kg → Value → World → Prop
  | .eq u, v, _ => v = u
  | .two m n, v, w => ∃ k, v = .slice (some ⟨k, 0, none⟩) 2 2 ∧ w.cell? ⟨k, 0, none⟩ = some (.int .i64 m) ∧ w.cell? ⟨k, 1, none⟩ = some (.int .i64 n)
theorem Kg.mono (k : Kg) {v : Value} {w1 w2 : World} (h : k.holds v w1) (f : Gw w1 w2) : k.holds v w2 := by
  cases k with
  | eq u => exact h
  | two m n =>
    obtain ⟨k, rfl, h0, h1⟩ := h
    exact ⟨k, rfl, f.cell h0, f.cell h1⟩
def Tg (ks : List Kg) (i : Nat) (v : Value) (w : World) : Prop := match ks[i]? with
  | some k => k.holds v w
  | none => True
theorem Tg.mono (ks : List Kg) (i : Nat) (v : Value) (w1 w2 : World) (h : Tg ks i v w1) (f : Gw w1 w2) : Tg ks i v w2 := by
  unfold Tg at *
  split
  · rename_i k hk; rw [hk] at h; exact k.mono h f
  · trivial

section
variable {P : Program} {o : Oper} {a : Act} {w : World} {Q : Exit → Act → World → Prop}
theorem g_new {i : Nat} {T : Nat → Value → World → Prop} (v : Value) (w2 : World) (h : (execOp a.eval o).run P w = .ok (.value v) w2) (hT : T i v w2) (hf : Gw w w2) : o.wp P a w (fun a'' w'' => ∃ v, a'' = a.put o.dst v ∧ T i v w'' ∧ Gw w w'') Q := by
  unfold Oper.wp
  rw [h, Oper.upon_value]
  exact ⟨v, rfl, hT, hf⟩
theorem g_val {i : Nat} {T : Nat → Value → World → Prop} (v : Value) (h : (execOp a.eval o).run P w = .ok (.value v) w) (hT : T i v w) : o.wp P a w (fun a'' w'' => ∃ v, a'' = a.put o.dst v ∧ T i v w'' ∧ Gw w w'') Q :=
  g_new v w h hT (Gw.refl _)
theorem g_call {i : Nat} {T : Nat → Value → World → Prop} (k : Nat) (args : Array Value) (h : (execOp a.eval o).run P w = .ok (.enter k args) w)
    (hc : Calls P k args w fun e w' => (∃ v, e = .returned v ∧ T i v w') ∧ Gw w w') : o.wp P a w (fun a'' w'' => ∃ v, a'' = a.put o.dst v ∧ T i v w'' ∧ Gw w w'') Q := by
  unfold Oper.wp
  rw [h, Oper.upon_enter]
  refine hc.mono ?_
  rintro e w' ⟨⟨v, rfl, hT⟩, f⟩
  exact ⟨v, rfl, hT, f⟩
end

section
variable {ρ : Operand → Value} {o : Oper} {w : World}
theorem x_build2 {x y : Operand} {m n : Int} (ho : o.op = .buildSlice 49 2 #[(0, x), (1, y)]) (hx : ρ x = .int .i64 m) (hy : ρ y = .int .i64 n) : (execOp ρ o).run Try.prog w = .ok (.value (.slice (some ⟨w.heap.size, 0, none⟩) 2 2)) (w.alloc (.cells #[.int .i64 m, .int .i64 n] 3)) := by
  simp [execOp, ho, hx, hy, go_sem]
end
theorem cell_two0 (w : World) (m n : Int) : (w.alloc (.cells #[.int .i64 m, .int .i64 n] 3)).cell? ⟨w.heap.size, 0, none⟩ = some (.int .i64 m) := by
  rw [cell_of_heap (heap_alloc_new w _)]; rfl
theorem cell_two1 (w : World) (m n : Int) : (w.alloc (.cells #[.int .i64 m, .int .i64 n] 3)).cell? ⟨w.heap.size, 1, none⟩ = some (.int .i64 n) := by
  rw [cell_of_heap (heap_alloc_new w _)]; rfl
theorem cf61 (args : Array Value) (W : World) : Sem.run Try.prog (callFunc 61 args) W = .ok (.enter 61 args) W := by simp [go_sem]
theorem cf62 (args : Array Value) (W : World) : Sem.run Try.prog (callFunc 62 args) W = .ok (.enter 62 args) W := by simp [go_sem]
theorem cf63 (args : Array Value) (W : World) : Sem.run Try.prog (callFunc 63 args) W = .ok (.enter 63 args) W := by simp [go_sem]
theorem fa58_1 (b o : Nat) (W : World) : (Instr.fieldAt 58 (.pointer (some ⟨b, o, none⟩)) 1).run Try.prog W = .ok (.pointer (some ⟨b, o + 1, none⟩)) W := by simp [go_sem]
theorem ld38 (W : World) (a : Addr) (u : Value) (h : W.cell? a = some u) : (Instr.loadAt 38 (.pointer (some a))).run Try.prog W = .ok u W := by simp [go_sem, h]

set_option maxRecDepth 100000 in
theorem closure_any (w : World) (a b : Nat) (oa na ob nb : Value) (x y : Pl) (ha : NAt w a oa na x) (hb : NAt w b ob nb y) : Calls Try.prog 60 #[ptr a, ptr b] w fun e w' => e = .returned (.int .i64 (orI (cm (x.first : Int) (y.first : Int)) (cm x.b y.b))) ∧ Gw w w' := by
  have HA := hide ha
  have HB := hide hb
  clear ha hb
  go_enter Try.func60, Try.ntmps60
  go_wp2_with fail
  refine wp_nameK ?_
  intro a0 hA
  have h0 : a0.tmps.getD 0 undef = ptr a := by rw [hA]; rfl
  have h1 : a0.tmps.getD 1 undef = ptr b := by rw [hA]; rfl
  have hsz : a0.tmps.size = 29 := by rw [hA]; rfl
  have hdf : a0.defers = [] := by rw [hA]
  clear hA
  refine wp_region_freeR (R := Gw) (fun w => Gw.drew w) (fun _ _ _ h k => Gw.trans h k) (by kernel_rfl) (by kernel_rfl) (by decide +kernel) (by rw [hsz]; decide +kernel) (Tg [.eq (ptr a), .eq (ptr a), .eq (.pointer (some ⟨a, 2, none⟩)), .eq (.pointer (some ⟨a, 3, none⟩)), .eq (.int .u64 (x.first : Int)), .eq (ptr b), .eq (ptr b), .eq (.pointer (some ⟨b, 2, none⟩)), .eq (.pointer (some ⟨b, 3, none⟩)), .eq (.int .u64 (y.first : Int)), .eq (.int .i64 (cm (x.first : Int) (y.first : Int))), .eq (ptr a), .eq (ptr a), .eq (.pointer (some ⟨a, 2, none⟩)), .eq (.pointer (some ⟨a, 2, none⟩)), .eq (.int .i64 x.b), .eq (ptr b), .eq (ptr b), .eq (.pointer (some ⟨b, 2, none⟩)), .eq (.pointer (some ⟨b, 2, none⟩)), .eq (.int .i64 y.b), .eq (.int .i64 (cm x.b y.b)), .two (cm (x.first : Int) (y.first : Int)) (cm x.b y.b), .eq (.int .i64 (orI (cm (x.first : Int) (y.first : Int)) (cm x.b y.b))), .eq (.int .i64 (orI (cm (x.first : Int) (y.first : Int)) (cm x.b y.b)))]) (Tg.mono _) ?steps ?done
  case steps =>
    refine ⟨?_, ?_⟩
    · intro a' w' hb hf hd
      exact ⟨wantedN rfl, g_val (ptr a) (x_move rfl ((hb.old 0 (by decide +kernel)).trans h0)) rfl⟩
    refine ⟨?_, ?_⟩
    · intro a' w' hb hf hd
      exact ⟨wantedN rfl, g_val (ptr a) (x_nilCheck rfl (hd 0 (by kernel_rfl) 5 rfl)) rfl⟩
    refine ⟨?_, ?_⟩
    · intro a' w' hb hf hd
      exact ⟨wantedN rfl, g_val (.pointer (some ⟨a, 2, none⟩)) (x_field (of := 0) (off := 2) (fa91_1 a 0) rfl (hd 1 (by kernel_rfl) 6 rfl)) rfl⟩
    refine ⟨?_, ?_⟩
    · intro a' w' hb hf hd
      exact ⟨wantedN rfl, g_val (.pointer (some ⟨a, 3, none⟩)) (x_field (of := 2) (off := 1) (fa58_1 a 2) rfl (hd 2 (by kernel_rfl) 7 rfl)) rfl⟩
    refine ⟨?_, ?_⟩
    · intro a' w' hb hf hd
      exact ⟨wantedN rfl, g_val (.int .u64 (x.first : Int)) (x_load1 ld38 rfl (hd 3 (by kernel_rfl) 8 rfl) (((unhide HA).kept hf.fr id).c3)) rfl⟩
    refine ⟨?_, ?_⟩
    · intro a' w' hb hf hd
      exact ⟨wantedN rfl, g_val (ptr b) (x_move rfl ((hb.old 1 (by decide +kernel)).trans h1)) rfl⟩
    refine ⟨?_, ?_⟩
    · intro a' w' hb hf hd
      exact ⟨wantedN rfl, g_val (ptr b) (x_nilCheck rfl (hd 5 (by kernel_rfl) 10 rfl)) rfl⟩
    refine ⟨?_, ?_⟩
    · intro a' w' hb hf hd
      exact ⟨wantedN rfl, g_val (.pointer (some ⟨b, 2, none⟩)) (x_field (of := 0) (off := 2) (fa91_1 b 0) rfl (hd 6 (by kernel_rfl) 11 rfl)) rfl⟩
    refine ⟨?_, ?_⟩
    · intro a' w' hb hf hd
      exact ⟨wantedN rfl, g_val (.pointer (some ⟨b, 3, none⟩)) (x_field (of := 2) (off := 1) (fa58_1 b 2) rfl (hd 7 (by kernel_rfl) 12 rfl)) rfl⟩
    refine ⟨?_, ?_⟩
    · intro a' w' hb hf hd
      exact ⟨wantedN rfl, g_val (.int .u64 (y.first : Int)) (x_load1 ld38 rfl (hd 8 (by kernel_rfl) 13 rfl) (((unhide HB).kept hf.fr id).c3)) rfl⟩
    refine ⟨?_, ?_⟩
    · intro a' w' hb hf hd
      exact ⟨wantedN rfl, g_call 62 _ (e_call2 rfl rfl (hd 4 (by kernel_rfl) 9 rfl) (hd 9 (by kernel_rfl) 14 rfl) cf62) ((compareU w' _ _).mono fun e w'' ⟨he, hw⟩ => ⟨⟨_, he, rfl⟩, hw ▸ Gw.refl _⟩)⟩
    refine ⟨?_, ?_⟩
    · intro a' w' hb hf hd
      exact ⟨wantedN rfl, g_val (ptr a) (x_move rfl ((hb.old 0 (by decide +kernel)).trans h0)) rfl⟩
    refine ⟨?_, ?_⟩
    · intro a' w' hb hf hd
      exact ⟨wantedN rfl, g_val (ptr a) (x_nilCheck rfl (hd 11 (by kernel_rfl) 16 rfl)) rfl⟩
    refine ⟨?_, ?_⟩
    · intro a' w' hb hf hd
      exact ⟨wantedN rfl, g_val (.pointer (some ⟨a, 2, none⟩)) (x_field (of := 0) (off := 2) (fa91_1 a 0) rfl (hd 12 (by kernel_rfl) 17 rfl)) rfl⟩
    refine ⟨?_, ?_⟩
    · intro a' w' hb hf hd
      exact ⟨wantedN rfl, g_val (.pointer (some ⟨a, 2, none⟩)) (x_field (of := 2) (off := 0) (fa58_0 a 2) rfl (hd 13 (by kernel_rfl) 18 rfl)) rfl⟩
    refine ⟨?_, ?_⟩
    · intro a' w' hb hf hd
      exact ⟨wantedN rfl, g_val (.int .i64 x.b) (x_load1 ld3 rfl (hd 14 (by kernel_rfl) 19 rfl) (((unhide HA).kept hf.fr id).c2)) rfl⟩
    refine ⟨?_, ?_⟩
    · intro a' w' hb hf hd
      exact ⟨wantedN rfl, g_val (ptr b) (x_move rfl ((hb.old 1 (by decide +kernel)).trans h1)) rfl⟩
    refine ⟨?_, ?_⟩
    · intro a' w' hb hf hd
      exact ⟨wantedN rfl, g_val (ptr b) (x_nilCheck rfl (hd 16 (by kernel_rfl) 21 rfl)) rfl⟩
    refine ⟨?_, ?_⟩
    · intro a' w' hb hf hd
      exact ⟨wantedN rfl, g_val (.pointer (some ⟨b, 2, none⟩)) (x_field (of := 0) (off := 2) (fa91_1 b 0) rfl (hd 17 (by kernel_rfl) 22 rfl)) rfl⟩
    refine ⟨?_, ?_⟩
    · intro a' w' hb hf hd
      exact ⟨wantedN rfl, g_val (.pointer (some ⟨b, 2, none⟩)) (x_field (of := 2) (off := 0) (fa58_0 b 2) rfl (hd 18 (by kernel_rfl) 23 rfl)) rfl⟩
    refine ⟨?_, ?_⟩
    · intro a' w' hb hf hd
      exact ⟨wantedN rfl, g_val (.int .i64 y.b) (x_load1 ld3 rfl (hd 19 (by kernel_rfl) 24 rfl) (((unhide HB).kept hf.fr id).c2)) rfl⟩
    refine ⟨?_, ?_⟩
    · intro a' w' hb hf hd
      exact ⟨wantedN rfl, g_call 63 _ (e_call2 rfl rfl (hd 15 (by kernel_rfl) 20 rfl) (hd 20 (by kernel_rfl) 25 rfl) cf63) ((compareI w' _ _).mono fun e w'' ⟨he, hw⟩ => ⟨⟨_, he, rfl⟩, hw ▸ Gw.refl _⟩)⟩
    refine ⟨?_, ?_⟩
    · intro a' w' hb hf hd
      exact ⟨wantedN rfl, g_new _ _ (x_build2 rfl (hd 10 (by kernel_rfl) 15 rfl) (hd 21 (by kernel_rfl) 26 rfl)) ⟨w'.heap.size, rfl, cell_two0 _ _ _, cell_two1 _ _ _⟩ (Gw.alloc _ _)⟩
    refine ⟨?_, ?_⟩
    · intro a' w' hb hf hd
      obtain ⟨k, hv, k0, k1⟩ := hd 22 (by kernel_rfl) 27 rfl; exact ⟨wantedN rfl, g_call 61 _ (e_call1 rfl rfl hv cf61) ((or_any w' _ _ k 2 k0 k1).mono fun e w'' ⟨he, hw⟩ => ⟨⟨_, he, rfl⟩, hw ▸ Gw.refl _⟩)⟩
    refine ⟨?_, ?_⟩
    · intro a' w' hb hf hd
      exact ⟨wantedN rfl, g_val _ (x_assign rfl (hd 23 (by kernel_rfl) 28 rfl)) rfl⟩
    exact trivial
  case done =>
    intro a' w' hb hf hall
    have hres : a'.tmps.getD 4 undef = .int .i64 (orI (cm (x.first : Int) (y.first : Int)) (cm x.b y.b)) := hall 24 (by decide) 4 rfl
    have hdf' : a'.defers = [] := by rw [hb.defers]; exact hdf
    have hr : bodyPost Try.prog Try.f60 (fun e w' => e = Ending.returned (.int .i64 (orI (cm (x.first : Int) (y.first : Int)) (cm x.b y.b))) ∧ Gw w w') .ret a' w' :=
      bodyPost_ret (v := .int .i64 (orI (cm (x.first : Int) (y.first : Int)) (cm x.b y.b))) (by
        have h6' : a'.tmps[4]?.getD undef = .int .i64 (orI (cm (x.first : Int) (y.first : Int)) (cm x.b y.b)) := by simpa using hres
        simp [results, Try.results60, go_sem, h6']) hdf' ⟨rfl, hf⟩
    clear hall hb
    apply_assumption
    exact wp_ret hr
end Go.Proofs.Ytdgmlopaeonacaa

namespace Go.Proofs.Ytdgmlopaeonacaa
set_option linter.unusedVariables false
set_option linter.unusedSimpArgs false
open Go.RowKit
set_option linter.unusedVariables false

attribute [local go_sem ↓] Go.wp_at_zero Go.wp_at_succ

theorem Try.info75 : (Try.prog.info? 75).map (fun i => (i.zero, i.size, i.bytes)) = some (some (.pointer none), 1, 8) := by kernel_rfl

/-- How two blocks compare: by First, then by number. -/
def cmP (x y : Nat × Pl) : Int := orI (cm (x.2.first : Int) (y.2.first : Int)) (cm x.2.b y.2.b)
/-- Dirty blocks in their order. -/
def srtP (D : List (Nat × Pl)) : List (Nat × Pl) := D.mergeSort fun x y => !decide (cmP y x < 0)
def dty (R : List (Nat × Pl)) : List (Nat × Pl) := R.filter fun q => q.2.dirty
def pvs (D : List (Nat × Pl)) : List Value := D.map fun q => ptr q.1
theorem pvs_length (D : List (Nat × Pl)) : (pvs D).length = D.length := by simp [pvs]
theorem srtP_perm (D : List (Nat × Pl)) : (srtP D).Perm D := List.mergeSort_perm _ _

/-- What the sort does to a list of blocks. -/
def SortOk : Prop := ∀ (W : World) (v : Value) (N : Nat) (D : List (Nat × Pl)), N = D.length → W.ownsRow 0 75 1 v N (pvs D) → N ≤ 1000000 → (∀ q ∈ D, ∃ o n, NAt W q.1 o n q.2) → (D.map fun q => q.2.b).Nodup →
  Calls Try.prog 59 #[v, .func (.func 60) #[] #[]] W fun e w' => e = .returned (.tuple #[]) ∧ w'.ownsRow 0 75 1 v N (pvs (srtP D)) ∧ Fr (fun k => v.ownBlock = some k) W w'

section
variable (w : World) (p h r u : Nat) (L : List (Int × Nat)) (R : List (Nat × Pl)) (c : Ca)

set_option maxRecDepth 100000 in
set_option maxHeartbeats 1000000 in
theorem dirty_any (hS : SortOk) (hRl : R.length ≤ 1000000) (hbn : (R.map fun q => q.2.b).Nodup) (H : KAt w p h r u L R c) : Calls Try.prog 40 #[ptr p] w fun e w' => (∃ ao cc, e = .returned (.slice ao (dty R).length cc) ∧ RdV w' (.slice ao (dty R).length cc) (pvs (srtP (dty R))) ∧ ∀ b, (Value.slice ao (dty R).length cc).ownBlock = some b → knd w' b = 75 ∧ w.heap.size ≤ b) ∧ Fr (fun _ => False) w w' := by
  have HS := hide hS
  have HBN := hide hbn
  have HN := hide (none_any w p h r u L R c H)
  have c3 := cell_of_heap H.heap 3
  simp at c3
  obtain ⟨o0, hu⟩ := H.ring.start
  have u1 := hu.c1
  have HK := hide H
  have HND := hide H.ring.nd
  obtain ⟨a0, ha0⟩ : ∃ a, a = hd u R := ⟨_, rfl⟩
  rw [← ha0] at u1
  have HA0 := hide ha0
  have HU := hide hu
  obtain ⟨inf, hi0, hz0, hz1, hz2⟩ := info_parts Try.info75
  clear H ha0 hu hS hbn
  unfold ptr at *
  go_enter Try.func40, Try.ntmps40
  go_wp2_with fail
  refine (unhide HN).mono ?_
  rintro e w' ⟨rfl, rfl⟩
  go_wp2_with fail
  go_loopw [4, 3] (fun x y W => ∃ R1 R2 a ao N ac, R = R1 ++ R2 ∧ a = hd u R2 ∧ x = .pointer (some ⟨a, 0, none⟩) ∧ y = .slice ao N ac ∧ N = (dty R1).length ∧ W.ownsRow 0 75 1 (.slice ao N ac) N (pvs (dty R1)) ∧ (∀ b, (Value.slice ao N ac).ownBlock = some b → w.heap.size ≤ b) ∧ Fr (fun _ => False) w W) (fun x _ _ => posOf R x)
  case atStart => exact ⟨[], R, a0, none, 0, 0, rfl, unhide HA0, rfl, rfl, rfl, owns_nilE _ 75, fun b hb => by simp [Value.ownBlock] at hb, Fr.refl _ _⟩
  case round =>
    obtain ⟨R1, R2, a, ao, N, ac, hR, ha, rfl, rfl, hN, hO, hnew, hf⟩ := hrel
    have c3' := (hf.cell (a := ⟨p, 3, none⟩) ((unhide HK).ltB (.inl rfl)) id).trans c3
    have HR := hide hR
    have HNN := hide hN
    have HO := hide hO
    have HNW := hide hnew
    have HF := hide hf
    rcases R2 with _ | ⟨q, R2⟩
    · have ha' : a = u := ha
      subst ha'
      have hsame := neq_same wr a
      have e : R = R1 := by have := unhide HR; rwa [List.append_nil] at this
      have eN : N = (dty R).length := by rw [e]; exact unhide HNN
      have hO2 := unhide HO
      rw [← e] at hO2
      have hle : N ≤ 1000000 := by rw [eN]; exact Nat.le_trans (List.length_filter_le _ _) hRl
      have hso := unhide HS wr (.slice ao N ac) N (dty R) eN hO2 hle (fun q hq => by
        obtain ⟨o, n, hn⟩ := (unhide HK).at (List.mem_filter.1 hq).1
        exact ⟨_, _, hn.kept hf id⟩) ((List.filter_sublist.map _).nodup (unhide HBN))
      have HSO := hide hso
      have EN := hide eN
      clear c3 u1 hR ha hN hO hnew hf e eN hO2 hle hso
      go_wp2_with fail
      refine (unhide HSO).mono ?_
      rintro e2 w2 ⟨rfl, hO3, f3⟩
      have HO3 := hide hO3
      have F3 := hide f3
      clear hO3 f3
      go_wp2_with fail
      go_ret
      have eN := unhide EN
      have hO := unhide HO3
      have e2 : (pvs (srtP (dty R))).length = N := by rw [pvs_length, (srtP_perm _).length_eq, eN]
      have hV : RdV w2 (.slice ao (pvs (srtP (dty R))).length ac) (pvs (srtP (dty R))) := by
        refine RdV.of_owns (base := 0) (e := 75) ?_
        rw [e2]
        exact hO
      rw [e2] at hV
      refine ⟨⟨ao, ac, by rw [← eN]; rfl, by rw [← eN]; exact hV, fun b hb => ⟨?_, unhide HNW b (by rw [eN]; exact hb)⟩⟩, (unhide HF).trans (unhide F3) (fun k hk e => by have := unhide HNW k e; omega)⟩
      rcases hO.2 with ⟨hv, -⟩ | ⟨g, cap, cur, hv, -, hg, -⟩
      · simp only [Value.slice.injEq] at hv
        rw [hv.1] at hb
        simp [Value.ownBlock] at hb
      · simp only [Value.slice.injEq] at hv
        rw [hv.1] at hb
        have e : g = b := by simpa [Value.ownBlock] using hb
        rw [← e]
        exact knd_cells hg
    · have ha' : a = q.1 := ha
      have hau : ¬ q.1 = u := fun e => by
        have := unhide HND
        rw [hR] at this
        exact (List.nodup_cons.1 this).1 (by rw [← e]; simp [adr])
      obtain ⟨o1, hn⟩ := Ring.next (R1 := R1) (R2 := R2) (q := q) (by rw [← hR]; exact (unhide HK).ring)
      have hnN := hn.kept hf id
      have d1 := hnN.c1
      have d6 := hnN.c6
      have HIX : Hid (posOf R (.pointer (some ⟨hd u R2, 0, none⟩)) < posOf R (.pointer (some ⟨q.1, 0, none⟩))) := hide (by rw [hR]; exact pos_next (u := u) (R1 := R1) (R2 := R2) (q := q) (by rw [← hR]; exact unhide HND))
      have hneq := neq_other wr q.1 u hau hnN ((unhide HU).kept hf id)
      obtain ⟨a2, ha2⟩ : ∃ a, a = hd u R2 := ⟨_, rfl⟩
      rw [← ha2] at d1 HIX
      have HA2 := hide ha2
      have hNle : N ≤ 1000000 := by
        have h1 : N ≤ R1.length := by rw [hN]; exact List.length_filter_le _ _
        have := congrArg List.length hR; simp at this; omega
      have hal : q.1 < wr.heap.size := lt_of_heap hnN
      subst ha'
      unfold ptr at *
      obtain ⟨qa, qx⟩ := q
      dsimp only at *
      cases hdy : qx.dirty with
      | false =>
        have HD := hide hdy
        rw [hdy] at d6
        clear c3 u1 hR ha hN hO hnew hf hn hnN ha2 hdy
        go_wp2_with fail
        go_roundw
        case rel => exact ⟨R1 ++ [(qa, qx)], R2, a2, ao, N, ac, by rw [unhide HR]; simp, unhide HA2, rfl, rfl, by rw [unhide HNN]; simp [dty, unhide HD], by have := unhide HO; simpa [dty, unhide HD] using this, unhide HNW, unhide HF⟩
        case measure => exact unhide HIX
      | true =>
        have HD := hide hdy
        rw [hdy] at d6
        clear c3 u1 hR ha hN hO hnew hf hn hnN ha2 hdy
        go_wp2_with (at_builtin; refine wpList_app rfl (.tmp 30) (.tmp 32) 85 rfl 75 inf _ 1 8 Try.underlying85 hi0 hz0 hz1 hz2 rfl (by decide) (.slice ao N ac) N (pvs (dty R1)) rfl (.slice (some ⟨wr.heap.size, 0, none⟩) 1 1) rfl 1 [.pointer (some ⟨qa, 0, none⟩)] ((unhide HO).alloc _) (one_cellV wr _ 75) (fun u hu => by simp at hu; subst hu; rfl) (by omega) (by simp only [maxLen]; omega) ?_)
        intro ao4 ac4 w4 o4 g4 p4
        have f4 : Fr (fun k => (Value.slice ao N ac).ownBlock = some k) wr w4 := ((Fr.refl _ _).alloc (.cells #[.pointer (some ⟨qa, 0, none⟩)] 75)).grown g4 (fun k _ e => e)
        have hF4 : Fr (fun _ => False) w w4 := (unhide HF).trans f4 (fun k hk e => by have := unhide HNW k e; omega)
        have hn4 : ∀ b, (Value.slice ao4 (N + 1) ac4).ownBlock = some b → w.heap.size ≤ b := fun b hb => by
          rcases p4 with e | ⟨k', e, hk'⟩
          · rw [e] at hb; exact unhide HNW b hb
          · rw [e] at hb; simp at hb; have := (unhide HF).size; omega
        have d14 : w4.cell? ⟨qa, 1, none⟩ = some (.pointer (some ⟨a2, 0, none⟩)) := (f4.cell (a := ⟨qa, 1, none⟩) hal (fun e => by
          have h1 := unhide HNW qa e
          have h2 : qa < w.heap.size := (unhide HK).ltB (.inr (.inr (by rw [unhide HR]; simp [adr])))
          omega)).trans d1
        have HO4 : Hid (w4.ownsRow 0 75 1 (.slice ao4 (N + 1) ac4) (N + 1) (pvs (dty (R1 ++ [(qa, qx)])))) := hide (by
          have : pvs (dty (R1 ++ [(qa, qx)])) = pvs (dty R1) ++ [.pointer (some ⟨qa, 0, none⟩)] := by simp [pvs, dty, unhide HD, ptr]
          rw [this]; exact o4)
        have HN4 := hide hn4
        have HF4 := hide hF4
        clear o4 g4 p4 f4 hF4 hn4
        go_wp2_with fail
        go_roundw
        case rel => exact ⟨R1 ++ [(qa, qx)], R2, a2, ao4, N + 1, ac4, by rw [unhide HR]; simp, unhide HA2, rfl, rfl, by rw [unhide HNN]; simp [dty, unhide HD], unhide HO4, unhide HN4, unhide HF4⟩
        case measure => exact unhide HIX
end
end Go.Proofs.Ytdgmlopaeonacaa
