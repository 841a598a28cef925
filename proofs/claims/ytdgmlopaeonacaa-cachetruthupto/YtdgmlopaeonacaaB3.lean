/-
  Room is made.
-/
import Derived.Test.YtdgmlopaeonacaaB2
namespace Go.Proofs.Ytdgmlopaeonacaa
open Go.RowKit
set_option linter.unusedVariables false

attribute [local go_sem ↓] Go.wp_at_zero Go.wp_at_succ

/-- Cache and home behind a call: what they hold; only their blocks may have turned. -/
def Cp (w w' : World) (p h r u : Nat) (dv lv : Value) (R : List (Nat × Pl)) (c : Ca) (m : Hm) (l : List Pl) : Prop :=
  ∃ lv' vs' L' R', KAt w' p h r u L' R' c ∧ HAt w' h dv lv' vs' m ∧ R'.map Prod.snd = l ∧ (∀ k ∈ adr R', k ∈ adr R ∨ w.heap.size ≤ k) ∧ (∀ b, lv'.ownBlock = some b → lv.ownBlock = some b ∨ w.heap.size ≤ b) ∧ Fr (fun k => HB h dv lv k ∨ KB p r u R k) w w'

section
variable {w w1 w2 : World} {p h r u : Nat} {dv lv : Value} {vs : List Value} {L : List (Int × Nat)} {R : List (Nat × Pl)} {c c1 c2 : Ca} {m m1 m2 : Hm} {l1 l2 : List Pl}

theorem Cp.same (H : KAt w p h r u L R c) (HH : HAt w h dv lv vs m) {w1 : World} (f : Fr (fun _ => False) w w1) : Cp w w1 p h r u dv lv R c m (R.map Prod.snd) :=
  ⟨lv, vs, L, R, H.kept0 f, HH.kept0 f, rfl, fun _ h => .inl h, fun _ h => .inl h, f.mono (fun _ _ e => e.elim)⟩

theorem Cp.go (h1 : Cp w w1 p h r u dv lv R c1 m1 l1) (h2 : ∀ lv' vs' L' R', KAt w1 p h r u L' R' c1 → HAt w1 h dv lv' vs' m1 → R'.map Prod.snd = l1 → Cp w1 w2 p h r u dv lv' R' c2 m2 l2) : Cp w w2 p h r u dv lv R c2 m2 l2 := by
  obtain ⟨lv', vs', L', R', k1, k2, k3, k4, k5, f1⟩ := h1
  obtain ⟨lv2, vs2, L2, R2, j1, j2, j3, j4, j5, f2⟩ := h2 lv' vs' L' R' k1 k2 k3
  have hs := f1.size
  refine ⟨lv2, vs2, L2, R2, j1, j2, j3, fun k hk => ?_, fun b hb => ?_, f1.trans f2 (fun k hk e => ?_)⟩
  · rcases j4 k hk with e | e
    · exact k4 k e
    · right; omega
  · rcases j5 b hb with e | e
    · exact k5 b e
    · right; omega
  · rcases e with (e | e | e) | (e | e | e)
    · exact .inl (.inl e)
    · exact .inl (.inr (.inl e))
    · rcases k5 k e with e | e
      · exact .inl (.inr (.inr e))
      · omega
    · exact .inr (.inl e)
    · exact .inr (.inr (.inl e))
    · rcases List.mem_cons.1 e with e | e
      · exact .inr (.inr (.inr (by rw [e]; simp)))
      · rcases k4 k e with e | e
        · exact .inr (.inr (.inr (List.mem_cons_of_mem _ e)))
        · omega
end

/-- Making room, plainly: the answer, what stays, the home. -/
def lvE' (l : List Pl) : Int := if l.all (fun x => decide (0 < x.pins)) then 90 else 91
def rmR (c : Ca) (m : Hm) (l : List Pl) : Int × List Pl × Hm :=
  if l.length < c.places then (0, l, m)
  else match l.findIdx? (lvO c) with
    | none => (lvE' l, l, m)
    | some i => match l[i]? with
      | none => (0, l, m)
      | some x => if x.dirty = true then (if m.fa = true then (77, l, m.one) else (0, l.eraseIdx i, m.put x.b.toNat x.P)) else (0, l.eraseIdx i, m)

theorem lvE'_map (R : List (Nat × Pl)) : lvE' (R.map Prod.snd) = lvE R := by unfold lvE' lvE; rw [List.all_map]; rfl
theorem find_some {c : Ca} {R1 R2 : List (Nat × Pl)} {q : Nat × Pl} (h1 : ∀ x ∈ R1, lvO c x.2 = false) (h2 : lvO c q.2 = true) : ((R1 ++ q :: R2).map Prod.snd).findIdx? (lvO c) = some R1.length ∧ ((R1 ++ q :: R2).map Prod.snd)[R1.length]? = some q.2 ∧ ((R1 ++ q :: R2).map Prod.snd).eraseIdx R1.length = (R1 ++ R2).map Prod.snd := by
  refine ⟨?_, ?_, ?_⟩
  · rw [List.findIdx?_eq_some_iff_getElem]
    refine ⟨by simp, by simpa using h2, fun j hj => ?_⟩
    have : ((R1 ++ q :: R2).map Prod.snd)[j]'(by simp; omega) = (R1[j]).2 := by simp [hj]
    rw [this, h1 _ (List.getElem_mem hj)]
    decide
  · simp
  · simp [List.eraseIdx_append_of_length_le]
theorem find_none {c : Ca} {R : List (Nat × Pl)} (h : ∀ x ∈ R, lvO c x.2 = false) : (R.map Prod.snd).findIdx? (lvO c) = none := by
  rw [List.findIdx?_eq_none_iff]
  intro x hx
  obtain ⟨q, hq, rfl⟩ := List.mem_map.1 hx
  exact h q hq

section
variable (w : World) (p h r u : Nat) (L : List (Int × Nat)) (R : List (Nat × Pl)) (c : Ca) (dv lv : Value) (vs : List Value) (m : Hm)

set_option maxRecDepth 100000 in
set_option maxHeartbeats 1000000 in
theorem makeRoom_any (H : KAt w p h r u L R c) (HH : HAt w h dv lv vs m) (hD : ∀ q ∈ R, q.2.b < (m.D.length : Int)) (hc : m.calls < 1000000000) : Calls Try.prog 45 #[ptr p] w fun e w' => e = .returned (.int .i64 (rmR c m (R.map Prod.snd)).1) ∧ Cp w w' p h r u dv lv R c (rmR c m (R.map Prod.snd)).2.2 (rmR c m (R.map Prod.snd)).2.1 := by
  have c1 := cell_of_heap H.heap 1
  have c2 := cell_of_heap H.heap 2
  simp at c1 c2
  have hlen := H.len
  have hml := fun n => run_len_map (H.mp.kept (Fr.ofDrewN (S := fun _ => False) w n) id)
  have HK := hide H
  have HHH := hide HH
  have HD := hide hD
  have hnum := H.num
  have HC := hide hc
  clear H HH hD hc
  unfold ptr at *
  by_cases hlt : R.length < c.places
  · have e : rmR c m (R.map Prod.snd) = (0, R.map Prod.snd, m) := by unfold rmR; rw [if_pos (by simpa using hlt)]
    rw [e]
    rw [hlen] at hml
    have bl : decide (R.length < c.places) = true := by simpa using hlt
    clear e hlen hnum hlt
    go_enter Try.func45, Try.ntmps45
    go_wp2_with fail
    go_quiet (fail)
    go_wp2_with fail
    go_ret
    exact ⟨rfl, Cp.same (unhide HK) (unhide HHH) (Fr.ofDrewN _ _)⟩
  · have hge : ¬ (R.map Prod.snd).length < c.places := by simpa using hlt
    rw [hlen] at hml
    have bl : decide (R.length < c.places) = false := by simpa using hlt
    have HLV := hide (fun n => leaver_any (w.drewN n) p h r u L R c ((unhide HK).kept0 (Fr.ofDrewN w n)))
    have HGE := hide hge
    clear hlen hnum hlt hge
    unfold ptr at HLV
    go_enter Try.func45, Try.ntmps45
    go_wp2_with fail
    go_quiet (fail)
    go_wp2_with fail
    refine (unhide HLV _).mono ?_
    rintro e w2 ⟨hres, n2, rfl⟩
    rcases hres with ⟨R1, q, R2, hR, hno, hyes, rfl⟩ | ⟨hno, rfl⟩
    · obtain ⟨e1, e2, e3⟩ := find_some (R2 := R2) hno hyes
      obtain ⟨qa, qx⟩ := q
      subst hR
      dsimp only at e2
      have hqb : qx.b < (m.D.length : Int) := unhide HD (qa, qx) (by simp)
      have fd : Fr (fun _ => False) w (w.drewN (nq + n2)) := Fr.ofDrewN _ _
      have hKd := (unhide HK).kept0 fd
      have hHd := (unhide HHH).kept0 fd
      obtain ⟨on, nn, hn⟩ := hKd.at (q := (qa, qx)) (by simp)
      have d6 := hn.c6
      have FD := hide fd
      have HKd := hide hKd
      have HHd := hide hHd
      have HQB := hide hqb
      clear hKd hHd hn fd hqb hno hyes HLV
      dsimp only at d6 ⊢
      rcases hd0 : qx.dirty with _ | _
      · have e : rmR c m ((R1 ++ (qa, qx) :: R2).map Prod.snd) = (0, (R1 ++ R2).map Prod.snd, m) := by
          unfold rmR; rw [if_neg (unhide HGE), e1]; dsimp only; rw [e2, e3]; dsimp only; rw [hd0]; rfl
        have HE := hide e
        rw [hd0] at d6
        have HFG := hide (forget_any (w.drewN (nq + n2)) p h r u L c R1 R2 (qa, qx) (unhide HKd))
        unfold ptr at HFG
        clear e e1 e2 e3 hd0
        go_wp2_with fail
        refine (unhide HFG).mono ?_
        rintro e w5 ⟨rfl, ⟨L', hK5⟩, f5⟩
        have hH5 := (unhide HHd).kept f5 (fun k hk => by
          rcases (unhide HKd).knds hk with e | e | e <;> rw [e] <;> decide)
        have HK5 := hide hK5
        have HH5 := hide hH5
        have F5 := hide f5
        clear hK5 hH5 f5 HFG
        go_wp2_with fail
        go_ret
        rw [unhide HE]
        refine ⟨rfl, lv, vs, L', R1 ++ R2, unhide HK5, unhide HH5, rfl, fun k hk => ?_, fun b hb => .inl hb, ((unhide FD).mono (fun _ _ e => e.elim)).trans (unhide F5) (fun k _ e => .inr e)⟩
        simp [adr] at hk ⊢
        rcases hk with h | h
        · exact .inl (.inl h)
        · exact .inl (.inr (.inr h))
      · have hcalls := unhide HC
        have HWH := hide (whome_any (w.drewN (nq + n2)) p h r u L c dv lv vs m R1 R2 qa qx (unhide HKd) (unhide HHd) (unhide HQB) hcalls)
        unfold ptr at HWH
        rw [hd0] at d6
        rcases hfa : m.fa with _ | _
        · have e : rmR c m ((R1 ++ (qa, qx) :: R2).map Prod.snd) = (0, (R1 ++ R2).map Prod.snd, m.put qx.b.toNat qx.P) := by
            unfold rmR; rw [if_neg (unhide HGE), e1]; dsimp only; rw [e2, e3]; dsimp only; rw [hd0, if_pos rfl, hfa]; rfl
          have hE : whE m = 0 := by unfold whE; rw [hfa]; rfl
          have hM : m.wr qx.b qx.P = m.put qx.b.toNat qx.P := by unfold Hm.wr; rw [hfa]; rfl
          rw [hE, hM] at HWH
          have HE := hide e
          clear e e1 e2 e3 hd0 hfa hE hM hcalls
          go_wp2_with fail
          refine (unhide HWH).mono ?_
          rintro e w5 ⟨rfl, hK5, ⟨lv5, vs5, hH5, hl5⟩, f5⟩
          have HFG := hide (forget_any w5 p h r u L c R1 R2 (qa, clP m qx) hK5)
          unfold ptr at HFG
          have HK5 := hide hK5
          have HH5 := hide hH5
          have HL5 := hide hl5
          have F5 := hide f5
          clear hK5 hH5 hl5 f5 HWH
          go_wp2_with fail
          refine (unhide HFG).mono ?_
          rintro e w6 ⟨rfl, ⟨L', hK6⟩, f6⟩
          have hH6 := (unhide HH5).kept f6 (fun k hk => by
            rcases (unhide HK5).knds hk with e | e | e <;> rw [e] <;> decide)
          have HK6 := hide hK6
          have HH6 := hide hH6
          have F6 := hide f6
          clear hK6 hH6 f6 HFG
          go_wp2_with fail
          go_ret
          rw [unhide HE]
          refine ⟨rfl, lv5, vs5, L', R1 ++ R2, unhide HK6, unhide HH6, rfl, fun k hk => ?_, unhide HL5, (((unhide FD).mono (fun _ _ e => e.elim)).trans (unhide F5) (fun k _ e => ?_)).trans (unhide F6) (fun k _ e => ?_)⟩
          · simp [adr] at hk ⊢
            rcases hk with h | h
            · exact .inl (.inl h)
            · exact .inl (.inr (.inr h))
          · rcases e with e | e
            · exact .inl e
            · exact .inr (.inr (.inr (by rw [e]; simp [adr])))
          · have hadr : adr (R1 ++ (qa, clP m qx) :: R2) = adr (R1 ++ (qa, qx) :: R2) := by simp [adr]
            rcases e with e | e | e
            · exact .inr (.inl e)
            · exact .inr (.inr (.inl e))
            · rw [hadr] at e; exact .inr (.inr (.inr e))
        · have e : rmR c m ((R1 ++ (qa, qx) :: R2).map Prod.snd) = (77, (R1 ++ (qa, qx) :: R2).map Prod.snd, m.one) := by
            unfold rmR; rw [if_neg (unhide HGE), e1]; dsimp only; rw [e2]; dsimp only; rw [hd0, if_pos rfl, hfa]; rfl
          have hE : whE m = 77 := by unfold whE; rw [hfa]; rfl
          have hM : m.wr qx.b qx.P = m.one := by unfold Hm.wr; rw [hfa]; rfl
          have hC : clP m qx = qx := by unfold clP; rw [hfa]; rfl
          rw [hE, hM, hC] at HWH
          have HE := hide e
          clear e e1 e2 e3 hd0 hfa hE hM hC hcalls
          go_wp2_with fail
          refine (unhide HWH).mono ?_
          rintro e w5 ⟨rfl, hK5, ⟨lv5, vs5, hH5, hl5⟩, f5⟩
          have HK5 := hide hK5
          have HH5 := hide hH5
          have HL5 := hide hl5
          have F5 := hide f5
          clear hK5 hH5 hl5 f5 HWH
          go_wp2_with fail
          go_ret
          rw [unhide HE]
          refine ⟨rfl, lv5, vs5, L, _, unhide HK5, unhide HH5, rfl, fun k hk => .inl hk, unhide HL5, ((unhide FD).mono (fun _ _ e => e.elim)).trans (unhide F5) (fun k _ e => ?_)⟩
          rcases e with e | e
          · exact .inl e
          · exact .inr (.inr (.inr (by rw [e]; simp [adr])))
    · have e : rmR c m (R.map Prod.snd) = (lvE R, R.map Prod.snd, m) := by
        unfold rmR; rw [if_neg (unhide HGE), find_none hno]; simp only [lvE'_map]
      have hv : (lvE R = 90 ∨ lvE R = 91) := by unfold lvE; split <;> simp
      have HE := hide e
      have bne : (lvE R != 0) = true := by rcases hv with h | h <;> rw [h] <;> rfl
      generalize lvE R = vE at *
      clear hv hno e HLV
      go_wp2_with fail
      go_ret
      rw [unhide HE]
      exact ⟨rfl, Cp.same (unhide HK) (unhide HHH) (Fr.ofDrewN _ _)⟩
end
end Go.Proofs.Ytdgmlopaeonacaa
