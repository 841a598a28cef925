/-
  Which block makes room.
-/
import Derived.Test.YtdgmlopaeonacaaB1
import Derived.LaidEqlPtr
namespace Go.Proofs.Ytdgmlopaeonacaa
open Go.RowKit
set_option linter.unusedVariables false

attribute [local go_sem ↓] Go.wp_at_zero Go.wp_at_succ

theorem Try.info91 : ∃ j, Try.prog.info? 91 = some j ∧ j.size = 391 := by
  have h : (Try.prog.info? 91).map (fun i => i.size) = some 391 := by kernel_rfl
  exact Option.map_eq_some_iff.1 h
theorem neq_same (w : World) (a : Nat) : (binOp .neq 75 (.pointer (some ⟨a, 0, none⟩)) (.pointer (some ⟨a, 0, none⟩))).run Try.prog w = .ok (.bool false) w := by
  obtain ⟨j, hj, -⟩ := Try.info91
  have h : ∀ d : Nat, (Op.equalIn (d + 1) 75 (.pointer (some ⟨a, 0, none⟩)) (.pointer (some ⟨a, 0, none⟩))).run Try.prog w = .ok true w := fun d => by
    simp [Op.equalIn, run_underlying Try.underlying75, sizeOf, typeInfo, hj, run_sameAddr_same]
  simp only [binOp]
  simp [Op.equal, Op.maxDepth, h 9999]
theorem neq_other (w : World) (a b : Nat) (hne : a ≠ b) {o n o' n' : Value} {x y : Pl} (ha : NAt w a o n x) (hb : NAt w b o' n' y) : (binOp .neq 75 (.pointer (some ⟨a, 0, none⟩)) (.pointer (some ⟨b, 0, none⟩))).run Try.prog w = .ok (.bool true) w := by
  obtain ⟨j, hj, hs⟩ := Try.info91
  have h : ∀ d : Nat, (Op.equalIn (d + 1) 75 (.pointer (some ⟨a, 0, none⟩)) (.pointer (some ⟨b, 0, none⟩))).run Try.prog w = .ok false w := fun d => by
    simp [Op.equalIn, run_underlying Try.underlying75, sizeOf, typeInfo, hj, hs, run_sameAddr_other w (a := ⟨a, 0, none⟩) (b := ⟨b, 0, none⟩) (fun e => hne (congrArg Addr.block e)) ha hb]
  simp only [binOp]
  simp [Op.equal, Op.maxDepth, h 9999]

def hd (u : Nat) : List (Nat × Pl) → Nat
  | [] => u
  | q :: _ => q.1

theorem Ring.next {w : World} {u : Nat} {R1 R2 : List (Nat × Pl)} {q : Nat × Pl} (H : Ring w u (R1 ++ q :: R2)) : ∃ o, NAt w q.1 (ptr o) (ptr (hd u R2)) q.2 := by
  obtain ⟨⟨o, n, h1, h2, h3⟩, -⟩ := H
  rw [show adr (R1 ++ q :: R2) = adr R1 ++ q.1 :: adr R2 by simp [adr]] at h2
  have hc := (Chn.app.1 h2).2
  have e : n q.1 = hd u R2 := by
    cases R2 with
    | nil => exact hc
    | cons b B => exact hc.1
  refine ⟨o q.1, ?_⟩
  rw [← e]
  exact h1 q (by simp)
theorem Ring.start {w : World} {u : Nat} {R : List (Nat × Pl)} (H : Ring w u R) : ∃ o, NAt w u (ptr o) (ptr (hd u R)) (zeroP 0) := by
  obtain ⟨⟨o, n, h1, h2, h3⟩, -⟩ := H
  have e : n u = hd u R := by
    cases R with
    | nil => exact h2
    | cons b B => exact h2.1
  refine ⟨o u, ?_⟩
  rw [← e]
  exact h1 (u, zeroP 0) (by simp)

/-- May the block leave? Why is there none? -/
def lvO (c : Ca) (x : Pl) : Bool := !(decide (0 < x.pins)) && (!x.dirty || decide (x.last ≤ c.safe))
def lvE (R : List (Nat × Pl)) : Int := if R.all (fun q => decide (0 < q.2.pins)) then 90 else 91
theorem lvE_app (R : List (Nat × Pl)) (q : Nat × Pl) : lvE (R ++ [q]) = if 0 < q.2.pins then lvE R else 91 := by
  unfold lvE
  simp only [List.all_append, List.all_cons, List.all_nil, Bool.and_true]
  by_cases h : 0 < q.2.pins
  · have e : decide (0 < q.2.pins) = true := by simpa using h
    rw [if_pos h, e, Bool.and_true]
  · have e : decide (0 < q.2.pins) = false := by simpa using h
    rw [if_neg h, e, Bool.and_false]
    rfl

def posOf (R : List (Nat × Pl)) : Value → Nat
  | .pointer (some a) => R.length - (adr R).idxOf a.block
  | _ => 0

theorem idx_skip {a : Nat} {B : List Nat} : ∀ {A : List Nat}, a ∉ A → (A ++ a :: B).idxOf a = A.length
  | [], _ => by simp
  | b :: A, h => by
    have hb : ¬ b = a := fun e => h (by simp [e])
    have := idx_skip (A := A) (B := B) (fun e => h (List.mem_cons_of_mem _ e))
    rw [List.cons_append, List.idxOf_cons, this]
    have e : (b == a) = false := by simpa using hb
    rw [e]
    rfl
theorem idx_mid {u : Nat} {R1 R2 : List (Nat × Pl)} {q : Nat × Pl} (h : (u :: adr (R1 ++ q :: R2)).Nodup) : (adr (R1 ++ q :: R2)).idxOf q.1 = R1.length := by
  have h2 := mid_not h
  rw [show adr (R1 ++ q :: R2) = adr R1 ++ q.1 :: adr R2 by simp [adr], idx_skip (fun e => h2 (by rw [adr_app]; exact List.mem_cons_of_mem _ (List.mem_append_left _ e)))]
  simp [adr]
theorem idx_end {u : Nat} {R : List (Nat × Pl)} (h : (u :: adr R).Nodup) : (adr R).idxOf u = R.length := by
  rw [List.idxOf_eq_length (List.nodup_cons.1 h).1]; simp [adr]

theorem pos_next {u : Nat} {R1 R2 : List (Nat × Pl)} {q : Nat × Pl} (h : (u :: adr (R1 ++ q :: R2)).Nodup) : posOf (R1 ++ q :: R2) (.pointer (some ⟨hd u R2, 0, none⟩)) < posOf (R1 ++ q :: R2) (.pointer (some ⟨q.1, 0, none⟩)) := by
  unfold posOf
  dsimp only
  rw [idx_mid h]
  have hl : (R1 ++ q :: R2).length = R1.length + 1 + R2.length := by simp; omega
  cases R2 with
  | nil =>
    show (R1 ++ [q]).length - (adr (R1 ++ [q])).idxOf u < _
    rw [idx_end h]
    simp
  | cons b B =>
    have e : R1 ++ q :: b :: B = (R1 ++ [q]) ++ b :: B := by simp
    show (R1 ++ q :: b :: B).length - (adr (R1 ++ q :: b :: B)).idxOf b.1 < _
    have h2 := h
    rw [e] at h2
    have := idx_mid h2
    rw [e, this]
    simp
    omega

section
variable (w : World) (p h r u : Nat) (L : List (Int × Nat)) (R : List (Nat × Pl)) (c : Ca)

set_option maxRecDepth 100000 in
set_option maxHeartbeats 1000000 in
theorem leaver_any (H : KAt w p h r u L R c) : Calls Try.prog 64 #[ptr p] w fun e w' => ((∃ R1 q R2, R = R1 ++ q :: R2 ∧ (∀ x ∈ R1, lvO c x.2 = false) ∧ lvO c q.2 = true ∧ e = .returned (.tuple #[ptr q.1, .int .i64 0])) ∨ ((∀ x ∈ R, lvO c x.2 = false) ∧ e = .returned (.tuple #[.pointer none, .int .i64 (lvE R)]))) ∧ ∃ n, w' = w.drewN n := by
  have c3 := cell_of_heap H.heap 3
  simp at c3
  obtain ⟨o0, hu⟩ := H.ring.start
  have u1 := hu.c1
  have HK := hide H
  have hnd := H.ring.nd
  have HND := hide hnd
  obtain ⟨a0, ha0⟩ : ∃ a, a = hd u R := ⟨_, rfl⟩
  rw [← ha0] at u1
  have HA0 := hide ha0
  clear H hnd ha0
  have HU := hide hu
  clear hu
  unfold ptr at *
  go_enter Try.func64, Try.ntmps64
  go_wp2_with fail
  go_loopw [5, 4] (fun x y W => ∃ R1 R2 a, R = R1 ++ R2 ∧ a = hd u R2 ∧ x = .pointer (some ⟨a, 0, none⟩) ∧ y = .int .i64 (lvE R1) ∧ (∀ q ∈ R1, lvO c q.2 = false) ∧ ∃ n, W = w.drewN n) (fun x _ _ => posOf R x)
  case atStart => exact ⟨[], R, a0, rfl, unhide HA0, rfl, rfl, fun q hq => by simp at hq, 0, rfl⟩
  case round =>
    obtain ⟨R1, R2, a, hR, ha, rfl, rfl, hall, nn, rfl⟩ := hrel
    have c3' : (w.drewN nn).cell? ⟨p, 3, none⟩ = some (.pointer (some ⟨u, 0, none⟩)) := by simpa using c3
    have HR := hide hR
    have HA := hide hall
    rcases R2 with _ | ⟨q, R2⟩
    · have ha' : a = u := ha
      subst ha'
      have hsame := neq_same (w.drewN nn) a
      clear hall c3 u1 hR ha
      go_wp2_with fail
      go_ret2
      have e : R = R1 := by have := unhide HR; rwa [List.append_nil] at this
      exact ⟨.inr ⟨by rw [e]; exact unhide HA, by rw [e]; rfl⟩, _, rfl⟩
    · have ha' : a = q.1 := ha
      have hau : ¬ q.1 = u := fun e => by
        have := unhide HND
        rw [hR] at this
        exact (List.nodup_cons.1 this).1 (by rw [← e]; simp [adr])
      obtain ⟨o1, hn⟩ := Ring.next (R1 := R1) (R2 := R2) (q := q) (by rw [← hR]; exact (unhide HK).ring)
      have hnN : NAt (w.drewN nn) q.1 (ptr o1) (ptr (hd u R2)) q.2 := hn.kept (Fr.ofDrewN (S := fun _ => False) w nn) id
      have HM := hide (may_any (w.drewN nn) p h r u L R c q (by rw [hR]; simp) ((unhide HK).kept0 (Fr.ofDrewN w nn)))
      have d1 := hnN.c1
      have d5 := hnN.c5
      have d6 := hnN.c6
      have hE := lvE_app R1 q
      have HIX : Hid (posOf R (.pointer (some ⟨hd u R2, 0, none⟩)) < posOf R (.pointer (some ⟨q.1, 0, none⟩))) := hide (by rw [hR]; exact pos_next (u := u) (R1 := R1) (R2 := R2) (q := q) (by rw [← hR]; exact unhide HND))
      obtain ⟨a2, ha2⟩ : ∃ a, a = hd u R2 := ⟨_, rfl⟩
      rw [← ha2] at d1 HIX
      have HA2 := hide ha2
      have hlv : lvO c q.2 = (!(decide (0 < q.2.pins)) && (!q.2.dirty || decide (q.2.last ≤ c.safe))) := rfl
      subst ha'
      have hneq := neq_other (w.drewN nn) q.1 u hau hnN ((unhide HU).kept (Fr.ofDrewN (S := fun _ => False) w nn) id)
      clear hall c3 u1 hR ha hn hnN ha2
      unfold ptr at *
      obtain ⟨qa, qx⟩ := q
      dsimp only at *
      by_cases hp0 : 0 < qx.pins
      · have b0 : decide (0 < qx.pins) = true := by simpa using hp0
        rw [if_pos hp0] at hE
        rw [b0] at hlv
        have HE := hide hE
        have HLV := hide hlv
        clear hE hlv hp0
        go_wp2_with fail
        go_roundw
        case rel => exact ⟨R1 ++ [(qa, qx)], R2, a2, by rw [unhide HR]; simp, unhide HA2, rfl, by rw [unhide HE], fun x hx => by
            rcases List.mem_append.1 hx with h | h
            · exact unhide HA x h
            · simp at h; subst h; rw [unhide HLV]; rfl, _, rfl⟩
        case measure => exact unhide HIX
      · have b0 : decide (0 < qx.pins) = false := by simpa using hp0
        rw [if_neg hp0] at hE
        rw [b0] at hlv
        have HE := hide hE
        clear hE hp0
        rcases hd0 : qx.dirty with _ | _
        · rw [hd0] at d6 hlv
          have HLV := hide hlv
          clear hlv hd0 HM
          go_wp2_with fail
          go_ret2
          exact ⟨.inl ⟨R1, (qa, qx), R2, unhide HR, unhide HA, by rw [unhide HLV]; rfl, rfl⟩, _, rfl⟩
        · rw [hd0] at d6 hlv
          rcases hm0 : decide (qx.last ≤ c.safe) with _ | _
          · rw [hm0] at hlv HM
            have HLV := hide hlv
            clear hlv hd0 hm0
            go_wp2_with fail
            refine (unhide HM).mono ?_
            rintro e w5 ⟨rfl, n5, rfl⟩
            have d1' : (w.drewN (nn + n5)).cell? ⟨qa, 1, none⟩ = some (.pointer (some ⟨a2, 0, none⟩)) := by simpa using d1
            go_wp2_with fail
            go_roundw
            case rel => exact ⟨R1 ++ [(qa, qx)], R2, a2, by rw [unhide HR]; simp, unhide HA2, rfl, by rw [unhide HE], fun x hx => by
                rcases List.mem_append.1 hx with h | h
                · exact unhide HA x h
                · simp at h; subst h; rw [unhide HLV]; rfl, _, rfl⟩
            case measure => exact unhide HIX
          · rw [hm0] at hlv HM
            have HLV := hide hlv
            clear hlv hd0 hm0
            go_wp2_with fail
            refine (unhide HM).mono ?_
            rintro e w5 ⟨rfl, n5, rfl⟩
            go_wp2_with fail
            go_ret2
            exact ⟨.inl ⟨R1, (qa, qx), R2, unhide HR, unhide HA, by rw [unhide HLV]; rfl, rfl⟩, _, rfl⟩
end
end Go.Proofs.Ytdgmlopaeonacaa
