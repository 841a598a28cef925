/-
  The walks of package disk's Fail, refused, Lose, Injured.
-/
import Derived.Test.YtdhendcogjhgfaaD5
namespace Go.Proofs.Ytdhendcogjhgfaa
open Go.RowKit
set_option linter.unusedVariables false

attribute [local go_sem ↓] Go.wp_at_zero Go.wp_at_succ

/-- A disk goes on: where it lies, and what may have turned. -/
structure KSt (w w' : World) (p gs : Nat) (qv : Value) (d' : Dk) : Prop where
  ex : ∃ qv', KAt w' p gs qv' d' ∧ ∀ b, qv'.ownBlock = some b → qv.ownBlock = some b ∨ w.heap.size ≤ b
  fr : Fr (fun k => k = p ∨ k = gs ∨ qv.ownBlock = some k) w w'

theorem KSt.same {w : World} {p gs : Nat} {qv : Value} {d : Dk} (h : KAt w p gs qv d) : KSt w w p gs qv d := ⟨⟨qv, h, fun b hb => .inl hb⟩, Fr.refl _ _⟩

theorem KSt.of_new {w w' : World} {p gs : Nat} {qv : Value} {d : Dk} (h : KAt w p gs qv d) (f : Fr (fun _ => False) w w') : KSt w w' p gs qv d :=
  ⟨⟨qv, h.kept f id id (fun _ _ h => h), fun b hb => .inl hb⟩, f.mono (fun _ _ h => h.elim)⟩

section
variable (w : World) (p gs : Nat) (qv : Value) (d : Dk)

/-- A failed disk. -/
def faD (d : Dk) : Dk := { d with Q := [], off := true }

theorem fail_nil : Calls Try.prog 36 #[.pointer none] w fun e w' => e = .returned (.tuple #[]) ∧ w = w' := by
  go_enter Try.func36, Try.ntmps36
  go_wp2_with fail
  exact bodyPost_ret (results_none rfl _ _ _) rfl ⟨rfl, rfl⟩

theorem fail_any (h : KAt w p gs qv d) : Calls Try.prog 36 #[.pointer (some ⟨p, 0, none⟩)] w fun e w' => e = .returned (.tuple #[]) ∧ KSt w w' p gs qv (faD d) := by
  have c2 := cell_of_heap h.heap 2
  have c3 := cell_of_heap h.heap 3
  have z2 := frozen_of_heap h.heap 2
  have z3 := frozen_of_heap h.heap 3
  simp at c2 c3
  have hne := h.ne
  have h1 := heap_setCell_same w p 3 _ 78 (.bool true) h.heap
  have h2 := heap_setCell_same _ p 2 _ 78 (.slice none 0 0) h1
  have hK : KSt w ((w.setCell ⟨p, 3, none⟩ (.bool true)).setCell ⟨p, 2, none⟩ (.slice none 0 0)) p gs qv (faD d) := by
    have f : Fr (fun k => k = p) w ((w.setCell ⟨p, 3, none⟩ (.bool true)).setCell ⟨p, 2, none⟩ (.slice none 0 0)) := ((Fr.refl (fun k => k = p) w).setCell (p := ⟨p, 3, none⟩) (fun _ => rfl) _).setCell (p := ⟨p, 2, none⟩) (fun _ => rfl) _
    refine ⟨⟨.slice none 0 0, ⟨by rw [h2]; rfl, ?_, ⟨by simp [faD, wrF], .inl ⟨rfl, rfl⟩⟩, ⟨h.ok.size, h.ok.len, h.ok.sec, fun q hq => by simp [faD] at hq, by simp [faD], h.ok.few, h.ok.lay⟩⟩, fun b hb => by simp [Value.ownBlock] at hb⟩, f.mono (fun k _ e => .inl e)⟩
    rw [f.block gs (lt_of_heap h.secs) (fun e => hne e.symm)]
    exact h.secs
  have HK := hide hK
  clear h h1 h2 hK hne
  go_enter Try.func36, Try.ntmps36
  go_wp2_with fail
  go_end0
  exact ⟨rfl, unhide HK⟩

/-- Why a sector can not be injured. -/
def reE (d : Dk) (a : Int) (r : Bool) : Int :=
  if (hasB d a && r) = true then (if d.off = true then 41 else if (d.S.getD a.toNat ([], 0)).2 = 0 then 0 else 8) else 2

theorem refused_nil (a : Int) (r : Bool) : Calls Try.prog 58 #[.pointer none, .int .i64 a, .bool r] w fun e w' => e = .returned (.int .i64 7) ∧ w = w' := by
  go_enter Try.func58, Try.ntmps58
  go_wp2_with fail
  go_ret
  exact ⟨rfl, rfl⟩

set_option maxHeartbeats 1000000 in
set_option maxRecDepth 100000 in
theorem refused_any (a : Int) (r : Bool) (h : KAt w p gs qv d) : Calls Try.prog 58 #[.pointer (some ⟨p, 0, none⟩), .int .i64 a, .bool r] w fun e w' => e = .returned (.int .i64 (reE d a r)) ∧ w = w' := by
  have HH := hide (has_any w p gs qv d a h)
  have c1 := cell_of_heap h.heap 1
  have c3 := cell_of_heap h.heap 3
  simp at c1 c3
  unfold reE
  rcases hb : hasB d a with _ | _
  · rw [hb] at HH
    simp only [Bool.false_and, Bool.false_eq_true, if_false]
    clear h hb
    go_enter Try.func58, Try.ntmps58
    go_wp2_with (go_at_call 54; refine (unhide HH).mono ?_; rintro e w' ⟨rfl, rfl⟩)
    go_ret
    exact ⟨rfl, rfl⟩
  · rw [hb] at HH
    obtain ⟨i, rfl, hi⟩ := hasB_iff.1 hb
    rcases r with _ | _
    · simp only [Bool.and_false, Bool.false_eq_true, if_false]
      clear h hb
      go_enter Try.func58, Try.ntmps58
      go_wp2_with (go_at_call 54; refine (unhide HH).mono ?_; rintro e w' ⟨rfl, rfl⟩)
      go_ret
      exact ⟨rfl, rfl⟩
    · simp only [Bool.and_true, if_true]
      rcases ho : d.off with _ | _
      · rw [ho] at c3
        simp only [Bool.false_eq_true, if_false, Int.toNat_natCast]
        obtain ⟨-, r2⟩ := h.sbytes i hi
        have hgd : d.S.getD i ([], 0) = d.S[i] := by simp [List.getD, hi]
        simp only [hgd]
        generalize d.S[i] = s at *
        by_cases hs : s.2 = 0
        · rw [if_pos hs]
          have e1 : ((s.2.toNat : Nat) : Int) = 0 := by rw [hs]; rfl
          rw [e1] at r2
          clear h hb ho hgd hs e1
          go_enter Try.func58, Try.ntmps58
          go_wp2_with (go_at_call 54; refine (unhide HH).mono ?_; rintro e w' ⟨rfl, rfl⟩)
          go_ret
          exact ⟨rfl, rfl⟩
        · rw [if_neg hs]
          have e1 : (((s.2.toNat : Nat) : Int) != 0) = true := by
            simp only [bne_iff_ne, ne_eq]
            intro e
            have e' : s.2.toNat = 0 := by omega
            exact hs (UInt8.toNat_inj.1 e')
          generalize hhv : ((s.2.toNat : Nat) : Int) = hv at *
          clear h hb ho hgd hs hhv
          go_enter Try.func58, Try.ntmps58
          go_wp2_with (go_at_call 54; refine (unhide HH).mono ?_; rintro e w' ⟨rfl, rfl⟩)
          go_ret
          exact ⟨rfl, rfl⟩
      · rw [ho] at c3
        simp only [if_true]
        clear h hb ho
        go_enter Try.func58, Try.ntmps58
        go_wp2_with (go_at_call 54; refine (unhide HH).mono ?_; rintro e w' ⟨rfl, rfl⟩)
        go_ret
        exact ⟨rfl, rfl⟩

/-- A disk with another sector. -/
def seD (d : Dk) (i : Nat) (s : List UInt8 × UInt8) : Dk := { d with S := d.S.set i s }

theorem seD_ok {d : Dk} (h : d.Ok) (i : Nat) (s : List UInt8 × UInt8) (hs : s.1.length = d.size ∧ s.2.toNat ≤ 2) : (seD d i s).Ok :=
  ⟨h.size, by simpa [seD] using h.len, fun x hx => by
    rcases List.mem_or_eq_of_mem_set hx with hx | rfl
    · exact h.sec x hx
    · exact hs, fun q hq => ⟨(h.wr q hq).1, by simpa [seD] using (h.wr q hq).2⟩, h.room, h.few, by simpa [seD] using h.lay⟩

theorem secC_hurt {s : List UInt8 × UInt8} (h : s.1.length ≤ 512) (c : UInt8) : (secC s).set 512 (.int .u8 ((c.toNat : Nat) : Int)) = secC (s.1, c) := by
  unfold secC
  rw [List.set_append_right _ _ (by rw [bvs_length, pad_length h]; omega), bvs_length, pad_length h]
  rfl

theorem secF_sethurt {d : Dk} (h : d.Ok) (i : Nat) (hi : i < d.S.length) (c : UInt8) : (secF d.S).set (i * 513 + 512) (.int .u8 ((c.toNat : Nat) : Int)) = secF (d.S.set i ((d.S[i]).1, c)) := by
  unfold secF
  rw [flat_set h.secl i 512 (by simpa using hi) (by omega), List.getElem_map, secC_hurt (by rw [(h.sec _ (List.getElem_mem hi)).1]; exact h.size.2), List.map_set]

/-- A lost sector. -/
def loD (d : Dk) (a : Int) : Dk := if reE d a true = 0 then seD d a.toNat ((d.S.getD a.toNat ([], 0)).1, 1) else d

theorem lose_nil (a : Int) : Calls Try.prog 33 #[.pointer none, .int .i64 a] w fun e w' => e = .returned (.int .i64 7) ∧ w = w' := by
  go_enter Try.func33, Try.ntmps33
  go_wp2_with (go_at_call 58; refine (refused_nil _ _ _).mono ?_; rintro e w' ⟨rfl, rfl⟩)
  go_ret
  exact ⟨rfl, rfl⟩

theorem reE_zero {d : Dk} {a : Int} {r : Bool} (h : reE d a r = 0) : ∃ i : Nat, a = (i : Int) ∧ ∃ hi : i < d.S.length, r = true ∧ d.off = false ∧ (d.S[i]).2 = 0 := by
  unfold reE at h
  by_cases h1 : (hasB d a && r) = true
  · rw [if_pos h1] at h
    rw [Bool.and_eq_true] at h1
    obtain ⟨i, rfl, hi⟩ := hasB_iff.1 h1.1
    refine ⟨i, rfl, hi, h1.2, ?_⟩
    by_cases h2 : d.off = true
    · rw [if_pos h2] at h; simp at h
    · rw [if_neg h2] at h
      refine ⟨by simpa using h2, ?_⟩
      by_cases h3 : (d.S.getD (i : Int).toNat ([], 0)).2 = 0
      · simpa [List.getD, hi] using h3
      · rw [if_neg h3] at h; simp at h
  · rw [if_neg h1] at h; simp at h

set_option maxHeartbeats 1000000 in
set_option maxRecDepth 100000 in
theorem lose_any (a : Int) (h : KAt w p gs qv d) : Calls Try.prog 33 #[.pointer (some ⟨p, 0, none⟩), .int .i64 a] w fun e w' => e = .returned (.int .i64 (reE d a true)) ∧ KSt w w' p gs qv (loD d a) := by
  have HR := hide (refused_any w p gs qv d a true h)
  unfold loD
  by_cases he : reE d a true = 0
  · rw [he] at HR ⊢
    rw [if_pos rfl]
    obtain ⟨i, rfl, hi, -, -, -⟩ := reE_zero he
    have c1 := cell_of_heap h.heap 1
    simp at c1
    obtain ⟨-, r2⟩ := h.sbytes i hi
    have z2 := frozen_of_heap h.secs (i * 513 + 512)
    have hlen := h.ok.len
    have hgd : d.S.getD i ([], 0) = d.S[i] := by simp [List.getD, hi]
    rw [Int.toNat_natCast, hgd]
    have hK : KSt w (w.setCell ⟨gs, i * 513 + 512, none⟩ (.int .u8 1)) p gs qv (seD d i ((d.S[i]).1, 1)) := by
      have f : Fr (fun k => k = gs) w (w.setCell ⟨gs, i * 513 + 512, none⟩ (.int .u8 1)) := (Fr.refl (fun k => k = gs) w).setCell (p := ⟨gs, i * 513 + 512, none⟩) (fun _ => rfl) _
      have hh := heap_setCell_same w gs (i * 513 + 512) _ 92 (.int .u8 1) h.secs
      have hqb : ∀ b, qv.ownBlock = some b → b ≠ gs := fun b hb e => by
        subst e
        rcases h.queue.2 with ⟨hv, -⟩ | ⟨g, cap, cur, hv, -, h1, -⟩
        · rw [hv] at hb; simp [Value.ownBlock] at hb
        · rw [hv] at hb
          simp [Value.ownBlock] at hb
          subst hb
          have := h.secs
          rw [h1] at this
          simp at this
      refine ⟨⟨qv, ⟨?_, ?_, owns_kept h.queue f hqb, seD_ok h.ok i _ ⟨(h.ok.sec _ (List.getElem_mem hi)).1, show (1 : UInt8).toNat ≤ 2 by decide⟩⟩, fun b hb => .inl hb⟩, f.mono (fun k _ e => .inr (.inl e))⟩
      · rw [f.block p (lt_of_heap h.heap) h.ne, h.heap]
        simp [seD]
      · rw [hh, List.setIfInBounds_toArray, List.set_append_left _ _ (by rw [secF_len h.ok]; omega)]
        have := secF_sethurt h.ok i hi 1
        rw [show (seD d i ((d.S[i]).1, 1)).S = d.S.set i ((d.S[i]).1, 1) from rfl, ← this]
        rfl
    have HK := hide hK
    generalize ((d.S[i]).2.toNat : Int) = old at r2
    clear h hK he hgd
    go_enter Try.func33, Try.ntmps33
    go_wp2_with (go_at_call 58; refine (unhide HR).mono ?_; rintro e w' ⟨rfl, rfl⟩)
    go_ret
    exact ⟨rfl, unhide HK⟩
  · rw [if_neg he]
    have b1 : (reE d a true != 0) = true := by simpa using he
    generalize reE d a true = re at *
    have HK := hide (KSt.same h)
    clear h he
    go_enter Try.func33, Try.ntmps33
    go_wp2_with (go_at_call 58; refine (unhide HR).mono ?_; rintro e w' ⟨rfl, rfl⟩)
    go_ret
    exact ⟨rfl, unhide HK⟩
end

end Go.Proofs.Ytdhendcogjhgfaa
