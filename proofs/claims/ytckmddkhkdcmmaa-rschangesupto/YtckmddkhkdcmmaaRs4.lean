/-
  The walks of package rs: lengths of shards, sums of shards; the document's Row.
-/
import Derived.Test.YtckmddkhkdcmmaaRs3
namespace Go.Proofs.Ytckmddkhkdcmmaa
open Go.RowKit
set_option linter.unusedVariables false

attribute [local go_sem ↓] Go.wp_at_zero Go.wp_at_succ

/-- A list of lists of bytes that can be read. -/
def RdL (w : World) (v : Value) (ls : List (List UInt8)) : Prop := ∃ vs : List Value, RdV w v vs ∧ vs.length = ls.length ∧ ∀ (i : Nat) (x : Value) (l : List UInt8), vs[i]? = some x → ls[i]? = some l → Rd w x l

theorem RdL.kept {w w' : World} {v : Value} {ls : List (List UInt8)} (h : RdL w v ls) (f : Fr (fun _ => False) w w') : RdL w' v ls := by
  obtain ⟨vs, h1, h2, h3⟩ := h
  exact ⟨vs, h1.kept f (fun _ _ h => h), h2, fun i x l hx hl => (h3 i x l hx hl).kept f (fun _ _ h => h)⟩

theorem RdL.shape {w : World} {v : Value} {ls : List (List UInt8)} (h : RdL w v ls) : ∃ ao cap, v = .slice ao ls.length cap := by
  obtain ⟨vs, h1, h2, h3⟩ := h
  rw [← h2]
  exact h1.shape

/-- One of them. -/
theorem RdL.get {w : World} {ao : Option Addr} {n cap : Nat} {ls : List (List UInt8)} (h : RdL w (.slice ao n cap) ls) (i : Nat) (hi : i < ls.length) :
    ∃ b o xo xc, ao = some ⟨b, o, none⟩ ∧ w.cell? ⟨b, o + i, none⟩ = some (.slice xo (ls[i]).length xc) ∧ Rd w (.slice xo (ls[i]).length xc) ls[i] := by
  obtain ⟨vs, h1, h2, h3⟩ := h
  obtain ⟨b, o, rfl, -, -, -, hc⟩ := h1.lits (by omega)
  have hr := h3 i (vs[i]'(by omega)) ls[i] (List.getElem?_eq_getElem _) (List.getElem?_eq_getElem _)
  obtain ⟨xo, xc, e⟩ := hr.shape
  exact ⟨b, o, xo, xc, rfl, by rw [hc i (by omega), e], by rw [← e]; exact hr⟩

/-- The length of all, and are they so many of one length? -/
def oneL (ls : List (List UInt8)) (count : Int) : Nat × Bool := if (ls.length : Int) = count ∧ ∀ l ∈ ls, l.length = (ls.headD []).length then ((ls.headD []).length, true) else (0, false)

set_option maxHeartbeats 400000 in
theorem oneLength_any (w : World) (v : Value) (ls : List (List UInt8)) (count : Int) (h : RdL w v ls) (hl : ls.length ≤ 100000) :
    Calls Try.prog 102 #[v, .int .i64 count] w fun e w' => e = .returned (.tuple #[.int .i64 ((oneL ls count).1 : Int), .bool (oneL ls count).2]) ∧ w = w' := by
  obtain ⟨ao, cap, rfl⟩ := h.shape
  by_cases hc : (ls.length : Int) = count
  · subst hc
    by_cases h0 : ls.length = 0
    · have he : ls = [] := List.eq_nil_of_length_eq_zero h0
      subst he
      have e : oneL [] (([] : List (List UInt8)).length : Int) = (0, true) := by unfold oneL; rw [if_pos ⟨rfl, fun l hl => by simp at hl⟩]; rfl
      rw [e]
      clear h e
      go_enter Try.func102, Try.ntmps102
      go_wp2
      go_ret2
      exact ⟨rfl, rfl⟩
    · obtain ⟨b, o, xo, xc, rfl, c0, -⟩ := h.get 0 (by omega)
      obtain ⟨n, hn⟩ : ∃ n, n = (ls[0]'(by omega)).length := ⟨_, rfl⟩
      have hhd : (ls.headD []).length = n := by
        rw [hn]
        cases ls with
        | nil => simp at h0
        | cons a t => rfl
      rw [← hn, Nat.add_zero] at c0
      have H := hide h
      have HN := hide hn
      have HH := hide hhd
      clear h hn hhd
      have b0 : ((ls.length : Int) == 0) = false := by
        simp only [beq_eq_false_iff_ne, ne_eq]; omega
      go_enter Try.func102, Try.ntmps102
      go_wp2_with fail
      go_loopw [21] (fun x w' => ∃ i : Nat, i ≤ ls.length ∧ x = .int .i64 (i : Int) ∧ (∀ j (hj : j < ls.length), j < i → (ls[j]).length = n) ∧ w = w') (fun x _ => ls.length - (intOf x).toNat)
      case atStart => exact ⟨0, by omega, rfl, fun j hj h => by omega, rfl⟩
      case round =>
        obtain ⟨i, hi, rfl, hall, rfl⟩ := hrel
        by_cases hlt : i < ls.length
        · obtain ⟨b', o', yo, yc, e, c1, -⟩ := (unhide H).get i hlt
          simp only [Option.some.injEq, Addr.mk.injEq] at e
          obtain ⟨rfl, rfl, -⟩ := e
          obtain ⟨li, hli⟩ : ∃ li, li = (ls[i]).length := ⟨_, rfl⟩
          rw [← hli] at c1
          have HA := hide hall
          have HL := hide hli
          clear hall hli
          by_cases he : li = n
          · have bb : ((li : Int) != (n : Int)) = false := by simp; omega
            subst he
            go_wp2_with fail
            go_roundw
            case rel =>
              refine ⟨i + 1, by omega, by go_num, fun j hj h => ?_, trivial⟩
              by_cases e : j = i
              · subst e; exact (unhide HL).symm
              · exact unhide HA j hj (by omega)
            case measure => simp [intOf]; omega
          · have bb : ((li : Int) != (n : Int)) = true := by simp; omega
            go_wp2_with fail
            go_ret2
            have e : oneL ls (ls.length : Int) = (0, false) := by
              unfold oneL
              rw [if_neg]
              intro h
              have := h.2 _ (List.getElem_mem hlt)
              rw [unhide HH, ← unhide HL] at this
              exact he this
            rw [e]
            exact ⟨rfl, rfl⟩
        · have HA := hide hall
          clear hall
          go_wp2_with fail
          go_ret2
          have e : oneL ls (ls.length : Int) = (n, true) := by
            unfold oneL
            rw [if_pos, unhide HH]
            refine ⟨rfl, fun l hl => ?_⟩
            obtain ⟨j, hj, rfl⟩ := List.getElem_of_mem hl
            rw [unhide HH]
            exact unhide HA j hj (by omega)
          rw [e]
          exact ⟨rfl, rfl⟩
  · have e : oneL ls count = (0, false) := by unfold oneL; rw [if_neg (fun h => hc h.1)]
    rw [e]
    have bb : ((ls.length : Int) != count) = true := by simpa using hc
    clear h e hc
    go_enter Try.func102, Try.ntmps102
    go_wp2
    go_ret2
    exact ⟨rfl, rfl⟩

/-- The length of all, and the error. -/
def shl (ls : List (List UInt8)) (count : Int) : Nat × Int := if (oneL ls count).2 = true then (if (oneL ls count).1 ≤ 4096 then ((oneL ls count).1, 0) else (0, 1)) else (0, 2)

theorem shardLength_any (w : World) (v : Value) (ls : List (List UInt8)) (count : Int) (h : RdL w v ls) (hl : ls.length ≤ 100000) :
    Calls Try.prog 93 #[v, .int .i64 count] w fun e w' => e = .returned (.tuple #[.int .i64 ((shl ls count).1 : Int), .int .i64 (shl ls count).2]) ∧ w = w' := by
  have H := hide (oneLength_any w v ls count h hl)
  obtain ⟨ao, cap, rfl⟩ := h.shape
  clear h
  unfold shl
  generalize oneL ls count = r at *
  obtain ⟨n, b⟩ := r
  cases b
  · simp only [Bool.false_eq_true, if_false]
    go_enter Try.func93, Try.ntmps93
    go_wp2_with fail
    refine (unhide H).mono ?_
    rintro e w' ⟨rfl, rfl⟩
    go_wp2_with fail
    go_ret2
    exact ⟨rfl, rfl⟩
  · simp only [if_true]
    by_cases hn : n ≤ 4096
    · rw [if_pos hn]
      have b1 : decide ((4096 : Int) < (n : Int)) = false := by simp; omega
      go_enter Try.func93, Try.ntmps93
      go_wp2_with fail
      refine (unhide H).mono ?_
      rintro e w' ⟨rfl, rfl⟩
      go_wp2_with fail
      go_ret2
      exact ⟨rfl, rfl⟩
    · rw [if_neg hn]
      have b1 : decide ((4096 : Int) < (n : Int)) = true := by simp; omega
      go_enter Try.func93, Try.ntmps93
      go_wp2_with fail
      refine (unhide H).mono ?_
      rintro e w' ⟨rfl, rfl⟩
      go_wp2_with fail
      go_ret2
      exact ⟨rfl, rfl⟩

theorem xadd_step (l x : List UInt8) (k : Nat) (h : k < l.length) (hx : x.length = l.length) : (List.zipWith (fun a y => a ^^^ y) (l.take k) (x.take k) ++ l.drop k).set k (l[k] ^^^ (x[k]'(by omega))) = List.zipWith (fun a y => a ^^^ y) (l.take (k + 1)) (x.take (k + 1)) ++ l.drop (k + 1) := by
  have hl : (List.zipWith (fun a y => a ^^^ y) (l.take k) (x.take k)).length = k := by simp; omega
  rw [List.set_append_right _ _ (by omega), hl, Nat.sub_self, List.drop_eq_getElem_cons h, List.set_cons_zero, List.take_succ_eq_append_getElem h, List.take_succ_eq_append_getElem (by omega : k < x.length), List.zipWith_append (by simp; omega)]
  simp

theorem addt_scl (c : UInt8) (l x : List UInt8) : List.zipWith (fun a y => a ^^^ y) l (scl c x) = addt c l x := by
  unfold scl addt
  rw [List.zipWith_map_right]

set_option maxHeartbeats 1000000 in
theorem rsAddTimes_any (w : World) (b : Nat) (l : List UInt8) (c : UInt8) (xv : Value) (x : List UInt8) (hl : BAt w b l) (hx : Rd w xv x) (hm : l.length ≤ 4096) (hxl : x.length = l.length) :
    Calls Try.prog 101 #[.slice (some ⟨b, 0, none⟩) l.length l.length, .int .u8 (c.toNat : Int), xv] w fun e w' => e = .returned (.tuple #[]) ∧ BAt w' b (addt c l x) ∧ Fr (fun k => k = b) w w' := by
  by_cases hc : c = 0
  · subst hc
    rw [addt_zero l x hxl]
    have HB := hide hl
    obtain ⟨xo, xc, rfl⟩ := hx.shape
    clear hx hl
    go_enter Try.func101, Try.ntmps101
    go_wp2_with fail
    exact bodyPost_ret (results_none rfl _ _ _) rfl ⟨rfl, unhide HB, Fr.refl _ _⟩
  · have hcb : (((c.toNat : Nat) : Int) == 0) = false := by simpa using fun e => hc (natB.1 e)
    have HS := hide (gscale_any w c xv x hx (by omega))
    rw [← addt_scl]
    have hsl : (scl c x).length = l.length := by simp [scl]; omega
    generalize scl c x = y at *
    have HB := hide hl
    have hlt := lt_of_heap hl
    have HXL := hide hxl
    obtain ⟨xo, xc, rfl⟩ := hx.shape
    rw [hxl] at HS ⊢
    clear hx hl hxl
    go_enter Try.func101, Try.ntmps101
    go_wp2_with fail
    refine (unhide HS).mono ?_
    rintro e w1 ⟨⟨ao, cap, rfl, hR, hRn⟩, f1⟩
    have hs1 := f1.size
    have HR := hide hR
    have HF1 := hide f1
    clear hR f1
    go_wp2_with fail
    go_loopw [14] (fun i w' => ∃ k : Nat, k ≤ l.length ∧ i = .int .i64 (k : Int) ∧ BAt w' b (List.zipWith (fun a y => a ^^^ y) (l.take k) (y.take k) ++ l.drop k) ∧ Fr (fun k => k = b) w1 w') (fun i _ => l.length - (intOf i).toNat)
    case atStart => exact ⟨0, by omega, rfl, by simpa using (unhide HB).kept (unhide HF1) id, Fr.refl _ _⟩
    case round =>
      obtain ⟨k, hk, rfl, hB, hf⟩ := hrel
      by_cases hlt : k < l.length
      · have hRk := (unhide HR).kept hf (fun k hk h => by have := hRn k hk; omega)
        obtain ⟨xb, xof, rfl, -, hcap, hcm, hcx⟩ := hRk.lits (by omega)
        unfold maxLen at hcm
        have hzl : (List.zipWith (fun a y => a ^^^ y) (l.take k) (y.take k) ++ l.drop k).length = l.length := by simp; omega
        have cy := hcx k (by omega)
        have cb := hB.cell k (by omega)
        have zb := hB.frozen k
        have hgk : (List.zipWith (fun a y => a ^^^ y) (l.take k) (y.take k) ++ l.drop k)[k]'(by omega) = l[k] := by
          have hl2 : (List.zipWith (fun a y => a ^^^ y) (l.take k) (y.take k)).length = k := by simp; omega
          rw [List.getElem_append_right (by omega)]
          simp [hl2]
        rw [hgk] at cb
        have HSt := hide (xadd_step l y k hlt (by omega))
        obtain ⟨yk, hyk⟩ : ∃ yk, yk = y[k]'(by omega) := ⟨_, rfl⟩
        rw [← hyk] at HSt cy
        generalize l[k] = lk at *
        have HB2 := hide hB
        have Hf2 := hide hf
        clear hB hf hRk hcx hzl hgk hyk
        go_wp2_with (go_at_call 115; refine (add_any _ lk yk).mono ?_; rintro e w' ⟨rfl, rfl⟩)
        go_roundw
        case rel =>
          refine ⟨k + 1, by omega, by go_num, ?_, (unhide Hf2).setCell (fun _ => rfl) _⟩
          rw [← unhide HSt, ← UInt8.toNat_xor]
          exact (unhide HB2).set k _
        case measure => simp [intOf]; omega
      · have hke : k = l.length := by omega
        subst hke
        have H1 := hide hB
        have H2 := hide hf
        clear hB hf
        go_wp2_with fail
        go_end0
        refine ⟨rfl, ?_, ((unhide HF1).mono (fun _ _ h => h.elim)).trans (unhide H2) (fun _ _ h => h)⟩
        have := unhide H1
        rwa [List.drop_length, List.append_nil, List.take_length, List.take_of_length_le (by omega)] at this

end Go.Proofs.Ytckmddkhkdcmmaa
