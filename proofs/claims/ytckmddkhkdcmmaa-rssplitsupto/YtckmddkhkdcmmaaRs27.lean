/-
  The walk of the document's Join.
-/
import Derived.Test.YtckmddkhkdcmmaaRs25
import Derived.Test.YtckmddkhkdcmmaaRs18
namespace Go.Proofs.Ytckmddkhkdcmmaa
open Go.RowKit
set_option linter.unusedVariables false

attribute [local go_sem ↓] Go.wp_at_zero Go.wp_at_succ

set_option maxHeartbeats 1000000 in
theorem even_q (w : World) (v : Value) (ls : List (List UInt8)) (count : Int) (h : RdL w v ls) (hl : ls.length ≤ 100000) :
    Calls Try.prog 95 #[v, .int .i64 count] w fun e w' => e = .returned (.bool (oneL ls count).2) ∧ ∃ n, w' = w.drewN n := by
  obtain ⟨ao, cap, rfl⟩ := h.shape
  by_cases hc : (ls.length : Int) = count
  · subst hc
    have H := hide h
    clear h
    go_enter Try.func95, Try.ntmps95
    go_wp2_with fail
    go_loopw [5] (fun x w' => ∃ i : Nat, i ≤ ls.length ∧ x = .int .i64 (i : Int) ∧ (∀ j (hj : j < ls.length), j < i → (ls[j]).length = (ls.headD []).length) ∧ ∃ n, w' = w.drewN n) (fun x _ => ls.length - (intOf x).toNat)
    case atStart => exact ⟨0, by omega, rfl, fun j hj h => by omega, 0, rfl⟩
    case round =>
      obtain ⟨i, hi, rfl, hall, dn, hdn⟩ := hrel
      have hf : Fr (fun _ => False) w wr := by rw [hdn]; exact Fr.ofDrewN w dn
      have HDN := hide hdn
      clear hdn
      by_cases hlt : i < ls.length
      · obtain ⟨b, o, xo, xc, rfl, c0, -⟩ := ((unhide H).kept hf).get 0 (by omega)
        obtain ⟨b', o', yo, yc, e, c1, -⟩ := ((unhide H).kept hf).get i hlt
        simp only [Option.some.injEq, Addr.mk.injEq] at e
        obtain ⟨rfl, rfl, -⟩ := e
        rw [Nat.add_zero] at c0
        have hhd : (ls.headD []).length = (ls[0]'(by omega)).length := by
          cases ls with
          | nil => simp at hlt
          | cons a t => rfl
        obtain ⟨l0, hl0⟩ : ∃ l0, l0 = (ls[0]'(by omega)).length := ⟨_, rfl⟩
        obtain ⟨li, hli⟩ : ∃ li, li = (ls[i]).length := ⟨_, rfl⟩
        rw [← hl0] at c0 hhd
        rw [← hli] at c1
        have HA := hide hall
        have HHD := hide hhd
        have HLI := hide hli
        have Hf := hide hf
        clear hall hhd hli hl0 hf
        by_cases he : li = l0
        · have bb : ((li : Int) != (l0 : Int)) = false := by simp; omega
          go_wp2_with fail
          go_quiet (fail)
          go_wp2_with fail
          go_roundw
          case rel =>
            refine ⟨i + 1, by omega, by go_num, fun j hj h => ?_, _, by rw [unhide HDN]; exact World.drewN_drewN _ _ _⟩
            by_cases e : j = i
            · subst e; rw [unhide HHD, ← unhide HLI]; exact he
            · exact unhide HA j hj (by omega)
          case measure => simp [intOf]; omega
        · have bb : ((li : Int) != (l0 : Int)) = true := by simp; omega
          go_wp2_with fail
          go_quiet (fail)
          go_wp2_with fail
          go_ret
          have e : (oneL ls (ls.length : Int)).2 = false := by
            unfold oneL
            rw [if_neg]
            intro h
            have := h.2 _ (List.getElem_mem hlt)
            rw [unhide HHD, ← unhide HLI] at this
            exact he this
          rw [e]
          exact ⟨rfl, _, by rw [unhide HDN]; exact World.drewN_drewN _ _ _⟩
      · have HA := hide hall
        have Hf := hide hf
        clear hall hf
        go_wp2_with fail
        go_ret
        have e : (oneL ls (ls.length : Int)).2 = true := by
          unfold oneL
          rw [if_pos]
          refine ⟨rfl, fun l hl => ?_⟩
          obtain ⟨j, hj, rfl⟩ := List.getElem_of_mem hl
          exact unhide HA j hj (by omega)
        rw [e]
        exact ⟨rfl, _, unhide HDN⟩
  · have e : (oneL ls count).2 = false := by unfold oneL; rw [if_neg (fun h => hc h.1)]
    rw [e]
    have bb : ((ls.length : Int) != count) = true := by simpa using hc
    clear h e hc
    go_enter Try.func95, Try.ntmps95
    go_wp2_with fail
    go_ret
    exact ⟨rfl, 0, rfl⟩

section
variable (w : World) (p k m : Nat) (v : Value) (ls : List (List UInt8))

set_option maxHeartbeats 4000000 in
set_option maxRecDepth 100000 in
theorem rjoin_no1 (n : Int) (hD : DAt w p k m) (hk : 1 ≤ k ∧ k ≤ 16) (h : RdL w v ls) (hl : ls.length ≤ 100000) (he : (oneL ls (k : Int)).2 = false) :
    Calls Try.prog 59 #[.pointer (some ⟨p, 0, none⟩), v, .int .i64 n] w fun e w' => e = .returned (.tuple #[.slice none 0 0, .int .i64 2]) ∧ Fr (fun _ => False) w w' := by
  have c0 := cell_of_heap hD 0
  simp at c0
  have hplt := lt_of_heap hD
  have HE := hide (fun j => even_q (w.drewN j) v ls (k : Int) (h.kept (Fr.ofDrewN w j)) hl)
  rw [he] at HE
  obtain ⟨vo, vc, rfl⟩ := h.shape
  clear hD h he
  go_enter Try.func59, Try.ntmps59
  go_wp2_with fail
  go_quiet ((go_at_call 95; exact Calls.quiet_of (unhide HE _)))
  go_wp2_with fail
  go_ret2
  exact ⟨rfl, Fr.ofDrewN _ _⟩

set_option maxHeartbeats 4000000 in
set_option maxRecDepth 100000 in
theorem rjoin_no2 (n : Int) (hD : DAt w p k m) (hk : 1 ≤ k ∧ k ≤ 16) (h : RdL w v ls) (hl : ls.length ≤ 100000) (he : (oneL ls (k : Int)).2 = true) (hn : n < 0) :
    Calls Try.prog 59 #[.pointer (some ⟨p, 0, none⟩), v, .int .i64 n] w fun e w' => e = .returned (.tuple #[.slice none 0 0, .int .i64 2]) ∧ Fr (fun _ => False) w w' := by
  have c0 := cell_of_heap hD 0
  simp at c0
  have hplt := lt_of_heap hD
  have HE := hide (fun j => even_q (w.drewN j) v ls (k : Int) (h.kept (Fr.ofDrewN w j)) hl)
  rw [he] at HE
  obtain ⟨vo, vc, rfl⟩ := h.shape
  have b1 : decide (n < 0) = true := by simpa using hn
  clear hD h he
  go_enter Try.func59, Try.ntmps59
  go_wp2_with fail
  go_quiet ((go_at_call 95; exact Calls.quiet_of (unhide HE _)))
  go_wp2_with fail
  go_ret2
  exact ⟨rfl, Fr.ofDrewN _ _⟩

set_option maxHeartbeats 4000000 in
set_option maxRecDepth 100000 in
theorem rjoin_no3 (n : Int) (hD : DAt w p k m) (hk : 1 ≤ k ∧ k ≤ 16) (h : RdL w v ls) (hl : ls.length ≤ 100000) (hjb : k * (oneL ls (k : Int)).1 ≤ 100000) (he : (oneL ls (k : Int)).2 = true) (hn : ¬ n < 0) (hz : ((k * (oneL ls (k : Int)).1 : Nat) : Int) < n) :
    Calls Try.prog 59 #[.pointer (some ⟨p, 0, none⟩), v, .int .i64 n] w fun e w' => e = .returned (.tuple #[.slice none 0 0, .int .i64 2]) ∧ Fr (fun _ => False) w w' := by
  have c0 := cell_of_heap hD 0
  simp at c0
  have hplt := lt_of_heap hD
  have HE := hide (fun j => even_q (w.drewN j) v ls (k : Int) (h.kept (Fr.ofDrewN w j)) hl)
  rw [he] at HE
  have hpos : 0 < ls.length := by have := (oneL_flat he).2; omega
  obtain ⟨-, hh, -⟩ := oneL_head he hpos
  obtain ⟨vo, vc, rfl⟩ := h.shape
  obtain ⟨vb, vof, yo, yc, rfl, y1, -⟩ := h.get 0 hpos
  rw [← hh, Nat.add_zero] at y1
  have hvb := World.block_lt_of_cell? w _ y1
  simp only at hvb
  obtain ⟨L, hL⟩ : ∃ L, L = (oneL ls (k : Int)).1 := ⟨_, rfl⟩
  rw [← hL] at y1 hjb hz
  obtain ⟨z, hzz⟩ : ∃ z, z = k * L := ⟨_, rfl⟩
  rw [← hzz] at hz hjb
  have ez : (k : Int) * (L : Int) = (z : Int) := by rw [hzz]; simp
  have wz : IntKind.i64.wrap (z : Int) = (z : Int) := by rw [IntKind.wrap_i64]; omega
  have b1 : decide (n < 0) = false := by simpa using hn
  have b2 : decide ((z : Int) < n) = true := by simpa using hz
  clear hD h he hh hL hzz
  go_enter Try.func59, Try.ntmps59
  go_wp2_with fail
  go_quiet ((go_at_call 95; exact Calls.quiet_of (unhide HE _)))
  go_wp2_with fail
  go_ret2
  exact ⟨rfl, Fr.ofDrewN _ _⟩

set_option maxHeartbeats 4000000 in
set_option maxRecDepth 100000 in
theorem rjoin_ok (t : Nat) (hD : DAt w p k m) (hk : 1 ≤ k ∧ k ≤ 16) (h : RdL w v ls) (hjb : k * (oneL ls (k : Int)).1 ≤ 100000) (hj : joB k ls (t : Int) = true) :
    Calls Try.prog 59 #[.pointer (some ⟨p, 0, none⟩), v, .int .i64 (t : Int)] w fun e w' => (∃ ao c, e = .returned (.tuple #[.slice ao t c, .int .i64 0]) ∧ Rd w' (.slice ao t c) (ls.flatten.take t) ∧ ∀ b, (Value.slice ao t c).ownBlock = some b → w.heap.size ≤ b) ∧ Fr (fun _ => False) w w' := by
  have c0 := cell_of_heap hD 0
  simp at c0
  have hplt := lt_of_heap hD
  have he : (oneL ls (k : Int)).2 = true := by unfold joB at hj; simp at hj; exact hj.1
  obtain ⟨hfl, hlk⟩ := oneL_flat he
  have htf : t ≤ ls.flatten.length := by unfold joB at hj; simp at hj; have := hj.2; rw [hfl]; exact_mod_cast this
  have HE := hide (fun j => even_q (w.drewN j) v ls (k : Int) (h.kept (Fr.ofDrewN w j)) (by omega))
  rw [he] at HE
  have hpos : 0 < ls.length := by omega
  obtain ⟨-, hh, -⟩ := oneL_head he hpos
  have HR := hide h
  obtain ⟨vo, vc, rfl⟩ := h.shape
  obtain ⟨vb, vof, yo, yc, rfl, y1, -⟩ := h.get 0 hpos
  rw [← hh, Nat.add_zero] at y1
  have hvb := World.block_lt_of_cell? w _ y1
  simp only at hvb
  obtain ⟨L, hL⟩ : ∃ L, L = (oneL ls (k : Int)).1 := ⟨_, rfl⟩
  rw [← hL] at y1 hjb hfl
  have htz : t ≤ k * L := by rw [← hfl]; exact htf
  obtain ⟨z, hzz⟩ : ∃ z, z = k * L := ⟨_, rfl⟩
  rw [← hzz] at hjb htz hfl
  have HFL := hide hfl
  have HLK := hide hlk
  have HTF := hide htf
  have ez : (k : Int) * (L : Int) = (z : Int) := by rw [hzz]; simp
  have wz : IntKind.i64.wrap (z : Int) = (z : Int) := by rw [IntKind.wrap_i64]; omega
  have b1 : decide ((t : Int) < 0) = false := by simp
  have b2 : decide ((z : Int) < (t : Int)) = false := by simp; omega
  have b2' : decide (z < t) = false := by simp; omega
  obtain ⟨inf5, hi5, hy0, hy1, hy2⟩ := info_parts Try.info5
  clear hD h he hh hL hzz hj hfl hlk htf
  go_enter Try.func59, Try.ntmps59
  go_wp2_with fail
  go_quiet ((go_at_call 95; exact Calls.quiet_of (unhide HE _)))
  have HF2 := hide (Fr.ofDrewN (S := fun _ => False) w nq)
  have s0 : (w.drewN nq).cell? ⟨p, 0, none⟩ = some (.int .i64 (k : Int)) := c0
  obtain ⟨w2, hw2⟩ : ∃ w2, w2 = w.drewN nq := ⟨_, rfl⟩
  rw [← hw2] at HF2 s0 ⊢
  clear ez wz b1 b2 b2' HE hw2
  go_wp2_with fail
  have hs2 := (unhide HF2).size
  have hp2 : p < w2.heap.size := by omega
  go_loopw [8, 9] (fun hx y w' => ∃ i : Nat, i ≤ k ∧ y = .int .i64 (i : Int) ∧ (∃ ao N ac, hx = .slice ao N ac ∧ N = ((ls.take i).flatten).length ∧ w'.ownsRow 0 5 1 (.slice ao N ac) N (bvs ((ls.take i).flatten)) ∧ ∀ b, (Value.slice ao N ac).ownBlock = some b → w2.heap.size ≤ b) ∧ Fr (fun _ => False) w2 w') (fun _ y _ => k - (intOf y).toNat)
  case atStart => exact ⟨0, by omega, rfl, ⟨none, 0, 0, rfl, by simp, by simpa [bvs] using owns_nil _, fun b hb => by simp [Value.ownBlock] at hb⟩, Fr.refl _ _⟩
  case round =>
    obtain ⟨i, hi, rfl, ⟨ao, N, ac, rfl, hN, hO, hnew⟩, hf⟩ := hrel
    have r0 : wr.cell? ⟨p, 0, none⟩ = some (.int .i64 (k : Int)) := by rw [hf.cell (a := ⟨p, 0, none⟩) hp2 id]; exact s0
    by_cases hlt : i < k
    · have hil : i < ls.length := by rw [unhide HLK]; exact hlt
      obtain ⟨vb', vof', xo, xc, e, x1, hRx⟩ := ((unhide HR).kept ((unhide HF2).trans hf (fun _ _ h => h))).get i hil
      simp only [Option.some.injEq, Addr.mk.injEq] at e
      obtain ⟨rfl, rfl, -⟩ := e
      have hfs := flat_succ hil
      have hNs : N + (ls[i]).length ≤ z := by
        rw [hN, ← List.length_append, ← hfs, ← unhide HFL]
        have := congrArg List.length (List.take_append_drop (i + 1) ls)
        have h2 : ls.flatten.length = ((ls.take (i + 1)).flatten).length + ((ls.drop (i + 1)).flatten).length := by
          rw [← List.length_append, ← List.flatten_append, List.take_append_drop]
        omega
      have hSx := Rd.sr hRx
      have hfsl : N + (ls[i]).length = ((ls.take (i + 1)).flatten).length := by rw [hN, hfs, List.length_append]
      obtain ⟨xl, hxl⟩ : ∃ xl, xl = (ls[i]).length := ⟨_, rfl⟩
      rw [← hxl] at x1 hSx hNs hfsl
      have HFS := hide hfs
      generalize ls[i] = li at *
      have HO := hide hO
      have HSX := hide hSx
      have HFSL := hide hfsl
      have Hf := hide hf
      have HNW := hide hnew
      clear hO hSx hfs hfsl hf hnew hRx hN hxl
      go_wp2_with (at_builtin; refine wpList_app rfl (.tmp 42) (.tmp 46) 22 rfl 5 inf5 _ 1 1 Try.underlying22 hi5 hy0 hy1 hy2 rfl (by decide) (.slice ao N ac) N _ rfl (.slice xo xl xc) rfl xl (bvs li) (unhide HO) (unhide HSX) (bvs_one _) (by omega) (by simp only [maxLen]; omega) ?_)
      intro ao4 ac4 w4 o4 g4 p4
      rw [← bvs_append, ← unhide HFS] at o4
      have HO4 := hide o4
      have n4 : ∀ b, (Value.slice ao4 (N + xl) ac4).ownBlock = some b → w2.heap.size ≤ b := by
        intro b hb
        rcases p4 with e | ⟨k', e, hk'⟩
        · rw [e] at hb; exact unhide HNW b hb
        · rw [e] at hb; simp at hb; have := (unhide Hf).size; omega
      have HN4 := hide n4
      have HF4 := hide ((unhide Hf).grown g4 (fun k hk e => by have := unhide HNW k e; omega))
      clear o4 g4 p4 n4
      go_wp2_with fail
      go_roundw
      case rel => exact ⟨i + 1, by omega, by go_num, ⟨ao4, N + xl, ac4, rfl, unhide HFSL, unhide HO4, unhide HN4⟩, unhide HF4⟩
      case measure => simp [intOf]; omega
    · have hie : i = k := by omega
      subst hie
      have hfull : ls.take i = ls := List.take_of_length_le (by rw [unhide HLK]; omega)
      rw [hfull] at hN hO
      have hcap := owns_cap hO
      have htN : t ≤ N := by rw [hN]; exact unhide HTF
      have htc : t ≤ ac := by omega
      have hRR := (Rd.of_owns (base := 0) (by rw [← hN]; exact hO)).takeN t (unhide HTF)
      have HRR := hide hRR
      have Hf := hide hf
      have HNW := hide hnew
      clear hO hN hf hnew hfull hRR
      go_wp2_with fail
      go_ret2
      exact ⟨⟨_, _, rfl, unhide HRR, fun b hb => by have := unhide HNW b ((own_len ao _ _ _ _).trans hb); omega⟩, (unhide HF2).trans (unhide Hf) (fun _ _ h => h)⟩
end

theorem rjoin_any (w : World) (p k m : Nat) (v : Value) (ls : List (List UInt8)) (n : Int) (hD : DAt w p k m) (hk : 1 ≤ k ∧ k ≤ 16) (h : RdL w v ls) (hl : ls.length ≤ 100000) (hjb : k * (oneL ls (k : Int)).1 ≤ 100000) :
    Calls Try.prog 59 #[.pointer (some ⟨p, 0, none⟩), v, .int .i64 n] w fun e w' => (∃ ao c, e = .returned (.tuple #[.slice ao (joR k ls n).length c, .int .i64 (joE k ls n)]) ∧ Rd w' (.slice ao (joR k ls n).length c) (joR k ls n) ∧ ∀ b, (Value.slice ao (joR k ls n).length c).ownBlock = some b → w.heap.size ≤ b) ∧ Fr (fun _ => False) w w' := by
  unfold joR joE
  by_cases hj : joB k ls n = true
  · rw [if_pos hj, if_pos hj]
    have hj' := hj
    unfold joB at hj'
    simp at hj'
    obtain ⟨t, rfl⟩ : ∃ t : Nat, n = (t : Int) := ⟨n.toNat, by omega⟩
    have htf : t ≤ ls.flatten.length := by rw [(oneL_flat hj'.1.1).1]; exact_mod_cast hj'.2
    refine (rjoin_ok w p k m v ls t hD hk h hjb hj).mono ?_
    rintro e w' ⟨⟨ao, c, rfl, hR, hg⟩, f⟩
    have hlt : (ls.flatten.take t).length = t := by rw [List.length_take]; omega
    rw [Int.toNat_natCast, hlt]
    exact ⟨⟨_, _, rfl, hR, hg⟩, f⟩
  · rw [if_neg hj, if_neg hj]
    have key : Calls Try.prog 59 #[.pointer (some ⟨p, 0, none⟩), v, .int .i64 n] w fun e w' => e = .returned (.tuple #[.slice none 0 0, .int .i64 2]) ∧ Fr (fun _ => False) w w' := by
      rcases he : (oneL ls (k : Int)).2 with _ | _
      · exact rjoin_no1 w p k m v ls n hD hk h hl he
      · by_cases hn : n < 0
        · exact rjoin_no2 w p k m v ls n hD hk h hl he hn
        · refine rjoin_no3 w p k m v ls n hD hk h hl hjb he hn ?_
          unfold joB at hj
          simp [he] at hj
          have := hj (by omega)
          simpa using this
    refine key.mono ?_
    rintro e w' ⟨rfl, f⟩
    exact ⟨⟨_, _, rfl, Rd.nil _, fun b hb => by simp [Value.ownBlock] at hb⟩, f⟩

end Go.Proofs.Ytckmddkhkdcmmaa
