/-
  The walks of package gf's clearing of rows.
-/
import Derived.Test.YtckmddkhkdcmmaaLin
namespace Go.Proofs.Ytckmddkhkdcmmaa
open Go.RowKit
set_option linter.unusedVariables false

attribute [local go_sem ↓] Go.wp_at_zero Go.wp_at_succ

theorem Ls.setRow {w w' : World} {g m : Nat} {bs : List Nat} {ls : List (List UInt8)} (h : Ls w g bs m ls) (i : Nat) (hi : i < bs.length) (l : List UInt8) (hl : l.length = m) (hB : BAt w' bs[i] l) (f : Fr (fun k => k = bs[i]) w w') : Ls w' g bs m (ls.set i l) := by
  refine ⟨?_, by simp [h.len], ?_, ?_, h.nd, h.ng⟩
  · rw [f.block g (lt_of_heap h.heap) (fun e => h.ng (by rw [e]; exact List.getElem_mem _))]; exact h.heap
  · intro x hx
    rcases List.mem_or_eq_of_mem_set hx with hx | rfl
    · exact h.wid x hx
    · exact hl
  · intro j hj
    by_cases e : i = j
    · subst e; simpa using hB
    · have hne : bs[j] ≠ bs[i] := fun h2 => e ((List.getElem_inj h.nd).1 h2.symm)
      simpa [List.getElem_set_ne e] using (h.row j hj).kept f hne

/-- The row r when the others are cleared by the row ld. -/
def crow (ls : List (List UInt8)) (ld col r : Nat) : List UInt8 := if r = ld then ls[r]?.getD [] else addt (cel ls r col) (ls[r]?.getD []) (ls[ld]?.getD [])

/-- The first k rows are cleared. -/
def clrK (ls : List (List UInt8)) (ld col k : Nat) : List (List UInt8) := ls.mapIdx fun r l => if r < k then crow ls ld col r else l

theorem clrK_length (ls : List (List UInt8)) (ld col k : Nat) : (clrK ls ld col k).length = ls.length := by simp [clrK]
theorem clrK_zero (ls : List (List UInt8)) (ld col : Nat) : clrK ls ld col 0 = ls := by
  apply List.ext_getElem
  · simp [clrK]
  · intro i h1 h2; simp [clrK]
theorem clrK_get (ls : List (List UInt8)) (ld col k i : Nat) (hi : i < ls.length) (hk : k ≤ i) : (clrK ls ld col k)[i]'(by rw [clrK_length]; exact hi) = ls[i] := by
  simp [clrK, show ¬ i < k by omega]
theorem clrK_ld (ls : List (List UInt8)) (ld col k : Nat) (hi : ld < ls.length) : (clrK ls ld col k)[ld]'(by rw [clrK_length]; exact hi) = ls[ld] := by
  simp [clrK, crow, List.getElem?_eq_getElem hi]
theorem clrK_step (ls : List (List UInt8)) (ld col k : Nat) (hk : k < ls.length) : (clrK ls ld col k).set k (crow ls ld col k) = clrK ls ld col (k + 1) := by
  apply List.ext_getElem
  · simp [clrK]
  · intro i h1 h2
    rw [List.getElem_set]
    split
    · rename_i e; subst e; simp [clrK]
    · rename_i e
      simp only [clrK, List.getElem_mapIdx]
      by_cases h : i < k
      · rw [if_pos h, if_pos (by omega)]
      · rw [if_neg h, if_neg (by omega)]
theorem clrK_skip (ls : List (List UInt8)) (ld col : Nat) (hk : ld < ls.length) : clrK ls ld col (ld + 1) = clrK ls ld col ld := by
  rw [← clrK_step ls ld col ld hk]
  have h : crow ls ld col ld = (clrK ls ld col ld)[ld]'(by rw [clrK_length]; exact hk) := by rw [clrK_ld _ _ _ _ hk]; simp [crow, List.getElem?_eq_getElem hk]
  rw [h, List.set_getElem_self]

def clr (ls : List (List UInt8)) (ld col : Nat) : List (List UInt8) := clrK ls ld col ls.length

theorem cel_of {ls : List (List UInt8)} {r c : Nat} (hr : r < ls.length) : cel ls r c = (ls[r][c]?).getD 0 := by
  unfold cel; rw [List.getElem?_eq_getElem hr]; rfl

theorem Ls.lt {w : World} {g m : Nat} {bs : List Nat} {ls : List (List UInt8)} (h : Ls w g bs m ls) : g < w.heap.size := lt_of_heap h.heap

set_option maxHeartbeats 1000000 in
theorem clearOthers_any (w : World) (p g m : Nat) (bs : List Nat) (ls : List (List UInt8)) (ld col : Nat) (hF : FAt w p) (h : Ls w g bs m ls) (hpb : p ∉ bs) (hld : ld < bs.length) (hc : col < m) (hm : m ≤ 4096) (hb : bs.length ≤ 4096) :
    Calls Try.prog 108 #[.pointer (some ⟨p, 0, none⟩), .slice (some ⟨g, 0, none⟩) bs.length bs.length, .int .i64 (ld : Int), .int .i64 (col : Int)] w fun e w' => e = .returned (.tuple #[]) ∧ Ls w' g bs m (clr ls ld col) ∧ Fr (fun k => k ∈ bs) w w' := by
  have hlen := h.len
  have HL := hide h
  have HF := hide hF
  have HLn := hide hlen
  have HP := hide hpb
  unfold clr
  rw [hlen]
  clear h hF hlen hpb
  go_enter Try.func108, Try.ntmps108
  go_wp2_with fail
  go_loopw [11] (fun i w' => ∃ k : Nat, k ≤ bs.length ∧ i = .int .i64 (k : Int) ∧ Ls w' g bs m (clrK ls ld col k) ∧ Fr (fun k => k ∈ bs) w w') (fun i _ => bs.length - (intOf i).toNat)
  case atStart => exact ⟨0, by omega, rfl, by rw [clrK_zero]; exact unhide HL, Fr.refl _ _⟩
  case round =>
    obtain ⟨k, hk, rfl, hL, hf⟩ := hrel
    have hlen := unhide HLn
    by_cases hlt : k < bs.length
    · by_cases hkl : k = ld
      · subst hkl
        have H1 := hide hL
        have H2 := hide hf
        clear hL hf hlen
        go_wp2_with fail
        go_roundw
        case rel => exact ⟨k + 1, by omega, by go_num, by rw [clrK_skip _ _ _ (by rw [unhide HLn]; exact hlt)]; exact unhide H1, unhide H2⟩
        case measure => simp [intOf]; omega
      · have hne : ((k : Int) != (ld : Int)) = true := by simp; omega
        have c1 := hL.cell k hlt
        have c2 := hL.cell ld hld
        have c3 := hL.byte' k col hlt hc
        have hk2 : k < ls.length := by omega
        have hld2 : ld < ls.length := by omega
        have wk : ls[k].length = m := (unhide HL).wid _ (List.getElem_mem _)
        have wl : ls[ld].length = m := (unhide HL).wid _ (List.getElem_mem _)
        have e3 : cel (clrK ls ld col k) k col = cel ls k col := by
          rw [cel_of (by rw [clrK_length]; exact hk2), cel_of hk2, clrK_get _ _ _ _ _ hk2 (Nat.le_refl _)]
        rw [e3] at c3
        have r1 := hL.row k hlt
        rw [clrK_get _ _ _ _ _ hk2 (Nat.le_refl _)] at r1
        have r2 := hL.row ld hld
        rw [clrK_ld _ _ _ _ hld2] at r2
        have hnb : bs[ld] ≠ bs[k] := fun h2 => hkl ((List.getElem_inj hL.nd).1 h2).symm
        have hpk : p ≠ bs[k] := fun e => unhide HP (by rw [e]; exact List.getElem_mem _)
        have hF2 := (unhide HF).kept hf (unhide HP)
        have hcr : crow ls ld col k = addt (cel ls k col) ls[k] ls[ld] := by
          unfold crow
          rw [if_neg hkl, List.getElem?_eq_getElem hk2, List.getElem?_eq_getElem hld2]
          rfl
        have hrd := r2.rd (by unfold maxLen; omega)
        rw [wl] at hrd
        have HA := hide (fun W (q : Fr (fun _ => False) wr W) => addTimes_any W p bs[k] ls[k] (cel ls k col) (.slice (some ⟨bs[ld], 0, none⟩) m m) ls[ld] (hF2.kept q id) (r1.kept q id) (hrd.kept q (fun _ _ h => h)) (by simpa [Value.ownBlock] using hnb) hpk (by omega) (by omega))
        rw [wk] at HA
        have H1 := hide hL
        have H2 := hide hf
        have H3 := hide hcr
        have H4 := hide (clrK_step ls ld col k hk2)
        have H5 := hide (addt_length (cel ls k col) ls[k] ls[ld] (by omega))
        have H6 := hide wk
        have H7 := hide (show bs[k] ∈ bs from List.getElem_mem _)
        have H8 := hide (fun l hl W hB f => hL.setRow (w' := W) k hlt l hl hB f)
        clear hL hf r1 r2 hF2 hrd hcr e3 wk wl hlen
        generalize bs[k] = bk at *
        generalize bs[ld] = bl at *
        generalize cel ls k col = cc at *
        go_wp2_with fail
        go_region_with ((go_at_call 116; refine (unhide HA _ (by exact Fr.ofDrewN _ 1)).mono ?_; rintro e w2 ⟨rfl, hB2, f2⟩))
        all_goals
          go_wp2_with fail
          go_roundw
          case rel =>
            refine ⟨k + 1, by omega, by go_num, ?_, (unhide H2).trans f2.drewL (fun i _ e => by subst e; exact unhide H7)⟩
            rw [← unhide H4, unhide H3]
            exact unhide H8 _ (by rw [unhide H5, unhide H6]) w2 hB2 f2.drewL
          case measure => simp [intOf]; omega
    · have hke : k = bs.length := by omega
      subst hke
      have H1 := hide hL
      have H2 := hide hf
      clear hL hf hlen
      go_wp2_with fail
      go_end0
      exact ⟨rfl, unhide H1, unhide H2⟩

/-- Two of a list exchanged. -/
def swp {α : Type} (l : List α) (i j : Nat) (a b : α) : List α := (l.set i b).set j a

theorem Ls.swap {w w' : World} {g m : Nat} {bs : List Nat} {ls : List (List UInt8)} (h : Ls w g bs m ls) (i j : Nat) (hi : i < bs.length) (hj : j < bs.length)
    (hg : w'.heap[g]? = some (.cells (lvs (swp bs i j bs[i] bs[j]) m).toArray 22 (0, 0))) (f : Fr (fun k => k = g) w w') :
    Ls w' g (swp bs i j bs[i] bs[j]) m (swp ls i j (ls[i]'(by rw [h.len]; exact hi)) (ls[j]'(by rw [h.len]; exact hj))) := by
  have hlen := h.len
  have hrow : ∀ k (hk : k < bs.length), BAt w' bs[k] (ls[k]'(by omega)) := fun k hk => (h.row k hk).kept f (fun e => h.ng (by rw [← e]; exact List.getElem_mem _))
  have hmem : ∀ x, x ∈ swp bs i j bs[i] bs[j] → x ∈ bs := by
    intro x hx
    rcases List.mem_or_eq_of_mem_set hx with hx | rfl
    · rcases List.mem_or_eq_of_mem_set hx with hx | rfl
      · exact hx
      · exact List.getElem_mem _
    · exact List.getElem_mem _
  refine ⟨hg, by simp [swp, hlen], ?_, ?_, ?_, fun e => h.ng (hmem _ e)⟩
  · intro x hx
    rcases List.mem_or_eq_of_mem_set hx with hx | rfl
    · rcases List.mem_or_eq_of_mem_set hx with hx | rfl
      · exact h.wid x hx
      · exact h.wid _ (List.getElem_mem _)
    · exact h.wid _ (List.getElem_mem _)
  · intro k hk
    have hk' : k < bs.length := by simpa [swp] using hk
    simp only [swp, List.getElem_set]
    by_cases e1 : j = k
    · subst e1; simp only; exact hrow i hi
    · simp only [if_neg e1]
      by_cases e2 : i = k
      · subst e2; simp only; exact hrow j hj
      · simp only [if_neg e2]; exact hrow k hk'
  · exact (List.set_set_perm hi hj).nodup_iff.2 h.nd

end Go.Proofs.Ytckmddkhkdcmmaa
