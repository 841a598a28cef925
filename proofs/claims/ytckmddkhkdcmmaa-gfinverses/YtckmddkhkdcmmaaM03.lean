/-
  The walks of package gf's rows: lists of lists, the first row with something in a column, rows scaled and added.
  The walks of package gf's clearing of rows.
  The walk of package gf's reduce.
-/
import Derived.Test.YtckmddkhkdcmmaaM02
namespace Go.Proofs.Ytckmddkhkdcmmaa
set_option linter.unusedVariables false
set_option linter.unusedSimpArgs false
open Go.RowKit
set_option linter.unusedVariables false

attribute [local go_sem ↓] Go.wp_at_zero Go.wp_at_succ

/-- The cells of a list of rows that lie in these blocks. -/
def lvs (bs : List Nat) (m : Nat) : List Value := bs.map fun b => Value.slice (some ⟨b, 0, none⟩) m m

/-- Rows lie in the blocks bs, the list of them in block g. -/
structure Ls (w : World) (g : Nat) (bs : List Nat) (m : Nat) (ls : List (List UInt8)) : Prop where
  heap : w.heap[g]? = some (.cells (lvs bs m).toArray 22 (0, 0))
  len : ls.length = bs.length
  wid : ∀ l ∈ ls, l.length = m
  row : ∀ i (h : i < bs.length), BAt w (bs[i]) (ls[i]'(by omega))
  nd : bs.Nodup
  ng : g ∉ bs

theorem Ls.kept {S : Nat → Prop} {w w' : World} {g m : Nat} {bs : List Nat} {ls : List (List UInt8)} (h : Ls w g bs m ls) (f : Fr S w w') (hg : ¬ S g) (hb : ∀ b ∈ bs, ¬ S b) : Ls w' g bs m ls :=
  ⟨by rw [f.block g (lt_of_heap h.heap) hg]; exact h.heap, h.len, h.wid, fun i hi => (h.row i hi).kept f (hb _ (List.getElem_mem _)), h.nd, h.ng⟩

theorem Ls.cell {w : World} {g m : Nat} {bs : List Nat} {ls : List (List UInt8)} (h : Ls w g bs m ls) (i : Nat) (hi : i < bs.length) : w.cell? ⟨g, i, none⟩ = some (.slice (some ⟨bs[i], 0, none⟩) m m) := by
  rw [cell_of_heap h.heap]
  simp [lvs, hi]

theorem Ls.byte {w : World} {g m : Nat} {bs : List Nat} {ls : List (List UInt8)} (h : Ls w g bs m ls) (i j : Nat) (hi : i < bs.length) (hj : j < m) :
    w.cell? ⟨bs[i], j, none⟩ = some (.int .u8 ((((ls[i]'(by rw [h.len]; exact hi))[j]?.getD 0).toNat : Nat) : Int)) := by
  have hl : (ls[i]'(by rw [h.len]; exact hi)).length = m := h.wid _ (List.getElem_mem _)
  rw [(h.row i hi).cell j (by omega), List.getElem?_eq_getElem (by omega)]
  rfl

/-- What stands in a row and a column. -/
def cel (ls : List (List UInt8)) (r c : Nat) : UInt8 := ((ls[r]?.getD [])[c]?).getD 0

theorem Ls.byte' {w : World} {g m : Nat} {bs : List Nat} {ls : List (List UInt8)} (h : Ls w g bs m ls) (i j : Nat) (hi : i < bs.length) (hj : j < m) :
    w.cell? ⟨bs[i], j, none⟩ = some (.int .u8 (((cel ls i j).toNat : Nat) : Int)) := by
  rw [h.byte i j hi hj]
  unfold cel
  rw [List.getElem?_eq_getElem (show i < ls.length by rw [h.len]; exact hi)]
  rfl

/-- The first row from r on with something in the column. -/
def ldg (ls : List (List UInt8)) (col : Nat) : Nat → Nat → Option Nat
  | 0, _ => none
  | f + 1, r => if cel ls r col = 0 then ldg ls col f (r + 1) else some r

def lead (ls : List (List UInt8)) (from' col : Nat) : Option Nat := ldg ls col (ls.length - from') from'

theorem lead_next {ls : List (List UInt8)} {r col : Nat} (hr : r < ls.length) (h : cel ls r col = 0) : lead ls r col = lead ls (r + 1) col := by
  unfold lead
  rw [show ls.length - r = (ls.length - (r + 1)) + 1 by omega]
  simp only [ldg]
  rw [if_pos h]
theorem lead_here {ls : List (List UInt8)} {r col : Nat} (hr : r < ls.length) (h : ¬ cel ls r col = 0) : lead ls r col = some r := by
  unfold lead
  rw [show ls.length - r = (ls.length - (r + 1)) + 1 by omega]
  simp only [ldg]
  rw [if_neg h]
theorem lead_end {ls : List (List UInt8)} {r col : Nat} (hr : ls.length ≤ r) : lead ls r col = none := by
  unfold lead
  rw [show ls.length - r = 0 by omega]
  rfl

/-- As Go tells it: -1 for none. -/
def ldI : Option Nat → Int
  | none => -1
  | some r => r

set_option maxHeartbeats 400000 in
theorem leading_any (w : World) (g m : Nat) (bs : List Nat) (ls : List (List UInt8)) (h : Ls w g bs m ls) (from' col : Nat) (hc : col < m) (hm : m ≤ 4096) (hb : bs.length ≤ 4096) (hfr : from' ≤ bs.length) :
    Calls Try.prog 105 #[.slice (some ⟨g, 0, none⟩) bs.length bs.length, .int .i64 (from' : Int), .int .i64 (col : Int)] w fun e w' => e = .returned (.int .i64 (ldI (lead ls from' col))) ∧ w = w' := by
  have HL := hide h
  have HLn := hide h.len
  clear h
  go_enter Try.func105, Try.ntmps105
  go_wp2_with fail
  go_loopw [7] (fun i w' => ∃ r : Nat, r ≤ bs.length ∧ i = .int .i64 (r : Int) ∧ lead ls from' col = lead ls r col ∧ w = w') (fun i _ => bs.length - (intOf i).toNat)
  case atStart => exact ⟨from', hfr, rfl, rfl, rfl⟩
  case round =>
    obtain ⟨r, hr, rfl, hld, rfl⟩ := hrel
    by_cases hlt : r < bs.length
    · have c1 := (unhide HL).cell r hlt
      have c2 := (unhide HL).byte' r col hlt hc
      have HD := hide hld
      clear hld
      by_cases hz : cel ls r col = 0
      · have hb : ((((cel ls r col).toNat : Nat) : Int) != 0) = false := by rw [hz]; rfl
        generalize bs[r] = q at *
        go_wp2_with fail
        go_roundw
        case rel => exact ⟨r + 1, by omega, by go_num, by rw [unhide HD]; exact lead_next (by rw [unhide HLn]; exact hlt) hz, trivial⟩
        case measure => simp [intOf]; omega
      · have hb : ((((cel ls r col).toNat : Nat) : Int) != 0) = true := by simpa using fun e => hz (natB.1 e)
        generalize bs[r] = q at *
        go_wp2_with fail
        go_ret
        exact ⟨by rw [unhide HD, lead_here (by rw [unhide HLn]; exact hlt) hz]; rfl, rfl⟩
    · have hre : r = bs.length := by omega
      subst hre
      have HD := hide hld
      clear hld
      go_wp2_with fail
      go_ret
      exact ⟨by rw [unhide HD, lead_end (by rw [unhide HLn]; exact Nat.le_refl _)]; rfl, rfl⟩

/-- A row times c. -/
def scl (c : UInt8) (l : List UInt8) : List UInt8 := l.map (mul c)

theorem scl_step (c : UInt8) (l : List UInt8) (k : Nat) (h : k < l.length) : (scl c (l.take k) ++ l.drop k).set k (mul c l[k]) = scl c (l.take (k + 1)) ++ l.drop (k + 1) := by
  have hk : (scl c (l.take k)).length = k := by simp [scl]; omega
  rw [List.set_append_right _ _ (by omega), hk, Nat.sub_self, List.take_succ_eq_append_getElem h, List.drop_eq_getElem_cons h, List.set_cons_zero]
  unfold scl
  rw [List.map_append, List.append_assoc]
  rfl

set_option maxHeartbeats 400000 in
theorem scale_any (w : World) (p b : Nat) (l : List UInt8) (c : UInt8) (h : FAt w p) (hl : BAt w b l) (hpb : p ≠ b) (hm : l.length ≤ 4096) :
    Calls Try.prog 106 #[.pointer (some ⟨p, 0, none⟩), .slice (some ⟨b, 0, none⟩) l.length l.length, .int .u8 (c.toNat : Int)] w fun e w' => e = .returned (.tuple #[]) ∧ BAt w' b (scl c l) ∧ Fr (fun k => k = b) w w' := by
  have HF := hide h
  have HB := hide hl
  clear h hl
  go_enter Try.func106, Try.ntmps106
  go_wp2_with fail
  go_loopw [10] (fun i w' => ∃ k : Nat, k ≤ l.length ∧ i = .int .i64 (k : Int) ∧ BAt w' b (scl c (l.take k) ++ l.drop k) ∧ Fr (fun k => k = b) w w') (fun i _ => l.length - (intOf i).toNat)
  case atStart => exact ⟨0, by omega, rfl, by simpa [scl] using unhide HB, Fr.refl _ _⟩
  case round =>
    obtain ⟨k, hk, rfl, hB, hf⟩ := hrel
    by_cases hlt : k < l.length
    · have hlen : (scl c (l.take k)).length = k := by simp [scl]; omega
      have hlen2 : (scl c (l.take k) ++ l.drop k).length = l.length := by simp [hlen]; omega
      have c1 := hB.cell k (by omega)
      have z1 := hB.frozen k
      have e1 : (scl c (l.take k) ++ l.drop k)[k]'(by omega) = l[k] := by
        rw [List.getElem_append_right (by omega)]
        simp [hlen]
      rw [e1] at c1
      have hF := (unhide HF).kept hf hpb
      have HS := hide (scl_step c l k hlt)
      have HB2 := hide hB
      have Hf := hide hf
      have HM := hide (fmul_any wr p c l[k] hF)
      clear hB hf hF e1 hlen hlen2
      generalize l[k] = x at *
      go_wp2_with fail
      refine (unhide HM).mono ?_
      rintro e w2 ⟨rfl, nn, rfl⟩
      go_wp2_with fail
      go_roundw
      case rel =>
        refine ⟨k + 1, by omega, by go_num, ?_, ((unhide Hf).drewN nn).setCell (fun _ => rfl) _⟩
        rw [← unhide HS]
        exact BAt.set (w := wr.drewN nn) (unhide HB2) k _
      case measure => simp [intOf]; omega
    · have hke : k = l.length := by omega
      subst hke
      have HB2 := hide hB
      clear hB
      go_wp2_with fail
      go_end0
      have hB := unhide HB2
      rw [List.take_length, List.drop_length, List.append_nil] at hB
      exact ⟨rfl, hB, hf⟩

/-- A row and c times another. -/
def addt (c : UInt8) (l x : List UInt8) : List UInt8 := List.zipWith (fun a y => a ^^^ mul c y) l x

theorem addt_length (c : UInt8) (l x : List UInt8) (h : x.length = l.length) : (addt c l x).length = l.length := by simp [addt]; omega

theorem addt_zero (l x : List UInt8) (h : x.length = l.length) : addt 0 l x = l := by
  apply List.ext_getElem
  · exact addt_length 0 l x h
  · intro i h1 h2
    simp [addt, zero_mul]

theorem addt_step (c : UInt8) (l x : List UInt8) (k : Nat) (h : k < l.length) (hx : x.length = l.length) : (addt c (l.take k) (x.take k) ++ l.drop k).set k (l[k] ^^^ mul c (x[k]'(by omega))) = addt c (l.take (k + 1)) (x.take (k + 1)) ++ l.drop (k + 1) := by
  have hk : (addt c (l.take k) (x.take k)).length = k := by simp [addt]; omega
  rw [List.set_append_right _ _ (by omega), hk, Nat.sub_self, List.take_succ_eq_append_getElem h, List.take_succ_eq_append_getElem (show k < x.length by omega), List.drop_eq_getElem_cons h, List.set_cons_zero]
  unfold addt
  rw [List.zipWith_append (by simp; omega)]
  simp

set_option maxHeartbeats 1000000 in
theorem addTimes_any (w : World) (p b : Nat) (l : List UInt8) (c : UInt8) (xv : Value) (x : List UInt8) (h : FAt w p) (hl : BAt w b l) (hx : Rd w xv x) (hxb : ¬ xv.ownBlock = some b) (hpb : p ≠ b) (hm : l.length ≤ 140737488355328) (hxl : x.length = l.length) :
    Calls Try.prog 116 #[.pointer (some ⟨p, 0, none⟩), .slice (some ⟨b, 0, none⟩) l.length l.length, .int .u8 (c.toNat : Int), xv] w fun e w' => e = .returned (.tuple #[]) ∧ BAt w' b (addt c l x) ∧ Fr (fun k => k = b) w w' := by
  by_cases hc : c = 0
  · subst hc
    rw [addt_zero l x hxl]
    have HB := hide hl
    clear h hl hx hxb
    go_enter Try.func116, Try.ntmps116
    go_wp2_with fail
    exact bodyPost_ret (results_none rfl _ _ _) rfl ⟨rfl, unhide HB, Fr.refl _ _⟩
  · have hcb : (((c.toNat : Nat) : Int) == 0) = false := by simpa using fun e => hc (natB.1 e)
    obtain ⟨ao, cap, rfl⟩ := hx.shape
    rw [hxl]
    have HF := hide h
    have HB := hide hl
    have HX := hide hx
    have HXB := hide hxb
    have HXL := hide hxl
    clear h hl hx hxb hxl
    go_enter Try.func116, Try.ntmps116
    go_wp2_with fail
    go_loopw [14] (fun i w' => ∃ k : Nat, k ≤ l.length ∧ i = .int .i64 (k : Int) ∧ BAt w' b (addt c (l.take k) (x.take k) ++ l.drop k) ∧ Fr (fun k => k = b) w w') (fun i _ => l.length - (intOf i).toNat)
    case atStart => exact ⟨0, by omega, rfl, by simpa [addt] using unhide HB, Fr.refl _ _⟩
    case round =>
      obtain ⟨k, hk, rfl, hB, hf⟩ := hrel
      by_cases hlt : k < l.length
      · have hxl := unhide HXL
        have hxk := (unhide HX).kept hf (fun b' e h => unhide HXB (by rw [e, h]))
        obtain ⟨xb, xo, rfl, -, hcap, hcm, hcx⟩ := hxk.lits (by omega)
        have cx := hcx k (by omega)
        unfold maxLen at hcm
        have hlen : (addt c (l.take k) (x.take k)).length = k := by simp [addt]; omega
        have hlen2 : (addt c (l.take k) (x.take k) ++ l.drop k).length = l.length := by simp [hlen]; omega
        have c1 := hB.cell k (by omega)
        have z1 := hB.frozen k
        have e1 : (addt c (l.take k) (x.take k) ++ l.drop k)[k]'(by omega) = l[k] := by
          rw [List.getElem_append_right (by omega)]
          simp [hlen]
        rw [e1] at c1
        have hF := (unhide HF).kept hf hpb
        have HS := hide (addt_step c l x k hlt hxl)
        have HB2 := hide hB
        have Hf := hide hf
        obtain ⟨xk, hxk2⟩ : ∃ xk, xk = x[k]'(by rw [hxl]; exact hlt) := ⟨_, rfl⟩
        rw [← hxk2] at cx HS
        have HV := hide (xorV l[k] (mul c xk))
        have HF2 := hide hF
        clear hB hf hF e1 hlen hlen2 hxk hcx hxk2 hxl
        generalize l[k] = lk at *
        go_wp2_with fail
        go_region_with ((go_at_call 68; refine (fmul_any _ p c xk (by exact (unhide HF2))).mono ?_; rintro e w' ⟨rfl, nn, rfl⟩))
        all_goals
          go_wp2_with fail
          go_roundw
          case rel =>
            refine ⟨k + 1, by omega, by go_num, ?_, ((unhide Hf).drewN _).setCell (fun _ => rfl) _⟩
            rw [← unhide HS, unhide HV]
            exact BAt.set (w := wr.drewN _) (unhide HB2) k _
          case measure => simp [intOf]; omega
      · have hke : k = l.length := by omega
        subst hke
        have HB2 := hide hB
        clear hB
        go_wp2_with fail
        go_end0
        have hB := unhide HB2
        rw [List.take_length, List.drop_length, List.append_nil, ← unhide HXL, List.take_length] at hB
        exact ⟨rfl, hB, hf⟩

end Go.Proofs.Ytckmddkhkdcmmaa

namespace Go.Proofs.Ytckmddkhkdcmmaa
set_option linter.unusedVariables false
set_option linter.unusedSimpArgs false
open Go.RowKit
set_option linter.unusedVariables false

attribute [local go_sem ↓] Go.wp_at_zero Go.wp_at_succ

theorem Ls.setRow {w w' : World} {g m : Nat} {bs : List Nat} {ls : List (List UInt8)} (h : Ls w g bs m ls) (i : Nat) (hi : i < bs.length) (l : List UInt8) (hl : l.length = m) (hB : BAt w' bs[i] l) (f : Fr (fun k => k = bs[i]) w w') : Ls w' g bs m (ls.set i l) := by
  refine ⟨?_, by simp [h.len], ?_, ?_, h.nd, h.ng⟩
  · rw [f.block g (lt_of_heap h.heap) (fun e => h.ng (by rw [e]; exact List.getElem_mem _))]; exact h.heap
  · intro x hx
    rcases List.mem_or_eq_of_mem_set hx with hx | rfl
    · exact h.wid x hx
    · exact hl
  · intro j hj
    by_cases e : i = j
    · subst e; simpa using hB
    · have hne : bs[j] ≠ bs[i] := fun h2 => e ((List.getElem_inj h.nd).1 h2.symm)
      simpa [List.getElem_set_ne e] using (h.row j hj).kept f hne

/-- The row r when the others are cleared by the row ld. -/
def crow (ls : List (List UInt8)) (ld col r : Nat) : List UInt8 := if r = ld then ls[r]?.getD [] else addt (cel ls r col) (ls[r]?.getD []) (ls[ld]?.getD [])

/-- The first k rows are cleared. -/
def clrK (ls : List (List UInt8)) (ld col k : Nat) : List (List UInt8) := ls.mapIdx fun r l => if r < k then crow ls ld col r else l

theorem clrK_length (ls : List (List UInt8)) (ld col k : Nat) : (clrK ls ld col k).length = ls.length := by simp [clrK]
theorem clrK_zero (ls : List (List UInt8)) (ld col : Nat) : clrK ls ld col 0 = ls := by
  apply List.ext_getElem
  · simp [clrK]
  · intro i h1 h2; simp [clrK]
theorem clrK_get (ls : List (List UInt8)) (ld col k i : Nat) (hi : i < ls.length) (hk : k ≤ i) : (clrK ls ld col k)[i]'(by rw [clrK_length]; exact hi) = ls[i] := by
  simp [clrK, show ¬ i < k by omega]
theorem clrK_ld (ls : List (List UInt8)) (ld col k : Nat) (hi : ld < ls.length) : (clrK ls ld col k)[ld]'(by rw [clrK_length]; exact hi) = ls[ld] := by
  simp [clrK, crow, List.getElem?_eq_getElem hi]
theorem clrK_step (ls : List (List UInt8)) (ld col k : Nat) (hk : k < ls.length) : (clrK ls ld col k).set k (crow ls ld col k) = clrK ls ld col (k + 1) := by
  apply List.ext_getElem
  · simp [clrK]
  · intro i h1 h2
    rw [List.getElem_set]
    split
    · rename_i e; subst e; simp [clrK]
    · rename_i e
      simp only [clrK, List.getElem_mapIdx]
      by_cases h : i < k
      · rw [if_pos h, if_pos (by omega)]
      · rw [if_neg h, if_neg (by omega)]
theorem clrK_skip (ls : List (List UInt8)) (ld col : Nat) (hk : ld < ls.length) : clrK ls ld col (ld + 1) = clrK ls ld col ld := by
  rw [← clrK_step ls ld col ld hk]
  have h : crow ls ld col ld = (clrK ls ld col ld)[ld]'(by rw [clrK_length]; exact hk) := by rw [clrK_ld _ _ _ _ hk]; simp [crow, List.getElem?_eq_getElem hk]
  rw [h, List.set_getElem_self]

def clr (ls : List (List UInt8)) (ld col : Nat) : List (List UInt8) := clrK ls ld col ls.length

theorem cel_of {ls : List (List UInt8)} {r c : Nat} (hr : r < ls.length) : cel ls r c = (ls[r][c]?).getD 0 := by
  unfold cel; rw [List.getElem?_eq_getElem hr]; rfl

theorem Ls.lt {w : World} {g m : Nat} {bs : List Nat} {ls : List (List UInt8)} (h : Ls w g bs m ls) : g < w.heap.size := lt_of_heap h.heap

set_option maxHeartbeats 1000000 in
theorem clearOthers_any (w : World) (p g m : Nat) (bs : List Nat) (ls : List (List UInt8)) (ld col : Nat) (hF : FAt w p) (h : Ls w g bs m ls) (hpb : p ∉ bs) (hld : ld < bs.length) (hc : col < m) (hm : m ≤ 4096) (hb : bs.length ≤ 4096) :
    Calls Try.prog 108 #[.pointer (some ⟨p, 0, none⟩), .slice (some ⟨g, 0, none⟩) bs.length bs.length, .int .i64 (ld : Int), .int .i64 (col : Int)] w fun e w' => e = .returned (.tuple #[]) ∧ Ls w' g bs m (clr ls ld col) ∧ Fr (fun k => k ∈ bs) w w' := by
  have hlen := h.len
  have HL := hide h
  have HF := hide hF
  have HLn := hide hlen
  have HP := hide hpb
  unfold clr
  rw [hlen]
  clear h hF hlen hpb
  go_enter Try.func108, Try.ntmps108
  go_wp2_with fail
  go_loopw [11] (fun i w' => ∃ k : Nat, k ≤ bs.length ∧ i = .int .i64 (k : Int) ∧ Ls w' g bs m (clrK ls ld col k) ∧ Fr (fun k => k ∈ bs) w w') (fun i _ => bs.length - (intOf i).toNat)
  case atStart => exact ⟨0, by omega, rfl, by rw [clrK_zero]; exact unhide HL, Fr.refl _ _⟩
  case round =>
    obtain ⟨k, hk, rfl, hL, hf⟩ := hrel
    have hlen := unhide HLn
    by_cases hlt : k < bs.length
    · by_cases hkl : k = ld
      · subst hkl
        have H1 := hide hL
        have H2 := hide hf
        clear hL hf hlen
        go_wp2_with fail
        go_roundw
        case rel => exact ⟨k + 1, by omega, by go_num, by rw [clrK_skip _ _ _ (by rw [unhide HLn]; exact hlt)]; exact unhide H1, unhide H2⟩
        case measure => simp [intOf]; omega
      · have hne : ((k : Int) != (ld : Int)) = true := by simp; omega
        have c1 := hL.cell k hlt
        have c2 := hL.cell ld hld
        have c3 := hL.byte' k col hlt hc
        have hk2 : k < ls.length := by omega
        have hld2 : ld < ls.length := by omega
        have wk : ls[k].length = m := (unhide HL).wid _ (List.getElem_mem _)
        have wl : ls[ld].length = m := (unhide HL).wid _ (List.getElem_mem _)
        have e3 : cel (clrK ls ld col k) k col = cel ls k col := by
          rw [cel_of (by rw [clrK_length]; exact hk2), cel_of hk2, clrK_get _ _ _ _ _ hk2 (Nat.le_refl _)]
        rw [e3] at c3
        have r1 := hL.row k hlt
        rw [clrK_get _ _ _ _ _ hk2 (Nat.le_refl _)] at r1
        have r2 := hL.row ld hld
        rw [clrK_ld _ _ _ _ hld2] at r2
        have hnb : bs[ld] ≠ bs[k] := fun h2 => hkl ((List.getElem_inj hL.nd).1 h2).symm
        have hpk : p ≠ bs[k] := fun e => unhide HP (by rw [e]; exact List.getElem_mem _)
        have hF2 := (unhide HF).kept hf (unhide HP)
        have hcr : crow ls ld col k = addt (cel ls k col) ls[k] ls[ld] := by
          unfold crow
          rw [if_neg hkl, List.getElem?_eq_getElem hk2, List.getElem?_eq_getElem hld2]
          rfl
        have hrd := r2.rd (by unfold maxLen; omega)
        rw [wl] at hrd
        have HA := hide (fun W (q : Fr (fun _ => False) wr W) => addTimes_any W p bs[k] ls[k] (cel ls k col) (.slice (some ⟨bs[ld], 0, none⟩) m m) ls[ld] (hF2.kept q id) (r1.kept q id) (hrd.kept q (fun _ _ h => h)) (by simpa [Value.ownBlock] using hnb) hpk (by omega) (by omega))
        rw [wk] at HA
        have H1 := hide hL
        have H2 := hide hf
        have H3 := hide hcr
        have H4 := hide (clrK_step ls ld col k hk2)
        have H5 := hide (addt_length (cel ls k col) ls[k] ls[ld] (by omega))
        have H6 := hide wk
        have H7 := hide (show bs[k] ∈ bs from List.getElem_mem _)
        have H8 := hide (fun l hl W hB f => hL.setRow (w' := W) k hlt l hl hB f)
        clear hL hf r1 r2 hF2 hrd hcr e3 wk wl hlen
        generalize bs[k] = bk at *
        generalize bs[ld] = bl at *
        generalize cel ls k col = cc at *
        go_wp2_with fail
        go_region_with ((go_at_call 116; refine (unhide HA _ (by exact Fr.ofDrewN _ 1)).mono ?_; rintro e w2 ⟨rfl, hB2, f2⟩))
        all_goals
          go_wp2_with fail
          go_roundw
          case rel =>
            refine ⟨k + 1, by omega, by go_num, ?_, (unhide H2).trans f2.drewL (fun i _ e => by subst e; exact unhide H7)⟩
            rw [← unhide H4, unhide H3]
            exact unhide H8 _ (by rw [unhide H5, unhide H6]) w2 hB2 f2.drewL
          case measure => simp [intOf]; omega
    · have hke : k = bs.length := by omega
      subst hke
      have H1 := hide hL
      have H2 := hide hf
      clear hL hf hlen
      go_wp2_with fail
      go_end0
      exact ⟨rfl, unhide H1, unhide H2⟩

/-- Two of a list exchanged. -/
def swp {α : Type} (l : List α) (i j : Nat) (a b : α) : List α := (l.set i b).set j a

theorem Ls.swap {w w' : World} {g m : Nat} {bs : List Nat} {ls : List (List UInt8)} (h : Ls w g bs m ls) (i j : Nat) (hi : i < bs.length) (hj : j < bs.length)
    (hg : w'.heap[g]? = some (.cells (lvs (swp bs i j bs[i] bs[j]) m).toArray 22 (0, 0))) (f : Fr (fun k => k = g) w w') :
    Ls w' g (swp bs i j bs[i] bs[j]) m (swp ls i j (ls[i]'(by rw [h.len]; exact hi)) (ls[j]'(by rw [h.len]; exact hj))) := by
  have hlen := h.len
  have hrow : ∀ k (hk : k < bs.length), BAt w' bs[k] (ls[k]'(by omega)) := fun k hk => (h.row k hk).kept f (fun e => h.ng (by rw [← e]; exact List.getElem_mem _))
  have hmem : ∀ x, x ∈ swp bs i j bs[i] bs[j] → x ∈ bs := by
    intro x hx
    rcases List.mem_or_eq_of_mem_set hx with hx | rfl
    · rcases List.mem_or_eq_of_mem_set hx with hx | rfl
      · exact hx
      · exact List.getElem_mem _
    · exact List.getElem_mem _
  refine ⟨hg, by simp [swp, hlen], ?_, ?_, ?_, fun e => h.ng (hmem _ e)⟩
  · intro x hx
    rcases List.mem_or_eq_of_mem_set hx with hx | rfl
    · rcases List.mem_or_eq_of_mem_set hx with hx | rfl
      · exact h.wid x hx
      · exact h.wid _ (List.getElem_mem _)
    · exact h.wid _ (List.getElem_mem _)
  · intro k hk
    have hk' : k < bs.length := by simpa [swp] using hk
    simp only [swp, List.getElem_set]
    by_cases e1 : j = k
    · subst e1; simp only; exact hrow i hi
    · simp only [if_neg e1]
      by_cases e2 : i = k
      · subst e2; simp only; exact hrow j hj
      · simp only [if_neg e2]; exact hrow k hk'
  · exact (List.set_set_perm hi hj).nodup_iff.2 h.nd

end Go.Proofs.Ytckmddkhkdcmmaa

namespace Go.Proofs.Ytckmddkhkdcmmaa
set_option linter.unusedVariables false
set_option linter.unusedSimpArgs false
open Go.RowKit
set_option linter.unusedVariables false

attribute [local go_sem ↓] Go.wp_at_zero Go.wp_at_succ

/-- One column: the row r leads, and goes to the place d. -/
def stp1 (ls : List (List UInt8)) (d col r : Nat) : List (List UInt8) := swp ls d r (ls[d]?.getD []) (ls[r]?.getD [])
def stp2 (ls : List (List UInt8)) (d col : Nat) : List (List UInt8) := ls.set d (scl (div 1 (cel ls d col)) (ls[d]?.getD []))
def stp (s : List (List UInt8) × Nat) (col : Nat) : List (List UInt8) × Nat :=
  match lead s.1 s.2 col with
  | none => s
  | some r => (clr (stp2 (stp1 s.1 s.2 col r) s.2 col) s.2 col, s.2 + 1)

def redK (ls : List (List UInt8)) : Nat → List (List UInt8) × Nat
  | 0 => (ls, 0)
  | k + 1 => stp (redK ls k) k

theorem ldg_some {ls : List (List UInt8)} {col f r s : Nat} (h : ldg ls col f r = some s) : r ≤ s ∧ s < r + f ∧ cel ls s col ≠ 0 := by
  induction f generalizing r with
  | zero => simp [ldg] at h
  | succ f ih =>
    simp only [ldg] at h
    split at h
    · obtain ⟨h1, h2, h3⟩ := ih h
      exact ⟨by omega, by omega, h3⟩
    · rename_i hc
      simp at h
      subst h
      exact ⟨Nat.le_refl _, by omega, hc⟩

theorem lead_some {ls : List (List UInt8)} {col d s : Nat} (h : lead ls d col = some s) : d ≤ s ∧ s < ls.length ∧ cel ls s col ≠ 0 := by
  obtain ⟨h1, h2, h3⟩ := ldg_some h
  exact ⟨h1, by omega, h3⟩

theorem stp1_length (ls : List (List UInt8)) (d col r : Nat) : (stp1 ls d col r).length = ls.length := by simp [stp1, swp]
theorem stp2_length (ls : List (List UInt8)) (d col : Nat) : (stp2 ls d col).length = ls.length := by simp [stp2]
theorem clr_length (ls : List (List UInt8)) (d col : Nat) : (clr ls d col).length = ls.length := by simp [clr, clrK_length]
theorem stp_length (s : List (List UInt8) × Nat) (col : Nat) : (stp s col).1.length = s.1.length := by
  unfold stp
  split
  · rfl
  · simp [clr_length, stp2_length, stp1_length]
theorem redK_length (ls : List (List UInt8)) (k : Nat) : (redK ls k).1.length = ls.length := by
  induction k with
  | zero => rfl
  | succ k ih => simp only [redK]; rw [stp_length, ih]
theorem stp_le (s : List (List UInt8) × Nat) (col : Nat) (h : s.2 ≤ s.1.length) : (stp s col).2 ≤ s.1.length := by
  unfold stp
  split
  · exact h
  · rename_i r hr
    have := lead_some hr
    show s.2 + 1 ≤ _
    omega
theorem redK_le (ls : List (List UInt8)) (k : Nat) : (redK ls k).2 ≤ ls.length := by
  induction k with
  | zero => exact Nat.zero_le _
  | succ k ih =>
    simp only [redK]
    have := stp_le (redK ls k) k (by rw [redK_length]; exact ih)
    rwa [redK_length] at this

theorem stp1_get {ls : List (List UInt8)} {d col r : Nat} (hd : d < ls.length) (hr : r < ls.length) : (stp1 ls d col r)[d]? = ls[r]? := by
  unfold stp1 swp
  by_cases e : r = d
  · subst e
    rw [List.getElem?_set_self (by simpa using hd)]
    simp [hd]
  · rw [List.getElem?_set_ne e, List.getElem?_set_self hd]
    simp [hr]

theorem stp1_lead {ls : List (List UInt8)} {d col r : Nat} (hd : d < ls.length) (hr : r < ls.length) : cel (stp1 ls d col r) d col = cel ls r col := by
  unfold cel
  rw [stp1_get hd hr]

theorem lvs_set (bs : List Nat) (m i b : Nat) : (lvs bs m).toArray.setIfInBounds i (.slice (some ⟨b, 0, none⟩) m m) = (lvs (bs.set i b) m).toArray := by
  rw [List.setIfInBounds_toArray]
  simp [lvs, List.map_set]

theorem fr_two (w : World) (g i j : Nat) (a b : Value) : Fr (fun k => k = g) w ((w.setCell ⟨g, i, none⟩ a).setCell ⟨g, j, none⟩ b) :=
  ((Fr.refl (fun k => k = g) w).setCell (p := ⟨g, i, none⟩) (fun _ => rfl) a).setCell (p := ⟨g, j, none⟩) (fun _ => rfl) b

theorem Ls.swapped {w : World} {g m : Nat} {bs : List Nat} {ls : List (List UInt8)} (h : Ls w g bs m ls) (k d r : Nat) (hd : d < bs.length) (hr : r < bs.length) :
    Ls ((w.setCell ⟨g, d, none⟩ (.slice (some ⟨bs[r], 0, none⟩) m m)).setCell ⟨g, r, none⟩ (.slice (some ⟨bs[d], 0, none⟩) m m)) g (swp bs d r bs[d] bs[r]) m (stp1 ls d k r) := by
  have hlen := h.len
  have e : stp1 ls d k r = swp ls d r (ls[d]'(by omega)) (ls[r]'(by omega)) := by
    unfold stp1
    rw [List.getElem?_eq_getElem (show d < ls.length by omega), List.getElem?_eq_getElem (show r < ls.length by omega)]
    rfl
  rw [e]
  refine h.swap d r hd hr ?_ (fr_two _ _ _ _ _ _)
  have e1 := heap_setCell_same w g d _ 22 (.slice (some ⟨bs[r], 0, none⟩) m m) h.heap
  rw [lvs_set] at e1
  have e2 := heap_setCell_same _ g r _ 22 (.slice (some ⟨bs[d], 0, none⟩) m m) e1
  rw [lvs_set] at e2
  exact e2

theorem swp_length {α : Type} (l : List α) (i j : Nat) (a b : α) : (swp l i j a b).length = l.length := by simp [swp]
theorem swp_mem {bs : List Nat} {i j : Nat} (hi : i < bs.length) (hj : j < bs.length) {x : Nat} (hx : x ∈ swp bs i j bs[i] bs[j]) : x ∈ bs := by
  rcases List.mem_or_eq_of_mem_set hx with hx | rfl
  · rcases List.mem_or_eq_of_mem_set hx with hx | rfl
    · exact hx
    · exact List.getElem_mem _
  · exact List.getElem_mem _

set_option maxHeartbeats 2000000 in
set_option maxRecDepth 100000 in
theorem reduce_any (w : World) (g m n : Nat) (bs : List Nat) (ls : List (List UInt8)) (cols : Nat) (h : Ls w g bs m ls) (hbn : bs.length = n) (hc : cols ≤ m) (hm : m ≤ 4096) (hb : n ≤ 4096) :
    Calls Try.prog 76 #[.slice (some ⟨g, 0, none⟩) n n, .int .i64 (cols : Int)] w fun e w' => e = .returned (.int .i64 ((redK ls cols).2 : Int)) ∧
      (∃ bs', bs'.length = n ∧ (∀ x ∈ bs', x ∈ bs) ∧ Ls w' g bs' m (redK ls cols).1) ∧ Fr (fun k => k = g ∨ k ∈ bs) w w' := by
  have hlen := h.len
  have hgl := h.lt
  have hbl : ∀ x ∈ bs, x < w.heap.size := by
    intro x hx
    obtain ⟨i, hi, rfl⟩ := List.getElem_of_mem hx
    exact lt_of_heap (h.row i hi)
  rw [hbn] at hlen
  have HL := hide h
  have HBN := hide hbn
  have HLn := hide hlen
  have HBL := hide hbl
  clear h hlen hbl hbn
  go_enter Try.func76, Try.ntmps76
  go_wp2_with fail
  refine (newField_any w).mono ?_
  rintro e w1 ⟨rfl, hF1, f1⟩
  have HF1 := hide hF1
  have Hf1 := hide f1
  clear hF1 f1
  go_wp2_with fail
  go_loopw [6, 11] (fun d i w' => ∃ k : Nat, k ≤ cols ∧ i = .int .i64 (k : Int) ∧ d = .int .i64 ((redK ls k).2 : Int) ∧ FAt w' w.heap.size ∧
      (∃ bs', bs'.length = n ∧ (∀ x ∈ bs', x ∈ bs) ∧ Ls w' g bs' m (redK ls k).1) ∧ Fr (fun k => k = g ∨ k ∈ bs) w w') (fun _ i _ => cols - (intOf i).toNat)
  case atStart => exact ⟨0, by omega, rfl, rfl, unhide HF1, ⟨bs, unhide HBN, fun _ h => h, (unhide HL).kept (unhide Hf1) id (fun _ _ h => h)⟩, (unhide Hf1).mono (fun _ _ h => h.elim)⟩
  case round =>
    obtain ⟨k, hk, rfl, rfl, hF, ⟨bs', hbs, hsub, hL⟩, hf⟩ := hrel
    have hdl := redK_le ls k
    rw [unhide HLn] at hdl
    by_cases hlt : k < cols
    · have hlen2 := hL.len
      have HC := hide (leading_any wr g m bs' _ hL (redK ls k).2 k (by omega) hm (by omega) (by omega))
      rw [hbs] at HC hlen2
      have HB := hide hbs
      clear hbs
      have HS := hide (show redK ls (k + 1) = stp (redK ls k) k from rfl)
      generalize redK ls k = st at *
      obtain ⟨S, d⟩ := st
      simp only at *
      rcases hld : lead S d k with _ | r
      · rw [hld] at HC
        have HS2 := hide (show stp (S, d) k = (S, d) by simp only [stp]; rw [hld])
        have H1 := hide hL
        have H2 := hide hf
        have H3 := hide hsub
        have H4 := hide hF
        clear hL hf hsub hF hld
        go_wp2_with fail
        refine (unhide HC).mono ?_
        rintro e w2 ⟨rfl, rfl⟩
        have hneg : ldI none < 0 := by decide
        go_wp2_with fail
        go_roundw
        case rel => exact ⟨k + 1, by omega, by go_num, by rw [unhide HS, unhide HS2], unhide H4, ⟨bs', unhide HB, unhide H3, by rw [unhide HS, unhide HS2]; exact unhide H1⟩, unhide H2⟩
        case measure => simp [intOf]; omega
      · obtain ⟨r1, r2, r3⟩ := lead_some hld
        rw [hld] at HC
        have HC2 := HC
        rw [show ldI (some r) = (r : Int) from rfl] at HC2
        have hrb : r < bs'.length := by rw [unhide HB]; omega
        have hdb : d < bs'.length := by rw [unhide HB]; omega
        have c1 := hL.cell d hdb
        have c2 := hL.cell r hrb
        have z1 := frozen_of_heap hL.heap
        have HS2 := hide (show stp (S, d) k = (clr (stp2 (stp1 S d k r) d k) d k, d + 1) by simp only [stp]; rw [hld])
        have H1 := hide hL
        have H2 := hide hf
        have H3 := hide hsub
        have H4 := hide hF
        clear hL hf hsub hF hld HC
        generalize hbd : bs'[d] = bd at *
        generalize hbr : bs'[r] = br at *
        have HBD := hide hbd
        have HBR := hide hbr
        clear hbd hbr
        have hrn : r < n := by omega
        have hdn : d < n := by omega
        have c3 : (wr.setCell ⟨g, d, none⟩ (.slice (some ⟨br, 0, none⟩) m m)).cell? ⟨g, r, none⟩ = some (.slice (some ⟨br, 0, none⟩) m m) := by
          have e := heap_setCell_same wr g d _ 22 (.slice (some ⟨br, 0, none⟩) m m) (unhide H1).heap
          rw [cell_of_heap e]
          have c2' := c2
          rw [cell_of_heap (unhide H1).heap] at c2'
          by_cases e2 : d = r
          · subst e2
            rw [Array.getElem?_setIfInBounds_self_of_lt]
            simp [lvs]; exact hdb
          · rw [Array.getElem?_setIfInBounds_ne e2]; exact c2'
        go_wp2_with fail
        refine (unhide HC2).mono ?_
        rintro e w2 ⟨rfl, rfl⟩
        go_wp2_with fail
        go_region
        have L3 : Ls ((wr.setCell ⟨g, d, none⟩ (.slice (some ⟨br, 0, none⟩) m m)).setCell ⟨g, r, none⟩ (.slice (some ⟨bd, 0, none⟩) m m)).drew g (swp bs' d r bd br) m (stp1 S d k r) := by
          have := (unhide H1).swapped k d r hdb hrb
          rw [unhide HBD, unhide HBR] at this
          exact this.kept (Fr.refl (fun _ => False) _).drew id (fun _ _ h => h)
        have f3 : Fr (fun k => k = g) wr ((wr.setCell ⟨g, d, none⟩ (.slice (some ⟨br, 0, none⟩) m m)).setCell ⟨g, r, none⟩ (.slice (some ⟨bd, 0, none⟩) m m)).drew := (fr_two _ _ _ _ _ _).drew
        have HS3 := hide (fun x (hx : x ∈ swp bs' d r bd br) => unhide H3 x (swp_mem hdb hrb (by rw [unhide HBD, unhide HBR]; exact hx)))
        have HB3 := hide (show (swp bs' d r bd br).length = n by rw [swp_length]; exact unhide HB)
        have hne3 : cel (stp1 S d k r) d k ≠ 0 := by rw [stp1_lead (by omega) (by omega)]; exact r3
        clear c1 c2 c3 z1 HC2 H1 H3 r1 r2 r3 HB HBD HBR
        generalize swp bs' d r bd br = bs3 at *
        generalize stp1 S d k r = S3 at *
        generalize ((wr.setCell ⟨g, d, none⟩ (.slice (some ⟨br, 0, none⟩) m m)).setCell ⟨g, r, none⟩ (.slice (some ⟨bd, 0, none⟩) m m)).drew = w3 at *
        have hF3 := (unhide H4).kept f3 (by omega)
        have hf3 : Fr (fun k => k = g ∨ k ∈ bs) w w3 := (unhide H2).trans f3 (fun i _ h => .inl h)
        have hdb3 : d < bs3.length := by rw [unhide HB3]; omega
        have hlen3 : S3.length = n := by rw [L3.len]; exact unhide HB3
        have c1 := L3.cell d hdb3
        have c2 := L3.byte' d k hdb3 (by omega)
        have hdS : d < S3.length := by omega
        have wd : S3[d].length = m := L3.wid _ (List.getElem_mem _)
        have hpb : w.heap.size ≠ bs3[d] := fun e => by
          have := unhide HBL _ (unhide HS3 _ (List.getElem_mem hdb3))
          omega
        have HSC := hide (fun W (q : Fr (fun _ => False) w3 W) => scale_any W w.heap.size bs3[d] S3[d] (div 1 (cel S3 d k)) (hF3.kept q id) ((L3.row d hdb3).kept q id) hpb (by omega))
        rw [wd] at HSC
        have HF3 := hide hF3
        have HF3' := hide hf3
        have HL3 := hide L3
        have HR3 := hide (fun l hl W hB f => L3.setRow (w' := W) d hdb3 l hl hB f)
        have HM3 := hide (unhide HS3 _ (List.getElem_mem hdb3))
        have HW3 := hide wd
        have HP3 := hide hpb
        have HS2' : Hid (stp2 S3 d k = S3.set d (scl (div 1 (cel S3 d k)) S3[d])) := by
          unfold stp2
          rw [List.getElem?_eq_getElem hdS]
          exact rfl
        have HL4 := hide hlen3
        clear L3 f3 hF3 hf3 H2 H4 wd hpb hlen3 hlen2
        generalize cel S3 d k = cc at *
        generalize bs3[d] = b3 at *
        go_wp2_with fail
        go_region_with ((first | (go_at_call 107; refine (fdiv_any _ _ 1 cc hne3 (by exact (unhide HF3))).mono ?_; rintro e w' ⟨rfl, nn, rfl⟩) | (go_at_call 106; refine (unhide HSC _ (by first | exact Fr.ofDrewN _ 1 | exact Fr.ofDrewN _ _)).mono ?_; rintro e w4 ⟨rfl, hB4, f4⟩)))
        all_goals
          have f4' := (Fr.ofDrewN (S := fun k => k = b3) w3 _).trans f4 (fun _ _ h => h)
          have hF4 := (unhide HF3).kept f4' (unhide HP3)
          have L4 := unhide HR3 _ (by simp only [scl, List.length_map]; exact unhide HW3) w4 hB4 f4'
          have hf4 := (unhide HF3').trans f4' (fun i _ h => .inr (by subst h; exact unhide HM3))
          have HCL := hide (clearOthers_any w4 w.heap.size g m bs3 _ d k hF4 L4 (fun h => absurd (unhide HBL _ (unhide HS3 _ h)) (by omega)) hdb3 (by omega) hm (by rw [unhide HB3]; omega))
          rw [unhide HB3] at HCL
          have HF4 := hide hF4
          have Hf4 := hide hf4
          clear f4 f4' hF4 L4 hf4 hB4
          go_wp2_with fail
          refine (unhide HCL).mono ?_
          rintro e w5 ⟨rfl, L5, f5⟩
          have H5 := hide L5
          have H6 := hide ((unhide Hf4).trans f5 (fun i _ h => .inr (unhide HS3 _ h)))
          have H7 := hide ((unhide HF4).kept f5 (fun h => absurd (unhide HBL _ (unhide HS3 _ h)) (by omega)))
          clear L5 f5
          go_wp2_with fail
          go_roundw
          case rel =>
            refine ⟨k + 1, by omega, by go_num, by rw [unhide HS, unhide HS2]; go_num, unhide H7, ⟨bs3, unhide HB3, unhide HS3, ?_⟩, unhide H6⟩
            rw [unhide HS, unhide HS2, unhide HS2']
            exact unhide H5
          case measure => simp [intOf]; omega
    · have hke : k = cols := by omega
      subst hke
      have H1 := hide hL
      have H2 := hide hf
      have H3 := hide hsub
      have HB := hide hbs
      clear hL hf hsub hbs
      go_wp2_with fail
      go_ret
      exact ⟨rfl, ⟨bs', unhide HB, unhide H3, unhide H1⟩, unhide H2⟩
end Go.Proofs.Ytckmddkhkdcmmaa
