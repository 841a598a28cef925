/-
  The walks of package gf's rows: lists of lists, the first row with something in a column, rows scaled and added.
-/
import Derived.Test.YtckmddkhkdcmmaaMat
namespace Go.Proofs.Ytckmddkhkdcmmaa
open Go.RowKit
set_option linter.unusedVariables false

attribute [local go_sem ↓] Go.wp_at_zero Go.wp_at_succ

/-- The cells of a list of rows that lie in these blocks. -/
def lvs (bs : List Nat) (m : Nat) : List Value := bs.map fun b => Value.slice (some ⟨b, 0, none⟩) m m

/-- Rows lie in the blocks bs, the list of them in block g. -/
structure Ls (w : World) (g : Nat) (bs : List Nat) (m : Nat) (ls : List (List UInt8)) : Prop where
  heap : w.heap[g]? = some (.cells (lvs bs m).toArray 22 (0, 0))
  len : ls.length = bs.length
  wid : ∀ l ∈ ls, l.length = m
  row : ∀ i (h : i < bs.length), BAt w (bs[i]) (ls[i]'(by omega))
  nd : bs.Nodup
  ng : g ∉ bs

theorem Ls.kept {S : Nat → Prop} {w w' : World} {g m : Nat} {bs : List Nat} {ls : List (List UInt8)} (h : Ls w g bs m ls) (f : Fr S w w') (hg : ¬ S g) (hb : ∀ b ∈ bs, ¬ S b) : Ls w' g bs m ls :=
  ⟨by rw [f.block g (lt_of_heap h.heap) hg]; exact h.heap, h.len, h.wid, fun i hi => (h.row i hi).kept f (hb _ (List.getElem_mem _)), h.nd, h.ng⟩

theorem Ls.cell {w : World} {g m : Nat} {bs : List Nat} {ls : List (List UInt8)} (h : Ls w g bs m ls) (i : Nat) (hi : i < bs.length) : w.cell? ⟨g, i, none⟩ = some (.slice (some ⟨bs[i], 0, none⟩) m m) := by
  rw [cell_of_heap h.heap]
  simp [lvs, hi]

theorem Ls.byte {w : World} {g m : Nat} {bs : List Nat} {ls : List (List UInt8)} (h : Ls w g bs m ls) (i j : Nat) (hi : i < bs.length) (hj : j < m) :
    w.cell? ⟨bs[i], j, none⟩ = some (.int .u8 ((((ls[i]'(by rw [h.len]; exact hi))[j]?.getD 0).toNat : Nat) : Int)) := by
  have hl : (ls[i]'(by rw [h.len]; exact hi)).length = m := h.wid _ (List.getElem_mem _)
  rw [(h.row i hi).cell j (by omega), List.getElem?_eq_getElem (by omega)]
  rfl

/-- What stands in a row and a column. -/
def cel (ls : List (List UInt8)) (r c : Nat) : UInt8 := ((ls[r]?.getD [])[c]?).getD 0

theorem Ls.byte' {w : World} {g m : Nat} {bs : List Nat} {ls : List (List UInt8)} (h : Ls w g bs m ls) (i j : Nat) (hi : i < bs.length) (hj : j < m) :
    w.cell? ⟨bs[i], j, none⟩ = some (.int .u8 (((cel ls i j).toNat : Nat) : Int)) := by
  rw [h.byte i j hi hj]
  unfold cel
  rw [List.getElem?_eq_getElem (show i < ls.length by rw [h.len]; exact hi)]
  rfl

/-- The first row from r on with something in the column. -/
def ldg (ls : List (List UInt8)) (col : Nat) : Nat → Nat → Option Nat
  | 0, _ => none
  | f + 1, r => if cel ls r col = 0 then ldg ls col f (r + 1) else some r

def lead (ls : List (List UInt8)) (from' col : Nat) : Option Nat := ldg ls col (ls.length - from') from'

theorem lead_next {ls : List (List UInt8)} {r col : Nat} (hr : r < ls.length) (h : cel ls r col = 0) : lead ls r col = lead ls (r + 1) col := by
  unfold lead
  rw [show ls.length - r = (ls.length - (r + 1)) + 1 by omega]
  simp only [ldg]
  rw [if_pos h]
theorem lead_here {ls : List (List UInt8)} {r col : Nat} (hr : r < ls.length) (h : ¬ cel ls r col = 0) : lead ls r col = some r := by
  unfold lead
  rw [show ls.length - r = (ls.length - (r + 1)) + 1 by omega]
  simp only [ldg]
  rw [if_neg h]
theorem lead_end {ls : List (List UInt8)} {r col : Nat} (hr : ls.length ≤ r) : lead ls r col = none := by
  unfold lead
  rw [show ls.length - r = 0 by omega]
  rfl

/-- As Go tells it: -1 for none. -/
def ldI : Option Nat → Int
  | none => -1
  | some r => r

set_option maxHeartbeats 400000 in
theorem leading_any (w : World) (g m : Nat) (bs : List Nat) (ls : List (List UInt8)) (h : Ls w g bs m ls) (from' col : Nat) (hc : col < m) (hm : m ≤ 4096) (hb : bs.length ≤ 4096) (hfr : from' ≤ bs.length) :
    Calls Try.prog 105 #[.slice (some ⟨g, 0, none⟩) bs.length bs.length, .int .i64 (from' : Int), .int .i64 (col : Int)] w fun e w' => e = .returned (.int .i64 (ldI (lead ls from' col))) ∧ w = w' := by
  have HL := hide h
  have HLn := hide h.len
  clear h
  go_enter Try.func105, Try.ntmps105
  go_wp2_with fail
  go_loopw [7] (fun i w' => ∃ r : Nat, r ≤ bs.length ∧ i = .int .i64 (r : Int) ∧ lead ls from' col = lead ls r col ∧ w = w') (fun i _ => bs.length - (intOf i).toNat)
  case atStart => exact ⟨from', hfr, rfl, rfl, rfl⟩
  case round =>
    obtain ⟨r, hr, rfl, hld, rfl⟩ := hrel
    by_cases hlt : r < bs.length
    · have c1 := (unhide HL).cell r hlt
      have c2 := (unhide HL).byte' r col hlt hc
      have HD := hide hld
      clear hld
      by_cases hz : cel ls r col = 0
      · have hb : ((((cel ls r col).toNat : Nat) : Int) != 0) = false := by rw [hz]; rfl
        generalize bs[r] = q at *
        go_wp2_with fail
        go_roundw
        case rel => exact ⟨r + 1, by omega, by go_num, by rw [unhide HD]; exact lead_next (by rw [unhide HLn]; exact hlt) hz, trivial⟩
        case measure => simp [intOf]; omega
      · have hb : ((((cel ls r col).toNat : Nat) : Int) != 0) = true := by simpa using fun e => hz (natB.1 e)
        generalize bs[r] = q at *
        go_wp2_with fail
        go_ret
        exact ⟨by rw [unhide HD, lead_here (by rw [unhide HLn]; exact hlt) hz]; rfl, rfl⟩
    · have hre : r = bs.length := by omega
      subst hre
      have HD := hide hld
      clear hld
      go_wp2_with fail
      go_ret
      exact ⟨by rw [unhide HD, lead_end (by rw [unhide HLn]; exact Nat.le_refl _)]; rfl, rfl⟩

/-- A row times c. -/
def scl (c : UInt8) (l : List UInt8) : List UInt8 := l.map (mul c)

theorem scl_step (c : UInt8) (l : List UInt8) (k : Nat) (h : k < l.length) : (scl c (l.take k) ++ l.drop k).set k (mul c l[k]) = scl c (l.take (k + 1)) ++ l.drop (k + 1) := by
  have hk : (scl c (l.take k)).length = k := by simp [scl]; omega
  rw [List.set_append_right _ _ (by omega), hk, Nat.sub_self, List.take_succ_eq_append_getElem h, List.drop_eq_getElem_cons h, List.set_cons_zero]
  unfold scl
  rw [List.map_append, List.append_assoc]
  rfl

set_option maxHeartbeats 400000 in
theorem scale_any (w : World) (p b : Nat) (l : List UInt8) (c : UInt8) (h : FAt w p) (hl : BAt w b l) (hpb : p ≠ b) (hm : l.length ≤ 4096) :
    Calls Try.prog 106 #[.pointer (some ⟨p, 0, none⟩), .slice (some ⟨b, 0, none⟩) l.length l.length, .int .u8 (c.toNat : Int)] w fun e w' => e = .returned (.tuple #[]) ∧ BAt w' b (scl c l) ∧ Fr (fun k => k = b) w w' := by
  have HF := hide h
  have HB := hide hl
  clear h hl
  go_enter Try.func106, Try.ntmps106
  go_wp2_with fail
  go_loopw [10] (fun i w' => ∃ k : Nat, k ≤ l.length ∧ i = .int .i64 (k : Int) ∧ BAt w' b (scl c (l.take k) ++ l.drop k) ∧ Fr (fun k => k = b) w w') (fun i _ => l.length - (intOf i).toNat)
  case atStart => exact ⟨0, by omega, rfl, by simpa [scl] using unhide HB, Fr.refl _ _⟩
  case round =>
    obtain ⟨k, hk, rfl, hB, hf⟩ := hrel
    by_cases hlt : k < l.length
    · have hlen : (scl c (l.take k)).length = k := by simp [scl]; omega
      have hlen2 : (scl c (l.take k) ++ l.drop k).length = l.length := by simp [hlen]; omega
      have c1 := hB.cell k (by omega)
      have z1 := hB.frozen k
      have e1 : (scl c (l.take k) ++ l.drop k)[k]'(by omega) = l[k] := by
        rw [List.getElem_append_right (by omega)]
        simp [hlen]
      rw [e1] at c1
      have hF := (unhide HF).kept hf hpb
      have HS := hide (scl_step c l k hlt)
      have HB2 := hide hB
      have Hf := hide hf
      have HM := hide (fmul_any wr p c l[k] hF)
      clear hB hf hF e1 hlen hlen2
      generalize l[k] = x at *
      go_wp2_with fail
      refine (unhide HM).mono ?_
      rintro e w2 ⟨rfl, nn, rfl⟩
      go_wp2_with fail
      go_roundw
      case rel =>
        refine ⟨k + 1, by omega, by go_num, ?_, ((unhide Hf).drewN nn).setCell (fun _ => rfl) _⟩
        rw [← unhide HS]
        exact BAt.set (w := wr.drewN nn) (unhide HB2) k _
      case measure => simp [intOf]; omega
    · have hke : k = l.length := by omega
      subst hke
      have HB2 := hide hB
      clear hB
      go_wp2_with fail
      go_end0
      have hB := unhide HB2
      rw [List.take_length, List.drop_length, List.append_nil] at hB
      exact ⟨rfl, hB, hf⟩

/-- A row and c times another. -/
def addt (c : UInt8) (l x : List UInt8) : List UInt8 := List.zipWith (fun a y => a ^^^ mul c y) l x

theorem addt_length (c : UInt8) (l x : List UInt8) (h : x.length = l.length) : (addt c l x).length = l.length := by simp [addt]; omega

theorem addt_zero (l x : List UInt8) (h : x.length = l.length) : addt 0 l x = l := by
  apply List.ext_getElem
  · exact addt_length 0 l x h
  · intro i h1 h2
    simp [addt, zero_mul]

theorem addt_step (c : UInt8) (l x : List UInt8) (k : Nat) (h : k < l.length) (hx : x.length = l.length) : (addt c (l.take k) (x.take k) ++ l.drop k).set k (l[k] ^^^ mul c (x[k]'(by omega))) = addt c (l.take (k + 1)) (x.take (k + 1)) ++ l.drop (k + 1) := by
  have hk : (addt c (l.take k) (x.take k)).length = k := by simp [addt]; omega
  rw [List.set_append_right _ _ (by omega), hk, Nat.sub_self, List.take_succ_eq_append_getElem h, List.take_succ_eq_append_getElem (show k < x.length by omega), List.drop_eq_getElem_cons h, List.set_cons_zero]
  unfold addt
  rw [List.zipWith_append (by simp; omega)]
  simp

set_option maxHeartbeats 1000000 in
theorem addTimes_any (w : World) (p b : Nat) (l : List UInt8) (c : UInt8) (xv : Value) (x : List UInt8) (h : FAt w p) (hl : BAt w b l) (hx : Rd w xv x) (hxb : ¬ xv.ownBlock = some b) (hpb : p ≠ b) (hm : l.length ≤ 140737488355328) (hxl : x.length = l.length) :
    Calls Try.prog 116 #[.pointer (some ⟨p, 0, none⟩), .slice (some ⟨b, 0, none⟩) l.length l.length, .int .u8 (c.toNat : Int), xv] w fun e w' => e = .returned (.tuple #[]) ∧ BAt w' b (addt c l x) ∧ Fr (fun k => k = b) w w' := by
  by_cases hc : c = 0
  · subst hc
    rw [addt_zero l x hxl]
    have HB := hide hl
    clear h hl hx hxb
    go_enter Try.func116, Try.ntmps116
    go_wp2_with fail
    exact bodyPost_ret (results_none rfl _ _ _) rfl ⟨rfl, unhide HB, Fr.refl _ _⟩
  · have hcb : (((c.toNat : Nat) : Int) == 0) = false := by simpa using fun e => hc (natB.1 e)
    obtain ⟨ao, cap, rfl⟩ := hx.shape
    rw [hxl]
    have HF := hide h
    have HB := hide hl
    have HX := hide hx
    have HXB := hide hxb
    have HXL := hide hxl
    clear h hl hx hxb hxl
    go_enter Try.func116, Try.ntmps116
    go_wp2_with fail
    go_loopw [14] (fun i w' => ∃ k : Nat, k ≤ l.length ∧ i = .int .i64 (k : Int) ∧ BAt w' b (addt c (l.take k) (x.take k) ++ l.drop k) ∧ Fr (fun k => k = b) w w') (fun i _ => l.length - (intOf i).toNat)
    case atStart => exact ⟨0, by omega, rfl, by simpa [addt] using unhide HB, Fr.refl _ _⟩
    case round =>
      obtain ⟨k, hk, rfl, hB, hf⟩ := hrel
      by_cases hlt : k < l.length
      · have hxl := unhide HXL
        have hxk := (unhide HX).kept hf (fun b' e h => unhide HXB (by rw [e, h]))
        obtain ⟨xb, xo, rfl, -, hcap, hcm, hcx⟩ := hxk.lits (by omega)
        have cx := hcx k (by omega)
        unfold maxLen at hcm
        have hlen : (addt c (l.take k) (x.take k)).length = k := by simp [addt]; omega
        have hlen2 : (addt c (l.take k) (x.take k) ++ l.drop k).length = l.length := by simp [hlen]; omega
        have c1 := hB.cell k (by omega)
        have z1 := hB.frozen k
        have e1 : (addt c (l.take k) (x.take k) ++ l.drop k)[k]'(by omega) = l[k] := by
          rw [List.getElem_append_right (by omega)]
          simp [hlen]
        rw [e1] at c1
        have hF := (unhide HF).kept hf hpb
        have HS := hide (addt_step c l x k hlt hxl)
        have HB2 := hide hB
        have Hf := hide hf
        obtain ⟨xk, hxk2⟩ : ∃ xk, xk = x[k]'(by rw [hxl]; exact hlt) := ⟨_, rfl⟩
        rw [← hxk2] at cx HS
        have HV := hide (xorV l[k] (mul c xk))
        have HF2 := hide hF
        clear hB hf hF e1 hlen hlen2 hxk hcx hxk2 hxl
        generalize l[k] = lk at *
        go_wp2_with fail
        go_region_with ((go_at_call 68; refine (fmul_any _ p c xk (by exact (unhide HF2))).mono ?_; rintro e w' ⟨rfl, nn, rfl⟩))
        all_goals
          go_wp2_with fail
          go_roundw
          case rel =>
            refine ⟨k + 1, by omega, by go_num, ?_, ((unhide Hf).drewN _).setCell (fun _ => rfl) _⟩
            rw [← unhide HS, unhide HV]
            exact BAt.set (w := wr.drewN _) (unhide HB2) k _
          case measure => simp [intOf]; omega
      · have hke : k = l.length := by omega
        subst hke
        have HB2 := hide hB
        clear hB
        go_wp2_with fail
        go_end0
        have hB := unhide HB2
        rw [List.take_length, List.drop_length, List.append_nil, ← unhide HXL, List.take_length] at hB
        exact ⟨rfl, hB, hf⟩

end Go.Proofs.Ytckmddkhkdcmmaa
