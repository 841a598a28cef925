/-
  The walk of package gf's reduce.
-/
import Derived.Test.YtckmddkhkdcmmaaRed
namespace Go.Proofs.Ytckmddkhkdcmmaa
open Go.RowKit
set_option linter.unusedVariables false

attribute [local go_sem ↓] Go.wp_at_zero Go.wp_at_succ

/-- One column: the row r leads, and goes to the place d. -/
def stp1 (ls : List (List UInt8)) (d col r : Nat) : List (List UInt8) := swp ls d r (ls[d]?.getD []) (ls[r]?.getD [])
def stp2 (ls : List (List UInt8)) (d col : Nat) : List (List UInt8) := ls.set d (scl (div 1 (cel ls d col)) (ls[d]?.getD []))
def stp (s : List (List UInt8) × Nat) (col : Nat) : List (List UInt8) × Nat :=
  match lead s.1 s.2 col with
  | none => s
  | some r => (clr (stp2 (stp1 s.1 s.2 col r) s.2 col) s.2 col, s.2 + 1)

def redK (ls : List (List UInt8)) : Nat → List (List UInt8) × Nat
  | 0 => (ls, 0)
  | k + 1 => stp (redK ls k) k

theorem ldg_some {ls : List (List UInt8)} {col f r s : Nat} (h : ldg ls col f r = some s) : r ≤ s ∧ s < r + f ∧ cel ls s col ≠ 0 := by
  induction f generalizing r with
  | zero => simp [ldg] at h
  | succ f ih =>
    simp only [ldg] at h
    split at h
    · obtain ⟨h1, h2, h3⟩ := ih h
      exact ⟨by omega, by omega, h3⟩
    · rename_i hc
      simp at h
      subst h
      exact ⟨Nat.le_refl _, by omega, hc⟩

theorem lead_some {ls : List (List UInt8)} {col d s : Nat} (h : lead ls d col = some s) : d ≤ s ∧ s < ls.length ∧ cel ls s col ≠ 0 := by
  obtain ⟨h1, h2, h3⟩ := ldg_some h
  exact ⟨h1, by omega, h3⟩

theorem stp1_length (ls : List (List UInt8)) (d col r : Nat) : (stp1 ls d col r).length = ls.length := by simp [stp1, swp]
theorem stp2_length (ls : List (List UInt8)) (d col : Nat) : (stp2 ls d col).length = ls.length := by simp [stp2]
theorem clr_length (ls : List (List UInt8)) (d col : Nat) : (clr ls d col).length = ls.length := by simp [clr, clrK_length]
theorem stp_length (s : List (List UInt8) × Nat) (col : Nat) : (stp s col).1.length = s.1.length := by
  unfold stp
  split
  · rfl
  · simp [clr_length, stp2_length, stp1_length]
theorem redK_length (ls : List (List UInt8)) (k : Nat) : (redK ls k).1.length = ls.length := by
  induction k with
  | zero => rfl
  | succ k ih => simp only [redK]; rw [stp_length, ih]
theorem stp_le (s : List (List UInt8) × Nat) (col : Nat) (h : s.2 ≤ s.1.length) : (stp s col).2 ≤ s.1.length := by
  unfold stp
  split
  · exact h
  · rename_i r hr
    have := lead_some hr
    show s.2 + 1 ≤ _
    omega
theorem redK_le (ls : List (List UInt8)) (k : Nat) : (redK ls k).2 ≤ ls.length := by
  induction k with
  | zero => exact Nat.zero_le _
  | succ k ih =>
    simp only [redK]
    have := stp_le (redK ls k) k (by rw [redK_length]; exact ih)
    rwa [redK_length] at this

theorem stp1_get {ls : List (List UInt8)} {d col r : Nat} (hd : d < ls.length) (hr : r < ls.length) : (stp1 ls d col r)[d]? = ls[r]? := by
  unfold stp1 swp
  by_cases e : r = d
  · subst e
    rw [List.getElem?_set_self (by simpa using hd)]
    simp [hd]
  · rw [List.getElem?_set_ne e, List.getElem?_set_self hd]
    simp [hr]

theorem stp1_lead {ls : List (List UInt8)} {d col r : Nat} (hd : d < ls.length) (hr : r < ls.length) : cel (stp1 ls d col r) d col = cel ls r col := by
  unfold cel
  rw [stp1_get hd hr]

theorem lvs_set (bs : List Nat) (m i b : Nat) : (lvs bs m).toArray.setIfInBounds i (.slice (some ⟨b, 0, none⟩) m m) = (lvs (bs.set i b) m).toArray := by
  rw [List.setIfInBounds_toArray]
  simp [lvs, List.map_set]

theorem fr_two (w : World) (g i j : Nat) (a b : Value) : Fr (fun k => k = g) w ((w.setCell ⟨g, i, none⟩ a).setCell ⟨g, j, none⟩ b) :=
  ((Fr.refl (fun k => k = g) w).setCell (p := ⟨g, i, none⟩) (fun _ => rfl) a).setCell (p := ⟨g, j, none⟩) (fun _ => rfl) b

theorem Ls.swapped {w : World} {g m : Nat} {bs : List Nat} {ls : List (List UInt8)} (h : Ls w g bs m ls) (k d r : Nat) (hd : d < bs.length) (hr : r < bs.length) :
    Ls ((w.setCell ⟨g, d, none⟩ (.slice (some ⟨bs[r], 0, none⟩) m m)).setCell ⟨g, r, none⟩ (.slice (some ⟨bs[d], 0, none⟩) m m)) g (swp bs d r bs[d] bs[r]) m (stp1 ls d k r) := by
  have hlen := h.len
  have e : stp1 ls d k r = swp ls d r (ls[d]'(by omega)) (ls[r]'(by omega)) := by
    unfold stp1
    rw [List.getElem?_eq_getElem (show d < ls.length by omega), List.getElem?_eq_getElem (show r < ls.length by omega)]
    rfl
  rw [e]
  refine h.swap d r hd hr ?_ (fr_two _ _ _ _ _ _)
  have e1 := heap_setCell_same w g d _ 22 (.slice (some ⟨bs[r], 0, none⟩) m m) h.heap
  rw [lvs_set] at e1
  have e2 := heap_setCell_same _ g r _ 22 (.slice (some ⟨bs[d], 0, none⟩) m m) e1
  rw [lvs_set] at e2
  exact e2

theorem swp_length {α : Type} (l : List α) (i j : Nat) (a b : α) : (swp l i j a b).length = l.length := by simp [swp]
theorem swp_mem {bs : List Nat} {i j : Nat} (hi : i < bs.length) (hj : j < bs.length) {x : Nat} (hx : x ∈ swp bs i j bs[i] bs[j]) : x ∈ bs := by
  rcases List.mem_or_eq_of_mem_set hx with hx | rfl
  · rcases List.mem_or_eq_of_mem_set hx with hx | rfl
    · exact hx
    · exact List.getElem_mem _
  · exact List.getElem_mem _

set_option maxHeartbeats 2000000 in
set_option maxRecDepth 100000 in
theorem reduce_any (w : World) (g m n : Nat) (bs : List Nat) (ls : List (List UInt8)) (cols : Nat) (h : Ls w g bs m ls) (hbn : bs.length = n) (hc : cols ≤ m) (hm : m ≤ 4096) (hb : n ≤ 4096) :
    Calls Try.prog 76 #[.slice (some ⟨g, 0, none⟩) n n, .int .i64 (cols : Int)] w fun e w' => e = .returned (.int .i64 ((redK ls cols).2 : Int)) ∧
      (∃ bs', bs'.length = n ∧ (∀ x ∈ bs', x ∈ bs) ∧ Ls w' g bs' m (redK ls cols).1) ∧ Fr (fun k => k = g ∨ k ∈ bs) w w' := by
  have hlen := h.len
  have hgl := h.lt
  have hbl : ∀ x ∈ bs, x < w.heap.size := by
    intro x hx
    obtain ⟨i, hi, rfl⟩ := List.getElem_of_mem hx
    exact lt_of_heap (h.row i hi)
  rw [hbn] at hlen
  have HL := hide h
  have HBN := hide hbn
  have HLn := hide hlen
  have HBL := hide hbl
  clear h hlen hbl hbn
  go_enter Try.func76, Try.ntmps76
  go_wp2_with fail
  refine (newField_any w).mono ?_
  rintro e w1 ⟨rfl, hF1, f1⟩
  have HF1 := hide hF1
  have Hf1 := hide f1
  clear hF1 f1
  go_wp2_with fail
  go_loopw [6, 11] (fun d i w' => ∃ k : Nat, k ≤ cols ∧ i = .int .i64 (k : Int) ∧ d = .int .i64 ((redK ls k).2 : Int) ∧ FAt w' w.heap.size ∧
      (∃ bs', bs'.length = n ∧ (∀ x ∈ bs', x ∈ bs) ∧ Ls w' g bs' m (redK ls k).1) ∧ Fr (fun k => k = g ∨ k ∈ bs) w w') (fun _ i _ => cols - (intOf i).toNat)
  case atStart => exact ⟨0, by omega, rfl, rfl, unhide HF1, ⟨bs, unhide HBN, fun _ h => h, (unhide HL).kept (unhide Hf1) id (fun _ _ h => h)⟩, (unhide Hf1).mono (fun _ _ h => h.elim)⟩
  case round =>
    obtain ⟨k, hk, rfl, rfl, hF, ⟨bs', hbs, hsub, hL⟩, hf⟩ := hrel
    have hdl := redK_le ls k
    rw [unhide HLn] at hdl
    by_cases hlt : k < cols
    · have hlen2 := hL.len
      have HC := hide (leading_any wr g m bs' _ hL (redK ls k).2 k (by omega) hm (by omega) (by omega))
      rw [hbs] at HC hlen2
      have HB := hide hbs
      clear hbs
      have HS := hide (show redK ls (k + 1) = stp (redK ls k) k from rfl)
      generalize redK ls k = st at *
      obtain ⟨S, d⟩ := st
      simp only at *
      rcases hld : lead S d k with _ | r
      · rw [hld] at HC
        have HS2 := hide (show stp (S, d) k = (S, d) by simp only [stp]; rw [hld])
        have H1 := hide hL
        have H2 := hide hf
        have H3 := hide hsub
        have H4 := hide hF
        clear hL hf hsub hF hld
        go_wp2_with fail
        refine (unhide HC).mono ?_
        rintro e w2 ⟨rfl, rfl⟩
        have hneg : ldI none < 0 := by decide
        go_wp2_with fail
        go_roundw
        case rel => exact ⟨k + 1, by omega, by go_num, by rw [unhide HS, unhide HS2], unhide H4, ⟨bs', unhide HB, unhide H3, by rw [unhide HS, unhide HS2]; exact unhide H1⟩, unhide H2⟩
        case measure => simp [intOf]; omega
      · obtain ⟨r1, r2, r3⟩ := lead_some hld
        rw [hld] at HC
        have HC2 := HC
        rw [show ldI (some r) = (r : Int) from rfl] at HC2
        have hrb : r < bs'.length := by rw [unhide HB]; omega
        have hdb : d < bs'.length := by rw [unhide HB]; omega
        have c1 := hL.cell d hdb
        have c2 := hL.cell r hrb
        have z1 := frozen_of_heap hL.heap
        have HS2 := hide (show stp (S, d) k = (clr (stp2 (stp1 S d k r) d k) d k, d + 1) by simp only [stp]; rw [hld])
        have H1 := hide hL
        have H2 := hide hf
        have H3 := hide hsub
        have H4 := hide hF
        clear hL hf hsub hF hld HC
        generalize hbd : bs'[d] = bd at *
        generalize hbr : bs'[r] = br at *
        have HBD := hide hbd
        have HBR := hide hbr
        clear hbd hbr
        have hrn : r < n := by omega
        have hdn : d < n := by omega
        have c3 : (wr.setCell ⟨g, d, none⟩ (.slice (some ⟨br, 0, none⟩) m m)).cell? ⟨g, r, none⟩ = some (.slice (some ⟨br, 0, none⟩) m m) := by
          have e := heap_setCell_same wr g d _ 22 (.slice (some ⟨br, 0, none⟩) m m) (unhide H1).heap
          rw [cell_of_heap e]
          have c2' := c2
          rw [cell_of_heap (unhide H1).heap] at c2'
          by_cases e2 : d = r
          · subst e2
            rw [Array.getElem?_setIfInBounds_self_of_lt]
            simp [lvs]; exact hdb
          · rw [Array.getElem?_setIfInBounds_ne e2]; exact c2'
        go_wp2_with fail
        refine (unhide HC2).mono ?_
        rintro e w2 ⟨rfl, rfl⟩
        go_wp2_with fail
        go_region
        have L3 : Ls ((wr.setCell ⟨g, d, none⟩ (.slice (some ⟨br, 0, none⟩) m m)).setCell ⟨g, r, none⟩ (.slice (some ⟨bd, 0, none⟩) m m)).drew g (swp bs' d r bd br) m (stp1 S d k r) := by
          have := (unhide H1).swapped k d r hdb hrb
          rw [unhide HBD, unhide HBR] at this
          exact this.kept (Fr.refl (fun _ => False) _).drew id (fun _ _ h => h)
        have f3 : Fr (fun k => k = g) wr ((wr.setCell ⟨g, d, none⟩ (.slice (some ⟨br, 0, none⟩) m m)).setCell ⟨g, r, none⟩ (.slice (some ⟨bd, 0, none⟩) m m)).drew := (fr_two _ _ _ _ _ _).drew
        have HS3 := hide (fun x (hx : x ∈ swp bs' d r bd br) => unhide H3 x (swp_mem hdb hrb (by rw [unhide HBD, unhide HBR]; exact hx)))
        have HB3 := hide (show (swp bs' d r bd br).length = n by rw [swp_length]; exact unhide HB)
        have hne3 : cel (stp1 S d k r) d k ≠ 0 := by rw [stp1_lead (by omega) (by omega)]; exact r3
        clear c1 c2 c3 z1 HC2 H1 H3 r1 r2 r3 HB HBD HBR
        generalize swp bs' d r bd br = bs3 at *
        generalize stp1 S d k r = S3 at *
        generalize ((wr.setCell ⟨g, d, none⟩ (.slice (some ⟨br, 0, none⟩) m m)).setCell ⟨g, r, none⟩ (.slice (some ⟨bd, 0, none⟩) m m)).drew = w3 at *
        have hF3 := (unhide H4).kept f3 (by omega)
        have hf3 : Fr (fun k => k = g ∨ k ∈ bs) w w3 := (unhide H2).trans f3 (fun i _ h => .inl h)
        have hdb3 : d < bs3.length := by rw [unhide HB3]; omega
        have hlen3 : S3.length = n := by rw [L3.len]; exact unhide HB3
        have c1 := L3.cell d hdb3
        have c2 := L3.byte' d k hdb3 (by omega)
        have hdS : d < S3.length := by omega
        have wd : S3[d].length = m := L3.wid _ (List.getElem_mem _)
        have hpb : w.heap.size ≠ bs3[d] := fun e => by
          have := unhide HBL _ (unhide HS3 _ (List.getElem_mem hdb3))
          omega
        have HSC := hide (fun W (q : Fr (fun _ => False) w3 W) => scale_any W w.heap.size bs3[d] S3[d] (div 1 (cel S3 d k)) (hF3.kept q id) ((L3.row d hdb3).kept q id) hpb (by omega))
        rw [wd] at HSC
        have HF3 := hide hF3
        have HF3' := hide hf3
        have HL3 := hide L3
        have HR3 := hide (fun l hl W hB f => L3.setRow (w' := W) d hdb3 l hl hB f)
        have HM3 := hide (unhide HS3 _ (List.getElem_mem hdb3))
        have HW3 := hide wd
        have HP3 := hide hpb
        have HS2' : Hid (stp2 S3 d k = S3.set d (scl (div 1 (cel S3 d k)) S3[d])) := by
          unfold stp2
          rw [List.getElem?_eq_getElem hdS]
          exact rfl
        have HL4 := hide hlen3
        clear L3 f3 hF3 hf3 H2 H4 wd hpb hlen3 hlen2
        generalize cel S3 d k = cc at *
        generalize bs3[d] = b3 at *
        go_wp2_with fail
        go_region_with ((first | (go_at_call 107; refine (fdiv_any _ _ 1 cc hne3 (by exact (unhide HF3))).mono ?_; rintro e w' ⟨rfl, nn, rfl⟩) | (go_at_call 106; refine (unhide HSC _ (by first | exact Fr.ofDrewN _ 1 | exact Fr.ofDrewN _ _)).mono ?_; rintro e w4 ⟨rfl, hB4, f4⟩)))
        all_goals
          have f4' := (Fr.ofDrewN (S := fun k => k = b3) w3 _).trans f4 (fun _ _ h => h)
          have hF4 := (unhide HF3).kept f4' (unhide HP3)
          have L4 := unhide HR3 _ (by simp only [scl, List.length_map]; exact unhide HW3) w4 hB4 f4'
          have hf4 := (unhide HF3').trans f4' (fun i _ h => .inr (by subst h; exact unhide HM3))
          have HCL := hide (clearOthers_any w4 w.heap.size g m bs3 _ d k hF4 L4 (fun h => absurd (unhide HBL _ (unhide HS3 _ h)) (by omega)) hdb3 (by omega) hm (by rw [unhide HB3]; omega))
          rw [unhide HB3] at HCL
          have HF4 := hide hF4
          have Hf4 := hide hf4
          clear f4 f4' hF4 L4 hf4 hB4
          go_wp2_with fail
          refine (unhide HCL).mono ?_
          rintro e w5 ⟨rfl, L5, f5⟩
          have H5 := hide L5
          have H6 := hide ((unhide Hf4).trans f5 (fun i _ h => .inr (unhide HS3 _ h)))
          have H7 := hide ((unhide HF4).kept f5 (fun h => absurd (unhide HBL _ (unhide HS3 _ h)) (by omega)))
          clear L5 f5
          go_wp2_with fail
          go_roundw
          case rel =>
            refine ⟨k + 1, by omega, by go_num, by rw [unhide HS, unhide HS2]; go_num, unhide H7, ⟨bs3, unhide HB3, unhide HS3, ?_⟩, unhide H6⟩
            rw [unhide HS, unhide HS2, unhide HS2']
            exact unhide H5
          case measure => simp [intOf]; omega
    · have hke : k = cols := by omega
      subst hke
      have H1 := hide hL
      have H2 := hide hf
      have H3 := hide hsub
      have HB := hide hbs
      clear hL hf hsub hbs
      go_wp2_with fail
      go_ret
      exact ⟨rfl, ⟨bs', unhide HB, unhide H3, unhide H1⟩, unhide H2⟩
end Go.Proofs.Ytckmddkhkdcmmaa
