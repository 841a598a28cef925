/-
  Numbers out of bytes: take, word, long.
-/
import Derived.Test.YtbenailemoefhaaC2
namespace Go.Proofs.Ytbenailemoefhaa
open Go.RowKit
set_option linter.unusedVariables false
set_option linter.unusedSimpArgs false

attribute [local go_sem ↓] Go.wp_at_zero Go.wp_at_succ

/-- The number that bytes are. -/
def val (l : List UInt8) : Nat := l.foldl (fun a c => a * 256 + c.toNat) 0
theorem val_snoc (l : List UInt8) (c : UInt8) : val (l ++ [c]) = val l * 256 + c.toNat := by simp [val]
theorem val_go (l : List UInt8) : ∀ a, l.foldl (fun a c => a * 256 + c.toNat) a + 1 ≤ (a + 1) * 256 ^ l.length := by
  induction l with
  | nil => intro a; simp
  | cons c r ih =>
    intro a
    have h1 := ih (a * 256 + c.toNat)
    have h2 := c.toNat_lt
    rw [List.foldl_cons, List.length_cons, Nat.pow_succ]
    have h3 : (a * 256 + c.toNat + 1) * 256 ^ r.length ≤ ((a + 1) * 256) * 256 ^ r.length := Nat.mul_le_mul_right _ (by omega)
    have h4 : (a + 1) * 256 * 256 ^ r.length = (a + 1) * (256 ^ r.length * 256) := by rw [Nat.mul_assoc, Nat.mul_comm 256]
    omega
theorem val_lt (l : List UInt8) : val l < 256 ^ l.length := by
  have := val_go l 0
  unfold val
  omega
theorem wr64 (z : Int) (h0 : 0 ≤ z) (h1 : z < 18446744073709551616) : IntKind.u64.wrap z = z := by
  simp only [IntKind.wrap, IntKind.bits, IntKind.signed]; simp; omega
theorem or8 (m : Nat) (b : UInt8) (h : m < 72057594037927936) : bits BinOp.or IntKind.u64 ((m : Int) * 256) ((b.toNat : Nat) : Int) = ((m * 256 + b.toNat : Nat) : Int) := by
  have hb := b.toNat_lt
  have e1 : (m : Int) * 256 = ((m * 256 : Nat) : Int) := by omega
  rw [e1]
  show IntKind.u64.wrap ((BitVec.ofInt 64 _ ||| BitVec.ofInt 64 _).toNat : Int) = _
  rw [BitVec.ofInt_natCast, BitVec.ofInt_natCast, BitVec.toNat_or, BitVec.toNat_ofNat, BitVec.toNat_ofNat, Nat.mod_eq_of_lt (by omega), Nat.mod_eq_of_lt (by omega)]
  have e3 : m * 256 ||| b.toNat = m * 256 + b.toNat := by
    have := Nat.shiftLeft_add_eq_or_of_lt (i := 8) (b := b.toNat) (by omega) m
    rw [Nat.shiftLeft_eq] at this
    exact this.symm
  rw [e3, wr64 _ (by omega) (by omega)]
/-- What is left behind so many bytes. -/
def nx (B o n cap k : Nat) : Value := .slice (some ⟨B, if k = cap then o else o + k, none⟩) (n - k) (cap - k)
/-- Bytes that are taken from the front. -/
def SAt (w : World) (p : Nat) (v : Value) : Prop := w.heap[p]? = some (.cells #[v] 104 (0, 0))
theorem heap_setCell_row {w : World} {p : Nat} {cs : Array Value} {t : TypeId} (h : w.heap[p]? = some (.cells cs t (0, 0))) (j : Nat) (u : Value) : (w.setCell ⟨p, j, none⟩ u).heap[p]? = some (.cells (cs.setIfInBounds j u) t (0, 0)) := by
  unfold World.setCell
  rw [Array.getElem?_modify]
  simp [h]
set_option maxRecDepth 100000 in
set_option maxHeartbeats 4000000 in
theorem take_any (w : World) (p B o n cap k : Nat) (kz : Int) (hkz : kz = (k : Int)) (l : List UInt8) (hS : SAt w p (.slice (some ⟨B, o, none⟩) n cap)) (hl : l.length = k) (hk : k = 4 ∨ k = 8) (hkn : k ≤ n) (hnc : n ≤ cap) (hcm : cap ≤ maxLen) (hc : ∀ j (h : j < l.length), w.cell? ⟨B, o + j, none⟩ = some (.int .u8 ((l[j].toNat : Nat) : Int))) :
    Calls Try.prog 61 #[(.pointer (some ⟨p, 0, none⟩)), .int .i64 kz] w fun e w' => e = .returned (.int .u64 ((val l : Nat) : Int)) ∧ Fr (fun j => j = p) w w' ∧ SAt w' p (nx B o n cap k) := by
  have c0 : w.cell? ⟨p, 0, none⟩ = some (.slice (some ⟨B, o, none⟩) n cap) := by rw [cell_of_heap hS]; rfl
  have z0 : w.frozen? ⟨p, 0, none⟩ = false := frozen_of_heap hS 0
  have HC := hide hc
  have HS := hide hS
  have HL := hide hl
  clear hS hl hc
  rcases hk with rfl | rfl
  · obtain rfl : kz = 4 := hkz
    go_enter Try.func61, Try.ntmps61
    go_wp2_with fail
    go_loopw [5, 15] (fun a y W => ∃ j : Nat, j ≤ 4 ∧ y = .int .i64 (j : Int) ∧ a = .int .u64 ((val (l.take j) : Nat) : Int) ∧ W = w) (fun _ y _ => 4 - (intOf y).toNat)
    case atStart => exact ⟨0, by omega, rfl, by simp [val], rfl⟩
    case round =>
      obtain ⟨j, hj, rfl, rfl, rfl⟩ := hrel
      by_cases hlt : j < 4
      · have j1 : j < l.length := by have := unhide HL; omega
        have y0 := unhide HC j j1
        have HV : Hid (val (l.take (j + 1)) = val (l.take j) * 256 + l[j].toNat) := hide (by rw [List.take_succ_eq_append_getElem j1, val_snoc])
        have hm : val (l.take j) < 72057594037927936 := by
          have h1 := val_lt (l.take j)
          have h2 : 256 ^ (l.take j).length ≤ 256 ^ 7 := Nat.pow_le_pow_right (by decide) (by rw [List.length_take]; omega)
          have h3 : (256 : Nat) ^ 7 = 72057594037927936 := by decide
          omega
        have hor := or8 (val (l.take j)) l[j] hm
        have hb8 := l[j].toNat_lt
        generalize val (l.take j) = m at *
        generalize l[j] = c at *
        clear HC j1
        go_wp2_with fail
        go_roundw
        case rel => exact ⟨j + 1, by omega, by go_num, by rw [unhide HV]; first | rfl | (simp; done) | trace_state, by trivial⟩
        case measure => simp [intOf]; omega
      · obtain rfl : j = 4 := by omega
        have HV : Hid (val (l.take 4) = val l) := hide (by rw [List.take_of_length_le (by have := unhide HL; omega)])
        rw [unhide HV]
        obtain ⟨V, hV⟩ : ∃ V, V = val l := ⟨_, rfl⟩
        rw [← hV]
        have HVV := hide hV
        clear hV
        by_cases hcap : 4 = cap
        · subst hcap
          obtain rfl : n = 4 := by omega
          go_wp2_with fail
          go_ret
          exact ⟨by rw [← unhide HVV]; rfl, Fr.setCell (S := fun j => j = p) (Fr.refl _ _) (p := ⟨p, 0, none⟩) (fun _ => rfl) _, by unfold nx; (try rw [if_pos rfl]); unfold SAt; rw [heap_setCell_row (unhide HS)]; rfl⟩
        · have hlt2 : 4 < cap := by omega
          go_wp2_with fail
          go_ret
          exact ⟨by rw [← unhide HVV]; rfl, Fr.setCell (S := fun j => j = p) (Fr.refl _ _) (p := ⟨p, 0, none⟩) (fun _ => rfl) _, by unfold nx; (try rw [if_neg hcap]); unfold SAt; rw [heap_setCell_row (unhide HS)]; rfl⟩
  · obtain rfl : kz = 8 := hkz
    go_enter Try.func61, Try.ntmps61
    go_wp2_with fail
    go_loopw [5, 15] (fun a y W => ∃ j : Nat, j ≤ 8 ∧ y = .int .i64 (j : Int) ∧ a = .int .u64 ((val (l.take j) : Nat) : Int) ∧ W = w) (fun _ y _ => 8 - (intOf y).toNat)
    case atStart => exact ⟨0, by omega, rfl, by simp [val], rfl⟩
    case round =>
      obtain ⟨j, hj, rfl, rfl, rfl⟩ := hrel
      by_cases hlt : j < 8
      · have j1 : j < l.length := by have := unhide HL; omega
        have y0 := unhide HC j j1
        have HV : Hid (val (l.take (j + 1)) = val (l.take j) * 256 + l[j].toNat) := hide (by rw [List.take_succ_eq_append_getElem j1, val_snoc])
        have hm : val (l.take j) < 72057594037927936 := by
          have h1 := val_lt (l.take j)
          have h2 : 256 ^ (l.take j).length ≤ 256 ^ 7 := Nat.pow_le_pow_right (by decide) (by rw [List.length_take]; omega)
          have h3 : (256 : Nat) ^ 7 = 72057594037927936 := by decide
          omega
        have hor := or8 (val (l.take j)) l[j] hm
        have hb8 := l[j].toNat_lt
        generalize val (l.take j) = m at *
        generalize l[j] = c at *
        clear HC j1
        go_wp2_with fail
        go_roundw
        case rel => exact ⟨j + 1, by omega, by go_num, by rw [unhide HV]; first | rfl | (simp; done) | trace_state, by trivial⟩
        case measure => simp [intOf]; omega
      · obtain rfl : j = 8 := by omega
        have HV : Hid (val (l.take 8) = val l) := hide (by rw [List.take_of_length_le (by have := unhide HL; omega)])
        rw [unhide HV]
        obtain ⟨V, hV⟩ : ∃ V, V = val l := ⟨_, rfl⟩
        rw [← hV]
        have HVV := hide hV
        clear hV
        by_cases hcap : 8 = cap
        · subst hcap
          obtain rfl : n = 8 := by omega
          go_wp2_with fail
          go_ret
          exact ⟨by rw [← unhide HVV]; rfl, Fr.setCell (S := fun j => j = p) (Fr.refl _ _) (p := ⟨p, 0, none⟩) (fun _ => rfl) _, by unfold nx; (try rw [if_pos rfl]); unfold SAt; rw [heap_setCell_row (unhide HS)]; rfl⟩
        · have hlt2 : 8 < cap := by omega
          go_wp2_with fail
          go_ret
          exact ⟨by rw [← unhide HVV]; rfl, Fr.setCell (S := fun j => j = p) (Fr.refl _ _) (p := ⟨p, 0, none⟩) (fun _ => rfl) _, by unfold nx; (try rw [if_neg hcap]); unfold SAt; rw [heap_setCell_row (unhide HS)]; rfl⟩
theorem word_any (w : World) (p B o n cap : Nat) (l : List UInt8) (hS : SAt w p (.slice (some ⟨B, o, none⟩) n cap)) (hl : l.length = 4) (hkn : 4 ≤ n) (hnc : n ≤ cap) (hcm : cap ≤ maxLen) (hc : ∀ j (h : j < l.length), w.cell? ⟨B, o + j, none⟩ = some (.int .u8 ((l[j].toNat : Nat) : Int))) :
    Calls Try.prog 58 #[(.pointer (some ⟨p, 0, none⟩))] w fun e w' => e = .returned (.int .u32 ((val l : Nat) : Int)) ∧ Fr (fun j => j = p) w w' ∧ SAt w' p (nx B o n cap 4) := by
  have HT := hide (take_any w p B o n cap 4 4 rfl l hS hl (.inl rfl) hkn hnc hcm hc)
  have hv : val l < 4294967296 := by have := val_lt l; rw [hl] at this; exact this
  obtain ⟨V, hV⟩ : ∃ V, V = val l := ⟨_, rfl⟩
  rw [← hV] at HT hv ⊢
  clear hS hl hkn hnc hcm hc hV
  go_enter Try.func58, Try.ntmps58
  go_wp2_with fail
  refine (unhide HT).mono ?_
  rintro e w1 ⟨rfl, f1, s1⟩
  have F1 := hide f1
  have S1 := hide s1
  clear f1 s1 HT
  go_wp2_with fail
  go_ret
  exact ⟨by first | rfl | (simp [go_sem]; omega), unhide F1, unhide S1⟩
theorem long8_any (w : World) (p B o n cap : Nat) (l : List UInt8) (hS : SAt w p (.slice (some ⟨B, o, none⟩) n cap)) (hl : l.length = 8) (hkn : 8 ≤ n) (hnc : n ≤ cap) (hcm : cap ≤ maxLen) (hc : ∀ j (h : j < l.length), w.cell? ⟨B, o + j, none⟩ = some (.int .u8 ((l[j].toNat : Nat) : Int))) :
    Calls Try.prog 59 #[(.pointer (some ⟨p, 0, none⟩))] w fun e w' => e = .returned (.int .u64 ((val l : Nat) : Int)) ∧ Fr (fun j => j = p) w w' ∧ SAt w' p (nx B o n cap 8) := by
  have HT := hide (take_any w p B o n cap 8 8 rfl l hS hl (.inr rfl) hkn hnc hcm hc)
  obtain ⟨V, hV⟩ : ∃ V, V = val l := ⟨_, rfl⟩
  rw [← hV] at HT ⊢
  clear hS hl hkn hnc hcm hc hV
  go_enter Try.func59, Try.ntmps59
  go_wp2_with fail
  refine (unhide HT).mono ?_
  rintro e w1 ⟨rfl, f1, s1⟩
  have F1 := hide f1
  have S1 := hide s1
  clear f1 s1 HT
  go_wp2_with fail
  go_ret
  exact ⟨rfl, unhide F1, unhide S1⟩
end Go.Proofs.Ytbenailemoefhaa
