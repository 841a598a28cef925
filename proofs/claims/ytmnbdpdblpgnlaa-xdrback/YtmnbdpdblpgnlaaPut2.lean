/-
  The walks of PutList at texts, PutChain and PutOption, as the laws use them.
-/
import Derived.Test.YtmnbdpdblpgnlaaPut
namespace Go.Proofs.Ytmnbdpdblpgnlaa
open Go.RowKit
set_option linter.unusedVariables false

attribute [local go_sem ↓] Go.wp_at_zero Go.wp_at_succ

theorem putListS_no (w : World) (p : Nat) (q : Option Nat) (B : List UInt8) (E : Int) (x : Value) (l : List ByteArray) (most : Int) (f : Value) (h : WAt w p q B E) (hx : RdV w x (svs l)) (hm : E ≠ 0 ∨ most < (l.length : Int)) :
    Calls Try.prog 49 #[.pointer (some ⟨p, 0, none⟩), x, .int .i64 most, f] w fun e w' => e = .returned (.tuple #[]) ∧ WAt w' p q B (if E = 0 then 1 else E) ∧ WSt w w' p q q := by
  have hxl : (svs l).length = l.length := by simp [svs]
  obtain ⟨ao, cap, rfl⟩ := hx.shape
  rw [hxl]
  clear hxl hx
  by_cases hE : E = 0
  · subst hE
    have hm' : most < (l.length : Int) := by rcases hm with h | h; exact absurd rfl h; exact h
    have HN := hide (wlength_long w p q B l.length most h hm')
    clear h hm hm'
    go_enter Try.func49, Try.ntmps49
    go_wp2_with fail
    go_step3
    go_wp2_with fail
    refine (unhide HN).mono ?_
    rintro e w1 ⟨rfl, h1, s1⟩
    go_wp2_with fail
    rw [Exit.noGoto_ret]
    exact bodyPost_ret (results_none rfl _ _ _) rfl ⟨rfl, h1, s1⟩
  · rw [if_neg hE]
    obtain ⟨v, hp, _⟩ := id h
    have HN := hide (wlength_er w p E l.length most (WAt.cell1 hp) hE)
    clear hp hm
    go_enter Try.func49, Try.ntmps49
    go_wp2_with fail
    go_step3
    go_wp2_with fail
    refine (unhide HN).mono ?_
    rintro e w1 ⟨rfl, rfl⟩
    go_wp2_with fail
    rw [Exit.noGoto_ret]
    exact bodyPost_ret (results_none rfl _ _ _) rfl ⟨rfl, h, WSt.refl _ _ _⟩

/-- What the list of texts makes of a writer. -/
def wlistS (B : List UInt8) (E : Int) (l : List ByteArray) (most : Int) : List UInt8 × Int := if E ≠ 0 then (B, E) else if most < (l.length : Int) then (B, 1) else wtexts (B ++ be32 (l.length : Int), 0) l

theorem putListS_any (w : World) (p : Nat) (q : Option Nat) (B : List UInt8) (E : Int) (x : Value) (l : List ByteArray) (most : Int) (h : WAt w p q B E) (hx : RdV w x (svs l)) (hap : ∀ b, x.ownBlock = some b → l = [] ∨ ¬ foot p q b) (hw : ∀ t ∈ l, t.size < 4294967296) (hl : l.length < 4294967296) (hB : B.length + 16 * l.length + 4294967316 ≤ 140737488355328) :
    Calls Try.prog 49 #[.pointer (some ⟨p, 0, none⟩), x, .int .i64 most, .func (.func 33) #[] #[]] w fun e w' => e = .returned (.tuple #[]) ∧ ∃ q', WAt w' p q' (wlistS B E l most).1 (wlistS B E l most).2 ∧ WSt w w' p q q' := by
  unfold wlistS
  by_cases hE : E = 0
  · subst hE
    by_cases hm : most < (l.length : Int)
    · refine (putListS_no w p q B 0 x l most _ h hx (.inr hm)).mono ?_
      rintro e w' ⟨rfl, h1, h2⟩
      exact ⟨rfl, q, by simpa [hm] using h1, h2⟩
    · refine (putListS_ok w p q B x l most h hx hap hw hl (by omega) hB).mono ?_
      rintro e w' ⟨rfl, q', h1, h2⟩
      exact ⟨rfl, q', by simpa [hm] using h1, h2⟩
  · refine (putListS_no w p q B E x l most _ h hx (.inl hE)).mono ?_
    rintro e w' ⟨rfl, h1, h2⟩
    rw [if_neg hE] at h1
    exact ⟨rfl, q, by simpa [hE] using h1, h2⟩

/-- A chain's texts, one behind the other. -/
def wch (s : List UInt8 × Int) (l : List ByteArray) : List UInt8 × Int := l.foldl (fun s t => wopq (lay s.2 s.1 (be32 1)) s.2 t.data.toList 7) s

theorem wch_snoc (s : List UInt8 × Int) (l : List ByteArray) (t : ByteArray) : wch s (l ++ [t]) = wopq (lay (wch s l).2 (wch s l).1 (be32 1)) (wch s l).2 t.data.toList 7 := by simp [wch]

theorem lay_er (E : Int) (B l : List UInt8) (h : E ≠ 0) : lay E B l = B := by unfold lay; rw [if_neg h]

theorem wch_er : ∀ (l : List ByteArray) (s : List UInt8 × Int), s.2 ≠ 0 → wch s l = s
  | [], s, _ => rfl
  | t :: l, s, h => by
    show wch (wopq (lay s.2 s.1 (be32 1)) s.2 t.data.toList 7) l = s
    rw [wopq_er _ _ _ _ h, lay_er _ _ _ h]
    exact wch_er l s h

theorem wch_len : ∀ (l : List ByteArray) (s : List UInt8 × Int), (wch s l).1.length ≤ s.1.length + 20 * l.length
  | [], s => by simp [wch]
  | t :: l, s => by
    have h := wch_len l (wopq (lay s.2 s.1 (be32 1)) s.2 t.data.toList 7)
    have h2 := wopq_len (lay s.2 s.1 (be32 1)) s.2 t.data.toList
    have h3 := lay_len s.2 s.1 (be32 1)
    have h4 : (be32 1).length = 4 := rfl
    show (wch (wopq (lay s.2 s.1 (be32 1)) s.2 t.data.toList 7) l).1.length ≤ _
    simp only [List.length_cons]
    omega

theorem wch_all (l : List ByteArray) (k : Nat) (s : List UInt8 × Int) (h : (wch s (l.take k)).2 ≠ 0) : wch s l = wch s (l.take k) := by
  have e : wch s (l.take k ++ l.drop k) = wch (wch s (l.take k)) (l.drop k) := by simp only [wch, List.foldl_append]
  rw [List.take_append_drop] at e
  rw [e]
  exact wch_er _ _ h

set_option maxHeartbeats 400000 in
theorem putChain_any (w : World) (p : Nat) (q : Option Nat) (B : List UInt8) (E : Int) (x : Value) (l : List ByteArray) (h : WAt w p q B E) (hx : RdV w x (svs l)) (hap : ∀ b, x.ownBlock = some b → l = [] ∨ ¬ foot p q b) (hw : ∀ t ∈ l, t.size < 4294967296) (hB : B.length + 20 * l.length + 4294967316 ≤ 140737488355328) :
    Calls Try.prog 32 #[.pointer (some ⟨p, 0, none⟩), x, .func (.func 33) #[] #[]] w fun e w' => e = .returned (.tuple #[]) ∧ ∃ q', WAt w' p q' (lay (wch (B, E) l).2 (wch (B, E) l).1 (be32 0)) (wch (B, E) l).2 ∧ WSt w w' p q q' := by
  have hxl : (svs l).length = l.length := by simp [svs]
  obtain ⟨ao, cap, rfl⟩ := hx.shape
  have hlm := hx.len
  unfold maxLen at hlm
  rw [hxl] at hx hap hlm ⊢
  have HXL := hide hxl
  clear hxl
  have hlall := wch_len l (B, E)
  dsimp only at hlall
  go_enter Try.func32, Try.ntmps32
  go_wp2_with fail
  go_step3
  go_wp2_with fail
  go_step3
  go_wp2_with fail
  go_loopw [10] (fun i w' => ∃ k : Nat, k ≤ l.length ∧ i = .int .i64 k ∧ ∃ q', WAt w' p q' (wch (B, E) (l.take k)).1 (wch (B, E) (l.take k)).2 ∧ WSt w w' p q q') (fun i _ => l.length - (intOf i).toNat)
  case atStart => exact ⟨0, Nat.zero_le _, rfl, q, h, WSt.refl _ _ _⟩
  case round =>
    obtain ⟨k, hk, rfl, q2, h2, s2⟩ := hrel
    by_cases hlt : k < l.length
    · have hx2 := hx.kept s2.1 (fun b hb => (hap b hb).resolve_left (fun e => by rw [e] at hlt; simp at hlt))
      obtain ⟨b, o, rfl, -, -, hcm, hcell⟩ := hx2.lits (by rw [unhide HXL]; omega)
      have hc := hcell k (by rw [unhide HXL]; omega)
      simp only [svs, List.getElem_map] at hc
      unfold maxLen at hcm
      have hw1 := hw l[k] (List.getElem_mem hlt)
      have hln := wch_len (l.take k) (B, E)
      rw [List.length_take, Nat.min_eq_left hk] at hln
      dsimp only at hln
      have HS := hide (List.take_succ_eq_append_getElem hlt)
      have HB := hide (bool_any _ p q2 _ _ true h2 (by omega))
      have HX := hide (wch_snoc (B, E) (l.take k) l[k])
      have HA := hide (wch_all l k (B, E))
      have hl2 := lay_len (wch (B, E) (l.take k)).2 (wch (B, E) (l.take k)).1 (be32 1)
      have hl4 : (be32 1).length = 4 := rfl
      generalize l[k] = m at *
      clear hcell hx2 hx hw hap h
      generalize wch (B, E) (l.take k) = S at *
      obtain ⟨B2, E2⟩ := S
      dsimp only at *
      have H2 := hide s2
      clear s2 h2
      go_wp2_with fail
      refine (unhide HB).mono ?_
      rintro e w3 ⟨rfl, q3, h3, s3⟩
      simp only [if_true] at h3
      obtain ⟨v3, hp3, _⟩ := id h3
      have c1 := WAt.cell1 hp3
      clear hp3
      by_cases hE2 : E2 = 0
      · subst hE2
        have HT := hide (putText_any _ p q3 _ 0 m h3 hw1 (by omega))
        rw [← unhide HX] at HT
        clear h3
        go_wp2_with (go_at_call 67; refine (stuck_any _ _ 0 c1).mono ?_; rintro e w' ⟨rfl, rfl⟩)
        refine (unhide HT).mono ?_
        rintro e w4 ⟨rfl, q4, h4, s4⟩
        go_wp2_with fail
        go_roundw
        case rel => exact ⟨k + 1, by omega, by go_num, q4, by rw [unhide HS]; exact h4, ((unhide H2).trans s3).trans s4⟩
        case measure => simp [intOf]; omega
      · have hb : (E2 != 0) = true := by simpa using hE2
        rw [lay_er _ _ _ hE2] at h3
        go_wp2_with (go_at_call 67; refine (stuck_any _ _ _ c1).mono ?_; rintro e w' ⟨rfl, rfl⟩)
        refine (bool_any _ p q3 _ _ false h3 (by omega)).mono ?_
        rintro e w4 ⟨rfl, q4, h4, s4⟩
        go_wp2_with fail
        rw [Exit.noGoto_normal]
        go_end0
        rw [unhide HA hE2]
        exact ⟨rfl, q4, h4, ((unhide H2).trans s3).trans s4⟩
    · rw [show k = l.length from by omega, List.take_length] at h2
      have HB := hide (bool_any _ p q2 _ _ false h2 (by omega))
      go_wp2_with fail
      refine (unhide HB).mono ?_
      rintro e w3 ⟨rfl, q3, h3, s3⟩
      go_wp2_with fail
      rw [Exit.noGoto_normal]
      go_end0
      exact ⟨rfl, q3, h3, s2.trans s3⟩

/-- PutOption of nothing. -/
theorem putOption_none (w : World) (p : Nat) (q : Option Nat) (B : List UInt8) (E : Int) (f : Value) (h : WAt w p q B E) (hB : B.length + 4 ≤ 140737488355328) :
    Calls Try.prog 34 #[.pointer (some ⟨p, 0, none⟩), .pointer none, f] w fun e w' => e = .returned (.tuple #[]) ∧ ∃ q', WAt w' p q' (lay E B (be32 0)) E ∧ WSt w w' p q q' := by
  obtain ⟨v, hp, _⟩ := id h
  have c1 := WAt.cell1 hp
  clear hp
  by_cases hE : E = 0
  · subst hE
    have HB := hide (bool_any _ p q B 0 false h hB)
    go_enter Try.func34, Try.ntmps34
    go_wp2_with (go_at_call 67; refine (stuck_any _ _ 0 c1).mono ?_; rintro e w' ⟨rfl, rfl⟩)
    refine (unhide HB).mono ?_
    rintro e w3 ⟨rfl, q3, h3, s3⟩
    go_wp2_with fail
    go_end0
    exact ⟨rfl, q3, h3, s3⟩
  · have hb : (E != 0) = true := by simpa using hE
    rw [lay_er _ _ _ hE]
    go_enter Try.func34, Try.ntmps34
    go_wp2_with (go_at_call 67; refine (stuck_any _ _ _ c1).mono ?_; rintro e w' ⟨rfl, rfl⟩)
    exact bodyPost_ret (results_none rfl _ _ _) rfl ⟨rfl, q, h, WSt.refl _ _ _⟩

/-- PutOption of a number. -/
theorem putOption_some (w : World) (p : Nat) (q : Option Nat) (B : List UInt8) (E : Int) (b o : Nat) (n : Int) (h : WAt w p q B E) (hc : w.cell? ⟨b, o, none⟩ = some (.int .u32 n)) (hap : ¬ foot p q b) (hn : 0 ≤ n ∧ n < 4294967296) (hB : B.length + 8 ≤ 140737488355328) :
    Calls Try.prog 34 #[.pointer (some ⟨p, 0, none⟩), .pointer (some ⟨b, o, none⟩), .func (.func 31) #[] #[]] w fun e w' => e = .returned (.tuple #[]) ∧ ∃ q', WAt w' p q' (lay E B (be32 1 ++ be32 n)) E ∧ WSt w w' p q q' := by
  obtain ⟨v, hp, _⟩ := id h
  have c1 := WAt.cell1 hp
  clear hp
  by_cases hE : E = 0
  · subst hE
    have HB := hide (bool_any _ p q B 0 true h (by omega))
    have hl2 := lay_len 0 B (be32 1)
    have hl4 : (be32 1).length = 4 := rfl
    have hbl := World.block_lt_of_cell? w _ hc
    go_enter Try.func34, Try.ntmps34
    go_wp2_with (go_at_call 67; refine (stuck_any _ _ 0 c1).mono ?_; rintro e w' ⟨rfl, rfl⟩)
    refine (unhide HB).mono ?_
    rintro e w3 ⟨rfl, q3, h3, s3⟩
    simp only [if_true] at h3
    have hc3 : w3.cell? ⟨b, o, none⟩ = some (.int .u32 n) := by rw [s3.1.cell (a := ⟨b, o, none⟩) hbl hap]; exact hc
    have HN := hide (putNum_any _ p q3 _ 0 n h3 hn (by omega))
    clear hc h3 c1
    go_wp2_with fail
    refine (unhide HN).mono ?_
    rintro e w4 ⟨rfl, q4, h4, s4⟩
    go_wp2_with fail
    go_end0
    exact ⟨rfl, q4, by rw [← lay_lay]; exact h4, s3.trans s4⟩
  · have hb : (E != 0) = true := by simpa using hE
    rw [lay_er _ _ _ hE]
    go_enter Try.func34, Try.ntmps34
    go_wp2_with (go_at_call 67; refine (stuck_any _ _ _ c1).mono ?_; rintro e w' ⟨rfl, rfl⟩)
    exact bodyPost_ret (results_none rfl _ _ _) rfl ⟨rfl, q, h, WSt.refl _ _ _⟩

end Go.Proofs.Ytmnbdpdblpgnlaa
