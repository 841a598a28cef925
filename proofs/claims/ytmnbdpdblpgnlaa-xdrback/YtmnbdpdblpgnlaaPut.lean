/-
  The walks of PutList, PutChain and PutOption, as the laws use them.
-/
import Derived.Test.YtmnbdpdblpgnlaaLive
import Derived.WalkMore
import Derived.Deep.LoopGhost
namespace Go.Proofs.Ytmnbdpdblpgnlaa
open Go.RowKit
set_option linter.unusedVariables false

attribute [local go_sem ↓] Go.wp_at_zero Go.wp_at_succ

theorem putNum_any (w : World) (p : Nat) (q : Option Nat) (B : List UInt8) (E : Int) (n : Int) (h : WAt w p q B E) (hn : 0 ≤ n ∧ n < 4294967296) (hB : B.length + 4 ≤ 140737488355328) :
    Calls Try.prog 31 #[.pointer (some ⟨p, 0, none⟩), .int .u32 n] w fun e w' => e = .returned (.tuple #[]) ∧ ∃ q', WAt w' p q' (lay E B (be32 n)) E ∧ WSt w w' p q q' := by
  go_enter Try.func31, Try.ntmps31
  go_wp2_with (go_at_call 24; refine (uint_any w p q B E _ h hn hB).mono ?_; rintro e w' ⟨rfl, h'⟩)
  go_end0
  exact ⟨rfl, h'⟩

theorem putText_any (w : World) (p : Nat) (q : Option Nat) (B : List UInt8) (E : Int) (t : ByteArray) (h : WAt w p q B E) (hl : t.size < 4294967296) (hB : B.length + t.size + 8 ≤ 140737488355328) :
    Calls Try.prog 33 #[.pointer (some ⟨p, 0, none⟩), .string t] w fun e w' => e = .returned (.tuple #[]) ∧ ∃ q', WAt w' p q' (wopq B E t.data.toList 7).1 (wopq B E t.data.toList 7).2 ∧ WSt w w' p q q' := by
  go_enter Try.func33, Try.ntmps33
  go_wp2_with (go_at_call 28; refine (text_any w p q B E t 7 h hl hB).mono ?_; rintro e w' ⟨rfl, h'⟩)
  go_end0
  exact ⟨rfl, h'⟩

/-- Numbers, one behind the other. -/
def nums (l : List Int) : List UInt8 := (l.map be32).flatten

theorem nums_snoc (l : List Int) (n : Int) : nums (l ++ [n]) = nums l ++ be32 n := by simp [nums]
theorem nums_len (l : List Int) : (nums l).length = 4 * l.length := by
  induction l with
  | nil => rfl
  | cons n l ih => simp only [nums, List.map_cons, List.flatten_cons, List.length_append, List.length_cons] at *; rw [ih]; simp [be32]; omega

/-- Numbers as cells. -/
def uvs (l : List Int) : List Value := l.map fun n => Value.int .u32 n

set_option maxHeartbeats 400000 in
theorem putListN_ok (w : World) (p : Nat) (q : Option Nat) (B : List UInt8) (x : Value) (l : List Int) (most : Int) (h : WAt w p q B 0) (hx : RdV w x (uvs l)) (hap : ∀ b, x.ownBlock = some b → l = [] ∨ ¬ foot p q b) (hw : ∀ n ∈ l, 0 ≤ n ∧ n < 4294967296) (hl : l.length < 4294967296) (hm : (l.length : Int) ≤ most) (hB : B.length + 4 * l.length + 8 ≤ 140737488355328) :
    Calls Try.prog 30 #[.pointer (some ⟨p, 0, none⟩), x, .int .i64 most, .func (.func 31) #[] #[]] w fun e w' => e = .returned (.tuple #[]) ∧ ∃ q', WAt w' p q' (B ++ (be32 (l.length : Int) ++ nums l)) 0 ∧ WSt w w' p q q' := by
  have hxl : (uvs l).length = l.length := by simp [uvs]
  obtain ⟨ao, cap, rfl⟩ := hx.shape
  rw [hxl] at hx hap ⊢
  have HXL := hide hxl
  clear hxl
  go_enter Try.func30, Try.ntmps30
  go_wp2_with fail
  go_step3
  go_wp2_with fail
  refine (wlength_ok w p q B l.length most h hl hm (by omega)).mono ?_
  rintro e w1 ⟨rfl, q1, h1, s1⟩
  go_wp2_with fail
  go_step3
  go_wp2_with fail
  go_loopw [18] (fun i w' => ∃ k : Nat, k ≤ l.length ∧ i = .int .i64 k ∧ ∃ q', WAt w' p q' (B ++ (be32 (l.length : Int) ++ nums (l.take k))) 0 ∧ WSt w w' p q q') (fun i _ => l.length - (intOf i).toNat)
  case atStart => exact ⟨0, Nat.zero_le _, rfl, q1, by simpa [nums] using h1, s1⟩
  case round =>
    obtain ⟨k, hk, rfl, q2, h2, s2⟩ := hrel
    by_cases hlt : k < l.length
    · have hx2 := hx.kept s2.1 (fun b hb => (hap b hb).resolve_left (fun e => by rw [e] at hlt; simp at hlt))
      obtain ⟨b, o, rfl, -, -, hcm, hcell⟩ := hx2.lits (by rw [unhide HXL]; omega)
      have hc := hcell k (by rw [unhide HXL]; omega)
      simp only [uvs, List.getElem_map] at hc
      unfold maxLen at hcm
      obtain ⟨hw1, hw2⟩ := hw l[k] (List.getElem_mem hlt)
      have HS := hide (List.take_succ_eq_append_getElem hlt)
      have HN := hide (putNum_any _ p q2 _ 0 l[k] h2 ⟨hw1, hw2⟩ (by simp [nums_len, be32]; omega))
      generalize l[k] = m at *
      clear hcell hx2 hx hw hap h h1
      have H2 := hide s2
      clear s2 h2
      go_wp2_with fail
      refine (unhide HN).mono ?_
      rintro e w3 ⟨rfl, q3, h3, s3⟩
      obtain ⟨v3, hp3, _⟩ := id h3
      have c1 := WAt.cell1 hp3
      clear hp3
      go_wp2_with (go_at_call 67; refine (stuck_any _ _ 0 c1).mono ?_; rintro e w' ⟨rfl, rfl⟩)
      go_roundw
      case rel =>
        have hfin : WAt w3 p q3 (B ++ (be32 (l.length : Int) ++ nums (l.take (k + 1)))) 0 := by rw [unhide HS, nums_snoc]; simpa [lay] using h3
        exact ⟨k + 1, by omega, by go_num, q3, hfin, (unhide H2).trans s3⟩
      case measure => simp [intOf]; omega
    · go_wp2_with fail
      rw [Exit.noGoto_normal]
      go_end0
      rw [show k = l.length from by omega, List.take_length] at h2
      exact ⟨rfl, q2, h2, s2⟩

/-- PutList where nothing may be laid. -/
theorem putListN_no (w : World) (p : Nat) (q : Option Nat) (B : List UInt8) (E : Int) (x : Value) (l : List Int) (most : Int) (f : Value) (h : WAt w p q B E) (hx : RdV w x (uvs l)) (hm : E ≠ 0 ∨ most < (l.length : Int)) :
    Calls Try.prog 30 #[.pointer (some ⟨p, 0, none⟩), x, .int .i64 most, f] w fun e w' => e = .returned (.tuple #[]) ∧ WAt w' p q B (if E = 0 then 1 else E) ∧ WSt w w' p q q := by
  have hxl : (uvs l).length = l.length := by simp [uvs]
  obtain ⟨ao, cap, rfl⟩ := hx.shape
  rw [hxl]
  clear hxl hx
  by_cases hE : E = 0
  · subst hE
    have hm' : most < (l.length : Int) := by rcases hm with h | h; exact absurd rfl h; exact h
    have HN := hide (wlength_long w p q B l.length most h hm')
    clear h hm hm'
    go_enter Try.func30, Try.ntmps30
    go_wp2_with fail
    go_step3
    go_wp2_with fail
    refine (unhide HN).mono ?_
    rintro e w1 ⟨rfl, h1, s1⟩
    go_wp2_with fail
    rw [Exit.noGoto_ret]
    exact bodyPost_ret (results_none rfl _ _ _) rfl ⟨rfl, h1, s1⟩
  · rw [if_neg hE]
    obtain ⟨v, hp, _⟩ := id h
    have HN := hide (wlength_er w p E l.length most (WAt.cell1 hp) hE)
    clear hp hm
    go_enter Try.func30, Try.ntmps30
    go_wp2_with fail
    go_step3
    go_wp2_with fail
    refine (unhide HN).mono ?_
    rintro e w1 ⟨rfl, rfl⟩
    go_wp2_with fail
    rw [Exit.noGoto_ret]
    exact bodyPost_ret (results_none rfl _ _ _) rfl ⟨rfl, h, WSt.refl _ _ _⟩

/-- What the list of numbers makes of a writer. -/
def wlistN (B : List UInt8) (E : Int) (l : List Int) (most : Int) : List UInt8 × Int := if E ≠ 0 then (B, E) else if most < (l.length : Int) then (B, 1) else (B ++ (be32 (l.length : Int) ++ nums l), 0)

theorem putListN_any (w : World) (p : Nat) (q : Option Nat) (B : List UInt8) (E : Int) (x : Value) (l : List Int) (most : Int) (h : WAt w p q B E) (hx : RdV w x (uvs l)) (hap : ∀ b, x.ownBlock = some b → l = [] ∨ ¬ foot p q b) (hw : ∀ n ∈ l, 0 ≤ n ∧ n < 4294967296) (hl : l.length < 4294967296) (hB : B.length + 4 * l.length + 8 ≤ 140737488355328) :
    Calls Try.prog 30 #[.pointer (some ⟨p, 0, none⟩), x, .int .i64 most, .func (.func 31) #[] #[]] w fun e w' => e = .returned (.tuple #[]) ∧ ∃ q', WAt w' p q' (wlistN B E l most).1 (wlistN B E l most).2 ∧ WSt w w' p q q' := by
  unfold wlistN
  by_cases hE : E = 0
  · subst hE
    by_cases hm : most < (l.length : Int)
    · refine (putListN_no w p q B 0 x l most _ h hx (.inr hm)).mono ?_
      rintro e w' ⟨rfl, h1, h2⟩
      exact ⟨rfl, q, by simpa [hm] using h1, h2⟩
    · refine (putListN_ok w p q B x l most h hx hap hw hl (by omega) hB).mono ?_
      rintro e w' ⟨rfl, q', h1, h2⟩
      exact ⟨rfl, q', by simpa [hm] using h1, h2⟩
  · refine (putListN_no w p q B E x l most _ h hx (.inl hE)).mono ?_
    rintro e w' ⟨rfl, h1, h2⟩
    rw [if_neg hE] at h1
    exact ⟨rfl, q, by simpa [hE] using h1, h2⟩

/-- Texts, one behind the other, each of at most seven bytes. -/
def wtexts (s : List UInt8 × Int) (l : List ByteArray) : List UInt8 × Int := l.foldl (fun s t => wopq s.1 s.2 t.data.toList 7) s

theorem wtexts_snoc (s : List UInt8 × Int) (l : List ByteArray) (t : ByteArray) : wtexts s (l ++ [t]) = wopq (wtexts s l).1 (wtexts s l).2 t.data.toList 7 := by simp [wtexts]

theorem wopq_er (B : List UInt8) (E : Int) (l : List UInt8) (most : Int) (h : E ≠ 0) : wopq B E l most = (B, E) := by unfold wopq; rw [if_pos h]

theorem wtexts_er : ∀ (l : List ByteArray) (s : List UInt8 × Int), s.2 ≠ 0 → wtexts s l = s
  | [], s, _ => rfl
  | t :: l, s, h => by
    show wtexts (wopq s.1 s.2 t.data.toList 7) l = s
    rw [wopq_er _ _ _ _ h]
    exact wtexts_er l s h

theorem wopq_len (B : List UInt8) (E : Int) (l : List UInt8) : (wopq B E l 7).1.length ≤ B.length + 16 := by
  unfold wopq
  repeat' split
  · simp
  · simp
  · simp [opq, pad, be32]; omega

theorem wtexts_len : ∀ (l : List ByteArray) (s : List UInt8 × Int), (wtexts s l).1.length ≤ s.1.length + 16 * l.length
  | [], s => by simp [wtexts]
  | t :: l, s => by
    have h := wtexts_len l (wopq s.1 s.2 t.data.toList 7)
    have h2 := wopq_len s.1 s.2 t.data.toList
    show (wtexts (wopq s.1 s.2 t.data.toList 7) l).1.length ≤ _
    simp only [List.length_cons]
    omega

theorem take_all (l : List ByteArray) (k : Nat) (s : List UInt8 × Int) (h : (wtexts s (l.take k)).2 ≠ 0) : wtexts s l = wtexts s (l.take k) := by
  have e : wtexts s (l.take k ++ l.drop k) = wtexts (wtexts s (l.take k)) (l.drop k) := by simp only [wtexts, List.foldl_append]
  rw [List.take_append_drop] at e
  rw [e]
  exact wtexts_er _ _ h

/-- Texts as cells. -/
def svs (l : List ByteArray) : List Value := l.map fun t => Value.string t

set_option maxHeartbeats 400000 in
theorem putListS_ok (w : World) (p : Nat) (q : Option Nat) (B : List UInt8) (x : Value) (l : List ByteArray) (most : Int) (h : WAt w p q B 0) (hx : RdV w x (svs l)) (hap : ∀ b, x.ownBlock = some b → l = [] ∨ ¬ foot p q b) (hw : ∀ t ∈ l, t.size < 4294967296) (hl : l.length < 4294967296) (hm : (l.length : Int) ≤ most) (hB : B.length + 16 * l.length + 4294967316 ≤ 140737488355328) :
    Calls Try.prog 49 #[.pointer (some ⟨p, 0, none⟩), x, .int .i64 most, .func (.func 33) #[] #[]] w fun e w' => e = .returned (.tuple #[]) ∧ ∃ q', WAt w' p q' (wtexts (B ++ be32 (l.length : Int), 0) l).1 (wtexts (B ++ be32 (l.length : Int), 0) l).2 ∧ WSt w w' p q q' := by
  have hxl : (svs l).length = l.length := by simp [svs]
  obtain ⟨ao, cap, rfl⟩ := hx.shape
  rw [hxl] at hx hap ⊢
  have HXL := hide hxl
  clear hxl
  have hb4 : (B ++ be32 (l.length : Int)).length = B.length + 4 := by simp [be32]
  have HW := hide (wlength_ok w p q B l.length most h hl hm (by omega))
  generalize B ++ be32 (l.length : Int) = B1 at *
  go_enter Try.func49, Try.ntmps49
  go_wp2_with fail
  go_step3
  go_wp2_with fail
  refine (unhide HW).mono ?_
  rintro e w1 ⟨rfl, q1, h1, s1⟩
  go_wp2_with fail
  go_step3
  go_wp2_with fail
  go_loopw [18] (fun i w' => ∃ k : Nat, k ≤ l.length ∧ i = .int .i64 k ∧ (wtexts (B1, 0) (l.take k)).2 = 0 ∧ ∃ q', WAt w' p q' (wtexts (B1, 0) (l.take k)).1 0 ∧ WSt w w' p q q') (fun i _ => l.length - (intOf i).toNat)
  case atStart => exact ⟨0, Nat.zero_le _, rfl, rfl, q1, h1, s1⟩
  case round =>
    obtain ⟨k, hk, rfl, hz, q2, h2, s2⟩ := hrel
    by_cases hlt : k < l.length
    · have hx2 := hx.kept s2.1 (fun b hb => (hap b hb).resolve_left (fun e => by rw [e] at hlt; simp at hlt))
      obtain ⟨b, o, rfl, -, -, hcm, hcell⟩ := hx2.lits (by rw [unhide HXL]; omega)
      have hc := hcell k (by rw [unhide HXL]; omega)
      simp only [svs, List.getElem_map] at hc
      unfold maxLen at hcm
      have hw1 := hw l[k] (List.getElem_mem hlt)
      have hln := wtexts_len (l.take k) (B1, 0)
      rw [List.length_take, Nat.min_eq_left hk] at hln
      dsimp only at hln
      have HS := hide (List.take_succ_eq_append_getElem hlt)
      have HN := hide (putText_any _ p q2 _ 0 l[k] h2 hw1 (by omega))
      have HX := hide (wtexts_snoc (B1, 0) (l.take k) l[k])
      rw [hz] at HX
      have HA := hide (take_all l (k + 1) (B1, 0))
      rw [unhide HS] at HA
      generalize l[k] = m at *
      clear hcell hx2 hx hw hap h h1 hln
      have H2 := hide s2
      have HZ := hide hz
      clear s2 h2 hz
      go_wp2_with fail
      refine (unhide HN).mono ?_
      rintro e w3 ⟨rfl, q3, h3, s3⟩
      rw [← unhide HX] at h3
      obtain ⟨v3, hp3, _⟩ := id h3
      have c1 := WAt.cell1 hp3
      clear hp3
      by_cases hE3 : (wtexts (B1, 0) (l.take k ++ [m])).2 = 0
      · rw [hE3] at c1 h3
        have HE := hide hE3
        clear hE3
        go_wp2_with (go_at_call 67; refine (stuck_any _ _ 0 c1).mono ?_; rintro e w' ⟨rfl, rfl⟩)
        go_roundw
        case rel => exact ⟨k + 1, by omega, by go_num, by rw [unhide HS]; exact unhide HE, q3, by rw [unhide HS]; exact h3, (unhide H2).trans s3⟩
        case measure => simp [intOf]; omega
      · have hb : ((wtexts (B1, 0) (l.take k ++ [m])).2 != 0) = true := by simpa using hE3
        have hA := unhide HA hE3
        rw [← hA] at h3 c1 hb
        clear hE3 hA
        go_wp2_with (go_at_call 67; refine (stuck_any _ _ _ c1).mono ?_; rintro e w' ⟨rfl, rfl⟩)
        rw [Exit.noGoto_normal]
        go_end0
        exact ⟨rfl, q3, h3, (unhide H2).trans s3⟩
    · go_wp2_with fail
      rw [Exit.noGoto_normal]
      go_end0
      rw [show k = l.length from by omega, List.take_length] at h2 hz
      exact ⟨rfl, q2, by rw [hz]; exact h2, s2⟩

end Go.Proofs.Ytmnbdpdblpgnlaa
