/-
  The walks of Chain and Option, as the laws use them.
-/
import Derived.Test.YtmnbdpdblpgnlaaGet
namespace Go.Proofs.Ytmnbdpdblpgnlaa
open Go.RowKit
set_option linter.unusedVariables false

attribute [local go_sem ↓] Go.wp_at_zero Go.wp_at_succ

theorem tk4_one (D : List UInt8) (a : Nat) (E : Int) (h : (tk D a E 4 a).1 ≠ []) : E = 0 ∧ (tk D a E 4 a).2.1 = a + 4 ∧ (tk D a E 4 a).2.2 = 0 ∧ a + 4 ≤ D.length := by
  unfold tk at *
  by_cases hE : E = 0
  · subst hE
    rw [if_neg (by simp)] at *
    by_cases hs : D.length - a < (4 : Int).toNat + (4 - (4 : Int).toNat % 4) % 4
    · rw [if_pos hs] at h; simp at h
    · rw [if_neg hs] at *
      rw [if_pos (by simp [pad])] at *
      refine ⟨rfl, rfl, rfl, ?_⟩
      simp at hs; omega
  · rw [if_pos (.inr hE)] at h; simp at h

theorem ru_pos (D : List UInt8) (a : Nat) (E : Int) (h : 0 < (ru D a E).1) : E = 0 ∧ (ru D a E).2.1 = a + 4 ∧ (ru D a E).2.2 = 0 ∧ a + 4 ≤ D.length := by
  refine tk4_one D a E (fun e => ?_)
  unfold ru at h
  rw [e] at h
  simp [numOf] at h

theorem rbool_true (D : List UInt8) (a : Nat) (E : Int) (h : (rbool D a E).1 = true) : E = 0 ∧ (rbool D a E).2.1 = a + 4 ∧ (rbool D a E).2.2 = 0 ∧ a + 4 ≤ D.length := by
  unfold rbool rup at *
  by_cases hc : (1 : Int) < ((ru D a E).1 : Int)
  · rw [if_pos hc] at h; simp at h
  · rw [if_neg hc] at *
    have h1 : (ru D a E).1 = 1 := by
      simp only [beq_iff_eq] at h; omega
    exact ru_pos D a E (by omega)

theorem tk_ge (D : List UInt8) (a : Nat) (E : Int) (n : Int) (fr : Nat) (h : fr ≤ a) : fr ≤ (tk D a E n fr).2.1 := by
  unfold tk
  repeat' split
  all_goals dsimp only
  all_goals omega

theorem rlen_ge (D : List UInt8) (a : Nat) (E : Int) (most : Int) : a ≤ (rlen D a E most).2.1 := by
  have h := tk_ge D a E 4 a (Nat.le_refl _)
  unfold rlen ru
  repeat' split
  all_goals first | exact Nat.le_refl _ | exact h

theorem rcnt_ge (D : List UInt8) (a : Nat) (E : Int) (most : Int) : a ≤ (rcnt D a E most).2.1 := tk_ge D _ _ _ a (rlen_ge D a E most)

/-- A chain of texts; the first number: how many rounds at most. -/
def rch (D : List UInt8) (most : Int) : Nat → List ByteArray → Nat → Int → List ByteArray × Nat × Int
  | 0, l, a, E => (l, a, E)
  | n + 1, l, a, E =>
    if (rbool D a E).1 = false then (if (rbool D a E).2.2 ≠ 0 then [] else l, (rbool D a E).2.1, (rbool D a E).2.2)
    else if most ≤ (l.length : Int) then ([], a, 1)
    else rch D most n (l ++ [(gtext D (rbool D a E).2.1 (rbool D a E).2.2).1]) (gtext D (rbool D a E).2.1 (rbool D a E).2.2).2.1 (gtext D (rbool D a E).2.1 (rbool D a E).2.2).2.2

theorem rch_succ (D : List UInt8) (most : Int) (n : Nat) (l : List ByteArray) (a : Nat) (E : Int) : rch D most (n + 1) l a E =
    if (rbool D a E).1 = false then (if (rbool D a E).2.2 ≠ 0 then [] else l, (rbool D a E).2.1, (rbool D a E).2.2)
    else if most ≤ (l.length : Int) then ([], a, 1)
    else rch D most n (l ++ [(gtext D (rbool D a E).2.1 (rbool D a E).2.2).1]) (gtext D (rbool D a E).2.1 (rbool D a E).2.2).2.1 (gtext D (rbool D a E).2.1 (rbool D a E).2.2).2.2 := rfl

def rchain (D : List UInt8) (a : Nat) (E : Int) (most : Int) : List ByteArray × Nat × Int := rch D most (D.length + 1) [] a E

set_option maxHeartbeats 800000 in
set_option maxRecDepth 100000 in
theorem chain_any (w : World) (p : Nat) (q : Option Nat) (D : List UInt8) (a : Nat) (E : Int) (most : Int) (h : RAt w p q D a E) (hD : D.length ≤ 1099511627776) :
    Calls Try.prog 45 #[.pointer (some ⟨p, 0, none⟩), .int .i64 most, .func (.func 46) #[] #[]] w fun e w' => ∃ v, e = .returned v ∧ LAt w w' 9 v (rchain D a E most).1.length (svs (rchain D a E most).1) ∧ RAt w' p q D (rchain D a E most).2.1 (rchain D a E most).2.2 ∧ Fr (fun k => k = p) w w' := by
  obtain ⟨i, hi, hz0, hz1, hz2⟩ := info_parts Try.info9
  have hlt := h.lt
  have hD' : D.length ≤ maxLen := by unfold maxLen; omega
  generalize hRC : rchain D a E most = RC
  unfold rchain at hRC
  have HRC := hide hRC
  clear hRC
  go_enter Try.func45, Try.ntmps45
  go_wp2_with fail
  go_step3
  go_wp2_with fail
  go_step3
  go_wp2_with fail
  go_loopg [7] (D.length + 1) (fun g v w' => ∃ (l : List ByteArray) (a' : Nat) (E' : Int), LAt w w' 9 v l.length (svs l) ∧ l.length + 4 * (D.length - a') ≤ 4 * D.length + 4 ∧ D.length - a' < g ∧ l.length ≤ a' ∧ RAt w' p q D a' E' ∧ Fr (fun k => k = p) w w' ∧ RC = rch D most g l a' E')
  case atStart => exact ⟨[], a, E, ⟨World.ownsRow_nil _ _ _ _, fun k h => by simp [Value.ownBlock] at h⟩, by simp; omega, by omega, by simp, h, Fr.refl _ _, (unhide HRC).symm⟩
  case round =>
    obtain ⟨l, a', E', hl, hm1, hm2, hm3, r2, f2, heq⟩ := hrel
    obtain ⟨g, rfl⟩ : ∃ g, gk = g + 1 := ⟨gk - 1, by omega⟩
    obtain ⟨v2, hp2, _, _, hal⟩ := id r2
    have c1 := RAt.cell1 hp2
    clear hp2
    have HB := hide (rbool_any _ p q D a' E' r2 hD')
    have HBT := hide (rbool_true D a' E')
    rw [rch_succ] at heq
    generalize rbool D a' E' = R at *
    obtain ⟨b, a3, E3⟩ := R
    dsimp only at *
    obtain ⟨ao, cap, rfl⟩ := owns_shape hl.1
    have hpne : ∀ k, (Value.slice ao l.length cap).ownBlock = some k → ¬ k = p := fun k hk e => by have := hl.2 k hk; omega
    have HLA := hide hl
    have HQ := hide heq
    have HR2 := hide r2
    clear hl heq r2
    cases b
    · go_wp2_with (go_at_call 19; refine (at_any _ p a' c1).mono ?_; rintro e w' ⟨rfl, rfl⟩)
      refine (unhide HB).mono ?_
      rintro e w3 ⟨rfl, r3, f3⟩
      obtain ⟨v3, hp3, _⟩ := id r3
      have c2 := RAt.cell2 hp3
      clear hp3
      rw [if_pos (by simp)] at HQ
      by_cases hE3 : E3 = 0
      · subst hE3
        rw [if_neg (by simp)] at HQ
        go_wp2_with (go_at_call 75; refine (rstuck_any _ _ 0 c2).mono ?_; rintro e w' ⟨rfl, rfl⟩)
        rw [Exit.noGoto_ret]
        go_ret
        rw [unhide HQ]
        exact ⟨_, rfl, ⟨owns_kept (unhide HLA).1 f3 hpne, (unhide HLA).2⟩, r3, f2.trans f3 (fun _ _ h => h)⟩
      · have hb : (E3 != 0) = true := by simpa using hE3
        rw [if_pos hE3] at HQ
        go_wp2_with (go_at_call 75; refine (rstuck_any _ _ _ c2).mono ?_; rintro e w' ⟨rfl, rfl⟩)
        rw [Exit.noGoto_ret]
        go_ret
        rw [unhide HQ]
        exact ⟨_, rfl, ⟨World.ownsRow_nil _ _ _ _, fun k h => by simp [Value.ownBlock] at h⟩, r3, f2.trans f3 (fun _ _ h => h)⟩
    · obtain ⟨hE0, ha3, hE3, ha4⟩ := unhide HBT rfl
      subst hE0 ha3 hE3
      rw [if_neg (by simp)] at HQ
      by_cases hmost : most ≤ (l.length : Int)
      · rw [if_pos hmost] at HQ
        go_wp2_with (go_at_call 19; refine (at_any _ p a' c1).mono ?_; rintro e w' ⟨rfl, rfl⟩)
        refine (unhide HB).mono ?_
        rintro e w3 ⟨rfl, r3, f3⟩
        go_wp2_with fail
        refine (fail_ok _ p q D _ 1 a' r3 hal).mono ?_
        rintro e w4 ⟨rfl, r4, f4⟩
        obtain ⟨v4, hp4, _⟩ := id r4
        have c2 := RAt.cell2 hp4
        clear hp4
        go_wp2_with (go_at_call 75; refine (rstuck_any _ _ 1 c2).mono ?_; rintro e w' ⟨rfl, rfl⟩)
        rw [Exit.noGoto_ret]
        go_ret
        rw [unhide HQ]
        exact ⟨_, rfl, ⟨World.ownsRow_nil _ _ _ _, fun k h => by simp [Value.ownBlock] at h⟩, r4, (f2.trans f3 (fun _ _ h => h)).trans f4 (fun _ _ h => h)⟩
      · rw [if_neg hmost] at HQ
        have hge := rcnt_ge D (a' + 4) 0 7
        rw [show gtext D (a' + 4) 0 = (str (rcnt D (a' + 4) 0 7).1, (rcnt D (a' + 4) 0 7).2.1, (rcnt D (a' + 4) 0 7).2.2) from rfl] at HQ
        go_wp2_with (go_at_call 19; refine (at_any _ p a' c1).mono ?_; rintro e w' ⟨rfl, rfl⟩)
        refine (unhide HB).mono ?_
        rintro e w3 ⟨rfl, r3, f3⟩
        have HT := hide (getText_any _ p q D (a' + 4) 0 r3 hD')
        generalize rcnt D (a' + 4) 0 7 = T at *
        obtain ⟨ml, a5, E5⟩ := T
        dsimp only at *
        generalize str ml = m at *
        clear r3
        go_wp2_with fail
        refine (unhide HT).mono ?_
        rintro e w4 ⟨rfl, r4, f4⟩
        have hl4 := owns_kept (owns_kept (unhide HLA).1 f3 hpne) f4 hpne
        have HO := hide hl4
        have F4 := hide ((f2.trans f3 (fun _ _ h => h)).trans f4 (fun _ _ h => h))
        clear hl4 hpne f2 f3 f4
        go_wp2_with (at_builtin; refine wpList_app rfl (.tmp 25) (.tmp 29) 33 rfl 9 i _ 1 16 Try.underlying33 hi hz0 hz1 hz2 rfl (by decide) _ l.length (svs l) rfl _ rfl 1 [.string m] ?hown ?hx ?h1 ?hb ?h63 ?hK)
        case hown => exact (unhide HO).alloc _
        case hx => exact sr_one w4 _ 9
        case h1 => intro u hu; simp at hu; subst hu; rfl
        case hb => omega
        case h63 => simp only [maxLen]; omega
        case hK =>
          intro ao6 cap6 w6 ho6 hg6 hpl6
          have f6 : Fr (fun k => (Value.slice ao l.length cap).ownBlock = some k) w4 w6 := ((Fr.refl (fun k => (Value.slice ao l.length cap).ownBlock = some k) w4).alloc (.cells #[.string m] 9)).grown hg6 (fun k _ e => e)
          have hfr := (unhide HLA).2
          have r6 := r4.kept f6 (fun e => by have := hfr _ e; omega) (fun k hk e => by have := hfr _ e; have := hlt.2 k hk; omega)
          have f7 : Fr (fun k => k = p) w w6 := (unhide F4).trans f6 (fun k hk e => by have := hfr _ e; omega)
          have hla : LAt w w6 9 (.slice ao6 (l.length + 1) cap6) (l ++ [m]).length (svs (l ++ [m])) := by
            refine ⟨by rw [svs_snoc, List.length_append]; exact ho6, fun j hj => ?_⟩
            rcases hpl6 with e | ⟨j', e, hj'⟩
            · exact hfr j (e ▸ hj)
            · rw [e] at hj
              have := (unhide F4).size
              simp at hj
              omega
          have HLA6 := hide hla
          clear hla ho6 hg6 hpl6 f6 HLA HO r4
          go_wp2_with fail
          go_roundg g
          case measure => omega
          case rel => exact ⟨l ++ [m], a5, E5, unhide HLA6, by simp; omega, by omega, by simp; omega, r6, f7, unhide HQ⟩

/-- Option of a number. -/
def ropt (D : List UInt8) (a : Nat) (E : Int) : Option Int × Nat × Int :=
  if (rbool D a E).1 = false then (none, (rbool D a E).2.1, (rbool D a E).2.2)
  else if (ru D (rbool D a E).2.1 (rbool D a E).2.2).2.2 ≠ 0 then (none, (ru D (rbool D a E).2.1 (rbool D a E).2.2).2.1, (ru D (rbool D a E).2.1 (rbool D a E).2.2).2.2)
  else (some ((ru D (rbool D a E).2.1 (rbool D a E).2.2).1 : Int), (ru D (rbool D a E).2.1 (rbool D a E).2.2).2.1, (ru D (rbool D a E).2.1 (rbool D a E).2.2).2.2)

/-- A pointer to a number in memory newer than w, or none. -/
def PAt (w w' : World) (v : Value) (o : Option Int) : Prop := match o with | none => v = .pointer none | some n => ∃ b, v = .pointer (some ⟨b, 0, none⟩) ∧ w.heap.size ≤ b ∧ w'.cell? ⟨b, 0, none⟩ = some (.int .u32 n)

set_option maxHeartbeats 400000 in
theorem option_any (w : World) (p : Nat) (q : Option Nat) (D : List UInt8) (a : Nat) (E : Int) (h : RAt w p q D a E) (hD : D.length ≤ maxLen) :
    Calls Try.prog 47 #[.pointer (some ⟨p, 0, none⟩), .func (.func 43) #[] #[]] w fun e w' => ∃ v, e = .returned v ∧ PAt w w' v (ropt D a E).1 ∧ RAt w' p q D (ropt D a E).2.1 (ropt D a E).2.2 ∧ Fr (fun k => k = p) w w' := by
  have HB := hide (rbool_any _ p q D a E h hD)
  unfold ropt
  generalize rbool D a E = R at *
  obtain ⟨b, a3, E3⟩ := R
  dsimp only at *
  have hlt := h.lt
  clear h
  cases b
  · rw [if_pos rfl]
    go_enter Try.func47, Try.ntmps47
    go_wp2_with fail
    refine (unhide HB).mono ?_
    rintro e w3 ⟨rfl, r3, f3⟩
    go_wp2_with fail
    go_ret
    exact ⟨_, rfl, rfl, r3, f3⟩
  · rw [if_neg (by simp)]
    have HT := hide (fun W r => getNum_any W p q D a3 E3 r hD)
    generalize ru D a3 E3 = T at *
    obtain ⟨m, a5, E5⟩ := T
    dsimp only at *
    by_cases hE5 : E5 = 0
    · subst hE5
      rw [if_neg (by simp)]
      go_enter Try.func47, Try.ntmps47
      go_wp2_with fail
      refine (unhide HB).mono ?_
      rintro e w3 ⟨rfl, r3, f3⟩
      have HT3 := hide (unhide HT _ r3)
      clear r3 HT
      go_wp2_with fail
      refine (unhide HT3).mono ?_
      rintro e w4 ⟨rfl, r4, f4⟩
      have H4 := hide r4
      have F4 := hide (f3.trans f4 (fun _ _ h => h))
      have hz := (f3.trans f4 (fun _ _ h => h)).size
      obtain ⟨v4, hp4, _⟩ := id r4
      have c2 : ∀ o : Obj, (w4.alloc o).cell? ⟨p, 2, none⟩ = some (.int .i64 0) := fun o => by
        rw [World.cell?_of_block (w := w4) (Below.heap_alloc w4 o p (lt_of_heap hp4))]; exact RAt.cell2 hp4
      clear r4 f3 f4 hp4
      go_wp2_with (go_at_call 75; refine (rstuck_any _ _ 0 (c2 _)).mono ?_; rintro e w' ⟨rfl, rfl⟩)
      go_ret
      refine ⟨_, rfl, ⟨w4.heap.size, rfl, hz, by rw [cell_of_heap (heap_alloc_new w4 _)]; rfl⟩, (unhide H4).kept ((Fr.refl (fun _ => False) w4).alloc _) id (fun _ _ h => h), (unhide F4).alloc _⟩
    · rw [if_pos hE5]
      have hb : (E5 != 0) = true := by simpa using hE5
      go_enter Try.func47, Try.ntmps47
      go_wp2_with fail
      refine (unhide HB).mono ?_
      rintro e w3 ⟨rfl, r3, f3⟩
      have HT3 := hide (unhide HT _ r3)
      clear r3 HT
      go_wp2_with fail
      refine (unhide HT3).mono ?_
      rintro e w4 ⟨rfl, r4, f4⟩
      have H4 := hide r4
      have F4 := hide (f3.trans f4 (fun _ _ h => h))
      obtain ⟨v4, hp4, _⟩ := id r4
      have c2 : ∀ o : Obj, (w4.alloc o).cell? ⟨p, 2, none⟩ = some (.int .i64 E5) := fun o => by
        rw [World.cell?_of_block (w := w4) (Below.heap_alloc w4 o p (lt_of_heap hp4))]; exact RAt.cell2 hp4
      clear r4 f3 f4 hp4
      go_wp2_with (go_at_call 75; refine (rstuck_any _ _ E5 (c2 _)).mono ?_; rintro e w' ⟨rfl, rfl⟩)
      go_ret
      refine ⟨_, rfl, rfl, (unhide H4).kept ((Fr.refl (fun _ => False) w4).alloc _) id (fun _ _ h => h), (unhide F4).alloc _⟩

end Go.Proofs.Ytmnbdpdblpgnlaa
