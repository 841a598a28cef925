/-
  The walk of the law's own 'chain' over the document's reader.
-/
import Derived.Test.YtmnbdpdblpgnlaaLi
namespace Go.Proofs.Ytmnbdpdblpgnlaa
open Go.RowKit
set_option linter.unusedVariables false

attribute [local go_sem ↓] Go.wp_at_zero Go.wp_at_succ

set_option maxHeartbeats 1000000 in
set_option maxRecDepth 100000 in
theorem qchain_any (w : World) (p : Nat) (q : Option Nat) (D : List UInt8) (a : Nat) (E : Int) (most : Int) (h : QAt w p q D a E) (hD : D.length ≤ 1099511627776) :
    Calls Try.prog 66 #[.pointer (some ⟨p, 0, none⟩), .int .i64 most] w fun e w' => ∃ v, e = .returned v ∧ LAt w w' 9 v (rchain D a E most).1.length (svs (rchain D a E most).1) ∧ QAt w' p q D (rchain D a E most).2.1 (rchain D a E most).2.2 ∧ Fr (fun k => k = p) w w' := by
  obtain ⟨i, hi, hz0, hz1, hz2⟩ := info_parts Try.info9
  have hlt := h.lt
  generalize hRC : rchain D a E most = RC
  unfold rchain at hRC
  have HRC := hide hRC
  clear hRC
  go_enter Try.func66, Try.ntmps66
  go_wp2_with fail
  go_loopg [5] (D.length + 1) (fun g v w' => ∃ (l : List ByteArray) (a' : Nat) (E' : Int), LAt w w' 9 v l.length (svs l) ∧ l.length + 4 * (D.length - a') ≤ 4 * D.length + 4 ∧ D.length - a' < g ∧ l.length ≤ a' ∧ QAt w' p q D a' E' ∧ Fr (fun k => k = p) w w' ∧ RC = rch D most g l a' E')
  case atStart => exact ⟨[], a, E, ⟨World.ownsRow_nil _ _ _ _, fun k h => by simp [Value.ownBlock] at h⟩, by simp; omega, by omega, by simp, h, Fr.refl _ _, (unhide HRC).symm⟩
  case round =>
    obtain ⟨l, a', E', hl, hm1, hm2, hm3, r2, f2, heq⟩ := hrel
    obtain ⟨g, rfl⟩ : ∃ g, gk = g + 1 := ⟨gk - 1, by omega⟩
    have hal := r2.le
    have c1 := r2.cell1'
    have HB := hide (qbool_any _ p q D a' E' r2 hD)
    have HBT := hide (rbool_true D a' E')
    rw [rch_succ] at heq
    generalize rbool D a' E' = R at *
    obtain ⟨b, a3, E3⟩ := R
    dsimp only at *
    obtain ⟨ao, cap, rfl⟩ := owns_shape hl.1
    have hpne : ∀ k, (Value.slice ao l.length cap).ownBlock = some k → ¬ k = p := fun k hk e => by have := hl.2 k hk; omega
    have HLA := hide hl
    have HQ := hide heq
    clear hl heq r2
    cases b
    · go_wp2_with fail
      refine (unhide HB).mono ?_
      rintro e w3 ⟨rfl, r3, f3⟩
      have c2 := r3.cell2'
      rw [if_pos (by simp)] at HQ
      by_cases hE3 : E3 = 0
      · subst hE3
        rw [if_neg (by simp)] at HQ
        go_wp2_with fail
        go_ret
        rw [unhide HQ]
        exact ⟨_, rfl, ⟨owns_kept (unhide HLA).1 f3 hpne, (unhide HLA).2⟩, r3, f2.trans f3 (fun _ _ h => h)⟩
      · have hb : (E3 != 0) = true := by simpa using hE3
        rw [if_pos hE3] at HQ
        go_wp2_with fail
        go_ret
        rw [unhide HQ]
        exact ⟨_, rfl, ⟨World.ownsRow_nil _ _ _ _, fun k h => by simp [Value.ownBlock] at h⟩, r3, f2.trans f3 (fun _ _ h => h)⟩
    · obtain ⟨hE0, ha3, hE3, ha4⟩ := unhide HBT rfl
      subst hE0 ha3 hE3
      rw [if_neg (by simp)] at HQ
      by_cases hmost : most ≤ (l.length : Int)
      · rw [if_pos hmost] at HQ
        go_wp2_with fail
        refine (unhide HB).mono ?_
        rintro e w3 ⟨rfl, r3, f3⟩
        have c2 := r3.cell2'
        have HF := hide (qfail_ok _ p q D _ 1 a' r3 hal (by decide))
        clear r3
        go_wp2_with fail
        refine (unhide HF).mono ?_
        rintro e w4 ⟨rfl, r4, f4⟩
        have c4 := r4.cell2'
        clear c2
        go_wp2_with fail
        go_ret
        rw [unhide HQ]
        exact ⟨_, rfl, ⟨World.ownsRow_nil _ _ _ _, fun k h => by simp [Value.ownBlock] at h⟩, r4, (f2.trans f3 (fun _ _ h => h)).trans f4 (fun _ _ h => h)⟩
      · rw [if_neg hmost] at HQ
        have hge := rcnt_ge D (a' + 4) 0 7
        rw [show gtext D (a' + 4) 0 = (str (rcnt D (a' + 4) 0 7).1, (rcnt D (a' + 4) 0 7).2.1, (rcnt D (a' + 4) 0 7).2.2) from rfl] at HQ
        go_wp2_with fail
        refine (unhide HB).mono ?_
        rintro e w3 ⟨rfl, r3, f3⟩
        have c2 := r3.cell2'
        have HT := hide (qopaque_any _ p q D (a' + 4) 0 7 r3 (by omega) (by omega) hD)
        generalize rcnt D (a' + 4) 0 7 = T at *
        obtain ⟨ml, a5, E5⟩ := T
        dsimp only at *
        clear r3
        go_wp2_with fail
        refine (unhide HT).mono ?_
        rintro e w4 ⟨v4, rfl, b4, r4, f4⟩
        have kc := conv_rd (P := Try.prog) (Rd.of_owns b4.1) 28 9 5 Try.underlying28 Try.underlying5 Try.underlying9
        obtain ⟨ao4, cap4, rfl⟩ := owns_shape b4.1
        generalize str ml = m at *
        have hl4 := owns_kept (owns_kept (unhide HLA).1 f3 hpne) f4 hpne
        have HO := hide hl4
        have F4 := hide ((f2.trans f3 (fun _ _ h => h)).trans f4 (fun _ _ h => h))
        clear hl4 hpne f2 f3 f4 b4 c1 c2
        go_wp2_with (at_builtin; refine wpList_app rfl (.tmp 28) (.tmp 32) 33 rfl 9 i _ 1 16 Try.underlying33 hi hz0 hz1 hz2 rfl (by decide) _ l.length (svs l) rfl _ rfl 1 [.string m] ?hown ?hx ?h1 ?hb ?h63 ?hK)
        case hown => exact (unhide HO).alloc _
        case hx => exact sr_one w4 _ 9
        case h1 => intro u hu; simp at hu; subst hu; rfl
        case hb => omega
        case h63 => simp only [maxLen]; omega
        case hK =>
          intro ao6 cap6 w6 ho6 hg6 hpl6
          have f6 : Fr (fun k => (Value.slice ao l.length cap).ownBlock = some k) w4 w6 := ((Fr.refl (fun k => (Value.slice ao l.length cap).ownBlock = some k) w4).alloc (.cells #[.string m] 9)).grown hg6 (fun k _ e => e)
          have hfr := (unhide HLA).2
          have r6 := r4.kept f6 (fun e => by have := hfr _ e; omega) (fun k hk e => by have := hfr _ e; have := hlt.2 k hk; omega)
          have f7 : Fr (fun k => k = p) w w6 := (unhide F4).trans f6 (fun k hk e => by have := hfr _ e; omega)
          have hla : LAt w w6 9 (.slice ao6 (l.length + 1) cap6) (l ++ [m]).length (svs (l ++ [m])) := by
            refine ⟨by rw [svs_snoc, List.length_append]; exact ho6, fun j hj => ?_⟩
            rcases hpl6 with e | ⟨j', e, hj'⟩
            · exact hfr j (e ▸ hj)
            · rw [e] at hj
              have := (unhide F4).size
              simp at hj
              omega
          have HLA6 := hide hla
          clear hla ho6 hg6 hpl6 f6 HLA HO r4
          go_wp2_with fail
          go_roundg g
          case measure => omega
          case rel => exact ⟨l ++ [m], a5, E5, unhide HLA6, by simp; omega, by omega, by simp; omega, r6, f7, unhide HQ⟩

end Go.Proofs.Ytmnbdpdblpgnlaa
