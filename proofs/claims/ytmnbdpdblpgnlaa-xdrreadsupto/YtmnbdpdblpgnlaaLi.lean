/-
  The walks of the law's own 'list' over the document's reader: numbers, and texts.
-/
import Derived.Test.YtmnbdpdblpgnlaaQr4
import Derived.Test.YtmnbdpdblpgnlaaGet2
namespace Go.Proofs.Ytmnbdpdblpgnlaa
open Go.RowKit
set_option linter.unusedVariables false

attribute [local go_sem ↓] Go.wp_at_zero Go.wp_at_succ

theorem wrap_u64_in {n : Int} (h : 0 ≤ n) (h2 : n ≤ 9223372036854775807) : IntKind.u64.wrap n = n := by
  simp only [IntKind.wrap, IntKind.bits, IntKind.signed]
  simp
  omega

set_option maxHeartbeats 1000000 in
set_option maxRecDepth 100000 in
theorem qlistN_any (w : World) (p : Nat) (q : Option Nat) (D : List UInt8) (a : Nat) (E : Int) (most : Int) (h : QAt w p q D a E) (hm : -9223372036854775808 ≤ most ∧ most ≤ 9223372036854775807) (hD : D.length ≤ 1099511627776) :
    Calls Try.prog 65 #[.pointer (some ⟨p, 0, none⟩), .int .i64 most, .bool false] w fun e w' => ∃ v, e = .returned (.tuple #[v, .slice none 0 0]) ∧ LAt w w' 52 v (rlistN D a E most).1.length (uvs (rlistN D a E most).1) ∧ QAt w' p q D (rlistN D a E most).2.1 (rlistN D a E most).2.2 ∧ Fr (fun k => k = p) w w' := by
  obtain ⟨i, hi, hz0, hz1, hz2⟩ := info_parts Try.info52
  have hlt := h.lt
  have hal := h.le
  have c1 := h.cell1'
  have HL := hide (quint_any w p q D a E h hD)
  have hn := ru_lt D a E
  have he := ru_err D a E
  unfold rlistN rlen
  generalize ru D a E = R at *
  obtain ⟨n, a1, E1⟩ := R
  dsimp only at *
  clear h
  by_cases hE : E1 = 0
  · subst hE
    clear he
    by_cases hmn : most < (n : Int)
    · rw [if_pos hmn, if_pos rfl]
      dsimp only [rloop]
      have hn0 : (0 : Int) < (n : Int) ∨ most < 0 := by omega
      have hg : decide (most < 0) = true ∨ (decide (most < 0) = false ∧ 0 ≤ most) := by
        by_cases h0 : most < 0
        · exact .inl (by simpa using h0)
        · exact .inr ⟨by simpa using h0, by omega⟩
      rcases hg with hb | ⟨hb, hge⟩
      · 
        go_enter Try.func65, Try.ntmps65
        go_wp2_with fail
        refine (unhide HL).mono ?_
        rintro e w1 ⟨rfl, r1, f1⟩
        have c2 := r1.cell2'
        have HF := hide (qfail_ok w1 p q D a1 1 a r1 hal (by decide))
        go_wp2_with fail
        refine (unhide HF).mono ?_
        rintro e w2 ⟨rfl, r2, f2⟩
        have c3 := r2.cell2'
        have f3 := f1.trans f2 (fun _ _ h => h)
        clear c2 r1 HF
        by_cases hnz : 0 < n
        · have hni : (0 : Int) < (n : Int) := by omega
          go_wp2_with fail
          go_loopw [12] (fun i w' => i = .int .u32 0 ∧ w' = w2) (fun _ _ => 0)
          case atStart => exact ⟨rfl, rfl⟩
          case round =>
            obtain ⟨rfl, rfl⟩ := hrel
            go_wp2_with fail
            go_ret2
            exact ⟨_, rfl, ⟨World.ownsRow_nil _ _ _ _, fun k h => by simp [Value.ownBlock] at h⟩, r2, f3⟩
        · have hni : n = 0 := by omega
          subst hni
          go_wp2_with fail
          go_loopw [12] (fun i w' => i = .int .u32 0 ∧ w' = w2) (fun _ _ => 0)
          case atStart => exact ⟨rfl, rfl⟩
          case round =>
            obtain ⟨rfl, rfl⟩ := hrel
            go_wp2_with fail
            go_ret2
            exact ⟨_, rfl, ⟨World.ownsRow_nil _ _ _ _, fun k h => by simp [Value.ownBlock] at h⟩, r2, f3⟩
      · have hw1 : IntKind.u64.wrap most = most := wrap_u64_in hge (by omega)
        have hw2 : IntKind.u64.wrap (n : Int) = (n : Int) := wrap_u64_in (by omega) (by omega)
        have hgt : decide (most < (n : Int)) = true := by simpa using hmn
        go_enter Try.func65, Try.ntmps65
        go_wp2_with fail
        refine (unhide HL).mono ?_
        rintro e w1 ⟨rfl, r1, f1⟩
        have c2 := r1.cell2'
        have HF := hide (qfail_ok w1 p q D a1 1 a r1 hal (by decide))
        go_wp2_with fail
        refine (unhide HF).mono ?_
        rintro e w2 ⟨rfl, r2, f2⟩
        have c3 := r2.cell2'
        have f3 := f1.trans f2 (fun _ _ h => h)
        clear c2 r1 HF
        by_cases hnz : 0 < n
        · have hni : (0 : Int) < (n : Int) := by omega
          go_wp2_with fail
          go_loopw [12] (fun i w' => i = .int .u32 0 ∧ w' = w2) (fun _ _ => 0)
          case atStart => exact ⟨rfl, rfl⟩
          case round =>
            obtain ⟨rfl, rfl⟩ := hrel
            go_wp2_with fail
            go_ret2
            exact ⟨_, rfl, ⟨World.ownsRow_nil _ _ _ _, fun k h => by simp [Value.ownBlock] at h⟩, r2, f3⟩
        · exfalso; omega
    · rw [if_neg hmn]
      dsimp only
      have hge : 0 ≤ most := by omega
      have hb : decide (most < 0) = false := by simpa using hge
      have hw1 : IntKind.u64.wrap most = most := wrap_u64_in hge (by omega)
      have hw2 : IntKind.u64.wrap (n : Int) = (n : Int) := wrap_u64_in (by omega) (by omega)
      have hgt : decide (most < (n : Int)) = false := by simpa using hmn
      go_enter Try.func65, Try.ntmps65
      go_wp2_with fail
      refine (unhide HL).mono ?_
      rintro e w1 ⟨rfl, r1, f1⟩
      have c2 := r1.cell2'
      go_wp2_with fail
      clear c2
      go_loopw [10, 11, 12] (fun v u i w' => u = .slice none 0 0 ∧ ∃ (k : Nat) (l : List Int) (a' : Nat) (E' : Int), k ≤ n ∧ i = .int .u32 k ∧ LAt w w' 52 v l.length (uvs l) ∧ l.length ≤ k ∧ QAt w' p q D a' E' ∧ Fr (fun k => k = p) w w' ∧ (E' = 0 → rloop (gnum D) n [] a1 0 = rloop (gnum D) (n - k) l a' E' ∧ l.length = k) ∧ (E' ≠ 0 → rloop (gnum D) n [] a1 0 = ([], a', E'))) (fun _ _ i _ => n - (intOf i).toNat)
      case atStart => exact ⟨rfl, 0, [], a1, 0, Nat.zero_le _, rfl, ⟨World.ownsRow_nil _ _ _ _, fun k h => by simp [Value.ownBlock] at h⟩, by simp, r1, f1, fun _ => ⟨rfl, rfl⟩, fun h => absurd rfl h⟩
      case round =>
        obtain ⟨rfl, k, l, a', E', hk, rfl, hl, hlk, r2, f2, heq, hne⟩ := hrel
        have c2 := r2.cell2'
        by_cases hE' : E' = 0
        · subst hE'
          obtain ⟨heq, rfl⟩ := heq rfl
          by_cases hlt2 : l.length < n
          · have HG := hide (quint_any _ p q D a' 0 r2 hD)
            have HN := hide heq
            rw [show n - l.length = (n - (l.length + 1)) + 1 from by omega, rloop_succ] at HN
            rw [show gnum D a' 0 = (((ru D a' 0).1 : Int), (ru D a' 0).2.1, (ru D a' 0).2.2) from rfl] at HN
            generalize ru D a' 0 = g at *
            obtain ⟨m, a2, E2⟩ := g
            dsimp only at *
            obtain ⟨ao, cap, rfl⟩ := owns_shape hl.1
            have hpne : ∀ k, (Value.slice ao l.length cap).ownBlock = some k → ¬ k = p := fun k hk e => by have := hl.2 k hk; omega
            have HLA := hide hl
            clear r2 heq hl hne
            have hlti : ((l.length : Nat) : Int) < (n : Int) := by omega
            go_wp2_with fail
            refine (unhide HG).mono ?_
            rintro e w3 ⟨rfl, r3, f3⟩
            have HO := hide (owns_kept (unhide HLA).1 f3 hpne)
            clear hpne c2
            go_wp2_with (at_builtin; refine wpList_app rfl (.tmp 57) (.tmp 60) 32 rfl 52 i _ 1 4 Try.underlying32 hi hz0 hz1 hz2 rfl (by decide) _ l.length (uvs l) rfl _ rfl 1 [.int .u32 (m : Int)] ?hown ?hx ?h1 ?hb ?h63 ?hK)
            case hown => exact (unhide HO).alloc _
            case hx => exact sr_one w3 _ 52
            case h1 => intro u hu; simp at hu; subst hu; rfl
            case hb => omega
            case h63 => simp only [maxLen]; omega
            case hK =>
              intro ao4 cap4 w4 ho4 hg4 hpl4
              have f4 : Fr (fun k => (Value.slice ao l.length cap).ownBlock = some k) w3 w4 := ((Fr.refl (fun k => (Value.slice ao l.length cap).ownBlock = some k) w3).alloc (.cells #[Value.int .u32 (m : Int)] 52)).grown hg4 (fun k _ e => e)
              have hfr := (unhide HLA).2
              have r4 := r3.kept f4 (fun e => by have := hfr _ e; omega) (fun k hk e => by have := hfr _ e; have := hlt.2 k hk; omega)
              have f5 : Fr (fun k => k = p) w w4 := (f2.trans f3 (fun _ _ h => h)).trans f4 (fun k hk e => by have := hfr _ e; omega)
              have hla : LAt w w4 52 (.slice ao4 (l.length + 1) cap4) (l ++ [(m : Int)]).length (uvs (l ++ [(m : Int)])) := by
                refine ⟨by rw [uvs_snoc, List.length_append]; exact ho4, fun j hj => ?_⟩
                rcases hpl4 with e | ⟨j', e, hj'⟩
                · exact hfr j (e ▸ hj)
                · rw [e] at hj
                  have := (f2.trans f3 (fun _ _ h => h)).size
                  simp at hj
                  omega
              have HLA4 := hide hla
              clear hla ho4 hg4 hpl4 f4 HLA HO r3
              go_wp2_with fail
              go_roundw
              case rel =>
                refine ⟨rfl, l.length + 1, l ++ [(m : Int)], a2, E2, by omega, by go_num, unhide HLA4, by simp, r4, f5, fun h => ?_, fun h => ?_⟩
                · rw [unhide HN, if_neg (by simpa using h)]
                  exact ⟨rfl, by simp⟩
                · rw [unhide HN, if_pos h]
              case measure => simp [intOf]; omega
          · have HN := hide heq
            rw [show n - l.length = 0 from by omega] at HN
            have hlti : ¬ ((l.length : Nat) : Int) < (n : Int) := by omega
            clear heq hne
            obtain ⟨ao, cap, rfl⟩ := owns_shape hl.1
            go_wp2_with fail
            go_ret2
            first | rw [unhide HN] | rw [show n - l.length = 0 from by omega]
            exact ⟨_, rfl, hl, r2, f2⟩
        · have hb0 : (E' == 0) = false := by simpa using hE'
          have hb1 : (E' != 0) = true := by simpa using hE'
          have HN := hide (hne hE')
          obtain ⟨ao, cap, rfl⟩ := owns_shape hl.1
          clear heq hne hl
          by_cases hkn : k < n
          · have hlti : (k : Int) < (n : Int) := by omega
            go_wp2_with fail
            go_ret2
            rw [unhide HN]
            exact ⟨_, rfl, ⟨World.ownsRow_nil _ _ _ _, fun k h => by simp [Value.ownBlock] at h⟩, r2, f2⟩
          · have hlti : ¬ (k : Int) < (n : Int) := by omega
            go_wp2_with fail
            go_ret2
            rw [unhide HN]
            exact ⟨_, rfl, ⟨World.ownsRow_nil _ _ _ _, fun k h => by simp [Value.ownBlock] at h⟩, r2, f2⟩
  · have hn0 := he hE
    subst hn0
    have hb0 : (E1 == 0) = false := by simpa using hE
    have hb1 : (E1 != 0) = true := by simpa using hE
    have hres : (if most < ((0 : Nat) : Int) then (if E1 = 0 then (0, a, 1) else (0, a1, E1)) else (0, a1, E1) : Nat × Nat × Int) = (0, a1, E1) := by
      rw [if_neg hE]; split <;> rfl
    rw [hres]
    dsimp only [rloop]
    clear hres he hn
    go_enter Try.func65, Try.ntmps65
    go_wp2_with fail
    refine (unhide HL).mono ?_
    rintro e w1 ⟨rfl, r1, f1⟩
    have c2 := r1.cell2'
    go_wp2_with fail
    go_loopw [12] (fun i w' => i = .int .u32 0 ∧ w' = w1) (fun _ _ => 0)
    case atStart => exact ⟨rfl, rfl⟩
    case round =>
      obtain ⟨rfl, rfl⟩ := hrel
      go_wp2_with fail
      go_ret2
      exact ⟨_, rfl, ⟨World.ownsRow_nil _ _ _ _, fun k h => by simp [Value.ownBlock] at h⟩, r1, f1⟩


set_option maxHeartbeats 1000000 in
set_option maxRecDepth 100000 in
theorem qlistS_any (w : World) (p : Nat) (q : Option Nat) (D : List UInt8) (a : Nat) (E : Int) (most : Int) (h : QAt w p q D a E) (hm : -9223372036854775808 ≤ most ∧ most ≤ 9223372036854775807) (hD : D.length ≤ 1099511627776) :
    Calls Try.prog 65 #[.pointer (some ⟨p, 0, none⟩), .int .i64 most, .bool true] w fun e w' => ∃ v, e = .returned (.tuple #[.slice none 0 0, v]) ∧ LAt w w' 9 v (rlistS D a E most).1.length (svs (rlistS D a E most).1) ∧ QAt w' p q D (rlistS D a E most).2.1 (rlistS D a E most).2.2 ∧ Fr (fun k => k = p) w w' := by
  obtain ⟨i, hi, hz0, hz1, hz2⟩ := info_parts Try.info9
  have hlt := h.lt
  have hal := h.le
  have c1 := h.cell1'
  have HL := hide (quint_any w p q D a E h hD)
  have hn := ru_lt D a E
  have he := ru_err D a E
  unfold rlistS rlen
  generalize ru D a E = R at *
  obtain ⟨n, a1, E1⟩ := R
  dsimp only at *
  clear h
  by_cases hE : E1 = 0
  · subst hE
    clear he
    by_cases hmn : most < (n : Int)
    · rw [if_pos hmn, if_pos rfl]
      dsimp only [rloop]
      have hn0 : (0 : Int) < (n : Int) ∨ most < 0 := by omega
      have hg : decide (most < 0) = true ∨ (decide (most < 0) = false ∧ 0 ≤ most) := by
        by_cases h0 : most < 0
        · exact .inl (by simpa using h0)
        · exact .inr ⟨by simpa using h0, by omega⟩
      rcases hg with hb | ⟨hb, hge⟩
      · 
        go_enter Try.func65, Try.ntmps65
        go_wp2_with fail
        refine (unhide HL).mono ?_
        rintro e w1 ⟨rfl, r1, f1⟩
        have c2 := r1.cell2'
        have HF := hide (qfail_ok w1 p q D a1 1 a r1 hal (by decide))
        go_wp2_with fail
        refine (unhide HF).mono ?_
        rintro e w2 ⟨rfl, r2, f2⟩
        have c3 := r2.cell2'
        have f3 := f1.trans f2 (fun _ _ h => h)
        clear c2 r1 HF
        by_cases hnz : 0 < n
        · have hni : (0 : Int) < (n : Int) := by omega
          go_wp2_with fail
          go_loopw [12] (fun i w' => i = .int .u32 0 ∧ w' = w2) (fun _ _ => 0)
          case atStart => exact ⟨rfl, rfl⟩
          case round =>
            obtain ⟨rfl, rfl⟩ := hrel
            go_wp2_with fail
            go_ret2
            exact ⟨_, rfl, ⟨World.ownsRow_nil _ _ _ _, fun k h => by simp [Value.ownBlock] at h⟩, r2, f3⟩
        · have hni : n = 0 := by omega
          subst hni
          go_wp2_with fail
          go_loopw [12] (fun i w' => i = .int .u32 0 ∧ w' = w2) (fun _ _ => 0)
          case atStart => exact ⟨rfl, rfl⟩
          case round =>
            obtain ⟨rfl, rfl⟩ := hrel
            go_wp2_with fail
            go_ret2
            exact ⟨_, rfl, ⟨World.ownsRow_nil _ _ _ _, fun k h => by simp [Value.ownBlock] at h⟩, r2, f3⟩
      · have hw1 : IntKind.u64.wrap most = most := wrap_u64_in hge (by omega)
        have hw2 : IntKind.u64.wrap (n : Int) = (n : Int) := wrap_u64_in (by omega) (by omega)
        have hgt : decide (most < (n : Int)) = true := by simpa using hmn
        go_enter Try.func65, Try.ntmps65
        go_wp2_with fail
        refine (unhide HL).mono ?_
        rintro e w1 ⟨rfl, r1, f1⟩
        have c2 := r1.cell2'
        have HF := hide (qfail_ok w1 p q D a1 1 a r1 hal (by decide))
        go_wp2_with fail
        refine (unhide HF).mono ?_
        rintro e w2 ⟨rfl, r2, f2⟩
        have c3 := r2.cell2'
        have f3 := f1.trans f2 (fun _ _ h => h)
        clear c2 r1 HF
        by_cases hnz : 0 < n
        · have hni : (0 : Int) < (n : Int) := by omega
          go_wp2_with fail
          go_loopw [12] (fun i w' => i = .int .u32 0 ∧ w' = w2) (fun _ _ => 0)
          case atStart => exact ⟨rfl, rfl⟩
          case round =>
            obtain ⟨rfl, rfl⟩ := hrel
            go_wp2_with fail
            go_ret2
            exact ⟨_, rfl, ⟨World.ownsRow_nil _ _ _ _, fun k h => by simp [Value.ownBlock] at h⟩, r2, f3⟩
        · exfalso; omega
    · rw [if_neg hmn]
      dsimp only
      have hge : 0 ≤ most := by omega
      have hb : decide (most < 0) = false := by simpa using hge
      have hw1 : IntKind.u64.wrap most = most := wrap_u64_in hge (by omega)
      have hw2 : IntKind.u64.wrap (n : Int) = (n : Int) := wrap_u64_in (by omega) (by omega)
      have hgt : decide (most < (n : Int)) = false := by simpa using hmn
      go_enter Try.func65, Try.ntmps65
      go_wp2_with fail
      refine (unhide HL).mono ?_
      rintro e w1 ⟨rfl, r1, f1⟩
      have c2 := r1.cell2'
      go_wp2_with fail
      clear c2
      go_loopw [10, 11, 12] (fun u v i w' => u = .slice none 0 0 ∧ ∃ (k : Nat) (l : List ByteArray) (a' : Nat) (E' : Int), k ≤ n ∧ i = .int .u32 k ∧ LAt w w' 9 v l.length (svs l) ∧ l.length ≤ k ∧ QAt w' p q D a' E' ∧ Fr (fun k => k = p) w w' ∧ (E' = 0 → rloop (gtext D) n [] a1 0 = rloop (gtext D) (n - k) l a' E' ∧ l.length = k) ∧ (E' ≠ 0 → rloop (gtext D) n [] a1 0 = ([], a', E'))) (fun _ _ i _ => n - (intOf i).toNat)
      case atStart => exact ⟨rfl, 0, [], a1, 0, Nat.zero_le _, rfl, ⟨World.ownsRow_nil _ _ _ _, fun k h => by simp [Value.ownBlock] at h⟩, by simp, r1, f1, fun _ => ⟨rfl, rfl⟩, fun h => absurd rfl h⟩
      case round =>
        obtain ⟨rfl, k, l, a', E', hk, rfl, hl, hlk, r2, f2, heq, hne⟩ := hrel
        have c2 := r2.cell2'
        by_cases hE' : E' = 0
        · subst hE'
          obtain ⟨heq, rfl⟩ := heq rfl
          by_cases hlt2 : l.length < n
          · have HG := hide (qopaque_any _ p q D a' 0 7 r2 (by omega) (by omega) hD)
            have HN := hide heq
            rw [show n - l.length = (n - (l.length + 1)) + 1 from by omega, rloop_succ] at HN
            rw [show gtext D a' 0 = (str (rcnt D a' 0 7).1, (rcnt D a' 0 7).2.1, (rcnt D a' 0 7).2.2) from rfl] at HN
            generalize rcnt D a' 0 7 = g at *
            obtain ⟨m, a2, E2⟩ := g
            dsimp only at *
            obtain ⟨ao, cap, rfl⟩ := owns_shape hl.1
            have hpne : ∀ k, (Value.slice ao l.length cap).ownBlock = some k → ¬ k = p := fun k hk e => by have := hl.2 k hk; omega
            have HLA := hide hl
            clear r2 heq hl hne
            have hlti : ((l.length : Nat) : Int) < (n : Int) := by omega
            go_wp2_with fail
            refine (unhide HG).mono ?_
            rintro e w3 ⟨v3, rfl, b3, r3, f3⟩
            have kc := conv_rd (P := Try.prog) (Rd.of_owns b3.1) 28 9 5 Try.underlying28 Try.underlying5 Try.underlying9
            obtain ⟨ao3, cap3, rfl⟩ := owns_shape b3.1
            have HO := hide (owns_kept (unhide HLA).1 f3 hpne)
            clear hpne c2 b3
            go_wp2_with (at_builtin; refine wpList_app rfl (.tmp 51) (.tmp 55) 33 rfl 9 i _ 1 16 Try.underlying33 hi hz0 hz1 hz2 rfl (by decide) _ l.length (svs l) rfl _ rfl 1 [.string (str m)] ?hown ?hx ?h1 ?hb ?h63 ?hK)
            case hown => exact (unhide HO).alloc _
            case hx => exact sr_one w3 _ 9
            case h1 => intro u hu; simp at hu; subst hu; rfl
            case hb => omega
            case h63 => simp only [maxLen]; omega
            case hK =>
              intro ao4 cap4 w4 ho4 hg4 hpl4
              have f4 : Fr (fun k => (Value.slice ao l.length cap).ownBlock = some k) w3 w4 := ((Fr.refl (fun k => (Value.slice ao l.length cap).ownBlock = some k) w3).alloc (.cells #[Value.string (str m)] 9)).grown hg4 (fun k _ e => e)
              have hfr := (unhide HLA).2
              have r4 := r3.kept f4 (fun e => by have := hfr _ e; omega) (fun k hk e => by have := hfr _ e; have := hlt.2 k hk; omega)
              have f5 : Fr (fun k => k = p) w w4 := (f2.trans f3 (fun _ _ h => h)).trans f4 (fun k hk e => by have := hfr _ e; omega)
              have hla : LAt w w4 9 (.slice ao4 (l.length + 1) cap4) (l ++ [str m]).length (svs (l ++ [str m])) := by
                refine ⟨by rw [svs_snoc, List.length_append]; exact ho4, fun j hj => ?_⟩
                rcases hpl4 with e | ⟨j', e, hj'⟩
                · exact hfr j (e ▸ hj)
                · rw [e] at hj
                  have := (f2.trans f3 (fun _ _ h => h)).size
                  simp at hj
                  omega
              have HLA4 := hide hla
              clear hla ho4 hg4 hpl4 f4 HLA HO r3
              go_wp2_with fail
              go_roundw
              case rel =>
                refine ⟨rfl, l.length + 1, l ++ [str m], a2, E2, by omega, by go_num, unhide HLA4, by simp, r4, f5, fun h => ?_, fun h => ?_⟩
                · rw [unhide HN, if_neg (by simpa using h)]
                  exact ⟨rfl, by simp⟩
                · rw [unhide HN, if_pos h]
              case measure => simp [intOf]; omega
          · have HN := hide heq
            rw [show n - l.length = 0 from by omega] at HN
            have hlti : ¬ ((l.length : Nat) : Int) < (n : Int) := by omega
            clear heq hne
            obtain ⟨ao, cap, rfl⟩ := owns_shape hl.1
            go_wp2_with fail
            go_ret2
            first | rw [unhide HN] | rw [show n - l.length = 0 from by omega]
            exact ⟨_, rfl, hl, r2, f2⟩
        · have hb0 : (E' == 0) = false := by simpa using hE'
          have hb1 : (E' != 0) = true := by simpa using hE'
          have HN := hide (hne hE')
          obtain ⟨ao, cap, rfl⟩ := owns_shape hl.1
          clear heq hne hl
          by_cases hkn : k < n
          · have hlti : (k : Int) < (n : Int) := by omega
            go_wp2_with fail
            go_ret2
            rw [unhide HN]
            exact ⟨_, rfl, ⟨World.ownsRow_nil _ _ _ _, fun k h => by simp [Value.ownBlock] at h⟩, r2, f2⟩
          · have hlti : ¬ (k : Int) < (n : Int) := by omega
            go_wp2_with fail
            go_ret2
            rw [unhide HN]
            exact ⟨_, rfl, ⟨World.ownsRow_nil _ _ _ _, fun k h => by simp [Value.ownBlock] at h⟩, r2, f2⟩
  · have hn0 := he hE
    subst hn0
    have hb0 : (E1 == 0) = false := by simpa using hE
    have hb1 : (E1 != 0) = true := by simpa using hE
    have hres : (if most < ((0 : Nat) : Int) then (if E1 = 0 then (0, a, 1) else (0, a1, E1)) else (0, a1, E1) : Nat × Nat × Int) = (0, a1, E1) := by
      rw [if_neg hE]; split <;> rfl
    rw [hres]
    dsimp only [rloop]
    clear hres he hn
    go_enter Try.func65, Try.ntmps65
    go_wp2_with fail
    refine (unhide HL).mono ?_
    rintro e w1 ⟨rfl, r1, f1⟩
    have c2 := r1.cell2'
    go_wp2_with fail
    go_loopw [12] (fun i w' => i = .int .u32 0 ∧ w' = w1) (fun _ _ => 0)
    case atStart => exact ⟨rfl, rfl⟩
    case round =>
      obtain ⟨rfl, rfl⟩ := hrel
      go_wp2_with fail
      go_ret2
      exact ⟨_, rfl, ⟨World.ownsRow_nil _ _ _ _, fun k h => by simp [Value.ownBlock] at h⟩, r1, f1⟩

end Go.Proofs.Ytmnbdpdblpgnlaa
