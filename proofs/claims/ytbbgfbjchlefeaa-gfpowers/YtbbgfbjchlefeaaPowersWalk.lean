/-
  The walk of the law GfPowers.
-/
import Derived.Test.YtbbgfbjchlefeaaElementsWalk
namespace Go.Proofs.Ytbbgfbjchlefeaa
open Go.RowKit
set_option linter.unusedVariables false

attribute [local go_sem ↓] Go.wp_at_zero Go.wp_at_succ

set_option maxHeartbeats 2000000 in
set_option maxRecDepth 100000 in
theorem powers_any (w : World) (a b : UInt8) (m n : Int) (hm : -9223372036854775808 ≤ m ∧ m ≤ 9223372036854775807) (hn : -9223372036854775808 ≤ n ∧ n ≤ 9223372036854775807) : Calls Try.prog 5 #[.agg #[.int .u8 (a.toNat : Int), .int .u8 (b.toNat : Int), .int .i64 m, .int .i64 n]] w fun e w' => e = .returned (.bool true) ∧ Fr (fun _ => False) w w' := by
  obtain ⟨s, hs⟩ : ∃ x, a ^^^ b = x := ⟨_, rfl⟩
  obtain ⟨ss, hss⟩ : ∃ x, mul s s = x := ⟨_, rfl⟩
  obtain ⟨aa, haa⟩ : ∃ x, mul a a = x := ⟨_, rfl⟩
  obtain ⟨bb, hbb⟩ : ∃ x, mul b b = x := ⟨_, rfl⟩
  have C1 := hide (fun W => add_at hs W)
  have C2 := hide (fun W => mul_at hss W)
  have C3 := hide (fun W => mul_at haa W)
  have C4 := hide (fun W => mul_at hbb W)
  have C5 := hide (fun W => add_at (show aa ^^^ bb = ss by rw [← haa, ← hbb, ← hss, ← hs, square_xor]) W)
  have C6 := hide (fun W => pow_at (show pw s 2 = ss by rw [pw_two]; exact hss) (by omega) W)
  have C7 := hide (fun W => pow_at (show pw a 0 = 1 from rfl) (by omega) W)
  clear hs hss haa hbb
  have HB := hide (show Fr (fun _ => False) w (w.alloc (Obj.cells #[.int .u8 (a.toNat : Int), .int .u8 (b.toNat : Int), .int .i64 m, .int .i64 n] 41)) from (Fr.refl _ _).alloc _)
  go_enter Try.func5, Try.ntmps5
  go_wp2_with fail
  go_quiet (fail)
  go_wp2_with fail
  refine (unhide C1 _).mono ?_
  rintro e w' ⟨rfl, rfl⟩
  go_wp2_with fail
  refine (unhide C2 _).mono ?_
  rintro e w' ⟨rfl, rfl⟩
  go_wp2_with fail
  refine (unhide C3 _).mono ?_
  rintro e w' ⟨rfl, rfl⟩
  go_wp2_with fail
  refine (unhide C4 _).mono ?_
  rintro e w' ⟨rfl, rfl⟩
  go_wp2_with fail
  refine (unhide C5 _).mono ?_
  rintro e w' ⟨rfl, rfl⟩
  go_wp2_with fail
  refine (unhide C6 _).mono ?_
  rintro e w1 ⟨rfl, f1⟩
  have F1 := hide (((unhide HB).drewN _).trans f1 (fun _ _ h => h))
  clear f1 HB
  go_wp2_with fail
  refine (unhide C2 _).mono ?_
  rintro e w' ⟨rfl, rfl⟩
  go_wp2_with fail
  refine (unhide C7 _).mono ?_
  rintro e w2 ⟨rfl, f2⟩
  have F2 := hide ((unhide F1).trans f2 (fun _ _ h => h))
  clear f2 F1 C1 C2 C3 C4 C5 C6 C7
  by_cases ha : a = 0
  · subst ha
    go_wp2_with (go_at_call 25; refine (live_any _).mono ?_; rintro e w3 ⟨rfl, f3⟩)
    go_ret
    exact ⟨rfl, (unhide F2).trans f3 (fun _ _ h => h)⟩
  · have na : (((a.toNat : Nat) : Int) == 0) = false := by simpa using fun e => ha (natB.1 e)
    by_cases h1 : 2305843009213693952 < m
    · clear hm hn
      go_wp2_with (go_at_call 25; refine (live_any _).mono ?_; rintro e w3 ⟨rfl, f3⟩)
      go_ret
      exact ⟨rfl, (unhide F2).trans f3 (fun _ _ h => h)⟩
    · have h1' : decide (2305843009213693952 < m) = false := by simpa using h1
      by_cases h2 : m < -2305843009213693952
      · clear hm hn
        go_wp2_with (go_at_call 25; refine (live_any _).mono ?_; rintro e w3 ⟨rfl, f3⟩)
        go_ret
        exact ⟨rfl, (unhide F2).trans f3 (fun _ _ h => h)⟩
      · have h2' : decide (m < -2305843009213693952) = false := by simpa using h2
        by_cases h3 : 2305843009213693952 < n
        · clear hm hn
          go_wp2_with (go_at_call 25; refine (live_any _).mono ?_; rintro e w3 ⟨rfl, f3⟩)
          go_ret
          exact ⟨rfl, (unhide F2).trans f3 (fun _ _ h => h)⟩
        · have h3' : decide (2305843009213693952 < n) = false := by simpa using h3
          by_cases h4 : n < -2305843009213693952
          · clear hm hn
            go_wp2_with (go_at_call 25; refine (live_any _).mono ?_; rintro e w3 ⟨rfl, f3⟩)
            go_ret
            exact ⟨rfl, (unhide F2).trans f3 (fun _ _ h => h)⟩
          · have h4' : decide (n < -2305843009213693952) = false := by simpa using h4
            have hl := L_lt ha
            obtain ⟨l, hle⟩ : ∃ l, l = L a := ⟨_, rfl⟩
            obtain ⟨pm, hpm⟩ : ∃ x, pw a m = x := ⟨_, rfl⟩
            obtain ⟨pn, hpn⟩ : ∃ x, pw a n = x := ⟨_, rfl⟩
            obtain ⟨pq, hpq⟩ : ∃ x, mul pm pn = x := ⟨_, rfl⟩
            have D1 := hide (fun W => log_at (show lg a = ((l : Int), 0) by unfold lg; rw [if_neg ha, hle]) W)
            have D2 := hide (fun W => pow_at hpm hm W)
            have D3 := hide (fun W => pow_at hpn hn W)
            have D4 := hide (fun W => mul_at hpq W)
            have D5 := hide (fun W => pow_at (show pw a (m + n) = pq by rw [← pw_add ha, hpm, hpn, hpq]) (by omega) W)
            have D6 := hide (fun W => pow_at (pw_255 ha) (by omega) W)
            have D7 := hide (fun W => exp_at (show pw 2 (l : Int) = a by rw [hle]; exact exp_log ha) (by omega) W)
            rw [← hle] at hl
            clear hpm hpn hpq hle
            go_wp2_with fail
            refine (unhide D1 _).mono ?_
            rintro e w3 ⟨rfl, f3⟩
            have F3 := hide ((unhide F2).trans f3 (fun _ _ h => h))
            clear f3 F2
            go_wp2_with fail
            refine (unhide D2 _).mono ?_
            rintro e w4 ⟨rfl, f4⟩
            have F4 := hide ((unhide F3).trans f4 (fun _ _ h => h))
            clear f4 F3
            go_wp2_with fail
            refine (unhide D3 _).mono ?_
            rintro e w5 ⟨rfl, f5⟩
            have F5 := hide ((unhide F4).trans f5 (fun _ _ h => h))
            clear f5 F4
            go_wp2_with fail
            refine (unhide D4 _).mono ?_
            rintro e w' ⟨rfl, rfl⟩
            go_wp2_with fail
            refine (unhide D5 _).mono ?_
            rintro e w6 ⟨rfl, f6⟩
            have F6 := hide ((unhide F5).trans f6 (fun _ _ h => h))
            clear f6 F5
            go_wp2_with fail
            refine (unhide D6 _).mono ?_
            rintro e w7 ⟨rfl, f7⟩
            have F7 := hide ((unhide F6).trans f7 (fun _ _ h => h))
            clear f7 F6
            go_wp2_with fail
            refine (num_any _ _).mono ?_
            rintro e w' ⟨rfl, rfl⟩
            go_wp2_with fail
            refine (unhide D7 _).mono ?_
            rintro e w8 ⟨rfl, f8⟩
            have F8 := hide ((unhide F7).trans f8 (fun _ _ h => h))
            clear f8 F7
            go_wp2_with fail
            refine (live_any _).mono ?_
            rintro e w9 ⟨rfl, f9⟩
            go_wp2_with fail
            go_ret
            exact ⟨rfl, (unhide F8).trans f9 (fun _ _ h => h)⟩

#print axioms powers_any
end Go.Proofs.Ytbbgfbjchlefeaa
