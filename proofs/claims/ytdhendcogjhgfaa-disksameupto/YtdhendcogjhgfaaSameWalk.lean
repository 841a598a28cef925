/-
  The walk of 'granarylaw04.DiskSame'.
-/
import Derived.Test.YtdhendcogjhgfaaL6
namespace Go.Proofs.Ytdhendcogjhgfaa
open Go.RowKit
set_option linter.unusedVariables false

attribute [local go_sem ↓] Go.wp_at_zero Go.wp_at_succ

set_option maxHeartbeats 2000000 in
theorem diskSame_any (w : World) (s : Int) (v u : Value) (l m : List Sp) (h1 : RdS w v l) (h2 : RdS w u m) : Calls Try.prog 4 #[.int .i64 s, v, u] w fun e w' => e = .returned (.bool true) ∧ Fr (fun _ => False) w w' := by
  have H1 := hide h1
  have H2 := hide h2
  have HL := hide (long_any w v l h1)
  have HM := hide (fun j => long_any (w.drewN j) u m (h2.kept (Fr.ofDrewN _ j)))
  obtain ⟨ao, ac, rfl⟩ := h1.shape
  obtain ⟨bo, bc, rfl⟩ := h2.shape
  clear h1 h2
  rcases hb : loB l with _ | _
  · rw [hb] at HL
    rcases hb2 : loB m with _ | _
    · rw [hb2] at HM
      by_cases h40 : 40 < s
      · have b1 : decide (40 < s) = true := by simpa using h40
        go_enter Try.func4, Try.ntmps4
        go_wp2_with fail
        refine (unhide HL).mono ?_
        rintro e w' ⟨rfl, n1, rfl⟩
        go_wp2_with fail
        refine (unhide HM _).mono ?_
        rintro e w' ⟨rfl, n2, rfl⟩
        go_wp2_with fail
        refine (live_any _).mono ?_
        rintro e w' ⟨rfl, f⟩
        have HF := hide f
        clear f
        go_wp2_with fail
        go_ret
        exact ⟨rfl, (Fr.ofDrewN _ _).trans (unhide HF) (fun _ _ h => h)⟩
      · have b1 : decide (40 < s) = false := by simpa using h40
        by_cases h0 : s < 1
        · have b2 : decide (s < 1) = true := by simpa using h0
          have HN := hide (fun W n c ao => played_no W s (by omega) ao n c)
          clear h0 h40
          go_enter Try.func4, Try.ntmps4
          go_wp2_with fail
          refine (unhide HL).mono ?_
          rintro e w' ⟨rfl, n1, rfl⟩
          go_wp2_with fail
          refine (unhide HM _).mono ?_
          rintro e w' ⟨rfl, n2, rfl⟩
          go_wp2_with (go_at_call 17; refine (unhide HN _ _ _ _).mono ?_; rintro e w' ⟨rfl, rfl⟩)
          refine (live_any _).mono ?_
          rintro e w' ⟨rfl, f⟩
          have HF := hide f
          clear f
          go_wp2_with fail
          go_ret
          exact ⟨rfl, (Fr.ofDrewN _ _).trans (unhide HF) (fun _ _ h => h)⟩
        · obtain ⟨z, rfl⟩ : ∃ z : Nat, s = (z : Int) := ⟨s.toNat, by omega⟩
          have hz : 1 ≤ z ∧ z ≤ 65536 := by omega
          have HB := hide hb
          have HB2 := hide hb2
          clear h0 hb hb2
          go_enter Try.func4, Try.ntmps4
          go_wp2_with fail
          refine (unhide HL).mono ?_
          rintro e w' ⟨rfl, n1, rfl⟩
          go_wp2_with fail
          refine (unhide HM _).mono ?_
          rintro e w' ⟨rfl, n2, rfl⟩
          go_wp2_with fail
          clear HL HM
          skip
          refine (played_ok _ z hz _ l ((unhide H1).kept (Fr.ofDrewN w (n1 + n2))) (unhide HB)).mono ?_
          rintro e w1 ⟨p, gs, q, p2, sg, hg, q2, rfl, hP, -⟩
          have HP := hide hP
          clear hP
          go_wp2_with fail
          refine (played_ok _ z hz _ m ((unhide H2).kept ((Fr.ofDrewN w (n1 + n2)).trans (unhide HP).f (fun _ _ h => h))) (unhide HB2)).mono ?_
          rintro e w2 ⟨p', gs', q', p2', sg', hg', q2', rfl, hP2, -⟩
          have HQ := hide hP2
          clear hP2
          have HF := hide ((Fr.ofDrewN (S := fun _ => False) w (n1 + n2)).trans ((unhide HP).f.trans (unhide HQ).f (fun _ _ h => h)) (fun _ _ h => h))
          have K1 := hide ((unhide HP).k.kept (unhide HQ).f id id (fun _ _ h => h))
          have R1 := hide ((unhide HP).r.kept0 (unhide HQ).f)
          have K2 := hide (unhide HQ).k
          have R2 := hide (unhide HQ).r
          clear HP HQ HB HB2 hz h40 H1 H2
          generalize plI (newD z 16) l l.length = d at *
          generalize plI (newD z 16) m m.length = e at *
          have hsm : smB d d = true := smB_iff.mpr ⟨rfl, rfl, rfl, rfl⟩
          have hbb : (smB d e == smB d e) = true := beq_self_eq_true _
          have C1 := hide (same_any w2 _ _ _ _ _ _ _ _ (unhide K1) (unhide K2))
          have C2 := hide (fun j => rsame_any (w2.drewN j) _ _ _ _ _ _ _ _ _ _ ((unhide R1).kept0 (Fr.ofDrewN _ j)) ((unhide R2).kept0 (Fr.ofDrewN _ j)))
          have C3 := hide (fun j => same_any (w2.drewN j) _ _ _ _ _ _ _ _ ((unhide K1).kept (Fr.ofDrewN (S := fun _ => False) _ j) id id (fun _ _ h => h)) ((unhide K1).kept (Fr.ofDrewN (S := fun _ => False) _ j) id id (fun _ _ h => h)))
          rw [hsm] at C3
          generalize smB d e = bb at *
          go_wp2_with fail
          refine (unhide C1).mono ?_
          rintro e w' ⟨rfl, n3, rfl⟩
          go_wp2_with fail
          refine (unhide C2 _).mono ?_
          rintro e w' ⟨rfl, n4, rfl⟩
          go_wp2_with fail
          refine (unhide C3 _).mono ?_
          rintro e w' ⟨rfl, n5, rfl⟩
          go_wp2_with fail
          refine (live_any _).mono ?_
          rintro e w' ⟨rfl, f⟩
          have HG := hide f
          clear f
          go_wp2_with fail
          go_ret
          exact ⟨rfl, (unhide HF).trans ((Fr.ofDrewN _ _).trans (unhide HG) (fun _ _ h => h)) (fun _ _ h => h)⟩
    · rw [hb2] at HM
      go_enter Try.func4, Try.ntmps4
      go_wp2_with fail
      refine (unhide HL).mono ?_
      rintro e w' ⟨rfl, n1, rfl⟩
      go_wp2_with fail
      refine (unhide HM _).mono ?_
      rintro e w' ⟨rfl, n2, rfl⟩
      go_wp2_with fail
      refine (live_any _).mono ?_
      rintro e w' ⟨rfl, f⟩
      have HF := hide f
      clear f
      go_wp2_with fail
      go_ret
      exact ⟨rfl, (Fr.ofDrewN _ _).trans (unhide HF) (fun _ _ h => h)⟩
  · rw [hb] at HL
    go_enter Try.func4, Try.ntmps4
    go_wp2_with fail
    refine (unhide HL).mono ?_
    rintro e w' ⟨rfl, n1, rfl⟩
    go_wp2_with fail
    refine (live_any _).mono ?_
    rintro e w' ⟨rfl, f⟩
    have HF := hide f
    clear f
    go_wp2_with fail
    go_ret
    exact ⟨rfl, (Fr.ofDrewN _ _).trans (unhide HF) (fun _ _ h => h)⟩
end Go.Proofs.Ytdhendcogjhgfaa
