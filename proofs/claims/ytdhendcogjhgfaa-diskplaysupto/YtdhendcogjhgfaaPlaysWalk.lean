/-
  The walk of 'granarylaw04.DiskPlays', where tells answers as it should.
-/
import Derived.Test.YtdhendcogjhgfaaL10
namespace Go.Proofs.Ytdhendcogjhgfaa
open Go.RowKit
set_option linter.unusedVariables false

attribute [local go_sem ↓] Go.wp_at_zero Go.wp_at_succ

/-- Of both disks the laws' tells says true, and changes nothing that was there. -/
def TellsOk : Prop := ∀ (w0 w : World) (p gs : Nat) (q : Value) (p2 sg hg : Nat) (q2 : Value) (d : Dk), Pq w0 w p gs q p2 sg hg q2 d d → Calls Try.prog 16 #[.pointer (some ⟨p, 0, none⟩), .pointer (some ⟨p2, 0, none⟩)] w fun e w' => e = .returned (.bool true) ∧ Fr (fun _ => False) w w'

set_option maxHeartbeats 2000000 in
set_option maxRecDepth 100000 in
theorem diskPlays_of (T : TellsOk) (w : World) (s t : Int) (v : Value) (l : List Sp) (h : RdS w v l) : Calls Try.prog 3 #[.int .i64 s, .int .i64 t, v] w fun e w' => e = .returned (.bool true) ∧ Fr (fun _ => False) w w' := by
  have H := hide h
  have HT := hide T
  obtain ⟨ao, ac, rfl⟩ := h.shape
  have HL := hide (long_any w _ l h)
  clear h T
  rcases hb : loB l with _ | _
  · rw [hb] at HL
    by_cases h40 : 40 < s ∧ s ≤ 65536
    · have b1 : decide (40 < s) = true := by simpa using h40.1
      have b2 : decide (s ≤ 65536) = true := by simpa using h40.2
      go_enter Try.func3, Try.ntmps3
      go_wp2_with fail
      refine (unhide HL).mono ?_
      rintro e w' ⟨rfl, n1, rfl⟩
      go_wp2_with fail
      refine (live_any _).mono ?_
      rintro e w' ⟨rfl, f⟩
      have HG := hide f
      clear f
      go_wp2_with fail
      go_ret
      exact ⟨rfl, (Fr.ofDrewN _ _).trans (unhide HG) (fun _ _ h => h)⟩
    · have bb : (decide (40 < s) = false) ∨ (decide (40 < s) = true ∧ decide (s ≤ 65536) = false) := by
        by_cases h1 : 40 < s
        · right; exact ⟨by simpa using h1, by simp; omega⟩
        · left; simpa using h1
      by_cases hok : 1 ≤ s ∧ s ≤ 65536 ∧ 8 ≤ t ∧ t ≤ 512
      · have b1 : decide (40 < s) = false := by simp; omega
        obtain ⟨z, rfl⟩ : ∃ z : Nat, s = (z : Int) := ⟨s.toNat, by omega⟩
        obtain ⟨y, rfl⟩ : ∃ y : Nat, t = (y : Int) := ⟨t.toNat, by omega⟩
        have hz : 1 ≤ z ∧ z ≤ 65536 := by omega
        have hy : 8 ≤ y ∧ y ≤ 512 := by omega
        obtain ⟨hl80, hsz⟩ := loB_not hb
        have HSZ := hide hsz
        clear bb hok h40 hb hsz
        go_enter Try.func3, Try.ntmps3
        go_wp2_with fail
        refine (unhide HL).mono ?_
        rintro e w' ⟨rfl, n1, rfl⟩
        clear HL
        go_wp2_with fail
        refine (new_ok _ z y hz hy).mono ?_
        rintro e w1 ⟨⟨p, gs, rfl, hp, hg1, hk1⟩, f1⟩
        have HK1 := hide hk1
        have HF1 := hide f1
        clear hk1 f1
        go_wp2_with fail
        refine (rnew_ok w1 z y hz hy).mono ?_
        rintro e w2 ⟨⟨p2, sg, hg, rfl, hp2, hsg, hhg, hr2⟩, f2⟩
        have hs1 := (unhide HF1).size
        have hd1 := (Fr.ofDrewN (S := fun _ => False) w n1).size
        have HP : Hid (Pq w w2 p gs (.slice none 0 0) p2 sg hg (.slice none 0 0) (newD z y) (newD z y)) := hide ⟨(unhide HK1).kept f2 id id (fun _ _ h => h), hr2, (Fr.ofDrewN w n1).trans ((unhide HF1).trans f2 (fun _ _ h => h)) (fun _ _ h => h), fun b hb => by
            rcases hb with rfl | rfl | hb
            · omega
            · omega
            · simp [Value.ownBlock] at hb, fun b hb => by
            rcases hb with rfl | rfl | rfl | hb
            · omega
            · omega
            · omega
            · simp [Value.ownBlock] at hb⟩
        have hn0 : (newD z y).n ≤ 4096 * 0 := Nat.le_refl _
        generalize newD z y = d0 at *
        generalize (Value.slice none 0 0) = q0 at HP
        clear hr2 f2 HK1 HF1 hp hg1 hp2 hsg hhg hs1 hd1
        go_wp2_with (go_at_call 14; refine (num_any _ _).mono ?_; rintro e w' ⟨rfl, rfl⟩)
        refine (live_any _).mono ?_
        rintro e w3 ⟨rfl, f3⟩
        have HP3 := hide ((unhide HP).fr f3)
        clear HP f3
        go_wp2_with fail
        go_loopw [7, 11] (fun x yy W => ∃ i : Nat, i ≤ l.length ∧ yy = .int .i64 (i : Int) ∧ ∃ p gs q q2 d, x = .pointer (some ⟨p, 0, none⟩) ∧ Pq w W p gs q p2 sg hg q2 d d ∧ d.n ≤ 4096 * i) (fun _ yy _ => l.length - (intOf yy).toNat)
        case atStart => exact ⟨0, by omega, rfl, _, _, _, _, _, rfl, unhide HP3, hn0⟩
        case round =>
          clear HP3 hn0
          obtain ⟨i, hi, rfl, pr, gr, qr, q2r, d, rfl, hP, hn⟩ := hrel
          have HP := hide hP
          by_cases hlt : i < l.length
          · have bl : decide ((i : Int) < (l.length : Int)) = true := by simp; omega
            obtain ⟨bb, bo, rfl, -, hnc, hcm, hc⟩ := ((unhide H).kept hP.f).lits (by omega)
            obtain ⟨hc1, hok⟩ := hc i hlt
            have y0 := hc1 0 (by omega)
            have y1 := hc1 1 (by omega)
            have y2 := hc1 2 (by omega)
            have y3 := hc1 3 (by omega)
            have y4 := hc1 4 (by omega)
            have y5 := hc1 5 (by omega)
            rw [Nat.add_zero] at y0
            rw [← Nat.add_assoc] at y1 y2 y3 y4 y5
            have hso : (l[i]).Ok w := by
              rcases unhide H with ⟨-, h0⟩ | ⟨ad, cap, -, -, -, h4⟩
              · subst h0; simp at hlt
              · exact (h4 i hlt).2
            have hzz := unhide HSZ _ (List.getElem_mem hlt)
            generalize l[i] = x at *
            simp only [Sp.cells, List.getElem_cons_succ, List.getElem_cons_zero] at y0 y1 y2 y3 y4 y5
            have hic : i < ac := by omega
            have hroom := hP.k.ok.room
            have HAC : Hid (Calls Try.prog 15 #[.pointer (some ⟨pr, 0, none⟩), .pointer (some ⟨p2, 0, none⟩), .agg #[.int .i64 x.k, .int .i64 x.a, .int .i64 x.b, .int .u32 (x.m : Int), x.dv, x.kv]] wr fun r w' => ∃ pc gc qc q2c dc, r = .returned (.tuple #[.pointer (some ⟨pc, 0, none⟩), .bool true]) ∧ Pq w w' pc gc qc p2 sg hg q2c dc dc ∧ dc.n ≤ 4096 * (i + 1)) := hide (by
              by_cases k8 : x.k = 8
              · rw [k8]
                refine (act_copy w wr pr gr qr p2 sg hg q2r d x.a x.b x.m x.dv x.kv x.D x.K ⟨hP, by omega, hso.hm, hso.rd, hso.rk, by omega, by omega⟩).mono ?_
                rintro r w' ⟨pc, gc, qc, dc, rfl, h1, h2⟩
                have := (core_facts h2).2.2.2.2
                exact ⟨pc, gc, qc, q2r, dc, rfl, h1, by omega⟩
              · refine (act_any w wr pr gr qr p2 sg hg q2r d x.k x.a x.b x.m x.dv x.kv x.D x.K ⟨hP, by omega, hso.hm, hso.rd, hso.rk, by omega, by omega⟩ k8).mono ?_
                rintro r w' ⟨rfl, q', q2', h3, -⟩
                have := acD_n d x.k x.a x.b x.m x.D x.K
                exact ⟨pr, gr, q', q2', _, rfl, h3, by omega⟩)
            generalize x.k = xk at *
            generalize x.a = xa at *
            generalize x.b = xb at *
            generalize x.m = xm at *
            generalize x.dv = xd at *
            generalize x.kv = xv at *
            clear hP hn hc hc1 hok hzz hso hroom HP
            go_wp2_with fail
            refine (unhide HAC).mono ?_
            rintro e w4 ⟨pc, gc, qc, q2c, dc, rfl, h4, hn4⟩
            have HP4 := hide h4
            have HN4 := hide hn4
            clear h4 hn4 HAC
            go_wp2_with fail
            refine (unhide HT _ _ _ _ _ _ _ _ _ _ (unhide HP4)).mono ?_
            rintro e w5 ⟨rfl, f5⟩
            have HP5 := hide ((unhide HP4).fr f5)
            clear f5 HP4
            go_wp2_with fail
            go_roundw
            case rel => exact ⟨i + 1, by omega, by go_num, pc, gc, qc, q2c, dc, rfl, unhide HP5, unhide HN4⟩
            case measure => simp [intOf]; omega
          · have bl : decide ((i : Int) < (l.length : Int)) = false := by simp; omega
            clear hP hn
            go_wp2_with fail
            refine (unhide HT _ _ _ _ _ _ _ _ _ _ (unhide HP)).mono ?_
            rintro e w5 ⟨rfl, f5⟩
            have HF5 := hide ((unhide HP).f.trans f5 (fun _ _ h => h))
            clear f5
            go_wp2_with fail
            go_ret
            exact ⟨rfl, unhide HF5⟩
      · have HN := hide (new_no · s t hok)
        have HRN := hide (rnew_no · s t hok)
        clear hok h40
        rcases bb with b1 | ⟨b1, b2⟩
        · go_enter Try.func3, Try.ntmps3
          go_wp2_with fail
          refine (unhide HL).mono ?_
          rintro e w' ⟨rfl, n1, rfl⟩
          go_wp2_with (first | (go_at_call 12; refine (unhide HN _).mono ?_; rintro e w' ⟨rfl, rfl⟩) | (go_at_call 13; refine (unhide HRN _).mono ?_; rintro e w' ⟨rfl, rfl⟩) | (go_at_call 14; refine (num_any _ _).mono ?_; rintro e w' ⟨rfl, rfl⟩))
          refine (live_any _).mono ?_
          rintro e w3 ⟨rfl, f⟩
          have HG := hide f
          clear f
          go_wp2_with fail
          go_loopw [7, 11] (fun x yy W => x = .pointer none ∧ yy = .int .i64 0 ∧ W = w3) (fun _ _ _ => 0)
          case atStart => exact ⟨rfl, rfl, rfl⟩
          case round =>
            obtain ⟨rfl, rfl, rfl⟩ := hrel
            go_wp2_with fail
            go_ret
            exact ⟨rfl, (Fr.ofDrewN _ _).trans (unhide HG) (fun _ _ h => h)⟩
        · go_enter Try.func3, Try.ntmps3
          go_wp2_with fail
          refine (unhide HL).mono ?_
          rintro e w' ⟨rfl, n1, rfl⟩
          go_wp2_with (first | (go_at_call 12; refine (unhide HN _).mono ?_; rintro e w' ⟨rfl, rfl⟩) | (go_at_call 13; refine (unhide HRN _).mono ?_; rintro e w' ⟨rfl, rfl⟩) | (go_at_call 14; refine (num_any _ _).mono ?_; rintro e w' ⟨rfl, rfl⟩))
          refine (live_any _).mono ?_
          rintro e w3 ⟨rfl, f⟩
          have HG := hide f
          clear f
          go_wp2_with fail
          go_loopw [7, 11] (fun x yy W => x = .pointer none ∧ yy = .int .i64 0 ∧ W = w3) (fun _ _ _ => 0)
          case atStart => exact ⟨rfl, rfl, rfl⟩
          case round =>
            obtain ⟨rfl, rfl, rfl⟩ := hrel
            go_wp2_with fail
            go_ret
            exact ⟨rfl, (Fr.ofDrewN _ _).trans (unhide HG) (fun _ _ h => h)⟩
  · rw [hb] at HL
    go_enter Try.func3, Try.ntmps3
    go_wp2_with fail
    refine (unhide HL).mono ?_
    rintro e w' ⟨rfl, n1, rfl⟩
    go_wp2_with fail
    refine (live_any _).mono ?_
    rintro e w' ⟨rfl, f⟩
    have HG := hide f
    clear f
    go_wp2_with fail
    go_ret
    exact ⟨rfl, (Fr.ofDrewN _ _).trans (unhide HG) (fun _ _ h => h)⟩
end Go.Proofs.Ytdhendcogjhgfaa
