/-
  The walk of the document's Turn.
-/
import Derived.Test.YtdhendcogjhgfaaR5
namespace Go.Proofs.Ytdhendcogjhgfaa
open Go.RowKit
set_option linter.unusedVariables false

attribute [local go_sem ↓] Go.wp_at_zero Go.wp_at_succ

/-- Does one of the first k bits of a mask meet a bit? -/
def anB (z c m k : Nat) : Bool := (List.range k).any fun i => m.testBit i && decide (c + i < 8 * z)
theorem anB_succ (z c m k : Nat) : anB z c m (k + 1) = (anB z c m k || (m.testBit k && decide (c + k < 8 * z))) := by
  unfold anB
  rw [List.range_succ, List.any_append]
  simp
theorem anB_all {z c m : Nat} (hc : c < 8 * z) (hm : m < 4294967296) : anB z c m 32 = (mtN z (c : Int) m != 0) := by
  have hb := fun i (hi : i < 32) => mtN_bit (m := m) hc hi
  have hl := mtN_lt (z := z) (b := (c : Int)) hm
  rw [Bool.eq_iff_iff]
  unfold anB
  rw [List.any_eq_true, bne_iff_ne]
  constructor
  · rintro ⟨i, hi, h⟩ e
    rw [← hb i (by simpa using hi), e] at h
    simp at h
  · intro hne
    obtain ⟨i, hi⟩ := Nat.exists_testBit_of_ne_zero hne
    have hi32 : i < 32 := by
      rcases Nat.lt_or_ge i 32 with h | h
      · exact h
      · have : mtN z (c : Int) m < 2 ^ i := Nat.lt_of_lt_of_le (show mtN z (c : Int) m < 2 ^ 32 by omega) (Nat.pow_le_pow_right (by decide) h)
        rw [Nat.testBit_lt_two_pow this] at hi
        simp at hi
    exact ⟨i, by simpa using hi32, by rw [← hb i hi32]; exact hi⟩

/-- Bytes in a block that may be written, whatever lies behind them. -/
structure TB (w : World) (b : Nat) (l : List UInt8) : Prop where
  lt : b < w.heap.size
  cell : ∀ j (h : j < l.length), w.cell? ⟨b, j, none⟩ = some (.int .u8 (((l[j]).toNat : Nat) : Int))
  frozen : ∀ j, j < l.length → w.frozen? ⟨b, j, none⟩ = false

theorem TB.kept {S : Nat → Prop} {w w' : World} {b : Nat} {l : List UInt8} (h : TB w b l) (f : Fr S w w') (hs : ¬ S b) : TB w' b l :=
  ⟨Nat.lt_of_lt_of_le h.lt f.size, fun j hj => by rw [f.cell (a := ⟨b, j, none⟩) h.lt hs]; exact h.cell j hj, fun j hj => by rw [f.frozen (a := ⟨b, j, none⟩) h.lt hs]; exact h.frozen j hj⟩

theorem TB.set {w : World} {b : Nat} {l : List UInt8} (h : TB w b l) (i : Nat) (hi : i < l.length) (c : UInt8) : TB (w.setCell ⟨b, i, none⟩ (.int .u8 ((c.toNat : Nat) : Int))) b (l.set i c) := by
  refine ⟨by simpa [World.setCell] using h.lt, fun j hj => ?_, fun j hj => by rw [World.frozen?_setCell]; exact h.frozen j (by simpa using hj)⟩
  have hj' : j < l.length := by simpa using hj
  rw [List.getElem_set]
  by_cases e : i = j
  · subst e
    rw [if_pos rfl]
    exact World.cell?_setCell_same _ _ _ (h.cell i hi)
  · rw [if_neg e]
    exact (World.cell?_setCell_other _ _ _ _ (fun e2 => e (by injection e2))).trans (h.cell j hj')

theorem bit_of (m k : Nat) (hm : m < 4294967296) : (bits BinOp.and IntKind.u32 ((m : Int) / 2 ^ k) 1 == 1) = m.testBit k := by
  have e1 : ((m : Int) / 2 ^ k) = ((m / 2 ^ k : Nat) : Int) := by simp
  have hshr : m / 2 ^ k < 4294967296 := Nat.lt_of_le_of_lt (Nat.div_le_self _ _) hm
  have hand := and32 (m / 2 ^ k) 1 hshr (by omega)
  have htb : m.testBit k = decide ((m / 2 ^ k) &&& 1 = 1) := by rw [Nat.testBit_eq_decide_div_mod_eq, Nat.and_one_is_mod]
  have e2 : (1 : Int) = ((1 : Nat) : Int) := rfl
  rw [e1, htb]
  conv => lhs; lhs; rw [e2]
  rw [hand, Bool.eq_iff_iff]
  simp only [beq_iff_eq, decide_eq_true_eq]
  omega

theorem tb_conv (w : World) (l : List UInt8) (hl : l.length ≤ 1000) : ∃ cap w1, (convert 9 36 (.string (str l))).run Try.prog w = .ok (.slice (some ⟨w.heap.size, 0, none⟩) l.length cap) w1 ∧ l.length ≤ cap ∧ cap ≤ maxLen ∧ TB w1 w.heap.size l ∧ Fr (fun _ => False) w w1 := by
  have h := Lib.run_convert_string_bytes (P := Try.prog) w 9 36 5 (str l) Try.underlying9 Try.underlying36 Try.underlying5
  rw [str_size] at h
  refine ⟨_, _, h, ?_, ?_, ⟨by rw [Lib.bytesWorld_size]; omega, fun j hj => ?_, fun j hj => ?_⟩, ?_⟩
  · exact grownCap_ge w _ _ _
  · exact grownCap_le_maxLen w _ _ _ (by simp only [maxLen]; omega)
  · rw [Lib.bytesWorld_cell w 5 (str l) j (by rw [str_size]; exact hj)]
    simp [str, List.getD, hj]
  · have hb := Lib.bytesWorld_at_new w 5 (str l)
    have hsz : l.length ≤ (Lib.bytesCells w 5 (str l)).size := by simp [Lib.bytesCells, str]
    have hj2 : ¬ ((Lib.bytesCells w 5 (str l)).size ≤ j) := by omega
    simp [World.frozen?, hb, hj2]
  · exact ⟨rfl, rfl, rfl, by rw [Lib.bytesWorld_size]; omega, fun k hk _ => Lib.bytesWorld_at_old w 5 _ k hk⟩

section
variable (w : World) (p sg hg : Nat) (qv : Value) (d : Dk)

set_option maxHeartbeats 2000000 in
set_option maxRecDepth 100000 in
theorem rturn_any (a b : Int) (m : Nat) (hm : m < 4294967296) (h : RAt w p sg hg qv d) : Calls Try.prog 32 #[.pointer (some ⟨p, 0, none⟩), .int .i64 a, .int .i64 b, .int .u32 (m : Int)] w fun e w' => e = .returned (.int .i64 (tuE d a b m)) ∧ RSt w w' p sg hg qv (tuD d a b m) := by
  have c5 := cell_of_heap h.heap 5
  simp at c5
  have hsz := h.ok.size
  by_cases hb : 0 ≤ b ∧ b < 8 * (d.size : Int)
  · obtain ⟨c, rfl⟩ : ∃ c : Nat, b = (c : Int) := ⟨b.toNat, by omega⟩
    have hc : c < 8 * d.size := by omega
    have hany := anB_all (m := m) hc hm
    have hE : tuE d a (c : Int) m = reE d a (anB d.size c m 32) := by unfold tuE; rw [hany]
    have HH := hide (rhurt_any w p sg hg qv d a (anB d.size c m 32) h)
    rw [← hE] at HH
    have b1 : decide ((c : Int) < 8 * (d.size : Int)) = true := by simp; omega
    have H := hide h
    have HTD : Hid (tuD d a (c : Int) m = if tuE d a (c : Int) m = 0 then seD d a.toNat (tuL d.size (c : Int).toNat m (d.S.getD a.toNat ([], 0)).1 32, 2) else d) := hide rfl
    generalize tuD d a (c : Int) m = td at *
    generalize tuE d a (c : Int) m = te at *
    have HE := hide hE
    clear h hany hE hb
    go_enter Try.func32, Try.ntmps32
    go_wp2_with fail
    go_loopw [9, 11] (fun x y w' => ∃ k : Nat, k ≤ 32 ∧ x = .bool (anB d.size c m k) ∧ y = .int .i64 (k : Int) ∧ w = w') (fun _ y _ => 32 - (intOf y).toNat)
    case atStart => exact ⟨0, by omega, rfl, rfl, rfl⟩
    case round =>
      obtain ⟨k, hk, rfl, rfl, rfl⟩ := hrel
      by_cases hlt : k < 32
      · have hbk := bit_of m k hm
        have hst := anB_succ d.size c m k
        have wu : IntKind.u64.wrap (k : Int) = (k : Int) := by simp only [IntKind.wrap, IntKind.bits, IntKind.signed]; simp; omega
        rcases ha : anB d.size c m k with _ | _
        · rw [ha] at hst
          rcases ht : m.testBit k with _ | _
          · rw [ht] at hbk hst
            have HST := hide (show anB d.size c m (k + 1) = false by rw [hst]; rfl)
            clear hst ht ha
            go_wp2_with fail
            go_roundw
            case rel => exact ⟨k + 1, by omega, by rw [unhide HST], by go_num, by first | rfl | trivial⟩
            case measure => simp [intOf]; omega
          · rw [ht] at hbk hst
            obtain ⟨n, hn⟩ : ∃ n, c + k = n := ⟨_, rfl⟩
            have e1 : (c : Int) + (k : Int) = (n : Int) := by omega
            have b2 : decide ((n : Int) < 8 * (d.size : Int)) = decide (c + k < 8 * d.size) := by rw [decide_eq_decide]; omega
            generalize decide (c + k < 8 * d.size) = bb at *
            have HST := hide (show anB d.size c m (k + 1) = bb by rw [hst]; rfl)
            clear hst ht ha hn
            go_wp2_with fail
            go_roundw
            case rel => exact ⟨k + 1, by omega, by rw [unhide HST], by go_num, by first | rfl | trivial⟩
            case measure => simp [intOf]; omega
        · rw [ha] at hst
          have HST := hide (show anB d.size c m (k + 1) = true by rw [hst]; rfl)
          clear hst ha hbk
          go_wp2_with fail
          go_roundw
          case rel => exact ⟨k + 1, by omega, by rw [unhide HST], by go_num, by first | rfl | trivial⟩
          case measure => simp [intOf]; omega
      · have hk32 : k = 32 := by omega
        subst hk32
        by_cases he : te = 0
        · have he2 : reE d a (anB d.size c m 32) = 0 := by rw [← unhide HE]; exact he
          obtain ⟨x, hax, hx, -, -, -⟩ := reE_zero he2
          have htd := unhide HTD
          have hgd : d.S.getD x ([], 0) = d.S[x] := by simp [List.getD, hx]
          rw [if_pos he, hax, Int.toNat_natCast, Int.toNat_natCast, hgd] at htd
          have HTD2 := hide htd
          have HTE := hide he
          have b9 : (te != 0) = false := by simpa using he
          subst hax
          clear htd HTD
          have h := unhide H
          have c0 := cell_of_heap h.heap 0
          have c1 := cell_of_heap h.heap 1
          simp at c0 c1
          have hlen := h.ok.len
          have r1 := h.stc x hx
          have hl0 := (h.ok.sec _ (List.getElem_mem hx)).1
          obtain ⟨cap, w1, hcv, hc1, hc2, hT1, f1⟩ := tb_conv w (d.S[x]).1 (by omega)
          rw [hl0] at hcv hc1
          have hK1 := h.kept0 f1
          generalize hss : str (d.S[x]).1 = ss at *
          have HT1 := hide hT1
          have F1 := hide f1
          clear h he he2 hgd hT1 f1 hK1 hss HE
          generalize anB d.size c m 32 = ab at *
          go_wp2_with (go_at_call 59; refine (unhide HH).mono ?_; rintro e w' ⟨rfl, rfl⟩)
          go_loopw [14] (fun y w' => ∃ k : Nat, k ≤ 32 ∧ y = .int .i64 (k : Int) ∧ TB w' w.heap.size (tuL d.size c m (d.S[x]).1 k) ∧ Fr (fun _ => False) w w') (fun y _ => 32 - (intOf y).toNat)
          case atStart => exact ⟨0, by omega, rfl, unhide HT1, unhide F1⟩
          case round =>
            clear HT1 F1 hcv
            obtain ⟨k, hk, rfl, hT, hf⟩ := hrel
            have hL := tuL_length d.size c m (d.S[x]).1 k
            rw [hl0] at hL
            have r5 : wr.cell? ⟨p, 5, none⟩ = some (.int .i64 (d.size : Int)) := (hf.cell (a := ⟨p, 5, none⟩) (lt_of_heap (unhide H).heap) id).trans c5
            by_cases hlt : k < 32
            · have hbk := bit_of m k hm
              have hst : tuL d.size c m (d.S[x]).1 (k + 1) = if (m.testBit k && decide (c + k < 8 * d.size)) = true then (tuL d.size c m (d.S[x]).1 k).set ((c + k) / 8) ((tuL d.size c m (d.S[x]).1 k).getD ((c + k) / 8) 0 ^^^ (1 <<< UInt8.ofNat ((c + k) % 8))) else tuL d.size c m (d.S[x]).1 k := rfl
              have wu : IntKind.u64.wrap (k : Int) = (k : Int) := by simp only [IntKind.wrap, IntKind.bits, IntKind.signed]; simp; omega
              rcases ht : m.testBit k with _ | _
              · rw [ht] at hbk hst
                have HST := hide (show tuL d.size c m (d.S[x]).1 (k + 1) = tuL d.size c m (d.S[x]).1 k by rw [hst]; simp)
                have HT := hide hT
                have HF := hide hf
                clear hst ht hT hf
                go_wp2_with fail
                go_roundw
                case rel => exact ⟨k + 1, by omega, by go_num, by rw [unhide HST]; exact unhide HT, unhide HF⟩
                case measure => simp [intOf]; omega
              · rw [ht] at hbk hst
                obtain ⟨n, hn⟩ : ∃ n, c + k = n := ⟨_, rfl⟩
                have e1 : (c : Int) + (k : Int) = (n : Int) := by omega
                by_cases hin : n < 8 * d.size
                · have b2 : decide ((n : Int) < 8 * (d.size : Int)) = true := by simp; omega
                  obtain ⟨q, hq⟩ : ∃ q, n / 8 = q := ⟨_, rfl⟩
                  obtain ⟨r, hr8⟩ : ∃ r, n % 8 = r := ⟨_, rfl⟩
                  rw [hn, hq, hr8] at hst
                  have HST := hide (show tuL d.size c m (d.S[x]).1 (k + 1) = (tuL d.size c m (d.S[x]).1 k).set q ((tuL d.size c m (d.S[x]).1 k).getD q 0 ^^^ (1 <<< UInt8.ofNat r)) by rw [hst, decide_eq_true hin]; rfl)
                  have hqs : q < d.size := by omega
                  have hrl : r < 8 := by omega
                  have e2 : (n : Int) / 8 = (q : Int) := by omega
                  have e3 : (n : Int) % 8 = (r : Int) := by omega
                  have e2t : (n : Int).tdiv 8 = (q : Int) := by rw [Int.tdiv_eq_ediv_of_nonneg (by omega)]; exact e2
                  have e3t : (n : Int).tmod 8 = (r : Int) := by rw [Int.tmod_eq_emod_of_nonneg (by omega)]; exact e3
                  have wr8 : IntKind.u64.wrap (r : Int) = (r : Int) := by simp only [IntKind.wrap, IntKind.bits, IntKind.signed]; simp; omega
                  have hcell := hT.cell q (by omega)
                  have zc := hT.frozen q (by omega)
                  have hgq : (tuL d.size c m (d.S[x]).1 k).getD q 0 = (tuL d.size c m (d.S[x]).1 k)[q]'(by omega) := by
                    have : q < (tuL d.size c m (d.S[x]).1 k).length := by omega
                    simp [List.getD, this]
                  rw [← hgq] at hcell
                  have hxor : bits BinOp.xor IntKind.u8 ((((tuL d.size c m (d.S[x]).1 k).getD q 0).toNat : Nat) : Int) (2 ^ r % 256) = ((((tuL d.size c m (d.S[x]).1 k).getD q 0 ^^^ (1 <<< UInt8.ofNat r)).toNat : Nat) : Int) := by
                    have h8 : ∀ r : Nat, r < 8 → (2 : Int) ^ r % (256 : Int) = (((1 <<< UInt8.ofNat r : UInt8).toNat : Nat) : Int) := by decide +kernel
                    rw [h8 r hrl]
                    exact xorV _ _
                  obtain ⟨ob, hob⟩ : ∃ ob, ob = (tuL d.size c m (d.S[x]).1 k).getD q 0 := ⟨_, rfl⟩
                  rw [← hob] at hcell hxor HST
                  obtain ⟨nb, hnb⟩ : ∃ nb, nb = ob ^^^ (1 <<< UInt8.ofNat r) := ⟨_, rfl⟩
                  rw [← hnb] at hxor HST
                  have HTS := hide (hT.set q (by omega) nb)
                  have HF := hide hf
                  have hqc : q < cap := by omega
                  have hqi : (q : Int) < (d.size : Int) := by omega
                  clear hst ht hT hf hn hq hr8 hgq hob hnb hL
                  go_wp2_with fail
                  go_roundw
                  case rel => exact ⟨k + 1, by omega, by go_num, by rw [unhide HST]; exact unhide HTS, (unhide HF).setCell (fun h => absurd h (by simp)) _⟩
                  case measure => simp [intOf]; omega
                · have b2 : decide ((n : Int) < 8 * (d.size : Int)) = false := by simp; omega
                  have HST := hide (show tuL d.size c m (d.S[x]).1 (k + 1) = tuL d.size c m (d.S[x]).1 k by rw [hst, hn, decide_eq_false hin]; rfl)
                  have HT := hide hT
                  have HF := hide hf
                  clear hst ht hT hf hn hin
                  go_wp2_with fail
                  go_roundw
                  case rel => exact ⟨k + 1, by omega, by go_num, by rw [unhide HST]; exact unhide HT, unhide HF⟩
                  case measure => simp [intOf]; omega
            · have hk32 : k = 32 := by omega
              subst hk32
              have hK := (unhide H).kept0 hf
              obtain ⟨n1, n2, n3, n4⟩ := hK.ne
              have s0 := cell_of_heap hK.heap 0
              have s1 := cell_of_heap hK.heap 1
              simp at s0 s1
              have t0 := hK.stc x hx
              have y0 := frozen_of_heap hK.strs x
              have t1 := hK.hrt x hx
              have y1 := frozen_of_heap hK.hurt x
              have hrd : ∀ n, Rd (wr.drewN n) (.slice (some ⟨w.heap.size, 0, none⟩) d.size cap) (tuL d.size c m (d.S[x]).1 32) := fun n => Rd.lit hL hc1 hc2 (fun j hj => by
                rw [Nat.zero_add]
                exact (hT.kept (Fr.ofDrewN (S := fun _ => False) wr n) id).cell j hj)
              have hcv2 := fun n => conv_rd (P := Try.prog) (hrd n) 36 9 5 Try.underlying36 Try.underlying5 Try.underlying9
              have hP1 := fun n => (hK.kept0 (Fr.ofDrewN wr n)).putStr x hx (tuL d.size c m (d.S[x]).1 32) hL
              have HP1 := hide hP1
              have HF := hide hf
              generalize hst : str (tuL d.size c m (d.S[x]).1 32) = st at *
              generalize str (d.S[x]).1 = so at t0
              generalize (((d.S[x]).2.toNat : Nat) : Int) = oh at t1
              have m1 : ¬ (sg = hg) := n3
              have m2 : ¬ (hg = sg) := fun e => n3 e.symm
              have m3 : ¬ (sg = p) := fun e => n1 e.symm
              have m4 : ¬ (hg = p) := fun e => n2 e.symm
              clear hT hf hK hL hrd hP1 n4 r1
              go_wp2_with fail
              refine wp_region_quietTail 8 (by kernel_rfl) (by kernel_rfl) ?_
              simp only [List.take_succ_cons, List.take_zero]
              repeat (go_big_quiet_step (fail))
              refine wpQuiet_nil ?_
              intro _ hw'
              obtain ⟨nq, hw''⟩ := hw'
              subst hw''
              simp only [List.drop_succ_cons, List.drop_zero]
              go_wp2_with fail
              go_ret
              obtain ⟨hA, g1⟩ := unhide HP1 nq
              have hx2 : x < (seD d x (tuL d.size c m (d.S[x]).1 32, (d.S[x]).2)).S.length := by simpa [seD] using hx
              obtain ⟨hB, g2⟩ := hA.putHurt x hx2 2 (by decide)
              have hfst : ((seD d x (tuL d.size c m (d.S[x]).1 32, (d.S[x]).2)).S[x]'hx2).1 = tuL d.size c m (d.S[x]).1 32 := by simp [seD]
              rw [hfst] at hB
              have e4 : seD (seD d x (tuL d.size c m (d.S[x]).1 32, (d.S[x]).2)) x (tuL d.size c m (d.S[x]).1 32, 2) = seD d x (tuL d.size c m (d.S[x]).1 32, 2) := by simp [seD]
              rw [e4] at hB
              rw [unhide HTE, unhide HTD2]
              exact ⟨rfl, ⟨⟨qv, hB, fun b hb => .inl hb⟩, ((((unhide HF).trans (Fr.ofDrewN (S := fun _ => False) wr nq) (fun _ _ h => h)).mono (fun _ _ h => h.elim)).trans g1 (fun _ _ e => .inr (.inl e))).trans g2 (fun _ _ e => .inr (.inr (.inl e)))⟩⟩
        · have b9 : (te != 0) = true := by simpa using he
          have HK := hide (RSt.same (unhide H))
          have htd := unhide HTD
          rw [if_neg he] at htd
          rw [← htd] at HK
          generalize anB d.size c m 32 = ab at *
          clear he HE H htd HTD
          go_wp2_with (go_at_call 59; refine (unhide HH).mono ?_; rintro e w' ⟨rfl, rfl⟩)
          go_ret
          exact ⟨rfl, unhide HK⟩
  · have hmt : mtN d.size b m = 0 := by unfold mtN; rw [if_neg hb]
    have hE : tuE d a b m = reE d a false := by unfold tuE; rw [hmt]; rfl
    have h2 : reE d a false = 2 := by unfold reE; rw [Bool.and_false]; rfl
    have hD : tuD d a b m = d := by unfold tuD; rw [hE, h2, if_neg (by decide)]
    rw [hD, hE, h2]
    have HH := hide (rhurt_any w p sg hg qv d a false h)
    rw [h2] at HH
    have HK := hide (RSt.same h)
    clear h hmt hE h2 hD
    by_cases h0 : 0 ≤ b
    · have b0 : decide (0 ≤ b) = true := by simpa using h0
      have b1 : decide (b < 8 * (d.size : Int)) = false := by simp; omega
      clear hb
      go_enter Try.func32, Try.ntmps32
      go_wp2_with fail
      go_loopw [9, 11] (fun x y w' => x = .bool false ∧ y = .int .i64 0 ∧ w = w') (fun _ _ _ => 0)
      case atStart => exact ⟨rfl, rfl, rfl⟩
      case round =>
        obtain ⟨rfl, rfl, rfl⟩ := hrel
        go_wp2_with (go_at_call 59; refine (unhide HH).mono ?_; rintro e w' ⟨rfl, rfl⟩)
        go_ret
        exact ⟨rfl, unhide HK⟩
    · have b0 : decide (0 ≤ b) = false := by simpa using h0
      clear hb
      go_enter Try.func32, Try.ntmps32
      go_wp2_with fail
      go_loopw [9, 11] (fun x y w' => x = .bool false ∧ y = .int .i64 0 ∧ w = w') (fun _ _ _ => 0)
      case atStart => exact ⟨rfl, rfl, rfl⟩
      case round =>
        obtain ⟨rfl, rfl, rfl⟩ := hrel
        go_wp2_with (go_at_call 59; refine (unhide HH).mono ?_; rintro e w' ⟨rfl, rfl⟩)
        go_ret
        exact ⟨rfl, unhide HK⟩
end
end Go.Proofs.Ytdhendcogjhgfaa
