/-
  The walk of package sha's schedule.
-/
import Derived.Test.YtlicmlioilkfdaaDoorAg
namespace Go.Proofs.YtlicmlioilkfdaaDoor
open Go.RowKit
set_option linter.unusedVariables false
set_option linter.unusedSimpArgs false

attribute [local go_sem ↓] Go.wp_at_zero Go.wp_at_succ

/-- 64 bytes lie at this place. -/
def PAt (w : World) (p o : Nat) (l : List UInt8) : Prop := l.length = 64 ∧ ∀ j, j < 64 → w.cell? ⟨p, o + j, none⟩ = some (.int .u8 ((((l.getD j 0).toNat : Nat)) : Int))

theorem PAt.kept {S : Nat → Prop} {w w' : World} {p o : Nat} {l : List UInt8} (h : PAt w p o l) (f : Fr S w w') (hs : ¬ S p) : PAt w' p o l :=
  ⟨h.1, fun j hj => by rw [f.cell (World.block_lt_of_cell? w _ (h.2 j hj)) hs]; exact h.2 j hj⟩

theorem getD_left (A B : List Wd) (i : Nat) (h : i < A.length) : (A ++ B).getD i 0 = A.getD i 0 := by
  simp [List.getElem?_append_left h]

theorem set_mid (A : List Wd) (n : Nat) (x : Wd) : (A ++ List.replicate (n + 1) 0).set A.length x = A ++ [x] ++ List.replicate n 0 := by
  rw [List.set_append_right _ _ (Nat.le_refl _), Nat.sub_self, List.replicate_succ]
  simp

theorem shr_3 (x : Wd) : N x / (8 : Int) = N (x >>> 3) := shr32 x 3
theorem shr_10 (x : Wd) : N x / (1024 : Int) = N (x >>> 10) := shr32 x 10

theorem right_q (W : World) (x : Wd) (k : Int) (h0 : 0 < k) (h1 : k < 32) {C : World → Prop} (hC : ∀ w', w' = W → C w') : Calls Tryd.prog 64 #[.int .u32 (N x), .int .i64 k] W fun e w'' => e = .returned (.int .u32 (N (rot x k.toNat))) ∧ C w'' := by
  have := right_any W x k.toNat (by omega) (by omega)
  rw [Int.toNat_of_nonneg (by omega)] at this
  exact this.mono (by rintro e w' ⟨rfl, rfl⟩; exact ⟨rfl, hC _ rfl⟩)

set_option maxHeartbeats 1000000 in
set_option maxRecDepth 100000 in
theorem schedule_any (w : World) (p o : Nat) (l : List UInt8) (h : PAt w p o l) : Calls Tryd.prog 63 #[.pointer (some ⟨p, o, none⟩)] w fun e w' => e = .returned (.agg (wvs (sch l 48)).toArray) ∧ Fr (fun _ => False) w w' := by
  have hp : p < w.heap.size := World.block_lt_of_cell? w _ (h.2 0 (by omega))
  go_enter Tryd.func63, Tryd.ntmps63
  go_wp2_with fail
  go_loopw [8] (fun n w' => ∃ t : Nat, t ≤ 16 ∧ n = .int .i64 (t : Int) ∧ WAt w' (w.heap.size + 1) 98 ((List.range t).map (wdAt l) ++ List.replicate (64 - t) 0) ∧ ZAt w' w.heap.size 98 64 ∧ Fr (fun _ => False) w w') (fun n _ => 16 - (intOf n).toNat)
  case atStart =>
    refine ⟨0, by omega, rfl, ?_, (ZAt.new w _ 98 64 rfl).kept ((Fr.refl (fun _ => False) _).alloc _) id, ((Fr.refl _ _).alloc _).alloc _⟩
    have := fun o => heap_alloc_new (w.alloc o) o
    simp only [World.size_alloc] at this
    exact this _
  case round =>
    obtain ⟨t, ht, rfl, hw, hzz, hf⟩ := hrel
    by_cases hlt : t < 16
    · have c0 := (h.kept hf id).2 (4 * t) (by omega)
      have c1 := (h.kept hf id).2 (4 * t + 1) (by omega)
      have c2 := (h.kept hf id).2 (4 * t + 2) (by omega)
      have c3 := (h.kept hf id).2 (4 * t + 3) (by omega)
      have hk := word_at wr p (o + 4 * t) (64 - 4 * t) (64 - 4 * t) _ _ _ _ (by omega) c0 c1 c2 c3
      have hcx : wr.cell? ⟨w.heap.size + 1, t, none⟩ = some (.int .u32 (N (((List.range t).map (wdAt l) ++ List.replicate (64 - t) 0).getD t 0))) := hw.cell t (by simp; omega)
      have hz := hw.frozen t
      have HZZ := hide hzz
      have HF := hide hf
      have HW := hide hw
      have HH := hide h
      have HK := hide hk
      clear hf hw h hk hzz c0 c1 c2 c3
      generalize hB : w.heap.size + 1 = q at *
      have HB := hide hB
      clear hB
      have b1 : (0 : Int) ≤ 4 * (t : Int) := by omega
      have b2 : 4 * (t : Int) ≤ 64 := by omega
      have b3 : (4 * (t : Int)).toNat = 4 * t := by omega
      have b4 : (64 = 4 * t) = False := by simp; omega
      have b5 : (t : Int) < 64 := by omega
      go_wp2_with (go_at_call 50; refine (unhide HK).mono ?_; rintro e w' ⟨rfl, nk, rfl⟩)
      go_roundw
      case rel =>
        have hb := unhide HB
        refine ⟨t + 1, by omega, by go_num, ?_, ((unhide HZZ).kept (frD wr nk (fun _ => False)) id).setCell _ _ _, ((unhide HF).drewN nk).setCell (fun h => absurd h (by simp; omega)) _⟩
        have h1 := ((unhide HW).kept (Fr.drewN (Fr.refl (fun _ => False) wr) nk) id).set t (wdAt l t)
        have e2 : ((List.range t).map (wdAt l) ++ List.replicate (64 - t) 0).set t (wdAt l t) = (List.range (t + 1)).map (wdAt l) ++ List.replicate (64 - (t + 1)) 0 := by
          have := set_mid ((List.range t).map (wdAt l)) (64 - (t + 1)) (wdAt l t)
          rw [show 64 - (t + 1) + 1 = 64 - t by omega, show ((List.range t).map (wdAt l)).length = t by simp] at this
          rw [this, List.range_succ]
          simp
        rw [e2] at h1
        exact h1
      case measure => simp [intOf]; omega
    · have ht16 : t = 16 := by omega
      subst ht16
      have hq0 : WAt wr (w.heap.size + 1) 98 (sch l 0 ++ List.replicate (48 - 0) 0) := hw
      have HF := hide hf
      have HQ := hide hq0
      have HZZ := hide hzz
      clear hw hf hq0 hzz
      go_wp2_with fail
      go_loopw [5] (fun v w' => ∃ n t : Nat, n ≤ 48 ∧ t = 16 + n ∧ v = .int .i64 (t : Int) ∧ WAt w' (w.heap.size + 1) 98 (sch l n ++ List.replicate (48 - n) 0) ∧ ZAt w' w.heap.size 98 64 ∧ Fr (fun _ => False) w w') (fun v _ => 64 - (intOf v).toNat)
      case atStart => exact ⟨0, 16, by omega, rfl, rfl, unhide HQ, unhide HZZ, unhide HF⟩
      case round =>
        obtain ⟨n, t, hn, htn, rfl, hw, hzz, hf⟩ := hrel
        by_cases hlt : t < 64
        · have hl := sch_length l n
          have hl2 : (sch l n ++ List.replicate (48 - n) (0 : Wd)).length = 64 := by simp [hl]; omega
          have hcell : ∀ j, j < t → wr.cell? ⟨w.heap.size + 1, j, none⟩ = some (.int .u32 (N ((sch l n).getD j 0))) := fun j hj => by
            rw [← getD_left _ (List.replicate (48 - n) 0) j (by omega)]; exact hw.cell j (by omega)
          have hst := hw.cell t (by omega)
          have hz := hw.frozen t
          obtain ⟨a16, i16⟩ : ∃ a : Nat, (t : Int) - 16 = (a : Int) := ⟨t - 16, by omega⟩
          obtain ⟨a15, i15⟩ : ∃ a : Nat, (t : Int) - 15 = (a : Int) := ⟨t - 15, by omega⟩
          obtain ⟨a7, i7⟩ : ∃ a : Nat, (t : Int) - 7 = (a : Int) := ⟨t - 7, by omega⟩
          obtain ⟨a2, i2⟩ : ∃ a : Nat, (t : Int) - 2 = (a : Int) := ⟨t - 2, by omega⟩
          have c16 := hcell a16 (by omega)
          have c15 := hcell a15 (by omega)
          have c7 := hcell a7 (by omega)
          have c2 := hcell a2 (by omega)
          have HN : Hid (nxt (sch l n) = (sch l n).getD a16 0 + (rot ((sch l n).getD a15 0) 7 ^^^ rot ((sch l n).getD a15 0) 18 ^^^ (sch l n).getD a15 0 >>> 3) + (sch l n).getD a7 0 +
              (rot ((sch l n).getD a2 0) 17 ^^^ rot ((sch l n).getD a2 0) 19 ^^^ (sch l n).getD a2 0 >>> 10)) := by
            unfold nxt
            rw [show a16 = (sch l n).length - 16 by omega, show a15 = (sch l n).length - 15 by omega, show a7 = (sch l n).length - 7 by omega, show a2 = (sch l n).length - 2 by omega]
            exact hide rfl
          have HZZ := hide hzz
          have HW := hide hw
          have HF2 := hide hf
          have HL := hide hl
          have HT := hide htn
          have HNN := hide hn
          generalize (sch l n).getD a16 0 = x16 at *
          generalize (sch l n).getD a15 0 = x15 at *
          generalize (sch l n).getD a7 0 = x7 at *
          generalize (sch l n).getD a2 0 = x2 at *
          have b16 : a16 < 64 := by omega
          have b15 : a15 < 64 := by omega
          have b7 : a7 < 64 := by omega
          have b2 : a2 < 64 := by omega
          have t16 : 16 ≤ t := by omega
          clear hw hf hl hl2 hcell htn hn hzz
          generalize hB : w.heap.size + 1 = q at *
          have HB := hide hB
          clear hB
          have q1 := xor32 (rot x15 7) (rot x15 18)
          have q5 := xor32 (rot x2 17) (rot x2 19)
          go_wp2_with fail
          go_quiet (fail)
          go_wp2_with fail
          refine wp_region_quietTail 29 (by kernel_rfl) (by kernel_rfl) ?_
          simp only [List.take_succ_cons, List.take_zero]
          have R2 : ∀ (n : Nat) (x : Wd) (k : Int), 0 < k → k < 32 → Calls Tryd.prog 64 #[.int .u32 (N x), .int .i64 k] (wr.drewN (nq + n)) fun e w'' => e = .returned (.int .u32 (N (rot x k.toNat))) ∧ ∃ m, w'' = wr.drewN (nq + m) := fun n x k h0 h1 => right_q _ x k h0 h1 (fun w'' e => ⟨n, e⟩)
          repeat (go_big_quiet_step (exact R2 _ _ _ (by decide) (by decide)))
          refine wpQuiet_nil ?_
          intro _ hw'
          obtain ⟨nq2, hw''⟩ := hw'
          subst hw''
          simp only [List.drop_succ_cons, List.drop_zero]
          go_wp2_with fail
          go_roundw
          case rel =>
            have hb := unhide HB
            have hn := unhide HT
            have ev : (N x16 + bits BinOp.xor IntKind.u32 (N (rot x15 7 ^^^ rot x15 18)) (N x15 / 8) + N x7 + bits BinOp.xor IntKind.u32 (N (rot x2 17 ^^^ rot x2 19)) (N x2 / 1024)) % 4294967296 = N (nxt (sch l n)) := by
              rw [unhide HN, shr_3, shr_10, xor32, xor32, add4]
            rw [ev]
            refine ⟨n + 1, t + 1, by omega, by omega, by go_num, ?_, ((unhide HZZ).kept (frD wr (nq + nq2) (fun _ => False)) id).setCell _ _ _, ((unhide HF2).drewN (nq + nq2)).setCell (fun h => absurd h (by simp; omega)) _⟩
            have h1 := ((unhide HW).kept (Fr.drewN (Fr.refl (fun _ => False) wr) (nq + nq2)) id).set t (nxt (sch l n))
            have hl := unhide HL
            have e2 : (sch l n ++ List.replicate (48 - n) 0).set t (nxt (sch l n)) = sch l (n + 1) ++ List.replicate (48 - (n + 1)) 0 := by
              have := set_mid (sch l n) (48 - (n + 1)) (nxt (sch l n))
              rw [show 48 - (n + 1) + 1 = 48 - n by omega, hl, ← hn] at this
              exact this
            rw [e2] at h1
            rw [← hb] at h1 ⊢
            exact h1
          case measure => simp [intOf]; omega
        · have : n = 48 := by omega
          subst this
          have hw2 : WAt wr (w.heap.size + 1) 98 (sch l 48) := by simpa using hw
          have hl : (wvs (sch l 48)).length = 64 := by rw [wvs_length]; exact sch_length l 48
          have hrng := hw2.range
          have hth := hzz.there
          have hi : (Tryd.prog.info? 98).map (·.size) = some (wvs (sch l 48)).length := by rw [hl]; exact Tryd.s98
          have hone := wvs_one (sch l 48)
          have fin : Fr (fun _ => False) w (wr.setCells w.heap.size 0 (wvs (sch l 48))) := hf.trans (setCells_frame w.heap.size _ 0 wr) (fun i hi e => by omega)
          have hres : WAt (wr.setCells w.heap.size 0 (wvs (sch l 48))) w.heap.size 98 (sch l 48) := hzz.put _ (by rw [sch_length])
          have hsz : (wvs (sch l 48)).toArray.size = 64 := by simpa using hl
          have hth2 : wr.there w.heap.size 0 (wvs (sch l 48)).toArray.size := by rw [hsz]; exact hth
          have hi2 : (Tryd.prog.info? 98).map (·.size) = some (wvs (sch l 48)).toArray.size := by rw [hsz]; exact Tryd.s98
          clear hw hth hzz hl hw2 hsz
          go_wp2_with (first | refine wpList_load_mid rfl 98 _ rfl (w.heap.size + 1) 0 rfl (wvs (sch l 48)) _ hrng Tryd.u98 rfl hi ?_ | refine wpList_store_mid rfl 98 _ _ rfl w.heap.size 0 (wvs (sch l 48)).toArray rfl rfl hth2 hi2 hone ?_)
          refine bodyPost_ret (ret_agg rfl _ _ w.heap.size 0 _ _ rfl hres.range Tryd.u98 rfl hi) rfl ?_
          exact ⟨rfl, fin⟩
end Go.Proofs.YtlicmlioilkfdaaDoor
