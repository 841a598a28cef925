/-
  The document's Bitmap, Runs and Pairs.
-/
import Derived.Test.YtbpajilglfabbaaF2
import Derived.DeepKeys
namespace Go.Proofs.Ytbpajilglfabbaa
open Go.RowKit
set_option linter.unusedVariables false

attribute [local go_sem ↓] Go.wp_at_zero Go.wp_at_succ

theorem Try.cells3 : Try.prog.cellsOf 3 = 1 := by kernel_rfl
theorem Try.und50 : Try.prog.underlying 50 = some (.array 2 3) := by kernel_rfl
theorem eq50 (n m : Int) (k : Nat) (w : World) : (Op.equalIn (k + 3) 50 (.agg #[.int .i64 n, .int .i64 m]) (.agg #[.int .i64 n, .int .i64 m])).run Try.prog w = .ok true w := by
  obtain ⟨i, hi, -⟩ := info_parts Try.info3
  rw [run_equalIn_array w (k + 2) _ _ Try.und50 hi, Try.cells3]
  simp [Op.eqItems, part, isAgg, run_underlying Try.underlying3, run_equalIn_int w (k + 1) 3 .i64 .i64 _ _ Try.underlying3, List.range_succ]

section
variable {ρ : Operand → Value} {o : Oper} {w : World}
theorem x_idx48 {x y : Operand} {b n c i : Nat} (ho : o.op = .indexAddr 48 x y) (hx : ρ x = .slice (some ⟨b, 0, none⟩) n c) (hy : ρ y = .int .i64 (i : Int)) (hi : i < n) : (execOp ρ o).run Try.prog w = .ok (.value (.pointer (some ⟨b, i * 2, none⟩))) w := by
  have h1 : ¬ (i : Int) < 0 := by omega
  have h2 : ¬ n ≤ i := by omega
  simp [execOp, ho, hx, hy, go_sem]
  intro h
  omega
theorem x_load50 {x : Operand} {b of : Nat} {u v : Value} (ho : o.op = .load 50 x) (hx : ρ x = .pointer (some ⟨b, of, none⟩)) (h0 : w.cell? ⟨b, of, none⟩ = some u) (h1 : w.cell? ⟨b, of + 1, none⟩ = some v) : (execOp ρ o).run Try.prog w = .ok (.value (.agg #[u, v])) w := by
  simp [execOp, ho, hx, go_sem, h0, h1]
theorem x_ne50 {x y : Operand} {n m : Int} (ho : o.op = .binOp .neq 50 x y 50) (hx : ρ x = .agg #[.int .i64 n, .int .i64 m]) (hy : ρ y = .agg #[.int .i64 n, .int .i64 m]) : (execOp ρ o).run Try.prog w = .ok (.value (.bool false)) w := by
  have h := eq50 n m 9997 w
  simp [execOp, ho, hx, hy, go_sem, h]
end

section
variable (w : World) (p : Nat) (Y : Lr) (M : Rc)

set_option maxRecDepth 100000 in
set_option maxHeartbeats 2000000 in
theorem rbitmap_any (H : RA w p Y M) : Calls Try.prog 54 #[ptr p] w fun e w' => (∃ q N, e = .returned (.slice (some ⟨q, 0, none⟩) N N) ∧ N = (bm M.s).length ∧ BAt w' q (bm M.s) ∧ w.heap.size ≤ q) ∧ Fr (fun _ => False) w w' := by
  have hn1 := H.n1
  have hn2 := H.n2
  have c0 := H.c0
  obtain ⟨w1, hm, hB1, f1⟩ := mk_any w ((M.s.length + 7) / 8) (by omega)
  have B1 := hide hB1
  have F1 := hide f1
  have HLN : Hid ((bm M.s).length = (M.s.length + 7) / 8) := hide (bm_length M.s)
  have HS : Hid (∀ k, (bmK M.s k).length = (M.s.length + 7) / 8) := hide (bmK_length M.s)
  obtain ⟨n, hn⟩ : ∃ n, n = M.s.length := ⟨_, rfl⟩
  have HN := hide hn
  rw [← hn] at hm hn1 hn2 HLN HS c0
  obtain ⟨N, hNN⟩ : ∃ N, N = (n + 7) / 8 := ⟨_, rfl⟩
  have HNN := hide hNN
  rw [← hNN] at hm HLN HS
  have hNle : N ≤ 65536 := by omega
  obtain ⟨q, hq⟩ : ∃ q, q = w.heap.size := ⟨_, rfl⟩
  rw [← hq] at hm B1
  have HQ := hide hq
  have hdiv : ((n : Int) + 7) / 8 = (N : Int) := by omega
  have c00 : Hid (∀ W, Fr (fun k => k = q) w1 W → W.cell? ⟨p, 0, none⟩ = some (.slice (some ⟨Y.q, 0, none⟩) n n)) := hide (fun W f => by
    rw [hn]
    exact ((H.kept f1 (fun _ _ h => h)).kept f (fun k hk e => by have := H.lt k hk; omega)).c0)
  have cst : Hid (∀ W, Fr (fun k => k = q) w1 W → ∀ i v, M.s[i]? = some v → W.cell? ⟨Y.q, i, none⟩ = some (.int .i64 ((v.toNat : Nat) : Int))) := hide (fun W f i v hi => ((H.kept f1 (fun _ _ h => h)).kept f (fun k hk e => by have := H.lt k hk; omega)).state hi)
  clear H hB1 f1 hn hNN hq
  unfold ptr at *
  go_enter Try.func54, Try.ntmps54
  go_wp2_with fail
  go_loopw [4] (fun x W => ∃ i : Nat, i ≤ n ∧ x = .int .i64 (i : Int) ∧ BAt W q (bmK M.s i) ∧ Fr (fun k => k = q) w1 W) (fun x _ => n - (intOf x).toNat)
  case atStart =>
    refine ⟨0, by omega, rfl, ?_, Fr.refl _ _⟩
    have := unhide B1
    unfold bmK
    exact this
  case round =>
    obtain ⟨i, hi, rfl, hB, hF⟩ := hrel
    have HBi := hide hB
    have HF := hide hF
    have c0' := unhide c00 wr hF
    by_cases hlt : i < n
    · have i1 : i < M.s.length := by have := unhide HN; omega
      obtain ⟨v, hv⟩ := get_ex i1
      have cs := unhide cst wr hF i v hv
      have hu := isU_nat hv
      have hlen8 := unhide HS i
      have hi8 : i / 8 < (bmK M.s i).length := by rw [hlen8]; have := unhide HNN; omega
      have i8 : i / 8 < N := by omega
      have hc := hB.cell (i / 8) hi8
      have hzf := hB.frozen (i / 8)
      have ho := bit_or (bmK M.s i)[i / 8] (i % 8) (by omega)
      have HBN : Hid (BAt (wr.setCell ⟨q, i / 8, none⟩ (.int .u8 (((or8 (bmK M.s i)[i / 8] (i % 8)).toNat : Nat) : Int))) q (sb (bmK M.s i) i)) := hide (by
        have := hB.set (i / 8) (or8 (bmK M.s i)[i / 8] (i % 8))
        have e : sb (bmK M.s i) i = (bmK M.s i).set (i / 8) (or8 (bmK M.s i)[i / 8] (i % 8)) := by unfold sb; simp [List.getD, hi8]
        rw [e]; exact this)
      have hx := ((bmK M.s i)[i / 8]).toNat_lt
      generalize (or8 (bmK M.s i)[i / 8] (i % 8)).toNat = yb at *
      generalize ((bmK M.s i)[i / 8]).toNat = xb at *
      generalize v.toNat = vn at *
      have HFN : Hid (Fr (fun k => k = q) w1 (wr.setCell ⟨q, i / 8, none⟩ (.int .u8 (yb : Int)))) := hide (hF.setCell (p := ⟨q, i / 8, none⟩) (fun _ => rfl) _)
      clear hv hB hF i1 hlen8 hi8
      by_cases e1 : vn = 1
      · subst e1
        have HU : Hid (isU M.s i = true) := hide (by rw [hu]; rfl)
        clear hu
        go_wp2_with fail
        go_roundw
        case rel => exact ⟨i + 1, by omega, by go_num, by unfold bmK; rw [if_pos (unhide HU)]; exact unhide HBN, unhide HFN⟩
        case measure => simp [intOf]; omega
      · by_cases e3 : vn = 3
        · subst e3
          have HU : Hid (isU M.s i = true) := hide (by rw [hu]; rfl)
          clear hu e1
          go_wp2_with fail
          go_roundw
          case rel => exact ⟨i + 1, by omega, by go_num, by unfold bmK; rw [if_pos (unhide HU)]; exact unhide HBN, unhide HFN⟩
          case measure => simp [intOf]; omega
        · have b1 : ((vn : Int) == 1) = false := by simp; omega
          have b3 : ((vn : Int) == 3) = false := by simp; omega
          have HU : Hid (isU M.s i = false) := hide (by rw [hu, b1, b3]; rfl)
          clear hu e1 e3
          go_wp2_with fail
          go_roundw
          case rel => exact ⟨i + 1, by omega, by go_num, by unfold bmK; rw [unhide HU]; exact unhide HBi, unhide HF⟩
          case measure => simp [intOf]; omega
    · have hie : i = n := by omega
      subst hie
      clear hB hF
      go_wp2_with fail
      go_ret
      have hB := unhide HBi
      rw [unhide HN] at hB
      exact ⟨⟨q, N, rfl, (unhide HLN).symm, hB, Nat.le_of_eq (unhide HQ).symm⟩, (unhide F1).trans (unhide HF) (fun k hk e => by have := unhide HQ; omega)⟩

set_option maxRecDepth 100000 in
set_option maxHeartbeats 2000000 in
theorem rruns_any (H : RA w p Y M) : Calls Try.prog 56 #[ptr p] w fun e w' => (∃ x, e = .returned x ∧ Nq w w' x (rn M.s)) ∧ Fr (fun _ => False) w w' := by
  obtain ⟨inf, hi0, hz0, hz1, hz2⟩ := info_parts Try.info50
  have hn2 := H.n2
  obtain ⟨n, hn⟩ : ∃ n, n = M.s.length := ⟨_, rfl⟩
  rw [← hn] at hn2
  have HN := hide hn
  have HC0 : Hid (∀ W, Fr (fun _ => False) w W → W.cell? ⟨p, 0, none⟩ = some (.slice (some ⟨Y.q, 0, none⟩) n n)) := hide (fun W f => by rw [hn]; exact (H.kept f (fun _ _ h => h)).c0)
  have HCS : Hid (∀ W, Fr (fun _ => False) w W → ∀ i v, M.s[i]? = some v → W.cell? ⟨Y.q, i, none⟩ = some (.int .i64 ((v.toNat : Nat) : Int))) := hide (fun W f i v hv => (H.kept f (fun _ _ h => h)).state hv)
  clear H hn
  unfold ptr at *
  go_enter Try.func56, Try.ntmps56
  go_wp2_with fail
  go_loopw [4, 3] (fun x y W => ∃ i ao N cc, i ≤ n + 1 ∧ x = .int .i64 ((i : Nat) : Int) ∧ y = .slice ao N cc ∧ (rnK M.s i).2 = false ∧ N = (rnK M.s i).1.length ∧ W.ownsRow 0 50 2 (.slice ao N cc) N (prs (rnK M.s i).1) ∧ (∀ b, (Value.slice ao N cc).ownBlock = some b → w.heap.size ≤ b) ∧ Fr (fun _ => False) w W) (fun x _ _ => n + 1 - (intOf x).toNat)
  case atStart => exact ⟨0, none, 0, 0, by omega, rfl, rfl, rfl, rfl, owns_nilQ _, fun b hb => by simp [Value.ownBlock] at hb, Fr.refl _ _⟩
  case round =>
    obtain ⟨i, ao, N, cc, hi, rfl, rfl, hg, hN, hO, hnew, hf⟩ := hrel
    have HO := hide hO
    have HNW := hide hnew
    have HF := hide hf
    have HNN := hide hN
    have HG := hide hg
    have hNle : N ≤ 65537 := by rw [hN]; have := rnK_len M.s i; omega
    have c0 := unhide HC0 wr hf
    by_cases hlt : i < n
    · obtain ⟨z, hz⟩ := get_ex (show i < M.s.length by have := unhide HN; omega)
      have cs := unhide HCS wr hf i z hz
      by_cases hz0 : z = 0
      · subst hz0
        have HZ := hide hz
        have HCW : Hid (∀ j x, M.s[j]? = some x → wr.cell? ⟨Y.q, j, none⟩ = some (.int .i64 ((x.toNat : Nat) : Int))) := hide (fun j x hx => unhide HCS wr hf j x hx)
        clear hz hg hO hnew hf hN
        go_wp2_with fail
        obtain ⟨w1, hw1⟩ : ∃ w1, w1 = wr := ⟨_, rfl⟩
        have HW1 := hide hw1
        clear hw1
        go_loopw [5] (fun x W => ∃ m : Nat, i + m ≤ n ∧ x = .int .i64 (m : Int) ∧ (m = 0 ∨ rnK M.s (i + m) = ((rnK M.s i).1 ++ [(i, m)], true)) ∧ W = w1) (fun x _ => n - (intOf x).toNat)
        case atStart => exact ⟨0, by omega, rfl, .inl rfl, (unhide HW1).symm⟩
        case round =>
          obtain ⟨m, hm, rfl, hr, hwr⟩ := hrel
          have c0' : wr.cell? ⟨p, 0, none⟩ = some (.slice (some ⟨Y.q, 0, none⟩) n n) := by rw [hwr, unhide HW1]; exact c0
          have HR := hide hr
          have HWR := hide (hwr.trans (unhide HW1))
          have HWR1 := hide hwr
          clear hwr
          by_cases hin : i + m < n
          · obtain ⟨y, hy⟩ := get_ex (show i + m < M.s.length by have := unhide HN; omega)
            have cy : wr.cell? ⟨Y.q, i + m, none⟩ = some (.int .i64 ((y.toNat : Nat) : Int)) := by rw [unhide HWR]; exact unhide HCW _ _ hy
            have blt : decide (i + m < n) = true := by simpa using hin
            by_cases hy0 : y = 0
            · subst hy0
              have HNX : Hid (rnK M.s (i + (m + 1)) = ((rnK M.s i).1 ++ [(i, m + 1)], true)) := hide (by
                rw [← Nat.add_assoc]
                rcases hr with h0 | hr
                · subst h0
                  rw [Nat.add_zero, rnK_new (unhide HZ) (unhide HG)]
                · have := rnK_more hy (by rw [hr])
                  rw [this, hr]
                  show (bump _, true) = _
                  rw [bump_app])
              clear hr hy
              go_wp2_with fail
              go_roundw
              case rel => exact ⟨m + 1, by omega, by go_num, .inr (unhide HNX), unhide HWR1⟩
              case measure => simp [intOf]; omega
            · have b0 : (((y.toNat : Nat) : Int) == 0) = false := by
                simp only [beq_eq_false_iff_ne, ne_eq]
                exact fun e => hy0 (toNat_zero.1 (by omega))
              have hm0 : m ≠ 0 := fun e => by subst e; rw [Nat.add_zero, unhide HZ] at hy; simp at hy; exact hy0 hy.symm
              have HRM : Hid (rnK M.s (i + m) = ((rnK M.s i).1 ++ [(i, m)], true)) := hide (hr.resolve_left hm0)
              have HRN : Hid (rnK M.s (i + m + 1) = ((rnK M.s i).1 ++ [(i, m)], false)) := hide (by rw [rnK_not (by rw [hy]; simpa using hy0), unhide HRM])
              have HOw : Hid (wr.ownsRow 0 50 2 (.slice ao N cc) N (prs (rnK M.s i).1)) := hide (by rw [unhide HWR]; exact unhide HO)
              have HFw : Hid (Fr (fun _ => False) w wr) := hide (by rw [unhide HWR]; exact unhide HF)
              generalize y.toNat = yn at *
              clear hr hy hy0
              go_wp2_with (at_builtin; refine wpList_app rfl (.tmp 46) (.tmp 50) 48 rfl 50 inf _ 2 16 Try.underlying48 hi0 hz0 hz1 hz2 rfl (by decide) (.slice ao N cc) N (prs (rnK M.s i).1) rfl (.slice (some ⟨wr.heap.size, 0, none⟩) 1 1) rfl 1 [.int .i64 (i : Int), .int .i64 (m : Int)] ((unhide HOw).alloc _) (two_cells wr _ _) (fun u hu => by simp at hu; rcases hu with rfl | rfl <;> rfl) (by omega) (by simp only [maxLen]; omega) ?_)
              intro ao4 ac4 w4 o4 g4 p4
              have f4 : Fr (fun k => (Value.slice ao N cc).ownBlock = some k) wr w4 := ((Fr.refl _ _).alloc (.cells #[.int .i64 (i : Int), .int .i64 (m : Int)] 50)).grown g4 (fun k _ e => e)
              have HF4 := hide ((unhide HFw).trans f4 (fun k hk e => by have := unhide HNW k e; omega))
              have HN4 : Hid (∀ k, (Value.slice ao4 (N + 1) ac4).ownBlock = some k → w.heap.size ≤ k) := hide (fun b hb => by
                rcases p4 with e | ⟨k', e, hk'⟩
                · rw [e] at hb; exact unhide HNW b hb
                · rw [e] at hb; simp at hb; have := (unhide HFw).size; omega)
              have HO4 : Hid (w4.ownsRow 0 50 2 (.slice ao4 (N + 1) ac4) (N + 1) (prs (rnK M.s (i + m + 1)).1)) := hide (by rw [unhide HRN, prs_app]; exact o4)
              clear o4 g4 p4 f4
              go_wp2_with fail
              go_roundw
              case rel => exact ⟨i + m + 1, ao4, N + 1, ac4, by omega, by go_num, rfl, by rw [unhide HRN], by rw [unhide HRN]; simp [unhide HNN], unhide HO4, unhide HN4, unhide HF4⟩
              case measure => simp [intOf]; omega
          · have hme : i + m = n := by omega
            have hm0 : m ≠ 0 := by omega
            have blt : decide (i + m < n) = false := by simp; omega
            have HRM : Hid (rnK M.s (i + m) = ((rnK M.s i).1 ++ [(i, m)], true)) := hide (hr.resolve_left hm0)
            have HRN : Hid (rnK M.s (i + m + 1) = ((rnK M.s i).1 ++ [(i, m)], false)) := hide (by rw [rnK_not (by rw [List.getElem?_eq_none (by have := unhide HN; omega)]; simp), unhide HRM])
            have HOw : Hid (wr.ownsRow 0 50 2 (.slice ao N cc) N (prs (rnK M.s i).1)) := hide (by rw [unhide HWR]; exact unhide HO)
            have HFw : Hid (Fr (fun _ => False) w wr) := hide (by rw [unhide HWR]; exact unhide HF)
            have HME := hide hme
            have hmn : i + m ≤ n := hm
            clear hr hme
            go_wp2_with (at_builtin; refine wpList_app rfl (.tmp 46) (.tmp 50) 48 rfl 50 inf _ 2 16 Try.underlying48 hi0 hz0 hz1 hz2 rfl (by decide) (.slice ao N cc) N (prs (rnK M.s i).1) rfl (.slice (some ⟨wr.heap.size, 0, none⟩) 1 1) rfl 1 [.int .i64 (i : Int), .int .i64 (m : Int)] ((unhide HOw).alloc _) (two_cells wr _ _) (fun u hu => by simp at hu; rcases hu with rfl | rfl <;> rfl) (by omega) (by simp only [maxLen]; omega) ?_)
            intro ao4 ac4 w4 o4 g4 p4
            have f4 : Fr (fun k => (Value.slice ao N cc).ownBlock = some k) wr w4 := ((Fr.refl _ _).alloc (.cells #[.int .i64 (i : Int), .int .i64 (m : Int)] 50)).grown g4 (fun k _ e => e)
            have HF4 := hide ((unhide HFw).trans f4 (fun k hk e => by have := unhide HNW k e; omega))
            have HN4 : Hid (∀ k, (Value.slice ao4 (N + 1) ac4).ownBlock = some k → w.heap.size ≤ k) := hide (fun b hb => by
              rcases p4 with e | ⟨k', e, hk'⟩
              · rw [e] at hb; exact unhide HNW b hb
              · rw [e] at hb; simp at hb; have := (unhide HFw).size; omega)
            have HO4 : Hid (w4.ownsRow 0 50 2 (.slice ao4 (N + 1) ac4) (N + 1) (prs (rnK M.s (i + m + 1)).1)) := hide (by rw [unhide HRN, prs_app]; exact o4)
            clear o4 g4 p4 f4
            go_wp2_with fail
            go_roundw
            case rel => exact ⟨i + m + 1, ao4, N + 1, ac4, by omega, by go_num, rfl, by rw [unhide HRN], by rw [unhide HRN]; simp [unhide HNN], unhide HO4, unhide HN4, unhide HF4⟩
            case measure => simp [intOf]; omega
      · have HR := hide (rnK_not (s := M.s) (k := i) (by rw [hz]; simpa using hz0))
        have b0 : (((z.toNat : Nat) : Int) != 0) = true := by
          simp only [bne_iff_ne, ne_eq]
          exact fun e => hz0 (toNat_zero.1 (by omega))
        generalize z.toNat = zn at *
        clear hz hz0 hg hO hnew hf hN
        go_wp2_with fail
        go_roundw
        case rel => exact ⟨i + 1, ao, N, cc, by omega, by go_num, rfl, by rw [unhide HR], by rw [unhide HR]; exact unhide HNN, by rw [unhide HR]; exact unhide HO, unhide HNW, unhide HF⟩
        case measure => simp [intOf]; omega
    · have e : (rnK M.s i).1 = rn M.s := by
        unfold rn
        rw [← unhide HN]
        by_cases hie : i = n
        · rw [hie]
        · have hi1 : i = n + 1 := by omega
          rw [hi1, rnK_not (by rw [List.getElem?_eq_none (by have := unhide HN; omega)]; simp)]
      rw [e] at HO HNN
      have blt : decide (i < n) = false := by simp; omega
      clear hO hnew hf hN e hg
      go_wp2_with fail
      go_ret
      exact ⟨⟨_, rfl, ao, N, cc, rfl, unhide HNN, unhide HO, unhide HNW⟩, unhide HF⟩

set_option maxRecDepth 100000 in
set_option maxHeartbeats 2000000 in
theorem pairs_any (w0 : World) (v u : Value) (l : List (Nat × Nat)) (h1 : Nq w0 w v l) (h2 : Nq w0 w u l) (hl : l.length ≤ 65536) : Calls Try.prog 55 #[v, u] w fun e w' => e = .returned (.bool true) ∧ Fr (fun _ => False) w w' := by
  obtain ⟨ao, ac, rfl⟩ := h1.shape
  obtain ⟨bo, bc, rfl⟩ := h2.shape
  have H1 := hide h1
  have H2 := hide h2
  obtain ⟨n, hn⟩ : ∃ n, n = l.length := ⟨_, rfl⟩
  rw [← hn] at H1 H2 hl ⊢
  have HN := hide hn
  clear h1 h2 hn
  go_enter Try.func55, Try.ntmps55
  go_wp2_with fail
  go_loopw [5] (fun x W => ∃ i : Nat, i ≤ n ∧ x = .int .i64 (i : Int) ∧ Fr (fun _ => False) w W) (fun x _ => n - (intOf x).toNat)
  case atStart => exact ⟨0, by omega, rfl, Fr.refl _ _⟩
  case round =>
    obtain ⟨i, hi, rfl, fd⟩ := hrel
    have HFK := hide fd
    by_cases hlt : i < n
    · have i1 : i < l.length := by have := unhide HN; omega
      obtain ⟨g1, d1, e1, q1, k1⟩ := ((unhide H1).kept fd (fun _ _ h => h)).cells (by omega)
      obtain ⟨g2, d2, e2, q2, k2⟩ := ((unhide H2).kept fd (fun _ _ h => h)).cells (by omega)
      simp only [Value.slice.injEq] at e1 e2
      obtain ⟨rfl, -, rfl⟩ := e1
      obtain ⟨rfl, -, rfl⟩ := e2
      obtain ⟨x0, x1⟩ := k1 i i1
      obtain ⟨y0, y1⟩ := k2 i i1
      generalize l[i].1 = la at *
      generalize l[i].2 = lb at *
      clear k1 k2 fd i1
      go_wp2_with fail
      refine wp_nameK ?_
      intro a0 hA
      have h0 : a0.tmps.getD 0 undef = .slice (some ⟨g1, 0, none⟩) n ac := by rw [hA]; rfl
      have h1 : a0.tmps.getD 1 undef = .slice (some ⟨g2, 0, none⟩) n bc := by rw [hA]; rfl
      have h2 : a0.tmps.getD 2 undef = undef := by rw [hA]; rfl
      have h3 : a0.tmps.getD 3 undef = undef := by rw [hA]; rfl
      have h5 : a0.tmps.getD 5 undef = .int .i64 (i : Int) := by rw [hA]; rfl
      have h6 : a0.tmps.getD 6 undef = .slice (some ⟨g1, 0, none⟩) n ac := by rw [hA]; rfl
      have h7 : a0.tmps.getD 7 undef = .int .i64 (n : Int) := by rw [hA]; rfl
      have h8 : a0.tmps.getD 8 undef = .slice (some ⟨g2, 0, none⟩) n bc := by rw [hA]; rfl
      have h9 : a0.tmps.getD 9 undef = .int .i64 (n : Int) := by rw [hA]; rfl
      have h10 : a0.tmps.getD 10 undef = .bool false := by rw [hA]; rfl
      have hsz : a0.tmps.size = 26 := by rw [hA]; rfl
      have hdf : a0.defers = [] := by rw [hA]
      have HA0 := hide hA
      clear hA
      refine wp_region_kinds (fun _ => False) (by kernel_rfl) (by kernel_rfl) (by decide +kernel) (by rw [hsz]; decide +kernel) [.eq (.slice (some ⟨g1, 0, none⟩) n ac), .eq (.int .i64 (i : Int)), .eq (.pointer (some ⟨g1, i * 2, none⟩)), .eq (.agg #[.int .i64 (la : Int), .int .i64 (lb : Int)]), .eq (.slice (some ⟨g2, 0, none⟩) n bc), .eq (.int .i64 (i : Int)), .eq (.pointer (some ⟨g2, i * 2, none⟩)), .eq (.agg #[.int .i64 (la : Int), .int .i64 (lb : Int)]), .eq (.bool false)] [] (by decide) (by decide) (nopaths) (fun _ W => Fr (fun _ => False) wr W) (Fr.refl _ _).drew ?steps ?done
      case steps =>
        refine ⟨?_, ?_⟩
        · intro a' w' k' hb hf hs hc hq hg hd
          exact ⟨wantedN rfl, k_val (.slice (some ⟨g1, 0, none⟩) n ac) (by decide) hs (x_move rfl ((hb.old 0 (by decide +kernel)).trans h0)) rfl⟩
        refine ⟨?_, ?_⟩
        · intro a' w' k' hb hf hs hc hq hg hd
          exact ⟨wantedN rfl, k_val (.int .i64 (i : Int)) (by decide) hs (x_move rfl ((hb.old 5 (by decide +kernel)).trans h5)) rfl⟩
        refine ⟨?_, ?_⟩
        · intro a' w' k' hb hf hs hc hq hg hd
          exact ⟨wantedN rfl, k_val (.pointer (some ⟨g1, i * 2, none⟩)) (by decide) hs (x_idx48 (n := n) (c := ac) rfl (hd 0 (by kernel_rfl) 17 rfl) (hd 1 (by kernel_rfl) 18 rfl) hlt) rfl⟩
        refine ⟨?_, ?_⟩
        · intro a' w' k' hb hf hs hc hq hg hd
          have k0 := (hs.cell (World.block_lt_of_cell? _ _ x0) id).trans x0; have k1 := (hs.cell (World.block_lt_of_cell? _ _ x1) id).trans x1; exact ⟨wantedN rfl, k_val (.agg #[.int .i64 (la : Int), .int .i64 (lb : Int)]) (by decide) hs (x_load50 rfl (hd 2 (by kernel_rfl) 19 rfl) k0 k1) rfl⟩
        refine ⟨?_, ?_⟩
        · intro a' w' k' hb hf hs hc hq hg hd
          exact ⟨wantedN rfl, k_val (.slice (some ⟨g2, 0, none⟩) n bc) (by decide) hs (x_move rfl ((hb.old 1 (by decide +kernel)).trans h1)) rfl⟩
        refine ⟨?_, ?_⟩
        · intro a' w' k' hb hf hs hc hq hg hd
          exact ⟨wantedN rfl, k_val (.int .i64 (i : Int)) (by decide) hs (x_move rfl ((hb.old 5 (by decide +kernel)).trans h5)) rfl⟩
        refine ⟨?_, ?_⟩
        · intro a' w' k' hb hf hs hc hq hg hd
          exact ⟨wantedN rfl, k_val (.pointer (some ⟨g2, i * 2, none⟩)) (by decide) hs (x_idx48 (n := n) (c := bc) rfl (hd 4 (by kernel_rfl) 21 rfl) (hd 5 (by kernel_rfl) 22 rfl) hlt) rfl⟩
        refine ⟨?_, ?_⟩
        · intro a' w' k' hb hf hs hc hq hg hd
          have k0 := (hs.cell (World.block_lt_of_cell? _ _ y0) id).trans y0; have k1 := (hs.cell (World.block_lt_of_cell? _ _ y1) id).trans y1; exact ⟨wantedN rfl, k_val (.agg #[.int .i64 (la : Int), .int .i64 (lb : Int)]) (by decide) hs (x_load50 rfl (hd 6 (by kernel_rfl) 23 rfl) k0 k1) rfl⟩
        refine ⟨?_, ?_⟩
        · intro a' w' k' hb hf hs hc hq hg hd
          exact ⟨wantedN rfl, k_val (.bool false) (by decide) hs (x_ne50 rfl (hd 3 (by kernel_rfl) 20 rfl) (hd 7 (by kernel_rfl) 24 rfl)) rfl⟩
        exact trivial
      case done =>
        intro a' w' hb hf hs hall
        have hdf' : a'.defers = [] := by rw [hb.defers]; exact hdf
        have hfr := frame_eq (a := a') (vs := [.slice (some ⟨g1, 0, none⟩) n ac, .slice (some ⟨g2, 0, none⟩) n bc, undef, undef, a0.tmps.getD 4 undef, .int .i64 (i : Int), .slice (some ⟨g1, 0, none⟩) n ac, .int .i64 (n : Int), .slice (some ⟨g2, 0, none⟩) n bc, .int .i64 (n : Int), .bool false, a0.tmps.getD 11 undef, a0.tmps.getD 12 undef, a0.tmps.getD 13 undef, a0.tmps.getD 14 undef, a0.tmps.getD 15 undef, a0.tmps.getD 16 undef, .slice (some ⟨g1, 0, none⟩) n ac, .int .i64 (i : Int), .pointer (some ⟨g1, i * 2, none⟩), .agg #[.int .i64 (la : Int), .int .i64 (lb : Int)], .slice (some ⟨g2, 0, none⟩) n bc, .int .i64 (i : Int), .pointer (some ⟨g2, i * 2, none⟩), .agg #[.int .i64 (la : Int), .int .i64 (lb : Int)], .bool false]) (by rw [hb.size, hsz]; rfl) hdf' ⟨((hb.old 0 (by decide +kernel)).trans h0), ((hb.old 1 (by decide +kernel)).trans h1), ((hb.old 2 (by decide +kernel)).trans h2), ((hb.old 3 (by decide +kernel)).trans h3), (hb.old 4 (by decide +kernel)), ((hb.old 5 (by decide +kernel)).trans h5), ((hb.old 6 (by decide +kernel)).trans h6), ((hb.old 7 (by decide +kernel)).trans h7), ((hb.old 8 (by decide +kernel)).trans h8), ((hb.old 9 (by decide +kernel)).trans h9), ((hb.old 10 (by decide +kernel)).trans h10), (hb.old 11 (by decide +kernel)), (hb.old 12 (by decide +kernel)), (hb.old 13 (by decide +kernel)), (hb.old 14 (by decide +kernel)), (hb.old 15 (by decide +kernel)), (hb.old 16 (by decide +kernel)), (show a'.tmps.getD 17 undef = .slice (some ⟨g1, 0, none⟩) n ac from hall 0 (by decide) 17 rfl), (show a'.tmps.getD 18 undef = .int .i64 (i : Int) from hall 1 (by decide) 18 rfl), (show a'.tmps.getD 19 undef = .pointer (some ⟨g1, i * 2, none⟩) from hall 2 (by decide) 19 rfl), (show a'.tmps.getD 20 undef = .agg #[.int .i64 (la : Int), .int .i64 (lb : Int)] from hall 3 (by decide) 20 rfl), (show a'.tmps.getD 21 undef = .slice (some ⟨g2, 0, none⟩) n bc from hall 4 (by decide) 21 rfl), (show a'.tmps.getD 22 undef = .int .i64 (i : Int) from hall 5 (by decide) 22 rfl), (show a'.tmps.getD 23 undef = .pointer (some ⟨g2, i * 2, none⟩) from hall 6 (by decide) 23 rfl), (show a'.tmps.getD 24 undef = .agg #[.int .i64 (la : Int), .int .i64 (lb : Int)] from hall 7 (by decide) 24 rfl), (show a'.tmps.getD 25 undef = .bool false from hall 8 (by decide) 25 rfl), trivial⟩
        have HFF := hide hf
        clear hall hb hf hs
        subst hfr
        rw [unhide HA0]
        clear HA0 h0 h1 h2 h3 h5 h6 h7 h8 h9 h10 hsz hdf hdf'
        apply_assumption
        go_wp2_with fail
        go_roundw
        case rel => exact ⟨i + 1, by omega, by go_num, (unhide HFK).trans (unhide HFF) (fun _ _ h => h)⟩
        case measure => simp [intOf]; omega
    · have hie : i = n := by omega
      subst hie
      clear fd
      go_wp2_with fail
      go_ret
      exact ⟨rfl, unhide HFK⟩
end
end Go.Proofs.Ytbpajilglfabbaa
