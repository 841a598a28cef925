/-
  Trees: Climb, and the document's.
-/
import Derived.Test.YtlicmlioilkfdaaDoorT8
namespace Go.Proofs.YtlicmlioilkfdaaDoor
open Go.RowKit
set_option linter.unusedVariables false
set_option linter.unusedSimpArgs false

attribute [local go_sem ↓] Go.wp_at_zero Go.wp_at_succ

/-- What Climb answers: the root, and an error. -/
def clR (d : Dg) (i n : Int) (ps : List Dg) : Dg × Int :=
  if 0 ≤ i ∧ i < n ∧ n ≤ 1048576 ∧ (ps.length : Int) = ((stp i.toNat n.toNat : Nat) : Int) then (clm d i.toNat n.toNat ps, 0) else (List.replicate 32 0, 2)

theorem clR_length (d : Dg) (i n : Int) (ps : List Dg) (hd : d.length = 32) : (clR d i n ps).1.length = 32 := by
  unfold clR
  split
  · exact clm_length _ _ _ _ hd
  · rfl

set_option maxHeartbeats 2000000 in
set_option maxRecDepth 100000 in
theorem climbR_any (w : World) (d : Dg) (i n : Int) (v : Value) (ps : List Dg) (hd : d.length = 32) (T : Tb w) (hv : DRd w v ps) : Calls Tryd.prog 36 #[.agg (bvs d).toArray, .int .i64 i, .int .i64 n, v] w fun e w' => e = .returned (.tuple #[.agg (bvs (clR d i n ps).1).toArray, .int .i64 (clR d i n ps).2]) ∧ Fr (fun _ => False) w w' := by
  have hle : ps.length ≤ maxLen := by
    obtain ⟨_, ⟨_, _, _, rfl⟩ | ⟨_, _, cap, _, h1, h2, _⟩⟩ := hv
    · simp
    · omega
  unfold maxLen at hle
  obtain ⟨ao, cap, rfl⟩ := hv.shape
  have PD := Put.of hd
  have hid := PD.hi
  have hrng : ∀ ob, ((w.alloc (.cells (bvs d).toArray 26)).alloc ob).rangeAt w.heap.size 0 (bvs d) := fun ob => bat_range (BlockAt.two w _ ob)
  by_cases hgood : 0 ≤ i ∧ i < n ∧ n ≤ 1048576 ∧ (ps.length : Int) = ((stp i.toNat n.toNat : Nat) : Int)
  · have hcl := clR_length d i n ps hd
    have hce : clR d i n ps = (clm d i.toNat n.toNat ps, 0) := by unfold clR; rw [if_pos hgood]
    obtain ⟨g1, g2, g3, g4⟩ := hgood
    have HG := hide fun (W : World) (f : Fr (fun _ => False) w W) => climbed_any n.toNat W d i.toNat (.slice ao ps.length cap) ps (by omega) (by omega) hd (by omega) (T.kept f id id) (hv.kept f)
    have HST := hide fun (W : World) => steps_any W i.toNat n.toNat (by omega) (by omega)
    rw [hce] at hcl ⊢
    dsimp only at hcl ⊢
    rw [show ((i.toNat : Nat) : Int) = i from by omega, show ((n.toNat : Nat) : Int) = n from by omega, ← g4] at HST
    rw [show ((i.toNat : Nat) : Int) = i from by omega, show ((n.toNat : Nat) : Int) = n from by omega] at HG
    generalize clm d i.toNat n.toNat ps = D at *
    have P := Put.of hcl
    have hi2 := P.hi2
    have hone := P.oneA
    have hi1 := P.hi
    have b0 : decide (i < 0) = false := by simp; omega
    have b1 : decide (n ≤ i) = false := by simp; omega
    have b2 : decide ((1048576 : Int) < n) = false := by simp; omega
    have h0 : ¬ i < 0 := by omega
    have h1 : ¬ n ≤ i := by omega
    have h2 : ¬ (1048576 : Int) < n := by omega
    have HCL := hide hcl
    have hbx : ∀ ob, ((w.alloc (.cells (bvs d).toArray 26)).alloc ob).heap[w.heap.size]? = some (.cells (bvs d).toArray 26 (0, 0)) := fun ob => BlockAt.two w _ ob
    clear hce hcl hv T g4 PD hd
    go_enter Tryd.func36, Tryd.ntmps36
    go_wp2_with (first | (go_at_call 56; refine (unhide HST _).mono ?_; rintro e w7 ⟨rfl, hw7⟩; subst hw7) | refine wpList_load_mid rfl 26 _ rfl w.heap.size 0 rfl (bvs d) _ (hrng _) Tryd.u26 rfl hid ?_)
    refine (unhide HG _ (((Fr.refl _ _).alloc _).alloc _)).mono ?_
    rintro e w8 ⟨rfl, f8⟩
    have Z8 := ZAt.kept ⟨_, BlockAt.one w _ _, rfl⟩ f8 id
    have hth := P.there Z8
    have HR := hide (Z8.putB D (unhide HCL))
    have HF : Hid (Fr (fun _ => False) w (w8.setCells (w.heap.size + 1) 0 (bvs D))) := hide ((((((Fr.refl (fun _ => False) w).alloc _).alloc _).trans f8 (fun _ _ h => h))).trans (setCells_frame _ _ _ _) (fun i hi e => by omega))
    clear f8 Z8
    go_wp2_with (refine wpList_store_mid0 rfl rfl 26 _ _ rfl (w.heap.size + 1) 0 (bvs D).toArray rfl rfl hth hi2 hone ?_)
    refine bodyPost_ret (ret_agg1 rfl _ _ (w.heap.size + 1) 0 _ _ rfl (bat_range (unhide HR)) Tryd.u26 rfl hi1) rfl ?_
    exact ⟨rfl, unhide HF⟩
  · have hce : clR d i n ps = (List.replicate 32 0, 2) := by unfold clR; rw [if_neg hgood]
    rw [hce]
    have hone := bvs_oneA (List.replicate 32 0)
    have hth : ∀ cs : Array Value, cs.size = 32 → ((w.alloc (.cells (bvs d).toArray 26)).alloc (.cells cs 26)).there (w.heap.size + 1) 0 (bvs (List.replicate 32 0)).toArray.size := fun cs hcs => ZAt.there (n := 32) ⟨cs, BlockAt.one w _ _, hcs⟩
    have HR : Hid (∀ cs : Array Value, cs.size = 32 → (((w.alloc (.cells (bvs d).toArray 26)).alloc (.cells cs 26)).setCells (w.heap.size + 1) 0 (bvs (List.replicate 32 0))).heap[w.heap.size + 1]? = some (.cells (bvs (List.replicate 32 0)).toArray 26 (0, 0))) := hide fun cs hcs => ZAt.putB (n := 32) ⟨cs, BlockAt.one w _ _, hcs⟩ _ rfl
    have HF : Hid (∀ cs : Array Value, Fr (fun _ => False) w (((w.alloc (.cells (bvs d).toArray 26)).alloc (.cells cs 26)).setCells (w.heap.size + 1) 0 (bvs (List.replicate 32 0)))) := hide fun cs => (((Fr.refl _ _).alloc _).alloc _).trans (setCells_frame _ _ _ _) (fun i hi e => by omega)
    clear hce hd PD hid hrng T hv
    by_cases h0 : i < 0
    · have b0 : decide (i < 0) = true := by simpa using h0
      clear hgood
      go_enter Tryd.func36, Tryd.ntmps36
      go_wp2_with (refine wpList_store_mid0 rfl rfl 26 _ _ rfl (w.heap.size + 1) 0 (bvs (List.replicate 32 0)).toArray rfl rfl (hth _ rfl) Tryd.s26 hone ?_)
      refine bodyPost_ret (ret_agg1 rfl _ _ (w.heap.size + 1) 0 _ _ rfl (bat_range (unhide HR _ rfl)) Tryd.u26 rfl Tryd.s26) rfl ?_
      exact ⟨rfl, unhide HF _⟩
    · have b0 : decide (i < 0) = false := by simp; omega
      by_cases h1 : n ≤ i
      · have b1 : decide (n ≤ i) = true := by simpa using h1
        clear hgood
        go_enter Tryd.func36, Tryd.ntmps36
        go_wp2_with (refine wpList_store_mid0 rfl rfl 26 _ _ rfl (w.heap.size + 1) 0 (bvs (List.replicate 32 0)).toArray rfl rfl (hth _ rfl) Tryd.s26 hone ?_)
        refine bodyPost_ret (ret_agg1 rfl _ _ (w.heap.size + 1) 0 _ _ rfl (bat_range (unhide HR _ rfl)) Tryd.u26 rfl Tryd.s26) rfl ?_
        exact ⟨rfl, unhide HF _⟩
      · have b1 : decide (n ≤ i) = false := by simp; omega
        by_cases h2 : (1048576 : Int) < n
        · have b2 : decide ((1048576 : Int) < n) = true := by simpa using h2
          clear hgood
          go_enter Tryd.func36, Tryd.ntmps36
          go_wp2_with (refine wpList_store_mid0 rfl rfl 26 _ _ rfl (w.heap.size + 1) 0 (bvs (List.replicate 32 0)).toArray rfl rfl (hth _ rfl) Tryd.s26 hone ?_)
          refine bodyPost_ret (ret_agg1 rfl _ _ (w.heap.size + 1) 0 _ _ rfl (bat_range (unhide HR _ rfl)) Tryd.u26 rfl Tryd.s26) rfl ?_
          exact ⟨rfl, unhide HF _⟩
        · have b2 : decide ((1048576 : Int) < n) = false := by simp; omega
          have hne : ¬ (ps.length : Int) = ((stp i.toNat n.toNat : Nat) : Int) := fun h => hgood ⟨by omega, by omega, by omega, h⟩
          have HST := hide fun (W : World) => steps_any W i.toNat n.toNat (by omega) (by omega)
          rw [show ((i.toNat : Nat) : Int) = i from by omega, show ((n.toNat : Nat) : Int) = n from by omega] at HST
          generalize stp i.toNat n.toNat = k at *
          have b3 : ((ps.length : Int) != (k : Int)) = true := by simpa using hne
          clear hgood hne
          go_enter Tryd.func36, Tryd.ntmps36
          go_wp2_with (first | (go_at_call 56; refine (unhide HST _).mono ?_; rintro e w7 ⟨rfl, hw7⟩; subst hw7) | refine wpList_store_mid0 rfl rfl 26 _ _ rfl (w.heap.size + 1) 0 (bvs (List.replicate 32 0)).toArray rfl rfl (hth _ rfl) Tryd.s26 hone ?_)
          refine bodyPost_ret (ret_agg1 rfl _ _ (w.heap.size + 1) 0 _ _ rfl (bat_range (unhide HR _ rfl)) Tryd.u26 rfl Tryd.s26) rfl ?_
          exact ⟨rfl, unhide HF _⟩

set_option maxHeartbeats 2000000 in
set_option maxRecDepth 100000 in
theorem rclimbR_any (w : World) (d : Dg) (i n : Int) (v : Value) (ps : List Dg) (hd : d.length = 32) (hv : DRd w v ps) : Calls Tryd.prog 37 #[.agg (bvs d).toArray, .int .i64 i, .int .i64 n, v] w fun e w' => e = .returned (.tuple #[.agg (bvs (clR d i n ps).1).toArray, .int .i64 (clR d i n ps).2]) ∧ Fr (fun _ => False) w w' := by
  have hle : ps.length ≤ maxLen := by
    obtain ⟨_, ⟨_, _, _, rfl⟩ | ⟨_, _, cap, _, h1, h2, _⟩⟩ := hv
    · simp
    · omega
  unfold maxLen at hle
  obtain ⟨ao, cap, rfl⟩ := hv.shape
  have PD := Put.of hd
  have hid := PD.hi
  have hrng : ∀ ob, ((w.alloc (.cells (bvs d).toArray 26)).alloc ob).rangeAt w.heap.size 0 (bvs d) := fun ob => bat_range (BlockAt.two w _ ob)
  by_cases hgood : 0 ≤ i ∧ i < n ∧ n ≤ 1048576 ∧ (ps.length : Int) = ((stp i.toNat n.toNat : Nat) : Int)
  · have hcl := clR_length d i n ps hd
    have hce : clR d i n ps = (clm d i.toNat n.toNat ps, 0) := by unfold clR; rw [if_pos hgood]
    obtain ⟨g1, g2, g3, g4⟩ := hgood
    have HG := hide fun (W : World) (f : Fr (fun _ => False) w W) => rclimb_any n.toNat W d i.toNat (.slice ao ps.length cap) ps (by omega) (by omega) hd (by omega) (hv.kept f)
    have HST := hide fun (W : World) => rsteps_any n.toNat W i.toNat (by omega) (by omega)
    rw [hce] at hcl ⊢
    dsimp only at hcl ⊢
    rw [show ((i.toNat : Nat) : Int) = i from by omega, show ((n.toNat : Nat) : Int) = n from by omega, ← g4] at HST
    rw [show ((i.toNat : Nat) : Int) = i from by omega, show ((n.toNat : Nat) : Int) = n from by omega] at HG
    generalize clm d i.toNat n.toNat ps = D at *
    have P := Put.of hcl
    have hi2 := P.hi2
    have hone := P.oneA
    have hi1 := P.hi
    have b0 : decide (i < 0) = false := by simp; omega
    have b1 : decide (n ≤ i) = false := by simp; omega
    have b2 : decide ((1048576 : Int) < n) = false := by simp; omega
    have h0 : ¬ i < 0 := by omega
    have h1 : ¬ n ≤ i := by omega
    have h2 : ¬ (1048576 : Int) < n := by omega
    have HCL := hide hcl
    have hbx : ∀ ob, ((w.alloc (.cells (bvs d).toArray 26)).alloc ob).heap[w.heap.size]? = some (.cells (bvs d).toArray 26 (0, 0)) := fun ob => BlockAt.two w _ ob
    clear hce hcl hv g4 PD hd
    go_enter Tryd.func37, Tryd.ntmps37
    go_wp2_with (first | (go_at_call 58; refine (unhide HST _).mono ?_; rintro e w7 ⟨rfl, hw7⟩; subst hw7) | refine wpList_load_mid rfl 26 _ rfl w.heap.size 0 rfl (bvs d) _ (hrng _) Tryd.u26 rfl hid ?_)
    refine (unhide HG _ (((Fr.refl _ _).alloc _).alloc _)).mono ?_
    rintro e w8 ⟨rfl, f8⟩
    have Z8 := ZAt.kept ⟨_, BlockAt.one w _ _, rfl⟩ f8 id
    have hth := P.there Z8
    have HR := hide (Z8.putB D (unhide HCL))
    have HF : Hid (Fr (fun _ => False) w (w8.setCells (w.heap.size + 1) 0 (bvs D))) := hide ((((((Fr.refl (fun _ => False) w).alloc _).alloc _).trans f8 (fun _ _ h => h))).trans (setCells_frame _ _ _ _) (fun i hi e => by omega))
    clear f8 Z8
    go_wp2_with (refine wpList_store_mid0 rfl rfl 26 _ _ rfl (w.heap.size + 1) 0 (bvs D).toArray rfl rfl hth hi2 hone ?_)
    refine bodyPost_ret (ret_agg1 rfl _ _ (w.heap.size + 1) 0 _ _ rfl (bat_range (unhide HR)) Tryd.u26 rfl hi1) rfl ?_
    exact ⟨rfl, unhide HF⟩
  · have hce : clR d i n ps = (List.replicate 32 0, 2) := by unfold clR; rw [if_neg hgood]
    rw [hce]
    have hone := bvs_oneA (List.replicate 32 0)
    have hth : ∀ cs : Array Value, cs.size = 32 → ((w.alloc (.cells (bvs d).toArray 26)).alloc (.cells cs 26)).there (w.heap.size + 1) 0 (bvs (List.replicate 32 0)).toArray.size := fun cs hcs => ZAt.there (n := 32) ⟨cs, BlockAt.one w _ _, hcs⟩
    have HR : Hid (∀ cs : Array Value, cs.size = 32 → (((w.alloc (.cells (bvs d).toArray 26)).alloc (.cells cs 26)).setCells (w.heap.size + 1) 0 (bvs (List.replicate 32 0))).heap[w.heap.size + 1]? = some (.cells (bvs (List.replicate 32 0)).toArray 26 (0, 0))) := hide fun cs hcs => ZAt.putB (n := 32) ⟨cs, BlockAt.one w _ _, hcs⟩ _ rfl
    have HF : Hid (∀ cs : Array Value, Fr (fun _ => False) w (((w.alloc (.cells (bvs d).toArray 26)).alloc (.cells cs 26)).setCells (w.heap.size + 1) 0 (bvs (List.replicate 32 0)))) := hide fun cs => (((Fr.refl _ _).alloc _).alloc _).trans (setCells_frame _ _ _ _) (fun i hi e => by omega)
    clear hce hd PD hid hrng hv
    by_cases h0 : i < 0
    · have b0 : decide (i < 0) = true := by simpa using h0
      clear hgood
      by_cases h9 : (1048576 : Int) < n
      · have b9 : decide ((1048576 : Int) < n) = true := by simpa using h9
        go_enter Tryd.func37, Tryd.ntmps37
        go_wp2_with (refine wpList_store_mid0 rfl rfl 26 _ _ rfl (w.heap.size + 1) 0 (bvs (List.replicate 32 0)).toArray rfl rfl (hth _ rfl) Tryd.s26 hone ?_)
        refine bodyPost_ret (ret_agg1 rfl _ _ (w.heap.size + 1) 0 _ _ rfl (bat_range (unhide HR _ rfl)) Tryd.u26 rfl Tryd.s26) rfl ?_
        exact ⟨rfl, unhide HF _⟩
      · have b9 : decide ((1048576 : Int) < n) = false := by simpa using h9
        go_enter Tryd.func37, Tryd.ntmps37
        go_wp2_with (refine wpList_store_mid0 rfl rfl 26 _ _ rfl (w.heap.size + 1) 0 (bvs (List.replicate 32 0)).toArray rfl rfl (hth _ rfl) Tryd.s26 hone ?_)
        refine bodyPost_ret (ret_agg1 rfl _ _ (w.heap.size + 1) 0 _ _ rfl (bat_range (unhide HR _ rfl)) Tryd.u26 rfl Tryd.s26) rfl ?_
        exact ⟨rfl, unhide HF _⟩
    · have b0 : decide (i < 0) = false := by simp; omega
      by_cases h1 : n ≤ i
      · have b1 : decide (n ≤ i) = true := by simpa using h1
        clear hgood
        by_cases h9 : (1048576 : Int) < n
        · have b9 : decide ((1048576 : Int) < n) = true := by simpa using h9
          go_enter Tryd.func37, Tryd.ntmps37
          go_wp2_with (refine wpList_store_mid0 rfl rfl 26 _ _ rfl (w.heap.size + 1) 0 (bvs (List.replicate 32 0)).toArray rfl rfl (hth _ rfl) Tryd.s26 hone ?_)
          refine bodyPost_ret (ret_agg1 rfl _ _ (w.heap.size + 1) 0 _ _ rfl (bat_range (unhide HR _ rfl)) Tryd.u26 rfl Tryd.s26) rfl ?_
          exact ⟨rfl, unhide HF _⟩
        · have b9 : decide ((1048576 : Int) < n) = false := by simpa using h9
          go_enter Tryd.func37, Tryd.ntmps37
          go_wp2_with (refine wpList_store_mid0 rfl rfl 26 _ _ rfl (w.heap.size + 1) 0 (bvs (List.replicate 32 0)).toArray rfl rfl (hth _ rfl) Tryd.s26 hone ?_)
          refine bodyPost_ret (ret_agg1 rfl _ _ (w.heap.size + 1) 0 _ _ rfl (bat_range (unhide HR _ rfl)) Tryd.u26 rfl Tryd.s26) rfl ?_
          exact ⟨rfl, unhide HF _⟩
      · have b1 : decide (n ≤ i) = false := by simp; omega
        by_cases h2 : (1048576 : Int) < n
        · have b2 : decide ((1048576 : Int) < n) = true := by simpa using h2
          clear hgood
          go_enter Tryd.func37, Tryd.ntmps37
          go_wp2_with (refine wpList_store_mid0 rfl rfl 26 _ _ rfl (w.heap.size + 1) 0 (bvs (List.replicate 32 0)).toArray rfl rfl (hth _ rfl) Tryd.s26 hone ?_)
          refine bodyPost_ret (ret_agg1 rfl _ _ (w.heap.size + 1) 0 _ _ rfl (bat_range (unhide HR _ rfl)) Tryd.u26 rfl Tryd.s26) rfl ?_
          exact ⟨rfl, unhide HF _⟩
        · have b2 : decide ((1048576 : Int) < n) = false := by simp; omega
          have hne : ¬ (ps.length : Int) = ((stp i.toNat n.toNat : Nat) : Int) := fun h => hgood ⟨by omega, by omega, by omega, h⟩
          have HST := hide fun (W : World) => rsteps_any n.toNat W i.toNat (by omega) (by omega)
          rw [show ((i.toNat : Nat) : Int) = i from by omega, show ((n.toNat : Nat) : Int) = n from by omega] at HST
          generalize stp i.toNat n.toNat = k at *
          have b3 : ((ps.length : Int) != (k : Int)) = true := by simpa using hne
          clear hgood hne
          go_enter Tryd.func37, Tryd.ntmps37
          go_wp2_with (first | (go_at_call 58; refine (unhide HST _).mono ?_; rintro e w7 ⟨rfl, hw7⟩; subst hw7) | refine wpList_store_mid0 rfl rfl 26 _ _ rfl (w.heap.size + 1) 0 (bvs (List.replicate 32 0)).toArray rfl rfl (hth _ rfl) Tryd.s26 hone ?_)
          refine bodyPost_ret (ret_agg1 rfl _ _ (w.heap.size + 1) 0 _ _ rfl (bat_range (unhide HR _ rfl)) Tryd.u26 rfl Tryd.s26) rfl ?_
          exact ⟨rfl, unhide HF _⟩
end Go.Proofs.YtlicmlioilkfdaaDoor
