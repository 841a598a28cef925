/-
  Trees: climbing, and the document's.
-/
import Derived.Test.YtlicmlioilkfdaaDoorT7
import Derived.Test.YtlicmlioilkfdaaDoorChK
namespace Go.Proofs.YtlicmlioilkfdaaDoor
open Go.RowKit
set_option linter.unusedVariables false
set_option linter.unusedSimpArgs false

attribute [local go_sem ↓] Go.wp_at_zero Go.wp_at_succ

/-- From the digest d at the place i among n up, by the path ps. -/
def clm (d : Dg) (i n : Nat) (ps : List Dg) : Dg :=
  if h : n ≤ 1 then d
  else if i < hf n then jn (clm d i (hf n) (ps.take (ps.length - 1))) (ps.getD (ps.length - 1) [])
  else jn (ps.getD (ps.length - 1) []) (clm d (i - hf n) (n - hf n) (ps.take (ps.length - 1)))
termination_by n
decreasing_by
  all_goals have hb := hf_bounds n (by omega)
  all_goals omega

theorem clm_one (d : Dg) (i n : Nat) (ps : List Dg) (h : n ≤ 1) : clm d i n ps = d := by rw [clm, dif_pos h]
theorem clm_left (d : Dg) (i n : Nat) (ps : List Dg) (h : 2 ≤ n) (hi : i < hf n) : clm d i n ps = jn (clm d i (hf n) (ps.take (ps.length - 1))) (ps.getD (ps.length - 1) []) := by rw [clm, dif_neg (by omega), if_pos hi]
theorem clm_right (d : Dg) (i n : Nat) (ps : List Dg) (h : 2 ≤ n) (hi : ¬ i < hf n) : clm d i n ps = jn (ps.getD (ps.length - 1) []) (clm d (i - hf n) (n - hf n) (ps.take (ps.length - 1))) := by rw [clm, dif_neg (by omega), if_neg hi]
theorem clm_length (d : Dg) (i n : Nat) (ps : List Dg) (hd : d.length = 32) : (clm d i n ps).length = 32 := by
  by_cases h : n ≤ 1
  · rw [clm_one _ _ _ _ h]; exact hd
  · by_cases hi : i < hf n
    · rw [clm_left _ _ _ _ (by omega) hi]; rfl
    · rw [clm_right _ _ _ _ (by omega) hi]; rfl


/-- The answer's block, ahead of the store and behind it. -/
def StR (r : Nat) (D : List UInt8) (k : Nat) (W : World) : Prop := match k with
  | 0 => ZAt W r 26 32
  | _ => W.heap[r]? = some (.cells (bvs D).toArray 26 (0, 0))

theorem StR.kept {r : Nat} {D : List UInt8} {k : Nat} {W W' : World} (h : StR r D k W) (f : Fr (fun _ => False) W W') : StR r D k W' := by
  cases k with
  | zero => exact ZAt.kept h f id
  | succ k =>
    have h' : W.heap[r]? = some (.cells (bvs D).toArray 26 (0, 0)) := h
    show W'.heap[r]? = _
    rw [f.block r (lt_of_heap h') id]; exact h'

set_option maxHeartbeats 2000000 in
set_option maxRecDepth 100000 in
theorem climbed_any (n : Nat) : ∀ (w : World) (d : Dg) (i : Nat) (v : Value) (ps : List Dg), i < n → n ≤ 1048576 → d.length = 32 → ps.length = stp i n → Tb w → DRd w v ps → Calls Tryd.prog 57 #[.agg (bvs d).toArray, .int .i64 ((i : Nat) : Int), .int .i64 ((n : Nat) : Int), v] w fun e w' => e = .returned (.agg (bvs (clm d i n ps)).toArray) ∧ Fr (fun _ => False) w w' := by
  induction n using Nat.strongRecOn with
  | ind n ih =>
  intro w d i v ps hi hle hd hps T hv
  obtain ⟨ao, cap, rfl⟩ := hv.shape
  have hcl := clm_length d i n ps hd
  have PD := Put.of hd
  have hid := PD.hi
  by_cases h1 : n = 1
  · subst h1
    rw [clm_one d i 1 ps (by omega)]
    have hi2 := PD.hi2
    have hone := PD.oneA
    clear hcl hv T ih hps
    have hrng : ∀ ob, ((w.alloc (.cells (bvs d).toArray 26)).alloc ob).rangeAt w.heap.size 0 (bvs d) := fun ob => bat_range (BlockAt.two w _ ob)
    have hth : ∀ cs : Array Value, cs.size = 32 → ((w.alloc (.cells (bvs d).toArray 26)).alloc (.cells cs 26)).there (w.heap.size + 1) 0 (bvs d).toArray.size := fun cs hcs => PD.there ⟨cs, BlockAt.one w _ _, hcs⟩
    have HR : Hid (∀ cs : Array Value, cs.size = 32 → (((w.alloc (.cells (bvs d).toArray 26)).alloc (.cells cs 26)).setCells (w.heap.size + 1) 0 (bvs d)).heap[w.heap.size + 1]? = some (.cells (bvs d).toArray 26 (0, 0))) := hide fun cs hcs => ZAt.putB (n := 32) ⟨cs, BlockAt.one w _ _, hcs⟩ d hd
    have HF : Hid (∀ cs : Array Value, Fr (fun _ => False) w (((w.alloc (.cells (bvs d).toArray 26)).alloc (.cells cs 26)).setCells (w.heap.size + 1) 0 (bvs d))) := hide fun cs => (((Fr.refl _ _).alloc _).alloc _).trans (setCells_frame _ _ _ _) (fun i hi e => by omega)
    clear hd PD
    go_enter Tryd.func57, Tryd.ntmps57
    go_wp2_with (first | refine wpList_load_mid rfl 26 _ rfl w.heap.size 0 rfl (bvs d) _ (hrng _) Tryd.u26 rfl hid ?_ | refine wpList_store_mid0 rfl rfl 26 _ _ rfl (w.heap.size + 1) 0 (bvs d).toArray rfl rfl (hth _ rfl) hi2 hone ?_)
    refine bodyPost_ret (ret_agg rfl _ _ (w.heap.size + 1) 0 _ _ rfl (bat_range (unhide HR _ rfl)) Tryd.u26 rfl hid) rfl ?_
    exact ⟨rfl, unhide HF _⟩
  · have hb := hf_bounds n (by omega)
    have c1 : (((n : Nat) : Int) == 1) = false := beq_eq_false_iff_ne.2 (by omega)
    have hpos : 0 < ps.length := by
      by_cases hl : i < hf n
      · rw [hps, stp_left i n (by omega) hl]; omega
      · rw [hps, stp_right i n (by omega) hl]; omega
    obtain ⟨b, o, rfl, -, hnc, hcm, hbl, hc⟩ := hv.lits hpos
    have HH := hide (fun W => half_any W n (by omega) hle)
    have hgl : ps.getD (ps.length - 1) [] = ps[ps.length - 1] := by simp [show ps.length - 1 < ps.length by omega]
    have hlast : (ps.getD (ps.length - 1) []).length = 32 := by rw [hgl]; exact hv.1 _ (List.getElem_mem _)
    have hLast : w.rangeAt b (o + (ps.length - 1) * 32) (bvs (ps.getD (ps.length - 1) [])) := by
      rw [hgl, Nat.mul_comm]; exact hc (ps.length - 1) (by omega)
    clear hgl PD hid
    by_cases hl : i < hf n
    · have hmore := clm_left d i n ps (by omega) hl
      have hst := stp_left i n (by omega) hl
      have htk := hv.take hpos (ps.length - 1) (by omega)
      have hdl := clm_length d (i) (hf n) (ps.take (ps.length - 1)) hd
      have ihG : ∀ (W : World), Fr (fun _ => False) w W → Calls Tryd.prog 57 #[.agg (bvs d).toArray, .int .i64 ((i : Nat) : Int), .int .i64 ((hf n : Nat) : Int), .slice (some ⟨b, o, none⟩) (ps.length - 1) cap] W fun e w' => e = .returned (.agg (bvs (clm d (i) (hf n) (ps.take (ps.length - 1)))).toArray) ∧ Fr (fun _ => False) W w' :=
        fun W f => ih (hf n) (by omega) W d (i) _ _ (by omega) (by omega) hd (by simp; omega) (T.kept f id id) (by
          have h := htk.kept f
          simpa [List.length_take, Nat.min_eq_left (show ps.length - 1 ≤ ps.length by omega)] using h)
      have hjn := fun W (f : Fr (fun _ => False) w W) => joined_any W _ _ hdl hlast (T.kept f id id)
      rw [← hmore] at hjn
      have hli : ((i : Nat) : Int) < ((hf n : Nat) : Int) := by omega
      generalize clm d i (hf n) (ps.take (ps.length - 1)) = DA at *
      generalize clm d i n ps = D at *
      generalize ps.getD (ps.length - 1) [] = DL at *
      have PP := hide (Put.of hcl)
      have HCL := hide hcl
      have HLL := hide hlast
      have HDD := hide hd
      have hLb : ps.length ≤ 1048576 := by have := stp_le n i; omega
      have IG := hide ihG
      have JN := hide hjn
      clear ihG hjn hmore hst htk hdl ih hv hc hps T hd
      generalize hf n = k at *
      generalize ps.length = L at *
      have em : ((L : Nat) : Int) - 1 = ((L - 1 : Nat) : Int) := by omega
      have hm3 : L - 1 < L := by omega
      have hm4 : L - 1 ≤ cap := by omega
      generalize L - 1 = m at *
      have HW64 := hide em
      clear em
      go_enter Tryd.func57, Tryd.ntmps57
      go_wp2_with fail
      refine (unhide HH _).mono ?_
      rintro e w1 ⟨rfl, hw1⟩
      have f1 : Fr (fun _ => False) w w1 := by rw [← hw1]; exact ((Fr.refl _ _).alloc _).alloc _
      have hbx : w1.heap[w.heap.size]? = some (.cells (bvs d).toArray 26 (0, 0)) := by rw [← hw1]; exact BlockAt.two w _ _
      have hR1 : ZAt w1 (w.heap.size + 1) 26 32 := by rw [← hw1]; exact ⟨_, BlockAt.one w _ _, rfl⟩
      clear hw1
      have hS2 : w1.rangeAt b (o + m * 32) (bvs DL) := rangeAt_kept hLast f1 hbl id
      have hs1 : w.heap.size + 1 < w1.heap.size := by obtain ⟨cs, h, -⟩ := hR1; exact lt_of_heap h
      have HK : Hid (∀ W, Fr (fun k => k = w.heap.size + 1) w1 W → W.rangeAt w.heap.size 0 (bvs d) ∧ W.rangeAt b (o + m * 32) (bvs DL)) := hide fun W f => ⟨rangeAt_kept (bat_range hbx) f (by omega) (by omega), rangeAt_kept hS2 f (by omega) (by omega)⟩
      have HG := hide fun (W : World) (f : Fr (fun k => k = w.heap.size + 1) w1 W) => unhide IG W (f1.trans f (fun k hk e => by omega))
      have HJ := hide fun (W : World) (f : Fr (fun k => k = w.heap.size + 1) w1 W) => unhide JN W (f1.trans f (fun k hk e => by omega))
      have F1 := hide f1
      have HR1 := hide hR1
      clear f1 hR1 hbx hLast hS2 IG JN HH
      go_wp2_with fail
      refine wp_nameK ?_
      intro a0 hA
      have h1 : a0.tmps.getD 1 undef = Value.int .i64 ((i : Nat) : Int) := by rw [hA]; rfl
      have h3 : a0.tmps.getD 3 undef = Value.slice (some ⟨b, o, none⟩) L cap := by rw [hA]; rfl
      have h4 : a0.tmps.getD 4 undef = Value.pointer (some ⟨w.heap.size, 0, none⟩) := by rw [hA]; rfl
      have h8 : a0.tmps.getD 8 undef = Value.pointer (some ⟨w.heap.size + 1, 0, none⟩) := by rw [hA]; rfl
      have h9 : a0.tmps.getD 9 undef = Value.int .i64 ((k : Nat) : Int) := by rw [hA]; rfl
      have h10 : a0.tmps.getD 10 undef = Value.int .i64 ((m : Nat) : Int) := by rw [hA]; exact congrArg (Value.int .i64) (unhide HW64)
      have hsz : a0.tmps.size = 50 := by rw [hA]; rfl
      have hdf : a0.defers = [] := by rw [hA]
      clear hA
      refine wp_region_chain (by kernel_rfl) (by kernel_rfl) (by decide +kernel) (by rw [hsz]; decide +kernel) (fun w' w'' => Fr (fun k => k = w.heap.size + 1) w' w'') (Fr.refl _ _).drew (fun _ _ _ h k => h.trans k (fun _ _ h => h))
        (Tv [.agg (bvs d).toArray, .int .i64 ((i : Nat) : Int), .int .i64 ((k : Nat) : Int), Value.slice (some ⟨b, o, none⟩) L cap, .int .i64 ((m : Nat) : Int), Value.slice (some ⟨b, o, none⟩) m cap, .agg (bvs DA).toArray, Value.slice (some ⟨b, o, none⟩) L cap, .int .i64 ((m : Nat) : Int), .pointer (some ⟨b, o + m * 32, none⟩), .agg (bvs DL).toArray, .agg (bvs D).toArray, undef]) (Tv.mono _ _) [12] (by decide) (by decide) (chain_paths _ [] (by kernel_rfl)) (StR (w.heap.size + 1) D) (unhide HR1) ?steps ?done
      case steps =>
        refine ⟨?_, ?_⟩
        · intro a' w' k' hb hf hs hc hd
          exact ⟨wanted_none rfl, left_val (.agg (bvs d).toArray) (by decide) hs (ex_load26 rfl ((hb.old 4 (by decide +kernel)).trans h4) (unhide HDD) (unhide HK _ hf).1) (fun _ h => Option.some.inj h)⟩
        refine ⟨?_, ?_⟩
        · intro a' w' k' hb hf hs hc hd
          exact ⟨wanted_none rfl, left_val (.int .i64 ((i : Nat) : Int)) (by decide) hs (xk_move rfl ((hb.old 1 (by decide +kernel)).trans h1)) (fun _ h => Option.some.inj h)⟩
        refine ⟨?_, ?_⟩
        · intro a' w' k' hb hf hs hc hd
          exact ⟨wanted_none rfl, left_val (.int .i64 ((k : Nat) : Int)) (by decide) hs (xk_move rfl ((hb.old 9 (by decide +kernel)).trans h9)) (fun _ h => Option.some.inj h)⟩
        refine ⟨?_, ?_⟩
        · intro a' w' k' hb hf hs hc hd
          exact ⟨wanted_none rfl, left_val (Value.slice (some ⟨b, o, none⟩) L cap) (by decide) hs (xk_move rfl ((hb.old 3 (by decide +kernel)).trans h3)) (fun _ h => Option.some.inj h)⟩
        refine ⟨?_, ?_⟩
        · intro a' w' k' hb hf hs hc hd
          exact ⟨wanted_none rfl, left_val (.int .i64 ((m : Nat) : Int)) (by decide) hs (xk_move rfl ((hb.old 10 (by decide +kernel)).trans h10)) (fun _ h => Option.some.inj h)⟩
        refine ⟨?_, ?_⟩
        · intro a' w' k' hb hf hs hc hd
          exact ⟨wanted_none rfl, left_val (Value.slice (some ⟨b, o, none⟩) m cap) (by decide) hs (xk_slice rfl ((hd 3 (by kernel_rfl) 25 rfl) _ rfl) ((hd 4 (by kernel_rfl) 26 rfl) _ rfl) hm4) (fun _ h => Option.some.inj h)⟩
        refine ⟨?_, ?_⟩
        · intro a' w' k' hb hf hs hc hd
          exact ⟨wanted_none rfl, left_call 57 _ (en_call4 rfl rfl ((hd 0 (by kernel_rfl) 22 rfl) _ rfl) ((hd 1 (by kernel_rfl) 23 rfl) _ rfl) ((hd 2 (by kernel_rfl) 24 rfl) _ rfl) ((hd 5 (by kernel_rfl) 27 rfl) _ rfl) cfk57) ((unhide HG _ hf).mono (by rintro e w7 ⟨rfl, f⟩; exact ⟨_, rfl, fun _ h => Option.some.inj h, f.mono (fun _ _ h => h.elim), by rw [if_neg (by decide)]; exact StR.kept hs f⟩))⟩
        refine ⟨?_, ?_⟩
        · intro a' w' k' hb hf hs hc hd
          exact ⟨wanted_none rfl, left_val (Value.slice (some ⟨b, o, none⟩) L cap) (by decide) hs (xk_move rfl ((hb.old 3 (by decide +kernel)).trans h3)) (fun _ h => Option.some.inj h)⟩
        refine ⟨?_, ?_⟩
        · intro a' w' k' hb hf hs hc hd
          exact ⟨wanted_none rfl, left_val (.int .i64 ((m : Nat) : Int)) (by decide) hs (xk_move rfl ((hb.old 10 (by decide +kernel)).trans h10)) (fun _ h => Option.some.inj h)⟩
        refine ⟨?_, ?_⟩
        · intro a' w' k' hb hf hs hc hd
          exact ⟨wanted_none rfl, left_val (.pointer (some ⟨b, o + m * 32, none⟩)) (by decide) hs (xk_index rfl ((hd 7 (by kernel_rfl) 29 rfl) _ rfl) ((hd 8 (by kernel_rfl) 30 rfl) _ rfl) hm3) (fun _ h => Option.some.inj h)⟩
        refine ⟨?_, ?_⟩
        · intro a' w' k' hb hf hs hc hd
          exact ⟨wanted_none rfl, left_val (.agg (bvs DL).toArray) (by decide) hs (ex_load26 rfl ((hd 9 (by kernel_rfl) 31 rfl) _ rfl) (unhide HLL) (unhide HK _ hf).2) (fun _ h => Option.some.inj h)⟩
        refine ⟨?_, ?_⟩
        · intro a' w' k' hb hf hs hc hd
          exact ⟨wanted_none rfl, left_call 61 _ (en_call2 rfl rfl ((hd 6 (by kernel_rfl) 28 rfl) _ rfl) ((hd 10 (by kernel_rfl) 32 rfl) _ rfl) cfk61) ((unhide HJ _ hf).mono (by rintro e w7 ⟨rfl, f⟩; exact ⟨_, rfl, fun _ h => Option.some.inj h, f.mono (fun _ _ h => h.elim), by rw [if_neg (by decide)]; exact StR.kept hs f⟩))⟩
        refine ⟨?_, ?_⟩
        · intro a' w' k' hb hf hs hc hd
          obtain rfl := hc 0 rfl
          exact ⟨wanted_none rfl, left_store _ _ 26 rfl (by decide) (w.heap.size + 1) 0 (bvs D).toArray ((hb.old 8 (by decide +kernel)).trans h8) ((hd 11 (by kernel_rfl) 33 rfl) _ rfl) ((unhide PP).there hs) (unhide PP).hi2 (unhide PP).oneA (fun _ h => Option.some.inj h) rfl (ZAt.putB hs D (unhide HCL))⟩
        exact trivial
      case done =>
        intro a' w' hb hf hs hall
        have e8 : a'.tmps.getD 8 undef = .pointer (some ⟨w.heap.size + 1, 0, none⟩) := (hb.old 8 (by decide +kernel)).trans h8
        have hdf' : a'.defers = [] := by rw [hb.defers]; exact hdf
        have hF : Fr (fun _ => False) w w' := (unhide F1).trans hf (fun k hk e => by omega)
        have hr : bodyPost Tryd.prog Tryd.f57 (fun e w' => e = Ending.returned (.agg (bvs D).toArray) ∧ Fr (fun _ => False) w w') .ret a' w' :=
          bodyPost_ret (ret_agg rfl _ _ (w.heap.size + 1) 0 _ _ e8 (bat_range hs) Tryd.u26 rfl (unhide PP).hi) hdf' ⟨rfl, hF⟩
        clear hall hb
        apply_assumption
        exact wp_ret hr
    · have hmore := clm_right d i n ps (by omega) hl
      have hst := stp_right i n (by omega) hl
      have htk := hv.take hpos (ps.length - 1) (by omega)
      have hdl := clm_length d (i - hf n) (n - hf n) (ps.take (ps.length - 1)) hd
      have ihG : ∀ (W : World), Fr (fun _ => False) w W → Calls Tryd.prog 57 #[.agg (bvs d).toArray, .int .i64 ((i - hf n : Nat) : Int), .int .i64 ((n - hf n : Nat) : Int), .slice (some ⟨b, o, none⟩) (ps.length - 1) cap] W fun e w' => e = .returned (.agg (bvs (clm d (i - hf n) (n - hf n) (ps.take (ps.length - 1)))).toArray) ∧ Fr (fun _ => False) W w' :=
        fun W f => ih (n - hf n) (by omega) W d (i - hf n) _ _ (by omega) (by omega) hd (by simp; omega) (T.kept f id id) (by
          have h := htk.kept f
          simpa [List.length_take, Nat.min_eq_left (show ps.length - 1 ≤ ps.length by omega)] using h)
      have hjn := fun W (f : Fr (fun _ => False) w W) => joined_any W _ _ hlast hdl (T.kept f id id)
      rw [← hmore] at hjn
      have hli : ¬ ((i : Nat) : Int) < ((hf n : Nat) : Int) := by omega
      have hki : hf n ≤ i := by omega
      have hkn : hf n ≤ n := by omega
      obtain ⟨i2, e1⟩ : ∃ i2, i - hf n = i2 := ⟨_, rfl⟩
      obtain ⟨n2, e2⟩ : ∃ n2, n - hf n = n2 := ⟨_, rfl⟩
      rw [e1, e2] at hjn ihG
      generalize clm d i2 n2 (ps.take (ps.length - 1)) = DA at *
      generalize clm d i n ps = D at *
      generalize ps.getD (ps.length - 1) [] = DL at *
      have PP := hide (Put.of hcl)
      have HCL := hide hcl
      have HLL := hide hlast
      have HDD := hide hd
      have hLb : ps.length ≤ 1048576 := by have := stp_le n i; omega
      have IG := hide ihG
      have JN := hide hjn
      clear ihG hjn hmore hst htk hdl ih hv hc hps T hd
      generalize hf n = k at *
      generalize ps.length = L at *
      have em : ((L : Nat) : Int) - 1 = ((L - 1 : Nat) : Int) := by omega
      have hm3 : L - 1 < L := by omega
      have hm4 : L - 1 ≤ cap := by omega
      generalize L - 1 = m at *
      have HW64 := hide em
      clear em
      go_enter Tryd.func57, Tryd.ntmps57
      go_wp2_with fail
      refine (unhide HH _).mono ?_
      rintro e w1 ⟨rfl, hw1⟩
      have f1 : Fr (fun _ => False) w w1 := by rw [← hw1]; exact ((Fr.refl _ _).alloc _).alloc _
      have hbx : w1.heap[w.heap.size]? = some (.cells (bvs d).toArray 26 (0, 0)) := by rw [← hw1]; exact BlockAt.two w _ _
      have hR1 : ZAt w1 (w.heap.size + 1) 26 32 := by rw [← hw1]; exact ⟨_, BlockAt.one w _ _, rfl⟩
      clear hw1
      have hS2 : w1.rangeAt b (o + m * 32) (bvs DL) := rangeAt_kept hLast f1 hbl id
      have hs1 : w.heap.size + 1 < w1.heap.size := by obtain ⟨cs, h, -⟩ := hR1; exact lt_of_heap h
      have HK : Hid (∀ W, Fr (fun k => k = w.heap.size + 1) w1 W → W.rangeAt w.heap.size 0 (bvs d) ∧ W.rangeAt b (o + m * 32) (bvs DL)) := hide fun W f => ⟨rangeAt_kept (bat_range hbx) f (by omega) (by omega), rangeAt_kept hS2 f (by omega) (by omega)⟩
      have HG := hide fun (W : World) (f : Fr (fun k => k = w.heap.size + 1) w1 W) => unhide IG W (f1.trans f (fun k hk e => by omega))
      have HJ := hide fun (W : World) (f : Fr (fun k => k = w.heap.size + 1) w1 W) => unhide JN W (f1.trans f (fun k hk e => by omega))
      have F1 := hide f1
      have HR1 := hide hR1
      clear f1 hR1 hbx hLast hS2 IG JN HH
      go_wp2_with fail
      refine wp_nameK ?_
      intro a0 hA
      have h1 : a0.tmps.getD 1 undef = Value.int .i64 ((i : Nat) : Int) := by rw [hA]; rfl
      have h2 : a0.tmps.getD 2 undef = Value.int .i64 ((n : Nat) : Int) := by rw [hA]; rfl
      have h3 : a0.tmps.getD 3 undef = Value.slice (some ⟨b, o, none⟩) L cap := by rw [hA]; rfl
      have h4 : a0.tmps.getD 4 undef = Value.pointer (some ⟨w.heap.size, 0, none⟩) := by rw [hA]; rfl
      have h8 : a0.tmps.getD 8 undef = Value.pointer (some ⟨w.heap.size + 1, 0, none⟩) := by rw [hA]; rfl
      have h9 : a0.tmps.getD 9 undef = Value.int .i64 ((k : Nat) : Int) := by rw [hA]; rfl
      have h10 : a0.tmps.getD 10 undef = Value.int .i64 ((m : Nat) : Int) := by rw [hA]; exact congrArg (Value.int .i64) (unhide HW64)
      have hsz : a0.tmps.size = 50 := by rw [hA]; rfl
      have hdf : a0.defers = [] := by rw [hA]
      clear hA
      refine wp_region_chain (by kernel_rfl) (by kernel_rfl) (by decide +kernel) (by rw [hsz]; decide +kernel) (fun w' w'' => Fr (fun k => k = w.heap.size + 1) w' w'') (Fr.refl _ _).drew (fun _ _ _ h k => h.trans k (fun _ _ h => h))
        (Tv [Value.slice (some ⟨b, o, none⟩) L cap, .int .i64 ((m : Nat) : Int), .pointer (some ⟨b, o + m * 32, none⟩), .agg (bvs DL).toArray, .agg (bvs d).toArray, .int .i64 ((i : Nat) : Int), .int .i64 ((k : Nat) : Int), .int .i64 ((i2 : Nat) : Int), .int .i64 ((n : Nat) : Int), .int .i64 ((k : Nat) : Int), .int .i64 ((n2 : Nat) : Int), Value.slice (some ⟨b, o, none⟩) L cap, .int .i64 ((m : Nat) : Int), Value.slice (some ⟨b, o, none⟩) m cap, .agg (bvs DA).toArray, .agg (bvs D).toArray, undef]) (Tv.mono _ _) [16] (by decide) (by decide) (chain_paths _ [] (by kernel_rfl)) (StR (w.heap.size + 1) D) (unhide HR1) ?steps ?done
      case steps =>
        refine ⟨?_, ?_⟩
        · intro a' w' k' hb hf hs hc hd
          exact ⟨wanted_none rfl, left_val (Value.slice (some ⟨b, o, none⟩) L cap) (by decide) hs (xk_move rfl ((hb.old 3 (by decide +kernel)).trans h3)) (fun _ h => Option.some.inj h)⟩
        refine ⟨?_, ?_⟩
        · intro a' w' k' hb hf hs hc hd
          exact ⟨wanted_none rfl, left_val (.int .i64 ((m : Nat) : Int)) (by decide) hs (xk_move rfl ((hb.old 10 (by decide +kernel)).trans h10)) (fun _ h => Option.some.inj h)⟩
        refine ⟨?_, ?_⟩
        · intro a' w' k' hb hf hs hc hd
          exact ⟨wanted_none rfl, left_val (.pointer (some ⟨b, o + m * 32, none⟩)) (by decide) hs (xk_index rfl ((hd 0 (by kernel_rfl) 34 rfl) _ rfl) ((hd 1 (by kernel_rfl) 35 rfl) _ rfl) hm3) (fun _ h => Option.some.inj h)⟩
        refine ⟨?_, ?_⟩
        · intro a' w' k' hb hf hs hc hd
          exact ⟨wanted_none rfl, left_val (.agg (bvs DL).toArray) (by decide) hs (ex_load26 rfl ((hd 2 (by kernel_rfl) 36 rfl) _ rfl) (unhide HLL) (unhide HK _ hf).2) (fun _ h => Option.some.inj h)⟩
        refine ⟨?_, ?_⟩
        · intro a' w' k' hb hf hs hc hd
          exact ⟨wanted_none rfl, left_val (.agg (bvs d).toArray) (by decide) hs (ex_load26 rfl ((hb.old 4 (by decide +kernel)).trans h4) (unhide HDD) (unhide HK _ hf).1) (fun _ h => Option.some.inj h)⟩
        refine ⟨?_, ?_⟩
        · intro a' w' k' hb hf hs hc hd
          exact ⟨wanted_none rfl, left_val (.int .i64 ((i : Nat) : Int)) (by decide) hs (xk_move rfl ((hb.old 1 (by decide +kernel)).trans h1)) (fun _ h => Option.some.inj h)⟩
        refine ⟨?_, ?_⟩
        · intro a' w' k' hb hf hs hc hd
          exact ⟨wanted_none rfl, left_val (.int .i64 ((k : Nat) : Int)) (by decide) hs (xk_move rfl ((hb.old 9 (by decide +kernel)).trans h9)) (fun _ h => Option.some.inj h)⟩
        refine ⟨?_, ?_⟩
        · intro a' w' k' hb hf hs hc hd
          exact ⟨wanted_none rfl, left_val (.int .i64 ((i2 : Nat) : Int)) (by decide) hs (xk_sub rfl ((hd 5 (by kernel_rfl) 39 rfl) _ rfl) ((hd 6 (by kernel_rfl) 40 rfl) _ rfl) hki (by omega) e1) (fun _ h => Option.some.inj h)⟩
        refine ⟨?_, ?_⟩
        · intro a' w' k' hb hf hs hc hd
          exact ⟨wanted_none rfl, left_val (.int .i64 ((n : Nat) : Int)) (by decide) hs (xk_move rfl ((hb.old 2 (by decide +kernel)).trans h2)) (fun _ h => Option.some.inj h)⟩
        refine ⟨?_, ?_⟩
        · intro a' w' k' hb hf hs hc hd
          exact ⟨wanted_none rfl, left_val (.int .i64 ((k : Nat) : Int)) (by decide) hs (xk_move rfl ((hb.old 9 (by decide +kernel)).trans h9)) (fun _ h => Option.some.inj h)⟩
        refine ⟨?_, ?_⟩
        · intro a' w' k' hb hf hs hc hd
          exact ⟨wanted_none rfl, left_val (.int .i64 ((n2 : Nat) : Int)) (by decide) hs (xk_sub rfl ((hd 8 (by kernel_rfl) 42 rfl) _ rfl) ((hd 9 (by kernel_rfl) 43 rfl) _ rfl) hkn (by omega) e2) (fun _ h => Option.some.inj h)⟩
        refine ⟨?_, ?_⟩
        · intro a' w' k' hb hf hs hc hd
          exact ⟨wanted_none rfl, left_val (Value.slice (some ⟨b, o, none⟩) L cap) (by decide) hs (xk_move rfl ((hb.old 3 (by decide +kernel)).trans h3)) (fun _ h => Option.some.inj h)⟩
        refine ⟨?_, ?_⟩
        · intro a' w' k' hb hf hs hc hd
          exact ⟨wanted_none rfl, left_val (.int .i64 ((m : Nat) : Int)) (by decide) hs (xk_move rfl ((hb.old 10 (by decide +kernel)).trans h10)) (fun _ h => Option.some.inj h)⟩
        refine ⟨?_, ?_⟩
        · intro a' w' k' hb hf hs hc hd
          exact ⟨wanted_none rfl, left_val (Value.slice (some ⟨b, o, none⟩) m cap) (by decide) hs (xk_slice rfl ((hd 11 (by kernel_rfl) 45 rfl) _ rfl) ((hd 12 (by kernel_rfl) 46 rfl) _ rfl) hm4) (fun _ h => Option.some.inj h)⟩
        refine ⟨?_, ?_⟩
        · intro a' w' k' hb hf hs hc hd
          exact ⟨wanted_none rfl, left_call 57 _ (en_call4 rfl rfl ((hd 4 (by kernel_rfl) 38 rfl) _ rfl) ((hd 7 (by kernel_rfl) 41 rfl) _ rfl) ((hd 10 (by kernel_rfl) 44 rfl) _ rfl) ((hd 13 (by kernel_rfl) 47 rfl) _ rfl) cfk57) ((unhide HG _ hf).mono (by rintro e w7 ⟨rfl, f⟩; exact ⟨_, rfl, fun _ h => Option.some.inj h, f.mono (fun _ _ h => h.elim), by rw [if_neg (by decide)]; exact StR.kept hs f⟩))⟩
        refine ⟨?_, ?_⟩
        · intro a' w' k' hb hf hs hc hd
          exact ⟨wanted_none rfl, left_call 61 _ (en_call2 rfl rfl ((hd 3 (by kernel_rfl) 37 rfl) _ rfl) ((hd 14 (by kernel_rfl) 48 rfl) _ rfl) cfk61) ((unhide HJ _ hf).mono (by rintro e w7 ⟨rfl, f⟩; exact ⟨_, rfl, fun _ h => Option.some.inj h, f.mono (fun _ _ h => h.elim), by rw [if_neg (by decide)]; exact StR.kept hs f⟩))⟩
        refine ⟨?_, ?_⟩
        · intro a' w' k' hb hf hs hc hd
          obtain rfl := hc 0 rfl
          exact ⟨wanted_none rfl, left_store _ _ 26 rfl (by decide) (w.heap.size + 1) 0 (bvs D).toArray ((hb.old 8 (by decide +kernel)).trans h8) ((hd 15 (by kernel_rfl) 49 rfl) _ rfl) ((unhide PP).there hs) (unhide PP).hi2 (unhide PP).oneA (fun _ h => Option.some.inj h) rfl (ZAt.putB hs D (unhide HCL))⟩
        exact trivial
      case done =>
        intro a' w' hb hf hs hall
        have e8 : a'.tmps.getD 8 undef = .pointer (some ⟨w.heap.size + 1, 0, none⟩) := (hb.old 8 (by decide +kernel)).trans h8
        have hdf' : a'.defers = [] := by rw [hb.defers]; exact hdf
        have hF : Fr (fun _ => False) w w' := (unhide F1).trans hf (fun k hk e => by omega)
        have hr : bodyPost Tryd.prog Tryd.f57 (fun e w' => e = Ending.returned (.agg (bvs D).toArray) ∧ Fr (fun _ => False) w w') .ret a' w' :=
          bodyPost_ret (ret_agg rfl _ _ (w.heap.size + 1) 0 _ _ e8 (bat_range hs) Tryd.u26 rfl (unhide PP).hi) hdf' ⟨rfl, hF⟩
        clear hall hb
        apply_assumption
        exact wp_ret hr


set_option maxHeartbeats 2000000 in
set_option maxRecDepth 100000 in
theorem rclimb_any (n : Nat) : ∀ (w : World) (d : Dg) (i : Nat) (v : Value) (ps : List Dg), i < n → n ≤ 1048576 → d.length = 32 → ps.length = stp i n → DRd w v ps → Calls Tryd.prog 59 #[.agg (bvs d).toArray, .int .i64 ((i : Nat) : Int), .int .i64 ((n : Nat) : Int), v] w fun e w' => e = .returned (.agg (bvs (clm d i n ps)).toArray) ∧ Fr (fun _ => False) w w' := by
  induction n using Nat.strongRecOn with
  | ind n ih =>
  intro w d i v ps hi hle hd hps hv
  obtain ⟨ao, cap, rfl⟩ := hv.shape
  have hcl := clm_length d i n ps hd
  have PD := Put.of hd
  have hid := PD.hi
  by_cases h1 : n = 1
  · subst h1
    rw [clm_one d i 1 ps (by omega)]
    have hi2 := PD.hi2
    have hone := PD.oneA
    clear hcl hv ih hps
    have hrng : ∀ ob, ((w.alloc (.cells (bvs d).toArray 26)).alloc ob).rangeAt w.heap.size 0 (bvs d) := fun ob => bat_range (BlockAt.two w _ ob)
    have hth : ∀ cs : Array Value, cs.size = 32 → ((w.alloc (.cells (bvs d).toArray 26)).alloc (.cells cs 26)).there (w.heap.size + 1) 0 (bvs d).toArray.size := fun cs hcs => PD.there ⟨cs, BlockAt.one w _ _, hcs⟩
    have HR : Hid (∀ cs : Array Value, cs.size = 32 → (((w.alloc (.cells (bvs d).toArray 26)).alloc (.cells cs 26)).setCells (w.heap.size + 1) 0 (bvs d)).heap[w.heap.size + 1]? = some (.cells (bvs d).toArray 26 (0, 0))) := hide fun cs hcs => ZAt.putB (n := 32) ⟨cs, BlockAt.one w _ _, hcs⟩ d hd
    have HF : Hid (∀ cs : Array Value, Fr (fun _ => False) w (((w.alloc (.cells (bvs d).toArray 26)).alloc (.cells cs 26)).setCells (w.heap.size + 1) 0 (bvs d))) := hide fun cs => (((Fr.refl _ _).alloc _).alloc _).trans (setCells_frame _ _ _ _) (fun i hi e => by omega)
    clear hd PD
    go_enter Tryd.func59, Tryd.ntmps59
    go_wp2_with (first | refine wpList_load_mid rfl 26 _ rfl w.heap.size 0 rfl (bvs d) _ (hrng _) Tryd.u26 rfl hid ?_ | refine wpList_store_mid0 rfl rfl 26 _ _ rfl (w.heap.size + 1) 0 (bvs d).toArray rfl rfl (hth _ rfl) hi2 hone ?_)
    refine bodyPost_ret (ret_agg rfl _ _ (w.heap.size + 1) 0 _ _ rfl (bat_range (unhide HR _ rfl)) Tryd.u26 rfl hid) rfl ?_
    exact ⟨rfl, unhide HF _⟩
  · have hb := hf_bounds n (by omega)
    have c1 : (((n : Nat) : Int) == 1) = false := beq_eq_false_iff_ne.2 (by omega)
    have hpos : 0 < ps.length := by
      by_cases hl : i < hf n
      · rw [hps, stp_left i n (by omega) hl]; omega
      · rw [hps, stp_right i n (by omega) hl]; omega
    obtain ⟨b, o, rfl, -, hnc, hcm, hbl, hc⟩ := hv.lits hpos
    have HH := hide (fun W => rhalf_any W n (by omega) hle)
    have hgl : ps.getD (ps.length - 1) [] = ps[ps.length - 1] := by simp [show ps.length - 1 < ps.length by omega]
    have hlast : (ps.getD (ps.length - 1) []).length = 32 := by rw [hgl]; exact hv.1 _ (List.getElem_mem _)
    have hLast : w.rangeAt b (o + (ps.length - 1) * 32) (bvs (ps.getD (ps.length - 1) [])) := by
      rw [hgl, Nat.mul_comm]; exact hc (ps.length - 1) (by omega)
    clear hgl PD hid
    by_cases hl : i < hf n
    · have hmore := clm_left d i n ps (by omega) hl
      have hst := stp_left i n (by omega) hl
      have htk := hv.take hpos (ps.length - 1) (by omega)
      have hdl := clm_length d (i) (hf n) (ps.take (ps.length - 1)) hd
      have ihG : ∀ (W : World), Fr (fun _ => False) w W → Calls Tryd.prog 59 #[.agg (bvs d).toArray, .int .i64 ((i : Nat) : Int), .int .i64 ((hf n : Nat) : Int), .slice (some ⟨b, o, none⟩) (ps.length - 1) cap] W fun e w' => e = .returned (.agg (bvs (clm d (i) (hf n) (ps.take (ps.length - 1)))).toArray) ∧ Fr (fun _ => False) W w' :=
        fun W f => ih (hf n) (by omega) W d (i) _ _ (by omega) (by omega) hd (by simp; omega) (by
          have h := htk.kept f
          simpa [List.length_take, Nat.min_eq_left (show ps.length - 1 ≤ ps.length by omega)] using h)
      have hjn := fun W (f : Fr (fun _ => False) w W) => node_any W _ _ hdl hlast
      rw [← hmore] at hjn
      have hli : ((i : Nat) : Int) < ((hf n : Nat) : Int) := by omega
      generalize clm d i (hf n) (ps.take (ps.length - 1)) = DA at *
      generalize clm d i n ps = D at *
      generalize ps.getD (ps.length - 1) [] = DL at *
      have PP := hide (Put.of hcl)
      have HCL := hide hcl
      have HLL := hide hlast
      have HDD := hide hd
      have hLb : ps.length ≤ 1048576 := by have := stp_le n i; omega
      have IG := hide ihG
      have JN := hide hjn
      clear ihG hjn hmore hst htk hdl ih hv hc hps hd
      generalize hf n = k at *
      generalize ps.length = L at *
      have em : ((L : Nat) : Int) - 1 = ((L - 1 : Nat) : Int) := by omega
      have hm3 : L - 1 < L := by omega
      have hm4 : L - 1 ≤ cap := by omega
      generalize L - 1 = m at *
      have HW64 := hide em
      clear em
      go_enter Tryd.func59, Tryd.ntmps59
      go_wp2_with fail
      refine (unhide HH _).mono ?_
      rintro e w1 ⟨rfl, hw1⟩
      have f1 : Fr (fun _ => False) w w1 := by rw [← hw1]; exact ((Fr.refl _ _).alloc _).alloc _
      have hbx : w1.heap[w.heap.size]? = some (.cells (bvs d).toArray 26 (0, 0)) := by rw [← hw1]; exact BlockAt.two w _ _
      have hR1 : ZAt w1 (w.heap.size + 1) 26 32 := by rw [← hw1]; exact ⟨_, BlockAt.one w _ _, rfl⟩
      clear hw1
      have hS2 : w1.rangeAt b (o + m * 32) (bvs DL) := rangeAt_kept hLast f1 hbl id
      have hs1 : w.heap.size + 1 < w1.heap.size := by obtain ⟨cs, h, -⟩ := hR1; exact lt_of_heap h
      have HK : Hid (∀ W, Fr (fun k => k = w.heap.size + 1) w1 W → W.rangeAt w.heap.size 0 (bvs d) ∧ W.rangeAt b (o + m * 32) (bvs DL)) := hide fun W f => ⟨rangeAt_kept (bat_range hbx) f (by omega) (by omega), rangeAt_kept hS2 f (by omega) (by omega)⟩
      have HG := hide fun (W : World) (f : Fr (fun k => k = w.heap.size + 1) w1 W) => unhide IG W (f1.trans f (fun k hk e => by omega))
      have HJ := hide fun (W : World) (f : Fr (fun k => k = w.heap.size + 1) w1 W) => unhide JN W (f1.trans f (fun k hk e => by omega))
      have F1 := hide f1
      have HR1 := hide hR1
      clear f1 hR1 hbx hLast hS2 IG JN HH
      go_wp2_with fail
      refine wp_nameK ?_
      intro a0 hA
      have h1 : a0.tmps.getD 1 undef = Value.int .i64 ((i : Nat) : Int) := by rw [hA]; rfl
      have h3 : a0.tmps.getD 3 undef = Value.slice (some ⟨b, o, none⟩) L cap := by rw [hA]; rfl
      have h4 : a0.tmps.getD 4 undef = Value.pointer (some ⟨w.heap.size, 0, none⟩) := by rw [hA]; rfl
      have h8 : a0.tmps.getD 8 undef = Value.pointer (some ⟨w.heap.size + 1, 0, none⟩) := by rw [hA]; rfl
      have h9 : a0.tmps.getD 9 undef = Value.int .i64 ((k : Nat) : Int) := by rw [hA]; rfl
      have h10 : a0.tmps.getD 10 undef = Value.int .i64 ((m : Nat) : Int) := by rw [hA]; exact congrArg (Value.int .i64) (unhide HW64)
      have hsz : a0.tmps.size = 50 := by rw [hA]; rfl
      have hdf : a0.defers = [] := by rw [hA]
      clear hA
      refine wp_region_chain (by kernel_rfl) (by kernel_rfl) (by decide +kernel) (by rw [hsz]; decide +kernel) (fun w' w'' => Fr (fun k => k = w.heap.size + 1) w' w'') (Fr.refl _ _).drew (fun _ _ _ h k => h.trans k (fun _ _ h => h))
        (Tv [.agg (bvs d).toArray, .int .i64 ((i : Nat) : Int), .int .i64 ((k : Nat) : Int), Value.slice (some ⟨b, o, none⟩) L cap, .int .i64 ((m : Nat) : Int), Value.slice (some ⟨b, o, none⟩) m cap, .agg (bvs DA).toArray, Value.slice (some ⟨b, o, none⟩) L cap, .int .i64 ((m : Nat) : Int), .pointer (some ⟨b, o + m * 32, none⟩), .agg (bvs DL).toArray, .agg (bvs D).toArray, undef]) (Tv.mono _ _) [12] (by decide) (by decide) (chain_paths _ [] (by kernel_rfl)) (StR (w.heap.size + 1) D) (unhide HR1) ?steps ?done
      case steps =>
        refine ⟨?_, ?_⟩
        · intro a' w' k' hb hf hs hc hd
          exact ⟨wanted_none rfl, left_val (.agg (bvs d).toArray) (by decide) hs (ex_load26 rfl ((hb.old 4 (by decide +kernel)).trans h4) (unhide HDD) (unhide HK _ hf).1) (fun _ h => Option.some.inj h)⟩
        refine ⟨?_, ?_⟩
        · intro a' w' k' hb hf hs hc hd
          exact ⟨wanted_none rfl, left_val (.int .i64 ((i : Nat) : Int)) (by decide) hs (xk_move rfl ((hb.old 1 (by decide +kernel)).trans h1)) (fun _ h => Option.some.inj h)⟩
        refine ⟨?_, ?_⟩
        · intro a' w' k' hb hf hs hc hd
          exact ⟨wanted_none rfl, left_val (.int .i64 ((k : Nat) : Int)) (by decide) hs (xk_move rfl ((hb.old 9 (by decide +kernel)).trans h9)) (fun _ h => Option.some.inj h)⟩
        refine ⟨?_, ?_⟩
        · intro a' w' k' hb hf hs hc hd
          exact ⟨wanted_none rfl, left_val (Value.slice (some ⟨b, o, none⟩) L cap) (by decide) hs (xk_move rfl ((hb.old 3 (by decide +kernel)).trans h3)) (fun _ h => Option.some.inj h)⟩
        refine ⟨?_, ?_⟩
        · intro a' w' k' hb hf hs hc hd
          exact ⟨wanted_none rfl, left_val (.int .i64 ((m : Nat) : Int)) (by decide) hs (xk_move rfl ((hb.old 10 (by decide +kernel)).trans h10)) (fun _ h => Option.some.inj h)⟩
        refine ⟨?_, ?_⟩
        · intro a' w' k' hb hf hs hc hd
          exact ⟨wanted_none rfl, left_val (Value.slice (some ⟨b, o, none⟩) m cap) (by decide) hs (xk_slice rfl ((hd 3 (by kernel_rfl) 25 rfl) _ rfl) ((hd 4 (by kernel_rfl) 26 rfl) _ rfl) hm4) (fun _ h => Option.some.inj h)⟩
        refine ⟨?_, ?_⟩
        · intro a' w' k' hb hf hs hc hd
          exact ⟨wanted_none rfl, left_call 59 _ (en_call4 rfl rfl ((hd 0 (by kernel_rfl) 22 rfl) _ rfl) ((hd 1 (by kernel_rfl) 23 rfl) _ rfl) ((hd 2 (by kernel_rfl) 24 rfl) _ rfl) ((hd 5 (by kernel_rfl) 27 rfl) _ rfl) cfk59) ((unhide HG _ hf).mono (by rintro e w7 ⟨rfl, f⟩; exact ⟨_, rfl, fun _ h => Option.some.inj h, f.mono (fun _ _ h => h.elim), by rw [if_neg (by decide)]; exact StR.kept hs f⟩))⟩
        refine ⟨?_, ?_⟩
        · intro a' w' k' hb hf hs hc hd
          exact ⟨wanted_none rfl, left_val (Value.slice (some ⟨b, o, none⟩) L cap) (by decide) hs (xk_move rfl ((hb.old 3 (by decide +kernel)).trans h3)) (fun _ h => Option.some.inj h)⟩
        refine ⟨?_, ?_⟩
        · intro a' w' k' hb hf hs hc hd
          exact ⟨wanted_none rfl, left_val (.int .i64 ((m : Nat) : Int)) (by decide) hs (xk_move rfl ((hb.old 10 (by decide +kernel)).trans h10)) (fun _ h => Option.some.inj h)⟩
        refine ⟨?_, ?_⟩
        · intro a' w' k' hb hf hs hc hd
          exact ⟨wanted_none rfl, left_val (.pointer (some ⟨b, o + m * 32, none⟩)) (by decide) hs (xk_index rfl ((hd 7 (by kernel_rfl) 29 rfl) _ rfl) ((hd 8 (by kernel_rfl) 30 rfl) _ rfl) hm3) (fun _ h => Option.some.inj h)⟩
        refine ⟨?_, ?_⟩
        · intro a' w' k' hb hf hs hc hd
          exact ⟨wanted_none rfl, left_val (.agg (bvs DL).toArray) (by decide) hs (ex_load26 rfl ((hd 9 (by kernel_rfl) 31 rfl) _ rfl) (unhide HLL) (unhide HK _ hf).2) (fun _ h => Option.some.inj h)⟩
        refine ⟨?_, ?_⟩
        · intro a' w' k' hb hf hs hc hd
          exact ⟨wanted_none rfl, left_call 62 _ (en_call2 rfl rfl ((hd 6 (by kernel_rfl) 28 rfl) _ rfl) ((hd 10 (by kernel_rfl) 32 rfl) _ rfl) cfk62) ((unhide HJ _ hf).mono (by rintro e w7 ⟨rfl, f⟩; exact ⟨_, rfl, fun _ h => Option.some.inj h, f.mono (fun _ _ h => h.elim), by rw [if_neg (by decide)]; exact StR.kept hs f⟩))⟩
        refine ⟨?_, ?_⟩
        · intro a' w' k' hb hf hs hc hd
          obtain rfl := hc 0 rfl
          exact ⟨wanted_none rfl, left_store _ _ 26 rfl (by decide) (w.heap.size + 1) 0 (bvs D).toArray ((hb.old 8 (by decide +kernel)).trans h8) ((hd 11 (by kernel_rfl) 33 rfl) _ rfl) ((unhide PP).there hs) (unhide PP).hi2 (unhide PP).oneA (fun _ h => Option.some.inj h) rfl (ZAt.putB hs D (unhide HCL))⟩
        exact trivial
      case done =>
        intro a' w' hb hf hs hall
        have e8 : a'.tmps.getD 8 undef = .pointer (some ⟨w.heap.size + 1, 0, none⟩) := (hb.old 8 (by decide +kernel)).trans h8
        have hdf' : a'.defers = [] := by rw [hb.defers]; exact hdf
        have hF : Fr (fun _ => False) w w' := (unhide F1).trans hf (fun k hk e => by omega)
        have hr : bodyPost Tryd.prog Tryd.f59 (fun e w' => e = Ending.returned (.agg (bvs D).toArray) ∧ Fr (fun _ => False) w w') .ret a' w' :=
          bodyPost_ret (ret_agg rfl _ _ (w.heap.size + 1) 0 _ _ e8 (bat_range hs) Tryd.u26 rfl (unhide PP).hi) hdf' ⟨rfl, hF⟩
        clear hall hb
        apply_assumption
        exact wp_ret hr
    · have hmore := clm_right d i n ps (by omega) hl
      have hst := stp_right i n (by omega) hl
      have htk := hv.take hpos (ps.length - 1) (by omega)
      have hdl := clm_length d (i - hf n) (n - hf n) (ps.take (ps.length - 1)) hd
      have ihG : ∀ (W : World), Fr (fun _ => False) w W → Calls Tryd.prog 59 #[.agg (bvs d).toArray, .int .i64 ((i - hf n : Nat) : Int), .int .i64 ((n - hf n : Nat) : Int), .slice (some ⟨b, o, none⟩) (ps.length - 1) cap] W fun e w' => e = .returned (.agg (bvs (clm d (i - hf n) (n - hf n) (ps.take (ps.length - 1)))).toArray) ∧ Fr (fun _ => False) W w' :=
        fun W f => ih (n - hf n) (by omega) W d (i - hf n) _ _ (by omega) (by omega) hd (by simp; omega) (by
          have h := htk.kept f
          simpa [List.length_take, Nat.min_eq_left (show ps.length - 1 ≤ ps.length by omega)] using h)
      have hjn := fun W (f : Fr (fun _ => False) w W) => node_any W _ _ hlast hdl
      rw [← hmore] at hjn
      have hli : ¬ ((i : Nat) : Int) < ((hf n : Nat) : Int) := by omega
      have hki : hf n ≤ i := by omega
      have hkn : hf n ≤ n := by omega
      obtain ⟨i2, e1⟩ : ∃ i2, i - hf n = i2 := ⟨_, rfl⟩
      obtain ⟨n2, e2⟩ : ∃ n2, n - hf n = n2 := ⟨_, rfl⟩
      rw [e1, e2] at hjn ihG
      generalize clm d i2 n2 (ps.take (ps.length - 1)) = DA at *
      generalize clm d i n ps = D at *
      generalize ps.getD (ps.length - 1) [] = DL at *
      have PP := hide (Put.of hcl)
      have HCL := hide hcl
      have HLL := hide hlast
      have HDD := hide hd
      have hLb : ps.length ≤ 1048576 := by have := stp_le n i; omega
      have IG := hide ihG
      have JN := hide hjn
      clear ihG hjn hmore hst htk hdl ih hv hc hps hd
      generalize hf n = k at *
      generalize ps.length = L at *
      have em : ((L : Nat) : Int) - 1 = ((L - 1 : Nat) : Int) := by omega
      have hm3 : L - 1 < L := by omega
      have hm4 : L - 1 ≤ cap := by omega
      generalize L - 1 = m at *
      have HW64 := hide em
      clear em
      go_enter Tryd.func59, Tryd.ntmps59
      go_wp2_with fail
      refine (unhide HH _).mono ?_
      rintro e w1 ⟨rfl, hw1⟩
      have f1 : Fr (fun _ => False) w w1 := by rw [← hw1]; exact ((Fr.refl _ _).alloc _).alloc _
      have hbx : w1.heap[w.heap.size]? = some (.cells (bvs d).toArray 26 (0, 0)) := by rw [← hw1]; exact BlockAt.two w _ _
      have hR1 : ZAt w1 (w.heap.size + 1) 26 32 := by rw [← hw1]; exact ⟨_, BlockAt.one w _ _, rfl⟩
      clear hw1
      have hS2 : w1.rangeAt b (o + m * 32) (bvs DL) := rangeAt_kept hLast f1 hbl id
      have hs1 : w.heap.size + 1 < w1.heap.size := by obtain ⟨cs, h, -⟩ := hR1; exact lt_of_heap h
      have HK : Hid (∀ W, Fr (fun k => k = w.heap.size + 1) w1 W → W.rangeAt w.heap.size 0 (bvs d) ∧ W.rangeAt b (o + m * 32) (bvs DL)) := hide fun W f => ⟨rangeAt_kept (bat_range hbx) f (by omega) (by omega), rangeAt_kept hS2 f (by omega) (by omega)⟩
      have HG := hide fun (W : World) (f : Fr (fun k => k = w.heap.size + 1) w1 W) => unhide IG W (f1.trans f (fun k hk e => by omega))
      have HJ := hide fun (W : World) (f : Fr (fun k => k = w.heap.size + 1) w1 W) => unhide JN W (f1.trans f (fun k hk e => by omega))
      have F1 := hide f1
      have HR1 := hide hR1
      clear f1 hR1 hbx hLast hS2 IG JN HH
      go_wp2_with fail
      refine wp_nameK ?_
      intro a0 hA
      have h1 : a0.tmps.getD 1 undef = Value.int .i64 ((i : Nat) : Int) := by rw [hA]; rfl
      have h2 : a0.tmps.getD 2 undef = Value.int .i64 ((n : Nat) : Int) := by rw [hA]; rfl
      have h3 : a0.tmps.getD 3 undef = Value.slice (some ⟨b, o, none⟩) L cap := by rw [hA]; rfl
      have h4 : a0.tmps.getD 4 undef = Value.pointer (some ⟨w.heap.size, 0, none⟩) := by rw [hA]; rfl
      have h8 : a0.tmps.getD 8 undef = Value.pointer (some ⟨w.heap.size + 1, 0, none⟩) := by rw [hA]; rfl
      have h9 : a0.tmps.getD 9 undef = Value.int .i64 ((k : Nat) : Int) := by rw [hA]; rfl
      have h10 : a0.tmps.getD 10 undef = Value.int .i64 ((m : Nat) : Int) := by rw [hA]; exact congrArg (Value.int .i64) (unhide HW64)
      have hsz : a0.tmps.size = 50 := by rw [hA]; rfl
      have hdf : a0.defers = [] := by rw [hA]
      clear hA
      refine wp_region_chain (by kernel_rfl) (by kernel_rfl) (by decide +kernel) (by rw [hsz]; decide +kernel) (fun w' w'' => Fr (fun k => k = w.heap.size + 1) w' w'') (Fr.refl _ _).drew (fun _ _ _ h k => h.trans k (fun _ _ h => h))
        (Tv [Value.slice (some ⟨b, o, none⟩) L cap, .int .i64 ((m : Nat) : Int), .pointer (some ⟨b, o + m * 32, none⟩), .agg (bvs DL).toArray, .agg (bvs d).toArray, .int .i64 ((i : Nat) : Int), .int .i64 ((k : Nat) : Int), .int .i64 ((i2 : Nat) : Int), .int .i64 ((n : Nat) : Int), .int .i64 ((k : Nat) : Int), .int .i64 ((n2 : Nat) : Int), Value.slice (some ⟨b, o, none⟩) L cap, .int .i64 ((m : Nat) : Int), Value.slice (some ⟨b, o, none⟩) m cap, .agg (bvs DA).toArray, .agg (bvs D).toArray, undef]) (Tv.mono _ _) [16] (by decide) (by decide) (chain_paths _ [] (by kernel_rfl)) (StR (w.heap.size + 1) D) (unhide HR1) ?steps ?done
      case steps =>
        refine ⟨?_, ?_⟩
        · intro a' w' k' hb hf hs hc hd
          exact ⟨wanted_none rfl, left_val (Value.slice (some ⟨b, o, none⟩) L cap) (by decide) hs (xk_move rfl ((hb.old 3 (by decide +kernel)).trans h3)) (fun _ h => Option.some.inj h)⟩
        refine ⟨?_, ?_⟩
        · intro a' w' k' hb hf hs hc hd
          exact ⟨wanted_none rfl, left_val (.int .i64 ((m : Nat) : Int)) (by decide) hs (xk_move rfl ((hb.old 10 (by decide +kernel)).trans h10)) (fun _ h => Option.some.inj h)⟩
        refine ⟨?_, ?_⟩
        · intro a' w' k' hb hf hs hc hd
          exact ⟨wanted_none rfl, left_val (.pointer (some ⟨b, o + m * 32, none⟩)) (by decide) hs (xk_index rfl ((hd 0 (by kernel_rfl) 34 rfl) _ rfl) ((hd 1 (by kernel_rfl) 35 rfl) _ rfl) hm3) (fun _ h => Option.some.inj h)⟩
        refine ⟨?_, ?_⟩
        · intro a' w' k' hb hf hs hc hd
          exact ⟨wanted_none rfl, left_val (.agg (bvs DL).toArray) (by decide) hs (ex_load26 rfl ((hd 2 (by kernel_rfl) 36 rfl) _ rfl) (unhide HLL) (unhide HK _ hf).2) (fun _ h => Option.some.inj h)⟩
        refine ⟨?_, ?_⟩
        · intro a' w' k' hb hf hs hc hd
          exact ⟨wanted_none rfl, left_val (.agg (bvs d).toArray) (by decide) hs (ex_load26 rfl ((hb.old 4 (by decide +kernel)).trans h4) (unhide HDD) (unhide HK _ hf).1) (fun _ h => Option.some.inj h)⟩
        refine ⟨?_, ?_⟩
        · intro a' w' k' hb hf hs hc hd
          exact ⟨wanted_none rfl, left_val (.int .i64 ((i : Nat) : Int)) (by decide) hs (xk_move rfl ((hb.old 1 (by decide +kernel)).trans h1)) (fun _ h => Option.some.inj h)⟩
        refine ⟨?_, ?_⟩
        · intro a' w' k' hb hf hs hc hd
          exact ⟨wanted_none rfl, left_val (.int .i64 ((k : Nat) : Int)) (by decide) hs (xk_move rfl ((hb.old 9 (by decide +kernel)).trans h9)) (fun _ h => Option.some.inj h)⟩
        refine ⟨?_, ?_⟩
        · intro a' w' k' hb hf hs hc hd
          exact ⟨wanted_none rfl, left_val (.int .i64 ((i2 : Nat) : Int)) (by decide) hs (xk_sub rfl ((hd 5 (by kernel_rfl) 39 rfl) _ rfl) ((hd 6 (by kernel_rfl) 40 rfl) _ rfl) hki (by omega) e1) (fun _ h => Option.some.inj h)⟩
        refine ⟨?_, ?_⟩
        · intro a' w' k' hb hf hs hc hd
          exact ⟨wanted_none rfl, left_val (.int .i64 ((n : Nat) : Int)) (by decide) hs (xk_move rfl ((hb.old 2 (by decide +kernel)).trans h2)) (fun _ h => Option.some.inj h)⟩
        refine ⟨?_, ?_⟩
        · intro a' w' k' hb hf hs hc hd
          exact ⟨wanted_none rfl, left_val (.int .i64 ((k : Nat) : Int)) (by decide) hs (xk_move rfl ((hb.old 9 (by decide +kernel)).trans h9)) (fun _ h => Option.some.inj h)⟩
        refine ⟨?_, ?_⟩
        · intro a' w' k' hb hf hs hc hd
          exact ⟨wanted_none rfl, left_val (.int .i64 ((n2 : Nat) : Int)) (by decide) hs (xk_sub rfl ((hd 8 (by kernel_rfl) 42 rfl) _ rfl) ((hd 9 (by kernel_rfl) 43 rfl) _ rfl) hkn (by omega) e2) (fun _ h => Option.some.inj h)⟩
        refine ⟨?_, ?_⟩
        · intro a' w' k' hb hf hs hc hd
          exact ⟨wanted_none rfl, left_val (Value.slice (some ⟨b, o, none⟩) L cap) (by decide) hs (xk_move rfl ((hb.old 3 (by decide +kernel)).trans h3)) (fun _ h => Option.some.inj h)⟩
        refine ⟨?_, ?_⟩
        · intro a' w' k' hb hf hs hc hd
          exact ⟨wanted_none rfl, left_val (.int .i64 ((m : Nat) : Int)) (by decide) hs (xk_move rfl ((hb.old 10 (by decide +kernel)).trans h10)) (fun _ h => Option.some.inj h)⟩
        refine ⟨?_, ?_⟩
        · intro a' w' k' hb hf hs hc hd
          exact ⟨wanted_none rfl, left_val (Value.slice (some ⟨b, o, none⟩) m cap) (by decide) hs (xk_slice rfl ((hd 11 (by kernel_rfl) 45 rfl) _ rfl) ((hd 12 (by kernel_rfl) 46 rfl) _ rfl) hm4) (fun _ h => Option.some.inj h)⟩
        refine ⟨?_, ?_⟩
        · intro a' w' k' hb hf hs hc hd
          exact ⟨wanted_none rfl, left_call 59 _ (en_call4 rfl rfl ((hd 4 (by kernel_rfl) 38 rfl) _ rfl) ((hd 7 (by kernel_rfl) 41 rfl) _ rfl) ((hd 10 (by kernel_rfl) 44 rfl) _ rfl) ((hd 13 (by kernel_rfl) 47 rfl) _ rfl) cfk59) ((unhide HG _ hf).mono (by rintro e w7 ⟨rfl, f⟩; exact ⟨_, rfl, fun _ h => Option.some.inj h, f.mono (fun _ _ h => h.elim), by rw [if_neg (by decide)]; exact StR.kept hs f⟩))⟩
        refine ⟨?_, ?_⟩
        · intro a' w' k' hb hf hs hc hd
          exact ⟨wanted_none rfl, left_call 62 _ (en_call2 rfl rfl ((hd 3 (by kernel_rfl) 37 rfl) _ rfl) ((hd 14 (by kernel_rfl) 48 rfl) _ rfl) cfk62) ((unhide HJ _ hf).mono (by rintro e w7 ⟨rfl, f⟩; exact ⟨_, rfl, fun _ h => Option.some.inj h, f.mono (fun _ _ h => h.elim), by rw [if_neg (by decide)]; exact StR.kept hs f⟩))⟩
        refine ⟨?_, ?_⟩
        · intro a' w' k' hb hf hs hc hd
          obtain rfl := hc 0 rfl
          exact ⟨wanted_none rfl, left_store _ _ 26 rfl (by decide) (w.heap.size + 1) 0 (bvs D).toArray ((hb.old 8 (by decide +kernel)).trans h8) ((hd 15 (by kernel_rfl) 49 rfl) _ rfl) ((unhide PP).there hs) (unhide PP).hi2 (unhide PP).oneA (fun _ h => Option.some.inj h) rfl (ZAt.putB hs D (unhide HCL))⟩
        exact trivial
      case done =>
        intro a' w' hb hf hs hall
        have e8 : a'.tmps.getD 8 undef = .pointer (some ⟨w.heap.size + 1, 0, none⟩) := (hb.old 8 (by decide +kernel)).trans h8
        have hdf' : a'.defers = [] := by rw [hb.defers]; exact hdf
        have hF : Fr (fun _ => False) w w' := (unhide F1).trans hf (fun k hk e => by omega)
        have hr : bodyPost Tryd.prog Tryd.f59 (fun e w' => e = Ending.returned (.agg (bvs D).toArray) ∧ Fr (fun _ => False) w w') .ret a' w' :=
          bodyPost_ret (ret_agg rfl _ _ (w.heap.size + 1) 0 _ _ e8 (bat_range hs) Tryd.u26 rfl (unhide PP).hi) hdf' ⟨rfl, hF⟩
        clear hall hb
        apply_assumption
        exact wp_ret hr

#print axioms climbed_any
end Go.Proofs.YtlicmlioilkfdaaDoor
