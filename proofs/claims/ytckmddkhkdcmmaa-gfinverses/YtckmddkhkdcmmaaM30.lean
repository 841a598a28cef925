/-
  GfInverses: the walk of its law.
-/
import Derived.Test.YtckmddkhkdcmmaaM29
namespace Go.Proofs.Ytckmddkhkdcmmaa
set_option linter.unusedVariables false
set_option linter.unusedSimpArgs false
open Go.RowKit
set_option linter.unusedVariables false
set_option linter.unusedSimpArgs false

attribute [local go_sem ↓] Go.wp_at_zero Go.wp_at_succ

theorem two_a (w1 : World) (A B : Array Value) : ((w1.alloc (Obj.cells A 24)).alloc (Obj.cells B 24)).heap[w1.heap.size]? = some (.cells A 24 (0, 0)) ∧ ((w1.alloc (Obj.cells A 24)).alloc (Obj.cells B 24)).heap[w1.heap.size + 1]? = some (.cells B 24 (0, 0)) := two_allocs w1 A B
theorem chk_wd {r c : Int} {n : Nat} (h : wdB r c n = false) : n ≤ 4000 := by unfold wdB at h; simp at h; omega
theorem KX_ok {ra ca : Nat} {l : List UInt8} (h : chk (ra : Int) (ca : Int) l.length = 0) : KX (ra : Int) (ca : Int) l = (((rk l ra ca : Nat) : Int), 0) := by unfold KX; rw [if_pos h]; simp [rk]
theorem TX_ok {ra ca : Nat} {l : List UInt8} (h : chk (ra : Int) (ca : Int) l.length = 0) : TX (ra : Int) (ca : Int) l = ((ca : Int), (ra : Int), tuL ra ca l, 0) := by unfold TX; rw [if_pos h]; simp
theorem PX_ok {ra ca cb : Nat} {la lb : List UInt8} (h : chk (ra : Int) (ca : Int) la.length = 0) (h2 : chk (ca : Int) (cb : Int) lb.length = 0) : PX (ra : Int) (ca : Int) la (ca : Int) (cb : Int) lb = ((ra : Int), (cb : Int), prL ra ca cb la lb, 0) := by unfold PX; rw [if_pos h, if_pos h2, if_pos rfl]; simp
theorem PX_no {ra ca rb cb : Nat} {la lb : List UInt8} (h : chk (ra : Int) (ca : Int) la.length = 0) (h2 : chk (rb : Int) (cb : Int) lb.length = 0) (h3 : ca ≠ rb) : PX (ra : Int) (ca : Int) la (rb : Int) (cb : Int) lb = (0, 0, [], 23) := by unfold PX; rw [if_pos h, if_pos h2, if_neg (by omega)]
theorem IX_side {ra ca : Nat} {l : List UInt8} (h : chk (ra : Int) (ca : Int) l.length = 0) (h2 : ra ≠ ca) : IX (ra : Int) (ca : Int) l = (0, 0, [], 23) := by unfold IX; rw [if_pos h, if_neg (by omega)]
theorem IX_flat {n : Nat} {l : List UInt8} (h : chk (n : Int) (n : Int) l.length = 0) (hl : l.length = n * n) (h2 : rk l n n ≠ n) : IX (n : Int) (n : Int) l = (0, 0, [], 22) := by
  unfold IX
  rw [if_pos h, if_pos rfl, if_pos]
  have h3 := redK_col (bsd l n n eyeC n) n
  have h4 : (invR n l).2 ≠ n := fun e => h2 ((rk_full hl).1 e)
  simp only [Int.toNat_natCast]
  unfold invR at *
  omega
theorem IX_full {n : Nat} {l : List UInt8} (h : chk (n : Int) (n : Int) l.length = 0) (hl : l.length = n * n) (h2 : rk l n n = n) : IX (n : Int) (n : Int) l = ((n : Int), (n : Int), invL n l, 0) := by
  unfold IX
  have h4 := (rk_full hl).2 h2
  rw [if_pos h, if_pos rfl, if_neg (by simp only [Int.toNat_natCast]; omega)]
  simp
theorem MR_of {w w' : World} {e : Ending} {R C E : Int} {L : List UInt8} {X : Int × Int × List UInt8 × Int} (h : MX w w' e X) (hX : X = (R, C, L, E)) : MR w w' e R C L E := by subst hX; exact h
theorem KR_of {w w' : World} {e : Ending} {X Y : Int × Int} (h : KR w w' e X) (hX : X = Y) : KR w w' e Y := by subst hX; exact h
set_option maxHeartbeats 8000000 in
set_option maxRecDepth 100000 in
theorem gi_live1 (w : World) (r c r2 c2 : Int) (ao bo : Option Addr) (na ca nb cb : Nat) (h1 : wdB r c na = true) : Calls Try.prog 5 #[.agg #[.int .i64 r, .int .i64 c, .slice ao na ca], .agg #[.int .i64 r2, .int .i64 c2, .slice bo nb cb]] w fun e w' => e = .returned (.bool true) ∧ Fr (fun _ => False) w w' := by
  go_enter Try.func5, Try.ntmps5
  go_upto_region 1 with fail
  have T := two_a w #[.int .i64 r, .int .i64 c, .slice ao na ca] #[.int .i64 r2, .int .i64 c2, .slice bo nb cb]
  have F0 : Fr (fun _ => False) w ((w.alloc (Obj.cells #[.int .i64 r, .int .i64 c, .slice ao na ca] 24)).alloc (Obj.cells #[.int .i64 r2, .int .i64 c2, .slice bo nb cb] 24)) := ((Fr.refl _ _).alloc _).alloc _
  generalize (w.alloc (Obj.cells #[.int .i64 r, .int .i64 c, .slice ao na ca] 24)).alloc (Obj.cells #[.int .i64 r2, .int .i64 c2, .slice bo nb cb] 24) = w1 at *
  have g2 : Hd w1 w.heap.size r c (.slice ao na ca) := T.1
  have g3 : Hd w1 (w.heap.size + 1) r2 c2 (.slice bo nb cb) := T.2
  generalize w.heap.size + 1 = p3 at *
  generalize w.heap.size = p2 at *
  clear T
  obtain ⟨x0, x1, x2, -⟩ := g2.facts w1 (Fr.refl _ _)
  obtain ⟨z0, z1, z2, -⟩ := g3.facts w1 (Fr.refl _ _)
  have l2 := g2.lt
  have l3 := g3.lt
  have G2 := hide g2
  have G3 := hide g3
  have F1 := hide F0
  clear g2 g3 F0
  go_wp2_with fail
  refine mono_ext (wide_any _ _ _ _ _ _) ?_
  rintro e E1 rfl L1
  rw [h1]
  go_wp2_with fail
  refine mono_ext (live_any _) ?_
  rintro e E9 rfl L9
  go_wp2_with fail
  go_ret
  exact ⟨rfl, by repeat first | exact (unhide F1) | (refine Fr.ext ?_ ?_; rotate_left; assumption)⟩
set_option maxHeartbeats 8000000 in
set_option maxRecDepth 100000 in
theorem gi_live2 (w : World) (r c r2 c2 : Int) (ao bo : Option Addr) (na ca nb cb : Nat) (h1 : wdB r c na = false) (h2 : wdB r2 c2 nb = true) : Calls Try.prog 5 #[.agg #[.int .i64 r, .int .i64 c, .slice ao na ca], .agg #[.int .i64 r2, .int .i64 c2, .slice bo nb cb]] w fun e w' => e = .returned (.bool true) ∧ Fr (fun _ => False) w w' := by
  go_enter Try.func5, Try.ntmps5
  go_upto_region 1 with fail
  have T := two_a w #[.int .i64 r, .int .i64 c, .slice ao na ca] #[.int .i64 r2, .int .i64 c2, .slice bo nb cb]
  have F0 : Fr (fun _ => False) w ((w.alloc (Obj.cells #[.int .i64 r, .int .i64 c, .slice ao na ca] 24)).alloc (Obj.cells #[.int .i64 r2, .int .i64 c2, .slice bo nb cb] 24)) := ((Fr.refl _ _).alloc _).alloc _
  generalize (w.alloc (Obj.cells #[.int .i64 r, .int .i64 c, .slice ao na ca] 24)).alloc (Obj.cells #[.int .i64 r2, .int .i64 c2, .slice bo nb cb] 24) = w1 at *
  have g2 : Hd w1 w.heap.size r c (.slice ao na ca) := T.1
  have g3 : Hd w1 (w.heap.size + 1) r2 c2 (.slice bo nb cb) := T.2
  generalize w.heap.size + 1 = p3 at *
  generalize w.heap.size = p2 at *
  clear T
  obtain ⟨x0, x1, x2, -⟩ := g2.facts w1 (Fr.refl _ _)
  obtain ⟨z0, z1, z2, -⟩ := g3.facts w1 (Fr.refl _ _)
  have l2 := g2.lt
  have l3 := g3.lt
  have G2 := hide g2
  have G3 := hide g3
  have F1 := hide F0
  clear g2 g3 F0
  go_wp2_with fail
  refine mono_ext (wide_any _ _ _ _ _ _) ?_
  rintro e E1 rfl L1
  rw [h1]
  go_wp2_with fail
  refine mono_ext (wide_any _ _ _ _ _ _) ?_
  rintro e E2 rfl L2
  rw [h2]
  rw [ext_ext]
  have K2 := L1.ext L2
  clear L1 L2
  have L2 := K2
  clear K2
  generalize ext E1 E2 = E2 at *
  go_wp2_with fail
  refine mono_ext (live_any _) ?_
  rintro e E9 rfl L9
  go_wp2_with fail
  go_ret
  exact ⟨rfl, by repeat first | exact (unhide F1) | (refine Fr.ext ?_ ?_; rotate_left; assumption)⟩
set_option maxHeartbeats 8000000 in
set_option maxRecDepth 100000 in
theorem gi_live3 (w : World) (r c r2 c2 : Int) (ao bo : Option Addr) (na ca nb cb : Nat) (h1 : wdB r c na = false) (h2 : wdB r2 c2 nb = false) (h3 : (chk r c na != 0) = true) : Calls Try.prog 5 #[.agg #[.int .i64 r, .int .i64 c, .slice ao na ca], .agg #[.int .i64 r2, .int .i64 c2, .slice bo nb cb]] w fun e w' => e = .returned (.bool true) ∧ Fr (fun _ => False) w w' := by
  go_enter Try.func5, Try.ntmps5
  go_upto_region 1 with fail
  have T := two_a w #[.int .i64 r, .int .i64 c, .slice ao na ca] #[.int .i64 r2, .int .i64 c2, .slice bo nb cb]
  have F0 : Fr (fun _ => False) w ((w.alloc (Obj.cells #[.int .i64 r, .int .i64 c, .slice ao na ca] 24)).alloc (Obj.cells #[.int .i64 r2, .int .i64 c2, .slice bo nb cb] 24)) := ((Fr.refl _ _).alloc _).alloc _
  generalize (w.alloc (Obj.cells #[.int .i64 r, .int .i64 c, .slice ao na ca] 24)).alloc (Obj.cells #[.int .i64 r2, .int .i64 c2, .slice bo nb cb] 24) = w1 at *
  have g2 : Hd w1 w.heap.size r c (.slice ao na ca) := T.1
  have g3 : Hd w1 (w.heap.size + 1) r2 c2 (.slice bo nb cb) := T.2
  generalize w.heap.size + 1 = p3 at *
  generalize w.heap.size = p2 at *
  clear T
  obtain ⟨x0, x1, x2, -⟩ := g2.facts w1 (Fr.refl _ _)
  obtain ⟨z0, z1, z2, -⟩ := g3.facts w1 (Fr.refl _ _)
  have l2 := g2.lt
  have l3 := g3.lt
  have G2 := hide g2
  have G3 := hide g3
  have F1 := hide F0
  clear g2 g3 F0
  go_wp2_with fail
  refine mono_ext (wide_any _ _ _ _ _ _) ?_
  rintro e E1 rfl L1
  rw [h1]
  go_wp2_with fail
  refine mono_ext (wide_any _ _ _ _ _ _) ?_
  rintro e E2 rfl L2
  rw [h2]
  rw [ext_ext]
  have K2 := L1.ext L2
  clear L1 L2
  have L2 := K2
  clear K2
  generalize ext E1 E2 = E2 at *
  go_wp2_with fail
  refine mono_ext (rchk_any _ _ _ _ _ _) ?_
  rintro e E3 rfl L3
  rw [ext_ext]
  have K3 := L2.ext L3
  clear L2 L3
  have L3 := K3
  clear K3
  generalize ext E2 E3 = E3 at *
  go_wp2_with fail
  refine mono_ext (live_any _) ?_
  rintro e E9 rfl L9
  go_wp2_with fail
  go_ret
  exact ⟨rfl, by repeat first | exact (unhide F1) | (refine Fr.ext ?_ ?_; rotate_left; assumption)⟩
set_option maxHeartbeats 8000000 in
set_option maxRecDepth 100000 in
theorem gi_live4 (w : World) (r c r2 c2 : Int) (ao bo : Option Addr) (na ca nb cb : Nat) (h1 : wdB r c na = false) (h2 : wdB r2 c2 nb = false) (h3 : chk r c na = 0) (h4 : (chk r2 c2 nb != 0) = true) : Calls Try.prog 5 #[.agg #[.int .i64 r, .int .i64 c, .slice ao na ca], .agg #[.int .i64 r2, .int .i64 c2, .slice bo nb cb]] w fun e w' => e = .returned (.bool true) ∧ Fr (fun _ => False) w w' := by
  go_enter Try.func5, Try.ntmps5
  go_upto_region 1 with fail
  have T := two_a w #[.int .i64 r, .int .i64 c, .slice ao na ca] #[.int .i64 r2, .int .i64 c2, .slice bo nb cb]
  have F0 : Fr (fun _ => False) w ((w.alloc (Obj.cells #[.int .i64 r, .int .i64 c, .slice ao na ca] 24)).alloc (Obj.cells #[.int .i64 r2, .int .i64 c2, .slice bo nb cb] 24)) := ((Fr.refl _ _).alloc _).alloc _
  generalize (w.alloc (Obj.cells #[.int .i64 r, .int .i64 c, .slice ao na ca] 24)).alloc (Obj.cells #[.int .i64 r2, .int .i64 c2, .slice bo nb cb] 24) = w1 at *
  have g2 : Hd w1 w.heap.size r c (.slice ao na ca) := T.1
  have g3 : Hd w1 (w.heap.size + 1) r2 c2 (.slice bo nb cb) := T.2
  generalize w.heap.size + 1 = p3 at *
  generalize w.heap.size = p2 at *
  clear T
  obtain ⟨x0, x1, x2, -⟩ := g2.facts w1 (Fr.refl _ _)
  obtain ⟨z0, z1, z2, -⟩ := g3.facts w1 (Fr.refl _ _)
  have l2 := g2.lt
  have l3 := g3.lt
  have G2 := hide g2
  have G3 := hide g3
  have F1 := hide F0
  clear g2 g3 F0
  go_wp2_with fail
  refine mono_ext (wide_any _ _ _ _ _ _) ?_
  rintro e E1 rfl L1
  rw [h1]
  go_wp2_with fail
  refine mono_ext (wide_any _ _ _ _ _ _) ?_
  rintro e E2 rfl L2
  rw [h2]
  rw [ext_ext]
  have K2 := L1.ext L2
  clear L1 L2
  have L2 := K2
  clear K2
  generalize ext E1 E2 = E2 at *
  go_wp2_with fail
  refine mono_ext (rchk_any _ _ _ _ _ _) ?_
  rintro e E3 rfl L3
  rw [h3]
  rw [ext_ext]
  have K3 := L2.ext L3
  clear L2 L3
  have L3 := K3
  clear K3
  generalize ext E2 E3 = E3 at *
  go_wp2_with fail
  refine mono_ext (rchk_any _ _ _ _ _ _) ?_
  rintro e E4 rfl L4
  rw [ext_ext]
  have K4 := L3.ext L4
  clear L3 L4
  have L4 := K4
  clear K4
  generalize ext E3 E4 = E4 at *
  go_wp2_with fail
  refine mono_ext (live_any _) ?_
  rintro e E9 rfl L9
  go_wp2_with fail
  go_ret
  exact ⟨rfl, by repeat first | exact (unhide F1) | (refine Fr.ext ?_ ?_; rotate_left; assumption)⟩
set_option maxHeartbeats 32000000 in
set_option maxRecDepth 100000 in
theorem gi_ok (w : World) (ra ca rb cb : Nat) (ao bo : Option Addr) (na ka nb kb : Nat) (la lb : List UInt8) (ha : Rd w (.slice ao na ka) la) (hb : Rd w (.slice bo nb kb) lb) (hna : na = la.length) (hnb : nb = lb.length)
    (h1 : wdB (ra : Int) (ca : Int) na = false) (h2 : wdB (rb : Int) (cb : Int) nb = false) (h3 : chk (ra : Int) (ca : Int) na = 0) (h4 : chk (rb : Int) (cb : Int) nb = 0) (hla : la.length = ra * ca) (hlb : lb.length = rb * cb) (hra : 1 ≤ ra ∧ ra ≤ 64) (hca : 1 ≤ ca ∧ ca ≤ 64) (hrb : 1 ≤ rb ∧ rb ≤ 64) (hcb : 1 ≤ cb ∧ cb ≤ 64) :
    Calls Try.prog 5 #[.agg #[.int .i64 (ra : Int), .int .i64 (ca : Int), .slice ao na ka], .agg #[.int .i64 (rb : Int), .int .i64 (cb : Int), .slice bo nb kb]] w fun e w' => e = .returned (.bool true) ∧ Fr (fun _ => False) w w' := by
  have HA := hide ha
  have HB := hide hb
  have HNA := hide hna
  have HNB := hide hnb
  have HLA := hide hla
  have HLB := hide hlb
  have HCA := hide (show chk (ra : Int) (ca : Int) la.length = 0 from by rw [← hna]; exact h3)
  have HCB := hide (show chk (rb : Int) (cb : Int) lb.length = 0 from by rw [← hnb]; exact h4)
  have HCT := hide (show chk (ca : Int) (ra : Int) (tuL ra ca la).length = 0 from chk_ok hca hra (tuL_length _ _ _))
  have HLL := hide (show la.length ≤ 4000 ∧ lb.length ≤ 4000 from ⟨hna ▸ chk_wd h1, hnb ▸ chk_wd h2⟩)
  clear ha hb hna hnb hla hlb
  go_enter Try.func5, Try.ntmps5
  go_upto_region 1 with fail
  have T := two_a w #[.int .i64 (ra : Int), .int .i64 (ca : Int), .slice ao na ka] #[.int .i64 (rb : Int), .int .i64 (cb : Int), .slice bo nb kb]
  have F0 : Fr (fun _ => False) w ((w.alloc (Obj.cells #[.int .i64 (ra : Int), .int .i64 (ca : Int), .slice ao na ka] 24)).alloc (Obj.cells #[.int .i64 (rb : Int), .int .i64 (cb : Int), .slice bo nb kb] 24)) := ((Fr.refl _ _).alloc _).alloc _
  generalize (w.alloc (Obj.cells #[.int .i64 (ra : Int), .int .i64 (ca : Int), .slice ao na ka] 24)).alloc (Obj.cells #[.int .i64 (rb : Int), .int .i64 (cb : Int), .slice bo nb kb] 24) = w1 at *
  have g2 : Hd w1 w.heap.size (ra : Int) (ca : Int) (.slice ao na ka) := T.1
  have g3 : Hd w1 (w.heap.size + 1) (rb : Int) (cb : Int) (.slice bo nb kb) := T.2
  generalize w.heap.size + 1 = p3 at *
  generalize w.heap.size = p2 at *
  clear T
  obtain ⟨x0, x1, x2, -⟩ := g2.facts w1 (Fr.refl _ _)
  obtain ⟨z0, z1, z2, -⟩ := g3.facts w1 (Fr.refl _ _)
  have l2 := g2.lt
  have l3 := g3.lt
  have G2 := hide g2
  have G3 := hide g3
  have F1 := hide F0
  clear g2 g3 F0
  go_wp2_with fail
  refine mono_ext (wide_any _ _ _ _ _ _) ?_
  rintro e E1 rfl L1
  rw [h1]
  go_wp2_with fail
  refine mono_ext (wide_any _ _ _ _ _ _) ?_
  rintro e E2 rfl L2
  rw [h2]
  rw [ext_ext]
  have K2 := L1.ext L2
  clear L1 L2
  have L2 := K2
  clear K2
  generalize ext E1 E2 = E2 at *
  go_wp2_with fail
  refine mono_ext (rchk_any _ _ _ _ _ _) ?_
  rintro e E3 rfl L3
  rw [h3]
  rw [ext_ext]
  have K3 := L2.ext L3
  clear L2 L3
  have L3 := K3
  clear K3
  generalize ext E2 E3 = E3 at *
  go_wp2_with fail
  refine mono_ext (rchk_any _ _ _ _ _ _) ?_
  rintro e E4 rfl L4
  rw [h4]
  rw [ext_ext]
  have K4 := L3.ext L4
  clear L3 L4
  have L4 := K4
  clear K4
  generalize ext E3 E4 = E4 at *
  go_upto_region 3 with fail
  refine wp_nameW' ?_
  intro w3 hw3
  have f3 : Fr (fun _ => False) w1 w3 := by
    rw [hw3]
    exact (Fr.refl _ _).ext L4
  have HF := hide ((unhide F1).trans f3 (fun _ _ h => h))
  have M2 : Hid (MA w3 p2 (ra : Int) (ca : Int) la) := hide ⟨ao, ka, by rw [← unhide HNA]; exact (unhide G2).kept f3 id, by rw [← unhide HNA]; exact (unhide HA).kept (unhide HF) (fun _ _ h => h)⟩
  have M3 : Hid (MA w3 p3 (rb : Int) (cb : Int) lb) := hide ⟨bo, kb, by rw [← unhide HNB]; exact (unhide G3).kept f3 id, by rw [← unhide HNB]; exact (unhide HB).kept (unhide HF) (fun _ _ h => h)⟩
  clear hw3 f3 G2 G3 F1 L4 x0 x1 x2 z0 z1 z2 l2 l3 HA HB HNA HNB h1 h2 h3 h4
  go_upto_region 3 with (go_at_call 22; refine (num_any _ _).mono ?_; rintro e w' ⟨rfl, rfl⟩)
  refine gi3 (unhide M2) (by have := unhide HLL; omega) (fun W v1 h1 => (rank_u W _ _ v1 la h1).mono (fun e w' h => KR_of h (KX_ok (unhide HCA)))) ?_
  intro y40 y41 y42 y39 y43 y44 W3 f3
  have HF2 := hide ((unhide HF).trans f3 (fun _ _ h => h))
  clear HF
  have HF := HF2
  clear HF2
  have M22 := hide ((unhide M2).kept f3)
  clear M2
  have M2 := M22
  clear M22
  have M32 := hide ((unhide M3).kept f3)
  clear M3
  have M3 := M32
  clear M32
  clear f3
  go_upto_region 4 with (go_at_call 22; refine (num_any _ _).mono ?_; rintro e w' ⟨rfl, rfl⟩)
  refine gi4 (unhide M2) (by have := unhide HLL; omega) (fun W v1 h1 => (turn_u W _ _ v1 la h1).mono (fun e w' h => MR_of h (TX_ok (unhide HCA)))) ?_
  intro y46 y47 y48 y45 y49 y50 p7 W4 f4 m7
  have M7 := hide m7
  clear m7
  have HF2 := hide ((unhide HF).trans f4 (fun _ _ h => h))
  clear HF
  have HF := HF2
  clear HF2
  have M22 := hide ((unhide M2).kept f4)
  clear M2
  have M2 := M22
  clear M22
  have M32 := hide ((unhide M3).kept f4)
  clear M3
  have M3 := M32
  clear M32
  clear f4
  go_upto_region 5 with (go_at_call 22; refine (num_any _ _).mono ?_; rintro e w' ⟨rfl, rfl⟩)
  refine gi5 (unhide M7) (fun W v1 h1 => (rank_u W _ _ v1 (tuL ra ca la) h1).mono (fun e w' h => KR_of h ((KX_ok (unhide HCT)).trans (by rw [rk_turn (unhide HLA)])))) ?_
  intro y52 y53 y51 y54 y55 W5 f5
  have HF2 := hide ((unhide HF).trans f5 (fun _ _ h => h))
  clear HF
  have HF := HF2
  clear HF2
  have M22 := hide ((unhide M2).kept f5)
  clear M2
  have M2 := M22
  clear M22
  have M32 := hide ((unhide M3).kept f5)
  clear M3
  have M3 := M32
  clear M32
  clear f5
  clear M7
  go_upto_region 6 with fail
  refine gi6 (unhide M2) (by have := rk_le_rows la ra ca; omega) (by have := rk_le_cols la ra ca; omega) ?_
  intro y56 y57 y58 y59 y60 y61 y62 y63 y64 y65 y66 y67 y68 y69 y70 y71 y72 y73 y74 y75 y76 y77 y78 y79 y80 y81 y82 y83 y84
  by_cases hE : ca = rb
  · subst hE
    have HCP := hide (show chk (ra : Int) (cb : Int) (prL ra ca cb la lb).length = 0 from chk_ok hra hcb (prL_length _ _ _ _ _))
    go_upto_region 8 with (go_at_call 22; refine (num_any _ _).mono ?_; rintro e w' ⟨rfl, rfl⟩)
    refine gi8 (unhide M2) (unhide M3) (by have := unhide HLL; omega) (by have := unhide HLL; omega) (fun W v1 v2 h1 h2 => (product_u W _ _ _ _ v1 v2 la lb h1 h2).mono (fun e w' h => MR_of h (PX_ok (unhide HCA) (unhide HCB)))) ?_
    intro y87 y88 y89 y90 y91 y86 y92 y93 p11 W8 f8 m11
    have M11 := hide m11
    clear m11
    have HF2 := hide ((unhide HF).trans f8 (fun _ _ h => h))
    clear HF
    have HF := HF2
    clear HF2
    have M22 := hide ((unhide M2).kept f8)
    clear M2
    have M2 := M22
    clear M22
    have M32 := hide ((unhide M3).kept f8)
    clear M3
    have M3 := M32
    clear M32
    clear f8
    go_upto_region 10 with (go_at_call 22; refine (num_any _ _).mono ?_; rintro e w' ⟨rfl, rfl⟩)
    refine gi10 (unhide M11) (fun W v1 h1 => (rank_u W _ _ v1 (prL ra ca cb la lb) h1).mono (fun e w' h => KR_of h (KX_ok (unhide HCP)))) ?_
    intro y98 y99 y97 y100 y101 W10 f10
    have HF2 := hide ((unhide HF).trans f10 (fun _ _ h => h))
    clear HF
    have HF := HF2
    clear HF2
    have M22 := hide ((unhide M2).kept f10)
    clear M2
    have M2 := M22
    clear M22
    have M32 := hide ((unhide M3).kept f10)
    clear M3
    have M3 := M32
    clear M32
    have M112 := hide ((unhide M11).kept f10)
    clear M11
    have M11 := M112
    clear M112
    clear f10
    go_upto_region 11 with (go_at_call 22; refine (num_any _ _).mono ?_; rintro e w' ⟨rfl, rfl⟩)
    refine gi11 (unhide M3) (by have := unhide HLL; omega) (fun W v1 h1 => (rank_u W _ _ v1 lb h1).mono (fun e w' h => KR_of h (KX_ok (unhide HCB)))) ?_
    intro y103 y104 y105 y102 y106 y107 W11 f11
    have HF2 := hide ((unhide HF).trans f11 (fun _ _ h => h))
    clear HF
    have HF := HF2
    clear HF2
    have M22 := hide ((unhide M2).kept f11)
    clear M2
    have M2 := M22
    clear M22
    have M32 := hide ((unhide M3).kept f11)
    clear M3
    have M3 := M32
    clear M32
    have M112 := hide ((unhide M11).kept f11)
    clear M11
    have M11 := M112
    clear M112
    clear f11
    go_upto_region 12 with fail
    refine gi12 (by have := (rk_prod (wide := cb) (unhide HLA) (unhide HLB)).1; omega) (by have := (rk_prod (wide := cb) (unhide HLA) (unhide HLB)).2; omega) ?_
    intro y108 y109 y110 y111 y112 y113 y114
    by_cases hsq : ra = ca
    · subst hsq
      by_cases hfull : rk la ra ra = ra
      · go_upto_region 14 with (go_at_call 22; refine (num_any _ _).mono ?_; rintro e w' ⟨rfl, rfl⟩)
        refine gi14 (unhide M2) (by have := unhide HLL; omega) (fun W v1 h1 => (inverse_u W _ _ v1 la h1).mono (fun e w' h => MR_of h (IX_full (unhide HCA) (unhide HLA) hfull))) ?_
        intro y117 y118 y119 y116 y120 y121 p17 W14 f14 m17
        have M17 := hide m17
        clear m17
        have HF2 := hide ((unhide HF).trans f14 (fun _ _ h => h))
        clear HF
        have HF := HF2
        clear HF2
        have M22 := hide ((unhide M2).kept f14)
        clear M2
        have M2 := M22
        clear M22
        have M32 := hide ((unhide M3).kept f14)
        clear M3
        have M3 := M32
        clear M32
        have M112 := hide ((unhide M11).kept f14)
        clear M11
        have M11 := M112
        clear M112
        clear f14
        have hfull' : ((rk la ra ra : Nat) : Int) = ((ra : Nat) : Int) := by rw [hfull]
        go_upto_region 15 with fail
        try rw [hfull']
        refine gi15y (c := 0) (m := 0) (E := 0) (unhide M2) ?_
        intro y122 y123 y124 y125 y126 y127 y128 y129 y130 y131 y132 y133 y134 y135 W15 f15
        have HF2 := hide ((unhide HF).trans f15 (fun _ _ h => h))
        clear HF
        have HF := HF2
        clear HF2
        have M22 := hide ((unhide M2).kept f15)
        clear M2
        have M2 := M22
        clear M22
        have M32 := hide ((unhide M3).kept f15)
        clear M3
        have M3 := M32
        clear M32
        have M172 := hide ((unhide M17).kept f15)
        clear M17
        have M17 := M172
        clear M172
        have M112 := hide ((unhide M11).kept f15)
        clear M11
        have M11 := M112
        clear M112
        clear f15
        have HI := hide (inv_inv (unhide HLA) ((rk_full (unhide HLA)).2 hfull))
        have HCI := hide (show chk (ra : Int) (ra : Int) (invL ra la).length = 0 from by rw [invL_length, ← unhide HLA]; exact unhide HCA)
        go_upto_region 19 with (go_at_call 22; refine (num_any _ _).mono ?_; rintro e w' ⟨rfl, rfl⟩)
        refine gi19 (unhide M17) (fun W v1 h1 => (inverse_u W _ _ v1 (invL ra la) h1).mono (fun e w' h => MR_of h ((IX_full (unhide HCI) (invL_length ra la) ((rk_full (invL_length ra la)).1 (unhide HI).1)).trans (by rw [(unhide HI).2])))) ?_
        intro y142 y143 y141 y144 y145 p18 W19 f19 m18
        have M18 := hide m18
        clear m18
        have HF2 := hide ((unhide HF).trans f19 (fun _ _ h => h))
        clear HF
        have HF := HF2
        clear HF2
        have M22 := hide ((unhide M2).kept f19)
        clear M2
        have M2 := M22
        clear M22
        have M32 := hide ((unhide M3).kept f19)
        clear M3
        have M3 := M32
        clear M32
        have M172 := hide ((unhide M17).kept f19)
        clear M17
        have M17 := M172
        clear M172
        have M112 := hide ((unhide M11).kept f19)
        clear M11
        have M11 := M112
        clear M112
        clear f19
        go_upto_region 20 with fail
        refine gi20 (unhide M18) (unhide M2) ?_
        intro y146 y147 y148 y149 y150 y151 y152 y153 W20 f20
        clear M18
        have HF2 := hide ((unhide HF).trans f20 (fun _ _ h => h))
        clear HF
        have HF := HF2
        clear HF2
        have M22 := hide ((unhide M2).kept f20)
        clear M2
        have M2 := M22
        clear M22
        have M32 := hide ((unhide M3).kept f20)
        clear M3
        have M3 := M32
        clear M32
        have M172 := hide ((unhide M17).kept f20)
        clear M17
        have M17 := M172
        clear M172
        have M112 := hide ((unhide M11).kept f20)
        clear M11
        have M11 := M112
        clear M112
        clear f20
        by_cases hsb : ra = cb
        · by_cases hfb : rk lb ra ra = ra
          · subst hsb
            go_upto_region 22 with (go_at_call 22; refine (num_any _ _).mono ?_; rintro e w' ⟨rfl, rfl⟩)
            refine gi22 (unhide M3) (by have := unhide HLL; omega) (fun W v1 h1 => (inverse_u W _ _ v1 lb h1).mono (fun e w' h => MR_of h (IX_full (unhide HCB) (unhide HLB) hfb))) ?_
            intro y156 y157 y158 y155 y159 y160 p19 W22 f22 m19
            have M19 := hide m19
            clear m19
            have HF2 := hide ((unhide HF).trans f22 (fun _ _ h => h))
            clear HF
            have HF := HF2
            clear HF2
            have M22 := hide ((unhide M2).kept f22)
            clear M2
            have M2 := M22
            clear M22
            have M32 := hide ((unhide M3).kept f22)
            clear M3
            have M3 := M32
            clear M32
            have M172 := hide ((unhide M17).kept f22)
            clear M17
            have M17 := M172
            clear M172
            have M112 := hide ((unhide M11).kept f22)
            clear M11
            have M11 := M112
            clear M112
            clear f22
            go_upto_region 23 with fail
            refine gi23c (E := 0) (F := 0) ?_
            intro y161 y162 y163 y164 y165 y166 y167
            have HIP := hide (inv_of_prod (unhide HLA) (unhide HLB) ((rk_full (unhide HLA)).2 hfull) ((rk_full (unhide HLB)).2 hfb))
            have HCP' := hide (show chk (ra : Int) (ra : Int) (prL ra ra ra la lb).length = 0 from by rw [prL_length, ← unhide HLA]; exact unhide HCA)
            have HCJ := hide (show chk (ra : Int) (ra : Int) (invL ra lb).length = 0 from by rw [invL_length, ← unhide HLA]; exact unhide HCA)
            go_upto_region 25 with (go_at_call 22; refine (num_any _ _).mono ?_; rintro e w' ⟨rfl, rfl⟩)
            refine gi25 (unhide M11) (fun W v1 h1 => (inverse_u W _ _ v1 (prL ra ra ra la lb) h1).mono (fun e w' h => MR_of h ((IX_full (unhide HCP') (prL_length _ _ _ _ _) ((rk_full (prL_length _ _ _ _ _)).1 (unhide HIP).1)).trans (by rw [show invL ra (prL ra ra ra la lb) = prL ra ra ra (invL ra lb) (invL ra la) from (unhide HIP).2])))) ?_
            intro y171 y172 y170 y173 y174 p20 W25 f25 m20
            have M20 := hide m20
            clear m20
            have HF2 := hide ((unhide HF).trans f25 (fun _ _ h => h))
            clear HF
            have HF := HF2
            clear HF2
            have M22 := hide ((unhide M2).kept f25)
            clear M2
            have M2 := M22
            clear M22
            have M32 := hide ((unhide M3).kept f25)
            clear M3
            have M3 := M32
            clear M32
            have M172 := hide ((unhide M17).kept f25)
            clear M17
            have M17 := M172
            clear M172
            have M192 := hide ((unhide M19).kept f25)
            clear M19
            have M19 := M192
            clear M192
            clear f25
            clear M11
            go_upto_region 26 with (go_at_call 22; refine (num_any _ _).mono ?_; rintro e w' ⟨rfl, rfl⟩)
            refine gi26 (unhide M19) (unhide M17) (fun W v1 v2 h1 h2 => (product_u W _ _ _ _ v1 v2 (invL ra lb) (invL ra la) h1 h2).mono (fun e w' h => MR_of h (PX_ok (unhide HCJ) (unhide HCI)))) ?_
            intro y176 y177 y178 y175 y179 y180 p21 W26 f26 m21
            have M21 := hide m21
            clear m21
            have HF2 := hide ((unhide HF).trans f26 (fun _ _ h => h))
            clear HF
            have HF := HF2
            clear HF2
            have M22 := hide ((unhide M2).kept f26)
            clear M2
            have M2 := M22
            clear M22
            have M32 := hide ((unhide M3).kept f26)
            clear M3
            have M3 := M32
            clear M32
            have M202 := hide ((unhide M20).kept f26)
            clear M20
            have M20 := M202
            clear M202
            clear f26
            go_upto_region 27 with fail
            refine gi27 (unhide M20) (unhide M21) ?_
            intro y181 y182 y183 y184 y185 y186 y187 y188 y189 y190 y191 y192 y193 y194 y195 y196 W27 f27
            have HF9 := hide ((unhide HF).trans f27 (fun _ _ h => h))
            clear f27
            go_wp2_with fail
            go_ret
            exact ⟨rfl, unhide HF9⟩
          · subst hsb
            go_upto_region 22 with (go_at_call 22; refine (num_any _ _).mono ?_; rintro e w' ⟨rfl, rfl⟩)
            refine gi22 (unhide M3) (by have := unhide HLL; omega) (fun W v1 h1 => (inverse_u W _ _ v1 lb h1).mono (fun e w' h => MR_of h (IX_flat (unhide HCB) (unhide HLB) hfb))) ?_
            intro y156 y157 y158 y155 y159 y160 p19 W22 f22 m19
            have M19 := hide m19
            clear m19
            have HF2 := hide ((unhide HF).trans f22 (fun _ _ h => h))
            clear HF
            have HF := HF2
            clear HF2
            have M22 := hide ((unhide M2).kept f22)
            clear M2
            have M2 := M22
            clear M22
            have M32 := hide ((unhide M3).kept f22)
            clear M3
            have M3 := M32
            clear M32
            have M172 := hide ((unhide M17).kept f22)
            clear M17
            have M17 := M172
            clear M172
            have M112 := hide ((unhide M11).kept f22)
            clear M11
            have M11 := M112
            clear M112
            clear f22
            go_upto_region 23 with fail
            refine gi23a (by decide) ?_
            intro y161 y162 y163 y164 y165 y166 y167
            go_wp2_with (go_at_call 15; refine (live_any _).mono ?_; rintro e w9 ⟨rfl, f9⟩)
            go_ret
            exact ⟨rfl, (unhide HF).trans f9 (fun _ _ h => h)⟩
        · go_upto_region 22 with (go_at_call 22; refine (num_any _ _).mono ?_; rintro e w' ⟨rfl, rfl⟩)
          refine gi22 (unhide M3) (by have := unhide HLL; omega) (fun W v1 h1 => (inverse_u W _ _ v1 lb h1).mono (fun e w' h => MR_of h (IX_side (unhide HCB) hsb))) ?_
          intro y156 y157 y158 y155 y159 y160 p19 W22 f22 m19
          have M19 := hide m19
          clear m19
          have HF2 := hide ((unhide HF).trans f22 (fun _ _ h => h))
          clear HF
          have HF := HF2
          clear HF2
          have M22 := hide ((unhide M2).kept f22)
          clear M2
          have M2 := M22
          clear M22
          have M32 := hide ((unhide M3).kept f22)
          clear M3
          have M3 := M32
          clear M32
          have M172 := hide ((unhide M17).kept f22)
          clear M17
          have M17 := M172
          clear M172
          have M112 := hide ((unhide M11).kept f22)
          clear M11
          have M11 := M112
          clear M112
          clear f22
          go_upto_region 23 with fail
          refine gi23a (by decide) ?_
          intro y161 y162 y163 y164 y165 y166 y167
          go_wp2_with (go_at_call 15; refine (live_any _).mono ?_; rintro e w9 ⟨rfl, f9⟩)
          go_ret
          exact ⟨rfl, (unhide HF).trans f9 (fun _ _ h => h)⟩
      · go_upto_region 14 with (go_at_call 22; refine (num_any _ _).mono ?_; rintro e w' ⟨rfl, rfl⟩)
        refine gi14 (unhide M2) (by have := unhide HLL; omega) (fun W v1 h1 => (inverse_u W _ _ v1 la h1).mono (fun e w' h => MR_of h (IX_flat (unhide HCA) (unhide HLA) hfull))) ?_
        intro y117 y118 y119 y116 y120 y121 p17 W14 f14 m17
        have M17 := hide m17
        clear m17
        have HF2 := hide ((unhide HF).trans f14 (fun _ _ h => h))
        clear HF
        have HF := HF2
        clear HF2
        have M22 := hide ((unhide M2).kept f14)
        clear M2
        have M2 := M22
        clear M22
        have M32 := hide ((unhide M3).kept f14)
        clear M3
        have M3 := M32
        clear M32
        have M112 := hide ((unhide M11).kept f14)
        clear M11
        have M11 := M112
        clear M112
        clear f14
        go_upto_region 15 with fail
        refine gi15n (c := 0) (unhide M2) (by decide) (fun h => hfull (by omega)) ?_
        intro y122 y123 y124 y125 y126 y127 y128 y129 y130 y131 y132 y133 y134 y135 W15 f15
        have HF2 := hide ((unhide HF).trans f15 (fun _ _ h => h))
        clear HF
        have HF := HF2
        clear HF2
        have M22 := hide ((unhide M2).kept f15)
        clear M2
        have M2 := M22
        clear M22
        have M32 := hide ((unhide M3).kept f15)
        clear M3
        have M3 := M32
        clear M32
        clear f15
        go_wp2_with (first | (go_at_call 22; refine (num_any _ _).mono ?_; rintro e w' ⟨rfl, rfl⟩) | (go_at_call 15; refine (live_any _).mono ?_; rintro e w9 ⟨rfl, f9⟩))
        go_ret
        exact ⟨rfl, (unhide HF).trans f9 (fun _ _ h => h)⟩
    · go_upto_region 14 with (go_at_call 22; refine (num_any _ _).mono ?_; rintro e w' ⟨rfl, rfl⟩)
      refine gi14 (unhide M2) (by have := unhide HLL; omega) (fun W v1 h1 => (inverse_u W _ _ v1 la h1).mono (fun e w' h => MR_of h (IX_side (unhide HCA) hsq))) ?_
      intro y117 y118 y119 y116 y120 y121 p17 W14 f14 m17
      have M17 := hide m17
      clear m17
      have HF2 := hide ((unhide HF).trans f14 (fun _ _ h => h))
      clear HF
      have HF := HF2
      clear HF2
      have M22 := hide ((unhide M2).kept f14)
      clear M2
      have M2 := M22
      clear M22
      have M32 := hide ((unhide M3).kept f14)
      clear M3
      have M3 := M32
      clear M32
      have M112 := hide ((unhide M11).kept f14)
      clear M11
      have M11 := M112
      clear M112
      clear f14
      go_upto_region 15 with fail
      refine gi15s (unhide M2) (by decide) (fun h => hsq (by omega)) ?_
      intro y122 y123 y124 y125 y126 y127 y128 y129 y130 y131 y132 y133 y134 y135 W15 f15
      have HF2 := hide ((unhide HF).trans f15 (fun _ _ h => h))
      clear HF
      have HF := HF2
      clear HF2
      have M22 := hide ((unhide M2).kept f15)
      clear M2
      have M2 := M22
      clear M22
      have M32 := hide ((unhide M3).kept f15)
      clear M3
      have M3 := M32
      clear M32
      clear f15
      go_wp2_with (first | (go_at_call 22; refine (num_any _ _).mono ?_; rintro e w' ⟨rfl, rfl⟩) | (go_at_call 15; refine (live_any _).mono ?_; rintro e w9 ⟨rfl, f9⟩))
      go_ret
      exact ⟨rfl, (unhide HF).trans f9 (fun _ _ h => h)⟩
  · go_upto_region 8 with (go_at_call 22; refine (num_any _ _).mono ?_; rintro e w' ⟨rfl, rfl⟩)
    refine gi8 (unhide M2) (unhide M3) (by have := unhide HLL; omega) (by have := unhide HLL; omega) (fun W v1 v2 h1 h2 => (product_u W _ _ _ _ v1 v2 la lb h1 h2).mono (fun e w' h => MR_of h (PX_no (unhide HCA) (unhide HCB) hE))) ?_
    intro y87 y88 y89 y90 y91 y86 y92 y93 p11 W8 f8 m11
    have M11 := hide m11
    clear m11
    have HF2 := hide ((unhide HF).trans f8 (fun _ _ h => h))
    clear HF
    have HF := HF2
    clear HF2
    have M22 := hide ((unhide M2).kept f8)
    clear M2
    have M2 := M22
    clear M22
    have M32 := hide ((unhide M3).kept f8)
    clear M3
    have M3 := M32
    clear M32
    clear f8
    clear M11
    by_cases hsq : ra = ca
    · subst hsq
      by_cases hfull : rk la ra ra = ra
      · go_upto_region 14 with (go_at_call 22; refine (num_any _ _).mono ?_; rintro e w' ⟨rfl, rfl⟩)
        refine gi14 (unhide M2) (by have := unhide HLL; omega) (fun W v1 h1 => (inverse_u W _ _ v1 la h1).mono (fun e w' h => MR_of h (IX_full (unhide HCA) (unhide HLA) hfull))) ?_
        intro y117 y118 y119 y116 y120 y121 p17 W14 f14 m17
        have M17 := hide m17
        clear m17
        have HF2 := hide ((unhide HF).trans f14 (fun _ _ h => h))
        clear HF
        have HF := HF2
        clear HF2
        have M22 := hide ((unhide M2).kept f14)
        clear M2
        have M2 := M22
        clear M22
        have M32 := hide ((unhide M3).kept f14)
        clear M3
        have M3 := M32
        clear M32
        clear f14
        have hfull' : ((rk la ra ra : Nat) : Int) = ((ra : Nat) : Int) := by rw [hfull]
        go_upto_region 15 with fail
        try rw [hfull']
        refine gi15y (c := 0) (m := 0) (E := 0) (unhide M2) ?_
        intro y122 y123 y124 y125 y126 y127 y128 y129 y130 y131 y132 y133 y134 y135 W15 f15
        have HF2 := hide ((unhide HF).trans f15 (fun _ _ h => h))
        clear HF
        have HF := HF2
        clear HF2
        have M22 := hide ((unhide M2).kept f15)
        clear M2
        have M2 := M22
        clear M22
        have M32 := hide ((unhide M3).kept f15)
        clear M3
        have M3 := M32
        clear M32
        have M172 := hide ((unhide M17).kept f15)
        clear M17
        have M17 := M172
        clear M172
        clear f15
        have HI := hide (inv_inv (unhide HLA) ((rk_full (unhide HLA)).2 hfull))
        have HCI := hide (show chk (ra : Int) (ra : Int) (invL ra la).length = 0 from by rw [invL_length, ← unhide HLA]; exact unhide HCA)
        go_upto_region 19 with (go_at_call 22; refine (num_any _ _).mono ?_; rintro e w' ⟨rfl, rfl⟩)
        refine gi19 (unhide M17) (fun W v1 h1 => (inverse_u W _ _ v1 (invL ra la) h1).mono (fun e w' h => MR_of h ((IX_full (unhide HCI) (invL_length ra la) ((rk_full (invL_length ra la)).1 (unhide HI).1)).trans (by rw [(unhide HI).2])))) ?_
        intro y142 y143 y141 y144 y145 p18 W19 f19 m18
        have M18 := hide m18
        clear m18
        have HF2 := hide ((unhide HF).trans f19 (fun _ _ h => h))
        clear HF
        have HF := HF2
        clear HF2
        have M22 := hide ((unhide M2).kept f19)
        clear M2
        have M2 := M22
        clear M22
        have M32 := hide ((unhide M3).kept f19)
        clear M3
        have M3 := M32
        clear M32
        have M172 := hide ((unhide M17).kept f19)
        clear M17
        have M17 := M172
        clear M172
        clear f19
        go_upto_region 20 with fail
        refine gi20 (unhide M18) (unhide M2) ?_
        intro y146 y147 y148 y149 y150 y151 y152 y153 W20 f20
        clear M18
        have HF2 := hide ((unhide HF).trans f20 (fun _ _ h => h))
        clear HF
        have HF := HF2
        clear HF2
        have M22 := hide ((unhide M2).kept f20)
        clear M2
        have M2 := M22
        clear M22
        have M32 := hide ((unhide M3).kept f20)
        clear M3
        have M3 := M32
        clear M32
        have M172 := hide ((unhide M17).kept f20)
        clear M17
        have M17 := M172
        clear M172
        clear f20
        by_cases hsb : rb = cb
        · by_cases hfb : rk lb rb rb = rb
          · subst hsb
            go_upto_region 22 with (go_at_call 22; refine (num_any _ _).mono ?_; rintro e w' ⟨rfl, rfl⟩)
            refine gi22 (unhide M3) (by have := unhide HLL; omega) (fun W v1 h1 => (inverse_u W _ _ v1 lb h1).mono (fun e w' h => MR_of h (IX_full (unhide HCB) (unhide HLB) hfb))) ?_
            intro y156 y157 y158 y155 y159 y160 p19 W22 f22 m19
            have M19 := hide m19
            clear m19
            have HF2 := hide ((unhide HF).trans f22 (fun _ _ h => h))
            clear HF
            have HF := HF2
            clear HF2
            have M22 := hide ((unhide M2).kept f22)
            clear M2
            have M2 := M22
            clear M22
            have M32 := hide ((unhide M3).kept f22)
            clear M3
            have M3 := M32
            clear M32
            have M172 := hide ((unhide M17).kept f22)
            clear M17
            have M17 := M172
            clear M172
            clear f22
            go_upto_region 23 with fail
            refine gi23b (E := 0) (by decide) ?_
            intro y161 y162 y163 y164 y165 y166 y167
            go_wp2_with (go_at_call 15; refine (live_any _).mono ?_; rintro e w9 ⟨rfl, f9⟩)
            go_ret
            exact ⟨rfl, (unhide HF).trans f9 (fun _ _ h => h)⟩
          · subst hsb
            go_upto_region 22 with (go_at_call 22; refine (num_any _ _).mono ?_; rintro e w' ⟨rfl, rfl⟩)
            refine gi22 (unhide M3) (by have := unhide HLL; omega) (fun W v1 h1 => (inverse_u W _ _ v1 lb h1).mono (fun e w' h => MR_of h (IX_flat (unhide HCB) (unhide HLB) hfb))) ?_
            intro y156 y157 y158 y155 y159 y160 p19 W22 f22 m19
            have M19 := hide m19
            clear m19
            have HF2 := hide ((unhide HF).trans f22 (fun _ _ h => h))
            clear HF
            have HF := HF2
            clear HF2
            have M22 := hide ((unhide M2).kept f22)
            clear M2
            have M2 := M22
            clear M22
            have M32 := hide ((unhide M3).kept f22)
            clear M3
            have M3 := M32
            clear M32
            have M172 := hide ((unhide M17).kept f22)
            clear M17
            have M17 := M172
            clear M172
            clear f22
            go_upto_region 23 with fail
            refine gi23a (by decide) ?_
            intro y161 y162 y163 y164 y165 y166 y167
            go_wp2_with (go_at_call 15; refine (live_any _).mono ?_; rintro e w9 ⟨rfl, f9⟩)
            go_ret
            exact ⟨rfl, (unhide HF).trans f9 (fun _ _ h => h)⟩
        · go_upto_region 22 with (go_at_call 22; refine (num_any _ _).mono ?_; rintro e w' ⟨rfl, rfl⟩)
          refine gi22 (unhide M3) (by have := unhide HLL; omega) (fun W v1 h1 => (inverse_u W _ _ v1 lb h1).mono (fun e w' h => MR_of h (IX_side (unhide HCB) hsb))) ?_
          intro y156 y157 y158 y155 y159 y160 p19 W22 f22 m19
          have M19 := hide m19
          clear m19
          have HF2 := hide ((unhide HF).trans f22 (fun _ _ h => h))
          clear HF
          have HF := HF2
          clear HF2
          have M22 := hide ((unhide M2).kept f22)
          clear M2
          have M2 := M22
          clear M22
          have M32 := hide ((unhide M3).kept f22)
          clear M3
          have M3 := M32
          clear M32
          have M172 := hide ((unhide M17).kept f22)
          clear M17
          have M17 := M172
          clear M172
          clear f22
          go_upto_region 23 with fail
          refine gi23a (by decide) ?_
          intro y161 y162 y163 y164 y165 y166 y167
          go_wp2_with (go_at_call 15; refine (live_any _).mono ?_; rintro e w9 ⟨rfl, f9⟩)
          go_ret
          exact ⟨rfl, (unhide HF).trans f9 (fun _ _ h => h)⟩
      · go_upto_region 14 with (go_at_call 22; refine (num_any _ _).mono ?_; rintro e w' ⟨rfl, rfl⟩)
        refine gi14 (unhide M2) (by have := unhide HLL; omega) (fun W v1 h1 => (inverse_u W _ _ v1 la h1).mono (fun e w' h => MR_of h (IX_flat (unhide HCA) (unhide HLA) hfull))) ?_
        intro y117 y118 y119 y116 y120 y121 p17 W14 f14 m17
        have M17 := hide m17
        clear m17
        have HF2 := hide ((unhide HF).trans f14 (fun _ _ h => h))
        clear HF
        have HF := HF2
        clear HF2
        have M22 := hide ((unhide M2).kept f14)
        clear M2
        have M2 := M22
        clear M22
        have M32 := hide ((unhide M3).kept f14)
        clear M3
        have M3 := M32
        clear M32
        clear f14
        go_upto_region 15 with fail
        refine gi15n (c := 0) (unhide M2) (by decide) (fun h => hfull (by omega)) ?_
        intro y122 y123 y124 y125 y126 y127 y128 y129 y130 y131 y132 y133 y134 y135 W15 f15
        have HF2 := hide ((unhide HF).trans f15 (fun _ _ h => h))
        clear HF
        have HF := HF2
        clear HF2
        have M22 := hide ((unhide M2).kept f15)
        clear M2
        have M2 := M22
        clear M22
        have M32 := hide ((unhide M3).kept f15)
        clear M3
        have M3 := M32
        clear M32
        clear f15
        go_wp2_with (first | (go_at_call 22; refine (num_any _ _).mono ?_; rintro e w' ⟨rfl, rfl⟩) | (go_at_call 15; refine (live_any _).mono ?_; rintro e w9 ⟨rfl, f9⟩))
        go_ret
        exact ⟨rfl, (unhide HF).trans f9 (fun _ _ h => h)⟩
    · go_upto_region 14 with (go_at_call 22; refine (num_any _ _).mono ?_; rintro e w' ⟨rfl, rfl⟩)
      refine gi14 (unhide M2) (by have := unhide HLL; omega) (fun W v1 h1 => (inverse_u W _ _ v1 la h1).mono (fun e w' h => MR_of h (IX_side (unhide HCA) hsq))) ?_
      intro y117 y118 y119 y116 y120 y121 p17 W14 f14 m17
      have M17 := hide m17
      clear m17
      have HF2 := hide ((unhide HF).trans f14 (fun _ _ h => h))
      clear HF
      have HF := HF2
      clear HF2
      have M22 := hide ((unhide M2).kept f14)
      clear M2
      have M2 := M22
      clear M22
      have M32 := hide ((unhide M3).kept f14)
      clear M3
      have M3 := M32
      clear M32
      clear f14
      go_upto_region 15 with fail
      refine gi15s (unhide M2) (by decide) (fun h => hsq (by omega)) ?_
      intro y122 y123 y124 y125 y126 y127 y128 y129 y130 y131 y132 y133 y134 y135 W15 f15
      have HF2 := hide ((unhide HF).trans f15 (fun _ _ h => h))
      clear HF
      have HF := HF2
      clear HF2
      have M22 := hide ((unhide M2).kept f15)
      clear M2
      have M2 := M22
      clear M22
      have M32 := hide ((unhide M3).kept f15)
      clear M3
      have M3 := M32
      clear M32
      clear f15
      go_wp2_with (first | (go_at_call 22; refine (num_any _ _).mono ?_; rintro e w' ⟨rfl, rfl⟩) | (go_at_call 15; refine (live_any _).mono ?_; rintro e w9 ⟨rfl, f9⟩))
      go_ret
      exact ⟨rfl, (unhide HF).trans f9 (fun _ _ h => h)⟩
end Go.Proofs.Ytckmddkhkdcmmaa
