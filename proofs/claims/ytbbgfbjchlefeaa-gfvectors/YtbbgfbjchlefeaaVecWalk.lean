/-
  The walk of the law GfVectors.
-/
import Derived.Test.YtbbgfbjchlefeaaRThr2
import Derived.Test.YtbbgfbjchlefeaaFree2
namespace Go.Proofs.Ytbbgfbjchlefeaa
open Go.RowKit
set_option linter.unusedVariables false

attribute [local go_sem ↓] Go.wp_at_zero Go.wp_at_succ

/-- What Sum and Through tell: a list and an error. -/
def smR (l m : List UInt8) : List UInt8 × Int := if l.length = m.length then (sm l m, 0) else ([], 23)
def thR (l m : List UInt8) : List UInt8 × Int := if l.length = m.length then (if l.Nodup then (thr l m, 0) else ([], 21)) else ([], 23)

theorem rthrough_zero (w : World) (xo yo : Option Addr) (xcap ycap : Nat) : Calls Try.prog 29 #[.slice xo 0 xcap, .slice yo 0 ycap] w fun e w' => (∃ q, e = .returned (.tuple #[.slice (some ⟨q, 0, none⟩) 0 0, .int .i64 0])) ∧ Fr (fun _ => False) w w' := by
  have hmk : ∀ w, (Instr.makeSlice 43 (.int .i64 0) (.int .i64 0)).run Try.prog w = .ok (.slice (some ⟨w.heap.size, 0, none⟩) 0 0) (w.alloc (.cells (bvs (List.replicate 0 0)).toArray 5)) := run_make5 0 (by omega)
  have F := hide (show Fr (fun _ => False) w (w.alloc (.cells (bvs (List.replicate 0 0)).toArray 5)) from (Fr.refl _ _).alloc _)
  generalize bvs (List.replicate 0 0) = A at *
  go_enter Try.func29, Try.ntmps29
  go_wp2_with fail
  go_loopw [6] (fun i w' => i = .int .i64 0 ∧ w = w') (fun _ _ => 0)
  case atStart => exact ⟨rfl, rfl⟩
  case round =>
    obtain ⟨rfl, rfl⟩ := hrel
    go_wp2_with fail
    go_loopw [9] (fun i w' => i = .int .i64 0 ∧ w' = w.alloc (.cells A.toArray 5)) (fun _ _ => 0)
    case atStart => exact ⟨rfl, rfl⟩
    case round =>
      obtain ⟨rfl, rfl⟩ := hrel
      go_wp2_with fail
      go_ret2
      exact ⟨⟨_, rfl⟩, unhide F⟩

theorem gsum_any (w : World) (v m : Value) (l x : List UInt8) (hv : Rd w v l) (hm : Rd w m x) (hl : l.length ≤ 4096) :
    Calls Try.prog 26 #[v, m] w fun e w' => (∃ ao n cap, e = .returned (.tuple #[.slice ao n cap, .int .i64 (smR l x).2]) ∧ Rd w' (.slice ao n cap) (smR l x).1) ∧ Fr (fun _ => False) w w' := by
  unfold smR
  by_cases he : l.length = x.length
  · rw [if_pos he]
    refine (gsum_ok w v m l x hv hm he hl).mono ?_
    rintro e w' ⟨⟨ao, cap, rfl, R⟩, f⟩
    exact ⟨⟨_, _, _, rfl, R⟩, f⟩
  · rw [if_neg he]
    obtain ⟨vo, vcap, rfl⟩ := hv.shape
    obtain ⟨mo, mcap, rfl⟩ := hm.shape
    refine (gsum_side w vo mo _ _ vcap mcap he).mono ?_
    rintro e w' ⟨rfl, rfl⟩
    exact ⟨⟨_, _, _, rfl, Rd.nil _⟩, Fr.refl _ _⟩

theorem rsum_any (w : World) (v m : Value) (l x : List UInt8) (hv : Rd w v l) (hm : Rd w m x) (hl : l.length ≤ 4096) :
    Calls Try.prog 27 #[v, m] w fun e w' => (∃ ao n cap, e = .returned (.tuple #[.slice ao n cap, .int .i64 (smR l x).2]) ∧ Rd w' (.slice ao n cap) (smR l x).1) ∧ Fr (fun _ => False) w w' := by
  unfold smR
  by_cases he : l.length = x.length
  · rw [if_pos he]
    refine (rsum_ok w v m l x hv hm he hl).mono ?_
    rintro e w' ⟨⟨ao, cap, rfl, R⟩, f⟩
    exact ⟨⟨_, _, _, rfl, R⟩, f⟩
  · rw [if_neg he]
    obtain ⟨vo, vcap, rfl⟩ := hv.shape
    obtain ⟨mo, mcap, rfl⟩ := hm.shape
    refine (rsum_side w vo mo _ _ vcap mcap he).mono ?_
    rintro e w' ⟨rfl, rfl⟩
    exact ⟨⟨_, _, _, rfl, Rd.nil _⟩, Fr.refl _ _⟩

theorem gthr_any (w : World) (v m : Value) (l x : List UInt8) (hv : Rd w v l) (hm : Rd w m x) (hl : l.length ≤ 4096) :
    Calls Try.prog 28 #[v, m] w fun e w' => (∃ ao n cap, e = .returned (.tuple #[.slice ao n cap, .int .i64 (thR l x).2]) ∧ Rd w' (.slice ao n cap) (thR l x).1) ∧ Fr (fun _ => False) w w' := by
  unfold thR
  by_cases he : l.length = x.length
  · rw [if_pos he]
    by_cases hd : l.Nodup
    · rw [if_pos hd]
      refine (through_ok w v m l x hv hm he (by omega) hd).mono ?_
      rintro e w' ⟨⟨q, rfl, R⟩, f⟩
      exact ⟨⟨_, _, _, rfl, R⟩, f⟩
    · rw [if_neg hd]
      refine (through_dup w v m l x hv hm he (by omega) (by unfold dupB; simpa using hd)).mono ?_
      rintro e w' ⟨rfl, f⟩
      exact ⟨⟨_, _, _, rfl, Rd.nil _⟩, f⟩
  · rw [if_neg he]
    obtain ⟨vo, vcap, rfl⟩ := hv.shape
    obtain ⟨mo, mcap, rfl⟩ := hm.shape
    refine (through_side w vo mo _ _ vcap mcap he).mono ?_
    rintro e w' ⟨rfl, rfl⟩
    exact ⟨⟨_, _, _, rfl, Rd.nil _⟩, Fr.refl _ _⟩

theorem rthr_any (w : World) (v m : Value) (l x : List UInt8) (hv : Rd w v l) (hm : Rd w m x) (hl : l.length ≤ 4096) :
    Calls Try.prog 29 #[v, m] w fun e w' => (∃ ao n cap, e = .returned (.tuple #[.slice ao n cap, .int .i64 (thR l x).2]) ∧ Rd w' (.slice ao n cap) (thR l x).1) ∧ Fr (fun _ => False) w w' := by
  unfold thR
  by_cases he : l.length = x.length
  · rw [if_pos he]
    by_cases hd : l.Nodup
    · rw [if_pos hd]
      by_cases h0 : 0 < l.length
      · refine (rthrough_ok w v m l x hv hm he hl h0 hd).mono ?_
        rintro e w' ⟨⟨q, rfl, R⟩, f⟩
        exact ⟨⟨_, _, _, rfl, R⟩, f⟩
      · have e1 : l = [] := List.eq_nil_of_length_eq_zero (by omega)
        have e2 : x = [] := List.eq_nil_of_length_eq_zero (by omega)
        subst e1 e2
        obtain ⟨vo, vcap, rfl⟩ := hv.shape
        obtain ⟨mo, mcap, rfl⟩ := hm.shape
        refine (rthrough_zero w vo mo vcap mcap).mono ?_
        rintro e w' ⟨⟨q, rfl⟩, f⟩
        have htl := thr_length [] []
        exact ⟨⟨_, _, _, rfl, .inr ⟨⟨q, 0, none⟩, 0, by rw [htl]; rfl, by rw [htl]; exact Nat.le_refl _, by simp [maxLen], fun j hj => by rw [htl] at hj; simp at hj⟩⟩, f⟩
    · rw [if_neg hd]
      refine (rthrough_dup w v m l x hv hm he hl hd).mono ?_
      rintro e w' ⟨rfl, f⟩
      exact ⟨⟨_, _, _, rfl, Rd.nil _⟩, f⟩
  · rw [if_neg he]
    obtain ⟨vo, vcap, rfl⟩ := hv.shape
    obtain ⟨mo, mcap, rfl⟩ := hm.shape
    refine (rthrough_side w vo mo _ _ vcap mcap he).mono ?_
    rintro e w' ⟨rfl, rfl⟩
    exact ⟨⟨_, _, _, rfl, Rd.nil _⟩, Fr.refl _ _⟩

theorem wp_name {P : Program} {C : Code} {Q : Exit → Act → World → Prop} {a : Act} {w : World} (h : ∀ a0, a0 = a → C.wp P Q a0 w) : C.wp P Q a w := h a rfl

theorem cfv21 (args : Array Value) (W : World) : Sem.run Try.prog (callFunc 21 args) W = .ok (.enter 21 args) W := by simp [go_sem]
theorem cfv25 (args : Array Value) (W : World) : Sem.run Try.prog (callFunc 25 args) W = .ok (.enter 25 args) W := by simp [go_sem]
theorem cfv30 (args : Array Value) (W : World) : Sem.run Try.prog (callFunc 30 args) W = .ok (.enter 30 args) W := by simp [go_sem]
theorem cfv31 (args : Array Value) (W : World) : Sem.run Try.prog (callFunc 31 args) W = .ok (.enter 31 args) W := by simp [go_sem]
theorem cfv32 (args : Array Value) (W : World) : Sem.run Try.prog (callFunc 32 args) W = .ok (.enter 32 args) W := by simp [go_sem]
theorem cfv33 (args : Array Value) (W : World) : Sem.run Try.prog (callFunc 33 args) W = .ok (.enter 33 args) W := by simp [go_sem]

/-- Where something is longer than is asked. -/
theorem vecWalk_long (w : World) (c : Int) (vo mo : Option Addr) (n m cv cm : Nat) (h : 200 < n ∨ 200 < m) : Calls Try.prog 6 #[.int .u8 c, .slice vo n cv, .slice mo m cm] w fun e w' => e = .returned (.bool true) ∧ Fr (fun _ => False) w w' := by
  by_cases h1 : 200 < n
  · clear h
    go_enter Try.func6, Try.ntmps6
    go_wp2_with (go_at_call 25; refine (live_any _).mono ?_; rintro e w1 ⟨rfl, f1⟩)
    go_ret
    exact ⟨rfl, f1⟩
  · have d1 : decide (200 < n) = false := by simpa using h1
    have h2 : 200 < m := by omega
    clear h
    go_enter Try.func6, Try.ntmps6
    go_wp2_with (go_at_call 25; refine (live_any _).mono ?_; rintro e w1 ⟨rfl, f1⟩)
    go_ret
    exact ⟨rfl, f1⟩

set_option maxHeartbeats 4000000 in
set_option maxRecDepth 100000 in
theorem vecWalk_short (w : World) (c : UInt8) (v m : Value) (l x : List UInt8) (hv : Rd w v l) (hm : Rd w m x) (h1 : l.length ≤ 200) (h2 : x.length ≤ 200) :
    Calls Try.prog 6 #[.int .u8 (c.toNat : Int), v, m] w fun e w' => e = .returned (.bool true) ∧ Fr (fun _ => False) w w' := by
  have HV := hide hv
  have HM := hide hm
  obtain ⟨vo, vcap, rfl⟩ := hv.shape
  obtain ⟨mo, mcap, rfl⟩ := hm.shape
  have d1 : decide (200 < l.length) = false := by simp; omega
  have d2 : decide (200 < x.length) = false := by simp; omega
  clear hv hm
  go_enter Try.func6, Try.ntmps6
  go_wp2_with (at_builtin; refine wpList_clone rfl (.tmp 26) (.tmp 27) rfl w.heap.size rfl (heap_alloc_new w _) _ l rfl ((unhide HV).kept ((Fr.refl (fun _ => False) w).alloc _) (fun _ _ h => h)) (by omega) ?_)
  intro ao1 cap1 w1 R1 f1 n1
  have F1 : Fr (fun _ => False) w w1 := ((Fr.refl (fun _ => False) w).alloc (Obj.cells #[] 5)).trans f1 (fun i hi h => by omega)
  have HR1 := hide R1
  have HF1 := hide F1
  have HM1 := hide (((unhide HM).kept F1 (fun _ _ h => h)).kept ((Fr.refl (fun _ => False) w1).alloc (Obj.cells #[] 5)) (fun _ _ h => h))
  clear R1 f1 n1 F1
  go_wp2_with (at_builtin; refine wpList_clone rfl (.tmp 29) (.tmp 30) rfl w1.heap.size rfl (heap_alloc_new w1 _) _ x rfl (unhide HM1) (by omega) ?_)
  intro ao2 cap2 w2 R2 f2 n2
  have G2 : Fr (fun _ => False) w1 w2 := ((Fr.refl (fun _ => False) w1).alloc (Obj.cells #[] 5)).trans f2 (fun i hi h => by omega)
  have HX := hide ((unhide HR1).kept G2 (fun _ _ h => h))
  have HY := hide R2
  have HF2 := hide ((unhide HF1).trans G2 (fun _ _ h => h))
  clear R2 f2 n2 G2 HR1 HF1 HM1
  have C1 := hide (gsum_any w2 _ _ l x (unhide HX) (unhide HY) (by omega))
  go_wp2_with fail
  refine (unhide C1).mono ?_
  rintro e w3 ⟨⟨ao3, n3, cap3, rfl, R3⟩, f3⟩
  have F3 := (unhide HF2).trans f3 (fun _ _ h => h)
  have C2 := hide (rsum_any w3 _ _ l x ((unhide HV).kept F3 (fun _ _ h => h)) ((unhide HM).kept F3 (fun _ _ h => h)) (by omega))
  have HX3 := hide ((unhide HX).kept f3 (fun _ _ h => h))
  have HY3 := hide ((unhide HY).kept f3 (fun _ _ h => h))
  have HS3 := hide R3
  have HF3 := hide F3
  clear R3 f3 F3 C1 HX HY HF2
  go_wp2_with fail
  refine (unhide C2).mono ?_
  rintro e w4 ⟨⟨ao4, n4, cap4, rfl, R4⟩, f4⟩
  have C3 := hide (gthr_any w4 _ _ l x ((unhide HX3).kept f4 (fun _ _ h => h)) ((unhide HY3).kept f4 (fun _ _ h => h)) (by omega))
  have HX4 := hide ((unhide HX3).kept f4 (fun _ _ h => h))
  have HY4 := hide ((unhide HY3).kept f4 (fun _ _ h => h))
  have HS4 := hide ((unhide HS3).kept f4 (fun _ _ h => h))
  have HT4 := hide R4
  have HF4 := hide ((unhide HF3).trans f4 (fun _ _ h => h))
  clear R4 f4 C2 HX3 HY3 HS3 HF3
  go_wp2_with fail
  refine (unhide C3).mono ?_
  rintro e w5 ⟨⟨ao5, n5, cap5, rfl, R5⟩, f5⟩
  have F5 := (unhide HF4).trans f5 (fun _ _ h => h)
  have C4 := hide (rthr_any w5 _ _ l x ((unhide HV).kept F5 (fun _ _ h => h)) ((unhide HM).kept F5 (fun _ _ h => h)) (by omega))
  have HX5 := hide ((unhide HX4).kept f5 (fun _ _ h => h))
  have HY5 := hide ((unhide HY4).kept f5 (fun _ _ h => h))
  have HS5 := hide ((unhide HS4).kept f5 (fun _ _ h => h))
  have HT5 := hide ((unhide HT4).kept f5 (fun _ _ h => h))
  have HP5 := hide R5
  have HF5 := hide F5
  clear R5 f5 F5 C3 HX4 HY4 HS4 HT4 HF4
  go_wp2_with fail
  refine (unhide C4).mono ?_
  rintro e w6 ⟨⟨ao6, n6, cap6, rfl, R6⟩, f6⟩
  have HX6 := hide ((unhide HX5).kept f6 (fun _ _ h => h))
  have HY6 := hide ((unhide HY5).kept f6 (fun _ _ h => h))
  have HS6 := hide ((unhide HS5).kept f6 (fun _ _ h => h))
  have HT6 := hide ((unhide HT5).kept f6 (fun _ _ h => h))
  have HP6 := hide ((unhide HP5).kept f6 (fun _ _ h => h))
  have HQ6 := hide R6
  have HF6 := hide ((unhide HF5).trans f6 (fun _ _ h => h))
  clear R6 f6 C4 HX5 HY5 HS5 HT5 HP5 HF5
  generalize (smR l x).1 = SL at *
  generalize (smR l x).2 = SE at *
  generalize (thR l x).1 = TL at *
  generalize (thR l x).2 = TE at *
  go_wp2_with fail
  have HV6 := hide ((unhide HV).kept (unhide HF6) (fun _ _ h => h))
  have HM6 := hide ((unhide HM).kept (unhide HF6) (fun _ _ h => h))
  refine wp_name ?_
  intro a0 hA
  have h0 : a0.tmps.getD 0 undef = .int .u8 ((c.toNat : Nat) : Int) := by rw [hA]; rfl
  have h1 : a0.tmps.getD 1 undef = .slice vo l.length vcap := by rw [hA]; rfl
  have h2 : a0.tmps.getD 2 undef = .slice mo x.length mcap := by rw [hA]; rfl
  have h7 : a0.tmps.getD 7 undef = .slice ao1 l.length cap1 := by rw [hA]; rfl
  have h8 : a0.tmps.getD 8 undef = .slice ao2 x.length cap2 := by rw [hA]; rfl
  have h9 : a0.tmps.getD 9 undef = .slice ao3 n3 cap3 := by rw [hA]; rfl
  have h10 : a0.tmps.getD 10 undef = .int .i64 SE := by rw [hA]; rfl
  have h11 : a0.tmps.getD 11 undef = .slice ao4 n4 cap4 := by rw [hA]; rfl
  have h12 : a0.tmps.getD 12 undef = .int .i64 SE := by rw [hA]; rfl
  have h13 : a0.tmps.getD 13 undef = .slice ao5 n5 cap5 := by rw [hA]; rfl
  have h14 : a0.tmps.getD 14 undef = .int .i64 TE := by rw [hA]; rfl
  have h15 : a0.tmps.getD 15 undef = .slice ao6 n6 cap6 := by rw [hA]; rfl
  have h16 : a0.tmps.getD 16 undef = .int .i64 TE := by rw [hA]; rfl
  have hsz : a0.tmps.size = 117 := by rw [hA]; rfl
  have hdf : a0.defers = [] := by rw [hA]
  clear hA
  refine wp_region_free (by kernel_rfl) (by kernel_rfl) (by decide +kernel) (by rw [hsz]; decide +kernel) (Tk [.eq (.int .u8 ((c.toNat : Nat) : Int)), .eq (.slice ao1 l.length cap1), .sl l.length (scl c l), .eq (.string (str (scl c l))), .eq (.int .u8 ((c.toNat : Nat) : Int)), .eq (.slice vo l.length vcap), .sl l.length (scl c l), .eq (.string (str (scl c l))), .eq (.bool true), .eq (.bool true), .eq (.slice ao3 n3 cap3), .eq (.string (str SL)), .eq (.slice ao4 n4 cap4), .eq (.string (str SL)), .eq (.bool true), .eq (.bool true), .eq (.bool true), .eq (.int .i64 SE), .eq (.int .i64 SE), .eq (.int .i64 SE), .eq (.bool true), .eq (.bool true), .eq (.bool true), .eq (.slice ao5 n5 cap5), .eq (.string (str TL)), .eq (.slice ao6 n6 cap6), .eq (.string (str TL)), .eq (.bool true), .eq (.bool true), .eq (.bool true), .eq (.int .i64 TE), .eq (.int .i64 TE), .eq (.int .i64 TE), .eq (.bool true), .eq (.bool true), .eq (.bool true), .eq (.slice ao1 l.length cap1), .eq (.int .u8 ((c.toNat : Nat) : Int)), .eq (.int .u8 (((ev l c).toNat : Nat) : Int)), .eq (.slice vo l.length vcap), .eq (.int .u8 ((c.toNat : Nat) : Int)), .eq (.int .u8 (((ev l c).toNat : Nat) : Int)), .eq (.bool true), .eq (.bool true), .eq (.bool true), .eq (.slice ao1 l.length cap1), .eq (.string (str l)), .eq (.slice vo l.length vcap), .eq (.string (str l)), .eq (.bool true), .eq (.bool true), .eq (.bool true), .eq (.slice ao2 x.length cap2), .eq (.string (str x)), .eq (.slice mo x.length mcap), .eq (.string (str x)), .eq (.bool true), .eq (.bool true), .eq (.bool true), .eq (.bool true), .eq (.bool true), .eq (.bool true)]) (Tk.mono _) ?steps ?done
  case steps =>
    refine ⟨?_, ?_⟩
    · intro a' w' hb hf hd
      exact ⟨wanted_none rfl, ex_val (.int .u8 ((c.toNat : Nat) : Int)) (ex_move rfl ((hb.old 0 (by decide +kernel)).trans h0)) rfl⟩
    refine ⟨?_, ?_⟩
    · intro a' w' hb hf hd
      exact ⟨wanted_none rfl, ex_val (.slice ao1 l.length cap1) (ex_move rfl ((hb.old 7 (by decide +kernel)).trans h7)) rfl⟩
    refine ⟨?_, ?_⟩
    · intro a' w' hb hf hd
      exact ⟨wanted_none rfl, ex_call 30 _ (en_call2 rfl rfl (hd 0 (by kernel_rfl) 56 rfl) (hd 1 (by kernel_rfl) 57 rfl) cfv30) (((gscale_any w' c _ l ((unhide HX6).kept hf (fun _ _ h => h)) (by omega))).mono (by rintro e w7 ⟨⟨ao, cap, rfl, R⟩, f⟩; exact ⟨⟨_, rfl, ⟨ao, cap, rfl, R⟩⟩, f⟩))⟩
    refine ⟨?_, ?_⟩
    · intro a' w' hb hf hd
      obtain ⟨ao, cap, hv, R⟩ := hd 2 (by kernel_rfl) 58 rfl; exact ⟨wanted_none rfl, ex_val (.string (str (scl c l))) (ex_conv rfl hv (conv_rd (P := Try.prog) R 43 9 5 Try.underlying43 Try.underlying5 Try.underlying9)) rfl⟩
    refine ⟨?_, ?_⟩
    · intro a' w' hb hf hd
      exact ⟨wanted_none rfl, ex_val (.int .u8 ((c.toNat : Nat) : Int)) (ex_move rfl ((hb.old 0 (by decide +kernel)).trans h0)) rfl⟩
    refine ⟨?_, ?_⟩
    · intro a' w' hb hf hd
      exact ⟨wanted_none rfl, ex_val (.slice vo l.length vcap) (ex_move rfl ((hb.old 1 (by decide +kernel)).trans h1)) rfl⟩
    refine ⟨?_, ?_⟩
    · intro a' w' hb hf hd
      exact ⟨wanted_none rfl, ex_call 31 _ (en_call2 rfl rfl (hd 4 (by kernel_rfl) 60 rfl) (hd 5 (by kernel_rfl) 61 rfl) cfv31) (((rscale_any w' c _ l ((unhide HV6).kept hf (fun _ _ h => h)) (by omega))).mono (by rintro e w7 ⟨⟨ao, cap, rfl, R⟩, f⟩; exact ⟨⟨_, rfl, ⟨ao, cap, rfl, R⟩⟩, f⟩))⟩
    refine ⟨?_, ?_⟩
    · intro a' w' hb hf hd
      obtain ⟨ao, cap, hv, R⟩ := hd 6 (by kernel_rfl) 62 rfl; exact ⟨wanted_none rfl, ex_val (.string (str (scl c l))) (ex_conv rfl hv (conv_rd (P := Try.prog) R 43 9 5 Try.underlying43 Try.underlying5 Try.underlying9)) rfl⟩
    refine ⟨?_, ?_⟩
    · intro a' w' hb hf hd
      exact ⟨wanted_none rfl, ex_val (.bool true) (ex_eqS rfl (hd 3 (by kernel_rfl) 59 rfl) (hd 7 (by kernel_rfl) 63 rfl)) rfl⟩
    refine ⟨?_, ?_⟩
    · intro a' w' hb hf hd
      exact ⟨wanted_none rfl, ex_val (.bool true) (ex_move rfl (hd 8 (by kernel_rfl) 64 rfl)) rfl⟩
    refine ⟨?_, ?_⟩
    · intro a' w' hb hf hd
      exact ⟨wanted_of (d := 65) rfl rfl (by rw [hb.size, hsz]; omega) (hd 9 (by kernel_rfl) 65 rfl), ex_val (.slice ao3 n3 cap3) (ex_move rfl ((hb.old 9 (by decide +kernel)).trans h9)) rfl⟩
    refine ⟨?_, ?_⟩
    · intro a' w' hb hf hd
      exact ⟨wanted_of (d := 65) rfl rfl (by rw [hb.size, hsz]; omega) (hd 9 (by kernel_rfl) 65 rfl), ex_val (.string (str SL)) (ex_conv rfl (hd 10 (by kernel_rfl) 66 rfl) (conv_rd (P := Try.prog) ((unhide HS6).kept hf (fun _ _ h => h)) 43 9 5 Try.underlying43 Try.underlying5 Try.underlying9)) rfl⟩
    refine ⟨?_, ?_⟩
    · intro a' w' hb hf hd
      exact ⟨wanted_of (d := 65) rfl rfl (by rw [hb.size, hsz]; omega) (hd 9 (by kernel_rfl) 65 rfl), ex_val (.slice ao4 n4 cap4) (ex_move rfl ((hb.old 11 (by decide +kernel)).trans h11)) rfl⟩
    refine ⟨?_, ?_⟩
    · intro a' w' hb hf hd
      exact ⟨wanted_of (d := 65) rfl rfl (by rw [hb.size, hsz]; omega) (hd 9 (by kernel_rfl) 65 rfl), ex_val (.string (str SL)) (ex_conv rfl (hd 12 (by kernel_rfl) 68 rfl) (conv_rd (P := Try.prog) ((unhide HT6).kept hf (fun _ _ h => h)) 43 9 5 Try.underlying43 Try.underlying5 Try.underlying9)) rfl⟩
    refine ⟨?_, ?_⟩
    · intro a' w' hb hf hd
      exact ⟨wanted_of (d := 65) rfl rfl (by rw [hb.size, hsz]; omega) (hd 9 (by kernel_rfl) 65 rfl), ex_val (.bool true) (ex_eqS rfl (hd 11 (by kernel_rfl) 67 rfl) (hd 13 (by kernel_rfl) 69 rfl)) rfl⟩
    refine ⟨?_, ?_⟩
    · intro a' w' hb hf hd
      exact ⟨wanted_none rfl, ex_val (.bool true) (ex_pick rfl (hd 9 (by kernel_rfl) 65 rfl) (hd 14 (by kernel_rfl) 70 rfl)) rfl⟩
    refine ⟨?_, ?_⟩
    · intro a' w' hb hf hd
      exact ⟨wanted_none rfl, ex_val (.bool true) (ex_move rfl (hd 15 (by kernel_rfl) 71 rfl)) rfl⟩
    refine ⟨?_, ?_⟩
    · intro a' w' hb hf hd
      exact ⟨wanted_of (d := 72) rfl rfl (by rw [hb.size, hsz]; omega) (hd 16 (by kernel_rfl) 72 rfl), ex_val (.int .i64 SE) (ex_move rfl ((hb.old 10 (by decide +kernel)).trans h10)) rfl⟩
    refine ⟨?_, ?_⟩
    · intro a' w' hb hf hd
      exact ⟨wanted_of (d := 72) rfl rfl (by rw [hb.size, hsz]; omega) (hd 16 (by kernel_rfl) 72 rfl), ex_call 21 _ (en_call1 rfl rfl (hd 17 (by kernel_rfl) 73 rfl) cfv21) ((num_any w' SE).mono (by rintro e w7 ⟨rfl, rfl⟩; exact ⟨⟨_, rfl, rfl⟩, Fr.refl _ _⟩))⟩
    refine ⟨?_, ?_⟩
    · intro a' w' hb hf hd
      exact ⟨wanted_of (d := 72) rfl rfl (by rw [hb.size, hsz]; omega) (hd 16 (by kernel_rfl) 72 rfl), ex_val (.int .i64 SE) (ex_move rfl ((hb.old 12 (by decide +kernel)).trans h12)) rfl⟩
    refine ⟨?_, ?_⟩
    · intro a' w' hb hf hd
      exact ⟨wanted_of (d := 72) rfl rfl (by rw [hb.size, hsz]; omega) (hd 16 (by kernel_rfl) 72 rfl), ex_val (.bool true) (ex_eqI Try.underlying3 rfl (hd 18 (by kernel_rfl) 74 rfl) (hd 19 (by kernel_rfl) 75 rfl)) rfl⟩
    refine ⟨?_, ?_⟩
    · intro a' w' hb hf hd
      exact ⟨wanted_none rfl, ex_val (.bool true) (ex_pick rfl (hd 16 (by kernel_rfl) 72 rfl) (hd 20 (by kernel_rfl) 76 rfl)) rfl⟩
    refine ⟨?_, ?_⟩
    · intro a' w' hb hf hd
      exact ⟨wanted_none rfl, ex_val (.bool true) (ex_move rfl (hd 21 (by kernel_rfl) 77 rfl)) rfl⟩
    refine ⟨?_, ?_⟩
    · intro a' w' hb hf hd
      exact ⟨wanted_of (d := 78) rfl rfl (by rw [hb.size, hsz]; omega) (hd 22 (by kernel_rfl) 78 rfl), ex_val (.slice ao5 n5 cap5) (ex_move rfl ((hb.old 13 (by decide +kernel)).trans h13)) rfl⟩
    refine ⟨?_, ?_⟩
    · intro a' w' hb hf hd
      exact ⟨wanted_of (d := 78) rfl rfl (by rw [hb.size, hsz]; omega) (hd 22 (by kernel_rfl) 78 rfl), ex_val (.string (str TL)) (ex_conv rfl (hd 23 (by kernel_rfl) 79 rfl) (conv_rd (P := Try.prog) ((unhide HP6).kept hf (fun _ _ h => h)) 43 9 5 Try.underlying43 Try.underlying5 Try.underlying9)) rfl⟩
    refine ⟨?_, ?_⟩
    · intro a' w' hb hf hd
      exact ⟨wanted_of (d := 78) rfl rfl (by rw [hb.size, hsz]; omega) (hd 22 (by kernel_rfl) 78 rfl), ex_val (.slice ao6 n6 cap6) (ex_move rfl ((hb.old 15 (by decide +kernel)).trans h15)) rfl⟩
    refine ⟨?_, ?_⟩
    · intro a' w' hb hf hd
      exact ⟨wanted_of (d := 78) rfl rfl (by rw [hb.size, hsz]; omega) (hd 22 (by kernel_rfl) 78 rfl), ex_val (.string (str TL)) (ex_conv rfl (hd 25 (by kernel_rfl) 81 rfl) (conv_rd (P := Try.prog) ((unhide HQ6).kept hf (fun _ _ h => h)) 43 9 5 Try.underlying43 Try.underlying5 Try.underlying9)) rfl⟩
    refine ⟨?_, ?_⟩
    · intro a' w' hb hf hd
      exact ⟨wanted_of (d := 78) rfl rfl (by rw [hb.size, hsz]; omega) (hd 22 (by kernel_rfl) 78 rfl), ex_val (.bool true) (ex_eqS rfl (hd 24 (by kernel_rfl) 80 rfl) (hd 26 (by kernel_rfl) 82 rfl)) rfl⟩
    refine ⟨?_, ?_⟩
    · intro a' w' hb hf hd
      exact ⟨wanted_none rfl, ex_val (.bool true) (ex_pick rfl (hd 22 (by kernel_rfl) 78 rfl) (hd 27 (by kernel_rfl) 83 rfl)) rfl⟩
    refine ⟨?_, ?_⟩
    · intro a' w' hb hf hd
      exact ⟨wanted_none rfl, ex_val (.bool true) (ex_move rfl (hd 28 (by kernel_rfl) 84 rfl)) rfl⟩
    refine ⟨?_, ?_⟩
    · intro a' w' hb hf hd
      exact ⟨wanted_of (d := 85) rfl rfl (by rw [hb.size, hsz]; omega) (hd 29 (by kernel_rfl) 85 rfl), ex_val (.int .i64 TE) (ex_move rfl ((hb.old 14 (by decide +kernel)).trans h14)) rfl⟩
    refine ⟨?_, ?_⟩
    · intro a' w' hb hf hd
      exact ⟨wanted_of (d := 85) rfl rfl (by rw [hb.size, hsz]; omega) (hd 29 (by kernel_rfl) 85 rfl), ex_call 21 _ (en_call1 rfl rfl (hd 30 (by kernel_rfl) 86 rfl) cfv21) ((num_any w' TE).mono (by rintro e w7 ⟨rfl, rfl⟩; exact ⟨⟨_, rfl, rfl⟩, Fr.refl _ _⟩))⟩
    refine ⟨?_, ?_⟩
    · intro a' w' hb hf hd
      exact ⟨wanted_of (d := 85) rfl rfl (by rw [hb.size, hsz]; omega) (hd 29 (by kernel_rfl) 85 rfl), ex_val (.int .i64 TE) (ex_move rfl ((hb.old 16 (by decide +kernel)).trans h16)) rfl⟩
    refine ⟨?_, ?_⟩
    · intro a' w' hb hf hd
      exact ⟨wanted_of (d := 85) rfl rfl (by rw [hb.size, hsz]; omega) (hd 29 (by kernel_rfl) 85 rfl), ex_val (.bool true) (ex_eqI Try.underlying3 rfl (hd 31 (by kernel_rfl) 87 rfl) (hd 32 (by kernel_rfl) 88 rfl)) rfl⟩
    refine ⟨?_, ?_⟩
    · intro a' w' hb hf hd
      exact ⟨wanted_none rfl, ex_val (.bool true) (ex_pick rfl (hd 29 (by kernel_rfl) 85 rfl) (hd 33 (by kernel_rfl) 89 rfl)) rfl⟩
    refine ⟨?_, ?_⟩
    · intro a' w' hb hf hd
      exact ⟨wanted_none rfl, ex_val (.bool true) (ex_move rfl (hd 34 (by kernel_rfl) 90 rfl)) rfl⟩
    refine ⟨?_, ?_⟩
    · intro a' w' hb hf hd
      exact ⟨wanted_of (d := 91) rfl rfl (by rw [hb.size, hsz]; omega) (hd 35 (by kernel_rfl) 91 rfl), ex_val (.slice ao1 l.length cap1) (ex_move rfl ((hb.old 7 (by decide +kernel)).trans h7)) rfl⟩
    refine ⟨?_, ?_⟩
    · intro a' w' hb hf hd
      exact ⟨wanted_of (d := 91) rfl rfl (by rw [hb.size, hsz]; omega) (hd 35 (by kernel_rfl) 91 rfl), ex_val (.int .u8 ((c.toNat : Nat) : Int)) (ex_move rfl ((hb.old 0 (by decide +kernel)).trans h0)) rfl⟩
    refine ⟨?_, ?_⟩
    · intro a' w' hb hf hd
      exact ⟨wanted_of (d := 91) rfl rfl (by rw [hb.size, hsz]; omega) (hd 35 (by kernel_rfl) 91 rfl), ex_call 32 _ (en_call2 rfl rfl (hd 36 (by kernel_rfl) 92 rfl) (hd 37 (by kernel_rfl) 93 rfl) cfv32) ((eval_any w' _ l c ((unhide HX6).kept hf (fun _ _ h => h)) (by omega)).mono (by rintro e w7 ⟨rfl, f⟩; exact ⟨⟨_, rfl, rfl⟩, f⟩))⟩
    refine ⟨?_, ?_⟩
    · intro a' w' hb hf hd
      exact ⟨wanted_of (d := 91) rfl rfl (by rw [hb.size, hsz]; omega) (hd 35 (by kernel_rfl) 91 rfl), ex_val (.slice vo l.length vcap) (ex_move rfl ((hb.old 1 (by decide +kernel)).trans h1)) rfl⟩
    refine ⟨?_, ?_⟩
    · intro a' w' hb hf hd
      exact ⟨wanted_of (d := 91) rfl rfl (by rw [hb.size, hsz]; omega) (hd 35 (by kernel_rfl) 91 rfl), ex_val (.int .u8 ((c.toNat : Nat) : Int)) (ex_move rfl ((hb.old 0 (by decide +kernel)).trans h0)) rfl⟩
    refine ⟨?_, ?_⟩
    · intro a' w' hb hf hd
      exact ⟨wanted_of (d := 91) rfl rfl (by rw [hb.size, hsz]; omega) (hd 35 (by kernel_rfl) 91 rfl), ex_call 33 _ (en_call2 rfl rfl (hd 39 (by kernel_rfl) 95 rfl) (hd 40 (by kernel_rfl) 96 rfl) cfv33) ((reval_any w' _ l c ((unhide HV6).kept hf (fun _ _ h => h)) (by omega)).mono (by rintro e w7 ⟨rfl, f⟩; exact ⟨⟨_, rfl, rfl⟩, f⟩))⟩
    refine ⟨?_, ?_⟩
    · intro a' w' hb hf hd
      exact ⟨wanted_of (d := 91) rfl rfl (by rw [hb.size, hsz]; omega) (hd 35 (by kernel_rfl) 91 rfl), ex_val (.bool true) (ex_eqI Try.underlying5 rfl (hd 38 (by kernel_rfl) 94 rfl) (hd 41 (by kernel_rfl) 97 rfl)) rfl⟩
    refine ⟨?_, ?_⟩
    · intro a' w' hb hf hd
      exact ⟨wanted_none rfl, ex_val (.bool true) (ex_pick rfl (hd 35 (by kernel_rfl) 91 rfl) (hd 42 (by kernel_rfl) 98 rfl)) rfl⟩
    refine ⟨?_, ?_⟩
    · intro a' w' hb hf hd
      exact ⟨wanted_none rfl, ex_val (.bool true) (ex_move rfl (hd 43 (by kernel_rfl) 99 rfl)) rfl⟩
    refine ⟨?_, ?_⟩
    · intro a' w' hb hf hd
      exact ⟨wanted_of (d := 100) rfl rfl (by rw [hb.size, hsz]; omega) (hd 44 (by kernel_rfl) 100 rfl), ex_val (.slice ao1 l.length cap1) (ex_move rfl ((hb.old 7 (by decide +kernel)).trans h7)) rfl⟩
    refine ⟨?_, ?_⟩
    · intro a' w' hb hf hd
      exact ⟨wanted_of (d := 100) rfl rfl (by rw [hb.size, hsz]; omega) (hd 44 (by kernel_rfl) 100 rfl), ex_val (.string (str l)) (ex_conv rfl (hd 45 (by kernel_rfl) 101 rfl) (conv_rd (P := Try.prog) ((unhide HX6).kept hf (fun _ _ h => h)) 43 9 5 Try.underlying43 Try.underlying5 Try.underlying9)) rfl⟩
    refine ⟨?_, ?_⟩
    · intro a' w' hb hf hd
      exact ⟨wanted_of (d := 100) rfl rfl (by rw [hb.size, hsz]; omega) (hd 44 (by kernel_rfl) 100 rfl), ex_val (.slice vo l.length vcap) (ex_move rfl ((hb.old 1 (by decide +kernel)).trans h1)) rfl⟩
    refine ⟨?_, ?_⟩
    · intro a' w' hb hf hd
      exact ⟨wanted_of (d := 100) rfl rfl (by rw [hb.size, hsz]; omega) (hd 44 (by kernel_rfl) 100 rfl), ex_val (.string (str l)) (ex_conv rfl (hd 47 (by kernel_rfl) 103 rfl) (conv_rd (P := Try.prog) ((unhide HV6).kept hf (fun _ _ h => h)) 43 9 5 Try.underlying43 Try.underlying5 Try.underlying9)) rfl⟩
    refine ⟨?_, ?_⟩
    · intro a' w' hb hf hd
      exact ⟨wanted_of (d := 100) rfl rfl (by rw [hb.size, hsz]; omega) (hd 44 (by kernel_rfl) 100 rfl), ex_val (.bool true) (ex_eqS rfl (hd 46 (by kernel_rfl) 102 rfl) (hd 48 (by kernel_rfl) 104 rfl)) rfl⟩
    refine ⟨?_, ?_⟩
    · intro a' w' hb hf hd
      exact ⟨wanted_none rfl, ex_val (.bool true) (ex_pick rfl (hd 44 (by kernel_rfl) 100 rfl) (hd 49 (by kernel_rfl) 105 rfl)) rfl⟩
    refine ⟨?_, ?_⟩
    · intro a' w' hb hf hd
      exact ⟨wanted_none rfl, ex_val (.bool true) (ex_move rfl (hd 50 (by kernel_rfl) 106 rfl)) rfl⟩
    refine ⟨?_, ?_⟩
    · intro a' w' hb hf hd
      exact ⟨wanted_of (d := 107) rfl rfl (by rw [hb.size, hsz]; omega) (hd 51 (by kernel_rfl) 107 rfl), ex_val (.slice ao2 x.length cap2) (ex_move rfl ((hb.old 8 (by decide +kernel)).trans h8)) rfl⟩
    refine ⟨?_, ?_⟩
    · intro a' w' hb hf hd
      exact ⟨wanted_of (d := 107) rfl rfl (by rw [hb.size, hsz]; omega) (hd 51 (by kernel_rfl) 107 rfl), ex_val (.string (str x)) (ex_conv rfl (hd 52 (by kernel_rfl) 108 rfl) (conv_rd (P := Try.prog) ((unhide HY6).kept hf (fun _ _ h => h)) 43 9 5 Try.underlying43 Try.underlying5 Try.underlying9)) rfl⟩
    refine ⟨?_, ?_⟩
    · intro a' w' hb hf hd
      exact ⟨wanted_of (d := 107) rfl rfl (by rw [hb.size, hsz]; omega) (hd 51 (by kernel_rfl) 107 rfl), ex_val (.slice mo x.length mcap) (ex_move rfl ((hb.old 2 (by decide +kernel)).trans h2)) rfl⟩
    refine ⟨?_, ?_⟩
    · intro a' w' hb hf hd
      exact ⟨wanted_of (d := 107) rfl rfl (by rw [hb.size, hsz]; omega) (hd 51 (by kernel_rfl) 107 rfl), ex_val (.string (str x)) (ex_conv rfl (hd 54 (by kernel_rfl) 110 rfl) (conv_rd (P := Try.prog) ((unhide HM6).kept hf (fun _ _ h => h)) 43 9 5 Try.underlying43 Try.underlying5 Try.underlying9)) rfl⟩
    refine ⟨?_, ?_⟩
    · intro a' w' hb hf hd
      exact ⟨wanted_of (d := 107) rfl rfl (by rw [hb.size, hsz]; omega) (hd 51 (by kernel_rfl) 107 rfl), ex_val (.bool true) (ex_eqS rfl (hd 53 (by kernel_rfl) 109 rfl) (hd 55 (by kernel_rfl) 111 rfl)) rfl⟩
    refine ⟨?_, ?_⟩
    · intro a' w' hb hf hd
      exact ⟨wanted_none rfl, ex_val (.bool true) (ex_pick rfl (hd 51 (by kernel_rfl) 107 rfl) (hd 56 (by kernel_rfl) 112 rfl)) rfl⟩
    refine ⟨?_, ?_⟩
    · intro a' w' hb hf hd
      exact ⟨wanted_none rfl, ex_val (.bool true) (ex_move rfl (hd 57 (by kernel_rfl) 113 rfl)) rfl⟩
    refine ⟨?_, ?_⟩
    · intro a' w' hb hf hd
      exact ⟨wanted_of (d := 114) rfl rfl (by rw [hb.size, hsz]; omega) (hd 58 (by kernel_rfl) 114 rfl), ex_call 25 _ (en_call0 rfl rfl cfv25) ((live_any w').mono (by rintro e w7 ⟨rfl, f⟩; exact ⟨⟨_, rfl, rfl⟩, f⟩))⟩
    refine ⟨?_, ?_⟩
    · intro a' w' hb hf hd
      exact ⟨wanted_none rfl, ex_val (.bool true) (ex_pick rfl (hd 58 (by kernel_rfl) 114 rfl) (hd 59 (by kernel_rfl) 115 rfl)) rfl⟩
    refine ⟨?_, ?_⟩
    · intro a' w' hb hf hd
      exact ⟨wanted_none rfl, ex_val (.bool true) (ex_assign rfl (hd 60 (by kernel_rfl) 116 rfl)) rfl⟩
    exact trivial
  case done =>
    intro a' w' hb hf hall
    have h6 : a'.tmps.getD 6 undef = .bool true := hall 61 (by decide) 6 rfl
    have hdf' : a'.defers = [] := by rw [hb.defers]; exact hdf
    have hF : Fr (fun _ => False) w w' := (unhide HF6).trans hf (fun _ _ h => h)
    have hr : bodyPost Try.prog Try.f6 (fun e w' => e = Ending.returned (Value.bool true) ∧ Fr (fun x => False) w w') .ret a' w' :=
      bodyPost_ret (v := .bool true) (by
        have h6' : a'.tmps[6]?.getD undef = .bool true := by simpa using h6
        simp [results, Try.results6, go_sem, h6']) hdf' ⟨rfl, hF⟩
    clear hall hb
    apply_assumption
    exact wp_ret hr
#print axioms vecWalk_short
end Go.Proofs.Ytbbgfbjchlefeaa
