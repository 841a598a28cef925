/-
  Apply.
-/
import Derived.Test.YtbenailemoefhaaB2
import Derived.Test.YtbenailemoefhaaD2
import Derived.Test.YtbenailemoefhaaA7
import Derived.Deep.DeepCutAuto
import Derived.Deep.CutBlock
namespace Go.Proofs.Ytbenailemoefhaa
open Go.RowKit
set_option linter.unusedVariables false
set_option linter.unusedSimpArgs false

attribute [local go_sem ↓] Go.wp_at_zero Go.wp_at_succ

theorem onepathG {l : List Oper} {a : Nat} : ∀ k i j, ([a] : List Nat)[k]? = some i → ([a] : List Nat)[k + 1]? = some j → Path l j i := by
  intro k i j hi hj
  rcases k with _ | k <;> simp at hj
theorem x_load52 {ρ : Operand → Value} {o : Oper} {w : World} {x : Operand} {n : Nat} {y : Sa} (ho : o.op = .load 52 x) (hx : ρ x = .pointer (some ⟨n, 0, none⟩)) (h : w.heap[n]? = some (.cells y.cs 52 (0, 0))) : (execOp ρ o).run Try.prog w = .ok (.value y.v) w := by
  have hr : row? w n = some y.cs := by unfold row?; rw [h]; rfl
  have h1 : rowN w n 7 = true := by unfold rowN; rw [hr]; simp
  have h2 : rowD w n = y.cs := by unfold rowD; rw [hr]; rfl
  simp only [execOp, ho, hx, Instr.loadAt, Instr.sureAddr, Sem.run_bind, Sem.run_pure, Result.andThen_ok, load52 w n h1, h2]
set_option maxRecDepth 100000 in
set_option maxHeartbeats 8000000 in
theorem apply_any (x : In) (s : Sa) (now : Int) (w : World) : Calls Try.prog 24 #[x.v, s.v, .int .u64 now] w fun e w' => e = .returned (ResP (apX x s now) (apS x s) (apE x s)) ∧ Fr (fun _ => False) w w' := by
  have HC := check_any x
  have HCS := fun W => canSet_any x.k s W
  have HH := fun W => has_any s 8 W
  have HE : Hid (apE x s = if ck x ≠ 0 then ck x else if csB x.k s = false then 122 else 0) := hide rfl
  have HX : Hid (apX x s now = stt (stf (if apS x s = true then { x with tm := now } else x) s (hb s.h 1) (hb s.h 2) (hb s.h 4) (hb s.h 8)) s (hb s.h 16) (hb s.h 32) (hb s.h 64) (hb s.h 128) (s.h != 0) now) := hide rfl
  have HSZ : Hid (apS x s = (hb s.h 8 && (s.s != x.s))) := hide rfl
  generalize apE x s = ee at *
  generalize apX x s now = X at *
  obtain ⟨SZv, hSZv⟩ : ∃ b, b = apS x s := ⟨_, rfl⟩
  rw [← hSZv] at HX HSZ ⊢
  clear hSZv
  generalize ck x = c at *
  generalize csB x.k s = cs at *
  obtain ⟨h8, hh8⟩ : ∃ b, b = hb s.h 8 := ⟨_, rfl⟩
  rw [← hh8] at HSZ HH
  clear hh8
  by_cases hc : c = 0
  rotate_left
  · have bne : (c != 0) = true := by simpa using hc
    rw [if_pos hc] at HE
    have he := unhide HE
    subst he
    clear HE HX HSZ HCS HH
    go_enter Try.func24, Try.ntmps24
    go_wp2_with (first | (go_at_call 18; refine mono_ext (HC _) ?_; rintro e E1 rfl hE1) | (refine wl_zero25 rfl rfl ?_; simp only [Act.put, List.setIfInBounds_toArray, List.set_cons_succ, List.set_cons_zero]) | (apply wl_load25 _ rfl rfl _ rfl; (case hr => (first | (simp [go_sem]; done) | (simp (disch := first | rfl | (simp; done) | (simp; omega)) only [rowN_ext, rowN_alloc_past, In.rowN]; done))); (case hc => (first | (simp [go_sem]; done) | (simp (disch := first | rfl | (simp; done) | (simp; omega)) only [rowD_ext, rowD_alloc_past, rowD_alloc_at]; try exact rfl)))) | (apply wl_store25 _ _ rfl rfl _ rfl _ rfl; (case hr => (first | (simp [go_sem]; done) | (simp (disch := first | rfl | (simp; done) | (simp; omega)) only [rowN_ext, rowN_alloc_past, In.rowN]; done))); (case hw => (first | (simp (disch := first | rfl | (simp; done) | (simp; omega)) only [setRow_ext, setRow_alloc_past, setRow_alloc_at]; exact rfl) | (simp [go_sem]; try exact rfl)))))
    apply ree25 rfl rfl rfl; (case hr => (first | (simp [go_sem]; done) | (simp (disch := first | rfl | (simp; done) | (simp; omega)) only [rowN_ext, rowN_alloc_past, In.rowN]; done))); (case hc => (first | (simp [go_sem]; done) | (simp (disch := first | rfl | (simp; done) | (simp; omega)) only [rowD_ext, rowD_alloc_past, rowD_alloc_at]; try exact rfl)))
    refine ⟨congrArg Ending.returned ?_, by repeat' (first | exact Fr.refl _ _ | apply Fr.alloc | rw [← ext_ext] | (refine Fr.ext ?_ (by assumption)))⟩
    simp [ResP, hc]
  subst hc
  rw [if_neg (by simp)] at HE
  rcases cs with _ | _
  · have he : ee = 122 := unhide HE
    subst he
    clear HE HX HSZ HH
    go_enter Try.func24, Try.ntmps24
    go_wp2_with (first | (go_at_call 18; refine mono_ext (HC _) ?_; rintro e E1 rfl hE1) | (go_at_call 49; refine mono_ext (HCS _) ?_; rintro e E2 rfl hE2) | (refine wl_zero25 rfl rfl ?_; simp only [Act.put, List.setIfInBounds_toArray, List.set_cons_succ, List.set_cons_zero]) | (apply wl_load25 _ rfl rfl _ rfl; (case hr => (first | (simp [go_sem]; done) | (simp (disch := first | rfl | (simp; done) | (simp; omega)) only [rowN_ext, rowN_alloc_past, In.rowN]; done))); (case hc => (first | (simp [go_sem]; done) | (simp (disch := first | rfl | (simp; done) | (simp; omega)) only [rowD_ext, rowD_alloc_past, rowD_alloc_at]; try exact rfl)))) | (apply wl_load52 _ rfl rfl _ rfl; (case hr => (first | (simp [go_sem]; done) | (simp (disch := first | rfl | (simp; done) | (simp; omega)) only [rowN_ext, rowN_alloc_past, Sa.rowN]; done))); (case hc => (first | (simp [go_sem]; done) | (simp (disch := first | rfl | (simp; done) | (simp; omega)) only [rowD_ext, rowD_alloc_past, rowD_alloc_at]; try exact rfl)))) | (apply wl_store25 _ _ rfl rfl _ rfl _ rfl; (case hr => (first | (simp [go_sem]; done) | (simp (disch := first | rfl | (simp; done) | (simp; omega)) only [rowN_ext, rowN_alloc_past, In.rowN]; done))); (case hw => (first | (simp (disch := first | rfl | (simp; done) | (simp; omega)) only [setRow_ext, setRow_alloc_past, setRow_alloc_at]; exact rfl) | (simp [go_sem]; try exact rfl)))))
    apply ree25 rfl rfl rfl; (case hr => (first | (simp [go_sem]; done) | (simp (disch := first | rfl | (simp; done) | (simp; omega)) only [rowN_ext, rowN_alloc_past, In.rowN]; done))); (case hc => (first | (simp [go_sem]; done) | (simp (disch := first | rfl | (simp; done) | (simp; omega)) only [rowD_ext, rowD_alloc_past, rowD_alloc_at]; try exact rfl)))
    exact ⟨rfl, by repeat' (first | exact Fr.refl _ _ | apply Fr.alloc | rw [← ext_ext] | (refine Fr.ext ?_ (by assumption)))⟩
  have he : ee = 0 := unhide HE
  subst he
  clear HE
  rcases hsx : (h8 && (s.s != x.s)) with _ | _
  · have hz : SZv = false := by rw [unhide HSZ, hsx]
    subst hz
    have hcase : h8 = false ∨ (h8 = true ∧ (s.s != x.s) = false) := by revert hsx; cases h8 <;> simp
    rw [if_neg (by simp)] at HX
    clear HSZ hsx
    rcases hcase with rfl | ⟨rfl, hne⟩
    · go_enter Try.func24, Try.ntmps24
      go_upto_region 9 with (first | (go_at_call 18; refine mono_ext (HC _) ?_; rintro e E1 rfl hE1) | (go_at_call 49; refine mono_ext (HCS _) ?_; rintro e E2 rfl hE2) | (go_at_call 50; refine mono_ext (HH _) ?_; rintro e E3 rfl hE3) | (apply wl_load25 _ rfl rfl _ rfl; (case hr => (first | (simp [go_sem]; done) | (simp (disch := first | rfl | (simp; done) | (simp; omega)) only [rowN_ext, rowN_alloc_past, In.rowN]; done))); (case hc => (first | (simp [go_sem]; done) | (simp (disch := first | rfl | (simp; done) | (simp; omega)) only [rowD_ext, rowD_alloc_past, rowD_alloc_at]; try exact rfl)))) | (apply wl_load52 _ rfl rfl _ rfl; (case hr => (first | (simp [go_sem]; done) | (simp (disch := first | rfl | (simp; done) | (simp; omega)) only [rowN_ext, rowN_alloc_past, Sa.rowN]; done))); (case hc => (first | (simp [go_sem]; done) | (simp (disch := first | rfl | (simp; done) | (simp; omega)) only [rowD_ext, rowD_alloc_past, rowD_alloc_at]; try exact rfl)))))
      obtain ⟨y, hy⟩ : ∃ y : In, y = x := ⟨_, rfl⟩
      rw [← hy] at HX ⊢
      obtain ⟨U, hU⟩ : ∃ U : In, U = stf y s (hb s.h 1) (hb s.h 2) (hb s.h 4) (hb s.h 8) := ⟨_, rfl⟩
      obtain ⟨V, hV⟩ : ∃ V : In, V = stt U s (hb s.h 16) (hb s.h 32) (hb s.h 64) (hb s.h 128) (s.h != 0) now := ⟨_, rfl⟩
      have HXX : Hid (X = V) := hide (by rw [unhide HX, hV, hU])
      have HF52 : Hid (∀ W, Calls Try.prog 52 #[y.v, s.v] W fun e w' => e = .returned U.v ∧ Fr (fun _ => False) W w') := hide (fun W => by rw [hU]; exact setFields_any y s W)
      have HF51 : Hid (∀ W, Calls Try.prog 51 #[U.v, s.v, .int .u64 now] W fun e w' => e = .returned V.v ∧ Fr (fun _ => False) W w') := hide (fun W => by rw [hV]; exact setTimes_any U s now W)
      clear hy hU hV
      refine wp_world ?_
      intro Wd hWd
      have FD : Hid (Fr (fun _ => False) w Wd) := hide (by rw [hWd]; repeat' (first | exact Fr.refl _ _ | apply Fr.alloc | rw [← ext_ext] | (refine Fr.ext ?_ (by assumption))))
      have HX0 : Hid (Wd.heap[w.heap.size]? = some (.cells y.cs 25 (0, 0))) := hide (by rw [hWd, ext_heap _ _ _ (by simp; omega), Below.heap_alloc _ _ _ (by simp; omega), Below.heap_alloc _ _ _ (by simp)]; exact heap_alloc_new w _)
      have HS0 : Hid (Wd.heap[w.heap.size + 1]? = some (.cells s.cs 52 (0, 0))) := hide (by
        have h9 := heap_alloc_new (w.alloc (.cells y.cs 25)) (.cells s.cs 52)
        rw [show (w.alloc (.cells y.cs 25)).heap.size = w.heap.size + 1 by simp] at h9
        rw [hWd, ext_heap _ _ _ (by simp), Below.heap_alloc _ _ _ (by simp)]; exact h9)
      have HZ0 : Hid (Wd.heap[w.heap.size + 1 + 1]? = some (.cells (In.cs In.zero) 25 (0, 0))) := hide (by
        have h9 := heap_alloc_new ((w.alloc (.cells y.cs 25)).alloc (.cells s.cs 52)) (.cells (In.cs In.zero) 25)
        rw [show ((w.alloc (.cells y.cs 25)).alloc (.cells s.cs 52)).heap.size = w.heap.size + 1 + 1 by simp] at h9
        rw [hWd, ext_heap _ _ _ (by simp)]; exact h9)
      clear hWd
      refine wp_nameK ?_
      intro a0 hA
      have h2 : a0.tmps.getD 2 undef = .int .u64 now := by rw [hA]; rfl
      have h3 : a0.tmps.getD 3 undef = .pointer (some ⟨w.heap.size, 0, none⟩) := by rw [hA]; rfl
      have h4 : a0.tmps.getD 4 undef = .pointer (some ⟨w.heap.size + 1, 0, none⟩) := by rw [hA]; rfl
      have h6 : a0.tmps.getD 6 undef = .pointer (some ⟨w.heap.size + 1 + 1, 0, none⟩) := by rw [hA]; rfl
      have h10 : a0.tmps.getD 10 undef = .bool false := by rw [hA]; rfl
      have hsz : a0.tmps.size = 42 := by rw [hA]; rfl
      have hdf : a0.defers = [] := by rw [hA]
      clear hA
      refine wp_region_kinds3 (fun k => k = w.heap.size + 1 + 1) (by kernel_rfl) (by kernel_rfl) (by decide +kernel) (by rw [hsz]; decide +kernel) [.eq (y.v), .eq (s.v), .eq (U.v), .eq (s.v), .eq (.int .u64 now), .eq (V.v), .eq (.bool false), .any, .eq (.bool false), .eq (.int .i64 0)] [7] (by decide) (by decide) (onepathG) (fun k W => (k = 0 → Fr (fun _ => False) Wd W) ∧ (k = 1 → W.heap[w.heap.size + 1 + 1]? = some (.cells V.cs 25 (0, 0)))) ⟨fun _ => (Fr.refl _ _).drew, fun e => by omega⟩ ?steps ?done
      case steps =>
        refine ⟨?_, ?_⟩
        · intro a' w' k' hb hf hs hc hq hg hd
          exact .inl ⟨wantedN rfl, k_val (y.v) (by decide) hs (x_load25 rfl ((hb.old 3 (by decide +kernel)).trans h3) (by rw [hf.block _ (lt_of_heap (unhide HX0)) (by omega)]; exact unhide HX0)) rfl⟩
        refine ⟨?_, ?_⟩
        · intro a' w' k' hb hf hs hc hq hg hd
          exact .inl ⟨wantedN rfl, k_val (s.v) (by decide) hs (x_load52 rfl ((hb.old 4 (by decide +kernel)).trans h4) (by rw [hf.block _ (lt_of_heap (unhide HS0)) (by omega)]; exact unhide HS0)) rfl⟩
        refine ⟨?_, ?_⟩
        · intro a' w' k' hb hf hs hc hq hg hd
          exact .inl ⟨wantedN rfl, k_call 52 _ (by decide) (e_call2 rfl rfl (hd 0 (by kernel_rfl) 35 rfl) (hd 1 (by kernel_rfl) 36 rfl) (fun _ _ => by simp [go_sem])) ((unhide HF52 _).mono (by rintro e w9 ⟨rfl, f9⟩; exact ⟨_, rfl, rfl, f9, ⟨fun e => (hs.1 e).trans f9 (fun _ _ e => e), fun e => by have := hs.2 e; rw [f9.block _ (lt_of_heap this) id]; exact this⟩⟩))⟩
        refine ⟨?_, ?_⟩
        · intro a' w' k' hb hf hs hc hq hg hd
          exact .inl ⟨wantedN rfl, k_val (s.v) (by decide) hs (x_load52 rfl ((hb.old 4 (by decide +kernel)).trans h4) (by rw [hf.block _ (lt_of_heap (unhide HS0)) (by omega)]; exact unhide HS0)) rfl⟩
        refine ⟨?_, ?_⟩
        · intro a' w' k' hb hf hs hc hq hg hd
          exact .inl ⟨wantedN rfl, k_val (.int .u64 now) (by decide) hs (x_move rfl ((hb.old 2 (by decide +kernel)).trans h2)) rfl⟩
        refine ⟨?_, ?_⟩
        · intro a' w' k' hb hf hs hc hq hg hd
          exact .inl ⟨wantedN rfl, k_call 51 _ (by decide) (e_call3 rfl rfl (hd 2 (by kernel_rfl) 37 rfl) (hd 3 (by kernel_rfl) 38 rfl) (hd 4 (by kernel_rfl) 39 rfl) (fun _ _ => by simp [go_sem])) ((unhide HF51 _).mono (by rintro e w9 ⟨rfl, f9⟩; exact ⟨_, rfl, rfl, f9, ⟨fun e => (hs.1 e).trans f9 (fun _ _ e => e), fun e => by have := hs.2 e; rw [f9.block _ (lt_of_heap this) id]; exact this⟩⟩))⟩
        refine ⟨?_, ?_⟩
        · intro a' w' k' hb hf hs hc hq hg hd
          exact .inl ⟨wantedN rfl, k_val (.bool false) (by decide) hs (x_move rfl ((hb.old 10 (by decide +kernel)).trans h10)) rfl⟩
        refine ⟨?_, ?_⟩
        · intro a' w' k' hb hf hs hc hq hg hd
          obtain rfl := hc 0 rfl; have hF0 := hs.1 rfl; exact .inl ⟨wantedN rfl, k_store _ (by decide) ⟨fun e => by omega, fun _ => setRow_at (by rw [hF0.block _ (lt_of_heap (unhide HZ0)) id]; exact unhide HZ0) _⟩ (Fr.setRow_one _ _ rfl) (x_store25 rfl ((hb.old 6 (by decide +kernel)).trans h6) (hd 5 (by kernel_rfl) 40 rfl) (by rw [hF0.block _ (lt_of_heap (unhide HZ0)) id]; exact unhide HZ0)) trivial⟩
        refine ⟨?_, ?_⟩
        · intro a' w' k' hb hf hs hc hq hg hd
          exact .inl ⟨wantedN rfl, k_val (.bool false) (by decide) hs (x_assign rfl (hd 6 (by kernel_rfl) 41 rfl)) rfl⟩
        refine ⟨?_, ?_⟩
        · intro a' w' k' hb hf hs hc hq hg hd
          exact .inl ⟨wantedN rfl, k_val (.int .i64 0) (by decide) hs (x_assign rfl rfl) rfl⟩
        exact trivial
      case done =>
        intro a' w9 hb hf hs hall
        have hdf' : a'.defers = [] := by rw [hb.defers]; exact hdf
        have hv7 : a'.tmps.getD 7 undef = .bool false := hall 8 (by decide) 7 rfl
        have hv8 : a'.tmps.getD 8 undef = .int .i64 0 := hall 9 (by decide) 8 rfl
        have hv6 : a'.tmps.getD 6 undef = .pointer (some ⟨w.heap.size + 1 + 1, 0, none⟩) := (hb.old 6 (by decide +kernel)).trans h6
        have hrr : row? w9 (w.heap.size + 1 + 1) = some V.cs := by unfold row?; rw [hs.2 rfl]; rfl
        have hr : bodyPost Try.prog Try.f24 (fun e w' => e = .returned (ResP X false 0) ∧ Fr (fun _ => False) w w') .ret a' w9 := by
          refine ree25 (p := 6) (u := 7) (u2 := 8) rfl hv6 hdf' (by unfold rowN; rw [hrr]; simp) (c := V.cs) (by unfold rowD; rw [hrr]; rfl) ⟨?_, (unhide FD).trans hf (fun k hk e => by omega)⟩
          rw [hv7, hv8, resP_ok, unhide HXX]
        clear hall hb
        apply_assumption
        exact wp_ret hr
    · go_enter Try.func24, Try.ntmps24
      go_upto_region 9 with (first | (go_at_call 18; refine mono_ext (HC _) ?_; rintro e E1 rfl hE1) | (go_at_call 49; refine mono_ext (HCS _) ?_; rintro e E2 rfl hE2) | (go_at_call 50; refine mono_ext (HH _) ?_; rintro e E3 rfl hE3) | (apply wl_load25 _ rfl rfl _ rfl; (case hr => (first | (simp [go_sem]; done) | (simp (disch := first | rfl | (simp; done) | (simp; omega)) only [rowN_ext, rowN_alloc_past, In.rowN]; done))); (case hc => (first | (simp [go_sem]; done) | (simp (disch := first | rfl | (simp; done) | (simp; omega)) only [rowD_ext, rowD_alloc_past, rowD_alloc_at]; try exact rfl)))) | (apply wl_load52 _ rfl rfl _ rfl; (case hr => (first | (simp [go_sem]; done) | (simp (disch := first | rfl | (simp; done) | (simp; omega)) only [rowN_ext, rowN_alloc_past, Sa.rowN]; done))); (case hc => (first | (simp [go_sem]; done) | (simp (disch := first | rfl | (simp; done) | (simp; omega)) only [rowD_ext, rowD_alloc_past, rowD_alloc_at]; try exact rfl)))))
      obtain ⟨y, hy⟩ : ∃ y : In, y = x := ⟨_, rfl⟩
      rw [← hy] at HX ⊢
      obtain ⟨U, hU⟩ : ∃ U : In, U = stf y s (hb s.h 1) (hb s.h 2) (hb s.h 4) (hb s.h 8) := ⟨_, rfl⟩
      obtain ⟨V, hV⟩ : ∃ V : In, V = stt U s (hb s.h 16) (hb s.h 32) (hb s.h 64) (hb s.h 128) (s.h != 0) now := ⟨_, rfl⟩
      have HXX : Hid (X = V) := hide (by rw [unhide HX, hV, hU])
      have HF52 : Hid (∀ W, Calls Try.prog 52 #[y.v, s.v] W fun e w' => e = .returned U.v ∧ Fr (fun _ => False) W w') := hide (fun W => by rw [hU]; exact setFields_any y s W)
      have HF51 : Hid (∀ W, Calls Try.prog 51 #[U.v, s.v, .int .u64 now] W fun e w' => e = .returned V.v ∧ Fr (fun _ => False) W w') := hide (fun W => by rw [hV]; exact setTimes_any U s now W)
      clear hy hU hV
      refine wp_world ?_
      intro Wd hWd
      have FD : Hid (Fr (fun _ => False) w Wd) := hide (by rw [hWd]; repeat' (first | exact Fr.refl _ _ | apply Fr.alloc | rw [← ext_ext] | (refine Fr.ext ?_ (by assumption))))
      have HX0 : Hid (Wd.heap[w.heap.size]? = some (.cells y.cs 25 (0, 0))) := hide (by rw [hWd, ext_heap _ _ _ (by simp; omega), Below.heap_alloc _ _ _ (by simp; omega), Below.heap_alloc _ _ _ (by simp)]; exact heap_alloc_new w _)
      have HS0 : Hid (Wd.heap[w.heap.size + 1]? = some (.cells s.cs 52 (0, 0))) := hide (by
        have h9 := heap_alloc_new (w.alloc (.cells y.cs 25)) (.cells s.cs 52)
        rw [show (w.alloc (.cells y.cs 25)).heap.size = w.heap.size + 1 by simp] at h9
        rw [hWd, ext_heap _ _ _ (by simp), Below.heap_alloc _ _ _ (by simp)]; exact h9)
      have HZ0 : Hid (Wd.heap[w.heap.size + 1 + 1]? = some (.cells (In.cs In.zero) 25 (0, 0))) := hide (by
        have h9 := heap_alloc_new ((w.alloc (.cells y.cs 25)).alloc (.cells s.cs 52)) (.cells (In.cs In.zero) 25)
        rw [show ((w.alloc (.cells y.cs 25)).alloc (.cells s.cs 52)).heap.size = w.heap.size + 1 + 1 by simp] at h9
        rw [hWd, ext_heap _ _ _ (by simp)]; exact h9)
      clear hWd
      refine wp_nameK ?_
      intro a0 hA
      have h2 : a0.tmps.getD 2 undef = .int .u64 now := by rw [hA]; rfl
      have h3 : a0.tmps.getD 3 undef = .pointer (some ⟨w.heap.size, 0, none⟩) := by rw [hA]; rfl
      have h4 : a0.tmps.getD 4 undef = .pointer (some ⟨w.heap.size + 1, 0, none⟩) := by rw [hA]; rfl
      have h6 : a0.tmps.getD 6 undef = .pointer (some ⟨w.heap.size + 1 + 1, 0, none⟩) := by rw [hA]; rfl
      have h10 : a0.tmps.getD 10 undef = .bool false := by rw [hA]; rfl
      have hsz : a0.tmps.size = 42 := by rw [hA]; rfl
      have hdf : a0.defers = [] := by rw [hA]
      clear hA
      refine wp_region_kinds3 (fun k => k = w.heap.size + 1 + 1) (by kernel_rfl) (by kernel_rfl) (by decide +kernel) (by rw [hsz]; decide +kernel) [.eq (y.v), .eq (s.v), .eq (U.v), .eq (s.v), .eq (.int .u64 now), .eq (V.v), .eq (.bool false), .any, .eq (.bool false), .eq (.int .i64 0)] [7] (by decide) (by decide) (onepathG) (fun k W => (k = 0 → Fr (fun _ => False) Wd W) ∧ (k = 1 → W.heap[w.heap.size + 1 + 1]? = some (.cells V.cs 25 (0, 0)))) ⟨fun _ => (Fr.refl _ _).drew, fun e => by omega⟩ ?steps ?done
      case steps =>
        refine ⟨?_, ?_⟩
        · intro a' w' k' hb hf hs hc hq hg hd
          exact .inl ⟨wantedN rfl, k_val (y.v) (by decide) hs (x_load25 rfl ((hb.old 3 (by decide +kernel)).trans h3) (by rw [hf.block _ (lt_of_heap (unhide HX0)) (by omega)]; exact unhide HX0)) rfl⟩
        refine ⟨?_, ?_⟩
        · intro a' w' k' hb hf hs hc hq hg hd
          exact .inl ⟨wantedN rfl, k_val (s.v) (by decide) hs (x_load52 rfl ((hb.old 4 (by decide +kernel)).trans h4) (by rw [hf.block _ (lt_of_heap (unhide HS0)) (by omega)]; exact unhide HS0)) rfl⟩
        refine ⟨?_, ?_⟩
        · intro a' w' k' hb hf hs hc hq hg hd
          exact .inl ⟨wantedN rfl, k_call 52 _ (by decide) (e_call2 rfl rfl (hd 0 (by kernel_rfl) 35 rfl) (hd 1 (by kernel_rfl) 36 rfl) (fun _ _ => by simp [go_sem])) ((unhide HF52 _).mono (by rintro e w9 ⟨rfl, f9⟩; exact ⟨_, rfl, rfl, f9, ⟨fun e => (hs.1 e).trans f9 (fun _ _ e => e), fun e => by have := hs.2 e; rw [f9.block _ (lt_of_heap this) id]; exact this⟩⟩))⟩
        refine ⟨?_, ?_⟩
        · intro a' w' k' hb hf hs hc hq hg hd
          exact .inl ⟨wantedN rfl, k_val (s.v) (by decide) hs (x_load52 rfl ((hb.old 4 (by decide +kernel)).trans h4) (by rw [hf.block _ (lt_of_heap (unhide HS0)) (by omega)]; exact unhide HS0)) rfl⟩
        refine ⟨?_, ?_⟩
        · intro a' w' k' hb hf hs hc hq hg hd
          exact .inl ⟨wantedN rfl, k_val (.int .u64 now) (by decide) hs (x_move rfl ((hb.old 2 (by decide +kernel)).trans h2)) rfl⟩
        refine ⟨?_, ?_⟩
        · intro a' w' k' hb hf hs hc hq hg hd
          exact .inl ⟨wantedN rfl, k_call 51 _ (by decide) (e_call3 rfl rfl (hd 2 (by kernel_rfl) 37 rfl) (hd 3 (by kernel_rfl) 38 rfl) (hd 4 (by kernel_rfl) 39 rfl) (fun _ _ => by simp [go_sem])) ((unhide HF51 _).mono (by rintro e w9 ⟨rfl, f9⟩; exact ⟨_, rfl, rfl, f9, ⟨fun e => (hs.1 e).trans f9 (fun _ _ e => e), fun e => by have := hs.2 e; rw [f9.block _ (lt_of_heap this) id]; exact this⟩⟩))⟩
        refine ⟨?_, ?_⟩
        · intro a' w' k' hb hf hs hc hq hg hd
          exact .inl ⟨wantedN rfl, k_val (.bool false) (by decide) hs (x_move rfl ((hb.old 10 (by decide +kernel)).trans h10)) rfl⟩
        refine ⟨?_, ?_⟩
        · intro a' w' k' hb hf hs hc hq hg hd
          obtain rfl := hc 0 rfl; have hF0 := hs.1 rfl; exact .inl ⟨wantedN rfl, k_store _ (by decide) ⟨fun e => by omega, fun _ => setRow_at (by rw [hF0.block _ (lt_of_heap (unhide HZ0)) id]; exact unhide HZ0) _⟩ (Fr.setRow_one _ _ rfl) (x_store25 rfl ((hb.old 6 (by decide +kernel)).trans h6) (hd 5 (by kernel_rfl) 40 rfl) (by rw [hF0.block _ (lt_of_heap (unhide HZ0)) id]; exact unhide HZ0)) trivial⟩
        refine ⟨?_, ?_⟩
        · intro a' w' k' hb hf hs hc hq hg hd
          exact .inl ⟨wantedN rfl, k_val (.bool false) (by decide) hs (x_assign rfl (hd 6 (by kernel_rfl) 41 rfl)) rfl⟩
        refine ⟨?_, ?_⟩
        · intro a' w' k' hb hf hs hc hq hg hd
          exact .inl ⟨wantedN rfl, k_val (.int .i64 0) (by decide) hs (x_assign rfl rfl) rfl⟩
        exact trivial
      case done =>
        intro a' w9 hb hf hs hall
        have hdf' : a'.defers = [] := by rw [hb.defers]; exact hdf
        have hv7 : a'.tmps.getD 7 undef = .bool false := hall 8 (by decide) 7 rfl
        have hv8 : a'.tmps.getD 8 undef = .int .i64 0 := hall 9 (by decide) 8 rfl
        have hv6 : a'.tmps.getD 6 undef = .pointer (some ⟨w.heap.size + 1 + 1, 0, none⟩) := (hb.old 6 (by decide +kernel)).trans h6
        have hrr : row? w9 (w.heap.size + 1 + 1) = some V.cs := by unfold row?; rw [hs.2 rfl]; rfl
        have hr : bodyPost Try.prog Try.f24 (fun e w' => e = .returned (ResP X false 0) ∧ Fr (fun _ => False) w w') .ret a' w9 := by
          refine ree25 (p := 6) (u := 7) (u2 := 8) rfl hv6 hdf' (by unfold rowN; rw [hrr]; simp) (c := V.cs) (by unfold rowD; rw [hrr]; rfl) ⟨?_, (unhide FD).trans hf (fun k hk e => by omega)⟩
          rw [hv7, hv8, resP_ok, unhide HXX]
        clear hall hb
        apply_assumption
        exact wp_ret hr
  · have hz : SZv = true := by rw [unhide HSZ, hsx]
    subst hz
    obtain ⟨h8t, hne⟩ : h8 = true ∧ (s.s != x.s) = true := by revert hsx; cases h8 <;> simp
    subst h8t
    rw [if_pos rfl] at HX
    clear HSZ hsx
    go_enter Try.func24, Try.ntmps24
    go_upto_region 9 with (first | (go_at_call 18; refine mono_ext (HC _) ?_; rintro e E1 rfl hE1) | (go_at_call 49; refine mono_ext (HCS _) ?_; rintro e E2 rfl hE2) | (go_at_call 50; refine mono_ext (HH _) ?_; rintro e E3 rfl hE3) | (apply wl_load25 _ rfl rfl _ rfl; (case hr => (first | (simp [go_sem]; done) | (simp (disch := first | rfl | (simp; done) | (simp; omega)) only [rowN_ext, rowN_alloc_past, In.rowN]; done))); (case hc => (first | (simp [go_sem]; done) | (simp (disch := first | rfl | (simp; done) | (simp; omega)) only [rowD_ext, rowD_alloc_past, rowD_alloc_at]; try exact rfl)))) | (apply wl_load52 _ rfl rfl _ rfl; (case hr => (first | (simp [go_sem]; done) | (simp (disch := first | rfl | (simp; done) | (simp; omega)) only [rowN_ext, rowN_alloc_past, Sa.rowN]; done))); (case hc => (first | (simp [go_sem]; done) | (simp (disch := first | rfl | (simp; done) | (simp; omega)) only [rowD_ext, rowD_alloc_past, rowD_alloc_at]; try exact rfl)))))
    obtain ⟨y, hy⟩ : ∃ y : In, y = { x with tm := now } := ⟨_, rfl⟩
    rw [← hy] at HX ⊢
    obtain ⟨U, hU⟩ : ∃ U : In, U = stf y s (hb s.h 1) (hb s.h 2) (hb s.h 4) (hb s.h 8) := ⟨_, rfl⟩
    obtain ⟨V, hV⟩ : ∃ V : In, V = stt U s (hb s.h 16) (hb s.h 32) (hb s.h 64) (hb s.h 128) (s.h != 0) now := ⟨_, rfl⟩
    have HXX : Hid (X = V) := hide (by rw [unhide HX, hV, hU])
    have HF52 : Hid (∀ W, Calls Try.prog 52 #[y.v, s.v] W fun e w' => e = .returned U.v ∧ Fr (fun _ => False) W w') := hide (fun W => by rw [hU]; exact setFields_any y s W)
    have HF51 : Hid (∀ W, Calls Try.prog 51 #[U.v, s.v, .int .u64 now] W fun e w' => e = .returned V.v ∧ Fr (fun _ => False) W w') := hide (fun W => by rw [hV]; exact setTimes_any U s now W)
    clear hy hU hV
    refine wp_world ?_
    intro Wd hWd
    have FD : Hid (Fr (fun _ => False) w Wd) := hide (by rw [hWd]; repeat' (first | exact Fr.refl _ _ | apply Fr.alloc | rw [← ext_ext] | (refine Fr.ext ?_ (by assumption))))
    have HX0 : Hid (Wd.heap[w.heap.size]? = some (.cells y.cs 25 (0, 0))) := hide (by rw [hWd, ext_heap _ _ _ (by simp; omega), Below.heap_alloc _ _ _ (by simp; omega), Below.heap_alloc _ _ _ (by simp)]; exact heap_alloc_new w _)
    have HS0 : Hid (Wd.heap[w.heap.size + 1]? = some (.cells s.cs 52 (0, 0))) := hide (by
      have h9 := heap_alloc_new (w.alloc (.cells y.cs 25)) (.cells s.cs 52)
      rw [show (w.alloc (.cells y.cs 25)).heap.size = w.heap.size + 1 by simp] at h9
      rw [hWd, ext_heap _ _ _ (by simp), Below.heap_alloc _ _ _ (by simp)]; exact h9)
    have HZ0 : Hid (Wd.heap[w.heap.size + 1 + 1]? = some (.cells (In.cs In.zero) 25 (0, 0))) := hide (by
      have h9 := heap_alloc_new ((w.alloc (.cells y.cs 25)).alloc (.cells s.cs 52)) (.cells (In.cs In.zero) 25)
      rw [show ((w.alloc (.cells y.cs 25)).alloc (.cells s.cs 52)).heap.size = w.heap.size + 1 + 1 by simp] at h9
      rw [hWd, ext_heap _ _ _ (by simp)]; exact h9)
    clear hWd
    refine wp_nameK ?_
    intro a0 hA
    have h2 : a0.tmps.getD 2 undef = .int .u64 now := by rw [hA]; rfl
    have h3 : a0.tmps.getD 3 undef = .pointer (some ⟨w.heap.size, 0, none⟩) := by rw [hA]; rfl
    have h4 : a0.tmps.getD 4 undef = .pointer (some ⟨w.heap.size + 1, 0, none⟩) := by rw [hA]; rfl
    have h6 : a0.tmps.getD 6 undef = .pointer (some ⟨w.heap.size + 1 + 1, 0, none⟩) := by rw [hA]; rfl
    have h10 : a0.tmps.getD 10 undef = .bool true := by rw [hA]; rfl
    have hsz : a0.tmps.size = 42 := by rw [hA]; rfl
    have hdf : a0.defers = [] := by rw [hA]
    clear hA
    refine wp_region_kinds3 (fun k => k = w.heap.size + 1 + 1) (by kernel_rfl) (by kernel_rfl) (by decide +kernel) (by rw [hsz]; decide +kernel) [.eq (y.v), .eq (s.v), .eq (U.v), .eq (s.v), .eq (.int .u64 now), .eq (V.v), .eq (.bool true), .any, .eq (.bool true), .eq (.int .i64 0)] [7] (by decide) (by decide) (onepathG) (fun k W => (k = 0 → Fr (fun _ => False) Wd W) ∧ (k = 1 → W.heap[w.heap.size + 1 + 1]? = some (.cells V.cs 25 (0, 0)))) ⟨fun _ => (Fr.refl _ _).drew, fun e => by omega⟩ ?steps ?done
    case steps =>
      refine ⟨?_, ?_⟩
      · intro a' w' k' hb hf hs hc hq hg hd
        exact .inl ⟨wantedN rfl, k_val (y.v) (by decide) hs (x_load25 rfl ((hb.old 3 (by decide +kernel)).trans h3) (by rw [hf.block _ (lt_of_heap (unhide HX0)) (by omega)]; exact unhide HX0)) rfl⟩
      refine ⟨?_, ?_⟩
      · intro a' w' k' hb hf hs hc hq hg hd
        exact .inl ⟨wantedN rfl, k_val (s.v) (by decide) hs (x_load52 rfl ((hb.old 4 (by decide +kernel)).trans h4) (by rw [hf.block _ (lt_of_heap (unhide HS0)) (by omega)]; exact unhide HS0)) rfl⟩
      refine ⟨?_, ?_⟩
      · intro a' w' k' hb hf hs hc hq hg hd
        exact .inl ⟨wantedN rfl, k_call 52 _ (by decide) (e_call2 rfl rfl (hd 0 (by kernel_rfl) 35 rfl) (hd 1 (by kernel_rfl) 36 rfl) (fun _ _ => by simp [go_sem])) ((unhide HF52 _).mono (by rintro e w9 ⟨rfl, f9⟩; exact ⟨_, rfl, rfl, f9, ⟨fun e => (hs.1 e).trans f9 (fun _ _ e => e), fun e => by have := hs.2 e; rw [f9.block _ (lt_of_heap this) id]; exact this⟩⟩))⟩
      refine ⟨?_, ?_⟩
      · intro a' w' k' hb hf hs hc hq hg hd
        exact .inl ⟨wantedN rfl, k_val (s.v) (by decide) hs (x_load52 rfl ((hb.old 4 (by decide +kernel)).trans h4) (by rw [hf.block _ (lt_of_heap (unhide HS0)) (by omega)]; exact unhide HS0)) rfl⟩
      refine ⟨?_, ?_⟩
      · intro a' w' k' hb hf hs hc hq hg hd
        exact .inl ⟨wantedN rfl, k_val (.int .u64 now) (by decide) hs (x_move rfl ((hb.old 2 (by decide +kernel)).trans h2)) rfl⟩
      refine ⟨?_, ?_⟩
      · intro a' w' k' hb hf hs hc hq hg hd
        exact .inl ⟨wantedN rfl, k_call 51 _ (by decide) (e_call3 rfl rfl (hd 2 (by kernel_rfl) 37 rfl) (hd 3 (by kernel_rfl) 38 rfl) (hd 4 (by kernel_rfl) 39 rfl) (fun _ _ => by simp [go_sem])) ((unhide HF51 _).mono (by rintro e w9 ⟨rfl, f9⟩; exact ⟨_, rfl, rfl, f9, ⟨fun e => (hs.1 e).trans f9 (fun _ _ e => e), fun e => by have := hs.2 e; rw [f9.block _ (lt_of_heap this) id]; exact this⟩⟩))⟩
      refine ⟨?_, ?_⟩
      · intro a' w' k' hb hf hs hc hq hg hd
        exact .inl ⟨wantedN rfl, k_val (.bool true) (by decide) hs (x_move rfl ((hb.old 10 (by decide +kernel)).trans h10)) rfl⟩
      refine ⟨?_, ?_⟩
      · intro a' w' k' hb hf hs hc hq hg hd
        obtain rfl := hc 0 rfl; have hF0 := hs.1 rfl; exact .inl ⟨wantedN rfl, k_store _ (by decide) ⟨fun e => by omega, fun _ => setRow_at (by rw [hF0.block _ (lt_of_heap (unhide HZ0)) id]; exact unhide HZ0) _⟩ (Fr.setRow_one _ _ rfl) (x_store25 rfl ((hb.old 6 (by decide +kernel)).trans h6) (hd 5 (by kernel_rfl) 40 rfl) (by rw [hF0.block _ (lt_of_heap (unhide HZ0)) id]; exact unhide HZ0)) trivial⟩
      refine ⟨?_, ?_⟩
      · intro a' w' k' hb hf hs hc hq hg hd
        exact .inl ⟨wantedN rfl, k_val (.bool true) (by decide) hs (x_assign rfl (hd 6 (by kernel_rfl) 41 rfl)) rfl⟩
      refine ⟨?_, ?_⟩
      · intro a' w' k' hb hf hs hc hq hg hd
        exact .inl ⟨wantedN rfl, k_val (.int .i64 0) (by decide) hs (x_assign rfl rfl) rfl⟩
      exact trivial
    case done =>
      intro a' w9 hb hf hs hall
      have hdf' : a'.defers = [] := by rw [hb.defers]; exact hdf
      have hv7 : a'.tmps.getD 7 undef = .bool true := hall 8 (by decide) 7 rfl
      have hv8 : a'.tmps.getD 8 undef = .int .i64 0 := hall 9 (by decide) 8 rfl
      have hv6 : a'.tmps.getD 6 undef = .pointer (some ⟨w.heap.size + 1 + 1, 0, none⟩) := (hb.old 6 (by decide +kernel)).trans h6
      have hrr : row? w9 (w.heap.size + 1 + 1) = some V.cs := by unfold row?; rw [hs.2 rfl]; rfl
      have hr : bodyPost Try.prog Try.f24 (fun e w' => e = .returned (ResP X true 0) ∧ Fr (fun _ => False) w w') .ret a' w9 := by
        refine ree25 (p := 6) (u := 7) (u2 := 8) rfl hv6 hdf' (by unfold rowN; rw [hrr]; simp) (c := V.cs) (by unfold rowD; rw [hrr]; rfl) ⟨?_, (unhide FD).trans hf (fun k hk e => by omega)⟩
        rw [hv7, hv8, resP_ok, unhide HXX]
      clear hall hb
      apply_assumption
      exact wp_ret hr
end Go.Proofs.Ytbenailemoefhaa
