/-
  A handle's bytes: PutHandle.
-/
import Derived.Test.YtbenailemoefhaaE1
import Derived.Deep.DeepCutAuto
import Derived.Deep.CutBlock
namespace Go.Proofs.Ytbenailemoefhaa
open Go.RowKit Go.Lib
set_option linter.unusedVariables false
set_option linter.unusedSimpArgs false

attribute [local go_sem ↓] Go.wp_at_zero Go.wp_at_succ

structure Ha.Ok (x : Ha) : Prop where
  f : 0 ≤ x.f ∧ x.f < 4294967296
  n : 0 ≤ x.n ∧ x.n < 18446744073709551616
  g : 0 ≤ x.g ∧ x.g < 4294967296
/-- Can it be named? -/
def cnB (x : Ha) : Bool := (x.n != 0) && (x.g != 0)
theorem canName_any (x : Ha) (w : World) : Calls Try.prog 57 #[x.v] w fun e w' => e = .returned (.bool (cnB x)) ∧ Fr (fun _ => False) w w' := by
  have h : Hid (cnB x = ((x.n != 0) && (x.g != 0))) := hide rfl
  obtain ⟨c, hc⟩ : ∃ c, c = cnB x := ⟨_, rfl⟩
  rw [← hc] at h ⊢
  clear hc
  rcases h1 : (x.n != 0) with _ | _ <;> rcases h2 : (x.g != 0) with _ | _
  all_goals
    rw [h1, h2] at h
    have hcc := unhide h
    simp at hcc
    subst hcc
    clear h
    go_enter Try.func57, Try.ntmps57
    go_wp2_with fail
    go_ret
    exact ⟨rfl, by repeat' (first | exact Fr.refl _ _ | apply Fr.alloc | rw [← ext_ext] | (refine Fr.ext ?_ (by assumption)))⟩
/-- How a handle begins; its bytes. -/
def mk4 : List UInt8 := [71, 82, 78, 49]
def hbL (x : Ha) : List UInt8 := mk4 ++ be 4 x.f.toNat ++ be 8 x.n.toNat ++ be 4 x.g.toNat
def hE (x : Ha) : Int := if cnB x = true then 0 else 121
def hR (x : Ha) : List UInt8 := if cnB x = true then hbL x else []
theorem nm_const (W0 W : World) (f : Fr (fun _ => False) W0 W) (z : Nat × Nat) : Nm W0 (W.alloc (.cells #[.int .u8 71, .int .u8 82, .int .u8 78, .int .u8 49] 5 z)) (.slice (some ⟨W.heap.size, 0, none⟩) 4 4) mk4 := by
  have hs := f.size
  refine ⟨⟨W.heap.size, rfl, hs, by simp⟩, Rd.lit rfl (by decide) (by decide) (fun j hj => ?_), f.alloc _⟩
  have h1 : (W.alloc (.cells #[.int .u8 71, .int .u8 82, .int .u8 78, .int .u8 49] 5 z)).heap[W.heap.size]? = some (.cells #[.int .u8 71, .int .u8 82, .int .u8 78, .int .u8 49] 5 z) := heap_alloc_new W _
  rw [Nat.zero_add]
  unfold World.cell?
  simp only [h1]
  have hj4 : j < 4 := hj
  rcases (show j = 0 ∨ j = 1 ∨ j = 2 ∨ j = 3 by omega) with rfl | rfl | rfl | rfl <;> rfl
set_option maxRecDepth 100000 in
set_option maxHeartbeats 4000000 in
theorem putH_any (x : Ha) (hx : x.Ok) (w : World) : Calls Try.prog 34 #[x.v] w fun e w' => ∃ v', e = .returned (.tuple #[v', .int .i64 (hE x)]) ∧ Nb w w' v' (hR x) := by
  have HC := canName_any x
  have HX := hide hx
  have HR : Hid (hR x = if cnB x = true then hbL x else []) := hide rfl
  have HE : Hid (hE x = if cnB x = true then 0 else 121) := hide rfl
  generalize hR x = R at *
  generalize hE x = ee at *
  generalize cnB x = c at *
  clear hx
  rcases c with _ | _
  · have hR0 : R = [] := unhide HR
    have hE0 : ee = 121 := unhide HE
    subst hR0 hE0
    clear HR HE
    go_enter Try.func34, Try.ntmps34
    go_wp2_with (first | (go_at_call 57; refine mono_ext (HC _) ?_; rintro e E rfl hE) | (apply wl_load72 _ rfl rfl _ rfl; (case hr => (first | (simp [go_sem]; done) | (simp (disch := first | rfl | (simp; done) | (simp; omega)) only [rowN_ext, rowN_alloc_past, Ha.rowN]; done))); (case hc => (first | (simp [go_sem]; done) | (simp (disch := first | rfl | (simp; done) | (simp; omega)) only [rowD_ext, rowD_alloc_past, rowD_alloc_at]; try exact rfl)))))
    go_ret2
    exact ⟨_, rfl, Nb.nil (Fr.ext ((Fr.refl _ _).alloc _) hE)⟩
  · have hE0 : ee = 0 := unhide HE
    subst hE0
    have HR2 : Hid (R = hbL x) := hide (unhide HR)
    clear HR HE
    go_enter Try.func34, Try.ntmps34
    go_upto_region 3 with (first | (go_at_call 57; refine mono_ext (HC _) ?_; rintro e E rfl hE) | (apply wl_load72 _ rfl rfl _ rfl; (case hr => (first | (simp [go_sem]; done) | (simp (disch := first | rfl | (simp; done) | (simp; omega)) only [rowN_ext, rowN_alloc_past, Ha.rowN]; done))); (case hc => (first | (simp [go_sem]; done) | (simp (disch := first | rfl | (simp; done) | (simp; omega)) only [rowD_ext, rowD_alloc_past, rowD_alloc_at]; try exact rfl)))))
    have kc := run_convert_bytes_const (P := Try.prog) (Ytbenailemoefhaa.ext (w.alloc (.cells x.cs 72)) E) 26 5 #[.int .u8 71, .int .u8 82, .int .u8 78, .int .u8 49] 4 4 Try.underlying26 Try.underlying5
    rw [show (Ytbenailemoefhaa.ext (w.alloc (.cells x.cs 72)) E).heap.size = w.heap.size + 1 + E.heap.size by simp [go_sem]] at kc
    obtain ⟨W1, hW1⟩ : ∃ W1, W1 = (Ytbenailemoefhaa.ext (w.alloc (.cells x.cs 72)) E).alloc (.cells #[.int .u8 71, .int .u8 82, .int .u8 78, .int .u8 49] 5 ((#[.int .u8 71, .int .u8 82, .int .u8 78, .int .u8 49] : Array Value).size, (#[.int .u8 71, .int .u8 82, .int .u8 78, .int .u8 49] : Array Value).size + 1)) := ⟨_, rfl⟩
    rw [← hW1] at kc
    have FW1 : Fr (fun _ => False) (w.alloc (.cells x.cs 72)) W1 := by rw [hW1]; exact (Fr.ext (Fr.refl _ _) hE).alloc _
    have hx0 : ((w.alloc (.cells x.cs 72))).heap[w.heap.size]? = some (.cells x.cs 72 (0, 0)) := heap_alloc_new w _
    have c0 : W1.cell? ⟨w.heap.size, 0, none⟩ = some (.int .u32 x.f) := by rw [FW1.cell (by simp) id, cell_of_heap hx0]; rfl
    have HM : Hid (Nm (w.alloc (.cells x.cs 72)) W1 (.slice (some ⟨w.heap.size + 1 + E.heap.size, 0, none⟩) 4 4) mk4) := hide (by
      have h9 := nm_const (w.alloc (.cells x.cs 72)) (Ytbenailemoefhaa.ext (w.alloc (.cells x.cs 72)) E) (Fr.ext (Fr.refl _ _) hE) ((#[.int .u8 71, .int .u8 82, .int .u8 78, .int .u8 49] : Array Value).size, (#[.int .u8 71, .int .u8 82, .int .u8 78, .int .u8 49] : Array Value).size + 1)
      rw [← hW1, show (Ytbenailemoefhaa.ext (w.alloc (.cells x.cs 72)) E).heap.size = w.heap.size + 1 + E.heap.size by simp [go_sem]] at h9
      exact h9)
    have hs1 : w.heap.size + 1 + E.heap.size < W1.heap.size := by rw [hW1]; simp [go_sem]
    clear hW1 FW1 hx0 HC
    go_wp2_with fail
    have hf := (unhide HX).f
    refine (layM_any (w.alloc (.cells x.cs 72)) _ _ mk4 W1.heap.size x.f.toNat ((unhide HM).kept ((Fr.refl _ _).alloc _)) (by decide) ?_ ?_ (by decide) (by omega)).mono ?_
    · rw [cell_of_heap (heap_alloc_new W1 _)]
      simp only [IntKind.wrap, IntKind.bits, IntKind.signed]
      simp
      omega
    · intro c hc
      simp [Value.ownBlock] at hc
      omega
    rintro e w2 ⟨v2, rfl, h2⟩
    obtain ⟨E2, rfl, hE2⟩ := h2.ext
    have H2 := hide h2
    clear h2 HM kc c0 hs1
    go_wp2_with fail
    refine (lay_new (w.alloc (.cells x.cs 72)) (Ytbenailemoefhaa.ext (w.alloc (.cells x.cs 72)) E2) v2 _ 8 _ _ 1 [x.n.toNat] (unhide H2) (.inr rfl) (by simp [go_sem]) ?_ rfl (by simp) (by simp [be_length, mk4]) ?_).mono ?_
    · have h9 := (unhide HX).n
      simp [uvs]; omega
    · have h9 := (unhide HX).n
      intro n hn; simp at hn; omega
    rintro e w3 ⟨v3, rfl, h3⟩
    rw [lay1] at h3
    obtain ⟨E3, rfl, hE3⟩ := h3.ext
    have H3 := hide h3
    clear h3 H2 hE2
    go_wp2_with fail
    refine (lay_new (w.alloc (.cells x.cs 72)) (Ytbenailemoefhaa.ext (w.alloc (.cells x.cs 72)) E3) v3 _ 4 _ _ 1 [x.g.toNat] (unhide H3) (.inl rfl) (by simp [go_sem]) ?_ rfl (by simp) (by simp [be_length, mk4]) ?_).mono ?_
    · have h9 := (unhide HX).g
      simp only [uvs, List.map_cons, List.map_nil, IntKind.wrap, IntKind.bits, IntKind.signed]
      simp
      omega
    · have h9 := (unhide HX).g
      intro n hn; simp at hn; omega
    rintro e w4 ⟨v4, rfl, h4⟩
    rw [lay1] at h4
    have H4 : Hid (Nb w w4 v4 R) := hide (by
      rw [unhide HR2]
      exact ⟨h4.own, ((Fr.refl _ _).alloc _).trans h4.fr (fun _ _ e => e), fun k hk => by have := h4.new k hk; simp at this; omega⟩)
    clear h4 H3
    go_wp2_with fail
    go_ret2
    exact ⟨_, rfl, unhide H4⟩
end Go.Proofs.Ytbenailemoefhaa
