/-
  GetEntry and GetSuper in one form; readEntry.
-/
import Derived.Test.YtgodlfoidjeekaaM04
namespace Go.Proofs.Ytgodlfoidjeekaa
set_option linter.unusedVariables false
set_option linter.unusedSimpArgs false
open Go.RowKit
set_option linter.unusedVariables false
set_option linter.unusedSimpArgs false

attribute [local go_sem ↓] Go.wp_at_zero Go.wp_at_succ

/-- An entry. -/
structure En where
  b : Nat
  s : Nat
  p : Nat
  l : Nat
  pt : Nat
  ps : Nat
  L : List UInt8
def en0 : En := ⟨0, 0, 0, 0, 0, 0, []⟩
def En.c (E : En) (u : Value) : Array Value := #[.int .u64 (E.b : Int), .int .u64 (E.s : Int), .int .u64 (E.p : Int), .int .u64 (E.l : Int), .int .i64 (E.pt : Int), .int .i64 (E.ps : Int), u]
/-- The entry that bytes are; none. -/
def enG (l : List UInt8) : Option En := if l.length = 384 ∧ cbB (gl l 0) (gl l 1) (gl l 2) (gl l 3) (gm l 0) (gm l 1) (gq l) = true ∧ enB (gl l 0) (gl l 1) (gl l 2) (gl l 3) (gm l 0) (gm l 1) (gq l) (gP l) = l then some ⟨gl l 0, gl l 1, gl l 2, gl l 3, gm l 0, gm l 1, gP l⟩ else none
def enR (l : List UInt8) : En := (enG l).getD en0
def enC (l : List UInt8) : Int := match enG l with | some _ => 0 | none => 81
theorem ob_nil (N : Nat) (w : World) : Ob N w (.slice none 0 0) [] := ⟨rfl, .inl ⟨rfl, rfl⟩⟩
theorem getEntry_any (w : World) (v : Value) (l : List UInt8) (h : Rd w v l) : Calls Try.prog 21 #[v] w fun e w' => ∃ u, e = .returned (.tuple #[.agg ((enR l).c u), .int .i64 (enC l)]) ∧ Ob w.heap.size w' u (enR l).L ∧ Fr (fun _ => False) w w' := by
  by_cases hl : l.length = 384
  · by_cases hs : cbB (gl l 0) (gl l 1) (gl l 2) (gl l 3) (gm l 0) (gm l 1) (gq l) = true
    · by_cases hq : enB (gl l 0) (gl l 1) (gl l 2) (gl l 3) (gm l 0) (gm l 1) (gq l) (gP l) = l
      · have e : enG l = some ⟨gl l 0, gl l 1, gl l 2, gl l 3, gm l 0, gm l 1, gP l⟩ := by unfold enG; rw [if_pos ⟨hl, hs, hq⟩]
        unfold enR enC
        rw [e]
        exact getEntry_ok w v l h hl hs hq
      · have e : enG l = none := by unfold enG; rw [if_neg (fun h => hq h.2.2)]
        unfold enR enC
        rw [e]
        refine (getEntry_ne w v l h hl hs hq).mono ?_
        rintro e w' ⟨rfl, f⟩
        exact ⟨_, rfl, ob_nil _ _, f⟩
    · have e : enG l = none := by unfold enG; rw [if_neg (fun h => hs h.2.1)]
      unfold enR enC
      rw [e]
      refine (getEntry_no w v l h hl (by simpa using hs)).mono ?_
      rintro e w' ⟨rfl, f⟩
      exact ⟨_, rfl, ob_nil _ _, f⟩
  · have e : enG l = none := by unfold enG; rw [if_neg (fun h => hl h.1)]
    unfold enR enC
    rw [e]
    refine (getEntry_len w v l h hl).mono ?_
    rintro e w' ⟨rfl, f⟩
    exact ⟨_, rfl, ob_nil _ _, f⟩
/-- The superblock that bytes are; none. -/
def suG (l : List UInt8) : Option Su := if l.length = 384 ∧ sbB (sn l 0) (sn l 1) (sn l 2) (sn l 3) (sn l 4) (sn l 5) = true ∧ suB (sn l 0) (sn l 1) (sn l 2) (sn l 3) (sn l 4) (sn l 5) = l then some ⟨sn l 0, sn l 1, sn l 2, sn l 3, sn l 4, sn l 5⟩ else none
def suR (l : List UInt8) : Su := (suG l).getD su0
def suC (l : List UInt8) : Int := match suG l with | some _ => 0 | none => 81
theorem getSuper_any (w : World) (v : Value) (l : List UInt8) (h : Rd w v l) : Calls Try.prog 23 #[v] w fun e w' => e = .returned (.tuple #[(suR l).v, .int .i64 (suC l)]) ∧ Fr (fun _ => False) w w' := by
  by_cases hl : l.length = 384
  · by_cases hs : sbB (sn l 0) (sn l 1) (sn l 2) (sn l 3) (sn l 4) (sn l 5) = true
    · by_cases hq : suB (sn l 0) (sn l 1) (sn l 2) (sn l 3) (sn l 4) (sn l 5) = l
      · have e : suG l = some ⟨sn l 0, sn l 1, sn l 2, sn l 3, sn l 4, sn l 5⟩ := by unfold suG; rw [if_pos ⟨hl, hs, hq⟩]
        unfold suR suC
        rw [e]
        exact getSuper_ok w v l h hl hs hq
      · have e : suG l = none := by unfold suG; rw [if_neg (fun h => hq h.2.2)]
        unfold suR suC
        rw [e]
        exact getSuper_ne w v l h hl hs hq
    · have e : suG l = none := by unfold suG; rw [if_neg (fun h => hs h.2.1)]
      unfold suR suC
      rw [e]
      exact getSuper_no w v l h hl (by simpa using hs)
  · have e : suG l = none := by unfold suG; rw [if_neg (fun h => hl h.1)]
    unfold suR suC
    rw [e]
    exact getSuper_len w v l h hl
theorem ld111 : ∀ W a u, World.cell? W a = some u → (Instr.loadAt 111 (.pointer (some a))).run Try.prog W = .ok u W := by intro W a u h; simp [go_sem, h]
/-- A value that reads, for good. -/
def kRd (L : List UInt8) : Kd (fun _ => False) := .pr (fun v w => Rd w v L) (fun v w1 w2 h f => h.kept f (fun _ _ e => e))
def kRt (L : List UInt8) : Kd (fun _ => False) := .pr (fun v w => ∃ x, v = .tuple #[x, .int .i64 0] ∧ Rd w x L) (fun v w1 w2 h f => by obtain ⟨x, e, h⟩ := h; exact ⟨x, e, h.kept f (fun _ _ e => e)⟩)
theorem js_blk {X : Nat → Prop} {w0 w : World} {j s : Nat} {J : Jn} {D : Dv} (h : JS X w0 w j s J D) (p : Nat) (hp : p < 18446744073709551616) : Calls Try.prog 89 #[.pointer (some ⟨j, 0, none⟩), .int .u64 (p : Int)] w fun e w' => e = .returned (.int .i64 (J.blk p : Int)) ∧ Fr (fun _ => False) w w' := by
  obtain ⟨⟨mv, sv, qv, hJ, -, -⟩, ok, -⟩ := h
  exact blockOf_any w j s mv J _ p hJ ok hp
theorem blk_lt {J : Jn} {n : Nat} (h : J.Ok n) (p : Nat) : J.blk p < n := by
  have h1 := h.place
  have h2 := h.ring
  have := Nat.mod_lt p (show 0 < J.ring by omega)
  unfold Jn.blk
  omega
theorem js_cell0 {X : Nat → Prop} {w0 w : World} {j s : Nat} {J : Jn} {D : Dv} (h : JS X w0 w j s J D) : w.cell? ⟨j, 0, none⟩ = some (.iface 64 (.pointer (some ⟨s, 0, none⟩))) ∧ w.cell? ⟨j, 1, none⟩ = some (.int .i64 (J.first : Int)) := by
  obtain ⟨⟨mv, sv, qv, hJ, -, -⟩, -, -⟩ := h
  have c0 := cell_of_heap hJ.heap 0
  have c1 := cell_of_heap hJ.heap 1
  simp at c0 c1
  exact ⟨c0, c1⟩

set_option maxHeartbeats 4000000 in
set_option maxRecDepth 100000 in
theorem gr94 {W : World} {X : Nat → Prop} {w0 : World} {j s p : Nat} {J : Jn} {D : Dv} {u2 u3 u4 u5 u6 u7 u8 u9 u10 u11 u12 u13 u14 u15 u16 u17 u18 u19 u20 u21 u22 u23 u24 u25 u26 u27 u28 u29 u30 u31 u32 : Value} {Q : Exit → Act → World → Prop} (h : JS X w0 W j s J D) (hp : p < 18446744073709551616)
    (hQ : ∀ (y6 y10 y11 y12 y13 y14 y15 y16 y17 y18 y19 y20 y21 y22 : Value) (W' : World), Rd W' y6 (rdB D (J.blk p)) ∧ Fr (fun _ => False) W W' → Q .normal ⟨#[.pointer (some ⟨j, 0, none⟩), .int .u64 (p : Int), u2, u3, u4, u5, y6, .int .i64 0, u8, u9, y10, y11, y12, y13, y14, y15, y16, y17, y18, y19, y20, y21, y22, u23, u24, u25, u26, u27, u28, u29, u30, u31, u32], []⟩ W') : (rgF Try.f94 1).wp Try.prog Q ⟨#[.pointer (some ⟨j, 0, none⟩), .int .u64 (p : Int), u2, u3, u4, u5, u6, u7, u8, u9, u10, u11, u12, u13, u14, u15, u16, u17, u18, u19, u20, u21, u22, u23, u24, u25, u26, u27, u28, u29, u30, u31, u32], []⟩ W := by
  have HQ := hide hQ
  clear hQ
  have HH := hide h
  have HP := hide hp
  clear h hp
  conv => arg 2; whnf
  refine wp_nameK ?_
  intro a0 hA
  have h0 : a0.tmps.getD 0 undef = .pointer (some ⟨j, 0, none⟩) := by rw [hA]; rfl
  have h1 : a0.tmps.getD 1 undef = .int .u64 (p : Int) := by rw [hA]; rfl
  have hsz : a0.tmps.size = 33 := by rw [hA]; rfl
  have hdf : a0.defers = [] := by rw [hA]
  have HA0 := hide hA
  clear hA
  refine wp_region_kinds (fun _ => False) (by kernel_rfl) (by kernel_rfl) (by decide +kernel) (by rw [hsz]; decide +kernel) [.eq (.pointer (some ⟨j, 0, none⟩)), .eq (.pointer (some ⟨j, 0, none⟩)), .eq (.pointer (some ⟨j, 0, none⟩)), .eq (.iface 64 (.pointer (some ⟨s, 0, none⟩))), .eq (.pointer (some ⟨j, 0, none⟩)), .eq (.int .u64 (p : Int)), .eq (.int .i64 (J.blk p : Int)), .eq (.iface 64 (.pointer (some ⟨s, 0, none⟩))), .eq (.iface 64 (.pointer (some ⟨s, 0, none⟩))), kRt (rdB D (J.blk p)), kRt (rdB D (J.blk p)), kRd (rdB D (J.blk p)), .eq (.int .i64 0), kRd (rdB D (J.blk p)), .eq (.int .i64 0)] [] (by decide) (by decide) (chain_paths _ [] (by kernel_rfl)) (fun _ _ => True) trivial ?steps ?done
  case steps =>
    refine ⟨?_, ?_⟩
    · intro a' w' k' hb hf hs hc hq hg hd
      exact ⟨wantedN rfl, k_val (.pointer (some ⟨j, 0, none⟩)) (by decide) trivial (x_move rfl ((hb.old 0 (by decide +kernel)).trans h0)) rfl⟩
    refine ⟨?_, ?_⟩
    · intro a' w' k' hb hf hs hc hq hg hd
      exact ⟨wantedN rfl, k_val (.pointer (some ⟨j, 0, none⟩)) (by decide) trivial (x_nilCheck rfl (hd 0 (by kernel_rfl) 11 rfl)) rfl⟩
    refine ⟨?_, ?_⟩
    · intro a' w' k' hb hf hs hc hq hg hd
      exact ⟨wantedN rfl, k_val (.pointer (some ⟨j, 0, none⟩)) (by decide) trivial (x_field (of := 0) (off := 0) (fa115_0 j 0) rfl (hd 1 (by kernel_rfl) 12 rfl)) rfl⟩
    refine ⟨?_, ?_⟩
    · intro a' w' k' hb hf hs hc hq hg hd
      exact ⟨wantedN rfl, k_val (.iface 64 (.pointer (some ⟨s, 0, none⟩))) (by decide) trivial (x_load1 ld111 rfl (hd 2 (by kernel_rfl) 13 rfl) ((unhide HH).kept0 hf |> js_cell0).1) rfl⟩
    refine ⟨?_, ?_⟩
    · intro a' w' k' hb hf hs hc hq hg hd
      exact ⟨wantedN rfl, k_val (.pointer (some ⟨j, 0, none⟩)) (by decide) trivial (x_move rfl ((hb.old 0 (by decide +kernel)).trans h0)) rfl⟩
    refine ⟨?_, ?_⟩
    · intro a' w' k' hb hf hs hc hq hg hd
      exact ⟨wantedN rfl, k_val (.int .u64 (p : Int)) (by decide) trivial (x_move rfl ((hb.old 1 (by decide +kernel)).trans h1)) rfl⟩
    refine ⟨?_, ?_⟩
    · intro a' w' k' hb hf hs hc hq hg hd
      exact ⟨wantedN rfl, k_call 89 _ (by decide) (e_call2 rfl rfl (hd 4 (by kernel_rfl) 15 rfl) (hd 5 (by kernel_rfl) 16 rfl) (fun _ _ => by simp [go_sem])) ((js_blk ((unhide HH).kept0 hf) p (unhide HP)).mono (by rintro e w9 ⟨rfl, f9⟩; exact ⟨_, rfl, rfl, f9, trivial⟩))⟩
    refine ⟨?_, ?_⟩
    · intro a' w' k' hb hf hs hc hq hg hd
      exact ⟨wantedN rfl, k_val (.iface 64 (.pointer (some ⟨s, 0, none⟩))) (by decide) trivial (x_nilCheckI rfl (hd 3 (by kernel_rfl) 14 rfl)) rfl⟩
    refine ⟨?_, ?_⟩
    · intro a' w' k' hb hf hs hc hq hg hd
      exact ⟨wantedN rfl, k_val (.iface 64 (.pointer (some ⟨s, 0, none⟩))) (by decide) trivial (x_move rfl (hd 3 (by kernel_rfl) 14 rfl)) rfl⟩
    refine ⟨?_, ?_⟩
    · intro a' w' k' hb hf hs hc hq hg hd
      exact ⟨wantedN rfl, k_call 81 _ (by decide) (e_invR rfl (hd 8 (by kernel_rfl) 19 rfl) (hd 6 (by kernel_rfl) 17 rfl)) ((dw_read ((unhide HH).kept0 hf).dw (J.blk p) (blk_lt (unhide HH).ok p)).mono (by rintro e w9 ⟨v, rfl, h1, f9, -⟩; exact ⟨_, rfl, ⟨v, rfl, h1⟩, f9, trivial⟩))⟩
    refine ⟨?_, ?_⟩
    · intro a' w' k' hb hf hs hc hq hg hd
      have hh := (hd 9 (by kernel_rfl) 20 rfl); exact ⟨wantedN rfl, k_val _ (by decide) trivial (x_move rfl rfl) hh⟩
    refine ⟨?_, ?_⟩
    · intro a' w' k' hb hf hs hc hq hg hd
      obtain ⟨x9, e9, h9⟩ := (hd 10 (by kernel_rfl) 10 rfl)
      exact ⟨wantedN rfl, k_val x9 (by decide) trivial (x_extract rfl e9 rfl) h9⟩
    refine ⟨?_, ?_⟩
    · intro a' w' k' hb hf hs hc hq hg hd
      obtain ⟨x9, e9, h9⟩ := (hd 10 (by kernel_rfl) 10 rfl)
      exact ⟨wantedN rfl, k_val (.int .i64 0) (by decide) trivial (x_extract rfl e9 rfl) rfl⟩
    refine ⟨?_, ?_⟩
    · intro a' w' k' hb hf hs hc hq hg hd
      have hh := (hd 11 (by kernel_rfl) 21 rfl); exact ⟨wantedN rfl, k_val _ (by decide) trivial (x_assign rfl rfl) hh⟩
    refine ⟨?_, ?_⟩
    · intro a' w' k' hb hf hs hc hq hg hd
      exact ⟨wantedN rfl, k_val (.int .i64 0) (by decide) trivial (x_assign rfl (hd 12 (by kernel_rfl) 22 rfl)) rfl⟩
    exact trivial
  case done =>
    intro a' w' hb hf hs hall
    have hslots : Slots a' 0 [.pointer (some ⟨j, 0, none⟩), .int .u64 (p : Int), u2, u3, u4, u5, a'.tmps.getD 6 undef, .int .i64 0, u8, u9, a'.tmps.getD 10 undef, a'.tmps.getD 11 undef, a'.tmps.getD 12 undef, a'.tmps.getD 13 undef, a'.tmps.getD 14 undef, a'.tmps.getD 15 undef, a'.tmps.getD 16 undef, a'.tmps.getD 17 undef, a'.tmps.getD 18 undef, a'.tmps.getD 19 undef, a'.tmps.getD 20 undef, a'.tmps.getD 21 undef, a'.tmps.getD 22 undef, u23, u24, u25, u26, u27, u28, u29, u30, u31, u32] := ⟨(hb.old 0 (by decide +kernel)).trans (by rw [unhide HA0]; rfl), (hb.old 1 (by decide +kernel)).trans (by rw [unhide HA0]; rfl), (hb.old 2 (by decide +kernel)).trans (by rw [unhide HA0]; rfl), (hb.old 3 (by decide +kernel)).trans (by rw [unhide HA0]; rfl), (hb.old 4 (by decide +kernel)).trans (by rw [unhide HA0]; rfl), (hb.old 5 (by decide +kernel)).trans (by rw [unhide HA0]; rfl), rfl, hall 14 (by decide) 7 rfl, (hb.old 8 (by decide +kernel)).trans (by rw [unhide HA0]; rfl), (hb.old 9 (by decide +kernel)).trans (by rw [unhide HA0]; rfl), rfl, rfl, rfl, rfl, rfl, rfl, rfl, rfl, rfl, rfl, rfl, rfl, rfl, (hb.old 23 (by decide +kernel)).trans (by rw [unhide HA0]; rfl), (hb.old 24 (by decide +kernel)).trans (by rw [unhide HA0]; rfl), (hb.old 25 (by decide +kernel)).trans (by rw [unhide HA0]; rfl), (hb.old 26 (by decide +kernel)).trans (by rw [unhide HA0]; rfl), (hb.old 27 (by decide +kernel)).trans (by rw [unhide HA0]; rfl), (hb.old 28 (by decide +kernel)).trans (by rw [unhide HA0]; rfl), (hb.old 29 (by decide +kernel)).trans (by rw [unhide HA0]; rfl), (hb.old 30 (by decide +kernel)).trans (by rw [unhide HA0]; rfl), (hb.old 31 (by decide +kernel)).trans (by rw [unhide HA0]; rfl), (hb.old 32 (by decide +kernel)).trans (by rw [unhide HA0]; rfl), trivial⟩
    have hfr := frame_eq (a := a') (by rw [hb.size, hsz]; rfl) (by rw [hb.defers, hdf]) hslots
    rw [hfr]
    exact unhide HQ (a'.tmps.getD 6 undef) (a'.tmps.getD 10 undef) (a'.tmps.getD 11 undef) (a'.tmps.getD 12 undef) (a'.tmps.getD 13 undef) (a'.tmps.getD 14 undef) (a'.tmps.getD 15 undef) (a'.tmps.getD 16 undef) (a'.tmps.getD 17 undef) (a'.tmps.getD 18 undef) (a'.tmps.getD 19 undef) (a'.tmps.getD 20 undef) (a'.tmps.getD 21 undef) (a'.tmps.getD 22 undef) w' ⟨hall 13 (by decide) 6 rfl, hf⟩
set_option maxRecDepth 100000 in
set_option maxHeartbeats 2000000 in
theorem readEntry_any {X : Nat → Prop} {w0 : World} (w : World) (j s : Nat) (J : Jn) (D : Dv) (p : Nat) (hp : p < 18446744073709551616) (H : JS X w0 w j s J D) : Calls Try.prog 94 #[.pointer (some ⟨j, 0, none⟩), .int .u64 (p : Int)] w fun e w' => ∃ u, e = .returned (.tuple #[.agg ((enR (rdB D (J.blk p))).c u), .int .i64 0]) ∧ Ob w.heap.size w' u (enR (rdB D (J.blk p))).L ∧ Fr (fun _ => False) w w' := by
  have fA : Fr (fun _ => False) w (w.alloc (.cells #[.int .u64 0, .int .u64 0, .int .u64 0, .int .u64 0, .int .i64 0, .int .i64 0, .slice none 0 0] 25)) := (Fr.refl _ _).alloc _
  have HH := hide (H.kept0 fA)
  have hA : (w.alloc (.cells #[.int .u64 0, .int .u64 0, .int .u64 0, .int .u64 0, .int .i64 0, .int .i64 0, .slice none 0 0] 25)).heap[w.heap.size]? = _ := heap_alloc_new w _
  have HA := hide hA
  have FA := hide fA
  have HP := hide hp
  clear H fA hA hp
  obtain ⟨n0, hn0⟩ : ∃ n0, n0 = w.heap.size := ⟨_, rfl⟩
  have HN0 := hide hn0
  clear hn0
  go_enter Try.func94, Try.ntmps94
  go_upto_region 1 with fail
  refine gr94 (unhide HH) (unhide HP) ?_
  intro y6
  intros
  rename_i W1 hW
  have HR := hide hW.1
  have F1 := hide ((unhide FA).trans hW.2 (fun _ _ e => e))
  have HA1 := hide ((hW.2.block _ (lt_of_heap (unhide HA)) id).trans (unhide HA))
  clear hW HA FA HH HP
  go_wp2_with fail
  refine (getEntry_any _ _ _ (unhide HR)).mono ?_
  rintro e w2 ⟨u, rfl, ho, f2⟩
  obtain ⟨ao, k, rfl⟩ := ho.shape
  have HO := hide (ho.mono (unhide F1).size)
  have F2 := hide ((unhide F1).trans f2 (fun _ _ e => e))
  have HA2 := hide ((f2.block _ (lt_of_heap (unhide HA1)) id).trans (unhide HA1))
  clear ho f2 HR HA1 F1
  generalize enC (rdB D (J.blk p)) = c9 at *
  obtain ⟨E, hE⟩ : ∃ E, E = enR (rdB D (J.blk p)) := ⟨_, rfl⟩
  rw [← hE] at HO ⊢
  have HE := hide hE
  clear hE
  have hsz : (E.c (.slice ao E.L.length k)).size = 7 := rfl
  have hall : (E.c (.slice ao E.L.length k)).all (·.oneCell') = true := by simp [En.c, Value.oneCell']
  have HC := hide (show E.c (.slice ao E.L.length k) = E.c (.slice ao E.L.length k) from rfl)
  rw [← unhide HN0] at HA2
  obtain ⟨C, hC⟩ : ∃ C, C = E.c (.slice ao E.L.length k) := ⟨_, rfl⟩
  rw [← hC] at hsz hall ⊢
  have HCC := hide hC
  clear hC HC
  have hN := unhide HN0
  have HS1 : Hid (∀ w3, w3 = (w2.alloc (.cells #[.int .u64 0, .int .u64 0, .int .u64 0, .int .u64 0, .int .i64 0, .int .i64 0, .slice none 0 0] 25)).setRow w2.heap.size C → w3.heap[w2.heap.size]? = some (.cells C 25 (0, 0)) ∧ Fr (fun _ => False) w2 w3) := hide (fun w3 hw3 => by
    refine ⟨by rw [hw3]; exact setRow_at (heap_alloc_new w2 _) C, ?_⟩
    have g3 : Fr (fun k => k = w2.heap.size) (w2.alloc (.cells #[.int .u64 0, .int .u64 0, .int .u64 0, .int .u64 0, .int .i64 0, .int .i64 0, .slice none 0 0] 25)) w3 := by rw [hw3]; exact Fr.setRow_one _ _ rfl
    exact (((Fr.refl (fun k => k = w2.heap.size) w2).alloc _).trans g3 (fun _ _ e => e)).mono (fun k hk e => by omega))
  go_upto_region 5 with (refine wl_storeR 25 7 (by kernel_rfl) (.tmp 8) (.tmp 30) rfl rfl w2.heap.size rfl C rfl _ 25 (heap_alloc_new w2 _) rfl hsz hall ?_; intro w3 hw3; obtain ⟨hz3, f3⟩ := unhide HS1 w3 hw3; clear hw3)
  have hA3 := (f3.block _ (lt_of_heap (unhide HA2)) id).trans (unhide HA2)
  have F3 := hide ((unhide F2).trans f3 (fun _ _ e => e))
  have HO3 := hide ((unhide HO).kept f3)
  clear f3 HA2 F2 HO HS1
  have HS2 : Hid (∀ w4, w4 = w3.setRow n0 C → w4.heap[n0]? = some (.cells C 25 (0, 0)) ∧ Fr (fun _ => False) w w4 ∧ Ob n0 w4 (.slice ao E.L.length k) E.L) := hide (fun w4 hw4 => by
    have g4 : Fr (fun k => k = n0) w3 w4 := by rw [hw4]; exact Fr.setRow_one _ _ rfl
    have g5 : RB n0 w3 w4 := by rw [hw4]; exact RB.setRow (N := n0) (Nat.le_refl _) (Sh.of hA3 rfl) hsz (by decide)
    refine ⟨by rw [hw4]; exact setRow_at hA3 C, (((unhide F3).mono (fun _ _ e => e.elim)).trans g4 (fun k hk e => e)).mono (fun k hk e => by omega), ?_⟩
    rw [hN]
    exact (unhide HO3).keep g5)
  rw [← hN]
  clear hN
  go_wp2_with (first | (refine wl_loadR 25 7 _ Try.underlying25 (by kernel_rfl) (.tmp 8) rfl rfl w2.heap.size rfl _ 25 hz3 hsz ?_) | (refine wl_storeR 25 7 (by kernel_rfl) (.tmp 4) (.tmp 32) rfl rfl n0 rfl C rfl _ 25 hA3 rfl hsz hall ?_; intro w4 hw4; obtain ⟨hz4, f4, ho4⟩ := unhide HS2 w4 hw4; clear hw4))
  refine ret_ceR 25 7 _ Try.underlying25 (by kernel_rfl) n0 C 25 rfl rfl rfl hz4 hsz ?_
  rw [unhide HCC, ← unhide HE]
  exact ⟨_, rfl, by rw [← unhide HN0]; exact ho4, f4⟩
end Go.Proofs.Ytgodlfoidjeekaa
