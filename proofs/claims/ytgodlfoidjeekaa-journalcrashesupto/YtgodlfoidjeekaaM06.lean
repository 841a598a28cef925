/-
  goesOn; follows.
-/
import Derived.Test.YtgodlfoidjeekaaM05
namespace Go.Proofs.Ytgodlfoidjeekaa
set_option linter.unusedVariables false
set_option linter.unusedSimpArgs false
open Go.RowKit
set_option linter.unusedVariables false
set_option linter.unusedSimpArgs false

attribute [local go_sem ↓] Go.wp_at_zero Go.wp_at_succ

/-- Is it that part of the transaction that begins with E? -/
def goB (E F : En) (k : Nat) : Bool := decide (F.p = E.p + k) && decide (F.pt = k) && decide (F.ps = E.ps) && decide (F.b = E.b) && decide (F.s = E.s) && decide (F.l = E.l)
/-- The bounds that every entry keeps. -/
def En.Ok (E : En) : Prop := E.b ≤ 4611686018427387904 ∧ E.s ≤ 4611686018427387904 ∧ E.p ≤ 4611686018427387904 ∧ E.l ≤ 4611686018427387904 ∧ E.pt ≤ 100 ∧ E.ps ≤ 100 ∧ E.L.length ≤ 336
theorem enG_ok (l : List UInt8) (E : En) (h : enG l = some E) : E.Ok ∧ 1 ≤ E.b ∧ 1 ≤ E.s ∧ 1 ≤ E.l ∧ 1 ≤ E.ps := by
  unfold enG at h
  split at h
  · rename_i hh
    obtain ⟨h1, h2, h3⟩ := hh
    simp only [Option.some.injEq] at h
    subst h
    unfold cbB wiB at h2
    simp only [Bool.and_eq_true, decide_eq_true_eq, List.all_cons, List.all_nil] at h2
    have := gP_length h1
    unfold En.Ok
    simp only
    omega
  · simp at h
theorem enR_ok (l : List UInt8) : (enR l).Ok := by
  unfold enR
  cases h : enG l with
  | none => unfold En.Ok en0; decide
  | some E => exact (enG_ok l E h).1

set_option maxHeartbeats 4000000 in
set_option maxRecDepth 100000 in
theorem goesOn_any (w : World) (E F : En) (k : Nat) (hE : E.Ok) (hk : k ≤ 100) (ao bo : Option Addr) (an ac bn bc : Nat) : Calls Try.prog 96 #[.agg (E.c (.slice ao an ac)), .agg (F.c (.slice bo bn bc)), .int .i64 (k : Int)] w fun e w' => e = .returned (.bool (goB E F k)) ∧ Fr (fun _ => False) w w' := by
  have hp : E.p ≤ 4611686018427387904 := hE.2.2.1
  have k1 : ∀ W : World, (convert 3 22 (.int .i64 (k : Int))).run Try.prog W = .ok (.int .u64 (k : Int)) W := fun W => cvI W _ (by omega)
  have k2 : IntKind.u64.wrap ((E.p : Int) + (k : Int)) = ((E.p + k : Nat) : Int) := by
    have := wrapU (E.p + k) (by omega)
    exact_mod_cast this
  unfold goB En.c
  clear hE
  by_cases h0 : F.p = E.p + k
  case neg =>
    have d0 : ((F.p : Int) == ((E.p + k : Nat) : Int)) = false := by simp only [beq_eq_false_iff_ne, ne_eq]; omega
    obtain ⟨b, s, p, l, pt, ps, L⟩ := E
    obtain ⟨b', s', p', l', pt', ps', L'⟩ := F
    dsimp only at *
    generalize hpk : p + k = pk at *
    clear hp
    go_enter Try.func96, Try.ntmps96
    go_wp2_with fail
    go_ret
    exact ⟨by simp [h0], by repeat' (first | exact Fr.refl _ _ | apply Fr.alloc)⟩
  have d0 : ((F.p : Int) == ((E.p + k : Nat) : Int)) = true := by simp only [beq_iff_eq]; omega
  by_cases h1 : F.pt = k
  case neg =>
    have d1 : ((F.pt : Int) == (k : Int)) = false := by simp only [beq_eq_false_iff_ne, ne_eq]; omega
    obtain ⟨b, s, p, l, pt, ps, L⟩ := E
    obtain ⟨b', s', p', l', pt', ps', L'⟩ := F
    dsimp only at *
    generalize hpk : p + k = pk at *
    clear hp
    go_enter Try.func96, Try.ntmps96
    go_wp2_with fail
    go_ret
    exact ⟨by simp [h0, h1], by repeat' (first | exact Fr.refl _ _ | apply Fr.alloc)⟩
  have d1 : ((F.pt : Int) == (k : Int)) = true := by simp only [beq_iff_eq]; omega
  by_cases h2 : F.ps = E.ps
  case neg =>
    have d2 : ((F.ps : Int) == (E.ps : Int)) = false := by simp only [beq_eq_false_iff_ne, ne_eq]; omega
    obtain ⟨b, s, p, l, pt, ps, L⟩ := E
    obtain ⟨b', s', p', l', pt', ps', L'⟩ := F
    dsimp only at *
    generalize hpk : p + k = pk at *
    clear hp
    go_enter Try.func96, Try.ntmps96
    go_wp2_with fail
    go_ret
    exact ⟨by simp [h0, h1, h2], by repeat' (first | exact Fr.refl _ _ | apply Fr.alloc)⟩
  have d2 : ((F.ps : Int) == (E.ps : Int)) = true := by simp only [beq_iff_eq]; omega
  by_cases h3 : F.b = E.b
  case neg =>
    have d3 : ((F.b : Int) == (E.b : Int)) = false := by simp only [beq_eq_false_iff_ne, ne_eq]; omega
    obtain ⟨b, s, p, l, pt, ps, L⟩ := E
    obtain ⟨b', s', p', l', pt', ps', L'⟩ := F
    dsimp only at *
    generalize hpk : p + k = pk at *
    clear hp
    go_enter Try.func96, Try.ntmps96
    go_wp2_with fail
    go_ret
    exact ⟨by simp [h0, h1, h2, h3], by repeat' (first | exact Fr.refl _ _ | apply Fr.alloc)⟩
  have d3 : ((F.b : Int) == (E.b : Int)) = true := by simp only [beq_iff_eq]; omega
  by_cases h4 : F.s = E.s
  case neg =>
    have d4 : ((F.s : Int) == (E.s : Int)) = false := by simp only [beq_eq_false_iff_ne, ne_eq]; omega
    obtain ⟨b, s, p, l, pt, ps, L⟩ := E
    obtain ⟨b', s', p', l', pt', ps', L'⟩ := F
    dsimp only at *
    generalize hpk : p + k = pk at *
    clear hp
    go_enter Try.func96, Try.ntmps96
    go_wp2_with fail
    go_ret
    exact ⟨by simp [h0, h1, h2, h3, h4], by repeat' (first | exact Fr.refl _ _ | apply Fr.alloc)⟩
  have d4 : ((F.s : Int) == (E.s : Int)) = true := by simp only [beq_iff_eq]; omega
  by_cases h5 : F.l = E.l
  case neg =>
    have d5 : ((F.l : Int) == (E.l : Int)) = false := by simp only [beq_eq_false_iff_ne, ne_eq]; omega
    obtain ⟨b, s, p, l, pt, ps, L⟩ := E
    obtain ⟨b', s', p', l', pt', ps', L'⟩ := F
    dsimp only at *
    generalize hpk : p + k = pk at *
    clear hp
    go_enter Try.func96, Try.ntmps96
    go_wp2_with fail
    go_ret
    exact ⟨by simp [h0, h1, h2, h3, h4, h5], by repeat' (first | exact Fr.refl _ _ | apply Fr.alloc)⟩
  have d5 : ((F.l : Int) == (E.l : Int)) = true := by simp only [beq_iff_eq]; omega
  obtain ⟨b, s, p, l, pt, ps, L⟩ := E
  obtain ⟨b', s', p', l', pt', ps', L'⟩ := F
  dsimp only at *
  generalize hpk : p + k = pk at *
  clear hp
  go_enter Try.func96, Try.ntmps96
  go_wp2_with fail
  go_ret
  exact ⟨by simp [h0, h1, h2, h3, h4, h5], by repeat' (first | exact Fr.refl _ _ | apply Fr.alloc)⟩
theorem fa25_0 (b o : Nat) (W : World) : (Instr.fieldAt 25 (.pointer (some ⟨b, o, none⟩)) 0).run Try.prog W = .ok (.pointer (some ⟨b, o + 0, none⟩)) W := by simp [go_sem]
theorem fa25_1 (b o : Nat) (W : World) : (Instr.fieldAt 25 (.pointer (some ⟨b, o, none⟩)) 1).run Try.prog W = .ok (.pointer (some ⟨b, o + 1, none⟩)) W := by simp [go_sem]
theorem fa25_2 (b o : Nat) (W : World) : (Instr.fieldAt 25 (.pointer (some ⟨b, o, none⟩)) 2).run Try.prog W = .ok (.pointer (some ⟨b, o + 2, none⟩)) W := by simp [go_sem]
theorem fa25_3 (b o : Nat) (W : World) : (Instr.fieldAt 25 (.pointer (some ⟨b, o, none⟩)) 3).run Try.prog W = .ok (.pointer (some ⟨b, o + 3, none⟩)) W := by simp [go_sem]
theorem fa25_4 (b o : Nat) (W : World) : (Instr.fieldAt 25 (.pointer (some ⟨b, o, none⟩)) 4).run Try.prog W = .ok (.pointer (some ⟨b, o + 4, none⟩)) W := by simp [go_sem]
theorem fa25_5 (b o : Nat) (W : World) : (Instr.fieldAt 25 (.pointer (some ⟨b, o, none⟩)) 5).run Try.prog W = .ok (.pointer (some ⟨b, o + 5, none⟩)) W := by simp [go_sem]
section
variable {ρ : Operand → Value} {o : Oper} {w : World} {x y : Operand}
theorem x_leU {a b : Int} {c : Bool} (ho : o.op = .binOp .leq 22 x y 22) (hx : ρ x = .int .u64 a) (hy : ρ y = .int .u64 b) (hc : decide (a ≤ b) = c) : (execOp ρ o).run Try.prog w = .ok (.value (.bool c)) w := by
  subst hc; simp [execOp, ho, hx, hy, go_sem]
theorem x_leI {a b : Int} {c : Bool} (ho : o.op = .binOp .leq 3 x y 3) (hx : ρ x = .int .i64 a) (hy : ρ y = .int .i64 b) (hc : decide (a ≤ b) = c) : (execOp ρ o).run Try.prog w = .ok (.value (.bool c)) w := by
  subst hc; simp [execOp, ho, hx, hy, go_sem]
end
set_option maxHeartbeats 4000000 in
set_option maxRecDepth 100000 in
theorem gq0 {W : World} {j s n q : Nat} {mv u : Value} {J : Jn} {E : En} {u1 u2 u4 u5 u6 u7 u8 u9 u10 u11 u12 u13 u14 u15 u16 u17 u18 u19 u20 u21 u22 u23 u24 u25 u26 u27 u28 u29 u30 u31 u32 u33 u34 u35 u36 u37 u38 u39 u40 u41 u42 u43 u44 u45 u46 u47 u48 u49 u50 u51 u52 u53 u54 u55 u56 u57 u58 u59 u60 u61 u62 u63 u64 u65 : Value} {Q : Exit → Act → World → Prop} (h : JAt W j s mv J) (ho : J.Ok n) (he : W.heap[q]? = some (.cells (E.c u) 25 (0, 0))) (a0 : ¬ (E.p = J.nd))
    (hQ : ∀ (y28 y29 y30 y31 y32 y33 y34 y35 y36 y37 y38 y39 y40 y41 y42 y43 y44 y45 y46 y47 y48 y49 y50 y51 y52 y53 y54 y55 y56 y57 y58 y59 y60 y61 y62 y63 y64 y65 : Value) (W' : World), Fr (fun _ => False) W W' → Q .normal ⟨#[.pointer (some ⟨j, 0, none⟩), u1, u2, .pointer (some ⟨q, 0, none⟩), .bool false, u5, u6, u7, u8, u9, u10, u11, u12, u13, u14, u15, u16, u17, u18, u19, u20, u21, u22, u23, u24, u25, u26, u27, y28, y29, y30, y31, y32, y33, y34, y35, y36, y37, y38, y39, y40, y41, y42, y43, y44, y45, y46, y47, y48, y49, y50, y51, y52, y53, y54, y55, y56, y57, y58, y59, y60, y61, y62, y63, y64, y65], []⟩ W') : (rgF Try.f95 3).wp Try.prog Q ⟨#[.pointer (some ⟨j, 0, none⟩), u1, u2, .pointer (some ⟨q, 0, none⟩), u4, u5, u6, u7, u8, u9, u10, u11, u12, u13, u14, u15, u16, u17, u18, u19, u20, u21, u22, u23, u24, u25, u26, u27, u28, u29, u30, u31, u32, u33, u34, u35, u36, u37, u38, u39, u40, u41, u42, u43, u44, u45, u46, u47, u48, u49, u50, u51, u52, u53, u54, u55, u56, u57, u58, u59, u60, u61, u62, u63, u64, u65], []⟩ W := by
  have HQ := hide hQ
  clear hQ
  have HH := hide h
  have HO := hide ho
  have HE := hide he
  have HC0 : Hid (((E.p : Int) == (J.nd : Int)) = false) := hide (by simp; omega)
  have HA : Hid (IntKind.u64.wrap ((J.lst : Int) + 1) = ((J.lst + 1 : Nat) : Int)) := hide (by
    have h1 := ho.nd.2.1
    have h2 := ho.sup.2.2.2.1
    have := wrapU (J.lst + 1) (by unfold Jn.lst; omega)
    exact_mod_cast this)
  clear h ho he
  conv => arg 2; whnf
  refine wp_nameK ?_
  intro a0 hA
  have h0 : a0.tmps.getD 0 undef = .pointer (some ⟨j, 0, none⟩) := by rw [hA]; rfl
  have h3 : a0.tmps.getD 3 undef = .pointer (some ⟨q, 0, none⟩) := by rw [hA]; rfl
  have hsz : a0.tmps.size = 66 := by rw [hA]; rfl
  have hdf : a0.defers = [] := by rw [hA]
  have HA0 := hide hA
  clear hA
  refine wp_region_kinds3 (fun _ => False) (by kernel_rfl) (by kernel_rfl) (by decide +kernel) (by rw [hsz]; decide +kernel) [.eq (.pointer (some ⟨q, 2, none⟩)), .eq (.int .u64 (E.p : Int)), .eq (.pointer (some ⟨j, 0, none⟩)), .eq (.int .u64 (J.nd : Int)), .eq (.bool false), .eq (.bool false), .eq undef, .eq undef, .eq undef, .eq undef, .eq undef, .eq undef, .eq (.bool false), .eq (.bool false), .eq undef, .eq (.bool false), .eq (.bool false), .eq undef, .eq undef, .eq undef, .eq undef, .eq undef, .eq undef, .eq undef, .eq undef, .eq (.bool false), .eq (.bool false), .eq undef, .eq undef, .eq undef, .eq (.bool false), .eq (.bool false), .eq undef, .eq undef, .eq undef, .eq undef, .eq undef, .eq (.bool false), .eq (.bool false)] [] (by decide) (by decide) (chain_paths _ [] (by kernel_rfl)) (fun _ _ => True) trivial ?steps ?done
  case steps =>
    refine ⟨?_, ?_⟩
    · intro a' w' k' hb hf hs hc hq hg hd
      exact .inl ⟨wantedN rfl, k_val (.pointer (some ⟨q, 2, none⟩)) (by decide) trivial (x_field (of := 0) (off := 2) (fa25_2 q 0) rfl ((hb.old 3 (by decide +kernel)).trans h3)) rfl⟩
    refine ⟨?_, ?_⟩
    · intro a' w' k' hb hf hs hc hq hg hd
      exact .inl ⟨wantedN rfl, k_val (.int .u64 (E.p : Int)) (by decide) trivial (x_load1 ldU rfl (hd 0 (by kernel_rfl) 28 rfl) ((hf.cell (a := ⟨q, 2, none⟩) (lt_of_heap (unhide HE)) id).trans (by have := cell_of_heap (unhide HE) 2; simpa [En.c] using this))) rfl⟩
    refine ⟨?_, ?_⟩
    · intro a' w' k' hb hf hs hc hq hg hd
      exact .inl ⟨wantedN rfl, k_val (.pointer (some ⟨j, 0, none⟩)) (by decide) trivial (x_move rfl ((hb.old 0 (by decide +kernel)).trans h0)) rfl⟩
    refine ⟨?_, ?_⟩
    · intro a' w' k' hb hf hs hc hq hg hd
      exact .inl ⟨wantedN rfl, k_call 74 _ (by decide) (e_call1 rfl rfl (hd 2 (by kernel_rfl) 30 rfl) (fun _ _ => by simp [go_sem])) (((end_any w' j s mv J ((unhide HH).kept0 hf) (unhide HO).nd.2.1)).mono (by rintro e w9 ⟨rfl, f9⟩; exact ⟨_, rfl, rfl, f9, trivial⟩))⟩
    refine ⟨?_, ?_⟩
    · intro a' w' k' hb hf hs hc hq hg hd
      exact .inl ⟨wantedN rfl, k_val _ (by decide) trivial (x_eqI Try.underlying22 rfl (hd 1 (by kernel_rfl) 29 rfl) (hd 3 (by kernel_rfl) 31 rfl) (unhide HC0)) rfl⟩
    refine ⟨?_, ?_⟩
    · intro a' w' k' hb hf hs hc hq hg hd
      exact .inl ⟨wantedN rfl, k_val (.bool false) (by decide) trivial (x_move rfl (hd 4 (by kernel_rfl) 32 rfl)) rfl⟩
    refine ⟨?_, ?_⟩
    · intro a' w' k' hb hf hs hc hq hg hd
      exact .inr ⟨offT (d := 33) rfl rfl (by rw [hb.size, hsz]; omega) (hd 5 (by kernel_rfl) 33 rfl), by decide, rfl, Fr.refl _ _⟩
    refine ⟨?_, ?_⟩
    · intro a' w' k' hb hf hs hc hq hg hd
      exact .inr ⟨offT (d := 33) rfl rfl (by rw [hb.size, hsz]; omega) (hd 5 (by kernel_rfl) 33 rfl), by decide, rfl, Fr.refl _ _⟩
    refine ⟨?_, ?_⟩
    · intro a' w' k' hb hf hs hc hq hg hd
      exact .inr ⟨offT (d := 33) rfl rfl (by rw [hb.size, hsz]; omega) (hd 5 (by kernel_rfl) 33 rfl), by decide, rfl, Fr.refl _ _⟩
    refine ⟨?_, ?_⟩
    · intro a' w' k' hb hf hs hc hq hg hd
      exact .inr ⟨offT (d := 33) rfl rfl (by rw [hb.size, hsz]; omega) (hd 5 (by kernel_rfl) 33 rfl), by decide, rfl, Fr.refl _ _⟩
    refine ⟨?_, ?_⟩
    · intro a' w' k' hb hf hs hc hq hg hd
      exact .inr ⟨offT (d := 33) rfl rfl (by rw [hb.size, hsz]; omega) (hd 5 (by kernel_rfl) 33 rfl), by decide, rfl, Fr.refl _ _⟩
    refine ⟨?_, ?_⟩
    · intro a' w' k' hb hf hs hc hq hg hd
      exact .inr ⟨offT (d := 33) rfl rfl (by rw [hb.size, hsz]; omega) (hd 5 (by kernel_rfl) 33 rfl), by decide, rfl, Fr.refl _ _⟩
    refine ⟨?_, ?_⟩
    · intro a' w' k' hb hf hs hc hq hg hd
      exact .inl ⟨wantedN rfl, k_val (.bool false) (by decide) trivial (x_pickF rfl (hd 5 (by kernel_rfl) 33 rfl) rfl) rfl⟩
    refine ⟨?_, ?_⟩
    · intro a' w' k' hb hf hs hc hq hg hd
      exact .inl ⟨wantedN rfl, k_val (.bool false) (by decide) trivial (x_move rfl (hd 12 (by kernel_rfl) 40 rfl)) rfl⟩
    refine ⟨?_, ?_⟩
    · intro a' w' k' hb hf hs hc hq hg hd
      exact .inr ⟨offT (d := 41) rfl rfl (by rw [hb.size, hsz]; omega) (hd 13 (by kernel_rfl) 41 rfl), by decide, rfl, Fr.refl _ _⟩
    refine ⟨?_, ?_⟩
    · intro a' w' k' hb hf hs hc hq hg hd
      exact .inl ⟨wantedN rfl, k_val (.bool false) (by decide) trivial (x_pickF rfl (hd 13 (by kernel_rfl) 41 rfl) rfl) rfl⟩
    refine ⟨?_, ?_⟩
    · intro a' w' k' hb hf hs hc hq hg hd
      exact .inl ⟨wantedN rfl, k_val (.bool false) (by decide) trivial (x_move rfl (hd 15 (by kernel_rfl) 43 rfl)) rfl⟩
    refine ⟨?_, ?_⟩
    · intro a' w' k' hb hf hs hc hq hg hd
      exact .inr ⟨offT (d := 44) rfl rfl (by rw [hb.size, hsz]; omega) (hd 16 (by kernel_rfl) 44 rfl), by decide, rfl, Fr.refl _ _⟩
    refine ⟨?_, ?_⟩
    · intro a' w' k' hb hf hs hc hq hg hd
      exact .inr ⟨offT (d := 44) rfl rfl (by rw [hb.size, hsz]; omega) (hd 16 (by kernel_rfl) 44 rfl), by decide, rfl, Fr.refl _ _⟩
    refine ⟨?_, ?_⟩
    · intro a' w' k' hb hf hs hc hq hg hd
      exact .inr ⟨offT (d := 44) rfl rfl (by rw [hb.size, hsz]; omega) (hd 16 (by kernel_rfl) 44 rfl), by decide, rfl, Fr.refl _ _⟩
    refine ⟨?_, ?_⟩
    · intro a' w' k' hb hf hs hc hq hg hd
      exact .inr ⟨offT (d := 44) rfl rfl (by rw [hb.size, hsz]; omega) (hd 16 (by kernel_rfl) 44 rfl), by decide, rfl, Fr.refl _ _⟩
    refine ⟨?_, ?_⟩
    · intro a' w' k' hb hf hs hc hq hg hd
      exact .inr ⟨offT (d := 44) rfl rfl (by rw [hb.size, hsz]; omega) (hd 16 (by kernel_rfl) 44 rfl), by decide, rfl, Fr.refl _ _⟩
    refine ⟨?_, ?_⟩
    · intro a' w' k' hb hf hs hc hq hg hd
      exact .inr ⟨offT (d := 44) rfl rfl (by rw [hb.size, hsz]; omega) (hd 16 (by kernel_rfl) 44 rfl), by decide, rfl, Fr.refl _ _⟩
    refine ⟨?_, ?_⟩
    · intro a' w' k' hb hf hs hc hq hg hd
      exact .inr ⟨offT (d := 44) rfl rfl (by rw [hb.size, hsz]; omega) (hd 16 (by kernel_rfl) 44 rfl), by decide, rfl, Fr.refl _ _⟩
    refine ⟨?_, ?_⟩
    · intro a' w' k' hb hf hs hc hq hg hd
      exact .inr ⟨offT (d := 44) rfl rfl (by rw [hb.size, hsz]; omega) (hd 16 (by kernel_rfl) 44 rfl), by decide, rfl, Fr.refl _ _⟩
    refine ⟨?_, ?_⟩
    · intro a' w' k' hb hf hs hc hq hg hd
      exact .inl ⟨wantedN rfl, k_val (.bool false) (by decide) trivial (x_pickF rfl (hd 16 (by kernel_rfl) 44 rfl) rfl) rfl⟩
    refine ⟨?_, ?_⟩
    · intro a' w' k' hb hf hs hc hq hg hd
      exact .inl ⟨wantedN rfl, k_val (.bool false) (by decide) trivial (x_move rfl (hd 25 (by kernel_rfl) 53 rfl)) rfl⟩
    refine ⟨?_, ?_⟩
    · intro a' w' k' hb hf hs hc hq hg hd
      exact .inr ⟨offT (d := 54) rfl rfl (by rw [hb.size, hsz]; omega) (hd 26 (by kernel_rfl) 54 rfl), by decide, rfl, Fr.refl _ _⟩
    refine ⟨?_, ?_⟩
    · intro a' w' k' hb hf hs hc hq hg hd
      exact .inr ⟨offT (d := 54) rfl rfl (by rw [hb.size, hsz]; omega) (hd 26 (by kernel_rfl) 54 rfl), by decide, rfl, Fr.refl _ _⟩
    refine ⟨?_, ?_⟩
    · intro a' w' k' hb hf hs hc hq hg hd
      exact .inr ⟨offT (d := 54) rfl rfl (by rw [hb.size, hsz]; omega) (hd 26 (by kernel_rfl) 54 rfl), by decide, rfl, Fr.refl _ _⟩
    refine ⟨?_, ?_⟩
    · intro a' w' k' hb hf hs hc hq hg hd
      exact .inl ⟨wantedN rfl, k_val (.bool false) (by decide) trivial (x_pickF rfl (hd 26 (by kernel_rfl) 54 rfl) rfl) rfl⟩
    refine ⟨?_, ?_⟩
    · intro a' w' k' hb hf hs hc hq hg hd
      exact .inl ⟨wantedN rfl, k_val (.bool false) (by decide) trivial (x_move rfl (hd 30 (by kernel_rfl) 58 rfl)) rfl⟩
    refine ⟨?_, ?_⟩
    · intro a' w' k' hb hf hs hc hq hg hd
      exact .inr ⟨offT (d := 59) rfl rfl (by rw [hb.size, hsz]; omega) (hd 31 (by kernel_rfl) 59 rfl), by decide, rfl, Fr.refl _ _⟩
    refine ⟨?_, ?_⟩
    · intro a' w' k' hb hf hs hc hq hg hd
      exact .inr ⟨offT (d := 59) rfl rfl (by rw [hb.size, hsz]; omega) (hd 31 (by kernel_rfl) 59 rfl), by decide, rfl, Fr.refl _ _⟩
    refine ⟨?_, ?_⟩
    · intro a' w' k' hb hf hs hc hq hg hd
      exact .inr ⟨offT (d := 59) rfl rfl (by rw [hb.size, hsz]; omega) (hd 31 (by kernel_rfl) 59 rfl), by decide, rfl, Fr.refl _ _⟩
    refine ⟨?_, ?_⟩
    · intro a' w' k' hb hf hs hc hq hg hd
      exact .inr ⟨offT (d := 59) rfl rfl (by rw [hb.size, hsz]; omega) (hd 31 (by kernel_rfl) 59 rfl), by decide, rfl, Fr.refl _ _⟩
    refine ⟨?_, ?_⟩
    · intro a' w' k' hb hf hs hc hq hg hd
      exact .inr ⟨offT (d := 59) rfl rfl (by rw [hb.size, hsz]; omega) (hd 31 (by kernel_rfl) 59 rfl), by decide, rfl, Fr.refl _ _⟩
    refine ⟨?_, ?_⟩
    · intro a' w' k' hb hf hs hc hq hg hd
      exact .inl ⟨wantedN rfl, k_val (.bool false) (by decide) trivial (x_pickF rfl (hd 31 (by kernel_rfl) 59 rfl) rfl) rfl⟩
    refine ⟨?_, ?_⟩
    · intro a' w' k' hb hf hs hc hq hg hd
      exact .inl ⟨wantedN rfl, k_val (.bool false) (by decide) trivial (x_assign rfl (hd 37 (by kernel_rfl) 65 rfl)) rfl⟩
    exact trivial
  case done =>
    intro a' w' hb hf hs hall
    have hslots : Slots a' 0 [.pointer (some ⟨j, 0, none⟩), u1, u2, .pointer (some ⟨q, 0, none⟩), .bool false, u5, u6, u7, u8, u9, u10, u11, u12, u13, u14, u15, u16, u17, u18, u19, u20, u21, u22, u23, u24, u25, u26, u27, a'.tmps.getD 28 undef, a'.tmps.getD 29 undef, a'.tmps.getD 30 undef, a'.tmps.getD 31 undef, a'.tmps.getD 32 undef, a'.tmps.getD 33 undef, a'.tmps.getD 34 undef, a'.tmps.getD 35 undef, a'.tmps.getD 36 undef, a'.tmps.getD 37 undef, a'.tmps.getD 38 undef, a'.tmps.getD 39 undef, a'.tmps.getD 40 undef, a'.tmps.getD 41 undef, a'.tmps.getD 42 undef, a'.tmps.getD 43 undef, a'.tmps.getD 44 undef, a'.tmps.getD 45 undef, a'.tmps.getD 46 undef, a'.tmps.getD 47 undef, a'.tmps.getD 48 undef, a'.tmps.getD 49 undef, a'.tmps.getD 50 undef, a'.tmps.getD 51 undef, a'.tmps.getD 52 undef, a'.tmps.getD 53 undef, a'.tmps.getD 54 undef, a'.tmps.getD 55 undef, a'.tmps.getD 56 undef, a'.tmps.getD 57 undef, a'.tmps.getD 58 undef, a'.tmps.getD 59 undef, a'.tmps.getD 60 undef, a'.tmps.getD 61 undef, a'.tmps.getD 62 undef, a'.tmps.getD 63 undef, a'.tmps.getD 64 undef, a'.tmps.getD 65 undef] := ⟨(hb.old 0 (by decide +kernel)).trans (by rw [unhide HA0]; rfl), (hb.old 1 (by decide +kernel)).trans (by rw [unhide HA0]; rfl), (hb.old 2 (by decide +kernel)).trans (by rw [unhide HA0]; rfl), (hb.old 3 (by decide +kernel)).trans (by rw [unhide HA0]; rfl), hall 38 (by decide) 4 rfl, (hb.old 5 (by decide +kernel)).trans (by rw [unhide HA0]; rfl), (hb.old 6 (by decide +kernel)).trans (by rw [unhide HA0]; rfl), (hb.old 7 (by decide +kernel)).trans (by rw [unhide HA0]; rfl), (hb.old 8 (by decide +kernel)).trans (by rw [unhide HA0]; rfl), (hb.old 9 (by decide +kernel)).trans (by rw [unhide HA0]; rfl), (hb.old 10 (by decide +kernel)).trans (by rw [unhide HA0]; rfl), (hb.old 11 (by decide +kernel)).trans (by rw [unhide HA0]; rfl), (hb.old 12 (by decide +kernel)).trans (by rw [unhide HA0]; rfl), (hb.old 13 (by decide +kernel)).trans (by rw [unhide HA0]; rfl), (hb.old 14 (by decide +kernel)).trans (by rw [unhide HA0]; rfl), (hb.old 15 (by decide +kernel)).trans (by rw [unhide HA0]; rfl), (hb.old 16 (by decide +kernel)).trans (by rw [unhide HA0]; rfl), (hb.old 17 (by decide +kernel)).trans (by rw [unhide HA0]; rfl), (hb.old 18 (by decide +kernel)).trans (by rw [unhide HA0]; rfl), (hb.old 19 (by decide +kernel)).trans (by rw [unhide HA0]; rfl), (hb.old 20 (by decide +kernel)).trans (by rw [unhide HA0]; rfl), (hb.old 21 (by decide +kernel)).trans (by rw [unhide HA0]; rfl), (hb.old 22 (by decide +kernel)).trans (by rw [unhide HA0]; rfl), (hb.old 23 (by decide +kernel)).trans (by rw [unhide HA0]; rfl), (hb.old 24 (by decide +kernel)).trans (by rw [unhide HA0]; rfl), (hb.old 25 (by decide +kernel)).trans (by rw [unhide HA0]; rfl), (hb.old 26 (by decide +kernel)).trans (by rw [unhide HA0]; rfl), (hb.old 27 (by decide +kernel)).trans (by rw [unhide HA0]; rfl), rfl, rfl, rfl, rfl, rfl, rfl, rfl, rfl, rfl, rfl, rfl, rfl, rfl, rfl, rfl, rfl, rfl, rfl, rfl, rfl, rfl, rfl, rfl, rfl, rfl, rfl, rfl, rfl, rfl, rfl, rfl, rfl, rfl, rfl, rfl, rfl, rfl, rfl, trivial⟩
    have hfr := frame_eq (a := a') (by rw [hb.size, hsz]; rfl) (by rw [hb.defers, hdf]) hslots
    rw [hfr]
    exact unhide HQ (a'.tmps.getD 28 undef) (a'.tmps.getD 29 undef) (a'.tmps.getD 30 undef) (a'.tmps.getD 31 undef) (a'.tmps.getD 32 undef) (a'.tmps.getD 33 undef) (a'.tmps.getD 34 undef) (a'.tmps.getD 35 undef) (a'.tmps.getD 36 undef) (a'.tmps.getD 37 undef) (a'.tmps.getD 38 undef) (a'.tmps.getD 39 undef) (a'.tmps.getD 40 undef) (a'.tmps.getD 41 undef) (a'.tmps.getD 42 undef) (a'.tmps.getD 43 undef) (a'.tmps.getD 44 undef) (a'.tmps.getD 45 undef) (a'.tmps.getD 46 undef) (a'.tmps.getD 47 undef) (a'.tmps.getD 48 undef) (a'.tmps.getD 49 undef) (a'.tmps.getD 50 undef) (a'.tmps.getD 51 undef) (a'.tmps.getD 52 undef) (a'.tmps.getD 53 undef) (a'.tmps.getD 54 undef) (a'.tmps.getD 55 undef) (a'.tmps.getD 56 undef) (a'.tmps.getD 57 undef) (a'.tmps.getD 58 undef) (a'.tmps.getD 59 undef) (a'.tmps.getD 60 undef) (a'.tmps.getD 61 undef) (a'.tmps.getD 62 undef) (a'.tmps.getD 63 undef) (a'.tmps.getD 64 undef) (a'.tmps.getD 65 undef) w' hf
set_option maxHeartbeats 4000000 in
set_option maxRecDepth 100000 in
theorem gq1 {W : World} {j s n q : Nat} {mv u : Value} {J : Jn} {E : En} {u1 u2 u4 u5 u6 u7 u8 u9 u10 u11 u12 u13 u14 u15 u16 u17 u18 u19 u20 u21 u22 u23 u24 u25 u26 u27 u28 u29 u30 u31 u32 u33 u34 u35 u36 u37 u38 u39 u40 u41 u42 u43 u44 u45 u46 u47 u48 u49 u50 u51 u52 u53 u54 u55 u56 u57 u58 u59 u60 u61 u62 u63 u64 u65 : Value} {Q : Exit → Act → World → Prop} (h : JAt W j s mv J) (ho : J.Ok n) (he : W.heap[q]? = some (.cells (E.c u) 25 (0, 0))) (a0 : E.p = J.nd) (a1 : ¬ (E.l = J.lst + 1))
    (hQ : ∀ (y28 y29 y30 y31 y32 y33 y34 y35 y36 y37 y38 y39 y40 y41 y42 y43 y44 y45 y46 y47 y48 y49 y50 y51 y52 y53 y54 y55 y56 y57 y58 y59 y60 y61 y62 y63 y64 y65 : Value) (W' : World), Fr (fun _ => False) W W' → Q .normal ⟨#[.pointer (some ⟨j, 0, none⟩), u1, u2, .pointer (some ⟨q, 0, none⟩), .bool false, u5, u6, u7, u8, u9, u10, u11, u12, u13, u14, u15, u16, u17, u18, u19, u20, u21, u22, u23, u24, u25, u26, u27, y28, y29, y30, y31, y32, y33, y34, y35, y36, y37, y38, y39, y40, y41, y42, y43, y44, y45, y46, y47, y48, y49, y50, y51, y52, y53, y54, y55, y56, y57, y58, y59, y60, y61, y62, y63, y64, y65], []⟩ W') : (rgF Try.f95 3).wp Try.prog Q ⟨#[.pointer (some ⟨j, 0, none⟩), u1, u2, .pointer (some ⟨q, 0, none⟩), u4, u5, u6, u7, u8, u9, u10, u11, u12, u13, u14, u15, u16, u17, u18, u19, u20, u21, u22, u23, u24, u25, u26, u27, u28, u29, u30, u31, u32, u33, u34, u35, u36, u37, u38, u39, u40, u41, u42, u43, u44, u45, u46, u47, u48, u49, u50, u51, u52, u53, u54, u55, u56, u57, u58, u59, u60, u61, u62, u63, u64, u65], []⟩ W := by
  have HQ := hide hQ
  clear hQ
  have HH := hide h
  have HO := hide ho
  have HE := hide he
  have HC0 : Hid (((E.p : Int) == (J.nd : Int)) = true) := hide (by simp; omega)
  have HC1 : Hid (((E.l : Int) == (((J.lst + 1 : Nat) : Int))) = false) := hide (by simp; omega)
  have HA : Hid (IntKind.u64.wrap ((J.lst : Int) + 1) = ((J.lst + 1 : Nat) : Int)) := hide (by
    have h1 := ho.nd.2.1
    have h2 := ho.sup.2.2.2.1
    have := wrapU (J.lst + 1) (by unfold Jn.lst; omega)
    exact_mod_cast this)
  clear h ho he
  conv => arg 2; whnf
  refine wp_nameK ?_
  intro a0 hA
  have h0 : a0.tmps.getD 0 undef = .pointer (some ⟨j, 0, none⟩) := by rw [hA]; rfl
  have h3 : a0.tmps.getD 3 undef = .pointer (some ⟨q, 0, none⟩) := by rw [hA]; rfl
  have hsz : a0.tmps.size = 66 := by rw [hA]; rfl
  have hdf : a0.defers = [] := by rw [hA]
  have HA0 := hide hA
  clear hA
  refine wp_region_kinds3 (fun _ => False) (by kernel_rfl) (by kernel_rfl) (by decide +kernel) (by rw [hsz]; decide +kernel) [.eq (.pointer (some ⟨q, 2, none⟩)), .eq (.int .u64 (E.p : Int)), .eq (.pointer (some ⟨j, 0, none⟩)), .eq (.int .u64 (J.nd : Int)), .eq (.bool true), .eq (.bool true), .eq (.pointer (some ⟨q, 3, none⟩)), .eq (.int .u64 (E.l : Int)), .eq (.pointer (some ⟨j, 0, none⟩)), .eq (.int .u64 (J.lst : Int)), .eq (.int .u64 (((J.lst + 1 : Nat) : Int) : Int)), .eq (.bool false), .eq (.bool false), .eq (.bool false), .eq undef, .eq (.bool false), .eq (.bool false), .eq undef, .eq undef, .eq undef, .eq undef, .eq undef, .eq undef, .eq undef, .eq undef, .eq (.bool false), .eq (.bool false), .eq undef, .eq undef, .eq undef, .eq (.bool false), .eq (.bool false), .eq undef, .eq undef, .eq undef, .eq undef, .eq undef, .eq (.bool false), .eq (.bool false)] [] (by decide) (by decide) (chain_paths _ [] (by kernel_rfl)) (fun _ _ => True) trivial ?steps ?done
  case steps =>
    refine ⟨?_, ?_⟩
    · intro a' w' k' hb hf hs hc hq hg hd
      exact .inl ⟨wantedN rfl, k_val (.pointer (some ⟨q, 2, none⟩)) (by decide) trivial (x_field (of := 0) (off := 2) (fa25_2 q 0) rfl ((hb.old 3 (by decide +kernel)).trans h3)) rfl⟩
    refine ⟨?_, ?_⟩
    · intro a' w' k' hb hf hs hc hq hg hd
      exact .inl ⟨wantedN rfl, k_val (.int .u64 (E.p : Int)) (by decide) trivial (x_load1 ldU rfl (hd 0 (by kernel_rfl) 28 rfl) ((hf.cell (a := ⟨q, 2, none⟩) (lt_of_heap (unhide HE)) id).trans (by have := cell_of_heap (unhide HE) 2; simpa [En.c] using this))) rfl⟩
    refine ⟨?_, ?_⟩
    · intro a' w' k' hb hf hs hc hq hg hd
      exact .inl ⟨wantedN rfl, k_val (.pointer (some ⟨j, 0, none⟩)) (by decide) trivial (x_move rfl ((hb.old 0 (by decide +kernel)).trans h0)) rfl⟩
    refine ⟨?_, ?_⟩
    · intro a' w' k' hb hf hs hc hq hg hd
      exact .inl ⟨wantedN rfl, k_call 74 _ (by decide) (e_call1 rfl rfl (hd 2 (by kernel_rfl) 30 rfl) (fun _ _ => by simp [go_sem])) (((end_any w' j s mv J ((unhide HH).kept0 hf) (unhide HO).nd.2.1)).mono (by rintro e w9 ⟨rfl, f9⟩; exact ⟨_, rfl, rfl, f9, trivial⟩))⟩
    refine ⟨?_, ?_⟩
    · intro a' w' k' hb hf hs hc hq hg hd
      exact .inl ⟨wantedN rfl, k_val _ (by decide) trivial (x_eqI Try.underlying22 rfl (hd 1 (by kernel_rfl) 29 rfl) (hd 3 (by kernel_rfl) 31 rfl) (unhide HC0)) rfl⟩
    refine ⟨?_, ?_⟩
    · intro a' w' k' hb hf hs hc hq hg hd
      exact .inl ⟨wantedN rfl, k_val (.bool true) (by decide) trivial (x_move rfl (hd 4 (by kernel_rfl) 32 rfl)) rfl⟩
    refine ⟨?_, ?_⟩
    · intro a' w' k' hb hf hs hc hq hg hd
      exact .inl ⟨wantedT (d := 33) rfl rfl (by rw [hb.size, hsz]; omega) (hd 5 (by kernel_rfl) 33 rfl), k_val (.pointer (some ⟨q, 3, none⟩)) (by decide) trivial (x_field (of := 0) (off := 3) (fa25_3 q 0) rfl ((hb.old 3 (by decide +kernel)).trans h3)) rfl⟩
    refine ⟨?_, ?_⟩
    · intro a' w' k' hb hf hs hc hq hg hd
      exact .inl ⟨wantedT (d := 33) rfl rfl (by rw [hb.size, hsz]; omega) (hd 5 (by kernel_rfl) 33 rfl), k_val (.int .u64 (E.l : Int)) (by decide) trivial (x_load1 ldU rfl (hd 6 (by kernel_rfl) 34 rfl) ((hf.cell (a := ⟨q, 3, none⟩) (lt_of_heap (unhide HE)) id).trans (by have := cell_of_heap (unhide HE) 3; simpa [En.c] using this))) rfl⟩
    refine ⟨?_, ?_⟩
    · intro a' w' k' hb hf hs hc hq hg hd
      exact .inl ⟨wantedT (d := 33) rfl rfl (by rw [hb.size, hsz]; omega) (hd 5 (by kernel_rfl) 33 rfl), k_val (.pointer (some ⟨j, 0, none⟩)) (by decide) trivial (x_move rfl ((hb.old 0 (by decide +kernel)).trans h0)) rfl⟩
    refine ⟨?_, ?_⟩
    · intro a' w' k' hb hf hs hc hq hg hd
      exact .inl ⟨wantedT (d := 33) rfl rfl (by rw [hb.size, hsz]; omega) (hd 5 (by kernel_rfl) 33 rfl), k_call 46 _ (by decide) (e_call1 rfl rfl (hd 8 (by kernel_rfl) 36 rfl) (fun _ _ => by simp [go_sem])) (((last_any w' j s mv J _ ((unhide HH).kept0 hf) (unhide HO))).mono (by rintro e w9 ⟨rfl, f9⟩; exact ⟨_, rfl, rfl, f9, trivial⟩))⟩
    refine ⟨?_, ?_⟩
    · intro a' w' k' hb hf hs hc hq hg hd
      exact .inl ⟨wantedT (d := 33) rfl rfl (by rw [hb.size, hsz]; omega) (hd 5 (by kernel_rfl) 33 rfl), k_val _ (by decide) trivial (x_addU rfl (hd 9 (by kernel_rfl) 37 rfl) rfl (unhide HA)) rfl⟩
    refine ⟨?_, ?_⟩
    · intro a' w' k' hb hf hs hc hq hg hd
      exact .inl ⟨wantedT (d := 33) rfl rfl (by rw [hb.size, hsz]; omega) (hd 5 (by kernel_rfl) 33 rfl), k_val _ (by decide) trivial (x_eqI Try.underlying22 rfl (hd 7 (by kernel_rfl) 35 rfl) (hd 10 (by kernel_rfl) 38 rfl) (unhide HC1)) rfl⟩
    refine ⟨?_, ?_⟩
    · intro a' w' k' hb hf hs hc hq hg hd
      exact .inl ⟨wantedN rfl, k_val (.bool false) (by decide) trivial (x_pickT rfl (hd 5 (by kernel_rfl) 33 rfl) (hd 11 (by kernel_rfl) 39 rfl)) rfl⟩
    refine ⟨?_, ?_⟩
    · intro a' w' k' hb hf hs hc hq hg hd
      exact .inl ⟨wantedN rfl, k_val (.bool false) (by decide) trivial (x_move rfl (hd 12 (by kernel_rfl) 40 rfl)) rfl⟩
    refine ⟨?_, ?_⟩
    · intro a' w' k' hb hf hs hc hq hg hd
      exact .inr ⟨offT (d := 41) rfl rfl (by rw [hb.size, hsz]; omega) (hd 13 (by kernel_rfl) 41 rfl), by decide, rfl, Fr.refl _ _⟩
    refine ⟨?_, ?_⟩
    · intro a' w' k' hb hf hs hc hq hg hd
      exact .inl ⟨wantedN rfl, k_val (.bool false) (by decide) trivial (x_pickF rfl (hd 13 (by kernel_rfl) 41 rfl) rfl) rfl⟩
    refine ⟨?_, ?_⟩
    · intro a' w' k' hb hf hs hc hq hg hd
      exact .inl ⟨wantedN rfl, k_val (.bool false) (by decide) trivial (x_move rfl (hd 15 (by kernel_rfl) 43 rfl)) rfl⟩
    refine ⟨?_, ?_⟩
    · intro a' w' k' hb hf hs hc hq hg hd
      exact .inr ⟨offT (d := 44) rfl rfl (by rw [hb.size, hsz]; omega) (hd 16 (by kernel_rfl) 44 rfl), by decide, rfl, Fr.refl _ _⟩
    refine ⟨?_, ?_⟩
    · intro a' w' k' hb hf hs hc hq hg hd
      exact .inr ⟨offT (d := 44) rfl rfl (by rw [hb.size, hsz]; omega) (hd 16 (by kernel_rfl) 44 rfl), by decide, rfl, Fr.refl _ _⟩
    refine ⟨?_, ?_⟩
    · intro a' w' k' hb hf hs hc hq hg hd
      exact .inr ⟨offT (d := 44) rfl rfl (by rw [hb.size, hsz]; omega) (hd 16 (by kernel_rfl) 44 rfl), by decide, rfl, Fr.refl _ _⟩
    refine ⟨?_, ?_⟩
    · intro a' w' k' hb hf hs hc hq hg hd
      exact .inr ⟨offT (d := 44) rfl rfl (by rw [hb.size, hsz]; omega) (hd 16 (by kernel_rfl) 44 rfl), by decide, rfl, Fr.refl _ _⟩
    refine ⟨?_, ?_⟩
    · intro a' w' k' hb hf hs hc hq hg hd
      exact .inr ⟨offT (d := 44) rfl rfl (by rw [hb.size, hsz]; omega) (hd 16 (by kernel_rfl) 44 rfl), by decide, rfl, Fr.refl _ _⟩
    refine ⟨?_, ?_⟩
    · intro a' w' k' hb hf hs hc hq hg hd
      exact .inr ⟨offT (d := 44) rfl rfl (by rw [hb.size, hsz]; omega) (hd 16 (by kernel_rfl) 44 rfl), by decide, rfl, Fr.refl _ _⟩
    refine ⟨?_, ?_⟩
    · intro a' w' k' hb hf hs hc hq hg hd
      exact .inr ⟨offT (d := 44) rfl rfl (by rw [hb.size, hsz]; omega) (hd 16 (by kernel_rfl) 44 rfl), by decide, rfl, Fr.refl _ _⟩
    refine ⟨?_, ?_⟩
    · intro a' w' k' hb hf hs hc hq hg hd
      exact .inr ⟨offT (d := 44) rfl rfl (by rw [hb.size, hsz]; omega) (hd 16 (by kernel_rfl) 44 rfl), by decide, rfl, Fr.refl _ _⟩
    refine ⟨?_, ?_⟩
    · intro a' w' k' hb hf hs hc hq hg hd
      exact .inl ⟨wantedN rfl, k_val (.bool false) (by decide) trivial (x_pickF rfl (hd 16 (by kernel_rfl) 44 rfl) rfl) rfl⟩
    refine ⟨?_, ?_⟩
    · intro a' w' k' hb hf hs hc hq hg hd
      exact .inl ⟨wantedN rfl, k_val (.bool false) (by decide) trivial (x_move rfl (hd 25 (by kernel_rfl) 53 rfl)) rfl⟩
    refine ⟨?_, ?_⟩
    · intro a' w' k' hb hf hs hc hq hg hd
      exact .inr ⟨offT (d := 54) rfl rfl (by rw [hb.size, hsz]; omega) (hd 26 (by kernel_rfl) 54 rfl), by decide, rfl, Fr.refl _ _⟩
    refine ⟨?_, ?_⟩
    · intro a' w' k' hb hf hs hc hq hg hd
      exact .inr ⟨offT (d := 54) rfl rfl (by rw [hb.size, hsz]; omega) (hd 26 (by kernel_rfl) 54 rfl), by decide, rfl, Fr.refl _ _⟩
    refine ⟨?_, ?_⟩
    · intro a' w' k' hb hf hs hc hq hg hd
      exact .inr ⟨offT (d := 54) rfl rfl (by rw [hb.size, hsz]; omega) (hd 26 (by kernel_rfl) 54 rfl), by decide, rfl, Fr.refl _ _⟩
    refine ⟨?_, ?_⟩
    · intro a' w' k' hb hf hs hc hq hg hd
      exact .inl ⟨wantedN rfl, k_val (.bool false) (by decide) trivial (x_pickF rfl (hd 26 (by kernel_rfl) 54 rfl) rfl) rfl⟩
    refine ⟨?_, ?_⟩
    · intro a' w' k' hb hf hs hc hq hg hd
      exact .inl ⟨wantedN rfl, k_val (.bool false) (by decide) trivial (x_move rfl (hd 30 (by kernel_rfl) 58 rfl)) rfl⟩
    refine ⟨?_, ?_⟩
    · intro a' w' k' hb hf hs hc hq hg hd
      exact .inr ⟨offT (d := 59) rfl rfl (by rw [hb.size, hsz]; omega) (hd 31 (by kernel_rfl) 59 rfl), by decide, rfl, Fr.refl _ _⟩
    refine ⟨?_, ?_⟩
    · intro a' w' k' hb hf hs hc hq hg hd
      exact .inr ⟨offT (d := 59) rfl rfl (by rw [hb.size, hsz]; omega) (hd 31 (by kernel_rfl) 59 rfl), by decide, rfl, Fr.refl _ _⟩
    refine ⟨?_, ?_⟩
    · intro a' w' k' hb hf hs hc hq hg hd
      exact .inr ⟨offT (d := 59) rfl rfl (by rw [hb.size, hsz]; omega) (hd 31 (by kernel_rfl) 59 rfl), by decide, rfl, Fr.refl _ _⟩
    refine ⟨?_, ?_⟩
    · intro a' w' k' hb hf hs hc hq hg hd
      exact .inr ⟨offT (d := 59) rfl rfl (by rw [hb.size, hsz]; omega) (hd 31 (by kernel_rfl) 59 rfl), by decide, rfl, Fr.refl _ _⟩
    refine ⟨?_, ?_⟩
    · intro a' w' k' hb hf hs hc hq hg hd
      exact .inr ⟨offT (d := 59) rfl rfl (by rw [hb.size, hsz]; omega) (hd 31 (by kernel_rfl) 59 rfl), by decide, rfl, Fr.refl _ _⟩
    refine ⟨?_, ?_⟩
    · intro a' w' k' hb hf hs hc hq hg hd
      exact .inl ⟨wantedN rfl, k_val (.bool false) (by decide) trivial (x_pickF rfl (hd 31 (by kernel_rfl) 59 rfl) rfl) rfl⟩
    refine ⟨?_, ?_⟩
    · intro a' w' k' hb hf hs hc hq hg hd
      exact .inl ⟨wantedN rfl, k_val (.bool false) (by decide) trivial (x_assign rfl (hd 37 (by kernel_rfl) 65 rfl)) rfl⟩
    exact trivial
  case done =>
    intro a' w' hb hf hs hall
    have hslots : Slots a' 0 [.pointer (some ⟨j, 0, none⟩), u1, u2, .pointer (some ⟨q, 0, none⟩), .bool false, u5, u6, u7, u8, u9, u10, u11, u12, u13, u14, u15, u16, u17, u18, u19, u20, u21, u22, u23, u24, u25, u26, u27, a'.tmps.getD 28 undef, a'.tmps.getD 29 undef, a'.tmps.getD 30 undef, a'.tmps.getD 31 undef, a'.tmps.getD 32 undef, a'.tmps.getD 33 undef, a'.tmps.getD 34 undef, a'.tmps.getD 35 undef, a'.tmps.getD 36 undef, a'.tmps.getD 37 undef, a'.tmps.getD 38 undef, a'.tmps.getD 39 undef, a'.tmps.getD 40 undef, a'.tmps.getD 41 undef, a'.tmps.getD 42 undef, a'.tmps.getD 43 undef, a'.tmps.getD 44 undef, a'.tmps.getD 45 undef, a'.tmps.getD 46 undef, a'.tmps.getD 47 undef, a'.tmps.getD 48 undef, a'.tmps.getD 49 undef, a'.tmps.getD 50 undef, a'.tmps.getD 51 undef, a'.tmps.getD 52 undef, a'.tmps.getD 53 undef, a'.tmps.getD 54 undef, a'.tmps.getD 55 undef, a'.tmps.getD 56 undef, a'.tmps.getD 57 undef, a'.tmps.getD 58 undef, a'.tmps.getD 59 undef, a'.tmps.getD 60 undef, a'.tmps.getD 61 undef, a'.tmps.getD 62 undef, a'.tmps.getD 63 undef, a'.tmps.getD 64 undef, a'.tmps.getD 65 undef] := ⟨(hb.old 0 (by decide +kernel)).trans (by rw [unhide HA0]; rfl), (hb.old 1 (by decide +kernel)).trans (by rw [unhide HA0]; rfl), (hb.old 2 (by decide +kernel)).trans (by rw [unhide HA0]; rfl), (hb.old 3 (by decide +kernel)).trans (by rw [unhide HA0]; rfl), hall 38 (by decide) 4 rfl, (hb.old 5 (by decide +kernel)).trans (by rw [unhide HA0]; rfl), (hb.old 6 (by decide +kernel)).trans (by rw [unhide HA0]; rfl), (hb.old 7 (by decide +kernel)).trans (by rw [unhide HA0]; rfl), (hb.old 8 (by decide +kernel)).trans (by rw [unhide HA0]; rfl), (hb.old 9 (by decide +kernel)).trans (by rw [unhide HA0]; rfl), (hb.old 10 (by decide +kernel)).trans (by rw [unhide HA0]; rfl), (hb.old 11 (by decide +kernel)).trans (by rw [unhide HA0]; rfl), (hb.old 12 (by decide +kernel)).trans (by rw [unhide HA0]; rfl), (hb.old 13 (by decide +kernel)).trans (by rw [unhide HA0]; rfl), (hb.old 14 (by decide +kernel)).trans (by rw [unhide HA0]; rfl), (hb.old 15 (by decide +kernel)).trans (by rw [unhide HA0]; rfl), (hb.old 16 (by decide +kernel)).trans (by rw [unhide HA0]; rfl), (hb.old 17 (by decide +kernel)).trans (by rw [unhide HA0]; rfl), (hb.old 18 (by decide +kernel)).trans (by rw [unhide HA0]; rfl), (hb.old 19 (by decide +kernel)).trans (by rw [unhide HA0]; rfl), (hb.old 20 (by decide +kernel)).trans (by rw [unhide HA0]; rfl), (hb.old 21 (by decide +kernel)).trans (by rw [unhide HA0]; rfl), (hb.old 22 (by decide +kernel)).trans (by rw [unhide HA0]; rfl), (hb.old 23 (by decide +kernel)).trans (by rw [unhide HA0]; rfl), (hb.old 24 (by decide +kernel)).trans (by rw [unhide HA0]; rfl), (hb.old 25 (by decide +kernel)).trans (by rw [unhide HA0]; rfl), (hb.old 26 (by decide +kernel)).trans (by rw [unhide HA0]; rfl), (hb.old 27 (by decide +kernel)).trans (by rw [unhide HA0]; rfl), rfl, rfl, rfl, rfl, rfl, rfl, rfl, rfl, rfl, rfl, rfl, rfl, rfl, rfl, rfl, rfl, rfl, rfl, rfl, rfl, rfl, rfl, rfl, rfl, rfl, rfl, rfl, rfl, rfl, rfl, rfl, rfl, rfl, rfl, rfl, rfl, rfl, rfl, trivial⟩
    have hfr := frame_eq (a := a') (by rw [hb.size, hsz]; rfl) (by rw [hb.defers, hdf]) hslots
    rw [hfr]
    exact unhide HQ (a'.tmps.getD 28 undef) (a'.tmps.getD 29 undef) (a'.tmps.getD 30 undef) (a'.tmps.getD 31 undef) (a'.tmps.getD 32 undef) (a'.tmps.getD 33 undef) (a'.tmps.getD 34 undef) (a'.tmps.getD 35 undef) (a'.tmps.getD 36 undef) (a'.tmps.getD 37 undef) (a'.tmps.getD 38 undef) (a'.tmps.getD 39 undef) (a'.tmps.getD 40 undef) (a'.tmps.getD 41 undef) (a'.tmps.getD 42 undef) (a'.tmps.getD 43 undef) (a'.tmps.getD 44 undef) (a'.tmps.getD 45 undef) (a'.tmps.getD 46 undef) (a'.tmps.getD 47 undef) (a'.tmps.getD 48 undef) (a'.tmps.getD 49 undef) (a'.tmps.getD 50 undef) (a'.tmps.getD 51 undef) (a'.tmps.getD 52 undef) (a'.tmps.getD 53 undef) (a'.tmps.getD 54 undef) (a'.tmps.getD 55 undef) (a'.tmps.getD 56 undef) (a'.tmps.getD 57 undef) (a'.tmps.getD 58 undef) (a'.tmps.getD 59 undef) (a'.tmps.getD 60 undef) (a'.tmps.getD 61 undef) (a'.tmps.getD 62 undef) (a'.tmps.getD 63 undef) (a'.tmps.getD 64 undef) (a'.tmps.getD 65 undef) w' hf
set_option maxHeartbeats 4000000 in
set_option maxRecDepth 100000 in
theorem gq2 {W : World} {j s n q : Nat} {mv u : Value} {J : Jn} {E : En} {u1 u2 u4 u5 u7 u8 u9 u10 u11 u12 u13 u14 u15 u16 u17 u18 u19 u20 u21 u22 u23 u24 u25 u26 u27 u28 u29 u30 u31 u32 u33 u34 u35 u36 u37 u38 u39 u40 u41 u42 u43 u44 u45 u46 u47 u48 u49 u50 u51 u52 u53 u54 u55 u56 u57 u58 u59 u60 u61 u62 u63 u64 u65 : Value} {Q : Exit → Act → World → Prop} (h : JAt W j s mv J) (ho : J.Ok n) (he : W.heap[q]? = some (.cells (E.c u) 25 (0, 0))) (a0 : E.p = J.nd) (a1 : E.l = J.lst + 1)
    (hQ : ∀ (y28 y29 y30 y31 y32 y33 y34 y35 y36 y37 y38 y39 y40 y41 y42 y43 y44 y45 y46 y47 y48 y49 y50 y51 y52 y53 y54 y55 y56 y57 y58 y59 y60 y61 y62 y63 y64 y65 : Value) (W' : World), Fr (fun _ => False) W W' → Q .normal ⟨#[.pointer (some ⟨j, 0, none⟩), u1, u2, .pointer (some ⟨q, 0, none⟩), .bool false, u5, .bool false, u7, u8, u9, u10, u11, u12, u13, u14, u15, u16, u17, u18, u19, u20, u21, u22, u23, u24, u25, u26, u27, y28, y29, y30, y31, y32, y33, y34, y35, y36, y37, y38, y39, y40, y41, y42, y43, y44, y45, y46, y47, y48, y49, y50, y51, y52, y53, y54, y55, y56, y57, y58, y59, y60, y61, y62, y63, y64, y65], []⟩ W') : (rgF Try.f95 3).wp Try.prog Q ⟨#[.pointer (some ⟨j, 0, none⟩), u1, u2, .pointer (some ⟨q, 0, none⟩), u4, u5, .bool false, u7, u8, u9, u10, u11, u12, u13, u14, u15, u16, u17, u18, u19, u20, u21, u22, u23, u24, u25, u26, u27, u28, u29, u30, u31, u32, u33, u34, u35, u36, u37, u38, u39, u40, u41, u42, u43, u44, u45, u46, u47, u48, u49, u50, u51, u52, u53, u54, u55, u56, u57, u58, u59, u60, u61, u62, u63, u64, u65], []⟩ W := by
  have HQ := hide hQ
  clear hQ
  have HH := hide h
  have HO := hide ho
  have HE := hide he
  have HC0 : Hid (((E.p : Int) == (J.nd : Int)) = true) := hide (by simp; omega)
  have HC1 : Hid (((E.l : Int) == (((J.lst + 1 : Nat) : Int))) = true) := hide (by simp; omega)
  have HA : Hid (IntKind.u64.wrap ((J.lst : Int) + 1) = ((J.lst + 1 : Nat) : Int)) := hide (by
    have h1 := ho.nd.2.1
    have h2 := ho.sup.2.2.2.1
    have := wrapU (J.lst + 1) (by unfold Jn.lst; omega)
    exact_mod_cast this)
  clear h ho he
  conv => arg 2; whnf
  refine wp_nameK ?_
  intro a0 hA
  have h0 : a0.tmps.getD 0 undef = .pointer (some ⟨j, 0, none⟩) := by rw [hA]; rfl
  have h3 : a0.tmps.getD 3 undef = .pointer (some ⟨q, 0, none⟩) := by rw [hA]; rfl
  have h6 : a0.tmps.getD 6 undef = .bool false := by rw [hA]; rfl
  have hsz : a0.tmps.size = 66 := by rw [hA]; rfl
  have hdf : a0.defers = [] := by rw [hA]
  have HA0 := hide hA
  clear hA
  refine wp_region_kinds3 (fun _ => False) (by kernel_rfl) (by kernel_rfl) (by decide +kernel) (by rw [hsz]; decide +kernel) [.eq (.pointer (some ⟨q, 2, none⟩)), .eq (.int .u64 (E.p : Int)), .eq (.pointer (some ⟨j, 0, none⟩)), .eq (.int .u64 (J.nd : Int)), .eq (.bool true), .eq (.bool true), .eq (.pointer (some ⟨q, 3, none⟩)), .eq (.int .u64 (E.l : Int)), .eq (.pointer (some ⟨j, 0, none⟩)), .eq (.int .u64 (J.lst : Int)), .eq (.int .u64 (((J.lst + 1 : Nat) : Int) : Int)), .eq (.bool true), .eq (.bool true), .eq (.bool true), .eq (.bool false), .eq (.bool false), .eq (.bool false), .eq undef, .eq undef, .eq undef, .eq undef, .eq undef, .eq undef, .eq undef, .eq undef, .eq (.bool false), .eq (.bool false), .eq undef, .eq undef, .eq undef, .eq (.bool false), .eq (.bool false), .eq undef, .eq undef, .eq undef, .eq undef, .eq undef, .eq (.bool false), .eq (.bool false)] [] (by decide) (by decide) (chain_paths _ [] (by kernel_rfl)) (fun _ _ => True) trivial ?steps ?done
  case steps =>
    refine ⟨?_, ?_⟩
    · intro a' w' k' hb hf hs hc hq hg hd
      exact .inl ⟨wantedN rfl, k_val (.pointer (some ⟨q, 2, none⟩)) (by decide) trivial (x_field (of := 0) (off := 2) (fa25_2 q 0) rfl ((hb.old 3 (by decide +kernel)).trans h3)) rfl⟩
    refine ⟨?_, ?_⟩
    · intro a' w' k' hb hf hs hc hq hg hd
      exact .inl ⟨wantedN rfl, k_val (.int .u64 (E.p : Int)) (by decide) trivial (x_load1 ldU rfl (hd 0 (by kernel_rfl) 28 rfl) ((hf.cell (a := ⟨q, 2, none⟩) (lt_of_heap (unhide HE)) id).trans (by have := cell_of_heap (unhide HE) 2; simpa [En.c] using this))) rfl⟩
    refine ⟨?_, ?_⟩
    · intro a' w' k' hb hf hs hc hq hg hd
      exact .inl ⟨wantedN rfl, k_val (.pointer (some ⟨j, 0, none⟩)) (by decide) trivial (x_move rfl ((hb.old 0 (by decide +kernel)).trans h0)) rfl⟩
    refine ⟨?_, ?_⟩
    · intro a' w' k' hb hf hs hc hq hg hd
      exact .inl ⟨wantedN rfl, k_call 74 _ (by decide) (e_call1 rfl rfl (hd 2 (by kernel_rfl) 30 rfl) (fun _ _ => by simp [go_sem])) (((end_any w' j s mv J ((unhide HH).kept0 hf) (unhide HO).nd.2.1)).mono (by rintro e w9 ⟨rfl, f9⟩; exact ⟨_, rfl, rfl, f9, trivial⟩))⟩
    refine ⟨?_, ?_⟩
    · intro a' w' k' hb hf hs hc hq hg hd
      exact .inl ⟨wantedN rfl, k_val _ (by decide) trivial (x_eqI Try.underlying22 rfl (hd 1 (by kernel_rfl) 29 rfl) (hd 3 (by kernel_rfl) 31 rfl) (unhide HC0)) rfl⟩
    refine ⟨?_, ?_⟩
    · intro a' w' k' hb hf hs hc hq hg hd
      exact .inl ⟨wantedN rfl, k_val (.bool true) (by decide) trivial (x_move rfl (hd 4 (by kernel_rfl) 32 rfl)) rfl⟩
    refine ⟨?_, ?_⟩
    · intro a' w' k' hb hf hs hc hq hg hd
      exact .inl ⟨wantedT (d := 33) rfl rfl (by rw [hb.size, hsz]; omega) (hd 5 (by kernel_rfl) 33 rfl), k_val (.pointer (some ⟨q, 3, none⟩)) (by decide) trivial (x_field (of := 0) (off := 3) (fa25_3 q 0) rfl ((hb.old 3 (by decide +kernel)).trans h3)) rfl⟩
    refine ⟨?_, ?_⟩
    · intro a' w' k' hb hf hs hc hq hg hd
      exact .inl ⟨wantedT (d := 33) rfl rfl (by rw [hb.size, hsz]; omega) (hd 5 (by kernel_rfl) 33 rfl), k_val (.int .u64 (E.l : Int)) (by decide) trivial (x_load1 ldU rfl (hd 6 (by kernel_rfl) 34 rfl) ((hf.cell (a := ⟨q, 3, none⟩) (lt_of_heap (unhide HE)) id).trans (by have := cell_of_heap (unhide HE) 3; simpa [En.c] using this))) rfl⟩
    refine ⟨?_, ?_⟩
    · intro a' w' k' hb hf hs hc hq hg hd
      exact .inl ⟨wantedT (d := 33) rfl rfl (by rw [hb.size, hsz]; omega) (hd 5 (by kernel_rfl) 33 rfl), k_val (.pointer (some ⟨j, 0, none⟩)) (by decide) trivial (x_move rfl ((hb.old 0 (by decide +kernel)).trans h0)) rfl⟩
    refine ⟨?_, ?_⟩
    · intro a' w' k' hb hf hs hc hq hg hd
      exact .inl ⟨wantedT (d := 33) rfl rfl (by rw [hb.size, hsz]; omega) (hd 5 (by kernel_rfl) 33 rfl), k_call 46 _ (by decide) (e_call1 rfl rfl (hd 8 (by kernel_rfl) 36 rfl) (fun _ _ => by simp [go_sem])) (((last_any w' j s mv J _ ((unhide HH).kept0 hf) (unhide HO))).mono (by rintro e w9 ⟨rfl, f9⟩; exact ⟨_, rfl, rfl, f9, trivial⟩))⟩
    refine ⟨?_, ?_⟩
    · intro a' w' k' hb hf hs hc hq hg hd
      exact .inl ⟨wantedT (d := 33) rfl rfl (by rw [hb.size, hsz]; omega) (hd 5 (by kernel_rfl) 33 rfl), k_val _ (by decide) trivial (x_addU rfl (hd 9 (by kernel_rfl) 37 rfl) rfl (unhide HA)) rfl⟩
    refine ⟨?_, ?_⟩
    · intro a' w' k' hb hf hs hc hq hg hd
      exact .inl ⟨wantedT (d := 33) rfl rfl (by rw [hb.size, hsz]; omega) (hd 5 (by kernel_rfl) 33 rfl), k_val _ (by decide) trivial (x_eqI Try.underlying22 rfl (hd 7 (by kernel_rfl) 35 rfl) (hd 10 (by kernel_rfl) 38 rfl) (unhide HC1)) rfl⟩
    refine ⟨?_, ?_⟩
    · intro a' w' k' hb hf hs hc hq hg hd
      exact .inl ⟨wantedN rfl, k_val (.bool true) (by decide) trivial (x_pickT rfl (hd 5 (by kernel_rfl) 33 rfl) (hd 11 (by kernel_rfl) 39 rfl)) rfl⟩
    refine ⟨?_, ?_⟩
    · intro a' w' k' hb hf hs hc hq hg hd
      exact .inl ⟨wantedN rfl, k_val (.bool true) (by decide) trivial (x_move rfl (hd 12 (by kernel_rfl) 40 rfl)) rfl⟩
    refine ⟨?_, ?_⟩
    · intro a' w' k' hb hf hs hc hq hg hd
      exact .inl ⟨wantedT (d := 41) rfl rfl (by rw [hb.size, hsz]; omega) (hd 13 (by kernel_rfl) 41 rfl), k_val (.bool false) (by decide) trivial (x_move rfl ((hb.old 6 (by decide +kernel)).trans h6)) rfl⟩
    refine ⟨?_, ?_⟩
    · intro a' w' k' hb hf hs hc hq hg hd
      exact .inl ⟨wantedN rfl, k_val (.bool false) (by decide) trivial (x_pickT rfl (hd 13 (by kernel_rfl) 41 rfl) (hd 14 (by kernel_rfl) 42 rfl)) rfl⟩
    refine ⟨?_, ?_⟩
    · intro a' w' k' hb hf hs hc hq hg hd
      exact .inl ⟨wantedN rfl, k_val (.bool false) (by decide) trivial (x_move rfl (hd 15 (by kernel_rfl) 43 rfl)) rfl⟩
    refine ⟨?_, ?_⟩
    · intro a' w' k' hb hf hs hc hq hg hd
      exact .inr ⟨offT (d := 44) rfl rfl (by rw [hb.size, hsz]; omega) (hd 16 (by kernel_rfl) 44 rfl), by decide, rfl, Fr.refl _ _⟩
    refine ⟨?_, ?_⟩
    · intro a' w' k' hb hf hs hc hq hg hd
      exact .inr ⟨offT (d := 44) rfl rfl (by rw [hb.size, hsz]; omega) (hd 16 (by kernel_rfl) 44 rfl), by decide, rfl, Fr.refl _ _⟩
    refine ⟨?_, ?_⟩
    · intro a' w' k' hb hf hs hc hq hg hd
      exact .inr ⟨offT (d := 44) rfl rfl (by rw [hb.size, hsz]; omega) (hd 16 (by kernel_rfl) 44 rfl), by decide, rfl, Fr.refl _ _⟩
    refine ⟨?_, ?_⟩
    · intro a' w' k' hb hf hs hc hq hg hd
      exact .inr ⟨offT (d := 44) rfl rfl (by rw [hb.size, hsz]; omega) (hd 16 (by kernel_rfl) 44 rfl), by decide, rfl, Fr.refl _ _⟩
    refine ⟨?_, ?_⟩
    · intro a' w' k' hb hf hs hc hq hg hd
      exact .inr ⟨offT (d := 44) rfl rfl (by rw [hb.size, hsz]; omega) (hd 16 (by kernel_rfl) 44 rfl), by decide, rfl, Fr.refl _ _⟩
    refine ⟨?_, ?_⟩
    · intro a' w' k' hb hf hs hc hq hg hd
      exact .inr ⟨offT (d := 44) rfl rfl (by rw [hb.size, hsz]; omega) (hd 16 (by kernel_rfl) 44 rfl), by decide, rfl, Fr.refl _ _⟩
    refine ⟨?_, ?_⟩
    · intro a' w' k' hb hf hs hc hq hg hd
      exact .inr ⟨offT (d := 44) rfl rfl (by rw [hb.size, hsz]; omega) (hd 16 (by kernel_rfl) 44 rfl), by decide, rfl, Fr.refl _ _⟩
    refine ⟨?_, ?_⟩
    · intro a' w' k' hb hf hs hc hq hg hd
      exact .inr ⟨offT (d := 44) rfl rfl (by rw [hb.size, hsz]; omega) (hd 16 (by kernel_rfl) 44 rfl), by decide, rfl, Fr.refl _ _⟩
    refine ⟨?_, ?_⟩
    · intro a' w' k' hb hf hs hc hq hg hd
      exact .inl ⟨wantedN rfl, k_val (.bool false) (by decide) trivial (x_pickF rfl (hd 16 (by kernel_rfl) 44 rfl) rfl) rfl⟩
    refine ⟨?_, ?_⟩
    · intro a' w' k' hb hf hs hc hq hg hd
      exact .inl ⟨wantedN rfl, k_val (.bool false) (by decide) trivial (x_move rfl (hd 25 (by kernel_rfl) 53 rfl)) rfl⟩
    refine ⟨?_, ?_⟩
    · intro a' w' k' hb hf hs hc hq hg hd
      exact .inr ⟨offT (d := 54) rfl rfl (by rw [hb.size, hsz]; omega) (hd 26 (by kernel_rfl) 54 rfl), by decide, rfl, Fr.refl _ _⟩
    refine ⟨?_, ?_⟩
    · intro a' w' k' hb hf hs hc hq hg hd
      exact .inr ⟨offT (d := 54) rfl rfl (by rw [hb.size, hsz]; omega) (hd 26 (by kernel_rfl) 54 rfl), by decide, rfl, Fr.refl _ _⟩
    refine ⟨?_, ?_⟩
    · intro a' w' k' hb hf hs hc hq hg hd
      exact .inr ⟨offT (d := 54) rfl rfl (by rw [hb.size, hsz]; omega) (hd 26 (by kernel_rfl) 54 rfl), by decide, rfl, Fr.refl _ _⟩
    refine ⟨?_, ?_⟩
    · intro a' w' k' hb hf hs hc hq hg hd
      exact .inl ⟨wantedN rfl, k_val (.bool false) (by decide) trivial (x_pickF rfl (hd 26 (by kernel_rfl) 54 rfl) rfl) rfl⟩
    refine ⟨?_, ?_⟩
    · intro a' w' k' hb hf hs hc hq hg hd
      exact .inl ⟨wantedN rfl, k_val (.bool false) (by decide) trivial (x_move rfl (hd 30 (by kernel_rfl) 58 rfl)) rfl⟩
    refine ⟨?_, ?_⟩
    · intro a' w' k' hb hf hs hc hq hg hd
      exact .inr ⟨offT (d := 59) rfl rfl (by rw [hb.size, hsz]; omega) (hd 31 (by kernel_rfl) 59 rfl), by decide, rfl, Fr.refl _ _⟩
    refine ⟨?_, ?_⟩
    · intro a' w' k' hb hf hs hc hq hg hd
      exact .inr ⟨offT (d := 59) rfl rfl (by rw [hb.size, hsz]; omega) (hd 31 (by kernel_rfl) 59 rfl), by decide, rfl, Fr.refl _ _⟩
    refine ⟨?_, ?_⟩
    · intro a' w' k' hb hf hs hc hq hg hd
      exact .inr ⟨offT (d := 59) rfl rfl (by rw [hb.size, hsz]; omega) (hd 31 (by kernel_rfl) 59 rfl), by decide, rfl, Fr.refl _ _⟩
    refine ⟨?_, ?_⟩
    · intro a' w' k' hb hf hs hc hq hg hd
      exact .inr ⟨offT (d := 59) rfl rfl (by rw [hb.size, hsz]; omega) (hd 31 (by kernel_rfl) 59 rfl), by decide, rfl, Fr.refl _ _⟩
    refine ⟨?_, ?_⟩
    · intro a' w' k' hb hf hs hc hq hg hd
      exact .inr ⟨offT (d := 59) rfl rfl (by rw [hb.size, hsz]; omega) (hd 31 (by kernel_rfl) 59 rfl), by decide, rfl, Fr.refl _ _⟩
    refine ⟨?_, ?_⟩
    · intro a' w' k' hb hf hs hc hq hg hd
      exact .inl ⟨wantedN rfl, k_val (.bool false) (by decide) trivial (x_pickF rfl (hd 31 (by kernel_rfl) 59 rfl) rfl) rfl⟩
    refine ⟨?_, ?_⟩
    · intro a' w' k' hb hf hs hc hq hg hd
      exact .inl ⟨wantedN rfl, k_val (.bool false) (by decide) trivial (x_assign rfl (hd 37 (by kernel_rfl) 65 rfl)) rfl⟩
    exact trivial
  case done =>
    intro a' w' hb hf hs hall
    have hslots : Slots a' 0 [.pointer (some ⟨j, 0, none⟩), u1, u2, .pointer (some ⟨q, 0, none⟩), .bool false, u5, .bool false, u7, u8, u9, u10, u11, u12, u13, u14, u15, u16, u17, u18, u19, u20, u21, u22, u23, u24, u25, u26, u27, a'.tmps.getD 28 undef, a'.tmps.getD 29 undef, a'.tmps.getD 30 undef, a'.tmps.getD 31 undef, a'.tmps.getD 32 undef, a'.tmps.getD 33 undef, a'.tmps.getD 34 undef, a'.tmps.getD 35 undef, a'.tmps.getD 36 undef, a'.tmps.getD 37 undef, a'.tmps.getD 38 undef, a'.tmps.getD 39 undef, a'.tmps.getD 40 undef, a'.tmps.getD 41 undef, a'.tmps.getD 42 undef, a'.tmps.getD 43 undef, a'.tmps.getD 44 undef, a'.tmps.getD 45 undef, a'.tmps.getD 46 undef, a'.tmps.getD 47 undef, a'.tmps.getD 48 undef, a'.tmps.getD 49 undef, a'.tmps.getD 50 undef, a'.tmps.getD 51 undef, a'.tmps.getD 52 undef, a'.tmps.getD 53 undef, a'.tmps.getD 54 undef, a'.tmps.getD 55 undef, a'.tmps.getD 56 undef, a'.tmps.getD 57 undef, a'.tmps.getD 58 undef, a'.tmps.getD 59 undef, a'.tmps.getD 60 undef, a'.tmps.getD 61 undef, a'.tmps.getD 62 undef, a'.tmps.getD 63 undef, a'.tmps.getD 64 undef, a'.tmps.getD 65 undef] := ⟨(hb.old 0 (by decide +kernel)).trans (by rw [unhide HA0]; rfl), (hb.old 1 (by decide +kernel)).trans (by rw [unhide HA0]; rfl), (hb.old 2 (by decide +kernel)).trans (by rw [unhide HA0]; rfl), (hb.old 3 (by decide +kernel)).trans (by rw [unhide HA0]; rfl), hall 38 (by decide) 4 rfl, (hb.old 5 (by decide +kernel)).trans (by rw [unhide HA0]; rfl), (hb.old 6 (by decide +kernel)).trans (by rw [unhide HA0]; rfl), (hb.old 7 (by decide +kernel)).trans (by rw [unhide HA0]; rfl), (hb.old 8 (by decide +kernel)).trans (by rw [unhide HA0]; rfl), (hb.old 9 (by decide +kernel)).trans (by rw [unhide HA0]; rfl), (hb.old 10 (by decide +kernel)).trans (by rw [unhide HA0]; rfl), (hb.old 11 (by decide +kernel)).trans (by rw [unhide HA0]; rfl), (hb.old 12 (by decide +kernel)).trans (by rw [unhide HA0]; rfl), (hb.old 13 (by decide +kernel)).trans (by rw [unhide HA0]; rfl), (hb.old 14 (by decide +kernel)).trans (by rw [unhide HA0]; rfl), (hb.old 15 (by decide +kernel)).trans (by rw [unhide HA0]; rfl), (hb.old 16 (by decide +kernel)).trans (by rw [unhide HA0]; rfl), (hb.old 17 (by decide +kernel)).trans (by rw [unhide HA0]; rfl), (hb.old 18 (by decide +kernel)).trans (by rw [unhide HA0]; rfl), (hb.old 19 (by decide +kernel)).trans (by rw [unhide HA0]; rfl), (hb.old 20 (by decide +kernel)).trans (by rw [unhide HA0]; rfl), (hb.old 21 (by decide +kernel)).trans (by rw [unhide HA0]; rfl), (hb.old 22 (by decide +kernel)).trans (by rw [unhide HA0]; rfl), (hb.old 23 (by decide +kernel)).trans (by rw [unhide HA0]; rfl), (hb.old 24 (by decide +kernel)).trans (by rw [unhide HA0]; rfl), (hb.old 25 (by decide +kernel)).trans (by rw [unhide HA0]; rfl), (hb.old 26 (by decide +kernel)).trans (by rw [unhide HA0]; rfl), (hb.old 27 (by decide +kernel)).trans (by rw [unhide HA0]; rfl), rfl, rfl, rfl, rfl, rfl, rfl, rfl, rfl, rfl, rfl, rfl, rfl, rfl, rfl, rfl, rfl, rfl, rfl, rfl, rfl, rfl, rfl, rfl, rfl, rfl, rfl, rfl, rfl, rfl, rfl, rfl, rfl, rfl, rfl, rfl, rfl, rfl, rfl, trivial⟩
    have hfr := frame_eq (a := a') (by rw [hb.size, hsz]; rfl) (by rw [hb.defers, hdf]) hslots
    rw [hfr]
    exact unhide HQ (a'.tmps.getD 28 undef) (a'.tmps.getD 29 undef) (a'.tmps.getD 30 undef) (a'.tmps.getD 31 undef) (a'.tmps.getD 32 undef) (a'.tmps.getD 33 undef) (a'.tmps.getD 34 undef) (a'.tmps.getD 35 undef) (a'.tmps.getD 36 undef) (a'.tmps.getD 37 undef) (a'.tmps.getD 38 undef) (a'.tmps.getD 39 undef) (a'.tmps.getD 40 undef) (a'.tmps.getD 41 undef) (a'.tmps.getD 42 undef) (a'.tmps.getD 43 undef) (a'.tmps.getD 44 undef) (a'.tmps.getD 45 undef) (a'.tmps.getD 46 undef) (a'.tmps.getD 47 undef) (a'.tmps.getD 48 undef) (a'.tmps.getD 49 undef) (a'.tmps.getD 50 undef) (a'.tmps.getD 51 undef) (a'.tmps.getD 52 undef) (a'.tmps.getD 53 undef) (a'.tmps.getD 54 undef) (a'.tmps.getD 55 undef) (a'.tmps.getD 56 undef) (a'.tmps.getD 57 undef) (a'.tmps.getD 58 undef) (a'.tmps.getD 59 undef) (a'.tmps.getD 60 undef) (a'.tmps.getD 61 undef) (a'.tmps.getD 62 undef) (a'.tmps.getD 63 undef) (a'.tmps.getD 64 undef) (a'.tmps.getD 65 undef) w' hf
set_option maxHeartbeats 4000000 in
set_option maxRecDepth 100000 in
theorem gq3 {W : World} {j s n q : Nat} {mv u : Value} {J : Jn} {E : En} {u1 u2 u4 u5 u7 u8 u9 u10 u11 u12 u13 u14 u15 u16 u17 u18 u19 u20 u21 u22 u23 u24 u25 u26 u27 u28 u29 u30 u31 u32 u33 u34 u35 u36 u37 u38 u39 u40 u41 u42 u43 u44 u45 u46 u47 u48 u49 u50 u51 u52 u53 u54 u55 u56 u57 u58 u59 u60 u61 u62 u63 u64 u65 : Value} {Q : Exit → Act → World → Prop} (h : JAt W j s mv J) (ho : J.Ok n) (he : W.heap[q]? = some (.cells (E.c u) 25 (0, 0))) (a0 : E.p = J.nd) (a1 : E.l = J.lst + 1) (a3 : ¬ (E.b ≤ J.sup.b))
    (hQ : ∀ (y28 y29 y30 y31 y32 y33 y34 y35 y36 y37 y38 y39 y40 y41 y42 y43 y44 y45 y46 y47 y48 y49 y50 y51 y52 y53 y54 y55 y56 y57 y58 y59 y60 y61 y62 y63 y64 y65 : Value) (W' : World), Fr (fun _ => False) W W' → Q .normal ⟨#[.pointer (some ⟨j, 0, none⟩), u1, u2, .pointer (some ⟨q, 0, none⟩), .bool false, u5, .bool true, u7, u8, u9, u10, u11, u12, u13, u14, u15, u16, u17, u18, u19, u20, u21, u22, u23, u24, u25, u26, u27, y28, y29, y30, y31, y32, y33, y34, y35, y36, y37, y38, y39, y40, y41, y42, y43, y44, y45, y46, y47, y48, y49, y50, y51, y52, y53, y54, y55, y56, y57, y58, y59, y60, y61, y62, y63, y64, y65], []⟩ W') : (rgF Try.f95 3).wp Try.prog Q ⟨#[.pointer (some ⟨j, 0, none⟩), u1, u2, .pointer (some ⟨q, 0, none⟩), u4, u5, .bool true, u7, u8, u9, u10, u11, u12, u13, u14, u15, u16, u17, u18, u19, u20, u21, u22, u23, u24, u25, u26, u27, u28, u29, u30, u31, u32, u33, u34, u35, u36, u37, u38, u39, u40, u41, u42, u43, u44, u45, u46, u47, u48, u49, u50, u51, u52, u53, u54, u55, u56, u57, u58, u59, u60, u61, u62, u63, u64, u65], []⟩ W := by
  have HQ := hide hQ
  clear hQ
  have HH := hide h
  have HO := hide ho
  have HE := hide he
  have HC0 : Hid (((E.p : Int) == (J.nd : Int)) = true) := hide (by simp; omega)
  have HC1 : Hid (((E.l : Int) == (((J.lst + 1 : Nat) : Int))) = true) := hide (by simp; omega)
  have HC3 : Hid ((decide ((E.b : Int) ≤ (J.sup.b : Int))) = false) := hide (by simp; omega)
  have HA : Hid (IntKind.u64.wrap ((J.lst : Int) + 1) = ((J.lst + 1 : Nat) : Int)) := hide (by
    have h1 := ho.nd.2.1
    have h2 := ho.sup.2.2.2.1
    have := wrapU (J.lst + 1) (by unfold Jn.lst; omega)
    exact_mod_cast this)
  clear h ho he
  conv => arg 2; whnf
  refine wp_nameK ?_
  intro a0 hA
  have h0 : a0.tmps.getD 0 undef = .pointer (some ⟨j, 0, none⟩) := by rw [hA]; rfl
  have h3 : a0.tmps.getD 3 undef = .pointer (some ⟨q, 0, none⟩) := by rw [hA]; rfl
  have h6 : a0.tmps.getD 6 undef = .bool true := by rw [hA]; rfl
  have hsz : a0.tmps.size = 66 := by rw [hA]; rfl
  have hdf : a0.defers = [] := by rw [hA]
  have HA0 := hide hA
  clear hA
  refine wp_region_kinds3 (fun _ => False) (by kernel_rfl) (by kernel_rfl) (by decide +kernel) (by rw [hsz]; decide +kernel) [.eq (.pointer (some ⟨q, 2, none⟩)), .eq (.int .u64 (E.p : Int)), .eq (.pointer (some ⟨j, 0, none⟩)), .eq (.int .u64 (J.nd : Int)), .eq (.bool true), .eq (.bool true), .eq (.pointer (some ⟨q, 3, none⟩)), .eq (.int .u64 (E.l : Int)), .eq (.pointer (some ⟨j, 0, none⟩)), .eq (.int .u64 (J.lst : Int)), .eq (.int .u64 (((J.lst + 1 : Nat) : Int) : Int)), .eq (.bool true), .eq (.bool true), .eq (.bool true), .eq (.bool true), .eq (.bool true), .eq (.bool true), .eq (.pointer (some ⟨q, 0, none⟩)), .eq (.int .u64 (E.b : Int)), .eq (.pointer (some ⟨j, 0, none⟩)), .eq (.pointer (some ⟨j, 0, none⟩)), .eq (.pointer (some ⟨j, 3, none⟩)), .eq (.pointer (some ⟨j, 4, none⟩)), .eq (.int .u64 (J.sup.b : Int)), .eq (.bool false), .eq (.bool false), .eq (.bool false), .eq undef, .eq undef, .eq undef, .eq (.bool false), .eq (.bool false), .eq undef, .eq undef, .eq undef, .eq undef, .eq undef, .eq (.bool false), .eq (.bool false)] [] (by decide) (by decide) (chain_paths _ [] (by kernel_rfl)) (fun _ _ => True) trivial ?steps ?done
  case steps =>
    refine ⟨?_, ?_⟩
    · intro a' w' k' hb hf hs hc hq hg hd
      exact .inl ⟨wantedN rfl, k_val (.pointer (some ⟨q, 2, none⟩)) (by decide) trivial (x_field (of := 0) (off := 2) (fa25_2 q 0) rfl ((hb.old 3 (by decide +kernel)).trans h3)) rfl⟩
    refine ⟨?_, ?_⟩
    · intro a' w' k' hb hf hs hc hq hg hd
      exact .inl ⟨wantedN rfl, k_val (.int .u64 (E.p : Int)) (by decide) trivial (x_load1 ldU rfl (hd 0 (by kernel_rfl) 28 rfl) ((hf.cell (a := ⟨q, 2, none⟩) (lt_of_heap (unhide HE)) id).trans (by have := cell_of_heap (unhide HE) 2; simpa [En.c] using this))) rfl⟩
    refine ⟨?_, ?_⟩
    · intro a' w' k' hb hf hs hc hq hg hd
      exact .inl ⟨wantedN rfl, k_val (.pointer (some ⟨j, 0, none⟩)) (by decide) trivial (x_move rfl ((hb.old 0 (by decide +kernel)).trans h0)) rfl⟩
    refine ⟨?_, ?_⟩
    · intro a' w' k' hb hf hs hc hq hg hd
      exact .inl ⟨wantedN rfl, k_call 74 _ (by decide) (e_call1 rfl rfl (hd 2 (by kernel_rfl) 30 rfl) (fun _ _ => by simp [go_sem])) (((end_any w' j s mv J ((unhide HH).kept0 hf) (unhide HO).nd.2.1)).mono (by rintro e w9 ⟨rfl, f9⟩; exact ⟨_, rfl, rfl, f9, trivial⟩))⟩
    refine ⟨?_, ?_⟩
    · intro a' w' k' hb hf hs hc hq hg hd
      exact .inl ⟨wantedN rfl, k_val _ (by decide) trivial (x_eqI Try.underlying22 rfl (hd 1 (by kernel_rfl) 29 rfl) (hd 3 (by kernel_rfl) 31 rfl) (unhide HC0)) rfl⟩
    refine ⟨?_, ?_⟩
    · intro a' w' k' hb hf hs hc hq hg hd
      exact .inl ⟨wantedN rfl, k_val (.bool true) (by decide) trivial (x_move rfl (hd 4 (by kernel_rfl) 32 rfl)) rfl⟩
    refine ⟨?_, ?_⟩
    · intro a' w' k' hb hf hs hc hq hg hd
      exact .inl ⟨wantedT (d := 33) rfl rfl (by rw [hb.size, hsz]; omega) (hd 5 (by kernel_rfl) 33 rfl), k_val (.pointer (some ⟨q, 3, none⟩)) (by decide) trivial (x_field (of := 0) (off := 3) (fa25_3 q 0) rfl ((hb.old 3 (by decide +kernel)).trans h3)) rfl⟩
    refine ⟨?_, ?_⟩
    · intro a' w' k' hb hf hs hc hq hg hd
      exact .inl ⟨wantedT (d := 33) rfl rfl (by rw [hb.size, hsz]; omega) (hd 5 (by kernel_rfl) 33 rfl), k_val (.int .u64 (E.l : Int)) (by decide) trivial (x_load1 ldU rfl (hd 6 (by kernel_rfl) 34 rfl) ((hf.cell (a := ⟨q, 3, none⟩) (lt_of_heap (unhide HE)) id).trans (by have := cell_of_heap (unhide HE) 3; simpa [En.c] using this))) rfl⟩
    refine ⟨?_, ?_⟩
    · intro a' w' k' hb hf hs hc hq hg hd
      exact .inl ⟨wantedT (d := 33) rfl rfl (by rw [hb.size, hsz]; omega) (hd 5 (by kernel_rfl) 33 rfl), k_val (.pointer (some ⟨j, 0, none⟩)) (by decide) trivial (x_move rfl ((hb.old 0 (by decide +kernel)).trans h0)) rfl⟩
    refine ⟨?_, ?_⟩
    · intro a' w' k' hb hf hs hc hq hg hd
      exact .inl ⟨wantedT (d := 33) rfl rfl (by rw [hb.size, hsz]; omega) (hd 5 (by kernel_rfl) 33 rfl), k_call 46 _ (by decide) (e_call1 rfl rfl (hd 8 (by kernel_rfl) 36 rfl) (fun _ _ => by simp [go_sem])) (((last_any w' j s mv J _ ((unhide HH).kept0 hf) (unhide HO))).mono (by rintro e w9 ⟨rfl, f9⟩; exact ⟨_, rfl, rfl, f9, trivial⟩))⟩
    refine ⟨?_, ?_⟩
    · intro a' w' k' hb hf hs hc hq hg hd
      exact .inl ⟨wantedT (d := 33) rfl rfl (by rw [hb.size, hsz]; omega) (hd 5 (by kernel_rfl) 33 rfl), k_val _ (by decide) trivial (x_addU rfl (hd 9 (by kernel_rfl) 37 rfl) rfl (unhide HA)) rfl⟩
    refine ⟨?_, ?_⟩
    · intro a' w' k' hb hf hs hc hq hg hd
      exact .inl ⟨wantedT (d := 33) rfl rfl (by rw [hb.size, hsz]; omega) (hd 5 (by kernel_rfl) 33 rfl), k_val _ (by decide) trivial (x_eqI Try.underlying22 rfl (hd 7 (by kernel_rfl) 35 rfl) (hd 10 (by kernel_rfl) 38 rfl) (unhide HC1)) rfl⟩
    refine ⟨?_, ?_⟩
    · intro a' w' k' hb hf hs hc hq hg hd
      exact .inl ⟨wantedN rfl, k_val (.bool true) (by decide) trivial (x_pickT rfl (hd 5 (by kernel_rfl) 33 rfl) (hd 11 (by kernel_rfl) 39 rfl)) rfl⟩
    refine ⟨?_, ?_⟩
    · intro a' w' k' hb hf hs hc hq hg hd
      exact .inl ⟨wantedN rfl, k_val (.bool true) (by decide) trivial (x_move rfl (hd 12 (by kernel_rfl) 40 rfl)) rfl⟩
    refine ⟨?_, ?_⟩
    · intro a' w' k' hb hf hs hc hq hg hd
      exact .inl ⟨wantedT (d := 41) rfl rfl (by rw [hb.size, hsz]; omega) (hd 13 (by kernel_rfl) 41 rfl), k_val (.bool true) (by decide) trivial (x_move rfl ((hb.old 6 (by decide +kernel)).trans h6)) rfl⟩
    refine ⟨?_, ?_⟩
    · intro a' w' k' hb hf hs hc hq hg hd
      exact .inl ⟨wantedN rfl, k_val (.bool true) (by decide) trivial (x_pickT rfl (hd 13 (by kernel_rfl) 41 rfl) (hd 14 (by kernel_rfl) 42 rfl)) rfl⟩
    refine ⟨?_, ?_⟩
    · intro a' w' k' hb hf hs hc hq hg hd
      exact .inl ⟨wantedN rfl, k_val (.bool true) (by decide) trivial (x_move rfl (hd 15 (by kernel_rfl) 43 rfl)) rfl⟩
    refine ⟨?_, ?_⟩
    · intro a' w' k' hb hf hs hc hq hg hd
      exact .inl ⟨wantedT (d := 44) rfl rfl (by rw [hb.size, hsz]; omega) (hd 16 (by kernel_rfl) 44 rfl), k_val (.pointer (some ⟨q, 0, none⟩)) (by decide) trivial (x_field (of := 0) (off := 0) (fa25_0 q 0) rfl ((hb.old 3 (by decide +kernel)).trans h3)) rfl⟩
    refine ⟨?_, ?_⟩
    · intro a' w' k' hb hf hs hc hq hg hd
      exact .inl ⟨wantedT (d := 44) rfl rfl (by rw [hb.size, hsz]; omega) (hd 16 (by kernel_rfl) 44 rfl), k_val (.int .u64 (E.b : Int)) (by decide) trivial (x_load1 ldU rfl (hd 17 (by kernel_rfl) 45 rfl) ((hf.cell (a := ⟨q, 0, none⟩) (lt_of_heap (unhide HE)) id).trans (by have := cell_of_heap (unhide HE) 0; simpa [En.c] using this))) rfl⟩
    refine ⟨?_, ?_⟩
    · intro a' w' k' hb hf hs hc hq hg hd
      exact .inl ⟨wantedT (d := 44) rfl rfl (by rw [hb.size, hsz]; omega) (hd 16 (by kernel_rfl) 44 rfl), k_val (.pointer (some ⟨j, 0, none⟩)) (by decide) trivial (x_move rfl ((hb.old 0 (by decide +kernel)).trans h0)) rfl⟩
    refine ⟨?_, ?_⟩
    · intro a' w' k' hb hf hs hc hq hg hd
      exact .inl ⟨wantedT (d := 44) rfl rfl (by rw [hb.size, hsz]; omega) (hd 16 (by kernel_rfl) 44 rfl), k_val (.pointer (some ⟨j, 0, none⟩)) (by decide) trivial (x_nilCheck rfl (hd 19 (by kernel_rfl) 47 rfl)) rfl⟩
    refine ⟨?_, ?_⟩
    · intro a' w' k' hb hf hs hc hq hg hd
      exact .inl ⟨wantedT (d := 44) rfl rfl (by rw [hb.size, hsz]; omega) (hd 16 (by kernel_rfl) 44 rfl), k_val (.pointer (some ⟨j, 3, none⟩)) (by decide) trivial (x_field (of := 0) (off := 3) (fa115_3 j 0) rfl (hd 20 (by kernel_rfl) 48 rfl)) rfl⟩
    refine ⟨?_, ?_⟩
    · intro a' w' k' hb hf hs hc hq hg hd
      exact .inl ⟨wantedT (d := 44) rfl rfl (by rw [hb.size, hsz]; omega) (hd 16 (by kernel_rfl) 44 rfl), k_val (.pointer (some ⟨j, 4, none⟩)) (by decide) trivial (x_field (of := 3) (off := 1) (fa27_1 j 3) rfl (hd 21 (by kernel_rfl) 49 rfl)) rfl⟩
    refine ⟨?_, ?_⟩
    · intro a' w' k' hb hf hs hc hq hg hd
      exact .inl ⟨wantedT (d := 44) rfl rfl (by rw [hb.size, hsz]; omega) (hd 16 (by kernel_rfl) 44 rfl), k_val (.int .u64 (J.sup.b : Int)) (by decide) trivial (x_load1 ldU rfl (hd 22 (by kernel_rfl) 50 rfl) (by have := cell_of_heap ((unhide HH).kept0 hf).heap 4; simpa using this)) rfl⟩
    refine ⟨?_, ?_⟩
    · intro a' w' k' hb hf hs hc hq hg hd
      exact .inl ⟨wantedT (d := 44) rfl rfl (by rw [hb.size, hsz]; omega) (hd 16 (by kernel_rfl) 44 rfl), k_val _ (by decide) trivial (x_leU rfl (hd 18 (by kernel_rfl) 46 rfl) (hd 23 (by kernel_rfl) 51 rfl) (unhide HC3)) rfl⟩
    refine ⟨?_, ?_⟩
    · intro a' w' k' hb hf hs hc hq hg hd
      exact .inl ⟨wantedN rfl, k_val (.bool false) (by decide) trivial (x_pickT rfl (hd 16 (by kernel_rfl) 44 rfl) (hd 24 (by kernel_rfl) 52 rfl)) rfl⟩
    refine ⟨?_, ?_⟩
    · intro a' w' k' hb hf hs hc hq hg hd
      exact .inl ⟨wantedN rfl, k_val (.bool false) (by decide) trivial (x_move rfl (hd 25 (by kernel_rfl) 53 rfl)) rfl⟩
    refine ⟨?_, ?_⟩
    · intro a' w' k' hb hf hs hc hq hg hd
      exact .inr ⟨offT (d := 54) rfl rfl (by rw [hb.size, hsz]; omega) (hd 26 (by kernel_rfl) 54 rfl), by decide, rfl, Fr.refl _ _⟩
    refine ⟨?_, ?_⟩
    · intro a' w' k' hb hf hs hc hq hg hd
      exact .inr ⟨offT (d := 54) rfl rfl (by rw [hb.size, hsz]; omega) (hd 26 (by kernel_rfl) 54 rfl), by decide, rfl, Fr.refl _ _⟩
    refine ⟨?_, ?_⟩
    · intro a' w' k' hb hf hs hc hq hg hd
      exact .inr ⟨offT (d := 54) rfl rfl (by rw [hb.size, hsz]; omega) (hd 26 (by kernel_rfl) 54 rfl), by decide, rfl, Fr.refl _ _⟩
    refine ⟨?_, ?_⟩
    · intro a' w' k' hb hf hs hc hq hg hd
      exact .inl ⟨wantedN rfl, k_val (.bool false) (by decide) trivial (x_pickF rfl (hd 26 (by kernel_rfl) 54 rfl) rfl) rfl⟩
    refine ⟨?_, ?_⟩
    · intro a' w' k' hb hf hs hc hq hg hd
      exact .inl ⟨wantedN rfl, k_val (.bool false) (by decide) trivial (x_move rfl (hd 30 (by kernel_rfl) 58 rfl)) rfl⟩
    refine ⟨?_, ?_⟩
    · intro a' w' k' hb hf hs hc hq hg hd
      exact .inr ⟨offT (d := 59) rfl rfl (by rw [hb.size, hsz]; omega) (hd 31 (by kernel_rfl) 59 rfl), by decide, rfl, Fr.refl _ _⟩
    refine ⟨?_, ?_⟩
    · intro a' w' k' hb hf hs hc hq hg hd
      exact .inr ⟨offT (d := 59) rfl rfl (by rw [hb.size, hsz]; omega) (hd 31 (by kernel_rfl) 59 rfl), by decide, rfl, Fr.refl _ _⟩
    refine ⟨?_, ?_⟩
    · intro a' w' k' hb hf hs hc hq hg hd
      exact .inr ⟨offT (d := 59) rfl rfl (by rw [hb.size, hsz]; omega) (hd 31 (by kernel_rfl) 59 rfl), by decide, rfl, Fr.refl _ _⟩
    refine ⟨?_, ?_⟩
    · intro a' w' k' hb hf hs hc hq hg hd
      exact .inr ⟨offT (d := 59) rfl rfl (by rw [hb.size, hsz]; omega) (hd 31 (by kernel_rfl) 59 rfl), by decide, rfl, Fr.refl _ _⟩
    refine ⟨?_, ?_⟩
    · intro a' w' k' hb hf hs hc hq hg hd
      exact .inr ⟨offT (d := 59) rfl rfl (by rw [hb.size, hsz]; omega) (hd 31 (by kernel_rfl) 59 rfl), by decide, rfl, Fr.refl _ _⟩
    refine ⟨?_, ?_⟩
    · intro a' w' k' hb hf hs hc hq hg hd
      exact .inl ⟨wantedN rfl, k_val (.bool false) (by decide) trivial (x_pickF rfl (hd 31 (by kernel_rfl) 59 rfl) rfl) rfl⟩
    refine ⟨?_, ?_⟩
    · intro a' w' k' hb hf hs hc hq hg hd
      exact .inl ⟨wantedN rfl, k_val (.bool false) (by decide) trivial (x_assign rfl (hd 37 (by kernel_rfl) 65 rfl)) rfl⟩
    exact trivial
  case done =>
    intro a' w' hb hf hs hall
    have hslots : Slots a' 0 [.pointer (some ⟨j, 0, none⟩), u1, u2, .pointer (some ⟨q, 0, none⟩), .bool false, u5, .bool true, u7, u8, u9, u10, u11, u12, u13, u14, u15, u16, u17, u18, u19, u20, u21, u22, u23, u24, u25, u26, u27, a'.tmps.getD 28 undef, a'.tmps.getD 29 undef, a'.tmps.getD 30 undef, a'.tmps.getD 31 undef, a'.tmps.getD 32 undef, a'.tmps.getD 33 undef, a'.tmps.getD 34 undef, a'.tmps.getD 35 undef, a'.tmps.getD 36 undef, a'.tmps.getD 37 undef, a'.tmps.getD 38 undef, a'.tmps.getD 39 undef, a'.tmps.getD 40 undef, a'.tmps.getD 41 undef, a'.tmps.getD 42 undef, a'.tmps.getD 43 undef, a'.tmps.getD 44 undef, a'.tmps.getD 45 undef, a'.tmps.getD 46 undef, a'.tmps.getD 47 undef, a'.tmps.getD 48 undef, a'.tmps.getD 49 undef, a'.tmps.getD 50 undef, a'.tmps.getD 51 undef, a'.tmps.getD 52 undef, a'.tmps.getD 53 undef, a'.tmps.getD 54 undef, a'.tmps.getD 55 undef, a'.tmps.getD 56 undef, a'.tmps.getD 57 undef, a'.tmps.getD 58 undef, a'.tmps.getD 59 undef, a'.tmps.getD 60 undef, a'.tmps.getD 61 undef, a'.tmps.getD 62 undef, a'.tmps.getD 63 undef, a'.tmps.getD 64 undef, a'.tmps.getD 65 undef] := ⟨(hb.old 0 (by decide +kernel)).trans (by rw [unhide HA0]; rfl), (hb.old 1 (by decide +kernel)).trans (by rw [unhide HA0]; rfl), (hb.old 2 (by decide +kernel)).trans (by rw [unhide HA0]; rfl), (hb.old 3 (by decide +kernel)).trans (by rw [unhide HA0]; rfl), hall 38 (by decide) 4 rfl, (hb.old 5 (by decide +kernel)).trans (by rw [unhide HA0]; rfl), (hb.old 6 (by decide +kernel)).trans (by rw [unhide HA0]; rfl), (hb.old 7 (by decide +kernel)).trans (by rw [unhide HA0]; rfl), (hb.old 8 (by decide +kernel)).trans (by rw [unhide HA0]; rfl), (hb.old 9 (by decide +kernel)).trans (by rw [unhide HA0]; rfl), (hb.old 10 (by decide +kernel)).trans (by rw [unhide HA0]; rfl), (hb.old 11 (by decide +kernel)).trans (by rw [unhide HA0]; rfl), (hb.old 12 (by decide +kernel)).trans (by rw [unhide HA0]; rfl), (hb.old 13 (by decide +kernel)).trans (by rw [unhide HA0]; rfl), (hb.old 14 (by decide +kernel)).trans (by rw [unhide HA0]; rfl), (hb.old 15 (by decide +kernel)).trans (by rw [unhide HA0]; rfl), (hb.old 16 (by decide +kernel)).trans (by rw [unhide HA0]; rfl), (hb.old 17 (by decide +kernel)).trans (by rw [unhide HA0]; rfl), (hb.old 18 (by decide +kernel)).trans (by rw [unhide HA0]; rfl), (hb.old 19 (by decide +kernel)).trans (by rw [unhide HA0]; rfl), (hb.old 20 (by decide +kernel)).trans (by rw [unhide HA0]; rfl), (hb.old 21 (by decide +kernel)).trans (by rw [unhide HA0]; rfl), (hb.old 22 (by decide +kernel)).trans (by rw [unhide HA0]; rfl), (hb.old 23 (by decide +kernel)).trans (by rw [unhide HA0]; rfl), (hb.old 24 (by decide +kernel)).trans (by rw [unhide HA0]; rfl), (hb.old 25 (by decide +kernel)).trans (by rw [unhide HA0]; rfl), (hb.old 26 (by decide +kernel)).trans (by rw [unhide HA0]; rfl), (hb.old 27 (by decide +kernel)).trans (by rw [unhide HA0]; rfl), rfl, rfl, rfl, rfl, rfl, rfl, rfl, rfl, rfl, rfl, rfl, rfl, rfl, rfl, rfl, rfl, rfl, rfl, rfl, rfl, rfl, rfl, rfl, rfl, rfl, rfl, rfl, rfl, rfl, rfl, rfl, rfl, rfl, rfl, rfl, rfl, rfl, rfl, trivial⟩
    have hfr := frame_eq (a := a') (by rw [hb.size, hsz]; rfl) (by rw [hb.defers, hdf]) hslots
    rw [hfr]
    exact unhide HQ (a'.tmps.getD 28 undef) (a'.tmps.getD 29 undef) (a'.tmps.getD 30 undef) (a'.tmps.getD 31 undef) (a'.tmps.getD 32 undef) (a'.tmps.getD 33 undef) (a'.tmps.getD 34 undef) (a'.tmps.getD 35 undef) (a'.tmps.getD 36 undef) (a'.tmps.getD 37 undef) (a'.tmps.getD 38 undef) (a'.tmps.getD 39 undef) (a'.tmps.getD 40 undef) (a'.tmps.getD 41 undef) (a'.tmps.getD 42 undef) (a'.tmps.getD 43 undef) (a'.tmps.getD 44 undef) (a'.tmps.getD 45 undef) (a'.tmps.getD 46 undef) (a'.tmps.getD 47 undef) (a'.tmps.getD 48 undef) (a'.tmps.getD 49 undef) (a'.tmps.getD 50 undef) (a'.tmps.getD 51 undef) (a'.tmps.getD 52 undef) (a'.tmps.getD 53 undef) (a'.tmps.getD 54 undef) (a'.tmps.getD 55 undef) (a'.tmps.getD 56 undef) (a'.tmps.getD 57 undef) (a'.tmps.getD 58 undef) (a'.tmps.getD 59 undef) (a'.tmps.getD 60 undef) (a'.tmps.getD 61 undef) (a'.tmps.getD 62 undef) (a'.tmps.getD 63 undef) (a'.tmps.getD 64 undef) (a'.tmps.getD 65 undef) w' hf
set_option maxHeartbeats 4000000 in
set_option maxRecDepth 100000 in
theorem gq4 {W : World} {j s n q : Nat} {mv u : Value} {J : Jn} {E : En} {u1 u2 u4 u5 u7 u8 u9 u10 u11 u12 u13 u14 u15 u16 u17 u18 u19 u20 u21 u22 u23 u24 u25 u26 u27 u28 u29 u30 u31 u32 u33 u34 u35 u36 u37 u38 u39 u40 u41 u42 u43 u44 u45 u46 u47 u48 u49 u50 u51 u52 u53 u54 u55 u56 u57 u58 u59 u60 u61 u62 u63 u64 u65 : Value} {Q : Exit → Act → World → Prop} (h : JAt W j s mv J) (ho : J.Ok n) (he : W.heap[q]? = some (.cells (E.c u) 25 (0, 0))) (a0 : E.p = J.nd) (a1 : E.l = J.lst + 1) (a3 : E.b ≤ J.sup.b) (a4 : ¬ (E.pt = 0))
    (hQ : ∀ (y28 y29 y30 y31 y32 y33 y34 y35 y36 y37 y38 y39 y40 y41 y42 y43 y44 y45 y46 y47 y48 y49 y50 y51 y52 y53 y54 y55 y56 y57 y58 y59 y60 y61 y62 y63 y64 y65 : Value) (W' : World), Fr (fun _ => False) W W' → Q .normal ⟨#[.pointer (some ⟨j, 0, none⟩), u1, u2, .pointer (some ⟨q, 0, none⟩), .bool false, u5, .bool true, u7, u8, u9, u10, u11, u12, u13, u14, u15, u16, u17, u18, u19, u20, u21, u22, u23, u24, u25, u26, u27, y28, y29, y30, y31, y32, y33, y34, y35, y36, y37, y38, y39, y40, y41, y42, y43, y44, y45, y46, y47, y48, y49, y50, y51, y52, y53, y54, y55, y56, y57, y58, y59, y60, y61, y62, y63, y64, y65], []⟩ W') : (rgF Try.f95 3).wp Try.prog Q ⟨#[.pointer (some ⟨j, 0, none⟩), u1, u2, .pointer (some ⟨q, 0, none⟩), u4, u5, .bool true, u7, u8, u9, u10, u11, u12, u13, u14, u15, u16, u17, u18, u19, u20, u21, u22, u23, u24, u25, u26, u27, u28, u29, u30, u31, u32, u33, u34, u35, u36, u37, u38, u39, u40, u41, u42, u43, u44, u45, u46, u47, u48, u49, u50, u51, u52, u53, u54, u55, u56, u57, u58, u59, u60, u61, u62, u63, u64, u65], []⟩ W := by
  have HQ := hide hQ
  clear hQ
  have HH := hide h
  have HO := hide ho
  have HE := hide he
  have HC0 : Hid (((E.p : Int) == (J.nd : Int)) = true) := hide (by simp; omega)
  have HC1 : Hid (((E.l : Int) == (((J.lst + 1 : Nat) : Int))) = true) := hide (by simp; omega)
  have HC3 : Hid ((decide ((E.b : Int) ≤ (J.sup.b : Int))) = true) := hide (by simp; omega)
  have HC4 : Hid (((E.pt : Int) == (0 : Int)) = false) := hide (by simp; omega)
  have HA : Hid (IntKind.u64.wrap ((J.lst : Int) + 1) = ((J.lst + 1 : Nat) : Int)) := hide (by
    have h1 := ho.nd.2.1
    have h2 := ho.sup.2.2.2.1
    have := wrapU (J.lst + 1) (by unfold Jn.lst; omega)
    exact_mod_cast this)
  clear h ho he
  conv => arg 2; whnf
  refine wp_nameK ?_
  intro a0 hA
  have h0 : a0.tmps.getD 0 undef = .pointer (some ⟨j, 0, none⟩) := by rw [hA]; rfl
  have h3 : a0.tmps.getD 3 undef = .pointer (some ⟨q, 0, none⟩) := by rw [hA]; rfl
  have h6 : a0.tmps.getD 6 undef = .bool true := by rw [hA]; rfl
  have hsz : a0.tmps.size = 66 := by rw [hA]; rfl
  have hdf : a0.defers = [] := by rw [hA]
  have HA0 := hide hA
  clear hA
  refine wp_region_kinds3 (fun _ => False) (by kernel_rfl) (by kernel_rfl) (by decide +kernel) (by rw [hsz]; decide +kernel) [.eq (.pointer (some ⟨q, 2, none⟩)), .eq (.int .u64 (E.p : Int)), .eq (.pointer (some ⟨j, 0, none⟩)), .eq (.int .u64 (J.nd : Int)), .eq (.bool true), .eq (.bool true), .eq (.pointer (some ⟨q, 3, none⟩)), .eq (.int .u64 (E.l : Int)), .eq (.pointer (some ⟨j, 0, none⟩)), .eq (.int .u64 (J.lst : Int)), .eq (.int .u64 (((J.lst + 1 : Nat) : Int) : Int)), .eq (.bool true), .eq (.bool true), .eq (.bool true), .eq (.bool true), .eq (.bool true), .eq (.bool true), .eq (.pointer (some ⟨q, 0, none⟩)), .eq (.int .u64 (E.b : Int)), .eq (.pointer (some ⟨j, 0, none⟩)), .eq (.pointer (some ⟨j, 0, none⟩)), .eq (.pointer (some ⟨j, 3, none⟩)), .eq (.pointer (some ⟨j, 4, none⟩)), .eq (.int .u64 (J.sup.b : Int)), .eq (.bool true), .eq (.bool true), .eq (.bool true), .eq (.pointer (some ⟨q, 4, none⟩)), .eq (.int .i64 (E.pt : Int)), .eq (.bool false), .eq (.bool false), .eq (.bool false), .eq undef, .eq undef, .eq undef, .eq undef, .eq undef, .eq (.bool false), .eq (.bool false)] [] (by decide) (by decide) (chain_paths _ [] (by kernel_rfl)) (fun _ _ => True) trivial ?steps ?done
  case steps =>
    refine ⟨?_, ?_⟩
    · intro a' w' k' hb hf hs hc hq hg hd
      exact .inl ⟨wantedN rfl, k_val (.pointer (some ⟨q, 2, none⟩)) (by decide) trivial (x_field (of := 0) (off := 2) (fa25_2 q 0) rfl ((hb.old 3 (by decide +kernel)).trans h3)) rfl⟩
    refine ⟨?_, ?_⟩
    · intro a' w' k' hb hf hs hc hq hg hd
      exact .inl ⟨wantedN rfl, k_val (.int .u64 (E.p : Int)) (by decide) trivial (x_load1 ldU rfl (hd 0 (by kernel_rfl) 28 rfl) ((hf.cell (a := ⟨q, 2, none⟩) (lt_of_heap (unhide HE)) id).trans (by have := cell_of_heap (unhide HE) 2; simpa [En.c] using this))) rfl⟩
    refine ⟨?_, ?_⟩
    · intro a' w' k' hb hf hs hc hq hg hd
      exact .inl ⟨wantedN rfl, k_val (.pointer (some ⟨j, 0, none⟩)) (by decide) trivial (x_move rfl ((hb.old 0 (by decide +kernel)).trans h0)) rfl⟩
    refine ⟨?_, ?_⟩
    · intro a' w' k' hb hf hs hc hq hg hd
      exact .inl ⟨wantedN rfl, k_call 74 _ (by decide) (e_call1 rfl rfl (hd 2 (by kernel_rfl) 30 rfl) (fun _ _ => by simp [go_sem])) (((end_any w' j s mv J ((unhide HH).kept0 hf) (unhide HO).nd.2.1)).mono (by rintro e w9 ⟨rfl, f9⟩; exact ⟨_, rfl, rfl, f9, trivial⟩))⟩
    refine ⟨?_, ?_⟩
    · intro a' w' k' hb hf hs hc hq hg hd
      exact .inl ⟨wantedN rfl, k_val _ (by decide) trivial (x_eqI Try.underlying22 rfl (hd 1 (by kernel_rfl) 29 rfl) (hd 3 (by kernel_rfl) 31 rfl) (unhide HC0)) rfl⟩
    refine ⟨?_, ?_⟩
    · intro a' w' k' hb hf hs hc hq hg hd
      exact .inl ⟨wantedN rfl, k_val (.bool true) (by decide) trivial (x_move rfl (hd 4 (by kernel_rfl) 32 rfl)) rfl⟩
    refine ⟨?_, ?_⟩
    · intro a' w' k' hb hf hs hc hq hg hd
      exact .inl ⟨wantedT (d := 33) rfl rfl (by rw [hb.size, hsz]; omega) (hd 5 (by kernel_rfl) 33 rfl), k_val (.pointer (some ⟨q, 3, none⟩)) (by decide) trivial (x_field (of := 0) (off := 3) (fa25_3 q 0) rfl ((hb.old 3 (by decide +kernel)).trans h3)) rfl⟩
    refine ⟨?_, ?_⟩
    · intro a' w' k' hb hf hs hc hq hg hd
      exact .inl ⟨wantedT (d := 33) rfl rfl (by rw [hb.size, hsz]; omega) (hd 5 (by kernel_rfl) 33 rfl), k_val (.int .u64 (E.l : Int)) (by decide) trivial (x_load1 ldU rfl (hd 6 (by kernel_rfl) 34 rfl) ((hf.cell (a := ⟨q, 3, none⟩) (lt_of_heap (unhide HE)) id).trans (by have := cell_of_heap (unhide HE) 3; simpa [En.c] using this))) rfl⟩
    refine ⟨?_, ?_⟩
    · intro a' w' k' hb hf hs hc hq hg hd
      exact .inl ⟨wantedT (d := 33) rfl rfl (by rw [hb.size, hsz]; omega) (hd 5 (by kernel_rfl) 33 rfl), k_val (.pointer (some ⟨j, 0, none⟩)) (by decide) trivial (x_move rfl ((hb.old 0 (by decide +kernel)).trans h0)) rfl⟩
    refine ⟨?_, ?_⟩
    · intro a' w' k' hb hf hs hc hq hg hd
      exact .inl ⟨wantedT (d := 33) rfl rfl (by rw [hb.size, hsz]; omega) (hd 5 (by kernel_rfl) 33 rfl), k_call 46 _ (by decide) (e_call1 rfl rfl (hd 8 (by kernel_rfl) 36 rfl) (fun _ _ => by simp [go_sem])) (((last_any w' j s mv J _ ((unhide HH).kept0 hf) (unhide HO))).mono (by rintro e w9 ⟨rfl, f9⟩; exact ⟨_, rfl, rfl, f9, trivial⟩))⟩
    refine ⟨?_, ?_⟩
    · intro a' w' k' hb hf hs hc hq hg hd
      exact .inl ⟨wantedT (d := 33) rfl rfl (by rw [hb.size, hsz]; omega) (hd 5 (by kernel_rfl) 33 rfl), k_val _ (by decide) trivial (x_addU rfl (hd 9 (by kernel_rfl) 37 rfl) rfl (unhide HA)) rfl⟩
    refine ⟨?_, ?_⟩
    · intro a' w' k' hb hf hs hc hq hg hd
      exact .inl ⟨wantedT (d := 33) rfl rfl (by rw [hb.size, hsz]; omega) (hd 5 (by kernel_rfl) 33 rfl), k_val _ (by decide) trivial (x_eqI Try.underlying22 rfl (hd 7 (by kernel_rfl) 35 rfl) (hd 10 (by kernel_rfl) 38 rfl) (unhide HC1)) rfl⟩
    refine ⟨?_, ?_⟩
    · intro a' w' k' hb hf hs hc hq hg hd
      exact .inl ⟨wantedN rfl, k_val (.bool true) (by decide) trivial (x_pickT rfl (hd 5 (by kernel_rfl) 33 rfl) (hd 11 (by kernel_rfl) 39 rfl)) rfl⟩
    refine ⟨?_, ?_⟩
    · intro a' w' k' hb hf hs hc hq hg hd
      exact .inl ⟨wantedN rfl, k_val (.bool true) (by decide) trivial (x_move rfl (hd 12 (by kernel_rfl) 40 rfl)) rfl⟩
    refine ⟨?_, ?_⟩
    · intro a' w' k' hb hf hs hc hq hg hd
      exact .inl ⟨wantedT (d := 41) rfl rfl (by rw [hb.size, hsz]; omega) (hd 13 (by kernel_rfl) 41 rfl), k_val (.bool true) (by decide) trivial (x_move rfl ((hb.old 6 (by decide +kernel)).trans h6)) rfl⟩
    refine ⟨?_, ?_⟩
    · intro a' w' k' hb hf hs hc hq hg hd
      exact .inl ⟨wantedN rfl, k_val (.bool true) (by decide) trivial (x_pickT rfl (hd 13 (by kernel_rfl) 41 rfl) (hd 14 (by kernel_rfl) 42 rfl)) rfl⟩
    refine ⟨?_, ?_⟩
    · intro a' w' k' hb hf hs hc hq hg hd
      exact .inl ⟨wantedN rfl, k_val (.bool true) (by decide) trivial (x_move rfl (hd 15 (by kernel_rfl) 43 rfl)) rfl⟩
    refine ⟨?_, ?_⟩
    · intro a' w' k' hb hf hs hc hq hg hd
      exact .inl ⟨wantedT (d := 44) rfl rfl (by rw [hb.size, hsz]; omega) (hd 16 (by kernel_rfl) 44 rfl), k_val (.pointer (some ⟨q, 0, none⟩)) (by decide) trivial (x_field (of := 0) (off := 0) (fa25_0 q 0) rfl ((hb.old 3 (by decide +kernel)).trans h3)) rfl⟩
    refine ⟨?_, ?_⟩
    · intro a' w' k' hb hf hs hc hq hg hd
      exact .inl ⟨wantedT (d := 44) rfl rfl (by rw [hb.size, hsz]; omega) (hd 16 (by kernel_rfl) 44 rfl), k_val (.int .u64 (E.b : Int)) (by decide) trivial (x_load1 ldU rfl (hd 17 (by kernel_rfl) 45 rfl) ((hf.cell (a := ⟨q, 0, none⟩) (lt_of_heap (unhide HE)) id).trans (by have := cell_of_heap (unhide HE) 0; simpa [En.c] using this))) rfl⟩
    refine ⟨?_, ?_⟩
    · intro a' w' k' hb hf hs hc hq hg hd
      exact .inl ⟨wantedT (d := 44) rfl rfl (by rw [hb.size, hsz]; omega) (hd 16 (by kernel_rfl) 44 rfl), k_val (.pointer (some ⟨j, 0, none⟩)) (by decide) trivial (x_move rfl ((hb.old 0 (by decide +kernel)).trans h0)) rfl⟩
    refine ⟨?_, ?_⟩
    · intro a' w' k' hb hf hs hc hq hg hd
      exact .inl ⟨wantedT (d := 44) rfl rfl (by rw [hb.size, hsz]; omega) (hd 16 (by kernel_rfl) 44 rfl), k_val (.pointer (some ⟨j, 0, none⟩)) (by decide) trivial (x_nilCheck rfl (hd 19 (by kernel_rfl) 47 rfl)) rfl⟩
    refine ⟨?_, ?_⟩
    · intro a' w' k' hb hf hs hc hq hg hd
      exact .inl ⟨wantedT (d := 44) rfl rfl (by rw [hb.size, hsz]; omega) (hd 16 (by kernel_rfl) 44 rfl), k_val (.pointer (some ⟨j, 3, none⟩)) (by decide) trivial (x_field (of := 0) (off := 3) (fa115_3 j 0) rfl (hd 20 (by kernel_rfl) 48 rfl)) rfl⟩
    refine ⟨?_, ?_⟩
    · intro a' w' k' hb hf hs hc hq hg hd
      exact .inl ⟨wantedT (d := 44) rfl rfl (by rw [hb.size, hsz]; omega) (hd 16 (by kernel_rfl) 44 rfl), k_val (.pointer (some ⟨j, 4, none⟩)) (by decide) trivial (x_field (of := 3) (off := 1) (fa27_1 j 3) rfl (hd 21 (by kernel_rfl) 49 rfl)) rfl⟩
    refine ⟨?_, ?_⟩
    · intro a' w' k' hb hf hs hc hq hg hd
      exact .inl ⟨wantedT (d := 44) rfl rfl (by rw [hb.size, hsz]; omega) (hd 16 (by kernel_rfl) 44 rfl), k_val (.int .u64 (J.sup.b : Int)) (by decide) trivial (x_load1 ldU rfl (hd 22 (by kernel_rfl) 50 rfl) (by have := cell_of_heap ((unhide HH).kept0 hf).heap 4; simpa using this)) rfl⟩
    refine ⟨?_, ?_⟩
    · intro a' w' k' hb hf hs hc hq hg hd
      exact .inl ⟨wantedT (d := 44) rfl rfl (by rw [hb.size, hsz]; omega) (hd 16 (by kernel_rfl) 44 rfl), k_val _ (by decide) trivial (x_leU rfl (hd 18 (by kernel_rfl) 46 rfl) (hd 23 (by kernel_rfl) 51 rfl) (unhide HC3)) rfl⟩
    refine ⟨?_, ?_⟩
    · intro a' w' k' hb hf hs hc hq hg hd
      exact .inl ⟨wantedN rfl, k_val (.bool true) (by decide) trivial (x_pickT rfl (hd 16 (by kernel_rfl) 44 rfl) (hd 24 (by kernel_rfl) 52 rfl)) rfl⟩
    refine ⟨?_, ?_⟩
    · intro a' w' k' hb hf hs hc hq hg hd
      exact .inl ⟨wantedN rfl, k_val (.bool true) (by decide) trivial (x_move rfl (hd 25 (by kernel_rfl) 53 rfl)) rfl⟩
    refine ⟨?_, ?_⟩
    · intro a' w' k' hb hf hs hc hq hg hd
      exact .inl ⟨wantedT (d := 54) rfl rfl (by rw [hb.size, hsz]; omega) (hd 26 (by kernel_rfl) 54 rfl), k_val (.pointer (some ⟨q, 4, none⟩)) (by decide) trivial (x_field (of := 0) (off := 4) (fa25_4 q 0) rfl ((hb.old 3 (by decide +kernel)).trans h3)) rfl⟩
    refine ⟨?_, ?_⟩
    · intro a' w' k' hb hf hs hc hq hg hd
      exact .inl ⟨wantedT (d := 54) rfl rfl (by rw [hb.size, hsz]; omega) (hd 26 (by kernel_rfl) 54 rfl), k_val (.int .i64 (E.pt : Int)) (by decide) trivial (x_load1 ld3 rfl (hd 27 (by kernel_rfl) 55 rfl) ((hf.cell (a := ⟨q, 4, none⟩) (lt_of_heap (unhide HE)) id).trans (by have := cell_of_heap (unhide HE) 4; simpa [En.c] using this))) rfl⟩
    refine ⟨?_, ?_⟩
    · intro a' w' k' hb hf hs hc hq hg hd
      exact .inl ⟨wantedT (d := 54) rfl rfl (by rw [hb.size, hsz]; omega) (hd 26 (by kernel_rfl) 54 rfl), k_val _ (by decide) trivial (x_eqI Try.underlying3 rfl (hd 28 (by kernel_rfl) 56 rfl) rfl (unhide HC4)) rfl⟩
    refine ⟨?_, ?_⟩
    · intro a' w' k' hb hf hs hc hq hg hd
      exact .inl ⟨wantedN rfl, k_val (.bool false) (by decide) trivial (x_pickT rfl (hd 26 (by kernel_rfl) 54 rfl) (hd 29 (by kernel_rfl) 57 rfl)) rfl⟩
    refine ⟨?_, ?_⟩
    · intro a' w' k' hb hf hs hc hq hg hd
      exact .inl ⟨wantedN rfl, k_val (.bool false) (by decide) trivial (x_move rfl (hd 30 (by kernel_rfl) 58 rfl)) rfl⟩
    refine ⟨?_, ?_⟩
    · intro a' w' k' hb hf hs hc hq hg hd
      exact .inr ⟨offT (d := 59) rfl rfl (by rw [hb.size, hsz]; omega) (hd 31 (by kernel_rfl) 59 rfl), by decide, rfl, Fr.refl _ _⟩
    refine ⟨?_, ?_⟩
    · intro a' w' k' hb hf hs hc hq hg hd
      exact .inr ⟨offT (d := 59) rfl rfl (by rw [hb.size, hsz]; omega) (hd 31 (by kernel_rfl) 59 rfl), by decide, rfl, Fr.refl _ _⟩
    refine ⟨?_, ?_⟩
    · intro a' w' k' hb hf hs hc hq hg hd
      exact .inr ⟨offT (d := 59) rfl rfl (by rw [hb.size, hsz]; omega) (hd 31 (by kernel_rfl) 59 rfl), by decide, rfl, Fr.refl _ _⟩
    refine ⟨?_, ?_⟩
    · intro a' w' k' hb hf hs hc hq hg hd
      exact .inr ⟨offT (d := 59) rfl rfl (by rw [hb.size, hsz]; omega) (hd 31 (by kernel_rfl) 59 rfl), by decide, rfl, Fr.refl _ _⟩
    refine ⟨?_, ?_⟩
    · intro a' w' k' hb hf hs hc hq hg hd
      exact .inr ⟨offT (d := 59) rfl rfl (by rw [hb.size, hsz]; omega) (hd 31 (by kernel_rfl) 59 rfl), by decide, rfl, Fr.refl _ _⟩
    refine ⟨?_, ?_⟩
    · intro a' w' k' hb hf hs hc hq hg hd
      exact .inl ⟨wantedN rfl, k_val (.bool false) (by decide) trivial (x_pickF rfl (hd 31 (by kernel_rfl) 59 rfl) rfl) rfl⟩
    refine ⟨?_, ?_⟩
    · intro a' w' k' hb hf hs hc hq hg hd
      exact .inl ⟨wantedN rfl, k_val (.bool false) (by decide) trivial (x_assign rfl (hd 37 (by kernel_rfl) 65 rfl)) rfl⟩
    exact trivial
  case done =>
    intro a' w' hb hf hs hall
    have hslots : Slots a' 0 [.pointer (some ⟨j, 0, none⟩), u1, u2, .pointer (some ⟨q, 0, none⟩), .bool false, u5, .bool true, u7, u8, u9, u10, u11, u12, u13, u14, u15, u16, u17, u18, u19, u20, u21, u22, u23, u24, u25, u26, u27, a'.tmps.getD 28 undef, a'.tmps.getD 29 undef, a'.tmps.getD 30 undef, a'.tmps.getD 31 undef, a'.tmps.getD 32 undef, a'.tmps.getD 33 undef, a'.tmps.getD 34 undef, a'.tmps.getD 35 undef, a'.tmps.getD 36 undef, a'.tmps.getD 37 undef, a'.tmps.getD 38 undef, a'.tmps.getD 39 undef, a'.tmps.getD 40 undef, a'.tmps.getD 41 undef, a'.tmps.getD 42 undef, a'.tmps.getD 43 undef, a'.tmps.getD 44 undef, a'.tmps.getD 45 undef, a'.tmps.getD 46 undef, a'.tmps.getD 47 undef, a'.tmps.getD 48 undef, a'.tmps.getD 49 undef, a'.tmps.getD 50 undef, a'.tmps.getD 51 undef, a'.tmps.getD 52 undef, a'.tmps.getD 53 undef, a'.tmps.getD 54 undef, a'.tmps.getD 55 undef, a'.tmps.getD 56 undef, a'.tmps.getD 57 undef, a'.tmps.getD 58 undef, a'.tmps.getD 59 undef, a'.tmps.getD 60 undef, a'.tmps.getD 61 undef, a'.tmps.getD 62 undef, a'.tmps.getD 63 undef, a'.tmps.getD 64 undef, a'.tmps.getD 65 undef] := ⟨(hb.old 0 (by decide +kernel)).trans (by rw [unhide HA0]; rfl), (hb.old 1 (by decide +kernel)).trans (by rw [unhide HA0]; rfl), (hb.old 2 (by decide +kernel)).trans (by rw [unhide HA0]; rfl), (hb.old 3 (by decide +kernel)).trans (by rw [unhide HA0]; rfl), hall 38 (by decide) 4 rfl, (hb.old 5 (by decide +kernel)).trans (by rw [unhide HA0]; rfl), (hb.old 6 (by decide +kernel)).trans (by rw [unhide HA0]; rfl), (hb.old 7 (by decide +kernel)).trans (by rw [unhide HA0]; rfl), (hb.old 8 (by decide +kernel)).trans (by rw [unhide HA0]; rfl), (hb.old 9 (by decide +kernel)).trans (by rw [unhide HA0]; rfl), (hb.old 10 (by decide +kernel)).trans (by rw [unhide HA0]; rfl), (hb.old 11 (by decide +kernel)).trans (by rw [unhide HA0]; rfl), (hb.old 12 (by decide +kernel)).trans (by rw [unhide HA0]; rfl), (hb.old 13 (by decide +kernel)).trans (by rw [unhide HA0]; rfl), (hb.old 14 (by decide +kernel)).trans (by rw [unhide HA0]; rfl), (hb.old 15 (by decide +kernel)).trans (by rw [unhide HA0]; rfl), (hb.old 16 (by decide +kernel)).trans (by rw [unhide HA0]; rfl), (hb.old 17 (by decide +kernel)).trans (by rw [unhide HA0]; rfl), (hb.old 18 (by decide +kernel)).trans (by rw [unhide HA0]; rfl), (hb.old 19 (by decide +kernel)).trans (by rw [unhide HA0]; rfl), (hb.old 20 (by decide +kernel)).trans (by rw [unhide HA0]; rfl), (hb.old 21 (by decide +kernel)).trans (by rw [unhide HA0]; rfl), (hb.old 22 (by decide +kernel)).trans (by rw [unhide HA0]; rfl), (hb.old 23 (by decide +kernel)).trans (by rw [unhide HA0]; rfl), (hb.old 24 (by decide +kernel)).trans (by rw [unhide HA0]; rfl), (hb.old 25 (by decide +kernel)).trans (by rw [unhide HA0]; rfl), (hb.old 26 (by decide +kernel)).trans (by rw [unhide HA0]; rfl), (hb.old 27 (by decide +kernel)).trans (by rw [unhide HA0]; rfl), rfl, rfl, rfl, rfl, rfl, rfl, rfl, rfl, rfl, rfl, rfl, rfl, rfl, rfl, rfl, rfl, rfl, rfl, rfl, rfl, rfl, rfl, rfl, rfl, rfl, rfl, rfl, rfl, rfl, rfl, rfl, rfl, rfl, rfl, rfl, rfl, rfl, rfl, trivial⟩
    have hfr := frame_eq (a := a') (by rw [hb.size, hsz]; rfl) (by rw [hb.defers, hdf]) hslots
    rw [hfr]
    exact unhide HQ (a'.tmps.getD 28 undef) (a'.tmps.getD 29 undef) (a'.tmps.getD 30 undef) (a'.tmps.getD 31 undef) (a'.tmps.getD 32 undef) (a'.tmps.getD 33 undef) (a'.tmps.getD 34 undef) (a'.tmps.getD 35 undef) (a'.tmps.getD 36 undef) (a'.tmps.getD 37 undef) (a'.tmps.getD 38 undef) (a'.tmps.getD 39 undef) (a'.tmps.getD 40 undef) (a'.tmps.getD 41 undef) (a'.tmps.getD 42 undef) (a'.tmps.getD 43 undef) (a'.tmps.getD 44 undef) (a'.tmps.getD 45 undef) (a'.tmps.getD 46 undef) (a'.tmps.getD 47 undef) (a'.tmps.getD 48 undef) (a'.tmps.getD 49 undef) (a'.tmps.getD 50 undef) (a'.tmps.getD 51 undef) (a'.tmps.getD 52 undef) (a'.tmps.getD 53 undef) (a'.tmps.getD 54 undef) (a'.tmps.getD 55 undef) (a'.tmps.getD 56 undef) (a'.tmps.getD 57 undef) (a'.tmps.getD 58 undef) (a'.tmps.getD 59 undef) (a'.tmps.getD 60 undef) (a'.tmps.getD 61 undef) (a'.tmps.getD 62 undef) (a'.tmps.getD 63 undef) (a'.tmps.getD 64 undef) (a'.tmps.getD 65 undef) w' hf
set_option maxHeartbeats 4000000 in
set_option maxRecDepth 100000 in
theorem gq5 {W : World} {j s n q : Nat} {mv u : Value} {J : Jn} {E : En} {u1 u2 u4 u5 u7 u8 u9 u10 u11 u12 u13 u14 u15 u16 u17 u18 u19 u20 u21 u22 u23 u24 u25 u26 u27 u28 u29 u30 u31 u32 u33 u34 u35 u36 u37 u38 u39 u40 u41 u42 u43 u44 u45 u46 u47 u48 u49 u50 u51 u52 u53 u54 u55 u56 u57 u58 u59 u60 u61 u62 u63 u64 u65 : Value} {Q : Exit → Act → World → Prop} (h : JAt W j s mv J) (ho : J.Ok n) (he : W.heap[q]? = some (.cells (E.c u) 25 (0, 0))) (a0 : E.p = J.nd) (a1 : E.l = J.lst + 1) (a3 : E.b ≤ J.sup.b) (a4 : E.pt = 0) (a5 : ¬ (E.ps ≤ J.room))
    (hQ : ∀ (y28 y29 y30 y31 y32 y33 y34 y35 y36 y37 y38 y39 y40 y41 y42 y43 y44 y45 y46 y47 y48 y49 y50 y51 y52 y53 y54 y55 y56 y57 y58 y59 y60 y61 y62 y63 y64 y65 : Value) (W' : World), Fr (fun _ => False) W W' → Q .normal ⟨#[.pointer (some ⟨j, 0, none⟩), u1, u2, .pointer (some ⟨q, 0, none⟩), .bool false, u5, .bool true, u7, u8, u9, u10, u11, u12, u13, u14, u15, u16, u17, u18, u19, u20, u21, u22, u23, u24, u25, u26, u27, y28, y29, y30, y31, y32, y33, y34, y35, y36, y37, y38, y39, y40, y41, y42, y43, y44, y45, y46, y47, y48, y49, y50, y51, y52, y53, y54, y55, y56, y57, y58, y59, y60, y61, y62, y63, y64, y65], []⟩ W') : (rgF Try.f95 3).wp Try.prog Q ⟨#[.pointer (some ⟨j, 0, none⟩), u1, u2, .pointer (some ⟨q, 0, none⟩), u4, u5, .bool true, u7, u8, u9, u10, u11, u12, u13, u14, u15, u16, u17, u18, u19, u20, u21, u22, u23, u24, u25, u26, u27, u28, u29, u30, u31, u32, u33, u34, u35, u36, u37, u38, u39, u40, u41, u42, u43, u44, u45, u46, u47, u48, u49, u50, u51, u52, u53, u54, u55, u56, u57, u58, u59, u60, u61, u62, u63, u64, u65], []⟩ W := by
  have HQ := hide hQ
  clear hQ
  have HH := hide h
  have HO := hide ho
  have HE := hide he
  have HC0 : Hid (((E.p : Int) == (J.nd : Int)) = true) := hide (by simp; omega)
  have HC1 : Hid (((E.l : Int) == (((J.lst + 1 : Nat) : Int))) = true) := hide (by simp; omega)
  have HC3 : Hid ((decide ((E.b : Int) ≤ (J.sup.b : Int))) = true) := hide (by simp; omega)
  have HC4 : Hid (((E.pt : Int) == (0 : Int)) = true) := hide (by simp; omega)
  have HC5 : Hid ((decide ((E.ps : Int) ≤ (J.room : Int))) = false) := hide (by simp; omega)
  have HA : Hid (IntKind.u64.wrap ((J.lst : Int) + 1) = ((J.lst + 1 : Nat) : Int)) := hide (by
    have h1 := ho.nd.2.1
    have h2 := ho.sup.2.2.2.1
    have := wrapU (J.lst + 1) (by unfold Jn.lst; omega)
    exact_mod_cast this)
  clear h ho he
  conv => arg 2; whnf
  refine wp_nameK ?_
  intro a0 hA
  have h0 : a0.tmps.getD 0 undef = .pointer (some ⟨j, 0, none⟩) := by rw [hA]; rfl
  have h3 : a0.tmps.getD 3 undef = .pointer (some ⟨q, 0, none⟩) := by rw [hA]; rfl
  have h6 : a0.tmps.getD 6 undef = .bool true := by rw [hA]; rfl
  have hsz : a0.tmps.size = 66 := by rw [hA]; rfl
  have hdf : a0.defers = [] := by rw [hA]
  have HA0 := hide hA
  clear hA
  refine wp_region_kinds3 (fun _ => False) (by kernel_rfl) (by kernel_rfl) (by decide +kernel) (by rw [hsz]; decide +kernel) [.eq (.pointer (some ⟨q, 2, none⟩)), .eq (.int .u64 (E.p : Int)), .eq (.pointer (some ⟨j, 0, none⟩)), .eq (.int .u64 (J.nd : Int)), .eq (.bool true), .eq (.bool true), .eq (.pointer (some ⟨q, 3, none⟩)), .eq (.int .u64 (E.l : Int)), .eq (.pointer (some ⟨j, 0, none⟩)), .eq (.int .u64 (J.lst : Int)), .eq (.int .u64 (((J.lst + 1 : Nat) : Int) : Int)), .eq (.bool true), .eq (.bool true), .eq (.bool true), .eq (.bool true), .eq (.bool true), .eq (.bool true), .eq (.pointer (some ⟨q, 0, none⟩)), .eq (.int .u64 (E.b : Int)), .eq (.pointer (some ⟨j, 0, none⟩)), .eq (.pointer (some ⟨j, 0, none⟩)), .eq (.pointer (some ⟨j, 3, none⟩)), .eq (.pointer (some ⟨j, 4, none⟩)), .eq (.int .u64 (J.sup.b : Int)), .eq (.bool true), .eq (.bool true), .eq (.bool true), .eq (.pointer (some ⟨q, 4, none⟩)), .eq (.int .i64 (E.pt : Int)), .eq (.bool true), .eq (.bool true), .eq (.bool true), .eq (.pointer (some ⟨q, 5, none⟩)), .eq (.int .i64 (E.ps : Int)), .eq (.pointer (some ⟨j, 0, none⟩)), .eq (.int .i64 (J.room : Int)), .eq (.bool false), .eq (.bool false), .eq (.bool false)] [] (by decide) (by decide) (chain_paths _ [] (by kernel_rfl)) (fun _ _ => True) trivial ?steps ?done
  case steps =>
    refine ⟨?_, ?_⟩
    · intro a' w' k' hb hf hs hc hq hg hd
      exact .inl ⟨wantedN rfl, k_val (.pointer (some ⟨q, 2, none⟩)) (by decide) trivial (x_field (of := 0) (off := 2) (fa25_2 q 0) rfl ((hb.old 3 (by decide +kernel)).trans h3)) rfl⟩
    refine ⟨?_, ?_⟩
    · intro a' w' k' hb hf hs hc hq hg hd
      exact .inl ⟨wantedN rfl, k_val (.int .u64 (E.p : Int)) (by decide) trivial (x_load1 ldU rfl (hd 0 (by kernel_rfl) 28 rfl) ((hf.cell (a := ⟨q, 2, none⟩) (lt_of_heap (unhide HE)) id).trans (by have := cell_of_heap (unhide HE) 2; simpa [En.c] using this))) rfl⟩
    refine ⟨?_, ?_⟩
    · intro a' w' k' hb hf hs hc hq hg hd
      exact .inl ⟨wantedN rfl, k_val (.pointer (some ⟨j, 0, none⟩)) (by decide) trivial (x_move rfl ((hb.old 0 (by decide +kernel)).trans h0)) rfl⟩
    refine ⟨?_, ?_⟩
    · intro a' w' k' hb hf hs hc hq hg hd
      exact .inl ⟨wantedN rfl, k_call 74 _ (by decide) (e_call1 rfl rfl (hd 2 (by kernel_rfl) 30 rfl) (fun _ _ => by simp [go_sem])) (((end_any w' j s mv J ((unhide HH).kept0 hf) (unhide HO).nd.2.1)).mono (by rintro e w9 ⟨rfl, f9⟩; exact ⟨_, rfl, rfl, f9, trivial⟩))⟩
    refine ⟨?_, ?_⟩
    · intro a' w' k' hb hf hs hc hq hg hd
      exact .inl ⟨wantedN rfl, k_val _ (by decide) trivial (x_eqI Try.underlying22 rfl (hd 1 (by kernel_rfl) 29 rfl) (hd 3 (by kernel_rfl) 31 rfl) (unhide HC0)) rfl⟩
    refine ⟨?_, ?_⟩
    · intro a' w' k' hb hf hs hc hq hg hd
      exact .inl ⟨wantedN rfl, k_val (.bool true) (by decide) trivial (x_move rfl (hd 4 (by kernel_rfl) 32 rfl)) rfl⟩
    refine ⟨?_, ?_⟩
    · intro a' w' k' hb hf hs hc hq hg hd
      exact .inl ⟨wantedT (d := 33) rfl rfl (by rw [hb.size, hsz]; omega) (hd 5 (by kernel_rfl) 33 rfl), k_val (.pointer (some ⟨q, 3, none⟩)) (by decide) trivial (x_field (of := 0) (off := 3) (fa25_3 q 0) rfl ((hb.old 3 (by decide +kernel)).trans h3)) rfl⟩
    refine ⟨?_, ?_⟩
    · intro a' w' k' hb hf hs hc hq hg hd
      exact .inl ⟨wantedT (d := 33) rfl rfl (by rw [hb.size, hsz]; omega) (hd 5 (by kernel_rfl) 33 rfl), k_val (.int .u64 (E.l : Int)) (by decide) trivial (x_load1 ldU rfl (hd 6 (by kernel_rfl) 34 rfl) ((hf.cell (a := ⟨q, 3, none⟩) (lt_of_heap (unhide HE)) id).trans (by have := cell_of_heap (unhide HE) 3; simpa [En.c] using this))) rfl⟩
    refine ⟨?_, ?_⟩
    · intro a' w' k' hb hf hs hc hq hg hd
      exact .inl ⟨wantedT (d := 33) rfl rfl (by rw [hb.size, hsz]; omega) (hd 5 (by kernel_rfl) 33 rfl), k_val (.pointer (some ⟨j, 0, none⟩)) (by decide) trivial (x_move rfl ((hb.old 0 (by decide +kernel)).trans h0)) rfl⟩
    refine ⟨?_, ?_⟩
    · intro a' w' k' hb hf hs hc hq hg hd
      exact .inl ⟨wantedT (d := 33) rfl rfl (by rw [hb.size, hsz]; omega) (hd 5 (by kernel_rfl) 33 rfl), k_call 46 _ (by decide) (e_call1 rfl rfl (hd 8 (by kernel_rfl) 36 rfl) (fun _ _ => by simp [go_sem])) (((last_any w' j s mv J _ ((unhide HH).kept0 hf) (unhide HO))).mono (by rintro e w9 ⟨rfl, f9⟩; exact ⟨_, rfl, rfl, f9, trivial⟩))⟩
    refine ⟨?_, ?_⟩
    · intro a' w' k' hb hf hs hc hq hg hd
      exact .inl ⟨wantedT (d := 33) rfl rfl (by rw [hb.size, hsz]; omega) (hd 5 (by kernel_rfl) 33 rfl), k_val _ (by decide) trivial (x_addU rfl (hd 9 (by kernel_rfl) 37 rfl) rfl (unhide HA)) rfl⟩
    refine ⟨?_, ?_⟩
    · intro a' w' k' hb hf hs hc hq hg hd
      exact .inl ⟨wantedT (d := 33) rfl rfl (by rw [hb.size, hsz]; omega) (hd 5 (by kernel_rfl) 33 rfl), k_val _ (by decide) trivial (x_eqI Try.underlying22 rfl (hd 7 (by kernel_rfl) 35 rfl) (hd 10 (by kernel_rfl) 38 rfl) (unhide HC1)) rfl⟩
    refine ⟨?_, ?_⟩
    · intro a' w' k' hb hf hs hc hq hg hd
      exact .inl ⟨wantedN rfl, k_val (.bool true) (by decide) trivial (x_pickT rfl (hd 5 (by kernel_rfl) 33 rfl) (hd 11 (by kernel_rfl) 39 rfl)) rfl⟩
    refine ⟨?_, ?_⟩
    · intro a' w' k' hb hf hs hc hq hg hd
      exact .inl ⟨wantedN rfl, k_val (.bool true) (by decide) trivial (x_move rfl (hd 12 (by kernel_rfl) 40 rfl)) rfl⟩
    refine ⟨?_, ?_⟩
    · intro a' w' k' hb hf hs hc hq hg hd
      exact .inl ⟨wantedT (d := 41) rfl rfl (by rw [hb.size, hsz]; omega) (hd 13 (by kernel_rfl) 41 rfl), k_val (.bool true) (by decide) trivial (x_move rfl ((hb.old 6 (by decide +kernel)).trans h6)) rfl⟩
    refine ⟨?_, ?_⟩
    · intro a' w' k' hb hf hs hc hq hg hd
      exact .inl ⟨wantedN rfl, k_val (.bool true) (by decide) trivial (x_pickT rfl (hd 13 (by kernel_rfl) 41 rfl) (hd 14 (by kernel_rfl) 42 rfl)) rfl⟩
    refine ⟨?_, ?_⟩
    · intro a' w' k' hb hf hs hc hq hg hd
      exact .inl ⟨wantedN rfl, k_val (.bool true) (by decide) trivial (x_move rfl (hd 15 (by kernel_rfl) 43 rfl)) rfl⟩
    refine ⟨?_, ?_⟩
    · intro a' w' k' hb hf hs hc hq hg hd
      exact .inl ⟨wantedT (d := 44) rfl rfl (by rw [hb.size, hsz]; omega) (hd 16 (by kernel_rfl) 44 rfl), k_val (.pointer (some ⟨q, 0, none⟩)) (by decide) trivial (x_field (of := 0) (off := 0) (fa25_0 q 0) rfl ((hb.old 3 (by decide +kernel)).trans h3)) rfl⟩
    refine ⟨?_, ?_⟩
    · intro a' w' k' hb hf hs hc hq hg hd
      exact .inl ⟨wantedT (d := 44) rfl rfl (by rw [hb.size, hsz]; omega) (hd 16 (by kernel_rfl) 44 rfl), k_val (.int .u64 (E.b : Int)) (by decide) trivial (x_load1 ldU rfl (hd 17 (by kernel_rfl) 45 rfl) ((hf.cell (a := ⟨q, 0, none⟩) (lt_of_heap (unhide HE)) id).trans (by have := cell_of_heap (unhide HE) 0; simpa [En.c] using this))) rfl⟩
    refine ⟨?_, ?_⟩
    · intro a' w' k' hb hf hs hc hq hg hd
      exact .inl ⟨wantedT (d := 44) rfl rfl (by rw [hb.size, hsz]; omega) (hd 16 (by kernel_rfl) 44 rfl), k_val (.pointer (some ⟨j, 0, none⟩)) (by decide) trivial (x_move rfl ((hb.old 0 (by decide +kernel)).trans h0)) rfl⟩
    refine ⟨?_, ?_⟩
    · intro a' w' k' hb hf hs hc hq hg hd
      exact .inl ⟨wantedT (d := 44) rfl rfl (by rw [hb.size, hsz]; omega) (hd 16 (by kernel_rfl) 44 rfl), k_val (.pointer (some ⟨j, 0, none⟩)) (by decide) trivial (x_nilCheck rfl (hd 19 (by kernel_rfl) 47 rfl)) rfl⟩
    refine ⟨?_, ?_⟩
    · intro a' w' k' hb hf hs hc hq hg hd
      exact .inl ⟨wantedT (d := 44) rfl rfl (by rw [hb.size, hsz]; omega) (hd 16 (by kernel_rfl) 44 rfl), k_val (.pointer (some ⟨j, 3, none⟩)) (by decide) trivial (x_field (of := 0) (off := 3) (fa115_3 j 0) rfl (hd 20 (by kernel_rfl) 48 rfl)) rfl⟩
    refine ⟨?_, ?_⟩
    · intro a' w' k' hb hf hs hc hq hg hd
      exact .inl ⟨wantedT (d := 44) rfl rfl (by rw [hb.size, hsz]; omega) (hd 16 (by kernel_rfl) 44 rfl), k_val (.pointer (some ⟨j, 4, none⟩)) (by decide) trivial (x_field (of := 3) (off := 1) (fa27_1 j 3) rfl (hd 21 (by kernel_rfl) 49 rfl)) rfl⟩
    refine ⟨?_, ?_⟩
    · intro a' w' k' hb hf hs hc hq hg hd
      exact .inl ⟨wantedT (d := 44) rfl rfl (by rw [hb.size, hsz]; omega) (hd 16 (by kernel_rfl) 44 rfl), k_val (.int .u64 (J.sup.b : Int)) (by decide) trivial (x_load1 ldU rfl (hd 22 (by kernel_rfl) 50 rfl) (by have := cell_of_heap ((unhide HH).kept0 hf).heap 4; simpa using this)) rfl⟩
    refine ⟨?_, ?_⟩
    · intro a' w' k' hb hf hs hc hq hg hd
      exact .inl ⟨wantedT (d := 44) rfl rfl (by rw [hb.size, hsz]; omega) (hd 16 (by kernel_rfl) 44 rfl), k_val _ (by decide) trivial (x_leU rfl (hd 18 (by kernel_rfl) 46 rfl) (hd 23 (by kernel_rfl) 51 rfl) (unhide HC3)) rfl⟩
    refine ⟨?_, ?_⟩
    · intro a' w' k' hb hf hs hc hq hg hd
      exact .inl ⟨wantedN rfl, k_val (.bool true) (by decide) trivial (x_pickT rfl (hd 16 (by kernel_rfl) 44 rfl) (hd 24 (by kernel_rfl) 52 rfl)) rfl⟩
    refine ⟨?_, ?_⟩
    · intro a' w' k' hb hf hs hc hq hg hd
      exact .inl ⟨wantedN rfl, k_val (.bool true) (by decide) trivial (x_move rfl (hd 25 (by kernel_rfl) 53 rfl)) rfl⟩
    refine ⟨?_, ?_⟩
    · intro a' w' k' hb hf hs hc hq hg hd
      exact .inl ⟨wantedT (d := 54) rfl rfl (by rw [hb.size, hsz]; omega) (hd 26 (by kernel_rfl) 54 rfl), k_val (.pointer (some ⟨q, 4, none⟩)) (by decide) trivial (x_field (of := 0) (off := 4) (fa25_4 q 0) rfl ((hb.old 3 (by decide +kernel)).trans h3)) rfl⟩
    refine ⟨?_, ?_⟩
    · intro a' w' k' hb hf hs hc hq hg hd
      exact .inl ⟨wantedT (d := 54) rfl rfl (by rw [hb.size, hsz]; omega) (hd 26 (by kernel_rfl) 54 rfl), k_val (.int .i64 (E.pt : Int)) (by decide) trivial (x_load1 ld3 rfl (hd 27 (by kernel_rfl) 55 rfl) ((hf.cell (a := ⟨q, 4, none⟩) (lt_of_heap (unhide HE)) id).trans (by have := cell_of_heap (unhide HE) 4; simpa [En.c] using this))) rfl⟩
    refine ⟨?_, ?_⟩
    · intro a' w' k' hb hf hs hc hq hg hd
      exact .inl ⟨wantedT (d := 54) rfl rfl (by rw [hb.size, hsz]; omega) (hd 26 (by kernel_rfl) 54 rfl), k_val _ (by decide) trivial (x_eqI Try.underlying3 rfl (hd 28 (by kernel_rfl) 56 rfl) rfl (unhide HC4)) rfl⟩
    refine ⟨?_, ?_⟩
    · intro a' w' k' hb hf hs hc hq hg hd
      exact .inl ⟨wantedN rfl, k_val (.bool true) (by decide) trivial (x_pickT rfl (hd 26 (by kernel_rfl) 54 rfl) (hd 29 (by kernel_rfl) 57 rfl)) rfl⟩
    refine ⟨?_, ?_⟩
    · intro a' w' k' hb hf hs hc hq hg hd
      exact .inl ⟨wantedN rfl, k_val (.bool true) (by decide) trivial (x_move rfl (hd 30 (by kernel_rfl) 58 rfl)) rfl⟩
    refine ⟨?_, ?_⟩
    · intro a' w' k' hb hf hs hc hq hg hd
      exact .inl ⟨wantedT (d := 59) rfl rfl (by rw [hb.size, hsz]; omega) (hd 31 (by kernel_rfl) 59 rfl), k_val (.pointer (some ⟨q, 5, none⟩)) (by decide) trivial (x_field (of := 0) (off := 5) (fa25_5 q 0) rfl ((hb.old 3 (by decide +kernel)).trans h3)) rfl⟩
    refine ⟨?_, ?_⟩
    · intro a' w' k' hb hf hs hc hq hg hd
      exact .inl ⟨wantedT (d := 59) rfl rfl (by rw [hb.size, hsz]; omega) (hd 31 (by kernel_rfl) 59 rfl), k_val (.int .i64 (E.ps : Int)) (by decide) trivial (x_load1 ld3 rfl (hd 32 (by kernel_rfl) 60 rfl) ((hf.cell (a := ⟨q, 5, none⟩) (lt_of_heap (unhide HE)) id).trans (by have := cell_of_heap (unhide HE) 5; simpa [En.c] using this))) rfl⟩
    refine ⟨?_, ?_⟩
    · intro a' w' k' hb hf hs hc hq hg hd
      exact .inl ⟨wantedT (d := 59) rfl rfl (by rw [hb.size, hsz]; omega) (hd 31 (by kernel_rfl) 59 rfl), k_val (.pointer (some ⟨j, 0, none⟩)) (by decide) trivial (x_move rfl ((hb.old 0 (by decide +kernel)).trans h0)) rfl⟩
    refine ⟨?_, ?_⟩
    · intro a' w' k' hb hf hs hc hq hg hd
      exact .inl ⟨wantedT (d := 59) rfl rfl (by rw [hb.size, hsz]; omega) (hd 31 (by kernel_rfl) 59 rfl), k_call 47 _ (by decide) (e_call1 rfl rfl (hd 34 (by kernel_rfl) 62 rfl) (fun _ _ => by simp [go_sem])) (((room_any w' j s mv J _ ((unhide HH).kept0 hf) (unhide HO))).mono (by rintro e w9 ⟨rfl, f9⟩; exact ⟨_, rfl, rfl, f9, trivial⟩))⟩
    refine ⟨?_, ?_⟩
    · intro a' w' k' hb hf hs hc hq hg hd
      exact .inl ⟨wantedT (d := 59) rfl rfl (by rw [hb.size, hsz]; omega) (hd 31 (by kernel_rfl) 59 rfl), k_val _ (by decide) trivial (x_leI rfl (hd 33 (by kernel_rfl) 61 rfl) (hd 35 (by kernel_rfl) 63 rfl) (unhide HC5)) rfl⟩
    refine ⟨?_, ?_⟩
    · intro a' w' k' hb hf hs hc hq hg hd
      exact .inl ⟨wantedN rfl, k_val (.bool false) (by decide) trivial (x_pickT rfl (hd 31 (by kernel_rfl) 59 rfl) (hd 36 (by kernel_rfl) 64 rfl)) rfl⟩
    refine ⟨?_, ?_⟩
    · intro a' w' k' hb hf hs hc hq hg hd
      exact .inl ⟨wantedN rfl, k_val (.bool false) (by decide) trivial (x_assign rfl (hd 37 (by kernel_rfl) 65 rfl)) rfl⟩
    exact trivial
  case done =>
    intro a' w' hb hf hs hall
    have hslots : Slots a' 0 [.pointer (some ⟨j, 0, none⟩), u1, u2, .pointer (some ⟨q, 0, none⟩), .bool false, u5, .bool true, u7, u8, u9, u10, u11, u12, u13, u14, u15, u16, u17, u18, u19, u20, u21, u22, u23, u24, u25, u26, u27, a'.tmps.getD 28 undef, a'.tmps.getD 29 undef, a'.tmps.getD 30 undef, a'.tmps.getD 31 undef, a'.tmps.getD 32 undef, a'.tmps.getD 33 undef, a'.tmps.getD 34 undef, a'.tmps.getD 35 undef, a'.tmps.getD 36 undef, a'.tmps.getD 37 undef, a'.tmps.getD 38 undef, a'.tmps.getD 39 undef, a'.tmps.getD 40 undef, a'.tmps.getD 41 undef, a'.tmps.getD 42 undef, a'.tmps.getD 43 undef, a'.tmps.getD 44 undef, a'.tmps.getD 45 undef, a'.tmps.getD 46 undef, a'.tmps.getD 47 undef, a'.tmps.getD 48 undef, a'.tmps.getD 49 undef, a'.tmps.getD 50 undef, a'.tmps.getD 51 undef, a'.tmps.getD 52 undef, a'.tmps.getD 53 undef, a'.tmps.getD 54 undef, a'.tmps.getD 55 undef, a'.tmps.getD 56 undef, a'.tmps.getD 57 undef, a'.tmps.getD 58 undef, a'.tmps.getD 59 undef, a'.tmps.getD 60 undef, a'.tmps.getD 61 undef, a'.tmps.getD 62 undef, a'.tmps.getD 63 undef, a'.tmps.getD 64 undef, a'.tmps.getD 65 undef] := ⟨(hb.old 0 (by decide +kernel)).trans (by rw [unhide HA0]; rfl), (hb.old 1 (by decide +kernel)).trans (by rw [unhide HA0]; rfl), (hb.old 2 (by decide +kernel)).trans (by rw [unhide HA0]; rfl), (hb.old 3 (by decide +kernel)).trans (by rw [unhide HA0]; rfl), hall 38 (by decide) 4 rfl, (hb.old 5 (by decide +kernel)).trans (by rw [unhide HA0]; rfl), (hb.old 6 (by decide +kernel)).trans (by rw [unhide HA0]; rfl), (hb.old 7 (by decide +kernel)).trans (by rw [unhide HA0]; rfl), (hb.old 8 (by decide +kernel)).trans (by rw [unhide HA0]; rfl), (hb.old 9 (by decide +kernel)).trans (by rw [unhide HA0]; rfl), (hb.old 10 (by decide +kernel)).trans (by rw [unhide HA0]; rfl), (hb.old 11 (by decide +kernel)).trans (by rw [unhide HA0]; rfl), (hb.old 12 (by decide +kernel)).trans (by rw [unhide HA0]; rfl), (hb.old 13 (by decide +kernel)).trans (by rw [unhide HA0]; rfl), (hb.old 14 (by decide +kernel)).trans (by rw [unhide HA0]; rfl), (hb.old 15 (by decide +kernel)).trans (by rw [unhide HA0]; rfl), (hb.old 16 (by decide +kernel)).trans (by rw [unhide HA0]; rfl), (hb.old 17 (by decide +kernel)).trans (by rw [unhide HA0]; rfl), (hb.old 18 (by decide +kernel)).trans (by rw [unhide HA0]; rfl), (hb.old 19 (by decide +kernel)).trans (by rw [unhide HA0]; rfl), (hb.old 20 (by decide +kernel)).trans (by rw [unhide HA0]; rfl), (hb.old 21 (by decide +kernel)).trans (by rw [unhide HA0]; rfl), (hb.old 22 (by decide +kernel)).trans (by rw [unhide HA0]; rfl), (hb.old 23 (by decide +kernel)).trans (by rw [unhide HA0]; rfl), (hb.old 24 (by decide +kernel)).trans (by rw [unhide HA0]; rfl), (hb.old 25 (by decide +kernel)).trans (by rw [unhide HA0]; rfl), (hb.old 26 (by decide +kernel)).trans (by rw [unhide HA0]; rfl), (hb.old 27 (by decide +kernel)).trans (by rw [unhide HA0]; rfl), rfl, rfl, rfl, rfl, rfl, rfl, rfl, rfl, rfl, rfl, rfl, rfl, rfl, rfl, rfl, rfl, rfl, rfl, rfl, rfl, rfl, rfl, rfl, rfl, rfl, rfl, rfl, rfl, rfl, rfl, rfl, rfl, rfl, rfl, rfl, rfl, rfl, rfl, trivial⟩
    have hfr := frame_eq (a := a') (by rw [hb.size, hsz]; rfl) (by rw [hb.defers, hdf]) hslots
    rw [hfr]
    exact unhide HQ (a'.tmps.getD 28 undef) (a'.tmps.getD 29 undef) (a'.tmps.getD 30 undef) (a'.tmps.getD 31 undef) (a'.tmps.getD 32 undef) (a'.tmps.getD 33 undef) (a'.tmps.getD 34 undef) (a'.tmps.getD 35 undef) (a'.tmps.getD 36 undef) (a'.tmps.getD 37 undef) (a'.tmps.getD 38 undef) (a'.tmps.getD 39 undef) (a'.tmps.getD 40 undef) (a'.tmps.getD 41 undef) (a'.tmps.getD 42 undef) (a'.tmps.getD 43 undef) (a'.tmps.getD 44 undef) (a'.tmps.getD 45 undef) (a'.tmps.getD 46 undef) (a'.tmps.getD 47 undef) (a'.tmps.getD 48 undef) (a'.tmps.getD 49 undef) (a'.tmps.getD 50 undef) (a'.tmps.getD 51 undef) (a'.tmps.getD 52 undef) (a'.tmps.getD 53 undef) (a'.tmps.getD 54 undef) (a'.tmps.getD 55 undef) (a'.tmps.getD 56 undef) (a'.tmps.getD 57 undef) (a'.tmps.getD 58 undef) (a'.tmps.getD 59 undef) (a'.tmps.getD 60 undef) (a'.tmps.getD 61 undef) (a'.tmps.getD 62 undef) (a'.tmps.getD 63 undef) (a'.tmps.getD 64 undef) (a'.tmps.getD 65 undef) w' hf
set_option maxHeartbeats 4000000 in
set_option maxRecDepth 100000 in
theorem gq6 {W : World} {j s n q : Nat} {mv u : Value} {J : Jn} {E : En} {u1 u2 u4 u5 u7 u8 u9 u10 u11 u12 u13 u14 u15 u16 u17 u18 u19 u20 u21 u22 u23 u24 u25 u26 u27 u28 u29 u30 u31 u32 u33 u34 u35 u36 u37 u38 u39 u40 u41 u42 u43 u44 u45 u46 u47 u48 u49 u50 u51 u52 u53 u54 u55 u56 u57 u58 u59 u60 u61 u62 u63 u64 u65 : Value} {Q : Exit → Act → World → Prop} (h : JAt W j s mv J) (ho : J.Ok n) (he : W.heap[q]? = some (.cells (E.c u) 25 (0, 0))) (a0 : E.p = J.nd) (a1 : E.l = J.lst + 1) (a3 : E.b ≤ J.sup.b) (a4 : E.pt = 0) (a5 : E.ps ≤ J.room)
    (hQ : ∀ (y28 y29 y30 y31 y32 y33 y34 y35 y36 y37 y38 y39 y40 y41 y42 y43 y44 y45 y46 y47 y48 y49 y50 y51 y52 y53 y54 y55 y56 y57 y58 y59 y60 y61 y62 y63 y64 y65 : Value) (W' : World), Fr (fun _ => False) W W' → Q .normal ⟨#[.pointer (some ⟨j, 0, none⟩), u1, u2, .pointer (some ⟨q, 0, none⟩), .bool true, u5, .bool true, u7, u8, u9, u10, u11, u12, u13, u14, u15, u16, u17, u18, u19, u20, u21, u22, u23, u24, u25, u26, u27, y28, y29, y30, y31, y32, y33, y34, y35, y36, y37, y38, y39, y40, y41, y42, y43, y44, y45, y46, y47, y48, y49, y50, y51, y52, y53, y54, y55, y56, y57, y58, y59, y60, y61, y62, y63, y64, y65], []⟩ W') : (rgF Try.f95 3).wp Try.prog Q ⟨#[.pointer (some ⟨j, 0, none⟩), u1, u2, .pointer (some ⟨q, 0, none⟩), u4, u5, .bool true, u7, u8, u9, u10, u11, u12, u13, u14, u15, u16, u17, u18, u19, u20, u21, u22, u23, u24, u25, u26, u27, u28, u29, u30, u31, u32, u33, u34, u35, u36, u37, u38, u39, u40, u41, u42, u43, u44, u45, u46, u47, u48, u49, u50, u51, u52, u53, u54, u55, u56, u57, u58, u59, u60, u61, u62, u63, u64, u65], []⟩ W := by
  have HQ := hide hQ
  clear hQ
  have HH := hide h
  have HO := hide ho
  have HE := hide he
  have HC0 : Hid (((E.p : Int) == (J.nd : Int)) = true) := hide (by simp; omega)
  have HC1 : Hid (((E.l : Int) == (((J.lst + 1 : Nat) : Int))) = true) := hide (by simp; omega)
  have HC3 : Hid ((decide ((E.b : Int) ≤ (J.sup.b : Int))) = true) := hide (by simp; omega)
  have HC4 : Hid (((E.pt : Int) == (0 : Int)) = true) := hide (by simp; omega)
  have HC5 : Hid ((decide ((E.ps : Int) ≤ (J.room : Int))) = true) := hide (by simp; omega)
  have HA : Hid (IntKind.u64.wrap ((J.lst : Int) + 1) = ((J.lst + 1 : Nat) : Int)) := hide (by
    have h1 := ho.nd.2.1
    have h2 := ho.sup.2.2.2.1
    have := wrapU (J.lst + 1) (by unfold Jn.lst; omega)
    exact_mod_cast this)
  clear h ho he
  conv => arg 2; whnf
  refine wp_nameK ?_
  intro a0 hA
  have h0 : a0.tmps.getD 0 undef = .pointer (some ⟨j, 0, none⟩) := by rw [hA]; rfl
  have h3 : a0.tmps.getD 3 undef = .pointer (some ⟨q, 0, none⟩) := by rw [hA]; rfl
  have h6 : a0.tmps.getD 6 undef = .bool true := by rw [hA]; rfl
  have hsz : a0.tmps.size = 66 := by rw [hA]; rfl
  have hdf : a0.defers = [] := by rw [hA]
  have HA0 := hide hA
  clear hA
  refine wp_region_kinds3 (fun _ => False) (by kernel_rfl) (by kernel_rfl) (by decide +kernel) (by rw [hsz]; decide +kernel) [.eq (.pointer (some ⟨q, 2, none⟩)), .eq (.int .u64 (E.p : Int)), .eq (.pointer (some ⟨j, 0, none⟩)), .eq (.int .u64 (J.nd : Int)), .eq (.bool true), .eq (.bool true), .eq (.pointer (some ⟨q, 3, none⟩)), .eq (.int .u64 (E.l : Int)), .eq (.pointer (some ⟨j, 0, none⟩)), .eq (.int .u64 (J.lst : Int)), .eq (.int .u64 (((J.lst + 1 : Nat) : Int) : Int)), .eq (.bool true), .eq (.bool true), .eq (.bool true), .eq (.bool true), .eq (.bool true), .eq (.bool true), .eq (.pointer (some ⟨q, 0, none⟩)), .eq (.int .u64 (E.b : Int)), .eq (.pointer (some ⟨j, 0, none⟩)), .eq (.pointer (some ⟨j, 0, none⟩)), .eq (.pointer (some ⟨j, 3, none⟩)), .eq (.pointer (some ⟨j, 4, none⟩)), .eq (.int .u64 (J.sup.b : Int)), .eq (.bool true), .eq (.bool true), .eq (.bool true), .eq (.pointer (some ⟨q, 4, none⟩)), .eq (.int .i64 (E.pt : Int)), .eq (.bool true), .eq (.bool true), .eq (.bool true), .eq (.pointer (some ⟨q, 5, none⟩)), .eq (.int .i64 (E.ps : Int)), .eq (.pointer (some ⟨j, 0, none⟩)), .eq (.int .i64 (J.room : Int)), .eq (.bool true), .eq (.bool true), .eq (.bool true)] [] (by decide) (by decide) (chain_paths _ [] (by kernel_rfl)) (fun _ _ => True) trivial ?steps ?done
  case steps =>
    refine ⟨?_, ?_⟩
    · intro a' w' k' hb hf hs hc hq hg hd
      exact .inl ⟨wantedN rfl, k_val (.pointer (some ⟨q, 2, none⟩)) (by decide) trivial (x_field (of := 0) (off := 2) (fa25_2 q 0) rfl ((hb.old 3 (by decide +kernel)).trans h3)) rfl⟩
    refine ⟨?_, ?_⟩
    · intro a' w' k' hb hf hs hc hq hg hd
      exact .inl ⟨wantedN rfl, k_val (.int .u64 (E.p : Int)) (by decide) trivial (x_load1 ldU rfl (hd 0 (by kernel_rfl) 28 rfl) ((hf.cell (a := ⟨q, 2, none⟩) (lt_of_heap (unhide HE)) id).trans (by have := cell_of_heap (unhide HE) 2; simpa [En.c] using this))) rfl⟩
    refine ⟨?_, ?_⟩
    · intro a' w' k' hb hf hs hc hq hg hd
      exact .inl ⟨wantedN rfl, k_val (.pointer (some ⟨j, 0, none⟩)) (by decide) trivial (x_move rfl ((hb.old 0 (by decide +kernel)).trans h0)) rfl⟩
    refine ⟨?_, ?_⟩
    · intro a' w' k' hb hf hs hc hq hg hd
      exact .inl ⟨wantedN rfl, k_call 74 _ (by decide) (e_call1 rfl rfl (hd 2 (by kernel_rfl) 30 rfl) (fun _ _ => by simp [go_sem])) (((end_any w' j s mv J ((unhide HH).kept0 hf) (unhide HO).nd.2.1)).mono (by rintro e w9 ⟨rfl, f9⟩; exact ⟨_, rfl, rfl, f9, trivial⟩))⟩
    refine ⟨?_, ?_⟩
    · intro a' w' k' hb hf hs hc hq hg hd
      exact .inl ⟨wantedN rfl, k_val _ (by decide) trivial (x_eqI Try.underlying22 rfl (hd 1 (by kernel_rfl) 29 rfl) (hd 3 (by kernel_rfl) 31 rfl) (unhide HC0)) rfl⟩
    refine ⟨?_, ?_⟩
    · intro a' w' k' hb hf hs hc hq hg hd
      exact .inl ⟨wantedN rfl, k_val (.bool true) (by decide) trivial (x_move rfl (hd 4 (by kernel_rfl) 32 rfl)) rfl⟩
    refine ⟨?_, ?_⟩
    · intro a' w' k' hb hf hs hc hq hg hd
      exact .inl ⟨wantedT (d := 33) rfl rfl (by rw [hb.size, hsz]; omega) (hd 5 (by kernel_rfl) 33 rfl), k_val (.pointer (some ⟨q, 3, none⟩)) (by decide) trivial (x_field (of := 0) (off := 3) (fa25_3 q 0) rfl ((hb.old 3 (by decide +kernel)).trans h3)) rfl⟩
    refine ⟨?_, ?_⟩
    · intro a' w' k' hb hf hs hc hq hg hd
      exact .inl ⟨wantedT (d := 33) rfl rfl (by rw [hb.size, hsz]; omega) (hd 5 (by kernel_rfl) 33 rfl), k_val (.int .u64 (E.l : Int)) (by decide) trivial (x_load1 ldU rfl (hd 6 (by kernel_rfl) 34 rfl) ((hf.cell (a := ⟨q, 3, none⟩) (lt_of_heap (unhide HE)) id).trans (by have := cell_of_heap (unhide HE) 3; simpa [En.c] using this))) rfl⟩
    refine ⟨?_, ?_⟩
    · intro a' w' k' hb hf hs hc hq hg hd
      exact .inl ⟨wantedT (d := 33) rfl rfl (by rw [hb.size, hsz]; omega) (hd 5 (by kernel_rfl) 33 rfl), k_val (.pointer (some ⟨j, 0, none⟩)) (by decide) trivial (x_move rfl ((hb.old 0 (by decide +kernel)).trans h0)) rfl⟩
    refine ⟨?_, ?_⟩
    · intro a' w' k' hb hf hs hc hq hg hd
      exact .inl ⟨wantedT (d := 33) rfl rfl (by rw [hb.size, hsz]; omega) (hd 5 (by kernel_rfl) 33 rfl), k_call 46 _ (by decide) (e_call1 rfl rfl (hd 8 (by kernel_rfl) 36 rfl) (fun _ _ => by simp [go_sem])) (((last_any w' j s mv J _ ((unhide HH).kept0 hf) (unhide HO))).mono (by rintro e w9 ⟨rfl, f9⟩; exact ⟨_, rfl, rfl, f9, trivial⟩))⟩
    refine ⟨?_, ?_⟩
    · intro a' w' k' hb hf hs hc hq hg hd
      exact .inl ⟨wantedT (d := 33) rfl rfl (by rw [hb.size, hsz]; omega) (hd 5 (by kernel_rfl) 33 rfl), k_val _ (by decide) trivial (x_addU rfl (hd 9 (by kernel_rfl) 37 rfl) rfl (unhide HA)) rfl⟩
    refine ⟨?_, ?_⟩
    · intro a' w' k' hb hf hs hc hq hg hd
      exact .inl ⟨wantedT (d := 33) rfl rfl (by rw [hb.size, hsz]; omega) (hd 5 (by kernel_rfl) 33 rfl), k_val _ (by decide) trivial (x_eqI Try.underlying22 rfl (hd 7 (by kernel_rfl) 35 rfl) (hd 10 (by kernel_rfl) 38 rfl) (unhide HC1)) rfl⟩
    refine ⟨?_, ?_⟩
    · intro a' w' k' hb hf hs hc hq hg hd
      exact .inl ⟨wantedN rfl, k_val (.bool true) (by decide) trivial (x_pickT rfl (hd 5 (by kernel_rfl) 33 rfl) (hd 11 (by kernel_rfl) 39 rfl)) rfl⟩
    refine ⟨?_, ?_⟩
    · intro a' w' k' hb hf hs hc hq hg hd
      exact .inl ⟨wantedN rfl, k_val (.bool true) (by decide) trivial (x_move rfl (hd 12 (by kernel_rfl) 40 rfl)) rfl⟩
    refine ⟨?_, ?_⟩
    · intro a' w' k' hb hf hs hc hq hg hd
      exact .inl ⟨wantedT (d := 41) rfl rfl (by rw [hb.size, hsz]; omega) (hd 13 (by kernel_rfl) 41 rfl), k_val (.bool true) (by decide) trivial (x_move rfl ((hb.old 6 (by decide +kernel)).trans h6)) rfl⟩
    refine ⟨?_, ?_⟩
    · intro a' w' k' hb hf hs hc hq hg hd
      exact .inl ⟨wantedN rfl, k_val (.bool true) (by decide) trivial (x_pickT rfl (hd 13 (by kernel_rfl) 41 rfl) (hd 14 (by kernel_rfl) 42 rfl)) rfl⟩
    refine ⟨?_, ?_⟩
    · intro a' w' k' hb hf hs hc hq hg hd
      exact .inl ⟨wantedN rfl, k_val (.bool true) (by decide) trivial (x_move rfl (hd 15 (by kernel_rfl) 43 rfl)) rfl⟩
    refine ⟨?_, ?_⟩
    · intro a' w' k' hb hf hs hc hq hg hd
      exact .inl ⟨wantedT (d := 44) rfl rfl (by rw [hb.size, hsz]; omega) (hd 16 (by kernel_rfl) 44 rfl), k_val (.pointer (some ⟨q, 0, none⟩)) (by decide) trivial (x_field (of := 0) (off := 0) (fa25_0 q 0) rfl ((hb.old 3 (by decide +kernel)).trans h3)) rfl⟩
    refine ⟨?_, ?_⟩
    · intro a' w' k' hb hf hs hc hq hg hd
      exact .inl ⟨wantedT (d := 44) rfl rfl (by rw [hb.size, hsz]; omega) (hd 16 (by kernel_rfl) 44 rfl), k_val (.int .u64 (E.b : Int)) (by decide) trivial (x_load1 ldU rfl (hd 17 (by kernel_rfl) 45 rfl) ((hf.cell (a := ⟨q, 0, none⟩) (lt_of_heap (unhide HE)) id).trans (by have := cell_of_heap (unhide HE) 0; simpa [En.c] using this))) rfl⟩
    refine ⟨?_, ?_⟩
    · intro a' w' k' hb hf hs hc hq hg hd
      exact .inl ⟨wantedT (d := 44) rfl rfl (by rw [hb.size, hsz]; omega) (hd 16 (by kernel_rfl) 44 rfl), k_val (.pointer (some ⟨j, 0, none⟩)) (by decide) trivial (x_move rfl ((hb.old 0 (by decide +kernel)).trans h0)) rfl⟩
    refine ⟨?_, ?_⟩
    · intro a' w' k' hb hf hs hc hq hg hd
      exact .inl ⟨wantedT (d := 44) rfl rfl (by rw [hb.size, hsz]; omega) (hd 16 (by kernel_rfl) 44 rfl), k_val (.pointer (some ⟨j, 0, none⟩)) (by decide) trivial (x_nilCheck rfl (hd 19 (by kernel_rfl) 47 rfl)) rfl⟩
    refine ⟨?_, ?_⟩
    · intro a' w' k' hb hf hs hc hq hg hd
      exact .inl ⟨wantedT (d := 44) rfl rfl (by rw [hb.size, hsz]; omega) (hd 16 (by kernel_rfl) 44 rfl), k_val (.pointer (some ⟨j, 3, none⟩)) (by decide) trivial (x_field (of := 0) (off := 3) (fa115_3 j 0) rfl (hd 20 (by kernel_rfl) 48 rfl)) rfl⟩
    refine ⟨?_, ?_⟩
    · intro a' w' k' hb hf hs hc hq hg hd
      exact .inl ⟨wantedT (d := 44) rfl rfl (by rw [hb.size, hsz]; omega) (hd 16 (by kernel_rfl) 44 rfl), k_val (.pointer (some ⟨j, 4, none⟩)) (by decide) trivial (x_field (of := 3) (off := 1) (fa27_1 j 3) rfl (hd 21 (by kernel_rfl) 49 rfl)) rfl⟩
    refine ⟨?_, ?_⟩
    · intro a' w' k' hb hf hs hc hq hg hd
      exact .inl ⟨wantedT (d := 44) rfl rfl (by rw [hb.size, hsz]; omega) (hd 16 (by kernel_rfl) 44 rfl), k_val (.int .u64 (J.sup.b : Int)) (by decide) trivial (x_load1 ldU rfl (hd 22 (by kernel_rfl) 50 rfl) (by have := cell_of_heap ((unhide HH).kept0 hf).heap 4; simpa using this)) rfl⟩
    refine ⟨?_, ?_⟩
    · intro a' w' k' hb hf hs hc hq hg hd
      exact .inl ⟨wantedT (d := 44) rfl rfl (by rw [hb.size, hsz]; omega) (hd 16 (by kernel_rfl) 44 rfl), k_val _ (by decide) trivial (x_leU rfl (hd 18 (by kernel_rfl) 46 rfl) (hd 23 (by kernel_rfl) 51 rfl) (unhide HC3)) rfl⟩
    refine ⟨?_, ?_⟩
    · intro a' w' k' hb hf hs hc hq hg hd
      exact .inl ⟨wantedN rfl, k_val (.bool true) (by decide) trivial (x_pickT rfl (hd 16 (by kernel_rfl) 44 rfl) (hd 24 (by kernel_rfl) 52 rfl)) rfl⟩
    refine ⟨?_, ?_⟩
    · intro a' w' k' hb hf hs hc hq hg hd
      exact .inl ⟨wantedN rfl, k_val (.bool true) (by decide) trivial (x_move rfl (hd 25 (by kernel_rfl) 53 rfl)) rfl⟩
    refine ⟨?_, ?_⟩
    · intro a' w' k' hb hf hs hc hq hg hd
      exact .inl ⟨wantedT (d := 54) rfl rfl (by rw [hb.size, hsz]; omega) (hd 26 (by kernel_rfl) 54 rfl), k_val (.pointer (some ⟨q, 4, none⟩)) (by decide) trivial (x_field (of := 0) (off := 4) (fa25_4 q 0) rfl ((hb.old 3 (by decide +kernel)).trans h3)) rfl⟩
    refine ⟨?_, ?_⟩
    · intro a' w' k' hb hf hs hc hq hg hd
      exact .inl ⟨wantedT (d := 54) rfl rfl (by rw [hb.size, hsz]; omega) (hd 26 (by kernel_rfl) 54 rfl), k_val (.int .i64 (E.pt : Int)) (by decide) trivial (x_load1 ld3 rfl (hd 27 (by kernel_rfl) 55 rfl) ((hf.cell (a := ⟨q, 4, none⟩) (lt_of_heap (unhide HE)) id).trans (by have := cell_of_heap (unhide HE) 4; simpa [En.c] using this))) rfl⟩
    refine ⟨?_, ?_⟩
    · intro a' w' k' hb hf hs hc hq hg hd
      exact .inl ⟨wantedT (d := 54) rfl rfl (by rw [hb.size, hsz]; omega) (hd 26 (by kernel_rfl) 54 rfl), k_val _ (by decide) trivial (x_eqI Try.underlying3 rfl (hd 28 (by kernel_rfl) 56 rfl) rfl (unhide HC4)) rfl⟩
    refine ⟨?_, ?_⟩
    · intro a' w' k' hb hf hs hc hq hg hd
      exact .inl ⟨wantedN rfl, k_val (.bool true) (by decide) trivial (x_pickT rfl (hd 26 (by kernel_rfl) 54 rfl) (hd 29 (by kernel_rfl) 57 rfl)) rfl⟩
    refine ⟨?_, ?_⟩
    · intro a' w' k' hb hf hs hc hq hg hd
      exact .inl ⟨wantedN rfl, k_val (.bool true) (by decide) trivial (x_move rfl (hd 30 (by kernel_rfl) 58 rfl)) rfl⟩
    refine ⟨?_, ?_⟩
    · intro a' w' k' hb hf hs hc hq hg hd
      exact .inl ⟨wantedT (d := 59) rfl rfl (by rw [hb.size, hsz]; omega) (hd 31 (by kernel_rfl) 59 rfl), k_val (.pointer (some ⟨q, 5, none⟩)) (by decide) trivial (x_field (of := 0) (off := 5) (fa25_5 q 0) rfl ((hb.old 3 (by decide +kernel)).trans h3)) rfl⟩
    refine ⟨?_, ?_⟩
    · intro a' w' k' hb hf hs hc hq hg hd
      exact .inl ⟨wantedT (d := 59) rfl rfl (by rw [hb.size, hsz]; omega) (hd 31 (by kernel_rfl) 59 rfl), k_val (.int .i64 (E.ps : Int)) (by decide) trivial (x_load1 ld3 rfl (hd 32 (by kernel_rfl) 60 rfl) ((hf.cell (a := ⟨q, 5, none⟩) (lt_of_heap (unhide HE)) id).trans (by have := cell_of_heap (unhide HE) 5; simpa [En.c] using this))) rfl⟩
    refine ⟨?_, ?_⟩
    · intro a' w' k' hb hf hs hc hq hg hd
      exact .inl ⟨wantedT (d := 59) rfl rfl (by rw [hb.size, hsz]; omega) (hd 31 (by kernel_rfl) 59 rfl), k_val (.pointer (some ⟨j, 0, none⟩)) (by decide) trivial (x_move rfl ((hb.old 0 (by decide +kernel)).trans h0)) rfl⟩
    refine ⟨?_, ?_⟩
    · intro a' w' k' hb hf hs hc hq hg hd
      exact .inl ⟨wantedT (d := 59) rfl rfl (by rw [hb.size, hsz]; omega) (hd 31 (by kernel_rfl) 59 rfl), k_call 47 _ (by decide) (e_call1 rfl rfl (hd 34 (by kernel_rfl) 62 rfl) (fun _ _ => by simp [go_sem])) (((room_any w' j s mv J _ ((unhide HH).kept0 hf) (unhide HO))).mono (by rintro e w9 ⟨rfl, f9⟩; exact ⟨_, rfl, rfl, f9, trivial⟩))⟩
    refine ⟨?_, ?_⟩
    · intro a' w' k' hb hf hs hc hq hg hd
      exact .inl ⟨wantedT (d := 59) rfl rfl (by rw [hb.size, hsz]; omega) (hd 31 (by kernel_rfl) 59 rfl), k_val _ (by decide) trivial (x_leI rfl (hd 33 (by kernel_rfl) 61 rfl) (hd 35 (by kernel_rfl) 63 rfl) (unhide HC5)) rfl⟩
    refine ⟨?_, ?_⟩
    · intro a' w' k' hb hf hs hc hq hg hd
      exact .inl ⟨wantedN rfl, k_val (.bool true) (by decide) trivial (x_pickT rfl (hd 31 (by kernel_rfl) 59 rfl) (hd 36 (by kernel_rfl) 64 rfl)) rfl⟩
    refine ⟨?_, ?_⟩
    · intro a' w' k' hb hf hs hc hq hg hd
      exact .inl ⟨wantedN rfl, k_val (.bool true) (by decide) trivial (x_assign rfl (hd 37 (by kernel_rfl) 65 rfl)) rfl⟩
    exact trivial
  case done =>
    intro a' w' hb hf hs hall
    have hslots : Slots a' 0 [.pointer (some ⟨j, 0, none⟩), u1, u2, .pointer (some ⟨q, 0, none⟩), .bool true, u5, .bool true, u7, u8, u9, u10, u11, u12, u13, u14, u15, u16, u17, u18, u19, u20, u21, u22, u23, u24, u25, u26, u27, a'.tmps.getD 28 undef, a'.tmps.getD 29 undef, a'.tmps.getD 30 undef, a'.tmps.getD 31 undef, a'.tmps.getD 32 undef, a'.tmps.getD 33 undef, a'.tmps.getD 34 undef, a'.tmps.getD 35 undef, a'.tmps.getD 36 undef, a'.tmps.getD 37 undef, a'.tmps.getD 38 undef, a'.tmps.getD 39 undef, a'.tmps.getD 40 undef, a'.tmps.getD 41 undef, a'.tmps.getD 42 undef, a'.tmps.getD 43 undef, a'.tmps.getD 44 undef, a'.tmps.getD 45 undef, a'.tmps.getD 46 undef, a'.tmps.getD 47 undef, a'.tmps.getD 48 undef, a'.tmps.getD 49 undef, a'.tmps.getD 50 undef, a'.tmps.getD 51 undef, a'.tmps.getD 52 undef, a'.tmps.getD 53 undef, a'.tmps.getD 54 undef, a'.tmps.getD 55 undef, a'.tmps.getD 56 undef, a'.tmps.getD 57 undef, a'.tmps.getD 58 undef, a'.tmps.getD 59 undef, a'.tmps.getD 60 undef, a'.tmps.getD 61 undef, a'.tmps.getD 62 undef, a'.tmps.getD 63 undef, a'.tmps.getD 64 undef, a'.tmps.getD 65 undef] := ⟨(hb.old 0 (by decide +kernel)).trans (by rw [unhide HA0]; rfl), (hb.old 1 (by decide +kernel)).trans (by rw [unhide HA0]; rfl), (hb.old 2 (by decide +kernel)).trans (by rw [unhide HA0]; rfl), (hb.old 3 (by decide +kernel)).trans (by rw [unhide HA0]; rfl), hall 38 (by decide) 4 rfl, (hb.old 5 (by decide +kernel)).trans (by rw [unhide HA0]; rfl), (hb.old 6 (by decide +kernel)).trans (by rw [unhide HA0]; rfl), (hb.old 7 (by decide +kernel)).trans (by rw [unhide HA0]; rfl), (hb.old 8 (by decide +kernel)).trans (by rw [unhide HA0]; rfl), (hb.old 9 (by decide +kernel)).trans (by rw [unhide HA0]; rfl), (hb.old 10 (by decide +kernel)).trans (by rw [unhide HA0]; rfl), (hb.old 11 (by decide +kernel)).trans (by rw [unhide HA0]; rfl), (hb.old 12 (by decide +kernel)).trans (by rw [unhide HA0]; rfl), (hb.old 13 (by decide +kernel)).trans (by rw [unhide HA0]; rfl), (hb.old 14 (by decide +kernel)).trans (by rw [unhide HA0]; rfl), (hb.old 15 (by decide +kernel)).trans (by rw [unhide HA0]; rfl), (hb.old 16 (by decide +kernel)).trans (by rw [unhide HA0]; rfl), (hb.old 17 (by decide +kernel)).trans (by rw [unhide HA0]; rfl), (hb.old 18 (by decide +kernel)).trans (by rw [unhide HA0]; rfl), (hb.old 19 (by decide +kernel)).trans (by rw [unhide HA0]; rfl), (hb.old 20 (by decide +kernel)).trans (by rw [unhide HA0]; rfl), (hb.old 21 (by decide +kernel)).trans (by rw [unhide HA0]; rfl), (hb.old 22 (by decide +kernel)).trans (by rw [unhide HA0]; rfl), (hb.old 23 (by decide +kernel)).trans (by rw [unhide HA0]; rfl), (hb.old 24 (by decide +kernel)).trans (by rw [unhide HA0]; rfl), (hb.old 25 (by decide +kernel)).trans (by rw [unhide HA0]; rfl), (hb.old 26 (by decide +kernel)).trans (by rw [unhide HA0]; rfl), (hb.old 27 (by decide +kernel)).trans (by rw [unhide HA0]; rfl), rfl, rfl, rfl, rfl, rfl, rfl, rfl, rfl, rfl, rfl, rfl, rfl, rfl, rfl, rfl, rfl, rfl, rfl, rfl, rfl, rfl, rfl, rfl, rfl, rfl, rfl, rfl, rfl, rfl, rfl, rfl, rfl, rfl, rfl, rfl, rfl, rfl, rfl, trivial⟩
    have hfr := frame_eq (a := a') (by rw [hb.size, hsz]; rfl) (by rw [hb.defers, hdf]) hslots
    rw [hfr]
    exact unhide HQ (a'.tmps.getD 28 undef) (a'.tmps.getD 29 undef) (a'.tmps.getD 30 undef) (a'.tmps.getD 31 undef) (a'.tmps.getD 32 undef) (a'.tmps.getD 33 undef) (a'.tmps.getD 34 undef) (a'.tmps.getD 35 undef) (a'.tmps.getD 36 undef) (a'.tmps.getD 37 undef) (a'.tmps.getD 38 undef) (a'.tmps.getD 39 undef) (a'.tmps.getD 40 undef) (a'.tmps.getD 41 undef) (a'.tmps.getD 42 undef) (a'.tmps.getD 43 undef) (a'.tmps.getD 44 undef) (a'.tmps.getD 45 undef) (a'.tmps.getD 46 undef) (a'.tmps.getD 47 undef) (a'.tmps.getD 48 undef) (a'.tmps.getD 49 undef) (a'.tmps.getD 50 undef) (a'.tmps.getD 51 undef) (a'.tmps.getD 52 undef) (a'.tmps.getD 53 undef) (a'.tmps.getD 54 undef) (a'.tmps.getD 55 undef) (a'.tmps.getD 56 undef) (a'.tmps.getD 57 undef) (a'.tmps.getD 58 undef) (a'.tmps.getD 59 undef) (a'.tmps.getD 60 undef) (a'.tmps.getD 61 undef) (a'.tmps.getD 62 undef) (a'.tmps.getD 63 undef) (a'.tmps.getD 64 undef) (a'.tmps.getD 65 undef) w' hf
end Go.Proofs.Ytgodlfoidjeekaa
