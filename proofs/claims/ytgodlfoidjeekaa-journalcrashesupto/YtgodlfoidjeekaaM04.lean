/-
  What only asks a journal.
  A journal and its device at work; writeSuper, Sync, settle, fits.
  writeSuper, Sync, settle.
  Sync, settle.
  Format's region that draws.
  Format.
  GetSuper's region that draws.
  GetSuper.
  GetEntry's region that draws.
  GetEntry.
-/
import Derived.Test.YtgodlfoidjeekaaM03
import Derived.Test.YtgodlfoidjeekaaM01
namespace Go.Proofs.Ytgodlfoidjeekaa
set_option linter.unusedVariables false
set_option linter.unusedSimpArgs false
open Go.RowKit
set_option linter.unusedVariables false
set_option linter.unusedSimpArgs false

attribute [local go_sem ↓] Go.wp_at_zero Go.wp_at_succ

theorem fa115_0 (b o : Nat) (W : World) : (Instr.fieldAt 115 (.pointer (some ⟨b, o, none⟩)) 0).run Try.prog W = .ok (.pointer (some ⟨b, o + 0, none⟩)) W := by simp [go_sem]
theorem fa115_1 (b o : Nat) (W : World) : (Instr.fieldAt 115 (.pointer (some ⟨b, o, none⟩)) 1).run Try.prog W = .ok (.pointer (some ⟨b, o + 1, none⟩)) W := by simp [go_sem]
theorem fa115_2 (b o : Nat) (W : World) : (Instr.fieldAt 115 (.pointer (some ⟨b, o, none⟩)) 2).run Try.prog W = .ok (.pointer (some ⟨b, o + 2, none⟩)) W := by simp [go_sem]
theorem fa115_3 (b o : Nat) (W : World) : (Instr.fieldAt 115 (.pointer (some ⟨b, o, none⟩)) 3).run Try.prog W = .ok (.pointer (some ⟨b, o + 3, none⟩)) W := by simp [go_sem]
theorem fa115_4 (b o : Nat) (W : World) : (Instr.fieldAt 115 (.pointer (some ⟨b, o, none⟩)) 4).run Try.prog W = .ok (.pointer (some ⟨b, o + 9, none⟩)) W := by simp [go_sem]
theorem fa115_5 (b o : Nat) (W : World) : (Instr.fieldAt 115 (.pointer (some ⟨b, o, none⟩)) 5).run Try.prog W = .ok (.pointer (some ⟨b, o + 10, none⟩)) W := by simp [go_sem]
theorem fa115_6 (b o : Nat) (W : World) : (Instr.fieldAt 115 (.pointer (some ⟨b, o, none⟩)) 6).run Try.prog W = .ok (.pointer (some ⟨b, o + 11, none⟩)) W := by simp [go_sem]
theorem fa27_0 (b o : Nat) (W : World) : (Instr.fieldAt 27 (.pointer (some ⟨b, o, none⟩)) 0).run Try.prog W = .ok (.pointer (some ⟨b, o + 0, none⟩)) W := by simp [go_sem]
theorem fa27_1 (b o : Nat) (W : World) : (Instr.fieldAt 27 (.pointer (some ⟨b, o, none⟩)) 1).run Try.prog W = .ok (.pointer (some ⟨b, o + 1, none⟩)) W := by simp [go_sem]
theorem fa27_2 (b o : Nat) (W : World) : (Instr.fieldAt 27 (.pointer (some ⟨b, o, none⟩)) 2).run Try.prog W = .ok (.pointer (some ⟨b, o + 2, none⟩)) W := by simp [go_sem]
theorem fa27_3 (b o : Nat) (W : World) : (Instr.fieldAt 27 (.pointer (some ⟨b, o, none⟩)) 3).run Try.prog W = .ok (.pointer (some ⟨b, o + 3, none⟩)) W := by simp [go_sem]
theorem fa27_4 (b o : Nat) (W : World) : (Instr.fieldAt 27 (.pointer (some ⟨b, o, none⟩)) 4).run Try.prog W = .ok (.pointer (some ⟨b, o + 4, none⟩)) W := by simp [go_sem]
theorem fa27_5 (b o : Nat) (W : World) : (Instr.fieldAt 27 (.pointer (some ⟨b, o, none⟩)) 5).run Try.prog W = .ok (.pointer (some ⟨b, o + 5, none⟩)) W := by simp [go_sem]
theorem ldU : ∀ W a u, World.cell? W a = some u → (Instr.loadAt 22 (.pointer (some a))).run Try.prog W = .ok u W := by intro W a u h; simp [go_sem, h]
section
variable {ρ : Operand → Value} {o : Oper} {w : World} {x y : Operand}
theorem x_subU {a b c : Int} (ho : o.op = .binOp .sub 22 x y 22) (hx : ρ x = .int .u64 a) (hy : ρ y = .int .u64 b) (hc : IntKind.u64.wrap (a - b) = c) : (execOp ρ o).run Try.prog w = .ok (.value (.int .u64 c)) w := by
  subst hc; simp [execOp, ho, hx, hy, go_sem]
theorem x_addU {a b c : Int} (ho : o.op = .binOp .add 22 x y 22) (hx : ρ x = .int .u64 a) (hy : ρ y = .int .u64 b) (hc : IntKind.u64.wrap (a + b) = c) : (execOp ρ o).run Try.prog w = .ok (.value (.int .u64 c)) w := by
  subst hc; simp [execOp, ho, hx, hy, go_sem]
theorem x_subI {a b c : Int} (ho : o.op = .binOp .sub 3 x y 3) (hx : ρ x = .int .i64 a) (hy : ρ y = .int .i64 b) (hc : IntKind.i64.wrap (a - b) = c) : (execOp ρ o).run Try.prog w = .ok (.value (.int .i64 c)) w := by
  subst hc; simp [execOp, ho, hx, hy, go_sem]
theorem x_addI {a b c : Int} (ho : o.op = .binOp .add 3 x y 3) (hx : ρ x = .int .i64 a) (hy : ρ y = .int .i64 b) (hc : IntKind.i64.wrap (a + b) = c) : (execOp ρ o).run Try.prog w = .ok (.value (.int .i64 c)) w := by
  subst hc; simp [execOp, ho, hx, hy, go_sem]
end
theorem cvU (w : World) (n : Nat) (h : n < 9223372036854775808) : (convert 22 3 (.int .u64 (n : Int))).run Try.prog w = .ok (.int .i64 (n : Int)) w := by
  have h2 : IntKind.i64.wrap (n : Int) = n := by simp [IntKind.wrap, IntKind.signed, IntKind.bits]; omega
  simp [go_sem, h2]
theorem cvI (w : World) (n : Nat) (h : n < 9223372036854775808) : (convert 3 22 (.int .i64 (n : Int))).run Try.prog w = .ok (.int .u64 (n : Int)) w := by
  have h2 : IntKind.u64.wrap (n : Int) = n := wrapU n (by omega)
  simp [go_sem, h2]
theorem wrapI (n : Nat) (h : n < 9223372036854775808) : IntKind.i64.wrap (n : Int) = (n : Int) := by
  simp [IntKind.wrap, IntKind.signed, IntKind.bits]; omega

section
variable (w : World) (j s : Nat) (mv : Value) (J : Jn) (n : Nat)
set_option maxRecDepth 100000 in
theorem end_any (h : JAt w j s mv J) (hl : J.live.length ≤ 1000) : Calls Try.prog 74 #[.pointer (some ⟨j, 0, none⟩)] w fun e w' => e = .returned (.int .u64 (J.nd : Int)) ∧ Fr (fun _ => False) w w' := by
  have HL := hide (lastMark_any w j s mv J h hl)
  unfold Jn.nd
  unfold Mk.v at HL
  clear h hl
  rcases hm : J.last with ⟨m0, m1, m2⟩
  rw [hm] at HL
  dsimp only at HL ⊢
  clear hm
  have kf : ∀ W : World, (Instr.field 130 (.agg #[.int .u64 (m0 : Int), .int .u64 (m1 : Int), .int .u64 (m2 : Int)]) 0).run Try.prog W = .ok (.int .u64 (m0 : Int)) W := fun _ => by kernel_rfl
  go_enter Try.func74, Try.ntmps74
  go_wp2_with fail
  refine (unhide HL).mono ?_
  rintro e w1 ⟨rfl, f1⟩
  have F1 := hide f1
  clear f1 HL
  go_wp2_with fail
  go_ret
  exact ⟨rfl, unhide F1⟩
set_option maxRecDepth 100000 in
theorem boot_any (h : JAt w j s mv J) : Calls Try.prog 49 #[.pointer (some ⟨j, 0, none⟩)] w fun e w' => e = .returned (.int .u64 (J.sup.b : Int)) ∧ w = w' := by
  have HN := hide (none_any w j s mv J h)
  have c4 := cell_of_heap h.heap 4
  simp at c4
  clear h
  go_enter Try.func49, Try.ntmps49
  go_wp2_with fail
  refine (unhide HN).mono ?_
  rintro e w1 ⟨rfl, rfl⟩
  go_wp2_with fail
  go_ret
  exact ⟨rfl, rfl⟩
set_option maxRecDepth 100000 in
theorem synced_any (h : JAt w j s mv J) : Calls Try.prog 44 #[.pointer (some ⟨j, 0, none⟩)] w fun e w' => e = .returned (.int .u64 (J.synced : Int)) ∧ w = w' := by
  have HN := hide (none_any w j s mv J h)
  have c4 := cell_of_heap h.heap 11
  simp at c4
  clear h
  go_enter Try.func44, Try.ntmps44
  go_wp2_with fail
  refine (unhide HN).mono ?_
  rintro e w1 ⟨rfl, rfl⟩
  go_wp2_with fail
  go_ret
  exact ⟨rfl, rfl⟩
set_option maxRecDepth 100000 in
theorem trimmed_any (h : JAt w j s mv J) : Calls Try.prog 45 #[.pointer (some ⟨j, 0, none⟩)] w fun e w' => e = .returned (.int .u64 (J.sup.l : Int)) ∧ w = w' := by
  have HN := hide (none_any w j s mv J h)
  have c4 := cell_of_heap h.heap 6
  simp at c4
  clear h
  go_enter Try.func45, Try.ntmps45
  go_wp2_with fail
  refine (unhide HN).mono ?_
  rintro e w1 ⟨rfl, rfl⟩
  go_wp2_with fail
  go_ret
  exact ⟨rfl, rfl⟩
set_option maxRecDepth 100000 in
theorem last_any (h : JAt w j s mv J) (ho : J.Ok n) : Calls Try.prog 46 #[.pointer (some ⟨j, 0, none⟩)] w fun e w' => e = .returned (.int .u64 (J.lst : Int)) ∧ Fr (fun _ => False) w w' := by
  have HN := hide (none_any w j s mv J h)
  have c6 := cell_of_heap h.heap 6
  have c9 := cell_of_heap h.heap 9
  simp at c6 c9
  obtain ⟨mo, mc, rfl⟩ := owns_shape h.mks
  have hl := ho.nd.2.1
  have hs := ho.sup.2.2.2.1
  have k1 : ∀ W : World, (convert 3 22 (.int .i64 (J.live.length : Int))).run Try.prog W = .ok (.int .u64 (J.live.length : Int)) W := fun W => cvI W _ (by omega)
  have k2 : IntKind.u64.wrap ((J.sup.l : Int) + (J.live.length : Int)) = (J.lst : Int) := by
    have := wrapU (J.sup.l + J.live.length) (by omega)
    unfold Jn.lst
    exact_mod_cast this
  clear h ho
  generalize J.live.length = a at *
  generalize J.sup.l = b at *
  generalize J.lst = c at *
  go_enter Try.func46, Try.ntmps46
  go_wp2_with fail
  refine (unhide HN).mono ?_
  rintro e w1 ⟨rfl, rfl⟩
  clear HN
  go_wp2_with fail
  go_quiet (fail)
  go_wp2_with fail
  go_ret
  exact ⟨rfl, Fr.ofDrewN _ _⟩
set_option maxRecDepth 100000 in
theorem blockOf_any (p : Nat) (h : JAt w j s mv J) (ho : J.Ok n) (hp : p < 18446744073709551616) : Calls Try.prog 89 #[.pointer (some ⟨j, 0, none⟩), .int .u64 (p : Int)] w fun e w' => e = .returned (.int .i64 (J.blk p : Int)) ∧ Fr (fun _ => False) w w' := by
  have c1 := cell_of_heap h.heap 1
  have c2 := cell_of_heap h.heap 2
  simp at c1 c2
  have hr := ho.ring
  have hpl := ho.place
  have k1 : ∀ W : World, (convert 3 22 (.int .i64 (J.ring : Int))).run Try.prog W = .ok (.int .u64 (J.ring : Int)) W := fun W => cvI W _ (by omega)
  have hlt : p % J.ring < J.ring := Nat.mod_lt _ (by omega)
  have hb : J.blk p = J.first + 2 + p % J.ring := rfl
  have k4 : (J.ring : Int) ≠ 0 := by omega
  have k6 : ((p : Int).tmod (J.ring : Int)) = ((p % J.ring : Nat) : Int) := by rw [Int.tmod_eq_emod_of_nonneg (by omega)]; simp
  have k7 : ((p : Int) % (J.ring : Int)) = ((p % J.ring : Nat) : Int) := by simp
  have k5 : ∀ W : World, (convert 22 3 (.int .u64 ((p % J.ring : Nat) : Int))).run Try.prog W = .ok (.int .i64 ((p % J.ring : Nat) : Int)) W := fun W => cvU W _ (by omega)
  have k8 : IntKind.i64.wrap ((J.first : Int) + 2 + ((p % J.ring : Nat) : Int)) = (J.blk p : Int) := by
    rw [hb]
    have := wrapI (J.first + 2 + p % J.ring) (by omega)
    exact_mod_cast this
  clear h ho
  generalize J.blk p = c at *
  generalize J.first = a at *
  generalize J.ring = b at *
  generalize p % b = q at *
  clear hb
  go_enter Try.func89, Try.ntmps89
  go_wp2_with fail
  go_quiet (fail)
  go_wp2_with fail
  go_ret
  exact ⟨rfl, Fr.ofDrewN _ _⟩
end
set_option maxHeartbeats 4000000 in
set_option maxRecDepth 100000 in
theorem gr3 {W : World} {j s n : Nat} {mv : Value} {J : Jn} {u1 u2 u3 u4 u5 u6 u7 u8 u9 u10 u11 u12 u13 u14 u15 u16 u17 u18 : Value} {Q : Exit → Act → World → Prop} (h : JAt W j s mv J) (ho : J.Ok n)
    (hQ : ∀ (y5 y6 y7 y8 y9 y10 y11 y12 y13 y14 y15 y16 y17 y18 : Value) (W' : World), Fr (fun _ => False) W W' → Q .normal ⟨#[.pointer (some ⟨j, 0, none⟩), u1, .int .i64 (J.room : Int), u3, u4, y5, y6, y7, y8, y9, y10, y11, y12, y13, y14, y15, y16, y17, y18], []⟩ W') : (rgF Try.f47 3).wp Try.prog Q ⟨#[.pointer (some ⟨j, 0, none⟩), u1, u2, u3, u4, u5, u6, u7, u8, u9, u10, u11, u12, u13, u14, u15, u16, u17, u18], []⟩ W := by
  have HQ := hide hQ
  clear hQ
  have HH := hide h
  have HO := hide ho
  have HS1 : Hid (IntKind.u64.wrap ((J.nd : Int) - (J.sup.p : Int)) = ((J.nd - J.sup.p : Nat) : Int)) := hide (by
    have h1 := ho.nd
    have h2 := wrapU (J.nd - J.sup.p) (by omega)
    rw [show ((J.nd : Int) - (J.sup.p : Int)) = ((J.nd - J.sup.p : Nat) : Int) by omega]; exact h2)
  have HS2 : Hid (∀ W : World, (convert 22 3 (.int .u64 ((J.nd - J.sup.p : Nat) : Int))).run Try.prog W = .ok (.int .i64 ((J.nd - J.sup.p : Nat) : Int)) W) := hide (fun W => cvU W _ (by have := ho.nd; omega))
  have HS3 : Hid (IntKind.i64.wrap ((J.ring : Int) - ((J.nd - J.sup.p : Nat) : Int)) = (J.room : Int)) := hide (by
    have h1 := ho.nd
    have h3 := ho.full
    have h4 := ho.place
    have h2 := wrapI J.room (by unfold Jn.room; omega)
    rw [show ((J.ring : Int) - ((J.nd - J.sup.p : Nat) : Int)) = (J.room : Int) by unfold Jn.room; omega]; exact h2)
  clear h ho
  conv => arg 2; whnf
  refine wp_nameK ?_
  intro a0 hA
  have h0 : a0.tmps.getD 0 undef = .pointer (some ⟨j, 0, none⟩) := by rw [hA]; rfl
  have hsz : a0.tmps.size = 19 := by rw [hA]; rfl
  have hdf : a0.defers = [] := by rw [hA]
  have HA0 := hide hA
  clear hA
  refine wp_region_kinds (fun _ => False) (by kernel_rfl) (by kernel_rfl) (by decide +kernel) (by rw [hsz]; decide +kernel) [.eq (.pointer (some ⟨j, 0, none⟩)), .eq (.pointer (some ⟨j, 0, none⟩)), .eq (.pointer (some ⟨j, 2, none⟩)), .eq (.int .i64 (J.ring : Int)), .eq (.pointer (some ⟨j, 0, none⟩)), .eq (.int .u64 (J.nd : Int)), .eq (.pointer (some ⟨j, 0, none⟩)), .eq (.pointer (some ⟨j, 0, none⟩)), .eq (.pointer (some ⟨j, 3, none⟩)), .eq (.pointer (some ⟨j, 5, none⟩)), .eq (.int .u64 (J.sup.p : Int)), .eq (.int .u64 (((J.nd - J.sup.p : Nat) : Int) : Int)), .eq (.int .i64 (((J.nd - J.sup.p : Nat) : Int) : Int)), .eq (.int .i64 (J.room : Int)), .eq (.int .i64 (J.room : Int))] [] (by decide) (by decide) (chain_paths _ [] (by kernel_rfl)) (fun _ _ => True) trivial ?steps ?done
  case steps =>
    refine ⟨?_, ?_⟩
    · intro a' w' k' hb hf hs hc hq hg hd
      exact ⟨wantedN rfl, k_val (.pointer (some ⟨j, 0, none⟩)) (by decide) hs (x_move rfl ((hb.old 0 (by decide +kernel)).trans h0)) rfl⟩
    refine ⟨?_, ?_⟩
    · intro a' w' k' hb hf hs hc hq hg hd
      exact ⟨wantedN rfl, k_val (.pointer (some ⟨j, 0, none⟩)) (by decide) hs (x_nilCheck rfl (hd 0 (by kernel_rfl) 5 rfl)) rfl⟩
    refine ⟨?_, ?_⟩
    · intro a' w' k' hb hf hs hc hq hg hd
      exact ⟨wantedN rfl, k_val (.pointer (some ⟨j, 2, none⟩)) (by decide) hs (x_field (of := 0) (off := 2) (fa115_2 j 0) rfl (hd 1 (by kernel_rfl) 6 rfl)) rfl⟩
    refine ⟨?_, ?_⟩
    · intro a' w' k' hb hf hs hc hq hg hd
      exact ⟨wantedN rfl, k_val (.int .i64 (J.ring : Int)) (by decide) hs (x_load1 ld3 rfl (hd 2 (by kernel_rfl) 7 rfl) (by have := cell_of_heap ((unhide HH).kept0 hf).heap 2; simpa using this)) rfl⟩
    refine ⟨?_, ?_⟩
    · intro a' w' k' hb hf hs hc hq hg hd
      exact ⟨wantedN rfl, k_val (.pointer (some ⟨j, 0, none⟩)) (by decide) hs (x_move rfl ((hb.old 0 (by decide +kernel)).trans h0)) rfl⟩
    refine ⟨?_, ?_⟩
    · intro a' w' k' hb hf hs hc hq hg hd
      exact ⟨wantedN rfl, k_call 74 _ (by decide) (e_call1 rfl rfl (hd 4 (by kernel_rfl) 9 rfl) (fun _ _ => by simp [go_sem])) ((end_any w' j s mv J ((unhide HH).kept0 hf) (unhide HO).nd.2.1).mono (by rintro e w9 ⟨rfl, f9⟩; exact ⟨_, rfl, rfl, f9, trivial⟩))⟩
    refine ⟨?_, ?_⟩
    · intro a' w' k' hb hf hs hc hq hg hd
      exact ⟨wantedN rfl, k_val (.pointer (some ⟨j, 0, none⟩)) (by decide) hs (x_move rfl ((hb.old 0 (by decide +kernel)).trans h0)) rfl⟩
    refine ⟨?_, ?_⟩
    · intro a' w' k' hb hf hs hc hq hg hd
      exact ⟨wantedN rfl, k_val (.pointer (some ⟨j, 0, none⟩)) (by decide) hs (x_nilCheck rfl (hd 6 (by kernel_rfl) 11 rfl)) rfl⟩
    refine ⟨?_, ?_⟩
    · intro a' w' k' hb hf hs hc hq hg hd
      exact ⟨wantedN rfl, k_val (.pointer (some ⟨j, 3, none⟩)) (by decide) hs (x_field (of := 0) (off := 3) (fa115_3 j 0) rfl (hd 7 (by kernel_rfl) 12 rfl)) rfl⟩
    refine ⟨?_, ?_⟩
    · intro a' w' k' hb hf hs hc hq hg hd
      exact ⟨wantedN rfl, k_val (.pointer (some ⟨j, 5, none⟩)) (by decide) hs (x_field (of := 3) (off := 2) (fa27_2 j 3) rfl (hd 8 (by kernel_rfl) 13 rfl)) rfl⟩
    refine ⟨?_, ?_⟩
    · intro a' w' k' hb hf hs hc hq hg hd
      exact ⟨wantedN rfl, k_val (.int .u64 (J.sup.p : Int)) (by decide) hs (x_load1 ldU rfl (hd 9 (by kernel_rfl) 14 rfl) (by have := cell_of_heap ((unhide HH).kept0 hf).heap 5; simpa using this)) rfl⟩
    refine ⟨?_, ?_⟩
    · intro a' w' k' hb hf hs hc hq hg hd
      exact ⟨wantedN rfl, k_val _ (by decide) trivial (x_subU rfl (hd 5 (by kernel_rfl) 10 rfl) (hd 10 (by kernel_rfl) 15 rfl) (unhide HS1)) rfl⟩
    refine ⟨?_, ?_⟩
    · intro a' w' k' hb hf hs hc hq hg hd
      exact ⟨wantedN rfl, k_val _ (by decide) trivial (x_conv rfl (hd 11 (by kernel_rfl) 16 rfl) (unhide HS2 _)) rfl⟩
    refine ⟨?_, ?_⟩
    · intro a' w' k' hb hf hs hc hq hg hd
      exact ⟨wantedN rfl, k_val _ (by decide) trivial (x_subI rfl (hd 3 (by kernel_rfl) 8 rfl) (hd 12 (by kernel_rfl) 17 rfl) (unhide HS3)) rfl⟩
    refine ⟨?_, ?_⟩
    · intro a' w' k' hb hf hs hc hq hg hd
      exact ⟨wantedN rfl, k_val (.int .i64 (J.room : Int)) (by decide) hs (x_assign rfl (hd 13 (by kernel_rfl) 18 rfl)) rfl⟩
    exact trivial
  case done =>
    intro a' w' hb hf hs hall
    have hfr := frame_eq (a := a') (vs := [.pointer (some ⟨j, 0, none⟩), u1, .int .i64 (J.room : Int), u3, u4, a'.tmps.getD 5 undef, a'.tmps.getD 6 undef, a'.tmps.getD 7 undef, a'.tmps.getD 8 undef, a'.tmps.getD 9 undef, a'.tmps.getD 10 undef, a'.tmps.getD 11 undef, a'.tmps.getD 12 undef, a'.tmps.getD 13 undef, a'.tmps.getD 14 undef, a'.tmps.getD 15 undef, a'.tmps.getD 16 undef, a'.tmps.getD 17 undef, a'.tmps.getD 18 undef]) (by rw [hb.size, hsz]; rfl) (by rw [hb.defers, hdf]) ⟨(hb.old 0 (by decide +kernel)).trans (by rw [unhide HA0]; rfl), (hb.old 1 (by decide +kernel)).trans (by rw [unhide HA0]; rfl), hall 14 (by decide) 2 rfl, (hb.old 3 (by decide +kernel)).trans (by rw [unhide HA0]; rfl), (hb.old 4 (by decide +kernel)).trans (by rw [unhide HA0]; rfl), rfl, rfl, rfl, rfl, rfl, rfl, rfl, rfl, rfl, rfl, rfl, rfl, rfl, rfl, trivial⟩
    rw [hfr]
    exact unhide HQ (a'.tmps.getD 5 undef) (a'.tmps.getD 6 undef) (a'.tmps.getD 7 undef) (a'.tmps.getD 8 undef) (a'.tmps.getD 9 undef) (a'.tmps.getD 10 undef) (a'.tmps.getD 11 undef) (a'.tmps.getD 12 undef) (a'.tmps.getD 13 undef) (a'.tmps.getD 14 undef) (a'.tmps.getD 15 undef) (a'.tmps.getD 16 undef) (a'.tmps.getD 17 undef) (a'.tmps.getD 18 undef) w' hf
theorem room_any (w : World) (j s : Nat) (mv : Value) (J : Jn) (n : Nat) (h : JAt w j s mv J) (ho : J.Ok n) : Calls Try.prog 47 #[.pointer (some ⟨j, 0, none⟩)] w fun e w' => e = .returned (.int .i64 (J.room : Int)) ∧ Fr (fun _ => False) w w' := by
  have HN := hide (none_any w j s mv J h)
  have HH := hide h
  have HO := hide ho
  clear h ho
  go_enter Try.func47, Try.ntmps47
  go_wp2_with fail
  refine (unhide HN).mono ?_
  rintro e w1 ⟨rfl, rfl⟩
  clear HN
  go_upto_region 3 with fail
  refine gr3 (unhide HH) (unhide HO) ?_
  intros
  rename_i W' hW
  have F := hide hW
  clear hW HH HO
  go_wp2_with fail
  go_ret
  exact ⟨rfl, unhide F⟩
end Go.Proofs.Ytgodlfoidjeekaa

namespace Go.Proofs.Ytgodlfoidjeekaa
set_option linter.unusedVariables false
set_option linter.unusedSimpArgs false
open Go.RowKit
set_option linter.unusedVariables false
set_option linter.unusedSimpArgs false

attribute [local go_sem ↓] Go.wp_at_zero Go.wp_at_succ

/-- What a call may turn: blocks of these kinds, in X or made since w0. -/
def Zs (X : Nat → Prop) (w0 w : World) (k : Nat) : Prop := (KD (knd w k) ∨ KJ (knd w k)) ∧ (X k ∨ w0.heap.size ≤ k)
theorem zs_trans {X : Nat → Prop} {w0 a b c : World} (f : Fr (Zs X w0 a) a b) (g : Fr (Zs X w0 b) b c) : Fr (Zs X w0 a) a c := f.trans g (fun k hk h => by
  by_cases e : Zs X w0 a k
  · exact e
  · have := knd_fr f e hk
    unfold Zs at h ⊢
    rw [this] at h
    exact h)
theorem zs_none {X : Nat → Prop} {w0 a b : World} (f : Fr (fun _ => False) a b) : Fr (Zs X w0 a) a b := f.mono (fun _ _ e => e.elim)
/-- Rows of other kinds stay. -/
theorem zs_rd {X : Nat → Prop} {w0 a b : World} (f : Fr (Zs X w0 a) a b) {v : Value} {l : List UInt8} (h : Rd a v l) (hk : ∀ k, v.ownBlock = some k → knd a k = 5) : Rd b v l := h.kept f (fun k e z => by
  have := hk k e
  have h1 := z.1
  unfold KD KJ at h1
  omega)
/-- Both in memory. -/
structure JS (X : Nat → Prop) (w0 w : World) (j s : Nat) (J : Jn) (D : Dv) : Prop where
  ex : ∃ mv sv qv, JAt w j s mv J ∧ DAt w s sv qv D ∧ ∀ b, (JB j mv b ∨ DB s sv qv b) → X b ∨ w0.heap.size ≤ b
  ok : J.Ok D.S.length
  sz : w0.heap.size ≤ w.heap.size
/-- The device alone. -/
structure DW (X : Nat → Prop) (w0 w : World) (s : Nat) (D : Dv) : Prop where
  ex : ∃ sv qv, DAt w s sv qv D ∧ ∀ b, DB s sv qv b → X b ∨ w0.heap.size ≤ b
  sz : w0.heap.size ≤ w.heap.size

section
variable {X : Nat → Prop} {w0 w w' : World} {j s : Nat} {J J' : Jn} {D D' : Dv} {mv mv' sv qv : Value}
theorem DW.kept0 (h : DW X w0 w s D) (f : Fr (fun _ => False) w w') : DW X w0 w' s D := by
  obtain ⟨⟨sv, qv, h1, h2⟩, h3⟩ := h
  exact ⟨⟨sv, qv, h1.kept0 f, h2⟩, Nat.le_trans h3 f.size⟩
theorem JS.kept0 (h : JS X w0 w j s J D) (f : Fr (fun _ => False) w w') : JS X w0 w' j s J D := by
  obtain ⟨⟨mv, sv, qv, h1, h2, h3⟩, h4, h5⟩ := h
  exact ⟨⟨mv, sv, qv, h1.kept0 f, h2.kept0 f, h3⟩, h4, Nat.le_trans h5 f.size⟩
theorem JS.dw (h : JS X w0 w j s J D) : DW X w0 w s D := by
  obtain ⟨⟨mv, sv, qv, h1, h2, h3⟩, h4, h5⟩ := h
  exact ⟨⟨sv, qv, h2, fun b e => h3 b (.inr e)⟩, h5⟩
theorem dw_dev (hD : DAt w s sv qv D) (hB : ∀ b, DB s sv qv b → X b ∨ w0.heap.size ≤ b) (sz : w0.heap.size ≤ w.heap.size) (h : DSt w w' s sv qv D') : DW X w0 w' s D' ∧ Fr (Zs X w0 w) w w' := by
  obtain ⟨⟨sv', qv', h1, h2⟩, f⟩ := h
  refine ⟨⟨⟨sv', qv', h1, fun b e => ?_⟩, Nat.le_trans sz f.size⟩, f.mono (fun k _ e => ⟨.inl (hD.knds e), hB k e⟩)⟩
  rcases h2 b e with e | e
  · exact hB b e
  · right; omega
theorem js_dev (hJ : JAt w j s mv J) (hD : DAt w s sv qv D) (hB : ∀ b, (JB j mv b ∨ DB s sv qv b) → X b ∨ w0.heap.size ≤ b) (ok : J.Ok D.S.length) (sz : w0.heap.size ≤ w.heap.size) (h : DSt w w' s sv qv D') (hl : D'.S.length = D.S.length) : JS X w0 w' j s J D' ∧ Fr (Zs X w0 w) w w' := by
  obtain ⟨⟨sv', qv', h1, h2⟩, f⟩ := h
  refine ⟨⟨⟨mv, sv', qv', hJ.kept f (fun k e z => not_KD_KJ (hJ.knds e) (hD.knds z)), h1, fun b e => ?_⟩, by rw [hl]; exact ok, Nat.le_trans sz f.size⟩, f.mono (fun k _ e => ⟨.inl (hD.knds e), hB k (.inr e)⟩)⟩
  rcases e with e | e
  · exact hB b (.inl e)
  · rcases h2 b e with e | e
    · exact hB b (.inr e)
    · right; omega
theorem js_jr (hJ : JAt w j s mv J) (hD : DAt w s sv qv D) (hB : ∀ b, (JB j mv b ∨ DB s sv qv b) → X b ∨ w0.heap.size ≤ b) (sz : w0.heap.size ≤ w.heap.size) (h : JAt w' j s mv' J') (f : Fr (JB j mv) w w') (hm : ∀ b, mv'.ownBlock = some b → mv.ownBlock = some b ∨ w.heap.size ≤ b) (ok : J'.Ok D.S.length) : JS X w0 w' j s J' D ∧ Fr (Zs X w0 w) w w' := by
  refine ⟨⟨⟨mv', sv, qv, h, hD.kept f (fun k e z => not_KD_KJ (hJ.knds z) (hD.knds e)), fun b e => ?_⟩, ok, Nat.le_trans sz f.size⟩, f.mono (fun k _ e => ⟨.inr (hJ.knds e), hB k (.inl e)⟩)⟩
  rcases e with (e | e) | e
  · exact hB b (.inl (.inl e))
  · rcases hm b e with e | e
    · exact hB b (.inl (.inr e))
    · right; omega
  · exact hB b (.inr e)
end
theorem wrD_len (d : Dv) (x : Nat) (l : List UInt8) : (wrD d x l).S.length = d.S.length := by
  unfold wrD
  split
  · rfl
  · split <;> rfl
theorem wrD_Q (d : Dv) (x : Nat) (l : List UInt8) : (wrD d x l).Q.length ≤ d.Q.length + 1 := by
  unfold wrD
  split
  · simp [Dv.fl]
  · split <;> simp [Dv.more, Dv.fl]
theorem flD_len (d : Dv) : (flD d).S.length = d.S.length := flI_len d d.Q.length

/-- Writing through the interface. -/
theorem dw_write {X : Nat → Prop} {w0 w : World} {s : Nat} {D : Dv} (h : DW X w0 w s D) (x : Nat) (v : Value) (l : List UInt8) (hx : x < D.S.length) (hV : Rd w v l) (hl : l.length = 384) (hq : D.Q.length < 1000000) (hvs : ∀ b, v.ownBlock = some b → knd w b = 5) : Calls Try.prog 64 #[.pointer (some ⟨s, 0, none⟩), .int .i64 (x : Int), v] w fun e w' => e = .returned (.int .i64 (wrE D)) ∧ DW X w0 w' s (wrD D x l) ∧ Fr (Zs X w0 w) w w' := by
  obtain ⟨⟨sv, qv, h1, h2⟩, h3⟩ := h
  refine (swrite_any w s sv qv D x v l hx hV hl hq hvs h1).mono ?_
  rintro e w' ⟨rfl, hd⟩
  exact ⟨rfl, dw_dev h1 h2 h3 hd⟩
theorem js_write {X : Nat → Prop} {w0 w : World} {j s : Nat} {J : Jn} {D : Dv} (h : JS X w0 w j s J D) (x : Nat) (v : Value) (l : List UInt8) (hx : x < D.S.length) (hV : Rd w v l) (hl : l.length = 384) (hq : D.Q.length < 1000000) (hvs : ∀ b, v.ownBlock = some b → knd w b = 5) : Calls Try.prog 64 #[.pointer (some ⟨s, 0, none⟩), .int .i64 (x : Int), v] w fun e w' => e = .returned (.int .i64 (wrE D)) ∧ JS X w0 w' j s J (wrD D x l) ∧ Fr (Zs X w0 w) w w' := by
  obtain ⟨⟨mv, sv, qv, h0, h1, h2⟩, h3, h4⟩ := h
  refine (swrite_any w s sv qv D x v l hx hV hl hq hvs h1).mono ?_
  rintro e w' ⟨rfl, hd⟩
  exact ⟨rfl, js_dev h0 h1 h2 h3 h4 hd (wrD_len _ _ _)⟩
theorem js_flush {X : Nat → Prop} {w0 w : World} {j s : Nat} {J : Jn} {D : Dv} (h : JS X w0 w j s J D) : Calls Try.prog 65 #[.pointer (some ⟨s, 0, none⟩)] w fun e w' => e = .returned (.int .i64 0) ∧ JS X w0 w' j s J (flD D) ∧ Fr (Zs X w0 w) w w' := by
  obtain ⟨⟨mv, sv, qv, h0, h1, h2⟩, h3, h4⟩ := h
  refine (sflush_any w s sv qv D h1).mono ?_
  rintro e w' ⟨rfl, hd⟩
  exact ⟨rfl, js_dev h0 h1 h2 h3 h4 hd (flD_len _)⟩
theorem dw_flush {X : Nat → Prop} {w0 w : World} {s : Nat} {D : Dv} (h : DW X w0 w s D) : Calls Try.prog 65 #[.pointer (some ⟨s, 0, none⟩)] w fun e w' => e = .returned (.int .i64 0) ∧ DW X w0 w' s (flD D) ∧ Fr (Zs X w0 w) w w' := by
  obtain ⟨⟨sv, qv, h1, h2⟩, h4⟩ := h
  refine (sflush_any w s sv qv D h1).mono ?_
  rintro e w' ⟨rfl, hd⟩
  exact ⟨rfl, dw_dev h1 h2 h4 hd⟩
theorem dw_len {X : Nat → Prop} {w0 w : World} {s : Nat} {D : Dv} (h : DW X w0 w s D) : Calls Try.prog 114 #[.pointer (some ⟨s, 0, none⟩)] w fun e w' => e = .returned (.int .i64 (D.S.length : Int)) ∧ w = w' := by
  obtain ⟨⟨sv, qv, h1, h2⟩, h4⟩ := h
  exact slen_any w s sv qv D h1
theorem dw_read {X : Nat → Prop} {w0 w : World} {s : Nat} {D : Dv} (h : DW X w0 w s D) (x : Nat) (hx : x < D.S.length) : Calls Try.prog 81 #[.pointer (some ⟨s, 0, none⟩), .int .i64 (x : Int)] w fun e w' => ∃ v, e = .returned (.tuple #[v, .int .i64 0]) ∧ RdN w w' v (rdB D x) := by
  obtain ⟨⟨sv, qv, h1, h2⟩, h4⟩ := h
  exact sread_any w s sv qv D x h1 hx

/-- Does a journal fit there? -/
def fitE (f c : Int) (n : Nat) : Int := if c < 6 ∨ f < 0 ∨ (n : Int) < f ∨ (n : Int) - f < c then 2 else 0
theorem fits_nil (w : World) (f c : Value) : Calls Try.prog 61 #[.nilIface, f, c] w fun e w' => e = .returned (.int .i64 7) ∧ w = w' := by
  go_enter Try.func61, Try.ntmps61
  go_wp2_with fail
  go_ret
  exact ⟨rfl, rfl⟩
set_option maxRecDepth 100000 in
set_option maxHeartbeats 1000000 in
theorem fits_any {X : Nat → Prop} {w0 : World} (w : World) (s : Nat) (D : Dv) (f c : Int) (hf : -9223372036854775808 ≤ f ∧ f ≤ 9223372036854775807) (h : DW X w0 w s D) (hn : D.S.length ≤ 1000) : Calls Try.prog 61 #[.iface 64 (.pointer (some ⟨s, 0, none⟩)), .int .i64 f, .int .i64 c] w fun e w' => e = .returned (.int .i64 (fitE f c D.S.length)) ∧ w = w' := by
  have HL := hide (dw_len h)
  clear h
  unfold fitE
  generalize D.S.length = n at *
  by_cases h1 : c < 6
  · rw [if_pos (.inl h1)]
    have b1 : decide (c < 6) = true := decide_eq_true h1
    go_enter Try.func61, Try.ntmps61
    go_wp2_with fail
    refine (unhide HL).mono ?_
    rintro e w' ⟨rfl, rfl⟩
    go_wp2_with fail
    go_ret
    exact ⟨rfl, rfl⟩
  · by_cases h2 : f < 0
    · rw [if_pos (.inr (.inl h2))]
      have b1 : decide (c < 6) = false := decide_eq_false h1
      have b2 : decide (f < 0) = true := decide_eq_true h2
      go_enter Try.func61, Try.ntmps61
      go_wp2_with fail
      refine (unhide HL).mono ?_
      rintro e w' ⟨rfl, rfl⟩
      go_wp2_with fail
      go_ret
      exact ⟨rfl, rfl⟩
    · by_cases h3 : (n : Int) < f
      · rw [if_pos (.inr (.inr (.inl h3)))]
        have b1 : decide (c < 6) = false := decide_eq_false h1
        have b2 : decide (f < 0) = false := decide_eq_false h2
        have b3 : decide ((n : Int) < f) = true := decide_eq_true h3
        go_enter Try.func61, Try.ntmps61
        go_wp2_with fail
        refine (unhide HL).mono ?_
        rintro e w' ⟨rfl, rfl⟩
        go_wp2_with fail
        go_ret
        exact ⟨rfl, rfl⟩
      · have b1 : decide (c < 6) = false := decide_eq_false h1
        have b2 : decide (f < 0) = false := decide_eq_false h2
        have b3 : decide ((n : Int) < f) = false := decide_eq_false h3
        have k1 : IntKind.i64.wrap ((n : Int) - f) = (n : Int) - f := by simp [IntKind.wrap, IntKind.signed, IntKind.bits]; omega
        by_cases h4 : (n : Int) - f < c
        · rw [if_pos (.inr (.inr (.inr h4)))]
          have b4 : decide ((n : Int) - f < c) = true := decide_eq_true h4
          obtain ⟨z, hz⟩ : ∃ z, z = (n : Int) - f := ⟨_, rfl⟩
          rw [← hz] at k1 b4 h4
          go_enter Try.func61, Try.ntmps61
          go_wp2_with fail
          refine (unhide HL).mono ?_
          rintro e w' ⟨rfl, rfl⟩
          go_wp2_with fail
          go_ret
          exact ⟨rfl, rfl⟩
        · rw [if_neg (by omega)]
          have b4 : decide ((n : Int) - f < c) = false := decide_eq_false h4
          obtain ⟨z, hz⟩ : ∃ z, z = (n : Int) - f := ⟨_, rfl⟩
          rw [← hz] at k1 b4 h4
          go_enter Try.func61, Try.ntmps61
          go_wp2_with fail
          refine (unhide HL).mono ?_
          rintro e w' ⟨rfl, rfl⟩
          go_wp2_with fail
          go_ret
          exact ⟨rfl, rfl⟩
end Go.Proofs.Ytgodlfoidjeekaa

namespace Go.Proofs.Ytgodlfoidjeekaa
set_option linter.unusedVariables false
set_option linter.unusedSimpArgs false
open Go.RowKit
set_option linter.unusedVariables false
set_option linter.unusedSimpArgs false

attribute [local go_sem ↓] Go.wp_at_zero Go.wp_at_succ

def Su.v (u : Su) : Value := .agg #[.int .u64 (u.g : Int), .int .u64 (u.b : Int), .int .u64 (u.p : Int), .int .u64 (u.l : Int), .int .u64 (u.x : Int), .int .u64 (u.y : Int)]
def Su.B (u : Su) : Bool := sbB u.g u.b u.p u.l u.x u.y
def Su.L (u : Su) : List UInt8 := suB u.g u.b u.p u.l u.x u.y
def Jn.place (J : Jn) (u : Su) : Nat := J.first + 1 - u.g % 2
/-- What writeSuper answers, and makes. -/
def wsE (D : Dv) (u : Su) : Int := if u.B = true then wrE D else 81
def wsD (J : Jn) (D : Dv) (u : Su) : Dv := if u.B = true then wrD D (J.place u) u.L else D
theorem Su.len (u : Su) : u.L.length = 384 := by
  unfold Su.L suB
  rw [List.length_append, List.length_append, List.length_replicate, lay_length]; rfl
theorem wsD_len (J : Jn) (D : Dv) (u : Su) : (wsD J D u).S.length = D.S.length := by
  unfold wsD; split
  · exact wrD_len _ _ _
  · rfl
theorem wsD_Q (J : Jn) (D : Dv) (u : Su) : (wsD J D u).Q.length ≤ D.Q.length + 1 := by
  unfold wsD; split
  · exact wrD_Q _ _ _
  · omega

section
variable {X : Nat → Prop} {w0 : World} (w : World) (j s : Nat) (J : Jn) (D : Dv)
set_option maxRecDepth 100000 in
set_option maxHeartbeats 1000000 in
theorem writeSuper_any (u : Su) (H : JS X w0 w j s J D) (hq : D.Q.length < 1000000) : Calls Try.prog 62 #[.pointer (some ⟨j, 0, none⟩), u.v] w fun e w' => e = .returned (.int .i64 (wsE D u)) ∧ JS X w0 w' j s J (wsD J D u) ∧ Fr (Zs X w0 w) w w' := by
  have fA : Fr (fun _ => False) w (w.alloc (.cells #[.int .u64 (u.g : Int), .int .u64 (u.b : Int), .int .u64 (u.p : Int), .int .u64 (u.l : Int), .int .u64 (u.x : Int), .int .u64 (u.y : Int)] 27)) := (Fr.refl _ _).alloc _
  have hA : (w.alloc (.cells #[.int .u64 (u.g : Int), .int .u64 (u.b : Int), .int .u64 (u.p : Int), .int .u64 (u.l : Int), .int .u64 (u.x : Int), .int .u64 (u.y : Int)] 27)).heap[w.heap.size]? = _ := heap_alloc_new w _
  have H1 := hide (H.kept0 fA)
  have HA := hide hA
  have FA := hide fA
  have hfirst := H.ok.place
  have hring := H.ok.ring
  have hL := hide u.len
  have hplace : (J.place u : Int) = (J.first : Int) + 1 - ((u.g % 2 : Nat) : Int) := by
    unfold Jn.place; have := Nat.mod_lt u.g (by decide : 0 < 2); omega
  have hplt : J.place u < D.S.length := by unfold Jn.place; omega
  have HPL := hide hplace
  have HPT := hide hplt
  have HQ := hide hq
  clear H fA hA hq hplace hplt
  unfold wsE wsD
  rcases hB : u.B with _ | _
  · rw [if_neg (by decide), if_neg (by decide)]
    have HC : Hid (∀ W : World, Calls Try.prog 13 #[u.v] W fun e w' => e = .returned (.tuple #[.slice none 0 0, .int .i64 81]) ∧ Fr (fun _ => False) W w') := hide (fun W => putSuper_no W _ _ _ _ _ _ hB)
    clear hB hfirst hring hL HPL HPT HQ
    unfold Su.v at *
    obtain ⟨g, b, p, l, x, y⟩ := u
    dsimp only at *
    go_enter Try.func62, Try.ntmps62
    go_wp2_with (first | (refine wl_loadR 27 6 _ Try.underlying27 (by kernel_rfl) (.tmp 3) rfl rfl w.heap.size rfl _ 27 (unhide HA) rfl ?_))
    refine (unhide HC _).mono ?_
    rintro e w1 ⟨rfl, f1⟩
    have H2 := hide ((unhide H1).kept0 f1)
    have F2 := hide (zs_none (X := X) (w0 := w0) ((unhide FA).trans f1 (fun _ _ e => e)))
    clear f1 HC HA FA H1
    go_wp2_with fail
    go_ret
    exact ⟨rfl, unhide H2, unhide F2⟩
  · rw [if_pos rfl, if_pos rfl]
    have HC : Hid (∀ W : World, Calls Try.prog 13 #[u.v] W fun e w' => ∃ q, e = .returned (.tuple #[.slice (some ⟨q, 0, none⟩) 384 384, .int .i64 0]) ∧ BAt w' q u.L ∧ W.heap.size ≤ q ∧ Fr (fun _ => False) W w') := hide (fun W => putSuper_ok W _ _ _ _ _ _ hB)
    clear hB
    generalize u.L = L at *
    unfold Su.v at *
    generalize J.place u = pl at *
    obtain ⟨g, b, p, l, x, y⟩ := u
    dsimp only at *
    go_enter Try.func62, Try.ntmps62
    go_wp2_with (first | (refine wl_loadR 27 6 _ Try.underlying27 (by kernel_rfl) (.tmp 3) rfl rfl w.heap.size rfl _ 27 (unhide HA) rfl ?_))
    refine (unhide HC _).mono ?_
    rintro e w1 ⟨q, rfl, hb1, hq1, f1⟩
    have hA2 := (f1.block _ (lt_of_heap (unhide HA)) id).trans (unhide HA)
    have d0 := cell_of_heap hA2 0
    simp at d0
    obtain ⟨⟨mv, sv, qv, hJ, -, -⟩, -, -⟩ := (unhide H1).kept0 f1
    have c0 := cell_of_heap hJ.heap 0
    have c1 := cell_of_heap hJ.heap 1
    simp at c0 c1
    have k1 : ∀ W : World, (convert 22 3 (.int .u64 ((g % 2 : Nat) : Int))).run Try.prog W = .ok (.int .i64 ((g % 2 : Nat) : Int)) W := fun W => cvU W _ (by omega)
    have k2 : ((g : Int).tmod 2) = ((g % 2 : Nat) : Int) := by rw [Int.tmod_eq_emod_of_nonneg (by omega)]; simp
    have k3 : ((g : Int) % 2) = ((g % 2 : Nat) : Int) := by simp
    have k4 : IntKind.i64.wrap ((J.first : Int) + 1 - ((g % 2 : Nat) : Int)) = (pl : Int) := by
      have := unhide HPL
      rw [← this]
      exact wrapI _ (by have := unhide HPT; omega)
    have HJ1 := hide ((unhide H1).kept0 f1)
    have HBB := hide hb1
    have F2 := hide ((unhide FA).trans f1 (fun _ _ e => e))
    generalize g % 2 = gm at *
    clear hb1 hq1 f1 HC HA H1 hJ hA2
    go_wp2_with fail
    go_quiet (fail)
    go_wp2_with fail
    have fq := Fr.ofDrewN (S := fun _ => False) w1 nq
    have hrd := ((unhide HBB).kept fq id).rd (by rw [unhide hL]; decide)
    rw [unhide hL] at hrd
    refine (js_write ((unhide HJ1).kept0 fq) pl _ L (unhide HPT) hrd (unhide hL) (unhide HQ) (fun k hk => by simp [Value.ownBlock] at hk; subst hk; exact knd_cells ((unhide HBB).kept fq id))).mono ?_
    rintro e w3 ⟨rfl, h3, f3⟩
    have H3 := hide h3
    have F3 := hide (zs_trans (zs_none (X := X) (w0 := w0) ((unhide F2).trans fq (fun _ _ e => e))) f3)
    clear h3 f3 hrd fq HJ1 HBB F2 FA
    go_wp2_with fail
    go_ret
    exact ⟨rfl, unhide H3, unhide F3⟩
end
end Go.Proofs.Ytgodlfoidjeekaa

namespace Go.Proofs.Ytgodlfoidjeekaa
set_option linter.unusedVariables false
set_option linter.unusedSimpArgs false
open Go.RowKit
set_option linter.unusedVariables false
set_option linter.unusedSimpArgs false

attribute [local go_sem ↓] Go.wp_at_zero Go.wp_at_succ

/-- All that was appended is synced. -/
def Jn.syn (J : Jn) : Jn := { J with synced := J.lst }
theorem Jn.Ok.syn {J : Jn} {n : Nat} (h : J.Ok n) : J.syn.Ok n :=
  ⟨h.place, h.ring, h.sup, h.marks, h.up, h.full, h.serial, by have := h.nd.2.1; have := h.sup.2.2.2.1; show J.sup.l + J.live.length ≤ _; omega⟩
theorem JAt.cell {w : World} {j s : Nat} {mv : Value} {J J' : Jn} (h : JAt w j s mv J) (i : Nat) (v : Value) (hl : J'.live = J.live) (hc : (#[.iface 64 (.pointer (some ⟨s, 0, none⟩)), .int .i64 (J.first : Int), .int .i64 (J.ring : Int), .int .u64 (J.sup.g : Int), .int .u64 (J.sup.b : Int), .int .u64 (J.sup.p : Int), .int .u64 (J.sup.l : Int), .int .u64 (J.sup.x : Int), .int .u64 (J.sup.y : Int), mv, .int .u64 (J.serial : Int), .int .u64 (J.synced : Int)] : Array Value).setIfInBounds i v = #[.iface 64 (.pointer (some ⟨s, 0, none⟩)), .int .i64 (J'.first : Int), .int .i64 (J'.ring : Int), .int .u64 (J'.sup.g : Int), .int .u64 (J'.sup.b : Int), .int .u64 (J'.sup.p : Int), .int .u64 (J'.sup.l : Int), .int .u64 (J'.sup.x : Int), .int .u64 (J'.sup.y : Int), mv, .int .u64 (J'.serial : Int), .int .u64 (J'.synced : Int)]) : JAt (w.setCell ⟨j, i, none⟩ v) j s mv J' ∧ Fr (JB j mv) w (w.setCell ⟨j, i, none⟩ v) := by
  have fs : Fr (fun k => k = j) w (w.setCell ⟨j, i, none⟩ v) := (Fr.refl (fun k => k = j) w).setCell (p := ⟨j, i, none⟩) (fun _ => rfl) _
  refine ⟨⟨?_, ?_⟩, fs.mono (fun _ _ e => .inl e)⟩
  · rw [heap_setCell_same w j i _ 115 v h.heap, hc]
  · rw [hl]; exact owns_kept h.mks fs (fun b hb e => h.ne b hb e)

section
variable {X : Nat → Prop} {w0 : World} (w : World) (j s : Nat) (J : Jn) (D : Dv)
set_option maxRecDepth 100000 in
set_option maxHeartbeats 1000000 in
theorem sync_any (H : JS X w0 w j s J D) : Calls Try.prog 38 #[.pointer (some ⟨j, 0, none⟩)] w fun e w' => e = .returned (.int .i64 0) ∧ JS X w0 w' j s J.syn (flD D) ∧ Fr (Zs X w0 w) w w' := by
  obtain ⟨mv, sv, qv, hJ, -, -⟩ := H.ex
  have HN := hide (none_any w j s mv J hJ)
  have c0 := cell_of_heap hJ.heap 0
  simp at c0
  have HF := hide (js_flush H)
  clear hJ
  go_enter Try.func38, Try.ntmps38
  go_wp2_with fail
  refine (unhide HN).mono ?_
  rintro e w1 ⟨rfl, rfl⟩
  clear HN
  go_wp2_with fail
  refine (unhide HF).mono ?_
  rintro e w1 ⟨rfl, h1, f1⟩
  have H1 := hide h1
  have F1 := hide f1
  obtain ⟨⟨mv1, sv1, qv1, hJ1, -, -⟩, ok1, -⟩ := h1
  have HL := hide (last_any w1 j s mv1 J _ hJ1 ok1)
  clear f1 HF hJ1 ok1 c0
  go_wp2_with fail
  refine (unhide HL).mono ?_
  rintro e w2 ⟨rfl, f2⟩
  have h2 := (unhide H1).kept0 f2
  have F2 := hide (zs_trans (unhide F1) (zs_none f2))
  obtain ⟨⟨mv2, sv2, qv2, hJ2, hD2, hB2⟩, ok2, sz2⟩ := h2
  have z6 := frozen_of_heap hJ2.heap 11
  have c6 := cell_of_heap hJ2.heap 11
  simp at c6
  obtain ⟨hJ3, f3⟩ := hJ2.cell (J' := J.syn) 11 (.int .u64 (J.lst : Int)) rfl rfl
  have HJ3 := hide (js_jr hJ2 hD2 hB2 sz2 hJ3 f3 (fun b e => .inl e) ok2.syn)
  clear f2 HL H1 F1 hJ2 hD2 hB2 ok2 sz2 hJ3 f3
  go_wp2_with fail
  go_ret
  exact ⟨rfl, (unhide HJ3).1, zs_trans (unhide F2) (unhide HJ3).2⟩

/-- What settle makes. -/
def stJ (J : Jn) (D : Dv) (u : Su) : Jn := if wsE D u = 0 then J.syn else J
def stD (J : Jn) (D : Dv) (u : Su) : Dv := if wsE D u = 0 then flD (wsD J D u) else wsD J D u
theorem stD_len (J : Jn) (D : Dv) (u : Su) : (stD J D u).S.length = D.S.length := by
  unfold stD; split
  · rw [flD_len, wsD_len]
  · exact wsD_len _ _ _
set_option maxRecDepth 100000 in
set_option maxHeartbeats 1000000 in
theorem settle_any (u : Su) (H : JS X w0 w j s J D) (hq : D.Q.length < 1000000) : Calls Try.prog 77 #[.pointer (some ⟨j, 0, none⟩), u.v] w fun e w' => e = .returned (.int .i64 (wsE D u)) ∧ JS X w0 w' j s (stJ J D u) (stD J D u) ∧ Fr (Zs X w0 w) w w' := by
  have fA : Fr (fun _ => False) w (w.alloc (.cells #[.int .u64 (u.g : Int), .int .u64 (u.b : Int), .int .u64 (u.p : Int), .int .u64 (u.l : Int), .int .u64 (u.x : Int), .int .u64 (u.y : Int)] 27)) := (Fr.refl _ _).alloc _
  have hA : (w.alloc (.cells #[.int .u64 (u.g : Int), .int .u64 (u.b : Int), .int .u64 (u.p : Int), .int .u64 (u.l : Int), .int .u64 (u.x : Int), .int .u64 (u.y : Int)] 27)).heap[w.heap.size]? = _ := heap_alloc_new w _
  have HC := hide (writeSuper_any _ j s J D u (H.kept0 fA) hq)
  have HA := hide hA
  have FA := hide fA
  clear H fA hA hq
  unfold stJ stD
  generalize wsD J D u = D1 at *
  generalize hE : wsE D u = E at *
  unfold Su.v at *
  obtain ⟨g, b, p, l, x, y⟩ := u
  dsimp only at *
  by_cases h0 : E = 0
  · rw [if_pos h0, if_pos h0]
    subst h0
    go_enter Try.func77, Try.ntmps77
    go_wp2_with (first | (refine wl_loadR 27 6 _ Try.underlying27 (by kernel_rfl) (.tmp 3) rfl rfl w.heap.size rfl _ 27 (unhide HA) rfl ?_))
    refine (unhide HC).mono ?_
    rintro e w1 ⟨rfl, h1, f1⟩
    have H1 := hide h1
    have F1 := hide (zs_trans (zs_none (unhide FA)) f1)
    clear h1 f1 HC HA FA
    go_wp2_with fail
    refine (sync_any w1 j s J D1 (unhide H1)).mono ?_
    rintro e w2 ⟨rfl, h2, f2⟩
    have H2 := hide h2
    have F2 := hide (zs_trans (unhide F1) f2)
    clear h2 f2 F1 H1
    go_wp2_with fail
    go_ret
    exact ⟨rfl, unhide H2, unhide F2⟩
  · rw [if_neg h0, if_neg h0]
    have b1 : (E != 0) = true := by simpa using h0
    go_enter Try.func77, Try.ntmps77
    go_wp2_with (first | (refine wl_loadR 27 6 _ Try.underlying27 (by kernel_rfl) (.tmp 3) rfl rfl w.heap.size rfl _ 27 (unhide HA) rfl ?_))
    refine (unhide HC).mono ?_
    rintro e w1 ⟨rfl, h1, f1⟩
    have H1 := hide h1
    have F1 := hide (zs_trans (zs_none (unhide FA)) f1)
    clear h1 f1 HC HA FA
    go_wp2_with fail
    go_ret
    exact ⟨rfl, unhide H1, unhide F1⟩
end
end Go.Proofs.Ytgodlfoidjeekaa

namespace Go.Proofs.Ytgodlfoidjeekaa
set_option linter.unusedVariables false
set_option linter.unusedSimpArgs false
open Go.RowKit
set_option linter.unusedVariables false
set_option linter.unusedSimpArgs false

attribute [local go_sem ↓] Go.wp_at_zero Go.wp_at_succ

theorem zs_S {X : Nat → Prop} {w0 W w w2 : World} (f : Fr (fun _ => False) W w) (g : Fr (Zs X w0 w) w w2) : Fr (fun k => Zs X w0 W k ∨ W.heap.size ≤ k) w w2 := g.mono (fun k hk e => by
  by_cases h : k < W.heap.size
  · left; unfold Zs at e ⊢; rwa [knd_fr f id h] at e
  · right; omega)
theorem mWrite (h : Nat) (w : World) : (method 267 64 (.pointer (some ⟨h, 0, none⟩)) "Write").run Try.prog w = .ok (64, .pointer (some ⟨h, 0, none⟩)) w := by kernel_rfl
theorem mRead (h : Nat) (w : World) : (method 267 64 (.pointer (some ⟨h, 0, none⟩)) "Read").run Try.prog w = .ok (81, .pointer (some ⟨h, 0, none⟩)) w := by kernel_rfl
section
variable {ρ : Operand → Value} {o : Oper} {w : World} {x y z : Operand} {s : Nat}
theorem x_mkM (ho : o.op = .makeFunc (.method "Write") #[x] #[]) (hx : ρ x = .iface 64 (.pointer (some ⟨s, 0, none⟩))) : (execOp ρ o).run Try.prog w = .ok (.value (.func (.method "Write") #[.iface 64 (.pointer (some ⟨s, 0, none⟩))] #[])) w := by
  simp [execOp, ho, hx, go_sem]
theorem x_nilCheckM (ho : o.op = .nilCheck x) (hx : ρ x = .func (.method "Write") #[.iface 64 (.pointer (some ⟨s, 0, none⟩))] #[]) : (execOp ρ o).run Try.prog w = .ok (.value (.func (.method "Write") #[.iface 64 (.pointer (some ⟨s, 0, none⟩))] #[])) w := by
  have h : ∀ W : World, (execOp (fun _ => .func (.method "Write") #[.iface 64 (.pointer (some ⟨s, 0, none⟩))] #[]) { dst := none, op := .nilCheck (.tmp 0), type := 0, pos := "", after := #[], guard := none }).run Try.prog W = .ok (.value (.func (.method "Write") #[.iface 64 (.pointer (some ⟨s, 0, none⟩))] #[])) W := fun W => by kernel_rfl
  have h2 := h w
  unfold execOp at h2 ⊢
  simp only [ho, hx]
  exact h2
theorem x_nilCheckI {t : TypeId} {u : Value} (ho : o.op = .nilCheck x) (hx : ρ x = .iface t u) : (execOp ρ o).run Try.prog w = .ok (.value (.iface t u)) w := by
  simp [execOp, ho, hx, go_sem]
theorem e_invW {t : Array TypeId} {a b : Value} (ho : o.op = .call { callee := .invoke x "Write", args := #[y, z], argTypes := t }) (hx : ρ x = .iface 64 (.pointer (some ⟨s, 0, none⟩))) (hy : ρ y = a) (hz : ρ z = b) : (execOp ρ o).run Try.prog w = .ok (.enter 64 #[.pointer (some ⟨s, 0, none⟩), a, b]) w := by
  simp [execOp, ho, hx, hy, hz, go_sem, mWrite]
theorem e_invR {t : Array TypeId} {a : Value} (ho : o.op = .call { callee := .invoke x "Read", args := #[y], argTypes := t }) (hx : ρ x = .iface 64 (.pointer (some ⟨s, 0, none⟩))) (hy : ρ y = a) : (execOp ρ o).run Try.prog w = .ok (.enter 81 #[.pointer (some ⟨s, 0, none⟩), a]) w := by
  simp [execOp, ho, hx, hy, go_sem, mRead]
theorem x_mk23 {n : Nat} {w2 : World} {v : Value} (ho : o.op = .makeSlice 23 (.const (.int .i64 (n : Int))) (.const (.int .i64 (n : Int)))) (hc : ρ (.const (.int .i64 (n : Int))) = .int .i64 (n : Int)) (hr : (Instr.makeSlice 23 (.int .i64 (n : Int)) (.int .i64 (n : Int))).run Try.prog w = .ok v w2) : (execOp ρ o).run Try.prog w = .ok (.value v) w2 := by
  simp [execOp, ho, hc, hr]
end
set_option maxHeartbeats 4000000 in
set_option maxRecDepth 100000 in
theorem gf7 {W : World} {X : Nat → Prop} {w0 : World} {s x : Nat} {D : Dv} {u1 u2 u3 u4 u5 u6 u7 u9 u10 u11 u12 u13 u14 u15 u16 u17 u18 u19 u20 u21 u22 u23 u24 u25 u26 u27 u28 u29 u30 u31 u32 u33 u34 u35 u36 u37 u38 u39 u40 u41 u42 u43 u44 u45 u46 u47 u48 u49 u50 u51 u52 u53 u54 u55 u56 u57 u58 u59 u60 u61 u62 u63 u64 : Value} {Q : Exit → Act → World → Prop} (h : DW X w0 W s D) (hX : x < D.S.length) (hQL : D.Q.length < 1000000)
    (hQ : ∀ (y30 y31 y32 y33 y34 y35 y36 : Value) (W' : World), DW X w0 W' s (wrD D x z384) ∧ Fr (Zs X w0 W) W W' → Q .normal ⟨#[.iface 64 (.pointer (some ⟨s, 0, none⟩)), u1, u2, u3, u4, u5, u6, u7, .int .i64 (x : Int), .int .i64 (wrE D), u10, u11, u12, u13, u14, u15, u16, u17, u18, u19, u20, u21, u22, u23, u24, u25, u26, u27, u28, u29, y30, y31, y32, y33, y34, y35, y36, u37, u38, u39, u40, u41, u42, u43, u44, u45, u46, u47, u48, u49, u50, u51, u52, u53, u54, u55, u56, u57, u58, u59, u60, u61, u62, u63, u64], []⟩ W') : (rgF Try.f31 7).wp Try.prog Q ⟨#[.iface 64 (.pointer (some ⟨s, 0, none⟩)), u1, u2, u3, u4, u5, u6, u7, .int .i64 (x : Int), u9, u10, u11, u12, u13, u14, u15, u16, u17, u18, u19, u20, u21, u22, u23, u24, u25, u26, u27, u28, u29, u30, u31, u32, u33, u34, u35, u36, u37, u38, u39, u40, u41, u42, u43, u44, u45, u46, u47, u48, u49, u50, u51, u52, u53, u54, u55, u56, u57, u58, u59, u60, u61, u62, u63, u64], []⟩ W := by
  have HQ := hide hQ
  clear hQ
  have HD := hide h
  clear h
  conv => arg 2; whnf
  refine wp_nameK ?_
  intro a0 hA
  have h0 : a0.tmps.getD 0 undef = .iface 64 (.pointer (some ⟨s, 0, none⟩)) := by rw [hA]; rfl
  have h8 : a0.tmps.getD 8 undef = .int .i64 (x : Int) := by rw [hA]; rfl
  have hsz : a0.tmps.size = 65 := by rw [hA]; rfl
  have hdf : a0.defers = [] := by rw [hA]
  have HA0 := hide hA
  clear hA
  refine wp_region_kinds (fun k => Zs X w0 W k ∨ W.heap.size ≤ k) (by kernel_rfl) (by kernel_rfl) (by decide +kernel) (by rw [hsz]; decide +kernel) [.eq (.iface 64 (.pointer (some ⟨s, 0, none⟩))), .eq (.int .i64 (x : Int)), .st 0 (fun v w => ∃ b, v = .slice (some ⟨b, 0, none⟩) 384 384 ∧ BAt w b z384) (fun v w1 w2 h f => by obtain ⟨b, e, h⟩ := h; exact ⟨b, e, h.kept f id⟩), .eq (.func (.method "Write") #[.iface 64 (.pointer (some ⟨s, 0, none⟩))] #[]), .eq (.func (.method "Write") #[.iface 64 (.pointer (some ⟨s, 0, none⟩))] #[]), .eq (.iface 64 (.pointer (some ⟨s, 0, none⟩))), .eq (.int .i64 (wrE D)), .eq (.int .i64 (wrE D))] [6] (by decide) (by decide) (chain_paths _ [] (by kernel_rfl)) (fun k w => match k with | 0 => Fr (fun _ => False) W w | _ => DW X w0 w s (wrD D x z384) ∧ Fr (Zs X w0 W) W w) (Fr.refl _ _).drew ?steps ?done
  case steps =>
    refine ⟨?_, ?_⟩
    · intro a' w' k' hb hf hs hc hq hg hd
      exact ⟨wantedN rfl, k_val (.iface 64 (.pointer (some ⟨s, 0, none⟩))) (by decide) hs (x_move rfl ((hb.old 0 (by decide +kernel)).trans h0)) rfl⟩
    refine ⟨?_, ?_⟩
    · intro a' w' k' hb hf hs hc hq hg hd
      exact ⟨wantedN rfl, k_val (.int .i64 (x : Int)) (by decide) hs (x_move rfl ((hb.old 8 (by decide +kernel)).trans h8)) rfl⟩
    refine ⟨?_, ?_⟩
    · intro a' w' k' hb hf hs hc hq hg hd
      obtain rfl : k' = 0 := Nat.le_zero.1 (hq 0 6 rfl (waits (by kernel_rfl)))
      have hs' : Fr (fun _ => False) W w' := hs
      obtain ⟨w2, hm2, hb2, f2⟩ := mk_any w' 384 (by decide)
      exact ⟨wantedN rfl, k_new _ w2 (by decide) (hs'.trans f2 (fun _ _ e => e)) f2 (x_mk23 (n := 384) rfl rfl hm2) ⟨Nat.le_refl _, fun _ => ⟨_, rfl, hb2⟩⟩⟩
    refine ⟨?_, ?_⟩
    · intro a' w' k' hb hf hs hc hq hg hd
      exact ⟨wantedN rfl, k_val (.func (.method "Write") #[.iface 64 (.pointer (some ⟨s, 0, none⟩))] #[]) (by decide) hs (x_mkM rfl (hd 0 (by kernel_rfl) 30 rfl)) rfl⟩
    refine ⟨?_, ?_⟩
    · intro a' w' k' hb hf hs hc hq hg hd
      exact ⟨wantedN rfl, k_val (.func (.method "Write") #[.iface 64 (.pointer (some ⟨s, 0, none⟩))] #[]) (by decide) hs (x_nilCheckM rfl (hd 3 (by kernel_rfl) 33 rfl)) rfl⟩
    refine ⟨?_, ?_⟩
    · intro a' w' k' hb hf hs hc hq hg hd
      exact ⟨wantedN rfl, k_val (.iface 64 (.pointer (some ⟨s, 0, none⟩))) (by decide) hs (x_move rfl (hd 0 (by kernel_rfl) 30 rfl)) rfl⟩
    refine ⟨?_, ?_⟩
    · intro a' w' k' hb hf hs hc hq hg hd
      obtain rfl := hc 0 rfl
      have hs' : Fr (fun _ => False) W w' := hs
      obtain ⟨-, h9⟩ := (hd 2 (by kernel_rfl) 32 rfl)
      obtain ⟨b9, e9, h9⟩ := h9 rfl
      have hrd := h9.rd (by decide)
      exact ⟨wantedN rfl, k_callC 64 _ (by decide) (e_invW rfl (hd 5 (by kernel_rfl) 35 rfl) (hd 1 (by kernel_rfl) 31 rfl) e9) ((dw_write ((unhide HD).kept0 hs') x _ z384 hX hrd rfl hQL (fun k hk => by simp [Value.ownBlock] at hk; subst hk; exact knd_cells h9)).mono (by rintro e w7 ⟨rfl, h1, f⟩; exact ⟨_, rfl, rfl, zs_S hs' f, h1, zs_trans (zs_none hs') f⟩))⟩
    refine ⟨?_, ?_⟩
    · intro a' w' k' hb hf hs hc hq hg hd
      exact ⟨wantedN rfl, k_val (.int .i64 (wrE D)) (by decide) hs (x_assign rfl (hd 6 (by kernel_rfl) 36 rfl)) rfl⟩
    exact trivial
  case done =>
    intro a' w' hb hf hs hall
    have hslots : Slots a' 0 [.iface 64 (.pointer (some ⟨s, 0, none⟩)), u1, u2, u3, u4, u5, u6, u7, .int .i64 (x : Int), .int .i64 (wrE D), u10, u11, u12, u13, u14, u15, u16, u17, u18, u19, u20, u21, u22, u23, u24, u25, u26, u27, u28, u29, a'.tmps.getD 30 undef, a'.tmps.getD 31 undef, a'.tmps.getD 32 undef, a'.tmps.getD 33 undef, a'.tmps.getD 34 undef, a'.tmps.getD 35 undef, a'.tmps.getD 36 undef, u37, u38, u39, u40, u41, u42, u43, u44, u45, u46, u47, u48, u49, u50, u51, u52, u53, u54, u55, u56, u57, u58, u59, u60, u61, u62, u63, u64] := ⟨(hb.old 0 (by decide +kernel)).trans (by rw [unhide HA0]; rfl), (hb.old 1 (by decide +kernel)).trans (by rw [unhide HA0]; rfl), (hb.old 2 (by decide +kernel)).trans (by rw [unhide HA0]; rfl), (hb.old 3 (by decide +kernel)).trans (by rw [unhide HA0]; rfl), (hb.old 4 (by decide +kernel)).trans (by rw [unhide HA0]; rfl), (hb.old 5 (by decide +kernel)).trans (by rw [unhide HA0]; rfl), (hb.old 6 (by decide +kernel)).trans (by rw [unhide HA0]; rfl), (hb.old 7 (by decide +kernel)).trans (by rw [unhide HA0]; rfl), (hb.old 8 (by decide +kernel)).trans (by rw [unhide HA0]; rfl), hall 7 (by decide) 9 rfl, (hb.old 10 (by decide +kernel)).trans (by rw [unhide HA0]; rfl), (hb.old 11 (by decide +kernel)).trans (by rw [unhide HA0]; rfl), (hb.old 12 (by decide +kernel)).trans (by rw [unhide HA0]; rfl), (hb.old 13 (by decide +kernel)).trans (by rw [unhide HA0]; rfl), (hb.old 14 (by decide +kernel)).trans (by rw [unhide HA0]; rfl), (hb.old 15 (by decide +kernel)).trans (by rw [unhide HA0]; rfl), (hb.old 16 (by decide +kernel)).trans (by rw [unhide HA0]; rfl), (hb.old 17 (by decide +kernel)).trans (by rw [unhide HA0]; rfl), (hb.old 18 (by decide +kernel)).trans (by rw [unhide HA0]; rfl), (hb.old 19 (by decide +kernel)).trans (by rw [unhide HA0]; rfl), (hb.old 20 (by decide +kernel)).trans (by rw [unhide HA0]; rfl), (hb.old 21 (by decide +kernel)).trans (by rw [unhide HA0]; rfl), (hb.old 22 (by decide +kernel)).trans (by rw [unhide HA0]; rfl), (hb.old 23 (by decide +kernel)).trans (by rw [unhide HA0]; rfl), (hb.old 24 (by decide +kernel)).trans (by rw [unhide HA0]; rfl), (hb.old 25 (by decide +kernel)).trans (by rw [unhide HA0]; rfl), (hb.old 26 (by decide +kernel)).trans (by rw [unhide HA0]; rfl), (hb.old 27 (by decide +kernel)).trans (by rw [unhide HA0]; rfl), (hb.old 28 (by decide +kernel)).trans (by rw [unhide HA0]; rfl), (hb.old 29 (by decide +kernel)).trans (by rw [unhide HA0]; rfl), rfl, rfl, rfl, rfl, rfl, rfl, rfl, (hb.old 37 (by decide +kernel)).trans (by rw [unhide HA0]; rfl), (hb.old 38 (by decide +kernel)).trans (by rw [unhide HA0]; rfl), (hb.old 39 (by decide +kernel)).trans (by rw [unhide HA0]; rfl), (hb.old 40 (by decide +kernel)).trans (by rw [unhide HA0]; rfl), (hb.old 41 (by decide +kernel)).trans (by rw [unhide HA0]; rfl), (hb.old 42 (by decide +kernel)).trans (by rw [unhide HA0]; rfl), (hb.old 43 (by decide +kernel)).trans (by rw [unhide HA0]; rfl), (hb.old 44 (by decide +kernel)).trans (by rw [unhide HA0]; rfl), (hb.old 45 (by decide +kernel)).trans (by rw [unhide HA0]; rfl), (hb.old 46 (by decide +kernel)).trans (by rw [unhide HA0]; rfl), (hb.old 47 (by decide +kernel)).trans (by rw [unhide HA0]; rfl), (hb.old 48 (by decide +kernel)).trans (by rw [unhide HA0]; rfl), (hb.old 49 (by decide +kernel)).trans (by rw [unhide HA0]; rfl), (hb.old 50 (by decide +kernel)).trans (by rw [unhide HA0]; rfl), (hb.old 51 (by decide +kernel)).trans (by rw [unhide HA0]; rfl), (hb.old 52 (by decide +kernel)).trans (by rw [unhide HA0]; rfl), (hb.old 53 (by decide +kernel)).trans (by rw [unhide HA0]; rfl), (hb.old 54 (by decide +kernel)).trans (by rw [unhide HA0]; rfl), (hb.old 55 (by decide +kernel)).trans (by rw [unhide HA0]; rfl), (hb.old 56 (by decide +kernel)).trans (by rw [unhide HA0]; rfl), (hb.old 57 (by decide +kernel)).trans (by rw [unhide HA0]; rfl), (hb.old 58 (by decide +kernel)).trans (by rw [unhide HA0]; rfl), (hb.old 59 (by decide +kernel)).trans (by rw [unhide HA0]; rfl), (hb.old 60 (by decide +kernel)).trans (by rw [unhide HA0]; rfl), (hb.old 61 (by decide +kernel)).trans (by rw [unhide HA0]; rfl), (hb.old 62 (by decide +kernel)).trans (by rw [unhide HA0]; rfl), (hb.old 63 (by decide +kernel)).trans (by rw [unhide HA0]; rfl), (hb.old 64 (by decide +kernel)).trans (by rw [unhide HA0]; rfl), trivial⟩
    have hfr := frame_eq (a := a') (by rw [hb.size, hsz]; rfl) (by rw [hb.defers, hdf]) hslots
    rw [hfr]
    exact unhide HQ (a'.tmps.getD 30 undef) (a'.tmps.getD 31 undef) (a'.tmps.getD 32 undef) (a'.tmps.getD 33 undef) (a'.tmps.getD 34 undef) (a'.tmps.getD 35 undef) (a'.tmps.getD 36 undef) w' hs
end Go.Proofs.Ytgodlfoidjeekaa

namespace Go.Proofs.Ytgodlfoidjeekaa
set_option linter.unusedVariables false
set_option linter.unusedSimpArgs false
open Go.RowKit
set_option linter.unusedVariables false
set_option linter.unusedSimpArgs false

attribute [local go_sem ↓] Go.wp_at_zero Go.wp_at_succ

/-- Zeros to the first n blocks of the ring. -/
def fmW (D : Dv) (f : Nat) : Nat → Dv × Int
  | 0 => (D, 0)
  | i + 1 => if (fmW D f i).2 = 0 then (wrD (fmW D f i).1 (f + 2 + i) z384, wrE (fmW D f i).1) else fmW D f i
def su1 (g : Nat) : Su := ⟨g, 1, 0, 0, 0, 0⟩
def su0 : Su := ⟨0, 0, 0, 0, 0, 0⟩
/-- The first g superblocks. -/
def fmS (J : Jn) (D : Dv) : Nat → Dv × Int
  | 0 => (D, 0)
  | g + 1 => if (fmS J D g).2 = 0 then (wsD J (fmS J D g).1 (su1 (g + 1)), wsE (fmS J D g).1 (su1 (g + 1))) else fmS J D g
/-- A journal that nobody opened. -/
def jn0 (f c : Nat) : Jn := ⟨f, c - 2, su0, [], 0, 0⟩
/-- What Format makes, and answers. -/
def fmtR (D : Dv) (f c : Nat) : Dv × Int :=
  if (fmW D f (c - 2)).2 = 0 then (if (fmS (jn0 f c) (flD (fmW D f (c - 2)).1) 2).2 = 0 then (flD (fmS (jn0 f c) (flD (fmW D f (c - 2)).1) 2).1, 0) else fmS (jn0 f c) (flD (fmW D f (c - 2)).1) 2) else fmW D f (c - 2)
theorem fmW_len (D : Dv) (f i : Nat) : (fmW D f i).1.S.length = D.S.length ∧ (fmW D f i).1.Q.length ≤ D.Q.length + i := by
  induction i with
  | zero => exact ⟨rfl, Nat.le_refl _⟩
  | succ i ih =>
    unfold fmW
    split
    · refine ⟨(wrD_len _ _ _).trans ih.1, ?_⟩
      have := wrD_Q (fmW D f i).1 (f + 2 + i) z384
      dsimp only
      omega
    · exact ⟨ih.1, by omega⟩
theorem fmW_stop (D : Dv) (f i : Nat) (h : (fmW D f i).2 ≠ 0) (k : Nat) : fmW D f (i + k) = fmW D f i := by
  induction k with
  | zero => rfl
  | succ k ih =>
    show (if (fmW D f (i + k)).2 = 0 then _ else fmW D f (i + k)) = _
    rw [ih, if_neg h]
theorem fmS_len (J : Jn) (D : Dv) (g : Nat) : (fmS J D g).1.S.length = D.S.length ∧ (fmS J D g).1.Q.length ≤ D.Q.length + g := by
  induction g with
  | zero => exact ⟨rfl, Nat.le_refl _⟩
  | succ g ih =>
    unfold fmS
    split
    · refine ⟨(wsD_len _ _ _).trans ih.1, ?_⟩
      have := wsD_Q J (fmS J D g).1 (su1 (g + 1))
      dsimp only
      omega
    · exact ⟨ih.1, by omega⟩
theorem fmS_stop (J : Jn) (D : Dv) (i : Nat) (h : (fmS J D i).2 ≠ 0) (k : Nat) : fmS J D (i + k) = fmS J D i := by
  induction k with
  | zero => rfl
  | succ k ih =>
    show (if (fmS J D (i + k)).2 = 0 then _ else fmS J D (i + k)) = _
    rw [ih, if_neg h]
theorem jn0_ok (f c n : Nat) (h1 : 6 ≤ c) (h2 : f + c ≤ n) (h3 : n ≤ 1000) : (jn0 f c).Ok n :=
  ⟨by show f + 2 + (c - 2) ≤ n ∧ n ≤ 1000; omega, by show 4 ≤ c - 2; omega, by show su0.Ok; unfold Su.Ok su0; decide, fun m hm => by simp [jn0] at hm, trivial, by show su0.p ≤ su0.p + (c - 2); omega, by show 0 ≤ _; omega, by show 0 ≤ _; omega⟩
/-- A new journal in memory. -/
theorem DW.jn {X : Nat → Prop} {w0 w : World} {s : Nat} {D : Dv} {f c : Nat} (h : DW X w0 w s D) (ok : (jn0 f c).Ok D.S.length) :
    JS X w0 (w.alloc (.cells #[.iface 64 (.pointer (some ⟨s, 0, none⟩)), .int .i64 (f : Int), .int .i64 ((c - 2 : Nat) : Int), .int .u64 0, .int .u64 0, .int .u64 0, .int .u64 0, .int .u64 0, .int .u64 0, .slice none 0 0, .int .u64 0, .int .u64 0] 115)) w.heap.size s (jn0 f c) D := by
  obtain ⟨⟨sv, qv, h1, h2⟩, h3⟩ := h
  have fa : Fr (fun _ => False) w (w.alloc (.cells #[.iface 64 (.pointer (some ⟨s, 0, none⟩)), .int .i64 (f : Int), .int .i64 ((c - 2 : Nat) : Int), .int .u64 0, .int .u64 0, .int .u64 0, .int .u64 0, .int .u64 0, .int .u64 0, .slice none 0 0, .int .u64 0, .int .u64 0] 115)) := (Fr.refl _ _).alloc _
  refine ⟨⟨.slice none 0 0, sv, qv, ⟨heap_alloc_new w _, ⟨rfl, .inl ⟨rfl, rfl⟩⟩⟩, h1.kept0 fa, fun b hb => ?_⟩, ok, Nat.le_trans h3 fa.size⟩
  rcases hb with (e | e) | e
  · right; omega
  · simp [Value.ownBlock] at e
  · exact h2 b e

section
variable {X : Nat → Prop} {w0 : World} (w : World) (s : Nat) (D : Dv)
set_option maxRecDepth 100000 in
theorem format_no (f c : Int) (hf : -9223372036854775808 ≤ f ∧ f ≤ 9223372036854775807) (h : DW X w0 w s D) (hn : D.S.length ≤ 1000) (he : fitE f c D.S.length ≠ 0) : Calls Try.prog 31 #[.iface 64 (.pointer (some ⟨s, 0, none⟩)), .int .i64 f, .int .i64 c] w fun e w' => e = .returned (.int .i64 (fitE f c D.S.length)) ∧ w = w' := by
  have HC := hide (fits_any w s D f c hf h hn)
  have b1 : (fitE f c D.S.length != 0) = true := by simpa using he
  generalize fitE f c D.S.length = E at *
  clear h
  go_enter Try.func31, Try.ntmps31
  go_wp2_with fail
  refine (unhide HC).mono ?_
  rintro e w' ⟨rfl, rfl⟩
  go_wp2_with fail
  go_ret
  exact ⟨rfl, rfl⟩
set_option maxRecDepth 100000 in
theorem format_nil (w : World) (f c : Value) : Calls Try.prog 31 #[.nilIface, f, c] w fun e w' => e = .returned (.int .i64 7) ∧ w = w' := by
  go_enter Try.func31, Try.ntmps31
  go_wp2_with fail
  refine (fits_nil w f c).mono ?_
  rintro e w' ⟨rfl, rfl⟩
  go_wp2_with fail
  go_ret
  exact ⟨rfl, rfl⟩
set_option maxRecDepth 100000 in
set_option maxHeartbeats 4000000 in
theorem format_any (f c : Nat) (h1 : 6 ≤ c) (h2 : f + c ≤ D.S.length) (h3 : D.S.length ≤ 1000) (hq : D.Q.length ≤ 900000) (h : DW X w0 w s D) : Calls Try.prog 31 #[.iface 64 (.pointer (some ⟨s, 0, none⟩)), .int .i64 (f : Int), .int .i64 (c : Int)] w fun e w' => e = .returned (.int .i64 (fmtR D f c).2) ∧ DW X w0 w' s (fmtR D f c).1 ∧ Fr (Zs X w0 w) w w' := by
  have he : fitE (f : Int) (c : Int) D.S.length = 0 := by unfold fitE; rw [if_neg (by omega)]
  have HC := hide (fits_any w s D f c (by omega) h h3)
  rw [he] at HC
  have H := hide h
  clear h he
  go_enter Try.func31, Try.ntmps31
  go_wp2_with fail
  refine (unhide HC).mono ?_
  rintro e w' ⟨rfl, rfl⟩
  clear HC
  go_wp2_with fail
  go_loopw [8] (fun y W => ∃ i : Nat, i ≤ c - 2 ∧ y = .int .i64 ((f + 2 + i : Nat) : Int) ∧ (fmW D f i).2 = 0 ∧ DW X w0 W s (fmW D f i).1 ∧ Fr (Zs X w0 w) w W) (fun y _ => (f + c : Nat) - (intOf y).toNat)
  case atStart => exact ⟨0, by omega, by simp, rfl, unhide H, Fr.refl _ _⟩
  case round =>
    clear H
    obtain ⟨i, hi, rfl, hz, hD, hF⟩ := hrel
    obtain ⟨hl, hql⟩ := fmW_len D f i
    have e1 : ((f + 2 + i : Nat) : Int) = (f : Int) + 2 + (i : Int) := by omega
    by_cases hlt : i < c - 2
    · have hcond : ((f + 2 + i : Nat) : Int) < (f : Int) + (c : Int) := by omega
      have HDD := hide hD
      have HFF := hide hF
      have hx : f + 2 + i < (fmW D f i).1.S.length := by rw [hl]; omega
      have hqq : (fmW D f i).1.Q.length < 1000000 := by omega
      have HX := hide hx
      have HQQ := hide hqq
      have hst : fmW D f (i + 1) = (wrD (fmW D f i).1 (f + 2 + i) z384, wrE (fmW D f i).1) := by
        show (if (fmW D f i).2 = 0 then _ else _) = _
        rw [if_pos hz]
      have HST := hide hst
      have HZ := hide hz
      clear hD hF hx hqq hst hz hl hql e1
      generalize hb : f + 2 + i = b at *
      go_upto_region 7 with fail
      refine gf7 (unhide HDD) (unhide HX) (unhide HQQ) ?_
      intros
      rename_i W' hW
      have HD1 := hide hW.1
      have HF1 := hide (zs_trans (unhide HFF) hW.2)
      clear hW HDD HFF HX HQQ
      by_cases hE : wrE (fmW D f i).1 = 0
      · have HE := hide hE
        rw [hE]
        clear hE
        go_wp2_with fail
        go_roundw
        case rel => exact ⟨i + 1, by omega, by rw [← hb]; go_num, by rw [unhide HST]; exact unhide HE, by rw [unhide HST]; exact unhide HD1, unhide HF1⟩
        case measure => simp [intOf]; omega
      · have hne : fmW D f (c - 2) = fmW D f (i + 1) := by
          have := fmW_stop D f (i + 1) (by rw [unhide HST]; exact hE) (c - 2 - (i + 1))
          rwa [show i + 1 + (c - 2 - (i + 1)) = c - 2 by omega] at this
        have hR : fmtR D f c = fmW D f (i + 1) := by
          unfold fmtR
          rw [hne, if_neg (by rw [unhide HST]; exact hE)]
        have HR := hide hR
        have b1 : (wrE (fmW D f i).1 != 0) = true := by simpa using hE
        clear hE hne hR
        go_wp2_with fail
        go_ret
        rw [unhide HR, unhide HST]
        exact ⟨rfl, unhide HD1, unhide HF1⟩
    · have hie : i = c - 2 := by omega
      subst hie
      have hcond : ¬ (((f + 2 + (c - 2) : Nat) : Int) < (f : Int) + (c : Int)) := by omega
      have HR : Hid (fmtR D f c = if (fmS (jn0 f c) (flD (fmW D f (c - 2)).1) 2).2 = 0 then (flD (fmS (jn0 f c) (flD (fmW D f (c - 2)).1) 2).1, 0) else fmS (jn0 f c) (flD (fmW D f (c - 2)).1) 2) := hide (by unfold fmtR; rw [if_pos hz])
      have HDD := hide hD
      have HFF := hide hF
      have hql' : (flD (fmW D f (c - 2)).1).Q.length ≤ 900000 ∧ (flD (fmW D f (c - 2)).1).S.length = D.S.length := ⟨by simp [flD], by rw [flD_len]; exact hl⟩
      have HQ2 := hide hql'.1
      have HL2 := hide hql'.2
      have hb : ((f + 2 + (c - 2) : Nat) : Int) = (f : Int) + (c : Int) := by omega
      rw [hb] at hcond ⊢
      have hc2 : (c : Int) - 2 = ((c - 2 : Nat) : Int) := by omega
      generalize (fmW D f (c - 2)).1 = D1 at *
      clear hD hF hz hl hql e1 hql' hlt hi hb
      go_wp2_with fail
      refine (dw_flush (unhide HDD)).mono ?_
      rintro e w1 ⟨rfl, hD1, f1⟩
      have HD1 := hide hD1
      have HF1 := hide (zs_trans (unhide HFF) f1)
      clear hD1 f1 HDD HFF
      generalize flD D1 = D2 at *
      have ok := jn0_ok f c D2.S.length h1 (by rw [unhide HL2]; exact h2) (by rw [unhide HL2]; exact h3)
      have HJ := hide ((unhide HD1).jn ok)
      have HF2 := hide (zs_trans (unhide HF1) (zs_none ((Fr.refl (fun _ => False) w1).alloc (.cells #[.iface 64 (.pointer (some ⟨s, 0, none⟩)), .int .i64 (f : Int), .int .i64 ((c - 2 : Nat) : Int), .int .u64 0, .int .u64 0, .int .u64 0, .int .u64 0, .int .u64 0, .int .u64 0, .slice none 0 0, .int .u64 0, .int .u64 0] 115))))
      clear ok HD1 HF1
      go_upto_region 14 with fail
      refine wp_world ?_
      intro W2 hW2
      rw [← hW2] at HJ HF2
      obtain ⟨j, hj⟩ : ∃ j, j = w1.heap.size := ⟨_, rfl⟩
      rw [← hj] at HJ ⊢
      clear hW2 hj
      go_wp2_with fail
      go_loopw [51] (fun y W => ∃ g : Nat, g ≤ 2 ∧ y = .int .u64 (g : Int) ∧ (fmS (jn0 f c) D2 g).2 = 0 ∧ JS X w0 W j s (jn0 f c) (fmS (jn0 f c) D2 g).1 ∧ Fr (Zs X w0 w) w W) (fun y _ => 2 - (intOf y).toNat)
      case atStart => exact ⟨0, by omega, rfl, rfl, unhide HJ, unhide HF2⟩
      case round =>
        clear HJ HF2
        obtain ⟨g, hg, rfl, hz, hJ, hF⟩ := hrel
        obtain ⟨hl, hql⟩ := fmS_len (jn0 f c) D2 g
        have HQ3 := unhide HQ2
        by_cases hlt : g < 2
        · have hst : fmS (jn0 f c) D2 (g + 1) = (wsD (jn0 f c) (fmS (jn0 f c) D2 g).1 (su1 (g + 1)), wsE (fmS (jn0 f c) D2 g).1 (su1 (g + 1))) := by
            show (if (fmS (jn0 f c) D2 g).2 = 0 then _ else _) = _
            rw [if_pos hz]
          have HC : Calls Try.prog 62 #[.pointer (some ⟨j, 0, none⟩), .agg #[.int .u64 ((g : Int) + 1), .int .u64 1, .int .u64 0, .int .u64 0, .int .u64 0, .int .u64 0]] wr fun e w' => e = .returned (.int .i64 (wsE (fmS (jn0 f c) D2 g).1 (su1 (g + 1)))) ∧ JS X w0 w' j s (jn0 f c) (wsD (jn0 f c) (fmS (jn0 f c) D2 g).1 (su1 (g + 1))) ∧ Fr (Zs X w0 wr) wr w' := by
            have := writeSuper_any wr j s (jn0 f c) (fmS (jn0 f c) D2 g).1 (su1 (g + 1)) hJ (by omega)
            simpa [Su.v, su1] using this
          have HST := hide hst
          have HCC := hide HC
          have HFF := hide hF
          clear hst HC hF hJ hl hql hz
          obtain ⟨E, hE⟩ : ∃ E, E = wsE (fmS (jn0 f c) D2 g).1 (su1 (g + 1)) := ⟨_, rfl⟩
          rw [← hE] at HCC HST
          clear hE
          go_wp2_with fail
          refine (unhide HCC).mono ?_
          rintro e w3 ⟨rfl, h3, f3⟩
          have H3 := hide h3
          have F3 := hide (zs_trans (unhide HFF) f3)
          clear h3 f3 HCC HFF
          by_cases hE : E = 0
          · subst hE
            go_wp2_with fail
            go_roundw
            case rel => exact ⟨g + 1, by omega, by go_num, by rw [unhide HST], by rw [unhide HST]; exact unhide H3, unhide F3⟩
            case measure => simp [intOf]; omega
          · have b1 : (E != 0) = true := by simpa using hE
            have hne : fmS (jn0 f c) D2 2 = fmS (jn0 f c) D2 (g + 1) := by
              have := fmS_stop (jn0 f c) D2 (g + 1) (by rw [unhide HST]; exact hE) (2 - (g + 1))
              rwa [show g + 1 + (2 - (g + 1)) = 2 by omega] at this
            have HR2 : Hid (fmtR D f c = fmS (jn0 f c) D2 (g + 1)) := hide (by rw [unhide HR, hne, if_neg (by rw [unhide HST]; exact hE)])
            clear hne hE
            go_wp2_with fail
            go_ret
            rw [unhide HR2, unhide HST]
            exact ⟨rfl, (unhide H3).dw, unhide F3⟩
        · obtain rfl : g = 2 := by omega
          have HR2 : Hid (fmtR D f c = (flD (fmS (jn0 f c) D2 2).1, 0)) := hide (by rw [unhide HR, if_pos hz])
          have HD3 := hide hJ.dw
          have HFF := hide hF
          generalize (fmS (jn0 f c) D2 2).1 = D3 at *
          clear hz hJ hF hl hql
          go_wp2_with fail
          refine (dw_flush (unhide HD3)).mono ?_
          rintro e w3 ⟨rfl, h3, f3⟩
          have H3 := hide h3
          have F3 := hide (zs_trans (unhide HFF) f3)
          clear h3 f3 HD3 HFF
          go_wp2_with fail
          go_ret
          rw [unhide HR2]
          exact ⟨rfl, unhide H3, unhide F3⟩
end
end Go.Proofs.Ytgodlfoidjeekaa

namespace Go.Proofs.Ytgodlfoidjeekaa
set_option linter.unusedVariables false
set_option linter.unusedSimpArgs false
open Go.RowKit
set_option linter.unusedVariables false
set_option linter.unusedSimpArgs false

attribute [local go_sem ↓] Go.wp_at_zero Go.wp_at_succ

/-- Behind k stores. -/
def StB (C : Array Value) (d t N k : Nat) (a : Act) (w : World) : Prop := 1 ≤ k → ∃ b, a.tmps.getD d undef = .pointer (some ⟨b, 0, none⟩) ∧ N ≤ b ∧ w.heap[b]? = some (.cells C t (0, 0))
theorem StB.put {C : Array Value} {d t N k s : Nat} {a : Act} {w w' : World} {v : Value} (h : StB C d t N k a w) (hs : s ≠ d) (f : Fr (fun _ => False) w w') : StB C d t N k (a.put (some s) v) w' := by
  intro hk
  obtain ⟨b, e, hN, hh⟩ := h hk
  exact ⟨b, (put_getD hs).trans e, hN, (f.block _ (lt_of_heap hh) id).trans hh⟩
theorem ld22 : ∀ W a u, World.cell? W a = some u → (Instr.loadAt 22 (.pointer (some a))).run Try.prog W = .ok u W := by
  intro W a u h
  simp [go_sem, h]
set_option maxHeartbeats 8000000 in
set_option maxRecDepth 100000 in
theorem gs4 {W : World} {B n0 n1 n2 n3 n4 n5 : Nat} {u0 u1 u2 u3 u5 u6 u7 u8 u9 u10 u11 u12 u13 u14 u15 u16 u17 u18 u19 u20 u21 u22 u23 u24 u25 u26 u27 u28 u29 u30 u31 u32 u33 u34 u35 u36 u37 u38 u39 u40 u41 u42 u43 u44 u45 u46 u47 u48 : Value} {Q : Exit → Act → World → Prop} (hB : UAt W B [n0, n1, n2, n3, n4, n5])
    (hQ : ∀ (y15 y16 y17 y18 y19 y20 y21 y22 y23 y24 y25 y26 y27 y28 y29 y30 y31 y32 y33 : Value) (b : Nat) (W' : World), Fr (fun _ => False) W W' → W.heap.size ≤ b → W'.heap[b]? = some (.cells #[.int .u64 (n0 : Int), .int .u64 (n1 : Int), .int .u64 (n2 : Int), .int .u64 (n3 : Int), .int .u64 (n4 : Int), .int .u64 (n5 : Int)] 27 (0, 0)) → Q .normal ⟨#[u0, u1, u2, u3, .slice (some ⟨B, 0, none⟩) 6 6, .pointer (some ⟨b, 0, none⟩), u6, u7, u8, u9, u10, u11, u12, u13, u14, y15, y16, y17, y18, y19, y20, y21, y22, y23, y24, y25, y26, y27, y28, y29, y30, y31, y32, y33, u34, u35, u36, u37, u38, u39, u40, u41, u42, u43, u44, u45, u46, u47, u48], []⟩ W') : (rgF Try.f23 4).wp Try.prog Q ⟨#[u0, u1, u2, u3, .slice (some ⟨B, 0, none⟩) 6 6, u5, u6, u7, u8, u9, u10, u11, u12, u13, u14, u15, u16, u17, u18, u19, u20, u21, u22, u23, u24, u25, u26, u27, u28, u29, u30, u31, u32, u33, u34, u35, u36, u37, u38, u39, u40, u41, u42, u43, u44, u45, u46, u47, u48], []⟩ W := by
  have HQ := hide hQ
  clear hQ
  have lB := lt_of_heap hB
  conv => arg 2; whnf
  refine wp_nm ?_
  intro a0 hA
  have s4 : a0.tmps.getD 4 undef = .slice (some ⟨B, 0, none⟩) 6 6 := by rw [hA]; rfl
  have hsz : a0.tmps.size = 49 := by rw [hA]; rfl
  have hdf : a0.defers = [] := by rw [hA]
  refine wp_region_chainA (by kernel_rfl) (by kernel_rfl) (by decide +kernel) (by rw [hsz]; decide +kernel) (fun w w' => RS W.heap.size w w') (RS.of_fr (Fr.refl _ _).drew) (fun _ _ _ => RS.trans) (Tw [KV.eq (.slice (some ⟨B, 0, none⟩) 6 6), KV.eq (.pointer (some ⟨B, 0, none⟩)), KV.eq (.int .u64 (n0 : Int)), KV.eq (.slice (some ⟨B, 0, none⟩) 6 6), KV.eq (.pointer (some ⟨B, 1, none⟩)), KV.eq (.int .u64 (n1 : Int)), KV.eq (.slice (some ⟨B, 0, none⟩) 6 6), KV.eq (.pointer (some ⟨B, 2, none⟩)), KV.eq (.int .u64 (n2 : Int)), KV.eq (.slice (some ⟨B, 0, none⟩) 6 6), KV.eq (.pointer (some ⟨B, 3, none⟩)), KV.eq (.int .u64 (n3 : Int)), KV.eq (.slice (some ⟨B, 0, none⟩) 6 6), KV.eq (.pointer (some ⟨B, 4, none⟩)), KV.eq (.int .u64 (n4 : Int)), KV.eq (.slice (some ⟨B, 0, none⟩) 6 6), KV.eq (.pointer (some ⟨B, 5, none⟩)), KV.eq (.int .u64 (n5 : Int)), KV.eq (.agg #[.int .u64 (n0 : Int), .int .u64 (n1 : Int), .int .u64 (n2 : Int), .int .u64 (n3 : Int), .int .u64 (n4 : Int), .int .u64 (n5 : Int)]), KV.box 27 6]) (Tw.mono _) [20] (by decide) (by decide) (fun k i j h1 h2 => ?cp) (StB #[.int .u64 (n0 : Int), .int .u64 (n1 : Int), .int .u64 (n2 : Int), .int .u64 (n3 : Int), .int .u64 (n4 : Int), .int .u64 (n5 : Int)] 5 27 W.heap.size) ?st0 ?steps ?done
  case cp =>
    match k, h1, h2 with
    | 0, h1, h2 => simp at h2
    | k + 1, h1, h2 => simp at h2
  case st0 => exact fun h => by omega
  case steps =>
    have hU : ∀ w', RS W.heap.size W w' → UAt w' B [n0, n1, n2, n3, n4, n5] := fun w' f => hB.kept f.fr (by omega)
    refine ⟨?_, ?_⟩
    · intro a' w' k hb hR hst hck hle hd
      exact .inl ⟨wanted_none rfl, la_val _ _ (by decide) (x_move rfl ((hb.old 4 (by decide +kernel)).trans s4)) rfl (RS.of_fr (Fr.refl _ _)) (hst.put (by decide) (Fr.refl _ _))⟩
    refine ⟨?_, ?_⟩
    · intro a' w' k hb hR hst hck hle hd
      exact .inl ⟨wanted_none rfl, la_val _ _ (by decide) (x_idxU (c := 0) (m := 6) rfl (hd 0 (by kernel_rfl) 15 rfl) (by decide) (by decide) rfl) rfl (RS.of_fr (Fr.refl _ _)) (hst.put (by decide) (Fr.refl _ _))⟩
    refine ⟨?_, ?_⟩
    · intro a' w' k hb hR hst hck hle hd
      exact .inl ⟨wanted_none rfl, la_val _ _ (by decide) (x_load1 ld22 rfl (hd 1 (by kernel_rfl) 16 rfl) ((hU w' hR).cell 0 (by simp))) rfl (RS.of_fr (Fr.refl _ _)) (hst.put (by decide) (Fr.refl _ _))⟩
    refine ⟨?_, ?_⟩
    · intro a' w' k hb hR hst hck hle hd
      exact .inl ⟨wanted_none rfl, la_val _ _ (by decide) (x_move rfl ((hb.old 4 (by decide +kernel)).trans s4)) rfl (RS.of_fr (Fr.refl _ _)) (hst.put (by decide) (Fr.refl _ _))⟩
    refine ⟨?_, ?_⟩
    · intro a' w' k hb hR hst hck hle hd
      exact .inl ⟨wanted_none rfl, la_val _ _ (by decide) (x_idxU (c := 1) (m := 6) rfl (hd 3 (by kernel_rfl) 18 rfl) (by decide) (by decide) rfl) rfl (RS.of_fr (Fr.refl _ _)) (hst.put (by decide) (Fr.refl _ _))⟩
    refine ⟨?_, ?_⟩
    · intro a' w' k hb hR hst hck hle hd
      exact .inl ⟨wanted_none rfl, la_val _ _ (by decide) (x_load1 ld22 rfl (hd 4 (by kernel_rfl) 19 rfl) ((hU w' hR).cell 1 (by simp))) rfl (RS.of_fr (Fr.refl _ _)) (hst.put (by decide) (Fr.refl _ _))⟩
    refine ⟨?_, ?_⟩
    · intro a' w' k hb hR hst hck hle hd
      exact .inl ⟨wanted_none rfl, la_val _ _ (by decide) (x_move rfl ((hb.old 4 (by decide +kernel)).trans s4)) rfl (RS.of_fr (Fr.refl _ _)) (hst.put (by decide) (Fr.refl _ _))⟩
    refine ⟨?_, ?_⟩
    · intro a' w' k hb hR hst hck hle hd
      exact .inl ⟨wanted_none rfl, la_val _ _ (by decide) (x_idxU (c := 2) (m := 6) rfl (hd 6 (by kernel_rfl) 21 rfl) (by decide) (by decide) rfl) rfl (RS.of_fr (Fr.refl _ _)) (hst.put (by decide) (Fr.refl _ _))⟩
    refine ⟨?_, ?_⟩
    · intro a' w' k hb hR hst hck hle hd
      exact .inl ⟨wanted_none rfl, la_val _ _ (by decide) (x_load1 ld22 rfl (hd 7 (by kernel_rfl) 22 rfl) ((hU w' hR).cell 2 (by simp))) rfl (RS.of_fr (Fr.refl _ _)) (hst.put (by decide) (Fr.refl _ _))⟩
    refine ⟨?_, ?_⟩
    · intro a' w' k hb hR hst hck hle hd
      exact .inl ⟨wanted_none rfl, la_val _ _ (by decide) (x_move rfl ((hb.old 4 (by decide +kernel)).trans s4)) rfl (RS.of_fr (Fr.refl _ _)) (hst.put (by decide) (Fr.refl _ _))⟩
    refine ⟨?_, ?_⟩
    · intro a' w' k hb hR hst hck hle hd
      exact .inl ⟨wanted_none rfl, la_val _ _ (by decide) (x_idxU (c := 3) (m := 6) rfl (hd 9 (by kernel_rfl) 24 rfl) (by decide) (by decide) rfl) rfl (RS.of_fr (Fr.refl _ _)) (hst.put (by decide) (Fr.refl _ _))⟩
    refine ⟨?_, ?_⟩
    · intro a' w' k hb hR hst hck hle hd
      exact .inl ⟨wanted_none rfl, la_val _ _ (by decide) (x_load1 ld22 rfl (hd 10 (by kernel_rfl) 25 rfl) ((hU w' hR).cell 3 (by simp))) rfl (RS.of_fr (Fr.refl _ _)) (hst.put (by decide) (Fr.refl _ _))⟩
    refine ⟨?_, ?_⟩
    · intro a' w' k hb hR hst hck hle hd
      exact .inl ⟨wanted_none rfl, la_val _ _ (by decide) (x_move rfl ((hb.old 4 (by decide +kernel)).trans s4)) rfl (RS.of_fr (Fr.refl _ _)) (hst.put (by decide) (Fr.refl _ _))⟩
    refine ⟨?_, ?_⟩
    · intro a' w' k hb hR hst hck hle hd
      exact .inl ⟨wanted_none rfl, la_val _ _ (by decide) (x_idxU (c := 4) (m := 6) rfl (hd 12 (by kernel_rfl) 27 rfl) (by decide) (by decide) rfl) rfl (RS.of_fr (Fr.refl _ _)) (hst.put (by decide) (Fr.refl _ _))⟩
    refine ⟨?_, ?_⟩
    · intro a' w' k hb hR hst hck hle hd
      exact .inl ⟨wanted_none rfl, la_val _ _ (by decide) (x_load1 ld22 rfl (hd 13 (by kernel_rfl) 28 rfl) ((hU w' hR).cell 4 (by simp))) rfl (RS.of_fr (Fr.refl _ _)) (hst.put (by decide) (Fr.refl _ _))⟩
    refine ⟨?_, ?_⟩
    · intro a' w' k hb hR hst hck hle hd
      exact .inl ⟨wanted_none rfl, la_val _ _ (by decide) (x_move rfl ((hb.old 4 (by decide +kernel)).trans s4)) rfl (RS.of_fr (Fr.refl _ _)) (hst.put (by decide) (Fr.refl _ _))⟩
    refine ⟨?_, ?_⟩
    · intro a' w' k hb hR hst hck hle hd
      exact .inl ⟨wanted_none rfl, la_val _ _ (by decide) (x_idxU (c := 5) (m := 6) rfl (hd 15 (by kernel_rfl) 30 rfl) (by decide) (by decide) rfl) rfl (RS.of_fr (Fr.refl _ _)) (hst.put (by decide) (Fr.refl _ _))⟩
    refine ⟨?_, ?_⟩
    · intro a' w' k hb hR hst hck hle hd
      exact .inl ⟨wanted_none rfl, la_val _ _ (by decide) (x_load1 ld22 rfl (hd 16 (by kernel_rfl) 31 rfl) ((hU w' hR).cell 5 (by simp))) rfl (RS.of_fr (Fr.refl _ _)) (hst.put (by decide) (Fr.refl _ _))⟩
    refine ⟨?_, ?_⟩
    · intro a' w' k hb hR hst hck hle hd
      exact .inl ⟨wanted_none rfl, la_val _ _ (by decide) (x_build27 rfl (hd 2 (by kernel_rfl) 17 rfl) (hd 5 (by kernel_rfl) 20 rfl) (hd 8 (by kernel_rfl) 23 rfl) (hd 11 (by kernel_rfl) 26 rfl) (hd 14 (by kernel_rfl) 29 rfl) (hd 17 (by kernel_rfl) 32 rfl)) rfl (RS.of_fr (Fr.refl _ _)) (hst.put (by decide) (Fr.refl _ _))⟩
    refine ⟨?_, ?_⟩
    · intro a' w' k hb hR hst hck hle hd
      have hk : k ≤ 0 := hle 0 20 _ rfl rfl (by kernel_rfl)
      exact .inl ⟨wanted_none rfl, la_val _ _ (by decide) (x_alloc27 rfl) ⟨_, rfl, hR.fr.size, .of (heap_alloc_new w' _) rfl⟩ (RS.of_fr ((Fr.refl _ _).alloc _)) (fun h => by omega)⟩
    refine ⟨?_, ?_⟩
    · intro a' w' k hb hR hst hck hle hd
      obtain rfl : 0 = k := hck 0 rfl
      obtain ⟨b, eb, hbN, hbM⟩ := hd 19 (by kernel_rfl) 5 rfl
      have ev := hd 18 (by kernel_rfl) 33 rfl
      obtain ⟨cs, hh, hk⟩ := hbM
      exact .inl ⟨wanted_none rfl, la_store _ (by decide) (x_storeR 27 6 (by kernel_rfl) (c := #[.int .u64 (n0 : Int), .int .u64 (n1 : Int), .int .u64 (n2 : Int), .int .u64 (n3 : Int), .int .u64 (n4 : Int), .int .u64 (n5 : Int)]) rfl eb ev rfl (by simp [Value.oneCell']) ⟨cs, hh, hk⟩) trivial (RS.setRow hbN ⟨cs, hh, hk⟩ rfl) (fun _ => ⟨b, eb, hbN, setRow_at hh _⟩)⟩
    exact trivial
  case done =>
    intro a' w' hb hR hst hall
    obtain ⟨b, eb, hbN, hh⟩ := hst (by decide)
    have f := hR.old (Nat.le_refl _)
    have hfr := frame_eq (a := a') (vs := [u0, u1, u2, u3, .slice (some ⟨B, 0, none⟩) 6 6, .pointer (some ⟨b, 0, none⟩), u6, u7, u8, u9, u10, u11, u12, u13, u14, a'.tmps.getD 15 undef, a'.tmps.getD 16 undef, a'.tmps.getD 17 undef, a'.tmps.getD 18 undef, a'.tmps.getD 19 undef, a'.tmps.getD 20 undef, a'.tmps.getD 21 undef, a'.tmps.getD 22 undef, a'.tmps.getD 23 undef, a'.tmps.getD 24 undef, a'.tmps.getD 25 undef, a'.tmps.getD 26 undef, a'.tmps.getD 27 undef, a'.tmps.getD 28 undef, a'.tmps.getD 29 undef, a'.tmps.getD 30 undef, a'.tmps.getD 31 undef, a'.tmps.getD 32 undef, a'.tmps.getD 33 undef, u34, u35, u36, u37, u38, u39, u40, u41, u42, u43, u44, u45, u46, u47, u48]) (by rw [hb.size, hsz]; rfl) (by rw [hb.defers, hdf]) ⟨(hb.old 0 (by decide +kernel)).trans (by rw [hA]; rfl), (hb.old 1 (by decide +kernel)).trans (by rw [hA]; rfl), (hb.old 2 (by decide +kernel)).trans (by rw [hA]; rfl), (hb.old 3 (by decide +kernel)).trans (by rw [hA]; rfl), (hb.old 4 (by decide +kernel)).trans (by rw [hA]; rfl), eb, (hb.old 6 (by decide +kernel)).trans (by rw [hA]; rfl), (hb.old 7 (by decide +kernel)).trans (by rw [hA]; rfl), (hb.old 8 (by decide +kernel)).trans (by rw [hA]; rfl), (hb.old 9 (by decide +kernel)).trans (by rw [hA]; rfl), (hb.old 10 (by decide +kernel)).trans (by rw [hA]; rfl), (hb.old 11 (by decide +kernel)).trans (by rw [hA]; rfl), (hb.old 12 (by decide +kernel)).trans (by rw [hA]; rfl), (hb.old 13 (by decide +kernel)).trans (by rw [hA]; rfl), (hb.old 14 (by decide +kernel)).trans (by rw [hA]; rfl), rfl, rfl, rfl, rfl, rfl, rfl, rfl, rfl, rfl, rfl, rfl, rfl, rfl, rfl, rfl, rfl, rfl, rfl, rfl, (hb.old 34 (by decide +kernel)).trans (by rw [hA]; rfl), (hb.old 35 (by decide +kernel)).trans (by rw [hA]; rfl), (hb.old 36 (by decide +kernel)).trans (by rw [hA]; rfl), (hb.old 37 (by decide +kernel)).trans (by rw [hA]; rfl), (hb.old 38 (by decide +kernel)).trans (by rw [hA]; rfl), (hb.old 39 (by decide +kernel)).trans (by rw [hA]; rfl), (hb.old 40 (by decide +kernel)).trans (by rw [hA]; rfl), (hb.old 41 (by decide +kernel)).trans (by rw [hA]; rfl), (hb.old 42 (by decide +kernel)).trans (by rw [hA]; rfl), (hb.old 43 (by decide +kernel)).trans (by rw [hA]; rfl), (hb.old 44 (by decide +kernel)).trans (by rw [hA]; rfl), (hb.old 45 (by decide +kernel)).trans (by rw [hA]; rfl), (hb.old 46 (by decide +kernel)).trans (by rw [hA]; rfl), (hb.old 47 (by decide +kernel)).trans (by rw [hA]; rfl), (hb.old 48 (by decide +kernel)).trans (by rw [hA]; rfl), trivial⟩
    rw [hfr]
    exact unhide HQ _ _ _ _ _ _ _ _ _ _ _ _ _ _ _ _ _ _ _ b w' f hbN hh
end Go.Proofs.Ytgodlfoidjeekaa

namespace Go.Proofs.Ytgodlfoidjeekaa
set_option linter.unusedVariables false
set_option linter.unusedSimpArgs false
open Go.RowKit Go.Lib
set_option linter.unusedVariables false
set_option linter.unusedSimpArgs false

attribute [local go_sem ↓] Go.wp_at_zero Go.wp_at_succ

/-- The numbers of a superblock's bytes. -/
def sn (l : List UInt8) (c : Nat) : Nat := val ((((l.drop 4).take 48).drop (c * 8)).take 8)
theorem sn_tk {l : List UInt8} (h : l.length = 384) : tk ((l.drop 4).take 48) 8 6 48 = [sn l 0, sn l 1, sn l 2, sn l 3, sn l 4, sn l 5] := by
  have e : ((l.drop 4).take 48).take 48 = (l.drop 4).take 48 := by rw [List.take_take]; simp
  unfold tk sn
  rw [e]
  rfl
/-- Whether bytes are a superblock. -/
def sgB (l : List UInt8) : Bool := decide (l.length = 384) && sbB (sn l 0) (sn l 1) (sn l 2) (sn l 3) (sn l 4) (sn l 5) && decide (suB (sn l 0) (sn l 1) (sn l 2) (sn l 3) (sn l 4) (sn l 5) = l)
theorem Rd.mid {w : World} {B o n cap : Nat} {l : List UInt8} (h : Rd w (.slice (some ⟨B, o, none⟩) n cap) l) (p q : Nat) (hpq : p + q ≤ l.length) (hq : 0 < q) (c : Nat) (hc : c = cap - p) (o2 : Nat) (ho : o2 = o + p) : Rd w (.slice (some ⟨B, o2, none⟩) q c) ((l.drop p).take q) := by
  subst hc ho
  obtain ⟨B', o', e, hn, hnc, hcm, hcell⟩ := h.lits (by omega)
  simp at e
  obtain ⟨rfl, rfl⟩ := e
  refine .lit (by rw [List.length_take, List.length_drop]; omega) (by omega) (by omega) fun j hj => ?_
  rw [List.length_take, List.length_drop] at hj
  have := hcell (p + j) (by omega)
  rw [show o + p + j = o + (p + j) by omega, this]
  simp [List.getElem_take, List.getElem_drop]
theorem ldk {w w' : World} {b : Nat} {o : Obj} (h : w.heap[b]? = some o) (f : Fr (fun _ => False) w w') : w'.heap[b]? = some o := (f.block _ (lt_of_heap h) id).trans h
theorem rd384 {w : World} {q g b p l x y : Nat} (h : BAt w q (suB g b p l x y)) : Rd w (.slice (some ⟨q, 0, none⟩) 384 384) (suB g b p l x y) := by
  have := h.rd (by rw [suB_length]; decide)
  rwa [suB_length] at this
set_option maxHeartbeats 8000000 in
set_option maxRecDepth 100000 in
theorem getSuper_len (w : World) (v : Value) (l : List UInt8) (h : Rd w v l) (hl : l.length ≠ 384) : Calls Try.prog 23 #[v] w fun e w' => e = .returned (.tuple #[.agg #[.int .u64 0, .int .u64 0, .int .u64 0, .int .u64 0, .int .u64 0, .int .u64 0], .int .i64 81]) ∧ Fr (fun _ => False) w w' := by
  obtain ⟨ao, cap, rfl⟩ := h.shape
  clear h
  obtain ⟨n, hn⟩ : ∃ n, n = l.length := ⟨_, rfl⟩
  rw [← hn] at hl ⊢
  have d1 : ((n : Int) == 384) = false := by simp; omega
  have d2 : ¬ ((n : Int) = 384) := by omega
  clear hl hn
  go_enter Try.func23, Try.ntmps23
  go_wp2_with fail
  refine ret_ceR 27 6 _ Try.underlying27 (by kernel_rfl) w.heap.size #[.int .u64 0, .int .u64 0, .int .u64 0, .int .u64 0, .int .u64 0, .int .u64 0] 27 rfl rfl rfl (heap_alloc_new w _) rfl ?_
  exact ⟨rfl, by repeat' (first | exact Fr.refl _ _ | apply Fr.alloc)⟩
set_option maxHeartbeats 8000000 in
set_option maxRecDepth 100000 in
theorem getSuper_no (w : World) (v : Value) (l : List UInt8) (h : Rd w v l) (hl : l.length = 384) (hs : sbB (sn l 0) (sn l 1) (sn l 2) (sn l 3) (sn l 4) (sn l 5) = false) : Calls Try.prog 23 #[v] w fun e w' => e = .returned (.tuple #[.agg #[.int .u64 0, .int .u64 0, .int .u64 0, .int .u64 0, .int .u64 0, .int .u64 0], .int .i64 81]) ∧ Fr (fun _ => False) w w' := by
  obtain ⟨ao, cap, rfl⟩ := h.shape
  obtain ⟨B0, o0, rfl, -, hnc, hcm, -⟩ := h.lits (by omega)
  rw [hl] at h hnc ⊢
  have HL := hide hl
  have HR := hide h
  have HC := hide (fun W (f : Fr (fun _ => False) w W) => taken8_any W _ ((l.drop 4).take 48) 6 ((h.kept f (fun _ _ h => h)).mid 4 48 (by omega) (by omega) (cap - 4) rfl (o0 + 4) rfl) (by rw [List.length_take, List.length_drop]; omega) (by omega))
  have HT := hide (show tk ((l.drop 4).take 48) 8 6 ((l.drop 4).take 48).length = [sn l 0, sn l 1, sn l 2, sn l 3, sn l 4, sn l 5] by rw [show ((l.drop 4).take 48).length = 48 by rw [List.length_take, List.length_drop]; omega]; exact sn_tk hl)
  have d1 : 52 ≤ cap := by omega
  have d2 : 4 ≤ cap := by omega
  have HS := hide hs
  clear h hl hs hcm
  go_enter Try.func23, Try.ntmps23
  go_upto_region 4 with (go_at_call 57; refine (unhide HC _ ((Fr.refl _ _).alloc _)).mono ?_; rintro e w2 ⟨B, rfl, hB, f2, hs2⟩)
  rw [unhide HT] at hB
  have hz := (f2.block _ (by simp) id).trans (heap_alloc_new w (.cells #[.int .u64 0, .int .u64 0, .int .u64 0, .int .u64 0, .int .u64 0, .int .u64 0] 27))
  have F2 := hide (((Fr.refl (fun _ => False) w).alloc (.cells #[.int .u64 0, .int .u64 0, .int .u64 0, .int .u64 0, .int .u64 0, .int .u64 0] 27)).trans f2 (fun _ _ h => h))
  clear f2 hs2
  refine gs4 hB ?_
  intro y15 y16 y17 y18 y19 y20 y21 y22 y23 y24 y25 y26 y27 y28 y29 y30 y31 y32 y33 b w3 f3 hb hh
  have hz3 := (f3.block _ (lt_of_heap hz) id).trans hz
  have F3 := hide ((unhide F2).trans f3 (fun _ _ h => h))
  have hpw : w.heap.size < b := Nat.lt_of_lt_of_le (lt_of_heap hz) hb
  clear hz hB f3 hb F2
  generalize hp : w.heap.size = p at *
  go_wp2_with (first | (refine wl_loadR 27 6 _ Try.underlying27 (by kernel_rfl) (.tmp 5) rfl rfl b rfl _ 27 hh rfl ?_) | (refine wl_storeR 27 6 (by kernel_rfl) _ _ rfl rfl p rfl _ rfl _ 27 hz4 rfl rfl (by simp [Value.oneCell']) ?_; intro w5 hw5; have hz5 := setRow_at hz4 #[.int .u64 0, .int .u64 0, .int .u64 0, .int .u64 0, .int .u64 0, .int .u64 0]; rw [← hw5] at hz5; have F5 := hide ((unhide F4).trans (hw5 ▸ Fr.setRow_one w4 _ rfl : Fr (fun k => k = p) w4 w5) (fun k hk e => by omega)); clear hw5) | (go_at_call 13; refine (putSuper_no w3 _ _ _ _ _ _ (unhide HS)).mono ?_; rintro e w4 ⟨rfl, f4⟩; have hz4 := (f4.block _ (lt_of_heap hz3) id).trans hz3; have F4 := hide ((unhide F3).trans f4 (fun _ _ h => h))))
  refine ret_ceR 27 6 _ Try.underlying27 (by kernel_rfl) p _ 27 rfl rfl rfl hz5 rfl ?_
  exact ⟨rfl, unhide F5⟩
set_option maxHeartbeats 8000000 in
set_option maxRecDepth 100000 in
theorem getSuper_ne (w : World) (v : Value) (l : List UInt8) (h : Rd w v l) (hl : l.length = 384) (hs : sbB (sn l 0) (sn l 1) (sn l 2) (sn l 3) (sn l 4) (sn l 5) = true) (hq : suB (sn l 0) (sn l 1) (sn l 2) (sn l 3) (sn l 4) (sn l 5) ≠ l) : Calls Try.prog 23 #[v] w fun e w' => e = .returned (.tuple #[.agg #[.int .u64 0, .int .u64 0, .int .u64 0, .int .u64 0, .int .u64 0, .int .u64 0], .int .i64 81]) ∧ Fr (fun _ => False) w w' := by
  obtain ⟨ao, cap, rfl⟩ := h.shape
  obtain ⟨B0, o0, rfl, -, hnc, hcm, -⟩ := h.lits (by omega)
  rw [hl] at h hnc ⊢
  have HL := hide hl
  have HR := hide h
  have HC := hide (fun W (f : Fr (fun _ => False) w W) => taken8_any W _ ((l.drop 4).take 48) 6 ((h.kept f (fun _ _ h => h)).mid 4 48 (by omega) (by omega) (cap - 4) rfl (o0 + 4) rfl) (by rw [List.length_take, List.length_drop]; omega) (by omega))
  have HT := hide (show tk ((l.drop 4).take 48) 8 6 ((l.drop 4).take 48).length = [sn l 0, sn l 1, sn l 2, sn l 3, sn l 4, sn l 5] by rw [show ((l.drop 4).take 48).length = 48 by rw [List.length_take, List.length_drop]; omega]; exact sn_tk hl)
  have d1 : 52 ≤ cap := by omega
  have d2 : 4 ≤ cap := by omega
  have HS := hide hs
  clear h hl hs hcm
  have HQ := hide hq
  clear hq
  go_enter Try.func23, Try.ntmps23
  go_upto_region 4 with (go_at_call 57; refine (unhide HC _ ((Fr.refl _ _).alloc _)).mono ?_; rintro e w2 ⟨B, rfl, hB, f2, hs2⟩)
  rw [unhide HT] at hB
  have hz := (f2.block _ (by simp) id).trans (heap_alloc_new w (.cells #[.int .u64 0, .int .u64 0, .int .u64 0, .int .u64 0, .int .u64 0, .int .u64 0] 27))
  have F2 := hide (((Fr.refl (fun _ => False) w).alloc (.cells #[.int .u64 0, .int .u64 0, .int .u64 0, .int .u64 0, .int .u64 0, .int .u64 0] 27)).trans f2 (fun _ _ h => h))
  clear f2 hs2
  refine gs4 hB ?_
  intro y15 y16 y17 y18 y19 y20 y21 y22 y23 y24 y25 y26 y27 y28 y29 y30 y31 y32 y33 b w3 f3 hb hh
  have hz3 := (f3.block _ (lt_of_heap hz) id).trans hz
  have F3 := hide ((unhide F2).trans f3 (fun _ _ h => h))
  have hpw : w.heap.size < b := Nat.lt_of_lt_of_le (lt_of_heap hz) hb
  clear hz hB f3 hb F2
  generalize hp : w.heap.size = p at *
  go_wp2_with (first | (refine wl_loadR 27 6 _ Try.underlying27 (by kernel_rfl) (.tmp 5) rfl rfl b rfl _ 27 hh rfl ?_) | (refine wl_storeR 27 6 (by kernel_rfl) _ _ rfl rfl p rfl _ rfl _ 27 hz4 rfl rfl (by simp [Value.oneCell']) ?_; intro w5 hw5; have hz5 := setRow_at hz4 #[.int .u64 0, .int .u64 0, .int .u64 0, .int .u64 0, .int .u64 0, .int .u64 0]; rw [← hw5] at hz5; have F5 := hide ((unhide F4).trans (hw5 ▸ Fr.setRow_one w4 _ rfl : Fr (fun k => k = p) w4 w5) (fun k hk e => by omega)); clear hw5) | (go_at_call 13; refine (putSuper_ok w3 _ _ _ _ _ _ (unhide HS)).mono ?_; rintro e w4 ⟨q, rfl, hq4, hq5, f4⟩; have hz4 := (f4.block _ (lt_of_heap hz3) id).trans hz3; have F4 := hide ((unhide F3).trans f4 (fun _ _ h => h)); have LD2 := hide (ldk hh f4); have HQ4 := hide (rd384 hq4); clear hq4; have HR4 := hide ((unhide HR).kept (unhide F4) (fun _ _ h => h))) | (refine wl_loadR 27 6 _ Try.underlying27 (by kernel_rfl) (.tmp 5) rfl rfl b rfl _ 27 (unhide LD2) rfl ?_) | (go_at_call 59; refine (equal_any w4 _ _ _ _ (unhide HQ4) (unhide HR4)).mono ?_; rintro e w5 ⟨rfl, rfl⟩; rw [decide_eq_false (unhide HQ)]))
  refine ret_ceR 27 6 _ Try.underlying27 (by kernel_rfl) p _ 27 rfl rfl rfl hz5 rfl ?_
  exact ⟨rfl, unhide F5⟩
set_option maxHeartbeats 8000000 in
set_option maxRecDepth 100000 in
theorem getSuper_ok (w : World) (v : Value) (l : List UInt8) (h : Rd w v l) (hl : l.length = 384) (hs : sbB (sn l 0) (sn l 1) (sn l 2) (sn l 3) (sn l 4) (sn l 5) = true) (hq : suB (sn l 0) (sn l 1) (sn l 2) (sn l 3) (sn l 4) (sn l 5) = l) : Calls Try.prog 23 #[v] w fun e w' => e = .returned (.tuple #[.agg #[.int .u64 (sn l 0 : Int), .int .u64 (sn l 1 : Int), .int .u64 (sn l 2 : Int), .int .u64 (sn l 3 : Int), .int .u64 (sn l 4 : Int), .int .u64 (sn l 5 : Int)], .int .i64 0]) ∧ Fr (fun _ => False) w w' := by
  obtain ⟨ao, cap, rfl⟩ := h.shape
  obtain ⟨B0, o0, rfl, -, hnc, hcm, -⟩ := h.lits (by omega)
  rw [hl] at h hnc ⊢
  have HL := hide hl
  have HR := hide h
  have HC := hide (fun W (f : Fr (fun _ => False) w W) => taken8_any W _ ((l.drop 4).take 48) 6 ((h.kept f (fun _ _ h => h)).mid 4 48 (by omega) (by omega) (cap - 4) rfl (o0 + 4) rfl) (by rw [List.length_take, List.length_drop]; omega) (by omega))
  have HT := hide (show tk ((l.drop 4).take 48) 8 6 ((l.drop 4).take 48).length = [sn l 0, sn l 1, sn l 2, sn l 3, sn l 4, sn l 5] by rw [show ((l.drop 4).take 48).length = 48 by rw [List.length_take, List.length_drop]; omega]; exact sn_tk hl)
  have d1 : 52 ≤ cap := by omega
  have d2 : 4 ≤ cap := by omega
  have HS := hide hs
  clear h hl hs hcm
  have HQ := hide hq
  clear hq
  go_enter Try.func23, Try.ntmps23
  go_upto_region 4 with (go_at_call 57; refine (unhide HC _ ((Fr.refl _ _).alloc _)).mono ?_; rintro e w2 ⟨B, rfl, hB, f2, hs2⟩)
  rw [unhide HT] at hB
  have hz := (f2.block _ (by simp) id).trans (heap_alloc_new w (.cells #[.int .u64 0, .int .u64 0, .int .u64 0, .int .u64 0, .int .u64 0, .int .u64 0] 27))
  have F2 := hide (((Fr.refl (fun _ => False) w).alloc (.cells #[.int .u64 0, .int .u64 0, .int .u64 0, .int .u64 0, .int .u64 0, .int .u64 0] 27)).trans f2 (fun _ _ h => h))
  clear f2 hs2
  refine gs4 hB ?_
  intro y15 y16 y17 y18 y19 y20 y21 y22 y23 y24 y25 y26 y27 y28 y29 y30 y31 y32 y33 b w3 f3 hb hh
  have hz3 := (f3.block _ (lt_of_heap hz) id).trans hz
  have F3 := hide ((unhide F2).trans f3 (fun _ _ h => h))
  have hpw : w.heap.size < b := Nat.lt_of_lt_of_le (lt_of_heap hz) hb
  clear hz hB f3 hb F2
  generalize hp : w.heap.size = p at *
  go_wp2_with (first | (refine wl_loadR 27 6 _ Try.underlying27 (by kernel_rfl) (.tmp 5) rfl rfl b rfl _ 27 hh rfl ?_) | (refine wl_storeR 27 6 (by kernel_rfl) _ _ rfl rfl p rfl _ rfl _ 27 hz4 rfl rfl (by simp [Value.oneCell']) ?_; intro w5 hw5; have hz5 := setRow_at hz4 #[.int .u64 (sn l 0 : Int), .int .u64 (sn l 1 : Int), .int .u64 (sn l 2 : Int), .int .u64 (sn l 3 : Int), .int .u64 (sn l 4 : Int), .int .u64 (sn l 5 : Int)]; rw [← hw5] at hz5; have F5 := hide ((unhide F4).trans (hw5 ▸ Fr.setRow_one w4 _ rfl : Fr (fun k => k = p) w4 w5) (fun k hk e => by omega)); clear hw5) | (go_at_call 13; refine (putSuper_ok w3 _ _ _ _ _ _ (unhide HS)).mono ?_; rintro e w4 ⟨q, rfl, hq4, hq5, f4⟩; have hz4 := (f4.block _ (lt_of_heap hz3) id).trans hz3; have F4 := hide ((unhide F3).trans f4 (fun _ _ h => h)); have LD2 := hide (ldk hh f4); have HQ4 := hide (rd384 hq4); clear hq4; have HR4 := hide ((unhide HR).kept (unhide F4) (fun _ _ h => h))) | (refine wl_loadR 27 6 _ Try.underlying27 (by kernel_rfl) (.tmp 5) rfl rfl b rfl _ 27 (unhide LD2) rfl ?_) | (go_at_call 59; refine (equal_any w4 _ _ _ _ (unhide HQ4) (unhide HR4)).mono ?_; rintro e w5 ⟨rfl, rfl⟩; rw [decide_eq_true (unhide HQ)]))
  refine ret_ceR 27 6 _ Try.underlying27 (by kernel_rfl) p _ 27 rfl rfl rfl hz5 rfl ?_
  exact ⟨rfl, unhide F5⟩
end Go.Proofs.Ytgodlfoidjeekaa

namespace Go.Proofs.Ytgodlfoidjeekaa
set_option linter.unusedVariables false
set_option linter.unusedSimpArgs false
open Go.RowKit Go.Lib
set_option linter.unusedVariables false
set_option linter.unusedSimpArgs false

attribute [local go_sem ↓] Go.wp_at_zero Go.wp_at_succ

/-- The same, and rows of bytes do not turn. -/
structure RB (N : Nat) (w w' : World) : Prop where
  rs : RS N w w'
  by5 : ∀ (b : Nat) (cs : Array Value) (f : Nat × Nat), w.heap[b]? = some (Obj.cells cs 5 f) → w'.heap[b]? = some (.cells cs 5 f)
theorem RB.of_fr {N : Nat} {w w' : World} (f : Fr (fun _ => False) w w') : RB N w w' := ⟨RS.of_fr f, fun b cs g h => (f.block _ (lt_of_heap h) id).trans h⟩
theorem RB.trans {N : Nat} {a b c : World} (h : RB N a b) (k : RB N b c) : RB N a c := ⟨h.rs.trans k.rs, fun x cs f e => k.by5 _ _ _ (h.by5 _ _ _ e)⟩
theorem RB.setRow {N : Nat} {w : World} {g t k : Nat} {c : Array Value} (hN : N ≤ g) (hs : Sh w g t k) (hc : c.size = k) (ht : t ≠ 5) : RB N w (w.setRow g c) :=
  ⟨RS.setRow hN hs hc, fun b cs f h => (setRow_other w g b c (fun e => by
    subst e
    obtain ⟨ds, h2, -⟩ := hs
    rw [h] at h2
    simp at h2
    exact ht h2.2.1.symm)).trans h⟩
theorem RB.rd {N : Nat} {w w' : World} {B o n cap : Nat} {l : List UInt8} (h : B < N ∧ Rd w (.slice (some ⟨B, o, none⟩) n cap) l) (r : RB N w w') : Rd w' (.slice (some ⟨B, o, none⟩) n cap) l :=
  h.2.kept r.rs.fr (fun b e => by simp [Value.ownBlock] at e; omega)
/-- A new row of bytes. -/
def Ob (N : Nat) (w : World) (v : Value) (l : List UInt8) : Prop := w.ownsRow N 5 1 v l.length (bvs l)
theorem Ob.shape {N : Nat} {w : World} {v : Value} {l : List UInt8} (h : Ob N w v l) : ∃ ao k, v = .slice ao l.length k := owns_shape h
theorem Ob.keep {N M : Nat} {w w' : World} {v : Value} {l : List UInt8} (h : Ob N w v l) (r : RB M w w') : Ob N w' v l := by
  obtain ⟨h1, h2 | ⟨g, cap, cur, h3, h4, h5, h6⟩⟩ := h
  · exact ⟨h1, .inl h2⟩
  · exact ⟨h1, .inr ⟨g, cap, cur, h3, h4, r.by5 _ _ _ h5, h6⟩⟩
theorem Ob.of_nb {N : Nat} {w w' : World} {v : Value} {l : List UInt8} (h : Nb w w' v l) (hN : N ≤ w.heap.size) : Ob N w' v l := by
  obtain ⟨h1, h2 | ⟨g, cap, cur, h3, h4, h5, h6⟩⟩ := h.own
  · exact ⟨h1, .inl h2⟩
  · exact ⟨h1, .inr ⟨g, cap, cur, h3, Nat.le_trans hN (h.new g (by rw [h3]; rfl)), h5, h6⟩⟩
theorem Ob.rd {N : Nat} {w : World} {v : Value} {l : List UInt8} (h : Ob N w v l) : Rd w v l := by
  obtain ⟨h1, h2⟩ := h
  refine Rd.of_owns (base := N) ⟨h1, h2⟩
theorem Ob.kept {N : Nat} {w w' : World} {v : Value} {l : List UInt8} (h : Ob N w v l) (f : Fr (fun _ => False) w w') : Ob N w' v l := h.keep (M := 0) (RB.of_fr f)
def KV.boxB {N : Nat} (t n : Nat) : KV (RB N) := ⟨fun v w => ∃ b, v = .pointer (some ⟨b, 0, none⟩) ∧ N ≤ b ∧ Sh w b t n, fun v a b h f => by obtain ⟨x, e, hN, h⟩ := h; exact ⟨x, e, hN, f.rs.sh _ _ _ h⟩⟩
def KV.ob {N : Nat} (L : List UInt8) : KV (RB N) := ⟨fun v w => Ob N w v L, fun v a b h f => h.keep f⟩
def KV.agE {N : Nat} (a0 a1 a2 a3 m0 m1 : Nat) (L : List UInt8) : KV (RB N) := ⟨fun v w => ∃ u, v = .agg #[.int .u64 (a0 : Int), .int .u64 (a1 : Int), .int .u64 (a2 : Int), .int .u64 (a3 : Int), .int .i64 (m0 : Int), .int .i64 (m1 : Int), u] ∧ Ob N w u L, fun v a b h f => by obtain ⟨u, e, h⟩ := h; exact ⟨u, e, h.keep f⟩⟩
/-- Behind k stores. -/
def StE (a0 a1 a2 a3 m0 m1 : Nat) (L : List UInt8) (d N k : Nat) (a : Act) (w : World) : Prop := 1 ≤ k → ∃ b u, a.tmps.getD d undef = .pointer (some ⟨b, 0, none⟩) ∧ N ≤ b ∧ w.heap[b]? = some (.cells #[.int .u64 (a0 : Int), .int .u64 (a1 : Int), .int .u64 (a2 : Int), .int .u64 (a3 : Int), .int .i64 (m0 : Int), .int .i64 (m1 : Int), u] 25 (0, 0)) ∧ Ob N w u L
theorem StE.put {a0 a1 a2 a3 m0 m1 : Nat} {L : List UInt8} {d N k s : Nat} {a : Act} {w w' : World} {v : Value} (h : StE a0 a1 a2 a3 m0 m1 L d N k a w) (hs : s ≠ d) (f : Fr (fun _ => False) w w') : StE a0 a1 a2 a3 m0 m1 L d N k (a.put (some s) v) w' := by
  intro hk
  obtain ⟨b, u, e, hN, hh, ho⟩ := h hk
  exact ⟨b, u, (put_getD hs).trans e, hN, (f.block _ (lt_of_heap hh) id).trans hh, ho.kept f⟩
theorem cv22 (w : World) (n : Nat) (h : n < 65536) : (convert 22 3 (.int .u64 (n : Int))).run Try.prog w = .ok (.int .i64 (n : Int)) w := by
  have h2 : IntKind.i64.wrap (n : Int) = n := by simp [IntKind.wrap, IntKind.signed, IntKind.bits]; omega
  simp [go_sem, h2]
section
variable {ρ : Operand → Value} {o : Oper} {w : World} {x y z : Operand} {b : Nat}
theorem x_slice23 {B of n cap lo hi : Nat} (ho : o.op = .slice 23 x (some y) (some z) none) (hx : ρ x = .slice (some ⟨B, of, none⟩) n cap) (hy : ρ y = .int .i64 (lo : Int)) (hz : ρ z = .int .i64 (hi : Int)) (h1 : lo ≤ hi) (h2 : hi ≤ cap) (h3 : cap ≤ maxLen) (h4 : lo < cap) : (execOp ρ o).run Try.prog w = .ok (.value (.slice (some ⟨B, of + lo, none⟩) (hi - lo) (cap - lo))) w := by
  have e1 : lo ≤ cap := by omega
  have e2 : ¬ cap = lo := by omega
  have e3 : ¬ cap - lo = 0 := by omega
  simp [execOp, ho, hx, hy, hz, go_sem, h1, h2, e1, e2, e3]
theorem x_alloc25 (ho : o.op = .alloc 25) : (execOp ρ o).run Try.prog w = .ok (.value (.pointer (some ⟨w.heap.size, 0, none⟩))) (w.alloc (Obj.cells #[.int .u64 0, .int .u64 0, .int .u64 0, .int .u64 0, .int .i64 0, .int .i64 0, .slice none 0 0] 25)) := by
  simp [execOp, ho, go_sem]
theorem x_build25 {x0 x1 x2 x3 x4 x5 x6 : Operand} {ao : Option Addr} {n k : Nat} (ho : o.op = .build 25 #[(0, x0), (1, x1), (2, x2), (3, x3), (4, x4), (5, x5), (6, x6)]) {n0 n1 n2 n3 n4 n5 : Int} (h0 : ρ x0 = .int .u64 n0) (h1 : ρ x1 = .int .u64 n1) (h2 : ρ x2 = .int .u64 n2) (h3 : ρ x3 = .int .u64 n3) (h4 : ρ x4 = .int .i64 n4) (h5 : ρ x5 = .int .i64 n5) (h6 : ρ x6 = .slice ao n k) : (execOp ρ o).run Try.prog w = .ok (.value (.agg #[.int .u64 n0, .int .u64 n1, .int .u64 n2, .int .u64 n3, .int .i64 n4, .int .i64 n5, .slice ao n k])) w := by
  simp [execOp, ho, h0, h1, h2, h3, h4, h5, h6, go_sem]
end
set_option maxHeartbeats 8000000 in
set_option maxRecDepth 100000 in
theorem gs7 {W : World} {A M B0 o0 cap q a0 a1 a2 a3 m0 m1 m2 m3 m4 m5 : Nat} {L : List UInt8} {u1 u2 u3 u4 u8 u9 u10 u11 u12 u13 u14 u15 u16 u17 u18 u19 u20 u21 u22 u23 u24 u25 u26 u27 u28 u29 u30 u31 u32 u33 u34 u35 u36 u37 u38 u39 u40 u41 u42 u43 u44 u45 u46 u47 u48 u49 u50 u51 u52 u53 u54 u55 u56 u57 u58 u59 u60 u61 u62 u63 u64 u65 u66 u67 u68 : Value} {Q : Exit → Act → World → Prop} (hA : UAt W A [a0, a1, a2, a3]) (hM : UAt W M [m0, m1, m2, m3, m4, m5]) (hm0 : m0 < 65536) (hm1 : m1 < 65536) (hB0 : B0 < W.heap.size) (hR0 : Rd W (.slice (some ⟨B0, o0 + 48, none⟩) (q - 48) (cap - 48)) L) (hL : L.length ≤ 1000000) (hq48 : 48 ≤ q) (hc48 : 48 < cap) (hq : q ≤ cap) (hcap : cap ≤ maxLen)
    (hQ : ∀ (y29 y30 y31 y32 y33 y34 y35 y36 y37 y38 y39 y40 y41 y42 y43 y44 y45 y46 y47 y48 y49 y50 y51 y52 y53 : Value) (b : Nat) (u : Value) (W' : World), Fr (fun _ => False) W W' → W.heap.size ≤ b → W'.heap[b]? = some (.cells #[.int .u64 (a0 : Int), .int .u64 (a1 : Int), .int .u64 (a2 : Int), .int .u64 (a3 : Int), .int .i64 (m0 : Int), .int .i64 (m1 : Int), u] 25 (0, 0)) → Ob W.heap.size W' u L → Q .normal ⟨#[.slice (some ⟨B0, o0, none⟩) 384 cap, u1, u2, u3, u4, .slice (some ⟨A, 0, none⟩) 4 4, .slice (some ⟨M, 0, none⟩) 6 6, .int .i64 (q : Int), .pointer (some ⟨b, 0, none⟩), u9, u10, u11, u12, u13, u14, u15, u16, u17, u18, u19, u20, u21, u22, u23, u24, u25, u26, u27, u28, y29, y30, y31, y32, y33, y34, y35, y36, y37, y38, y39, y40, y41, y42, y43, y44, y45, y46, y47, y48, y49, y50, y51, y52, y53, u54, u55, u56, u57, u58, u59, u60, u61, u62, u63, u64, u65, u66, u67, u68], []⟩ W') : (rgF Try.f21 7).wp Try.prog Q ⟨#[.slice (some ⟨B0, o0, none⟩) 384 cap, u1, u2, u3, u4, .slice (some ⟨A, 0, none⟩) 4 4, .slice (some ⟨M, 0, none⟩) 6 6, .int .i64 (q : Int), u8, u9, u10, u11, u12, u13, u14, u15, u16, u17, u18, u19, u20, u21, u22, u23, u24, u25, u26, u27, u28, u29, u30, u31, u32, u33, u34, u35, u36, u37, u38, u39, u40, u41, u42, u43, u44, u45, u46, u47, u48, u49, u50, u51, u52, u53, u54, u55, u56, u57, u58, u59, u60, u61, u62, u63, u64, u65, u66, u67, u68], []⟩ W := by
  have HQ := hide hQ
  clear hQ
  have lA := lt_of_heap hA
  have lM := lt_of_heap hM
  have r0 := And.intro hB0 hR0
  conv => arg 2; whnf
  refine wp_nm ?_
  intro a0' hA0
  have s0 : a0'.tmps.getD 0 undef = .slice (some ⟨B0, o0, none⟩) 384 cap := by rw [hA0]; rfl
  have s5 : a0'.tmps.getD 5 undef = .slice (some ⟨A, 0, none⟩) 4 4 := by rw [hA0]; rfl
  have s6 : a0'.tmps.getD 6 undef = .slice (some ⟨M, 0, none⟩) 6 6 := by rw [hA0]; rfl
  have s7 : a0'.tmps.getD 7 undef = .int .i64 (q : Int) := by rw [hA0]; rfl
  have hsz : a0'.tmps.size = 69 := by rw [hA0]; rfl
  have hdf : a0'.defers = [] := by rw [hA0]
  refine wp_region_chainA (by kernel_rfl) (by kernel_rfl) (by decide +kernel) (by rw [hsz]; decide +kernel) (fun w w' => RB W.heap.size w w') (RB.of_fr (Fr.refl _ _).drew) (fun _ _ _ => RB.trans) (Tw [KV.eq (.slice (some ⟨A, 0, none⟩) 4 4), KV.eq (.pointer (some ⟨A, 0, none⟩)), KV.eq (.int .u64 (a0 : Int)), KV.eq (.slice (some ⟨A, 0, none⟩) 4 4), KV.eq (.pointer (some ⟨A, 1, none⟩)), KV.eq (.int .u64 (a1 : Int)), KV.eq (.slice (some ⟨A, 0, none⟩) 4 4), KV.eq (.pointer (some ⟨A, 2, none⟩)), KV.eq (.int .u64 (a2 : Int)), KV.eq (.slice (some ⟨A, 0, none⟩) 4 4), KV.eq (.pointer (some ⟨A, 3, none⟩)), KV.eq (.int .u64 (a3 : Int)), KV.eq (.slice (some ⟨M, 0, none⟩) 6 6), KV.eq (.pointer (some ⟨M, 0, none⟩)), KV.eq (.int .u64 (m0 : Int)), KV.eq (.int .i64 (m0 : Int)), KV.eq (.slice (some ⟨M, 0, none⟩) 6 6), KV.eq (.pointer (some ⟨M, 1, none⟩)), KV.eq (.int .u64 (m1 : Int)), KV.eq (.int .i64 (m1 : Int)), KV.eq (.slice (some ⟨B0, o0, none⟩) 384 cap), KV.eq (.int .i64 (q : Int)), KV.eq (.slice (some ⟨B0, o0 + 48, none⟩) (q - 48) (cap - 48)), KV.ob L, KV.agE a0 a1 a2 a3 m0 m1 L, KV.boxB 25 7]) (Tw.mono _) [26] (by decide) (by decide) (fun k i j h1 h2 => ?cp) (StE a0 a1 a2 a3 m0 m1 L 8 W.heap.size) ?st0 ?steps ?done
  case cp =>
    match k, h1, h2 with
    | 0, h1, h2 => simp at h2
    | k + 1, h1, h2 => simp at h2
  case st0 => exact fun h => by omega
  case steps =>
    have hU : ∀ w', RB W.heap.size W w' → UAt w' A [a0, a1, a2, a3] := fun w' f => hA.kept f.rs.fr (by omega)
    have hU2 : ∀ w', RB W.heap.size W w' → UAt w' M [m0, m1, m2, m3, m4, m5] := fun w' f => hM.kept f.rs.fr (by omega)
    refine ⟨?_, ?_⟩
    · intro a' w' k hb hR hst hck hle hd
      exact .inl ⟨wanted_none rfl, la_val _ _ (by decide) (x_move rfl ((hb.old 5 (by decide +kernel)).trans s5)) rfl (RB.of_fr (Fr.refl _ _)) (hst.put (by decide) (Fr.refl _ _))⟩
    refine ⟨?_, ?_⟩
    · intro a' w' k hb hR hst hck hle hd
      exact .inl ⟨wanted_none rfl, la_val _ _ (by decide) (x_idxU (c := 0) (m := 4) rfl (hd 0 (by kernel_rfl) 29 rfl) (by decide) (by decide) rfl) rfl (RB.of_fr (Fr.refl _ _)) (hst.put (by decide) (Fr.refl _ _))⟩
    refine ⟨?_, ?_⟩
    · intro a' w' k hb hR hst hck hle hd
      exact .inl ⟨wanted_none rfl, la_val _ _ (by decide) (x_load1 ld22 rfl (hd 1 (by kernel_rfl) 30 rfl) ((hU w' hR).cell 0 (by simp))) rfl (RB.of_fr (Fr.refl _ _)) (hst.put (by decide) (Fr.refl _ _))⟩
    refine ⟨?_, ?_⟩
    · intro a' w' k hb hR hst hck hle hd
      exact .inl ⟨wanted_none rfl, la_val _ _ (by decide) (x_move rfl ((hb.old 5 (by decide +kernel)).trans s5)) rfl (RB.of_fr (Fr.refl _ _)) (hst.put (by decide) (Fr.refl _ _))⟩
    refine ⟨?_, ?_⟩
    · intro a' w' k hb hR hst hck hle hd
      exact .inl ⟨wanted_none rfl, la_val _ _ (by decide) (x_idxU (c := 1) (m := 4) rfl (hd 3 (by kernel_rfl) 32 rfl) (by decide) (by decide) rfl) rfl (RB.of_fr (Fr.refl _ _)) (hst.put (by decide) (Fr.refl _ _))⟩
    refine ⟨?_, ?_⟩
    · intro a' w' k hb hR hst hck hle hd
      exact .inl ⟨wanted_none rfl, la_val _ _ (by decide) (x_load1 ld22 rfl (hd 4 (by kernel_rfl) 33 rfl) ((hU w' hR).cell 1 (by simp))) rfl (RB.of_fr (Fr.refl _ _)) (hst.put (by decide) (Fr.refl _ _))⟩
    refine ⟨?_, ?_⟩
    · intro a' w' k hb hR hst hck hle hd
      exact .inl ⟨wanted_none rfl, la_val _ _ (by decide) (x_move rfl ((hb.old 5 (by decide +kernel)).trans s5)) rfl (RB.of_fr (Fr.refl _ _)) (hst.put (by decide) (Fr.refl _ _))⟩
    refine ⟨?_, ?_⟩
    · intro a' w' k hb hR hst hck hle hd
      exact .inl ⟨wanted_none rfl, la_val _ _ (by decide) (x_idxU (c := 2) (m := 4) rfl (hd 6 (by kernel_rfl) 35 rfl) (by decide) (by decide) rfl) rfl (RB.of_fr (Fr.refl _ _)) (hst.put (by decide) (Fr.refl _ _))⟩
    refine ⟨?_, ?_⟩
    · intro a' w' k hb hR hst hck hle hd
      exact .inl ⟨wanted_none rfl, la_val _ _ (by decide) (x_load1 ld22 rfl (hd 7 (by kernel_rfl) 36 rfl) ((hU w' hR).cell 2 (by simp))) rfl (RB.of_fr (Fr.refl _ _)) (hst.put (by decide) (Fr.refl _ _))⟩
    refine ⟨?_, ?_⟩
    · intro a' w' k hb hR hst hck hle hd
      exact .inl ⟨wanted_none rfl, la_val _ _ (by decide) (x_move rfl ((hb.old 5 (by decide +kernel)).trans s5)) rfl (RB.of_fr (Fr.refl _ _)) (hst.put (by decide) (Fr.refl _ _))⟩
    refine ⟨?_, ?_⟩
    · intro a' w' k hb hR hst hck hle hd
      exact .inl ⟨wanted_none rfl, la_val _ _ (by decide) (x_idxU (c := 3) (m := 4) rfl (hd 9 (by kernel_rfl) 38 rfl) (by decide) (by decide) rfl) rfl (RB.of_fr (Fr.refl _ _)) (hst.put (by decide) (Fr.refl _ _))⟩
    refine ⟨?_, ?_⟩
    · intro a' w' k hb hR hst hck hle hd
      exact .inl ⟨wanted_none rfl, la_val _ _ (by decide) (x_load1 ld22 rfl (hd 10 (by kernel_rfl) 39 rfl) ((hU w' hR).cell 3 (by simp))) rfl (RB.of_fr (Fr.refl _ _)) (hst.put (by decide) (Fr.refl _ _))⟩
    refine ⟨?_, ?_⟩
    · intro a' w' k hb hR hst hck hle hd
      exact .inl ⟨wanted_none rfl, la_val _ _ (by decide) (x_move rfl ((hb.old 6 (by decide +kernel)).trans s6)) rfl (RB.of_fr (Fr.refl _ _)) (hst.put (by decide) (Fr.refl _ _))⟩
    refine ⟨?_, ?_⟩
    · intro a' w' k hb hR hst hck hle hd
      exact .inl ⟨wanted_none rfl, la_val _ _ (by decide) (x_idxU (c := 0) (m := 6) rfl (hd 12 (by kernel_rfl) 41 rfl) (by decide) (by decide) rfl) rfl (RB.of_fr (Fr.refl _ _)) (hst.put (by decide) (Fr.refl _ _))⟩
    refine ⟨?_, ?_⟩
    · intro a' w' k hb hR hst hck hle hd
      exact .inl ⟨wanted_none rfl, la_val _ _ (by decide) (x_load1 ld22 rfl (hd 13 (by kernel_rfl) 42 rfl) ((hU2 w' hR).cell 0 (by simp))) rfl (RB.of_fr (Fr.refl _ _)) (hst.put (by decide) (Fr.refl _ _))⟩
    refine ⟨?_, ?_⟩
    · intro a' w' k hb hR hst hck hle hd
      exact .inl ⟨wanted_none rfl, la_val _ _ (by decide) (x_conv rfl (hd 14 (by kernel_rfl) 43 rfl) (cv22 _ _ hm0)) rfl (RB.of_fr (Fr.refl _ _)) (hst.put (by decide) (Fr.refl _ _))⟩
    refine ⟨?_, ?_⟩
    · intro a' w' k hb hR hst hck hle hd
      exact .inl ⟨wanted_none rfl, la_val _ _ (by decide) (x_move rfl ((hb.old 6 (by decide +kernel)).trans s6)) rfl (RB.of_fr (Fr.refl _ _)) (hst.put (by decide) (Fr.refl _ _))⟩
    refine ⟨?_, ?_⟩
    · intro a' w' k hb hR hst hck hle hd
      exact .inl ⟨wanted_none rfl, la_val _ _ (by decide) (x_idxU (c := 1) (m := 6) rfl (hd 16 (by kernel_rfl) 45 rfl) (by decide) (by decide) rfl) rfl (RB.of_fr (Fr.refl _ _)) (hst.put (by decide) (Fr.refl _ _))⟩
    refine ⟨?_, ?_⟩
    · intro a' w' k hb hR hst hck hle hd
      exact .inl ⟨wanted_none rfl, la_val _ _ (by decide) (x_load1 ld22 rfl (hd 17 (by kernel_rfl) 46 rfl) ((hU2 w' hR).cell 1 (by simp))) rfl (RB.of_fr (Fr.refl _ _)) (hst.put (by decide) (Fr.refl _ _))⟩
    refine ⟨?_, ?_⟩
    · intro a' w' k hb hR hst hck hle hd
      exact .inl ⟨wanted_none rfl, la_val _ _ (by decide) (x_conv rfl (hd 18 (by kernel_rfl) 47 rfl) (cv22 _ _ hm1)) rfl (RB.of_fr (Fr.refl _ _)) (hst.put (by decide) (Fr.refl _ _))⟩
    refine ⟨?_, ?_⟩
    · intro a' w' k hb hR hst hck hle hd
      exact .inl ⟨wanted_none rfl, la_val _ _ (by decide) (x_move rfl ((hb.old 0 (by decide +kernel)).trans s0)) rfl (RB.of_fr (Fr.refl _ _)) (hst.put (by decide) (Fr.refl _ _))⟩
    refine ⟨?_, ?_⟩
    · intro a' w' k hb hR hst hck hle hd
      exact .inl ⟨wanted_none rfl, la_val _ _ (by decide) (x_move rfl ((hb.old 7 (by decide +kernel)).trans s7)) rfl (RB.of_fr (Fr.refl _ _)) (hst.put (by decide) (Fr.refl _ _))⟩
    refine ⟨?_, ?_⟩
    · intro a' w' k hb hR hst hck hle hd
      have e0 : a'.tmps.getD 49 undef = .slice (some ⟨B0, o0, none⟩) 384 cap := hd 20 (by kernel_rfl) 49 rfl
      have e1 : a'.tmps.getD 50 undef = .int .i64 (q : Int) := hd 21 (by kernel_rfl) 50 rfl
      exact .inl ⟨wanted_none rfl, la_val _ _ (by decide) (x_slice23 (x := .tmp 49) (y := .const (.int .i64 48)) (z := .tmp 50) (lo := 48) (hi := q) rfl e0 rfl e1 hq48 hq hcap hc48) rfl (RB.of_fr (Fr.refl _ _)) (hst.put (by decide) (Fr.refl _ _))⟩
    refine ⟨?_, ?_⟩
    · intro a' w' k hb hR hst hck hle hd
      refine .inl ⟨wanted_none rfl, la_call 58 _ (by decide) (e_call1 rfl rfl (hd 22 (by kernel_rfl) 51 rfl) (fun _ _ => by simp [go_sem])) ((clone_any w' _ L (RB.rd r0 hR) hL).mono ?_)⟩
      rintro e w2 ⟨v', rfl, hv⟩
      exact ⟨_, rfl, Ob.of_nb hv hR.rs.fr.size, RB.of_fr hv.fr, hst.put (by decide) hv.fr⟩
    refine ⟨?_, ?_⟩
    · intro a' w' k hb hR hst hck hle hd
      have e0 : a'.tmps.getD 31 undef = .int .u64 (a0 : Int) := hd 2 (by kernel_rfl) 31 rfl
      have e1 : a'.tmps.getD 34 undef = .int .u64 (a1 : Int) := hd 5 (by kernel_rfl) 34 rfl
      have e2 : a'.tmps.getD 37 undef = .int .u64 (a2 : Int) := hd 8 (by kernel_rfl) 37 rfl
      have e3 : a'.tmps.getD 40 undef = .int .u64 (a3 : Int) := hd 11 (by kernel_rfl) 40 rfl
      have e4 : a'.tmps.getD 44 undef = .int .i64 (m0 : Int) := hd 15 (by kernel_rfl) 44 rfl
      have e5 : a'.tmps.getD 48 undef = .int .i64 (m1 : Int) := hd 19 (by kernel_rfl) 48 rfl
      have e6 : Ob W.heap.size w' (a'.tmps.getD 52 undef) L := hd 23 (by kernel_rfl) 52 rfl
      obtain ⟨ao, kk, e7⟩ := e6.shape
      refine .inl ⟨wanted_none rfl, la_val _ _ (by decide) (x_build25 (x0 := .tmp 31) (x1 := .tmp 34) (x2 := .tmp 37) (x3 := .tmp 40) (x4 := .tmp 44) (x5 := .tmp 48) (x6 := .tmp 52) rfl e0 e1 e2 e3 e4 e5 e7) ⟨_, rfl, e7 ▸ e6⟩ (RB.of_fr (Fr.refl _ _)) (hst.put (by decide) (Fr.refl _ _))⟩
    refine ⟨?_, ?_⟩
    · intro a' w' k hb hR hst hck hle hd
      have hk : k ≤ 0 := hle 0 26 _ rfl rfl (by kernel_rfl)
      exact .inl ⟨wanted_none rfl, la_val _ _ (by decide) (x_alloc25 rfl) ⟨_, rfl, hR.rs.fr.size, .of (heap_alloc_new w' _) rfl⟩ (RB.of_fr ((Fr.refl _ _).alloc _)) (fun h => by omega)⟩
    refine ⟨?_, ?_⟩
    · intro a' w' k hb hR hst hck hle hd
      obtain rfl : 0 = k := hck 0 rfl
      obtain ⟨b, eb, hbN, hbM⟩ := hd 25 (by kernel_rfl) 8 rfl
      obtain ⟨v', ev, hv⟩ := hd 24 (by kernel_rfl) 53 rfl
      obtain ⟨ao, k, rfl⟩ := Ob.shape hv
      obtain ⟨cs, hh, hk⟩ := hbM
      have hR2 := RB.setRow (N := W.heap.size) (c := #[.int .u64 (a0 : Int), .int .u64 (a1 : Int), .int .u64 (a2 : Int), .int .u64 (a3 : Int), .int .i64 (m0 : Int), .int .i64 (m1 : Int), .slice ao L.length k]) hbN ⟨cs, hh, hk⟩ rfl (by decide)
      exact .inl ⟨wanted_none rfl, la_store _ (by decide) (x_storeR 25 7 (by kernel_rfl) (c := #[.int .u64 (a0 : Int), .int .u64 (a1 : Int), .int .u64 (a2 : Int), .int .u64 (a3 : Int), .int .i64 (m0 : Int), .int .i64 (m1 : Int), .slice ao L.length k]) rfl eb ev rfl (by simp [Value.oneCell']) ⟨cs, hh, hk⟩) trivial hR2 (fun _ => ⟨b, _, eb, hbN, setRow_at hh _, Ob.keep hv hR2⟩)⟩
    exact trivial
  case done =>
    intro a' w' hb hR hst hall
    obtain ⟨b, u, eb, hbN, hh, ho⟩ := hst (by decide)
    have f := hR.rs.old (Nat.le_refl _)
    have hfr := frame_eq (a := a') (vs := [.slice (some ⟨B0, o0, none⟩) 384 cap, u1, u2, u3, u4, .slice (some ⟨A, 0, none⟩) 4 4, .slice (some ⟨M, 0, none⟩) 6 6, .int .i64 (q : Int), .pointer (some ⟨b, 0, none⟩), u9, u10, u11, u12, u13, u14, u15, u16, u17, u18, u19, u20, u21, u22, u23, u24, u25, u26, u27, u28, a'.tmps.getD 29 undef, a'.tmps.getD 30 undef, a'.tmps.getD 31 undef, a'.tmps.getD 32 undef, a'.tmps.getD 33 undef, a'.tmps.getD 34 undef, a'.tmps.getD 35 undef, a'.tmps.getD 36 undef, a'.tmps.getD 37 undef, a'.tmps.getD 38 undef, a'.tmps.getD 39 undef, a'.tmps.getD 40 undef, a'.tmps.getD 41 undef, a'.tmps.getD 42 undef, a'.tmps.getD 43 undef, a'.tmps.getD 44 undef, a'.tmps.getD 45 undef, a'.tmps.getD 46 undef, a'.tmps.getD 47 undef, a'.tmps.getD 48 undef, a'.tmps.getD 49 undef, a'.tmps.getD 50 undef, a'.tmps.getD 51 undef, a'.tmps.getD 52 undef, a'.tmps.getD 53 undef, u54, u55, u56, u57, u58, u59, u60, u61, u62, u63, u64, u65, u66, u67, u68]) (by rw [hb.size, hsz]; rfl) (by rw [hb.defers, hdf]) ⟨(hb.old 0 (by decide +kernel)).trans (by rw [hA0]; rfl), (hb.old 1 (by decide +kernel)).trans (by rw [hA0]; rfl), (hb.old 2 (by decide +kernel)).trans (by rw [hA0]; rfl), (hb.old 3 (by decide +kernel)).trans (by rw [hA0]; rfl), (hb.old 4 (by decide +kernel)).trans (by rw [hA0]; rfl), (hb.old 5 (by decide +kernel)).trans (by rw [hA0]; rfl), (hb.old 6 (by decide +kernel)).trans (by rw [hA0]; rfl), (hb.old 7 (by decide +kernel)).trans (by rw [hA0]; rfl), eb, (hb.old 9 (by decide +kernel)).trans (by rw [hA0]; rfl), (hb.old 10 (by decide +kernel)).trans (by rw [hA0]; rfl), (hb.old 11 (by decide +kernel)).trans (by rw [hA0]; rfl), (hb.old 12 (by decide +kernel)).trans (by rw [hA0]; rfl), (hb.old 13 (by decide +kernel)).trans (by rw [hA0]; rfl), (hb.old 14 (by decide +kernel)).trans (by rw [hA0]; rfl), (hb.old 15 (by decide +kernel)).trans (by rw [hA0]; rfl), (hb.old 16 (by decide +kernel)).trans (by rw [hA0]; rfl), (hb.old 17 (by decide +kernel)).trans (by rw [hA0]; rfl), (hb.old 18 (by decide +kernel)).trans (by rw [hA0]; rfl), (hb.old 19 (by decide +kernel)).trans (by rw [hA0]; rfl), (hb.old 20 (by decide +kernel)).trans (by rw [hA0]; rfl), (hb.old 21 (by decide +kernel)).trans (by rw [hA0]; rfl), (hb.old 22 (by decide +kernel)).trans (by rw [hA0]; rfl), (hb.old 23 (by decide +kernel)).trans (by rw [hA0]; rfl), (hb.old 24 (by decide +kernel)).trans (by rw [hA0]; rfl), (hb.old 25 (by decide +kernel)).trans (by rw [hA0]; rfl), (hb.old 26 (by decide +kernel)).trans (by rw [hA0]; rfl), (hb.old 27 (by decide +kernel)).trans (by rw [hA0]; rfl), (hb.old 28 (by decide +kernel)).trans (by rw [hA0]; rfl), rfl, rfl, rfl, rfl, rfl, rfl, rfl, rfl, rfl, rfl, rfl, rfl, rfl, rfl, rfl, rfl, rfl, rfl, rfl, rfl, rfl, rfl, rfl, rfl, rfl, (hb.old 54 (by decide +kernel)).trans (by rw [hA0]; rfl), (hb.old 55 (by decide +kernel)).trans (by rw [hA0]; rfl), (hb.old 56 (by decide +kernel)).trans (by rw [hA0]; rfl), (hb.old 57 (by decide +kernel)).trans (by rw [hA0]; rfl), (hb.old 58 (by decide +kernel)).trans (by rw [hA0]; rfl), (hb.old 59 (by decide +kernel)).trans (by rw [hA0]; rfl), (hb.old 60 (by decide +kernel)).trans (by rw [hA0]; rfl), (hb.old 61 (by decide +kernel)).trans (by rw [hA0]; rfl), (hb.old 62 (by decide +kernel)).trans (by rw [hA0]; rfl), (hb.old 63 (by decide +kernel)).trans (by rw [hA0]; rfl), (hb.old 64 (by decide +kernel)).trans (by rw [hA0]; rfl), (hb.old 65 (by decide +kernel)).trans (by rw [hA0]; rfl), (hb.old 66 (by decide +kernel)).trans (by rw [hA0]; rfl), (hb.old 67 (by decide +kernel)).trans (by rw [hA0]; rfl), (hb.old 68 (by decide +kernel)).trans (by rw [hA0]; rfl), trivial⟩
    rw [hfr]
    exact unhide HQ _ _ _ _ _ _ _ _ _ _ _ _ _ _ _ _ _ _ _ _ _ _ _ _ _ b u w' f hbN hh ho
end Go.Proofs.Ytgodlfoidjeekaa

namespace Go.Proofs.Ytgodlfoidjeekaa
set_option linter.unusedVariables false
set_option linter.unusedSimpArgs false
open Go.RowKit Go.Lib
set_option linter.unusedVariables false
set_option linter.unusedSimpArgs false

attribute [local go_sem ↓] Go.wp_at_zero Go.wp_at_succ

/-- The numbers of an entry's bytes. -/
def gl (l : List UInt8) (c : Nat) : Nat := val ((((l.drop 4).take 32).drop (c * 8)).take 8)
def gm (l : List UInt8) (c : Nat) : Nat := val ((((l.drop 36).take 12).drop (c * 2)).take 2)
def gq (l : List UInt8) : Nat := min (gm l 2) 336
def gP (l : List UInt8) : List UInt8 := (l.drop 48).take (gq l)
theorem gm_lt (l : List UInt8) (c : Nat) : gm l c < 65536 := by
  have h := val_lt ((((l.drop 36).take 12).drop (c * 2)).take 2)
  have h2 : ((((l.drop 36).take 12).drop (c * 2)).take 2).length ≤ 2 := by rw [List.length_take]; omega
  have h3 := Nat.pow_le_pow_right (n := 256) (by omega) h2
  unfold gm
  omega
theorem gP_length {l : List UInt8} (h : l.length = 384) : (gP l).length = gq l := by
  unfold gP gq
  rw [List.length_take, List.length_drop]
  omega
theorem gl_tk {l : List UInt8} (h : l.length = 384) : tk ((l.drop 4).take 32) 8 4 ((l.drop 4).take 32).length = [gl l 0, gl l 1, gl l 2, gl l 3] := by
  have e0 : ((l.drop 4).take 32).length = 32 := by rw [List.length_take, List.length_drop]; omega
  have e : ((l.drop 4).take 32).take 32 = (l.drop 4).take 32 := by rw [List.take_take]; simp
  rw [e0]
  unfold tk gl
  rw [e]
  rfl
theorem gm_tk {l : List UInt8} (h : l.length = 384) : tk ((l.drop 36).take 12) 2 6 ((l.drop 36).take 12).length = [gm l 0, gm l 1, gm l 2, gm l 3, gm l 4, gm l 5] := by
  have e0 : ((l.drop 36).take 12).length = 12 := by rw [List.length_take, List.length_drop]; omega
  have e : ((l.drop 36).take 12).take 12 = (l.drop 36).take 12 := by rw [List.take_take]; simp
  rw [e0]
  unfold tk gm
  rw [e]
  rfl
theorem min336 (m q : Nat) (h : min m 336 = q) : min (m : Int) 336 = (q : Int) := by omega
theorem Rd.mid2 {w : World} {B o n cap : Nat} {l : List UInt8} (h : Rd w (.slice (some ⟨B, o, none⟩) n cap) l) (p q : Nat) (hpq : p + q ≤ l.length) (hl : 0 < l.length) (c : Nat) (hc : c = cap - p) (o2 : Nat) (ho : o2 = o + p) : Rd w (.slice (some ⟨B, o2, none⟩) q c) ((l.drop p).take q) := by
  subst hc ho
  obtain ⟨B', o', e, hn, hnc, hcm, hcell⟩ := h.lits hl
  simp at e
  obtain ⟨rfl, rfl⟩ := e
  refine .lit (by rw [List.length_take, List.length_drop]; omega) (by omega) (by omega) fun j hj => ?_
  rw [List.length_take, List.length_drop] at hj
  have := hcell (p + j) (by omega)
  rw [show o + p + j = o + (p + j) by omega, this]
  simp [List.getElem_take, List.getElem_drop]
theorem Ob.mono {N M : Nat} {w : World} {v : Value} {l : List UInt8} (h : Ob M w v l) (hN : N ≤ M) : Ob N w v l := by
  obtain ⟨h1, h2 | ⟨g, cap, cur, h3, h4, h5, h6⟩⟩ := h
  · exact ⟨h1, .inl h2⟩
  · exact ⟨h1, .inr ⟨g, cap, cur, h3, Nat.le_trans hN h4, h5, h6⟩⟩
theorem rdEn {w : World} {q b s p l pt ps n : Nat} {L : List UInt8} (h : BAt w q (enB b s p l pt ps n L)) (hL : L.length ≤ 336) : Rd w (.slice (some ⟨q, 0, none⟩) 384 384) (enB b s p l pt ps n L) := by
  have := h.rd (by rw [enB_length hL]; decide)
  rwa [enB_length hL] at this
theorem getEntry_len (w : World) (v : Value) (l : List UInt8) (h : Rd w v l) (hl : l.length ≠ 384) : Calls Try.prog 21 #[v] w fun e w' => e = .returned (.tuple #[.agg #[.int .u64 0, .int .u64 0, .int .u64 0, .int .u64 0, .int .i64 0, .int .i64 0, .slice none 0 0], .int .i64 81]) ∧ Fr (fun _ => False) w w' := by
  obtain ⟨ao, cap, rfl⟩ := h.shape
  clear h
  obtain ⟨n, hn⟩ : ∃ n, n = l.length := ⟨_, rfl⟩
  rw [← hn] at hl ⊢
  have d1 : ((n : Int) == 384) = false := by simp; omega
  have d2 : ¬ ((n : Int) = 384) := by omega
  clear hl hn
  go_enter Try.func21, Try.ntmps21
  go_wp2_with fail
  refine ret_ceR 25 7 _ Try.underlying25 (by kernel_rfl) w.heap.size #[.int .u64 0, .int .u64 0, .int .u64 0, .int .u64 0, .int .i64 0, .int .i64 0, .slice none 0 0] 25 rfl rfl rfl (heap_alloc_new w _) rfl ?_
  exact ⟨rfl, by repeat' (first | exact Fr.refl _ _ | apply Fr.alloc)⟩
set_option maxHeartbeats 8000000 in
set_option maxRecDepth 100000 in
theorem getEntry_no (w : World) (v : Value) (l : List UInt8) (h : Rd w v l) (hl : l.length = 384) (hs : cbB (gl l 0) (gl l 1) (gl l 2) (gl l 3) (gm l 0) (gm l 1) (gq l) = false) : Calls Try.prog 21 #[v] w fun e w' => e = .returned (.tuple #[.agg #[.int .u64 0, .int .u64 0, .int .u64 0, .int .u64 0, .int .i64 0, .int .i64 0, .slice none 0 0], .int .i64 81]) ∧ Fr (fun _ => False) w w' := by
  obtain ⟨ao, cap, rfl⟩ := h.shape
  obtain ⟨B0, o0, rfl, -, hnc, hcm, hcell⟩ := h.lits (by omega)
  have hB0 : B0 < w.heap.size := World.block_lt_of_cell? w _ (hcell 0 (by omega))
  rw [hl] at h hnc ⊢
  have HL := hide hl
  have HR := hide h
  have HC8 := hide (fun W (f : Fr (fun _ => False) w W) => taken8_any W _ ((l.drop 4).take 32) 4 ((h.kept f (fun _ _ h => h)).mid 4 32 (by omega) (by omega) (cap - 4) rfl (o0 + 4) rfl) (by rw [List.length_take, List.length_drop]; omega) (by omega))
  have HC2 := hide (fun W (f : Fr (fun _ => False) w W) => taken2_any W _ ((l.drop 36).take 12) 6 ((h.kept f (fun _ _ h => h)).mid 36 12 (by omega) (by omega) (cap - 36) rfl (o0 + 36) rfl) (by rw [List.length_take, List.length_drop]; omega) (by omega))
  have d1 : 36 ≤ cap := by omega
  have d2 : 4 ≤ cap := by omega
  have d3 : 48 ≤ cap := by omega
  have e2 : IntKind.i64.wrap (gm l 2 : Int) = (gm l 2 : Int) := by have := gm_lt l 2; simp [IntKind.wrap, IntKind.signed, IntKind.bits]; omega
  have e3 := min336 (gm l 2) (gq l) rfl
  have e9 : (if 336 < ((gm l 2 : Nat) : Int) then (336 : Int) else ((gm l 2 : Nat) : Int)) = ((gq l : Nat) : Int) := by unfold gq; split <;> omega
  have HQ3 := hide (show gq l ≤ 336 by unfold gq; omega)
  have HS := hide hs
  have HCM := hide hcm
  have HB0 := hide hB0
  clear h hl hs hcm hcell hB0
  go_enter Try.func21, Try.ntmps21
  go_upto_region 5 with (go_at_call 57; (refine (unhide HC8 _ ((Fr.refl _ _).alloc _)).mono ?_; rintro e w2 ⟨A, rfl, hA, f2, hs2⟩; rw [gl_tk (unhide HL)] at hA; have hz := (f2.block _ (by simp) id).trans (heap_alloc_new w (.cells #[.int .u64 0, .int .u64 0, .int .u64 0, .int .u64 0, .int .i64 0, .int .i64 0, .slice none 0 0] 25)); have F2 := hide (((Fr.refl (fun _ => False) w).alloc (.cells #[.int .u64 0, .int .u64 0, .int .u64 0, .int .u64 0, .int .i64 0, .int .i64 0, .slice none 0 0] 25)).trans f2 (fun _ _ h => h)); have HA := hide hA; have HZ := hide hz; clear f2 hs2 hA hz))
  go_upto_region 7 with (go_at_call 57; (refine (unhide HC2 _ (unhide F2)).mono ?_; rintro e w3 ⟨M, rfl, hM, f3, hs3⟩; rw [gm_tk (unhide HL)] at hM; have HA3 := hide ((unhide HA).kept f3 id); have hz3 := (f3.block _ (lt_of_heap (unhide HZ)) id).trans (unhide HZ); have F3 := hide ((unhide F2).trans f3 (fun _ _ h => h)); have HZ3 := hide hz3; have cM := hM.cell 2 (by simp); have HM := hide hM; clear f3 hs3 hM hz3))
  rw [show (48 : Int) + ((gq l : Nat) : Int) = ((48 + gq l : Nat) : Int) by omega]
  have hw3 : w.heap.size ≤ w3.heap.size := (unhide F3).size
  refine gs7 (q := 48 + gq l) (L := gP l) (unhide HA3) (unhide HM) (gm_lt l 0) (gm_lt l 1) (Nat.lt_of_lt_of_le (unhide HB0) hw3) (by rw [Nat.add_sub_cancel_left]; exact ((unhide HR).kept (unhide F3) (fun _ _ h => h)).mid2 48 (gq l) (by have := unhide HQ3; have := unhide HL; omega) (by have := unhide HL; omega) (cap - 48) rfl (o0 + 48) rfl) (by rw [gP_length (unhide HL)]; have := unhide HQ3; omega) (by omega) (by omega) (by have := unhide HQ3; omega) (unhide HCM) ?_
  intro y29 y30 y31 y32 y33 y34 y35 y36 y37 y38 y39 y40 y41 y42 y43 y44 y45 y46 y47 y48 y49 y50 y51 y52 y53 b u w4 f4 hb hh ho
  have hz4 := (f4.block _ (lt_of_heap (unhide HZ3)) id).trans (unhide HZ3)
  have F4 := hide ((unhide F3).trans f4 (fun _ _ h => h))
  have HO := hide (ho.mono hw3)
  obtain ⟨ao, kk, rfl⟩ := ho.shape
  rw [gP_length (unhide HL)] at hh HO ho
  have HRD := hide ho.rd
  have hpw : w.heap.size < b := Nat.lt_of_lt_of_le (lt_of_heap (unhide HZ3)) hb
  clear f4 hb ho F3 HA3 HM HZ3 e2 e3 e9 cM
  generalize hp : w.heap.size = p at *
  go_wp2_with (first | (refine wl_loadR 25 7 _ Try.underlying25 (by kernel_rfl) (.tmp 8) rfl rfl b rfl _ 25 hh rfl ?_) | (refine wl_storeR 25 7 (by kernel_rfl) _ _ rfl rfl p rfl _ rfl _ 25 hz5 rfl rfl (by simp [Value.oneCell']) ?_; intro w6 hw6; have hz6 := setRow_at hz5 #[.int .u64 0, .int .u64 0, .int .u64 0, .int .u64 0, .int .i64 0, .int .i64 0, .slice none 0 0]; rw [← hw6] at hz6; have F6 := hide ((unhide F5).trans (hw6 ▸ Fr.setRow_one w5 _ rfl : Fr (fun k => k = p) w5 w6) (fun k hk e => by omega));  clear hw6) | (go_at_call 11; refine (putEntry_no w4 _ _ _ _ _ _ _ _ _ (unhide HS)).mono ?_; rintro e w5 ⟨rfl, f5⟩; have hz5 := (f5.block _ (lt_of_heap hz4) id).trans hz4; have F5 := hide ((unhide F4).trans f5 (fun _ _ h => h)); have LD5 := hide (ldk hh f5)))
  refine ret_ceR 25 7 _ Try.underlying25 (by kernel_rfl) p _ 25 rfl rfl rfl hz6 rfl ?_
  exact ⟨rfl, unhide F6⟩
set_option maxHeartbeats 8000000 in
set_option maxRecDepth 100000 in
theorem getEntry_ne (w : World) (v : Value) (l : List UInt8) (h : Rd w v l) (hl : l.length = 384) (hs : cbB (gl l 0) (gl l 1) (gl l 2) (gl l 3) (gm l 0) (gm l 1) (gq l) = true) (hq : enB (gl l 0) (gl l 1) (gl l 2) (gl l 3) (gm l 0) (gm l 1) (gq l) (gP l) ≠ l) : Calls Try.prog 21 #[v] w fun e w' => e = .returned (.tuple #[.agg #[.int .u64 0, .int .u64 0, .int .u64 0, .int .u64 0, .int .i64 0, .int .i64 0, .slice none 0 0], .int .i64 81]) ∧ Fr (fun _ => False) w w' := by
  obtain ⟨ao, cap, rfl⟩ := h.shape
  obtain ⟨B0, o0, rfl, -, hnc, hcm, hcell⟩ := h.lits (by omega)
  have hB0 : B0 < w.heap.size := World.block_lt_of_cell? w _ (hcell 0 (by omega))
  rw [hl] at h hnc ⊢
  have HL := hide hl
  have HR := hide h
  have HC8 := hide (fun W (f : Fr (fun _ => False) w W) => taken8_any W _ ((l.drop 4).take 32) 4 ((h.kept f (fun _ _ h => h)).mid 4 32 (by omega) (by omega) (cap - 4) rfl (o0 + 4) rfl) (by rw [List.length_take, List.length_drop]; omega) (by omega))
  have HC2 := hide (fun W (f : Fr (fun _ => False) w W) => taken2_any W _ ((l.drop 36).take 12) 6 ((h.kept f (fun _ _ h => h)).mid 36 12 (by omega) (by omega) (cap - 36) rfl (o0 + 36) rfl) (by rw [List.length_take, List.length_drop]; omega) (by omega))
  have d1 : 36 ≤ cap := by omega
  have d2 : 4 ≤ cap := by omega
  have d3 : 48 ≤ cap := by omega
  have e2 : IntKind.i64.wrap (gm l 2 : Int) = (gm l 2 : Int) := by have := gm_lt l 2; simp [IntKind.wrap, IntKind.signed, IntKind.bits]; omega
  have e3 := min336 (gm l 2) (gq l) rfl
  have e9 : (if 336 < ((gm l 2 : Nat) : Int) then (336 : Int) else ((gm l 2 : Nat) : Int)) = ((gq l : Nat) : Int) := by unfold gq; split <;> omega
  have HQ3 := hide (show gq l ≤ 336 by unfold gq; omega)
  have HS := hide hs
  have HCM := hide hcm
  have HB0 := hide hB0
  clear h hl hs hcm hcell hB0
  have HQ := hide hq
  clear hq
  go_enter Try.func21, Try.ntmps21
  go_upto_region 5 with (go_at_call 57; (refine (unhide HC8 _ ((Fr.refl _ _).alloc _)).mono ?_; rintro e w2 ⟨A, rfl, hA, f2, hs2⟩; rw [gl_tk (unhide HL)] at hA; have hz := (f2.block _ (by simp) id).trans (heap_alloc_new w (.cells #[.int .u64 0, .int .u64 0, .int .u64 0, .int .u64 0, .int .i64 0, .int .i64 0, .slice none 0 0] 25)); have F2 := hide (((Fr.refl (fun _ => False) w).alloc (.cells #[.int .u64 0, .int .u64 0, .int .u64 0, .int .u64 0, .int .i64 0, .int .i64 0, .slice none 0 0] 25)).trans f2 (fun _ _ h => h)); have HA := hide hA; have HZ := hide hz; clear f2 hs2 hA hz))
  go_upto_region 7 with (go_at_call 57; (refine (unhide HC2 _ (unhide F2)).mono ?_; rintro e w3 ⟨M, rfl, hM, f3, hs3⟩; rw [gm_tk (unhide HL)] at hM; have HA3 := hide ((unhide HA).kept f3 id); have hz3 := (f3.block _ (lt_of_heap (unhide HZ)) id).trans (unhide HZ); have F3 := hide ((unhide F2).trans f3 (fun _ _ h => h)); have HZ3 := hide hz3; have cM := hM.cell 2 (by simp); have HM := hide hM; clear f3 hs3 hM hz3))
  rw [show (48 : Int) + ((gq l : Nat) : Int) = ((48 + gq l : Nat) : Int) by omega]
  have hw3 : w.heap.size ≤ w3.heap.size := (unhide F3).size
  refine gs7 (q := 48 + gq l) (L := gP l) (unhide HA3) (unhide HM) (gm_lt l 0) (gm_lt l 1) (Nat.lt_of_lt_of_le (unhide HB0) hw3) (by rw [Nat.add_sub_cancel_left]; exact ((unhide HR).kept (unhide F3) (fun _ _ h => h)).mid2 48 (gq l) (by have := unhide HQ3; have := unhide HL; omega) (by have := unhide HL; omega) (cap - 48) rfl (o0 + 48) rfl) (by rw [gP_length (unhide HL)]; have := unhide HQ3; omega) (by omega) (by omega) (by have := unhide HQ3; omega) (unhide HCM) ?_
  intro y29 y30 y31 y32 y33 y34 y35 y36 y37 y38 y39 y40 y41 y42 y43 y44 y45 y46 y47 y48 y49 y50 y51 y52 y53 b u w4 f4 hb hh ho
  have hz4 := (f4.block _ (lt_of_heap (unhide HZ3)) id).trans (unhide HZ3)
  have F4 := hide ((unhide F3).trans f4 (fun _ _ h => h))
  have HO := hide (ho.mono hw3)
  obtain ⟨ao, kk, rfl⟩ := ho.shape
  rw [gP_length (unhide HL)] at hh HO ho
  have HRD := hide ho.rd
  have hpw : w.heap.size < b := Nat.lt_of_lt_of_le (lt_of_heap (unhide HZ3)) hb
  clear f4 hb ho F3 HA3 HM HZ3 e2 e3 e9 cM
  generalize hp : w.heap.size = p at *
  go_wp2_with (first | (refine wl_loadR 25 7 _ Try.underlying25 (by kernel_rfl) (.tmp 8) rfl rfl b rfl _ 25 hh rfl ?_) | (refine wl_storeR 25 7 (by kernel_rfl) _ _ rfl rfl p rfl _ rfl _ 25 hz5 rfl rfl (by simp [Value.oneCell']) ?_; intro w6 hw6; have hz6 := setRow_at hz5 #[.int .u64 0, .int .u64 0, .int .u64 0, .int .u64 0, .int .i64 0, .int .i64 0, .slice none 0 0]; rw [← hw6] at hz6; have F6 := hide ((unhide F5).trans (hw6 ▸ Fr.setRow_one w5 _ rfl : Fr (fun k => k = p) w5 w6) (fun k hk e => by omega));  clear hw6) | (go_at_call 11; refine (putEntry_ok w4 _ _ _ _ _ _ _ _ _ (gP l) (unhide HRD) (gP_length (unhide HL)).symm (unhide HS)).mono ?_; rintro e w5 ⟨g, rfl, hg4, hg5, f5⟩; have hz5 := (f5.block _ (lt_of_heap hz4) id).trans hz4; have F5 := hide ((unhide F4).trans f5 (fun _ _ h => h)); have LD5 := hide (ldk hh f5); have HQ4 := hide (rdEn hg4 (by rw [gP_length (unhide HL)]; exact unhide HQ3)); clear hg4; have HO5 := hide ((unhide HO).kept f5); have HR4 := hide ((unhide HR).kept (unhide F5) (fun _ _ h => h))) | (refine wl_loadR 25 7 _ Try.underlying25 (by kernel_rfl) (.tmp 8) rfl rfl b rfl _ 25 (unhide LD5) rfl ?_) | (go_at_call 59; refine (equal_any w5 _ _ _ _ (unhide HQ4) (unhide HR4)).mono ?_; rintro e w6 ⟨rfl, rfl⟩; rw [decide_eq_false (unhide HQ)]))
  refine ret_ceR 25 7 _ Try.underlying25 (by kernel_rfl) p _ 25 rfl rfl rfl hz6 rfl ?_
  exact ⟨rfl, unhide F6⟩
set_option maxHeartbeats 8000000 in
set_option maxRecDepth 100000 in
theorem getEntry_ok (w : World) (v : Value) (l : List UInt8) (h : Rd w v l) (hl : l.length = 384) (hs : cbB (gl l 0) (gl l 1) (gl l 2) (gl l 3) (gm l 0) (gm l 1) (gq l) = true) (hq : enB (gl l 0) (gl l 1) (gl l 2) (gl l 3) (gm l 0) (gm l 1) (gq l) (gP l) = l) : Calls Try.prog 21 #[v] w fun e w' => ∃ u, e = .returned (.tuple #[.agg #[.int .u64 (gl l 0 : Int), .int .u64 (gl l 1 : Int), .int .u64 (gl l 2 : Int), .int .u64 (gl l 3 : Int), .int .i64 (gm l 0 : Int), .int .i64 (gm l 1 : Int), u], .int .i64 0]) ∧ Ob w.heap.size w' u (gP l) ∧ Fr (fun _ => False) w w' := by
  obtain ⟨ao, cap, rfl⟩ := h.shape
  obtain ⟨B0, o0, rfl, -, hnc, hcm, hcell⟩ := h.lits (by omega)
  have hB0 : B0 < w.heap.size := World.block_lt_of_cell? w _ (hcell 0 (by omega))
  rw [hl] at h hnc ⊢
  have HL := hide hl
  have HR := hide h
  have HC8 := hide (fun W (f : Fr (fun _ => False) w W) => taken8_any W _ ((l.drop 4).take 32) 4 ((h.kept f (fun _ _ h => h)).mid 4 32 (by omega) (by omega) (cap - 4) rfl (o0 + 4) rfl) (by rw [List.length_take, List.length_drop]; omega) (by omega))
  have HC2 := hide (fun W (f : Fr (fun _ => False) w W) => taken2_any W _ ((l.drop 36).take 12) 6 ((h.kept f (fun _ _ h => h)).mid 36 12 (by omega) (by omega) (cap - 36) rfl (o0 + 36) rfl) (by rw [List.length_take, List.length_drop]; omega) (by omega))
  have d1 : 36 ≤ cap := by omega
  have d2 : 4 ≤ cap := by omega
  have d3 : 48 ≤ cap := by omega
  have e2 : IntKind.i64.wrap (gm l 2 : Int) = (gm l 2 : Int) := by have := gm_lt l 2; simp [IntKind.wrap, IntKind.signed, IntKind.bits]; omega
  have e3 := min336 (gm l 2) (gq l) rfl
  have e9 : (if 336 < ((gm l 2 : Nat) : Int) then (336 : Int) else ((gm l 2 : Nat) : Int)) = ((gq l : Nat) : Int) := by unfold gq; split <;> omega
  have HQ3 := hide (show gq l ≤ 336 by unfold gq; omega)
  have HS := hide hs
  have HCM := hide hcm
  have HB0 := hide hB0
  clear h hl hs hcm hcell hB0
  have HQ := hide hq
  clear hq
  go_enter Try.func21, Try.ntmps21
  go_upto_region 5 with (go_at_call 57; (refine (unhide HC8 _ ((Fr.refl _ _).alloc _)).mono ?_; rintro e w2 ⟨A, rfl, hA, f2, hs2⟩; rw [gl_tk (unhide HL)] at hA; have hz := (f2.block _ (by simp) id).trans (heap_alloc_new w (.cells #[.int .u64 0, .int .u64 0, .int .u64 0, .int .u64 0, .int .i64 0, .int .i64 0, .slice none 0 0] 25)); have F2 := hide (((Fr.refl (fun _ => False) w).alloc (.cells #[.int .u64 0, .int .u64 0, .int .u64 0, .int .u64 0, .int .i64 0, .int .i64 0, .slice none 0 0] 25)).trans f2 (fun _ _ h => h)); have HA := hide hA; have HZ := hide hz; clear f2 hs2 hA hz))
  go_upto_region 7 with (go_at_call 57; (refine (unhide HC2 _ (unhide F2)).mono ?_; rintro e w3 ⟨M, rfl, hM, f3, hs3⟩; rw [gm_tk (unhide HL)] at hM; have HA3 := hide ((unhide HA).kept f3 id); have hz3 := (f3.block _ (lt_of_heap (unhide HZ)) id).trans (unhide HZ); have F3 := hide ((unhide F2).trans f3 (fun _ _ h => h)); have HZ3 := hide hz3; have cM := hM.cell 2 (by simp); have HM := hide hM; clear f3 hs3 hM hz3))
  rw [show (48 : Int) + ((gq l : Nat) : Int) = ((48 + gq l : Nat) : Int) by omega]
  have hw3 : w.heap.size ≤ w3.heap.size := (unhide F3).size
  refine gs7 (q := 48 + gq l) (L := gP l) (unhide HA3) (unhide HM) (gm_lt l 0) (gm_lt l 1) (Nat.lt_of_lt_of_le (unhide HB0) hw3) (by rw [Nat.add_sub_cancel_left]; exact ((unhide HR).kept (unhide F3) (fun _ _ h => h)).mid2 48 (gq l) (by have := unhide HQ3; have := unhide HL; omega) (by have := unhide HL; omega) (cap - 48) rfl (o0 + 48) rfl) (by rw [gP_length (unhide HL)]; have := unhide HQ3; omega) (by omega) (by omega) (by have := unhide HQ3; omega) (unhide HCM) ?_
  intro y29 y30 y31 y32 y33 y34 y35 y36 y37 y38 y39 y40 y41 y42 y43 y44 y45 y46 y47 y48 y49 y50 y51 y52 y53 b u w4 f4 hb hh ho
  have hz4 := (f4.block _ (lt_of_heap (unhide HZ3)) id).trans (unhide HZ3)
  have F4 := hide ((unhide F3).trans f4 (fun _ _ h => h))
  have HO := hide (ho.mono hw3)
  obtain ⟨ao, kk, rfl⟩ := ho.shape
  rw [gP_length (unhide HL)] at hh HO ho
  have HRD := hide ho.rd
  have hpw : w.heap.size < b := Nat.lt_of_lt_of_le (lt_of_heap (unhide HZ3)) hb
  clear f4 hb ho F3 HA3 HM HZ3 e2 e3 e9 cM
  generalize hp : w.heap.size = p at *
  go_wp2_with (first | (refine wl_loadR 25 7 _ Try.underlying25 (by kernel_rfl) (.tmp 8) rfl rfl b rfl _ 25 hh rfl ?_) | (refine wl_storeR 25 7 (by kernel_rfl) _ _ rfl rfl p rfl _ rfl _ 25 hz5 rfl rfl (by simp [Value.oneCell']) ?_; intro w6 hw6; have hz6 := setRow_at hz5 #[.int .u64 (gl l 0 : Int), .int .u64 (gl l 1 : Int), .int .u64 (gl l 2 : Int), .int .u64 (gl l 3 : Int), .int .i64 (gm l 0 : Int), .int .i64 (gm l 1 : Int), .slice ao (gq l) kk]; rw [← hw6] at hz6; have F6 := hide ((unhide F5).trans (hw6 ▸ Fr.setRow_one w5 _ rfl : Fr (fun k => k = p) w5 w6) (fun k hk e => by omega)); have HO6 := hide ((unhide HO5).keep (hw6 ▸ RB.setRow (N := p) (Nat.le_refl _) (Sh.of hz5 rfl) rfl (by decide) : RB p w5 w6)); clear hw6) | (go_at_call 11; refine (putEntry_ok w4 _ _ _ _ _ _ _ _ _ (gP l) (unhide HRD) (gP_length (unhide HL)).symm (unhide HS)).mono ?_; rintro e w5 ⟨g, rfl, hg4, hg5, f5⟩; have hz5 := (f5.block _ (lt_of_heap hz4) id).trans hz4; have F5 := hide ((unhide F4).trans f5 (fun _ _ h => h)); have LD5 := hide (ldk hh f5); have HQ4 := hide (rdEn hg4 (by rw [gP_length (unhide HL)]; exact unhide HQ3)); clear hg4; have HO5 := hide ((unhide HO).kept f5); have HR4 := hide ((unhide HR).kept (unhide F5) (fun _ _ h => h))) | (refine wl_loadR 25 7 _ Try.underlying25 (by kernel_rfl) (.tmp 8) rfl rfl b rfl _ 25 (unhide LD5) rfl ?_) | (go_at_call 59; refine (equal_any w5 _ _ _ _ (unhide HQ4) (unhide HR4)).mono ?_; rintro e w6 ⟨rfl, rfl⟩; rw [decide_eq_true (unhide HQ)]))
  refine ret_ceR 25 7 _ Try.underlying25 (by kernel_rfl) p _ 25 rfl rfl rfl hz6 rfl ?_
  exact ⟨_, rfl, by rw [hp]; exact unhide HO6, unhide F6⟩
end Go.Proofs.Ytgodlfoidjeekaa
