/-
  GfMatrices: its regions that draw their order.
-/
import Derived.Test.YtckmddkhkdcmmaaM26
namespace Go.Proofs.Ytckmddkhkdcmmaa
set_option linter.unusedVariables false
set_option linter.unusedSimpArgs false
open Go.RowKit
set_option linter.unusedVariables false
set_option linter.unusedSimpArgs false

attribute [local go_sem ↓] Go.wp_at_zero Go.wp_at_succ

theorem en_call4 {ρ : Operand → Value} {o : Oper} {w : World} {k : Nat} {x y z u : Operand} {t : Array TypeId} {a b c d : Value} (ho : o.op = .call { callee := .value (.func k), args := #[x, y, z, u], argTypes := t }) (hf : ρ (.func k) = .func (.func k) #[] #[]) (hx : ρ x = a) (hy : ρ y = b) (hz : ρ z = c) (hu : ρ u = d) (hk : ∀ args W, Sem.run Try.prog (callFunc k args) W = .ok (.enter k args) W) : (execOp ρ o).run Try.prog w = .ok (.enter k #[a, b, c, d]) w := by
  have hk' := hk #[a, b, c, d] w
  simp [execOp, ho, hf, hx, hy, hz, hu, go_sem, hk']
set_option maxHeartbeats 8000000 in
set_option maxRecDepth 100000 in
theorem gq9 {W : World} {p9 p11 p13 p15 p7 p3 : Nat} {R C R2 C2 E F r c : Int} {L L2 la : List UInt8} {u0 u1 u2 u4 u5 u6 u8 u17 u18 u19 u20 u21 u22 u23 u24 u25 u26 u27 u28 u29 u30 u31 u32 u33 u34 u35 u36 u37 u38 u39 u40 u41 u42 u43 u44 u45 u46 u47 u48 u49 u50 u51 u52 u53 u54 u55 u56 u57 u58 u59 u60 u61 u62 u63 u64 u65 u66 u67 u68 u69 u70 u71 u72 u73 u74 u75 u76 u77 u78 u79 u80 u81 u82 u83 u84 u85 u86 u87 u88 u89 u90 u91 u92 u93 u94 u95 u96 u97 u98 u99 u100 u101 u102 u103 u104 u105 u106 u107 u108 u109 u110 u111 u112 u113 u114 u115 u116 u117 u118 u119 u120 u121 u122 u123 u124 u125 u126 u127 u128 u129 u130 u131 u132 u133 u134 u135 u136 u137 u138 u139 u140 u141 u142 u143 u144 u145 u146 u147 u148 u149 u150 u151 u152 u153 u154 u155 u156 u157 u158 u159 u160 u161 u162 u163 u164 u165 u166 u167 u168 u169 u170 u171 u172 u173 u174 u175 u176 u177 u178 u179 u180 u181 u182 u183 u184 u185 u186 u187 u188 u189 u190 u191 u192 u193 u194 u195 u196 u197 u198 u199 u200 u201 u202 u203 u204 u205 u206 u207 u208 u209 u210 u211 u212 u213 u214 u215 u216 u217 u218 u219 u220 u221 u222 u223 u224 u225 u226 u227 u228 u229 u230 u231 u232 u233 u234 u235 u236 u237 u238 u239 u240 u241 u242 : Value} {Q : Exit → Act → World → Prop} (mp9 : MA W p9 R C L) (mp11 : MA W p11 R C L) (mp13 : MA W p13 R2 C2 L2) (mp15 : MA W p15 R2 C2 L2) (mp7 : MA W p7 r c la) (mp3 : MA W p3 r c la)
    (hQ : ∀ (y78 y79 y80 y81 y82 y83 y84 y85 y86 y87 y88 y89 y90 y91 y92 y93 y94 y95 y96 y97 y98 : Value) (W' : World), Fr (fun _ => False) W W' → Q .normal ⟨#[u0, u1, u2, .pointer (some ⟨p3, 0, none⟩), u4, u5, u6, .pointer (some ⟨p7, 0, none⟩), u8, .pointer (some ⟨p9, 0, none⟩), .int .i64 E, .pointer (some ⟨p11, 0, none⟩), .int .i64 E, .pointer (some ⟨p13, 0, none⟩), .int .i64 F, .pointer (some ⟨p15, 0, none⟩), .int .i64 F, u17, u18, u19, u20, u21, u22, u23, u24, u25, u26, u27, u28, u29, u30, u31, u32, u33, u34, u35, u36, u37, u38, u39, u40, u41, u42, u43, u44, u45, u46, u47, u48, u49, u50, u51, u52, u53, u54, u55, u56, u57, u58, u59, u60, u61, u62, u63, u64, u65, u66, u67, u68, u69, u70, u71, u72, u73, u74, u75, u76, u77, y78, y79, y80, y81, y82, y83, y84, y85, y86, y87, y88, y89, y90, y91, y92, y93, y94, y95, y96, y97, y98, .bool false, u100, u101, u102, u103, u104, u105, u106, u107, u108, u109, u110, u111, u112, u113, u114, u115, u116, u117, u118, u119, u120, u121, u122, u123, u124, u125, u126, u127, u128, u129, u130, u131, u132, u133, u134, u135, u136, u137, u138, u139, u140, u141, u142, u143, u144, u145, u146, u147, u148, u149, u150, u151, u152, u153, u154, u155, u156, u157, u158, u159, u160, u161, u162, u163, u164, u165, u166, u167, u168, u169, u170, u171, u172, u173, u174, u175, u176, u177, u178, u179, u180, u181, u182, u183, u184, u185, u186, u187, u188, u189, u190, u191, u192, u193, u194, u195, u196, u197, u198, u199, u200, u201, u202, u203, u204, u205, u206, u207, u208, u209, u210, u211, u212, u213, u214, u215, u216, u217, u218, u219, u220, u221, u222, u223, u224, u225, u226, u227, u228, u229, u230, u231, u232, u233, u234, u235, u236, u237, u238, u239, u240, u241, u242], []⟩ W') : Code.wp Try.prog (rg 9) Q ⟨#[u0, u1, u2, .pointer (some ⟨p3, 0, none⟩), u4, u5, u6, .pointer (some ⟨p7, 0, none⟩), u8, .pointer (some ⟨p9, 0, none⟩), .int .i64 E, .pointer (some ⟨p11, 0, none⟩), .int .i64 E, .pointer (some ⟨p13, 0, none⟩), .int .i64 F, .pointer (some ⟨p15, 0, none⟩), .int .i64 F, u17, u18, u19, u20, u21, u22, u23, u24, u25, u26, u27, u28, u29, u30, u31, u32, u33, u34, u35, u36, u37, u38, u39, u40, u41, u42, u43, u44, u45, u46, u47, u48, u49, u50, u51, u52, u53, u54, u55, u56, u57, u58, u59, u60, u61, u62, u63, u64, u65, u66, u67, u68, u69, u70, u71, u72, u73, u74, u75, u76, u77, u78, u79, u80, u81, u82, u83, u84, u85, u86, u87, u88, u89, u90, u91, u92, u93, u94, u95, u96, u97, u98, u99, u100, u101, u102, u103, u104, u105, u106, u107, u108, u109, u110, u111, u112, u113, u114, u115, u116, u117, u118, u119, u120, u121, u122, u123, u124, u125, u126, u127, u128, u129, u130, u131, u132, u133, u134, u135, u136, u137, u138, u139, u140, u141, u142, u143, u144, u145, u146, u147, u148, u149, u150, u151, u152, u153, u154, u155, u156, u157, u158, u159, u160, u161, u162, u163, u164, u165, u166, u167, u168, u169, u170, u171, u172, u173, u174, u175, u176, u177, u178, u179, u180, u181, u182, u183, u184, u185, u186, u187, u188, u189, u190, u191, u192, u193, u194, u195, u196, u197, u198, u199, u200, u201, u202, u203, u204, u205, u206, u207, u208, u209, u210, u211, u212, u213, u214, u215, u216, u217, u218, u219, u220, u221, u222, u223, u224, u225, u226, u227, u228, u229, u230, u231, u232, u233, u234, u235, u236, u237, u238, u239, u240, u241, u242], []⟩ W := by
  have HQ := hide hQ
  clear hQ
  obtain ⟨op9, kp9, hp9, rp9⟩ := mp9
  have lp9 := hp9.lt
  have gp9 : ∀ w', RM W.heap.size W w' → w'.heap[p9]? = some (.cells #[.int .i64 R, .int .i64 C, .slice op9 L.length kp9] 24 (0, 0)) := fun w' f => (f.block _ lp9 (.inl lp9)).trans hp9
  obtain ⟨op11, kp11, hp11, rp11⟩ := mp11
  have lp11 := hp11.lt
  have gp11 : ∀ w', RM W.heap.size W w' → w'.heap[p11]? = some (.cells #[.int .i64 R, .int .i64 C, .slice op11 L.length kp11] 24 (0, 0)) := fun w' f => (f.block _ lp11 (.inl lp11)).trans hp11
  obtain ⟨op13, kp13, hp13, rp13⟩ := mp13
  have lp13 := hp13.lt
  have gp13 : ∀ w', RM W.heap.size W w' → w'.heap[p13]? = some (.cells #[.int .i64 R2, .int .i64 C2, .slice op13 L2.length kp13] 24 (0, 0)) := fun w' f => (f.block _ lp13 (.inl lp13)).trans hp13
  obtain ⟨op15, kp15, hp15, rp15⟩ := mp15
  have lp15 := hp15.lt
  have gp15 : ∀ w', RM W.heap.size W w' → w'.heap[p15]? = some (.cells #[.int .i64 R2, .int .i64 C2, .slice op15 L2.length kp15] 24 (0, 0)) := fun w' f => (f.block _ lp15 (.inl lp15)).trans hp15
  obtain ⟨op7, kp7, hp7, rp7⟩ := mp7
  have lp7 := hp7.lt
  have gp7 : ∀ w', RM W.heap.size W w' → w'.heap[p7]? = some (.cells #[.int .i64 r, .int .i64 c, .slice op7 la.length kp7] 24 (0, 0)) := fun w' f => (f.block _ lp7 (.inl lp7)).trans hp7
  obtain ⟨op3, kp3, hp3, rp3⟩ := mp3
  have lp3 := hp3.lt
  have gp3 : ∀ w', RM W.heap.size W w' → w'.heap[p3]? = some (.cells #[.int .i64 r, .int .i64 c, .slice op3 la.length kp3] 24 (0, 0)) := fun w' f => (f.block _ lp3 (.inl lp3)).trans hp3
  conv => arg 2; whnf
  refine wp_nm ?_
  intro a0 hA
  have s3 : a0.tmps.getD 3 undef = .pointer (some ⟨p3, 0, none⟩) := by rw [hA]; rfl
  have s7 : a0.tmps.getD 7 undef = .pointer (some ⟨p7, 0, none⟩) := by rw [hA]; rfl
  have s9 : a0.tmps.getD 9 undef = .pointer (some ⟨p9, 0, none⟩) := by rw [hA]; rfl
  have s10 : a0.tmps.getD 10 undef = .int .i64 E := by rw [hA]; rfl
  have s11 : a0.tmps.getD 11 undef = .pointer (some ⟨p11, 0, none⟩) := by rw [hA]; rfl
  have s12 : a0.tmps.getD 12 undef = .int .i64 E := by rw [hA]; rfl
  have s13 : a0.tmps.getD 13 undef = .pointer (some ⟨p13, 0, none⟩) := by rw [hA]; rfl
  have s14 : a0.tmps.getD 14 undef = .int .i64 F := by rw [hA]; rfl
  have s15 : a0.tmps.getD 15 undef = .pointer (some ⟨p15, 0, none⟩) := by rw [hA]; rfl
  have s16 : a0.tmps.getD 16 undef = .int .i64 F := by rw [hA]; rfl
  have hsz : a0.tmps.size = 243 := by rw [hA]; rfl
  have hdf : a0.defers = [] := by rw [hA]
  refine wp_region_chainA (by kernel_rfl) (by kernel_rfl) (by decide +kernel) (by rw [hsz]; decide +kernel) (fun w w' => RM W.heap.size w w') (RM.of_fr (Fr.refl _ _).drew) (fun _ _ _ => RM.trans) (Tw [KV.eq (.agg #[.int .i64 R, .int .i64 C, .slice op9 L.length kp9]), KV.eq (.int .i64 E), KV.eq (.agg #[.int .i64 R, .int .i64 C, .slice op11 L.length kp11]), KV.eq (.int .i64 E), KV.eq (.bool true), KV.eq (.bool false), KV.eq (.bool false), KV.eq (.agg #[.int .i64 R2, .int .i64 C2, .slice op13 L2.length kp13]), KV.eq (.int .i64 F), KV.eq (.agg #[.int .i64 R2, .int .i64 C2, .slice op15 L2.length kp15]), KV.eq (.int .i64 F), KV.eq (.bool true), KV.eq (.bool false), KV.eq (.bool false), KV.eq (.bool false), KV.eq (.agg #[.int .i64 r, .int .i64 c, .slice op7 la.length kp7]), KV.eq (.int .i64 (chk r c la.length)), KV.eq (.int .i64 (chk r c la.length)), KV.eq (.agg #[.int .i64 r, .int .i64 c, .slice op3 la.length kp3]), KV.eq (.int .i64 (chk r c la.length)), KV.eq (.bool false), KV.eq (.bool false)]) (Tw.mono _) [] (by decide) (by decide) (fun k i j h1 h2 => ?cp) (fun _ _ _ => True) ?st0 ?steps ?done
  case cp => simp at h1
  case st0 => exact trivial
  case steps =>
    refine ⟨?_, ?_⟩
    · intro a' w' k hb hR hst hck hle hd
      refine .inl ⟨wanted_none rfl, ?_⟩
      exact la_val _ _ (by decide) (x_load24 rfl ((hb.old 9 (by decide +kernel)).trans s9) (gp9 w' hR)) rfl (RM.of_fr (Fr.refl _ _)) trivial
    refine ⟨?_, ?_⟩
    · intro a' w' k hb hR hst hck hle hd
      refine .inl ⟨wanted_none rfl, ?_⟩
      exact la_val _ _ (by decide) (ex_move rfl ((hb.old 10 (by decide +kernel)).trans s10)) rfl (RM.of_fr (Fr.refl _ _)) trivial
    refine ⟨?_, ?_⟩
    · intro a' w' k hb hR hst hck hle hd
      refine .inl ⟨wanted_none rfl, ?_⟩
      exact la_val _ _ (by decide) (x_load24 rfl ((hb.old 11 (by decide +kernel)).trans s11) (gp11 w' hR)) rfl (RM.of_fr (Fr.refl _ _)) trivial
    refine ⟨?_, ?_⟩
    · intro a' w' k hb hR hst hck hle hd
      refine .inl ⟨wanted_none rfl, ?_⟩
      exact la_val _ _ (by decide) (ex_move rfl ((hb.old 12 (by decide +kernel)).trans s12)) rfl (RM.of_fr (Fr.refl _ _)) trivial
    refine ⟨?_, ?_⟩
    · intro a' w' k hb hR hst hck hle hd
      refine .inl ⟨wanted_none rfl, ?_⟩
      refine la_call 21 _ (by decide) (en_call4 rfl rfl (hd 0 (by kernel_rfl) 78 rfl) (hd 1 (by kernel_rfl) 79 rfl) (hd 2 (by kernel_rfl) 80 rfl) (hd 3 (by kernel_rfl) 81 rfl) (fun _ _ => by simp [go_sem])) ((same4_any w' R C E _ _ L (RM.rd rp9 hR) (RM.rd rp11 hR)).mono ?_)
      rintro e w2 ⟨rfl, f⟩
      exact ⟨_, rfl, rfl, RM.of_fr f, trivial⟩
    refine ⟨?_, ?_⟩
    · intro a' w' k hb hR hst hck hle hd
      refine .inl ⟨wanted_none rfl, ?_⟩
      exact la_val _ _ (by decide) (x_not4 rfl (hd 4 (by kernel_rfl) 82 rfl)) rfl (RM.of_fr (Fr.refl _ _)) trivial
    refine ⟨?_, ?_⟩
    · intro a' w' k hb hR hst hck hle hd
      refine .inl ⟨wanted_none rfl, ?_⟩
      exact la_val _ _ (by decide) (ex_move rfl (hd 5 (by kernel_rfl) 83 rfl)) rfl (RM.of_fr (Fr.refl _ _)) trivial
    refine ⟨?_, ?_⟩
    · intro a' w' k hb hR hst hck hle hd
      refine .inl ⟨wanted_on (d := 84) rfl rfl (by rw [hb.size, hsz]; decide) (hd 6 (by kernel_rfl) 84 rfl), ?_⟩
      exact la_val _ _ (by decide) (x_load24 rfl ((hb.old 13 (by decide +kernel)).trans s13) (gp13 w' hR)) rfl (RM.of_fr (Fr.refl _ _)) trivial
    refine ⟨?_, ?_⟩
    · intro a' w' k hb hR hst hck hle hd
      refine .inl ⟨wanted_on (d := 84) rfl rfl (by rw [hb.size, hsz]; decide) (hd 6 (by kernel_rfl) 84 rfl), ?_⟩
      exact la_val _ _ (by decide) (ex_move rfl ((hb.old 14 (by decide +kernel)).trans s14)) rfl (RM.of_fr (Fr.refl _ _)) trivial
    refine ⟨?_, ?_⟩
    · intro a' w' k hb hR hst hck hle hd
      refine .inl ⟨wanted_on (d := 84) rfl rfl (by rw [hb.size, hsz]; decide) (hd 6 (by kernel_rfl) 84 rfl), ?_⟩
      exact la_val _ _ (by decide) (x_load24 rfl ((hb.old 15 (by decide +kernel)).trans s15) (gp15 w' hR)) rfl (RM.of_fr (Fr.refl _ _)) trivial
    refine ⟨?_, ?_⟩
    · intro a' w' k hb hR hst hck hle hd
      refine .inl ⟨wanted_on (d := 84) rfl rfl (by rw [hb.size, hsz]; decide) (hd 6 (by kernel_rfl) 84 rfl), ?_⟩
      exact la_val _ _ (by decide) (ex_move rfl ((hb.old 16 (by decide +kernel)).trans s16)) rfl (RM.of_fr (Fr.refl _ _)) trivial
    refine ⟨?_, ?_⟩
    · intro a' w' k hb hR hst hck hle hd
      refine .inl ⟨wanted_on (d := 84) rfl rfl (by rw [hb.size, hsz]; decide) (hd 6 (by kernel_rfl) 84 rfl), ?_⟩
      refine la_call 21 _ (by decide) (en_call4 rfl rfl (hd 7 (by kernel_rfl) 85 rfl) (hd 8 (by kernel_rfl) 86 rfl) (hd 9 (by kernel_rfl) 87 rfl) (hd 10 (by kernel_rfl) 88 rfl) (fun _ _ => by simp [go_sem])) ((same4_any w' R2 C2 F _ _ L2 (RM.rd rp13 hR) (RM.rd rp15 hR)).mono ?_)
      rintro e w2 ⟨rfl, f⟩
      exact ⟨_, rfl, rfl, RM.of_fr f, trivial⟩
    refine ⟨?_, ?_⟩
    · intro a' w' k hb hR hst hck hle hd
      refine .inl ⟨wanted_on (d := 84) rfl rfl (by rw [hb.size, hsz]; decide) (hd 6 (by kernel_rfl) 84 rfl), ?_⟩
      exact la_val _ _ (by decide) (x_not4 rfl (hd 11 (by kernel_rfl) 89 rfl)) rfl (RM.of_fr (Fr.refl _ _)) trivial
    refine ⟨?_, ?_⟩
    · intro a' w' k hb hR hst hck hle hd
      refine .inl ⟨wanted_none rfl, ?_⟩
      exact la_val _ _ (by decide) (x_pickF rfl (hd 6 (by kernel_rfl) 84 rfl) (hd 12 (by kernel_rfl) 90 rfl)) rfl (RM.of_fr (Fr.refl _ _)) trivial
    refine ⟨?_, ?_⟩
    · intro a' w' k hb hR hst hck hle hd
      refine .inl ⟨wanted_none rfl, ?_⟩
      exact la_val _ _ (by decide) (ex_move rfl (hd 13 (by kernel_rfl) 91 rfl)) rfl (RM.of_fr (Fr.refl _ _)) trivial
    refine ⟨?_, ?_⟩
    · intro a' w' k hb hR hst hck hle hd
      refine .inl ⟨wanted_on (d := 92) rfl rfl (by rw [hb.size, hsz]; decide) (hd 14 (by kernel_rfl) 92 rfl), ?_⟩
      exact la_val _ _ (by decide) (x_load24 rfl ((hb.old 7 (by decide +kernel)).trans s7) (gp7 w' hR)) rfl (RM.of_fr (Fr.refl _ _)) trivial
    refine ⟨?_, ?_⟩
    · intro a' w' k hb hR hst hck hle hd
      refine .inl ⟨wanted_on (d := 92) rfl rfl (by rw [hb.size, hsz]; decide) (hd 14 (by kernel_rfl) 92 rfl), ?_⟩
      refine la_call 23 _ (by decide) (en_call1 rfl rfl (hd 15 (by kernel_rfl) 93 rfl) (fun _ _ => by simp [go_sem])) ((check_any w' r c _ _ _).mono ?_)
      rintro e w2 h9
      first
        | (obtain ⟨rfl, f⟩ := h9; exact ⟨_, rfl, rfl, RM.of_fr f, trivial⟩)
        | (obtain ⟨rfl, rfl⟩ := h9; exact ⟨_, rfl, rfl, RM.of_fr (Fr.refl _ _), trivial⟩)
    refine ⟨?_, ?_⟩
    · intro a' w' k hb hR hst hck hle hd
      refine .inl ⟨wanted_on (d := 92) rfl rfl (by rw [hb.size, hsz]; decide) (hd 14 (by kernel_rfl) 92 rfl), ?_⟩
      refine la_call 22 _ (by decide) (en_call1 rfl rfl (hd 16 (by kernel_rfl) 94 rfl) (fun _ _ => by simp [go_sem])) ((num_any w' _).mono ?_)
      rintro e w2 h9
      first
        | (obtain ⟨rfl, f⟩ := h9; exact ⟨_, rfl, rfl, RM.of_fr f, trivial⟩)
        | (obtain ⟨rfl, rfl⟩ := h9; exact ⟨_, rfl, rfl, RM.of_fr (Fr.refl _ _), trivial⟩)
    refine ⟨?_, ?_⟩
    · intro a' w' k hb hR hst hck hle hd
      refine .inl ⟨wanted_on (d := 92) rfl rfl (by rw [hb.size, hsz]; decide) (hd 14 (by kernel_rfl) 92 rfl), ?_⟩
      exact la_val _ _ (by decide) (x_load24 rfl ((hb.old 3 (by decide +kernel)).trans s3) (gp3 w' hR)) rfl (RM.of_fr (Fr.refl _ _)) trivial
    refine ⟨?_, ?_⟩
    · intro a' w' k hb hR hst hck hle hd
      refine .inl ⟨wanted_on (d := 92) rfl rfl (by rw [hb.size, hsz]; decide) (hd 14 (by kernel_rfl) 92 rfl), ?_⟩
      refine la_call 24 _ (by decide) (en_call1 rfl rfl (hd 18 (by kernel_rfl) 96 rfl) (fun _ _ => by simp [go_sem])) ((rchk_any w' r c _ _ _).mono ?_)
      rintro e w2 h9
      first
        | (obtain ⟨rfl, f⟩ := h9; exact ⟨_, rfl, rfl, RM.of_fr f, trivial⟩)
        | (obtain ⟨rfl, rfl⟩ := h9; exact ⟨_, rfl, rfl, RM.of_fr (Fr.refl _ _), trivial⟩)
    refine ⟨?_, ?_⟩
    · intro a' w' k hb hR hst hck hle hd
      refine .inl ⟨wanted_on (d := 92) rfl rfl (by rw [hb.size, hsz]; decide) (hd 14 (by kernel_rfl) 92 rfl), ?_⟩
      exact la_val _ _ (by decide) (x_cmp3 rfl (hd 17 (by kernel_rfl) 95 rfl) (hd 19 (by kernel_rfl) 97 rfl) (by simp)) rfl (RM.of_fr (Fr.refl _ _)) trivial
    refine ⟨?_, ?_⟩
    · intro a' w' k hb hR hst hck hle hd
      refine .inl ⟨wanted_none rfl, ?_⟩
      exact la_val _ _ (by decide) (x_pickF rfl (hd 14 (by kernel_rfl) 92 rfl) (hd 20 (by kernel_rfl) 98 rfl)) rfl (RM.of_fr (Fr.refl _ _)) trivial
    exact trivial
  case done =>
    intro a' w' hb hR hst hall
    have f := hR.fr (Nat.le_refl _)
    have hfr := frame_eq (a := a') (vs := [u0, u1, u2, .pointer (some ⟨p3, 0, none⟩), u4, u5, u6, .pointer (some ⟨p7, 0, none⟩), u8, .pointer (some ⟨p9, 0, none⟩), .int .i64 E, .pointer (some ⟨p11, 0, none⟩), .int .i64 E, .pointer (some ⟨p13, 0, none⟩), .int .i64 F, .pointer (some ⟨p15, 0, none⟩), .int .i64 F, u17, u18, u19, u20, u21, u22, u23, u24, u25, u26, u27, u28, u29, u30, u31, u32, u33, u34, u35, u36, u37, u38, u39, u40, u41, u42, u43, u44, u45, u46, u47, u48, u49, u50, u51, u52, u53, u54, u55, u56, u57, u58, u59, u60, u61, u62, u63, u64, u65, u66, u67, u68, u69, u70, u71, u72, u73, u74, u75, u76, u77, a'.tmps.getD 78 undef, a'.tmps.getD 79 undef, a'.tmps.getD 80 undef, a'.tmps.getD 81 undef, a'.tmps.getD 82 undef, a'.tmps.getD 83 undef, a'.tmps.getD 84 undef, a'.tmps.getD 85 undef, a'.tmps.getD 86 undef, a'.tmps.getD 87 undef, a'.tmps.getD 88 undef, a'.tmps.getD 89 undef, a'.tmps.getD 90 undef, a'.tmps.getD 91 undef, a'.tmps.getD 92 undef, a'.tmps.getD 93 undef, a'.tmps.getD 94 undef, a'.tmps.getD 95 undef, a'.tmps.getD 96 undef, a'.tmps.getD 97 undef, a'.tmps.getD 98 undef, .bool false, u100, u101, u102, u103, u104, u105, u106, u107, u108, u109, u110, u111, u112, u113, u114, u115, u116, u117, u118, u119, u120, u121, u122, u123, u124, u125, u126, u127, u128, u129, u130, u131, u132, u133, u134, u135, u136, u137, u138, u139, u140, u141, u142, u143, u144, u145, u146, u147, u148, u149, u150, u151, u152, u153, u154, u155, u156, u157, u158, u159, u160, u161, u162, u163, u164, u165, u166, u167, u168, u169, u170, u171, u172, u173, u174, u175, u176, u177, u178, u179, u180, u181, u182, u183, u184, u185, u186, u187, u188, u189, u190, u191, u192, u193, u194, u195, u196, u197, u198, u199, u200, u201, u202, u203, u204, u205, u206, u207, u208, u209, u210, u211, u212, u213, u214, u215, u216, u217, u218, u219, u220, u221, u222, u223, u224, u225, u226, u227, u228, u229, u230, u231, u232, u233, u234, u235, u236, u237, u238, u239, u240, u241, u242]) (by rw [hb.size, hsz]; rfl) (by rw [hb.defers]; exact hdf) ⟨(hb.old 0 (by decide +kernel)).trans (by rw [hA]; rfl), (hb.old 1 (by decide +kernel)).trans (by rw [hA]; rfl), (hb.old 2 (by decide +kernel)).trans (by rw [hA]; rfl), (hb.old 3 (by decide +kernel)).trans (by rw [hA]; rfl), (hb.old 4 (by decide +kernel)).trans (by rw [hA]; rfl), (hb.old 5 (by decide +kernel)).trans (by rw [hA]; rfl), (hb.old 6 (by decide +kernel)).trans (by rw [hA]; rfl), (hb.old 7 (by decide +kernel)).trans (by rw [hA]; rfl), (hb.old 8 (by decide +kernel)).trans (by rw [hA]; rfl), (hb.old 9 (by decide +kernel)).trans (by rw [hA]; rfl), (hb.old 10 (by decide +kernel)).trans (by rw [hA]; rfl), (hb.old 11 (by decide +kernel)).trans (by rw [hA]; rfl), (hb.old 12 (by decide +kernel)).trans (by rw [hA]; rfl), (hb.old 13 (by decide +kernel)).trans (by rw [hA]; rfl), (hb.old 14 (by decide +kernel)).trans (by rw [hA]; rfl), (hb.old 15 (by decide +kernel)).trans (by rw [hA]; rfl), (hb.old 16 (by decide +kernel)).trans (by rw [hA]; rfl), (hb.old 17 (by decide +kernel)).trans (by rw [hA]; rfl), (hb.old 18 (by decide +kernel)).trans (by rw [hA]; rfl), (hb.old 19 (by decide +kernel)).trans (by rw [hA]; rfl), (hb.old 20 (by decide +kernel)).trans (by rw [hA]; rfl), (hb.old 21 (by decide +kernel)).trans (by rw [hA]; rfl), (hb.old 22 (by decide +kernel)).trans (by rw [hA]; rfl), (hb.old 23 (by decide +kernel)).trans (by rw [hA]; rfl), (hb.old 24 (by decide +kernel)).trans (by rw [hA]; rfl), (hb.old 25 (by decide +kernel)).trans (by rw [hA]; rfl), (hb.old 26 (by decide +kernel)).trans (by rw [hA]; rfl), (hb.old 27 (by decide +kernel)).trans (by rw [hA]; rfl), (hb.old 28 (by decide +kernel)).trans (by rw [hA]; rfl), (hb.old 29 (by decide +kernel)).trans (by rw [hA]; rfl), (hb.old 30 (by decide +kernel)).trans (by rw [hA]; rfl), (hb.old 31 (by decide +kernel)).trans (by rw [hA]; rfl), (hb.old 32 (by decide +kernel)).trans (by rw [hA]; rfl), (hb.old 33 (by decide +kernel)).trans (by rw [hA]; rfl), (hb.old 34 (by decide +kernel)).trans (by rw [hA]; rfl), (hb.old 35 (by decide +kernel)).trans (by rw [hA]; rfl), (hb.old 36 (by decide +kernel)).trans (by rw [hA]; rfl), (hb.old 37 (by decide +kernel)).trans (by rw [hA]; rfl), (hb.old 38 (by decide +kernel)).trans (by rw [hA]; rfl), (hb.old 39 (by decide +kernel)).trans (by rw [hA]; rfl), (hb.old 40 (by decide +kernel)).trans (by rw [hA]; rfl), (hb.old 41 (by decide +kernel)).trans (by rw [hA]; rfl), (hb.old 42 (by decide +kernel)).trans (by rw [hA]; rfl), (hb.old 43 (by decide +kernel)).trans (by rw [hA]; rfl), (hb.old 44 (by decide +kernel)).trans (by rw [hA]; rfl), (hb.old 45 (by decide +kernel)).trans (by rw [hA]; rfl), (hb.old 46 (by decide +kernel)).trans (by rw [hA]; rfl), (hb.old 47 (by decide +kernel)).trans (by rw [hA]; rfl), (hb.old 48 (by decide +kernel)).trans (by rw [hA]; rfl), (hb.old 49 (by decide +kernel)).trans (by rw [hA]; rfl), (hb.old 50 (by decide +kernel)).trans (by rw [hA]; rfl), (hb.old 51 (by decide +kernel)).trans (by rw [hA]; rfl), (hb.old 52 (by decide +kernel)).trans (by rw [hA]; rfl), (hb.old 53 (by decide +kernel)).trans (by rw [hA]; rfl), (hb.old 54 (by decide +kernel)).trans (by rw [hA]; rfl), (hb.old 55 (by decide +kernel)).trans (by rw [hA]; rfl), (hb.old 56 (by decide +kernel)).trans (by rw [hA]; rfl), (hb.old 57 (by decide +kernel)).trans (by rw [hA]; rfl), (hb.old 58 (by decide +kernel)).trans (by rw [hA]; rfl), (hb.old 59 (by decide +kernel)).trans (by rw [hA]; rfl), (hb.old 60 (by decide +kernel)).trans (by rw [hA]; rfl), (hb.old 61 (by decide +kernel)).trans (by rw [hA]; rfl), (hb.old 62 (by decide +kernel)).trans (by rw [hA]; rfl), (hb.old 63 (by decide +kernel)).trans (by rw [hA]; rfl), (hb.old 64 (by decide +kernel)).trans (by rw [hA]; rfl), (hb.old 65 (by decide +kernel)).trans (by rw [hA]; rfl), (hb.old 66 (by decide +kernel)).trans (by rw [hA]; rfl), (hb.old 67 (by decide +kernel)).trans (by rw [hA]; rfl), (hb.old 68 (by decide +kernel)).trans (by rw [hA]; rfl), (hb.old 69 (by decide +kernel)).trans (by rw [hA]; rfl), (hb.old 70 (by decide +kernel)).trans (by rw [hA]; rfl), (hb.old 71 (by decide +kernel)).trans (by rw [hA]; rfl), (hb.old 72 (by decide +kernel)).trans (by rw [hA]; rfl), (hb.old 73 (by decide +kernel)).trans (by rw [hA]; rfl), (hb.old 74 (by decide +kernel)).trans (by rw [hA]; rfl), (hb.old 75 (by decide +kernel)).trans (by rw [hA]; rfl), (hb.old 76 (by decide +kernel)).trans (by rw [hA]; rfl), (hb.old 77 (by decide +kernel)).trans (by rw [hA]; rfl), rfl, rfl, rfl, rfl, rfl, rfl, rfl, rfl, rfl, rfl, rfl, rfl, rfl, rfl, rfl, rfl, rfl, rfl, rfl, rfl, rfl, hall 21 (by decide) 99 rfl, (hb.old 100 (by decide +kernel)).trans (by rw [hA]; rfl), (hb.old 101 (by decide +kernel)).trans (by rw [hA]; rfl), (hb.old 102 (by decide +kernel)).trans (by rw [hA]; rfl), (hb.old 103 (by decide +kernel)).trans (by rw [hA]; rfl), (hb.old 104 (by decide +kernel)).trans (by rw [hA]; rfl), (hb.old 105 (by decide +kernel)).trans (by rw [hA]; rfl), (hb.old 106 (by decide +kernel)).trans (by rw [hA]; rfl), (hb.old 107 (by decide +kernel)).trans (by rw [hA]; rfl), (hb.old 108 (by decide +kernel)).trans (by rw [hA]; rfl), (hb.old 109 (by decide +kernel)).trans (by rw [hA]; rfl), (hb.old 110 (by decide +kernel)).trans (by rw [hA]; rfl), (hb.old 111 (by decide +kernel)).trans (by rw [hA]; rfl), (hb.old 112 (by decide +kernel)).trans (by rw [hA]; rfl), (hb.old 113 (by decide +kernel)).trans (by rw [hA]; rfl), (hb.old 114 (by decide +kernel)).trans (by rw [hA]; rfl), (hb.old 115 (by decide +kernel)).trans (by rw [hA]; rfl), (hb.old 116 (by decide +kernel)).trans (by rw [hA]; rfl), (hb.old 117 (by decide +kernel)).trans (by rw [hA]; rfl), (hb.old 118 (by decide +kernel)).trans (by rw [hA]; rfl), (hb.old 119 (by decide +kernel)).trans (by rw [hA]; rfl), (hb.old 120 (by decide +kernel)).trans (by rw [hA]; rfl), (hb.old 121 (by decide +kernel)).trans (by rw [hA]; rfl), (hb.old 122 (by decide +kernel)).trans (by rw [hA]; rfl), (hb.old 123 (by decide +kernel)).trans (by rw [hA]; rfl), (hb.old 124 (by decide +kernel)).trans (by rw [hA]; rfl), (hb.old 125 (by decide +kernel)).trans (by rw [hA]; rfl), (hb.old 126 (by decide +kernel)).trans (by rw [hA]; rfl), (hb.old 127 (by decide +kernel)).trans (by rw [hA]; rfl), (hb.old 128 (by decide +kernel)).trans (by rw [hA]; rfl), (hb.old 129 (by decide +kernel)).trans (by rw [hA]; rfl), (hb.old 130 (by decide +kernel)).trans (by rw [hA]; rfl), (hb.old 131 (by decide +kernel)).trans (by rw [hA]; rfl), (hb.old 132 (by decide +kernel)).trans (by rw [hA]; rfl), (hb.old 133 (by decide +kernel)).trans (by rw [hA]; rfl), (hb.old 134 (by decide +kernel)).trans (by rw [hA]; rfl), (hb.old 135 (by decide +kernel)).trans (by rw [hA]; rfl), (hb.old 136 (by decide +kernel)).trans (by rw [hA]; rfl), (hb.old 137 (by decide +kernel)).trans (by rw [hA]; rfl), (hb.old 138 (by decide +kernel)).trans (by rw [hA]; rfl), (hb.old 139 (by decide +kernel)).trans (by rw [hA]; rfl), (hb.old 140 (by decide +kernel)).trans (by rw [hA]; rfl), (hb.old 141 (by decide +kernel)).trans (by rw [hA]; rfl), (hb.old 142 (by decide +kernel)).trans (by rw [hA]; rfl), (hb.old 143 (by decide +kernel)).trans (by rw [hA]; rfl), (hb.old 144 (by decide +kernel)).trans (by rw [hA]; rfl), (hb.old 145 (by decide +kernel)).trans (by rw [hA]; rfl), (hb.old 146 (by decide +kernel)).trans (by rw [hA]; rfl), (hb.old 147 (by decide +kernel)).trans (by rw [hA]; rfl), (hb.old 148 (by decide +kernel)).trans (by rw [hA]; rfl), (hb.old 149 (by decide +kernel)).trans (by rw [hA]; rfl), (hb.old 150 (by decide +kernel)).trans (by rw [hA]; rfl), (hb.old 151 (by decide +kernel)).trans (by rw [hA]; rfl), (hb.old 152 (by decide +kernel)).trans (by rw [hA]; rfl), (hb.old 153 (by decide +kernel)).trans (by rw [hA]; rfl), (hb.old 154 (by decide +kernel)).trans (by rw [hA]; rfl), (hb.old 155 (by decide +kernel)).trans (by rw [hA]; rfl), (hb.old 156 (by decide +kernel)).trans (by rw [hA]; rfl), (hb.old 157 (by decide +kernel)).trans (by rw [hA]; rfl), (hb.old 158 (by decide +kernel)).trans (by rw [hA]; rfl), (hb.old 159 (by decide +kernel)).trans (by rw [hA]; rfl), (hb.old 160 (by decide +kernel)).trans (by rw [hA]; rfl), (hb.old 161 (by decide +kernel)).trans (by rw [hA]; rfl), (hb.old 162 (by decide +kernel)).trans (by rw [hA]; rfl), (hb.old 163 (by decide +kernel)).trans (by rw [hA]; rfl), (hb.old 164 (by decide +kernel)).trans (by rw [hA]; rfl), (hb.old 165 (by decide +kernel)).trans (by rw [hA]; rfl), (hb.old 166 (by decide +kernel)).trans (by rw [hA]; rfl), (hb.old 167 (by decide +kernel)).trans (by rw [hA]; rfl), (hb.old 168 (by decide +kernel)).trans (by rw [hA]; rfl), (hb.old 169 (by decide +kernel)).trans (by rw [hA]; rfl), (hb.old 170 (by decide +kernel)).trans (by rw [hA]; rfl), (hb.old 171 (by decide +kernel)).trans (by rw [hA]; rfl), (hb.old 172 (by decide +kernel)).trans (by rw [hA]; rfl), (hb.old 173 (by decide +kernel)).trans (by rw [hA]; rfl), (hb.old 174 (by decide +kernel)).trans (by rw [hA]; rfl), (hb.old 175 (by decide +kernel)).trans (by rw [hA]; rfl), (hb.old 176 (by decide +kernel)).trans (by rw [hA]; rfl), (hb.old 177 (by decide +kernel)).trans (by rw [hA]; rfl), (hb.old 178 (by decide +kernel)).trans (by rw [hA]; rfl), (hb.old 179 (by decide +kernel)).trans (by rw [hA]; rfl), (hb.old 180 (by decide +kernel)).trans (by rw [hA]; rfl), (hb.old 181 (by decide +kernel)).trans (by rw [hA]; rfl), (hb.old 182 (by decide +kernel)).trans (by rw [hA]; rfl), (hb.old 183 (by decide +kernel)).trans (by rw [hA]; rfl), (hb.old 184 (by decide +kernel)).trans (by rw [hA]; rfl), (hb.old 185 (by decide +kernel)).trans (by rw [hA]; rfl), (hb.old 186 (by decide +kernel)).trans (by rw [hA]; rfl), (hb.old 187 (by decide +kernel)).trans (by rw [hA]; rfl), (hb.old 188 (by decide +kernel)).trans (by rw [hA]; rfl), (hb.old 189 (by decide +kernel)).trans (by rw [hA]; rfl), (hb.old 190 (by decide +kernel)).trans (by rw [hA]; rfl), (hb.old 191 (by decide +kernel)).trans (by rw [hA]; rfl), (hb.old 192 (by decide +kernel)).trans (by rw [hA]; rfl), (hb.old 193 (by decide +kernel)).trans (by rw [hA]; rfl), (hb.old 194 (by decide +kernel)).trans (by rw [hA]; rfl), (hb.old 195 (by decide +kernel)).trans (by rw [hA]; rfl), (hb.old 196 (by decide +kernel)).trans (by rw [hA]; rfl), (hb.old 197 (by decide +kernel)).trans (by rw [hA]; rfl), (hb.old 198 (by decide +kernel)).trans (by rw [hA]; rfl), (hb.old 199 (by decide +kernel)).trans (by rw [hA]; rfl), (hb.old 200 (by decide +kernel)).trans (by rw [hA]; rfl), (hb.old 201 (by decide +kernel)).trans (by rw [hA]; rfl), (hb.old 202 (by decide +kernel)).trans (by rw [hA]; rfl), (hb.old 203 (by decide +kernel)).trans (by rw [hA]; rfl), (hb.old 204 (by decide +kernel)).trans (by rw [hA]; rfl), (hb.old 205 (by decide +kernel)).trans (by rw [hA]; rfl), (hb.old 206 (by decide +kernel)).trans (by rw [hA]; rfl), (hb.old 207 (by decide +kernel)).trans (by rw [hA]; rfl), (hb.old 208 (by decide +kernel)).trans (by rw [hA]; rfl), (hb.old 209 (by decide +kernel)).trans (by rw [hA]; rfl), (hb.old 210 (by decide +kernel)).trans (by rw [hA]; rfl), (hb.old 211 (by decide +kernel)).trans (by rw [hA]; rfl), (hb.old 212 (by decide +kernel)).trans (by rw [hA]; rfl), (hb.old 213 (by decide +kernel)).trans (by rw [hA]; rfl), (hb.old 214 (by decide +kernel)).trans (by rw [hA]; rfl), (hb.old 215 (by decide +kernel)).trans (by rw [hA]; rfl), (hb.old 216 (by decide +kernel)).trans (by rw [hA]; rfl), (hb.old 217 (by decide +kernel)).trans (by rw [hA]; rfl), (hb.old 218 (by decide +kernel)).trans (by rw [hA]; rfl), (hb.old 219 (by decide +kernel)).trans (by rw [hA]; rfl), (hb.old 220 (by decide +kernel)).trans (by rw [hA]; rfl), (hb.old 221 (by decide +kernel)).trans (by rw [hA]; rfl), (hb.old 222 (by decide +kernel)).trans (by rw [hA]; rfl), (hb.old 223 (by decide +kernel)).trans (by rw [hA]; rfl), (hb.old 224 (by decide +kernel)).trans (by rw [hA]; rfl), (hb.old 225 (by decide +kernel)).trans (by rw [hA]; rfl), (hb.old 226 (by decide +kernel)).trans (by rw [hA]; rfl), (hb.old 227 (by decide +kernel)).trans (by rw [hA]; rfl), (hb.old 228 (by decide +kernel)).trans (by rw [hA]; rfl), (hb.old 229 (by decide +kernel)).trans (by rw [hA]; rfl), (hb.old 230 (by decide +kernel)).trans (by rw [hA]; rfl), (hb.old 231 (by decide +kernel)).trans (by rw [hA]; rfl), (hb.old 232 (by decide +kernel)).trans (by rw [hA]; rfl), (hb.old 233 (by decide +kernel)).trans (by rw [hA]; rfl), (hb.old 234 (by decide +kernel)).trans (by rw [hA]; rfl), (hb.old 235 (by decide +kernel)).trans (by rw [hA]; rfl), (hb.old 236 (by decide +kernel)).trans (by rw [hA]; rfl), (hb.old 237 (by decide +kernel)).trans (by rw [hA]; rfl), (hb.old 238 (by decide +kernel)).trans (by rw [hA]; rfl), (hb.old 239 (by decide +kernel)).trans (by rw [hA]; rfl), (hb.old 240 (by decide +kernel)).trans (by rw [hA]; rfl), (hb.old 241 (by decide +kernel)).trans (by rw [hA]; rfl), (hb.old 242 (by decide +kernel)).trans (by rw [hA]; rfl), trivial⟩
    rw [hfr]
    exact unhide HQ _ _ _ _ _ _ _ _ _ _ _ _ _ _ _ _ _ _ _ _ _ _ f
set_option maxHeartbeats 8000000 in
set_option maxRecDepth 100000 in
theorem gq24y {W : World} {p3 p25 : Nat} {r c : Int} {la : List UInt8} {u0 u1 u2 u4 u5 u6 u7 u8 u9 u11 u12 u13 u14 u15 u16 u17 u18 u19 u20 u21 u22 u23 u24 u26 u27 u28 u29 u30 u31 u32 u33 u34 u35 u36 u37 u38 u39 u40 u41 u42 u43 u44 u45 u46 u47 u48 u49 u50 u51 u52 u53 u54 u55 u56 u57 u58 u59 u60 u61 u62 u63 u64 u65 u66 u67 u68 u69 u70 u71 u72 u73 u74 u75 u76 u77 u78 u79 u80 u81 u82 u83 u84 u85 u86 u87 u88 u89 u90 u91 u92 u93 u94 u95 u96 u97 u98 u99 u100 u101 u102 u103 u104 u105 u106 u107 u108 u109 u110 u111 u112 u113 u114 u115 u116 u117 u118 u119 u120 u121 u122 u123 u124 u125 u126 u127 u128 u129 u130 u131 u132 u133 u134 u135 u136 u137 u138 u139 u140 u141 u142 u143 u144 u145 u146 u147 u148 u149 u150 u151 u152 u153 u154 u155 u156 u157 u158 u159 u160 u161 u162 u163 u164 u165 u166 u167 u168 u169 u170 u171 u172 u173 u174 u175 u176 u177 u178 u179 u180 u181 u182 u183 u184 u185 u186 u187 u188 u189 u190 u191 u192 u193 u194 u195 u196 u197 u198 u199 u200 u201 u202 u203 u204 u205 u206 u207 u208 u209 u210 u211 u212 u213 u214 u215 u216 u217 u218 u219 u220 u221 u222 u223 u224 u225 u226 u227 u228 u229 u230 u231 u232 u233 u234 u235 u236 u237 u238 u239 u240 u241 u242 : Value} {Q : Exit → Act → World → Prop} (mp3 : MA W p3 r c la) (mp25 : MA W p25 r c la) (hck0 : chk r c la.length = 0)
    (hQ : ∀ (y194 y195 y196 y197 y198 y199 y200 y201 y202 y203 y204 y205 y206 y207 y208 y209 y210 y211 y212 y213 y214 y215 y216 y217 y218 y219 : Value) (W' : World), Fr (fun _ => False) W W' → Q .normal ⟨#[u0, u1, u2, .pointer (some ⟨p3, 0, none⟩), u4, u5, u6, u7, u8, u9, .int .i64 (chk r c la.length), u11, u12, u13, u14, u15, u16, u17, u18, u19, u20, u21, u22, u23, u24, .pointer (some ⟨p25, 0, none⟩), u26, u27, u28, u29, u30, u31, u32, u33, u34, u35, u36, u37, u38, u39, u40, u41, u42, u43, u44, u45, u46, u47, u48, u49, u50, u51, u52, u53, u54, u55, u56, u57, u58, u59, u60, u61, u62, u63, u64, u65, u66, u67, u68, u69, u70, u71, u72, u73, u74, u75, u76, u77, u78, u79, u80, u81, u82, u83, u84, u85, u86, u87, u88, u89, u90, u91, u92, u93, u94, u95, u96, u97, u98, u99, u100, u101, u102, u103, u104, u105, u106, u107, u108, u109, u110, u111, u112, u113, u114, u115, u116, u117, u118, u119, u120, u121, u122, u123, u124, u125, u126, u127, u128, u129, u130, u131, u132, u133, u134, u135, u136, u137, u138, u139, u140, u141, u142, u143, u144, u145, u146, u147, u148, u149, u150, u151, u152, u153, u154, u155, u156, u157, u158, u159, u160, u161, u162, u163, u164, u165, u166, u167, u168, u169, u170, u171, u172, u173, u174, u175, u176, u177, u178, u179, u180, u181, u182, u183, u184, u185, u186, u187, u188, u189, u190, u191, u192, u193, y194, y195, y196, y197, y198, y199, y200, y201, y202, y203, y204, y205, y206, y207, y208, y209, y210, y211, y212, y213, y214, y215, y216, y217, y218, y219, .bool false, u221, u222, u223, u224, u225, u226, u227, u228, u229, u230, u231, u232, u233, u234, u235, u236, u237, u238, u239, u240, u241, u242], []⟩ W') : Code.wp Try.prog (rg 24) Q ⟨#[u0, u1, u2, .pointer (some ⟨p3, 0, none⟩), u4, u5, u6, u7, u8, u9, .int .i64 (chk r c la.length), u11, u12, u13, u14, u15, u16, u17, u18, u19, u20, u21, u22, u23, u24, .pointer (some ⟨p25, 0, none⟩), u26, u27, u28, u29, u30, u31, u32, u33, u34, u35, u36, u37, u38, u39, u40, u41, u42, u43, u44, u45, u46, u47, u48, u49, u50, u51, u52, u53, u54, u55, u56, u57, u58, u59, u60, u61, u62, u63, u64, u65, u66, u67, u68, u69, u70, u71, u72, u73, u74, u75, u76, u77, u78, u79, u80, u81, u82, u83, u84, u85, u86, u87, u88, u89, u90, u91, u92, u93, u94, u95, u96, u97, u98, u99, u100, u101, u102, u103, u104, u105, u106, u107, u108, u109, u110, u111, u112, u113, u114, u115, u116, u117, u118, u119, u120, u121, u122, u123, u124, u125, u126, u127, u128, u129, u130, u131, u132, u133, u134, u135, u136, u137, u138, u139, u140, u141, u142, u143, u144, u145, u146, u147, u148, u149, u150, u151, u152, u153, u154, u155, u156, u157, u158, u159, u160, u161, u162, u163, u164, u165, u166, u167, u168, u169, u170, u171, u172, u173, u174, u175, u176, u177, u178, u179, u180, u181, u182, u183, u184, u185, u186, u187, u188, u189, u190, u191, u192, u193, u194, u195, u196, u197, u198, u199, u200, u201, u202, u203, u204, u205, u206, u207, u208, u209, u210, u211, u212, u213, u214, u215, u216, u217, u218, u219, u220, u221, u222, u223, u224, u225, u226, u227, u228, u229, u230, u231, u232, u233, u234, u235, u236, u237, u238, u239, u240, u241, u242], []⟩ W := by
  have HQ := hide hQ
  clear hQ
  obtain ⟨op3, kp3, hp3, rp3⟩ := mp3
  have lp3 := hp3.lt
  have gp3 : ∀ w', RM W.heap.size W w' → w'.heap[p3]? = some (.cells #[.int .i64 r, .int .i64 c, .slice op3 la.length kp3] 24 (0, 0)) := fun w' f => (f.block _ lp3 (.inl lp3)).trans hp3
  obtain ⟨op25, kp25, hp25, rp25⟩ := mp25
  have lp25 := hp25.lt
  have gp25 : ∀ w', RM W.heap.size W w' → w'.heap[p25]? = some (.cells #[.int .i64 r, .int .i64 c, .slice op25 la.length kp25] 24 (0, 0)) := fun w' f => (f.block _ lp25 (.inl lp25)).trans hp25
  conv => arg 2; whnf
  refine wp_nm ?_
  intro a0 hA
  have s3 : a0.tmps.getD 3 undef = .pointer (some ⟨p3, 0, none⟩) := by rw [hA]; rfl
  have s10 : a0.tmps.getD 10 undef = .int .i64 (chk r c la.length) := by rw [hA]; rfl
  have s25 : a0.tmps.getD 25 undef = .pointer (some ⟨p25, 0, none⟩) := by rw [hA]; rfl
  have hsz : a0.tmps.size = 243 := by rw [hA]; rfl
  have hdf : a0.defers = [] := by rw [hA]
  refine wp_region_chainA (by kernel_rfl) (by kernel_rfl) (by decide +kernel) (by rw [hsz]; decide +kernel) (fun w w' => RM W.heap.size w w') (RM.of_fr (Fr.refl _ _).drew) (fun _ _ _ => RM.trans) (Tw [KV.eq (.int .i64 (chk r c la.length)), KV.eq (.int .i64 (chk r c la.length)), KV.eq (.agg #[.int .i64 r, .int .i64 c, .slice op3 la.length kp3]), KV.eq (.int .i64 (chk r c la.length)), KV.eq (.bool false), KV.eq (.bool false), KV.eq (.agg #[.int .i64 r, .int .i64 c, .slice op3 la.length kp3]), KV.eq (.int .i64 (chk r c la.length)), KV.eq (.bool true), KV.eq (.bool true), KV.eq (.agg #[.int .i64 r, .int .i64 c, .slice op25 la.length kp25]), KV.eq (.agg #[.int .i64 r, .int .i64 c, .slice op3 la.length kp3]), KV.eq (.bool true), KV.eq (.bool false), KV.eq (.bool false), KV.eq (.bool false), KV.eq (.bool false), KV.eq (.agg #[.int .i64 r, .int .i64 c, .slice op3 la.length kp3]), KV.eq (.int .i64 (chk r c la.length)), KV.eq (.bool false), KV.eq (.bool false), KV.any, KV.any, KV.any, KV.any, KV.eq (.bool false), KV.eq (.bool false)]) (Tw.mono _) [] (by decide) (by decide) (fun k i j h1 h2 => ?cp) (fun _ _ _ => True) ?st0 ?steps ?done
  case cp => simp at h1
  case st0 => exact trivial
  case steps =>
    refine ⟨?_, ?_⟩
    · intro a' w' k hb hR hst hck hle hd
      refine .inl ⟨wanted_none rfl, ?_⟩
      exact la_val _ _ (by decide) (ex_move rfl ((hb.old 10 (by decide +kernel)).trans s10)) rfl (RM.of_fr (Fr.refl _ _)) trivial
    refine ⟨?_, ?_⟩
    · intro a' w' k hb hR hst hck hle hd
      refine .inl ⟨wanted_none rfl, ?_⟩
      refine la_call 22 _ (by decide) (en_call1 rfl rfl (hd 0 (by kernel_rfl) 194 rfl) (fun _ _ => by simp [go_sem])) ((num_any w' _).mono ?_)
      rintro e w2 h9
      first
        | (obtain ⟨rfl, f⟩ := h9; exact ⟨_, rfl, rfl, RM.of_fr f, trivial⟩)
        | (obtain ⟨rfl, rfl⟩ := h9; exact ⟨_, rfl, rfl, RM.of_fr (Fr.refl _ _), trivial⟩)
    refine ⟨?_, ?_⟩
    · intro a' w' k hb hR hst hck hle hd
      refine .inl ⟨wanted_none rfl, ?_⟩
      exact la_val _ _ (by decide) (x_load24 rfl ((hb.old 3 (by decide +kernel)).trans s3) (gp3 w' hR)) rfl (RM.of_fr (Fr.refl _ _)) trivial
    refine ⟨?_, ?_⟩
    · intro a' w' k hb hR hst hck hle hd
      refine .inl ⟨wanted_none rfl, ?_⟩
      refine la_call 24 _ (by decide) (en_call1 rfl rfl (hd 2 (by kernel_rfl) 196 rfl) (fun _ _ => by simp [go_sem])) ((rchk_any w' r c _ _ _).mono ?_)
      rintro e w2 h9
      first
        | (obtain ⟨rfl, f⟩ := h9; exact ⟨_, rfl, rfl, RM.of_fr f, trivial⟩)
        | (obtain ⟨rfl, rfl⟩ := h9; exact ⟨_, rfl, rfl, RM.of_fr (Fr.refl _ _), trivial⟩)
    refine ⟨?_, ?_⟩
    · intro a' w' k hb hR hst hck hle hd
      refine .inl ⟨wanted_none rfl, ?_⟩
      exact la_val _ _ (by decide) (x_cmp3 rfl (hd 1 (by kernel_rfl) 195 rfl) (hd 3 (by kernel_rfl) 197 rfl) (by simp)) rfl (RM.of_fr (Fr.refl _ _)) trivial
    refine ⟨?_, ?_⟩
    · intro a' w' k hb hR hst hck hle hd
      refine .inl ⟨wanted_none rfl, ?_⟩
      exact la_val _ _ (by decide) (ex_move rfl (hd 4 (by kernel_rfl) 198 rfl)) rfl (RM.of_fr (Fr.refl _ _)) trivial
    refine ⟨?_, ?_⟩
    · intro a' w' k hb hR hst hck hle hd
      refine .inl ⟨wanted_on (d := 199) rfl rfl (by rw [hb.size, hsz]; decide) (hd 5 (by kernel_rfl) 199 rfl), ?_⟩
      exact la_val _ _ (by decide) (x_load24 rfl ((hb.old 3 (by decide +kernel)).trans s3) (gp3 w' hR)) rfl (RM.of_fr (Fr.refl _ _)) trivial
    refine ⟨?_, ?_⟩
    · intro a' w' k hb hR hst hck hle hd
      refine .inl ⟨wanted_on (d := 199) rfl rfl (by rw [hb.size, hsz]; decide) (hd 5 (by kernel_rfl) 199 rfl), ?_⟩
      refine la_call 24 _ (by decide) (en_call1 rfl rfl (hd 6 (by kernel_rfl) 200 rfl) (fun _ _ => by simp [go_sem])) ((rchk_any w' r c _ _ _).mono ?_)
      rintro e w2 h9
      first
        | (obtain ⟨rfl, f⟩ := h9; exact ⟨_, rfl, rfl, RM.of_fr f, trivial⟩)
        | (obtain ⟨rfl, rfl⟩ := h9; exact ⟨_, rfl, rfl, RM.of_fr (Fr.refl _ _), trivial⟩)
    refine ⟨?_, ?_⟩
    · intro a' w' k hb hR hst hck hle hd
      refine .inl ⟨wanted_on (d := 199) rfl rfl (by rw [hb.size, hsz]; decide) (hd 5 (by kernel_rfl) 199 rfl), ?_⟩
      exact la_val _ _ (by decide) (x_eql3 rfl (hd 7 (by kernel_rfl) 201 rfl) rfl (by simp [hck0])) rfl (RM.of_fr (Fr.refl _ _)) trivial
    refine ⟨?_, ?_⟩
    · intro a' w' k hb hR hst hck hle hd
      refine .inl ⟨wanted_on (d := 199) rfl rfl (by rw [hb.size, hsz]; decide) (hd 5 (by kernel_rfl) 199 rfl), ?_⟩
      exact la_val _ _ (by decide) (ex_move rfl (hd 8 (by kernel_rfl) 202 rfl)) rfl (RM.of_fr (Fr.refl _ _)) trivial
    refine ⟨?_, ?_⟩
    · intro a' w' k hb hR hst hck hle hd
      refine .inl ⟨wanted_on (d := 203) rfl rfl (by rw [hb.size, hsz]; decide) (hd 9 (by kernel_rfl) 203 rfl), ?_⟩
      exact la_val _ _ (by decide) (x_load24 rfl ((hb.old 25 (by decide +kernel)).trans s25) (gp25 w' hR)) rfl (RM.of_fr (Fr.refl _ _)) trivial
    refine ⟨?_, ?_⟩
    · intro a' w' k hb hR hst hck hle hd
      refine .inl ⟨wanted_on (d := 203) rfl rfl (by rw [hb.size, hsz]; decide) (hd 9 (by kernel_rfl) 203 rfl), ?_⟩
      exact la_val _ _ (by decide) (x_load24 rfl ((hb.old 3 (by decide +kernel)).trans s3) (gp3 w' hR)) rfl (RM.of_fr (Fr.refl _ _)) trivial
    refine ⟨?_, ?_⟩
    · intro a' w' k hb hR hst hck hle hd
      refine .inl ⟨wanted_on (d := 203) rfl rfl (by rw [hb.size, hsz]; decide) (hd 9 (by kernel_rfl) 203 rfl), ?_⟩
      refine la_call 34 _ (by decide) (en_call2 rfl rfl (hd 10 (by kernel_rfl) 204 rfl) (hd 11 (by kernel_rfl) 205 rfl) (fun _ _ => by simp [go_sem])) ((same_any w' r c r c _ _ la la (RM.rd rp25 hR) (RM.rd rp3 hR)).mono ?_)
      rintro e w2 ⟨rfl, f⟩
      exact ⟨_, rfl, by simp [Tw, KV.eq], RM.of_fr f, trivial⟩
    refine ⟨?_, ?_⟩
    · intro a' w' k hb hR hst hck hle hd
      refine .inl ⟨wanted_on (d := 203) rfl rfl (by rw [hb.size, hsz]; decide) (hd 9 (by kernel_rfl) 203 rfl), ?_⟩
      exact la_val _ _ (by decide) (x_not4 rfl (hd 12 (by kernel_rfl) 206 rfl)) rfl (RM.of_fr (Fr.refl _ _)) trivial
    refine ⟨?_, ?_⟩
    · intro a' w' k hb hR hst hck hle hd
      refine .inl ⟨wanted_on (d := 199) rfl rfl (by rw [hb.size, hsz]; decide) (hd 5 (by kernel_rfl) 199 rfl), ?_⟩
      exact la_val _ _ (by decide) (ex_pick rfl (hd 9 (by kernel_rfl) 203 rfl) (hd 13 (by kernel_rfl) 207 rfl)) rfl (RM.of_fr (Fr.refl _ _)) trivial
    refine ⟨?_, ?_⟩
    · intro a' w' k hb hR hst hck hle hd
      refine .inl ⟨wanted_none rfl, ?_⟩
      exact la_val _ _ (by decide) (x_pickF rfl (hd 5 (by kernel_rfl) 199 rfl) (hd 14 (by kernel_rfl) 208 rfl)) rfl (RM.of_fr (Fr.refl _ _)) trivial
    refine ⟨?_, ?_⟩
    · intro a' w' k hb hR hst hck hle hd
      refine .inl ⟨wanted_none rfl, ?_⟩
      exact la_val _ _ (by decide) (ex_move rfl (hd 15 (by kernel_rfl) 209 rfl)) rfl (RM.of_fr (Fr.refl _ _)) trivial
    refine ⟨?_, ?_⟩
    · intro a' w' k hb hR hst hck hle hd
      refine .inl ⟨wanted_on (d := 210) rfl rfl (by rw [hb.size, hsz]; decide) (hd 16 (by kernel_rfl) 210 rfl), ?_⟩
      exact la_val _ _ (by decide) (x_load24 rfl ((hb.old 3 (by decide +kernel)).trans s3) (gp3 w' hR)) rfl (RM.of_fr (Fr.refl _ _)) trivial
    refine ⟨?_, ?_⟩
    · intro a' w' k hb hR hst hck hle hd
      refine .inl ⟨wanted_on (d := 210) rfl rfl (by rw [hb.size, hsz]; decide) (hd 16 (by kernel_rfl) 210 rfl), ?_⟩
      refine la_call 24 _ (by decide) (en_call1 rfl rfl (hd 17 (by kernel_rfl) 211 rfl) (fun _ _ => by simp [go_sem])) ((rchk_any w' r c _ _ _).mono ?_)
      rintro e w2 h9
      first
        | (obtain ⟨rfl, f⟩ := h9; exact ⟨_, rfl, rfl, RM.of_fr f, trivial⟩)
        | (obtain ⟨rfl, rfl⟩ := h9; exact ⟨_, rfl, rfl, RM.of_fr (Fr.refl _ _), trivial⟩)
    refine ⟨?_, ?_⟩
    · intro a' w' k hb hR hst hck hle hd
      refine .inl ⟨wanted_on (d := 210) rfl rfl (by rw [hb.size, hsz]; decide) (hd 16 (by kernel_rfl) 210 rfl), ?_⟩
      exact la_val _ _ (by decide) (x_cmp3 rfl (hd 18 (by kernel_rfl) 212 rfl) rfl (by simp [hck0])) rfl (RM.of_fr (Fr.refl _ _)) trivial
    refine ⟨?_, ?_⟩
    · intro a' w' k hb hR hst hck hle hd
      refine .inl ⟨wanted_on (d := 210) rfl rfl (by rw [hb.size, hsz]; decide) (hd 16 (by kernel_rfl) 210 rfl), ?_⟩
      exact la_val _ _ (by decide) (ex_move rfl (hd 19 (by kernel_rfl) 213 rfl)) rfl (RM.of_fr (Fr.refl _ _)) trivial
    refine ⟨?_, ?_⟩
    · intro a' w' k hb hR hst hck hle hd
      exact .inr ⟨wanted_off rfl rfl (hd 20 (by kernel_rfl) 214 rfl) (.inr rfl), by decide, trivial, RM.of_fr (Fr.refl _ _), trivial⟩
    refine ⟨?_, ?_⟩
    · intro a' w' k hb hR hst hck hle hd
      exact .inr ⟨wanted_off rfl rfl (hd 20 (by kernel_rfl) 214 rfl) (.inr rfl), by decide, trivial, RM.of_fr (Fr.refl _ _), trivial⟩
    refine ⟨?_, ?_⟩
    · intro a' w' k hb hR hst hck hle hd
      exact .inr ⟨wanted_off rfl rfl (hd 20 (by kernel_rfl) 214 rfl) (.inr rfl), by decide, trivial, RM.of_fr (Fr.refl _ _), trivial⟩
    refine ⟨?_, ?_⟩
    · intro a' w' k hb hR hst hck hle hd
      exact .inr ⟨wanted_off rfl rfl (hd 20 (by kernel_rfl) 214 rfl) (.inr rfl), by decide, trivial, RM.of_fr (Fr.refl _ _), trivial⟩
    refine ⟨?_, ?_⟩
    · intro a' w' k hb hR hst hck hle hd
      refine .inl ⟨wanted_on (d := 210) rfl rfl (by rw [hb.size, hsz]; decide) (hd 16 (by kernel_rfl) 210 rfl), ?_⟩
      exact la_val _ _ (by decide) (x_pickF rfl (hd 20 (by kernel_rfl) 214 rfl) rfl) rfl (RM.of_fr (Fr.refl _ _)) trivial
    refine ⟨?_, ?_⟩
    · intro a' w' k hb hR hst hck hle hd
      refine .inl ⟨wanted_none rfl, ?_⟩
      exact la_val _ _ (by decide) (x_pickF rfl (hd 16 (by kernel_rfl) 210 rfl) (hd 25 (by kernel_rfl) 219 rfl)) rfl (RM.of_fr (Fr.refl _ _)) trivial
    exact trivial
  case done =>
    intro a' w' hb hR hst hall
    have f := hR.fr (Nat.le_refl _)
    have hfr := frame_eq (a := a') (vs := [u0, u1, u2, .pointer (some ⟨p3, 0, none⟩), u4, u5, u6, u7, u8, u9, .int .i64 (chk r c la.length), u11, u12, u13, u14, u15, u16, u17, u18, u19, u20, u21, u22, u23, u24, .pointer (some ⟨p25, 0, none⟩), u26, u27, u28, u29, u30, u31, u32, u33, u34, u35, u36, u37, u38, u39, u40, u41, u42, u43, u44, u45, u46, u47, u48, u49, u50, u51, u52, u53, u54, u55, u56, u57, u58, u59, u60, u61, u62, u63, u64, u65, u66, u67, u68, u69, u70, u71, u72, u73, u74, u75, u76, u77, u78, u79, u80, u81, u82, u83, u84, u85, u86, u87, u88, u89, u90, u91, u92, u93, u94, u95, u96, u97, u98, u99, u100, u101, u102, u103, u104, u105, u106, u107, u108, u109, u110, u111, u112, u113, u114, u115, u116, u117, u118, u119, u120, u121, u122, u123, u124, u125, u126, u127, u128, u129, u130, u131, u132, u133, u134, u135, u136, u137, u138, u139, u140, u141, u142, u143, u144, u145, u146, u147, u148, u149, u150, u151, u152, u153, u154, u155, u156, u157, u158, u159, u160, u161, u162, u163, u164, u165, u166, u167, u168, u169, u170, u171, u172, u173, u174, u175, u176, u177, u178, u179, u180, u181, u182, u183, u184, u185, u186, u187, u188, u189, u190, u191, u192, u193, a'.tmps.getD 194 undef, a'.tmps.getD 195 undef, a'.tmps.getD 196 undef, a'.tmps.getD 197 undef, a'.tmps.getD 198 undef, a'.tmps.getD 199 undef, a'.tmps.getD 200 undef, a'.tmps.getD 201 undef, a'.tmps.getD 202 undef, a'.tmps.getD 203 undef, a'.tmps.getD 204 undef, a'.tmps.getD 205 undef, a'.tmps.getD 206 undef, a'.tmps.getD 207 undef, a'.tmps.getD 208 undef, a'.tmps.getD 209 undef, a'.tmps.getD 210 undef, a'.tmps.getD 211 undef, a'.tmps.getD 212 undef, a'.tmps.getD 213 undef, a'.tmps.getD 214 undef, a'.tmps.getD 215 undef, a'.tmps.getD 216 undef, a'.tmps.getD 217 undef, a'.tmps.getD 218 undef, a'.tmps.getD 219 undef, .bool false, u221, u222, u223, u224, u225, u226, u227, u228, u229, u230, u231, u232, u233, u234, u235, u236, u237, u238, u239, u240, u241, u242]) (by rw [hb.size, hsz]; rfl) (by rw [hb.defers]; exact hdf) ⟨(hb.old 0 (by decide +kernel)).trans (by rw [hA]; rfl), (hb.old 1 (by decide +kernel)).trans (by rw [hA]; rfl), (hb.old 2 (by decide +kernel)).trans (by rw [hA]; rfl), (hb.old 3 (by decide +kernel)).trans (by rw [hA]; rfl), (hb.old 4 (by decide +kernel)).trans (by rw [hA]; rfl), (hb.old 5 (by decide +kernel)).trans (by rw [hA]; rfl), (hb.old 6 (by decide +kernel)).trans (by rw [hA]; rfl), (hb.old 7 (by decide +kernel)).trans (by rw [hA]; rfl), (hb.old 8 (by decide +kernel)).trans (by rw [hA]; rfl), (hb.old 9 (by decide +kernel)).trans (by rw [hA]; rfl), (hb.old 10 (by decide +kernel)).trans (by rw [hA]; rfl), (hb.old 11 (by decide +kernel)).trans (by rw [hA]; rfl), (hb.old 12 (by decide +kernel)).trans (by rw [hA]; rfl), (hb.old 13 (by decide +kernel)).trans (by rw [hA]; rfl), (hb.old 14 (by decide +kernel)).trans (by rw [hA]; rfl), (hb.old 15 (by decide +kernel)).trans (by rw [hA]; rfl), (hb.old 16 (by decide +kernel)).trans (by rw [hA]; rfl), (hb.old 17 (by decide +kernel)).trans (by rw [hA]; rfl), (hb.old 18 (by decide +kernel)).trans (by rw [hA]; rfl), (hb.old 19 (by decide +kernel)).trans (by rw [hA]; rfl), (hb.old 20 (by decide +kernel)).trans (by rw [hA]; rfl), (hb.old 21 (by decide +kernel)).trans (by rw [hA]; rfl), (hb.old 22 (by decide +kernel)).trans (by rw [hA]; rfl), (hb.old 23 (by decide +kernel)).trans (by rw [hA]; rfl), (hb.old 24 (by decide +kernel)).trans (by rw [hA]; rfl), (hb.old 25 (by decide +kernel)).trans (by rw [hA]; rfl), (hb.old 26 (by decide +kernel)).trans (by rw [hA]; rfl), (hb.old 27 (by decide +kernel)).trans (by rw [hA]; rfl), (hb.old 28 (by decide +kernel)).trans (by rw [hA]; rfl), (hb.old 29 (by decide +kernel)).trans (by rw [hA]; rfl), (hb.old 30 (by decide +kernel)).trans (by rw [hA]; rfl), (hb.old 31 (by decide +kernel)).trans (by rw [hA]; rfl), (hb.old 32 (by decide +kernel)).trans (by rw [hA]; rfl), (hb.old 33 (by decide +kernel)).trans (by rw [hA]; rfl), (hb.old 34 (by decide +kernel)).trans (by rw [hA]; rfl), (hb.old 35 (by decide +kernel)).trans (by rw [hA]; rfl), (hb.old 36 (by decide +kernel)).trans (by rw [hA]; rfl), (hb.old 37 (by decide +kernel)).trans (by rw [hA]; rfl), (hb.old 38 (by decide +kernel)).trans (by rw [hA]; rfl), (hb.old 39 (by decide +kernel)).trans (by rw [hA]; rfl), (hb.old 40 (by decide +kernel)).trans (by rw [hA]; rfl), (hb.old 41 (by decide +kernel)).trans (by rw [hA]; rfl), (hb.old 42 (by decide +kernel)).trans (by rw [hA]; rfl), (hb.old 43 (by decide +kernel)).trans (by rw [hA]; rfl), (hb.old 44 (by decide +kernel)).trans (by rw [hA]; rfl), (hb.old 45 (by decide +kernel)).trans (by rw [hA]; rfl), (hb.old 46 (by decide +kernel)).trans (by rw [hA]; rfl), (hb.old 47 (by decide +kernel)).trans (by rw [hA]; rfl), (hb.old 48 (by decide +kernel)).trans (by rw [hA]; rfl), (hb.old 49 (by decide +kernel)).trans (by rw [hA]; rfl), (hb.old 50 (by decide +kernel)).trans (by rw [hA]; rfl), (hb.old 51 (by decide +kernel)).trans (by rw [hA]; rfl), (hb.old 52 (by decide +kernel)).trans (by rw [hA]; rfl), (hb.old 53 (by decide +kernel)).trans (by rw [hA]; rfl), (hb.old 54 (by decide +kernel)).trans (by rw [hA]; rfl), (hb.old 55 (by decide +kernel)).trans (by rw [hA]; rfl), (hb.old 56 (by decide +kernel)).trans (by rw [hA]; rfl), (hb.old 57 (by decide +kernel)).trans (by rw [hA]; rfl), (hb.old 58 (by decide +kernel)).trans (by rw [hA]; rfl), (hb.old 59 (by decide +kernel)).trans (by rw [hA]; rfl), (hb.old 60 (by decide +kernel)).trans (by rw [hA]; rfl), (hb.old 61 (by decide +kernel)).trans (by rw [hA]; rfl), (hb.old 62 (by decide +kernel)).trans (by rw [hA]; rfl), (hb.old 63 (by decide +kernel)).trans (by rw [hA]; rfl), (hb.old 64 (by decide +kernel)).trans (by rw [hA]; rfl), (hb.old 65 (by decide +kernel)).trans (by rw [hA]; rfl), (hb.old 66 (by decide +kernel)).trans (by rw [hA]; rfl), (hb.old 67 (by decide +kernel)).trans (by rw [hA]; rfl), (hb.old 68 (by decide +kernel)).trans (by rw [hA]; rfl), (hb.old 69 (by decide +kernel)).trans (by rw [hA]; rfl), (hb.old 70 (by decide +kernel)).trans (by rw [hA]; rfl), (hb.old 71 (by decide +kernel)).trans (by rw [hA]; rfl), (hb.old 72 (by decide +kernel)).trans (by rw [hA]; rfl), (hb.old 73 (by decide +kernel)).trans (by rw [hA]; rfl), (hb.old 74 (by decide +kernel)).trans (by rw [hA]; rfl), (hb.old 75 (by decide +kernel)).trans (by rw [hA]; rfl), (hb.old 76 (by decide +kernel)).trans (by rw [hA]; rfl), (hb.old 77 (by decide +kernel)).trans (by rw [hA]; rfl), (hb.old 78 (by decide +kernel)).trans (by rw [hA]; rfl), (hb.old 79 (by decide +kernel)).trans (by rw [hA]; rfl), (hb.old 80 (by decide +kernel)).trans (by rw [hA]; rfl), (hb.old 81 (by decide +kernel)).trans (by rw [hA]; rfl), (hb.old 82 (by decide +kernel)).trans (by rw [hA]; rfl), (hb.old 83 (by decide +kernel)).trans (by rw [hA]; rfl), (hb.old 84 (by decide +kernel)).trans (by rw [hA]; rfl), (hb.old 85 (by decide +kernel)).trans (by rw [hA]; rfl), (hb.old 86 (by decide +kernel)).trans (by rw [hA]; rfl), (hb.old 87 (by decide +kernel)).trans (by rw [hA]; rfl), (hb.old 88 (by decide +kernel)).trans (by rw [hA]; rfl), (hb.old 89 (by decide +kernel)).trans (by rw [hA]; rfl), (hb.old 90 (by decide +kernel)).trans (by rw [hA]; rfl), (hb.old 91 (by decide +kernel)).trans (by rw [hA]; rfl), (hb.old 92 (by decide +kernel)).trans (by rw [hA]; rfl), (hb.old 93 (by decide +kernel)).trans (by rw [hA]; rfl), (hb.old 94 (by decide +kernel)).trans (by rw [hA]; rfl), (hb.old 95 (by decide +kernel)).trans (by rw [hA]; rfl), (hb.old 96 (by decide +kernel)).trans (by rw [hA]; rfl), (hb.old 97 (by decide +kernel)).trans (by rw [hA]; rfl), (hb.old 98 (by decide +kernel)).trans (by rw [hA]; rfl), (hb.old 99 (by decide +kernel)).trans (by rw [hA]; rfl), (hb.old 100 (by decide +kernel)).trans (by rw [hA]; rfl), (hb.old 101 (by decide +kernel)).trans (by rw [hA]; rfl), (hb.old 102 (by decide +kernel)).trans (by rw [hA]; rfl), (hb.old 103 (by decide +kernel)).trans (by rw [hA]; rfl), (hb.old 104 (by decide +kernel)).trans (by rw [hA]; rfl), (hb.old 105 (by decide +kernel)).trans (by rw [hA]; rfl), (hb.old 106 (by decide +kernel)).trans (by rw [hA]; rfl), (hb.old 107 (by decide +kernel)).trans (by rw [hA]; rfl), (hb.old 108 (by decide +kernel)).trans (by rw [hA]; rfl), (hb.old 109 (by decide +kernel)).trans (by rw [hA]; rfl), (hb.old 110 (by decide +kernel)).trans (by rw [hA]; rfl), (hb.old 111 (by decide +kernel)).trans (by rw [hA]; rfl), (hb.old 112 (by decide +kernel)).trans (by rw [hA]; rfl), (hb.old 113 (by decide +kernel)).trans (by rw [hA]; rfl), (hb.old 114 (by decide +kernel)).trans (by rw [hA]; rfl), (hb.old 115 (by decide +kernel)).trans (by rw [hA]; rfl), (hb.old 116 (by decide +kernel)).trans (by rw [hA]; rfl), (hb.old 117 (by decide +kernel)).trans (by rw [hA]; rfl), (hb.old 118 (by decide +kernel)).trans (by rw [hA]; rfl), (hb.old 119 (by decide +kernel)).trans (by rw [hA]; rfl), (hb.old 120 (by decide +kernel)).trans (by rw [hA]; rfl), (hb.old 121 (by decide +kernel)).trans (by rw [hA]; rfl), (hb.old 122 (by decide +kernel)).trans (by rw [hA]; rfl), (hb.old 123 (by decide +kernel)).trans (by rw [hA]; rfl), (hb.old 124 (by decide +kernel)).trans (by rw [hA]; rfl), (hb.old 125 (by decide +kernel)).trans (by rw [hA]; rfl), (hb.old 126 (by decide +kernel)).trans (by rw [hA]; rfl), (hb.old 127 (by decide +kernel)).trans (by rw [hA]; rfl), (hb.old 128 (by decide +kernel)).trans (by rw [hA]; rfl), (hb.old 129 (by decide +kernel)).trans (by rw [hA]; rfl), (hb.old 130 (by decide +kernel)).trans (by rw [hA]; rfl), (hb.old 131 (by decide +kernel)).trans (by rw [hA]; rfl), (hb.old 132 (by decide +kernel)).trans (by rw [hA]; rfl), (hb.old 133 (by decide +kernel)).trans (by rw [hA]; rfl), (hb.old 134 (by decide +kernel)).trans (by rw [hA]; rfl), (hb.old 135 (by decide +kernel)).trans (by rw [hA]; rfl), (hb.old 136 (by decide +kernel)).trans (by rw [hA]; rfl), (hb.old 137 (by decide +kernel)).trans (by rw [hA]; rfl), (hb.old 138 (by decide +kernel)).trans (by rw [hA]; rfl), (hb.old 139 (by decide +kernel)).trans (by rw [hA]; rfl), (hb.old 140 (by decide +kernel)).trans (by rw [hA]; rfl), (hb.old 141 (by decide +kernel)).trans (by rw [hA]; rfl), (hb.old 142 (by decide +kernel)).trans (by rw [hA]; rfl), (hb.old 143 (by decide +kernel)).trans (by rw [hA]; rfl), (hb.old 144 (by decide +kernel)).trans (by rw [hA]; rfl), (hb.old 145 (by decide +kernel)).trans (by rw [hA]; rfl), (hb.old 146 (by decide +kernel)).trans (by rw [hA]; rfl), (hb.old 147 (by decide +kernel)).trans (by rw [hA]; rfl), (hb.old 148 (by decide +kernel)).trans (by rw [hA]; rfl), (hb.old 149 (by decide +kernel)).trans (by rw [hA]; rfl), (hb.old 150 (by decide +kernel)).trans (by rw [hA]; rfl), (hb.old 151 (by decide +kernel)).trans (by rw [hA]; rfl), (hb.old 152 (by decide +kernel)).trans (by rw [hA]; rfl), (hb.old 153 (by decide +kernel)).trans (by rw [hA]; rfl), (hb.old 154 (by decide +kernel)).trans (by rw [hA]; rfl), (hb.old 155 (by decide +kernel)).trans (by rw [hA]; rfl), (hb.old 156 (by decide +kernel)).trans (by rw [hA]; rfl), (hb.old 157 (by decide +kernel)).trans (by rw [hA]; rfl), (hb.old 158 (by decide +kernel)).trans (by rw [hA]; rfl), (hb.old 159 (by decide +kernel)).trans (by rw [hA]; rfl), (hb.old 160 (by decide +kernel)).trans (by rw [hA]; rfl), (hb.old 161 (by decide +kernel)).trans (by rw [hA]; rfl), (hb.old 162 (by decide +kernel)).trans (by rw [hA]; rfl), (hb.old 163 (by decide +kernel)).trans (by rw [hA]; rfl), (hb.old 164 (by decide +kernel)).trans (by rw [hA]; rfl), (hb.old 165 (by decide +kernel)).trans (by rw [hA]; rfl), (hb.old 166 (by decide +kernel)).trans (by rw [hA]; rfl), (hb.old 167 (by decide +kernel)).trans (by rw [hA]; rfl), (hb.old 168 (by decide +kernel)).trans (by rw [hA]; rfl), (hb.old 169 (by decide +kernel)).trans (by rw [hA]; rfl), (hb.old 170 (by decide +kernel)).trans (by rw [hA]; rfl), (hb.old 171 (by decide +kernel)).trans (by rw [hA]; rfl), (hb.old 172 (by decide +kernel)).trans (by rw [hA]; rfl), (hb.old 173 (by decide +kernel)).trans (by rw [hA]; rfl), (hb.old 174 (by decide +kernel)).trans (by rw [hA]; rfl), (hb.old 175 (by decide +kernel)).trans (by rw [hA]; rfl), (hb.old 176 (by decide +kernel)).trans (by rw [hA]; rfl), (hb.old 177 (by decide +kernel)).trans (by rw [hA]; rfl), (hb.old 178 (by decide +kernel)).trans (by rw [hA]; rfl), (hb.old 179 (by decide +kernel)).trans (by rw [hA]; rfl), (hb.old 180 (by decide +kernel)).trans (by rw [hA]; rfl), (hb.old 181 (by decide +kernel)).trans (by rw [hA]; rfl), (hb.old 182 (by decide +kernel)).trans (by rw [hA]; rfl), (hb.old 183 (by decide +kernel)).trans (by rw [hA]; rfl), (hb.old 184 (by decide +kernel)).trans (by rw [hA]; rfl), (hb.old 185 (by decide +kernel)).trans (by rw [hA]; rfl), (hb.old 186 (by decide +kernel)).trans (by rw [hA]; rfl), (hb.old 187 (by decide +kernel)).trans (by rw [hA]; rfl), (hb.old 188 (by decide +kernel)).trans (by rw [hA]; rfl), (hb.old 189 (by decide +kernel)).trans (by rw [hA]; rfl), (hb.old 190 (by decide +kernel)).trans (by rw [hA]; rfl), (hb.old 191 (by decide +kernel)).trans (by rw [hA]; rfl), (hb.old 192 (by decide +kernel)).trans (by rw [hA]; rfl), (hb.old 193 (by decide +kernel)).trans (by rw [hA]; rfl), rfl, rfl, rfl, rfl, rfl, rfl, rfl, rfl, rfl, rfl, rfl, rfl, rfl, rfl, rfl, rfl, rfl, rfl, rfl, rfl, rfl, rfl, rfl, rfl, rfl, rfl, hall 26 (by decide) 220 rfl, (hb.old 221 (by decide +kernel)).trans (by rw [hA]; rfl), (hb.old 222 (by decide +kernel)).trans (by rw [hA]; rfl), (hb.old 223 (by decide +kernel)).trans (by rw [hA]; rfl), (hb.old 224 (by decide +kernel)).trans (by rw [hA]; rfl), (hb.old 225 (by decide +kernel)).trans (by rw [hA]; rfl), (hb.old 226 (by decide +kernel)).trans (by rw [hA]; rfl), (hb.old 227 (by decide +kernel)).trans (by rw [hA]; rfl), (hb.old 228 (by decide +kernel)).trans (by rw [hA]; rfl), (hb.old 229 (by decide +kernel)).trans (by rw [hA]; rfl), (hb.old 230 (by decide +kernel)).trans (by rw [hA]; rfl), (hb.old 231 (by decide +kernel)).trans (by rw [hA]; rfl), (hb.old 232 (by decide +kernel)).trans (by rw [hA]; rfl), (hb.old 233 (by decide +kernel)).trans (by rw [hA]; rfl), (hb.old 234 (by decide +kernel)).trans (by rw [hA]; rfl), (hb.old 235 (by decide +kernel)).trans (by rw [hA]; rfl), (hb.old 236 (by decide +kernel)).trans (by rw [hA]; rfl), (hb.old 237 (by decide +kernel)).trans (by rw [hA]; rfl), (hb.old 238 (by decide +kernel)).trans (by rw [hA]; rfl), (hb.old 239 (by decide +kernel)).trans (by rw [hA]; rfl), (hb.old 240 (by decide +kernel)).trans (by rw [hA]; rfl), (hb.old 241 (by decide +kernel)).trans (by rw [hA]; rfl), (hb.old 242 (by decide +kernel)).trans (by rw [hA]; rfl), trivial⟩
    rw [hfr]
    exact unhide HQ _ _ _ _ _ _ _ _ _ _ _ _ _ _ _ _ _ _ _ _ _ _ _ _ _ _ _ f
set_option maxHeartbeats 8000000 in
set_option maxRecDepth 100000 in
theorem gq24n {W : World} {p3 p25 : Nat} {r c : Int} {la : List UInt8} {u0 u1 u2 u4 u5 u6 u7 u8 u9 u11 u12 u13 u14 u15 u16 u17 u18 u19 u20 u21 u22 u23 u24 u26 u27 u28 u29 u30 u31 u32 u33 u34 u35 u36 u37 u38 u39 u40 u41 u42 u43 u44 u45 u46 u47 u48 u49 u50 u51 u52 u53 u54 u55 u56 u57 u58 u59 u60 u61 u62 u63 u64 u65 u66 u67 u68 u69 u70 u71 u72 u73 u74 u75 u76 u77 u78 u79 u80 u81 u82 u83 u84 u85 u86 u87 u88 u89 u90 u91 u92 u93 u94 u95 u96 u97 u98 u99 u100 u101 u102 u103 u104 u105 u106 u107 u108 u109 u110 u111 u112 u113 u114 u115 u116 u117 u118 u119 u120 u121 u122 u123 u124 u125 u126 u127 u128 u129 u130 u131 u132 u133 u134 u135 u136 u137 u138 u139 u140 u141 u142 u143 u144 u145 u146 u147 u148 u149 u150 u151 u152 u153 u154 u155 u156 u157 u158 u159 u160 u161 u162 u163 u164 u165 u166 u167 u168 u169 u170 u171 u172 u173 u174 u175 u176 u177 u178 u179 u180 u181 u182 u183 u184 u185 u186 u187 u188 u189 u190 u191 u192 u193 u194 u195 u196 u197 u198 u199 u200 u201 u202 u203 u204 u205 u206 u207 u208 u209 u210 u211 u212 u213 u214 u215 u216 u217 u218 u219 u220 u221 u222 u223 u224 u225 u226 u227 u228 u229 u230 u231 u232 u233 u234 u235 u236 u237 u238 u239 u240 u241 u242 : Value} {Q : Exit → Act → World → Prop} (mp3 : MA W p3 r c la) (mp25 : MA W p25 0 0 ([] : List UInt8)) (hck0 : chk r c la.length ≠ 0)
    (hQ : ∀ (y194 y195 y196 y197 y198 y199 y200 y201 y202 y203 y204 y205 y206 y207 y208 y209 y210 y211 y212 y213 y214 y215 y216 y217 y218 y219 : Value) (W' : World), Fr (fun _ => False) W W' → Q .normal ⟨#[u0, u1, u2, .pointer (some ⟨p3, 0, none⟩), u4, u5, u6, u7, u8, u9, .int .i64 (chk r c la.length), u11, u12, u13, u14, u15, u16, u17, u18, u19, u20, u21, u22, u23, u24, .pointer (some ⟨p25, 0, none⟩), u26, u27, u28, u29, u30, u31, u32, u33, u34, u35, u36, u37, u38, u39, u40, u41, u42, u43, u44, u45, u46, u47, u48, u49, u50, u51, u52, u53, u54, u55, u56, u57, u58, u59, u60, u61, u62, u63, u64, u65, u66, u67, u68, u69, u70, u71, u72, u73, u74, u75, u76, u77, u78, u79, u80, u81, u82, u83, u84, u85, u86, u87, u88, u89, u90, u91, u92, u93, u94, u95, u96, u97, u98, u99, u100, u101, u102, u103, u104, u105, u106, u107, u108, u109, u110, u111, u112, u113, u114, u115, u116, u117, u118, u119, u120, u121, u122, u123, u124, u125, u126, u127, u128, u129, u130, u131, u132, u133, u134, u135, u136, u137, u138, u139, u140, u141, u142, u143, u144, u145, u146, u147, u148, u149, u150, u151, u152, u153, u154, u155, u156, u157, u158, u159, u160, u161, u162, u163, u164, u165, u166, u167, u168, u169, u170, u171, u172, u173, u174, u175, u176, u177, u178, u179, u180, u181, u182, u183, u184, u185, u186, u187, u188, u189, u190, u191, u192, u193, y194, y195, y196, y197, y198, y199, y200, y201, y202, y203, y204, y205, y206, y207, y208, y209, y210, y211, y212, y213, y214, y215, y216, y217, y218, y219, .bool false, u221, u222, u223, u224, u225, u226, u227, u228, u229, u230, u231, u232, u233, u234, u235, u236, u237, u238, u239, u240, u241, u242], []⟩ W') : Code.wp Try.prog (rg 24) Q ⟨#[u0, u1, u2, .pointer (some ⟨p3, 0, none⟩), u4, u5, u6, u7, u8, u9, .int .i64 (chk r c la.length), u11, u12, u13, u14, u15, u16, u17, u18, u19, u20, u21, u22, u23, u24, .pointer (some ⟨p25, 0, none⟩), u26, u27, u28, u29, u30, u31, u32, u33, u34, u35, u36, u37, u38, u39, u40, u41, u42, u43, u44, u45, u46, u47, u48, u49, u50, u51, u52, u53, u54, u55, u56, u57, u58, u59, u60, u61, u62, u63, u64, u65, u66, u67, u68, u69, u70, u71, u72, u73, u74, u75, u76, u77, u78, u79, u80, u81, u82, u83, u84, u85, u86, u87, u88, u89, u90, u91, u92, u93, u94, u95, u96, u97, u98, u99, u100, u101, u102, u103, u104, u105, u106, u107, u108, u109, u110, u111, u112, u113, u114, u115, u116, u117, u118, u119, u120, u121, u122, u123, u124, u125, u126, u127, u128, u129, u130, u131, u132, u133, u134, u135, u136, u137, u138, u139, u140, u141, u142, u143, u144, u145, u146, u147, u148, u149, u150, u151, u152, u153, u154, u155, u156, u157, u158, u159, u160, u161, u162, u163, u164, u165, u166, u167, u168, u169, u170, u171, u172, u173, u174, u175, u176, u177, u178, u179, u180, u181, u182, u183, u184, u185, u186, u187, u188, u189, u190, u191, u192, u193, u194, u195, u196, u197, u198, u199, u200, u201, u202, u203, u204, u205, u206, u207, u208, u209, u210, u211, u212, u213, u214, u215, u216, u217, u218, u219, u220, u221, u222, u223, u224, u225, u226, u227, u228, u229, u230, u231, u232, u233, u234, u235, u236, u237, u238, u239, u240, u241, u242], []⟩ W := by
  have HQ := hide hQ
  clear hQ
  obtain ⟨op3, kp3, hp3, rp3⟩ := mp3
  have lp3 := hp3.lt
  have gp3 : ∀ w', RM W.heap.size W w' → w'.heap[p3]? = some (.cells #[.int .i64 r, .int .i64 c, .slice op3 la.length kp3] 24 (0, 0)) := fun w' f => (f.block _ lp3 (.inl lp3)).trans hp3
  obtain ⟨op25, kp25, hp25, rp25⟩ := mp25
  have lp25 := hp25.lt
  have gp25 : ∀ w', RM W.heap.size W w' → w'.heap[p25]? = some (.cells #[.int .i64 0, .int .i64 0, .slice op25 ([] : List UInt8).length kp25] 24 (0, 0)) := fun w' f => (f.block _ lp25 (.inl lp25)).trans hp25
  conv => arg 2; whnf
  refine wp_nm ?_
  intro a0 hA
  have s3 : a0.tmps.getD 3 undef = .pointer (some ⟨p3, 0, none⟩) := by rw [hA]; rfl
  have s10 : a0.tmps.getD 10 undef = .int .i64 (chk r c la.length) := by rw [hA]; rfl
  have s25 : a0.tmps.getD 25 undef = .pointer (some ⟨p25, 0, none⟩) := by rw [hA]; rfl
  have hsz : a0.tmps.size = 243 := by rw [hA]; rfl
  have hdf : a0.defers = [] := by rw [hA]
  refine wp_region_chainA (by kernel_rfl) (by kernel_rfl) (by decide +kernel) (by rw [hsz]; decide +kernel) (fun w w' => RM W.heap.size w w') (RM.of_fr (Fr.refl _ _).drew) (fun _ _ _ => RM.trans) (Tw [KV.eq (.int .i64 (chk r c la.length)), KV.eq (.int .i64 (chk r c la.length)), KV.eq (.agg #[.int .i64 r, .int .i64 c, .slice op3 la.length kp3]), KV.eq (.int .i64 (chk r c la.length)), KV.eq (.bool false), KV.eq (.bool false), KV.eq (.agg #[.int .i64 r, .int .i64 c, .slice op3 la.length kp3]), KV.eq (.int .i64 (chk r c la.length)), KV.eq (.bool false), KV.eq (.bool false), KV.any, KV.any, KV.any, KV.any, KV.eq (.bool false), KV.eq (.bool false), KV.eq (.bool false), KV.eq (.agg #[.int .i64 r, .int .i64 c, .slice op3 la.length kp3]), KV.eq (.int .i64 (chk r c la.length)), KV.eq (.bool true), KV.eq (.bool true), KV.eq (.agg #[.int .i64 0, .int .i64 0, .slice op25 ([] : List UInt8).length kp25]), KV.eq (zV), KV.eq (.bool true), KV.eq (.bool false), KV.eq (.bool false), KV.eq (.bool false)]) (Tw.mono _) [] (by decide) (by decide) (fun k i j h1 h2 => ?cp) (fun _ _ _ => True) ?st0 ?steps ?done
  case cp => simp at h1
  case st0 => exact trivial
  case steps =>
    refine ⟨?_, ?_⟩
    · intro a' w' k hb hR hst hck hle hd
      refine .inl ⟨wanted_none rfl, ?_⟩
      exact la_val _ _ (by decide) (ex_move rfl ((hb.old 10 (by decide +kernel)).trans s10)) rfl (RM.of_fr (Fr.refl _ _)) trivial
    refine ⟨?_, ?_⟩
    · intro a' w' k hb hR hst hck hle hd
      refine .inl ⟨wanted_none rfl, ?_⟩
      refine la_call 22 _ (by decide) (en_call1 rfl rfl (hd 0 (by kernel_rfl) 194 rfl) (fun _ _ => by simp [go_sem])) ((num_any w' _).mono ?_)
      rintro e w2 h9
      first
        | (obtain ⟨rfl, f⟩ := h9; exact ⟨_, rfl, rfl, RM.of_fr f, trivial⟩)
        | (obtain ⟨rfl, rfl⟩ := h9; exact ⟨_, rfl, rfl, RM.of_fr (Fr.refl _ _), trivial⟩)
    refine ⟨?_, ?_⟩
    · intro a' w' k hb hR hst hck hle hd
      refine .inl ⟨wanted_none rfl, ?_⟩
      exact la_val _ _ (by decide) (x_load24 rfl ((hb.old 3 (by decide +kernel)).trans s3) (gp3 w' hR)) rfl (RM.of_fr (Fr.refl _ _)) trivial
    refine ⟨?_, ?_⟩
    · intro a' w' k hb hR hst hck hle hd
      refine .inl ⟨wanted_none rfl, ?_⟩
      refine la_call 24 _ (by decide) (en_call1 rfl rfl (hd 2 (by kernel_rfl) 196 rfl) (fun _ _ => by simp [go_sem])) ((rchk_any w' r c _ _ _).mono ?_)
      rintro e w2 h9
      first
        | (obtain ⟨rfl, f⟩ := h9; exact ⟨_, rfl, rfl, RM.of_fr f, trivial⟩)
        | (obtain ⟨rfl, rfl⟩ := h9; exact ⟨_, rfl, rfl, RM.of_fr (Fr.refl _ _), trivial⟩)
    refine ⟨?_, ?_⟩
    · intro a' w' k hb hR hst hck hle hd
      refine .inl ⟨wanted_none rfl, ?_⟩
      exact la_val _ _ (by decide) (x_cmp3 rfl (hd 1 (by kernel_rfl) 195 rfl) (hd 3 (by kernel_rfl) 197 rfl) (by simp)) rfl (RM.of_fr (Fr.refl _ _)) trivial
    refine ⟨?_, ?_⟩
    · intro a' w' k hb hR hst hck hle hd
      refine .inl ⟨wanted_none rfl, ?_⟩
      exact la_val _ _ (by decide) (ex_move rfl (hd 4 (by kernel_rfl) 198 rfl)) rfl (RM.of_fr (Fr.refl _ _)) trivial
    refine ⟨?_, ?_⟩
    · intro a' w' k hb hR hst hck hle hd
      refine .inl ⟨wanted_on (d := 199) rfl rfl (by rw [hb.size, hsz]; decide) (hd 5 (by kernel_rfl) 199 rfl), ?_⟩
      exact la_val _ _ (by decide) (x_load24 rfl ((hb.old 3 (by decide +kernel)).trans s3) (gp3 w' hR)) rfl (RM.of_fr (Fr.refl _ _)) trivial
    refine ⟨?_, ?_⟩
    · intro a' w' k hb hR hst hck hle hd
      refine .inl ⟨wanted_on (d := 199) rfl rfl (by rw [hb.size, hsz]; decide) (hd 5 (by kernel_rfl) 199 rfl), ?_⟩
      refine la_call 24 _ (by decide) (en_call1 rfl rfl (hd 6 (by kernel_rfl) 200 rfl) (fun _ _ => by simp [go_sem])) ((rchk_any w' r c _ _ _).mono ?_)
      rintro e w2 h9
      first
        | (obtain ⟨rfl, f⟩ := h9; exact ⟨_, rfl, rfl, RM.of_fr f, trivial⟩)
        | (obtain ⟨rfl, rfl⟩ := h9; exact ⟨_, rfl, rfl, RM.of_fr (Fr.refl _ _), trivial⟩)
    refine ⟨?_, ?_⟩
    · intro a' w' k hb hR hst hck hle hd
      refine .inl ⟨wanted_on (d := 199) rfl rfl (by rw [hb.size, hsz]; decide) (hd 5 (by kernel_rfl) 199 rfl), ?_⟩
      exact la_val _ _ (by decide) (x_eql3 rfl (hd 7 (by kernel_rfl) 201 rfl) rfl (by simp [hck0])) rfl (RM.of_fr (Fr.refl _ _)) trivial
    refine ⟨?_, ?_⟩
    · intro a' w' k hb hR hst hck hle hd
      refine .inl ⟨wanted_on (d := 199) rfl rfl (by rw [hb.size, hsz]; decide) (hd 5 (by kernel_rfl) 199 rfl), ?_⟩
      exact la_val _ _ (by decide) (ex_move rfl (hd 8 (by kernel_rfl) 202 rfl)) rfl (RM.of_fr (Fr.refl _ _)) trivial
    refine ⟨?_, ?_⟩
    · intro a' w' k hb hR hst hck hle hd
      exact .inr ⟨wanted_off rfl rfl (hd 9 (by kernel_rfl) 203 rfl) (.inr rfl), by decide, trivial, RM.of_fr (Fr.refl _ _), trivial⟩
    refine ⟨?_, ?_⟩
    · intro a' w' k hb hR hst hck hle hd
      exact .inr ⟨wanted_off rfl rfl (hd 9 (by kernel_rfl) 203 rfl) (.inr rfl), by decide, trivial, RM.of_fr (Fr.refl _ _), trivial⟩
    refine ⟨?_, ?_⟩
    · intro a' w' k hb hR hst hck hle hd
      exact .inr ⟨wanted_off rfl rfl (hd 9 (by kernel_rfl) 203 rfl) (.inr rfl), by decide, trivial, RM.of_fr (Fr.refl _ _), trivial⟩
    refine ⟨?_, ?_⟩
    · intro a' w' k hb hR hst hck hle hd
      exact .inr ⟨wanted_off rfl rfl (hd 9 (by kernel_rfl) 203 rfl) (.inr rfl), by decide, trivial, RM.of_fr (Fr.refl _ _), trivial⟩
    refine ⟨?_, ?_⟩
    · intro a' w' k hb hR hst hck hle hd
      refine .inl ⟨wanted_on (d := 199) rfl rfl (by rw [hb.size, hsz]; decide) (hd 5 (by kernel_rfl) 199 rfl), ?_⟩
      exact la_val _ _ (by decide) (x_pickF rfl (hd 9 (by kernel_rfl) 203 rfl) rfl) rfl (RM.of_fr (Fr.refl _ _)) trivial
    refine ⟨?_, ?_⟩
    · intro a' w' k hb hR hst hck hle hd
      refine .inl ⟨wanted_none rfl, ?_⟩
      exact la_val _ _ (by decide) (x_pickF rfl (hd 5 (by kernel_rfl) 199 rfl) (hd 14 (by kernel_rfl) 208 rfl)) rfl (RM.of_fr (Fr.refl _ _)) trivial
    refine ⟨?_, ?_⟩
    · intro a' w' k hb hR hst hck hle hd
      refine .inl ⟨wanted_none rfl, ?_⟩
      exact la_val _ _ (by decide) (ex_move rfl (hd 15 (by kernel_rfl) 209 rfl)) rfl (RM.of_fr (Fr.refl _ _)) trivial
    refine ⟨?_, ?_⟩
    · intro a' w' k hb hR hst hck hle hd
      refine .inl ⟨wanted_on (d := 210) rfl rfl (by rw [hb.size, hsz]; decide) (hd 16 (by kernel_rfl) 210 rfl), ?_⟩
      exact la_val _ _ (by decide) (x_load24 rfl ((hb.old 3 (by decide +kernel)).trans s3) (gp3 w' hR)) rfl (RM.of_fr (Fr.refl _ _)) trivial
    refine ⟨?_, ?_⟩
    · intro a' w' k hb hR hst hck hle hd
      refine .inl ⟨wanted_on (d := 210) rfl rfl (by rw [hb.size, hsz]; decide) (hd 16 (by kernel_rfl) 210 rfl), ?_⟩
      refine la_call 24 _ (by decide) (en_call1 rfl rfl (hd 17 (by kernel_rfl) 211 rfl) (fun _ _ => by simp [go_sem])) ((rchk_any w' r c _ _ _).mono ?_)
      rintro e w2 h9
      first
        | (obtain ⟨rfl, f⟩ := h9; exact ⟨_, rfl, rfl, RM.of_fr f, trivial⟩)
        | (obtain ⟨rfl, rfl⟩ := h9; exact ⟨_, rfl, rfl, RM.of_fr (Fr.refl _ _), trivial⟩)
    refine ⟨?_, ?_⟩
    · intro a' w' k hb hR hst hck hle hd
      refine .inl ⟨wanted_on (d := 210) rfl rfl (by rw [hb.size, hsz]; decide) (hd 16 (by kernel_rfl) 210 rfl), ?_⟩
      exact la_val _ _ (by decide) (x_cmp3 rfl (hd 18 (by kernel_rfl) 212 rfl) rfl (by simp [hck0])) rfl (RM.of_fr (Fr.refl _ _)) trivial
    refine ⟨?_, ?_⟩
    · intro a' w' k hb hR hst hck hle hd
      refine .inl ⟨wanted_on (d := 210) rfl rfl (by rw [hb.size, hsz]; decide) (hd 16 (by kernel_rfl) 210 rfl), ?_⟩
      exact la_val _ _ (by decide) (ex_move rfl (hd 19 (by kernel_rfl) 213 rfl)) rfl (RM.of_fr (Fr.refl _ _)) trivial
    refine ⟨?_, ?_⟩
    · intro a' w' k hb hR hst hck hle hd
      refine .inl ⟨wanted_on (d := 214) rfl rfl (by rw [hb.size, hsz]; decide) (hd 20 (by kernel_rfl) 214 rfl), ?_⟩
      exact la_val _ _ (by decide) (x_load24 rfl ((hb.old 25 (by decide +kernel)).trans s25) (gp25 w' hR)) rfl (RM.of_fr (Fr.refl _ _)) trivial
    refine ⟨?_, ?_⟩
    · intro a' w' k hb hR hst hck hle hd
      refine .inl ⟨wanted_on (d := 214) rfl rfl (by rw [hb.size, hsz]; decide) (hd 20 (by kernel_rfl) 214 rfl), ?_⟩
      exact la_val _ _ (by decide) (x_build24 rfl) rfl (RM.of_fr (Fr.refl _ _)) trivial
    refine ⟨?_, ?_⟩
    · intro a' w' k hb hR hst hck hle hd
      refine .inl ⟨wanted_on (d := 214) rfl rfl (by rw [hb.size, hsz]; decide) (hd 20 (by kernel_rfl) 214 rfl), ?_⟩
      refine la_call 34 _ (by decide) (en_call2 rfl rfl (hd 21 (by kernel_rfl) 215 rfl) (hd 22 (by kernel_rfl) 216 rfl) (fun _ _ => by simp [go_sem])) ((same_any w' 0 0 0 0 _ _ [] [] (RM.rd rp25 hR) (Rd.nil _)).mono ?_)
      rintro e w2 ⟨rfl, f⟩
      exact ⟨_, rfl, by simp [Tw, KV.eq], RM.of_fr f, trivial⟩
    refine ⟨?_, ?_⟩
    · intro a' w' k hb hR hst hck hle hd
      refine .inl ⟨wanted_on (d := 214) rfl rfl (by rw [hb.size, hsz]; decide) (hd 20 (by kernel_rfl) 214 rfl), ?_⟩
      exact la_val _ _ (by decide) (x_not4 rfl (hd 23 (by kernel_rfl) 217 rfl)) rfl (RM.of_fr (Fr.refl _ _)) trivial
    refine ⟨?_, ?_⟩
    · intro a' w' k hb hR hst hck hle hd
      refine .inl ⟨wanted_on (d := 210) rfl rfl (by rw [hb.size, hsz]; decide) (hd 16 (by kernel_rfl) 210 rfl), ?_⟩
      exact la_val _ _ (by decide) (ex_pick rfl (hd 20 (by kernel_rfl) 214 rfl) (hd 24 (by kernel_rfl) 218 rfl)) rfl (RM.of_fr (Fr.refl _ _)) trivial
    refine ⟨?_, ?_⟩
    · intro a' w' k hb hR hst hck hle hd
      refine .inl ⟨wanted_none rfl, ?_⟩
      exact la_val _ _ (by decide) (x_pickF rfl (hd 16 (by kernel_rfl) 210 rfl) (hd 25 (by kernel_rfl) 219 rfl)) rfl (RM.of_fr (Fr.refl _ _)) trivial
    exact trivial
  case done =>
    intro a' w' hb hR hst hall
    have f := hR.fr (Nat.le_refl _)
    have hfr := frame_eq (a := a') (vs := [u0, u1, u2, .pointer (some ⟨p3, 0, none⟩), u4, u5, u6, u7, u8, u9, .int .i64 (chk r c la.length), u11, u12, u13, u14, u15, u16, u17, u18, u19, u20, u21, u22, u23, u24, .pointer (some ⟨p25, 0, none⟩), u26, u27, u28, u29, u30, u31, u32, u33, u34, u35, u36, u37, u38, u39, u40, u41, u42, u43, u44, u45, u46, u47, u48, u49, u50, u51, u52, u53, u54, u55, u56, u57, u58, u59, u60, u61, u62, u63, u64, u65, u66, u67, u68, u69, u70, u71, u72, u73, u74, u75, u76, u77, u78, u79, u80, u81, u82, u83, u84, u85, u86, u87, u88, u89, u90, u91, u92, u93, u94, u95, u96, u97, u98, u99, u100, u101, u102, u103, u104, u105, u106, u107, u108, u109, u110, u111, u112, u113, u114, u115, u116, u117, u118, u119, u120, u121, u122, u123, u124, u125, u126, u127, u128, u129, u130, u131, u132, u133, u134, u135, u136, u137, u138, u139, u140, u141, u142, u143, u144, u145, u146, u147, u148, u149, u150, u151, u152, u153, u154, u155, u156, u157, u158, u159, u160, u161, u162, u163, u164, u165, u166, u167, u168, u169, u170, u171, u172, u173, u174, u175, u176, u177, u178, u179, u180, u181, u182, u183, u184, u185, u186, u187, u188, u189, u190, u191, u192, u193, a'.tmps.getD 194 undef, a'.tmps.getD 195 undef, a'.tmps.getD 196 undef, a'.tmps.getD 197 undef, a'.tmps.getD 198 undef, a'.tmps.getD 199 undef, a'.tmps.getD 200 undef, a'.tmps.getD 201 undef, a'.tmps.getD 202 undef, a'.tmps.getD 203 undef, a'.tmps.getD 204 undef, a'.tmps.getD 205 undef, a'.tmps.getD 206 undef, a'.tmps.getD 207 undef, a'.tmps.getD 208 undef, a'.tmps.getD 209 undef, a'.tmps.getD 210 undef, a'.tmps.getD 211 undef, a'.tmps.getD 212 undef, a'.tmps.getD 213 undef, a'.tmps.getD 214 undef, a'.tmps.getD 215 undef, a'.tmps.getD 216 undef, a'.tmps.getD 217 undef, a'.tmps.getD 218 undef, a'.tmps.getD 219 undef, .bool false, u221, u222, u223, u224, u225, u226, u227, u228, u229, u230, u231, u232, u233, u234, u235, u236, u237, u238, u239, u240, u241, u242]) (by rw [hb.size, hsz]; rfl) (by rw [hb.defers]; exact hdf) ⟨(hb.old 0 (by decide +kernel)).trans (by rw [hA]; rfl), (hb.old 1 (by decide +kernel)).trans (by rw [hA]; rfl), (hb.old 2 (by decide +kernel)).trans (by rw [hA]; rfl), (hb.old 3 (by decide +kernel)).trans (by rw [hA]; rfl), (hb.old 4 (by decide +kernel)).trans (by rw [hA]; rfl), (hb.old 5 (by decide +kernel)).trans (by rw [hA]; rfl), (hb.old 6 (by decide +kernel)).trans (by rw [hA]; rfl), (hb.old 7 (by decide +kernel)).trans (by rw [hA]; rfl), (hb.old 8 (by decide +kernel)).trans (by rw [hA]; rfl), (hb.old 9 (by decide +kernel)).trans (by rw [hA]; rfl), (hb.old 10 (by decide +kernel)).trans (by rw [hA]; rfl), (hb.old 11 (by decide +kernel)).trans (by rw [hA]; rfl), (hb.old 12 (by decide +kernel)).trans (by rw [hA]; rfl), (hb.old 13 (by decide +kernel)).trans (by rw [hA]; rfl), (hb.old 14 (by decide +kernel)).trans (by rw [hA]; rfl), (hb.old 15 (by decide +kernel)).trans (by rw [hA]; rfl), (hb.old 16 (by decide +kernel)).trans (by rw [hA]; rfl), (hb.old 17 (by decide +kernel)).trans (by rw [hA]; rfl), (hb.old 18 (by decide +kernel)).trans (by rw [hA]; rfl), (hb.old 19 (by decide +kernel)).trans (by rw [hA]; rfl), (hb.old 20 (by decide +kernel)).trans (by rw [hA]; rfl), (hb.old 21 (by decide +kernel)).trans (by rw [hA]; rfl), (hb.old 22 (by decide +kernel)).trans (by rw [hA]; rfl), (hb.old 23 (by decide +kernel)).trans (by rw [hA]; rfl), (hb.old 24 (by decide +kernel)).trans (by rw [hA]; rfl), (hb.old 25 (by decide +kernel)).trans (by rw [hA]; rfl), (hb.old 26 (by decide +kernel)).trans (by rw [hA]; rfl), (hb.old 27 (by decide +kernel)).trans (by rw [hA]; rfl), (hb.old 28 (by decide +kernel)).trans (by rw [hA]; rfl), (hb.old 29 (by decide +kernel)).trans (by rw [hA]; rfl), (hb.old 30 (by decide +kernel)).trans (by rw [hA]; rfl), (hb.old 31 (by decide +kernel)).trans (by rw [hA]; rfl), (hb.old 32 (by decide +kernel)).trans (by rw [hA]; rfl), (hb.old 33 (by decide +kernel)).trans (by rw [hA]; rfl), (hb.old 34 (by decide +kernel)).trans (by rw [hA]; rfl), (hb.old 35 (by decide +kernel)).trans (by rw [hA]; rfl), (hb.old 36 (by decide +kernel)).trans (by rw [hA]; rfl), (hb.old 37 (by decide +kernel)).trans (by rw [hA]; rfl), (hb.old 38 (by decide +kernel)).trans (by rw [hA]; rfl), (hb.old 39 (by decide +kernel)).trans (by rw [hA]; rfl), (hb.old 40 (by decide +kernel)).trans (by rw [hA]; rfl), (hb.old 41 (by decide +kernel)).trans (by rw [hA]; rfl), (hb.old 42 (by decide +kernel)).trans (by rw [hA]; rfl), (hb.old 43 (by decide +kernel)).trans (by rw [hA]; rfl), (hb.old 44 (by decide +kernel)).trans (by rw [hA]; rfl), (hb.old 45 (by decide +kernel)).trans (by rw [hA]; rfl), (hb.old 46 (by decide +kernel)).trans (by rw [hA]; rfl), (hb.old 47 (by decide +kernel)).trans (by rw [hA]; rfl), (hb.old 48 (by decide +kernel)).trans (by rw [hA]; rfl), (hb.old 49 (by decide +kernel)).trans (by rw [hA]; rfl), (hb.old 50 (by decide +kernel)).trans (by rw [hA]; rfl), (hb.old 51 (by decide +kernel)).trans (by rw [hA]; rfl), (hb.old 52 (by decide +kernel)).trans (by rw [hA]; rfl), (hb.old 53 (by decide +kernel)).trans (by rw [hA]; rfl), (hb.old 54 (by decide +kernel)).trans (by rw [hA]; rfl), (hb.old 55 (by decide +kernel)).trans (by rw [hA]; rfl), (hb.old 56 (by decide +kernel)).trans (by rw [hA]; rfl), (hb.old 57 (by decide +kernel)).trans (by rw [hA]; rfl), (hb.old 58 (by decide +kernel)).trans (by rw [hA]; rfl), (hb.old 59 (by decide +kernel)).trans (by rw [hA]; rfl), (hb.old 60 (by decide +kernel)).trans (by rw [hA]; rfl), (hb.old 61 (by decide +kernel)).trans (by rw [hA]; rfl), (hb.old 62 (by decide +kernel)).trans (by rw [hA]; rfl), (hb.old 63 (by decide +kernel)).trans (by rw [hA]; rfl), (hb.old 64 (by decide +kernel)).trans (by rw [hA]; rfl), (hb.old 65 (by decide +kernel)).trans (by rw [hA]; rfl), (hb.old 66 (by decide +kernel)).trans (by rw [hA]; rfl), (hb.old 67 (by decide +kernel)).trans (by rw [hA]; rfl), (hb.old 68 (by decide +kernel)).trans (by rw [hA]; rfl), (hb.old 69 (by decide +kernel)).trans (by rw [hA]; rfl), (hb.old 70 (by decide +kernel)).trans (by rw [hA]; rfl), (hb.old 71 (by decide +kernel)).trans (by rw [hA]; rfl), (hb.old 72 (by decide +kernel)).trans (by rw [hA]; rfl), (hb.old 73 (by decide +kernel)).trans (by rw [hA]; rfl), (hb.old 74 (by decide +kernel)).trans (by rw [hA]; rfl), (hb.old 75 (by decide +kernel)).trans (by rw [hA]; rfl), (hb.old 76 (by decide +kernel)).trans (by rw [hA]; rfl), (hb.old 77 (by decide +kernel)).trans (by rw [hA]; rfl), (hb.old 78 (by decide +kernel)).trans (by rw [hA]; rfl), (hb.old 79 (by decide +kernel)).trans (by rw [hA]; rfl), (hb.old 80 (by decide +kernel)).trans (by rw [hA]; rfl), (hb.old 81 (by decide +kernel)).trans (by rw [hA]; rfl), (hb.old 82 (by decide +kernel)).trans (by rw [hA]; rfl), (hb.old 83 (by decide +kernel)).trans (by rw [hA]; rfl), (hb.old 84 (by decide +kernel)).trans (by rw [hA]; rfl), (hb.old 85 (by decide +kernel)).trans (by rw [hA]; rfl), (hb.old 86 (by decide +kernel)).trans (by rw [hA]; rfl), (hb.old 87 (by decide +kernel)).trans (by rw [hA]; rfl), (hb.old 88 (by decide +kernel)).trans (by rw [hA]; rfl), (hb.old 89 (by decide +kernel)).trans (by rw [hA]; rfl), (hb.old 90 (by decide +kernel)).trans (by rw [hA]; rfl), (hb.old 91 (by decide +kernel)).trans (by rw [hA]; rfl), (hb.old 92 (by decide +kernel)).trans (by rw [hA]; rfl), (hb.old 93 (by decide +kernel)).trans (by rw [hA]; rfl), (hb.old 94 (by decide +kernel)).trans (by rw [hA]; rfl), (hb.old 95 (by decide +kernel)).trans (by rw [hA]; rfl), (hb.old 96 (by decide +kernel)).trans (by rw [hA]; rfl), (hb.old 97 (by decide +kernel)).trans (by rw [hA]; rfl), (hb.old 98 (by decide +kernel)).trans (by rw [hA]; rfl), (hb.old 99 (by decide +kernel)).trans (by rw [hA]; rfl), (hb.old 100 (by decide +kernel)).trans (by rw [hA]; rfl), (hb.old 101 (by decide +kernel)).trans (by rw [hA]; rfl), (hb.old 102 (by decide +kernel)).trans (by rw [hA]; rfl), (hb.old 103 (by decide +kernel)).trans (by rw [hA]; rfl), (hb.old 104 (by decide +kernel)).trans (by rw [hA]; rfl), (hb.old 105 (by decide +kernel)).trans (by rw [hA]; rfl), (hb.old 106 (by decide +kernel)).trans (by rw [hA]; rfl), (hb.old 107 (by decide +kernel)).trans (by rw [hA]; rfl), (hb.old 108 (by decide +kernel)).trans (by rw [hA]; rfl), (hb.old 109 (by decide +kernel)).trans (by rw [hA]; rfl), (hb.old 110 (by decide +kernel)).trans (by rw [hA]; rfl), (hb.old 111 (by decide +kernel)).trans (by rw [hA]; rfl), (hb.old 112 (by decide +kernel)).trans (by rw [hA]; rfl), (hb.old 113 (by decide +kernel)).trans (by rw [hA]; rfl), (hb.old 114 (by decide +kernel)).trans (by rw [hA]; rfl), (hb.old 115 (by decide +kernel)).trans (by rw [hA]; rfl), (hb.old 116 (by decide +kernel)).trans (by rw [hA]; rfl), (hb.old 117 (by decide +kernel)).trans (by rw [hA]; rfl), (hb.old 118 (by decide +kernel)).trans (by rw [hA]; rfl), (hb.old 119 (by decide +kernel)).trans (by rw [hA]; rfl), (hb.old 120 (by decide +kernel)).trans (by rw [hA]; rfl), (hb.old 121 (by decide +kernel)).trans (by rw [hA]; rfl), (hb.old 122 (by decide +kernel)).trans (by rw [hA]; rfl), (hb.old 123 (by decide +kernel)).trans (by rw [hA]; rfl), (hb.old 124 (by decide +kernel)).trans (by rw [hA]; rfl), (hb.old 125 (by decide +kernel)).trans (by rw [hA]; rfl), (hb.old 126 (by decide +kernel)).trans (by rw [hA]; rfl), (hb.old 127 (by decide +kernel)).trans (by rw [hA]; rfl), (hb.old 128 (by decide +kernel)).trans (by rw [hA]; rfl), (hb.old 129 (by decide +kernel)).trans (by rw [hA]; rfl), (hb.old 130 (by decide +kernel)).trans (by rw [hA]; rfl), (hb.old 131 (by decide +kernel)).trans (by rw [hA]; rfl), (hb.old 132 (by decide +kernel)).trans (by rw [hA]; rfl), (hb.old 133 (by decide +kernel)).trans (by rw [hA]; rfl), (hb.old 134 (by decide +kernel)).trans (by rw [hA]; rfl), (hb.old 135 (by decide +kernel)).trans (by rw [hA]; rfl), (hb.old 136 (by decide +kernel)).trans (by rw [hA]; rfl), (hb.old 137 (by decide +kernel)).trans (by rw [hA]; rfl), (hb.old 138 (by decide +kernel)).trans (by rw [hA]; rfl), (hb.old 139 (by decide +kernel)).trans (by rw [hA]; rfl), (hb.old 140 (by decide +kernel)).trans (by rw [hA]; rfl), (hb.old 141 (by decide +kernel)).trans (by rw [hA]; rfl), (hb.old 142 (by decide +kernel)).trans (by rw [hA]; rfl), (hb.old 143 (by decide +kernel)).trans (by rw [hA]; rfl), (hb.old 144 (by decide +kernel)).trans (by rw [hA]; rfl), (hb.old 145 (by decide +kernel)).trans (by rw [hA]; rfl), (hb.old 146 (by decide +kernel)).trans (by rw [hA]; rfl), (hb.old 147 (by decide +kernel)).trans (by rw [hA]; rfl), (hb.old 148 (by decide +kernel)).trans (by rw [hA]; rfl), (hb.old 149 (by decide +kernel)).trans (by rw [hA]; rfl), (hb.old 150 (by decide +kernel)).trans (by rw [hA]; rfl), (hb.old 151 (by decide +kernel)).trans (by rw [hA]; rfl), (hb.old 152 (by decide +kernel)).trans (by rw [hA]; rfl), (hb.old 153 (by decide +kernel)).trans (by rw [hA]; rfl), (hb.old 154 (by decide +kernel)).trans (by rw [hA]; rfl), (hb.old 155 (by decide +kernel)).trans (by rw [hA]; rfl), (hb.old 156 (by decide +kernel)).trans (by rw [hA]; rfl), (hb.old 157 (by decide +kernel)).trans (by rw [hA]; rfl), (hb.old 158 (by decide +kernel)).trans (by rw [hA]; rfl), (hb.old 159 (by decide +kernel)).trans (by rw [hA]; rfl), (hb.old 160 (by decide +kernel)).trans (by rw [hA]; rfl), (hb.old 161 (by decide +kernel)).trans (by rw [hA]; rfl), (hb.old 162 (by decide +kernel)).trans (by rw [hA]; rfl), (hb.old 163 (by decide +kernel)).trans (by rw [hA]; rfl), (hb.old 164 (by decide +kernel)).trans (by rw [hA]; rfl), (hb.old 165 (by decide +kernel)).trans (by rw [hA]; rfl), (hb.old 166 (by decide +kernel)).trans (by rw [hA]; rfl), (hb.old 167 (by decide +kernel)).trans (by rw [hA]; rfl), (hb.old 168 (by decide +kernel)).trans (by rw [hA]; rfl), (hb.old 169 (by decide +kernel)).trans (by rw [hA]; rfl), (hb.old 170 (by decide +kernel)).trans (by rw [hA]; rfl), (hb.old 171 (by decide +kernel)).trans (by rw [hA]; rfl), (hb.old 172 (by decide +kernel)).trans (by rw [hA]; rfl), (hb.old 173 (by decide +kernel)).trans (by rw [hA]; rfl), (hb.old 174 (by decide +kernel)).trans (by rw [hA]; rfl), (hb.old 175 (by decide +kernel)).trans (by rw [hA]; rfl), (hb.old 176 (by decide +kernel)).trans (by rw [hA]; rfl), (hb.old 177 (by decide +kernel)).trans (by rw [hA]; rfl), (hb.old 178 (by decide +kernel)).trans (by rw [hA]; rfl), (hb.old 179 (by decide +kernel)).trans (by rw [hA]; rfl), (hb.old 180 (by decide +kernel)).trans (by rw [hA]; rfl), (hb.old 181 (by decide +kernel)).trans (by rw [hA]; rfl), (hb.old 182 (by decide +kernel)).trans (by rw [hA]; rfl), (hb.old 183 (by decide +kernel)).trans (by rw [hA]; rfl), (hb.old 184 (by decide +kernel)).trans (by rw [hA]; rfl), (hb.old 185 (by decide +kernel)).trans (by rw [hA]; rfl), (hb.old 186 (by decide +kernel)).trans (by rw [hA]; rfl), (hb.old 187 (by decide +kernel)).trans (by rw [hA]; rfl), (hb.old 188 (by decide +kernel)).trans (by rw [hA]; rfl), (hb.old 189 (by decide +kernel)).trans (by rw [hA]; rfl), (hb.old 190 (by decide +kernel)).trans (by rw [hA]; rfl), (hb.old 191 (by decide +kernel)).trans (by rw [hA]; rfl), (hb.old 192 (by decide +kernel)).trans (by rw [hA]; rfl), (hb.old 193 (by decide +kernel)).trans (by rw [hA]; rfl), rfl, rfl, rfl, rfl, rfl, rfl, rfl, rfl, rfl, rfl, rfl, rfl, rfl, rfl, rfl, rfl, rfl, rfl, rfl, rfl, rfl, rfl, rfl, rfl, rfl, rfl, hall 26 (by decide) 220 rfl, (hb.old 221 (by decide +kernel)).trans (by rw [hA]; rfl), (hb.old 222 (by decide +kernel)).trans (by rw [hA]; rfl), (hb.old 223 (by decide +kernel)).trans (by rw [hA]; rfl), (hb.old 224 (by decide +kernel)).trans (by rw [hA]; rfl), (hb.old 225 (by decide +kernel)).trans (by rw [hA]; rfl), (hb.old 226 (by decide +kernel)).trans (by rw [hA]; rfl), (hb.old 227 (by decide +kernel)).trans (by rw [hA]; rfl), (hb.old 228 (by decide +kernel)).trans (by rw [hA]; rfl), (hb.old 229 (by decide +kernel)).trans (by rw [hA]; rfl), (hb.old 230 (by decide +kernel)).trans (by rw [hA]; rfl), (hb.old 231 (by decide +kernel)).trans (by rw [hA]; rfl), (hb.old 232 (by decide +kernel)).trans (by rw [hA]; rfl), (hb.old 233 (by decide +kernel)).trans (by rw [hA]; rfl), (hb.old 234 (by decide +kernel)).trans (by rw [hA]; rfl), (hb.old 235 (by decide +kernel)).trans (by rw [hA]; rfl), (hb.old 236 (by decide +kernel)).trans (by rw [hA]; rfl), (hb.old 237 (by decide +kernel)).trans (by rw [hA]; rfl), (hb.old 238 (by decide +kernel)).trans (by rw [hA]; rfl), (hb.old 239 (by decide +kernel)).trans (by rw [hA]; rfl), (hb.old 240 (by decide +kernel)).trans (by rw [hA]; rfl), (hb.old 241 (by decide +kernel)).trans (by rw [hA]; rfl), (hb.old 242 (by decide +kernel)).trans (by rw [hA]; rfl), trivial⟩
    rw [hfr]
    exact unhide HQ _ _ _ _ _ _ _ _ _ _ _ _ _ _ _ _ _ _ _ _ _ _ _ _ _ _ _ f
end Go.Proofs.Ytckmddkhkdcmmaa
