/-
  GfMatrices: the walk of its law.
-/
import Derived.Test.YtckmddkhkdcmmaaM27
import Derived.Test.YtckmddkhkdcmmaaM30
namespace Go.Proofs.Ytckmddkhkdcmmaa
set_option linter.unusedVariables false
set_option linter.unusedSimpArgs false
open Go.RowKit
set_option linter.unusedVariables false
set_option linter.unusedSimpArgs false

attribute [local go_sem ↓] Go.wp_at_zero Go.wp_at_succ

set_option maxHeartbeats 8000000 in
set_option maxRecDepth 100000 in
theorem gq24 {W : World} {p3 p25 : Nat} {r c R C : Int} {la L : List UInt8} {u0 u1 u2 u4 u5 u6 u7 u8 u9 u11 u12 u13 u14 u15 u16 u17 u18 u19 u20 u21 u22 u23 u24 u26 u27 u28 u29 u30 u31 u32 u33 u34 u35 u36 u37 u38 u39 u40 u41 u42 u43 u44 u45 u46 u47 u48 u49 u50 u51 u52 u53 u54 u55 u56 u57 u58 u59 u60 u61 u62 u63 u64 u65 u66 u67 u68 u69 u70 u71 u72 u73 u74 u75 u76 u77 u78 u79 u80 u81 u82 u83 u84 u85 u86 u87 u88 u89 u90 u91 u92 u93 u94 u95 u96 u97 u98 u99 u100 u101 u102 u103 u104 u105 u106 u107 u108 u109 u110 u111 u112 u113 u114 u115 u116 u117 u118 u119 u120 u121 u122 u123 u124 u125 u126 u127 u128 u129 u130 u131 u132 u133 u134 u135 u136 u137 u138 u139 u140 u141 u142 u143 u144 u145 u146 u147 u148 u149 u150 u151 u152 u153 u154 u155 u156 u157 u158 u159 u160 u161 u162 u163 u164 u165 u166 u167 u168 u169 u170 u171 u172 u173 u174 u175 u176 u177 u178 u179 u180 u181 u182 u183 u184 u185 u186 u187 u188 u189 u190 u191 u192 u193 u194 u195 u196 u197 u198 u199 u200 u201 u202 u203 u204 u205 u206 u207 u208 u209 u210 u211 u212 u213 u214 u215 u216 u217 u218 u219 u220 u221 u222 u223 u224 u225 u226 u227 u228 u229 u230 u231 u232 u233 u234 u235 u236 u237 u238 u239 u240 u241 u242 : Value} {Q : Exit → Act → World → Prop} (m3 : MA W p3 r c la) (m25 : MA W p25 R C L) (hY : (R, C, L) = YX r c la)
    (hQ : ∀ (y194 y195 y196 y197 y198 y199 y200 y201 y202 y203 y204 y205 y206 y207 y208 y209 y210 y211 y212 y213 y214 y215 y216 y217 y218 y219 : Value) (W' : World), Fr (fun _ => False) W W' → Q .normal ⟨#[u0, u1, u2, .pointer (some ⟨p3, 0, none⟩), u4, u5, u6, u7, u8, u9, .int .i64 (chk r c la.length), u11, u12, u13, u14, u15, u16, u17, u18, u19, u20, u21, u22, u23, u24, .pointer (some ⟨p25, 0, none⟩), u26, u27, u28, u29, u30, u31, u32, u33, u34, u35, u36, u37, u38, u39, u40, u41, u42, u43, u44, u45, u46, u47, u48, u49, u50, u51, u52, u53, u54, u55, u56, u57, u58, u59, u60, u61, u62, u63, u64, u65, u66, u67, u68, u69, u70, u71, u72, u73, u74, u75, u76, u77, u78, u79, u80, u81, u82, u83, u84, u85, u86, u87, u88, u89, u90, u91, u92, u93, u94, u95, u96, u97, u98, u99, u100, u101, u102, u103, u104, u105, u106, u107, u108, u109, u110, u111, u112, u113, u114, u115, u116, u117, u118, u119, u120, u121, u122, u123, u124, u125, u126, u127, u128, u129, u130, u131, u132, u133, u134, u135, u136, u137, u138, u139, u140, u141, u142, u143, u144, u145, u146, u147, u148, u149, u150, u151, u152, u153, u154, u155, u156, u157, u158, u159, u160, u161, u162, u163, u164, u165, u166, u167, u168, u169, u170, u171, u172, u173, u174, u175, u176, u177, u178, u179, u180, u181, u182, u183, u184, u185, u186, u187, u188, u189, u190, u191, u192, u193, y194, y195, y196, y197, y198, y199, y200, y201, y202, y203, y204, y205, y206, y207, y208, y209, y210, y211, y212, y213, y214, y215, y216, y217, y218, y219, .bool false, u221, u222, u223, u224, u225, u226, u227, u228, u229, u230, u231, u232, u233, u234, u235, u236, u237, u238, u239, u240, u241, u242], []⟩ W') : Code.wp Try.prog (rg 24) Q ⟨#[u0, u1, u2, .pointer (some ⟨p3, 0, none⟩), u4, u5, u6, u7, u8, u9, .int .i64 (chk r c la.length), u11, u12, u13, u14, u15, u16, u17, u18, u19, u20, u21, u22, u23, u24, .pointer (some ⟨p25, 0, none⟩), u26, u27, u28, u29, u30, u31, u32, u33, u34, u35, u36, u37, u38, u39, u40, u41, u42, u43, u44, u45, u46, u47, u48, u49, u50, u51, u52, u53, u54, u55, u56, u57, u58, u59, u60, u61, u62, u63, u64, u65, u66, u67, u68, u69, u70, u71, u72, u73, u74, u75, u76, u77, u78, u79, u80, u81, u82, u83, u84, u85, u86, u87, u88, u89, u90, u91, u92, u93, u94, u95, u96, u97, u98, u99, u100, u101, u102, u103, u104, u105, u106, u107, u108, u109, u110, u111, u112, u113, u114, u115, u116, u117, u118, u119, u120, u121, u122, u123, u124, u125, u126, u127, u128, u129, u130, u131, u132, u133, u134, u135, u136, u137, u138, u139, u140, u141, u142, u143, u144, u145, u146, u147, u148, u149, u150, u151, u152, u153, u154, u155, u156, u157, u158, u159, u160, u161, u162, u163, u164, u165, u166, u167, u168, u169, u170, u171, u172, u173, u174, u175, u176, u177, u178, u179, u180, u181, u182, u183, u184, u185, u186, u187, u188, u189, u190, u191, u192, u193, u194, u195, u196, u197, u198, u199, u200, u201, u202, u203, u204, u205, u206, u207, u208, u209, u210, u211, u212, u213, u214, u215, u216, u217, u218, u219, u220, u221, u222, u223, u224, u225, u226, u227, u228, u229, u230, u231, u232, u233, u234, u235, u236, u237, u238, u239, u240, u241, u242], []⟩ W := by
  unfold YX at hY
  split at hY
  · rename_i h
    simp at hY
    obtain ⟨rfl, rfl, rfl⟩ := hY
    exact gq24y m3 m25 h hQ
  · rename_i h
    simp at hY
    obtain ⟨rfl, rfl, rfl⟩ := hY
    exact gq24n m3 m25 h hQ
/-- What is carried: the four matrices, both rows. -/
structure MS (w W : World) (p3 p4 p7 p8 : Nat) (r c r2 c2 : Int) (la lb ly : List UInt8) (xs : List Int) (wv yv : Value) : Prop where
  m3 : MA W p3 r c la
  m4 : MA W p4 r2 c2 lb
  m7 : MA W p7 r c la
  m8 : MA W p8 r2 c2 lb
  hx : RdV W wv (ivs xs)
  hy : Rd W yv ly
  fr : Fr (fun _ => False) w W
theorem MS.kept {w W W' : World} {p3 p4 p7 p8 : Nat} {r c r2 c2 : Int} {la lb ly : List UInt8} {xs : List Int} {wv yv : Value} (h : MS w W p3 p4 p7 p8 r c r2 c2 la lb ly xs wv yv) (f : Fr (fun _ => False) W W') : MS w W' p3 p4 p7 p8 r c r2 c2 la lb ly xs wv yv :=
  ⟨h.m3.kept f, h.m4.kept f, h.m7.kept f, h.m8.kept f, h.hx.kept f (fun _ _ h => h), h.hy.kept f (fun _ _ h => h), h.fr.trans f (fun _ _ h => h)⟩
theorem Rd.capl {W : World} {o : Option Addr} {n k : Nat} {l : List UInt8} (h : Rd W (.slice o n k) l) : n ≤ k := by
  rcases h with ⟨e, -⟩ | ⟨ad, cap, e, h1, -⟩
  · simp at e; omega
  · simp at e; omega
theorem two_a (w1 : World) (A B : Array Value) : ((w1.alloc (Obj.cells A 24)).alloc (Obj.cells B 24)).heap[w1.heap.size]? = some (.cells A 24 (0, 0)) ∧ ((w1.alloc (Obj.cells A 24)).alloc (Obj.cells B 24)).heap[w1.heap.size + 1]? = some (.cells B 24 (0, 0)) := two_allocs w1 A B
/-- A wide one, or too many: live. -/
theorem chk_wd {r c : Int} {n : Nat} (h : wdB r c n = false) : n ≤ 4000 := by unfold wdB at h; simp at h; omega
set_option maxHeartbeats 8000000 in
set_option maxRecDepth 100000 in
theorem gm_live1 (w : World) (r c r2 c2 : Int) (ao bo wo yo : Option Addr) (na ca nb cb nw cw ny cy : Nat) (la lb ly : List UInt8) (xs : List Int) (hwa : wdB r c na = true) : Calls Try.prog 3 #[.agg #[.int .i64 r, .int .i64 c, .slice ao na ca, .int .i64 r2, .int .i64 c2, .slice bo nb cb, .slice wo nw cw, .slice yo ny cy]] w fun e w' => e = .returned (.bool true) ∧ Fr (fun _ => False) w w' := by
  go_enter Try.func3, Try.ntmps3
  go_wp2_with fail
  have b0 := heap_alloc_new w (Obj.cells #[.int .i64 r, .int .i64 c, .slice ao na ca, .int .i64 r2, .int .i64 c2, .slice bo nb cb, .slice wo nw cw, .slice yo ny cy] 27)
  have F1 := hide ((Fr.refl (fun _ => False) w).alloc (Obj.cells #[.int .i64 r, .int .i64 c, .slice ao na ca, .int .i64 r2, .int .i64 c2, .slice bo nb cb, .slice wo nw cw, .slice yo ny cy] 27))
  generalize w.alloc (Obj.cells #[.int .i64 r, .int .i64 c, .slice ao na ca, .int .i64 r2, .int .i64 c2, .slice bo nb cb, .slice wo nw cw, .slice yo ny cy] 27) = w1 at *
  have c0 := cell_of_heap b0 0
  have c1 := cell_of_heap b0 1
  have c2' := cell_of_heap b0 2
  have c3 := cell_of_heap b0 3
  have c4 := cell_of_heap b0 4
  have c5 := cell_of_heap b0 5
  have c6 := cell_of_heap b0 6
  have c7 := cell_of_heap b0 7
  simp at c0 c1 c2' c3 c4 c5 c6 c7
  have hlt := lt_of_heap b0
  clear b0
  generalize w.heap.size = p0 at *
  refine wp_via (fun a W => ∃ p3 p4 u27 u28 u29 u30 u31 u32 u33 u34, W.heap[p3]? = some (.cells #[.int .i64 r, .int .i64 c, .slice ao na ca] 24 (0, 0)) ∧ W.heap[p4]? = some (.cells #[.int .i64 r2, .int .i64 c2, .slice bo nb cb] 24 (0, 0)) ∧ Fr (fun _ => False) w W ∧ a = { tmps := #[.agg #[.int .i64 r, .int .i64 c, .slice ao na ca, .int .i64 r2, .int .i64 c2, .slice bo nb cb, .slice wo nw cw, .slice yo ny cy], .pointer (some ⟨p0, 0, none⟩), .bool false, .pointer (some ⟨p3, 0, none⟩), .pointer (some ⟨p4, 0, none⟩), .slice wo nw cw, .slice yo ny cy, undef, undef, undef, undef, undef, undef, undef, undef, undef, undef, undef, undef, undef, undef, undef, undef, undef, undef, undef, undef, u27, u28, u29, u30, u31, u32, u33, u34, undef, undef, undef, undef, undef, undef, undef, undef, undef, undef, undef, undef, undef, undef, undef, undef, undef, undef, undef, undef, undef, undef, undef, undef, undef, undef, undef, undef, undef, undef, undef, undef, undef, undef, undef, undef, undef, undef, undef, undef, undef, undef, undef, undef, undef, undef, undef, undef, undef, undef, undef, undef, undef, undef, undef, undef, undef, undef, undef, undef, undef, undef, undef, undef, undef, undef, undef, undef, undef, undef, undef, undef, undef, undef, undef, undef, undef, undef, undef, undef, undef, undef, undef, undef, undef, undef, undef, undef, undef, undef, undef, undef, undef, undef, undef, undef, undef, undef, undef, undef, undef, undef, undef, undef, undef, undef, undef, undef, undef, undef, undef, undef, undef, undef, undef, undef, undef, undef, undef, undef, undef, undef, undef, undef, undef, undef, undef, undef, undef, undef, undef, undef, undef, undef, undef, undef, undef, undef, undef, undef, undef, undef, undef, undef, undef, undef, undef, undef, undef, undef, undef, undef, undef, undef, undef, undef, undef, undef, undef, undef, undef, undef, undef, undef, undef, undef, undef, undef, undef, undef, undef, undef, undef, undef, undef, undef, undef, undef, undef, undef, undef, undef, undef, undef, undef, undef, undef, undef, undef, undef, undef, undef, undef, undef, undef, undef, undef, undef, undef, undef, undef, undef, undef, undef, undef, undef, undef, undef], defers := [] }) ?_ ?_
  · go_region_held3 (fun W => W.cell? ⟨p0, 0, none⟩ = some (.int .i64 r) ∧ W.cell? ⟨p0, 1, none⟩ = some (.int .i64 c) ∧ W.cell? ⟨p0, 2, none⟩ = some (.slice ao na ca) ∧ W.cell? ⟨p0, 3, none⟩ = some (.int .i64 r2) ∧ W.cell? ⟨p0, 4, none⟩ = some (.int .i64 c2) ∧ W.cell? ⟨p0, 5, none⟩ = some (.slice bo nb cb) ∧ W.cell? ⟨p0, 6, none⟩ = some (.slice wo nw cw) ∧ W.cell? ⟨p0, 7, none⟩ = some (.slice yo ny cy)) (go_keep) (fail)
    all_goals
      clear c0 c1 c2' c3 c4 c5 c6 c7
      refine ⟨_, _, _, _, _, _, _, _, _, _, by first | exact (two_a _ _ _).1 | exact (two_a _ _ _).2, by first | exact (two_a _ _ _).1 | exact (two_a _ _ _).2, (((unhide F1).alloc _).alloc _).drew, rfl⟩
  intro a w2 hK
  obtain ⟨p3, p4, u27, u28, u29, u30, u31, u32, u33, u34, h3, h4, f2, rfl⟩ := hK
  clear c0 c1 c2' c3 c4 c5 c6 c7 hlt F1
  dsimp only
  have g3 : Hd w2 p3 r c (.slice ao na ca) := h3
  have g4 : Hd w2 p4 r2 c2 (.slice bo nb cb) := h4
  obtain ⟨x0, x1, x2, -⟩ := g3.facts w2 (Fr.refl _ _)
  obtain ⟨z0, z1, z2, -⟩ := g4.facts w2 (Fr.refl _ _)
  have l3 := g3.lt
  have l4 := g4.lt
  have G3 := hide g3
  have G4 := hide g4
  have F2 := hide f2
  clear h3 h4 f2 g3 g4
  go_wp2_with fail
  refine mono_ext (wide_any _ _ _ _ _ _) ?_
  rintro e Ehwa rfl Lhwa
  rw [hwa]
  go_wp2_with fail
  refine mono_ext (live_any _) ?_
  rintro e E9 rfl L9
  go_wp2_with fail
  go_ret
  exact ⟨rfl, by repeat first | exact (unhide F2) | (refine Fr.ext ?_ ?_; rotate_left; assumption)⟩
set_option maxHeartbeats 8000000 in
set_option maxRecDepth 100000 in
theorem gm_live2 (w : World) (r c r2 c2 : Int) (ao bo wo yo : Option Addr) (na ca nb cb nw cw ny cy : Nat) (la lb ly : List UInt8) (xs : List Int) (hwa : wdB r c na = false) (hwb : wdB r2 c2 nb = true) : Calls Try.prog 3 #[.agg #[.int .i64 r, .int .i64 c, .slice ao na ca, .int .i64 r2, .int .i64 c2, .slice bo nb cb, .slice wo nw cw, .slice yo ny cy]] w fun e w' => e = .returned (.bool true) ∧ Fr (fun _ => False) w w' := by
  go_enter Try.func3, Try.ntmps3
  go_wp2_with fail
  have b0 := heap_alloc_new w (Obj.cells #[.int .i64 r, .int .i64 c, .slice ao na ca, .int .i64 r2, .int .i64 c2, .slice bo nb cb, .slice wo nw cw, .slice yo ny cy] 27)
  have F1 := hide ((Fr.refl (fun _ => False) w).alloc (Obj.cells #[.int .i64 r, .int .i64 c, .slice ao na ca, .int .i64 r2, .int .i64 c2, .slice bo nb cb, .slice wo nw cw, .slice yo ny cy] 27))
  generalize w.alloc (Obj.cells #[.int .i64 r, .int .i64 c, .slice ao na ca, .int .i64 r2, .int .i64 c2, .slice bo nb cb, .slice wo nw cw, .slice yo ny cy] 27) = w1 at *
  have c0 := cell_of_heap b0 0
  have c1 := cell_of_heap b0 1
  have c2' := cell_of_heap b0 2
  have c3 := cell_of_heap b0 3
  have c4 := cell_of_heap b0 4
  have c5 := cell_of_heap b0 5
  have c6 := cell_of_heap b0 6
  have c7 := cell_of_heap b0 7
  simp at c0 c1 c2' c3 c4 c5 c6 c7
  have hlt := lt_of_heap b0
  clear b0
  generalize w.heap.size = p0 at *
  refine wp_via (fun a W => ∃ p3 p4 u27 u28 u29 u30 u31 u32 u33 u34, W.heap[p3]? = some (.cells #[.int .i64 r, .int .i64 c, .slice ao na ca] 24 (0, 0)) ∧ W.heap[p4]? = some (.cells #[.int .i64 r2, .int .i64 c2, .slice bo nb cb] 24 (0, 0)) ∧ Fr (fun _ => False) w W ∧ a = { tmps := #[.agg #[.int .i64 r, .int .i64 c, .slice ao na ca, .int .i64 r2, .int .i64 c2, .slice bo nb cb, .slice wo nw cw, .slice yo ny cy], .pointer (some ⟨p0, 0, none⟩), .bool false, .pointer (some ⟨p3, 0, none⟩), .pointer (some ⟨p4, 0, none⟩), .slice wo nw cw, .slice yo ny cy, undef, undef, undef, undef, undef, undef, undef, undef, undef, undef, undef, undef, undef, undef, undef, undef, undef, undef, undef, undef, u27, u28, u29, u30, u31, u32, u33, u34, undef, undef, undef, undef, undef, undef, undef, undef, undef, undef, undef, undef, undef, undef, undef, undef, undef, undef, undef, undef, undef, undef, undef, undef, undef, undef, undef, undef, undef, undef, undef, undef, undef, undef, undef, undef, undef, undef, undef, undef, undef, undef, undef, undef, undef, undef, undef, undef, undef, undef, undef, undef, undef, undef, undef, undef, undef, undef, undef, undef, undef, undef, undef, undef, undef, undef, undef, undef, undef, undef, undef, undef, undef, undef, undef, undef, undef, undef, undef, undef, undef, undef, undef, undef, undef, undef, undef, undef, undef, undef, undef, undef, undef, undef, undef, undef, undef, undef, undef, undef, undef, undef, undef, undef, undef, undef, undef, undef, undef, undef, undef, undef, undef, undef, undef, undef, undef, undef, undef, undef, undef, undef, undef, undef, undef, undef, undef, undef, undef, undef, undef, undef, undef, undef, undef, undef, undef, undef, undef, undef, undef, undef, undef, undef, undef, undef, undef, undef, undef, undef, undef, undef, undef, undef, undef, undef, undef, undef, undef, undef, undef, undef, undef, undef, undef, undef, undef, undef, undef, undef, undef, undef, undef, undef, undef, undef, undef, undef, undef, undef, undef, undef, undef, undef, undef, undef, undef, undef, undef, undef, undef, undef, undef, undef, undef, undef, undef, undef, undef, undef, undef, undef, undef, undef, undef, undef, undef, undef], defers := [] }) ?_ ?_
  · go_region_held3 (fun W => W.cell? ⟨p0, 0, none⟩ = some (.int .i64 r) ∧ W.cell? ⟨p0, 1, none⟩ = some (.int .i64 c) ∧ W.cell? ⟨p0, 2, none⟩ = some (.slice ao na ca) ∧ W.cell? ⟨p0, 3, none⟩ = some (.int .i64 r2) ∧ W.cell? ⟨p0, 4, none⟩ = some (.int .i64 c2) ∧ W.cell? ⟨p0, 5, none⟩ = some (.slice bo nb cb) ∧ W.cell? ⟨p0, 6, none⟩ = some (.slice wo nw cw) ∧ W.cell? ⟨p0, 7, none⟩ = some (.slice yo ny cy)) (go_keep) (fail)
    all_goals
      clear c0 c1 c2' c3 c4 c5 c6 c7
      refine ⟨_, _, _, _, _, _, _, _, _, _, by first | exact (two_a _ _ _).1 | exact (two_a _ _ _).2, by first | exact (two_a _ _ _).1 | exact (two_a _ _ _).2, (((unhide F1).alloc _).alloc _).drew, rfl⟩
  intro a w2 hK
  obtain ⟨p3, p4, u27, u28, u29, u30, u31, u32, u33, u34, h3, h4, f2, rfl⟩ := hK
  clear c0 c1 c2' c3 c4 c5 c6 c7 hlt F1
  dsimp only
  have g3 : Hd w2 p3 r c (.slice ao na ca) := h3
  have g4 : Hd w2 p4 r2 c2 (.slice bo nb cb) := h4
  obtain ⟨x0, x1, x2, -⟩ := g3.facts w2 (Fr.refl _ _)
  obtain ⟨z0, z1, z2, -⟩ := g4.facts w2 (Fr.refl _ _)
  have l3 := g3.lt
  have l4 := g4.lt
  have G3 := hide g3
  have G4 := hide g4
  have F2 := hide f2
  clear h3 h4 f2 g3 g4
  go_wp2_with fail
  refine mono_ext (wide_any _ _ _ _ _ _) ?_
  rintro e Ehwa rfl Lhwa
  rw [hwa]
  go_wp2_with fail
  refine mono_ext (wide_any _ _ _ _ _ _) ?_
  rintro e Ehwb rfl Lhwb
  rw [hwb]
  go_wp2_with fail
  refine mono_ext (live_any _) ?_
  rintro e E9 rfl L9
  go_wp2_with fail
  go_ret
  exact ⟨rfl, by repeat first | exact (unhide F2) | (refine Fr.ext ?_ ?_; rotate_left; assumption)⟩
set_option maxHeartbeats 8000000 in
set_option maxRecDepth 100000 in
theorem gm_live3 (w : World) (r c r2 c2 : Int) (ao bo wo yo : Option Addr) (na ca nb cb nw cw ny cy : Nat) (la lb ly : List UInt8) (xs : List Int) (hwa : wdB r c na = false) (hwb : wdB r2 c2 nb = false) (hw1 : (100 : Int) < ((nw : Nat) : Int)) : Calls Try.prog 3 #[.agg #[.int .i64 r, .int .i64 c, .slice ao na ca, .int .i64 r2, .int .i64 c2, .slice bo nb cb, .slice wo nw cw, .slice yo ny cy]] w fun e w' => e = .returned (.bool true) ∧ Fr (fun _ => False) w w' := by
  go_enter Try.func3, Try.ntmps3
  go_wp2_with fail
  have b0 := heap_alloc_new w (Obj.cells #[.int .i64 r, .int .i64 c, .slice ao na ca, .int .i64 r2, .int .i64 c2, .slice bo nb cb, .slice wo nw cw, .slice yo ny cy] 27)
  have F1 := hide ((Fr.refl (fun _ => False) w).alloc (Obj.cells #[.int .i64 r, .int .i64 c, .slice ao na ca, .int .i64 r2, .int .i64 c2, .slice bo nb cb, .slice wo nw cw, .slice yo ny cy] 27))
  generalize w.alloc (Obj.cells #[.int .i64 r, .int .i64 c, .slice ao na ca, .int .i64 r2, .int .i64 c2, .slice bo nb cb, .slice wo nw cw, .slice yo ny cy] 27) = w1 at *
  have c0 := cell_of_heap b0 0
  have c1 := cell_of_heap b0 1
  have c2' := cell_of_heap b0 2
  have c3 := cell_of_heap b0 3
  have c4 := cell_of_heap b0 4
  have c5 := cell_of_heap b0 5
  have c6 := cell_of_heap b0 6
  have c7 := cell_of_heap b0 7
  simp at c0 c1 c2' c3 c4 c5 c6 c7
  have hlt := lt_of_heap b0
  clear b0
  generalize w.heap.size = p0 at *
  refine wp_via (fun a W => ∃ p3 p4 u27 u28 u29 u30 u31 u32 u33 u34, W.heap[p3]? = some (.cells #[.int .i64 r, .int .i64 c, .slice ao na ca] 24 (0, 0)) ∧ W.heap[p4]? = some (.cells #[.int .i64 r2, .int .i64 c2, .slice bo nb cb] 24 (0, 0)) ∧ Fr (fun _ => False) w W ∧ a = { tmps := #[.agg #[.int .i64 r, .int .i64 c, .slice ao na ca, .int .i64 r2, .int .i64 c2, .slice bo nb cb, .slice wo nw cw, .slice yo ny cy], .pointer (some ⟨p0, 0, none⟩), .bool false, .pointer (some ⟨p3, 0, none⟩), .pointer (some ⟨p4, 0, none⟩), .slice wo nw cw, .slice yo ny cy, undef, undef, undef, undef, undef, undef, undef, undef, undef, undef, undef, undef, undef, undef, undef, undef, undef, undef, undef, undef, u27, u28, u29, u30, u31, u32, u33, u34, undef, undef, undef, undef, undef, undef, undef, undef, undef, undef, undef, undef, undef, undef, undef, undef, undef, undef, undef, undef, undef, undef, undef, undef, undef, undef, undef, undef, undef, undef, undef, undef, undef, undef, undef, undef, undef, undef, undef, undef, undef, undef, undef, undef, undef, undef, undef, undef, undef, undef, undef, undef, undef, undef, undef, undef, undef, undef, undef, undef, undef, undef, undef, undef, undef, undef, undef, undef, undef, undef, undef, undef, undef, undef, undef, undef, undef, undef, undef, undef, undef, undef, undef, undef, undef, undef, undef, undef, undef, undef, undef, undef, undef, undef, undef, undef, undef, undef, undef, undef, undef, undef, undef, undef, undef, undef, undef, undef, undef, undef, undef, undef, undef, undef, undef, undef, undef, undef, undef, undef, undef, undef, undef, undef, undef, undef, undef, undef, undef, undef, undef, undef, undef, undef, undef, undef, undef, undef, undef, undef, undef, undef, undef, undef, undef, undef, undef, undef, undef, undef, undef, undef, undef, undef, undef, undef, undef, undef, undef, undef, undef, undef, undef, undef, undef, undef, undef, undef, undef, undef, undef, undef, undef, undef, undef, undef, undef, undef, undef, undef, undef, undef, undef, undef, undef, undef, undef, undef, undef, undef, undef, undef, undef, undef, undef, undef, undef, undef, undef, undef, undef, undef, undef, undef, undef, undef, undef, undef], defers := [] }) ?_ ?_
  · go_region_held3 (fun W => W.cell? ⟨p0, 0, none⟩ = some (.int .i64 r) ∧ W.cell? ⟨p0, 1, none⟩ = some (.int .i64 c) ∧ W.cell? ⟨p0, 2, none⟩ = some (.slice ao na ca) ∧ W.cell? ⟨p0, 3, none⟩ = some (.int .i64 r2) ∧ W.cell? ⟨p0, 4, none⟩ = some (.int .i64 c2) ∧ W.cell? ⟨p0, 5, none⟩ = some (.slice bo nb cb) ∧ W.cell? ⟨p0, 6, none⟩ = some (.slice wo nw cw) ∧ W.cell? ⟨p0, 7, none⟩ = some (.slice yo ny cy)) (go_keep) (fail)
    all_goals
      clear c0 c1 c2' c3 c4 c5 c6 c7
      refine ⟨_, _, _, _, _, _, _, _, _, _, by first | exact (two_a _ _ _).1 | exact (two_a _ _ _).2, by first | exact (two_a _ _ _).1 | exact (two_a _ _ _).2, (((unhide F1).alloc _).alloc _).drew, rfl⟩
  intro a w2 hK
  obtain ⟨p3, p4, u27, u28, u29, u30, u31, u32, u33, u34, h3, h4, f2, rfl⟩ := hK
  clear c0 c1 c2' c3 c4 c5 c6 c7 hlt F1
  dsimp only
  have g3 : Hd w2 p3 r c (.slice ao na ca) := h3
  have g4 : Hd w2 p4 r2 c2 (.slice bo nb cb) := h4
  obtain ⟨x0, x1, x2, -⟩ := g3.facts w2 (Fr.refl _ _)
  obtain ⟨z0, z1, z2, -⟩ := g4.facts w2 (Fr.refl _ _)
  have l3 := g3.lt
  have l4 := g4.lt
  have G3 := hide g3
  have G4 := hide g4
  have F2 := hide f2
  clear h3 h4 f2 g3 g4
  go_wp2_with fail
  refine mono_ext (wide_any _ _ _ _ _ _) ?_
  rintro e Ehwa rfl Lhwa
  rw [hwa]
  go_wp2_with fail
  refine mono_ext (wide_any _ _ _ _ _ _) ?_
  rintro e Ehwb rfl Lhwb
  rw [hwb]
  go_wp2_with fail
  refine mono_ext (live_any _) ?_
  rintro e E9 rfl L9
  go_wp2_with fail
  go_ret
  exact ⟨rfl, by repeat first | exact (unhide F2) | (refine Fr.ext ?_ ?_; rotate_left; assumption)⟩
set_option maxHeartbeats 8000000 in
set_option maxRecDepth 100000 in
theorem gm_live4 (w : World) (r c r2 c2 : Int) (ao bo wo yo : Option Addr) (na ca nb cb nw cw ny cy : Nat) (la lb ly : List UInt8) (xs : List Int) (hwa : wdB r c na = false) (hwb : wdB r2 c2 nb = false) (hw1 : ¬ (100 : Int) < ((nw : Nat) : Int)) (hy1 : (4000 : Int) < ((ny : Nat) : Int)) : Calls Try.prog 3 #[.agg #[.int .i64 r, .int .i64 c, .slice ao na ca, .int .i64 r2, .int .i64 c2, .slice bo nb cb, .slice wo nw cw, .slice yo ny cy]] w fun e w' => e = .returned (.bool true) ∧ Fr (fun _ => False) w w' := by
  go_enter Try.func3, Try.ntmps3
  go_wp2_with fail
  have b0 := heap_alloc_new w (Obj.cells #[.int .i64 r, .int .i64 c, .slice ao na ca, .int .i64 r2, .int .i64 c2, .slice bo nb cb, .slice wo nw cw, .slice yo ny cy] 27)
  have F1 := hide ((Fr.refl (fun _ => False) w).alloc (Obj.cells #[.int .i64 r, .int .i64 c, .slice ao na ca, .int .i64 r2, .int .i64 c2, .slice bo nb cb, .slice wo nw cw, .slice yo ny cy] 27))
  generalize w.alloc (Obj.cells #[.int .i64 r, .int .i64 c, .slice ao na ca, .int .i64 r2, .int .i64 c2, .slice bo nb cb, .slice wo nw cw, .slice yo ny cy] 27) = w1 at *
  have c0 := cell_of_heap b0 0
  have c1 := cell_of_heap b0 1
  have c2' := cell_of_heap b0 2
  have c3 := cell_of_heap b0 3
  have c4 := cell_of_heap b0 4
  have c5 := cell_of_heap b0 5
  have c6 := cell_of_heap b0 6
  have c7 := cell_of_heap b0 7
  simp at c0 c1 c2' c3 c4 c5 c6 c7
  have hlt := lt_of_heap b0
  clear b0
  generalize w.heap.size = p0 at *
  refine wp_via (fun a W => ∃ p3 p4 u27 u28 u29 u30 u31 u32 u33 u34, W.heap[p3]? = some (.cells #[.int .i64 r, .int .i64 c, .slice ao na ca] 24 (0, 0)) ∧ W.heap[p4]? = some (.cells #[.int .i64 r2, .int .i64 c2, .slice bo nb cb] 24 (0, 0)) ∧ Fr (fun _ => False) w W ∧ a = { tmps := #[.agg #[.int .i64 r, .int .i64 c, .slice ao na ca, .int .i64 r2, .int .i64 c2, .slice bo nb cb, .slice wo nw cw, .slice yo ny cy], .pointer (some ⟨p0, 0, none⟩), .bool false, .pointer (some ⟨p3, 0, none⟩), .pointer (some ⟨p4, 0, none⟩), .slice wo nw cw, .slice yo ny cy, undef, undef, undef, undef, undef, undef, undef, undef, undef, undef, undef, undef, undef, undef, undef, undef, undef, undef, undef, undef, u27, u28, u29, u30, u31, u32, u33, u34, undef, undef, undef, undef, undef, undef, undef, undef, undef, undef, undef, undef, undef, undef, undef, undef, undef, undef, undef, undef, undef, undef, undef, undef, undef, undef, undef, undef, undef, undef, undef, undef, undef, undef, undef, undef, undef, undef, undef, undef, undef, undef, undef, undef, undef, undef, undef, undef, undef, undef, undef, undef, undef, undef, undef, undef, undef, undef, undef, undef, undef, undef, undef, undef, undef, undef, undef, undef, undef, undef, undef, undef, undef, undef, undef, undef, undef, undef, undef, undef, undef, undef, undef, undef, undef, undef, undef, undef, undef, undef, undef, undef, undef, undef, undef, undef, undef, undef, undef, undef, undef, undef, undef, undef, undef, undef, undef, undef, undef, undef, undef, undef, undef, undef, undef, undef, undef, undef, undef, undef, undef, undef, undef, undef, undef, undef, undef, undef, undef, undef, undef, undef, undef, undef, undef, undef, undef, undef, undef, undef, undef, undef, undef, undef, undef, undef, undef, undef, undef, undef, undef, undef, undef, undef, undef, undef, undef, undef, undef, undef, undef, undef, undef, undef, undef, undef, undef, undef, undef, undef, undef, undef, undef, undef, undef, undef, undef, undef, undef, undef, undef, undef, undef, undef, undef, undef, undef, undef, undef, undef, undef, undef, undef, undef, undef, undef, undef, undef, undef, undef, undef, undef, undef, undef, undef, undef, undef, undef], defers := [] }) ?_ ?_
  · go_region_held3 (fun W => W.cell? ⟨p0, 0, none⟩ = some (.int .i64 r) ∧ W.cell? ⟨p0, 1, none⟩ = some (.int .i64 c) ∧ W.cell? ⟨p0, 2, none⟩ = some (.slice ao na ca) ∧ W.cell? ⟨p0, 3, none⟩ = some (.int .i64 r2) ∧ W.cell? ⟨p0, 4, none⟩ = some (.int .i64 c2) ∧ W.cell? ⟨p0, 5, none⟩ = some (.slice bo nb cb) ∧ W.cell? ⟨p0, 6, none⟩ = some (.slice wo nw cw) ∧ W.cell? ⟨p0, 7, none⟩ = some (.slice yo ny cy)) (go_keep) (fail)
    all_goals
      clear c0 c1 c2' c3 c4 c5 c6 c7
      refine ⟨_, _, _, _, _, _, _, _, _, _, by first | exact (two_a _ _ _).1 | exact (two_a _ _ _).2, by first | exact (two_a _ _ _).1 | exact (two_a _ _ _).2, (((unhide F1).alloc _).alloc _).drew, rfl⟩
  intro a w2 hK
  obtain ⟨p3, p4, u27, u28, u29, u30, u31, u32, u33, u34, h3, h4, f2, rfl⟩ := hK
  clear c0 c1 c2' c3 c4 c5 c6 c7 hlt F1
  dsimp only
  have g3 : Hd w2 p3 r c (.slice ao na ca) := h3
  have g4 : Hd w2 p4 r2 c2 (.slice bo nb cb) := h4
  obtain ⟨x0, x1, x2, -⟩ := g3.facts w2 (Fr.refl _ _)
  obtain ⟨z0, z1, z2, -⟩ := g4.facts w2 (Fr.refl _ _)
  have l3 := g3.lt
  have l4 := g4.lt
  have G3 := hide g3
  have G4 := hide g4
  have F2 := hide f2
  clear h3 h4 f2 g3 g4
  go_wp2_with fail
  refine mono_ext (wide_any _ _ _ _ _ _) ?_
  rintro e Ehwa rfl Lhwa
  rw [hwa]
  go_wp2_with fail
  refine mono_ext (wide_any _ _ _ _ _ _) ?_
  rintro e Ehwb rfl Lhwb
  rw [hwb]
  go_wp2_with fail
  refine mono_ext (live_any _) ?_
  rintro e E9 rfl L9
  go_wp2_with fail
  go_ret
  exact ⟨rfl, by repeat first | exact (unhide F2) | (refine Fr.ext ?_ ?_; rotate_left; assumption)⟩
set_option maxHeartbeats 16000000 in
set_option maxRecDepth 100000 in
theorem gm_ok (w : World) (r c r2 c2 : Int) (ao bo wo yo : Option Addr) (na ca nb cb nw cw ny cy : Nat) (la lb ly : List UInt8) (xs : List Int)
    (ha : Rd w (.slice ao na ca) la) (hb : Rd w (.slice bo nb cb) lb) (hw : RdV w (.slice wo nw cw) (ivs xs)) (hy : Rd w (.slice yo ny cy) ly) (hna : na = la.length) (hnb : nb = lb.length) (hnw : nw = xs.length) (hny : ny = ly.length)
    (hwa : wdB r c na = false) (hwb : wdB r2 c2 nb = false) (hw1 : ¬ (100 : Int) < ((nw : Nat) : Int)) (hy1 : ¬ (4000 : Int) < ((ny : Nat) : Int)) :
    Calls Try.prog 3 #[.agg #[.int .i64 r, .int .i64 c, .slice ao na ca, .int .i64 r2, .int .i64 c2, .slice bo nb cb, .slice wo nw cw, .slice yo ny cy]] w fun e w' => e = .returned (.bool true) ∧ Fr (fun _ => False) w w' := by
  have hna1 : la.length ≤ 4000 := hna ▸ chk_wd hwa
  have hnb1 : lb.length ≤ 4000 := hnb ▸ chk_wd hwb
  have hnw1 : xs.length ≤ 100 := by omega
  have hny1 : ly.length ≤ 4000 := by omega
  have HA := hide ha
  have HB := hide hb
  have HW := hide hw
  have HY := hide hy
  have HNA := hide hna
  have HNB := hide hnb
  have HL := hide (And.intro (And.intro hna1 hnb1) (And.intro hnw1 hny1))
  clear ha hb hw hy hna hnb hnw hny hna1 hnb1 hnw1 hny1
  go_enter Try.func3, Try.ntmps3
  go_wp2_with fail
  have b0 := heap_alloc_new w (Obj.cells #[.int .i64 r, .int .i64 c, .slice ao na ca, .int .i64 r2, .int .i64 c2, .slice bo nb cb, .slice wo nw cw, .slice yo ny cy] 27)
  have F1 := hide ((Fr.refl (fun _ => False) w).alloc (Obj.cells #[.int .i64 r, .int .i64 c, .slice ao na ca, .int .i64 r2, .int .i64 c2, .slice bo nb cb, .slice wo nw cw, .slice yo ny cy] 27))
  generalize w.alloc (Obj.cells #[.int .i64 r, .int .i64 c, .slice ao na ca, .int .i64 r2, .int .i64 c2, .slice bo nb cb, .slice wo nw cw, .slice yo ny cy] 27) = w1 at *
  have c0 := cell_of_heap b0 0
  have c1 := cell_of_heap b0 1
  have c2' := cell_of_heap b0 2
  have c3 := cell_of_heap b0 3
  have c4 := cell_of_heap b0 4
  have c5 := cell_of_heap b0 5
  have c6 := cell_of_heap b0 6
  have c7 := cell_of_heap b0 7
  simp at c0 c1 c2' c3 c4 c5 c6 c7
  have hlt := lt_of_heap b0
  clear b0
  generalize w.heap.size = p0 at *
  refine wp_via (fun a W => ∃ p3 p4 u27 u28 u29 u30 u31 u32 u33 u34, W.heap[p3]? = some (.cells #[.int .i64 r, .int .i64 c, .slice ao na ca] 24 (0, 0)) ∧ W.heap[p4]? = some (.cells #[.int .i64 r2, .int .i64 c2, .slice bo nb cb] 24 (0, 0)) ∧ Fr (fun _ => False) w W ∧ a = { tmps := #[.agg #[.int .i64 r, .int .i64 c, .slice ao na ca, .int .i64 r2, .int .i64 c2, .slice bo nb cb, .slice wo nw cw, .slice yo ny cy], .pointer (some ⟨p0, 0, none⟩), .bool false, .pointer (some ⟨p3, 0, none⟩), .pointer (some ⟨p4, 0, none⟩), .slice wo nw cw, .slice yo ny cy, undef, undef, undef, undef, undef, undef, undef, undef, undef, undef, undef, undef, undef, undef, undef, undef, undef, undef, undef, undef, u27, u28, u29, u30, u31, u32, u33, u34, undef, undef, undef, undef, undef, undef, undef, undef, undef, undef, undef, undef, undef, undef, undef, undef, undef, undef, undef, undef, undef, undef, undef, undef, undef, undef, undef, undef, undef, undef, undef, undef, undef, undef, undef, undef, undef, undef, undef, undef, undef, undef, undef, undef, undef, undef, undef, undef, undef, undef, undef, undef, undef, undef, undef, undef, undef, undef, undef, undef, undef, undef, undef, undef, undef, undef, undef, undef, undef, undef, undef, undef, undef, undef, undef, undef, undef, undef, undef, undef, undef, undef, undef, undef, undef, undef, undef, undef, undef, undef, undef, undef, undef, undef, undef, undef, undef, undef, undef, undef, undef, undef, undef, undef, undef, undef, undef, undef, undef, undef, undef, undef, undef, undef, undef, undef, undef, undef, undef, undef, undef, undef, undef, undef, undef, undef, undef, undef, undef, undef, undef, undef, undef, undef, undef, undef, undef, undef, undef, undef, undef, undef, undef, undef, undef, undef, undef, undef, undef, undef, undef, undef, undef, undef, undef, undef, undef, undef, undef, undef, undef, undef, undef, undef, undef, undef, undef, undef, undef, undef, undef, undef, undef, undef, undef, undef, undef, undef, undef, undef, undef, undef, undef, undef, undef, undef, undef, undef, undef, undef, undef, undef, undef, undef, undef, undef, undef, undef, undef, undef, undef, undef, undef, undef, undef, undef, undef, undef], defers := [] }) ?_ ?_
  · go_region_held3 (fun W => W.cell? ⟨p0, 0, none⟩ = some (.int .i64 r) ∧ W.cell? ⟨p0, 1, none⟩ = some (.int .i64 c) ∧ W.cell? ⟨p0, 2, none⟩ = some (.slice ao na ca) ∧ W.cell? ⟨p0, 3, none⟩ = some (.int .i64 r2) ∧ W.cell? ⟨p0, 4, none⟩ = some (.int .i64 c2) ∧ W.cell? ⟨p0, 5, none⟩ = some (.slice bo nb cb) ∧ W.cell? ⟨p0, 6, none⟩ = some (.slice wo nw cw) ∧ W.cell? ⟨p0, 7, none⟩ = some (.slice yo ny cy)) (go_keep) (fail)
    all_goals
      clear c0 c1 c2' c3 c4 c5 c6 c7
      refine ⟨_, _, _, _, _, _, _, _, _, _, by first | exact (two_a _ _ _).1 | exact (two_a _ _ _).2, by first | exact (two_a _ _ _).1 | exact (two_a _ _ _).2, (((unhide F1).alloc _).alloc _).drew, rfl⟩
  intro a w2 hK
  obtain ⟨p3, p4, u27, u28, u29, u30, u31, u32, u33, u34, h3, h4, f2, rfl⟩ := hK
  clear c0 c1 c2' c3 c4 c5 c6 c7 hlt F1
  dsimp only
  have g3 : Hd w2 p3 r c (.slice ao na ca) := h3
  have g4 : Hd w2 p4 r2 c2 (.slice bo nb cb) := h4
  obtain ⟨x0, x1, x2, -⟩ := g3.facts w2 (Fr.refl _ _)
  obtain ⟨z0, z1, z2, -⟩ := g4.facts w2 (Fr.refl _ _)
  have l3 := g3.lt
  have l4 := g4.lt
  have G3 := hide g3
  have G4 := hide g4
  have F2 := hide f2
  clear h3 h4 f2 g3 g4
  go_wp2_with fail
  refine mono_ext (wide_any _ _ _ _ _ _) ?_
  rintro e E1 rfl L1
  rw [hwa]
  go_wp2_with fail
  refine mono_ext (wide_any _ _ _ _ _ _) ?_
  rintro e E2 rfl L2
  rw [hwb]
  go_wp2_with fail
  refine wp_nameW' ?_
  intro w3 hw3
  have f23 : Fr (fun _ => False) w2 w3 := by rw [hw3]; first | exact (((Fr.refl _ _).ext L1).ext L2) | exact (Fr.refl _ _).ext (L1.ext L2)
  have F3 := (unhide F2).trans f23 (fun _ _ h => h)
  have m3 : MA w3 p3 r c la := ⟨ao, ca, by rw [← unhide HNA]; exact (unhide G3).kept f23 id, by rw [← unhide HNA]; exact (unhide HA).kept F3 (fun _ _ h => h)⟩
  have m4 : MA w3 p4 r2 c2 lb := ⟨bo, cb, by rw [← unhide HNB]; exact (unhide G4).kept f23 id, by rw [← unhide HNB]; exact (unhide HB).kept F3 (fun _ _ h => h)⟩
  have hx3 := (unhide HW).kept F3 (fun _ _ h => h)
  have hy3 := (unhide HY).kept F3 (fun _ _ h => h)
  have HM := hide (And.intro (And.intro m3 m4) (And.intro hx3 hy3))
  have HF3 := hide F3
  clear hw3 f23 F3 m3 m4 hx3 hy3 G3 G4 F2 L1 L2 x0 x1 x2 z0 z1 z2 l3 l4 HA HB HW HY HNA HNB
  obtain ⟨⟨R1, C1, D1, E1'⟩, hX1⟩ : ∃ X, X = PX r c la r2 c2 lb := ⟨_, rfl⟩
  obtain ⟨⟨R2, C2, D2, E2'⟩, hX2⟩ : ∃ X, X = IX r c la := ⟨_, rfl⟩
  obtain ⟨⟨R3, C3, D3, E3'⟩, hX3⟩ : ∃ X, X = WX r c la xs := ⟨_, rfl⟩
  obtain ⟨⟨R4, C4, D4, E4'⟩, hX4⟩ : ∃ X, X = TX r c la := ⟨_, rfl⟩
  obtain ⟨⟨K5, E5'⟩, hX5⟩ : ∃ X, X = KX r c la := ⟨_, rfl⟩
  obtain ⟨⟨S6, E6'⟩, hX6⟩ : ∃ X, X = SX r c la ly := ⟨_, rfl⟩
  obtain ⟨⟨R7, C7, D7⟩, hX7⟩ : ∃ X, X = YX r c la := ⟨_, rfl⟩
  have HP5 : Hid (∀ W v1 v2, Rd W v1 la → Rd W v2 lb → Calls Try.prog 17 #[.agg #[.int .i64 r, .int .i64 c, v1], .agg #[.int .i64 r2, .int .i64 c2, v2]] W fun e w' => MR W w' e R1 C1 D1 E1') := hide (fun W v1 v2 h1 h2 => by have := product_u W r c r2 c2 v1 v2 la lb h1 h2; rw [← hX1] at this; exact this)
  have HP6 : Hid (∀ W v1 v2, Rd W v1 la → Rd W v2 lb → Calls Try.prog 18 #[.agg #[.int .i64 r, .int .i64 c, v1], .agg #[.int .i64 r2, .int .i64 c2, v2]] W fun e w' => MR W w' e R1 C1 D1 E1') := hide (fun W v1 v2 h1 h2 => by have := rproduct_u W r c r2 c2 v1 v2 la lb h1 h2; rw [← hX1] at this; exact this)
  have HP7 : Hid (∀ W v1, Rd W v1 la → Calls Try.prog 19 #[.agg #[.int .i64 r, .int .i64 c, v1]] W fun e w' => MR W w' e R2 C2 D2 E2') := hide (fun W v1 h1 => by have := inverse_u W r c v1 la h1; rw [← hX2] at this; exact this)
  have HP8 : Hid (∀ W v1, Rd W v1 la → Calls Try.prog 20 #[.agg #[.int .i64 r, .int .i64 c, v1]] W fun e w' => MR W w' e R2 C2 D2 E2') := hide (fun W v1 h1 => by have := rinverse_u W r c v1 la h1; rw [← hX2] at this; exact this)
  have HP11 : Hid (∀ W v1 v2, Rd W v1 la → RdV W v2 (ivs xs) → Calls Try.prog 25 #[.agg #[.int .i64 r, .int .i64 c, v1], v2] W fun e w' => MR W w' e R3 C3 D3 E3') := hide (fun W v1 v2 h1 h2 => by have := rows_u W r c v1 v2 la xs h1 h2; rw [← hX3] at this; exact this)
  have HP12 : Hid (∀ W v1 v2, Rd W v1 la → RdV W v2 (ivs xs) → Calls Try.prog 26 #[.agg #[.int .i64 r, .int .i64 c, v1], v2] W fun e w' => MR W w' e R3 C3 D3 E3') := hide (fun W v1 v2 h1 h2 => by have := rrows_u W r c v1 v2 la xs h1 h2; rw [← hX3] at this; exact this)
  have HP13 : Hid (∀ W v1, Rd W v1 la → Calls Try.prog 27 #[.agg #[.int .i64 r, .int .i64 c, v1]] W fun e w' => MR W w' e R4 C4 D4 E4') := hide (fun W v1 h1 => by have := turn_u W r c v1 la h1; rw [← hX4] at this; exact this)
  have HP14 : Hid (∀ W v1, Rd W v1 la → Calls Try.prog 28 #[.agg #[.int .i64 r, .int .i64 c, v1]] W fun e w' => MR W w' e R4 C4 D4 E4') := hide (fun W v1 h1 => by have := rturn_u W r c v1 la h1; rw [← hX4] at this; exact this)
  have HP17 : Hid (∀ W v1, Rd W v1 la → Calls Try.prog 29 #[.agg #[.int .i64 r, .int .i64 c, v1]] W fun e w' => KR W w' e (K5, E5')) := hide (fun W v1 h1 => by have := rank_u W r c v1 la h1; rw [← hX5] at this; exact this)
  have HP18 : Hid (∀ W v1, Rd W v1 la → Calls Try.prog 30 #[.agg #[.int .i64 r, .int .i64 c, v1]] W fun e w' => KR W w' e (K5, E5')) := hide (fun W v1 h1 => by have := rrank_u W r c v1 la h1; rw [← hX5] at this; exact this)
  have HP19 : Hid (∀ W v1 v2, Rd W v1 la → Rd W v2 ly → Calls Try.prog 31 #[.agg #[.int .i64 r, .int .i64 c, v1], v2] W fun e w' => VR W w' e S6 E6') := hide (fun W v1 v2 h1 h2 => by have := solve_u W r c v1 v2 la ly h1 h2; rw [← hX6] at this; exact this)
  have HP20 : Hid (∀ W v1 v2, Rd W v1 la → Rd W v2 ly → Calls Try.prog 32 #[.agg #[.int .i64 r, .int .i64 c, v1], v2] W fun e w' => VR W w' e S6 E6') := hide (fun W v1 v2 h1 h2 => by have := rsolve_u W r c v1 v2 la ly h1 h2; rw [← hX6] at this; exact this)
  have HP23 : Hid (∀ W v1, Rd W v1 la → Calls Try.prog 33 #[.int .i64 r, .int .i64 c, v1] W fun e w' => WR W w' e R7 C7 D7 (chk r c la.length)) := hide (fun W v1 h1 => by have := make_u W r c v1 la h1; rw [← hX7] at this; exact this)
  have HX7 := hide hX7
  clear hX1 hX2 hX3 hX4 hX5 hX6 hX7
  refine gq4 (unhide HM).1.1 (unhide HM).1.2 (by have := unhide HL; omega) (by have := unhide HL; omega) ?_
  intro y52 y53 y54 y55 p7 p8 W4 f4 m7 m8
  have HS := hide (show MS w W4 p3 p4 p7 p8 r c r2 c2 la lb ly xs (.slice wo nw cw) (.slice yo ny cy) from ⟨(unhide HM).1.1.kept f4, (unhide HM).1.2.kept f4, m7, m8, (unhide HM).2.1.kept f4 (fun _ _ h => h), (unhide HM).2.2.kept f4 (fun _ _ h => h), (unhide HF3).trans f4 (fun _ _ h => h)⟩)
  clear HM HF3 f4 m7 m8
  go_upto_region 5 with fail
  refine gq5 (unhide HS).m7 (unhide HS).m8 (unhide HP5 _) ?_
  intro y57 y58 y59 y56 y60 y61 p9 W5 f5 m9
  have HS2 := hide ((unhide HS).kept f5)
  clear HS
  have HS := HS2
  clear HS2
  have M9 := hide m9
  clear m9 f5
  go_upto_region 6 with fail
  refine gq6 (unhide HS).m3 (unhide HS).m4 (unhide HP6 _) ?_
  intro y63 y64 y65 y62 y66 y67 p11 W6 f6 m11
  have HS2 := hide ((unhide HS).kept f6)
  clear HS
  have HS := HS2
  clear HS2
  have M92 := hide ((unhide M9).kept f6)
  clear M9
  have M9 := M92
  clear M92
  have M11 := hide m11
  clear m11 f6
  go_upto_region 7 with fail
  refine gq7 (unhide HS).m7 (unhide HP7 _) ?_
  intro y69 y70 y68 y71 y72 p13 W7 f7 m13
  have HS2 := hide ((unhide HS).kept f7)
  clear HS
  have HS := HS2
  clear HS2
  have M92 := hide ((unhide M9).kept f7)
  clear M9
  have M9 := M92
  clear M92
  have M112 := hide ((unhide M11).kept f7)
  clear M11
  have M11 := M112
  clear M112
  have M13 := hide m13
  clear m13 f7
  go_upto_region 8 with fail
  refine gq8 (unhide HS).m3 (unhide HP8 _) ?_
  intro y74 y75 y73 y76 y77 p15 W8 f8 m15
  have HS2 := hide ((unhide HS).kept f8)
  clear HS
  have HS := HS2
  clear HS2
  have M92 := hide ((unhide M9).kept f8)
  clear M9
  have M9 := M92
  clear M92
  have M112 := hide ((unhide M11).kept f8)
  clear M11
  have M11 := M112
  clear M112
  have M132 := hide ((unhide M13).kept f8)
  clear M13
  have M13 := M132
  clear M132
  have M15 := hide m15
  clear m15 f8
  go_upto_region 9 with fail
  refine gq9 (unhide M9) (unhide M11) (unhide M13) (unhide M15) (unhide HS).m7 (unhide HS).m3 ?_
  intro y78 y79 y80 y81 y82 y83 y84 y85 y86 y87 y88 y89 y90 y91 y92 y93 y94 y95 y96 y97 y98 W9 f9
  have HS2 := hide ((unhide HS).kept f9)
  clear HS
  have HS := HS2
  clear HS2
  clear M9 M11 M13 M15 f9
  go_upto_region 11 with fail
  refine gq11 (unhide HS).m7 (unhide HS).hx (by have := unhide HL; omega) (unhide HP11) ?_
  intro y101 y102 y103 y104 y105 y100 y106 y107 p17 W11 f11 m17
  have HS2 := hide ((unhide HS).kept f11)
  clear HS
  have HS := HS2
  clear HS2
  have M17 := hide m17
  clear m17 f11
  go_upto_region 12 with fail
  refine gq12 (unhide HS).m3 (fun v1 h1 => unhide HP12 _ v1 _ h1 (unhide HS).hx) ?_
  intro y109 y110 y111 y108 y112 y113 p18 W12 f12 m18
  have HS2 := hide ((unhide HS).kept f12)
  clear HS
  have HS := HS2
  clear HS2
  have M172 := hide ((unhide M17).kept f12)
  clear M17
  have M17 := M172
  clear M172
  have M18 := hide m18
  clear m18 f12
  go_upto_region 13 with fail
  refine gq13 (unhide HS).m7 (unhide HP13 _) ?_
  intro y115 y116 y114 y117 y118 p19 W13 f13 m19
  have HS2 := hide ((unhide HS).kept f13)
  clear HS
  have HS := HS2
  clear HS2
  have M172 := hide ((unhide M17).kept f13)
  clear M17
  have M17 := M172
  clear M172
  have M182 := hide ((unhide M18).kept f13)
  clear M18
  have M18 := M182
  clear M182
  have M19 := hide m19
  clear m19 f13
  go_upto_region 14 with fail
  refine gq14 (unhide HS).m3 (unhide HP14 _) ?_
  intro y120 y121 y119 y122 y123 p20 W14 f14 m20
  have HS2 := hide ((unhide HS).kept f14)
  clear HS
  have HS := HS2
  clear HS2
  have M172 := hide ((unhide M17).kept f14)
  clear M17
  have M17 := M172
  clear M172
  have M182 := hide ((unhide M18).kept f14)
  clear M18
  have M18 := M182
  clear M182
  have M192 := hide ((unhide M19).kept f14)
  clear M19
  have M19 := M192
  clear M192
  have M20 := hide m20
  clear m20 f14
  go_upto_region 15 with fail
  refine gq15 (unhide M17) (unhide M18) (unhide M19) (unhide M20) ?_
  intro y124 y125 y126 y127 y128 y129 y130 y131 y132 y133 y134 y135 y136 W15 f15
  have HS2 := hide ((unhide HS).kept f15)
  clear HS
  have HS := HS2
  clear HS2
  clear M17 M18 M19 M20 f15
  go_upto_region 17 with fail
  refine gq17 (unhide HS).m7 (unhide HP17 _) ?_
  intro y139 y140 y138 y141 y142 W17 f17
  have HS2 := hide ((unhide HS).kept f17)
  clear HS
  have HS := HS2
  clear HS2
  clear f17
  go_upto_region 18 with fail
  refine gq18 (unhide HS).m3 (unhide HP18 _) ?_
  intro y144 y145 y143 y146 y147 W18 f18
  have HS2 := hide ((unhide HS).kept f18)
  clear HS
  have HS := HS2
  clear HS2
  clear f18
  go_upto_region 19 with fail
  refine gq19 (unhide HS).m7 (unhide HS).hy (by have := unhide HL; omega) (unhide HP19) ?_
  intro y149 y150 y151 y152 y153 y148 y154 y155 sv W19 f19 hsv
  have HS2 := hide ((unhide HS).kept f19)
  clear HS
  have HS := HS2
  clear HS2
  have HSV := hide hsv
  clear hsv f19
  go_upto_region 20 with fail
  refine gq20 (unhide HS).m3 (fun v1 h1 => unhide HP20 _ v1 _ h1 (unhide HS).hy) ?_
  intro y157 y158 y159 y156 y160 y161 tv W20 f20 htv
  have HS2 := hide ((unhide HS).kept f20)
  clear HS
  have HS := HS2
  clear HS2
  have HTV := hide htv
  have HSV2 := hide ((unhide HSV).kept f20 (fun _ _ h => h))
  clear htv f20 HSV
  go_upto_region 21 with fail
  refine gq21 (unhide HSV2) (unhide HTV) ?_
  intro y162 y163 y164 y165 y166 y167 y168 y169 y170 y171 y172 y173 y174 y175 y176 y177 y178 y179 y180 y181 y182 
  clear HSV2 HTV
  go_upto_region 23 with fail
  refine gq23 (unhide HS).m3 (unhide HS).m7 (unhide HP23 _) ?_
  intro y185 y186 y187 y188 y189 y190 y191 y184 y192 y193 pn W23 on kn f23 hH hR hB
  have HS3 := hide ((unhide HS).kept f23)
  have HF23 := hide f23
  have HH := hide hH
  have HR := hide hR
  have HB := hide hB
  clear f23 hH hR hB
  have HD7 := hide (show D7.length ≤ 100000 by
    have h1 := unhide HX7
    have h2 := unhide HL
    unfold YX at h1
    split at h1
    · simp at h1; rw [h1.2.2]; omega
    · simp at h1; rw [h1.2.2]; simp)
  go_upto_region 24 with fail
  refine gq24 (unhide HS3).m3 ⟨on, kn, unhide HH, unhide HR⟩ (unhide HX7) ?_
  intro y194 y195 y196 y197 y198 y199 y200 y201 y202 y203 y204 y205 y206 y207 y208 y209 y210 y211 y212 y213 y214 y215 y216 y217 y218 y219 W24 f24
  have HH2 := hide ((unhide HH).kept f24 id)
  have HF24 := hide ((unhide HF23).trans f24 (fun _ _ h => h))
  have HB2 := hide (show D7.length = 0 ∨ ∃ q, on = some ⟨q, 0, none⟩ ∧ W20.heap.size ≤ q ∧ BAt W24 q D7 from by
    rcases unhide HB with h | ⟨q, e, hq, h⟩
    · exact .inl h
    · exact .inr ⟨q, e, hq, h.kept f24 id⟩)
  clear f24 HB HF23 HS3 HH
  go_upto_block 0 with fail
  refine gqL rfl (unhide HD7) (unhide HF24) (unhide HH2) (unhide HB2) (unhide HR).capl ?_
  intro y26 y221 y222 y223 y224 y225 y226 y227 y228 y229 y230 y231 W25 f25
  have HS4 := hide ((unhide HS).kept f25)
  clear f25 HS HH2 HB2 HF24 HR
  go_upto_region 30 with fail
  refine gq30 (unhide HS4).m3 (unhide HS4).m7 (unhide HS4).m4 (unhide HS4).m8 ?_
  intro y232 y233 y234 y235 y236 y237 y238 y239 y240 y241 y242 W30 f30
  have HS5 := hide ((unhide HS4).kept f30)
  clear f30 HS4
  go_wp2_with fail
  go_ret
  exact ⟨rfl, (unhide HS5).fr⟩
end Go.Proofs.Ytckmddkhkdcmmaa
