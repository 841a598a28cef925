/-
  GfMatrices: Make with memory of its own; what is written into it; the end.
-/
import Derived.Test.YtckmddkhkdcmmaaM29
namespace Go.Proofs.Ytckmddkhkdcmmaa
set_option linter.unusedVariables false
set_option linter.unusedSimpArgs false
open Go.RowKit
set_option linter.unusedVariables false
set_option linter.unusedSimpArgs false

attribute [local go_sem ↓] Go.wp_at_zero Go.wp_at_succ

set_option maxHeartbeats 8000000 in
set_option maxRecDepth 100000 in
theorem make_own (w : World) (rows cols : Nat) (v : Value) (l : List UInt8) (hv : Rd w v l) (hl : l.length = rows * cols) (h1 : 1 ≤ rows ∧ rows ≤ 64) (h2 : 1 ≤ cols ∧ cols ≤ 64) :
    Calls Try.prog 33 #[.int .i64 (rows : Int), .int .i64 (cols : Int), v] w fun e w' => (∃ q, e = .returned (.tuple #[.agg #[.int .i64 (rows : Int), .int .i64 (cols : Int), .slice (some ⟨q, 0, none⟩) l.length l.length], .int .i64 0]) ∧ BAt w' q l ∧ w.heap.size ≤ q) ∧ Fr (fun _ => False) w w' := by
  have hck : chk rows cols l.length = 0 := by
    unfold chk sideB
    rw [if_pos ⟨by simp; omega, by simp; omega⟩, if_pos (by rw [hl]; simp)]
  obtain ⟨ao, cap, rfl⟩ := hv.shape
  have HV := hide hv
  have HL := hide hl
  have HCK := hide hck
  clear hv hl hck
  go_enter Try.func33, Try.ntmps33
  go_wp2_with fail
  refine (check_any _ _ _ _ _ _).mono ?_
  rintro e w1 ⟨rfl, f1⟩
  rw [unhide HCK]
  have hb0 : ((w.alloc (Obj.cells #[Value.int IntKind.i64 0, Value.int IntKind.i64 0, Value.slice none 0 0] 24)).alloc (Obj.cells #[Value.int IntKind.i64 (rows : Int), Value.int IntKind.i64 (cols : Int), Value.slice ao l.length cap] 24)).heap[w.heap.size + 1]? = some (.cells #[Value.int IntKind.i64 (rows : Int), Value.int IntKind.i64 (cols : Int), Value.slice ao l.length cap] 24 (0, 0)) := by
    have := heap_alloc_new (w.alloc (Obj.cells #[Value.int IntKind.i64 0, Value.int IntKind.i64 0, Value.slice none 0 0] 24)) (Obj.cells #[Value.int IntKind.i64 (rows : Int), Value.int IntKind.i64 (cols : Int), Value.slice ao l.length cap] 24)
    simpa using this
  have ha0 : ((w.alloc (Obj.cells #[Value.int IntKind.i64 0, Value.int IntKind.i64 0, Value.slice none 0 0] 24)).alloc (Obj.cells #[Value.int IntKind.i64 (rows : Int), Value.int IntKind.i64 (cols : Int), Value.slice ao l.length cap] 24)).heap[w.heap.size]? = some (.cells #[Value.int IntKind.i64 0, Value.int IntKind.i64 0, Value.slice none 0 0] 24 (0, 0)) := by
    rw [Below.heap_alloc _ _ _ (by simp)]; exact heap_alloc_new w _
  have hb1 := (f1.block _ (lt_of_heap hb0) id).trans hb0
  have ha1 := (f1.block _ (lt_of_heap ha0) id).trans ha0
  have F1 : Fr (fun _ => False) w w1 := (((Fr.refl (fun _ => False) w).alloc _).alloc _).trans f1 (fun _ _ h => h)
  have hv1 := (unhide HV).kept F1 (fun _ _ h => h)
  have HF := hide (filled_any w1 rows cols 85 #[.pointer (some ⟨w.heap.size + 1, 0, none⟩)] (fun r c => (l[r * cols + c]?).getD 0) h1 h2 cf84 (fun W q r c hr hc => by
    have hi : r * cols + c < l.length := by rw [unhide HL]; exact mul_step hr hc
    have := make1_any W (w.heap.size + 1) rows r c cols _ l ((q.block _ (lt_of_heap hb1) id).trans hb1) (hv1.kept q (fun _ _ h => h)) (by omega) (by omega) h2.2 hi
    rw [List.getElem?_eq_getElem hi]
    exact this))
  have HF1 := hide F1
  have HA1 := hide ha1
  clear f1 F1 hb0 ha0 hb1 ha1 hv1
  go_wp2_with fail
  refine (unhide HF).mono ?_
  rintro e w2 ⟨rfl, hB2, f2⟩
  rw [← unhide HL, fl_self cols l (by omega)] at hB2
  rw [← unhide HL]
  have ha2 := (f2.block _ (lt_of_heap (unhide HA1)) id).trans (unhide HA1)
  have c0 := cell_of_heap ha2 0
  have c1 := cell_of_heap ha2 1
  have c2 := cell_of_heap ha2 2
  have z0 := frozen_of_heap ha2
  simp at c0 c1 c2
  have HB2 := hide hB2
  have F2 := hide ((unhide HF1).trans f2 (fun _ _ h => h))
  have hsz := (unhide HF1).size
  have hlt := lt_of_heap (unhide HA1)
  clear hB2 f2 ha2 HF
  go_wp2_with fail
  have f3 := fr_three w2 w.heap.size (.int .i64 (rows : Int)) (.int .i64 (cols : Int)) (.slice (some ⟨w1.heap.size + 1, 0, none⟩) l.length l.length)
  refine bodyPost_ret (v := .tuple #[.agg #[.int .i64 (rows : Int), .int .i64 (cols : Int), .slice (some ⟨w1.heap.size + 1, 0, none⟩) l.length l.length], .int .i64 0]) (by simp [results, Try.results33, go_sem, c0, c1, c2]) rfl ⟨⟨_, rfl, (unhide HB2).kept f3 (by omega), (by omega)⟩, (unhide F2).trans f3 (fun i hi h => by omega)⟩
/-- What Make leaves: its rows, columns, error; and memory of its own, if it has cells. -/
def WR (w w' : World) (e : Ending) (R C : Int) (L : List UInt8) (E : Int) : Prop := (∃ o k, e = .returned (.tuple #[.agg #[.int .i64 R, .int .i64 C, .slice o L.length k], .int .i64 E]) ∧ Rd w' (.slice o L.length k) L ∧ (L.length = 0 ∨ ∃ q, o = some ⟨q, 0, none⟩ ∧ w.heap.size ≤ q ∧ BAt w' q L)) ∧ Fr (fun _ => False) w w'
def YX (r c : Int) (l : List UInt8) : Int × Int × List UInt8 := if chk r c l.length = 0 then (r, c, l) else (0, 0, [])
theorem make_u (w : World) (r c : Int) (v : Value) (l : List UInt8) (hv : Rd w v l) : Calls Try.prog 33 #[.int .i64 r, .int .i64 c, v] w fun e w' => WR w w' e (YX r c l).1 (YX r c l).2.1 (YX r c l).2.2 (chk r c l.length) := by
  by_cases h : chk r c l.length = 0
  · have hY : YX r c l = (r, c, l) := by unfold YX; rw [if_pos h]
    rw [hY, h]
    obtain ⟨a, b, rfl, rfl, h1, h2, hl⟩ := chk_pos h
    refine (make_own w a b v l hv hl h1 h2).mono ?_
    rintro e w' ⟨⟨q, rfl, hB, hq⟩, f⟩
    have h5 := Nat.mul_le_mul h1.2 h2.2
    exact ⟨⟨_, _, rfl, hB.rd (by rw [hl]; unfold maxLen; omega), .inr ⟨q, rfl, hq, hB⟩⟩, f⟩
  · have hY : YX r c l = (0, 0, []) := by unfold YX; rw [if_neg h]
    rw [hY]
    refine (make_no w r c v l hv h).mono ?_
    rintro e w' ⟨rfl, f⟩
    exact ⟨⟨none, 0, rfl, .inl ⟨rfl, rfl⟩, .inl rfl⟩, f⟩
set_option maxHeartbeats 8000000 in
set_option maxRecDepth 100000 in
theorem gq23 {W : World} {p3 p7 : Nat} {r c R C E : Int} {la L : List UInt8} {u0 u1 u2 u4 u5 u6 u8 u9 u10 u11 u12 u13 u14 u15 u16 u17 u18 u19 u20 u21 u22 u23 u24 u25 u26 u27 u28 u29 u30 u31 u32 u33 u34 u35 u36 u37 u38 u39 u40 u41 u42 u43 u44 u45 u46 u47 u48 u49 u50 u51 u52 u53 u54 u55 u56 u57 u58 u59 u60 u61 u62 u63 u64 u65 u66 u67 u68 u69 u70 u71 u72 u73 u74 u75 u76 u77 u78 u79 u80 u81 u82 u83 u84 u85 u86 u87 u88 u89 u90 u91 u92 u93 u94 u95 u96 u97 u98 u99 u100 u101 u102 u103 u104 u105 u106 u107 u108 u109 u110 u111 u112 u113 u114 u115 u116 u117 u118 u119 u120 u121 u122 u123 u124 u125 u126 u127 u128 u129 u130 u131 u132 u133 u134 u135 u136 u137 u138 u139 u140 u141 u142 u143 u144 u145 u146 u147 u148 u149 u150 u151 u152 u153 u154 u155 u156 u157 u158 u159 u160 u161 u162 u163 u164 u165 u166 u167 u168 u169 u170 u171 u172 u173 u174 u175 u176 u177 u178 u179 u180 u181 u182 u183 u184 u185 u186 u187 u188 u189 u190 u191 u192 u193 u194 u195 u196 u197 u198 u199 u200 u201 u202 u203 u204 u205 u206 u207 u208 u209 u210 u211 u212 u213 u214 u215 u216 u217 u218 u219 u220 u221 u222 u223 u224 u225 u226 u227 u228 u229 u230 u231 u232 u233 u234 u235 u236 u237 u238 u239 u240 u241 u242 : Value} {Q : Exit → Act → World → Prop} (m3 : MA W p3 r c la) (m7 : MA W p7 r c la)
    (HC : ∀ v1, Rd W v1 la → Calls Try.prog 33 #[.int .i64 r, .int .i64 c, v1] W fun e w' => WR W w' e R C L E)
    (hQ : ∀ (y185 y186 y187 y188 y189 y190 y191 y184 y192 y193 : Value) (pn : Nat) (W' : World) (o : Option Addr) (k : Nat), Fr (fun _ => False) W W' → Hd W' pn R C (.slice o L.length k) → Rd W' (.slice o L.length k) L → (L.length = 0 ∨ ∃ q, o = some ⟨q, 0, none⟩ ∧ W.heap.size ≤ q ∧ BAt W' q L) → Q .normal ⟨#[u0, u1, u2, .pointer (some ⟨p3, 0, none⟩), u4, u5, u6, .pointer (some ⟨p7, 0, none⟩), u8, u9, .int .i64 E, u11, u12, u13, u14, u15, u16, u17, u18, u19, u20, u21, u22, u23, u24, .pointer (some ⟨pn, 0, none⟩), u26, u27, u28, u29, u30, u31, u32, u33, u34, u35, u36, u37, u38, u39, u40, u41, u42, u43, u44, u45, u46, u47, u48, u49, u50, u51, u52, u53, u54, u55, u56, u57, u58, u59, u60, u61, u62, u63, u64, u65, u66, u67, u68, u69, u70, u71, u72, u73, u74, u75, u76, u77, u78, u79, u80, u81, u82, u83, u84, u85, u86, u87, u88, u89, u90, u91, u92, u93, u94, u95, u96, u97, u98, u99, u100, u101, u102, u103, u104, u105, u106, u107, u108, u109, u110, u111, u112, u113, u114, u115, u116, u117, u118, u119, u120, u121, u122, u123, u124, u125, u126, u127, u128, u129, u130, u131, u132, u133, u134, u135, u136, u137, u138, u139, u140, u141, u142, u143, u144, u145, u146, u147, u148, u149, u150, u151, u152, u153, u154, u155, u156, u157, u158, u159, u160, u161, u162, u163, u164, u165, u166, u167, u168, u169, u170, u171, u172, u173, u174, u175, u176, u177, u178, u179, u180, u181, u182, u183, y184, y185, y186, y187, y188, y189, y190, y191, y192, y193, u194, u195, u196, u197, u198, u199, u200, u201, u202, u203, u204, u205, u206, u207, u208, u209, u210, u211, u212, u213, u214, u215, u216, u217, u218, u219, u220, u221, u222, u223, u224, u225, u226, u227, u228, u229, u230, u231, u232, u233, u234, u235, u236, u237, u238, u239, u240, u241, u242], []⟩ W') : Code.wp Try.prog (rg 23) Q ⟨#[u0, u1, u2, .pointer (some ⟨p3, 0, none⟩), u4, u5, u6, .pointer (some ⟨p7, 0, none⟩), u8, u9, u10, u11, u12, u13, u14, u15, u16, u17, u18, u19, u20, u21, u22, u23, u24, u25, u26, u27, u28, u29, u30, u31, u32, u33, u34, u35, u36, u37, u38, u39, u40, u41, u42, u43, u44, u45, u46, u47, u48, u49, u50, u51, u52, u53, u54, u55, u56, u57, u58, u59, u60, u61, u62, u63, u64, u65, u66, u67, u68, u69, u70, u71, u72, u73, u74, u75, u76, u77, u78, u79, u80, u81, u82, u83, u84, u85, u86, u87, u88, u89, u90, u91, u92, u93, u94, u95, u96, u97, u98, u99, u100, u101, u102, u103, u104, u105, u106, u107, u108, u109, u110, u111, u112, u113, u114, u115, u116, u117, u118, u119, u120, u121, u122, u123, u124, u125, u126, u127, u128, u129, u130, u131, u132, u133, u134, u135, u136, u137, u138, u139, u140, u141, u142, u143, u144, u145, u146, u147, u148, u149, u150, u151, u152, u153, u154, u155, u156, u157, u158, u159, u160, u161, u162, u163, u164, u165, u166, u167, u168, u169, u170, u171, u172, u173, u174, u175, u176, u177, u178, u179, u180, u181, u182, u183, u184, u185, u186, u187, u188, u189, u190, u191, u192, u193, u194, u195, u196, u197, u198, u199, u200, u201, u202, u203, u204, u205, u206, u207, u208, u209, u210, u211, u212, u213, u214, u215, u216, u217, u218, u219, u220, u221, u222, u223, u224, u225, u226, u227, u228, u229, u230, u231, u232, u233, u234, u235, u236, u237, u238, u239, u240, u241, u242], []⟩ W := by
  have HQ := hide hQ
  clear hQ
  obtain ⟨o3, k3, h3, r3⟩ := m3
  obtain ⟨o7, k7, h7, r7⟩ := m7
  obtain ⟨x3, y3, z3, -⟩ := h3.facts W (Fr.refl _ _)
  obtain ⟨x7, y7, z7, -⟩ := h7.facts W (Fr.refl _ _)
  have HC' := hide (HC _ r7)
  clear HC r3 h3 r7 h7
  conv => arg 2; whnf
  go_wp2_with (go_at_call 33; refine (unhide HC').mono ?_; rintro e w6 ⟨⟨o9, k9, rfl, hv, hb⟩, f⟩)
  refine unhide HQ _ _ _ _ _ _ _ _ _ _ _ _ o9 k9 (f.alloc _) (heap_alloc_new w6 _) (hv.kept ((Fr.refl (fun _ => False) _).alloc _) (fun _ _ h => h)) ?_
  rcases hb with hb | ⟨q, e, hq, hb⟩
  · exact .inl hb
  · exact .inr ⟨q, e, hq, hb.kept ((Fr.refl (fun _ => False) _).alloc _) id⟩
/-- The block of that number. -/
def blkn (n : Nat) : Code → Option Code
  | .loop c => blkn n c
  | .seq a b => match blkn n a with
    | some c => some c
    | none => blkn n b
  | .block k c => if k = n then some (.block k c) else blkn n c
  | .scope c => blkn n c
  | .cond _ a b => match blkn n a with
    | some c => some c
    | none => blkn n b
  | _ => none
noncomputable def bk (n : Nat) : Code := ((Try.f3.body.bind (blkn n)).getD .skip)
set_option maxHeartbeats 8000000 in
set_option maxRecDepth 100000 in
theorem gqL {W0 W : World} {pn n : Nat} {R C : Int} {L : List UInt8} {o : Option Addr} {k : Nat} {u0 u1 u2 u3 u4 u5 u6 u7 u8 u9 u10 u11 u12 u13 u14 u15 u16 u17 u18 u19 u20 u21 u22 u23 u24 u27 u28 u29 u30 u31 u32 u33 u34 u35 u36 u37 u38 u39 u40 u41 u42 u43 u44 u45 u46 u47 u48 u49 u50 u51 u52 u53 u54 u55 u56 u57 u58 u59 u60 u61 u62 u63 u64 u65 u66 u67 u68 u69 u70 u71 u72 u73 u74 u75 u76 u77 u78 u79 u80 u81 u82 u83 u84 u85 u86 u87 u88 u89 u90 u91 u92 u93 u94 u95 u96 u97 u98 u99 u100 u101 u102 u103 u104 u105 u106 u107 u108 u109 u110 u111 u112 u113 u114 u115 u116 u117 u118 u119 u120 u121 u122 u123 u124 u125 u126 u127 u128 u129 u130 u131 u132 u133 u134 u135 u136 u137 u138 u139 u140 u141 u142 u143 u144 u145 u146 u147 u148 u149 u150 u151 u152 u153 u154 u155 u156 u157 u158 u159 u160 u161 u162 u163 u164 u165 u166 u167 u168 u169 u170 u171 u172 u173 u174 u175 u176 u177 u178 u179 u180 u181 u182 u183 u184 u185 u186 u187 u188 u189 u190 u191 u192 u193 u194 u195 u196 u197 u198 u199 u200 u201 u202 u203 u204 u205 u206 u207 u208 u209 u210 u211 u212 u213 u214 u215 u216 u217 u218 u219 u220 u221 u222 u223 u224 u225 u226 u227 u228 u229 u230 u231 u232 u233 u234 u235 u236 u237 u238 u239 u240 u241 u242 : Value} {Q : Exit → Act → World → Prop} (hn : n = L.length) (hn1 : n ≤ 100000) (f0 : Fr (fun _ => False) W0 W) (hH : Hd W pn R C (.slice o n k)) (hb : n = 0 ∨ ∃ q, o = some ⟨q, 0, none⟩ ∧ W0.heap.size ≤ q ∧ BAt W q L) (hk : n ≤ k)
    (hQ : ∀ (y26 y221 y222 y223 y224 y225 y226 y227 y228 y229 y230 y231 : Value) (W' : World), Fr (fun _ => False) W0 W' → Q .normal ⟨#[u0, u1, u2, u3, u4, u5, u6, u7, u8, u9, u10, u11, u12, u13, u14, u15, u16, u17, u18, u19, u20, u21, u22, u23, u24, .pointer (some ⟨pn, 0, none⟩), y26, u27, u28, u29, u30, u31, u32, u33, u34, u35, u36, u37, u38, u39, u40, u41, u42, u43, u44, u45, u46, u47, u48, u49, u50, u51, u52, u53, u54, u55, u56, u57, u58, u59, u60, u61, u62, u63, u64, u65, u66, u67, u68, u69, u70, u71, u72, u73, u74, u75, u76, u77, u78, u79, u80, u81, u82, u83, u84, u85, u86, u87, u88, u89, u90, u91, u92, u93, u94, u95, u96, u97, u98, u99, u100, u101, u102, u103, u104, u105, u106, u107, u108, u109, u110, u111, u112, u113, u114, u115, u116, u117, u118, u119, u120, u121, u122, u123, u124, u125, u126, u127, u128, u129, u130, u131, u132, u133, u134, u135, u136, u137, u138, u139, u140, u141, u142, u143, u144, u145, u146, u147, u148, u149, u150, u151, u152, u153, u154, u155, u156, u157, u158, u159, u160, u161, u162, u163, u164, u165, u166, u167, u168, u169, u170, u171, u172, u173, u174, u175, u176, u177, u178, u179, u180, u181, u182, u183, u184, u185, u186, u187, u188, u189, u190, u191, u192, u193, u194, u195, u196, u197, u198, u199, u200, u201, u202, u203, u204, u205, u206, u207, u208, u209, u210, u211, u212, u213, u214, u215, u216, u217, u218, u219, u220, y221, y222, y223, y224, y225, y226, y227, y228, y229, y230, y231, u232, u233, u234, u235, u236, u237, u238, u239, u240, u241, u242], []⟩ W') : Code.wp Try.prog (bk 0) Q ⟨#[u0, u1, u2, u3, u4, u5, u6, u7, u8, u9, u10, u11, u12, u13, u14, u15, u16, u17, u18, u19, u20, u21, u22, u23, u24, .pointer (some ⟨pn, 0, none⟩), .int .i64 0, u27, u28, u29, u30, u31, u32, u33, u34, u35, u36, u37, u38, u39, u40, u41, u42, u43, u44, u45, u46, u47, u48, u49, u50, u51, u52, u53, u54, u55, u56, u57, u58, u59, u60, u61, u62, u63, u64, u65, u66, u67, u68, u69, u70, u71, u72, u73, u74, u75, u76, u77, u78, u79, u80, u81, u82, u83, u84, u85, u86, u87, u88, u89, u90, u91, u92, u93, u94, u95, u96, u97, u98, u99, u100, u101, u102, u103, u104, u105, u106, u107, u108, u109, u110, u111, u112, u113, u114, u115, u116, u117, u118, u119, u120, u121, u122, u123, u124, u125, u126, u127, u128, u129, u130, u131, u132, u133, u134, u135, u136, u137, u138, u139, u140, u141, u142, u143, u144, u145, u146, u147, u148, u149, u150, u151, u152, u153, u154, u155, u156, u157, u158, u159, u160, u161, u162, u163, u164, u165, u166, u167, u168, u169, u170, u171, u172, u173, u174, u175, u176, u177, u178, u179, u180, u181, u182, u183, u184, u185, u186, u187, u188, u189, u190, u191, u192, u193, u194, u195, u196, u197, u198, u199, u200, u201, u202, u203, u204, u205, u206, u207, u208, u209, u210, u211, u212, u213, u214, u215, u216, u217, u218, u219, u220, u221, u222, u223, u224, u225, u226, u227, u228, u229, u230, u231, u232, u233, u234, u235, u236, u237, u238, u239, u240, u241, u242], []⟩ W := by
  have HQ := hide hQ
  clear hQ
  have HF0 := hide f0
  have HH := hide hH
  rcases hb with h0 | ⟨q, rfl, hq, hB⟩
  · have hn0 : n = 0 := h0
    obtain ⟨x, y, z, -⟩ := hH.facts W (Fr.refl _ _)
    clear hH f0 h0 hn
    subst hn0
    conv => arg 2; whnf
    go_wp2_with fail
    go_loopw [26] (fun x w' => x = .int .i64 0 ∧ W = w') (fun x _ => 0)
    case atStart => exact ⟨rfl, rfl⟩
    case round =>
      obtain ⟨rfl, rfl⟩ := hrel
      go_wp2_with fail
      exact unhide HQ _ _ _ _ _ _ _ _ _ _ _ _ _ (unhide HF0)
  · have HB := hide hB
    have HN := hide hn
    clear hH f0 hB hn
    conv => arg 2; whnf
    go_wp2_with fail
    go_loopw [26] (fun x w' => ∃ (j : Nat) (l' : List UInt8), j ≤ n ∧ x = .int .i64 (j : Int) ∧ BAt w' q l' ∧ l'.length = n ∧ Hd w' pn R C (.slice (some ⟨q, 0, none⟩) n k) ∧ Fr (fun _ => False) W0 w') (fun x _ => n - (intOf x).toNat)
    case atStart => exact ⟨0, L, by omega, rfl, unhide HB, (unhide HN).symm, unhide HH, unhide HF0⟩
    case round =>
      obtain ⟨j, l1, hj, rfl, hB1, hl1, hH1, hf1⟩ := hrel
      obtain ⟨x, y, z, -⟩ := hH1.facts wr (Fr.refl _ _)
      have lp := hH1.lt
      have lq := lt_of_heap hB1
      by_cases hlt : j < n
      · have c0 := hB1.cell j (by omega)
        have z0 := hB1.frozen j
        have hne : pn ≠ q := by
          intro e
          have h1 := hH1
          unfold Hd at h1
          rw [e, show wr.heap[q]? = _ from hB1] at h1
          simp at h1
        have HB1 := hide (hB1.set j 238)
        have HH1 := hide hH1
        have HF1 := hide hf1
        have hjk : j < k := by omega
        clear hB1 hH1 hf1
        go_wp2_with fail
        go_roundw
        case rel =>
          refine ⟨j + 1, _, by omega, by go_num, unhide HB1, by simpa using hl1, ?_, ?_⟩
          · exact (unhide HH1).kept (S := fun b => b = q) ((Fr.refl (fun b => b = q) wr).setCell (p := ⟨q, j, none⟩) (fun _ => rfl) _) hne
          · exact (unhide HF1).setCell (fun h => by simp at h; omega) _
        case measure => simp [intOf]; omega
      · obtain rfl : n = j := by omega
        have HF1 := hide hf1
        clear hB1 hH1 hf1
        go_wp2_with fail
        exact unhide HQ _ _ _ _ _ _ _ _ _ _ _ _ _ (unhide HF1)
set_option maxHeartbeats 8000000 in
set_option maxRecDepth 100000 in
theorem gq30 {W : World} {p3 p7 p4 p8 : Nat} {r c r2 c2 : Int} {la lb : List UInt8} {u0 u1 u2 u5 u6 u9 u10 u11 u12 u13 u14 u15 u16 u17 u18 u19 u20 u21 u22 u23 u24 u25 u26 u27 u28 u29 u30 u31 u32 u33 u34 u35 u36 u37 u38 u39 u40 u41 u42 u43 u44 u45 u46 u47 u48 u49 u50 u51 u52 u53 u54 u55 u56 u57 u58 u59 u60 u61 u62 u63 u64 u65 u66 u67 u68 u69 u70 u71 u72 u73 u74 u75 u76 u77 u78 u79 u80 u81 u82 u83 u84 u85 u86 u87 u88 u89 u90 u91 u92 u93 u94 u95 u96 u97 u98 u99 u100 u101 u102 u103 u104 u105 u106 u107 u108 u109 u110 u111 u112 u113 u114 u115 u116 u117 u118 u119 u120 u121 u122 u123 u124 u125 u126 u127 u128 u129 u130 u131 u132 u133 u134 u135 u136 u137 u138 u139 u140 u141 u142 u143 u144 u145 u146 u147 u148 u149 u150 u151 u152 u153 u154 u155 u156 u157 u158 u159 u160 u161 u162 u163 u164 u165 u166 u167 u168 u169 u170 u171 u172 u173 u174 u175 u176 u177 u178 u179 u180 u181 u182 u183 u184 u185 u186 u187 u188 u189 u190 u191 u192 u193 u194 u195 u196 u197 u198 u199 u200 u201 u202 u203 u204 u205 u206 u207 u208 u209 u210 u211 u212 u213 u214 u215 u216 u217 u218 u219 u220 u221 u222 u223 u224 u225 u226 u227 u228 u229 u230 u231 u232 u233 u234 u235 u236 u237 u238 u239 u240 u241 u242 : Value} {Q : Exit → Act → World → Prop} (m3 : MA W p3 r c la) (m7 : MA W p7 r c la) (m4 : MA W p4 r2 c2 lb) (m8 : MA W p8 r2 c2 lb)
    (hQ : ∀ (y232 y233 y234 y235 y236 y237 y238 y239 y240 y241 y242 : Value) (W' : World), Fr (fun _ => False) W W' → Q .normal ⟨#[u0, u1, .bool true, .pointer (some ⟨p3, 0, none⟩), .pointer (some ⟨p4, 0, none⟩), u5, u6, .pointer (some ⟨p7, 0, none⟩), .pointer (some ⟨p8, 0, none⟩), u9, u10, u11, u12, u13, u14, u15, u16, u17, u18, u19, u20, u21, u22, u23, u24, u25, u26, u27, u28, u29, u30, u31, u32, u33, u34, u35, u36, u37, u38, u39, u40, u41, u42, u43, u44, u45, u46, u47, u48, u49, u50, u51, u52, u53, u54, u55, u56, u57, u58, u59, u60, u61, u62, u63, u64, u65, u66, u67, u68, u69, u70, u71, u72, u73, u74, u75, u76, u77, u78, u79, u80, u81, u82, u83, u84, u85, u86, u87, u88, u89, u90, u91, u92, u93, u94, u95, u96, u97, u98, u99, u100, u101, u102, u103, u104, u105, u106, u107, u108, u109, u110, u111, u112, u113, u114, u115, u116, u117, u118, u119, u120, u121, u122, u123, u124, u125, u126, u127, u128, u129, u130, u131, u132, u133, u134, u135, u136, u137, u138, u139, u140, u141, u142, u143, u144, u145, u146, u147, u148, u149, u150, u151, u152, u153, u154, u155, u156, u157, u158, u159, u160, u161, u162, u163, u164, u165, u166, u167, u168, u169, u170, u171, u172, u173, u174, u175, u176, u177, u178, u179, u180, u181, u182, u183, u184, u185, u186, u187, u188, u189, u190, u191, u192, u193, u194, u195, u196, u197, u198, u199, u200, u201, u202, u203, u204, u205, u206, u207, u208, u209, u210, u211, u212, u213, u214, u215, u216, u217, u218, u219, u220, u221, u222, u223, u224, u225, u226, u227, u228, u229, u230, u231, y232, y233, y234, y235, y236, y237, y238, y239, y240, y241, y242], []⟩ W') : Code.wp Try.prog (rg 30) Q ⟨#[u0, u1, u2, .pointer (some ⟨p3, 0, none⟩), .pointer (some ⟨p4, 0, none⟩), u5, u6, .pointer (some ⟨p7, 0, none⟩), .pointer (some ⟨p8, 0, none⟩), u9, u10, u11, u12, u13, u14, u15, u16, u17, u18, u19, u20, u21, u22, u23, u24, u25, u26, u27, u28, u29, u30, u31, u32, u33, u34, u35, u36, u37, u38, u39, u40, u41, u42, u43, u44, u45, u46, u47, u48, u49, u50, u51, u52, u53, u54, u55, u56, u57, u58, u59, u60, u61, u62, u63, u64, u65, u66, u67, u68, u69, u70, u71, u72, u73, u74, u75, u76, u77, u78, u79, u80, u81, u82, u83, u84, u85, u86, u87, u88, u89, u90, u91, u92, u93, u94, u95, u96, u97, u98, u99, u100, u101, u102, u103, u104, u105, u106, u107, u108, u109, u110, u111, u112, u113, u114, u115, u116, u117, u118, u119, u120, u121, u122, u123, u124, u125, u126, u127, u128, u129, u130, u131, u132, u133, u134, u135, u136, u137, u138, u139, u140, u141, u142, u143, u144, u145, u146, u147, u148, u149, u150, u151, u152, u153, u154, u155, u156, u157, u158, u159, u160, u161, u162, u163, u164, u165, u166, u167, u168, u169, u170, u171, u172, u173, u174, u175, u176, u177, u178, u179, u180, u181, u182, u183, u184, u185, u186, u187, u188, u189, u190, u191, u192, u193, u194, u195, u196, u197, u198, u199, u200, u201, u202, u203, u204, u205, u206, u207, u208, u209, u210, u211, u212, u213, u214, u215, u216, u217, u218, u219, u220, u221, u222, u223, u224, u225, u226, u227, u228, u229, u230, u231, u232, u233, u234, u235, u236, u237, u238, u239, u240, u241, u242], []⟩ W := by
  have HQ := hide hQ
  have HM4 := hide m4
  have HM8 := hide m8
  have l4 := m4.lt
  have l8 := m8.lt
  clear hQ
  obtain ⟨o3, k3, h3, r3⟩ := m3
  obtain ⟨o7, k7, h7, r7⟩ := m7
  obtain ⟨x3, y3, z3, -⟩ := h3.facts W (Fr.refl _ _)
  obtain ⟨x7, y7, z7, -⟩ := h7.facts W (Fr.refl _ _)
  have HC := hide (same_any W r c r c _ _ la la r7 r3)
  rw [show decide (r = r ∧ c = c ∧ la = la) = true by simp] at HC
  clear r3 r7 h3 h7 m4 m8
  conv => arg 2; whnf
  go_wp2_with fail
  refine (unhide HC).mono ?_
  rintro e w1 ⟨rfl, f1⟩
  obtain ⟨o4, k4, h4, r4⟩ := (unhide HM4).kept f1
  obtain ⟨o8, k8, h8, r8⟩ := (unhide HM8).kept f1
  obtain ⟨x4, y4, z4, -⟩ := h4.facts w1 (Fr.refl _ _)
  obtain ⟨x8, y8, z8, -⟩ := h8.facts w1 (Fr.refl _ _)
  have HC2 := hide (same_any w1 r2 c2 r2 c2 _ _ lb lb r8 r4)
  rw [show decide (r2 = r2 ∧ c2 = c2 ∧ lb = lb) = true by simp] at HC2
  have F1 := hide f1
  clear r4 r8 h4 h8 f1 HC HM4 HM8
  go_wp2_with fail
  refine (unhide HC2).mono ?_
  rintro e w2 ⟨rfl, f2⟩
  have F2 := hide f2
  clear f2 HC2
  go_wp2_with (go_at_call 15; refine (live_any _).mono ?_; rintro e w3 ⟨rfl, f3⟩)
  exact unhide HQ _ _ _ _ _ _ _ _ _ _ _ _ (((unhide F1).trans (unhide F2) (fun _ _ h => h)).trans f3 (fun _ _ h => h))
end Go.Proofs.Ytckmddkhkdcmmaa
