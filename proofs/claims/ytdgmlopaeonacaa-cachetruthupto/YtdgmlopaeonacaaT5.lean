/-
  CacheTruth: home against what was written last.
-/
import Derived.Test.YtdgmlopaeonacaaT0
namespace Go.Proofs.Ytdgmlopaeonacaa
open Go.RowKit
set_option linter.unusedVariables false
set_option linter.unusedSimpArgs false

attribute [local go_sem ↓] Go.wp_at_zero Go.wp_at_succ


noncomputable def blk7 : Code := ((Try.f4.body.bind (blkOf 7)).getD .skip)
set_option maxRecDepth 100000 in
set_option maxHeartbeats 16000000 in
theorem truth_hold7 {w w5 : World} {p h r u gw n pl k : Nat} {c : Ca} {mm : Hm} {ll : List Pl} {want : List (List UInt8)} {last : List Nat} {dv : Value} {u1 u2 u3 u4 u5 u6 u8 u9 u11 u12 u13 u14 u15 u16 u17 u18 u19 u20 u22 u23 u24 u25 u26 u27 u28 u29 u30 u31 u32 u33 u34 u35 u36 u37 u38 u39 u40 u41 u42 u43 u44 u45 u46 u47 u48 u49 u50 u51 u52 u53 u54 u55 u56 u57 u58 u59 u60 u61 u62 u63 u64 u65 u66 u67 u68 u69 u70 u71 u72 u73 u74 u75 u76 u77 u78 u79 u80 u81 u82 u83 u84 u85 u86 u87 u88 u89 u90 u91 u92 u93 u94 u95 u96 u97 u98 u99 u100 u101 u102 u103 u104 u105 u106 u107 u108 u109 u110 u111 u112 u113 u114 u115 u116 u117 u118 u119 u120 u121 u122 u123 u124 u125 u126 u127 u128 u129 u130 u131 u132 u133 u134 u135 u136 u137 u138 u139 u140 u141 u142 u143 u144 u145 u146 u147 u148 u149 u150 u151 u152 u153 u154 u155 u156 u157 u158 u159 u160 u161 u162 u163 u164 u165 u166 u167 u168 u169 u170 u171 u172 u173 u174 u175 u176 u177 u178 u179 u180 u181 u182 u183 u184 u185 u186 u187 u188 u189 u190 u191 u192 u193 u194 u195 u196 u197 u198 u199 u200 u201 u202 u203 u204 u205 u206 u207 u208 u209 u210 u211 u212 u213 u214 u215 u216 u217 u218 u219 u220 u221 u222 u223 u224 u225 u226 u227 u228 u229 u230 u231 u232 u233 u234 u235 u236 u237 u238 u239 u240 u241 u242 u243 u244 u245 u246 u247 u248 u249 u250 u251 u252 u253 u254 u255 u256 u257 u258 u259 u260 u261 u262 u263 u264 u265 u266 u267 u268 u269 u270 u271 u272 u273 u274 u275 u276 u277 u278 u279 u280 u281 u282 u283 u284 u285 u286 u287 u288 u289 u290 u291 u292 u293 u294 u295 u296 u297 u298 : Value} {Q : Exit → Act → World → Prop}
    (hn2 : n ≤ 40) (HS0 : Hid (LS w w5 p h r u dv gw (gw + 1) n pl k c mm ll want last)) (HD0 : Hid (mm.D = want))
    (hQ : ∀ (y6 y21 y250 y251 y252 y253 y254 y255 y256 y257 y258 y259 y260 y261 y262 y263 y264 y265 y266 y267 : Value) (W : World), LS w W p h r u dv gw (gw + 1) n pl k c mm ll want last → Q .normal ⟨#[.int .i64 (n : Int), u1, u2, u3, u4, u5, y6, .pointer (some ⟨h, 0, none⟩), u8, u9, .slice (some ⟨gw, 0, none⟩) n n, u11, u12, u13, u14, u15, u16, u17, u18, u19, u20, y21, u22, u23, u24, u25, u26, u27, u28, u29, u30, u31, u32, u33, u34, u35, u36, u37, u38, u39, u40, u41, u42, u43, u44, u45, u46, u47, u48, u49, u50, u51, u52, u53, u54, u55, u56, u57, u58, u59, u60, u61, u62, u63, u64, u65, u66, u67, u68, u69, u70, u71, u72, u73, u74, u75, u76, u77, u78, u79, u80, u81, u82, u83, u84, u85, u86, u87, u88, u89, u90, u91, u92, u93, u94, u95, u96, u97, u98, u99, u100, u101, u102, u103, u104, u105, u106, u107, u108, u109, u110, u111, u112, u113, u114, u115, u116, u117, u118, u119, u120, u121, u122, u123, u124, u125, u126, u127, u128, u129, u130, u131, u132, u133, u134, u135, u136, u137, u138, u139, u140, u141, u142, u143, u144, u145, u146, u147, u148, u149, u150, u151, u152, u153, u154, u155, u156, u157, u158, u159, u160, u161, u162, u163, u164, u165, u166, u167, u168, u169, u170, u171, u172, u173, u174, u175, u176, u177, u178, u179, u180, u181, u182, u183, u184, u185, u186, u187, u188, u189, u190, u191, u192, u193, u194, u195, u196, u197, u198, u199, u200, u201, u202, u203, u204, u205, u206, u207, u208, u209, u210, u211, u212, u213, u214, u215, u216, u217, u218, u219, u220, u221, u222, u223, u224, u225, u226, u227, u228, u229, u230, u231, u232, u233, u234, u235, u236, u237, u238, u239, u240, u241, u242, u243, u244, u245, u246, u247, u248, u249, y250, y251, y252, y253, y254, y255, y256, y257, y258, y259, y260, y261, y262, y263, y264, y265, y266, y267, u268, u269, u270, u271, u272, u273, u274, u275, u276, u277, u278, u279, u280, u281, u282, u283, u284, u285, u286, u287, u288, u289, u290, u291, u292, u293, u294, u295, u296, u297, u298], []⟩ W) : Code.wp Try.prog blk7 Q ⟨#[.int .i64 (n : Int), u1, u2, u3, u4, u5, u6, .pointer (some ⟨h, 0, none⟩), u8, u9, .slice (some ⟨gw, 0, none⟩) n n, u11, u12, u13, u14, u15, u16, u17, u18, u19, u20, .int .i64 0, u22, u23, u24, u25, u26, u27, u28, u29, u30, u31, u32, u33, u34, u35, u36, u37, u38, u39, u40, u41, u42, u43, u44, u45, u46, u47, u48, u49, u50, u51, u52, u53, u54, u55, u56, u57, u58, u59, u60, u61, u62, u63, u64, u65, u66, u67, u68, u69, u70, u71, u72, u73, u74, u75, u76, u77, u78, u79, u80, u81, u82, u83, u84, u85, u86, u87, u88, u89, u90, u91, u92, u93, u94, u95, u96, u97, u98, u99, u100, u101, u102, u103, u104, u105, u106, u107, u108, u109, u110, u111, u112, u113, u114, u115, u116, u117, u118, u119, u120, u121, u122, u123, u124, u125, u126, u127, u128, u129, u130, u131, u132, u133, u134, u135, u136, u137, u138, u139, u140, u141, u142, u143, u144, u145, u146, u147, u148, u149, u150, u151, u152, u153, u154, u155, u156, u157, u158, u159, u160, u161, u162, u163, u164, u165, u166, u167, u168, u169, u170, u171, u172, u173, u174, u175, u176, u177, u178, u179, u180, u181, u182, u183, u184, u185, u186, u187, u188, u189, u190, u191, u192, u193, u194, u195, u196, u197, u198, u199, u200, u201, u202, u203, u204, u205, u206, u207, u208, u209, u210, u211, u212, u213, u214, u215, u216, u217, u218, u219, u220, u221, u222, u223, u224, u225, u226, u227, u228, u229, u230, u231, u232, u233, u234, u235, u236, u237, u238, u239, u240, u241, u242, u243, u244, u245, u246, u247, u248, u249, u250, u251, u252, u253, u254, u255, u256, u257, u258, u259, u260, u261, u262, u263, u264, u265, u266, u267, u268, u269, u270, u271, u272, u273, u274, u275, u276, u277, u278, u279, u280, u281, u282, u283, u284, u285, u286, u287, u288, u289, u290, u291, u292, u293, u294, u295, u296, u297, u298], []⟩ w5 := by
  conv => arg 2; whnf
  go_wp2_with fail
  go_loopw [21] (fun y W => ∃ j : Nat, j ≤ n ∧ y = .int .i64 (j : Int) ∧ LS w W p h r u dv gw (gw + 1) n pl k c mm ll want last) (fun y _ => n - (intOf y).toNat)
  case atStart => exact ⟨0, by omega, rfl, unhide HS0⟩
  case round =>
    clear HS0
    obtain ⟨j, hj2, rfl, hS6⟩ := hrel
    have HS6 := hide hS6
    by_cases hj : j < n
    · have hjm : j < (mm).D.length := by rw [hS6.n]; exact hj
      obtain ⟨d, hd⟩ : ∃ d, (mm).D[j]? = some d := ⟨_, List.getElem?_eq_getElem hjm⟩
      have hwd : want[j]? = some d := by rw [← unhide HD0]; exact hd
      obtain ⟨g6, dc6, b6, rfl, he1, he2, he3, he4, hB6⟩ := cs_home hS6.cs j d hd
      have hcs := hS6.sw.cell hwd
      have hd3 : d.length = 384 := by
        obtain ⟨lv9, vs9, L9, R9, k1, k2, -⟩ := hS6.cs
        exact k2.ok.all d (List.mem_of_getElem? hd)
      have hrB := hB6.rd (by rw [hd3]; decide)
      rw [hd3] at hrB
      have HRB := hide hrB
      obtain ⟨sd, hsd⟩ : ∃ sd, sd = str d := ⟨_, rfl⟩
      rw [← hsd] at hcs
      have HSD := hide hsd
      have hn6 := hS6.n
      rw [hn6] at he1 he2 he3
      clear hS6 hd hwd hB6 hd3 hn6 hjm hrB hsd
      go_wp2_with fail
      refine wp_region_quiet_lit (by kernel_rfl) (by kernel_rfl) ?_
      iterate 7 go_big_quiet_step (fail)
      refine wpQuiet_val (by rfl) (.string sd) (fun W hW => by
        obtain ⟨nn, rfl⟩ := hW
        rw [unhide HSD]
        exact x_conv rfl rfl (conv_rd (P := Try.prog) ((unhide HRB).kept (Fr.ofDrewN _ _) (fun _ _ h => h)) 37 9 5 Try.underlying37 Try.underlying5 Try.underlying9)) ?_
      simp only [Act.put, List.setIfInBounds_toArray, List.set_cons_zero, List.set_cons_succ]
      iterate 5 go_big_quiet_step (fail)
      refine wpQuiet_nil ?_
      intro _ hw'
      obtain ⟨nq, hw''⟩ := hw'
      subst hw''
      go_wp2_with fail
      go_roundw
      case rel => exact ⟨j + 1, by omega, by go_num, (unhide HS6).fr (Fr.ofDrewN _ _)⟩
      case measure => simp [intOf]; omega
    · have hje : n = j := by omega
      clear hS6 hj hj2
      have HS9 := HS6
      clear HS6
      subst hje
      go_wp2_with fail
      exact unhide HS9

noncomputable def blk9 : Code := ((Try.f4.body.bind (blkOf 9)).getD .skip)
set_option maxRecDepth 100000 in
set_option maxHeartbeats 16000000 in
theorem truth_hold9 {w w5 : World} {p h r u gw n pl k : Nat} {c : Ca} {mm : Hm} {ll : List Pl} {want : List (List UInt8)} {last : List Nat} {dv : Value} {u1 u2 u3 u4 u5 u6 u8 u9 u11 u12 u13 u14 u15 u16 u17 u18 u19 u20 u21 u23 u24 u25 u26 u27 u28 u29 u30 u31 u32 u33 u34 u35 u36 u37 u38 u39 u40 u41 u42 u43 u44 u45 u46 u47 u48 u49 u50 u51 u52 u53 u54 u55 u56 u57 u58 u59 u60 u61 u62 u63 u64 u65 u66 u67 u68 u69 u70 u71 u72 u73 u74 u75 u76 u77 u78 u79 u80 u81 u82 u83 u84 u85 u86 u87 u88 u89 u90 u91 u92 u93 u94 u95 u96 u97 u98 u99 u100 u101 u102 u103 u104 u105 u106 u107 u108 u109 u110 u111 u112 u113 u114 u115 u116 u117 u118 u119 u120 u121 u122 u123 u124 u125 u126 u127 u128 u129 u130 u131 u132 u133 u134 u135 u136 u137 u138 u139 u140 u141 u142 u143 u144 u145 u146 u147 u148 u149 u150 u151 u152 u153 u154 u155 u156 u157 u158 u159 u160 u161 u162 u163 u164 u165 u166 u167 u168 u169 u170 u171 u172 u173 u174 u175 u176 u177 u178 u179 u180 u181 u182 u183 u184 u185 u186 u187 u188 u189 u190 u191 u192 u193 u194 u195 u196 u197 u198 u199 u200 u201 u202 u203 u204 u205 u206 u207 u208 u209 u210 u211 u212 u213 u214 u215 u216 u217 u218 u219 u220 u221 u222 u223 u224 u225 u226 u227 u228 u229 u230 u231 u232 u233 u234 u235 u236 u237 u238 u239 u240 u241 u242 u243 u244 u245 u246 u247 u248 u249 u250 u251 u252 u253 u254 u255 u256 u257 u258 u259 u260 u261 u262 u263 u264 u265 u266 u267 u268 u269 u270 u271 u272 u273 u274 u275 u276 u277 u278 u279 u280 u281 u282 u283 u284 u285 u286 u287 u288 u289 u290 u291 u292 u293 u294 u295 u296 u297 u298 : Value} {Q : Exit → Act → World → Prop}
    (hn2 : n ≤ 40) (HS0 : Hid (LS w w5 p h r u dv gw (gw + 1) n pl k c mm ll want last)) (HD0 : Hid (mm.D = want))
    (hQ : ∀ (y6 y22 y280 y281 y282 y283 y284 y285 y286 y287 y288 y289 y290 y291 y292 y293 y294 y295 y296 y297 : Value) (W : World), LS w W p h r u dv gw (gw + 1) n pl k c mm ll want last → Q .normal ⟨#[.int .i64 (n : Int), u1, u2, u3, u4, u5, y6, .pointer (some ⟨h, 0, none⟩), u8, u9, .slice (some ⟨gw, 0, none⟩) n n, u11, u12, u13, u14, u15, u16, u17, u18, u19, u20, u21, y22, u23, u24, u25, u26, u27, u28, u29, u30, u31, u32, u33, u34, u35, u36, u37, u38, u39, u40, u41, u42, u43, u44, u45, u46, u47, u48, u49, u50, u51, u52, u53, u54, u55, u56, u57, u58, u59, u60, u61, u62, u63, u64, u65, u66, u67, u68, u69, u70, u71, u72, u73, u74, u75, u76, u77, u78, u79, u80, u81, u82, u83, u84, u85, u86, u87, u88, u89, u90, u91, u92, u93, u94, u95, u96, u97, u98, u99, u100, u101, u102, u103, u104, u105, u106, u107, u108, u109, u110, u111, u112, u113, u114, u115, u116, u117, u118, u119, u120, u121, u122, u123, u124, u125, u126, u127, u128, u129, u130, u131, u132, u133, u134, u135, u136, u137, u138, u139, u140, u141, u142, u143, u144, u145, u146, u147, u148, u149, u150, u151, u152, u153, u154, u155, u156, u157, u158, u159, u160, u161, u162, u163, u164, u165, u166, u167, u168, u169, u170, u171, u172, u173, u174, u175, u176, u177, u178, u179, u180, u181, u182, u183, u184, u185, u186, u187, u188, u189, u190, u191, u192, u193, u194, u195, u196, u197, u198, u199, u200, u201, u202, u203, u204, u205, u206, u207, u208, u209, u210, u211, u212, u213, u214, u215, u216, u217, u218, u219, u220, u221, u222, u223, u224, u225, u226, u227, u228, u229, u230, u231, u232, u233, u234, u235, u236, u237, u238, u239, u240, u241, u242, u243, u244, u245, u246, u247, u248, u249, u250, u251, u252, u253, u254, u255, u256, u257, u258, u259, u260, u261, u262, u263, u264, u265, u266, u267, u268, u269, u270, u271, u272, u273, u274, u275, u276, u277, u278, u279, y280, y281, y282, y283, y284, y285, y286, y287, y288, y289, y290, y291, y292, y293, y294, y295, y296, y297, u298], []⟩ W) : Code.wp Try.prog blk9 Q ⟨#[.int .i64 (n : Int), u1, u2, u3, u4, u5, u6, .pointer (some ⟨h, 0, none⟩), u8, u9, .slice (some ⟨gw, 0, none⟩) n n, u11, u12, u13, u14, u15, u16, u17, u18, u19, u20, u21, .int .i64 0, u23, u24, u25, u26, u27, u28, u29, u30, u31, u32, u33, u34, u35, u36, u37, u38, u39, u40, u41, u42, u43, u44, u45, u46, u47, u48, u49, u50, u51, u52, u53, u54, u55, u56, u57, u58, u59, u60, u61, u62, u63, u64, u65, u66, u67, u68, u69, u70, u71, u72, u73, u74, u75, u76, u77, u78, u79, u80, u81, u82, u83, u84, u85, u86, u87, u88, u89, u90, u91, u92, u93, u94, u95, u96, u97, u98, u99, u100, u101, u102, u103, u104, u105, u106, u107, u108, u109, u110, u111, u112, u113, u114, u115, u116, u117, u118, u119, u120, u121, u122, u123, u124, u125, u126, u127, u128, u129, u130, u131, u132, u133, u134, u135, u136, u137, u138, u139, u140, u141, u142, u143, u144, u145, u146, u147, u148, u149, u150, u151, u152, u153, u154, u155, u156, u157, u158, u159, u160, u161, u162, u163, u164, u165, u166, u167, u168, u169, u170, u171, u172, u173, u174, u175, u176, u177, u178, u179, u180, u181, u182, u183, u184, u185, u186, u187, u188, u189, u190, u191, u192, u193, u194, u195, u196, u197, u198, u199, u200, u201, u202, u203, u204, u205, u206, u207, u208, u209, u210, u211, u212, u213, u214, u215, u216, u217, u218, u219, u220, u221, u222, u223, u224, u225, u226, u227, u228, u229, u230, u231, u232, u233, u234, u235, u236, u237, u238, u239, u240, u241, u242, u243, u244, u245, u246, u247, u248, u249, u250, u251, u252, u253, u254, u255, u256, u257, u258, u259, u260, u261, u262, u263, u264, u265, u266, u267, u268, u269, u270, u271, u272, u273, u274, u275, u276, u277, u278, u279, u280, u281, u282, u283, u284, u285, u286, u287, u288, u289, u290, u291, u292, u293, u294, u295, u296, u297, u298], []⟩ w5 := by
  conv => arg 2; whnf
  go_wp2_with fail
  go_loopw [22] (fun y W => ∃ j : Nat, j ≤ n ∧ y = .int .i64 (j : Int) ∧ LS w W p h r u dv gw (gw + 1) n pl k c mm ll want last) (fun y _ => n - (intOf y).toNat)
  case atStart => exact ⟨0, by omega, rfl, unhide HS0⟩
  case round =>
    clear HS0
    obtain ⟨j, hj2, rfl, hS6⟩ := hrel
    have HS6 := hide hS6
    by_cases hj : j < n
    · have hjm : j < (mm).D.length := by rw [hS6.n]; exact hj
      obtain ⟨d, hd⟩ : ∃ d, (mm).D[j]? = some d := ⟨_, List.getElem?_eq_getElem hjm⟩
      have hwd : want[j]? = some d := by rw [← unhide HD0]; exact hd
      obtain ⟨g6, dc6, b6, rfl, he1, he2, he3, he4, hB6⟩ := cs_home hS6.cs j d hd
      have hcs := hS6.sw.cell hwd
      have hd3 : d.length = 384 := by
        obtain ⟨lv9, vs9, L9, R9, k1, k2, -⟩ := hS6.cs
        exact k2.ok.all d (List.mem_of_getElem? hd)
      have hrB := hB6.rd (by rw [hd3]; decide)
      rw [hd3] at hrB
      have HRB := hide hrB
      obtain ⟨sd, hsd⟩ : ∃ sd, sd = str d := ⟨_, rfl⟩
      rw [← hsd] at hcs
      have HSD := hide hsd
      have hn6 := hS6.n
      rw [hn6] at he1 he2 he3
      clear hS6 hd hwd hB6 hd3 hn6 hjm hrB hsd
      go_wp2_with fail
      refine wp_region_quiet_lit (by kernel_rfl) (by kernel_rfl) ?_
      iterate 7 go_big_quiet_step (fail)
      refine wpQuiet_val (by rfl) (.string sd) (fun W hW => by
        obtain ⟨nn, rfl⟩ := hW
        rw [unhide HSD]
        exact x_conv rfl rfl (conv_rd (P := Try.prog) ((unhide HRB).kept (Fr.ofDrewN _ _) (fun _ _ h => h)) 37 9 5 Try.underlying37 Try.underlying5 Try.underlying9)) ?_
      simp only [Act.put, List.setIfInBounds_toArray, List.set_cons_zero, List.set_cons_succ]
      iterate 5 go_big_quiet_step (fail)
      refine wpQuiet_nil ?_
      intro _ hw'
      obtain ⟨nq, hw''⟩ := hw'
      subst hw''
      go_wp2_with fail
      go_roundw
      case rel => exact ⟨j + 1, by omega, by go_num, (unhide HS6).fr (Fr.ofDrewN _ _)⟩
      case measure => simp [intOf]; omega
    · have hje : n = j := by omega
      clear hS6 hj hj2
      have HS9 := HS6
      clear HS6
      subst hje
      go_wp2_with fail
      exact unhide HS9
end Go.Proofs.Ytdgmlopaeonacaa
