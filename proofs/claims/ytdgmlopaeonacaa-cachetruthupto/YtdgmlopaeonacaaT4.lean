/-
  CacheTruth: what went home, act by act.
-/
import Derived.Test.YtdgmlopaeonacaaT0
namespace Go.Proofs.Ytdgmlopaeonacaa
open Go.RowKit
set_option linter.unusedVariables false
set_option linter.unusedSimpArgs false

attribute [local go_sem ↓] Go.wp_at_zero Go.wp_at_succ

noncomputable def blk5 : Code := ((Try.f4.body.bind (blkOf 5)).getD .skip)
set_option maxRecDepth 100000 in
set_option maxHeartbeats 16000000 in
theorem truth_log {w w5 : World} {p h r u gw ga n pl L i lg sf5 cap bb oo : Nat} {c5 : Ca} {m m5 : Hm} {l5 : List Pl} {want5 : List (List UInt8)} {last5 : List Nat} {dv : Value} {u6 u17 u18 u19 u23 u24 u25 u26 u27 u28 u29 u30 u31 u32 u33 u34 u35 u36 u37 u38 u39 u40 u41 u42 u43 u44 u45 u46 u47 u48 u49 u50 u51 u52 u53 u54 u55 u56 u57 u58 u59 u60 u61 u62 u63 u64 u65 u66 u67 u68 u69 u70 u71 u72 u73 u74 u75 u76 u77 u78 u79 u80 u81 u82 u83 u84 u85 u86 u87 u88 u89 u90 u91 u92 u93 u94 u95 u96 u97 u98 u99 u100 u101 u102 u103 u104 u105 u106 u107 u108 u109 u110 u111 u112 u113 u114 u115 u116 u117 u118 u119 u120 u121 u122 u123 u124 u125 u126 u127 u128 u129 u130 u131 u132 u133 u134 u135 u136 u137 u138 u139 u140 u141 u142 u143 u144 u145 u146 u147 u148 u149 u150 u151 u152 u153 u154 u155 u156 u157 u158 u159 u160 u161 u162 u163 u164 u165 u166 u167 u168 u169 u170 u171 u172 u173 u174 u175 u176 u177 u178 u179 u180 u181 u182 u183 u184 u185 u186 u187 u188 u189 u190 u191 u192 u193 u194 u195 u196 u197 u198 u199 u200 u201 u202 u203 u204 u205 u206 u207 u208 u209 u210 u211 u212 u213 u214 u215 u216 u217 u218 u219 u220 u221 u222 u223 u224 u225 u226 u227 u228 u229 u230 u231 u232 u233 u234 u235 u236 u237 u238 u239 u240 u241 u242 u243 u244 u245 u246 u247 u248 u249 u250 u251 u252 u253 u254 u255 u256 u257 u258 u259 u260 u261 u262 u263 u264 u265 u266 u267 u268 u269 u270 u271 u272 u273 u274 u275 u276 u277 u278 u279 u280 u281 u282 u283 u284 u285 u286 u287 u288 u289 u290 u291 u292 u293 u294 u295 u296 u297 u298 : Value} {Q : Exit → Act → World → Prop}
    (hL2 : L ≤ 200) (hlt : i < L) (hp2 : pl ≤ 4096) (HSF : Hid (sf5 = c5.safe)) (HLG0 : Hid (lg = m.log.length)) (HS5 : Hid (LS w w5 p h r u dv gw (gw + 1) n pl (i + 1) c5 m5 l5 want5 last5)) (HLG : Hid (LgC sf5 want5 last5 m m5))
    (hQ : ∀ (y6 y20 y193 y194 y195 y196 y197 y198 y199 y200 y201 y202 y203 y204 y205 y206 y207 y208 y209 y210 y211 y212 y213 y214 y215 y216 y217 y218 y219 y220 y221 y222 y223 y224 y225 y226 y227 y228 y229 y230 y231 y232 y233 y234 y235 y236 y237 y238 y239 y240 : Value) (W : World), LS w W p h r u dv gw (gw + 1) n pl (i + 1) c5 m5 l5 want5 last5 → Q .normal ⟨#[.int .i64 (n : Int), .int .i64 (pl : Int), .slice (some ⟨bb, oo, none⟩) L cap, undef, undef, undef, y6, .pointer (some ⟨h, 0, none⟩), .pointer (some ⟨p, 0, none⟩), .int .i64 0, .slice (some ⟨gw, 0, none⟩) n n, .slice (some ⟨gw + 1, 0, none⟩) n n, .int .u64 (sf5 : Int), .int .i64 (n : Int), .int .i64 (i : Int), .pointer (some ⟨ga, 0, none⟩), .int .i64 (lg : Int), u17, u18, u19, y20, undef, undef, u23, u24, u25, u26, u27, u28, u29, u30, u31, u32, u33, u34, u35, u36, u37, u38, u39, u40, u41, u42, u43, u44, u45, u46, u47, u48, u49, u50, u51, u52, u53, u54, u55, u56, u57, u58, u59, u60, u61, u62, u63, u64, u65, u66, u67, u68, u69, u70, u71, u72, u73, u74, u75, u76, u77, u78, u79, u80, u81, u82, u83, u84, u85, u86, u87, u88, u89, u90, u91, u92, u93, u94, u95, u96, u97, u98, u99, u100, u101, u102, u103, u104, u105, u106, u107, u108, u109, u110, u111, u112, u113, u114, u115, u116, u117, u118, u119, u120, u121, u122, u123, u124, u125, u126, u127, u128, u129, u130, u131, u132, u133, u134, u135, u136, u137, u138, u139, u140, u141, u142, u143, u144, u145, u146, u147, u148, u149, u150, u151, u152, u153, u154, u155, u156, u157, u158, u159, u160, u161, u162, u163, u164, u165, u166, u167, u168, u169, u170, u171, u172, u173, u174, u175, u176, u177, u178, u179, u180, u181, u182, u183, u184, u185, u186, u187, u188, u189, u190, u191, u192, y193, y194, y195, y196, y197, y198, y199, y200, y201, y202, y203, y204, y205, y206, y207, y208, y209, y210, y211, y212, y213, y214, y215, y216, y217, y218, y219, y220, y221, y222, y223, y224, y225, y226, y227, y228, y229, y230, y231, y232, y233, y234, y235, y236, y237, y238, y239, y240, u241, u242, u243, u244, u245, u246, u247, u248, u249, u250, u251, u252, u253, u254, u255, u256, u257, u258, u259, u260, u261, u262, u263, u264, u265, u266, u267, u268, u269, u270, u271, u272, u273, u274, u275, u276, u277, u278, u279, u280, u281, u282, u283, u284, u285, u286, u287, u288, u289, u290, u291, u292, u293, u294, u295, u296, u297, u298], []⟩ W) : Code.wp Try.prog blk5 Q ⟨#[.int .i64 (n : Int), .int .i64 (pl : Int), .slice (some ⟨bb, oo, none⟩) L cap, undef, undef, undef, u6, .pointer (some ⟨h, 0, none⟩), .pointer (some ⟨p, 0, none⟩), .int .i64 0, .slice (some ⟨gw, 0, none⟩) n n, .slice (some ⟨gw + 1, 0, none⟩) n n, .int .u64 (sf5 : Int), .int .i64 (n : Int), .int .i64 (i : Int), .pointer (some ⟨ga, 0, none⟩), .int .i64 (lg : Int), u17, u18, u19, .int .i64 (lg : Int), undef, undef, u23, u24, u25, u26, u27, u28, u29, u30, u31, u32, u33, u34, u35, u36, u37, u38, u39, u40, u41, u42, u43, u44, u45, u46, u47, u48, u49, u50, u51, u52, u53, u54, u55, u56, u57, u58, u59, u60, u61, u62, u63, u64, u65, u66, u67, u68, u69, u70, u71, u72, u73, u74, u75, u76, u77, u78, u79, u80, u81, u82, u83, u84, u85, u86, u87, u88, u89, u90, u91, u92, u93, u94, u95, u96, u97, u98, u99, u100, u101, u102, u103, u104, u105, u106, u107, u108, u109, u110, u111, u112, u113, u114, u115, u116, u117, u118, u119, u120, u121, u122, u123, u124, u125, u126, u127, u128, u129, u130, u131, u132, u133, u134, u135, u136, u137, u138, u139, u140, u141, u142, u143, u144, u145, u146, u147, u148, u149, u150, u151, u152, u153, u154, u155, u156, u157, u158, u159, u160, u161, u162, u163, u164, u165, u166, u167, u168, u169, u170, u171, u172, u173, u174, u175, u176, u177, u178, u179, u180, u181, u182, u183, u184, u185, u186, u187, u188, u189, u190, u191, u192, u193, u194, u195, u196, u197, u198, u199, u200, u201, u202, u203, u204, u205, u206, u207, u208, u209, u210, u211, u212, u213, u214, u215, u216, u217, u218, u219, u220, u221, u222, u223, u224, u225, u226, u227, u228, u229, u230, u231, u232, u233, u234, u235, u236, u237, u238, u239, u240, u241, u242, u243, u244, u245, u246, u247, u248, u249, u250, u251, u252, u253, u254, u255, u256, u257, u258, u259, u260, u261, u262, u263, u264, u265, u266, u267, u268, u269, u270, u271, u272, u273, u274, u275, u276, u277, u278, u279, u280, u281, u282, u283, u284, u285, u286, u287, u288, u289, u290, u291, u292, u293, u294, u295, u296, u297, u298], []⟩ w5 := by
  conv => arg 2; whnf
  obtain ⟨lo5, lc5, hg5, hr5⟩ := cs_log (unhide HS5).cs
  obtain ⟨N5, hN5⟩ : ∃ N5, N5 = m5.log.length := ⟨_, rfl⟩
  have hle5 : lg ≤ N5 := by have h1 := (unhide HLG).le; have h2 := unhide HLG0; omega
  rw [← hN5] at hg5 hr5
  have hNb : N5 ≤ 2000000 := by
    obtain ⟨lv9, vs9, L9, R9, k1, k2, -⟩ := (unhide HS5).cs
    have h1 := k2.ok.log
    have h2 := (unhide HS5).calls
    have h3 : (i + 1) * 5000 ≤ 201 * 5000 := Nat.mul_le_mul_right _ (by omega)
    omega
  have HN5 := hide hN5
  clear hr5 hN5
  go_wp2_with fail
  go_loopw [20] (fun y W => ∃ j : Nat, lg ≤ j ∧ j ≤ N5 ∧ y = .int .i64 (j : Int) ∧ LS w W p h r u dv gw (gw + 1) n pl (i + 1) c5 m5 l5 want5 last5) (fun y _ => N5 - (intOf y).toNat)
  case atStart => exact ⟨lg, Nat.le_refl _, hle5, rfl, unhide HS5⟩
  case round =>
    clear HS5 hg5
    obtain ⟨j, hj1, hj2, rfl, hS6⟩ := hrel
    have HS6 := hide hS6
    obtain ⟨lo6, lc6, hg6, hr6⟩ := cs_log hS6.cs
    by_cases hj : j < N5
    · have hjm : j < m5.log.length := by have := unhide HN5; omega
      obtain ⟨jj, hx1, hx2, hx3, vv, hx4, hx5⟩ := (unhide HLG).x j (by have := unhide HLG0; omega) hjm
      obtain ⟨d, hd⟩ : ∃ d, m5.D[jj]? = some d := ⟨_, List.getElem?_eq_getElem hx2⟩
      have hwd : want5[jj]? = some d := by rw [← hx3]; exact hd
      obtain ⟨g6, dc6, b6, rfl, he1, he2, he3, he4, hB6⟩ := cs_home hS6.cs jj d hd
      obtain ⟨q6, o6, rfl, -, hq1, hq2, hq3⟩ := hr6.lits (by rw [ivs_length]; omega)
      have hq4 := hq3 j (by rw [ivs_length]; omega)
      have hq5 : (ivs m5.log)[j]'(by rw [ivs_length]; omega) = .int .i64 (jj : Int) := by
        have : (ivs m5.log)[j]? = some (.int .i64 (jj : Int)) := by unfold ivs; rw [List.getElem?_map, hx1]; rfl
        exact (List.getElem?_eq_some_iff.1 this).2
      rw [hq5] at hq4
      have hcu := hS6.ul.cell hx4
      have hcs := hS6.sw.cell hwd
      have hd3 : d.length = 384 := by
        obtain ⟨lv9, vs9, L9, R9, k1, k2, -⟩ := hS6.cs
        exact k2.ok.all d (List.mem_of_getElem? hd)
      have hrB := hB6.rd (by rw [hd3]; decide)
      rw [hd3] at hrB
      have HRB := hide hrB
      obtain ⟨sd, hsd⟩ : ∃ sd, sd = str d := ⟨_, rfl⟩
      rw [← hsd] at hcs
      have HSD := hide hsd
      have hn6 := hS6.n
      rw [hn6] at he1 he2 he3 hx2
      rw [← unhide HN5] at hg6 hq1
      have hgt : decide ((sf5 : Int) < (vv : Int)) = false := by have := unhide HSF; simp; omega
      have hgt2 : decide (sf5 < vv) = false := by have := unhide HSF; simp; omega
      clear hS6 hr6 hx1 hx3 hx4 hd hwd hB6 hd3 hn6 hq3 hq5 hjm hrB hsd
      go_wp2_with fail
      refine wp_region_quiet_lit (by kernel_rfl) (by kernel_rfl) ?_
      iterate 26 go_big_quiet_step (fail)
      refine wpQuiet_val (by rfl) (.string sd) (fun W hW => by
        obtain ⟨nn, rfl⟩ := hW
        rw [unhide HSD]
        exact x_conv rfl rfl (conv_rd (P := Try.prog) ((unhide HRB).kept (Fr.ofDrewN _ _) (fun _ _ h => h)) 37 9 5 Try.underlying37 Try.underlying5 Try.underlying9)) ?_
      simp only [Act.put, List.setIfInBounds_toArray, List.set_cons_zero, List.set_cons_succ]
      iterate 12 go_big_quiet_step (fail)
      refine wpQuiet_nil ?_
      intro _ hw'
      obtain ⟨nq, hw''⟩ := hw'
      subst hw''
      go_wp2_with fail
      go_roundw
      case rel => exact ⟨j + 1, by omega, by omega, by go_num, (unhide HS6).fr (Fr.ofDrewN _ _)⟩
      case measure => simp [intOf]; omega
    · have hje : N5 = j := by omega
      clear hr6 hS6 hj hj2
      rw [← unhide HN5] at hg6
      subst hje
      unfold ptr at *
      go_wp2_with fail
      exact unhide HS6
end Go.Proofs.Ytdgmlopaeonacaa
