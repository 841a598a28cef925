/-
  CacheTruth: truth_arm0.
-/
import Derived.Test.YtdgmlopaeonacaaT0
namespace Go.Proofs.Ytdgmlopaeonacaa
open Go.RowKit
set_option linter.unusedVariables false
set_option linter.unusedSimpArgs false

attribute [local go_sem ↓] Go.wp_at_zero Go.wp_at_succ

set_option maxRecDepth 100000 in
set_option maxHeartbeats 16000000 in
theorem truth_arm0 {w w4 : World} {p h r u gw ga n pl L i lg pn sf cap bb oo pc ch : Nat} {c : Ca} {m : Hm} {ll : List Pl} {want : List (List UInt8)} {last : List Nat} {kd kb kn : Int} {po : Option Addr} {P : List UInt8} {dv : Value} {bi : Bool} {u6 u18 u19 u20 u23 u24 u25 u26 u27 u28 u29 u30 u31 u32 u33 u34 u35 u36 u37 u38 u39 u40 u41 u42 u43 u44 u45 u46 u47 u48 u49 u50 u51 u52 u53 u54 u55 u56 u57 u58 u59 u60 u61 u62 u63 u64 u65 u66 u67 u68 u69 u70 u71 u72 u73 u74 u75 u76 u77 u78 u79 u80 u81 u82 u83 u84 u85 u86 u87 u88 u89 u90 u91 u92 u93 u94 u95 u96 u97 u98 u99 u100 u101 u102 u104 u105 u106 u107 u108 u109 u110 u111 u112 u113 u114 u115 u116 u117 u118 u119 u120 u121 u122 u123 u124 u125 u126 u127 u128 u129 u130 u131 u132 u133 u134 u135 u136 u137 u138 u139 u140 u141 u142 u143 u144 u145 u146 u147 u148 u149 u150 u151 u152 u153 u154 u155 u156 u157 u158 u159 u160 u161 u162 u163 u164 u165 u166 u167 u168 u169 u170 u171 u172 u173 u174 u175 u176 u177 u178 u179 u180 u181 u182 u183 u184 u185 u186 u187 u188 u189 u190 u191 u192 u193 u194 u195 u196 u197 u198 u199 u200 u201 u202 u203 u204 u205 u206 u207 u208 u209 u210 u211 u212 u213 u214 u215 u216 u217 u218 u219 u220 u221 u222 u223 u224 u225 u226 u227 u228 u229 u230 u231 u232 u233 u234 u235 u236 u237 u238 u239 u240 u241 u242 u243 u244 u245 u246 u247 u248 u249 u250 u251 u252 u253 u254 u255 u256 u257 u258 u259 u260 u261 u262 u263 u264 u265 u266 u267 u268 u269 u270 u271 u272 u273 u274 u275 u276 u277 u278 u279 u280 u281 u282 u283 u284 u285 u286 u287 u288 u289 u290 u291 u292 u293 u294 u295 u296 u297 u298 : Value} {Q : Exit → Act → World → Prop}
    (hL2 : L ≤ 200) (hlt : i < L) (hp2 : pl ≤ 4096) (hch : ch < 18446744073709551616) (hpl : P.length ≤ 1048576) (HSF0 : Hid (sf = c.safe)) (HPN : Hid (pn = P.length)) (HBI : Hid (bi = true ↔ (0 ≤ kb ∧ kb < (n : Int))))
    (HS4 : Hid (LS w w4 p h r u dv gw (gw + 1) n pl i c m ll want last)) (HR4 : Hid (Rd w4 (.slice po pn pc) P)) (HRW : Hid (Rd w (.slice po pn pc) P)) (HA4 : Hid (AAt w4 ga kd kb (.slice po pn pc) ch kn))
    (hQ : ∀ (y12 y6 y18 y19 y104 y105 y106 y107 y108 y109 y110 y111 y112 y113 y114 y115 y116 y117 y118 y119 y120 y121 y122 y123 y124 y125 y126 y127 y128 y129 y130 y131 y132 y133 y134 y135 y136 y137 y138 y139 y140 y141 y142 y143 y144 y145 y146 y147 y148 y149 y150 y151 y152 y153 y154 y155 y156 y157 y158 y159 y160 y161 y162 y163 y164 y165 y166 y167 y168 y169 y170 y171 y172 y173 y174 y175 y176 y177 y178 y179 y180 y181 y182 y183 y184 y185 y186 y187 y188 y189 y190 y191 : Value) (W : World), TrR w W p h r u dv gw n pl i m y12 → Q .normal ⟨#[.int .i64 (n : Int), .int .i64 (pl : Int), .slice (some ⟨bb, oo, none⟩) L cap, undef, undef, undef, y6, .pointer (some ⟨h, 0, none⟩), .pointer (some ⟨p, 0, none⟩), .int .i64 0, .slice (some ⟨gw, 0, none⟩) n n, .slice (some ⟨gw + 1, 0, none⟩) n n, y12, .int .i64 (n : Int), .int .i64 (i : Int), .pointer (some ⟨ga, 0, none⟩), .int .i64 (lg : Int), .bool bi, y18, y19, u20, undef, undef, u23, u24, u25, u26, u27, u28, u29, u30, u31, u32, u33, u34, u35, u36, u37, u38, u39, u40, u41, u42, u43, u44, u45, u46, u47, u48, u49, u50, u51, u52, u53, u54, u55, u56, u57, u58, u59, u60, u61, u62, u63, u64, u65, u66, u67, u68, u69, u70, u71, u72, u73, u74, u75, u76, u77, u78, u79, u80, u81, u82, u83, u84, u85, u86, u87, u88, u89, u90, u91, u92, u93, u94, u95, u96, u97, u98, u99, u100, u101, u102, .int .i64 kd, y104, y105, y106, y107, y108, y109, y110, y111, y112, y113, y114, y115, y116, y117, y118, y119, y120, y121, y122, y123, y124, y125, y126, y127, y128, y129, y130, y131, y132, y133, y134, y135, y136, y137, y138, y139, y140, y141, y142, y143, y144, y145, y146, y147, y148, y149, y150, y151, y152, y153, y154, y155, y156, y157, y158, y159, y160, y161, y162, y163, y164, y165, y166, y167, y168, y169, y170, y171, y172, y173, y174, y175, y176, y177, y178, y179, y180, y181, y182, y183, y184, y185, y186, y187, y188, y189, y190, y191, u192, u193, u194, u195, u196, u197, u198, u199, u200, u201, u202, u203, u204, u205, u206, u207, u208, u209, u210, u211, u212, u213, u214, u215, u216, u217, u218, u219, u220, u221, u222, u223, u224, u225, u226, u227, u228, u229, u230, u231, u232, u233, u234, u235, u236, u237, u238, u239, u240, u241, u242, u243, u244, u245, u246, u247, u248, u249, u250, u251, u252, u253, u254, u255, u256, u257, u258, u259, u260, u261, u262, u263, u264, u265, u266, u267, u268, u269, u270, u271, u272, u273, u274, u275, u276, u277, u278, u279, u280, u281, u282, u283, u284, u285, u286, u287, u288, u289, u290, u291, u292, u293, u294, u295, u296, u297, u298], []⟩ W) (k0 : kd = 0) : Code.wp Try.prog blk4 Q ⟨#[.int .i64 (n : Int), .int .i64 (pl : Int), .slice (some ⟨bb, oo, none⟩) L cap, undef, undef, undef, u6, .pointer (some ⟨h, 0, none⟩), .pointer (some ⟨p, 0, none⟩), .int .i64 0, .slice (some ⟨gw, 0, none⟩) n n, .slice (some ⟨gw + 1, 0, none⟩) n n, .int .u64 (sf : Int), .int .i64 (n : Int), .int .i64 (i : Int), .pointer (some ⟨ga, 0, none⟩), .int .i64 (lg : Int), .bool bi, u18, u19, u20, undef, undef, u23, u24, u25, u26, u27, u28, u29, u30, u31, u32, u33, u34, u35, u36, u37, u38, u39, u40, u41, u42, u43, u44, u45, u46, u47, u48, u49, u50, u51, u52, u53, u54, u55, u56, u57, u58, u59, u60, u61, u62, u63, u64, u65, u66, u67, u68, u69, u70, u71, u72, u73, u74, u75, u76, u77, u78, u79, u80, u81, u82, u83, u84, u85, u86, u87, u88, u89, u90, u91, u92, u93, u94, u95, u96, u97, u98, u99, u100, u101, u102, .int .i64 kd, u104, u105, u106, u107, u108, u109, u110, u111, u112, u113, u114, u115, u116, u117, u118, u119, u120, u121, u122, u123, u124, u125, u126, u127, u128, u129, u130, u131, u132, u133, u134, u135, u136, u137, u138, u139, u140, u141, u142, u143, u144, u145, u146, u147, u148, u149, u150, u151, u152, u153, u154, u155, u156, u157, u158, u159, u160, u161, u162, u163, u164, u165, u166, u167, u168, u169, u170, u171, u172, u173, u174, u175, u176, u177, u178, u179, u180, u181, u182, u183, u184, u185, u186, u187, u188, u189, u190, u191, u192, u193, u194, u195, u196, u197, u198, u199, u200, u201, u202, u203, u204, u205, u206, u207, u208, u209, u210, u211, u212, u213, u214, u215, u216, u217, u218, u219, u220, u221, u222, u223, u224, u225, u226, u227, u228, u229, u230, u231, u232, u233, u234, u235, u236, u237, u238, u239, u240, u241, u242, u243, u244, u245, u246, u247, u248, u249, u250, u251, u252, u253, u254, u255, u256, u257, u258, u259, u260, u261, u262, u263, u264, u265, u266, u267, u268, u269, u270, u271, u272, u273, u274, u275, u276, u277, u278, u279, u280, u281, u282, u283, u284, u285, u286, u287, u288, u289, u290, u291, u292, u293, u294, u295, u296, u297, u298], []⟩ w4 := by
  conv => arg 2; whnf
  obtain ⟨c0, c1, c2, c3, c4⟩ := (unhide HA4).cells
  subst k0
  have HP := hide (ls_read (unhide HS4) (by omega) hp2 kb)
  have HLG := hide (lg_read (unhide HS4) kb)
  have HT := hide (ft_tr (c := c) kb (unhide HS4).tr (unhide HS4).len)
  have hmn := (unhide HS4).n
  obtain ⟨t, ht⟩ : ∃ t, t = ftR c m ll kb := ⟨_, rfl⟩
  rw [← ht] at HP HLG HT
  clear ht
  obtain ⟨e5, l5, m5, c5⟩ := t
  dsimp only at HP HLG HT
  have HSF : Hid (sf = c5.safe) := hide (by rw [(unhide HT).2.2.2.1]; exact unhide HSF0)
  rw [← unhide HSF0, unhide HSF] at HLG
  unfold ptr at *
  by_cases he : e5 = 0
  · subst he
    obtain ⟨⟨hb0, hb1⟩, x, hx1, hx2, hx3⟩ := (unhide HT).2.2.2.2.2 rfl
    rw [hmn] at hb1
    obtain ⟨kk, rfl⟩ : ∃ kk : Nat, kb = (kk : Int) := ⟨kb.toNat, by omega⟩
    rw [Int.toNat_natCast] at hx3
    have hkn : kk < n := by omega
    obtain rfl : bi = true := (unhide HBI).2 ⟨by omega, by omega⟩
    have HX1 := hide hx1
    have HX3 := hide hx3
    clear hb0 hb1 hx1 hx2 hx3 HT hmn
    go_wp2_with fail
    refine (unhide HP).mono ?_
    rintro e w5 ⟨hA, hS5, f5⟩
    obtain ⟨-, x', ao5, cc5, hx', rfl, hr5, hl5, -⟩ := hA.resolve_left (fun h => h.1 rfl)
    dsimp only at hx'
    rw [unhide HX1] at hx'
    obtain rfl : x = x' := by simpa using hx'
    have HS5 := hide hS5
    obtain ⟨-, c1, -, -, -⟩ := ((unhide HA4).kz f5).cells
    have hcs := hS5.sw.cell (unhide HX3)
    obtain ⟨sd, hsd⟩ : ∃ sd, sd = str x.P := ⟨_, rfl⟩
    rw [← hsd] at hcs
    have HSD := hide hsd
    have HRB := hide hr5
    clear hA hx' hS5 f5 hl5 hsd hr5 HP HX1 HX3
    go_wp2_with fail
    refine wp_region_quiet_lit (by kernel_rfl) (by kernel_rfl) ?_
    go_big_quiet_step (fail)
    go_big_quiet_step ((go_at_call 12; exact Calls.quiet_of_same (num_same _ _)))
    iterate 6 go_big_quiet_step (fail)
    refine wpQuiet_val (by rfl) (.string sd) (fun W hW => by
      obtain ⟨nn, rfl⟩ := hW
      rw [unhide HSD]
      exact x_conv rfl rfl (conv_rd (P := Try.prog) ((unhide HRB).kept (Fr.ofDrewN _ _) (fun _ _ h => h)) 37 9 5 Try.underlying37 Try.underlying5 Try.underlying9)) ?_
    simp only [Act.put, List.setIfInBounds_toArray, List.set_cons_zero, List.set_cons_succ]
    iterate 8 go_big_quiet_step (fail)
    refine wpQuiet_nil ?_
    intro _ hw'
    obtain ⟨nq, hw''⟩ := hw'
    subst hw''
    have HS5 := hide ((unhide HS5).fr (Fr.ofDrewN _ nq))
    go_wp2_with fail
    unfold TrR
    exact ⟨_, _, _, _, _, by rw [← unhide HSF], unhide HS5, unhide HLG⟩
  · have qe : (e5 == 0) = false := by simpa using he
    have HNE := hide he
    clear he HT hmn
    go_wp2_with fail
    refine (unhide HP).mono ?_
    rintro e w5 ⟨hA, hS5, f5⟩
    obtain ⟨-, rfl⟩ := hA.resolve_right (fun h => unhide HNE h.1)
    have HS5 := hide hS5
    clear hA hS5 f5 HP
    go_wp2_with fail
    refine wp_region_quiet_lit (by kernel_rfl) (by kernel_rfl) ?_
    go_big_quiet_step (fail)
    go_big_quiet_step ((go_at_call 12; exact Calls.quiet_of_same (num_same _ _)))
    iterate 15 go_big_quiet_step (fail)
    refine wpQuiet_nil ?_
    intro _ hw'
    obtain ⟨nq, hw''⟩ := hw'
    subst hw''
    have HS5 := hide ((unhide HS5).fr (Fr.ofDrewN _ nq))
    go_wp2_with fail
    unfold TrR
    exact ⟨_, _, _, _, _, by rw [← unhide HSF], unhide HS5, unhide HLG⟩
end Go.Proofs.Ytdgmlopaeonacaa
