/-
  Both sides of the codec in one form; the drawn region of JournalBlocks.
  JournalBlocks.
  How arguments come in: bytes, puts; and what a bound on their bulk says.
  Parts that came in.
-/
import Derived.Test.YtgodlfoidjeekaaM12
import Derived.Test.YtgodlfoidjeekaaM07
import Derived.Test.YtgodlfoidjeekaaRows
import Derived.ProofKit
import Derived.OpenShut
import Derived.ChangeOld
import Derived.Below
import Derived.Deep.Slices
namespace Go.Proofs.Ytgodlfoidjeekaa
set_option linter.unusedVariables false
set_option linter.unusedSimpArgs false
open Go.RowKit
set_option linter.unusedVariables false
set_option linter.unusedSimpArgs false

attribute [local go_sem ↓] Go.wp_at_zero Go.wp_at_succ

/-- What PutEntry tells: bytes and a number. -/
def peX (b s p l : Nat) (pt ps : Int) (L : List UInt8) : List UInt8 := if cbB b s p l pt ps L.length = true then enB b s p l pt.toNat ps.toNat L.length L else []
def peC (b s p l : Nat) (pt ps : Int) (L : List UInt8) : Int := if cbB b s p l pt ps L.length = true then 0 else 81
theorem cb_nat {b s p l : Nat} {pt ps : Int} {n : Nat} (h : cbB b s p l pt ps n = true) : (pt.toNat : Int) = pt ∧ (ps.toNat : Int) = ps := by
  obtain ⟨-, ⟨h1, h2, -⟩, -⟩ := cb_of h
  omega
theorem putEntry_one (w : World) (b s p l : Nat) (pt ps : Int) (ao : Option Addr) (cap : Nat) (L : List UInt8) (hL : Rd w (.slice ao L.length cap) L) : Calls Try.prog 11 #[.agg #[.int .u64 (b : Int), .int .u64 (s : Int), .int .u64 (p : Int), .int .u64 (l : Int), .int .i64 pt, .int .i64 ps, .slice ao L.length cap]] w fun e w' => ∃ v, e = .returned (.tuple #[v, .int .i64 (peC b s p l pt ps L)]) ∧ Rd w' v (peX b s p l pt ps L) ∧ Fr (fun _ => False) w w' := by
  unfold peC peX
  by_cases h : cbB b s p l pt ps L.length = true
  · rw [if_pos h, if_pos h]
    obtain ⟨e1, e2⟩ := cb_nat h
    have := putEntry_ok w b s p l pt.toNat ps.toNat ao L.length cap L hL rfl (by rw [e1, e2]; exact h)
    rw [e1, e2] at this
    refine this.mono ?_
    rintro e w' ⟨q, rfl, hb, hq, f⟩
    exact ⟨_, rfl, (rdEn hb (cb_of h).2.2), f⟩
  · rw [if_neg h, if_neg h]
    refine (putEntry_no w b s p l pt ps ao L.length cap (by simpa using h)).mono ?_
    rintro e w' ⟨rfl, f⟩
    exact ⟨_, rfl, Rd.nil _, f⟩
theorem rputEntry_one (w : World) (b s p l : Nat) (pt ps : Int) (ao : Option Addr) (cap : Nat) (L : List UInt8) (hL : Rd w (.slice ao L.length cap) L) : Calls Try.prog 12 #[.agg #[.int .u64 (b : Int), .int .u64 (s : Int), .int .u64 (p : Int), .int .u64 (l : Int), .int .i64 pt, .int .i64 ps, .slice ao L.length cap]] w fun e w' => ∃ v, e = .returned (.tuple #[v, .int .i64 (peC b s p l pt ps L)]) ∧ Rd w' v (peX b s p l pt ps L) ∧ Fr (fun _ => False) w w' := by
  unfold peC peX
  by_cases h : cbB b s p l pt ps L.length = true
  · rw [if_pos h, if_pos h]
    obtain ⟨e1, e2⟩ := cb_nat h
    have := rputEntry_ok w b s p l pt.toNat ps.toNat ao L.length cap L hL rfl (by rw [e1, e2]; exact h)
    rw [e1, e2] at this
    refine this.mono ?_
    rintro e w' ⟨v, rfl, hv⟩
    exact ⟨_, rfl, hv.rd, hv.fr⟩
  · rw [if_neg h, if_neg h]
    refine (rputEntry_no w b s p l pt ps ao L.length cap (by simpa using h)).mono ?_
    rintro e w' ⟨rfl, f⟩
    exact ⟨_, rfl, Rd.nil _, f⟩
/-- What PutSuper tells. -/
def psX (g b p l x y : Nat) : List UInt8 := if sbB g b p l x y = true then suB g b p l x y else []
def psC (g b p l x y : Nat) : Int := if sbB g b p l x y = true then 0 else 81
theorem putSuper_one (w : World) (g b p l x y : Nat) : Calls Try.prog 13 #[.agg #[.int .u64 (g : Int), .int .u64 (b : Int), .int .u64 (p : Int), .int .u64 (l : Int), .int .u64 (x : Int), .int .u64 (y : Int)]] w fun e w' => ∃ v, e = .returned (.tuple #[v, .int .i64 (psC g b p l x y)]) ∧ Rd w' v (psX g b p l x y) ∧ Fr (fun _ => False) w w' := by
  unfold psC psX
  by_cases h : sbB g b p l x y = true
  · rw [if_pos h, if_pos h]
    refine (putSuper_ok w g b p l x y h).mono ?_
    rintro e w' ⟨q, rfl, hb, hq, f⟩
    exact ⟨_, rfl, rd384 hb, f⟩
  · rw [if_neg h, if_neg h]
    refine (putSuper_no w g b p l x y (by simpa using h)).mono ?_
    rintro e w' ⟨rfl, f⟩
    exact ⟨_, rfl, Rd.nil _, f⟩
theorem rputSuper_one (w : World) (g b p l x y : Nat) : Calls Try.prog 14 #[.agg #[.int .u64 (g : Int), .int .u64 (b : Int), .int .u64 (p : Int), .int .u64 (l : Int), .int .u64 (x : Int), .int .u64 (y : Int)]] w fun e w' => ∃ v, e = .returned (.tuple #[v, .int .i64 (psC g b p l x y)]) ∧ Rd w' v (psX g b p l x y) ∧ Fr (fun _ => False) w w' := by
  unfold psC psX
  by_cases h : sbB g b p l x y = true
  · rw [if_pos h, if_pos h]
    refine (rputSuper_ok w g b p l x y h).mono ?_
    rintro e w' ⟨v, rfl, hv⟩
    exact ⟨_, rfl, hv.rd, hv.fr⟩
  · rw [if_neg h, if_neg h]
    refine (rputSuper_no w g b p l x y (by simpa using h)).mono ?_
    rintro e w' ⟨rfl, f⟩
    exact ⟨_, rfl, Rd.nil _, f⟩
/-- What PutTx tells. -/
def pxX (ps : List (Int × List UInt8)) : List UInt8 := if ptB ps = true then ptL ps else []
def pxC (ps : List (Int × List UInt8)) : Int := if ptB ps = true then 0 else 82
theorem Pt.one {ps : List (Int × List UInt8)} {w w' : World} {r : Value} {c : Int} (h : Pt ps w r c w') : c = pxC ps ∧ Rd w' r (pxX ps) ∧ Fr (fun _ => False) w w' := by
  unfold Pt at h
  unfold pxC pxX
  by_cases hb : ptB ps = true
  · rw [if_pos hb] at h
    rw [if_pos hb, if_pos hb]
    exact ⟨h.1, h.2.rd, h.2.fr⟩
  · rw [if_neg hb] at h
    rw [if_neg hb, if_neg hb]
    obtain ⟨rfl, rfl, f⟩ := h
    exact ⟨rfl, Rd.nil _, f⟩
/-- What GetTx tells. -/
def gxX (l : List UInt8) : List (Int × List UInt8) := if gtB l = true then gtL l else []
def gxC (l : List UInt8) : Int := if gtB l = true then 0 else 82
theorem gxX_len (l : List UInt8) : (gxX l).length ≤ 64 := by
  unfold gxX
  split
  · rename_i h
    rw [gtL_length]
    exact (gt_of h).1.2
  · simp
theorem Gt.one {l : List UInt8} {w w' : World} {r : Value} {c : Int} (h : Gt l w r c w') : c = gxC l ∧ RdP w' r (gxX l) ∧ Fr (fun _ => False) w w' := by
  unfold Gt at h
  unfold gxC gxX
  by_cases hb : gtB l = true
  · rw [if_pos hb] at h
    rw [if_pos hb, if_pos hb]
    obtain ⟨rfl, ⟨G, rfl, hG, hP⟩, f⟩ := h
    exact ⟨rfl, hP.rdp hb, f⟩
  · rw [if_neg hb] at h
    rw [if_neg hb, if_neg hb]
    obtain ⟨rfl, rfl, f⟩ := h
    exact ⟨rfl, .inl ⟨⟨_, _, rfl⟩, rfl⟩, f⟩
theorem Gr.one {l : List UInt8} {w w' : World} {r : Value} {c : Int} (h : Gr l w r c w') : c = gxC l ∧ RdP w' r (gxX l) ∧ Fr (fun _ => False) w w' := by
  obtain ⟨f, h⟩ := h
  unfold gxC gxX
  by_cases hb : gtB l = true
  · rw [if_pos hb] at h
    rw [if_pos hb, if_pos hb]
    exact ⟨h.1, h.2.rdp, f⟩
  · rw [if_neg hb] at h
    rw [if_neg hb, if_neg hb]
    obtain ⟨rfl, rfl⟩ := h
    exact ⟨rfl, .inl ⟨⟨_, _, rfl⟩, rfl⟩, f⟩
theorem rgetSuper_any (w : World) (v : Value) (l : List UInt8) (h : Rd w v l) : Calls Try.prog 24 #[v] w fun e w' => e = .returned (.tuple #[(suR l).v, .int .i64 (suC l)]) ∧ Fr (fun _ => False) w w' := by
  by_cases hl : l.length = 384
  · by_cases hs : sbB (sn l 0) (sn l 1) (sn l 2) (sn l 3) (sn l 4) (sn l 5) = true
    · by_cases hq : suB (sn l 0) (sn l 1) (sn l 2) (sn l 3) (sn l 4) (sn l 5) = l
      · have e : suG l = some ⟨sn l 0, sn l 1, sn l 2, sn l 3, sn l 4, sn l 5⟩ := by unfold suG; rw [if_pos ⟨hl, hs, hq⟩]
        unfold suR suC
        rw [e]
        exact rgetSuper_ok w v l h hl hs hq
      · have e : suG l = none := by unfold suG; rw [if_neg (fun h => hq h.2.2)]
        unfold suR suC
        rw [e]
        exact rgetSuper_ne w v l h hl hs hq
    · have e : suG l = none := by unfold suG; rw [if_neg (fun h => hs h.2.1)]
      unfold suR suC
      rw [e]
      exact rgetSuper_no w v l h hl (by simpa using hs)
  · have e : suG l = none := by unfold suG; rw [if_neg (fun h => hl h.1)]
    unfold suR suC
    rw [e]
    exact rgetSuper_len w v l h hl
section
variable {ρ : Operand → Value} {o : Oper} {w : World} {x y : Operand}
theorem x_neS {s : ByteArray} (ho : o.op = .binOp .neq 9 x y 9) (hx : ρ x = .string s) (hy : ρ y = .string s) : (execOp ρ o).run Try.prog w = .ok (.value (.bool false)) w := by
  simp [execOp, ho, hx, hy, go_sem]
theorem x_neI3 {n : Int} (ho : o.op = .binOp .neq 3 x y 3) (hx : ρ x = .int .i64 n) (hy : ρ y = .int .i64 n) : (execOp ρ o).run Try.prog w = .ok (.value (.bool false)) w := by
  simp [execOp, ho, hx, hy, go_sem]
end
theorem fa30_4 (b : Nat) (W : World) : (Instr.fieldAt 30 (.pointer (some ⟨b, 0, none⟩)) 4).run Try.prog W = .ok (.pointer (some ⟨b, 0 + 15, none⟩)) W := by simp [go_sem]
set_option maxHeartbeats 4000000 in
set_option maxRecDepth 100000 in
theorem bl11 {W : World} {k c4 c6 c8 c10 c12 c14 : Nat} {o4 o6 o8 o10 o12 o14 : Option Addr} {XE XS XT : List UInt8} {ce cs ct n : Int} {u0 u2 u3 u16 u17 u18 u19 u20 u21 u22 u23 u24 u25 u26 u27 u28 u29 u30 u31 u32 u33 u34 u35 u36 u37 u38 u39 u40 u41 u42 u43 u44 u45 u46 u47 u48 u49 u50 u51 u52 u53 u54 u55 u56 u57 u58 u59 u60 u61 u62 u63 u64 u65 u66 u67 u68 u69 u70 u71 u72 u73 u74 u75 u76 u77 u78 u79 u80 u81 u82 u83 u84 u85 u86 u87 u88 u89 u90 u91 u92 u93 u94 u95 u96 u97 u98 u99 u100 u101 u102 u103 u104 u105 u106 u107 u108 u109 u110 u111 u112 u113 u114 u115 u116 u117 u118 u119 u120 u121 u122 u123 u124 u125 u126 u127 u128 u129 u130 u131 u132 u133 u134 u135 u136 u137 u138 u139 u140 u141 u142 u143 u144 u145 u146 u147 u148 u149 u150 u151 u152 u153 u154 u155 u156 u157 u158 u159 u160 u161 u162 u163 u164 u165 u166 u167 u168 u169 u170 u171 u172 u173 u174 u175 u176 u177 u178 u179 u180 u181 u182 u183 u184 u185 u186 u187 u188 u189 u190 u191 u192 u193 u194 : Value} {Q : Exit → Act → World → Prop} (r4 : Rd W (.slice o4 XE.length c4) XE) (r6 : Rd W (.slice o6 XE.length c6) XE) (r8 : Rd W (.slice o8 XS.length c8) XS) (r10 : Rd W (.slice o10 XS.length c10) XS) (r12 : Rd W (.slice o12 XT.length c12) XT) (r14 : Rd W (.slice o14 XT.length c14) XT) (c15 : W.cell? ⟨k, 15, none⟩ = some (.int .i64 n))
    (hQ : ∀ (y70 y71 y72 y73 y74 y75 y76 y77 y78 y79 y80 y81 y82 y83 y84 y85 y86 y87 y88 y89 y90 y91 y92 y93 y94 y95 y96 y97 y98 y99 y100 y101 y102 y103 y104 y105 y106 y107 y108 y109 y110 y111 y112 y113 y114 : Value) (W' : World), Fr (fun _ => False) W W' → Q .normal ⟨#[u0, .pointer (some ⟨k, 0, none⟩), u2, u3, .slice o4 XE.length c4, .int .i64 ce, .slice o6 XE.length c6, .int .i64 ce, .slice o8 XS.length c8, .int .i64 cs, .slice o10 XS.length c10, .int .i64 cs, .slice o12 XT.length c12, .int .i64 ct, .slice o14 XT.length c14, .int .i64 ct, u16, u17, u18, u19, u20, u21, u22, u23, u24, u25, u26, u27, u28, u29, u30, u31, u32, u33, u34, u35, u36, u37, u38, u39, u40, u41, u42, u43, u44, u45, u46, u47, u48, u49, u50, u51, u52, u53, u54, u55, u56, u57, u58, u59, u60, u61, u62, u63, u64, u65, u66, u67, u68, u69, y70, y71, y72, y73, y74, y75, y76, y77, y78, y79, y80, y81, y82, y83, y84, y85, y86, y87, y88, y89, y90, y91, y92, y93, y94, y95, y96, y97, y98, y99, y100, y101, y102, y103, y104, y105, y106, y107, y108, y109, y110, y111, y112, y113, y114, .bool false, u116, u117, u118, u119, u120, u121, u122, u123, u124, u125, u126, u127, u128, u129, u130, u131, u132, u133, u134, u135, u136, u137, u138, u139, u140, u141, u142, u143, u144, u145, u146, u147, u148, u149, u150, u151, u152, u153, u154, u155, u156, u157, u158, u159, u160, u161, u162, u163, u164, u165, u166, u167, u168, u169, u170, u171, u172, u173, u174, u175, u176, u177, u178, u179, u180, u181, u182, u183, u184, u185, u186, u187, u188, u189, u190, u191, u192, u193, u194], []⟩ W') : (rgF Try.f3 11).wp Try.prog Q ⟨#[u0, .pointer (some ⟨k, 0, none⟩), u2, u3, .slice o4 XE.length c4, .int .i64 ce, .slice o6 XE.length c6, .int .i64 ce, .slice o8 XS.length c8, .int .i64 cs, .slice o10 XS.length c10, .int .i64 cs, .slice o12 XT.length c12, .int .i64 ct, .slice o14 XT.length c14, .int .i64 ct, u16, u17, u18, u19, u20, u21, u22, u23, u24, u25, u26, u27, u28, u29, u30, u31, u32, u33, u34, u35, u36, u37, u38, u39, u40, u41, u42, u43, u44, u45, u46, u47, u48, u49, u50, u51, u52, u53, u54, u55, u56, u57, u58, u59, u60, u61, u62, u63, u64, u65, u66, u67, u68, u69, u70, u71, u72, u73, u74, u75, u76, u77, u78, u79, u80, u81, u82, u83, u84, u85, u86, u87, u88, u89, u90, u91, u92, u93, u94, u95, u96, u97, u98, u99, u100, u101, u102, u103, u104, u105, u106, u107, u108, u109, u110, u111, u112, u113, u114, u115, u116, u117, u118, u119, u120, u121, u122, u123, u124, u125, u126, u127, u128, u129, u130, u131, u132, u133, u134, u135, u136, u137, u138, u139, u140, u141, u142, u143, u144, u145, u146, u147, u148, u149, u150, u151, u152, u153, u154, u155, u156, u157, u158, u159, u160, u161, u162, u163, u164, u165, u166, u167, u168, u169, u170, u171, u172, u173, u174, u175, u176, u177, u178, u179, u180, u181, u182, u183, u184, u185, u186, u187, u188, u189, u190, u191, u192, u193, u194], []⟩ W := by
  have HQ := hide hQ
  clear hQ
  have R4 := hide r4
  have R6 := hide r6
  have R8 := hide r8
  have R10 := hide r10
  have R12 := hide r12
  have R14 := hide r14
  have C15 := hide c15
  clear r4 r6 r8 r10 r12 r14 c15
  conv => arg 2; whnf
  refine wp_nameK ?_
  intro a0 hA
  have h1 : a0.tmps.getD 1 undef = .pointer (some ⟨k, 0, none⟩) := by rw [hA]; rfl
  have h4 : a0.tmps.getD 4 undef = .slice o4 XE.length c4 := by rw [hA]; rfl
  have h6 : a0.tmps.getD 6 undef = .slice o6 XE.length c6 := by rw [hA]; rfl
  have h5 : a0.tmps.getD 5 undef = .int .i64 ce := by rw [hA]; rfl
  have h7 : a0.tmps.getD 7 undef = .int .i64 ce := by rw [hA]; rfl
  have h8 : a0.tmps.getD 8 undef = .slice o8 XS.length c8 := by rw [hA]; rfl
  have h10 : a0.tmps.getD 10 undef = .slice o10 XS.length c10 := by rw [hA]; rfl
  have h9 : a0.tmps.getD 9 undef = .int .i64 cs := by rw [hA]; rfl
  have h11 : a0.tmps.getD 11 undef = .int .i64 cs := by rw [hA]; rfl
  have h12 : a0.tmps.getD 12 undef = .slice o12 XT.length c12 := by rw [hA]; rfl
  have h14 : a0.tmps.getD 14 undef = .slice o14 XT.length c14 := by rw [hA]; rfl
  have h13 : a0.tmps.getD 13 undef = .int .i64 ct := by rw [hA]; rfl
  have h15 : a0.tmps.getD 15 undef = .int .i64 ct := by rw [hA]; rfl
  have hsz : a0.tmps.size = 195 := by rw [hA]; rfl
  have hdf : a0.defers = [] := by rw [hA]
  have HA0 := hide hA
  clear hA
  refine wp_region_kinds (fun _ => False) (by kernel_rfl) (by kernel_rfl) (by decide +kernel) (by rw [hsz]; decide +kernel) [.eq (.slice o4 XE.length c4), .eq (.string (str XE)), .eq (.slice o6 XE.length c6), .eq (.string (str XE)), .eq (.bool false), .eq (.bool false), .eq (.int .i64 ce), .eq (.int .i64 ce), .eq (.int .i64 ce), .eq (.bool false), .eq (.bool false), .eq (.bool false), .eq (.slice o8 XS.length c8), .eq (.string (str XS)), .eq (.slice o10 XS.length c10), .eq (.string (str XS)), .eq (.bool false), .eq (.bool false), .eq (.bool false), .eq (.int .i64 cs), .eq (.int .i64 cs), .eq (.int .i64 cs), .eq (.bool false), .eq (.bool false), .eq (.bool false), .eq (.slice o12 XT.length c12), .eq (.string (str XT)), .eq (.slice o14 XT.length c14), .eq (.string (str XT)), .eq (.bool false), .eq (.bool false), .eq (.bool false), .eq (.int .i64 ct), .eq (.int .i64 ct), .eq (.int .i64 ct), .eq (.bool false), .eq (.bool false), .eq (.bool false), .eq (.pointer (some ⟨k, 15, none⟩)), .eq (.int .i64 n), .eq (.int .i64 (needX n)), .eq (.pointer (some ⟨k, 15, none⟩)), .eq (.int .i64 n), .eq (.int .i64 (needX n)), .eq (.bool false), .eq (.bool false)] [] (by decide) (by decide) (chain_paths _ [] (by kernel_rfl)) (fun _ _ => True) trivial ?steps ?done
  case steps =>
    refine ⟨?_, ?_⟩
    · intro a' w' k' hb hf hs hc hq hg hd
      exact ⟨wantedN rfl, k_val (.slice o4 XE.length c4) (by decide) trivial (x_move rfl ((hb.old 4 (by decide +kernel)).trans h4)) rfl⟩
    refine ⟨?_, ?_⟩
    · intro a' w' k' hb hf hs hc hq hg hd
      exact ⟨wantedN rfl, k_val (.string (str XE)) (by decide) trivial (x_conv rfl (hd 0 (by kernel_rfl) 70 rfl) (conv_rd ((unhide R4).kept hf (fun _ _ e => e)) 23 9 5 Try.underlying23 Try.underlying5 Try.underlying9)) rfl⟩
    refine ⟨?_, ?_⟩
    · intro a' w' k' hb hf hs hc hq hg hd
      exact ⟨wantedN rfl, k_val (.slice o6 XE.length c6) (by decide) trivial (x_move rfl ((hb.old 6 (by decide +kernel)).trans h6)) rfl⟩
    refine ⟨?_, ?_⟩
    · intro a' w' k' hb hf hs hc hq hg hd
      exact ⟨wantedN rfl, k_val (.string (str XE)) (by decide) trivial (x_conv rfl (hd 2 (by kernel_rfl) 72 rfl) (conv_rd ((unhide R6).kept hf (fun _ _ e => e)) 23 9 5 Try.underlying23 Try.underlying5 Try.underlying9)) rfl⟩
    refine ⟨?_, ?_⟩
    · intro a' w' k' hb hf hs hc hq hg hd
      exact ⟨wantedN rfl, k_val (.bool false) (by decide) trivial (x_neS rfl (hd 1 (by kernel_rfl) 71 rfl) (hd 3 (by kernel_rfl) 73 rfl)) rfl⟩
    refine ⟨?_, ?_⟩
    · intro a' w' k' hb hf hs hc hq hg hd
      exact ⟨wantedN rfl, k_val (.bool false) (by decide) trivial (x_move rfl (hd 4 (by kernel_rfl) 74 rfl)) rfl⟩
    refine ⟨?_, ?_⟩
    · intro a' w' k' hb hf hs hc hq hg hd
      exact ⟨wantedF (d := 75) rfl rfl (by rw [hb.size, hsz]; omega) (hd 5 (by kernel_rfl) 75 rfl), k_val (.int .i64 ce) (by decide) trivial (x_move rfl ((hb.old 5 (by decide +kernel)).trans h5)) rfl⟩
    refine ⟨?_, ?_⟩
    · intro a' w' k' hb hf hs hc hq hg hd
      exact ⟨wantedF (d := 75) rfl rfl (by rw [hb.size, hsz]; omega) (hd 5 (by kernel_rfl) 75 rfl), k_call 18 _ (by decide) (e_call1 rfl rfl (hd 6 (by kernel_rfl) 76 rfl) (fun _ _ => by simp [go_sem])) ((num_any w' _).mono (by rintro e w9 ⟨rfl, rfl⟩; exact ⟨_, rfl, rfl, Fr.refl _ _, trivial⟩))⟩
    refine ⟨?_, ?_⟩
    · intro a' w' k' hb hf hs hc hq hg hd
      exact ⟨wantedF (d := 75) rfl rfl (by rw [hb.size, hsz]; omega) (hd 5 (by kernel_rfl) 75 rfl), k_val (.int .i64 ce) (by decide) trivial (x_move rfl ((hb.old 7 (by decide +kernel)).trans h7)) rfl⟩
    refine ⟨?_, ?_⟩
    · intro a' w' k' hb hf hs hc hq hg hd
      exact ⟨wantedF (d := 75) rfl rfl (by rw [hb.size, hsz]; omega) (hd 5 (by kernel_rfl) 75 rfl), k_val (.bool false) (by decide) trivial (x_neI3 rfl (hd 7 (by kernel_rfl) 77 rfl) (hd 8 (by kernel_rfl) 78 rfl)) rfl⟩
    refine ⟨?_, ?_⟩
    · intro a' w' k' hb hf hs hc hq hg hd
      exact ⟨wantedN rfl, k_val (.bool false) (by decide) trivial (x_pickF rfl (hd 5 (by kernel_rfl) 75 rfl) (hd 9 (by kernel_rfl) 79 rfl)) rfl⟩
    refine ⟨?_, ?_⟩
    · intro a' w' k' hb hf hs hc hq hg hd
      exact ⟨wantedN rfl, k_val (.bool false) (by decide) trivial (x_move rfl (hd 10 (by kernel_rfl) 80 rfl)) rfl⟩
    refine ⟨?_, ?_⟩
    · intro a' w' k' hb hf hs hc hq hg hd
      exact ⟨wantedF (d := 81) rfl rfl (by rw [hb.size, hsz]; omega) (hd 11 (by kernel_rfl) 81 rfl), k_val (.slice o8 XS.length c8) (by decide) trivial (x_move rfl ((hb.old 8 (by decide +kernel)).trans h8)) rfl⟩
    refine ⟨?_, ?_⟩
    · intro a' w' k' hb hf hs hc hq hg hd
      exact ⟨wantedF (d := 81) rfl rfl (by rw [hb.size, hsz]; omega) (hd 11 (by kernel_rfl) 81 rfl), k_val (.string (str XS)) (by decide) trivial (x_conv rfl (hd 12 (by kernel_rfl) 82 rfl) (conv_rd ((unhide R8).kept hf (fun _ _ e => e)) 23 9 5 Try.underlying23 Try.underlying5 Try.underlying9)) rfl⟩
    refine ⟨?_, ?_⟩
    · intro a' w' k' hb hf hs hc hq hg hd
      exact ⟨wantedF (d := 81) rfl rfl (by rw [hb.size, hsz]; omega) (hd 11 (by kernel_rfl) 81 rfl), k_val (.slice o10 XS.length c10) (by decide) trivial (x_move rfl ((hb.old 10 (by decide +kernel)).trans h10)) rfl⟩
    refine ⟨?_, ?_⟩
    · intro a' w' k' hb hf hs hc hq hg hd
      exact ⟨wantedF (d := 81) rfl rfl (by rw [hb.size, hsz]; omega) (hd 11 (by kernel_rfl) 81 rfl), k_val (.string (str XS)) (by decide) trivial (x_conv rfl (hd 14 (by kernel_rfl) 84 rfl) (conv_rd ((unhide R10).kept hf (fun _ _ e => e)) 23 9 5 Try.underlying23 Try.underlying5 Try.underlying9)) rfl⟩
    refine ⟨?_, ?_⟩
    · intro a' w' k' hb hf hs hc hq hg hd
      exact ⟨wantedF (d := 81) rfl rfl (by rw [hb.size, hsz]; omega) (hd 11 (by kernel_rfl) 81 rfl), k_val (.bool false) (by decide) trivial (x_neS rfl (hd 13 (by kernel_rfl) 83 rfl) (hd 15 (by kernel_rfl) 85 rfl)) rfl⟩
    refine ⟨?_, ?_⟩
    · intro a' w' k' hb hf hs hc hq hg hd
      exact ⟨wantedN rfl, k_val (.bool false) (by decide) trivial (x_pickF rfl (hd 11 (by kernel_rfl) 81 rfl) (hd 16 (by kernel_rfl) 86 rfl)) rfl⟩
    refine ⟨?_, ?_⟩
    · intro a' w' k' hb hf hs hc hq hg hd
      exact ⟨wantedN rfl, k_val (.bool false) (by decide) trivial (x_move rfl (hd 17 (by kernel_rfl) 87 rfl)) rfl⟩
    refine ⟨?_, ?_⟩
    · intro a' w' k' hb hf hs hc hq hg hd
      exact ⟨wantedF (d := 88) rfl rfl (by rw [hb.size, hsz]; omega) (hd 18 (by kernel_rfl) 88 rfl), k_val (.int .i64 cs) (by decide) trivial (x_move rfl ((hb.old 9 (by decide +kernel)).trans h9)) rfl⟩
    refine ⟨?_, ?_⟩
    · intro a' w' k' hb hf hs hc hq hg hd
      exact ⟨wantedF (d := 88) rfl rfl (by rw [hb.size, hsz]; omega) (hd 18 (by kernel_rfl) 88 rfl), k_call 18 _ (by decide) (e_call1 rfl rfl (hd 19 (by kernel_rfl) 89 rfl) (fun _ _ => by simp [go_sem])) ((num_any w' _).mono (by rintro e w9 ⟨rfl, rfl⟩; exact ⟨_, rfl, rfl, Fr.refl _ _, trivial⟩))⟩
    refine ⟨?_, ?_⟩
    · intro a' w' k' hb hf hs hc hq hg hd
      exact ⟨wantedF (d := 88) rfl rfl (by rw [hb.size, hsz]; omega) (hd 18 (by kernel_rfl) 88 rfl), k_val (.int .i64 cs) (by decide) trivial (x_move rfl ((hb.old 11 (by decide +kernel)).trans h11)) rfl⟩
    refine ⟨?_, ?_⟩
    · intro a' w' k' hb hf hs hc hq hg hd
      exact ⟨wantedF (d := 88) rfl rfl (by rw [hb.size, hsz]; omega) (hd 18 (by kernel_rfl) 88 rfl), k_val (.bool false) (by decide) trivial (x_neI3 rfl (hd 20 (by kernel_rfl) 90 rfl) (hd 21 (by kernel_rfl) 91 rfl)) rfl⟩
    refine ⟨?_, ?_⟩
    · intro a' w' k' hb hf hs hc hq hg hd
      exact ⟨wantedN rfl, k_val (.bool false) (by decide) trivial (x_pickF rfl (hd 18 (by kernel_rfl) 88 rfl) (hd 22 (by kernel_rfl) 92 rfl)) rfl⟩
    refine ⟨?_, ?_⟩
    · intro a' w' k' hb hf hs hc hq hg hd
      exact ⟨wantedN rfl, k_val (.bool false) (by decide) trivial (x_move rfl (hd 23 (by kernel_rfl) 93 rfl)) rfl⟩
    refine ⟨?_, ?_⟩
    · intro a' w' k' hb hf hs hc hq hg hd
      exact ⟨wantedF (d := 94) rfl rfl (by rw [hb.size, hsz]; omega) (hd 24 (by kernel_rfl) 94 rfl), k_val (.slice o12 XT.length c12) (by decide) trivial (x_move rfl ((hb.old 12 (by decide +kernel)).trans h12)) rfl⟩
    refine ⟨?_, ?_⟩
    · intro a' w' k' hb hf hs hc hq hg hd
      exact ⟨wantedF (d := 94) rfl rfl (by rw [hb.size, hsz]; omega) (hd 24 (by kernel_rfl) 94 rfl), k_val (.string (str XT)) (by decide) trivial (x_conv rfl (hd 25 (by kernel_rfl) 95 rfl) (conv_rd ((unhide R12).kept hf (fun _ _ e => e)) 23 9 5 Try.underlying23 Try.underlying5 Try.underlying9)) rfl⟩
    refine ⟨?_, ?_⟩
    · intro a' w' k' hb hf hs hc hq hg hd
      exact ⟨wantedF (d := 94) rfl rfl (by rw [hb.size, hsz]; omega) (hd 24 (by kernel_rfl) 94 rfl), k_val (.slice o14 XT.length c14) (by decide) trivial (x_move rfl ((hb.old 14 (by decide +kernel)).trans h14)) rfl⟩
    refine ⟨?_, ?_⟩
    · intro a' w' k' hb hf hs hc hq hg hd
      exact ⟨wantedF (d := 94) rfl rfl (by rw [hb.size, hsz]; omega) (hd 24 (by kernel_rfl) 94 rfl), k_val (.string (str XT)) (by decide) trivial (x_conv rfl (hd 27 (by kernel_rfl) 97 rfl) (conv_rd ((unhide R14).kept hf (fun _ _ e => e)) 23 9 5 Try.underlying23 Try.underlying5 Try.underlying9)) rfl⟩
    refine ⟨?_, ?_⟩
    · intro a' w' k' hb hf hs hc hq hg hd
      exact ⟨wantedF (d := 94) rfl rfl (by rw [hb.size, hsz]; omega) (hd 24 (by kernel_rfl) 94 rfl), k_val (.bool false) (by decide) trivial (x_neS rfl (hd 26 (by kernel_rfl) 96 rfl) (hd 28 (by kernel_rfl) 98 rfl)) rfl⟩
    refine ⟨?_, ?_⟩
    · intro a' w' k' hb hf hs hc hq hg hd
      exact ⟨wantedN rfl, k_val (.bool false) (by decide) trivial (x_pickF rfl (hd 24 (by kernel_rfl) 94 rfl) (hd 29 (by kernel_rfl) 99 rfl)) rfl⟩
    refine ⟨?_, ?_⟩
    · intro a' w' k' hb hf hs hc hq hg hd
      exact ⟨wantedN rfl, k_val (.bool false) (by decide) trivial (x_move rfl (hd 30 (by kernel_rfl) 100 rfl)) rfl⟩
    refine ⟨?_, ?_⟩
    · intro a' w' k' hb hf hs hc hq hg hd
      exact ⟨wantedF (d := 101) rfl rfl (by rw [hb.size, hsz]; omega) (hd 31 (by kernel_rfl) 101 rfl), k_val (.int .i64 ct) (by decide) trivial (x_move rfl ((hb.old 13 (by decide +kernel)).trans h13)) rfl⟩
    refine ⟨?_, ?_⟩
    · intro a' w' k' hb hf hs hc hq hg hd
      exact ⟨wantedF (d := 101) rfl rfl (by rw [hb.size, hsz]; omega) (hd 31 (by kernel_rfl) 101 rfl), k_call 18 _ (by decide) (e_call1 rfl rfl (hd 32 (by kernel_rfl) 102 rfl) (fun _ _ => by simp [go_sem])) ((num_any w' _).mono (by rintro e w9 ⟨rfl, rfl⟩; exact ⟨_, rfl, rfl, Fr.refl _ _, trivial⟩))⟩
    refine ⟨?_, ?_⟩
    · intro a' w' k' hb hf hs hc hq hg hd
      exact ⟨wantedF (d := 101) rfl rfl (by rw [hb.size, hsz]; omega) (hd 31 (by kernel_rfl) 101 rfl), k_val (.int .i64 ct) (by decide) trivial (x_move rfl ((hb.old 15 (by decide +kernel)).trans h15)) rfl⟩
    refine ⟨?_, ?_⟩
    · intro a' w' k' hb hf hs hc hq hg hd
      exact ⟨wantedF (d := 101) rfl rfl (by rw [hb.size, hsz]; omega) (hd 31 (by kernel_rfl) 101 rfl), k_val (.bool false) (by decide) trivial (x_neI3 rfl (hd 33 (by kernel_rfl) 103 rfl) (hd 34 (by kernel_rfl) 104 rfl)) rfl⟩
    refine ⟨?_, ?_⟩
    · intro a' w' k' hb hf hs hc hq hg hd
      exact ⟨wantedN rfl, k_val (.bool false) (by decide) trivial (x_pickF rfl (hd 31 (by kernel_rfl) 101 rfl) (hd 35 (by kernel_rfl) 105 rfl)) rfl⟩
    refine ⟨?_, ?_⟩
    · intro a' w' k' hb hf hs hc hq hg hd
      exact ⟨wantedN rfl, k_val (.bool false) (by decide) trivial (x_move rfl (hd 36 (by kernel_rfl) 106 rfl)) rfl⟩
    refine ⟨?_, ?_⟩
    · intro a' w' k' hb hf hs hc hq hg hd
      exact ⟨wantedF (d := 107) rfl rfl (by rw [hb.size, hsz]; omega) (hd 37 (by kernel_rfl) 107 rfl), k_val (.pointer (some ⟨k, 15, none⟩)) (by decide) trivial (x_field (of := 0) (off := 15) (fa30_4 k) rfl ((hb.old 1 (by decide +kernel)).trans h1)) rfl⟩
    refine ⟨?_, ?_⟩
    · intro a' w' k' hb hf hs hc hq hg hd
      exact ⟨wantedF (d := 107) rfl rfl (by rw [hb.size, hsz]; omega) (hd 37 (by kernel_rfl) 107 rfl), k_val (.int .i64 n) (by decide) trivial (x_load1 ld3 rfl (hd 38 (by kernel_rfl) 108 rfl) ((Fr.cell hf (a := ⟨k, 15, none⟩) (World.block_lt_of_cell? W _ (unhide C15)) id).trans (unhide C15))) rfl⟩
    refine ⟨?_, ?_⟩
    · intro a' w' k' hb hf hs hc hq hg hd
      exact ⟨wantedF (d := 107) rfl rfl (by rw [hb.size, hsz]; omega) (hd 37 (by kernel_rfl) 107 rfl), k_call 19 _ (by decide) (e_call1 rfl rfl (hd 39 (by kernel_rfl) 109 rfl) (fun _ _ => by simp [go_sem])) ((need_any w' n).mono (by rintro e w9 ⟨rfl, rfl⟩; exact ⟨_, rfl, rfl, Fr.refl _ _, trivial⟩))⟩
    refine ⟨?_, ?_⟩
    · intro a' w' k' hb hf hs hc hq hg hd
      exact ⟨wantedF (d := 107) rfl rfl (by rw [hb.size, hsz]; omega) (hd 37 (by kernel_rfl) 107 rfl), k_val (.pointer (some ⟨k, 15, none⟩)) (by decide) trivial (x_field (of := 0) (off := 15) (fa30_4 k) rfl ((hb.old 1 (by decide +kernel)).trans h1)) rfl⟩
    refine ⟨?_, ?_⟩
    · intro a' w' k' hb hf hs hc hq hg hd
      exact ⟨wantedF (d := 107) rfl rfl (by rw [hb.size, hsz]; omega) (hd 37 (by kernel_rfl) 107 rfl), k_val (.int .i64 n) (by decide) trivial (x_load1 ld3 rfl (hd 41 (by kernel_rfl) 111 rfl) ((Fr.cell hf (a := ⟨k, 15, none⟩) (World.block_lt_of_cell? W _ (unhide C15)) id).trans (unhide C15))) rfl⟩
    refine ⟨?_, ?_⟩
    · intro a' w' k' hb hf hs hc hq hg hd
      exact ⟨wantedF (d := 107) rfl rfl (by rw [hb.size, hsz]; omega) (hd 37 (by kernel_rfl) 107 rfl), k_call 20 _ (by decide) (e_call1 rfl rfl (hd 42 (by kernel_rfl) 112 rfl) (fun _ _ => by simp [go_sem])) ((rneed_any w' n).mono (by rintro e w9 ⟨rfl, rfl⟩; exact ⟨_, rfl, rfl, Fr.refl _ _, trivial⟩))⟩
    refine ⟨?_, ?_⟩
    · intro a' w' k' hb hf hs hc hq hg hd
      exact ⟨wantedF (d := 107) rfl rfl (by rw [hb.size, hsz]; omega) (hd 37 (by kernel_rfl) 107 rfl), k_val (.bool false) (by decide) trivial (x_neI3 rfl (hd 40 (by kernel_rfl) 110 rfl) (hd 43 (by kernel_rfl) 113 rfl)) rfl⟩
    refine ⟨?_, ?_⟩
    · intro a' w' k' hb hf hs hc hq hg hd
      exact ⟨wantedN rfl, k_val (.bool false) (by decide) trivial (x_pickF rfl (hd 37 (by kernel_rfl) 107 rfl) (hd 44 (by kernel_rfl) 114 rfl)) rfl⟩
    exact trivial
  case done =>
    intro a' w' hb hf hs hall
    have hslots : Slots a' 0 [u0, .pointer (some ⟨k, 0, none⟩), u2, u3, .slice o4 XE.length c4, .int .i64 ce, .slice o6 XE.length c6, .int .i64 ce, .slice o8 XS.length c8, .int .i64 cs, .slice o10 XS.length c10, .int .i64 cs, .slice o12 XT.length c12, .int .i64 ct, .slice o14 XT.length c14, .int .i64 ct, u16, u17, u18, u19, u20, u21, u22, u23, u24, u25, u26, u27, u28, u29, u30, u31, u32, u33, u34, u35, u36, u37, u38, u39, u40, u41, u42, u43, u44, u45, u46, u47, u48, u49, u50, u51, u52, u53, u54, u55, u56, u57, u58, u59, u60, u61, u62, u63, u64, u65, u66, u67, u68, u69, a'.tmps.getD 70 undef, a'.tmps.getD 71 undef, a'.tmps.getD 72 undef, a'.tmps.getD 73 undef, a'.tmps.getD 74 undef, a'.tmps.getD 75 undef, a'.tmps.getD 76 undef, a'.tmps.getD 77 undef, a'.tmps.getD 78 undef, a'.tmps.getD 79 undef, a'.tmps.getD 80 undef, a'.tmps.getD 81 undef, a'.tmps.getD 82 undef, a'.tmps.getD 83 undef, a'.tmps.getD 84 undef, a'.tmps.getD 85 undef, a'.tmps.getD 86 undef, a'.tmps.getD 87 undef, a'.tmps.getD 88 undef, a'.tmps.getD 89 undef, a'.tmps.getD 90 undef, a'.tmps.getD 91 undef, a'.tmps.getD 92 undef, a'.tmps.getD 93 undef, a'.tmps.getD 94 undef, a'.tmps.getD 95 undef, a'.tmps.getD 96 undef, a'.tmps.getD 97 undef, a'.tmps.getD 98 undef, a'.tmps.getD 99 undef, a'.tmps.getD 100 undef, a'.tmps.getD 101 undef, a'.tmps.getD 102 undef, a'.tmps.getD 103 undef, a'.tmps.getD 104 undef, a'.tmps.getD 105 undef, a'.tmps.getD 106 undef, a'.tmps.getD 107 undef, a'.tmps.getD 108 undef, a'.tmps.getD 109 undef, a'.tmps.getD 110 undef, a'.tmps.getD 111 undef, a'.tmps.getD 112 undef, a'.tmps.getD 113 undef, a'.tmps.getD 114 undef, .bool false, u116, u117, u118, u119, u120, u121, u122, u123, u124, u125, u126, u127, u128, u129, u130, u131, u132, u133, u134, u135, u136, u137, u138, u139, u140, u141, u142, u143, u144, u145, u146, u147, u148, u149, u150, u151, u152, u153, u154, u155, u156, u157, u158, u159, u160, u161, u162, u163, u164, u165, u166, u167, u168, u169, u170, u171, u172, u173, u174, u175, u176, u177, u178, u179, u180, u181, u182, u183, u184, u185, u186, u187, u188, u189, u190, u191, u192, u193, u194] := ⟨(hb.old 0 (by decide +kernel)).trans (by rw [unhide HA0]; rfl), (hb.old 1 (by decide +kernel)).trans (by rw [unhide HA0]; rfl), (hb.old 2 (by decide +kernel)).trans (by rw [unhide HA0]; rfl), (hb.old 3 (by decide +kernel)).trans (by rw [unhide HA0]; rfl), (hb.old 4 (by decide +kernel)).trans (by rw [unhide HA0]; rfl), (hb.old 5 (by decide +kernel)).trans (by rw [unhide HA0]; rfl), (hb.old 6 (by decide +kernel)).trans (by rw [unhide HA0]; rfl), (hb.old 7 (by decide +kernel)).trans (by rw [unhide HA0]; rfl), (hb.old 8 (by decide +kernel)).trans (by rw [unhide HA0]; rfl), (hb.old 9 (by decide +kernel)).trans (by rw [unhide HA0]; rfl), (hb.old 10 (by decide +kernel)).trans (by rw [unhide HA0]; rfl), (hb.old 11 (by decide +kernel)).trans (by rw [unhide HA0]; rfl), (hb.old 12 (by decide +kernel)).trans (by rw [unhide HA0]; rfl), (hb.old 13 (by decide +kernel)).trans (by rw [unhide HA0]; rfl), (hb.old 14 (by decide +kernel)).trans (by rw [unhide HA0]; rfl), (hb.old 15 (by decide +kernel)).trans (by rw [unhide HA0]; rfl), (hb.old 16 (by decide +kernel)).trans (by rw [unhide HA0]; rfl), (hb.old 17 (by decide +kernel)).trans (by rw [unhide HA0]; rfl), (hb.old 18 (by decide +kernel)).trans (by rw [unhide HA0]; rfl), (hb.old 19 (by decide +kernel)).trans (by rw [unhide HA0]; rfl), (hb.old 20 (by decide +kernel)).trans (by rw [unhide HA0]; rfl), (hb.old 21 (by decide +kernel)).trans (by rw [unhide HA0]; rfl), (hb.old 22 (by decide +kernel)).trans (by rw [unhide HA0]; rfl), (hb.old 23 (by decide +kernel)).trans (by rw [unhide HA0]; rfl), (hb.old 24 (by decide +kernel)).trans (by rw [unhide HA0]; rfl), (hb.old 25 (by decide +kernel)).trans (by rw [unhide HA0]; rfl), (hb.old 26 (by decide +kernel)).trans (by rw [unhide HA0]; rfl), (hb.old 27 (by decide +kernel)).trans (by rw [unhide HA0]; rfl), (hb.old 28 (by decide +kernel)).trans (by rw [unhide HA0]; rfl), (hb.old 29 (by decide +kernel)).trans (by rw [unhide HA0]; rfl), (hb.old 30 (by decide +kernel)).trans (by rw [unhide HA0]; rfl), (hb.old 31 (by decide +kernel)).trans (by rw [unhide HA0]; rfl), (hb.old 32 (by decide +kernel)).trans (by rw [unhide HA0]; rfl), (hb.old 33 (by decide +kernel)).trans (by rw [unhide HA0]; rfl), (hb.old 34 (by decide +kernel)).trans (by rw [unhide HA0]; rfl), (hb.old 35 (by decide +kernel)).trans (by rw [unhide HA0]; rfl), (hb.old 36 (by decide +kernel)).trans (by rw [unhide HA0]; rfl), (hb.old 37 (by decide +kernel)).trans (by rw [unhide HA0]; rfl), (hb.old 38 (by decide +kernel)).trans (by rw [unhide HA0]; rfl), (hb.old 39 (by decide +kernel)).trans (by rw [unhide HA0]; rfl), (hb.old 40 (by decide +kernel)).trans (by rw [unhide HA0]; rfl), (hb.old 41 (by decide +kernel)).trans (by rw [unhide HA0]; rfl), (hb.old 42 (by decide +kernel)).trans (by rw [unhide HA0]; rfl), (hb.old 43 (by decide +kernel)).trans (by rw [unhide HA0]; rfl), (hb.old 44 (by decide +kernel)).trans (by rw [unhide HA0]; rfl), (hb.old 45 (by decide +kernel)).trans (by rw [unhide HA0]; rfl), (hb.old 46 (by decide +kernel)).trans (by rw [unhide HA0]; rfl), (hb.old 47 (by decide +kernel)).trans (by rw [unhide HA0]; rfl), (hb.old 48 (by decide +kernel)).trans (by rw [unhide HA0]; rfl), (hb.old 49 (by decide +kernel)).trans (by rw [unhide HA0]; rfl), (hb.old 50 (by decide +kernel)).trans (by rw [unhide HA0]; rfl), (hb.old 51 (by decide +kernel)).trans (by rw [unhide HA0]; rfl), (hb.old 52 (by decide +kernel)).trans (by rw [unhide HA0]; rfl), (hb.old 53 (by decide +kernel)).trans (by rw [unhide HA0]; rfl), (hb.old 54 (by decide +kernel)).trans (by rw [unhide HA0]; rfl), (hb.old 55 (by decide +kernel)).trans (by rw [unhide HA0]; rfl), (hb.old 56 (by decide +kernel)).trans (by rw [unhide HA0]; rfl), (hb.old 57 (by decide +kernel)).trans (by rw [unhide HA0]; rfl), (hb.old 58 (by decide +kernel)).trans (by rw [unhide HA0]; rfl), (hb.old 59 (by decide +kernel)).trans (by rw [unhide HA0]; rfl), (hb.old 60 (by decide +kernel)).trans (by rw [unhide HA0]; rfl), (hb.old 61 (by decide +kernel)).trans (by rw [unhide HA0]; rfl), (hb.old 62 (by decide +kernel)).trans (by rw [unhide HA0]; rfl), (hb.old 63 (by decide +kernel)).trans (by rw [unhide HA0]; rfl), (hb.old 64 (by decide +kernel)).trans (by rw [unhide HA0]; rfl), (hb.old 65 (by decide +kernel)).trans (by rw [unhide HA0]; rfl), (hb.old 66 (by decide +kernel)).trans (by rw [unhide HA0]; rfl), (hb.old 67 (by decide +kernel)).trans (by rw [unhide HA0]; rfl), (hb.old 68 (by decide +kernel)).trans (by rw [unhide HA0]; rfl), (hb.old 69 (by decide +kernel)).trans (by rw [unhide HA0]; rfl), rfl, rfl, rfl, rfl, rfl, rfl, rfl, rfl, rfl, rfl, rfl, rfl, rfl, rfl, rfl, rfl, rfl, rfl, rfl, rfl, rfl, rfl, rfl, rfl, rfl, rfl, rfl, rfl, rfl, rfl, rfl, rfl, rfl, rfl, rfl, rfl, rfl, rfl, rfl, rfl, rfl, rfl, rfl, rfl, rfl, hall 45 (by decide) 115 rfl, (hb.old 116 (by decide +kernel)).trans (by rw [unhide HA0]; rfl), (hb.old 117 (by decide +kernel)).trans (by rw [unhide HA0]; rfl), (hb.old 118 (by decide +kernel)).trans (by rw [unhide HA0]; rfl), (hb.old 119 (by decide +kernel)).trans (by rw [unhide HA0]; rfl), (hb.old 120 (by decide +kernel)).trans (by rw [unhide HA0]; rfl), (hb.old 121 (by decide +kernel)).trans (by rw [unhide HA0]; rfl), (hb.old 122 (by decide +kernel)).trans (by rw [unhide HA0]; rfl), (hb.old 123 (by decide +kernel)).trans (by rw [unhide HA0]; rfl), (hb.old 124 (by decide +kernel)).trans (by rw [unhide HA0]; rfl), (hb.old 125 (by decide +kernel)).trans (by rw [unhide HA0]; rfl), (hb.old 126 (by decide +kernel)).trans (by rw [unhide HA0]; rfl), (hb.old 127 (by decide +kernel)).trans (by rw [unhide HA0]; rfl), (hb.old 128 (by decide +kernel)).trans (by rw [unhide HA0]; rfl), (hb.old 129 (by decide +kernel)).trans (by rw [unhide HA0]; rfl), (hb.old 130 (by decide +kernel)).trans (by rw [unhide HA0]; rfl), (hb.old 131 (by decide +kernel)).trans (by rw [unhide HA0]; rfl), (hb.old 132 (by decide +kernel)).trans (by rw [unhide HA0]; rfl), (hb.old 133 (by decide +kernel)).trans (by rw [unhide HA0]; rfl), (hb.old 134 (by decide +kernel)).trans (by rw [unhide HA0]; rfl), (hb.old 135 (by decide +kernel)).trans (by rw [unhide HA0]; rfl), (hb.old 136 (by decide +kernel)).trans (by rw [unhide HA0]; rfl), (hb.old 137 (by decide +kernel)).trans (by rw [unhide HA0]; rfl), (hb.old 138 (by decide +kernel)).trans (by rw [unhide HA0]; rfl), (hb.old 139 (by decide +kernel)).trans (by rw [unhide HA0]; rfl), (hb.old 140 (by decide +kernel)).trans (by rw [unhide HA0]; rfl), (hb.old 141 (by decide +kernel)).trans (by rw [unhide HA0]; rfl), (hb.old 142 (by decide +kernel)).trans (by rw [unhide HA0]; rfl), (hb.old 143 (by decide +kernel)).trans (by rw [unhide HA0]; rfl), (hb.old 144 (by decide +kernel)).trans (by rw [unhide HA0]; rfl), (hb.old 145 (by decide +kernel)).trans (by rw [unhide HA0]; rfl), (hb.old 146 (by decide +kernel)).trans (by rw [unhide HA0]; rfl), (hb.old 147 (by decide +kernel)).trans (by rw [unhide HA0]; rfl), (hb.old 148 (by decide +kernel)).trans (by rw [unhide HA0]; rfl), (hb.old 149 (by decide +kernel)).trans (by rw [unhide HA0]; rfl), (hb.old 150 (by decide +kernel)).trans (by rw [unhide HA0]; rfl), (hb.old 151 (by decide +kernel)).trans (by rw [unhide HA0]; rfl), (hb.old 152 (by decide +kernel)).trans (by rw [unhide HA0]; rfl), (hb.old 153 (by decide +kernel)).trans (by rw [unhide HA0]; rfl), (hb.old 154 (by decide +kernel)).trans (by rw [unhide HA0]; rfl), (hb.old 155 (by decide +kernel)).trans (by rw [unhide HA0]; rfl), (hb.old 156 (by decide +kernel)).trans (by rw [unhide HA0]; rfl), (hb.old 157 (by decide +kernel)).trans (by rw [unhide HA0]; rfl), (hb.old 158 (by decide +kernel)).trans (by rw [unhide HA0]; rfl), (hb.old 159 (by decide +kernel)).trans (by rw [unhide HA0]; rfl), (hb.old 160 (by decide +kernel)).trans (by rw [unhide HA0]; rfl), (hb.old 161 (by decide +kernel)).trans (by rw [unhide HA0]; rfl), (hb.old 162 (by decide +kernel)).trans (by rw [unhide HA0]; rfl), (hb.old 163 (by decide +kernel)).trans (by rw [unhide HA0]; rfl), (hb.old 164 (by decide +kernel)).trans (by rw [unhide HA0]; rfl), (hb.old 165 (by decide +kernel)).trans (by rw [unhide HA0]; rfl), (hb.old 166 (by decide +kernel)).trans (by rw [unhide HA0]; rfl), (hb.old 167 (by decide +kernel)).trans (by rw [unhide HA0]; rfl), (hb.old 168 (by decide +kernel)).trans (by rw [unhide HA0]; rfl), (hb.old 169 (by decide +kernel)).trans (by rw [unhide HA0]; rfl), (hb.old 170 (by decide +kernel)).trans (by rw [unhide HA0]; rfl), (hb.old 171 (by decide +kernel)).trans (by rw [unhide HA0]; rfl), (hb.old 172 (by decide +kernel)).trans (by rw [unhide HA0]; rfl), (hb.old 173 (by decide +kernel)).trans (by rw [unhide HA0]; rfl), (hb.old 174 (by decide +kernel)).trans (by rw [unhide HA0]; rfl), (hb.old 175 (by decide +kernel)).trans (by rw [unhide HA0]; rfl), (hb.old 176 (by decide +kernel)).trans (by rw [unhide HA0]; rfl), (hb.old 177 (by decide +kernel)).trans (by rw [unhide HA0]; rfl), (hb.old 178 (by decide +kernel)).trans (by rw [unhide HA0]; rfl), (hb.old 179 (by decide +kernel)).trans (by rw [unhide HA0]; rfl), (hb.old 180 (by decide +kernel)).trans (by rw [unhide HA0]; rfl), (hb.old 181 (by decide +kernel)).trans (by rw [unhide HA0]; rfl), (hb.old 182 (by decide +kernel)).trans (by rw [unhide HA0]; rfl), (hb.old 183 (by decide +kernel)).trans (by rw [unhide HA0]; rfl), (hb.old 184 (by decide +kernel)).trans (by rw [unhide HA0]; rfl), (hb.old 185 (by decide +kernel)).trans (by rw [unhide HA0]; rfl), (hb.old 186 (by decide +kernel)).trans (by rw [unhide HA0]; rfl), (hb.old 187 (by decide +kernel)).trans (by rw [unhide HA0]; rfl), (hb.old 188 (by decide +kernel)).trans (by rw [unhide HA0]; rfl), (hb.old 189 (by decide +kernel)).trans (by rw [unhide HA0]; rfl), (hb.old 190 (by decide +kernel)).trans (by rw [unhide HA0]; rfl), (hb.old 191 (by decide +kernel)).trans (by rw [unhide HA0]; rfl), (hb.old 192 (by decide +kernel)).trans (by rw [unhide HA0]; rfl), (hb.old 193 (by decide +kernel)).trans (by rw [unhide HA0]; rfl), (hb.old 194 (by decide +kernel)).trans (by rw [unhide HA0]; rfl), trivial⟩
    have hfr := frame_eq (a := a') (by rw [hb.size, hsz]; rfl) (by rw [hb.defers, hdf]) hslots
    rw [hfr]
    exact unhide HQ (a'.tmps.getD 70 undef) (a'.tmps.getD 71 undef) (a'.tmps.getD 72 undef) (a'.tmps.getD 73 undef) (a'.tmps.getD 74 undef) (a'.tmps.getD 75 undef) (a'.tmps.getD 76 undef) (a'.tmps.getD 77 undef) (a'.tmps.getD 78 undef) (a'.tmps.getD 79 undef) (a'.tmps.getD 80 undef) (a'.tmps.getD 81 undef) (a'.tmps.getD 82 undef) (a'.tmps.getD 83 undef) (a'.tmps.getD 84 undef) (a'.tmps.getD 85 undef) (a'.tmps.getD 86 undef) (a'.tmps.getD 87 undef) (a'.tmps.getD 88 undef) (a'.tmps.getD 89 undef) (a'.tmps.getD 90 undef) (a'.tmps.getD 91 undef) (a'.tmps.getD 92 undef) (a'.tmps.getD 93 undef) (a'.tmps.getD 94 undef) (a'.tmps.getD 95 undef) (a'.tmps.getD 96 undef) (a'.tmps.getD 97 undef) (a'.tmps.getD 98 undef) (a'.tmps.getD 99 undef) (a'.tmps.getD 100 undef) (a'.tmps.getD 101 undef) (a'.tmps.getD 102 undef) (a'.tmps.getD 103 undef) (a'.tmps.getD 104 undef) (a'.tmps.getD 105 undef) (a'.tmps.getD 106 undef) (a'.tmps.getD 107 undef) (a'.tmps.getD 108 undef) (a'.tmps.getD 109 undef) (a'.tmps.getD 110 undef) (a'.tmps.getD 111 undef) (a'.tmps.getD 112 undef) (a'.tmps.getD 113 undef) (a'.tmps.getD 114 undef) w' hf
end Go.Proofs.Ytgodlfoidjeekaa

namespace Go.Proofs.Ytgodlfoidjeekaa
set_option linter.unusedVariables false
set_option linter.unusedSimpArgs false
open Go.RowKit
set_option linter.unusedVariables false
set_option linter.unusedSimpArgs false

attribute [local go_sem ↓] Go.wp_at_zero Go.wp_at_succ

set_option maxHeartbeats 4000000 in
set_option maxRecDepth 100000 in
theorem bl13 {w0 W : World} {au av az : Option Addr} {nu nv nz ku kv kz : Nat} {x : Pa} {k : Nat} {u0 u3 u4 u5 u6 u7 u8 u9 u10 u11 u12 u13 u14 u15 u16 u17 u18 u19 u20 u21 u22 u23 u24 u25 u26 u27 u28 u29 u30 u31 u32 u33 u34 u35 u36 u37 u38 u39 u40 u41 u42 u43 u44 u45 u46 u47 u48 u49 u50 u51 u52 u53 u54 u55 u56 u57 u58 u59 u60 u61 u62 u63 u64 u65 u66 u67 u68 u69 u70 u71 u72 u73 u74 u75 u76 u77 u78 u79 u80 u81 u82 u83 u84 u85 u86 u87 u88 u89 u90 u91 u92 u93 u94 u95 u96 u97 u98 u99 u100 u101 u102 u103 u104 u105 u106 u107 u108 u109 u110 u111 u112 u113 u114 u115 u116 u117 u118 u119 u120 u121 u122 u123 u124 u125 u126 u127 u128 u129 u130 u131 u132 u133 u134 u135 u136 u137 u138 u139 u140 u141 u142 u143 u144 u145 u146 u147 u148 u149 u150 u151 u152 u153 u154 u155 u156 u157 u158 u159 u160 u161 u162 u163 u164 u165 u166 u167 u168 u169 u170 u171 u172 u173 u174 u175 u176 u177 u178 u179 u180 u181 u182 u183 u184 u185 u186 u187 u188 u189 u190 u191 u192 u193 u194 : Value} (hP : PaAt W k x (.slice au nu ku) (.slice av nv kv) (.slice az nz kz)) (hX : PaB x) (hF : Fr (fun _ => False) w0 W)  : (rgF Try.f3 13).wp Try.prog (Exit.then ((sqF Try.f3 13).wp Try.prog (bodyPost Try.prog Try.f3 (fun e w9 => e = .returned (.bool true) ∧ Fr (fun _ => False) w0 w9))) (bodyPost Try.prog Try.f3 (fun e w9 => e = .returned (.bool true) ∧ Fr (fun _ => False) w0 w9))) ⟨#[u0, .pointer (some ⟨k, 0, none⟩), .bool false, u3, u4, u5, u6, u7, u8, u9, u10, u11, u12, u13, u14, u15, u16, u17, u18, u19, u20, u21, u22, u23, u24, u25, u26, u27, u28, u29, u30, u31, u32, u33, u34, u35, u36, u37, u38, u39, u40, u41, u42, u43, u44, u45, u46, u47, u48, u49, u50, u51, u52, u53, u54, u55, u56, u57, u58, u59, u60, u61, u62, u63, u64, u65, u66, u67, u68, u69, u70, u71, u72, u73, u74, u75, u76, u77, u78, u79, u80, u81, u82, u83, u84, u85, u86, u87, u88, u89, u90, u91, u92, u93, u94, u95, u96, u97, u98, u99, u100, u101, u102, u103, u104, u105, u106, u107, u108, u109, u110, u111, u112, u113, u114, u115, u116, u117, u118, u119, u120, u121, u122, u123, u124, u125, u126, u127, u128, u129, u130, u131, u132, u133, u134, u135, u136, u137, u138, u139, u140, u141, u142, u143, u144, u145, u146, u147, u148, u149, u150, u151, u152, u153, u154, u155, u156, u157, u158, u159, u160, u161, u162, u163, u164, u165, u166, u167, u168, u169, u170, u171, u172, u173, u174, u175, u176, u177, u178, u179, u180, u181, u182, u183, u184, u185, u186, u187, u188, u189, u190, u191, u192, u193, u194], []⟩ W := by
  have HP := hide hP
  have HX := hide hX
  have HF := hide hF
  clear hP hX hF
  conv => arg 2; whnf
  conv => arg 3; arg 1; arg 2; whnf
  have c14 := ((unhide HP).kept ((Fr.refl (fun _ => False) W).alloc (.cells #[] 5))).cell 14
  simp [Pa.vs] at c14
  have RB := hide (unhide HP).rB
  have HL := hide ((unhide HX).hB)
  go_wp2_with (at_builtin; refine wl_cln rfl (.tmp 116) (.tmp 118) rfl rfl rfl (unhide RB) (unhide HL) ?_)
  intro ao c w1 h1
  have HF1 := hide ((unhide HF).trans h1.fr (fun _ _ e => e))
  have HP1 := hide ((unhide HP).kept h1.fr)
  have R16a := hide h1.rd
  clear h1 c14 HF HP RB HL
  go_wp2_with fail
  refine (getEntry_any w1 _ _ (unhide R16a)).mono ?_
  rintro e w2 ⟨u, rfl, hO, f2⟩
  obtain ⟨E, hE⟩ : ∃ E, E = enR x.B := ⟨_, rfl⟩
  rw [← hE] at hO
  rw [← hE]
  obtain ⟨uo, uc, rfl⟩ := hO.shape
  unfold En.c
  have HP2 := hide ((unhide HP1).kept f2)
  have HF2 := hide ((unhide HF1).trans f2 (fun _ _ e => e))
  have R16 := hide ((unhide R16a).kept f2 (fun _ _ e => e))
  have RE := hide hO.rd
  have HE := hide hE
  clear HP1 HF1 f2 R16a hO hE
  go_upto_region 15 with fail
  have HA17 := hide (heap_alloc_new w2 (.cells #[.int .u64 (E.b : Int), .int .u64 (E.s : Int), .int .u64 (E.p : Int), .int .u64 (E.l : Int), .int .i64 (E.pt : Int), .int .i64 (E.ps : Int), .slice uo E.L.length uc] 25))
  have fA : Fr (fun _ => False) w2 (w2.alloc (.cells #[.int .u64 (E.b : Int), .int .u64 (E.s : Int), .int .u64 (E.p : Int), .int .u64 (E.l : Int), .int .i64 (E.pt : Int), .int .i64 (E.ps : Int), .slice uo E.L.length uc] 25)) := (Fr.refl _ _).alloc _
  have HP3 := hide ((unhide HP2).kept fA)
  have HF3 := hide ((unhide HF2).trans fA (fun _ _ e => e))
  have R16b := hide ((unhide R16).kept fA (fun _ _ e => e))
  have REb := hide ((unhide RE).kept fA (fun _ _ e => e))
  clear fA HP2 HF2 R16 RE
  refine wp_world ?_
  intro w3 hw3
  rw [← hw3] at HA17 HP3 HF3 R16b REb
  obtain ⟨b17, hb17⟩ : ∃ b17, b17 = w2.heap.size := ⟨_, rfl⟩
  rw [← hb17] at HA17 ⊢
  clear hw3 hb17
  have c14 := (unhide HP3).cell 14
  simp [Pa.vs] at c14
  go_wp2_with fail
  refine (rgetEntry_any w3 _ _ (unhide HP3).rB).mono ?_
  rintro e w4 ⟨u, rfl, hO, f4⟩
  rw [← unhide HE] at hO
  rw [← unhide HE]
  obtain ⟨qo, qc, rfl⟩ := hO.shape
  unfold En.c
  have HP4 := hide ((unhide HP3).kept f4)
  have HF4 := hide ((unhide HF3).trans f4 (fun _ _ e => e))
  have R16c := hide ((unhide R16b).kept f4 (fun _ _ e => e))
  have REc := hide ((unhide REb).kept f4 (fun _ _ e => e))
  have HA17b := hide ((f4.block _ (lt_of_heap (unhide HA17)) id).trans (unhide HA17))
  have RQ := hide hO.rd
  clear HP3 HF3 f4 R16b REb HA17 hO c14
  go_upto_region 16 with fail
  have HA18 := hide (heap_alloc_new w4 (.cells #[.int .u64 (E.b : Int), .int .u64 (E.s : Int), .int .u64 (E.p : Int), .int .u64 (E.l : Int), .int .i64 (E.pt : Int), .int .i64 (E.ps : Int), .slice qo E.L.length qc] 25))
  have fA : Fr (fun _ => False) w4 (w4.alloc (.cells #[.int .u64 (E.b : Int), .int .u64 (E.s : Int), .int .u64 (E.p : Int), .int .u64 (E.l : Int), .int .i64 (E.pt : Int), .int .i64 (E.ps : Int), .slice qo E.L.length qc] 25)) := (Fr.refl _ _).alloc _
  have HP5 := hide ((unhide HP4).kept fA)
  have HF5 := hide ((unhide HF4).trans fA (fun _ _ e => e))
  have R16d := hide ((unhide R16c).kept fA (fun _ _ e => e))
  have REd := hide ((unhide REc).kept fA (fun _ _ e => e))
  have RQb := hide ((unhide RQ).kept fA (fun _ _ e => e))
  have HA17c := hide ((fA.block _ (lt_of_heap (unhide HA17b)) id).trans (unhide HA17b))
  clear fA HP4 HF4 R16c REc RQ HA17b
  refine wp_world ?_
  intro w5 hw5
  rw [← hw5] at HA18 HP5 HF5 R16d REd RQb HA17c
  obtain ⟨b18, hb18⟩ : ∃ b18, b18 = w4.heap.size := ⟨_, rfl⟩
  rw [← hb18] at HA18 ⊢
  clear hw5 hb18
  clear HE
  go_wp2_with fail
  refine (getSuper_any w5 _ _ (unhide R16d)).mono ?_
  rintro e w6 ⟨rfl, f6⟩
  obtain ⟨S, hS⟩ : ∃ S, S = suR x.B := ⟨_, rfl⟩
  rw [← hS]
  unfold Su.v
  have HP6 := hide ((unhide HP5).kept f6)
  have HF6 := hide ((unhide HF5).trans f6 (fun _ _ e => e))
  have R16e := hide ((unhide R16d).kept f6 (fun _ _ e => e))
  have REe := hide ((unhide REd).kept f6 (fun _ _ e => e))
  have RQc := hide ((unhide RQb).kept f6 (fun _ _ e => e))
  have HA17d := hide ((f6.block _ (lt_of_heap (unhide HA17c)) id).trans (unhide HA17c))
  have HA18b := hide ((f6.block _ (lt_of_heap (unhide HA18)) id).trans (unhide HA18))
  have HS := hide hS
  clear HP5 HF5 f6 R16d REd RQb HA17c HA18 hS
  go_upto_region 17 with fail
  have HA19 := hide (heap_alloc_new w6 (.cells #[.int .u64 (S.g : Int), .int .u64 (S.b : Int), .int .u64 (S.p : Int), .int .u64 (S.l : Int), .int .u64 (S.x : Int), .int .u64 (S.y : Int)] 27))
  have fA : Fr (fun _ => False) w6 (w6.alloc (.cells #[.int .u64 (S.g : Int), .int .u64 (S.b : Int), .int .u64 (S.p : Int), .int .u64 (S.l : Int), .int .u64 (S.x : Int), .int .u64 (S.y : Int)] 27)) := (Fr.refl _ _).alloc _
  have HP7 := hide ((unhide HP6).kept fA)
  have HF7 := hide ((unhide HF6).trans fA (fun _ _ e => e))
  have R16f := hide ((unhide R16e).kept fA (fun _ _ e => e))
  have REf := hide ((unhide REe).kept fA (fun _ _ e => e))
  have RQd := hide ((unhide RQc).kept fA (fun _ _ e => e))
  have HA17e := hide ((fA.block _ (lt_of_heap (unhide HA17d)) id).trans (unhide HA17d))
  have HA18c := hide ((fA.block _ (lt_of_heap (unhide HA18b)) id).trans (unhide HA18b))
  clear fA HP6 HF6 R16e REe RQc HA17d HA18b
  refine wp_world ?_
  intro w7 hw7
  rw [← hw7] at HA19 HP7 HF7 R16f REf RQd HA17e HA18c
  obtain ⟨b19, hb19⟩ : ∃ b19, b19 = w6.heap.size := ⟨_, rfl⟩
  rw [← hb19] at HA19 ⊢
  clear hw7 hb19
  have c14 := (unhide HP7).cell 14
  simp [Pa.vs] at c14
  go_wp2_with fail
  refine (rgetSuper_any w7 _ _ (unhide HP7).rB).mono ?_
  rintro e w8 ⟨rfl, f8⟩
  rw [← unhide HS]
  unfold Su.v
  have HP8 := hide ((unhide HP7).kept f8)
  have HF8 := hide ((unhide HF7).trans f8 (fun _ _ e => e))
  have R16g := hide ((unhide R16f).kept f8 (fun _ _ e => e))
  have REg := hide ((unhide REf).kept f8 (fun _ _ e => e))
  have RQe := hide ((unhide RQd).kept f8 (fun _ _ e => e))
  have HA17f := hide ((f8.block _ (lt_of_heap (unhide HA17e)) id).trans (unhide HA17e))
  have HA18d := hide ((f8.block _ (lt_of_heap (unhide HA18c)) id).trans (unhide HA18c))
  have HA19b := hide ((f8.block _ (lt_of_heap (unhide HA19)) id).trans (unhide HA19))
  clear HP7 HF7 f8 R16f REf RQd HA17e HA18c HA19 HS c14
  go_upto_region 18 with fail
  have HA20 := hide (heap_alloc_new w8 (.cells #[.int .u64 (S.g : Int), .int .u64 (S.b : Int), .int .u64 (S.p : Int), .int .u64 (S.l : Int), .int .u64 (S.x : Int), .int .u64 (S.y : Int)] 27))
  have fA : Fr (fun _ => False) w8 (w8.alloc (.cells #[.int .u64 (S.g : Int), .int .u64 (S.b : Int), .int .u64 (S.p : Int), .int .u64 (S.l : Int), .int .u64 (S.x : Int), .int .u64 (S.y : Int)] 27)) := (Fr.refl _ _).alloc _
  have HP9 := hide ((unhide HP8).kept fA)
  have HF9 := hide ((unhide HF8).trans fA (fun _ _ e => e))
  have R16h := hide ((unhide R16g).kept fA (fun _ _ e => e))
  have REh := hide ((unhide REg).kept fA (fun _ _ e => e))
  have RQf := hide ((unhide RQe).kept fA (fun _ _ e => e))
  have HA17g := hide ((fA.block _ (lt_of_heap (unhide HA17f)) id).trans (unhide HA17f))
  have HA18e := hide ((fA.block _ (lt_of_heap (unhide HA18d)) id).trans (unhide HA18d))
  have HA19c := hide ((fA.block _ (lt_of_heap (unhide HA19b)) id).trans (unhide HA19b))
  clear fA HP8 HF8 R16g REg RQe HA17f HA18d HA19b
  refine wp_world ?_
  intro w9 hw9
  rw [← hw9] at HA20 HP9 HF9 R16h REh RQf HA17g HA18e HA19c
  obtain ⟨b20, hb20⟩ : ∃ b20, b20 = w8.heap.size := ⟨_, rfl⟩
  rw [← hb20] at HA20 ⊢
  clear hw9 hb20
  go_wp2_with fail
  refine (getTx_any w9 _ _ (unhide R16h)).mono ?_
  rintro e w10 ⟨r, ci, rfl, hG⟩
  obtain ⟨rfl, hR, fa⟩ := hG.one
  obtain ⟨ro, rc, rfl⟩ := hR.shape
  have HP10 := hide ((unhide HP9).kept fa)
  have c14 := (unhide HP10).cell 14
  simp [Pa.vs] at c14
  have RG := hide hR
  clear hG hR
  go_wp2_with fail
  refine (rgetTx_any w10 _ _ (unhide HP10).rB).mono ?_
  rintro e w11 ⟨r, ci, rfl, hG⟩
  obtain ⟨rfl, hR, fb⟩ := hG.one
  obtain ⟨so, sc, rfl⟩ := hR.shape
  have fab := fa.trans fb (fun _ _ e => e)
  have HP11 := hide ((unhide HP10).kept fb)
  have HF11 := hide ((unhide HF9).trans fab (fun _ _ e => e))
  have R16i := hide ((unhide R16h).kept fab (fun _ _ e => e))
  have REi := hide ((unhide REh).kept fab (fun _ _ e => e))
  have RQg := hide ((unhide RQf).kept fab (fun _ _ e => e))
  have HA17 := (fab.block _ (lt_of_heap (unhide HA17g)) id).trans (unhide HA17g)
  have HA18 := (fab.block _ (lt_of_heap (unhide HA18e)) id).trans (unhide HA18e)
  have HA19 := (fab.block _ (lt_of_heap (unhide HA19c)) id).trans (unhide HA19c)
  have HA20 := (fab.block _ (lt_of_heap (unhide HA20)) id).trans (unhide HA20)
  have RG2 := hide (rdp_kept (unhide RG) fb)
  have RS2 := hide hR
  clear hG hR fa fb fab HP9 HF9 HP10 R16h REh RQf HA17g HA18e HA19c RG c14
  have p17_0 := cell_of_heap HA17 0
  have p17_1 := cell_of_heap HA17 1
  have p17_2 := cell_of_heap HA17 2
  have p17_3 := cell_of_heap HA17 3
  have p17_4 := cell_of_heap HA17 4
  have p17_5 := cell_of_heap HA17 5
  have p17_6 := cell_of_heap HA17 6
  have p18_0 := cell_of_heap HA18 0
  have p18_1 := cell_of_heap HA18 1
  have p18_2 := cell_of_heap HA18 2
  have p18_3 := cell_of_heap HA18 3
  have p18_4 := cell_of_heap HA18 4
  have p18_5 := cell_of_heap HA18 5
  have p18_6 := cell_of_heap HA18 6
  have p19_0 := cell_of_heap HA19 0
  have p19_1 := cell_of_heap HA19 1
  have p19_2 := cell_of_heap HA19 2
  have p19_3 := cell_of_heap HA19 3
  have p19_4 := cell_of_heap HA19 4
  have p19_5 := cell_of_heap HA19 5
  have p20_0 := cell_of_heap HA20 0
  have p20_1 := cell_of_heap HA20 1
  have p20_2 := cell_of_heap HA20 2
  have p20_3 := cell_of_heap HA20 3
  have p20_4 := cell_of_heap HA20 4
  have p20_5 := cell_of_heap HA20 5
  simp at p17_0 p17_1 p17_2 p17_3 p17_4 p17_5 p17_6 p18_0 p18_1 p18_2 p18_3 p18_4 p18_5 p18_6 p19_0 p19_1 p19_2 p19_3 p19_4 p19_5 p20_0 p20_1 p20_2 p20_3 p20_4 p20_5
  clear HA17 HA18 HA19 HA20
  go_wp2_with fail
  refine (sameEntry_any w11 (E.b : Int) (E.s : Int) (E.p : Int) (E.l : Int) (E.pt : Int) (E.ps : Int) (E.b : Int) (E.s : Int) (E.p : Int) (E.l : Int) (E.pt : Int) (E.ps : Int) uo qo uc qc E.L E.L (unhide REi) (unhide RQg)).mono ?_
  rintro e w12 ⟨he, f12⟩
  obtain rfl : e = .returned (.bool true) := by simpa using he
  clear he
  have hHP := (unhide HP11).kept f12
  have HF12 := hide ((unhide HF11).trans f12 (fun _ _ e => e))
  have RG3 := hide (rdp_kept (unhide RG2) f12)
  have RS3 := hide (rdp_kept (unhide RS2) f12)
  have R16j := hide ((unhide R16i).kept f12 (fun _ _ e => e))
  have HP12 := hide hHP
  have q19_0 := (f12.cell (a := ⟨b19, 0, none⟩) (World.block_lt_of_cell? w11 _ p19_0) id).trans p19_0
  have q19_1 := (f12.cell (a := ⟨b19, 1, none⟩) (World.block_lt_of_cell? w11 _ p19_1) id).trans p19_1
  have q19_2 := (f12.cell (a := ⟨b19, 2, none⟩) (World.block_lt_of_cell? w11 _ p19_2) id).trans p19_2
  have q19_3 := (f12.cell (a := ⟨b19, 3, none⟩) (World.block_lt_of_cell? w11 _ p19_3) id).trans p19_3
  have q19_4 := (f12.cell (a := ⟨b19, 4, none⟩) (World.block_lt_of_cell? w11 _ p19_4) id).trans p19_4
  have q19_5 := (f12.cell (a := ⟨b19, 5, none⟩) (World.block_lt_of_cell? w11 _ p19_5) id).trans p19_5
  have q20_0 := (f12.cell (a := ⟨b20, 0, none⟩) (World.block_lt_of_cell? w11 _ p20_0) id).trans p20_0
  have q20_1 := (f12.cell (a := ⟨b20, 1, none⟩) (World.block_lt_of_cell? w11 _ p20_1) id).trans p20_1
  have q20_2 := (f12.cell (a := ⟨b20, 2, none⟩) (World.block_lt_of_cell? w11 _ p20_2) id).trans p20_2
  have q20_3 := (f12.cell (a := ⟨b20, 3, none⟩) (World.block_lt_of_cell? w11 _ p20_3) id).trans p20_3
  have q20_4 := (f12.cell (a := ⟨b20, 4, none⟩) (World.block_lt_of_cell? w11 _ p20_4) id).trans p20_4
  have q20_5 := (f12.cell (a := ⟨b20, 5, none⟩) (World.block_lt_of_cell? w11 _ p20_5) id).trans p20_5
  clear hHP f12 HP11 HF11 RG2 RS2 R16i REi RQg p17_0 p17_1 p17_2 p17_3 p17_4 p17_5 p17_6 p18_0 p18_1 p18_2 p18_3 p18_4 p18_5 p18_6 p19_0 p19_1 p19_2 p19_3 p19_4 p19_5 p20_0 p20_1 p20_2 p20_3 p20_4 p20_5
  have hgl := gxX_len x.B
  go_wp2_with (go_at_call 18; refine (num_any _ _).mono ?_; rintro e w9 ⟨rfl, rfl⟩)
  refine (same_any w12 _ _ (gxX x.B) (gxX x.B) (unhide RG3) (unhide RS3) (by omega)).mono ?_
  rintro e w13 ⟨he, f13⟩
  obtain rfl : e = .returned (.bool true) := by simpa using he
  clear he
  have HP13 := (unhide HP12).kept f13
  have k1 := conv_rd (P := Try.prog) ((unhide R16j).kept f13 (fun _ _ e => e)) 23 9 5 Try.underlying23 Try.underlying5 Try.underlying9
  have k2 := conv_rd (P := Try.prog) HP13.rB 23 9 5 Try.underlying23 Try.underlying5 Try.underlying9
  have c14 := HP13.cell 14
  simp [Pa.vs] at c14
  have HF := hide ((unhide HF12).trans f13 (fun _ _ e => e))
  clear HP13 HP12 f13 RG3 RS3 R16j HF12 hgl q19_0 q19_1 q19_2 q19_3 q19_4 q19_5 q20_0 q20_1 q20_2 q20_3 q20_4 q20_5
  generalize str x.B = sx at *
  go_wp2_with (go_at_call 18; refine (num_any _ _).mono ?_; rintro e w9 ⟨rfl, rfl⟩)
  refine (live_any _).mono ?_
  rintro e w14 ⟨rfl, f14⟩
  go_wp2_with fail
  go_ret
  exact ⟨rfl, (unhide HF).trans f14 (fun _ _ e => e)⟩
set_option maxHeartbeats 4000000 in
set_option maxRecDepth 100000 in
theorem journalBlocks_any (w : World) {au av az : Option Addr} {nu nv nz ku kv kz : Nat} {x : Pa}  (hL : Rd w (.slice au nu ku) x.L) (hT : RdP w (.slice av nv kv) x.T) (hB : Rd w (.slice az nz kz) x.B) (b0 : x.b < 18446744073709551616) (bL : x.L.length ≤ 1048576) (bB : x.B.length ≤ 1048576) (bT : x.T.length ≤ 1048576) (bD : ∀ p ∈ x.T, p.2.length ≤ 1048576) :
    Calls Try.prog 3 #[.agg (x.vs (.slice au nu ku) (.slice av nv kv) (.slice az nz kz)).toArray] w fun e w' => e = .returned (.bool true) ∧ Fr (fun _ => False) w w' := by
  have HA := hide (heap_alloc_new w (.cells (x.vs (.slice au nu ku) (.slice av nv kv) (.slice az nz kz)).toArray 30))
  have fA : Fr (fun _ => False) w (w.alloc (.cells (x.vs (.slice au nu ku) (.slice av nv kv) (.slice az nz kz)).toArray 30)) := (Fr.refl _ _).alloc _
  have hP : PaAt (w.alloc (.cells (x.vs (.slice au nu ku) (.slice av nv kv) (.slice az nz kz)).toArray 30)) w.heap.size x (.slice au nu ku) (.slice av nv kv) (.slice az nz kz) := ⟨unhide HA, hL.kept fA (fun _ _ e => e), rdp_kept hT fA, hB.kept fA (fun _ _ e => e)⟩
  have hnu : nu = x.L.length := by
    obtain ⟨ao, cc, e⟩ := hL.shape
    simp at e
    exact e.2.1
  have hnz : nz = x.B.length := by
    obtain ⟨ao, cc, e⟩ := hB.shape
    simp at e
    exact e.2.1
  have hnv : nv = x.T.length := by
    obtain ⟨ao, cc, e⟩ := hT.shape
    simp at e
    exact e.2.1
  subst hnu hnz hnv
  have HP := hide hP
  have FA := hide fA
  have HL0 := hide hL
  have HT0 := hide hT
  have HB0 := hide hB
  unfold Pa.vs at *
  clear hL hT hB fA hP HA
  go_enter Try.func3, Try.ntmps3
  go_upto_region 1 with fail
  refine wp_world ?_
  intro w1 hw1
  rw [← hw1] at HP FA
  obtain ⟨b, hb⟩ : ∃ b, b = w.heap.size := ⟨_, rfl⟩
  rw [← hb] at HP ⊢
  clear hw1 hb
  have c0 := (unhide HP).cell 0
  have c1 := (unhide HP).cell 1
  have c2 := (unhide HP).cell 2
  have c3 := (unhide HP).cell 3
  have c4 := (unhide HP).cell 4
  have c5 := (unhide HP).cell 5
  have c6 := (unhide HP).cell 6
  have c7 := (unhide HP).cell 7
  have c8 := (unhide HP).cell 8
  have c9 := (unhide HP).cell 9
  have c10 := (unhide HP).cell 10
  have c11 := (unhide HP).cell 11
  have c12 := (unhide HP).cell 12
  have c13 := (unhide HP).cell 13
  have c14 := (unhide HP).cell 14
  have c15 := (unhide HP).cell 15
  simp [Pa.vs] at c0 c1 c2 c3 c4 c5 c6 c7 c8 c9 c10 c11 c12 c13 c14 c15
  go_wp2_with fail
  refine (heavy_any w1 _ _ _ _ _ _ _ _ _ _ _ _ _ (.slice av x.T.length kv) au az x.L.length ku x.B.length kz x.T (unhide HP).rT (by omega) (by omega) (by omega) (fun p h => by have := bD p h; omega)).mono ?_
  rintro e w2 ⟨rfl, f2⟩
  have HP2 := hide ((unhide HP).kept f2)
  have HF2 := hide ((unhide FA).trans f2 (fun _ _ e => e))
  clear f2 HP FA c0 c1 c2 c3 c4 c5 c6 c7 c8 c9 c10 c11 c12 c13 c14 c15
  rcases hv : hvB x.L.length x.B.length x.T with _ | _
  · have HX : Hid (PaB x) := hide ⟨b0, bL, bB, by
      unfold hvB at hv
      simp only [Bool.or_eq_false_iff, decide_eq_false_iff_not] at hv
      omega, bD⟩
    clear b0 bL bB bT bD
    have c0 := (unhide HP2).cell 0
    have c1 := (unhide HP2).cell 1
    have c2 := (unhide HP2).cell 2
    have c3 := (unhide HP2).cell 3
    have c4 := (unhide HP2).cell 4
    have c5 := (unhide HP2).cell 5
    have c6 := (unhide HP2).cell 6
    simp [Pa.vs] at c0 c1 c2 c3 c4 c5 c6
    go_upto_region 4 with fail
    clear hv c0 c1 c2 c3 c4 c5 c6
    have HSW := hide (unhide HF2).size
    have HBW := hide (lt_of_heap (unhide HP2).heap)
    have HA3 := hide (heap_alloc_new w2 (.cells #[.int .u64 (x.b : Int), .int .u64 (x.s : Int), .int .u64 (x.p : Int), .int .u64 (x.l : Int), .int .i64 x.pt, .int .i64 x.ps, .slice au x.L.length ku] 25))
    have fA : Fr (fun _ => False) w2 (w2.alloc (.cells #[.int .u64 (x.b : Int), .int .u64 (x.s : Int), .int .u64 (x.p : Int), .int .u64 (x.l : Int), .int .i64 x.pt, .int .i64 x.ps, .slice au x.L.length ku] 25)) := (Fr.refl _ _).alloc _
    have HP3 := hide ((unhide HP2).kept fA)
    have HF3 := hide ((unhide HF2).trans fA (fun _ _ e => e))
    clear fA HP2 HF2
    refine wp_world ?_
    intro w3 hw3
    rw [← hw3] at HA3 HP3 HF3
    obtain ⟨b3, hb3⟩ : ∃ b3, b3 = w2.heap.size := ⟨_, rfl⟩
    rw [← hb3] at HA3 ⊢
    rw [← hb3] at HSW HBW
    clear hw3 hb3
    have fN : Fr (fun _ => False) w3 (w3.alloc (.cells #[] 5)) := (Fr.refl _ _).alloc _
    have c6 := ((unhide HP3).kept fN).cell 6
    simp [Pa.vs] at c6
    have RL := hide (unhide HP3).rL
    have HL := hide ((unhide HX).hL)
    clear fN
    go_wp2_with (at_builtin; refine wl_cln rfl (.tmp 28) (.tmp 31) rfl rfl rfl (unhide RL) (unhide HL) ?_)
    intro ao ac w4 h4
    have HA4 := hide ((h4.fr.block _ (lt_of_heap (unhide HA3)) id).trans (unhide HA3))
    have HP4 := hide ((unhide HP3).kept h4.fr)
    have HF4 := hide ((unhide HF3).trans h4.fr (fun _ _ e => e))
    have NB := hide h4
    have d6 := cell_of_heap (unhide HA4) 6
    have z6 := frozen_of_heap (unhide HA4) 6
    simp at d6
    have HBL := hide (lt_of_heap (unhide HA3))
    clear h4 HA3 HP3 HF3 RL HL c6
    go_upto_region 5 with fail
    have f5 : Fr (fun k => k = b3) w4 (w4.setCell ⟨b3, 6, none⟩ (.slice ao x.L.length ac)) := (Fr.refl (fun k => k = b3) w4).setCell (p := ⟨b3, 6, none⟩) (fun _ => rfl) _
    have HA5 := hide (heap_setCell_same w4 b3 6 _ 25 (.slice ao x.L.length ac) (unhide HA4))
    have hF5 := (unhide HF4).trans f5 (fun k hk e => by have := unhide HSW; omega)
    have HP5 : Hid (PaAt (w4.setCell ⟨b3, 6, none⟩ (.slice ao x.L.length ac)) b x (.slice au x.L.length ku) (.slice av x.T.length kv) (.slice az x.B.length kz)) := hide ⟨(f5.block b (lt_of_heap (unhide HP4).heap) (fun e => by have := unhide HBW; omega)).trans (unhide HP4).heap, (unhide HL0).kept hF5 (fun _ _ e => e), rdp_kept (unhide HT0) hF5, (unhide HB0).kept hF5 (fun _ _ e => e)⟩
    have HN5 := hide ((unhide NB).rd.kept f5 (fun k e z => by have := (unhide NB).new k e; have := unhide HBL; omega))
    have HF5 := hide hF5
    clear f5 hF5 HA4 HP4 HF4 NB d6 z6 HSW HBW HBL HL0 HT0 HB0
    refine wp_world ?_
    intro w5 hw5
    rw [← hw5] at HA5 HP5 HN5 HF5
    clear hw5
    have d0 := cell_of_heap (unhide HA5) 0
    have d1 := cell_of_heap (unhide HA5) 1
    have d2 := cell_of_heap (unhide HA5) 2
    have d3 := cell_of_heap (unhide HA5) 3
    have d4 := cell_of_heap (unhide HA5) 4
    have d5 := cell_of_heap (unhide HA5) 5
    have d6 := cell_of_heap (unhide HA5) 6
    simp at d0 d1 d2 d3 d4 d5 d6
    go_wp2_with fail
    refine (putEntry_one w5 x.b x.s x.p x.l x.pt x.ps ao ac x.L (unhide HN5)).mono ?_
    rintro e w6 ⟨v, rfl, hR, f6⟩
    obtain ⟨XE, hXE⟩ : ∃ X, X = peX x.b x.s x.p x.l x.pt x.ps x.L := ⟨_, rfl⟩
    obtain ⟨ce, hce⟩ : ∃ c, c = peC x.b x.s x.p x.l x.pt x.ps x.L := ⟨_, rfl⟩
    rw [← hXE] at hR
    rw [← hce]
    obtain ⟨o4, c4, rfl⟩ := hR.shape
    have HXE := hide hXE
    have HCE := hide hce
    have R4a := hide hR
    have HP6 := hide ((unhide HP5).kept f6)
    have HF6 := hide ((unhide HF5).trans f6 (fun _ _ e => e))
    clear HA5 HP5 HF5 HN5 f6 hR hXE hce d0 d1 d2 d3 d4 d5 d6
    have c0 := (unhide HP6).cell 0
    have c1 := (unhide HP6).cell 1
    have c2 := (unhide HP6).cell 2
    have c3 := (unhide HP6).cell 3
    have c4 := (unhide HP6).cell 4
    have c5 := (unhide HP6).cell 5
    have c6 := (unhide HP6).cell 6
    simp [Pa.vs] at c0 c1 c2 c3 c4 c5 c6
    go_wp2_with fail
    refine (rputEntry_one w6 x.b x.s x.p x.l x.pt x.ps au ku x.L (unhide HP6).rL).mono ?_
    rintro e w7 ⟨v, rfl, hR, f7⟩
    rw [← unhide HXE] at hR
    rw [← unhide HCE]
    obtain ⟨o6, c6', rfl⟩ := hR.shape
    have R6a := hide hR
    have R4b := hide ((unhide R4a).kept f7 (fun _ _ e => e))
    have HP7 := hide ((unhide HP6).kept f7)
    have HF7 := hide ((unhide HF6).trans f7 (fun _ _ e => e))
    clear HP6 HF6 f7 hR R4a HXE HCE c0 c1 c2 c3 c4 c5 c6
    have c7 := (unhide HP7).cell 7
    have c8 := (unhide HP7).cell 8
    have c9 := (unhide HP7).cell 9
    have c10 := (unhide HP7).cell 10
    have c11 := (unhide HP7).cell 11
    have c12 := (unhide HP7).cell 12
    simp [Pa.vs] at c7 c8 c9 c10 c11 c12
    go_wp2_with fail
    refine (putSuper_one w7 x.g x.gb x.gp x.gl x.gx x.gy).mono ?_
    rintro e w8 ⟨v, rfl, hR, f8⟩
    obtain ⟨XS, hXS⟩ : ∃ X, X = psX x.g x.gb x.gp x.gl x.gx x.gy := ⟨_, rfl⟩
    obtain ⟨cs, hcs⟩ : ∃ c, c = psC x.g x.gb x.gp x.gl x.gx x.gy := ⟨_, rfl⟩
    rw [← hXS] at hR
    rw [← hcs]
    obtain ⟨o8, c8', rfl⟩ := hR.shape
    have HXS := hide hXS
    have HCS := hide hcs
    have R8a := hide hR
    have R6b := hide ((unhide R6a).kept f8 (fun _ _ e => e))
    have R4c := hide ((unhide R4b).kept f8 (fun _ _ e => e))
    have HP8 := hide ((unhide HP7).kept f8)
    have HF8 := hide ((unhide HF7).trans f8 (fun _ _ e => e))
    clear HP7 HF7 f8 hR R6a R4b hXS hcs c7 c8 c9 c10 c11 c12
    have c7 := (unhide HP8).cell 7
    have c8 := (unhide HP8).cell 8
    have c9 := (unhide HP8).cell 9
    have c10 := (unhide HP8).cell 10
    have c11 := (unhide HP8).cell 11
    have c12 := (unhide HP8).cell 12
    simp [Pa.vs] at c7 c8 c9 c10 c11 c12
    go_wp2_with fail
    refine (rputSuper_one w8 x.g x.gb x.gp x.gl x.gx x.gy).mono ?_
    rintro e w9 ⟨v, rfl, hR, f9⟩
    rw [← unhide HXS] at hR
    rw [← unhide HCS]
    obtain ⟨o10, c10', rfl⟩ := hR.shape
    have R10a := hide hR
    have R8b := hide ((unhide R8a).kept f9 (fun _ _ e => e))
    have R6c := hide ((unhide R6b).kept f9 (fun _ _ e => e))
    have R4d := hide ((unhide R4c).kept f9 (fun _ _ e => e))
    have HP9 := hide ((unhide HP8).kept f9)
    have HF9 := hide ((unhide HF8).trans f9 (fun _ _ e => e))
    clear HP8 HF8 f9 hR R8a R6b R4c HXS HCS c7 c8 c9 c10 c11 c12
    have c13 := (unhide HP9).cell 13
    simp [Pa.vs] at c13
    go_wp2_with fail
    refine (own_any w9 _ x.T (unhide HP9).rT (by have := (unhide HX).hT; omega) (fun p h => by have := (unhide HX).hD p h; omega)).mono ?_
    rintro e w10 ⟨r, rfl, hO, f10⟩
    obtain ⟨ro, rc, rfl⟩ := hO.shape
    have RO := hide hO.rdp
    have HP10 := hide ((unhide HP9).kept f10)
    have F10 := hide f10
    clear hO f10 c13
    go_wp2_with fail
    refine (putTx_any w10 _ x.T (unhide RO) (unhide HX).hT).mono ?_
    rintro e w11 ⟨v, ct, rfl, hp⟩
    obtain ⟨rfl, hR, f11⟩ := hp.one
    obtain ⟨XT, hXT⟩ : ∃ X, X = pxX x.T := ⟨_, rfl⟩
    obtain ⟨ct, hct⟩ : ∃ c, c = pxC x.T := ⟨_, rfl⟩
    rw [← hXT] at hR
    rw [← hct]
    obtain ⟨o12, c12', rfl⟩ := hR.shape
    have fab := (unhide F10).trans f11 (fun _ _ e => e)
    have HXT := hide hXT
    have HCT := hide hct
    have R12a := hide hR
    have R10b := hide ((unhide R10a).kept fab (fun _ _ e => e))
    have R8c := hide ((unhide R8b).kept fab (fun _ _ e => e))
    have R6d := hide ((unhide R6c).kept fab (fun _ _ e => e))
    have R4e := hide ((unhide R4d).kept fab (fun _ _ e => e))
    have HP11 := hide ((unhide HP10).kept f11)
    have HF11 := hide ((unhide HF9).trans fab (fun _ _ e => e))
    clear HP10 HP9 HF9 f11 fab F10 RO hp hR R10a R8b R6c R4d hXT hct
    have c13 := (unhide HP11).cell 13
    simp [Pa.vs] at c13
    go_wp2_with fail
    refine (rputTx_any w11 _ x.T (unhide HP11).rT (unhide HX).hT).mono ?_
    rintro e w12 ⟨v, ct', rfl, hp⟩
    obtain ⟨rfl, hR, f12⟩ := hp.one
    rw [← unhide HXT] at hR
    rw [← unhide HCT]
    obtain ⟨o14, c14', rfl⟩ := hR.shape
    have R14 := hide hR
    have R12 := hide ((unhide R12a).kept f12 (fun _ _ e => e))
    have R10 := hide ((unhide R10b).kept f12 (fun _ _ e => e))
    have R8 := hide ((unhide R8c).kept f12 (fun _ _ e => e))
    have R6 := hide ((unhide R6d).kept f12 (fun _ _ e => e))
    have R4 := hide ((unhide R4e).kept f12 (fun _ _ e => e))
    have HP12 := hide ((unhide HP11).kept f12)
    have HF12 := hide ((unhide HF11).trans f12 (fun _ _ e => e))
    clear HP11 HF11 f12 hp hR R12a R10b R8c R6d R4e HXT HCT c13
    have C15 : Hid (w12.cell? ⟨b, 15, none⟩ = some (.int .i64 x.n)) := hide (by
      have := (unhide HP12).cell 15
      simpa [Pa.vs] using this)
    go_upto_region 11 with fail
    refine bl11 (unhide R4) (unhide R6) (unhide R8) (unhide R10) (unhide R12) (unhide R14) (unhide C15) ?_
    intros
    rename_i W' hW
    have HP13 := hide ((unhide HP12).kept hW)
    have HF13 := hide ((unhide HF12).trans hW (fun _ _ e => e))
    clear hW HP12 HF12 R4 R6 R8 R10 R12 R14 C15
    go_upto_region 13 with (go_at_call 18; refine (num_any _ _).mono ?_; rintro e w9 ⟨rfl, rfl⟩)
    refine wp_mono (bl13 (unhide HP13) (unhide HX) (unhide HF13)) ?_
    intro e a9 w9 h9
    cases e
    case normal => apply_assumption; exact h9
    all_goals exact h9
  · have HF := HF2
    go_wp2_with fail
    refine (live_any _).mono ?_
    rintro e w9 ⟨rfl, f9⟩
    go_wp2_with fail
    go_ret
    exact ⟨rfl, (unhide HF).trans f9 (fun _ _ e => e)⟩
end Go.Proofs.Ytgodlfoidjeekaa

namespace Go.Proofs.Ytgodlfoidjeekaa
set_option linter.unusedVariables false
set_option linter.unusedSimpArgs false
open Go.RowKit Go.ChangeShapes Go.WideShapes Go.ChangeAt Go.Deep
set_option linter.unusedVariables false

theorem bulk_one {H : Type} (d : DataW H) : 1 ≤ Rows.uptoBulk d := by
  cases d with
  | lit l => cases l <;> simp [Rows.uptoBulk]
  | nil => simp [Rows.uptoBulk]
  | ptr d => simp [Rows.uptoBulk]
  | slice elems spare => simp [Rows.uptoBulk]
  | agg parts => simp [Rows.uptoBulk]
  | iface t d => simp [Rows.uptoBulk]
  | map entries => simp [Rows.uptoBulk]
  | held h => simp [Rows.uptoBulk]

theorem bulk_mem {H : Type} {l : List (DataW H)} {d : DataW H} (h : d ∈ l) : Rows.uptoBulk d ≤ Rows.uptoBulkAll l := by
  induction l with
  | nil => simp at h
  | cons x r ih =>
    simp only [Rows.uptoBulkAll]
    rcases List.mem_cons.1 h with rfl | h
    · omega
    · have := ih h; omega

theorem bulk_length {H : Type} (l : List (DataW H)) : l.length ≤ Rows.uptoBulkAll l := by
  induction l with
  | nil => simp
  | cons x r ih => have := bulk_one x; simp only [Rows.uptoBulkAll, List.length_cons]; omega

theorem byte_nat (x : Int) (h : 0 ≤ x) (h2 : x < 256) : (((UInt8.ofNat x.toNat).toNat : Nat) : Int) = x := by
  rw [UInt8.toNat_ofNat']; omega
theorem bd64 {n : Int} (h : (Lit.int .u64 n).wf = true) : 0 ≤ n ∧ n < 18446744073709551616 := by
  have := bounds_u64 h; omega
theorem bdi {n : Int} (h : (Lit.int .i64 n).wf = true) : -9223372036854775808 ≤ n ∧ n < 9223372036854775808 := by
  have := bounds_i64 h; omega

section
variable {H : Type} {enc : TypeId × Value → H} {W : World} {fuel : Nat} {d : DataW H} {pl : List MemPlace} {spare : Nat → Bool} {held : Bool}

/-- A []byte that came in. -/
theorem open_rd {v : Value} (h : DataW.trod enc Try.prog W 0 spare held fuel 23 [v] = some (d, pl)) : ∃ l, Rd W v l ∧ l.length ≤ Rows.uptoBulk d := by
  rcases open_ints Try.underlying23 Try.underlying5 (by kernel_rfl) h with ⟨hcs, hx⟩ | ⟨a, len, cap, zs, hcs, _, hl, hm, hz, hx, hcell, hwz⟩
  · simp at hcs
    subst hcs
    exact ⟨[], Rd.nil _, by simp⟩
  · simp at hcs
    subst hcs
    simp only [Prod.mk.injEq] at hx
    have hzl : len ≤ zs.length := by rw [hz]; split <;> omega
    have hlen : ((zs.take len).map fun n => UInt8.ofNat n.toNat).length = len := by simp; omega
    refine ⟨(zs.take len).map fun n => UInt8.ofNat n.toNat, .inr ⟨a, cap, by rw [hlen], by rw [hlen]; exact hl, hm, fun j hj => ?_⟩, ?_⟩
    · rw [hlen] at hj
      rw [hcell j (by omega)]
      have hb := bounds_u8 (hwz _ (List.getElem_mem (show j < zs.length by omega)))
      have e : zs.getD j 0 = zs[j]'(by omega) := by simp [List.getD, show j < zs.length by omega]
      rw [e]
      simp only [List.getElem_map, List.getElem_take]
      rw [byte_nat _ hb.1 (by omega)]
    · rw [hlen, hx.1]
      simp only [Rows.uptoBulk]
      have := bulk_length (H := H) (lits IntKind.u8 (zs.take len))
      have e : (lits (H := H) IntKind.u8 (zs.take len)).length = len := by simp [lits]; omega
      omega

set_option maxRecDepth 100000 in
/-- A Put that came in. -/
theorem open_put {cs : List Value} (h : DataW.trod enc Try.prog W 0 spare held fuel 94 cs = some (d, pl)) (hb : Rows.uptoBulk d ≤ 1048576) : ∃ s : Int × Value × List UInt8, cs = [.int .i64 s.1, s.2.1] ∧ Rd W s.2.1 s.2.2 ∧ s.2.2.length ≤ 1048576 := by
  obtain ⟨xs, n, rfl, hx, hlen, hxl, hf⟩ := DataW.trod_struct Try.underlying94 h
  have hc2 : Try.prog.cellsOf 94 = 2 := by kernel_rfl
  rw [hc2] at hlen
  simp only [Prod.mk.injEq] at hx
  have hxl2 : xs.length = 2 := hxl
  match cs, hlen with
  | [c0, c1], _ =>
    match xs, hxl2 with
    | [x0, x1], _ =>
      have b : ∀ x ∈ [x0, x1], Rows.uptoBulk x.1 ≤ 1048576 := fun x hx' => by
        have := bulk_mem (List.mem_map.2 ⟨x, hx', rfl⟩ : x.1 ∈ [x0, x1].map (·.1))
        rw [hx.1] at hb
        simp only [Rows.uptoBulk] at hb
        omega
      have k3 : Try.prog.cellsOf 3 = 1 := by kernel_rfl
      have k23 : Try.prog.cellsOf 23 = 1 := by kernel_rfl
      have f0 : DataW.trod enc Try.prog W 0 spare held n 3 (([c0, c1].drop 0).take (Try.prog.cellsOf 3)) = some x0 := hf 0 _ rfl
      rw [k3] at f0
      have f1 : DataW.trod enc Try.prog W 0 spare held n 23 (([c0, c1].drop 1).take (Try.prog.cellsOf 23)) = some x1 := hf 1 _ rfl
      rw [k23] at f1
      obtain ⟨n0, e0, -, w0⟩ := DataW.trod_int Try.underlying3 f0
      obtain ⟨l1, r1, z1⟩ := open_rd f1
      obtain rfl : c0 = .int .i64 n0 := by simpa using e0
      exact ⟨(n0, c1, l1), rfl, r1, Nat.le_trans z1 (b x1 (by simp))⟩

/-- A []Put that came in. -/
theorem open_puts {v : Value} (h : DataW.trod enc Try.prog W 0 spare held fuel 28 [v] = some (d, pl)) (hb : Rows.uptoBulk d ≤ 1048576) : ∃ ps, RdP W v ps ∧ ps.length ≤ 1048576 ∧ ∀ p ∈ ps, p.2.length ≤ 1048576 := by
  rcases open_slice Try.underlying28 h with ⟨hcs, hx⟩ | ⟨a, len, cap, m, n, D, Pl, hcs, _, hl, hm, hmm, hx, hcell⟩
  · simp at hcs
    subst hcs
    exact ⟨[], .inl ⟨⟨_, _, rfl⟩, rfl⟩, by simp, by simp⟩
  · simp at hcs
    subst hcs
    simp only [Prod.mk.injEq] at hx
    have hlm : len ≤ m := by rw [hmm]; split <;> omega
    have hbulk : Rows.uptoBulkAll ((List.range len).map D) ≤ 1048576 := by
      rw [hx.1] at hb
      simp only [Rows.uptoBulk] at hb
      omega
    have hlen : len ≤ 1048576 := by
      have := bulk_length ((List.range len).map D)
      simp only [List.length_map, List.length_range] at this
      omega
    have hc2 : Try.prog.cellsOf 94 = 2 := by kernel_rfl
    rw [hc2] at hcell
    have hch : ∀ i, i < len → ∃ s : Int × Value × List UInt8, W.cells? 0 (a.add (i * 2)) 2 = some [.int .i64 s.1, s.2.1] ∧ Rd W s.2.1 s.2.2 ∧ s.2.2.length ≤ 1048576 := fun i hi => by
      obtain ⟨cs', h1, h2⟩ := hcell i (by omega)
      obtain ⟨s, rfl, hs⟩ := open_put h2 (Nat.le_trans (bulk_mem (List.mem_map.2 ⟨i, List.mem_range.2 hi, rfl⟩ : D i ∈ (List.range len).map D)) hbulk)
      exact ⟨s, h1, hs⟩
    obtain ⟨L, hL⟩ := choose_lt (α := Int × Value × List UInt8) hch
    have key : ∀ j (hj : j < len), W.cell? (a.add (j * 2)) = some (.int .i64 (L j).1) ∧ W.cell? (a.add (j * 2 + 1)) = some (L j).2.1 := fun j hj => by
      have hc := World.cells?_some (hL j hj).1
      have h0 := hc.2.2 0 (by decide)
      have h1 := hc.2.2 1 (by decide)
      rw [add_add] at h0 h1
      exact ⟨h0, h1⟩
    refine ⟨(List.range len).map fun j => ((L j).1, (L j).2.2), ?_, by simpa using hlen, fun p hp => ?_⟩
    · rcases Nat.eq_zero_or_pos len with e | e
      · subst e
        exact .inl ⟨⟨_, _, rfl⟩, rfl⟩
      · obtain ⟨b, off, spot⟩ := a
        have hspot : spot = none := by simpa [Addr.add] using World.cell?_spot (key 0 e).1
        subst hspot
        refine .inr ⟨b, off, cap, by simp, by simpa using hl, hm, fun j hj => ?_⟩
        have hj' : j < len := by simpa using hj
        have e : ((List.range len).map fun j => ((L j).1, (L j).2.2))[j]'hj = ((L j).1, (L j).2.2) := by simp
        rw [e]
        obtain ⟨k0, k1⟩ := key j hj'
        rw [Addr.add_lit] at k0 k1
        exact ⟨k0, _, k1, (hL j hj').2.1⟩
    · obtain ⟨j, hj, rfl⟩ := List.mem_map.1 hp
      exact (hL j (List.mem_range.1 hj)).2.2
end
end Go.Proofs.Ytgodlfoidjeekaa

namespace Go.Proofs.Ytgodlfoidjeekaa
set_option linter.unusedVariables false
set_option linter.unusedSimpArgs false
open Go.RowKit Go.ChangeShapes Go.WideShapes Go.ChangeAt Go.Deep
set_option linter.unusedVariables false

/-- How Parts come in. -/
structure Pa.In (x : Pa) : Prop where
  b0 : x.b < 18446744073709551616
  bL : x.L.length ≤ 1048576
  bB : x.B.length ≤ 1048576
  bT : x.T.length ≤ 1048576
  bD : ∀ p ∈ x.T, p.2.length ≤ 1048576
  bE : x.s < 18446744073709551616 ∧ x.p < 18446744073709551616 ∧ x.l < 18446744073709551616
  bI : (-9223372036854775808 ≤ x.pt ∧ x.pt < 9223372036854775808) ∧ (-9223372036854775808 ≤ x.ps ∧ x.ps < 9223372036854775808) ∧ (-9223372036854775808 ≤ x.n ∧ x.n < 9223372036854775808)
  bS : x.g < 18446744073709551616 ∧ x.gb < 18446744073709551616 ∧ x.gp < 18446744073709551616 ∧ x.gl < 18446744073709551616 ∧ x.gx < 18446744073709551616 ∧ x.gy < 18446744073709551616
theorem cells30 : Try.prog.cellsOf 30 = 16 := by kernel_rfl
theorem cells25 : Try.prog.cellsOf 25 = 7 := by kernel_rfl
theorem cells27 : Try.prog.cellsOf 27 = 6 := by kernel_rfl
theorem toN {n : Int} (h : 0 ≤ n ∧ n < 18446744073709551616) : ∃ m : Nat, n = (m : Int) ∧ m < 18446744073709551616 := ⟨n.toNat, by omega, by omega⟩
section
variable {H : Type} {enc : TypeId × Value → H} {W : World} {fuel : Nat} {d : DataW H} {pl : List MemPlace} {sp : Nat → Bool} {held : Bool}
theorem open_u {c : Value} {y : DataW H × List MemPlace} (e : DataW.trod enc Try.prog W 0 sp held fuel 22 [c] = some y) : ∃ m : Nat, c = .int .u64 (m : Int) ∧ m < 18446744073709551616 := by
  obtain ⟨a, h, -, w⟩ := DataW.trod_int Try.underlying22 e
  obtain ⟨m, rfl, hm⟩ := toN (bd64 w)
  exact ⟨m, by simpa using h, hm⟩
theorem open_i {c : Value} {y : DataW H × List MemPlace} (e : DataW.trod enc Try.prog W 0 sp held fuel 3 [c] = some y) : ∃ a : Int, c = .int .i64 a ∧ -9223372036854775808 ≤ a ∧ a < 9223372036854775808 := by
  obtain ⟨a, h, -, w⟩ := DataW.trod_int Try.underlying3 e
  have := bdi w
  exact ⟨a, by simpa using h, by omega, by omega⟩
set_option maxRecDepth 100000 in
theorem open_entry {c0 c1 c2 c3 c4 c5 c6 : Value} {y : DataW H × List MemPlace} (hf : DataW.trod enc Try.prog W 0 sp held fuel 25 [c0, c1, c2, c3, c4, c5, c6] = some y) (hb : Rows.uptoBulk y.1 ≤ 1048576) :
    ∃ (b s p l : Nat) (pt ps : Int) (L : List UInt8), c0 = .int .u64 (b : Int) ∧ c1 = .int .u64 (s : Int) ∧ c2 = .int .u64 (p : Int) ∧ c3 = .int .u64 (l : Int) ∧ c4 = .int .i64 pt ∧ c5 = .int .i64 ps ∧ Rd W c6 L ∧ L.length ≤ 1048576 ∧ (b < 18446744073709551616 ∧ s < 18446744073709551616 ∧ p < 18446744073709551616 ∧ l < 18446744073709551616) ∧ (-9223372036854775808 ≤ pt ∧ pt < 9223372036854775808) ∧ (-9223372036854775808 ≤ ps ∧ ps < 9223372036854775808) := by
  obtain ⟨xs, k, _, hx, hl, hlen, hfl⟩ := DataW.trod_struct Try.underlying25 hf
  match xs, hlen with
  | [y0, y1, y2, y3, y4, y5, y6], _ =>
    have bb : Rows.uptoBulk y6.1 ≤ 1048576 := by
      have := bulk_mem (List.mem_map.2 ⟨y6, by simp, rfl⟩ : y6.1 ∈ [y0, y1, y2, y3, y4, y5, y6].map (·.1))
      rw [hx] at hb
      simp only [Rows.uptoBulk] at hb
      omega
    have k22 : Try.prog.cellsOf 22 = 1 := by kernel_rfl
    have k3 : Try.prog.cellsOf 3 = 1 := by kernel_rfl
    have k23 : Try.prog.cellsOf 23 = 1 := by kernel_rfl
    have e0 : DataW.trod enc Try.prog W 0 sp held k 22 ((([c0, c1, c2, c3, c4, c5, c6] : List Value).drop 0).take (Try.prog.cellsOf 22)) = some y0 := hfl 0 _ rfl
    have e1 : DataW.trod enc Try.prog W 0 sp held k 22 ((([c0, c1, c2, c3, c4, c5, c6] : List Value).drop 1).take (Try.prog.cellsOf 22)) = some y1 := hfl 1 _ rfl
    have e2 : DataW.trod enc Try.prog W 0 sp held k 22 ((([c0, c1, c2, c3, c4, c5, c6] : List Value).drop 2).take (Try.prog.cellsOf 22)) = some y2 := hfl 2 _ rfl
    have e3 : DataW.trod enc Try.prog W 0 sp held k 22 ((([c0, c1, c2, c3, c4, c5, c6] : List Value).drop 3).take (Try.prog.cellsOf 22)) = some y3 := hfl 3 _ rfl
    have e4 : DataW.trod enc Try.prog W 0 sp held k 3 ((([c0, c1, c2, c3, c4, c5, c6] : List Value).drop 4).take (Try.prog.cellsOf 3)) = some y4 := hfl 4 _ rfl
    have e5 : DataW.trod enc Try.prog W 0 sp held k 3 ((([c0, c1, c2, c3, c4, c5, c6] : List Value).drop 5).take (Try.prog.cellsOf 3)) = some y5 := hfl 5 _ rfl
    have e6 : DataW.trod enc Try.prog W 0 sp held k 23 ((([c0, c1, c2, c3, c4, c5, c6] : List Value).drop 6).take (Try.prog.cellsOf 23)) = some y6 := hfl 6 _ rfl
    rw [k22] at e0 e1 e2 e3
    rw [k3] at e4 e5
    rw [k23] at e6
    obtain ⟨m0, h0, n0⟩ := open_u e0
    obtain ⟨m1, h1, n1⟩ := open_u e1
    obtain ⟨m2, h2, n2⟩ := open_u e2
    obtain ⟨m3, h3, n3⟩ := open_u e3
    obtain ⟨m4, h4, n4⟩ := open_i e4
    obtain ⟨m5, h5, n5⟩ := open_i e5
    obtain ⟨L, rd, z⟩ := open_rd (d := y6.1) (pl := y6.2) e6
    exact ⟨m0, m1, m2, m3, m4, m5, L, h0, h1, h2, h3, h4, h5, rd, Nat.le_trans z bb, ⟨n0, n1, n2, n3⟩, n4, n5⟩
set_option maxRecDepth 100000 in
theorem open_super {c0 c1 c2 c3 c4 c5 : Value} {y : DataW H × List MemPlace} (hf : DataW.trod enc Try.prog W 0 sp held fuel 27 [c0, c1, c2, c3, c4, c5] = some y) :
    ∃ (b s p l x z : Nat), c0 = .int .u64 (b : Int) ∧ c1 = .int .u64 (s : Int) ∧ c2 = .int .u64 (p : Int) ∧ c3 = .int .u64 (l : Int) ∧ c4 = .int .u64 (x : Int) ∧ c5 = .int .u64 (z : Int) ∧ (b < 18446744073709551616 ∧ s < 18446744073709551616 ∧ p < 18446744073709551616 ∧ l < 18446744073709551616 ∧ x < 18446744073709551616 ∧ z < 18446744073709551616) := by
  obtain ⟨xs, k, _, hx, hl, hlen, hfl⟩ := DataW.trod_struct Try.underlying27 hf
  match xs, hlen with
  | [y0, y1, y2, y3, y4, y5], _ =>
    have k22 : Try.prog.cellsOf 22 = 1 := by kernel_rfl
    have e0 : DataW.trod enc Try.prog W 0 sp held k 22 ((([c0, c1, c2, c3, c4, c5] : List Value).drop 0).take (Try.prog.cellsOf 22)) = some y0 := hfl 0 _ rfl
    have e1 : DataW.trod enc Try.prog W 0 sp held k 22 ((([c0, c1, c2, c3, c4, c5] : List Value).drop 1).take (Try.prog.cellsOf 22)) = some y1 := hfl 1 _ rfl
    have e2 : DataW.trod enc Try.prog W 0 sp held k 22 ((([c0, c1, c2, c3, c4, c5] : List Value).drop 2).take (Try.prog.cellsOf 22)) = some y2 := hfl 2 _ rfl
    have e3 : DataW.trod enc Try.prog W 0 sp held k 22 ((([c0, c1, c2, c3, c4, c5] : List Value).drop 3).take (Try.prog.cellsOf 22)) = some y3 := hfl 3 _ rfl
    have e4 : DataW.trod enc Try.prog W 0 sp held k 22 ((([c0, c1, c2, c3, c4, c5] : List Value).drop 4).take (Try.prog.cellsOf 22)) = some y4 := hfl 4 _ rfl
    have e5 : DataW.trod enc Try.prog W 0 sp held k 22 ((([c0, c1, c2, c3, c4, c5] : List Value).drop 5).take (Try.prog.cellsOf 22)) = some y5 := hfl 5 _ rfl
    rw [k22] at e0 e1 e2 e3 e4 e5
    obtain ⟨m0, h0, n0⟩ := open_u e0
    obtain ⟨m1, h1, n1⟩ := open_u e1
    obtain ⟨m2, h2, n2⟩ := open_u e2
    obtain ⟨m3, h3, n3⟩ := open_u e3
    obtain ⟨m4, h4, n4⟩ := open_u e4
    obtain ⟨m5, h5, n5⟩ := open_u e5
    exact ⟨m0, m1, m2, m3, m4, m5, h0, h1, h2, h3, h4, h5, n0, n1, n2, n3, n4, n5⟩
set_option maxRecDepth 100000 in
set_option maxHeartbeats 2000000 in
/-- Parts that came in. -/
theorem open_parts {b0 : Nat} {v : Value} {d : DataW H} {ps : List MemPlace} (hval : Value.okWide Try.prog W .any b0 30 v) (hd : DataW.Trod enc Try.prog W 0 sp held 30 v d ps) (hb : Rows.uptoBulk d ≤ 1048576) :
    ∃ (x : Pa) (u t z : Value), v = .agg (x.vs u t z).toArray ∧ Rd W u x.L ∧ RdP W t x.T ∧ Rd W z x.B ∧ x.In := by
  obtain ⟨cs, rfl, hcs⟩ := okWide_struct Try.underlying30 hval
  rw [cells30] at hcs
  obtain ⟨fuel, hf⟩ := hd
  obtain ⟨xs, k, _, hx, hl, hlen, hfl⟩ := DataW.trod_struct Try.underlying30 hf
  obtain ⟨c0, c1, c2, c3, c4, c5, c6, c7, c8, c9, c10, c11, c12, c13, c14, c15, rfl⟩ : ∃ c0 c1 c2 c3 c4 c5 c6 c7 c8 c9 c10 c11 c12 c13 c14 c15, cs = #[c0, c1, c2, c3, c4, c5, c6, c7, c8, c9, c10, c11, c12, c13, c14, c15] := by
    rcases cs with ⟨l⟩
    match l, hcs with
    | [c0, c1, c2, c3, c4, c5, c6, c7, c8, c9, c10, c11, c12, c13, c14, c15], _ => exact ⟨c0, c1, c2, c3, c4, c5, c6, c7, c8, c9, c10, c11, c12, c13, c14, c15, rfl⟩
  match xs, hlen with
  | [y0, y1, y2, y3, y4], _ =>
    simp only [Prod.mk.injEq] at hx
    have bb : ∀ y ∈ [y0, y1, y2, y3, y4], Rows.uptoBulk y.1 ≤ 1048576 := fun y hy => by
      have := bulk_mem (List.mem_map.2 ⟨y, hy, rfl⟩ : y.1 ∈ [y0, y1, y2, y3, y4].map (·.1))
      rw [hx.1] at hb
      simp only [Rows.uptoBulk] at hb
      omega
    have k28 : Try.prog.cellsOf 28 = 1 := by kernel_rfl
    have k3 : Try.prog.cellsOf 3 = 1 := by kernel_rfl
    have k23 : Try.prog.cellsOf 23 = 1 := by kernel_rfl
    have e0 : DataW.trod enc Try.prog W 0 sp held k 25 ((([c0, c1, c2, c3, c4, c5, c6, c7, c8, c9, c10, c11, c12, c13, c14, c15] : List Value).drop 0).take (Try.prog.cellsOf 25)) = some y0 := hfl 0 _ rfl
    have e1 : DataW.trod enc Try.prog W 0 sp held k 27 ((([c0, c1, c2, c3, c4, c5, c6, c7, c8, c9, c10, c11, c12, c13, c14, c15] : List Value).drop 7).take (Try.prog.cellsOf 27)) = some y1 := hfl 1 _ rfl
    have e2 : DataW.trod enc Try.prog W 0 sp held k 28 ((([c0, c1, c2, c3, c4, c5, c6, c7, c8, c9, c10, c11, c12, c13, c14, c15] : List Value).drop 13).take (Try.prog.cellsOf 28)) = some y2 := hfl 2 _ rfl
    have e3 : DataW.trod enc Try.prog W 0 sp held k 23 ((([c0, c1, c2, c3, c4, c5, c6, c7, c8, c9, c10, c11, c12, c13, c14, c15] : List Value).drop 14).take (Try.prog.cellsOf 23)) = some y3 := hfl 3 _ rfl
    have e4 : DataW.trod enc Try.prog W 0 sp held k 3 ((([c0, c1, c2, c3, c4, c5, c6, c7, c8, c9, c10, c11, c12, c13, c14, c15] : List Value).drop 15).take (Try.prog.cellsOf 3)) = some y4 := hfl 4 _ rfl
    rw [cells25] at e0
    rw [cells27] at e1
    rw [k28] at e2
    rw [k23] at e3
    rw [k3] at e4
    obtain ⟨b, s, p, l, pt, ps', L, rfl, rfl, rfl, rfl, rfl, rfl, rL, zL, ⟨a0, a1, a2, a3⟩, ap, aq⟩ := open_entry e0 (bb y0 (by simp))
    obtain ⟨g, gb, gp, gl, gx, gy, rfl, rfl, rfl, rfl, rfl, rfl, hg⟩ := open_super e1
    obtain ⟨T, rT, zT, zD⟩ := open_puts (d := y2.1) (pl := y2.2) e2 (bb y2 (by simp))
    obtain ⟨B, rB, zB⟩ := open_rd (d := y3.1) (pl := y3.2) e3
    obtain ⟨n, rfl, hn⟩ := open_i e4
    exact ⟨⟨b, s, p, l, pt, ps', L, g, gb, gp, gl, gx, gy, T, B, n⟩, c6, c13, c14, rfl, rL, rT, rB, ⟨a0, zL, Nat.le_trans zB (bb y3 (by simp)), zT, zD, ⟨a1, a2, a3⟩, ⟨ap, aq, hn⟩, hg⟩⟩
end
end Go.Proofs.Ytgodlfoidjeekaa
