/-
  A world with blocks more, that nobody looks into: as a word that a walk can go on with.
  GfMatrices: what its law carries from region to region; the regions by themselves; the region that makes both copies.
-/
import Derived.Test.YtckmddkhkdcmmaaM25
import Derived.Test.YtckmddkhkdcmmaaM08
namespace Go.Proofs.Ytckmddkhkdcmmaa
set_option linter.unusedVariables false
set_option linter.unusedSimpArgs false
open Go.RowKit
set_option linter.unusedVariables false

/-- The blocks of w, then those of e; all else as in e. -/
def ext (w e : World) : World := { e with heap := w.heap ++ e.heap }
/-- Of e what is no memory is as in w. -/
def Like (w e : World) : Prop := e.os = w.os ∧ e.tape = w.tape ∧ e.output = w.output

theorem ext_of {w w' : World} (f : Fr (fun _ => False) w w') : ∃ e, w' = ext w e ∧ Like w e := by
  refine ⟨{ w' with heap := w'.heap.extract w.heap.size w'.heap.size }, ?_, f.os, f.tape, f.output⟩
  have : w.heap ++ w'.heap.extract w.heap.size w'.heap.size = w'.heap := by
    apply Array.ext_getElem?
    intro k
    by_cases hk : k < w.heap.size
    · rw [Array.getElem?_append_left hk, f.block k hk (fun e => e)]
    · rw [Array.getElem?_append_right (by omega), Array.getElem?_extract]
      by_cases h2 : k < w'.heap.size
      · rw [if_pos (by omega)]; congr 1; omega
      · rw [if_neg (by omega)]; symm; simp; omega
  unfold ext
  dsimp only
  rw [this]
theorem Fr.ext {S : Nat → Prop} {a w e : World} (f : Fr S a w) (h : Like w e) : Fr S a (ext w e) := by
  obtain ⟨h1, h2, h3⟩ := h
  refine ⟨h1.trans f.os, h2.trans f.tape, h3.trans f.output, ?_, fun k hk hs => ?_⟩
  · have := f.size
    unfold Ytckmddkhkdcmmaa.ext; simp; omega
  · rw [← f.block k hk hs]
    unfold Ytckmddkhkdcmmaa.ext
    exact Array.getElem?_append_left (by have := f.size; omega)
@[go_sem, simp] theorem ext_size (w e : World) : (ext w e).heap.size = w.heap.size + e.heap.size := by unfold ext; simp
theorem ext_heap (w e : World) (n : Nat) (hn : n < w.heap.size) : (ext w e).heap[n]? = w.heap[n]? := Array.getElem?_append_left hn
@[go_sem] theorem ext_cell (w e : World) (n i : Nat) (hn : n < w.heap.size) : (ext w e).cell? ⟨n, i, none⟩ = w.cell? ⟨n, i, none⟩ := World.cell?_of_block (w := w) (ext_heap w e n hn)
@[go_sem] theorem ext_frozen (w e : World) (n i : Nat) (hn : n < w.heap.size) : (ext w e).frozen? ⟨n, i, none⟩ = w.frozen? ⟨n, i, none⟩ := World.frozen?_of_block (w := w) (ext_heap w e n hn)
@[go_sem] theorem ext_setCell (w e : World) (n i : Nat) (v : Value) (hn : n < w.heap.size) : (ext w e).setCell ⟨n, i, none⟩ v = ext (w.setCell ⟨n, i, none⟩ v) e := by
  unfold World.setCell ext
  congr 1
  apply Array.ext_getElem?
  intro k
  by_cases hk : k < w.heap.size
  · rw [Array.getElem?_append_left (by simpa using hk), Array.getElem?_modify, Array.getElem?_modify, Array.getElem?_append_left hk]
  · rw [Array.getElem?_append_right (by simp; omega), Array.getElem?_modify, Array.getElem?_append_right (by omega), if_neg (by dsimp; omega), Array.size_modify]
theorem Like.fr {w w2 e : World} (h : Like w e) (f : w2.os = w.os ∧ w2.tape = w.tape ∧ w2.output = w.output) : Like w2 e := ⟨h.1.trans f.1.symm, h.2.1.trans f.2.1.symm, h.2.2.trans f.2.2.symm⟩
/-- Behind a call that makes blocks alone. -/
theorem mono_ext {P : Program} {n : Nat} {vs : Array Value} {w : World} {R : Ending → Prop} {Q : Ending → World → Prop} (h : Calls P n vs w fun e w' => R e ∧ Fr (fun _ => False) w w') (k : ∀ e E, R e → Like w E → Q e (ext w E)) : Calls P n vs w Q := by
  refine h.mono ?_
  rintro e w' ⟨hr, f⟩
  obtain ⟨E, rfl, hE⟩ := ext_of f
  exact k e E hr hE
theorem ext_ext (w a b : World) : ext (ext w a) b = ext w (ext a b) := by
  unfold ext
  simp [Array.append_assoc]
theorem Like.ext {w a b : World} (h1 : Like w a) (h2 : Like (ext w a) b) : Like w (ext a b) := ⟨h2.1.trans h1.1, h2.2.1.trans h1.2.1, h2.2.2.trans h1.2.2⟩
/-- A statement, what it leaves, and what follows. -/
theorem wp_cut {P : Program} {x y : Code} {Q : Exit → Act → World → Prop} {a : Act} {w : World} (K : Act → World → Prop) (h1 : x.wp P (Exit.then K Q) a w) (h2 : ∀ a w, K a w → y.wp P Q a w) : (Code.seq x y).wp P Q a w :=
  wp_seq (Code.wp_mono (fun e a w h => by cases e <;> first | exact h | exact h2 _ _ h) h1)
/-- A frame of which some slots are told. -/
theorem mkF {a : Act} {F : (Nat → Value) → Act} (h : a = F (fun i => a.tmps.getD i undef)) : ∃ f, a = F f := ⟨_, h⟩
/-- The same, where what comes back reads in the world behind. -/
theorem mono_extR {P : Program} {n : Nat} {vs : Array Value} {w : World} {R : Ending → World → Prop} {Q : Ending → World → Prop} (h : Calls P n vs w fun e w' => R e w' ∧ Fr (fun _ => False) w w') (k : ∀ e E, R e (ext w E) → Like w E → Q e (ext w E)) : Calls P n vs w Q := by
  refine h.mono ?_
  rintro e w' ⟨hr, f⟩
  obtain ⟨E, rfl, hE⟩ := ext_of f
  exact k e E hr hE
end Go.Proofs.Ytckmddkhkdcmmaa

namespace Go.Proofs.Ytckmddkhkdcmmaa
set_option linter.unusedVariables false
set_option linter.unusedSimpArgs false
open Go.RowKit
set_option linter.unusedVariables false
set_option linter.unusedSimpArgs false

attribute [local go_sem ↓] Go.wp_at_zero Go.wp_at_succ

theorem wp_nm {P : Program} {C : Code} {Q : Exit → Act → World → Prop} {a : Act} {w : World} (h : ∀ a0, a0 = a → C.wp P Q a0 w) : C.wp P Q a w := h a rfl
/-- A matrix at its block, and its cells. -/
def MA (W : World) (p : Nat) (r c : Int) (l : List UInt8) : Prop := ∃ o k, Hd W p r c (.slice o l.length k) ∧ Rd W (.slice o l.length k) l
theorem MA.kept {W W' : World} {p : Nat} {r c : Int} {l : List UInt8} (h : MA W p r c l) (f : Fr (fun _ => False) W W') : MA W' p r c l := by
  obtain ⟨o, k, h1, h2⟩ := h
  exact ⟨o, k, h1.kept f id, h2.kept f (fun _ _ h => h)⟩
theorem MA.lt {W : World} {p : Nat} {r c : Int} {l : List UInt8} (h : MA W p r c l) : p < W.heap.size := by
  obtain ⟨o, k, h1, h2⟩ := h
  exact h1.lt
theorem MA.new {w : World} {o : Option Addr} {k : Nat} {r c : Int} {l : List UInt8} (hv : Rd w (.slice o l.length k) l) : MA (w.alloc (Obj.cells #[.int .i64 r, .int .i64 c, .slice o l.length k] 24)) w.heap.size r c l :=
  ⟨o, k, heap_alloc_new w _, hv.kept ((Fr.refl (fun _ => False) _).alloc _) (fun _ _ h => h)⟩
/-- The region of that number. -/
def rgn (n : Nat) : Code → Option Code
  | .region id ops d => if id = n then some (.region id ops d) else none
  | .loop c => rgn n c
  | .seq a b => match rgn n a with
    | some c => some c
    | none => rgn n b
  | .block _ c => rgn n c
  | .scope c => rgn n c
  | .cond _ a b => match rgn n a with
    | some c => some c
    | none => rgn n b
  | _ => none
noncomputable def rg (n : Nat) : Code := ((Try.f3.body.bind (rgn n)).getD .skip)
/-- The region of both copies, behind k stores. -/
def S4 (r c r2 c2 : Int) (la lb : List UInt8) (k : Nat) (a : Act) (w : World) : Prop :=
  (∀ b, a.tmps.getD 7 undef = .pointer (some ⟨b, 0, none⟩) → b < w.heap.size) ∧ (∀ b, a.tmps.getD 8 undef = .pointer (some ⟨b, 0, none⟩) → b < w.heap.size) ∧
  (∀ b c, a.tmps.getD 7 undef = .pointer (some ⟨b, 0, none⟩) → a.tmps.getD 8 undef = .pointer (some ⟨c, 0, none⟩) → b ≠ c) ∧
  (1 ≤ k → ∃ b, a.tmps.getD 7 undef = .pointer (some ⟨b, 0, none⟩) ∧ MA w b r c la) ∧ (2 ≤ k → ∃ b, a.tmps.getD 8 undef = .pointer (some ⟨b, 0, none⟩) ∧ MA w b r2 c2 lb)
theorem S4.put {r c r2 c2 : Int} {la lb : List UInt8} {k d : Nat} {a : Act} {v : Value} {w w' : World} (h : S4 r c r2 c2 la lb k a w) (h7 : d ≠ 7) (h8 : d ≠ 8) (f : Fr (fun _ => False) w w') : S4 r c r2 c2 la lb k (a.put (some d) v) w' := by
  obtain ⟨a1, a2, a3, a4, a5⟩ := h
  unfold S4
  simp only [put_getD h7, put_getD h8]
  exact ⟨fun b hb => Nat.lt_of_lt_of_le (a1 b hb) f.size, fun b hb => Nat.lt_of_lt_of_le (a2 b hb) f.size, a3, fun hk => by obtain ⟨b, e, m⟩ := a4 hk; exact ⟨b, e, m.kept f⟩, fun hk => by obtain ⟨b, e, m⟩ := a5 hk; exact ⟨b, e, m.kept f⟩⟩
theorem ptr_inj {x y : Nat} (h : Value.pointer (some ⟨x, 0, none⟩) = .pointer (some ⟨y, 0, none⟩)) : x = y := by simpa using h
theorem S4.new7 {r c r2 c2 : Int} {la lb : List UInt8} {k : Nat} {a : Act} {w : World} {o : Obj} (h : S4 r c r2 c2 la lb k a w) (hk : k ≤ 0) (hs : 7 < a.tmps.size) : S4 r c r2 c2 la lb k (a.put (some 7) (.pointer (some ⟨w.heap.size, 0, none⟩))) (w.alloc o) := by
  obtain ⟨a1, a2, a3, a4, a5⟩ := h
  have h8 : (7 : Nat) ≠ 8 := by decide
  unfold S4
  simp only [put_getD h8, put_self hs]
  refine ⟨fun b hb => ?_, fun b hb => ?_, fun b c hb hc => ?_, fun hk => by omega, fun hk => by omega⟩
  · have := ptr_inj hb; simp; omega
  · have := a2 b hb; simp; omega
  · have := ptr_inj hb; have := a2 c hc; omega
theorem S4.new8 {r c r2 c2 : Int} {la lb : List UInt8} {k : Nat} {a : Act} {w : World} {o : Obj} (h : S4 r c r2 c2 la lb k a w) (hk : k ≤ 0) (hs : 8 < a.tmps.size) : S4 r c r2 c2 la lb k (a.put (some 8) (.pointer (some ⟨w.heap.size, 0, none⟩))) (w.alloc o) := by
  obtain ⟨a1, a2, a3, a4, a5⟩ := h
  have h8 : (8 : Nat) ≠ 7 := by decide
  unfold S4
  simp only [put_getD h8, put_self hs]
  refine ⟨fun b hb => ?_, fun b hb => ?_, fun b c hb hc => ?_, fun hk => by omega, fun hk => by omega⟩
  · have := a1 b hb; simp; omega
  · have := ptr_inj hb; simp; omega
  · have := ptr_inj hc; have := a1 b hb; omega
set_option maxHeartbeats 8000000 in
set_option maxRecDepth 100000 in
theorem gq4 {W : World} {p3 p4 : Nat} {r c r2 c2 : Int} {la lb : List UInt8} {u0 u1 u2 u5 u6 u9 u10 u11 u12 u13 u14 u15 u16 u17 u18 u19 u20 u21 u22 u23 u24 u25 u26 u27 u28 u29 u30 u31 u32 u33 u34 u35 u36 u37 u38 u39 u40 u41 u42 u43 u44 u45 u46 u47 u48 u49 u50 u51 u52 u53 u54 u55 u56 u57 u58 u59 u60 u61 u62 u63 u64 u65 u66 u67 u68 u69 u70 u71 u72 u73 u74 u75 u76 u77 u78 u79 u80 u81 u82 u83 u84 u85 u86 u87 u88 u89 u90 u91 u92 u93 u94 u95 u96 u97 u98 u99 u100 u101 u102 u103 u104 u105 u106 u107 u108 u109 u110 u111 u112 u113 u114 u115 u116 u117 u118 u119 u120 u121 u122 u123 u124 u125 u126 u127 u128 u129 u130 u131 u132 u133 u134 u135 u136 u137 u138 u139 u140 u141 u142 u143 u144 u145 u146 u147 u148 u149 u150 u151 u152 u153 u154 u155 u156 u157 u158 u159 u160 u161 u162 u163 u164 u165 u166 u167 u168 u169 u170 u171 u172 u173 u174 u175 u176 u177 u178 u179 u180 u181 u182 u183 u184 u185 u186 u187 u188 u189 u190 u191 u192 u193 u194 u195 u196 u197 u198 u199 u200 u201 u202 u203 u204 u205 u206 u207 u208 u209 u210 u211 u212 u213 u214 u215 u216 u217 u218 u219 u220 u221 u222 u223 u224 u225 u226 u227 u228 u229 u230 u231 u232 u233 u234 u235 u236 u237 u238 u239 u240 u241 u242 : Value} {Q : Exit → Act → World → Prop} (m3 : MA W p3 r c la) (m4 : MA W p4 r2 c2 lb) (hla : la.length ≤ 100000) (hlb : lb.length ≤ 100000)
    (hQ : ∀ (y52 y53 y54 y55 : Value) (p7 p8 : Nat) (W' : World), Fr (fun _ => False) W W' → MA W' p7 r c la → MA W' p8 r2 c2 lb → Q .normal ⟨#[u0, u1, u2, .pointer (some ⟨p3, 0, none⟩), .pointer (some ⟨p4, 0, none⟩), u5, u6, .pointer (some ⟨p7, 0, none⟩), .pointer (some ⟨p8, 0, none⟩), u9, u10, u11, u12, u13, u14, u15, u16, u17, u18, u19, u20, u21, u22, u23, u24, u25, u26, u27, u28, u29, u30, u31, u32, u33, u34, u35, u36, u37, u38, u39, u40, u41, u42, u43, u44, u45, u46, u47, u48, u49, u50, u51, y52, y53, y54, y55, u56, u57, u58, u59, u60, u61, u62, u63, u64, u65, u66, u67, u68, u69, u70, u71, u72, u73, u74, u75, u76, u77, u78, u79, u80, u81, u82, u83, u84, u85, u86, u87, u88, u89, u90, u91, u92, u93, u94, u95, u96, u97, u98, u99, u100, u101, u102, u103, u104, u105, u106, u107, u108, u109, u110, u111, u112, u113, u114, u115, u116, u117, u118, u119, u120, u121, u122, u123, u124, u125, u126, u127, u128, u129, u130, u131, u132, u133, u134, u135, u136, u137, u138, u139, u140, u141, u142, u143, u144, u145, u146, u147, u148, u149, u150, u151, u152, u153, u154, u155, u156, u157, u158, u159, u160, u161, u162, u163, u164, u165, u166, u167, u168, u169, u170, u171, u172, u173, u174, u175, u176, u177, u178, u179, u180, u181, u182, u183, u184, u185, u186, u187, u188, u189, u190, u191, u192, u193, u194, u195, u196, u197, u198, u199, u200, u201, u202, u203, u204, u205, u206, u207, u208, u209, u210, u211, u212, u213, u214, u215, u216, u217, u218, u219, u220, u221, u222, u223, u224, u225, u226, u227, u228, u229, u230, u231, u232, u233, u234, u235, u236, u237, u238, u239, u240, u241, u242], []⟩ W') : Code.wp Try.prog (rg 4) Q ⟨#[u0, u1, u2, .pointer (some ⟨p3, 0, none⟩), .pointer (some ⟨p4, 0, none⟩), u5, u6, undef, undef, u9, u10, u11, u12, u13, u14, u15, u16, u17, u18, u19, u20, u21, u22, u23, u24, u25, u26, u27, u28, u29, u30, u31, u32, u33, u34, u35, u36, u37, u38, u39, u40, u41, u42, u43, u44, u45, u46, u47, u48, u49, u50, u51, u52, u53, u54, u55, u56, u57, u58, u59, u60, u61, u62, u63, u64, u65, u66, u67, u68, u69, u70, u71, u72, u73, u74, u75, u76, u77, u78, u79, u80, u81, u82, u83, u84, u85, u86, u87, u88, u89, u90, u91, u92, u93, u94, u95, u96, u97, u98, u99, u100, u101, u102, u103, u104, u105, u106, u107, u108, u109, u110, u111, u112, u113, u114, u115, u116, u117, u118, u119, u120, u121, u122, u123, u124, u125, u126, u127, u128, u129, u130, u131, u132, u133, u134, u135, u136, u137, u138, u139, u140, u141, u142, u143, u144, u145, u146, u147, u148, u149, u150, u151, u152, u153, u154, u155, u156, u157, u158, u159, u160, u161, u162, u163, u164, u165, u166, u167, u168, u169, u170, u171, u172, u173, u174, u175, u176, u177, u178, u179, u180, u181, u182, u183, u184, u185, u186, u187, u188, u189, u190, u191, u192, u193, u194, u195, u196, u197, u198, u199, u200, u201, u202, u203, u204, u205, u206, u207, u208, u209, u210, u211, u212, u213, u214, u215, u216, u217, u218, u219, u220, u221, u222, u223, u224, u225, u226, u227, u228, u229, u230, u231, u232, u233, u234, u235, u236, u237, u238, u239, u240, u241, u242], []⟩ W := by
  have HQ := hide hQ
  clear hQ
  obtain ⟨o3, k3, h3, r3⟩ := m3
  obtain ⟨o4, k4, h4, r4⟩ := m4
  have l3 := h3.lt
  have l4 := h4.lt
  conv => arg 2; whnf
  refine wp_nm ?_
  intro a0 hA
  have s3 : a0.tmps.getD 3 undef = .pointer (some ⟨p3, 0, none⟩) := by rw [hA]; rfl
  have s4 : a0.tmps.getD 4 undef = .pointer (some ⟨p4, 0, none⟩) := by rw [hA]; rfl
  have s7 : a0.tmps.getD 7 undef = undef := by rw [hA]; rfl
  have s8 : a0.tmps.getD 8 undef = undef := by rw [hA]; rfl
  have hsz : a0.tmps.size = 243 := by rw [hA]; rfl
  have hdf : a0.defers = [] := by rw [hA]
  refine wp_region_chainA (by kernel_rfl) (by kernel_rfl) (by decide +kernel) (by rw [hsz]; decide +kernel) (fun w w' => RM W.heap.size w w') (RM.of_fr (Fr.refl _ _).drew) (fun _ _ _ => RM.trans) (Tw [KV.eq (.agg #[.int .i64 r, .int .i64 c, .slice o3 la.length k3]), KV.mat r c la, KV.eq (.agg #[.int .i64 r2, .int .i64 c2, .slice o4 lb.length k4]), KV.mat r2 c2 lb, KV.box, KV.box]) (Tw.mono _) [6, 7] (by decide) (by decide) (fun k i j h1 h2 => ?cp) (S4 r c r2 c2 la lb) ?st0 ?steps ?done
  case cp =>
    match k, h1, h2 with
    | 0, h1, h2 => simp at h1 h2; subst h1; subst h2; exact .one rfl (by kernel_rfl)
    | 1, h1, h2 => simp at h2
    | k + 2, h1, h2 => simp at h2
  case st0 => exact ⟨fun b hb => by rw [s7] at hb; simp [undef] at hb, fun b hb => by rw [s8] at hb; simp [undef] at hb, fun b c hb => by rw [s7] at hb; simp [undef] at hb, fun h => by omega, fun h => by omega⟩
  case steps =>
    have hm3 : ∀ w', RM W.heap.size W w' → w'.heap[p3]? = some (.cells #[.int .i64 r, .int .i64 c, .slice o3 la.length k3] 24 (0, 0)) := fun w' f => (f.block _ l3 (.inl l3)).trans h3
    have hm4 : ∀ w', RM W.heap.size W w' → w'.heap[p4]? = some (.cells #[.int .i64 r2, .int .i64 c2, .slice o4 lb.length k4] 24 (0, 0)) := fun w' f => (f.block _ l4 (.inl l4)).trans h4
    refine ⟨?_, ?_⟩
    · intro a' w' k hb hR hst hck hle hd
      exact .inl ⟨wanted_none rfl, la_val _ _ (by decide) (x_load24 rfl ((hb.old 3 (by decide +kernel)).trans s3) (hm3 w' hR)) rfl (RM.of_fr (Fr.refl _ _)) (hst.put (by decide) (by decide) (Fr.refl _ _))⟩
    refine ⟨?_, ?_⟩
    · intro a' w' k hb hR hst hck hle hd
      refine .inl ⟨wanted_none rfl, la_call 16 _ (by decide) (en_call1 rfl rfl (hd 0 (by kernel_rfl) 52 rfl) (fun _ _ => by simp [go_sem])) ((own_any w' r c _ la (RM.rd r3 hR) hla).mono ?_)⟩
      rintro e w2 ⟨⟨v', rfl, hv⟩, f⟩
      obtain ⟨o, q, rfl⟩ := hv.shape
      exact ⟨_, rfl, ⟨o, q, rfl, hv⟩, RM.of_fr f, hst.put (by decide) (by decide) f⟩
    refine ⟨?_, ?_⟩
    · intro a' w' k hb hR hst hck hle hd
      exact .inl ⟨wanted_none rfl, la_val _ _ (by decide) (x_load24 rfl ((hb.old 4 (by decide +kernel)).trans s4) (hm4 w' hR)) rfl (RM.of_fr (Fr.refl _ _)) (hst.put (by decide) (by decide) (Fr.refl _ _))⟩
    refine ⟨?_, ?_⟩
    · intro a' w' k hb hR hst hck hle hd
      refine .inl ⟨wanted_none rfl, la_call 16 _ (by decide) (en_call1 rfl rfl (hd 2 (by kernel_rfl) 54 rfl) (fun _ _ => by simp [go_sem])) ((own_any w' r2 c2 _ lb (RM.rd r4 hR) hlb).mono ?_)⟩
      rintro e w2 ⟨⟨v', rfl, hv⟩, f⟩
      obtain ⟨o, q, rfl⟩ := hv.shape
      exact ⟨_, rfl, ⟨o, q, rfl, hv⟩, RM.of_fr f, hst.put (by decide) (by decide) f⟩
    refine ⟨?_, ?_⟩
    · intro a' w' k hb hR hst hck hle hd
      have hk : k ≤ 0 := hle 0 6 _ rfl rfl (by kernel_rfl)
      exact .inl ⟨wanted_none rfl, la_val _ _ (by decide) (x_alloc24 rfl) ⟨_, rfl, hR.size, .of (heap_alloc_new w' _)⟩ (RM.of_fr ((Fr.refl _ _).alloc _)) (hst.new7 hk (by rw [hb.size, hsz]; decide))⟩
    refine ⟨?_, ?_⟩
    · intro a' w' k hb hR hst hck hle hd
      have hk : k ≤ 0 := hle 0 6 _ rfl rfl (by kernel_rfl)
      exact .inl ⟨wanted_none rfl, la_val _ _ (by decide) (x_alloc24 rfl) ⟨_, rfl, hR.size, .of (heap_alloc_new w' _)⟩ (RM.of_fr ((Fr.refl _ _).alloc _)) (hst.new8 hk (by rw [hb.size, hsz]; decide))⟩
    refine ⟨?_, ?_⟩
    · intro a' w' k hb hR hst hck hle hd
      obtain rfl : 0 = k := hck 0 rfl
      obtain ⟨b, eb, hbN, hbM⟩ := hd 4 (by kernel_rfl) 7 rfl
      obtain ⟨o, q, ev, hv⟩ := hd 1 (by kernel_rfl) 53 rfl
      obtain ⟨f, hh⟩ := RM.set (N := W.heap.size) (r := r) (c := c) (o := o) (n := la.length) (k := q) hbN hbM
      obtain ⟨a1, a2, a3, -, -⟩ := hst
      exact .inl ⟨wanted_none rfl, la_store _ (by decide) (x_store24 rfl eb ev hbM) trivial f ⟨fun x hx => Nat.lt_of_lt_of_le (a1 x hx) f.size, fun x hx => Nat.lt_of_lt_of_le (a2 x hx) f.size, a3, fun _ => ⟨b, eb, o, q, hh, RM.rd hv f⟩, fun h => by omega⟩⟩
    refine ⟨?_, ?_⟩
    · intro a' w' k hb hR hst hck hle hd
      obtain rfl : 1 = k := hck 1 rfl
      obtain ⟨b, eb, hbN, hbM⟩ := hd 5 (by kernel_rfl) 8 rfl
      obtain ⟨o, q, ev, hv⟩ := hd 3 (by kernel_rfl) 55 rfl
      obtain ⟨f, hh⟩ := RM.set (N := W.heap.size) (r := r2) (c := c2) (o := o) (n := lb.length) (k := q) hbN hbM
      obtain ⟨a1, a2, a3, a4, -⟩ := hst
      obtain ⟨b7, e7, o7, k7, h7, r7⟩ := a4 (Nat.le_refl _)
      have hne := a3 _ _ e7 eb
      have h7' := ((fr_three w' b (.int .i64 r2) (.int .i64 c2) (.slice o lb.length q)).block b7 (lt_of_heap h7) (fun e => hne e)).trans h7
      exact .inl ⟨wanted_none rfl, la_store _ (by decide) (x_store24 rfl eb ev hbM) trivial f ⟨fun x hx => Nat.lt_of_lt_of_le (a1 x hx) f.size, fun x hx => Nat.lt_of_lt_of_le (a2 x hx) f.size, a3, fun _ => ⟨b7, e7, o7, k7, h7', RM.rd r7 f⟩, fun _ => ⟨b, eb, o, q, hh, RM.rd hv f⟩⟩⟩
    exact trivial
  case done =>
    intro a' w' hb hR hst hall
    obtain ⟨-, -, -, q7, q8⟩ := hst
    obtain ⟨b7, e7, m7⟩ := q7 (by decide)
    obtain ⟨b8, e8, m8⟩ := q8 (by decide)
    have f := hR.fr (Nat.le_refl _)
    have hfr := frame_eq (a := a') (vs := [u0, u1, u2, .pointer (some ⟨p3, 0, none⟩), .pointer (some ⟨p4, 0, none⟩), u5, u6, .pointer (some ⟨b7, 0, none⟩), .pointer (some ⟨b8, 0, none⟩), u9, u10, u11, u12, u13, u14, u15, u16, u17, u18, u19, u20, u21, u22, u23, u24, u25, u26, u27, u28, u29, u30, u31, u32, u33, u34, u35, u36, u37, u38, u39, u40, u41, u42, u43, u44, u45, u46, u47, u48, u49, u50, u51, a'.tmps.getD 52 undef, a'.tmps.getD 53 undef, a'.tmps.getD 54 undef, a'.tmps.getD 55 undef, u56, u57, u58, u59, u60, u61, u62, u63, u64, u65, u66, u67, u68, u69, u70, u71, u72, u73, u74, u75, u76, u77, u78, u79, u80, u81, u82, u83, u84, u85, u86, u87, u88, u89, u90, u91, u92, u93, u94, u95, u96, u97, u98, u99, u100, u101, u102, u103, u104, u105, u106, u107, u108, u109, u110, u111, u112, u113, u114, u115, u116, u117, u118, u119, u120, u121, u122, u123, u124, u125, u126, u127, u128, u129, u130, u131, u132, u133, u134, u135, u136, u137, u138, u139, u140, u141, u142, u143, u144, u145, u146, u147, u148, u149, u150, u151, u152, u153, u154, u155, u156, u157, u158, u159, u160, u161, u162, u163, u164, u165, u166, u167, u168, u169, u170, u171, u172, u173, u174, u175, u176, u177, u178, u179, u180, u181, u182, u183, u184, u185, u186, u187, u188, u189, u190, u191, u192, u193, u194, u195, u196, u197, u198, u199, u200, u201, u202, u203, u204, u205, u206, u207, u208, u209, u210, u211, u212, u213, u214, u215, u216, u217, u218, u219, u220, u221, u222, u223, u224, u225, u226, u227, u228, u229, u230, u231, u232, u233, u234, u235, u236, u237, u238, u239, u240, u241, u242]) (by rw [hb.size, hsz]; rfl) (by rw [hb.defers]; exact hdf) ⟨(hb.old 0 (by decide +kernel)).trans (by rw [hA]; rfl), (hb.old 1 (by decide +kernel)).trans (by rw [hA]; rfl), (hb.old 2 (by decide +kernel)).trans (by rw [hA]; rfl), (hb.old 3 (by decide +kernel)).trans (by rw [hA]; rfl), (hb.old 4 (by decide +kernel)).trans (by rw [hA]; rfl), (hb.old 5 (by decide +kernel)).trans (by rw [hA]; rfl), (hb.old 6 (by decide +kernel)).trans (by rw [hA]; rfl), e7, e8, (hb.old 9 (by decide +kernel)).trans (by rw [hA]; rfl), (hb.old 10 (by decide +kernel)).trans (by rw [hA]; rfl), (hb.old 11 (by decide +kernel)).trans (by rw [hA]; rfl), (hb.old 12 (by decide +kernel)).trans (by rw [hA]; rfl), (hb.old 13 (by decide +kernel)).trans (by rw [hA]; rfl), (hb.old 14 (by decide +kernel)).trans (by rw [hA]; rfl), (hb.old 15 (by decide +kernel)).trans (by rw [hA]; rfl), (hb.old 16 (by decide +kernel)).trans (by rw [hA]; rfl), (hb.old 17 (by decide +kernel)).trans (by rw [hA]; rfl), (hb.old 18 (by decide +kernel)).trans (by rw [hA]; rfl), (hb.old 19 (by decide +kernel)).trans (by rw [hA]; rfl), (hb.old 20 (by decide +kernel)).trans (by rw [hA]; rfl), (hb.old 21 (by decide +kernel)).trans (by rw [hA]; rfl), (hb.old 22 (by decide +kernel)).trans (by rw [hA]; rfl), (hb.old 23 (by decide +kernel)).trans (by rw [hA]; rfl), (hb.old 24 (by decide +kernel)).trans (by rw [hA]; rfl), (hb.old 25 (by decide +kernel)).trans (by rw [hA]; rfl), (hb.old 26 (by decide +kernel)).trans (by rw [hA]; rfl), (hb.old 27 (by decide +kernel)).trans (by rw [hA]; rfl), (hb.old 28 (by decide +kernel)).trans (by rw [hA]; rfl), (hb.old 29 (by decide +kernel)).trans (by rw [hA]; rfl), (hb.old 30 (by decide +kernel)).trans (by rw [hA]; rfl), (hb.old 31 (by decide +kernel)).trans (by rw [hA]; rfl), (hb.old 32 (by decide +kernel)).trans (by rw [hA]; rfl), (hb.old 33 (by decide +kernel)).trans (by rw [hA]; rfl), (hb.old 34 (by decide +kernel)).trans (by rw [hA]; rfl), (hb.old 35 (by decide +kernel)).trans (by rw [hA]; rfl), (hb.old 36 (by decide +kernel)).trans (by rw [hA]; rfl), (hb.old 37 (by decide +kernel)).trans (by rw [hA]; rfl), (hb.old 38 (by decide +kernel)).trans (by rw [hA]; rfl), (hb.old 39 (by decide +kernel)).trans (by rw [hA]; rfl), (hb.old 40 (by decide +kernel)).trans (by rw [hA]; rfl), (hb.old 41 (by decide +kernel)).trans (by rw [hA]; rfl), (hb.old 42 (by decide +kernel)).trans (by rw [hA]; rfl), (hb.old 43 (by decide +kernel)).trans (by rw [hA]; rfl), (hb.old 44 (by decide +kernel)).trans (by rw [hA]; rfl), (hb.old 45 (by decide +kernel)).trans (by rw [hA]; rfl), (hb.old 46 (by decide +kernel)).trans (by rw [hA]; rfl), (hb.old 47 (by decide +kernel)).trans (by rw [hA]; rfl), (hb.old 48 (by decide +kernel)).trans (by rw [hA]; rfl), (hb.old 49 (by decide +kernel)).trans (by rw [hA]; rfl), (hb.old 50 (by decide +kernel)).trans (by rw [hA]; rfl), (hb.old 51 (by decide +kernel)).trans (by rw [hA]; rfl), rfl, rfl, rfl, rfl, (hb.old 56 (by decide +kernel)).trans (by rw [hA]; rfl), (hb.old 57 (by decide +kernel)).trans (by rw [hA]; rfl), (hb.old 58 (by decide +kernel)).trans (by rw [hA]; rfl), (hb.old 59 (by decide +kernel)).trans (by rw [hA]; rfl), (hb.old 60 (by decide +kernel)).trans (by rw [hA]; rfl), (hb.old 61 (by decide +kernel)).trans (by rw [hA]; rfl), (hb.old 62 (by decide +kernel)).trans (by rw [hA]; rfl), (hb.old 63 (by decide +kernel)).trans (by rw [hA]; rfl), (hb.old 64 (by decide +kernel)).trans (by rw [hA]; rfl), (hb.old 65 (by decide +kernel)).trans (by rw [hA]; rfl), (hb.old 66 (by decide +kernel)).trans (by rw [hA]; rfl), (hb.old 67 (by decide +kernel)).trans (by rw [hA]; rfl), (hb.old 68 (by decide +kernel)).trans (by rw [hA]; rfl), (hb.old 69 (by decide +kernel)).trans (by rw [hA]; rfl), (hb.old 70 (by decide +kernel)).trans (by rw [hA]; rfl), (hb.old 71 (by decide +kernel)).trans (by rw [hA]; rfl), (hb.old 72 (by decide +kernel)).trans (by rw [hA]; rfl), (hb.old 73 (by decide +kernel)).trans (by rw [hA]; rfl), (hb.old 74 (by decide +kernel)).trans (by rw [hA]; rfl), (hb.old 75 (by decide +kernel)).trans (by rw [hA]; rfl), (hb.old 76 (by decide +kernel)).trans (by rw [hA]; rfl), (hb.old 77 (by decide +kernel)).trans (by rw [hA]; rfl), (hb.old 78 (by decide +kernel)).trans (by rw [hA]; rfl), (hb.old 79 (by decide +kernel)).trans (by rw [hA]; rfl), (hb.old 80 (by decide +kernel)).trans (by rw [hA]; rfl), (hb.old 81 (by decide +kernel)).trans (by rw [hA]; rfl), (hb.old 82 (by decide +kernel)).trans (by rw [hA]; rfl), (hb.old 83 (by decide +kernel)).trans (by rw [hA]; rfl), (hb.old 84 (by decide +kernel)).trans (by rw [hA]; rfl), (hb.old 85 (by decide +kernel)).trans (by rw [hA]; rfl), (hb.old 86 (by decide +kernel)).trans (by rw [hA]; rfl), (hb.old 87 (by decide +kernel)).trans (by rw [hA]; rfl), (hb.old 88 (by decide +kernel)).trans (by rw [hA]; rfl), (hb.old 89 (by decide +kernel)).trans (by rw [hA]; rfl), (hb.old 90 (by decide +kernel)).trans (by rw [hA]; rfl), (hb.old 91 (by decide +kernel)).trans (by rw [hA]; rfl), (hb.old 92 (by decide +kernel)).trans (by rw [hA]; rfl), (hb.old 93 (by decide +kernel)).trans (by rw [hA]; rfl), (hb.old 94 (by decide +kernel)).trans (by rw [hA]; rfl), (hb.old 95 (by decide +kernel)).trans (by rw [hA]; rfl), (hb.old 96 (by decide +kernel)).trans (by rw [hA]; rfl), (hb.old 97 (by decide +kernel)).trans (by rw [hA]; rfl), (hb.old 98 (by decide +kernel)).trans (by rw [hA]; rfl), (hb.old 99 (by decide +kernel)).trans (by rw [hA]; rfl), (hb.old 100 (by decide +kernel)).trans (by rw [hA]; rfl), (hb.old 101 (by decide +kernel)).trans (by rw [hA]; rfl), (hb.old 102 (by decide +kernel)).trans (by rw [hA]; rfl), (hb.old 103 (by decide +kernel)).trans (by rw [hA]; rfl), (hb.old 104 (by decide +kernel)).trans (by rw [hA]; rfl), (hb.old 105 (by decide +kernel)).trans (by rw [hA]; rfl), (hb.old 106 (by decide +kernel)).trans (by rw [hA]; rfl), (hb.old 107 (by decide +kernel)).trans (by rw [hA]; rfl), (hb.old 108 (by decide +kernel)).trans (by rw [hA]; rfl), (hb.old 109 (by decide +kernel)).trans (by rw [hA]; rfl), (hb.old 110 (by decide +kernel)).trans (by rw [hA]; rfl), (hb.old 111 (by decide +kernel)).trans (by rw [hA]; rfl), (hb.old 112 (by decide +kernel)).trans (by rw [hA]; rfl), (hb.old 113 (by decide +kernel)).trans (by rw [hA]; rfl), (hb.old 114 (by decide +kernel)).trans (by rw [hA]; rfl), (hb.old 115 (by decide +kernel)).trans (by rw [hA]; rfl), (hb.old 116 (by decide +kernel)).trans (by rw [hA]; rfl), (hb.old 117 (by decide +kernel)).trans (by rw [hA]; rfl), (hb.old 118 (by decide +kernel)).trans (by rw [hA]; rfl), (hb.old 119 (by decide +kernel)).trans (by rw [hA]; rfl), (hb.old 120 (by decide +kernel)).trans (by rw [hA]; rfl), (hb.old 121 (by decide +kernel)).trans (by rw [hA]; rfl), (hb.old 122 (by decide +kernel)).trans (by rw [hA]; rfl), (hb.old 123 (by decide +kernel)).trans (by rw [hA]; rfl), (hb.old 124 (by decide +kernel)).trans (by rw [hA]; rfl), (hb.old 125 (by decide +kernel)).trans (by rw [hA]; rfl), (hb.old 126 (by decide +kernel)).trans (by rw [hA]; rfl), (hb.old 127 (by decide +kernel)).trans (by rw [hA]; rfl), (hb.old 128 (by decide +kernel)).trans (by rw [hA]; rfl), (hb.old 129 (by decide +kernel)).trans (by rw [hA]; rfl), (hb.old 130 (by decide +kernel)).trans (by rw [hA]; rfl), (hb.old 131 (by decide +kernel)).trans (by rw [hA]; rfl), (hb.old 132 (by decide +kernel)).trans (by rw [hA]; rfl), (hb.old 133 (by decide +kernel)).trans (by rw [hA]; rfl), (hb.old 134 (by decide +kernel)).trans (by rw [hA]; rfl), (hb.old 135 (by decide +kernel)).trans (by rw [hA]; rfl), (hb.old 136 (by decide +kernel)).trans (by rw [hA]; rfl), (hb.old 137 (by decide +kernel)).trans (by rw [hA]; rfl), (hb.old 138 (by decide +kernel)).trans (by rw [hA]; rfl), (hb.old 139 (by decide +kernel)).trans (by rw [hA]; rfl), (hb.old 140 (by decide +kernel)).trans (by rw [hA]; rfl), (hb.old 141 (by decide +kernel)).trans (by rw [hA]; rfl), (hb.old 142 (by decide +kernel)).trans (by rw [hA]; rfl), (hb.old 143 (by decide +kernel)).trans (by rw [hA]; rfl), (hb.old 144 (by decide +kernel)).trans (by rw [hA]; rfl), (hb.old 145 (by decide +kernel)).trans (by rw [hA]; rfl), (hb.old 146 (by decide +kernel)).trans (by rw [hA]; rfl), (hb.old 147 (by decide +kernel)).trans (by rw [hA]; rfl), (hb.old 148 (by decide +kernel)).trans (by rw [hA]; rfl), (hb.old 149 (by decide +kernel)).trans (by rw [hA]; rfl), (hb.old 150 (by decide +kernel)).trans (by rw [hA]; rfl), (hb.old 151 (by decide +kernel)).trans (by rw [hA]; rfl), (hb.old 152 (by decide +kernel)).trans (by rw [hA]; rfl), (hb.old 153 (by decide +kernel)).trans (by rw [hA]; rfl), (hb.old 154 (by decide +kernel)).trans (by rw [hA]; rfl), (hb.old 155 (by decide +kernel)).trans (by rw [hA]; rfl), (hb.old 156 (by decide +kernel)).trans (by rw [hA]; rfl), (hb.old 157 (by decide +kernel)).trans (by rw [hA]; rfl), (hb.old 158 (by decide +kernel)).trans (by rw [hA]; rfl), (hb.old 159 (by decide +kernel)).trans (by rw [hA]; rfl), (hb.old 160 (by decide +kernel)).trans (by rw [hA]; rfl), (hb.old 161 (by decide +kernel)).trans (by rw [hA]; rfl), (hb.old 162 (by decide +kernel)).trans (by rw [hA]; rfl), (hb.old 163 (by decide +kernel)).trans (by rw [hA]; rfl), (hb.old 164 (by decide +kernel)).trans (by rw [hA]; rfl), (hb.old 165 (by decide +kernel)).trans (by rw [hA]; rfl), (hb.old 166 (by decide +kernel)).trans (by rw [hA]; rfl), (hb.old 167 (by decide +kernel)).trans (by rw [hA]; rfl), (hb.old 168 (by decide +kernel)).trans (by rw [hA]; rfl), (hb.old 169 (by decide +kernel)).trans (by rw [hA]; rfl), (hb.old 170 (by decide +kernel)).trans (by rw [hA]; rfl), (hb.old 171 (by decide +kernel)).trans (by rw [hA]; rfl), (hb.old 172 (by decide +kernel)).trans (by rw [hA]; rfl), (hb.old 173 (by decide +kernel)).trans (by rw [hA]; rfl), (hb.old 174 (by decide +kernel)).trans (by rw [hA]; rfl), (hb.old 175 (by decide +kernel)).trans (by rw [hA]; rfl), (hb.old 176 (by decide +kernel)).trans (by rw [hA]; rfl), (hb.old 177 (by decide +kernel)).trans (by rw [hA]; rfl), (hb.old 178 (by decide +kernel)).trans (by rw [hA]; rfl), (hb.old 179 (by decide +kernel)).trans (by rw [hA]; rfl), (hb.old 180 (by decide +kernel)).trans (by rw [hA]; rfl), (hb.old 181 (by decide +kernel)).trans (by rw [hA]; rfl), (hb.old 182 (by decide +kernel)).trans (by rw [hA]; rfl), (hb.old 183 (by decide +kernel)).trans (by rw [hA]; rfl), (hb.old 184 (by decide +kernel)).trans (by rw [hA]; rfl), (hb.old 185 (by decide +kernel)).trans (by rw [hA]; rfl), (hb.old 186 (by decide +kernel)).trans (by rw [hA]; rfl), (hb.old 187 (by decide +kernel)).trans (by rw [hA]; rfl), (hb.old 188 (by decide +kernel)).trans (by rw [hA]; rfl), (hb.old 189 (by decide +kernel)).trans (by rw [hA]; rfl), (hb.old 190 (by decide +kernel)).trans (by rw [hA]; rfl), (hb.old 191 (by decide +kernel)).trans (by rw [hA]; rfl), (hb.old 192 (by decide +kernel)).trans (by rw [hA]; rfl), (hb.old 193 (by decide +kernel)).trans (by rw [hA]; rfl), (hb.old 194 (by decide +kernel)).trans (by rw [hA]; rfl), (hb.old 195 (by decide +kernel)).trans (by rw [hA]; rfl), (hb.old 196 (by decide +kernel)).trans (by rw [hA]; rfl), (hb.old 197 (by decide +kernel)).trans (by rw [hA]; rfl), (hb.old 198 (by decide +kernel)).trans (by rw [hA]; rfl), (hb.old 199 (by decide +kernel)).trans (by rw [hA]; rfl), (hb.old 200 (by decide +kernel)).trans (by rw [hA]; rfl), (hb.old 201 (by decide +kernel)).trans (by rw [hA]; rfl), (hb.old 202 (by decide +kernel)).trans (by rw [hA]; rfl), (hb.old 203 (by decide +kernel)).trans (by rw [hA]; rfl), (hb.old 204 (by decide +kernel)).trans (by rw [hA]; rfl), (hb.old 205 (by decide +kernel)).trans (by rw [hA]; rfl), (hb.old 206 (by decide +kernel)).trans (by rw [hA]; rfl), (hb.old 207 (by decide +kernel)).trans (by rw [hA]; rfl), (hb.old 208 (by decide +kernel)).trans (by rw [hA]; rfl), (hb.old 209 (by decide +kernel)).trans (by rw [hA]; rfl), (hb.old 210 (by decide +kernel)).trans (by rw [hA]; rfl), (hb.old 211 (by decide +kernel)).trans (by rw [hA]; rfl), (hb.old 212 (by decide +kernel)).trans (by rw [hA]; rfl), (hb.old 213 (by decide +kernel)).trans (by rw [hA]; rfl), (hb.old 214 (by decide +kernel)).trans (by rw [hA]; rfl), (hb.old 215 (by decide +kernel)).trans (by rw [hA]; rfl), (hb.old 216 (by decide +kernel)).trans (by rw [hA]; rfl), (hb.old 217 (by decide +kernel)).trans (by rw [hA]; rfl), (hb.old 218 (by decide +kernel)).trans (by rw [hA]; rfl), (hb.old 219 (by decide +kernel)).trans (by rw [hA]; rfl), (hb.old 220 (by decide +kernel)).trans (by rw [hA]; rfl), (hb.old 221 (by decide +kernel)).trans (by rw [hA]; rfl), (hb.old 222 (by decide +kernel)).trans (by rw [hA]; rfl), (hb.old 223 (by decide +kernel)).trans (by rw [hA]; rfl), (hb.old 224 (by decide +kernel)).trans (by rw [hA]; rfl), (hb.old 225 (by decide +kernel)).trans (by rw [hA]; rfl), (hb.old 226 (by decide +kernel)).trans (by rw [hA]; rfl), (hb.old 227 (by decide +kernel)).trans (by rw [hA]; rfl), (hb.old 228 (by decide +kernel)).trans (by rw [hA]; rfl), (hb.old 229 (by decide +kernel)).trans (by rw [hA]; rfl), (hb.old 230 (by decide +kernel)).trans (by rw [hA]; rfl), (hb.old 231 (by decide +kernel)).trans (by rw [hA]; rfl), (hb.old 232 (by decide +kernel)).trans (by rw [hA]; rfl), (hb.old 233 (by decide +kernel)).trans (by rw [hA]; rfl), (hb.old 234 (by decide +kernel)).trans (by rw [hA]; rfl), (hb.old 235 (by decide +kernel)).trans (by rw [hA]; rfl), (hb.old 236 (by decide +kernel)).trans (by rw [hA]; rfl), (hb.old 237 (by decide +kernel)).trans (by rw [hA]; rfl), (hb.old 238 (by decide +kernel)).trans (by rw [hA]; rfl), (hb.old 239 (by decide +kernel)).trans (by rw [hA]; rfl), (hb.old 240 (by decide +kernel)).trans (by rw [hA]; rfl), (hb.old 241 (by decide +kernel)).trans (by rw [hA]; rfl), (hb.old 242 (by decide +kernel)).trans (by rw [hA]; rfl), trivial⟩
    rw [hfr]
    exact unhide HQ _ _ _ _ _ _ _ f m7 m8
end Go.Proofs.Ytckmddkhkdcmmaa
