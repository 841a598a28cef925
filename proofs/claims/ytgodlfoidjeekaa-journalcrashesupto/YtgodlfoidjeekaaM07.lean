/-
  follows.
  lay once more, with what may turn told.
  PutTx's region that draws: a number and a block laid behind what there is.
  PutTx.
  GetTx.
  GetTx, its loop.
  A mark is appended; GetTx in one form.
-/
import Derived.Test.YtgodlfoidjeekaaM06
import Derived.Test.YtgodlfoidjeekaaM04
namespace Go.Proofs.Ytgodlfoidjeekaa
set_option linter.unusedVariables false
set_option linter.unusedSimpArgs false
open Go.RowKit
set_option linter.unusedVariables false
set_option linter.unusedSimpArgs false

attribute [local go_sem ↓] Go.wp_at_zero Go.wp_at_succ

def flw3 (J : Jn) (E : En) (lt : Bool) : Bool := decide (E.p = J.nd) && decide (E.l = J.lst + 1) && lt && decide (E.b ≤ J.sup.b) && decide (E.pt = 0) && decide (E.ps ≤ J.room)
def ltB (m : Mk) (E : En) : Bool := decide (m.b < E.b) || (decide (E.b = m.b) && decide (m.s < E.s))
/-- Does the next transaction begin with this entry? -/
def flwB (J : Jn) (E : En) : Bool := flw3 J E (ltB J.last E)
theorem gq_all {W : World} {j s n q : Nat} {mv u : Value} {J : Jn} {E : En} {lt : Bool} {u1 u2 u4 u5 u7 u8 u9 u10 u11 u12 u13 u14 u15 u16 u17 u18 u19 u20 u21 u22 u23 u24 u25 u26 u27 u28 u29 u30 u31 u32 u33 u34 u35 u36 u37 u38 u39 u40 u41 u42 u43 u44 u45 u46 u47 u48 u49 u50 u51 u52 u53 u54 u55 u56 u57 u58 u59 u60 u61 u62 u63 u64 u65 : Value} {Q : Exit → Act → World → Prop} (h : JAt W j s mv J) (ho : J.Ok n) (he : W.heap[q]? = some (.cells (E.c u) 25 (0, 0)))
    (hQ : ∀ (y28 y29 y30 y31 y32 y33 y34 y35 y36 y37 y38 y39 y40 y41 y42 y43 y44 y45 y46 y47 y48 y49 y50 y51 y52 y53 y54 y55 y56 y57 y58 y59 y60 y61 y62 y63 y64 y65 : Value) (W' : World), Fr (fun _ => False) W W' → Q .normal ⟨#[.pointer (some ⟨j, 0, none⟩), u1, u2, .pointer (some ⟨q, 0, none⟩), .bool (flw3 J E lt), u5, .bool lt, u7, u8, u9, u10, u11, u12, u13, u14, u15, u16, u17, u18, u19, u20, u21, u22, u23, u24, u25, u26, u27, y28, y29, y30, y31, y32, y33, y34, y35, y36, y37, y38, y39, y40, y41, y42, y43, y44, y45, y46, y47, y48, y49, y50, y51, y52, y53, y54, y55, y56, y57, y58, y59, y60, y61, y62, y63, y64, y65], []⟩ W') : (rgF Try.f95 3).wp Try.prog Q ⟨#[.pointer (some ⟨j, 0, none⟩), u1, u2, .pointer (some ⟨q, 0, none⟩), u4, u5, .bool lt, u7, u8, u9, u10, u11, u12, u13, u14, u15, u16, u17, u18, u19, u20, u21, u22, u23, u24, u25, u26, u27, u28, u29, u30, u31, u32, u33, u34, u35, u36, u37, u38, u39, u40, u41, u42, u43, u44, u45, u46, u47, u48, u49, u50, u51, u52, u53, u54, u55, u56, u57, u58, u59, u60, u61, u62, u63, u64, u65], []⟩ W := by
  by_cases a0 : E.p = J.nd
  case neg =>
    refine gq0 h ho he a0 ?_
    intros
    rename_i W' hW
    unfold flw3 at hQ
    simp only [a0, decide_true, decide_false, Bool.true_and, Bool.and_true, Bool.false_and, Bool.and_false] at hQ
    exact hQ _ _ _ _ _ _ _ _ _ _ _ _ _ _ _ _ _ _ _ _ _ _ _ _ _ _ _ _ _ _ _ _ _ _ _ _ _ _ W' hW
  by_cases a1 : E.l = J.lst + 1
  case neg =>
    refine gq1 h ho he a0 a1 ?_
    intros
    rename_i W' hW
    unfold flw3 at hQ
    simp only [a0, a1, decide_true, decide_false, Bool.true_and, Bool.and_true, Bool.false_and, Bool.and_false] at hQ
    exact hQ _ _ _ _ _ _ _ _ _ _ _ _ _ _ _ _ _ _ _ _ _ _ _ _ _ _ _ _ _ _ _ _ _ _ _ _ _ _ W' hW
  cases lt
  case false =>
    refine gq2 h ho he a0 a1 ?_
    intros
    rename_i W' hW
    have := @hQ
    unfold flw3 at hQ
    simp only [a0, a1, decide_true, Bool.true_and, Bool.false_and] at hQ
    exact hQ _ _ _ _ _ _ _ _ _ _ _ _ _ _ _ _ _ _ _ _ _ _ _ _ _ _ _ _ _ _ _ _ _ _ _ _ _ _ W' hW
  by_cases a3 : E.b ≤ J.sup.b
  case neg =>
    refine gq3 h ho he a0 a1 a3 ?_
    intros
    rename_i W' hW
    unfold flw3 at hQ
    simp only [a0, a1, a3, decide_true, decide_false, Bool.true_and, Bool.and_true, Bool.false_and, Bool.and_false] at hQ
    exact hQ _ _ _ _ _ _ _ _ _ _ _ _ _ _ _ _ _ _ _ _ _ _ _ _ _ _ _ _ _ _ _ _ _ _ _ _ _ _ W' hW
  by_cases a4 : E.pt = 0
  case neg =>
    refine gq4 h ho he a0 a1 a3 a4 ?_
    intros
    rename_i W' hW
    unfold flw3 at hQ
    simp only [a0, a1, a3, a4, decide_true, decide_false, Bool.true_and, Bool.and_true, Bool.false_and, Bool.and_false] at hQ
    exact hQ _ _ _ _ _ _ _ _ _ _ _ _ _ _ _ _ _ _ _ _ _ _ _ _ _ _ _ _ _ _ _ _ _ _ _ _ _ _ W' hW
  by_cases a5 : E.ps ≤ J.room
  case neg =>
    refine gq5 h ho he a0 a1 a3 a4 a5 ?_
    intros
    rename_i W' hW
    unfold flw3 at hQ
    simp only [a0, a1, a3, a4, a5, decide_true, decide_false, Bool.true_and, Bool.and_true, Bool.false_and, Bool.and_false] at hQ
    exact hQ _ _ _ _ _ _ _ _ _ _ _ _ _ _ _ _ _ _ _ _ _ _ _ _ _ _ _ _ _ _ _ _ _ _ _ _ _ _ W' hW
  refine gq6 h ho he a0 a1 a3 a4 a5 ?_
  intros
  rename_i W' hW
  unfold flw3 at hQ
  simp only [a0, a1, a3, a4, a5, decide_true, Bool.true_and, Bool.and_true] at hQ
  exact hQ _ _ _ _ _ _ _ _ _ _ _ _ _ _ _ _ _ _ _ _ _ _ _ _ _ _ _ _ _ _ _ _ _ _ _ _ _ _ W' hW
set_option maxHeartbeats 4000000 in
set_option maxRecDepth 100000 in
theorem follows_any (w : World) (j s n : Nat) (mv : Value) (J : Jn) (E : En) (ao : Option Addr) (an ac : Nat) (h : JAt w j s mv J) (ho : J.Ok n) : Calls Try.prog 95 #[.pointer (some ⟨j, 0, none⟩), .agg (E.c (.slice ao an ac))] w fun e w' => e = .returned (.bool (flwB J E)) ∧ Fr (fun _ => False) w w' := by
  have fA : Fr (fun _ => False) w (w.alloc (.cells (E.c (.slice ao an ac)) 25)) := (Fr.refl _ _).alloc _
  have hA : (w.alloc (.cells (E.c (.slice ao an ac)) 25)).heap[w.heap.size]? = _ := heap_alloc_new w _
  have HH := hide (h.kept0 fA)
  have HL := hide (lastMark_any _ j s mv J (h.kept0 fA) ho.nd.2.1)
  have HO := hide ho
  have HA := hide hA
  have FA := hide fA
  clear h ho hA fA
  have HF := hide (show flwB J E = flw3 J E (ltB J.last E) from rfl)
  unfold Mk.v at HL
  unfold En.c at HA HH FA HL ⊢
  rcases hm : J.last with ⟨m0, m1, m2⟩
  rw [hm] at HL HF
  clear hm
  dsimp only at HL
  go_enter Try.func95, Try.ntmps95
  go_wp2_with fail
  refine (unhide HL).mono ?_
  rintro e w1 ⟨rfl, f1⟩
  have HA1 := hide ((f1.block _ (lt_of_heap (unhide HA)) id).trans (unhide HA))
  have F1 := hide ((unhide FA).trans f1 (fun _ _ e => e))
  have HH1 := hide ((unhide HH).kept0 f1)
  clear f1 HL HA FA HH
  go_upto_region 2 with fail
  have fB : Fr (fun _ => False) w1 (w1.alloc (.cells #[.int .u64 (m0 : Int), .int .u64 (m1 : Int), .int .u64 (m2 : Int)] 130)) := (Fr.refl _ _).alloc _
  have hA2 := (fB.block _ (lt_of_heap (unhide HA1)) id).trans (unhide HA1)
  have c0 : (w1.alloc (.cells #[.int .u64 (m0 : Int), .int .u64 (m1 : Int), .int .u64 (m2 : Int)] 130)).cell? ⟨w.heap.size, 0, none⟩ = some (.int .u64 (E.b : Int)) := cell_of_heap hA2 0
  have c1 : (w1.alloc (.cells #[.int .u64 (m0 : Int), .int .u64 (m1 : Int), .int .u64 (m2 : Int)] 130)).cell? ⟨w.heap.size, 1, none⟩ = some (.int .u64 (E.s : Int)) := cell_of_heap hA2 1
  have hB := heap_alloc_new w1 (.cells #[.int .u64 (m0 : Int), .int .u64 (m1 : Int), .int .u64 (m2 : Int)] 130)
  have c2 : (w1.alloc (.cells #[.int .u64 (m0 : Int), .int .u64 (m1 : Int), .int .u64 (m2 : Int)] 130)).cell? ⟨w1.heap.size, 1, none⟩ = some (.int .u64 (m1 : Int)) := cell_of_heap hB 1
  have c3 : (w1.alloc (.cells #[.int .u64 (m0 : Int), .int .u64 (m1 : Int), .int .u64 (m2 : Int)] 130)).cell? ⟨w1.heap.size, 2, none⟩ = some (.int .u64 (m2 : Int)) := cell_of_heap hB 2
  have HA2 : Hid ((w1.alloc (.cells #[.int .u64 (m0 : Int), .int .u64 (m1 : Int), .int .u64 (m2 : Int)] 130)).heap[w.heap.size]? = some (.cells (E.c (.slice ao an ac)) 25 (0, 0))) := hide hA2
  have HH2 := hide ((unhide HH1).kept0 fB)
  have F2 := hide ((unhide F1).trans fB (fun _ _ e => e))
  refine wp_world ?_
  intro w2 hw2
  rw [← hw2] at c0 c1 c2 c3 HA2 HH2 F2
  obtain ⟨n0, hn0⟩ : ∃ n0, n0 = w.heap.size := ⟨_, rfl⟩
  obtain ⟨n1, hn1⟩ : ∃ n1, n1 = w1.heap.size := ⟨_, rfl⟩
  rw [← hn0] at c0 c1 HA2 ⊢
  rw [← hn1] at c2 c3 ⊢
  have HN : Hid (n0 = n0) := hide rfl
  clear hw2 hn0 hn1 fB hA2 hB HA1 HH1 F1
  by_cases p1 : m1 < E.b
  · have d1 : decide ((m1 : Int) < (E.b : Int)) = true := by simp; omega
    have HF2 : Hid (flwB J E = flw3 J E true) := hide (by rw [unhide HF]; unfold ltB; simp [p1])
    clear HF
    go_upto_region 3 with fail
    refine gq_all (lt := true) (unhide HH2) (unhide HO) (by rw [unhide HN]; exact unhide HA2) ?_
    intros
    rename_i W' hW
    have F9 := hide ((unhide F2).trans hW (fun _ _ e => e))
    clear hW HH2 HO HA2 F2
    go_wp2_with fail
    go_ret
    rw [unhide HF2]
    exact ⟨rfl, unhide F9⟩
  · have d1 : decide ((m1 : Int) < (E.b : Int)) = false := by simp; omega
    by_cases p2 : E.b = m1
    · have d2 : ((E.b : Int) == (m1 : Int)) = true := by simp; omega
      by_cases p3 : m2 < E.s
      · have d3 : decide ((m2 : Int) < (E.s : Int)) = true := by simp; omega
        have HF2 : Hid (flwB J E = flw3 J E true) := hide (by rw [unhide HF]; unfold ltB; simp [p1, p2, p3])
        clear HF
        go_upto_region 3 with fail
        refine gq_all (lt := true) (unhide HH2) (unhide HO) (by rw [unhide HN]; exact unhide HA2) ?_
        intros
        rename_i W' hW
        have F9 := hide ((unhide F2).trans hW (fun _ _ e => e))
        clear hW HH2 HO HA2 F2
        go_wp2_with fail
        go_ret
        rw [unhide HF2]
        exact ⟨rfl, unhide F9⟩
      · have d3 : decide ((m2 : Int) < (E.s : Int)) = false := by simp; omega
        have HF2 : Hid (flwB J E = flw3 J E false) := hide (by rw [unhide HF]; unfold ltB; simp [p1, p2, p3])
        clear HF
        go_upto_region 3 with fail
        refine gq_all (lt := false) (unhide HH2) (unhide HO) (by rw [unhide HN]; exact unhide HA2) ?_
        intros
        rename_i W' hW
        have F9 := hide ((unhide F2).trans hW (fun _ _ e => e))
        clear hW HH2 HO HA2 F2
        go_wp2_with fail
        go_ret
        rw [unhide HF2]
        exact ⟨rfl, unhide F9⟩
    · have d2 : ((E.b : Int) == (m1 : Int)) = false := by simp; omega
      have HF2 : Hid (flwB J E = flw3 J E false) := hide (by rw [unhide HF]; unfold ltB; simp [p1, p2])
      clear HF
      go_upto_region 3 with fail
      refine gq_all (lt := false) (unhide HH2) (unhide HO) (by rw [unhide HN]; exact unhide HA2) ?_
      intros
      rename_i W' hW
      have F9 := hide ((unhide F2).trans hW (fun _ _ e => e))
      clear hW HH2 HO HA2 F2
      go_wp2_with fail
      go_ret
      rw [unhide HF2]
      exact ⟨rfl, unhide F9⟩
end Go.Proofs.Ytgodlfoidjeekaa

namespace Go.Proofs.Ytgodlfoidjeekaa
set_option linter.unusedVariables false
set_option linter.unusedSimpArgs false
open Go.RowKit
set_option linter.unusedVariables false
set_option linter.unusedSimpArgs false

attribute [local go_sem ↓] Go.wp_at_zero Go.wp_at_succ

/-- Bytes that are owned; since W0 only blocks of S turned, and new ones. -/
structure Nw (S : Nat → Prop) (W0 W : World) (v : Value) (l : List UInt8) : Prop where
  own : W.ownsRow 0 5 1 v l.length (bvs l)
  fr : Fr S W0 W
  new : ∀ k, v.ownBlock = some k → S k ∨ W0.heap.size ≤ k
section
variable {S : Nat → Prop} {W0 W W' : World} {v : Value} {l : List UInt8}
theorem Nw.shape (h : Nw S W0 W v l) : ∃ ao cap, v = .slice ao l.length cap := owns_shape h.own
theorem Nw.rd (h : Nw S W0 W v l) : Rd W v l := Rd.of_owns h.own
theorem Nw.kept (h : Nw S W0 W v l) (f : Fr (fun _ => False) W W') : Nw S W0 W' v l := ⟨owns_kept h.own f (fun _ _ e => e), h.fr.trans f (fun _ _ e => e.elim), h.new⟩
theorem Nw.alloc (h : Nw S W0 W v l) (o : Obj) : Nw S W0 (W.alloc o) v l := h.kept ((Fr.refl _ _).alloc o)
theorem Nw.grown {v' : Value} {x : List UInt8} (h : Nw S W0 W v l) (o : W'.ownsRow 0 5 1 v' (l.length + x.length) (bvs l ++ bvs x)) (hg : W.grownBy W' v.ownBlock) (hpl : v'.ownBlock = v.ownBlock ∨ ∃ k, v'.ownBlock = some k ∧ W.heap.size ≤ k) : Nw S W0 W' v' (l ++ x) := by
  refine ⟨by rw [List.length_append, bvs_append]; exact o, h.fr.grown hg (fun k hk e => ?_), fun k e => ?_⟩
  · rcases h.new k e with h1 | h1
    · exact h1
    · omega
  · rcases hpl with e2 | ⟨b, e2, hb⟩
    · rw [e2] at e; exact h.new k e
    · rw [e2] at e; simp at e; have := h.fr.size; right; omega
theorem Nb.nw (h : Nb W0 W v l) : Nw (fun b => v.ownBlock = some b) W W v l := ⟨h.own, Fr.refl _ _, fun k e => .inl e⟩
theorem Nb.then {v' : Value} {l' : List UInt8} (h : Nb W0 W v l) (k : Nw (fun b => v.ownBlock = some b) W W' v' l') : Nb W0 W' v' l' :=
  ⟨k.own, h.fr.trans k.fr (fun b hb e => by have := h.new b e; omega), fun b e => by
    rcases k.new b e with h1 | h1
    · exact h.new b h1
    · have := h.fr.size; omega⟩
end
set_option maxRecDepth 100000 in
set_option maxHeartbeats 4000000 in
theorem layS_any (S : Nat → Prop) (W0 w : World) (v : Value) (l : List UInt8) (k : Nat) (u : Value) (ns : List Nat) (h : Nw S W0 w v l) (hk : k = 2 ∨ k = 4 ∨ k = 8) (hu : RdV w u (uvs ns)) (hub : ∀ b, u.ownBlock = some b → ∀ c, v.ownBlock = some c → b ≠ c) (hub2 : ∀ b, u.ownBlock = some b → b < w.heap.size) (hn : ns.length ≤ 10) (hl : l.length ≤ 100000) (hb : ∀ n ∈ ns, n < 18446744073709551616) :
    Calls Try.prog 51 #[v, .int .i64 (k : Int), u] w fun e w' => ∃ v', e = .returned v' ∧ Nw S W0 w' v' (l ++ lay k ns) := by
  obtain ⟨inf, hi0, hz0, hz1, hz2⟩ := info_parts Try.info5
  obtain ⟨ao, cap, rfl⟩ := hu.shape
  have HU := hide hu
  have HB := hide hub
  have HB2 := hide hub2
  have HBB := hide hb
  have H := hide h
  obtain ⟨L, hL⟩ : ∃ L, L = ns.length := ⟨_, rfl⟩
  have hLn : (uvs ns).length = L := by rw [hL]; simp [uvs]
  rw [hLn] at HU HB HB2 ⊢
  have HL := hide hL
  have hL10 : L ≤ 10 := by omega
  clear hu hub hub2 h hL hLn hn hb
  go_enter Try.func51, Try.ntmps51
  go_wp2_with fail
  go_loopw [0, 12] (fun o y W => ∃ (j : Nat), j ≤ L ∧ y = .int .i64 (j : Int) ∧ Nw S W0 W o (l ++ lay k (ns.take j)) ∧ RdV W (.slice ao L cap) (uvs ns) ∧ (∀ b, (Value.slice ao L cap).ownBlock = some b → ∀ c, o.ownBlock = some c → b ≠ c) ∧ w.heap.size ≤ W.heap.size) (fun _ y _ => L - (intOf y).toNat)
  case atStart => exact ⟨0, by omega, rfl, by simpa [lay] using unhide H, unhide HU, unhide HB, Nat.le_refl _⟩
  case round =>
    obtain ⟨j, hj, rfl, hN, hR, hap, hws⟩ := hrel
    by_cases hlt : j < L
    · have j1 : j < ns.length := by have := unhide HL; omega
      obtain ⟨bb, oo, rfl, -, hnc, hcm, hc⟩ := hR.lits (by simp [uvs]; omega)
      have y0 := hc j (by simp [uvs]; omega)
      rw [show (uvs ns)[j]'(by simp [uvs]; omega) = Value.int .u64 ((ns[j] : Nat) : Int) by simp [uvs]] at y0
      have hn64 := unhide HBB ns[j] (List.getElem_mem j1)
      have hjc : j < cap := by omega
      have HTK := hide (lay_take k ns j j1)
      have HNN := hide hN
      have HRR := hide hR
      have HAP := hide hap
      have HWS := hide hws
      have hll : (l ++ lay k (ns.take j)).length ≤ 100080 := by
        rw [List.length_append, lay_length, List.length_take]
        rcases hk with rfl | rfl | rfl <;> omega
      generalize ns[j] = n at *
      generalize hbase : l ++ lay k (ns.take j) = base at *
      clear hc hN hR hap hws j1
      go_wp2_with fail
      go_loopw [0, 9] (fun o y W => ∃ (r : Nat) (z : Int) (B : List UInt8), r ≤ k ∧ y = .int .i64 z ∧ z = (r : Int) - 1 ∧ Nw S W0 W o B ∧ B ++ be r n = base ++ be k n ∧ B.length + r = base.length + k ∧ RdV W (.slice (some ⟨bb, oo, none⟩) L cap) (uvs ns) ∧ (∀ b, (Value.slice (some ⟨bb, oo, none⟩) L cap).ownBlock = some b → ∀ c, o.ownBlock = some c → b ≠ c) ∧ w.heap.size ≤ W.heap.size) (fun _ y _ => (intOf y + 1).toNat)
      case atStart => exact ⟨k, _, base, Nat.le_refl _, rfl, rfl, unhide HNN, rfl, rfl, unhide HRR, unhide HAP, unhide HWS⟩
      case round =>
        clear HNN HRR HAP HWS
        obtain ⟨r, z, B, hr, rfl, hz, hN, hB, hBl, hR, hap, hws⟩ := hrel
        have hrk : r ≤ 8 := by rcases hk with rfl | rfl | rfl <;> omega
        rcases Nat.eq_zero_or_pos r with rfl | hpos
        · obtain rfl : z = -1 := by omega
          have HN2 : Hid (Nw S W0 wr u0 (l ++ lay k (ns.take (j + 1)))) := hide (by
            rw [unhide HTK, ← List.append_assoc, hbase, ← hB]
            simpa [be] using hN)
          have HR2 := hide hR
          have HP2 := hide hap
          have HW2 := hide hws
          clear hN hR hap hws hB hBl hbase hr hrk hz HTK
          go_wp2_with fail
          go_roundw
          case rel => exact ⟨j + 1, by omega, by go_num, unhide HN2, unhide HR2, unhide HP2, unhide HW2⟩
          case measure => simp [intOf]; omega
        · obtain ⟨r, rfl⟩ : ∃ r', r = r' + 1 := ⟨r - 1, by omega⟩
          obtain ⟨oa, oc, rfl⟩ := hN.shape
          have HN := hide hN
          have HR := hide hR
          have HAP := hide hap
          have HWS := hide hws
          have hBL : B.length ≤ 100100 := by omega
          have HX := hide (be_byte n r)
          have HBE : Hid (B ++ [UInt8.ofNat (n / 256 ^ r)] ++ be r n = base ++ be k n) := hide (by rw [← hB]; simp [be])
          have HBL : Hid (B.length + 1 + r = base.length + k) := hide (by omega)
          have HRK : Hid (r ≤ k) := hide (by omega)
          obtain ⟨x8, hx8⟩ : ∃ x8, x8 = UInt8.ofNat (n / 256 ^ r) := ⟨_, rfl⟩
          rw [← hx8] at HX HBE
          clear hN hR hap hws hB hBl hx8 hbase hr
          rcases (show r = 0 ∨ r = 1 ∨ r = 2 ∨ r = 3 ∨ r = 4 ∨ r = 5 ∨ r = 6 ∨ r = 7 by omega) with rfl | rfl | rfl | rfl | rfl | rfl | rfl | rfl
          · obtain rfl : z = 0 := by omega
            clear hz hpos hrk
            go_wp2_with (refine wpList_app rfl (.tmp 22) (.tmp 28) 23 rfl 5 inf _ 1 1 Try.underlying23 hi0 hz0 hz1 hz2 rfl (by decide) _ B.length (bvs B) rfl _ rfl 1 (bvs [x8]) ?hown ?hx ?h1 ?hb ?h63 ?hK)
            case hown => exact ((unhide HN).alloc _).own
            case hx =>
              exact sr1 _ _ _ (by rw [unhide HX]; simp <;> omega)
            case h1 => exact bvs_one _
            case hb => omega
            case h63 => simp only [maxLen]; omega
            case hK =>
              intro ao' cap' w' ho hg hpl
              have HNN : Hid (Nw S W0 w' (.slice ao' (B.length + 1) cap') (B ++ [x8])) := hide (((unhide HN).alloc _).grown (x := [x8]) ho hg (by rcases hpl with e | ⟨k, e, hk⟩; exact .inl e; exact .inr ⟨k, e, by simp at hk ⊢; omega⟩))
              have HFR : Hid (Fr (fun k => (Value.slice oa B.length oc).ownBlock = some k) wr w') := hide (Fr.grown ((Fr.refl _ _).alloc _) hg (fun k _ e => e))
              have HR2 : Hid (RdV w' (.slice (some ⟨bb, oo, none⟩) L cap) (uvs ns)) := hide ((unhide HR).kept (unhide HFR) (fun b hb e => unhide HAP b hb b e rfl))
              have HP2 : Hid (∀ b, (Value.slice (some ⟨bb, oo, none⟩) L cap).ownBlock = some b → ∀ c, (Value.slice ao' (B.length + 1) cap').ownBlock = some c → b ≠ c) := hide (fun b hb c hc => by
                rcases hpl with e | ⟨k, e, hk⟩
                · rw [e] at hc; exact unhide HAP b hb c hc
                · rw [e] at hc
                  have h1 := unhide HB2 b hb
                  have h2 := unhide HWS
                  simp at hc hk
                  omega)
              have HW2 : Hid (w.heap.size ≤ w'.heap.size) := hide (by have h1 := unhide HWS; have h2 := (unhide HFR).size; omega)
              clear ho hg hpl
              go_wp2_with fail
              go_roundw
              case rel => exact ⟨_, _, B ++ [x8], unhide HRK, rfl, by first | rfl | omega, by simpa using unhide HNN, unhide HBE, by simpa using unhide HBL, unhide HR2, by simpa using unhide HP2, unhide HW2⟩
              case measure => simp [intOf]
          · obtain rfl : z = 1 := by omega
            clear hz hpos hrk
            go_wp2_with (refine wpList_app rfl (.tmp 22) (.tmp 28) 23 rfl 5 inf _ 1 1 Try.underlying23 hi0 hz0 hz1 hz2 rfl (by decide) _ B.length (bvs B) rfl _ rfl 1 (bvs [x8]) ?hown ?hx ?h1 ?hb ?h63 ?hK)
            case hown => exact ((unhide HN).alloc _).own
            case hx =>
              exact sr1 _ _ _ (by rw [unhide HX]; simp <;> omega)
            case h1 => exact bvs_one _
            case hb => omega
            case h63 => simp only [maxLen]; omega
            case hK =>
              intro ao' cap' w' ho hg hpl
              have HNN : Hid (Nw S W0 w' (.slice ao' (B.length + 1) cap') (B ++ [x8])) := hide (((unhide HN).alloc _).grown (x := [x8]) ho hg (by rcases hpl with e | ⟨k, e, hk⟩; exact .inl e; exact .inr ⟨k, e, by simp at hk ⊢; omega⟩))
              have HFR : Hid (Fr (fun k => (Value.slice oa B.length oc).ownBlock = some k) wr w') := hide (Fr.grown ((Fr.refl _ _).alloc _) hg (fun k _ e => e))
              have HR2 : Hid (RdV w' (.slice (some ⟨bb, oo, none⟩) L cap) (uvs ns)) := hide ((unhide HR).kept (unhide HFR) (fun b hb e => unhide HAP b hb b e rfl))
              have HP2 : Hid (∀ b, (Value.slice (some ⟨bb, oo, none⟩) L cap).ownBlock = some b → ∀ c, (Value.slice ao' (B.length + 1) cap').ownBlock = some c → b ≠ c) := hide (fun b hb c hc => by
                rcases hpl with e | ⟨k, e, hk⟩
                · rw [e] at hc; exact unhide HAP b hb c hc
                · rw [e] at hc
                  have h1 := unhide HB2 b hb
                  have h2 := unhide HWS
                  simp at hc hk
                  omega)
              have HW2 : Hid (w.heap.size ≤ w'.heap.size) := hide (by have h1 := unhide HWS; have h2 := (unhide HFR).size; omega)
              clear ho hg hpl
              go_wp2_with fail
              go_roundw
              case rel => exact ⟨_, _, B ++ [x8], unhide HRK, rfl, by first | rfl | omega, by simpa using unhide HNN, unhide HBE, by simpa using unhide HBL, unhide HR2, by simpa using unhide HP2, unhide HW2⟩
              case measure => simp [intOf]
          · obtain rfl : z = 2 := by omega
            clear hz hpos hrk
            go_wp2_with (refine wpList_app rfl (.tmp 22) (.tmp 28) 23 rfl 5 inf _ 1 1 Try.underlying23 hi0 hz0 hz1 hz2 rfl (by decide) _ B.length (bvs B) rfl _ rfl 1 (bvs [x8]) ?hown ?hx ?h1 ?hb ?h63 ?hK)
            case hown => exact ((unhide HN).alloc _).own
            case hx =>
              exact sr1 _ _ _ (by rw [unhide HX]; simp <;> omega)
            case h1 => exact bvs_one _
            case hb => omega
            case h63 => simp only [maxLen]; omega
            case hK =>
              intro ao' cap' w' ho hg hpl
              have HNN : Hid (Nw S W0 w' (.slice ao' (B.length + 1) cap') (B ++ [x8])) := hide (((unhide HN).alloc _).grown (x := [x8]) ho hg (by rcases hpl with e | ⟨k, e, hk⟩; exact .inl e; exact .inr ⟨k, e, by simp at hk ⊢; omega⟩))
              have HFR : Hid (Fr (fun k => (Value.slice oa B.length oc).ownBlock = some k) wr w') := hide (Fr.grown ((Fr.refl _ _).alloc _) hg (fun k _ e => e))
              have HR2 : Hid (RdV w' (.slice (some ⟨bb, oo, none⟩) L cap) (uvs ns)) := hide ((unhide HR).kept (unhide HFR) (fun b hb e => unhide HAP b hb b e rfl))
              have HP2 : Hid (∀ b, (Value.slice (some ⟨bb, oo, none⟩) L cap).ownBlock = some b → ∀ c, (Value.slice ao' (B.length + 1) cap').ownBlock = some c → b ≠ c) := hide (fun b hb c hc => by
                rcases hpl with e | ⟨k, e, hk⟩
                · rw [e] at hc; exact unhide HAP b hb c hc
                · rw [e] at hc
                  have h1 := unhide HB2 b hb
                  have h2 := unhide HWS
                  simp at hc hk
                  omega)
              have HW2 : Hid (w.heap.size ≤ w'.heap.size) := hide (by have h1 := unhide HWS; have h2 := (unhide HFR).size; omega)
              clear ho hg hpl
              go_wp2_with fail
              go_roundw
              case rel => exact ⟨_, _, B ++ [x8], unhide HRK, rfl, by first | rfl | omega, by simpa using unhide HNN, unhide HBE, by simpa using unhide HBL, unhide HR2, by simpa using unhide HP2, unhide HW2⟩
              case measure => simp [intOf]
          · obtain rfl : z = 3 := by omega
            clear hz hpos hrk
            go_wp2_with (refine wpList_app rfl (.tmp 22) (.tmp 28) 23 rfl 5 inf _ 1 1 Try.underlying23 hi0 hz0 hz1 hz2 rfl (by decide) _ B.length (bvs B) rfl _ rfl 1 (bvs [x8]) ?hown ?hx ?h1 ?hb ?h63 ?hK)
            case hown => exact ((unhide HN).alloc _).own
            case hx =>
              exact sr1 _ _ _ (by rw [unhide HX]; simp <;> omega)
            case h1 => exact bvs_one _
            case hb => omega
            case h63 => simp only [maxLen]; omega
            case hK =>
              intro ao' cap' w' ho hg hpl
              have HNN : Hid (Nw S W0 w' (.slice ao' (B.length + 1) cap') (B ++ [x8])) := hide (((unhide HN).alloc _).grown (x := [x8]) ho hg (by rcases hpl with e | ⟨k, e, hk⟩; exact .inl e; exact .inr ⟨k, e, by simp at hk ⊢; omega⟩))
              have HFR : Hid (Fr (fun k => (Value.slice oa B.length oc).ownBlock = some k) wr w') := hide (Fr.grown ((Fr.refl _ _).alloc _) hg (fun k _ e => e))
              have HR2 : Hid (RdV w' (.slice (some ⟨bb, oo, none⟩) L cap) (uvs ns)) := hide ((unhide HR).kept (unhide HFR) (fun b hb e => unhide HAP b hb b e rfl))
              have HP2 : Hid (∀ b, (Value.slice (some ⟨bb, oo, none⟩) L cap).ownBlock = some b → ∀ c, (Value.slice ao' (B.length + 1) cap').ownBlock = some c → b ≠ c) := hide (fun b hb c hc => by
                rcases hpl with e | ⟨k, e, hk⟩
                · rw [e] at hc; exact unhide HAP b hb c hc
                · rw [e] at hc
                  have h1 := unhide HB2 b hb
                  have h2 := unhide HWS
                  simp at hc hk
                  omega)
              have HW2 : Hid (w.heap.size ≤ w'.heap.size) := hide (by have h1 := unhide HWS; have h2 := (unhide HFR).size; omega)
              clear ho hg hpl
              go_wp2_with fail
              go_roundw
              case rel => exact ⟨_, _, B ++ [x8], unhide HRK, rfl, by first | rfl | omega, by simpa using unhide HNN, unhide HBE, by simpa using unhide HBL, unhide HR2, by simpa using unhide HP2, unhide HW2⟩
              case measure => simp [intOf]
          · obtain rfl : z = 4 := by omega
            clear hz hpos hrk
            go_wp2_with (refine wpList_app rfl (.tmp 22) (.tmp 28) 23 rfl 5 inf _ 1 1 Try.underlying23 hi0 hz0 hz1 hz2 rfl (by decide) _ B.length (bvs B) rfl _ rfl 1 (bvs [x8]) ?hown ?hx ?h1 ?hb ?h63 ?hK)
            case hown => exact ((unhide HN).alloc _).own
            case hx =>
              exact sr1 _ _ _ (by rw [unhide HX]; simp <;> omega)
            case h1 => exact bvs_one _
            case hb => omega
            case h63 => simp only [maxLen]; omega
            case hK =>
              intro ao' cap' w' ho hg hpl
              have HNN : Hid (Nw S W0 w' (.slice ao' (B.length + 1) cap') (B ++ [x8])) := hide (((unhide HN).alloc _).grown (x := [x8]) ho hg (by rcases hpl with e | ⟨k, e, hk⟩; exact .inl e; exact .inr ⟨k, e, by simp at hk ⊢; omega⟩))
              have HFR : Hid (Fr (fun k => (Value.slice oa B.length oc).ownBlock = some k) wr w') := hide (Fr.grown ((Fr.refl _ _).alloc _) hg (fun k _ e => e))
              have HR2 : Hid (RdV w' (.slice (some ⟨bb, oo, none⟩) L cap) (uvs ns)) := hide ((unhide HR).kept (unhide HFR) (fun b hb e => unhide HAP b hb b e rfl))
              have HP2 : Hid (∀ b, (Value.slice (some ⟨bb, oo, none⟩) L cap).ownBlock = some b → ∀ c, (Value.slice ao' (B.length + 1) cap').ownBlock = some c → b ≠ c) := hide (fun b hb c hc => by
                rcases hpl with e | ⟨k, e, hk⟩
                · rw [e] at hc; exact unhide HAP b hb c hc
                · rw [e] at hc
                  have h1 := unhide HB2 b hb
                  have h2 := unhide HWS
                  simp at hc hk
                  omega)
              have HW2 : Hid (w.heap.size ≤ w'.heap.size) := hide (by have h1 := unhide HWS; have h2 := (unhide HFR).size; omega)
              clear ho hg hpl
              go_wp2_with fail
              go_roundw
              case rel => exact ⟨_, _, B ++ [x8], unhide HRK, rfl, by first | rfl | omega, by simpa using unhide HNN, unhide HBE, by simpa using unhide HBL, unhide HR2, by simpa using unhide HP2, unhide HW2⟩
              case measure => simp [intOf]
          · obtain rfl : z = 5 := by omega
            clear hz hpos hrk
            go_wp2_with (refine wpList_app rfl (.tmp 22) (.tmp 28) 23 rfl 5 inf _ 1 1 Try.underlying23 hi0 hz0 hz1 hz2 rfl (by decide) _ B.length (bvs B) rfl _ rfl 1 (bvs [x8]) ?hown ?hx ?h1 ?hb ?h63 ?hK)
            case hown => exact ((unhide HN).alloc _).own
            case hx =>
              exact sr1 _ _ _ (by rw [unhide HX]; simp <;> omega)
            case h1 => exact bvs_one _
            case hb => omega
            case h63 => simp only [maxLen]; omega
            case hK =>
              intro ao' cap' w' ho hg hpl
              have HNN : Hid (Nw S W0 w' (.slice ao' (B.length + 1) cap') (B ++ [x8])) := hide (((unhide HN).alloc _).grown (x := [x8]) ho hg (by rcases hpl with e | ⟨k, e, hk⟩; exact .inl e; exact .inr ⟨k, e, by simp at hk ⊢; omega⟩))
              have HFR : Hid (Fr (fun k => (Value.slice oa B.length oc).ownBlock = some k) wr w') := hide (Fr.grown ((Fr.refl _ _).alloc _) hg (fun k _ e => e))
              have HR2 : Hid (RdV w' (.slice (some ⟨bb, oo, none⟩) L cap) (uvs ns)) := hide ((unhide HR).kept (unhide HFR) (fun b hb e => unhide HAP b hb b e rfl))
              have HP2 : Hid (∀ b, (Value.slice (some ⟨bb, oo, none⟩) L cap).ownBlock = some b → ∀ c, (Value.slice ao' (B.length + 1) cap').ownBlock = some c → b ≠ c) := hide (fun b hb c hc => by
                rcases hpl with e | ⟨k, e, hk⟩
                · rw [e] at hc; exact unhide HAP b hb c hc
                · rw [e] at hc
                  have h1 := unhide HB2 b hb
                  have h2 := unhide HWS
                  simp at hc hk
                  omega)
              have HW2 : Hid (w.heap.size ≤ w'.heap.size) := hide (by have h1 := unhide HWS; have h2 := (unhide HFR).size; omega)
              clear ho hg hpl
              go_wp2_with fail
              go_roundw
              case rel => exact ⟨_, _, B ++ [x8], unhide HRK, rfl, by first | rfl | omega, by simpa using unhide HNN, unhide HBE, by simpa using unhide HBL, unhide HR2, by simpa using unhide HP2, unhide HW2⟩
              case measure => simp [intOf]
          · obtain rfl : z = 6 := by omega
            clear hz hpos hrk
            go_wp2_with (refine wpList_app rfl (.tmp 22) (.tmp 28) 23 rfl 5 inf _ 1 1 Try.underlying23 hi0 hz0 hz1 hz2 rfl (by decide) _ B.length (bvs B) rfl _ rfl 1 (bvs [x8]) ?hown ?hx ?h1 ?hb ?h63 ?hK)
            case hown => exact ((unhide HN).alloc _).own
            case hx =>
              exact sr1 _ _ _ (by rw [unhide HX]; simp <;> omega)
            case h1 => exact bvs_one _
            case hb => omega
            case h63 => simp only [maxLen]; omega
            case hK =>
              intro ao' cap' w' ho hg hpl
              have HNN : Hid (Nw S W0 w' (.slice ao' (B.length + 1) cap') (B ++ [x8])) := hide (((unhide HN).alloc _).grown (x := [x8]) ho hg (by rcases hpl with e | ⟨k, e, hk⟩; exact .inl e; exact .inr ⟨k, e, by simp at hk ⊢; omega⟩))
              have HFR : Hid (Fr (fun k => (Value.slice oa B.length oc).ownBlock = some k) wr w') := hide (Fr.grown ((Fr.refl _ _).alloc _) hg (fun k _ e => e))
              have HR2 : Hid (RdV w' (.slice (some ⟨bb, oo, none⟩) L cap) (uvs ns)) := hide ((unhide HR).kept (unhide HFR) (fun b hb e => unhide HAP b hb b e rfl))
              have HP2 : Hid (∀ b, (Value.slice (some ⟨bb, oo, none⟩) L cap).ownBlock = some b → ∀ c, (Value.slice ao' (B.length + 1) cap').ownBlock = some c → b ≠ c) := hide (fun b hb c hc => by
                rcases hpl with e | ⟨k, e, hk⟩
                · rw [e] at hc; exact unhide HAP b hb c hc
                · rw [e] at hc
                  have h1 := unhide HB2 b hb
                  have h2 := unhide HWS
                  simp at hc hk
                  omega)
              have HW2 : Hid (w.heap.size ≤ w'.heap.size) := hide (by have h1 := unhide HWS; have h2 := (unhide HFR).size; omega)
              clear ho hg hpl
              go_wp2_with fail
              go_roundw
              case rel => exact ⟨_, _, B ++ [x8], unhide HRK, rfl, by first | rfl | omega, by simpa using unhide HNN, unhide HBE, by simpa using unhide HBL, unhide HR2, by simpa using unhide HP2, unhide HW2⟩
              case measure => simp [intOf]
          · obtain rfl : z = 7 := by omega
            clear hz hpos hrk
            go_wp2_with (refine wpList_app rfl (.tmp 22) (.tmp 28) 23 rfl 5 inf _ 1 1 Try.underlying23 hi0 hz0 hz1 hz2 rfl (by decide) _ B.length (bvs B) rfl _ rfl 1 (bvs [x8]) ?hown ?hx ?h1 ?hb ?h63 ?hK)
            case hown => exact ((unhide HN).alloc _).own
            case hx =>
              exact sr1 _ _ _ (by rw [unhide HX]; simp <;> omega)
            case h1 => exact bvs_one _
            case hb => omega
            case h63 => simp only [maxLen]; omega
            case hK =>
              intro ao' cap' w' ho hg hpl
              have HNN : Hid (Nw S W0 w' (.slice ao' (B.length + 1) cap') (B ++ [x8])) := hide (((unhide HN).alloc _).grown (x := [x8]) ho hg (by rcases hpl with e | ⟨k, e, hk⟩; exact .inl e; exact .inr ⟨k, e, by simp at hk ⊢; omega⟩))
              have HFR : Hid (Fr (fun k => (Value.slice oa B.length oc).ownBlock = some k) wr w') := hide (Fr.grown ((Fr.refl _ _).alloc _) hg (fun k _ e => e))
              have HR2 : Hid (RdV w' (.slice (some ⟨bb, oo, none⟩) L cap) (uvs ns)) := hide ((unhide HR).kept (unhide HFR) (fun b hb e => unhide HAP b hb b e rfl))
              have HP2 : Hid (∀ b, (Value.slice (some ⟨bb, oo, none⟩) L cap).ownBlock = some b → ∀ c, (Value.slice ao' (B.length + 1) cap').ownBlock = some c → b ≠ c) := hide (fun b hb c hc => by
                rcases hpl with e | ⟨k, e, hk⟩
                · rw [e] at hc; exact unhide HAP b hb c hc
                · rw [e] at hc
                  have h1 := unhide HB2 b hb
                  have h2 := unhide HWS
                  simp at hc hk
                  omega)
              have HW2 : Hid (w.heap.size ≤ w'.heap.size) := hide (by have h1 := unhide HWS; have h2 := (unhide HFR).size; omega)
              clear ho hg hpl
              go_wp2_with fail
              go_roundw
              case rel => exact ⟨_, _, B ++ [x8], unhide HRK, rfl, by first | rfl | omega, by simpa using unhide HNN, unhide HBE, by simpa using unhide HBL, unhide HR2, by simpa using unhide HP2, unhide HW2⟩
              case measure => simp [intOf]
    · obtain rfl : j = L := by omega
      have HN2 : Hid (Nw S W0 wr u0 (l ++ lay k ns)) := hide (by
        have := unhide HL
        rw [this, List.take_length] at hN; exact hN)
      clear hN hR hap hws
      go_wp2_with fail
      go_ret
      exact ⟨_, rfl, unhide HN2⟩
end Go.Proofs.Ytgodlfoidjeekaa

namespace Go.Proofs.Ytgodlfoidjeekaa
set_option linter.unusedVariables false
set_option linter.unusedSimpArgs false
open Go.RowKit Go.Lib
set_option linter.unusedVariables false
set_option linter.unusedSimpArgs false

attribute [local go_sem ↓] Go.wp_at_zero Go.wp_at_succ

theorem own_type {w : World} {v : Value} {n : Nat} {xs : List Value} (h : w.ownsRow 0 5 1 v n xs) {b t : Nat} {cs : Array Value} {f : Nat × Nat} (e : v.ownBlock = some b) (hb : w.heap[b]? = some (.cells cs t f)) : t = 5 := by
  obtain ⟨h1, h2 | ⟨g, cap, cur, h3, h4, h5, h6⟩⟩ := h
  · rw [h2.1] at e; simp [Value.ownBlock] at e
  · rw [h3] at e
    simp [Value.ownBlock] at e
    subst e
    rw [hb] at h5
    simp at h5
    exact h5.2.1
/-- What this region leaves as it was. -/
structure RY (S : Nat → Prop) (w w' : World) : Prop where
  fr : Fr S w w'
  oth : ∀ (b : Nat) (cs : Array Value) (t : Nat) (f : Nat × Nat), t ≠ 5 → w.heap[b]? = some (Obj.cells cs t f) → w'.heap[b]? = some (Obj.cells cs t f)
theorem RY.of_fr {S : Nat → Prop} {w w' : World} (f : Fr (fun _ => False) w w') : RY S w w' := ⟨f.mono (fun _ _ h => h.elim), fun b cs t g _ h => (f.block _ (lt_of_heap h) id).trans h⟩
theorem RY.trans {S : Nat → Prop} {a b c : World} (h : RY S a b) (k : RY S b c) : RY S a c := ⟨h.fr.trans k.fr (fun _ _ e => e), fun x cs t f ht e => k.oth _ _ _ _ ht (h.oth _ _ _ _ ht e)⟩
theorem RY.own {S : Nat → Prop} {w w' : World} {v : Value} {n : Nat} {xs : List Value} (h : w.ownsRow 0 5 1 v n xs) (f : Fr (fun b => v.ownBlock = some b) w w') (hS : ∀ b, v.ownBlock = some b → S b) : RY S w w' :=
  ⟨f.mono (fun k _ e => hS k e), fun b cs t g ht e => (f.block _ (lt_of_heap e) (fun e2 => ht (own_type h e2 e))).trans e⟩
def KV.row1 {S : Nat → Prop} (z : Nat) : KV (RY S) := ⟨fun v w => ∃ b, v = .slice (some ⟨b, 0, none⟩) 1 1 ∧ w.heap[b]? = some (.cells #[.int .u64 (z : Int)] 22 (0, 0)), fun v a b h f => by obtain ⟨x, e, h⟩ := h; exact ⟨x, e, f.oth _ _ _ _ (by decide) h⟩⟩
theorem Nw.to {S : Nat → Prop} {W w w' : World} {v v' : Value} {l l' : List UInt8} (h : Nw S W w v l) (k : Nw (fun b => v.ownBlock = some b) w w' v' l') : Nw S W w' v' l' :=
  ⟨k.own, h.fr.trans k.fr (fun b hb e => by
    rcases h.new b e with h1 | h1
    · exact h1
    · omega), fun b e => by
    rcases k.new b e with h1 | h1
    · exact h.new b h1
    · right; have := h.fr.size; omega⟩
section
variable {P : Program} {o : Oper} {a : Act} {w : World} {Q : Exit → Act → World → Prop} {R : World → World → Prop} {St : Nat → Act → World → Prop} {T : Nat → Value → World → Prop} {calls : List Nat} {i k : Nat}
theorem la_callC (f : Nat) (args : Array Value) (hi : i ∈ calls) (h : (execOp a.eval o).run P w = .ok (.enter f args) w)
    (hc : Calls P f args w fun e w' => ∃ v, e = .returned v ∧ T i v w' ∧ R w w' ∧ St (k + 1) (a.put o.dst v) w') : o.wp P a w (LeftA R St T calls i o k a w) Q := by
  unfold Oper.wp
  rw [h, Oper.upon_enter]
  refine hc.mono ?_
  rintro e w' ⟨v, rfl, hT, f, hs⟩
  exact ⟨v, rfl, hT, f, by rw [if_pos hi]; exact hs⟩
theorem la_valC (v : Value) (w2 : World) (hi : i ∈ calls) (h : (execOp a.eval o).run P w = .ok (.value v) w2) (hT : T i v w2) (hR : R w w2) (hs : St (k + 1) (a.put o.dst v) w2) : o.wp P a w (LeftA R St T calls i o k a w) Q := by
  unfold Oper.wp
  rw [h, Oper.upon_value]
  exact ⟨v, rfl, hT, hR, by rw [if_pos hi]; exact hs⟩
end
/-- Behind so many of the three. -/
structure StP (S : Nat → Prop) (W : World) (v4 : Value) (l0 l1 l2 : List UInt8) (k : Nat) (a : Act) (w : World) : Prop where
  k0 : k = 0 → Nw S W w v4 l0
  k1 : k = 1 → Nw S W w (a.tmps.getD 45 undef) l1
  k2 : k = 2 → Nw S W w (a.tmps.getD 48 undef) l2
  k3 : k = 3 → Nw S W w (a.tmps.getD 4 undef) l2
  k4 : k ≤ 2 → a.tmps.getD 4 undef = v4
theorem StP.put {S : Nat → Prop} {W : World} {v4 : Value} {l0 l1 l2 : List UInt8} {k s : Nat} {a : Act} {w w' : World} {v : Value} (h : StP S W v4 l0 l1 l2 k a w) (h1 : s ≠ 45) (h2 : s ≠ 48) (h3 : s ≠ 4) (f : Fr (fun _ => False) w w') : StP S W v4 l0 l1 l2 k (a.put (some s) v) w' :=
  ⟨fun e => (h.k0 e).kept f, fun e => by rw [put_getD h1]; exact (h.k1 e).kept f, fun e => by rw [put_getD h2]; exact (h.k2 e).kept f, fun e => by rw [put_getD h3]; exact (h.k3 e).kept f, fun e => (put_getD h3).trans (h.k4 e)⟩
theorem ld23 : ∀ W a u, World.cell? W a = some u → (Instr.loadAt 23 (.pointer (some a))).run Try.prog W = .ok u W := by
  intro W a u h
  simp [go_sem, h]
theorem cv32 (w : World) (n : Nat) (h : n < 4294967296) : (convert 3 22 (.int .i64 (n : Int))).run Try.prog w = .ok (.int .u64 (n : Int)) w := by
  have h2 : IntKind.u64.wrap (n : Int) = n := by simp [IntKind.wrap, IntKind.signed, IntKind.bits]; omega
  simp [go_sem, h2]
section
variable {ρ : Operand → Value} {o : Oper} {w : World} {x : Operand}
theorem x_field0 {b : Nat} (ho : o.op = .fieldAddr 94 x 0) (hx : ρ x = .pointer (some ⟨b, 0, none⟩)) : (execOp ρ o).run Try.prog w = .ok (.value (.pointer (some ⟨b, 0, none⟩))) w := by
  simp [execOp, ho, hx, go_sem]
theorem x_field1 {b : Nat} (ho : o.op = .fieldAddr 94 x 1) (hx : ρ x = .pointer (some ⟨b, 0, none⟩)) : (execOp ρ o).run Try.prog w = .ok (.value (.pointer (some ⟨b, 1, none⟩))) w := by
  simp [execOp, ho, hx, go_sem]
theorem x_bs1 {z : Int} (ho : o.op = .buildSlice 101 1 #[(0, x)]) (hx : ρ x = .int .u64 z) : (execOp ρ o).run Try.prog w = .ok (.value (.slice (some ⟨w.heap.size, 0, none⟩) 1 1)) (w.alloc (Obj.cells #[.int .u64 z] 22)) := by
  simp [execOp, ho, hx, go_sem]
end
set_option maxHeartbeats 8000000 in
set_option maxRecDepth 100000 in
theorem gs9 {W0 W : World} {p z : Nat} {v4 x : Value} {acc bs : List UInt8} {u0 u1 u2 u3 u5 u7 u8 u9 u10 u11 u12 u13 u14 u15 u16 u17 u18 u19 u20 u21 u22 u23 u24 u25 u26 u27 u28 u29 u30 u31 u32 u33 u34 u35 u36 u37 u38 u39 u40 u41 u42 u43 u44 u45 u46 u47 u48 u49 u50 : Value} {Q : Exit → Act → World → Prop} (hN : Nb W0 W v4 acc) (hp : W.heap[p]? = some (.cells #[.int .i64 (z : Int), x] 94 (0, 0))) (hz : z < 4294967296) (hx0 : Rd W x bs) (hxo : ∀ b, x.ownBlock = some b → b < W0.heap.size) (hacc : acc.length ≤ 100000) (hbs : bs.length ≤ 100000)
    (hQ : ∀ (y40 y41 y42 y43 y44 y45 y46 y47 y48 : Value) (v' : Value) (W' : World), Nb W0 W' v' (acc ++ lay 4 [z] ++ bs) → W.heap.size ≤ W'.heap.size → Q .normal ⟨#[u0, u1, u2, u3, v', u5, .pointer (some ⟨p, 0, none⟩), u7, u8, u9, u10, u11, u12, u13, u14, u15, u16, u17, u18, u19, u20, u21, u22, u23, u24, u25, u26, u27, u28, u29, u30, u31, u32, u33, u34, u35, u36, u37, u38, u39, y40, y41, y42, y43, y44, y45, y46, y47, y48, u49, u50], []⟩ W') : (rgF Try.f15 9).wp Try.prog Q ⟨#[u0, u1, u2, u3, v4, u5, .pointer (some ⟨p, 0, none⟩), u7, u8, u9, u10, u11, u12, u13, u14, u15, u16, u17, u18, u19, u20, u21, u22, u23, u24, u25, u26, u27, u28, u29, u30, u31, u32, u33, u34, u35, u36, u37, u38, u39, u40, u41, u42, u43, u44, u45, u46, u47, u48, u49, u50], []⟩ W := by
  obtain ⟨inf, hi0, hz0, hz1, hz2⟩ := info_parts Try.info5
  have HQ := hide hQ
  clear hQ
  have lp := lt_of_heap hp
  have hl1 : (acc ++ lay 4 [z]).length = acc.length + 4 := by rw [List.length_append, lay_length]; rfl
  conv => arg 2; whnf
  refine wp_nm ?_
  intro a0 hA
  have s4 : a0.tmps.getD 4 undef = v4 := by rw [hA]; rfl
  have s6 : a0.tmps.getD 6 undef = .pointer (some ⟨p, 0, none⟩) := by rw [hA]; rfl
  have hsz : a0.tmps.size = 51 := by rw [hA]; rfl
  have hdf : a0.defers = [] := by rw [hA]
  refine wp_region_chainA (by kernel_rfl) (by kernel_rfl) (by decide +kernel) (by rw [hsz]; decide +kernel) (fun w w' => RY (fun b => v4.ownBlock = some b ∨ W.heap.size ≤ b) w w') (RY.of_fr (Fr.refl _ _).drew) (fun _ _ _ => RY.trans) (Tw [KV.eq v4, KV.eq (.pointer (some ⟨p, 0, none⟩)), KV.eq (.int .i64 (z : Int)), KV.eq (.int .u64 (z : Int)), KV.row1 z, KV.any, KV.eq (.pointer (some ⟨p, 1, none⟩)), KV.eq x, KV.any, KV.any]) (Tw.mono _) [5, 8, 9] (by decide) (by decide) (fun k i j h1 h2 => ?cp) (StP (fun b => v4.ownBlock = some b) W v4 acc (acc ++ lay 4 [z]) (acc ++ lay 4 [z] ++ bs)) ?st0 ?steps ?done
  case cp =>
    match k, h1, h2 with
    | 0, h1, h2 => simp at h1 h2; subst h1; subst h2; exact .one rfl (by kernel_rfl)
    | 1, h1, h2 => simp at h1 h2; subst h1; subst h2; exact .one rfl (by kernel_rfl)
    | 2, h1, h2 => simp at h2
    | k + 3, h1, h2 => simp at h2
  case st0 => exact ⟨fun _ => hN.nw.kept (Fr.refl _ _).drew, fun e => by omega, fun e => by omega, fun e => by omega, fun _ => s4⟩
  case steps =>
    have HC0 : ∀ w', RY (fun b => v4.ownBlock = some b ∨ W.heap.size ≤ b) W w' → w'.cell? ⟨p, 0, none⟩ = some (.int .i64 (z : Int)) := fun w' f => by rw [cell_of_heap (f.oth _ _ _ _ (by decide) hp)]; rfl
    have HC1 : ∀ w', RY (fun b => v4.ownBlock = some b ∨ W.heap.size ≤ b) W w' → w'.cell? ⟨p, 1, none⟩ = some x := fun w' f => by rw [cell_of_heap (f.oth _ _ _ _ (by decide) hp)]; rfl
    have HX : ∀ w', RY (fun b => v4.ownBlock = some b ∨ W.heap.size ≤ b) W w' → Rd w' x bs := fun w' f => hx0.kept f.fr (fun b e h => by
      have h1 := hxo b e
      have h2 := hN.fr.size
      rcases h with h | h
      · have := hN.new b h; omega
      · omega)
    refine ⟨?_, ?_⟩
    · intro a' w' k hb hR hst hck hle hd
      have hk : k ≤ 2 := hle 2 9 _ rfl rfl (by kernel_rfl)
      exact .inl ⟨wanted_none rfl, la_val _ _ (by decide) (x_move rfl (hst.k4 hk)) rfl (RY.of_fr (Fr.refl _ _)) (hst.put (by decide) (by decide) (by decide) (Fr.refl _ _))⟩
    refine ⟨?_, ?_⟩
    · intro a' w' k hb hR hst hck hle hd
      exact .inl ⟨wanted_none rfl, la_val _ _ (by decide) (x_field0 rfl ((hb.old 6 (by decide +kernel)).trans s6)) rfl (RY.of_fr (Fr.refl _ _)) (hst.put (by decide) (by decide) (by decide) (Fr.refl _ _))⟩
    refine ⟨?_, ?_⟩
    · intro a' w' k hb hR hst hck hle hd
      exact .inl ⟨wanted_none rfl, la_val _ _ (by decide) (x_load1 ld3 rfl (hd 1 (by kernel_rfl) 41 rfl) (HC0 w' hR)) rfl (RY.of_fr (Fr.refl _ _)) (hst.put (by decide) (by decide) (by decide) (Fr.refl _ _))⟩
    refine ⟨?_, ?_⟩
    · intro a' w' k hb hR hst hck hle hd
      exact .inl ⟨wanted_none rfl, la_val _ _ (by decide) (x_conv rfl (hd 2 (by kernel_rfl) 42 rfl) (cv32 _ _ hz)) rfl (RY.of_fr (Fr.refl _ _)) (hst.put (by decide) (by decide) (by decide) (Fr.refl _ _))⟩
    refine ⟨?_, ?_⟩
    · intro a' w' k hb hR hst hck hle hd
      have e0 : a'.tmps.getD 43 undef = .int .u64 (z : Int) := hd 3 (by kernel_rfl) 43 rfl
      exact .inl ⟨wanted_none rfl, la_val _ _ (by decide) (x_bs1 (x := .tmp 43) rfl e0) ⟨_, rfl, heap_alloc_new w' _⟩ (RY.of_fr ((Fr.refl _ _).alloc _)) (hst.put (by decide) (by decide) (by decide) ((Fr.refl _ _).alloc _))⟩
    refine ⟨?_, ?_⟩
    · intro a' w' k hb hR hst hck hle hd
      obtain rfl : 0 = k := hck 0 rfl
      have hn := hst.k0 rfl
      have e0 : a'.tmps.getD 40 undef = v4 := hd 0 (by kernel_rfl) 40 rfl
      obtain ⟨b, e1, hh⟩ := hd 4 (by kernel_rfl) 44 rfl
      have hs : Nw (fun b => v4.ownBlock = some b) w' w' v4 acc := ⟨hn.own, Fr.refl _ _, fun k e => .inl e⟩
      have hu : RdV w' (.slice (some ⟨b, 0, none⟩) 1 1) (uvs [z]) := rdv_blk hh rfl (by simp) 1 rfl
      refine .inl ⟨wanted_none rfl, la_callC 51 _ (by decide) (e_call3 rfl rfl e0 rfl e1 (fun _ _ => by simp [go_sem])) ((layS_any _ w' w' v4 acc 4 _ [z] hs (.inr (.inl rfl)) hu (fun c hc d hd2 => ?_) (fun c hc => ?_) (by simp) hacc (by simp; omega)).mono ?_)⟩
      · intro e; subst e; simp [Value.ownBlock] at hc; subst hc; exact absurd (own_type hn.own hd2 hh) (by decide)
      · simp [Value.ownBlock] at hc; subst hc; exact lt_of_heap hh
      rintro e w2 ⟨v2, rfl, hv2⟩
      exact ⟨_, rfl, trivial, RY.own hn.own hv2.fr (fun c e => .inl e), ⟨fun e => by omega, fun _ => by rw [put_self (by rw [hb.size, hsz]; decide)]; exact hn.to hv2, fun e => by omega, fun e => by omega, fun e => (put_getD (by decide)).trans (hst.k4 (by omega))⟩⟩
    refine ⟨?_, ?_⟩
    · intro a' w' k hb hR hst hck hle hd
      exact .inl ⟨wanted_none rfl, la_val _ _ (by decide) (x_field1 rfl ((hb.old 6 (by decide +kernel)).trans s6)) rfl (RY.of_fr (Fr.refl _ _)) (hst.put (by decide) (by decide) (by decide) (Fr.refl _ _))⟩
    refine ⟨?_, ?_⟩
    · intro a' w' k hb hR hst hck hle hd
      exact .inl ⟨wanted_none rfl, la_val _ _ (by decide) (x_load1 ld23 rfl (hd 6 (by kernel_rfl) 46 rfl) (HC1 w' hR)) rfl (RY.of_fr (Fr.refl _ _)) (hst.put (by decide) (by decide) (by decide) (Fr.refl _ _))⟩
    refine ⟨?_, ?_⟩
    · intro a' w' k hb hR hst hck hle hd
      obtain rfl : 1 = k := hck 1 rfl
      have hn := hst.k1 rfl
      have e1 : a'.tmps.getD 47 undef = x := hd 7 (by kernel_rfl) 47 rfl
      have hx : Sr w' 1 x bs.length (bvs bs) := (HX w' hR).sr
      refine .inl ⟨wanted_none rfl, wp_app (.tmp 45) (.tmp 47) 23 rfl 5 inf _ 1 1 Try.underlying23 hi0 hz0 hz1 hz2 rfl (by decide) _ _ _ rfl _ e1 _ _ hn.own hx (by intro u hu; simp [bvs] at hu; obtain ⟨c, -, rfl⟩ := hu; rfl) (by rw [hl1]; omega) (by rw [hl1]; simp only [maxLen]; omega) ?_⟩
      intro ao cap w2 ho hg hpl
      have hv2 := hn.grown ho hg hpl
      refine ⟨_, rfl, trivial, RY.own hn.own ((Fr.refl _ _).grown hg (fun c hc e => e)) (fun c e => ?_), ?_⟩
      · exact hn.new c e
      · rw [if_pos (by decide)]; exact ⟨fun e => by omega, fun e => by omega, fun _ => by rw [put_self (by rw [hb.size, hsz]; decide)]; exact hv2, fun e => by omega, fun e => (put_getD (by decide)).trans (hst.k4 (by omega))⟩
    refine ⟨?_, ?_⟩
    · intro a' w' k hb hR hst hck hle hd
      obtain rfl : 2 = k := hck 2 rfl
      have hn := hst.k2 rfl
      exact .inl ⟨wanted_none rfl, la_valC _ _ (by decide) (x_assign rfl rfl) trivial (RY.of_fr (Fr.refl _ _)) ⟨fun e => by omega, fun e => by omega, fun e => by omega, fun _ => by rw [put_self (by rw [hb.size, hsz]; decide)]; exact hn, fun e => by omega⟩⟩
    exact trivial
  case done =>
    intro a' w' hb hR hst hall
    have hn := hst.k3 rfl
    have hfr := frame_eq (a := a') (vs := [u0, u1, u2, u3, a'.tmps.getD 4 undef, u5, .pointer (some ⟨p, 0, none⟩), u7, u8, u9, u10, u11, u12, u13, u14, u15, u16, u17, u18, u19, u20, u21, u22, u23, u24, u25, u26, u27, u28, u29, u30, u31, u32, u33, u34, u35, u36, u37, u38, u39, a'.tmps.getD 40 undef, a'.tmps.getD 41 undef, a'.tmps.getD 42 undef, a'.tmps.getD 43 undef, a'.tmps.getD 44 undef, a'.tmps.getD 45 undef, a'.tmps.getD 46 undef, a'.tmps.getD 47 undef, a'.tmps.getD 48 undef, u49, u50]) (by rw [hb.size, hsz]; rfl) (by rw [hb.defers, hdf]) ⟨(hb.old 0 (by decide +kernel)).trans (by rw [hA]; rfl), (hb.old 1 (by decide +kernel)).trans (by rw [hA]; rfl), (hb.old 2 (by decide +kernel)).trans (by rw [hA]; rfl), (hb.old 3 (by decide +kernel)).trans (by rw [hA]; rfl), rfl, (hb.old 5 (by decide +kernel)).trans (by rw [hA]; rfl), (hb.old 6 (by decide +kernel)).trans (by rw [hA]; rfl), (hb.old 7 (by decide +kernel)).trans (by rw [hA]; rfl), (hb.old 8 (by decide +kernel)).trans (by rw [hA]; rfl), (hb.old 9 (by decide +kernel)).trans (by rw [hA]; rfl), (hb.old 10 (by decide +kernel)).trans (by rw [hA]; rfl), (hb.old 11 (by decide +kernel)).trans (by rw [hA]; rfl), (hb.old 12 (by decide +kernel)).trans (by rw [hA]; rfl), (hb.old 13 (by decide +kernel)).trans (by rw [hA]; rfl), (hb.old 14 (by decide +kernel)).trans (by rw [hA]; rfl), (hb.old 15 (by decide +kernel)).trans (by rw [hA]; rfl), (hb.old 16 (by decide +kernel)).trans (by rw [hA]; rfl), (hb.old 17 (by decide +kernel)).trans (by rw [hA]; rfl), (hb.old 18 (by decide +kernel)).trans (by rw [hA]; rfl), (hb.old 19 (by decide +kernel)).trans (by rw [hA]; rfl), (hb.old 20 (by decide +kernel)).trans (by rw [hA]; rfl), (hb.old 21 (by decide +kernel)).trans (by rw [hA]; rfl), (hb.old 22 (by decide +kernel)).trans (by rw [hA]; rfl), (hb.old 23 (by decide +kernel)).trans (by rw [hA]; rfl), (hb.old 24 (by decide +kernel)).trans (by rw [hA]; rfl), (hb.old 25 (by decide +kernel)).trans (by rw [hA]; rfl), (hb.old 26 (by decide +kernel)).trans (by rw [hA]; rfl), (hb.old 27 (by decide +kernel)).trans (by rw [hA]; rfl), (hb.old 28 (by decide +kernel)).trans (by rw [hA]; rfl), (hb.old 29 (by decide +kernel)).trans (by rw [hA]; rfl), (hb.old 30 (by decide +kernel)).trans (by rw [hA]; rfl), (hb.old 31 (by decide +kernel)).trans (by rw [hA]; rfl), (hb.old 32 (by decide +kernel)).trans (by rw [hA]; rfl), (hb.old 33 (by decide +kernel)).trans (by rw [hA]; rfl), (hb.old 34 (by decide +kernel)).trans (by rw [hA]; rfl), (hb.old 35 (by decide +kernel)).trans (by rw [hA]; rfl), (hb.old 36 (by decide +kernel)).trans (by rw [hA]; rfl), (hb.old 37 (by decide +kernel)).trans (by rw [hA]; rfl), (hb.old 38 (by decide +kernel)).trans (by rw [hA]; rfl), (hb.old 39 (by decide +kernel)).trans (by rw [hA]; rfl), rfl, rfl, rfl, rfl, rfl, rfl, rfl, rfl, rfl, (hb.old 49 (by decide +kernel)).trans (by rw [hA]; rfl), (hb.old 50 (by decide +kernel)).trans (by rw [hA]; rfl), trivial⟩
    rw [hfr]
    exact unhide HQ _ _ _ _ _ _ _ _ _ _ w' (hN.then hn) hR.fr.size
end Go.Proofs.Ytgodlfoidjeekaa

namespace Go.Proofs.Ytgodlfoidjeekaa
set_option linter.unusedVariables false
set_option linter.unusedSimpArgs false
open Go.RowKit Go.Lib
set_option linter.unusedVariables false
set_option linter.unusedSimpArgs false

attribute [local go_sem ↓] Go.wp_at_zero Go.wp_at_succ

/-- Puts that can be read: where, and the block. -/
def RdP (w : World) (v : Value) (ps : List (Int × List UInt8)) : Prop :=
  ((∃ ao cap, v = .slice ao 0 cap) ∧ ps = []) ∨
  ∃ (B o cap : Nat), v = .slice (some ⟨B, o, none⟩) ps.length cap ∧ ps.length ≤ cap ∧ cap ≤ maxLen ∧ ∀ j (h : j < ps.length), w.cell? ⟨B, o + j * 2, none⟩ = some (.int .i64 (ps[j]).1) ∧ ∃ x, w.cell? ⟨B, o + j * 2 + 1, none⟩ = some x ∧ Rd w x (ps[j]).2
theorem RdP.shape {w : World} {v : Value} {ps : List (Int × List UInt8)} (h : RdP w v ps) : ∃ ao cap, v = .slice ao ps.length cap := by
  rcases h with ⟨⟨ao, cap, rfl⟩, rfl⟩ | ⟨B, o, cap, rfl, -⟩
  · exact ⟨_, _, rfl⟩
  · exact ⟨_, _, rfl⟩
theorem RdP.lits {w : World} {ao : Option Addr} {n cap : Nat} {ps : List (Int × List UInt8)} (h : RdP w (.slice ao n cap) ps) (hl : 0 < ps.length) : ∃ B o, ao = some ⟨B, o, none⟩ ∧ ps.length ≤ cap ∧ cap ≤ maxLen ∧ ∀ j (h : j < ps.length), w.cell? ⟨B, o + j * 2, none⟩ = some (.int .i64 (ps[j]).1) ∧ ∃ x, w.cell? ⟨B, o + j * 2 + 1, none⟩ = some x ∧ Rd w x (ps[j]).2 := by
  rcases h with ⟨-, rfl⟩ | ⟨B, o, cap, e, h1, h2, h3⟩
  · simp at hl
  · simp at e
    obtain ⟨rfl, -, rfl⟩ := e
    exact ⟨B, o, rfl, h1, h2, h3⟩
theorem RdP.get {w W : World} {v : Value} {ps : List (Int × List UInt8)} (h : RdP w v ps) (f : Fr (fun _ => False) w W) (j : Nat) (hj : j < ps.length) : ∃ B o cap x, v = .slice (some ⟨B, o, none⟩) ps.length cap ∧ ps.length ≤ cap ∧ W.cell? ⟨B, o + j * 2, none⟩ = some (.int .i64 (ps[j]).1) ∧ W.cell? ⟨B, o + j * 2 + 1, none⟩ = some x ∧ Rd W x (ps[j]).2 := by
  obtain ⟨ao, cap, rfl⟩ := h.shape
  obtain ⟨B, o, rfl, h1, h2, h3⟩ := h.lits (by omega)
  obtain ⟨c0, x, c1, hx⟩ := h3 j hj
  have hB : B < w.heap.size := World.block_lt_of_cell? w _ c0
  exact ⟨B, o, cap, x, rfl, h1, by rw [f.cell hB id]; exact c0, by rw [f.cell hB id]; exact c1, hx.kept f (fun _ _ h => h)⟩
/-- A put that can be laid. -/
def pOk (p : Int × List UInt8) : Bool := decide (0 ≤ p.1) && decide (p.1 ≤ 2147483647) && decide (p.2.length = 384)
def ptB (ps : List (Int × List UInt8)) : Bool := ctB (ps.length : Int) && ps.all pOk
def pbs (ps : List (Int × List UInt8)) : List UInt8 := ps.flatMap fun p => lay 4 [p.1.toNat] ++ p.2
/-- The bytes of a transaction. -/
def ptL (ps : List (Int × List UInt8)) : List UInt8 := lay 4 [ps.length] ++ pbs ps
def Pt (ps : List (Int × List UInt8)) (w : World) (r : Value) (c : Int) (w' : World) : Prop := if ptB ps = true then c = 0 ∧ Nb w w' r (ptL ps) else c = 82 ∧ r = .slice none 0 0 ∧ Fr (fun _ => False) w w'
theorem Pt.no {ps : List (Int × List UInt8)} {w w' : World} (h : ptB ps = false) (f : Fr (fun _ => False) w w') : Pt ps w (.slice none 0 0) 82 w' := by
  unfold Pt; rw [if_neg (by rw [h]; simp)]; exact ⟨rfl, rfl, f⟩
theorem Pt.ok {ps : List (Int × List UInt8)} {w w' : World} {r : Value} (h : ptB ps = true) (f : Nb w w' r (ptL ps)) : Pt ps w r 0 w' := by
  unfold Pt; rw [if_pos h]; exact ⟨rfl, f⟩
theorem pbs_length {ps : List (Int × List UInt8)} (h : ps.all pOk = true) : (pbs ps).length = 388 * ps.length := by
  induction ps with
  | nil => rfl
  | cons p r ih =>
    simp only [List.all_cons, Bool.and_eq_true] at h
    have h1 : p.2.length = 384 := by have := h.1; unfold pOk at this; simp at this; exact this.2
    have h2 := ih h.2
    unfold pbs at *
    simp only [List.flatMap_cons, List.length_append, h2, lay_length, List.length_cons, List.length_nil, h1]
    omega
theorem pbs_take {ps : List (Int × List UInt8)} {j : Nat} (hj : j < ps.length) : pbs (ps.take (j + 1)) = pbs (ps.take j) ++ (lay 4 [(ps[j]).1.toNat] ++ (ps[j]).2) := by
  unfold pbs
  rw [List.take_succ_eq_append_getElem hj, List.flatMap_append]
  congr 1
  simp
theorem ok_take {ps : List (Int × List UInt8)} {j : Nat} (hj : j < ps.length) (h : (ps.take j).all pOk = true) (h1 : pOk ps[j] = true) : (ps.take (j + 1)).all pOk = true := by
  rw [List.take_succ_eq_append_getElem hj, List.all_append, h]
  simp [h1]
theorem ptB_bad {ps : List (Int × List UInt8)} {j : Nat} (hj : j < ps.length) (h1 : pOk ps[j] = false) : ptB ps = false := by
  have : ps.all pOk = false := by
    rw [List.all_eq_false]
    exact ⟨ps[j], List.getElem_mem hj, by simp [h1]⟩
  unfold ptB
  rw [this, Bool.and_false]
theorem run_make0 (c : Nat) (hc : c ≤ 1000000) (w : World) : (Instr.makeSlice 23 (.int .i64 0) (.int .i64 (c : Int))).run Try.prog w = .ok (.slice (some ⟨w.heap.size, 0, none⟩) 0 c) (w.alloc (.cells (bvs (List.replicate c 0)).toArray 5)) := by
  obtain ⟨i, hi, hz0, hz1, hz2⟩ := info_parts Try.info5
  have := run_make (P := Try.prog) w 23 5 i _ Try.underlying23 hi hz0 .i64 .i64 0 (c : Int) (by omega) (by omega) (by rw [hz2]; omega) (by omega)
  rw [this, hz1, Int.toNat_natCast, made_bytes]
  rfl
theorem nb_make0 (c : Nat) (hc : c ≤ 1000000) (w : World) : Nb w (w.alloc (.cells (bvs (List.replicate c 0)).toArray 5)) (.slice (some ⟨w.heap.size, 0, none⟩) 0 c) [] :=
  ⟨⟨rfl, .inr ⟨_, _, _, rfl, Nat.zero_le _, heap_alloc_new w _, Nat.zero_le _, by simp only [maxLen]; omega, by simp [bvs], by simp [bvs]⟩⟩, (Fr.refl _ _).alloc _, fun k e => by simp [Value.ownBlock] at e; omega⟩
set_option maxHeartbeats 8000000 in
set_option maxRecDepth 100000 in
theorem putTx_any (w : World) (v : Value) (ps : List (Int × List UInt8)) (h : RdP w v ps) (hl : ps.length ≤ 100000) : Calls Try.prog 15 #[v] w fun e w' => ∃ r c, e = .returned (.tuple #[r, .int .i64 c]) ∧ Pt ps w r c w' := by
  obtain ⟨ao, cap, rfl⟩ := h.shape
  have HH := hide h
  clear h
  obtain ⟨n, hn⟩ : ∃ n, n = ps.length := ⟨_, rfl⟩
  rw [← hn] at HH hl ⊢
  have HN := hide hn
  cases hct : ctB (n : Int)
  · have HP : Hid (ptB ps = false) := hide (by unfold ptB; rw [← hn, hct]; rfl)
    clear hn hl
    go_enter Try.func15, Try.ntmps15
    go_wp2_with (go_at_call 55; refine (countable_any _ _).mono ?_; rintro e w' ⟨rfl, rfl⟩; rw [hct])
    go_ret2
    exact ⟨_, _, rfl, Pt.no (unhide HP) (Fr.refl _ _)⟩
  · have h64 : 1 ≤ n ∧ n ≤ 64 := by unfold ctB at hct; simp at hct; omega
    obtain ⟨h1, h2⟩ := h64
    have kmk := run_make0 (4 + n * 388) (by omega) w
    have hnb := nb_make0 (4 + n * 388) (by omega) w
    obtain ⟨W1, hW1⟩ : ∃ W1, W1 = w.alloc (.cells (bvs (List.replicate (4 + n * 388) 0)).toArray 5) := ⟨_, rfl⟩
    rw [← hW1] at kmk hnb
    rw [show ((4 + n * 388 : Nat) : Int) = 4 + (n : Int) * 388 by omega] at kmk
    have HNB := hide hnb
    have e2 : IntKind.u64.wrap (n : Int) = (n : Int) := by simp [IntKind.wrap, IntKind.signed, IntKind.bits]; omega
    clear hnb hW1 hn hl
    go_enter Try.func15, Try.ntmps15
    go_wp2_with (first | (go_at_call 55; refine (countable_any _ _).mono ?_; rintro e w' ⟨rfl, rfl⟩; rw [hct]) | (go_at_call 56; refine (txBytes_any _ _ ⟨by omega, by omega⟩).mono ?_; rintro e w' ⟨rfl, rfl⟩) | (go_at_call 51; refine (layN w W1 _ [] 4 4 rfl (.inr (.inl rfl)) [n] _ _ _ (unhide HNB) rfl rfl rfl (by simp) (by simp) (by simp; omega)).mono ?_; rintro e w2 ⟨v2, rfl, hv2⟩; have HV2 := hide hv2; clear hv2))
    go_loopw [4, 6, 22] (fun o _ y W => ∃ (j : Nat), j ≤ n ∧ y = .int .i64 (j : Int) ∧ Nb w W o (lay 4 [n] ++ pbs (ps.take j)) ∧ (ps.take j).all pOk = true) (fun _ _ y _ => n - (intOf y).toNat)
    case atStart => exact ⟨0, by omega, rfl, by simpa [pbs] using unhide HV2, by simp⟩
    case round =>
      clear HNB HV2
      obtain ⟨j, hj, rfl, hNb, hok⟩ := hrel
      by_cases hlt : j < n
      · have jl : j < ps.length := by rw [← unhide HN]; exact hlt
        obtain ⟨B, o, rfl, hnc, hcm, hc⟩ := (unhide HH).lits (by omega)
        obtain ⟨c0, x, c1, hx⟩ := hc j jl
        have hB : B < w.heap.size := World.block_lt_of_cell? w _ c0
        have f := hNb.fr
        rw [← f.cell hB id] at c0 c1
        have hxw : ∀ b, x.ownBlock = some b → 0 < (ps[j]).2.length → b < w.heap.size := fun b e hp => by
          obtain ⟨xo, xc, rfl⟩ := hx.shape
          obtain ⟨g, of, rfl, -, -, -, hcc⟩ := hx.lits hp
          simp [Value.ownBlock] at e
          subst e
          exact World.block_lt_of_cell? w _ (hcc 0 hp)
        have HXW := hide hxw
        have HX := hide hx
        obtain ⟨xo, xc, rfl⟩ := hx.shape
        have HBAD := hide (fun h => ptB_bad jl h)
        have HTK := hide (pbs_take jl)
        have HOK := hide (ok_take jl hok)
        have HNB := hide hNb
        have HLEN : Hid ((lay 4 [n] ++ pbs (ps.take j)).length = 4 + 388 * j) := hide (by rw [List.length_append, pbs_length hok, lay_length, List.length_take]; simp; omega)
        have hjc : j < cap := by have := unhide HN; omega
        have F := hide f
        generalize ps[j] = pp at *
        obtain ⟨z, bs⟩ := pp
        simp only at c0 c1 HX HXW
        obtain ⟨m, hm⟩ : ∃ m, m = bs.length := ⟨_, rfl⟩
        rw [← hm] at c1 HX HXW
        have HM := hide hm
        clear hc hx hxw hNb hok f jl hcm hnc hm
        by_cases hz0 : z < 0
        · have HP := hide (unhide HBAD (by unfold pOk; simp; omega))
          clear HBAD HTK HOK HXW
          go_wp2_with fail
          go_ret2
          exact ⟨_, _, rfl, Pt.no (unhide HP) ((unhide F).alloc _)⟩
        · by_cases hz1 : z > 2147483647
          · have HP := hide (unhide HBAD (by unfold pOk; simp; omega))
            clear HBAD HTK HOK HXW
            go_wp2_with fail
            go_ret2
            exact ⟨_, _, rfl, Pt.no (unhide HP) ((unhide F).alloc _)⟩
          · by_cases hm : m = 384
            · obtain ⟨zn, rfl⟩ : ∃ zn : Nat, z = (zn : Int) := ⟨z.toNat, by omega⟩
              have HO2 := hide (unhide HOK (by have := unhide HM; unfold pOk; simp; omega))
              have HZ := hide (show zn < 4294967296 by omega)
              subst hm
              clear HBAD HOK
              go_upto_region 9 with fail
              refine gs9 ((unhide HNB).alloc _) (heap_alloc_new wr _) (unhide HZ) ((unhide HX).kept ((unhide F).alloc _) (fun _ _ h => h)) (fun b e => unhide HXW b e (by decide)) (by rw [unhide HLEN]; omega) (by have := unhide HM; omega) ?_
              intro y40 y41 y42 y43 y44 y45 y46 y47 y48 v' W' hv' hsz'
              have HV := hide hv'
              clear hv' hsz' c0 c1 HNB HX F HXW
              go_wp2_with fail
              go_roundw
              case rel =>
                refine ⟨j + 1, by omega, by go_num, ?_, unhide HO2⟩
                have h9 := unhide HTK
                simp only [Int.toNat_natCast] at h9
                rw [h9, ← List.append_assoc, ← List.append_assoc]
                exact unhide HV
              case measure => simp [intOf]; omega
            · have HP := hide (unhide HBAD (by have := unhide HM; unfold pOk; simp; omega))
              have dm : ((m : Int) == 384) = false := by simp; omega
              have dm2 : ¬ ((m : Int) = 384) := by omega
              clear HBAD HTK HOK HXW
              go_wp2_with fail
              go_ret2
              exact ⟨_, _, rfl, Pt.no (unhide HP) ((unhide F).alloc _)⟩
      · obtain rfl : n = j := by omega
        have hpl : lay 4 [n] ++ pbs (ps.take n) = ptL ps := by
          have := unhide HN
          rw [List.take_of_length_le (by omega), this]; rfl
        rw [hpl] at hNb
        have HP := hide hNb
        have HT : Hid (ptB ps = true) := hide (by
          have := unhide HN
          rw [List.take_of_length_le (by omega)] at hok
          unfold ptB
          rw [← this, hct, hok]; rfl)
        clear hNb hok
        go_wp2_with fail
        go_ret2
        exact ⟨_, _, rfl, Pt.ok (unhide HT) (unhide HP)⟩
end Go.Proofs.Ytgodlfoidjeekaa

namespace Go.Proofs.Ytgodlfoidjeekaa
set_option linter.unusedVariables false
set_option linter.unusedSimpArgs false
open Go.RowKit Go.Lib
set_option linter.unusedVariables false
set_option linter.unusedSimpArgs false

attribute [local go_sem ↓] Go.wp_at_zero Go.wp_at_succ

/-- The numbers and blocks of a transaction's bytes. -/
def gtN (l : List UInt8) : Nat := val (l.take 4)
def gtP (l : List UInt8) (i : Nat) : List UInt8 := (l.drop (4 + i * 388)).take 388
def gtZ (l : List UInt8) (i : Nat) : Nat := val ((gtP l i).take 4)
def gtB (l : List UInt8) : Bool := decide (4 ≤ l.length) && ctB (gtN l : Int) && decide (l.length = 4 + gtN l * 388) && (List.range (gtN l)).all fun i => decide (gtZ l i ≤ 2147483647)
def gtL (l : List UInt8) : List (Int × List UInt8) := (List.range (gtN l)).map fun i => ((gtZ l i : Int), (gtP l i).drop 4)
/-- Puts in a block of their own, so many of them laid. -/
def PAt (M : Nat) (w : World) (G n j : Nat) (l : List UInt8) : Prop := ∃ cs : Array Value, w.heap[G]? = some (.cells cs 94 (0, 0)) ∧ cs.size = n * 2 ∧ ∀ i, i < j → cs[i * 2]? = some (.int .i64 (gtZ l i : Int)) ∧ ∃ x, cs[i * 2 + 1]? = some x ∧ Ob M w x ((gtP l i).drop 4)
def Gt (l : List UInt8) (w : World) (r : Value) (c : Int) (w' : World) : Prop := if gtB l = true then c = 0 ∧ (∃ G, r = .slice (some ⟨G, 0, none⟩) (gtN l) (gtN l) ∧ w.heap.size ≤ G ∧ PAt w.heap.size w' G (gtN l) (gtN l) l) ∧ Fr (fun _ => False) w w' else c = 82 ∧ r = .slice none 0 0 ∧ Fr (fun _ => False) w w'
theorem Gt.no {l : List UInt8} {w w' : World} (h : gtB l = false) (f : Fr (fun _ => False) w w') : Gt l w (.slice none 0 0) 82 w' := by
  unfold Gt; rw [if_neg (by rw [h]; simp)]; exact ⟨rfl, rfl, f⟩
theorem Gt.ok {l : List UInt8} {w w' : World} {G : Nat} (h : gtB l = true) (hG : w.heap.size ≤ G) (p : PAt w.heap.size w' G (gtN l) (gtN l) l) (f : Fr (fun _ => False) w w') : Gt l w (.slice (some ⟨G, 0, none⟩) (gtN l) (gtN l)) 0 w' := by
  unfold Gt; rw [if_pos h]; exact ⟨rfl, ⟨G, rfl, hG, p⟩, f⟩
theorem PAt.kept {M : Nat} {w w' : World} {G n j : Nat} {l : List UInt8} (h : PAt M w G n j l) (f : Fr (fun _ => False) w w') : PAt M w' G n j l := by
  obtain ⟨cs, h1, h2, h3⟩ := h
  exact ⟨cs, (f.block _ (lt_of_heap h1) id).trans h1, h2, fun i hi => by
    obtain ⟨h4, x, h5, h6⟩ := h3 i hi
    exact ⟨h4, x, h5, h6.kept f⟩⟩
theorem gtN_lt (l : List UInt8) : gtN l < 4294967296 := by
  have h := val_lt (l.take 4)
  have h2 : (l.take 4).length ≤ 4 := by rw [List.length_take]; omega
  have h3 := Nat.pow_le_pow_right (n := 256) (by omega) h2
  unfold gtN
  omega
theorem gtZ_lt (l : List UInt8) (i : Nat) : gtZ l i < 4294967296 := by
  have h := val_lt ((gtP l i).take 4)
  have h2 : ((gtP l i).take 4).length ≤ 4 := by rw [List.length_take]; omega
  have h3 := Nat.pow_le_pow_right (n := 256) (by omega) h2
  unfold gtZ
  omega
theorem tk41 {l : List UInt8} (h : l.length = 4) : tk l 4 1 l.length = [val l] := by
  have e1 : l.take l.length = l := List.take_length
  unfold tk
  rw [e1]
  show [val ((l.drop 0).take 4)] = _
  rw [List.drop_zero, List.take_of_length_le (by omega)]
theorem PAt.store {M : Nat} {w : World} {G n j : Nat} {l : List UInt8} {x : Value} (h : PAt M w G n j l) (hj : j < n) (hx : Ob M w x ((gtP l j).drop 4)) : PAt M ((w.setCell ⟨G, j * 2, none⟩ (.int .i64 (gtZ l j : Int))).setCell ⟨G, j * 2 + 1, none⟩ x) G n (j + 1) l := by
  obtain ⟨cs, h1, h2, h3⟩ := h
  have a1 := heap_setCell_same w G (j * 2) cs 94 (.int .i64 (gtZ l j : Int)) h1
  have a2 := heap_setCell_same (w.setCell ⟨G, j * 2, none⟩ (.int .i64 (gtZ l j : Int))) G (j * 2 + 1) _ 94 x a1
  have k : ∀ {y b}, Ob M w y b → Ob M ((w.setCell ⟨G, j * 2, none⟩ (.int .i64 (gtZ l j : Int))).setCell ⟨G, j * 2 + 1, none⟩ x) y b := fun {y b} hy => by
    obtain ⟨q1, q2 | ⟨g, cap, cur, q3, q4, q5, q6⟩⟩ := hy
    · exact ⟨q1, .inl q2⟩
    · have hne : ¬ (g = G) := fun e => by subst e; rw [h1] at q5; simp at q5
      have f : Fr (fun k => k = G) w ((w.setCell ⟨G, j * 2, none⟩ (.int .i64 (gtZ l j : Int))).setCell ⟨G, j * 2 + 1, none⟩ x) := ((Fr.refl (fun k => k = G) w).setCell (p := ⟨G, j * 2, none⟩) (fun _ => rfl) _).setCell (p := ⟨G, j * 2 + 1, none⟩) (fun _ => rfl) _
      exact ⟨q1, .inr ⟨g, cap, cur, q3, q4, (f.block _ (lt_of_heap q5) hne).trans q5, q6⟩⟩
  refine ⟨_, a2, by simpa using h2, fun i hi => ?_⟩
  have s1 : j * 2 < cs.size := by omega
  have s2 : j * 2 + 1 < cs.size := by omega
  by_cases e : i = j
  · subst e
    refine ⟨by simp [Array.getElem?_setIfInBounds, s1], x, by simp [Array.getElem?_setIfInBounds, s2], k hx⟩
  · obtain ⟨h4, y, h5, h6⟩ := h3 i (by omega)
    have n1 : ¬ (j * 2 + 1 = i * 2) := by omega
    have n2 : ¬ (j * 2 = i * 2) := by omega
    have n3 : ¬ (j * 2 + 1 = i * 2 + 1) := by omega
    have n4 : ¬ (j * 2 = i * 2 + 1) := by omega
    exact ⟨by rw [Array.getElem?_setIfInBounds, if_neg n1, Array.getElem?_setIfInBounds, if_neg n2]; exact h4, y, by rw [Array.getElem?_setIfInBounds, if_neg n3, Array.getElem?_setIfInBounds, if_neg n4]; exact h5, k h6⟩
theorem Try.info94 : (Try.prog.info? 94).map (fun i => (i.zero, i.size, i.bytes)) = some (some (.agg #[.int .i64 0, .slice none 0 0]), 2, 32) := by kernel_rfl
theorem run_make28 (n : Nat) (hn : n ≤ 100000) (w : World) : ∃ cs : Array Value, cs.size = n * 2 ∧ (Instr.makeSlice 28 (.int .i64 (n : Int)) (.int .i64 (n : Int))).run Try.prog w = .ok (.slice (some ⟨w.heap.size, 0, none⟩) n n) (w.alloc (.cells cs 94)) := by
  obtain ⟨i, hi, hz0, hz1, hz2⟩ := info_parts Try.info94
  have := run_make (P := Try.prog) w 28 94 i _ Try.underlying28 hi hz0 .i64 .i64 (n : Int) (n : Int) (by omega) (Int.le_refl _) (by rw [hz2]; omega) (by omega)
  rw [hz1, Int.toNat_natCast] at this
  exact ⟨_, by simp [size_madeCells], this⟩
section
variable {ρ : Operand → Value} {o : Oper} {w : World} {x y : Operand}
theorem x_sliceLo {B of n cap lo : Nat} (ho : o.op = .slice 23 x (some y) none none) (hx : ρ x = .slice (some ⟨B, of, none⟩) n cap) (hy : ρ y = .int .i64 (lo : Int)) (h1 : lo ≤ n) (h2 : n ≤ cap) (h4 : lo < cap) : (execOp ρ o).run Try.prog w = .ok (.value (.slice (some ⟨B, of + lo, none⟩) (n - lo) (cap - lo))) w := by
  have e1 : lo ≤ cap := by omega
  have e2 : ¬ cap = lo := by omega
  have e3 : ¬ cap - lo = 0 := by omega
  simp [execOp, ho, hx, hy, go_sem, h1, h2, e1, e2, e3]
theorem x_sliceHi {B of n cap hi : Nat} (ho : o.op = .slice 23 x none (some y) none) (hx : ρ x = .slice (some ⟨B, of, none⟩) n cap) (hy : ρ y = .int .i64 (hi : Int)) (h1 : hi ≤ cap) (h4 : 0 < cap) : (execOp ρ o).run Try.prog w = .ok (.value (.slice (some ⟨B, of, none⟩) hi cap)) w := by
  have e2 : ¬ cap = 0 := by omega
  simp [execOp, ho, hx, hy, go_sem, h1, e2]
end
theorem wl_x {ops : Array Oper} {rest : List Oper} {o : Oper} {a : Act} {w w2 : World} {Q : Exit → Act → World → Prop} {v : Value} (hg : Region.wanted o (yielded ops a.tmps) = true) (h0 : (execOp a.eval o).run Try.prog w = .ok (.value v) w2) (h : wpList Try.prog ops Q rest (a.put o.dst v) w2) : wpList Try.prog ops Q (o :: rest) a w :=
  wpList_want hg fun _ hK => by
    unfold Oper.wp
    rw [h0]
    exact hK _ _ h
set_option maxHeartbeats 8000000 in
set_option maxRecDepth 100000 in
theorem getTx_short (w : World) (v : Value) (l : List UInt8) (h : Rd w v l) (hl : l.length < 4) : Calls Try.prog 25 #[v] w fun e w' => ∃ r c, e = .returned (.tuple #[r, .int .i64 c]) ∧ Gt l w r c w' := by
  obtain ⟨ao, cap, rfl⟩ := h.shape
  clear h
  have HP : Hid (gtB l = false) := hide (by unfold gtB; rw [decide_eq_false (by omega)]; rfl)
  obtain ⟨n, hn⟩ : ∃ n, n = l.length := ⟨_, rfl⟩
  rw [← hn] at hl ⊢
  clear hn
  have d1 : (n : Int) < 4 := by omega
  go_enter Try.func25, Try.ntmps25
  go_wp2_with fail
  go_ret2
  exact ⟨_, _, rfl, Gt.no (unhide HP) (Fr.refl _ _)⟩
set_option maxHeartbeats 8000000 in
set_option maxRecDepth 100000 in
theorem getTx_count (w : World) (v : Value) (l : List UInt8) (h : Rd w v l) (hl : 4 ≤ l.length) (hct : ctB (gtN l : Int) = false) : Calls Try.prog 25 #[v] w fun e w' => ∃ r c, e = .returned (.tuple #[r, .int .i64 c]) ∧ Gt l w r c w' := by
  have HP : Hid (gtB l = false) := hide (by unfold gtB; rw [hct]; simp)
  obtain ⟨ao, cap, rfl⟩ := h.shape
  obtain ⟨B0, o0, rfl, -, hnc, hcm, hcell⟩ := h.lits (by omega)
  have HB0 : Hid (B0 < w.heap.size) := hide (World.block_lt_of_cell? w _ (hcell 0 (by omega)))
  obtain ⟨n, hn⟩ : ∃ n, n = l.length := ⟨_, rfl⟩
  rw [← hn] at h hnc hl ⊢
  have HN := hide hn
  have HH := hide h
  have HT4 := hide (taken4_any w _ ((l.drop 0).take 4) 1 (h.mid2 0 4 (by omega) (by omega) cap (by omega) o0 rfl) (by rw [List.length_take, List.length_drop]; omega) (by omega))
  have HV4 : Hid (tk ((l.drop 0).take 4) 4 1 ((l.drop 0).take 4).length = [gtN l]) := hide (by rw [tk41 (by rw [List.length_take, List.length_drop]; omega)]; unfold gtN; simp)
  have d1 : ¬ ((n : Int) < 4) := by omega
  have d2 : 4 ≤ cap := by omega
  have e2 : IntKind.i64.wrap (gtN l : Int) = (gtN l : Int) := by have := gtN_lt l; simp [IntKind.wrap, IntKind.signed, IntKind.bits]; omega
  have HC := hide hct
  clear h hcell hn hl hcm hct
  go_enter Try.func25, Try.ntmps25
  go_wp2_with (first | (go_at_call 57; refine (unhide HT4).mono ?_; rintro e w2 ⟨B, rfl, hB, f2, hs2⟩; rw [unhide HV4] at hB; have cB := hB.cell 0 (by simp); have F2 := hide f2; clear f2 hs2 hB) | (go_at_call 55; refine (countable_any _ _).mono ?_; rintro e w' ⟨rfl, rfl⟩; rw [unhide HC]))
  go_ret2
  exact ⟨_, _, rfl, Gt.no (unhide HP) (unhide F2)⟩
set_option maxHeartbeats 8000000 in
set_option maxRecDepth 100000 in
theorem getTx_len (w : World) (v : Value) (l : List UInt8) (h : Rd w v l) (hl : 4 ≤ l.length) (hct : ctB (gtN l : Int) = true) (hne : l.length ≠ 4 + gtN l * 388) : Calls Try.prog 25 #[v] w fun e w' => ∃ r c, e = .returned (.tuple #[r, .int .i64 c]) ∧ Gt l w r c w' := by
  have HP : Hid (gtB l = false) := hide (by unfold gtB; rw [decide_eq_false hne]; simp)
  have h64 : gtN l ≤ 64 := by unfold ctB at hct; simp at hct; omega
  have d5 : ¬ ((l.length : Int) = 4 + (gtN l : Int) * 388) := by omega
  have d6 : ((l.length : Int) == 4 + (gtN l : Int) * 388) = false := by simp; omega
  obtain ⟨ao, cap, rfl⟩ := h.shape
  obtain ⟨B0, o0, rfl, -, hnc, hcm, hcell⟩ := h.lits (by omega)
  have HB0 : Hid (B0 < w.heap.size) := hide (World.block_lt_of_cell? w _ (hcell 0 (by omega)))
  obtain ⟨n, hn⟩ : ∃ n, n = l.length := ⟨_, rfl⟩
  rw [← hn] at h hnc hl d5 d6 ⊢
  have HN := hide hn
  have HH := hide h
  have HT4 := hide (taken4_any w _ ((l.drop 0).take 4) 1 (h.mid2 0 4 (by omega) (by omega) cap (by omega) o0 rfl) (by rw [List.length_take, List.length_drop]; omega) (by omega))
  have HV4 : Hid (tk ((l.drop 0).take 4) 4 1 ((l.drop 0).take 4).length = [gtN l]) := hide (by rw [tk41 (by rw [List.length_take, List.length_drop]; omega)]; unfold gtN; simp)
  have d1 : ¬ ((n : Int) < 4) := by omega
  have d2 : 4 ≤ cap := by omega
  have e2 : IntKind.i64.wrap (gtN l : Int) = (gtN l : Int) := by have := gtN_lt l; simp [IntKind.wrap, IntKind.signed, IntKind.bits]; omega
  have HC := hide hct
  clear h hcell hn hl hcm hct
  go_enter Try.func25, Try.ntmps25
  go_wp2_with (first | (go_at_call 57; refine (unhide HT4).mono ?_; rintro e w2 ⟨B, rfl, hB, f2, hs2⟩; rw [unhide HV4] at hB; have cB := hB.cell 0 (by simp); have F2 := hide f2; clear f2 hs2 hB) | (go_at_call 55; refine (countable_any _ _).mono ?_; rintro e w' ⟨rfl, rfl⟩; rw [unhide HC]) | (go_at_call 56; refine (txBytes_any _ _ ⟨by omega, by omega⟩).mono ?_; rintro e w' ⟨rfl, rfl⟩))
  go_ret2
  exact ⟨_, _, rfl, Gt.no (unhide HP) (unhide F2)⟩
end Go.Proofs.Ytgodlfoidjeekaa

namespace Go.Proofs.Ytgodlfoidjeekaa
set_option linter.unusedVariables false
set_option linter.unusedSimpArgs false
open Go.RowKit Go.Lib
set_option linter.unusedVariables false
set_option linter.unusedSimpArgs false

attribute [local go_sem ↓] Go.wp_at_zero Go.wp_at_succ

theorem gtP_length {l : List UInt8} {j m : Nat} (h : l.length = 4 + m * 388) (hj : j < m) : (gtP l j).length = 388 := by
  unfold gtP
  rw [List.length_take, List.length_drop]
  omega
theorem cl4 {w : World} {v : Value} {l : List UInt8} (h : Rd w v ((l.drop 4).take 384)) (hl : l.length = 388) : Rd w v (l.drop 4) := by
  rwa [List.take_of_length_le (by rw [List.length_drop]; omega)] at h
theorem PAt.c0 {M : Nat} {w : World} {G n j : Nat} {l : List UInt8} (h : PAt M w G n j l) (hj : j < n) : w.cell? ⟨G, j * 2, none⟩ = some ((rowD w G).getD (j * 2) undef) := by
  obtain ⟨cs, h1, h2, -⟩ := h
  have h3 : rowD w G = cs := by unfold rowD row?; rw [h1]; rfl
  rw [h3, cell_of_heap h1]
  have : j * 2 < cs.size := by omega
  simp [Array.getD, this]
theorem PAt.c1 {M : Nat} {w : World} {G n j : Nat} {l : List UInt8} (h : PAt M w G n j l) (hj : j < n) : w.cell? ⟨G, j * 2 + 1, none⟩ = some ((rowD w G).getD (j * 2 + 1) undef) := by
  obtain ⟨cs, h1, h2, -⟩ := h
  have h3 : rowD w G = cs := by unfold rowD row?; rw [h1]; rfl
  rw [h3, cell_of_heap h1]
  have : j * 2 + 1 < cs.size := by omega
  simp [Array.getD, this]
theorem PAt.fz {M : Nat} {w : World} {G n j : Nat} {l : List UInt8} (h : PAt M w G n j l) (i : Nat) : w.frozen? ⟨G, i, none⟩ = false := by
  obtain ⟨cs, h1, h2, -⟩ := h
  exact frozen_of_heap h1 i
theorem gtB_of {l : List UInt8} (h1 : ctB (gtN l : Int) = true) (h2 : l.length = 4 + gtN l * 388) (h3 : ∀ i, i < gtN l → gtZ l i ≤ 2147483647) : gtB l = true := by
  unfold gtB
  rw [h1, decide_eq_true h2, decide_eq_true (by omega)]
  simpa using h3
theorem gtB_bad {l : List UInt8} {j : Nat} (hj : j < gtN l) (h : ¬ gtZ l j ≤ 2147483647) : gtB l = false := by
  have : ((List.range (gtN l)).all fun i => decide (gtZ l i ≤ 2147483647)) = false := by
    rw [List.all_eq_false]
    exact ⟨j, by simpa using hj, by simpa using h⟩
  unfold gtB
  rw [this, Bool.and_false]
set_option maxHeartbeats 8000000 in
set_option maxRecDepth 100000 in
theorem getTx_loop (w : World) (v : Value) (l : List UInt8) (h : Rd w v l) (hct : ctB (gtN l : Int) = true) (hln : l.length = 4 + gtN l * 388) : Calls Try.prog 25 #[v] w fun e w' => ∃ r c, e = .returned (.tuple #[r, .int .i64 c]) ∧ Gt l w r c w' := by
  have hl : 4 ≤ l.length := by omega
  have h64 : gtN l ≤ 64 := by unfold ctB at hct; simp at hct; omega
  have HLN := hide hln
  have HCT := hide hct
  obtain ⟨ao, cap, rfl⟩ := h.shape
  obtain ⟨B0, o0, rfl, -, hnc, hcm, hcell⟩ := h.lits (by omega)
  have HB0 : Hid (B0 < w.heap.size) := hide (World.block_lt_of_cell? w _ (hcell 0 (by omega)))
  obtain ⟨n, hn⟩ : ∃ n, n = l.length := ⟨_, rfl⟩
  rw [← hn] at h hnc hl ⊢
  have HN := hide hn
  have HH := hide h
  have HT4 := hide (taken4_any w _ ((l.drop 0).take 4) 1 (h.mid2 0 4 (by omega) (by omega) cap (by omega) o0 rfl) (by rw [List.length_take, List.length_drop]; omega) (by omega))
  have HV4 : Hid (tk ((l.drop 0).take 4) 4 1 ((l.drop 0).take 4).length = [gtN l]) := hide (by rw [tk41 (by rw [List.length_take, List.length_drop]; omega)]; unfold gtN; simp)
  have d1 : ¬ ((n : Int) < 4) := by omega
  have d2 : 4 ≤ cap := by omega
  have e2 : IntKind.i64.wrap (gtN l : Int) = (gtN l : Int) := by have := gtN_lt l; simp [IntKind.wrap, IntKind.signed, IntKind.bits]; omega
  have HC := hide hct
  clear h hcell hn hl hcm hct
  have hnm : n = 4 + gtN l * 388 := by rw [unhide HN]; exact unhide HLN
  have HCM := hide hnc
  obtain ⟨m, hm⟩ : ∃ m, m = gtN l := ⟨_, rfl⟩
  rw [← hm] at HV4 HC e2 h64 hnm
  have HM := hide hm
  have d5 : (n : Int) = 4 + (m : Int) * 388 := by omega
  clear hm
  go_enter Try.func25, Try.ntmps25
  go_wp2_with (first | (go_at_call 57; refine (unhide HT4).mono ?_; rintro e w2 ⟨B, rfl, hB, f2, hs2⟩; rw [unhide HV4] at hB; have cB := hB.cell 0 (by simp); obtain ⟨cs, hcs, kmk⟩ := run_make28 m (by omega) w2; obtain ⟨W3, hW3⟩ : ∃ W3, W3 = w2.alloc (.cells cs 94) := ⟨_, rfl⟩; obtain ⟨G, hG⟩ : ∃ G, G = w2.heap.size := ⟨_, rfl⟩; rw [← hW3, ← hG] at kmk; have HPA : Hid (PAt w.heap.size W3 G m 0 l) := hide ⟨cs, by rw [hW3, hG]; exact heap_alloc_new w2 _, hcs, fun i hi => by omega⟩; have F3 : Hid (Fr (fun _ => False) w W3) := hide (by rw [hW3]; exact f2.alloc _); have HG : Hid (w.heap.size ≤ G) := hide (by rw [hG]; exact f2.size); clear f2 hs2 hB hW3 hG hcs) | (go_at_call 55; refine (countable_any _ _).mono ?_; rintro e w' ⟨rfl, rfl⟩; rw [unhide HC]) | (go_at_call 56; refine (txBytes_any _ _ ⟨by omega, by omega⟩).mono ?_; rintro e w' ⟨rfl, rfl⟩))
  go_loopw [6, 7, 8, 32] (fun _ _ _ y W => ∃ (j : Nat), j ≤ m ∧ y = .int .i64 (j : Int) ∧ PAt w.heap.size W G m j l ∧ Fr (fun _ => False) w W ∧ ∀ i, i < j → gtZ l i ≤ 2147483647) (fun _ _ _ y _ => m - (intOf y).toNat)
  case atStart => exact ⟨0, by omega, rfl, unhide HPA, unhide F3, fun i hi => by omega⟩
  case round =>
    clear HPA F3
    obtain ⟨j, hj, rfl, hpa, hf, hall⟩ := hrel
    by_cases hlt : j < m
    · have hll := unhide HLN
      rw [← unhide HM] at hll
      have hpl := gtP_length hll hlt
      have hr := ((unhide HH).kept hf (fun _ _ h => h)).mid2 (4 + j * 388) 388 (by omega) (by omega) (cap - (4 + j * 388)) rfl (o0 + (4 + j * 388)) rfl
      have hr2 : Rd wr (.slice (some ⟨B0, o0 + (4 + j * 388), none⟩) 388 (cap - (4 + j * 388))) (gtP l j) := hr
      have q1 : 4 + j * 388 ≤ n := by omega
      have q2 : 4 + j * 388 < cap := by omega
      have q3 : 388 ≤ cap - (4 + j * 388) := by omega
      have q4 : 0 < cap - (4 + j * 388) := by omega
      have hy1 : Value.int .i64 (4 + (j : Int) * 388) = .int .i64 ((4 + j * 388 : Nat) : Int) := congrArg _ (by omega)
      have HJ := hide (And.intro q1 (And.intro q2 (And.intro q3 q4)))
      have HY := hide hy1
      clear hy1 q1 q2 q3 q4 hr hll
      have HT5 := hide (taken4_any wr _ ((List.drop 0 (gtP l j)).take 4) 1 (hr2.mid2 0 4 (by omega) (by omega) _ rfl (o0 + (4 + j * 388)) rfl) (by rw [List.length_take, List.length_drop]; omega) (by omega))
      rw [Nat.sub_zero] at HT5
      have HV5 : Hid (tk ((List.drop 0 (gtP l j)).take 4) 4 1 ((List.drop 0 (gtP l j)).take 4).length = [gtZ l j]) := hide (by rw [tk41 (by rw [List.length_take, List.length_drop]; omega)]; unfold gtZ; simp)
      have e5 : IntKind.i64.wrap (gtZ l j : Int) = (gtZ l j : Int) := by have := gtZ_lt l j; simp [IntKind.wrap, IntKind.signed, IntKind.bits]; omega
      have HR2 := hide hr2
      have HPL := hide hpl
      have HPA := hide hpa
      have HF := hide hf
      have HALL := hide hall
      have HJM : Hid (j < gtN l) := hide (by rw [← unhide HM]; exact hlt)
      clear hr2 hpl hpa hf hall
      go_upto_region 11 with (first | (refine wl_x rfl (x_sliceLo (x := .tmp 35) (y := .tmp 38) (B := B0) («of» := o0) (n := n) (cap := cap) (lo := 4 + j * 388) rfl rfl (unhide HY) (unhide HJ).1 (unhide HCM) (unhide HJ).2.1) ?_) | (refine wl_x rfl (x_sliceHi (x := .tmp 39) (y := .const (.int .i64 388)) (B := B0) (hi := 388) rfl rfl rfl (unhide HJ).2.2.1 (unhide HJ).2.2.2) ?_))
      have c4 : 4 ≤ cap - (4 + j * 388) := by have := (unhide HJ).2.2.1; omega
      have c5 : 388 ≤ cap - (4 + j * 388) := (unhide HJ).2.2.1
      generalize o0 + (4 + j * 388) = o1 at *
      generalize cap - (4 + j * 388) = c1 at *
      by_cases hz : gtZ l j ≤ 2147483647
      · have d7 : ¬ ((2147483647 : Int) < (gtZ l j : Int)) := by omega
        have HZ := hide hz
        clear hz
        go_wp2_with (first | (go_at_call 57; refine (unhide HT5).mono ?_; rintro e w5 ⟨B5, rfl, hB5, f5, hs5⟩; rw [unhide HV5] at hB5; have cB5 := hB5.cell 0 (by simp); have F5 := hide ((unhide HF).trans f5 (fun _ _ h => h)); have PA5 := hide ((unhide HPA).kept f5); have HCL := hide (cl4 (((unhide HR2).kept f5 (fun _ _ h => h)).mid2 4 384 (by have := unhide HPL; omega) (by have := unhide HPL; omega) _ rfl (o1 + 4) rfl) (unhide HPL)); clear f5 hs5 hB5) | (go_at_call 58; refine (clone_any w5 _ ((gtP l j).drop 4) (unhide HCL) (by rw [List.length_drop, unhide HPL]; omega)).mono ?_; rintro e w6 ⟨v6, rfl, hv6⟩; have HO6 := hide (Ob.of_nb hv6 (unhide F5).size); have F6 := hide ((unhide F5).trans hv6.fr (fun _ _ h => h)); have PA6 := hide ((unhide PA5).kept hv6.fr); obtain ⟨ao6, k6, rfl⟩ := hv6.shape; rw [List.length_drop] at HO6; have g0 := PAt.c0 (unhide PA6) hlt; have g1 := PAt.c1 (unhide PA6) hlt; have z0 := PAt.fz (unhide PA6) (j * 2); have z1 := PAt.fz (unhide PA6) (j * 2 + 1); clear hv6))
        go_roundw
        case rel =>
          refine ⟨j + 1, by omega, by go_num, PAt.store (unhide PA6) hlt (unhide HO6), ((unhide F6).setCell (fun h => by have := unhide HG; simp at h; omega) _).setCell (fun h => by have := unhide HG; simp at h; omega) _, fun i hi => ?_⟩
          by_cases e : i = j
          · subst e; exact unhide HZ
          · exact unhide HALL i (by omega)
        case measure => simp [intOf]; omega
      · have d7 : (2147483647 : Int) < (gtZ l j : Int) := by omega
        have HZ := hide (gtB_bad (unhide HJM) hz)
        clear hz
        go_wp2_with (go_at_call 57; refine (unhide HT5).mono ?_; rintro e w5 ⟨B5, rfl, hB5, f5, hs5⟩; rw [unhide HV5] at hB5; have cB5 := hB5.cell 0 (by simp); have F5 := hide ((unhide HF).trans f5 (fun _ _ h => h)); have PA5 := hide ((unhide HPA).kept f5); have HCL := hide (cl4 (((unhide HR2).kept f5 (fun _ _ h => h)).mid2 4 384 (by have := unhide HPL; omega) (by have := unhide HPL; omega) _ rfl (o1 + 4) rfl) (unhide HPL)); clear f5 hs5 hB5)
        go_ret2
        exact ⟨_, _, rfl, Gt.no (unhide HZ) (unhide F5)⟩
    · obtain rfl : m = j := by omega
      have HPA := hide hpa
      have HF := hide hf
      have HALL := hide hall
      clear hpa hf hall
      go_wp2_with fail
      go_ret2
      refine ⟨_, _, rfl, ?_⟩
      have e := unhide HM
      have hpa := unhide HPA
      have hall := unhide HALL
      rw [e] at hpa hall ⊢
      exact Gt.ok (gtB_of (unhide HCT) (unhide HLN) hall) (unhide HG) hpa (unhide HF)
end Go.Proofs.Ytgodlfoidjeekaa

namespace Go.Proofs.Ytgodlfoidjeekaa
set_option linter.unusedVariables false
set_option linter.unusedSimpArgs false
open Go.RowKit
set_option linter.unusedVariables false
set_option linter.unusedSimpArgs false

attribute [local go_sem ↓] Go.wp_at_zero Go.wp_at_succ

theorem getTx_any (w : World) (v : Value) (l : List UInt8) (h : Rd w v l) : Calls Try.prog 25 #[v] w fun e w' => ∃ r c, e = .returned (.tuple #[r, .int .i64 c]) ∧ Gt l w r c w' := by
  by_cases h1 : l.length < 4
  · exact getTx_short w v l h h1
  · rcases h2 : ctB (gtN l : Int) with _ | _
    · exact getTx_count w v l h (by omega) h2
    · by_cases h3 : l.length = 4 + gtN l * 388
      · exact getTx_loop w v l h h2 h3
      · exact getTx_len w v l h (by omega) h2 h3
theorem ld113 : ∀ W a u, World.cell? W a = some u → (Instr.loadAt 113 (.pointer (some a))).run Try.prog W = .ok u W := by intro W a u h; simp [go_sem, h]
theorem Try.info130 : (Try.prog.info? 130).map (fun i => (i.size, i.bytes)) = some (3, 24) := by kernel_rfl
theorem Try.zero130 : ((Try.prog.info? 130).bind (fun i => i.zero)).map (fun z => z.cells.toList) = some [Value.int .u64 0, Value.int .u64 0, Value.int .u64 0] := by kernel_rfl
theorem Try.u113 : Try.prog.underlying 113 = some (.slice 130) := by kernel_rfl
section
variable {ρ : Operand → Value} {o : Oper} {w : World} {x y z : Operand}
theorem x_build130 {a b c : Int} (ho : o.op = .build 130 #[(0, x), (1, y), (2, z)]) (hx : ρ x = .int .u64 a) (hy : ρ y = .int .u64 b) (hz : ρ z = .int .u64 c) : (execOp ρ o).run Try.prog w = .ok (.value (.agg #[.int .u64 a, .int .u64 b, .int .u64 c])) w := by
  simp [execOp, ho, hx, hy, hz, go_sem]
theorem x_bs113 {a b c : Int} (ho : o.op = .buildSlice 113 1 #[(0, x)]) (hx : ρ x = .agg #[.int .u64 a, .int .u64 b, .int .u64 c]) : (execOp ρ o).run Try.prog w = .ok (.value (.slice (some ⟨w.heap.size, 0, none⟩) 1 1)) (w.alloc (.cells #[.int .u64 a, .int .u64 b, .int .u64 c] 130)) := by
  simp [execOp, ho, hx, go_sem]
theorem x_app113 {a b v : Value} {w2 : World} (ho : o.op = .call { callee := .builtin .append, args := #[x, y], argTypes := #[113, 113] }) (hty : o.type = 113) (hx : ρ x = a) (hy : ρ y = b) (hr : (Builtin.append_ #[113, 113] 113 #[a, b]).run Try.prog w = .ok v w2) : (execOp ρ o).run Try.prog w = .ok (.value v) w2 := by
  simp only [execOp, ho, hty, resolve, invoke, builtin, Sem.run_bind, Sem.run_pure, Result.andThen_ok, List.map_toArray, List.map_cons, List.map_nil, hx, hy, hr]
end
theorem sto113 {ao : Option Addr} {n c : Nat} : ∀ W (u : Value) a, World.frozen? W a = false → World.cell? W a = some u → (Instr.storeAt 113 (.pointer (some a)) (.slice ao n c)).run Try.prog W = .ok () (W.setCell a (.slice ao n c)) := by
  intro W u a hz hc
  simp [go_sem, hz, hc]
theorem mF_more (L : List Mk) (m : Mk) : mF (L ++ [m]) = mF L ++ [.int .u64 (m.e : Int), .int .u64 (m.b : Int), .int .u64 (m.s : Int)] := by simp [mF, mC]
/-- A transaction more. -/
def Jn.more (J : Jn) (m : Mk) : Jn := { J with live := J.live ++ [m] }
theorem JAt.stm {w w1 : World} {j s : Nat} {mv mv' : Value} {J : Jn} {m : Mk} (h : JAt w j s mv J) (f : Fr (fun k => mv.ownBlock = some k) w w1) (ho : w1.ownsRow 0 130 3 mv' (J.live.length + 1) (mF (J.live ++ [m]))) (hb : ∀ b, mv'.ownBlock = some b → mv.ownBlock = some b ∨ w.heap.size ≤ b) : JAt (w1.setCell ⟨j, 9, none⟩ mv') j s mv' (J.more m) ∧ Fr (JB j mv) w (w1.setCell ⟨j, 9, none⟩ mv') := by
  have hs1 : w1.heap[j]? = _ := (f.block j (lt_of_heap h.heap) (fun e => h.ne j e rfl)).trans h.heap
  have fs : Fr (fun k => k = j) w1 (w1.setCell ⟨j, 9, none⟩ mv') := (Fr.refl (fun k => k = j) w1).setCell (p := ⟨j, 9, none⟩) (fun _ => rfl) _
  have hsl := lt_of_heap h.heap
  refine ⟨⟨?_, ?_⟩, (f.mono (fun _ _ e => .inr e)).trans fs (fun _ _ e => .inl e)⟩
  · rw [heap_setCell_same w1 j 9 _ 115 _ hs1]; rfl
  · have e2 : (J.more m).live.length = J.live.length + 1 := by simp [Jn.more]
    rw [e2]
    exact owns_kept ho fs (fun b hb1 e => by
      have e' : b = j := e
      subst e'
      rcases hb b hb1 with e | e
      · exact h.ne b e rfl
      · omega)
theorem last_more (J : Jn) (m : Mk) : (J.more m).last = m := by simp [Jn.last, Jn.more]
theorem rise_more (L : List Mk) : ∀ p m, rise p L → (L.getLast?.map Mk.e).getD p < m.e → rise p (L ++ [m]) := by
  induction L with
  | nil => intro p m _ h; exact ⟨by simpa using h, trivial⟩
  | cons a r ih =>
    intro p m h hl
    obtain ⟨h1, h2⟩ := h
    refine ⟨h1, ih a.e m h2 ?_⟩
    cases r with
    | nil => simpa using hl
    | cons c r =>
      rw [List.getLast?_cons_cons] at hl
      cases e : (c :: r).getLast? with
      | none => simp at e
      | some x => rw [e] at hl; simpa using hl
theorem Jn.Ok.more {J : Jn} {n : Nat} (h : J.Ok n) (m : Mk) (h1 : J.nd < m.e) (h2 : m.e ≤ J.sup.p + J.ring) (h3 : m.b ≤ 4611686018427387904) (h4 : m.s ≤ 4611686018427387904) : (J.more m).Ok n := by
  have hp := h.place
  have hs := h.sup.2.2.1
  refine ⟨h.place, h.ring, h.sup, fun x hx => ?_, ?_, ?_, h.serial, h.synced⟩
  · rcases List.mem_append.1 hx with e | e
    · exact h.marks x e
    · simp at e; subst e; exact ⟨by omega, h3, h4⟩
  · refine rise_more _ _ _ h.up ?_
    show (Option.map Mk.e J.live.getLast?).getD J.sup.p < m.e
    unfold Jn.nd Jn.last at h1
    cases e : J.live.getLast? with
    | none => rw [e] at h1; simpa using h1
    | some x => rw [e] at h1; simpa using h1
  · unfold Jn.nd; rw [last_more]; exact h2
set_option maxHeartbeats 4000000 in
set_option maxRecDepth 100000 in
theorem gt15 {W : World} {j s n q mc : Nat} {mo : Option Addr} {u : Value} {J : Jn} {E : En} {u1 u2 u3 u5 u6 u7 u8 u9 u10 u11 u12 u13 u14 u15 u16 u17 u18 u19 u20 u21 u22 u23 u24 u25 u26 u27 u28 u29 u30 u31 u32 u33 u34 u35 u36 u37 u38 u39 u40 u41 u42 u43 u44 u45 u46 u47 u48 u49 u50 u51 u52 u53 u54 u55 u56 u57 u58 u59 u60 u61 u62 u63 u64 u65 u66 u67 u68 u69 u70 u71 u72 u73 u74 u75 u76 u77 u78 u79 u80 u81 u82 u83 u84 u85 u86 : Value} {Q : Exit → Act → World → Prop} (h : JAt W j s (.slice mo J.live.length mc) J) (ho : J.Ok n) (he : W.heap[q]? = some (.cells (E.c u) 25 (0, 0))) (hp : E.ps ≤ 100)
    (hQ : ∀ (y66 y67 y68 y69 y70 y71 y72 y73 y74 y75 y76 y77 y78 y79 y80 y81 y82 y83 y84 y85 : Value) (W' : World), (∃ mv', JAt W' j s mv' (J.more ⟨J.nd + E.ps, E.b, E.s⟩) ∧ Fr (JB j (.slice mo J.live.length mc)) W W' ∧ ∀ b, mv'.ownBlock = some b → (Value.slice mo J.live.length mc).ownBlock = some b ∨ W.heap.size ≤ b) → Q .normal ⟨#[.pointer (some ⟨j, 0, none⟩), u1, u2, u3, .pointer (some ⟨q, 0, none⟩), u5, u6, u7, u8, u9, u10, u11, u12, u13, u14, u15, u16, u17, u18, u19, u20, u21, u22, u23, u24, u25, u26, u27, u28, u29, u30, u31, u32, u33, u34, u35, u36, u37, u38, u39, u40, u41, u42, u43, u44, u45, u46, u47, u48, u49, u50, u51, u52, u53, u54, u55, u56, u57, u58, u59, u60, u61, u62, u63, u64, u65, y66, y67, y68, y69, y70, y71, y72, y73, y74, y75, y76, y77, y78, y79, y80, y81, y82, y83, y84, y85, u86], []⟩ W') : (rgF Try.f90 15).wp Try.prog Q ⟨#[.pointer (some ⟨j, 0, none⟩), u1, u2, u3, .pointer (some ⟨q, 0, none⟩), u5, u6, u7, u8, u9, u10, u11, u12, u13, u14, u15, u16, u17, u18, u19, u20, u21, u22, u23, u24, u25, u26, u27, u28, u29, u30, u31, u32, u33, u34, u35, u36, u37, u38, u39, u40, u41, u42, u43, u44, u45, u46, u47, u48, u49, u50, u51, u52, u53, u54, u55, u56, u57, u58, u59, u60, u61, u62, u63, u64, u65, u66, u67, u68, u69, u70, u71, u72, u73, u74, u75, u76, u77, u78, u79, u80, u81, u82, u83, u84, u85, u86], []⟩ W := by
  have HQ := hide hQ
  clear hQ
  have HH := hide h
  have HO := hide ho
  have HE := hide he
  have HP := hide hp
  have HA : Hid (IntKind.u64.wrap ((J.nd : Int) + (E.ps : Int)) = ((J.nd + E.ps : Nat) : Int)) := hide (by
    have h1 := ho.nd.2.2.1
    have := wrapU (J.nd + E.ps) (by omega)
    exact_mod_cast this)
  clear h ho he hp
  conv => arg 2; whnf
  refine wp_nameK ?_
  intro a0 hA
  have h0 : a0.tmps.getD 0 undef = .pointer (some ⟨j, 0, none⟩) := by rw [hA]; rfl
  have h4 : a0.tmps.getD 4 undef = .pointer (some ⟨q, 0, none⟩) := by rw [hA]; rfl
  have hsz : a0.tmps.size = 87 := by rw [hA]; rfl
  have hdf : a0.defers = [] := by rw [hA]
  have HA0 := hide hA
  clear hA
  refine wp_region_kinds (fun k => JB j (.slice mo J.live.length mc) k) (by kernel_rfl) (by kernel_rfl) (by decide +kernel) (by rw [hsz]; decide +kernel) [.eq (.pointer (some ⟨j, 0, none⟩)), .eq (.pointer (some ⟨j, 0, none⟩)), .eq (.pointer (some ⟨j, 0, none⟩)), .eq (.pointer (some ⟨j, 9, none⟩)), .eq (.slice mo J.live.length mc), .eq (.pointer (some ⟨j, 0, none⟩)), .eq (.int .u64 (J.nd : Int)), .eq (.pointer (some ⟨q, 5, none⟩)), .eq (.int .i64 (E.ps : Int)), .eq (.int .u64 (E.ps : Int)), .eq (.int .u64 (((J.nd + E.ps : Nat) : Int) : Int)), .eq (.pointer (some ⟨q, 0, none⟩)), .eq (.int .u64 (E.b : Int)), .eq (.pointer (some ⟨q, 1, none⟩)), .eq (.int .u64 (E.s : Int)), .eq (.agg #[.int .u64 (((J.nd + E.ps : Nat) : Int) : Int), .int .u64 (E.b : Int), .int .u64 (E.s : Int)]), .st 0 (fun v w => ∃ b, v = .slice (some ⟨b, 0, none⟩) 1 1 ∧ w.heap[b]? = some (.cells #[.int .u64 (((J.nd + E.ps : Nat) : Int) : Int), .int .u64 (E.b : Int), .int .u64 (E.s : Int)] 130 (0, 0))) (fun v w1 w2 h f => by obtain ⟨b, e, h⟩ := h; exact ⟨b, e, (f.block b (lt_of_heap h) id).trans h⟩), .st 1 (fun v w => ∃ ao c, v = .slice ao (J.live.length + 1) c ∧ w.ownsRow 0 130 3 v (J.live.length + 1) (mF (J.live ++ [⟨J.nd + E.ps, E.b, E.s⟩])) ∧ Fr (fun k => (Value.slice mo J.live.length mc).ownBlock = some k) W w ∧ ∀ b, v.ownBlock = some b → (Value.slice mo J.live.length mc).ownBlock = some b ∨ W.heap.size ≤ b) (fun v w1 w2 h f => by obtain ⟨ao, c, e, h1, h2, h3⟩ := h; exact ⟨ao, c, e, owns_kept h1 f (fun _ _ e => e), h2.trans f (fun _ _ e => e.elim), h3⟩), .eq (.pointer (some ⟨j, 0, none⟩)), .eq (.pointer (some ⟨j, 9, none⟩)), .any] [17, 20] (by decide) (by decide) (chain_paths _ [[17]] (by kernel_rfl)) (fun k w => match k with | 0 => Fr (fun _ => False) W w | 1 => True | _ => ∃ mv', JAt w j s mv' (J.more ⟨J.nd + E.ps, E.b, E.s⟩) ∧ Fr (JB j (.slice mo J.live.length mc)) W w ∧ ∀ b, mv'.ownBlock = some b → (Value.slice mo J.live.length mc).ownBlock = some b ∨ W.heap.size ≤ b) (Fr.refl _ _).drew ?steps ?done
  case steps =>
    refine ⟨?_, ?_⟩
    · intro a' w' k' hb hf hs hc hq hg hd
      exact ⟨wantedN rfl, k_val (.pointer (some ⟨j, 0, none⟩)) (by decide) hs (x_move rfl ((hb.old 0 (by decide +kernel)).trans h0)) rfl⟩
    refine ⟨?_, ?_⟩
    · intro a' w' k' hb hf hs hc hq hg hd
      exact ⟨wantedN rfl, k_val (.pointer (some ⟨j, 0, none⟩)) (by decide) hs (x_move rfl ((hb.old 0 (by decide +kernel)).trans h0)) rfl⟩
    refine ⟨?_, ?_⟩
    · intro a' w' k' hb hf hs hc hq hg hd
      exact ⟨wantedN rfl, k_val (.pointer (some ⟨j, 0, none⟩)) (by decide) hs (x_nilCheck rfl (hd 1 (by kernel_rfl) 67 rfl)) rfl⟩
    refine ⟨?_, ?_⟩
    · intro a' w' k' hb hf hs hc hq hg hd
      exact ⟨wantedN rfl, k_val (.pointer (some ⟨j, 9, none⟩)) (by decide) hs (x_field (of := 0) (off := 9) (fa115_4 j 0) rfl (hd 2 (by kernel_rfl) 68 rfl)) rfl⟩
    refine ⟨?_, ?_⟩
    · intro a' w' k' hb hf hs hc hq hg hd
      obtain rfl : k' = 0 := Nat.le_zero.1 (hq 0 17 rfl (waits (by kernel_rfl))); exact ⟨wantedN rfl, k_val (.slice mo J.live.length mc) (by decide) hs (x_load1 ld113 rfl (hd 3 (by kernel_rfl) 69 rfl) (by have := cell_of_heap ((unhide HH).kept0 hs).heap 9; simpa using this)) rfl⟩
    refine ⟨?_, ?_⟩
    · intro a' w' k' hb hf hs hc hq hg hd
      exact ⟨wantedN rfl, k_val (.pointer (some ⟨j, 0, none⟩)) (by decide) hs (x_move rfl ((hb.old 0 (by decide +kernel)).trans h0)) rfl⟩
    refine ⟨?_, ?_⟩
    · intro a' w' k' hb hf hs hc hq hg hd
      obtain rfl : k' = 0 := Nat.le_zero.1 (hq 0 17 rfl (waits (by kernel_rfl))); exact ⟨wantedN rfl, k_call 74 _ (by decide) (e_call1 rfl rfl (hd 5 (by kernel_rfl) 71 rfl) (fun _ _ => by simp [go_sem])) ((end_any w' j s (.slice mo J.live.length mc) J ((unhide HH).kept0 hs) (unhide HO).nd.2.1).mono (by rintro e w9 ⟨rfl, f9⟩; exact ⟨_, rfl, rfl, f9, Fr.trans hs f9 (fun _ _ e => e)⟩))⟩
    refine ⟨?_, ?_⟩
    · intro a' w' k' hb hf hs hc hq hg hd
      exact ⟨wantedN rfl, k_val (.pointer (some ⟨q, 5, none⟩)) (by decide) hs (x_field (of := 0) (off := 5) (fa25_5 q 0) rfl ((hb.old 4 (by decide +kernel)).trans h4)) rfl⟩
    refine ⟨?_, ?_⟩
    · intro a' w' k' hb hf hs hc hq hg hd
      obtain rfl : k' = 0 := Nat.le_zero.1 (hq 0 17 rfl (waits (by kernel_rfl))); exact ⟨wantedN rfl, k_val (.int .i64 (E.ps : Int)) (by decide) hs (x_load1 ld3 rfl (hd 7 (by kernel_rfl) 73 rfl) (((Fr.cell hs (a := ⟨q, 5, none⟩) (lt_of_heap (unhide HE)) id)).trans (by have := cell_of_heap (unhide HE) 5; simpa [En.c] using this))) rfl⟩
    refine ⟨?_, ?_⟩
    · intro a' w' k' hb hf hs hc hq hg hd
      exact ⟨wantedN rfl, k_val _ (by decide) hs (x_conv rfl (hd 8 (by kernel_rfl) 74 rfl) (cvI _ E.ps (by have := unhide HP; omega))) rfl⟩
    refine ⟨?_, ?_⟩
    · intro a' w' k' hb hf hs hc hq hg hd
      exact ⟨wantedN rfl, k_val _ (by decide) hs (x_addU rfl (hd 6 (by kernel_rfl) 72 rfl) (hd 9 (by kernel_rfl) 75 rfl) (unhide HA)) rfl⟩
    refine ⟨?_, ?_⟩
    · intro a' w' k' hb hf hs hc hq hg hd
      exact ⟨wantedN rfl, k_val (.pointer (some ⟨q, 0, none⟩)) (by decide) hs (x_field (of := 0) (off := 0) (fa25_0 q 0) rfl ((hb.old 4 (by decide +kernel)).trans h4)) rfl⟩
    refine ⟨?_, ?_⟩
    · intro a' w' k' hb hf hs hc hq hg hd
      obtain rfl : k' = 0 := Nat.le_zero.1 (hq 0 17 rfl (waits (by kernel_rfl))); exact ⟨wantedN rfl, k_val (.int .u64 (E.b : Int)) (by decide) hs (x_load1 ldU rfl (hd 11 (by kernel_rfl) 77 rfl) (((Fr.cell hs (a := ⟨q, 0, none⟩) (lt_of_heap (unhide HE)) id)).trans (by have := cell_of_heap (unhide HE) 0; simpa [En.c] using this))) rfl⟩
    refine ⟨?_, ?_⟩
    · intro a' w' k' hb hf hs hc hq hg hd
      exact ⟨wantedN rfl, k_val (.pointer (some ⟨q, 1, none⟩)) (by decide) hs (x_field (of := 0) (off := 1) (fa25_1 q 0) rfl ((hb.old 4 (by decide +kernel)).trans h4)) rfl⟩
    refine ⟨?_, ?_⟩
    · intro a' w' k' hb hf hs hc hq hg hd
      obtain rfl : k' = 0 := Nat.le_zero.1 (hq 0 17 rfl (waits (by kernel_rfl))); exact ⟨wantedN rfl, k_val (.int .u64 (E.s : Int)) (by decide) hs (x_load1 ldU rfl (hd 13 (by kernel_rfl) 79 rfl) (((Fr.cell hs (a := ⟨q, 1, none⟩) (lt_of_heap (unhide HE)) id)).trans (by have := cell_of_heap (unhide HE) 1; simpa [En.c] using this))) rfl⟩
    refine ⟨?_, ?_⟩
    · intro a' w' k' hb hf hs hc hq hg hd
      exact ⟨wantedN rfl, k_val _ (by decide) hs (x_build130 rfl (hd 10 (by kernel_rfl) 76 rfl) (hd 12 (by kernel_rfl) 78 rfl) (hd 14 (by kernel_rfl) 80 rfl)) rfl⟩
    refine ⟨?_, ?_⟩
    · intro a' w' k' hb hf hs hc hq hg hd
      obtain rfl : k' = 0 := Nat.le_zero.1 (hq 0 17 rfl (waits (by kernel_rfl))); exact ⟨wantedN rfl, k_new _ _ (by decide) (Fr.trans hs ((Fr.refl _ _).alloc _) (fun _ _ e => e)) ((Fr.refl _ _).alloc _) (x_bs113 rfl (hd 15 (by kernel_rfl) 81 rfl)) ⟨Nat.le_refl _, fun _ => ⟨_, rfl, heap_alloc_new w' _⟩⟩⟩
    refine ⟨?_, ?_⟩
    · intro a' w' k' hb hf hs hc hq hg hd
      obtain rfl := hc 0 rfl
      obtain ⟨-, h9⟩ := (hd 16 (by kernel_rfl) 82 rfl)
      obtain ⟨b9, e9, h9⟩ := h9 rfl
      have hs' : Fr (fun _ => False) W w' := hs
      have hD' := (unhide HH).kept0 hs'
      obtain ⟨inf, zv, hi0, hz0, hz1, hz2, hz3⟩ := info_zero Try.info130 Try.zero130
      have hzs : zv.cells.size = 3 := by rw [← Array.length_toList, hz3]; rfl
      have hsr : Sr w' 3 (.slice (some ⟨b9, 0, none⟩) 1 1) 1 [.int .u64 (((J.nd + E.ps : Nat) : Int) : Int), .int .u64 (E.b : Int), .int .u64 (E.s : Int)] := .inr ⟨_, _, rfl, rfl, fun j u hu => by
        rw [Addr.add_lit, Nat.zero_add, cell_of_heap h9]
        simpa using hu⟩
      have hl9 := (unhide HO).nd.2.1
      obtain ⟨v2, w2, hr2, ho2, hg2, hn2⟩ := run_app (P := Try.prog) w' 113 113 130 inf zv 3 24 Try.u113 hi0 hz0 hz1 hz2 hzs (by decide) (.slice mo J.live.length mc) J.live.length _ hD'.mks _ 1 _ hsr (fun u hu => by simp at hu; rcases hu with rfl | rfl | rfl <;> rfl) (by omega) (by simp only [maxLen]; omega)
      obtain ⟨ao2, c2, rfl⟩ := owns_shape ho2
      have fg : Fr (fun k => (Value.slice mo J.live.length mc).ownBlock = some k) W w2 := (hs'.mono (fun _ _ h => h.elim)).grown hg2 (fun k _ e => e)
      exact ⟨wantedN rfl, k_chain _ w2 (by decide) trivial ((Fr.refl _ _).grown hg2 (fun k _ e => .inr e)) (x_app113 rfl rfl (hd 4 (by kernel_rfl) 70 rfl) e9 hr2) ⟨Nat.le_refl _, fun _ => ⟨_, _, rfl, by rw [mF_more]; exact ho2, fg, fun b hb => by
        rcases hn2 with e | e
        · rw [e] at hb; exact .inl hb
        · rw [e] at hb; simp at hb; have := hs'.size; right; omega⟩⟩⟩
    refine ⟨?_, ?_⟩
    · intro a' w' k' hb hf hs hc hq hg hd
      exact ⟨wantedN rfl, k_val (.pointer (some ⟨j, 0, none⟩)) (by decide) hs (x_nilCheck rfl (hd 0 (by kernel_rfl) 66 rfl)) rfl⟩
    refine ⟨?_, ?_⟩
    · intro a' w' k' hb hf hs hc hq hg hd
      exact ⟨wantedN rfl, k_val (.pointer (some ⟨j, 9, none⟩)) (by decide) hs (x_field (of := 0) (off := 9) (fa115_4 j 0) rfl (hd 18 (by kernel_rfl) 84 rfl)) rfl⟩
    refine ⟨?_, ?_⟩
    · intro a' w' k' hb hf hs hc hq hg hd
      obtain rfl := hc 1 rfl
      obtain ⟨-, h10⟩ := (hd 17 (by kernel_rfl) 83 rfl)
      obtain ⟨ao2, c2, e10, ho2, fg, hb2⟩ := h10 rfl
      rw [e10] at ho2 hb2
      have hsl := lt_of_heap (unhide HH).heap
      have hs1 : w'.heap[j]? = _ := (fg.block j hsl (fun e => (unhide HH).ne j e rfl)).trans (unhide HH).heap
      have cs := cell_of_heap hs1 9
      simp at cs
      have hK := (unhide HH).stm fg ho2 hb2
      exact ⟨wantedN rfl, k_store _ (by decide) ⟨_, hK.1, hK.2, hb2⟩ ((Fr.refl _ _).setCell (p := ⟨j, 9, none⟩) (fun _ => .inl rfl) _) (x_store1 sto113 rfl (hd 19 (by kernel_rfl) 85 rfl) e10 (frozen_of_heap hs1 9) cs) trivial⟩
    exact trivial
  case done =>
    intro a' w' hb hf hs hall
    have hslots : Slots a' 0 [.pointer (some ⟨j, 0, none⟩), u1, u2, u3, .pointer (some ⟨q, 0, none⟩), u5, u6, u7, u8, u9, u10, u11, u12, u13, u14, u15, u16, u17, u18, u19, u20, u21, u22, u23, u24, u25, u26, u27, u28, u29, u30, u31, u32, u33, u34, u35, u36, u37, u38, u39, u40, u41, u42, u43, u44, u45, u46, u47, u48, u49, u50, u51, u52, u53, u54, u55, u56, u57, u58, u59, u60, u61, u62, u63, u64, u65, a'.tmps.getD 66 undef, a'.tmps.getD 67 undef, a'.tmps.getD 68 undef, a'.tmps.getD 69 undef, a'.tmps.getD 70 undef, a'.tmps.getD 71 undef, a'.tmps.getD 72 undef, a'.tmps.getD 73 undef, a'.tmps.getD 74 undef, a'.tmps.getD 75 undef, a'.tmps.getD 76 undef, a'.tmps.getD 77 undef, a'.tmps.getD 78 undef, a'.tmps.getD 79 undef, a'.tmps.getD 80 undef, a'.tmps.getD 81 undef, a'.tmps.getD 82 undef, a'.tmps.getD 83 undef, a'.tmps.getD 84 undef, a'.tmps.getD 85 undef, u86] := ⟨(hb.old 0 (by decide +kernel)).trans (by rw [unhide HA0]; rfl), (hb.old 1 (by decide +kernel)).trans (by rw [unhide HA0]; rfl), (hb.old 2 (by decide +kernel)).trans (by rw [unhide HA0]; rfl), (hb.old 3 (by decide +kernel)).trans (by rw [unhide HA0]; rfl), (hb.old 4 (by decide +kernel)).trans (by rw [unhide HA0]; rfl), (hb.old 5 (by decide +kernel)).trans (by rw [unhide HA0]; rfl), (hb.old 6 (by decide +kernel)).trans (by rw [unhide HA0]; rfl), (hb.old 7 (by decide +kernel)).trans (by rw [unhide HA0]; rfl), (hb.old 8 (by decide +kernel)).trans (by rw [unhide HA0]; rfl), (hb.old 9 (by decide +kernel)).trans (by rw [unhide HA0]; rfl), (hb.old 10 (by decide +kernel)).trans (by rw [unhide HA0]; rfl), (hb.old 11 (by decide +kernel)).trans (by rw [unhide HA0]; rfl), (hb.old 12 (by decide +kernel)).trans (by rw [unhide HA0]; rfl), (hb.old 13 (by decide +kernel)).trans (by rw [unhide HA0]; rfl), (hb.old 14 (by decide +kernel)).trans (by rw [unhide HA0]; rfl), (hb.old 15 (by decide +kernel)).trans (by rw [unhide HA0]; rfl), (hb.old 16 (by decide +kernel)).trans (by rw [unhide HA0]; rfl), (hb.old 17 (by decide +kernel)).trans (by rw [unhide HA0]; rfl), (hb.old 18 (by decide +kernel)).trans (by rw [unhide HA0]; rfl), (hb.old 19 (by decide +kernel)).trans (by rw [unhide HA0]; rfl), (hb.old 20 (by decide +kernel)).trans (by rw [unhide HA0]; rfl), (hb.old 21 (by decide +kernel)).trans (by rw [unhide HA0]; rfl), (hb.old 22 (by decide +kernel)).trans (by rw [unhide HA0]; rfl), (hb.old 23 (by decide +kernel)).trans (by rw [unhide HA0]; rfl), (hb.old 24 (by decide +kernel)).trans (by rw [unhide HA0]; rfl), (hb.old 25 (by decide +kernel)).trans (by rw [unhide HA0]; rfl), (hb.old 26 (by decide +kernel)).trans (by rw [unhide HA0]; rfl), (hb.old 27 (by decide +kernel)).trans (by rw [unhide HA0]; rfl), (hb.old 28 (by decide +kernel)).trans (by rw [unhide HA0]; rfl), (hb.old 29 (by decide +kernel)).trans (by rw [unhide HA0]; rfl), (hb.old 30 (by decide +kernel)).trans (by rw [unhide HA0]; rfl), (hb.old 31 (by decide +kernel)).trans (by rw [unhide HA0]; rfl), (hb.old 32 (by decide +kernel)).trans (by rw [unhide HA0]; rfl), (hb.old 33 (by decide +kernel)).trans (by rw [unhide HA0]; rfl), (hb.old 34 (by decide +kernel)).trans (by rw [unhide HA0]; rfl), (hb.old 35 (by decide +kernel)).trans (by rw [unhide HA0]; rfl), (hb.old 36 (by decide +kernel)).trans (by rw [unhide HA0]; rfl), (hb.old 37 (by decide +kernel)).trans (by rw [unhide HA0]; rfl), (hb.old 38 (by decide +kernel)).trans (by rw [unhide HA0]; rfl), (hb.old 39 (by decide +kernel)).trans (by rw [unhide HA0]; rfl), (hb.old 40 (by decide +kernel)).trans (by rw [unhide HA0]; rfl), (hb.old 41 (by decide +kernel)).trans (by rw [unhide HA0]; rfl), (hb.old 42 (by decide +kernel)).trans (by rw [unhide HA0]; rfl), (hb.old 43 (by decide +kernel)).trans (by rw [unhide HA0]; rfl), (hb.old 44 (by decide +kernel)).trans (by rw [unhide HA0]; rfl), (hb.old 45 (by decide +kernel)).trans (by rw [unhide HA0]; rfl), (hb.old 46 (by decide +kernel)).trans (by rw [unhide HA0]; rfl), (hb.old 47 (by decide +kernel)).trans (by rw [unhide HA0]; rfl), (hb.old 48 (by decide +kernel)).trans (by rw [unhide HA0]; rfl), (hb.old 49 (by decide +kernel)).trans (by rw [unhide HA0]; rfl), (hb.old 50 (by decide +kernel)).trans (by rw [unhide HA0]; rfl), (hb.old 51 (by decide +kernel)).trans (by rw [unhide HA0]; rfl), (hb.old 52 (by decide +kernel)).trans (by rw [unhide HA0]; rfl), (hb.old 53 (by decide +kernel)).trans (by rw [unhide HA0]; rfl), (hb.old 54 (by decide +kernel)).trans (by rw [unhide HA0]; rfl), (hb.old 55 (by decide +kernel)).trans (by rw [unhide HA0]; rfl), (hb.old 56 (by decide +kernel)).trans (by rw [unhide HA0]; rfl), (hb.old 57 (by decide +kernel)).trans (by rw [unhide HA0]; rfl), (hb.old 58 (by decide +kernel)).trans (by rw [unhide HA0]; rfl), (hb.old 59 (by decide +kernel)).trans (by rw [unhide HA0]; rfl), (hb.old 60 (by decide +kernel)).trans (by rw [unhide HA0]; rfl), (hb.old 61 (by decide +kernel)).trans (by rw [unhide HA0]; rfl), (hb.old 62 (by decide +kernel)).trans (by rw [unhide HA0]; rfl), (hb.old 63 (by decide +kernel)).trans (by rw [unhide HA0]; rfl), (hb.old 64 (by decide +kernel)).trans (by rw [unhide HA0]; rfl), (hb.old 65 (by decide +kernel)).trans (by rw [unhide HA0]; rfl), rfl, rfl, rfl, rfl, rfl, rfl, rfl, rfl, rfl, rfl, rfl, rfl, rfl, rfl, rfl, rfl, rfl, rfl, rfl, rfl, (hb.old 86 (by decide +kernel)).trans (by rw [unhide HA0]; rfl), trivial⟩
    have hfr := frame_eq (a := a') (by rw [hb.size, hsz]; rfl) (by rw [hb.defers, hdf]) hslots
    rw [hfr]
    exact unhide HQ (a'.tmps.getD 66 undef) (a'.tmps.getD 67 undef) (a'.tmps.getD 68 undef) (a'.tmps.getD 69 undef) (a'.tmps.getD 70 undef) (a'.tmps.getD 71 undef) (a'.tmps.getD 72 undef) (a'.tmps.getD 73 undef) (a'.tmps.getD 74 undef) (a'.tmps.getD 75 undef) (a'.tmps.getD 76 undef) (a'.tmps.getD 77 undef) (a'.tmps.getD 78 undef) (a'.tmps.getD 79 undef) (a'.tmps.getD 80 undef) (a'.tmps.getD 81 undef) (a'.tmps.getD 82 undef) (a'.tmps.getD 83 undef) (a'.tmps.getD 84 undef) (a'.tmps.getD 85 undef) w' hs
set_option maxHeartbeats 4000000 in
set_option maxRecDepth 100000 in
theorem ga14 {W : World} {j s n mc en : Nat} {mo : Option Addr} {J : Jn} {u1 u2 u3 u4 u5 u6 u7 u8 u9 u11 u12 u13 u14 u15 u16 u17 u18 u19 u20 u21 u22 u23 u24 u25 u26 u27 u28 u29 u30 u31 u32 u33 u34 u35 u36 u37 u38 u39 u40 u41 u42 u43 u44 u45 u46 u47 u48 u49 u50 u51 u52 u53 u54 u55 u56 u57 u58 u59 u60 u61 u62 u63 u64 u65 u66 u67 u68 u69 u70 u71 u72 u73 u74 u75 u76 u77 u78 u79 u80 u81 u82 u83 u84 u85 : Value} {Q : Exit → Act → World → Prop} (h : JAt W j s (.slice mo J.live.length mc) J) (ho : J.Ok n)
    (hQ : ∀ (y65 y66 y67 y68 y69 y70 y71 y72 y73 y74 y75 y76 y77 y78 y79 y80 y81 y82 y83 y84 : Value) (W' : World), (∃ mv', JAt W' j s mv' (J.more ⟨en, J.sup.b, J.serial⟩) ∧ Fr (JB j (.slice mo J.live.length mc)) W W' ∧ ∀ b, mv'.ownBlock = some b → (Value.slice mo J.live.length mc).ownBlock = some b ∨ W.heap.size ≤ b) → Q .normal ⟨#[.pointer (some ⟨j, 0, none⟩), u1, u2, u3, u4, u5, u6, u7, u8, u9, .int .u64 (en : Int), u11, u12, u13, u14, u15, u16, u17, u18, u19, u20, u21, u22, u23, u24, u25, u26, u27, u28, u29, u30, u31, u32, u33, u34, u35, u36, u37, u38, u39, u40, u41, u42, u43, u44, u45, u46, u47, u48, u49, u50, u51, u52, u53, u54, u55, u56, u57, u58, u59, u60, u61, u62, u63, u64, y65, y66, y67, y68, y69, y70, y71, y72, y73, y74, y75, y76, y77, y78, y79, y80, y81, y82, y83, y84, u85], []⟩ W') : (rgF Try.f37 14).wp Try.prog Q ⟨#[.pointer (some ⟨j, 0, none⟩), u1, u2, u3, u4, u5, u6, u7, u8, u9, .int .u64 (en : Int), u11, u12, u13, u14, u15, u16, u17, u18, u19, u20, u21, u22, u23, u24, u25, u26, u27, u28, u29, u30, u31, u32, u33, u34, u35, u36, u37, u38, u39, u40, u41, u42, u43, u44, u45, u46, u47, u48, u49, u50, u51, u52, u53, u54, u55, u56, u57, u58, u59, u60, u61, u62, u63, u64, u65, u66, u67, u68, u69, u70, u71, u72, u73, u74, u75, u76, u77, u78, u79, u80, u81, u82, u83, u84, u85], []⟩ W := by
  have HQ := hide hQ
  clear hQ
  have HH := hide h
  have HO := hide ho
  clear h ho
  conv => arg 2; whnf
  refine wp_nameK ?_
  intro a0 hA
  have h0 : a0.tmps.getD 0 undef = .pointer (some ⟨j, 0, none⟩) := by rw [hA]; rfl
  have h10 : a0.tmps.getD 10 undef = .int .u64 (en : Int) := by rw [hA]; rfl
  have hsz : a0.tmps.size = 86 := by rw [hA]; rfl
  have hdf : a0.defers = [] := by rw [hA]
  have HA0 := hide hA
  clear hA
  refine wp_region_kinds (fun k => JB j (.slice mo J.live.length mc) k) (by kernel_rfl) (by kernel_rfl) (by decide +kernel) (by rw [hsz]; decide +kernel) [.eq (.pointer (some ⟨j, 0, none⟩)), .eq (.pointer (some ⟨j, 0, none⟩)), .eq (.pointer (some ⟨j, 0, none⟩)), .eq (.pointer (some ⟨j, 9, none⟩)), .eq (.slice mo J.live.length mc), .eq (.int .u64 (en : Int)), .eq (.pointer (some ⟨j, 0, none⟩)), .eq (.pointer (some ⟨j, 0, none⟩)), .eq (.pointer (some ⟨j, 3, none⟩)), .eq (.pointer (some ⟨j, 4, none⟩)), .eq (.int .u64 (J.sup.b : Int)), .eq (.pointer (some ⟨j, 0, none⟩)), .eq (.pointer (some ⟨j, 0, none⟩)), .eq (.pointer (some ⟨j, 10, none⟩)), .eq (.int .u64 (J.serial : Int)), .eq (.agg #[.int .u64 (en : Int), .int .u64 (J.sup.b : Int), .int .u64 (J.serial : Int)]), .st 0 (fun v w => ∃ b, v = .slice (some ⟨b, 0, none⟩) 1 1 ∧ w.heap[b]? = some (.cells #[.int .u64 (en : Int), .int .u64 (J.sup.b : Int), .int .u64 (J.serial : Int)] 130 (0, 0))) (fun v w1 w2 h f => by obtain ⟨b, e, h⟩ := h; exact ⟨b, e, (f.block b (lt_of_heap h) id).trans h⟩), .st 1 (fun v w => ∃ ao c, v = .slice ao (J.live.length + 1) c ∧ w.ownsRow 0 130 3 v (J.live.length + 1) (mF (J.live ++ [⟨en, J.sup.b, J.serial⟩])) ∧ Fr (fun k => (Value.slice mo J.live.length mc).ownBlock = some k) W w ∧ ∀ b, v.ownBlock = some b → (Value.slice mo J.live.length mc).ownBlock = some b ∨ W.heap.size ≤ b) (fun v w1 w2 h f => by obtain ⟨ao, c, e, h1, h2, h3⟩ := h; exact ⟨ao, c, e, owns_kept h1 f (fun _ _ e => e), h2.trans f (fun _ _ e => e.elim), h3⟩), .eq (.pointer (some ⟨j, 0, none⟩)), .eq (.pointer (some ⟨j, 9, none⟩)), .any] [17, 20] (by decide) (by decide) (chain_paths _ [[17]] (by kernel_rfl)) (fun k w => match k with | 0 => Fr (fun _ => False) W w | 1 => True | _ => ∃ mv', JAt w j s mv' (J.more ⟨en, J.sup.b, J.serial⟩) ∧ Fr (JB j (.slice mo J.live.length mc)) W w ∧ ∀ b, mv'.ownBlock = some b → (Value.slice mo J.live.length mc).ownBlock = some b ∨ W.heap.size ≤ b) (Fr.refl _ _).drew ?steps ?done
  case steps =>
    refine ⟨?_, ?_⟩
    · intro a' w' k' hb hf hs hc hq hg hd
      exact ⟨wantedN rfl, k_val (.pointer (some ⟨j, 0, none⟩)) (by decide) hs (x_move rfl ((hb.old 0 (by decide +kernel)).trans h0)) rfl⟩
    refine ⟨?_, ?_⟩
    · intro a' w' k' hb hf hs hc hq hg hd
      exact ⟨wantedN rfl, k_val (.pointer (some ⟨j, 0, none⟩)) (by decide) hs (x_move rfl ((hb.old 0 (by decide +kernel)).trans h0)) rfl⟩
    refine ⟨?_, ?_⟩
    · intro a' w' k' hb hf hs hc hq hg hd
      exact ⟨wantedN rfl, k_val (.pointer (some ⟨j, 0, none⟩)) (by decide) hs (x_nilCheck rfl (hd 1 (by kernel_rfl) 66 rfl)) rfl⟩
    refine ⟨?_, ?_⟩
    · intro a' w' k' hb hf hs hc hq hg hd
      exact ⟨wantedN rfl, k_val (.pointer (some ⟨j, 9, none⟩)) (by decide) hs (x_field (of := 0) (off := 9) (fa115_4 j 0) rfl (hd 2 (by kernel_rfl) 67 rfl)) rfl⟩
    refine ⟨?_, ?_⟩
    · intro a' w' k' hb hf hs hc hq hg hd
      obtain rfl : k' = 0 := Nat.le_zero.1 (hq 0 17 rfl (waits (by kernel_rfl))); exact ⟨wantedN rfl, k_val (.slice mo J.live.length mc) (by decide) hs (x_load1 ld113 rfl (hd 3 (by kernel_rfl) 68 rfl) (by have := cell_of_heap ((unhide HH).kept0 hs).heap 9; simpa using this)) rfl⟩
    refine ⟨?_, ?_⟩
    · intro a' w' k' hb hf hs hc hq hg hd
      exact ⟨wantedN rfl, k_val (.int .u64 (en : Int)) (by decide) hs (x_move rfl ((hb.old 10 (by decide +kernel)).trans h10)) rfl⟩
    refine ⟨?_, ?_⟩
    · intro a' w' k' hb hf hs hc hq hg hd
      exact ⟨wantedN rfl, k_val (.pointer (some ⟨j, 0, none⟩)) (by decide) hs (x_move rfl ((hb.old 0 (by decide +kernel)).trans h0)) rfl⟩
    refine ⟨?_, ?_⟩
    · intro a' w' k' hb hf hs hc hq hg hd
      exact ⟨wantedN rfl, k_val (.pointer (some ⟨j, 0, none⟩)) (by decide) hs (x_nilCheck rfl (hd 6 (by kernel_rfl) 71 rfl)) rfl⟩
    refine ⟨?_, ?_⟩
    · intro a' w' k' hb hf hs hc hq hg hd
      exact ⟨wantedN rfl, k_val (.pointer (some ⟨j, 3, none⟩)) (by decide) hs (x_field (of := 0) (off := 3) (fa115_3 j 0) rfl (hd 7 (by kernel_rfl) 72 rfl)) rfl⟩
    refine ⟨?_, ?_⟩
    · intro a' w' k' hb hf hs hc hq hg hd
      exact ⟨wantedN rfl, k_val (.pointer (some ⟨j, 4, none⟩)) (by decide) hs (x_field (of := 3) (off := 1) (fa27_1 j 3) rfl (hd 8 (by kernel_rfl) 73 rfl)) rfl⟩
    refine ⟨?_, ?_⟩
    · intro a' w' k' hb hf hs hc hq hg hd
      obtain rfl : k' = 0 := Nat.le_zero.1 (hq 0 17 rfl (waits (by kernel_rfl))); exact ⟨wantedN rfl, k_val (.int .u64 (J.sup.b : Int)) (by decide) hs (x_load1 ldU rfl (hd 9 (by kernel_rfl) 74 rfl) (by have := cell_of_heap ((unhide HH).kept0 hs).heap 4; simpa using this)) rfl⟩
    refine ⟨?_, ?_⟩
    · intro a' w' k' hb hf hs hc hq hg hd
      exact ⟨wantedN rfl, k_val (.pointer (some ⟨j, 0, none⟩)) (by decide) hs (x_move rfl ((hb.old 0 (by decide +kernel)).trans h0)) rfl⟩
    refine ⟨?_, ?_⟩
    · intro a' w' k' hb hf hs hc hq hg hd
      exact ⟨wantedN rfl, k_val (.pointer (some ⟨j, 0, none⟩)) (by decide) hs (x_nilCheck rfl (hd 11 (by kernel_rfl) 76 rfl)) rfl⟩
    refine ⟨?_, ?_⟩
    · intro a' w' k' hb hf hs hc hq hg hd
      exact ⟨wantedN rfl, k_val (.pointer (some ⟨j, 10, none⟩)) (by decide) hs (x_field (of := 0) (off := 10) (fa115_5 j 0) rfl (hd 12 (by kernel_rfl) 77 rfl)) rfl⟩
    refine ⟨?_, ?_⟩
    · intro a' w' k' hb hf hs hc hq hg hd
      obtain rfl : k' = 0 := Nat.le_zero.1 (hq 0 17 rfl (waits (by kernel_rfl))); exact ⟨wantedN rfl, k_val (.int .u64 (J.serial : Int)) (by decide) hs (x_load1 ldU rfl (hd 13 (by kernel_rfl) 78 rfl) (by have := cell_of_heap ((unhide HH).kept0 hs).heap 10; simpa using this)) rfl⟩
    refine ⟨?_, ?_⟩
    · intro a' w' k' hb hf hs hc hq hg hd
      exact ⟨wantedN rfl, k_val _ (by decide) hs (x_build130 rfl (hd 5 (by kernel_rfl) 70 rfl) (hd 10 (by kernel_rfl) 75 rfl) (hd 14 (by kernel_rfl) 79 rfl)) rfl⟩
    refine ⟨?_, ?_⟩
    · intro a' w' k' hb hf hs hc hq hg hd
      obtain rfl : k' = 0 := Nat.le_zero.1 (hq 0 17 rfl (waits (by kernel_rfl))); exact ⟨wantedN rfl, k_new _ _ (by decide) (Fr.trans hs ((Fr.refl _ _).alloc _) (fun _ _ e => e)) ((Fr.refl _ _).alloc _) (x_bs113 rfl (hd 15 (by kernel_rfl) 80 rfl)) ⟨Nat.le_refl _, fun _ => ⟨_, rfl, heap_alloc_new w' _⟩⟩⟩
    refine ⟨?_, ?_⟩
    · intro a' w' k' hb hf hs hc hq hg hd
      obtain rfl := hc 0 rfl
      obtain ⟨-, h9⟩ := (hd 16 (by kernel_rfl) 81 rfl)
      obtain ⟨b9, e9, h9⟩ := h9 rfl
      have hs' : Fr (fun _ => False) W w' := hs
      have hD' := (unhide HH).kept0 hs'
      obtain ⟨inf, zv, hi0, hz0, hz1, hz2, hz3⟩ := info_zero Try.info130 Try.zero130
      have hzs : zv.cells.size = 3 := by rw [← Array.length_toList, hz3]; rfl
      have hsr : Sr w' 3 (.slice (some ⟨b9, 0, none⟩) 1 1) 1 [.int .u64 (en : Int), .int .u64 (J.sup.b : Int), .int .u64 (J.serial : Int)] := .inr ⟨_, _, rfl, rfl, fun j u hu => by
        rw [Addr.add_lit, Nat.zero_add, cell_of_heap h9]
        simpa using hu⟩
      have hl9 := (unhide HO).nd.2.1
      obtain ⟨v2, w2, hr2, ho2, hg2, hn2⟩ := run_app (P := Try.prog) w' 113 113 130 inf zv 3 24 Try.u113 hi0 hz0 hz1 hz2 hzs (by decide) (.slice mo J.live.length mc) J.live.length _ hD'.mks _ 1 _ hsr (fun u hu => by simp at hu; rcases hu with rfl | rfl | rfl <;> rfl) (by omega) (by simp only [maxLen]; omega)
      obtain ⟨ao2, c2, rfl⟩ := owns_shape ho2
      have fg : Fr (fun k => (Value.slice mo J.live.length mc).ownBlock = some k) W w2 := (hs'.mono (fun _ _ h => h.elim)).grown hg2 (fun k _ e => e)
      exact ⟨wantedN rfl, k_chain _ w2 (by decide) trivial ((Fr.refl _ _).grown hg2 (fun k _ e => .inr e)) (x_app113 rfl rfl (hd 4 (by kernel_rfl) 69 rfl) e9 hr2) ⟨Nat.le_refl _, fun _ => ⟨_, _, rfl, by rw [mF_more]; exact ho2, fg, fun b hb => by
        rcases hn2 with e | e
        · rw [e] at hb; exact .inl hb
        · rw [e] at hb; simp at hb; have := hs'.size; right; omega⟩⟩⟩
    refine ⟨?_, ?_⟩
    · intro a' w' k' hb hf hs hc hq hg hd
      exact ⟨wantedN rfl, k_val (.pointer (some ⟨j, 0, none⟩)) (by decide) hs (x_nilCheck rfl (hd 0 (by kernel_rfl) 65 rfl)) rfl⟩
    refine ⟨?_, ?_⟩
    · intro a' w' k' hb hf hs hc hq hg hd
      exact ⟨wantedN rfl, k_val (.pointer (some ⟨j, 9, none⟩)) (by decide) hs (x_field (of := 0) (off := 9) (fa115_4 j 0) rfl (hd 18 (by kernel_rfl) 83 rfl)) rfl⟩
    refine ⟨?_, ?_⟩
    · intro a' w' k' hb hf hs hc hq hg hd
      obtain rfl := hc 1 rfl
      obtain ⟨-, h10⟩ := (hd 17 (by kernel_rfl) 82 rfl)
      obtain ⟨ao2, c2, e10, ho2, fg, hb2⟩ := h10 rfl
      rw [e10] at ho2 hb2
      have hsl := lt_of_heap (unhide HH).heap
      have hs1 : w'.heap[j]? = _ := (fg.block j hsl (fun e => (unhide HH).ne j e rfl)).trans (unhide HH).heap
      have cs := cell_of_heap hs1 9
      simp at cs
      have hK := (unhide HH).stm fg ho2 hb2
      exact ⟨wantedN rfl, k_store _ (by decide) ⟨_, hK.1, hK.2, hb2⟩ ((Fr.refl _ _).setCell (p := ⟨j, 9, none⟩) (fun _ => .inl rfl) _) (x_store1 sto113 rfl (hd 19 (by kernel_rfl) 84 rfl) e10 (frozen_of_heap hs1 9) cs) trivial⟩
    exact trivial
  case done =>
    intro a' w' hb hf hs hall
    have hslots : Slots a' 0 [.pointer (some ⟨j, 0, none⟩), u1, u2, u3, u4, u5, u6, u7, u8, u9, .int .u64 (en : Int), u11, u12, u13, u14, u15, u16, u17, u18, u19, u20, u21, u22, u23, u24, u25, u26, u27, u28, u29, u30, u31, u32, u33, u34, u35, u36, u37, u38, u39, u40, u41, u42, u43, u44, u45, u46, u47, u48, u49, u50, u51, u52, u53, u54, u55, u56, u57, u58, u59, u60, u61, u62, u63, u64, a'.tmps.getD 65 undef, a'.tmps.getD 66 undef, a'.tmps.getD 67 undef, a'.tmps.getD 68 undef, a'.tmps.getD 69 undef, a'.tmps.getD 70 undef, a'.tmps.getD 71 undef, a'.tmps.getD 72 undef, a'.tmps.getD 73 undef, a'.tmps.getD 74 undef, a'.tmps.getD 75 undef, a'.tmps.getD 76 undef, a'.tmps.getD 77 undef, a'.tmps.getD 78 undef, a'.tmps.getD 79 undef, a'.tmps.getD 80 undef, a'.tmps.getD 81 undef, a'.tmps.getD 82 undef, a'.tmps.getD 83 undef, a'.tmps.getD 84 undef, u85] := ⟨(hb.old 0 (by decide +kernel)).trans (by rw [unhide HA0]; rfl), (hb.old 1 (by decide +kernel)).trans (by rw [unhide HA0]; rfl), (hb.old 2 (by decide +kernel)).trans (by rw [unhide HA0]; rfl), (hb.old 3 (by decide +kernel)).trans (by rw [unhide HA0]; rfl), (hb.old 4 (by decide +kernel)).trans (by rw [unhide HA0]; rfl), (hb.old 5 (by decide +kernel)).trans (by rw [unhide HA0]; rfl), (hb.old 6 (by decide +kernel)).trans (by rw [unhide HA0]; rfl), (hb.old 7 (by decide +kernel)).trans (by rw [unhide HA0]; rfl), (hb.old 8 (by decide +kernel)).trans (by rw [unhide HA0]; rfl), (hb.old 9 (by decide +kernel)).trans (by rw [unhide HA0]; rfl), (hb.old 10 (by decide +kernel)).trans (by rw [unhide HA0]; rfl), (hb.old 11 (by decide +kernel)).trans (by rw [unhide HA0]; rfl), (hb.old 12 (by decide +kernel)).trans (by rw [unhide HA0]; rfl), (hb.old 13 (by decide +kernel)).trans (by rw [unhide HA0]; rfl), (hb.old 14 (by decide +kernel)).trans (by rw [unhide HA0]; rfl), (hb.old 15 (by decide +kernel)).trans (by rw [unhide HA0]; rfl), (hb.old 16 (by decide +kernel)).trans (by rw [unhide HA0]; rfl), (hb.old 17 (by decide +kernel)).trans (by rw [unhide HA0]; rfl), (hb.old 18 (by decide +kernel)).trans (by rw [unhide HA0]; rfl), (hb.old 19 (by decide +kernel)).trans (by rw [unhide HA0]; rfl), (hb.old 20 (by decide +kernel)).trans (by rw [unhide HA0]; rfl), (hb.old 21 (by decide +kernel)).trans (by rw [unhide HA0]; rfl), (hb.old 22 (by decide +kernel)).trans (by rw [unhide HA0]; rfl), (hb.old 23 (by decide +kernel)).trans (by rw [unhide HA0]; rfl), (hb.old 24 (by decide +kernel)).trans (by rw [unhide HA0]; rfl), (hb.old 25 (by decide +kernel)).trans (by rw [unhide HA0]; rfl), (hb.old 26 (by decide +kernel)).trans (by rw [unhide HA0]; rfl), (hb.old 27 (by decide +kernel)).trans (by rw [unhide HA0]; rfl), (hb.old 28 (by decide +kernel)).trans (by rw [unhide HA0]; rfl), (hb.old 29 (by decide +kernel)).trans (by rw [unhide HA0]; rfl), (hb.old 30 (by decide +kernel)).trans (by rw [unhide HA0]; rfl), (hb.old 31 (by decide +kernel)).trans (by rw [unhide HA0]; rfl), (hb.old 32 (by decide +kernel)).trans (by rw [unhide HA0]; rfl), (hb.old 33 (by decide +kernel)).trans (by rw [unhide HA0]; rfl), (hb.old 34 (by decide +kernel)).trans (by rw [unhide HA0]; rfl), (hb.old 35 (by decide +kernel)).trans (by rw [unhide HA0]; rfl), (hb.old 36 (by decide +kernel)).trans (by rw [unhide HA0]; rfl), (hb.old 37 (by decide +kernel)).trans (by rw [unhide HA0]; rfl), (hb.old 38 (by decide +kernel)).trans (by rw [unhide HA0]; rfl), (hb.old 39 (by decide +kernel)).trans (by rw [unhide HA0]; rfl), (hb.old 40 (by decide +kernel)).trans (by rw [unhide HA0]; rfl), (hb.old 41 (by decide +kernel)).trans (by rw [unhide HA0]; rfl), (hb.old 42 (by decide +kernel)).trans (by rw [unhide HA0]; rfl), (hb.old 43 (by decide +kernel)).trans (by rw [unhide HA0]; rfl), (hb.old 44 (by decide +kernel)).trans (by rw [unhide HA0]; rfl), (hb.old 45 (by decide +kernel)).trans (by rw [unhide HA0]; rfl), (hb.old 46 (by decide +kernel)).trans (by rw [unhide HA0]; rfl), (hb.old 47 (by decide +kernel)).trans (by rw [unhide HA0]; rfl), (hb.old 48 (by decide +kernel)).trans (by rw [unhide HA0]; rfl), (hb.old 49 (by decide +kernel)).trans (by rw [unhide HA0]; rfl), (hb.old 50 (by decide +kernel)).trans (by rw [unhide HA0]; rfl), (hb.old 51 (by decide +kernel)).trans (by rw [unhide HA0]; rfl), (hb.old 52 (by decide +kernel)).trans (by rw [unhide HA0]; rfl), (hb.old 53 (by decide +kernel)).trans (by rw [unhide HA0]; rfl), (hb.old 54 (by decide +kernel)).trans (by rw [unhide HA0]; rfl), (hb.old 55 (by decide +kernel)).trans (by rw [unhide HA0]; rfl), (hb.old 56 (by decide +kernel)).trans (by rw [unhide HA0]; rfl), (hb.old 57 (by decide +kernel)).trans (by rw [unhide HA0]; rfl), (hb.old 58 (by decide +kernel)).trans (by rw [unhide HA0]; rfl), (hb.old 59 (by decide +kernel)).trans (by rw [unhide HA0]; rfl), (hb.old 60 (by decide +kernel)).trans (by rw [unhide HA0]; rfl), (hb.old 61 (by decide +kernel)).trans (by rw [unhide HA0]; rfl), (hb.old 62 (by decide +kernel)).trans (by rw [unhide HA0]; rfl), (hb.old 63 (by decide +kernel)).trans (by rw [unhide HA0]; rfl), (hb.old 64 (by decide +kernel)).trans (by rw [unhide HA0]; rfl), rfl, rfl, rfl, rfl, rfl, rfl, rfl, rfl, rfl, rfl, rfl, rfl, rfl, rfl, rfl, rfl, rfl, rfl, rfl, rfl, (hb.old 85 (by decide +kernel)).trans (by rw [unhide HA0]; rfl), trivial⟩
    have hfr := frame_eq (a := a') (by rw [hb.size, hsz]; rfl) (by rw [hb.defers, hdf]) hslots
    rw [hfr]
    exact unhide HQ (a'.tmps.getD 65 undef) (a'.tmps.getD 66 undef) (a'.tmps.getD 67 undef) (a'.tmps.getD 68 undef) (a'.tmps.getD 69 undef) (a'.tmps.getD 70 undef) (a'.tmps.getD 71 undef) (a'.tmps.getD 72 undef) (a'.tmps.getD 73 undef) (a'.tmps.getD 74 undef) (a'.tmps.getD 75 undef) (a'.tmps.getD 76 undef) (a'.tmps.getD 77 undef) (a'.tmps.getD 78 undef) (a'.tmps.getD 79 undef) (a'.tmps.getD 80 undef) (a'.tmps.getD 81 undef) (a'.tmps.getD 82 undef) (a'.tmps.getD 83 undef) (a'.tmps.getD 84 undef) w' hs
end Go.Proofs.Ytgodlfoidjeekaa
