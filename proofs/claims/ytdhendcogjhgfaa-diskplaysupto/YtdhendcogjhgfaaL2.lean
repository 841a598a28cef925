/-
  The walk of the laws' act.
-/
import Derived.Test.YtdhendcogjhgfaaL1
namespace Go.Proofs.Ytdhendcogjhgfaa
open Go.RowKit
set_option linter.unusedVariables false

attribute [local go_sem ↓] Go.wp_at_zero Go.wp_at_succ

section
variable {w0 w w' w'' : World} {p gs : Nat} {q q' q'' : Value} {p2 sg hg : Nat} {q2 q2' q2'' : Value} {d e d' e' : Dk}
theorem Mq.ofFr (f : Fr (fun _ => False) w w') : Mq w w' p gs q p2 sg hg q2 q q2 := ⟨f.mono (fun _ _ h => h.elim), fun b hb => .inl hb, fun b hb => .inl hb⟩
theorem Mq.trans (m : Mq w w' p gs q p2 sg hg q2 q' q2') (n : Mq w' w'' p gs q' p2 sg hg q2' q'' q2'') : Mq w w'' p gs q p2 sg hg q2 q'' q2'' := by
  have hs := m.f.size
  refine ⟨m.f.trans n.f (fun i hi e => ?_), fun b hb => ?_, fun b hb => ?_⟩
  · rcases e with e | e
    · rcases m.k i e with e | e
      · exact .inl e
      · omega
    · rcases m.r i e with e | e
      · exact .inr e
      · omega
  · rcases n.k b hb with e | e
    · exact m.k b e
    · exact .inr (by omega)
  · rcases n.r b hb with e | e
    · exact m.r b e
    · exact .inr (by omega)
end

section
variable (w0 w : World) (p gs : Nat) (q : Value) (p2 sg hg : Nat) (q2 : Value) (d : Dk) (k a b : Int) (m : Nat) (dv kv : Value) (D : List UInt8) (K : List Int)

/-- What is asked of an act; what it leaves. -/
structure AcI : Prop where
  h : Pq w0 w p gs q p2 sg hg q2 d d
  hn : d.n ≤ 900000000
  hm : m < 4294967296
  hD : Rd w0 dv D
  hK : RdV w0 kv (K.map (Value.int .i64))
  lD : D.length ≤ 30000
  lK : K.length ≤ 30000
def AcO (w' : World) (d' : Dk) : Prop := ∃ q' q2', Pq w0 w' p gs q' p2 sg hg q2' d' d' ∧ Mq w w' p gs q p2 sg hg q2 q' q2'

set_option maxHeartbeats 1000000 in
set_option maxRecDepth 100000 in
theorem act_flush (i : AcI w0 w p gs q p2 sg hg q2 d m dv kv D K) : Calls Try.prog 15 #[.pointer (some ⟨p, 0, none⟩), .pointer (some ⟨p2, 0, none⟩), .agg #[.int .i64 2, .int .i64 a, .int .i64 b, .int .u32 (m : Int), dv, kv]] w fun r w' => r = .returned (.tuple #[.pointer (some ⟨p, 0, none⟩), .bool true]) ∧ AcO w0 w p gs q p2 sg hg q2 w' (flD d) := by
  have hr := i.h.k.ok.room
  have hn := i.hn
  have f1 : Fr (fun _ => False) w (w.alloc (Obj.cells #[.int .i64 2, .int .i64 a, .int .i64 b, .int .u32 (m : Int), dv, kv] 39)) := (Fr.refl _ _).alloc _
  have H1 := hide (i.h.fr f1)
  have M1 := hide (Mq.ofFr (p := p) (gs := gs) (q := q) (p2 := p2) (sg := sg) (hg := hg) (q2 := q2) f1)
  clear i f1
  go_enter Try.func15, Try.ntmps15
  go_wp2_with fail
  refine (flp_any (unhide H1) (by omega)).mono ?_
  rintro r w2 ⟨rfl, q', h2, m2⟩
  have H2 := hide h2
  have M2 := hide ((unhide M1).trans m2)
  clear h2 m2
  go_wp2_with (go_at_call 14; refine (num_any _ _).mono ?_; rintro e w' ⟨rfl, rfl⟩)
  refine (flr_any (unhide H2) (by omega)).mono ?_
  rintro r w3 ⟨rfl, q2', h3, m3⟩
  have H3 := hide h3
  have M3 := hide ((unhide M2).trans m3)
  clear h3 m3
  go_wp2_with fail
  go_ret2
  exact ⟨by simp, _, _, unhide H3, unhide M3⟩

set_option maxHeartbeats 1000000 in
set_option maxRecDepth 100000 in
theorem act_fail (i : AcI w0 w p gs q p2 sg hg q2 d m dv kv D K) : Calls Try.prog 15 #[.pointer (some ⟨p, 0, none⟩), .pointer (some ⟨p2, 0, none⟩), .agg #[.int .i64 4, .int .i64 a, .int .i64 b, .int .u32 (m : Int), dv, kv]] w fun r w' => r = .returned (.tuple #[.pointer (some ⟨p, 0, none⟩), .bool true]) ∧ AcO w0 w p gs q p2 sg hg q2 w' (faD d) := by
  have hr := i.h.k.ok.room
  have hn := i.hn
  have f1 : Fr (fun _ => False) w (w.alloc (Obj.cells #[.int .i64 4, .int .i64 a, .int .i64 b, .int .u32 (m : Int), dv, kv] 39)) := (Fr.refl _ _).alloc _
  have H1 := hide (i.h.fr f1)
  have M1 := hide (Mq.ofFr (p := p) (gs := gs) (q := q) (p2 := p2) (sg := sg) (hg := hg) (q2 := q2) f1)
  clear i f1
  go_enter Try.func15, Try.ntmps15
  go_wp2_with fail
  refine (fap_any (unhide H1)).mono ?_
  rintro r w2 ⟨rfl, q', h2, m2⟩
  have H2 := hide h2
  have M2 := hide ((unhide M1).trans m2)
  clear h2 m2
  go_wp2_with fail
  refine (far_any (unhide H2)).mono ?_
  rintro r w3 ⟨rfl, q2', h3, m3⟩
  have H3 := hide h3
  have M3 := hide ((unhide M2).trans m3)
  clear h3 m3
  go_wp2_with fail
  go_ret2
  exact ⟨rfl, _, _, unhide H3, unhide M3⟩

set_option maxHeartbeats 1000000 in
set_option maxRecDepth 100000 in
theorem act_replace (i : AcI w0 w p gs q p2 sg hg q2 d m dv kv D K) : Calls Try.prog 15 #[.pointer (some ⟨p, 0, none⟩), .pointer (some ⟨p2, 0, none⟩), .agg #[.int .i64 5, .int .i64 a, .int .i64 b, .int .u32 (m : Int), dv, kv]] w fun r w' => r = .returned (.tuple #[.pointer (some ⟨p, 0, none⟩), .bool true]) ∧ AcO w0 w p gs q p2 sg hg q2 w' (rpD d) := by
  have hr := i.h.k.ok.room
  have hn := i.hn
  have f1 : Fr (fun _ => False) w (w.alloc (Obj.cells #[.int .i64 5, .int .i64 a, .int .i64 b, .int .u32 (m : Int), dv, kv] 39)) := (Fr.refl _ _).alloc _
  have H1 := hide (i.h.fr f1)
  have M1 := hide (Mq.ofFr (p := p) (gs := gs) (q := q) (p2 := p2) (sg := sg) (hg := hg) (q2 := q2) f1)
  clear i f1
  go_enter Try.func15, Try.ntmps15
  go_wp2_with fail
  refine (rpp_any (unhide H1)).mono ?_
  rintro r w2 ⟨rfl, q', h2, m2⟩
  have H2 := hide h2
  have M2 := hide ((unhide M1).trans m2)
  clear h2 m2
  go_wp2_with fail
  refine (rpr_any (unhide H2)).mono ?_
  rintro r w3 ⟨rfl, q2', h3, m3⟩
  have H3 := hide h3
  have M3 := hide ((unhide M2).trans m3)
  clear h3 m3
  go_wp2_with fail
  go_ret2
  exact ⟨rfl, _, _, unhide H3, unhide M3⟩

set_option maxHeartbeats 1000000 in
set_option maxRecDepth 100000 in
theorem act_other (i : AcI w0 w p gs q p2 sg hg q2 d m dv kv D K) (k1 : k ≠ 1) (k2 : k ≠ 2) (k3 : k ≠ 3) (k4 : k ≠ 4) (k5 : k ≠ 5) (k6 : k ≠ 6) (k7 : k ≠ 7) (k8 : k ≠ 8) : Calls Try.prog 15 #[.pointer (some ⟨p, 0, none⟩), .pointer (some ⟨p2, 0, none⟩), .agg #[.int .i64 k, .int .i64 a, .int .i64 b, .int .u32 (m : Int), dv, kv]] w fun r w' => r = .returned (.tuple #[.pointer (some ⟨p, 0, none⟩), .bool true]) ∧ AcO w0 w p gs q p2 sg hg q2 w' d := by
  have f1 : Fr (fun _ => False) w (w.alloc (Obj.cells #[.int .i64 k, .int .i64 a, .int .i64 b, .int .u32 (m : Int), dv, kv] 39)) := (Fr.refl _ _).alloc _
  have H1 := hide (i.h.fr f1)
  have M1 := hide (Mq.ofFr (p := p) (gs := gs) (q := q) (p2 := p2) (sg := sg) (hg := hg) (q2 := q2) f1)
  have c1 : (k == 1) = false := by simpa using k1
  have c2 : (k == 2) = false := by simpa using k2
  have c3 : (k == 3) = false := by simpa using k3
  have c4 : (k == 4) = false := by simpa using k4
  have c5 : (k == 5) = false := by simpa using k5
  have c6 : (k == 6) = false := by simpa using k6
  have c7 : (k == 7) = false := by simpa using k7
  have c8 : (k == 8) = false := by simpa using k8
  clear i f1 k1 k2 k3 k4 k5 k6 k7 k8
  go_enter Try.func15, Try.ntmps15
  go_wp2_with fail
  go_ret2
  exact ⟨rfl, _, _, unhide H1, unhide M1⟩

set_option maxHeartbeats 1000000 in
set_option maxRecDepth 100000 in
theorem act_crash (i : AcI w0 w p gs q p2 sg hg q2 d m dv kv D K) : Calls Try.prog 15 #[.pointer (some ⟨p, 0, none⟩), .pointer (some ⟨p2, 0, none⟩), .agg #[.int .i64 3, .int .i64 a, .int .i64 b, .int .u32 (m : Int), dv, kv]] w fun r w' => r = .returned (.tuple #[.pointer (some ⟨p, 0, none⟩), .bool true]) ∧ AcO w0 w p gs q p2 sg hg q2 w' (crD d K) := by
  have hr := i.h.k.ok.room
  have hn := i.hn
  have f1 : Fr (fun _ => False) w (w.alloc (Obj.cells #[.int .i64 3, .int .i64 a, .int .i64 b, .int .u32 (m : Int), dv, kv] 39)) := (Fr.refl _ _).alloc _
  have H1 := hide (i.h.fr f1)
  have M1 := hide (Mq.ofFr (p := p) (gs := gs) (q := q) (p2 := p2) (sg := sg) (hg := hg) (q2 := q2) f1)
  obtain ⟨ko, kc, rfl⟩ := i.hK.shape
  rw [List.length_map] at *
  have lK := i.lK
  obtain ⟨inf, hi0, hz0, hz1, hz2⟩ := info_parts Try.info3
  have fb : Fr (fun _ => False) w ((w.alloc (Obj.cells #[.int .i64 3, .int .i64 a, .int .i64 b, .int .u32 (m : Int), dv, .slice ko K.length kc] 39)).alloc (Obj.cells #[] 3)) := f1.alloc _
  have hK2 : RdV ((w.alloc (Obj.cells #[.int .i64 3, .int .i64 a, .int .i64 b, .int .u32 (m : Int), dv, .slice ko K.length kc] 39)).alloc (Obj.cells #[] 3)) (.slice ko K.length kc) (K.map (Value.int .i64)) := ((i.hK.kept i.h.f (fun _ _ h => h)).kept fb (fun _ _ h => h))
  have hsr : Sr ((w.alloc (Obj.cells #[.int .i64 3, .int .i64 a, .int .i64 b, .int .u32 (m : Int), dv, .slice ko K.length kc] 39)).alloc (Obj.cells #[] 3)) 1 (.slice ko K.length kc) K.length (K.map (Value.int .i64)) := by
    rcases hK2 with ⟨hv, hl⟩ | ⟨ad, cap, hv, h1, h2, h3⟩
    · have hl' : K.length = 0 := by have := congrArg List.length hl; simpa using this
      simp only [Value.slice.injEq] at hv
      exact .inl ⟨by rw [hv.1, hl', hv.2.2], hl', hl⟩
    · rw [List.length_map] at hv
      exact .inr ⟨ad, cap, hv, by simp, fun j u hu => by
        have hj := (List.getElem?_eq_some_iff.1 hu).1
        rw [h3 j hj]
        rw [List.getElem?_eq_getElem hj] at hu
        exact hu⟩
  have HSR := hide hsr
  have HO := hide (show ((w.alloc (Obj.cells #[.int .i64 3, .int .i64 a, .int .i64 b, .int .u32 (m : Int), dv, .slice ko K.length kc] 39)).alloc (Obj.cells #[] 3)).ownsRow 0 3 1 (.slice (some ⟨w.heap.size + 1, 0, none⟩) 0 0) 0 [] from ⟨by simp, .inr ⟨w.heap.size + 1, 0, #[], rfl, Nat.zero_le _, by have := heap_alloc_new (w.alloc (Obj.cells #[.int .i64 3, .int .i64 a, .int .i64 b, .int .u32 (m : Int), dv, .slice ko K.length kc] 39)) (Obj.cells #[] 3); simpa using this, Nat.le_refl _, by simp [maxLen], by simp, by simp⟩⟩)
  have ho1 : ∀ u ∈ K.map (Value.int .i64), u.oneCell' = true := fun u hu => by obtain ⟨x, -, rfl⟩ := List.mem_map.1 hu; rfl
  have hb2 : ((w.alloc (Obj.cells #[.int .i64 3, .int .i64 a, .int .i64 b, .int .u32 (m : Int), dv, .slice ko K.length kc] 39)).alloc (Obj.cells #[] 3)).heap[w.heap.size]? = some (.cells #[.int .i64 3, .int .i64 a, .int .i64 b, .int .u32 (m : Int), dv, .slice ko K.length kc] 39 (0, 0)) := by
    rw [Below.heap_alloc _ _ _ (by simp)]; exact heap_alloc_new w _
  have HB2 := hide hb2
  have HA := hide (Ap.new i.h (Nat.le_refl w.heap.size) (lt_of_heap hb2))
  have H2 := hide (i.h.fr fb)
  have M2 := hide (Mq.ofFr (p := p) (gs := gs) (q := q) (p2 := p2) (sg := sg) (hg := hg) (q2 := q2) fb)
  have HKK := hide i.hK
  have HI := hide i.h
  clear i f1 hK2 hsr fb hb2 H1 M1
  go_enter Try.func15, Try.ntmps15
  go_wp2_with (at_builtin; refine wpList_app rfl (.tmp 57) (.tmp 59) 37 rfl 3 inf _ 1 8 Try.underlying37 hi0 hz0 hz1 hz2 rfl (by decide) (.slice (some ⟨w.heap.size + 1, 0, none⟩) 0 0) 0 [] rfl (.slice ko K.length kc) rfl K.length _ (unhide HO) (unhide HSR) ho1 (by omega) (by simp only [maxLen]; omega) ?_)
  intro ao4 ac4 w4 o4 g4 n4
  have f4 : Fr (fun _ => False) w ((w.alloc (Obj.cells #[.int .i64 3, .int .i64 a, .int .i64 b, .int .u32 (m : Int), dv, .slice ko K.length kc] 39)).alloc (Obj.cells #[] 3)) := ((Fr.refl _ _).alloc _).alloc _
  have g5 : Fr (fun k => k = w.heap.size + 1) ((w.alloc (Obj.cells #[.int .i64 3, .int .i64 a, .int .i64 b, .int .u32 (m : Int), dv, .slice ko K.length kc] 39)).alloc (Obj.cells #[] 3)) w4 := (Fr.refl _ _).grown g4 (fun k _ e => by simp [Value.ownBlock] at e; exact e.symm)
  have fw : Fr (fun _ => False) w w4 := f4.trans g5 (fun k hk e => by omega)
  have hb4 : w4.heap[w.heap.size]? = _ := (g5.block w.heap.size (lt_of_heap (unhide HB2)) (by omega)).trans (unhide HB2)
  have x5 := cell_of_heap hb4 5
  simp at x5
  have hrd4 : RdV w4 (.slice ao4 K.length ac4) (K.map (Value.int .i64)) := by
    have o5 : w4.ownsRow 0 3 1 (.slice ao4 K.length ac4) (K.map (Value.int .i64)).length (K.map (Value.int .i64)) := by simpa using o4
    exact RdV.of_owns o5
  have H4 := hide ((unhide HI).fr fw)
  have M4 := hide (Mq.ofFr (p := p) (gs := gs) (q := q) (p2 := p2) (sg := sg) (hg := hg) (q2 := q2) fw)
  have A4 := hide (Ap.new (unhide HI) (Nat.le_refl w.heap.size) (lt_of_heap hb4))
  have HB4 := hide hb4
  have HR4 := hide hrd4
  clear o4 g4 n4 f4 g5 fw hb4 hrd4 H2 M2 HA HB2 HSR HO x5
  go_wp2_with fail
  refine (crp_any _ K (unhide H4) (by omega) (unhide HR4)).mono ?_
  rintro r w5 ⟨rfl, q', h5, m5⟩
  have hb5 : w5.heap[w.heap.size]? = _ := (m5.f.block w.heap.size (lt_of_heap (unhide HB4)) (unhide A4).not).trans (unhide HB4)
  have x5 := cell_of_heap hb5 5
  simp at x5
  have H5 := hide h5
  have M5 := hide ((unhide M4).trans m5)
  have HK5 := hide ((unhide HKK).kept h5.f (fun _ _ h => h))
  clear h5 m5 hb5
  go_wp2_with fail
  refine (crr_any _ K (unhide H5) (by omega) (unhide HK5)).mono ?_
  rintro r w6 ⟨rfl, q2', h6, m6⟩
  have H6 := hide h6
  have M6 := hide ((unhide M5).trans m6)
  clear h6 m6
  go_wp2_with fail
  go_ret2
  exact ⟨rfl, _, _, unhide H6, unhide M6⟩
end
end Go.Proofs.Ytdhendcogjhgfaa
