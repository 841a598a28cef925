/-
  The walk of the laws' act: Write; and of act itself.
-/
import Derived.Test.YtdhendcogjhgfaaL3
namespace Go.Proofs.Ytdhendcogjhgfaa
open Go.RowKit
set_option linter.unusedVariables false

attribute [local go_sem ↓] Go.wp_at_zero Go.wp_at_succ

def Slots (a : Act) : Nat → List Value → Prop
  | _, [] => True
  | i, v :: vs => a.tmps.getD i undef = v ∧ Slots a (i + 1) vs

theorem Slots.get {a : Act} {vs : List Value} {k : Nat} (h : Slots a k vs) (i : Nat) (hi : i < vs.length) : a.tmps.getD (k + i) undef = vs[i] := by
  induction vs generalizing k i with
  | nil => simp at hi
  | cons v vs ih =>
    cases i with
    | zero => exact h.1
    | succ i =>
      have := ih h.2 i (by simpa using hi)
      rw [show k + (i + 1) = k + 1 + i by omega]
      simpa using this

theorem frame_eq {a : Act} {vs : List Value} (hs : a.tmps.size = vs.length) (hd : a.defers = []) (h : Slots a 0 vs) : a = { tmps := vs.toArray, defers := [] } := by
  obtain ⟨t, df⟩ := a
  simp only at hs hd
  subst hd
  congr 1
  apply Array.ext
  · simpa using hs
  · intro i h1 h2
    have := h.get i (by omega)
    rw [Nat.zero_add] at this
    simpa [h1] using this

theorem ld36 (W : World) (a : Addr) (u : Value) (h : W.cell? a = some u) : (Instr.loadAt 36 (.pointer (some a))).run Try.prog W = .ok u W := by simp [go_sem, h]

theorem Pq.kept {T : Nat → Prop} {w0 w w' : World} {p gs : Nat} {q : Value} {p2 sg hg : Nat} {q2 : Value} {d e : Dk} (h : Pq w0 w p gs q p2 sg hg q2 d e) (f : Fr T w w') (hT : ∀ b, T b → ¬ KB p gs q b ∧ ¬ RB p2 sg hg q2 b ∧ w0.heap.size ≤ b) : Pq w0 w' p gs q p2 sg hg q2 d e :=
  ⟨h.k.kept f (fun e => (hT _ e).1 (.inl rfl)) (fun e => (hT _ e).1 (.inr (.inl rfl))) (fun b hb e => (hT _ e).1 (.inr (.inr hb))), h.r.kept f (fun e => (hT _ e).2.1 (.inl rfl)) (fun e => (hT _ e).2.1 (.inr (.inl rfl))) (fun e => (hT _ e).2.1 (.inr (.inr (.inl rfl)))) (fun b hb e => (hT _ e).2.1 (.inr (.inr (.inr hb)))), h.f.trans f (fun k hk e => by have := (hT k e).2.2; omega), h.hk, h.hr⟩
theorem Mq.side {T : Nat → Prop} {w w' w'' : World} {p gs : Nat} {q q' : Value} {p2 sg hg : Nat} {q2 q2' : Value} (m : Mq w w' p gs q p2 sg hg q2 q' q2') (f : Fr T w' w'') (hT : ∀ b, T b → w.heap.size ≤ b) : Mq w w'' p gs q p2 sg hg q2 q' q2' :=
  ⟨m.f.trans f (fun k hk e => by have := hT k e; omega), m.k, m.r⟩

section
variable (w0 w : World) (p gs : Nat) (q : Value) (p2 sg hg : Nat) (q2 : Value) (d : Dk) (k a b : Int) (m : Nat) (dv kv : Value) (D : List UInt8) (K : List Int)

set_option maxHeartbeats 2000000 in
set_option maxRecDepth 100000 in
theorem act_write (i : AcI w0 w p gs q p2 sg hg q2 d m dv kv D K) : Calls Try.prog 15 #[.pointer (some ⟨p, 0, none⟩), .pointer (some ⟨p2, 0, none⟩), .agg #[.int .i64 1, .int .i64 a, .int .i64 b, .int .u32 (m : Int), dv, kv]] w fun r w' => r = .returned (.tuple #[.pointer (some ⟨p, 0, none⟩), .bool true]) ∧ AcO w0 w p gs q p2 sg hg q2 w' (wrD d a D) := by
  have lD := i.lD
  have hDr := i.hD
  obtain ⟨Do, dc, rfl⟩ := i.hD.shape
  obtain ⟨inf, hi0, hz0, hz1, hz2⟩ := info_parts Try.info5
  have f1 : Fr (fun _ => False) w (w.alloc (Obj.cells #[.int .i64 1, .int .i64 a, .int .i64 b, .int .u32 (m : Int), .slice Do D.length dc, kv] 39)) := (Fr.refl _ _).alloc _
  have fb : Fr (fun _ => False) w ((w.alloc (Obj.cells #[.int .i64 1, .int .i64 a, .int .i64 b, .int .u32 (m : Int), .slice Do D.length dc, kv] 39)).alloc (Obj.cells #[] 5)) := f1.alloc _
  have hsr := ((i.hD.kept i.h.f (fun _ _ h => h)).kept fb (fun _ _ h => h)).sr
  have HSR := hide hsr
  have HO := hide (show ((w.alloc (Obj.cells #[.int .i64 1, .int .i64 a, .int .i64 b, .int .u32 (m : Int), .slice Do D.length dc, kv] 39)).alloc (Obj.cells #[] 5)).ownsRow 0 5 1 (.slice (some ⟨w.heap.size + 1, 0, none⟩) 0 0) 0 [] from ⟨by simp, .inr ⟨w.heap.size + 1, 0, #[], rfl, Nat.zero_le _, by have := heap_alloc_new (w.alloc (Obj.cells #[.int .i64 1, .int .i64 a, .int .i64 b, .int .u32 (m : Int), .slice Do D.length dc, kv] 39)) (Obj.cells #[] 5); simpa using this, Nat.le_refl _, by simp [maxLen], by simp, by simp⟩⟩)
  have hb2 : ((w.alloc (Obj.cells #[.int .i64 1, .int .i64 a, .int .i64 b, .int .u32 (m : Int), .slice Do D.length dc, kv] 39)).alloc (Obj.cells #[] 5)).heap[w.heap.size]? = some (.cells #[.int .i64 1, .int .i64 a, .int .i64 b, .int .u32 (m : Int), .slice Do D.length dc, kv] 39 (0, 0)) := by
    rw [Below.heap_alloc _ _ _ (by simp)]; exact heap_alloc_new w _
  have HB2 := hide hb2
  have HI := hide i.h
  have HD0 := hide hDr
  clear i f1 hsr fb hb2 hDr
  go_enter Try.func15, Try.ntmps15
  go_wp2_with (at_builtin; refine wpList_app rfl (.tmp 16) (.tmp 18) 36 rfl 5 inf _ 1 1 Try.underlying36 hi0 hz0 hz1 hz2 rfl (by decide) (.slice (some ⟨w.heap.size + 1, 0, none⟩) 0 0) 0 [] rfl (.slice Do D.length dc) rfl D.length _ (unhide HO) (unhide HSR) (bvs_one _) (by omega) (by simp only [maxLen]; omega) ?_)
  intro ao4 ac4 w4 o4 g4 n4
  have f4 : Fr (fun _ => False) w ((w.alloc (Obj.cells #[.int .i64 1, .int .i64 a, .int .i64 b, .int .u32 (m : Int), .slice Do D.length dc, kv] 39)).alloc (Obj.cells #[] 5)) := ((Fr.refl _ _).alloc _).alloc _
  have g5 : Fr (fun k => k = w.heap.size + 1) ((w.alloc (Obj.cells #[.int .i64 1, .int .i64 a, .int .i64 b, .int .u32 (m : Int), .slice Do D.length dc, kv] 39)).alloc (Obj.cells #[] 5)) w4 := (Fr.refl _ _).grown g4 (fun k _ e => by simp [Value.ownBlock] at e; exact e.symm)
  have fw : Fr (fun _ => False) w w4 := f4.trans g5 (fun k hk e => by omega)
  have hb4 : w4.heap[w.heap.size]? = _ := (g5.block w.heap.size (lt_of_heap (unhide HB2)) (by omega)).trans (unhide HB2)
  have o5 : w4.ownsRow 0 5 1 (.slice ao4 D.length ac4) D.length (bvs D) := by simpa using o4
  have hpb : ∀ b, (Value.slice ao4 D.length ac4).ownBlock = some b → w.heap.size < b := by
    intro b hb
    have hb' : (Value.slice ao4 (0 + D.length) ac4).ownBlock = some b := by rw [Nat.zero_add]; exact hb
    rcases n4 with e | ⟨k', e, hk'⟩
    · first
        | (rw [e] at hb; simp [Value.ownBlock] at hb; omega)
        | (rw [e] at hb'; simp [Value.ownBlock] at hb'; omega)
    · first
        | (rw [e] at hb; simp at hb hk'; omega)
        | (rw [e] at hb'; simp at hb' hk'; omega)
  have H4 := hide ((unhide HI).fr fw)
  have M4 := hide (Mq.ofFr (p := p) (gs := gs) (q := q) (p2 := p2) (sg := sg) (hg := hg) (q2 := q2) fw)
  have A4 := hide (Ap.new (unhide HI) (Nat.le_refl w.heap.size) (lt_of_heap hb4))
  have HB4 := hide hb4
  have HO5 := hide o5
  have HPB := hide hpb
  clear o4 g4 n4 f4 g5 fw hb4 o5 hpb HB2 HSR HO
  go_wp2_with fail
  refine wp_world ?_
  intro w1 hw1
  rw [← hw1] at H4 M4 A4 HB4 HO5
  have H1 := H4
  have x1 := cell_of_heap (unhide HB4) 1
  have x4 := cell_of_heap (unhide HB4) 4
  simp at x1 x4
  have hbl : w.heap.size < w1.heap.size := lt_of_heap (unhide HB4)
  have hbn : ¬ (KB p gs q w.heap.size ∨ RB p2 sg hg q2 w.heap.size ∨ w1.heap.size ≤ w.heap.size) := fun e => by
    rcases e with e | e | e
    · exact (unhide A4).2.1 e
    · exact (unhide A4).2.2 e
    · omega
  have hpv := Rd.of_owns (unhide HO5)
  have hpl : ∀ b, (Value.slice ao4 D.length ac4).ownBlock = some b → b < w1.heap.size := fun b hb => by
    obtain ⟨cs, hc⟩ := owns_ty (unhide HO5) hb
    exact lt_of_heap hc
  have hap : ∀ b, (Value.slice ao4 D.length ac4).ownBlock = some b → Ap w1 p gs q p2 sg hg q2 b := fun b hb => Ap.new (unhide HI) (Nat.le_of_lt (unhide HPB b hb)) (hpl b hb)
  have hpn : ∀ b, (Value.slice ao4 D.length ac4).ownBlock = some b → ¬ (KB p gs q b ∨ RB p2 sg hg q2 b ∨ w1.heap.size ≤ b) := fun b hb e => by
    rcases e with e | e | e
    · exact (hap b hb).2.1 e
    · exact (hap b hb).2.2 e
    · have := hpl b hb; omega
  have HPV := hide hpv
  have hdv1 := (unhide HD0).kept (unhide H4).f (fun _ _ h => h)
  have HDV := hide hdv1
  have hdk : ∀ W, Fr (fun k => KB p gs q k ∨ RB p2 sg hg q2 k ∨ w1.heap.size ≤ k) w1 W → Rd W (.slice Do D.length dc) D := fun W f => by
    rcases unhide HD0 with h | ⟨ad, cap, hv, h1, h2, h3⟩
    · exact .inl h
    · refine .inr ⟨ad, cap, hv, h1, h2, fun j hj => ?_⟩
      have h0 := h3 j hj
      have hlt := World.block_lt_of_cell? _ _ h0
      have hA := Ap.old (unhide H4) hlt
      rw [f.cell hA.1 (fun e => by
        rcases e with e | e | e
        · exact hA.2.1 e
        · exact hA.2.2 e
        · have := hA.1; omega), (unhide H4).f.cell hlt id]
      exact h0
  clear hw1 hpv hdv1
  refine wp_nameK ?_
  intro a0 hA
  have h0 : a0.tmps.getD 0 undef = .pointer (some ⟨p, 0, none⟩) := by rw [hA]; rfl
  have h1 : a0.tmps.getD 1 undef = .pointer (some ⟨p2, 0, none⟩) := by rw [hA]; rfl
  have h5 : a0.tmps.getD 5 undef = .pointer (some ⟨w.heap.size, 0, none⟩) := by rw [hA]; rfl
  have h8 : a0.tmps.getD 8 undef = .slice ao4 D.length ac4 := by rw [hA]; rfl
  have hsz : a0.tmps.size = 138 := by rw [hA]; rfl
  have hdf : a0.defers = [] := by rw [hA]
  have HA0 := hide hA
  clear hA
  refine wp_region_kinds (fun k => KB p gs q k ∨ RB p2 sg hg q2 k ∨ w1.heap.size ≤ k) (by kernel_rfl) (by kernel_rfl) (by decide +kernel) (by rw [hsz]; decide +kernel) [.eq (.pointer (some ⟨p, 0, none⟩)), .eq (.pointer (some ⟨w.heap.size, 0 + 1, none⟩)), .eq (.int .i64 a), .eq (.slice ao4 D.length ac4), .eq (.int .i64 (wrE d a D)), .eq (.int .i64 (wrE d a D)), .eq (.pointer (some ⟨p2, 0, none⟩)), .eq (.pointer (some ⟨w.heap.size, 0 + 1, none⟩)), .eq (.int .i64 a), .eq (.pointer (some ⟨w.heap.size, 0 + 4, none⟩)), .eq (.slice Do D.length dc), .eq (.string (str D)), .eq (.int .i64 (wrE d a D)), .eq (.bool true), .eq (.bool true)] [4, 12] (by decide) (by decide) (paths2 (waits (by kernel_rfl))) (fun k W => match k with
      | 0 => Pq w0 W p gs q p2 sg hg q2 d d ∧ Mq w1 W p gs q p2 sg hg q2 q q2
      | 1 => ∃ q', Pq w0 W p gs q' p2 sg hg q2 (wrD d a D) d ∧ Mq w1 W p gs q p2 sg hg q2 q' q2
      | _ => ∃ q' q2', Pq w0 W p gs q' p2 sg hg q2' (wrD d a D) (wrD d a D) ∧ Mq w1 W p gs q p2 sg hg q2 q' q2') ⟨(unhide H1).fr ((Fr.refl _ _).drew), Mq.ofFr ((Fr.refl _ _).drew)⟩ ?steps ?done
  case steps =>
    refine ⟨?_, ?_⟩
    · intro a' w' k' hb hf hs hc hq hg hd
      exact ⟨wantedN rfl, k_val (.pointer (some ⟨p, 0, none⟩)) (by decide) hs (x_move rfl ((hb.old 0 (by decide +kernel)).trans h0)) rfl⟩
    refine ⟨?_, ?_⟩
    · intro a' w' k' hb hf hs hc hq hg hd
      exact ⟨wantedN rfl, k_val (.pointer (some ⟨w.heap.size, 0 + 1, none⟩)) (by decide) hs (x_field (fa39_1 w.heap.size) rfl ((hb.old 5 (by decide +kernel)).trans h5)) rfl⟩
    refine ⟨?_, ?_⟩
    · intro a' w' k' hb hf hs hc hq hg hd
      exact ⟨wantedN rfl, k_val (.int .i64 a) (by decide) hs (x_load1 ld3 rfl (hd 1 (by kernel_rfl) 21 rfl) ((hf.cell (a := ⟨w.heap.size, 1, none⟩) hbl hbn).trans x1)) rfl⟩
    refine ⟨?_, ?_⟩
    · intro a' w' k' hb hf hs hc hq hg hd
      exact ⟨wantedN rfl, k_val (.slice ao4 D.length ac4) (by decide) hs (x_move rfl ((hb.old 8 (by decide +kernel)).trans h8)) rfl⟩
    refine ⟨?_, ?_⟩
    · intro a' w' k' hb hf hs hc hq hg hd
      obtain rfl := hc 0 rfl; obtain ⟨h7, m7⟩ := hs; exact ⟨wantedN rfl, k_callC 27 _ (by decide) (e_call3 rfl rfl (hd 0 (by kernel_rfl) 20 rfl) (hd 2 (by kernel_rfl) 22 rfl) (hd 3 (by kernel_rfl) 23 rfl) cf27) ((wpa_any a _ D h7 ((unhide HPV).kept hf hpn)).mono (by rintro e w7 ⟨rfl, q8, h8, m8⟩; exact ⟨_, rfl, rfl, m8.toS (by have := hf.size; omega), q8, h8, m7.trans m8⟩))⟩
    refine ⟨?_, ?_⟩
    · intro a' w' k' hb hf hs hc hq hg hd
      exact ⟨wantedN rfl, k_call 14 _ (by decide) (e_call1 rfl rfl (hd 4 (by kernel_rfl) 24 rfl) cf14) ((num_any _ _).mono (by rintro e w7 ⟨rfl, rfl⟩; exact ⟨_, rfl, rfl, Fr.refl _ _, hs⟩))⟩
    refine ⟨?_, ?_⟩
    · intro a' w' k' hb hf hs hc hq hg hd
      exact ⟨wantedN rfl, k_val (.pointer (some ⟨p2, 0, none⟩)) (by decide) hs (x_move rfl ((hb.old 1 (by decide +kernel)).trans h1)) rfl⟩
    refine ⟨?_, ?_⟩
    · intro a' w' k' hb hf hs hc hq hg hd
      exact ⟨wantedN rfl, k_val (.pointer (some ⟨w.heap.size, 0 + 1, none⟩)) (by decide) hs (x_field (fa39_1 w.heap.size) rfl ((hb.old 5 (by decide +kernel)).trans h5)) rfl⟩
    refine ⟨?_, ?_⟩
    · intro a' w' k' hb hf hs hc hq hg hd
      exact ⟨wantedN rfl, k_val (.int .i64 a) (by decide) hs (x_load1 ld3 rfl (hd 7 (by kernel_rfl) 27 rfl) ((hf.cell (a := ⟨w.heap.size, 1, none⟩) hbl hbn).trans x1)) rfl⟩
    refine ⟨?_, ?_⟩
    · intro a' w' k' hb hf hs hc hq hg hd
      exact ⟨wantedN rfl, k_val (.pointer (some ⟨w.heap.size, 0 + 4, none⟩)) (by decide) hs (x_field (fa39_4 w.heap.size) rfl ((hb.old 5 (by decide +kernel)).trans h5)) rfl⟩
    refine ⟨?_, ?_⟩
    · intro a' w' k' hb hf hs hc hq hg hd
      exact ⟨wantedN rfl, k_val (.slice Do D.length dc) (by decide) hs (x_load1 ld36 rfl (hd 9 (by kernel_rfl) 29 rfl) ((hf.cell (a := ⟨w.heap.size, 4, none⟩) hbl hbn).trans x4)) rfl⟩
    refine ⟨?_, ?_⟩
    · intro a' w' k' hb hf hs hc hq hg hd
      exact ⟨wantedN rfl, k_val (.string (str D)) (by decide) hs (x_conv rfl (hd 10 (by kernel_rfl) 30 rfl) (conv_rd (P := Try.prog) (hdk _ hf) 36 9 5 Try.underlying36 Try.underlying5 Try.underlying9)) rfl⟩
    refine ⟨?_, ?_⟩
    · intro a' w' k' hb hf hs hc hq hg hd
      obtain rfl := hc 1 rfl; obtain ⟨q7, h7, m7⟩ := hs; exact ⟨wantedN rfl, k_callC 41 _ (by decide) (e_call3 rfl rfl (hd 6 (by kernel_rfl) 26 rfl) (hd 8 (by kernel_rfl) 28 rfl) (hd 11 (by kernel_rfl) 31 rfl) cf41) ((wra_any a D h7).mono (by rintro e w7 ⟨rfl, q8, h8, m8⟩; exact ⟨_, rfl, rfl, m8.toS2 m7, q7, q8, h8, m7.trans m8⟩))⟩
    refine ⟨?_, ?_⟩
    · intro a' w' k' hb hf hs hc hq hg hd
      exact ⟨wantedN rfl, k_val (.bool true) (by decide) hs (x_eqI Try.underlying3 rfl (hd 5 (by kernel_rfl) 25 rfl) (hd 12 (by kernel_rfl) 32 rfl) (by first | rfl | decide | simp)) rfl⟩
    refine ⟨?_, ?_⟩
    · intro a' w' k' hb hf hs hc hq hg hd
      exact ⟨wantedN rfl, k_val (.bool true) (by decide) hs (x_assign rfl (hd 13 (by kernel_rfl) 33 rfl)) rfl⟩
    exact trivial
  case done =>
    intro a' w' hb hf hs hall
    have hdf' : a'.defers = [] := by rw [hb.defers]; exact hdf
    have hfr := frame_eq (a := a') (vs := [.pointer (some ⟨p, 0, none⟩), .pointer (some ⟨p2, 0, none⟩), a0.tmps.getD 2 undef, a0.tmps.getD 3 undef, a0.tmps.getD 4 undef, .pointer (some ⟨w.heap.size, 0, none⟩), a0.tmps.getD 6 undef, a0.tmps.getD 7 undef, .slice ao4 D.length ac4, .bool true, a0.tmps.getD 10 undef, a0.tmps.getD 11 undef, a0.tmps.getD 12 undef, a0.tmps.getD 13 undef, a0.tmps.getD 14 undef, a0.tmps.getD 15 undef, a0.tmps.getD 16 undef, a0.tmps.getD 17 undef, a0.tmps.getD 18 undef, a0.tmps.getD 19 undef, .pointer (some ⟨p, 0, none⟩), .pointer (some ⟨w.heap.size, 0 + 1, none⟩), .int .i64 a, .slice ao4 D.length ac4, .int .i64 (wrE d a D), .int .i64 (wrE d a D), .pointer (some ⟨p2, 0, none⟩), .pointer (some ⟨w.heap.size, 0 + 1, none⟩), .int .i64 a, .pointer (some ⟨w.heap.size, 0 + 4, none⟩), .slice Do D.length dc, .string (str D), .int .i64 (wrE d a D), .bool true, a0.tmps.getD 34 undef, a0.tmps.getD 35 undef, a0.tmps.getD 36 undef, a0.tmps.getD 37 undef, a0.tmps.getD 38 undef, a0.tmps.getD 39 undef, a0.tmps.getD 40 undef, a0.tmps.getD 41 undef, a0.tmps.getD 42 undef, a0.tmps.getD 43 undef, a0.tmps.getD 44 undef, a0.tmps.getD 45 undef, a0.tmps.getD 46 undef, a0.tmps.getD 47 undef, a0.tmps.getD 48 undef, a0.tmps.getD 49 undef, a0.tmps.getD 50 undef, a0.tmps.getD 51 undef, a0.tmps.getD 52 undef, a0.tmps.getD 53 undef, a0.tmps.getD 54 undef, a0.tmps.getD 55 undef, a0.tmps.getD 56 undef, a0.tmps.getD 57 undef, a0.tmps.getD 58 undef, a0.tmps.getD 59 undef, a0.tmps.getD 60 undef, a0.tmps.getD 61 undef, a0.tmps.getD 62 undef, a0.tmps.getD 63 undef, a0.tmps.getD 64 undef, a0.tmps.getD 65 undef, a0.tmps.getD 66 undef, a0.tmps.getD 67 undef, a0.tmps.getD 68 undef, a0.tmps.getD 69 undef, a0.tmps.getD 70 undef, a0.tmps.getD 71 undef, a0.tmps.getD 72 undef, a0.tmps.getD 73 undef, a0.tmps.getD 74 undef, a0.tmps.getD 75 undef, a0.tmps.getD 76 undef, a0.tmps.getD 77 undef, a0.tmps.getD 78 undef, a0.tmps.getD 79 undef, a0.tmps.getD 80 undef, a0.tmps.getD 81 undef, a0.tmps.getD 82 undef, a0.tmps.getD 83 undef, a0.tmps.getD 84 undef, a0.tmps.getD 85 undef, a0.tmps.getD 86 undef, a0.tmps.getD 87 undef, a0.tmps.getD 88 undef, a0.tmps.getD 89 undef, a0.tmps.getD 90 undef, a0.tmps.getD 91 undef, a0.tmps.getD 92 undef, a0.tmps.getD 93 undef, a0.tmps.getD 94 undef, a0.tmps.getD 95 undef, a0.tmps.getD 96 undef, a0.tmps.getD 97 undef, a0.tmps.getD 98 undef, a0.tmps.getD 99 undef, a0.tmps.getD 100 undef, a0.tmps.getD 101 undef, a0.tmps.getD 102 undef, a0.tmps.getD 103 undef, a0.tmps.getD 104 undef, a0.tmps.getD 105 undef, a0.tmps.getD 106 undef, a0.tmps.getD 107 undef, a0.tmps.getD 108 undef, a0.tmps.getD 109 undef, a0.tmps.getD 110 undef, a0.tmps.getD 111 undef, a0.tmps.getD 112 undef, a0.tmps.getD 113 undef, a0.tmps.getD 114 undef, a0.tmps.getD 115 undef, a0.tmps.getD 116 undef, a0.tmps.getD 117 undef, a0.tmps.getD 118 undef, a0.tmps.getD 119 undef, a0.tmps.getD 120 undef, a0.tmps.getD 121 undef, a0.tmps.getD 122 undef, a0.tmps.getD 123 undef, a0.tmps.getD 124 undef, a0.tmps.getD 125 undef, a0.tmps.getD 126 undef, a0.tmps.getD 127 undef, a0.tmps.getD 128 undef, a0.tmps.getD 129 undef, a0.tmps.getD 130 undef, a0.tmps.getD 131 undef, a0.tmps.getD 132 undef, a0.tmps.getD 133 undef, a0.tmps.getD 134 undef, a0.tmps.getD 135 undef, a0.tmps.getD 136 undef, a0.tmps.getD 137 undef]) (by rw [hb.size, hsz]; rfl) hdf' ⟨((hb.old 0 (by decide +kernel)).trans h0), ((hb.old 1 (by decide +kernel)).trans h1), (hb.old 2 (by decide +kernel)), (hb.old 3 (by decide +kernel)), (hb.old 4 (by decide +kernel)), ((hb.old 5 (by decide +kernel)).trans h5), (hb.old 6 (by decide +kernel)), (hb.old 7 (by decide +kernel)), ((hb.old 8 (by decide +kernel)).trans h8), (show a'.tmps.getD 9 undef = .bool true from hall 14 (by decide) 9 rfl), (hb.old 10 (by decide +kernel)), (hb.old 11 (by decide +kernel)), (hb.old 12 (by decide +kernel)), (hb.old 13 (by decide +kernel)), (hb.old 14 (by decide +kernel)), (hb.old 15 (by decide +kernel)), (hb.old 16 (by decide +kernel)), (hb.old 17 (by decide +kernel)), (hb.old 18 (by decide +kernel)), (hb.old 19 (by decide +kernel)), (show a'.tmps.getD 20 undef = .pointer (some ⟨p, 0, none⟩) from hall 0 (by decide) 20 rfl), (show a'.tmps.getD 21 undef = .pointer (some ⟨w.heap.size, 0 + 1, none⟩) from hall 1 (by decide) 21 rfl), (show a'.tmps.getD 22 undef = .int .i64 a from hall 2 (by decide) 22 rfl), (show a'.tmps.getD 23 undef = .slice ao4 D.length ac4 from hall 3 (by decide) 23 rfl), (show a'.tmps.getD 24 undef = .int .i64 (wrE d a D) from hall 4 (by decide) 24 rfl), (show a'.tmps.getD 25 undef = .int .i64 (wrE d a D) from hall 5 (by decide) 25 rfl), (show a'.tmps.getD 26 undef = .pointer (some ⟨p2, 0, none⟩) from hall 6 (by decide) 26 rfl), (show a'.tmps.getD 27 undef = .pointer (some ⟨w.heap.size, 0 + 1, none⟩) from hall 7 (by decide) 27 rfl), (show a'.tmps.getD 28 undef = .int .i64 a from hall 8 (by decide) 28 rfl), (show a'.tmps.getD 29 undef = .pointer (some ⟨w.heap.size, 0 + 4, none⟩) from hall 9 (by decide) 29 rfl), (show a'.tmps.getD 30 undef = .slice Do D.length dc from hall 10 (by decide) 30 rfl), (show a'.tmps.getD 31 undef = .string (str D) from hall 11 (by decide) 31 rfl), (show a'.tmps.getD 32 undef = .int .i64 (wrE d a D) from hall 12 (by decide) 32 rfl), (show a'.tmps.getD 33 undef = .bool true from hall 13 (by decide) 33 rfl), (hb.old 34 (by decide +kernel)), (hb.old 35 (by decide +kernel)), (hb.old 36 (by decide +kernel)), (hb.old 37 (by decide +kernel)), (hb.old 38 (by decide +kernel)), (hb.old 39 (by decide +kernel)), (hb.old 40 (by decide +kernel)), (hb.old 41 (by decide +kernel)), (hb.old 42 (by decide +kernel)), (hb.old 43 (by decide +kernel)), (hb.old 44 (by decide +kernel)), (hb.old 45 (by decide +kernel)), (hb.old 46 (by decide +kernel)), (hb.old 47 (by decide +kernel)), (hb.old 48 (by decide +kernel)), (hb.old 49 (by decide +kernel)), (hb.old 50 (by decide +kernel)), (hb.old 51 (by decide +kernel)), (hb.old 52 (by decide +kernel)), (hb.old 53 (by decide +kernel)), (hb.old 54 (by decide +kernel)), (hb.old 55 (by decide +kernel)), (hb.old 56 (by decide +kernel)), (hb.old 57 (by decide +kernel)), (hb.old 58 (by decide +kernel)), (hb.old 59 (by decide +kernel)), (hb.old 60 (by decide +kernel)), (hb.old 61 (by decide +kernel)), (hb.old 62 (by decide +kernel)), (hb.old 63 (by decide +kernel)), (hb.old 64 (by decide +kernel)), (hb.old 65 (by decide +kernel)), (hb.old 66 (by decide +kernel)), (hb.old 67 (by decide +kernel)), (hb.old 68 (by decide +kernel)), (hb.old 69 (by decide +kernel)), (hb.old 70 (by decide +kernel)), (hb.old 71 (by decide +kernel)), (hb.old 72 (by decide +kernel)), (hb.old 73 (by decide +kernel)), (hb.old 74 (by decide +kernel)), (hb.old 75 (by decide +kernel)), (hb.old 76 (by decide +kernel)), (hb.old 77 (by decide +kernel)), (hb.old 78 (by decide +kernel)), (hb.old 79 (by decide +kernel)), (hb.old 80 (by decide +kernel)), (hb.old 81 (by decide +kernel)), (hb.old 82 (by decide +kernel)), (hb.old 83 (by decide +kernel)), (hb.old 84 (by decide +kernel)), (hb.old 85 (by decide +kernel)), (hb.old 86 (by decide +kernel)), (hb.old 87 (by decide +kernel)), (hb.old 88 (by decide +kernel)), (hb.old 89 (by decide +kernel)), (hb.old 90 (by decide +kernel)), (hb.old 91 (by decide +kernel)), (hb.old 92 (by decide +kernel)), (hb.old 93 (by decide +kernel)), (hb.old 94 (by decide +kernel)), (hb.old 95 (by decide +kernel)), (hb.old 96 (by decide +kernel)), (hb.old 97 (by decide +kernel)), (hb.old 98 (by decide +kernel)), (hb.old 99 (by decide +kernel)), (hb.old 100 (by decide +kernel)), (hb.old 101 (by decide +kernel)), (hb.old 102 (by decide +kernel)), (hb.old 103 (by decide +kernel)), (hb.old 104 (by decide +kernel)), (hb.old 105 (by decide +kernel)), (hb.old 106 (by decide +kernel)), (hb.old 107 (by decide +kernel)), (hb.old 108 (by decide +kernel)), (hb.old 109 (by decide +kernel)), (hb.old 110 (by decide +kernel)), (hb.old 111 (by decide +kernel)), (hb.old 112 (by decide +kernel)), (hb.old 113 (by decide +kernel)), (hb.old 114 (by decide +kernel)), (hb.old 115 (by decide +kernel)), (hb.old 116 (by decide +kernel)), (hb.old 117 (by decide +kernel)), (hb.old 118 (by decide +kernel)), (hb.old 119 (by decide +kernel)), (hb.old 120 (by decide +kernel)), (hb.old 121 (by decide +kernel)), (hb.old 122 (by decide +kernel)), (hb.old 123 (by decide +kernel)), (hb.old 124 (by decide +kernel)), (hb.old 125 (by decide +kernel)), (hb.old 126 (by decide +kernel)), (hb.old 127 (by decide +kernel)), (hb.old 128 (by decide +kernel)), (hb.old 129 (by decide +kernel)), (hb.old 130 (by decide +kernel)), (hb.old 131 (by decide +kernel)), (hb.old 132 (by decide +kernel)), (hb.old 133 (by decide +kernel)), (hb.old 134 (by decide +kernel)), (hb.old 135 (by decide +kernel)), (hb.old 136 (by decide +kernel)), (hb.old 137 (by decide +kernel)), trivial⟩
    obtain ⟨q8, q9, h8, m8⟩ := hs
    have H8 := hide h8
    have M8 := hide ((unhide M4).trans m8)
    have F8 := hide hf
    have o8 := owns_kept (unhide HO5) hf hpn
    have HO8 := hide o8
    have A8 : Hid (∀ b, (Value.slice ao4 D.length ac4).ownBlock = some b → Ap w' p gs q8 p2 sg hg q9 b) := hide (fun b hb => (hap b hb).mv m8)
    clear hall hb hf h8 m8 o8
    subst hfr
    rw [unhide HA0]
    clear HA0 h0 h1 h5 h8 hsz hdf hdf'
    apply_assumption
    go_wp2_with fail
    by_cases hD0 : 0 < D.length
    · obtain ⟨g, cap, cur, hv, -, hg8, hnc, hcm, hcs, -⟩ := ((unhide HO8).2).resolve_left (fun h => by have := h.2; omega)
      simp only [Value.slice.injEq] at hv
      obtain ⟨rfl, -, rfl⟩ := hv
      have hAg := unhide A8 g rfl
      have hgw : w.heap.size < g := unhide HPB g rfl
      have HG8 := hide hg8
      rw [Nat.mul_one] at hcs
      clear hg8
      go_loopw [10] (fun y W => ∃ j : Nat, j ≤ D.length ∧ y = .int .i64 (j : Int) ∧ (∃ cu : Array Value, cu.size = ac4 ∧ W.heap[g]? = some (.cells cu 5 (0, 0))) ∧ Fr (fun k => k = g) w' W) (fun y _ => D.length - (intOf y).toNat)
      case atStart => exact ⟨0, by omega, rfl, ⟨cur, hcs, unhide HG8⟩, Fr.refl _ _⟩
      case round =>
        obtain ⟨j, hj, rfl, ⟨cu, hcu, hG⟩, hf⟩ := hrel
        by_cases hlt : j < D.length
        · have hjc : j < cu.size := by omega
          have y1 := cell_of_heap hG j
          rw [Array.getElem?_eq_getElem hjc] at y1
          have z1 := frozen_of_heap hG j
          have HS := hide (heap_setCell_same _ g j _ 5 (.int .u8 63) hG)
          have HF := hide (hf.setCell (p := ⟨g, j, none⟩) (fun _ => rfl) (.int .u8 63))
          have HC := hide hcu
          have hjac : j < ac4 := by omega
          generalize cu[j] = oc at y1
          clear hG hf hcu
          go_wp2_with fail
          go_roundw
          case rel => exact ⟨j + 1, by omega, by go_num, ⟨_, by simpa using unhide HC, unhide HS⟩, unhide HF⟩
          case measure => simp [intOf]; omega
        · have HF := hide hf
          clear hG hf
          go_wp2_with fail
          go_ret2
          exact ⟨rfl, q8, q9, (unhide H8).kept (unhide HF) (fun b hb => by subst hb; exact ⟨hAg.2.1, hAg.2.2, by have := (unhide HI).f.size; omega⟩), (unhide M8).side (unhide HF) (fun b hb => by omega)⟩
    · have hD0' : D.length = 0 := by omega
      go_loopw [10] (fun y W => y = .int .i64 0 ∧ w' = W) (fun _ _ => 0)
      case atStart => exact ⟨rfl, rfl⟩
      case round =>
        obtain ⟨rfl, rfl⟩ := hrel
        have b0 : decide ((0 : Int) < (D.length : Int)) = false := decide_eq_false (by omega)
        have b0n : D = [] := List.eq_nil_of_length_eq_zero hD0'
        clear hD0 hD0'
        go_wp2_with fail
        go_ret2
        exact ⟨rfl, q8, q9, unhide H8, unhide M8⟩

/-- Acts, but for copies. -/
theorem act_any (i : AcI w0 w p gs q p2 sg hg q2 d m dv kv D K) (k8 : k ≠ 8) : Calls Try.prog 15 #[.pointer (some ⟨p, 0, none⟩), .pointer (some ⟨p2, 0, none⟩), .agg #[.int .i64 k, .int .i64 a, .int .i64 b, .int .u32 (m : Int), dv, kv]] w fun r w' => r = .returned (.tuple #[.pointer (some ⟨p, 0, none⟩), .bool true]) ∧ AcO w0 w p gs q p2 sg hg q2 w' (acD d k a b m D K) := by
  unfold acD
  by_cases k1 : k = 1
  · subst k1; rw [if_pos rfl]; exact act_write w0 w p gs q p2 sg hg q2 d a b m dv kv D K i
  rw [if_neg k1]
  by_cases k2 : k = 2
  · subst k2; rw [if_pos rfl]; exact act_flush w0 w p gs q p2 sg hg q2 d a b m dv kv D K i
  rw [if_neg k2]
  by_cases k3 : k = 3
  · subst k3; rw [if_pos rfl]; exact act_crash w0 w p gs q p2 sg hg q2 d a b m dv kv D K i
  rw [if_neg k3]
  by_cases k4 : k = 4
  · subst k4; rw [if_pos rfl]; exact act_fail w0 w p gs q p2 sg hg q2 d a b m dv kv D K i
  rw [if_neg k4]
  by_cases k5 : k = 5
  · subst k5; rw [if_pos rfl]; exact act_replace w0 w p gs q p2 sg hg q2 d a b m dv kv D K i
  rw [if_neg k5]
  by_cases k6 : k = 6
  · subst k6; rw [if_pos rfl]; exact act_lose w0 w p gs q p2 sg hg q2 d a b m dv kv D K i
  rw [if_neg k6]
  by_cases k7 : k = 7
  · subst k7; rw [if_pos rfl]; exact act_turn w0 w p gs q p2 sg hg q2 d a b m dv kv D K i
  rw [if_neg k7]
  exact act_other w0 w p gs q p2 sg hg q2 d k a b m dv kv D K i k1 k2 k3 k4 k5 k6 k7 k8
end
end Go.Proofs.Ytdhendcogjhgfaa

