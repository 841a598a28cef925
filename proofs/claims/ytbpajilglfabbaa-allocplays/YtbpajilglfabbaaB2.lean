/-
  The walk of Copy.
-/
import Derived.Test.YtbpajilglfabbaaB1
namespace Go.Proofs.Ytbpajilglfabbaa
open Go.RowKit
set_option linter.unusedVariables false

attribute [local go_sem ↓] Go.wp_at_zero Go.wp_at_succ

theorem owns_open {w : World} {e : TypeId} {ao : Option Addr} {n c : Nat} {xs : List Value} (h : w.ownsRow 0 e 1 (.slice ao n c) n xs) (h1 : 1 ≤ n) : ∃ g x, ao = some ⟨g, 0, none⟩ ∧ c = n + List.length x ∧ w.heap[g]? = some (.cells (xs ++ x).toArray e (0, 0)) ∧ c ≤ maxLen := by
  rcases h.2 with ⟨hv, hn⟩ | ⟨g, cap, cur, hv, hb, hg, hnc, hcm, hcs, htake⟩
  · omega
  · simp only [Value.slice.injEq] at hv
    obtain ⟨rfl, -, rfl⟩ := hv
    rw [Nat.mul_one] at hcs htake
    refine ⟨g, cur.toList.drop n, rfl, by simp; omega, ?_, hcm⟩
    rw [← htake, List.take_append_drop]
    simpa using hg

theorem clone_new {w : World} (e : TypeId) {b : Nat} (hb : w.heap[b]? = some (.cells #[] e (0, 0))) : w.ownsRow 0 e 1 (.slice (some ⟨b, 0, none⟩) 0 0) 0 [] :=
  ⟨rfl, .inr ⟨b, 0, #[], rfl, Nat.zero_le _, hb, Nat.le_refl _, by simp [maxLen], rfl, rfl⟩⟩

section
variable (w : World) (q n cq : Nat) (xs rest : List Value)

/-- What a clone leaves. -/
def CEnd (w : World) (t : TypeId) (n : Nat) (xs : List Value) (e : Ending) (w' : World) : Prop :=
  ∃ g x, e = .returned (.slice (some ⟨g, 0, none⟩) n (n + List.length x)) ∧ w'.heap[g]? = some (.cells (xs ++ x).toArray t (0, 0)) ∧ n + x.length ≤ maxLen ∧ w.heap.size ≤ g ∧ Fr (fun _ => False) w w'

theorem row_sr {w : World} {t : TypeId} (h : w.heap[q]? = some (.cells (xs ++ rest).toArray t (0, 0))) (hn : xs.length = n) : Sr w 1 (.slice (some ⟨q, 0, none⟩) n cq) n xs := by
  refine .inr ⟨_, _, rfl, by omega, fun j u hu => ?_⟩
  have hj := (List.getElem?_eq_some_iff.1 hu).1
  rw [Addr.add_lit, Nat.zero_add, cell_of_heap h, List.getElem?_toArray, List.getElem?_append_left hj]
  exact hu

set_option maxRecDepth 100000 in
theorem clone8_any (h : w.heap[q]? = some (.cells (xs ++ rest).toArray 5 (0, 0))) (hn : xs.length = n) (h1 : 1 ≤ n) (h2 : n ≤ 65536) (hone : ∀ u ∈ xs, u.oneCell' = true) : Calls Try.prog 65 #[.slice (some ⟨q, 0, none⟩) n cq] w fun e w' => CEnd w 5 n xs e w' := by
  obtain ⟨inf, hi0, hz0, hz1, hz2⟩ := info_parts Try.info5
  have heq : (binOp .eql 22 (.slice (some ⟨q, 0, none⟩) n cq) (.slice none 0 0)).run Try.prog w = .ok (.bool false) w := Lib.run_eql_slice_nil w 22 5 _ _ _ _ _ Try.underlying22
  have hsr := row_sr q n cq xs rest (w := w.alloc (.cells #[] 5)) (by rw [Below.heap_alloc _ _ _ (lt_of_heap h)]; exact h) hn
  have HSR := hide hsr
  have HO := hide hone
  have H1 := hide h1
  clear h hn hsr hone h1
  go_enter Try.func65, Try.ntmps65
  go_wp2_with (at_builtin; refine wpList_app rfl (.tmp 5) (.tmp 6) 22 rfl 5 inf _ 1 1 Try.underlying22 hi0 hz0 hz1 hz2 rfl (by decide) (.slice (some ⟨w.heap.size, 0, none⟩) 0 0) 0 [] rfl (.slice (some ⟨q, 0, none⟩) n cq) rfl n xs (clone_new 5 (heap_alloc_new _ _)) (unhide HSR) (unhide HO) (by omega) (by simp only [maxLen]; omega) ?_)
  intro ao c w2 o2 g2 p2
  obtain ⟨g, x, rfl, rfl, hg, hm⟩ := owns_open o2 (unhide H1)
  have HG : Hid (w2.heap[g]? = some (.cells (xs ++ x).toArray 5 (0, 0))) := hide hg
  have HM := hide hm
  have HP : Hid (w.heap.size ≤ g) := hide (by
    rcases p2 with e | ⟨k, e, hk⟩
    · simp [Value.ownBlock] at e; omega
    · simp [Value.ownBlock] at e; omega)
  have F2 := hide (((Fr.refl (fun _ => False) w).alloc (.cells #[] 5)).grown g2 (fun k hk e => by simp [Value.ownBlock] at e; omega))
  clear o2 g2 p2 hg hm
  go_wp2_with fail
  go_ret
  exact ⟨g, x, rfl, unhide HG, unhide HM, unhide HP, unhide F2⟩

set_option maxRecDepth 100000 in
theorem clone64_any (h : w.heap[q]? = some (.cells (xs ++ rest).toArray 73 (0, 0))) (hn : xs.length = n) (h1 : 1 ≤ n) (h2 : n ≤ 65536) (hone : ∀ u ∈ xs, u.oneCell' = true) : Calls Try.prog 66 #[.slice (some ⟨q, 0, none⟩) n cq] w fun e w' => CEnd w 73 n xs e w' := by
  obtain ⟨inf, hi0, hz0, hz1, hz2⟩ := info_parts Try.info73
  have heq : (binOp .eql 72 (.slice (some ⟨q, 0, none⟩) n cq) (.slice none 0 0)).run Try.prog w = .ok (.bool false) w := Lib.run_eql_slice_nil w 72 73 _ _ _ _ _ Try.underlying72
  have hsr := row_sr q n cq xs rest (w := w.alloc (.cells #[] 73)) (by rw [Below.heap_alloc _ _ _ (lt_of_heap h)]; exact h) hn
  have HSR := hide hsr
  have HO := hide hone
  have H1 := hide h1
  clear h hn hsr hone h1
  go_enter Try.func66, Try.ntmps66
  go_wp2_with (at_builtin; refine wpList_app rfl (.tmp 5) (.tmp 6) 72 rfl 73 inf _ 1 8 Try.underlying72 hi0 hz0 hz1 hz2 rfl (by decide) (.slice (some ⟨w.heap.size, 0, none⟩) 0 0) 0 [] rfl (.slice (some ⟨q, 0, none⟩) n cq) rfl n xs (clone_new 73 (heap_alloc_new _ _)) (unhide HSR) (unhide HO) (by omega) (by simp only [maxLen]; omega) ?_)
  intro ao c w2 o2 g2 p2
  obtain ⟨g, x, rfl, rfl, hg, hm⟩ := owns_open o2 (unhide H1)
  have HG : Hid (w2.heap[g]? = some (.cells (xs ++ x).toArray 73 (0, 0))) := hide hg
  have HM := hide hm
  have HP : Hid (w.heap.size ≤ g) := hide (by
    rcases p2 with e | ⟨k, e, hk⟩
    · simp [Value.ownBlock] at e; omega
    · simp [Value.ownBlock] at e; omega)
  have F2 := hide (((Fr.refl (fun _ => False) w).alloc (.cells #[] 73)).grown g2 (fun k hk e => by simp [Value.ownBlock] at e; omega))
  clear o2 g2 p2 hg hm
  go_wp2_with fail
  go_ret
  exact ⟨g, x, rfl, unhide HG, unhide HM, unhide HP, unhide F2⟩
end

theorem uvs_one (l : List Nat) : ∀ u ∈ uvs l, u.oneCell' = true := by
  intro u hu
  obtain ⟨_, _, rfl⟩ := List.mem_map.1 hu
  rfl

section
variable (w : World) (p : Nat) (X : Ly) (K : Kc)

set_option maxHeartbeats 1000000 in
theorem copy_any (H : KA w p X K) : Calls Try.prog 37 #[ptr p] w fun e w' => (∃ p' X', e = .returned (ptr p') ∧ KA w' p' X' K ∧ ∀ k, Bl p' X' k → w.heap.size ≤ k) ∧ Fr (fun _ => False) w w' := by
  have c0 := H.c0
  have c1 := H.c1
  have c2 := H.c2
  have c3 := H.c3
  have c4 := H.c4
  have c5 := H.c5
  have hpl := lt_of_heap H.hd
  have hn1 := H.n1
  have hn2 := H.n2
  have HC8 : Hid (∀ W, Fr (fun _ => False) w W → Calls Try.prog 65 #[.slice (some ⟨X.q, 0, none⟩) K.s.length (K.s.length + X.xq.length)] W fun e w' => CEnd W 5 K.s.length (bvs K.s) e w') := hide (fun W f => clone8_any W X.q _ _ (bvs K.s) X.xq (H.kept f (fun _ _ h => h)).st (bvs_length _) hn1 hn2 (bvs_one _))
  have HC6 : Hid (∀ W, Fr (fun _ => False) w W → Calls Try.prog 66 #[.slice (some ⟨X.u, 0, none⟩) K.s.length (K.s.length + X.xu.length)] W fun e w' => CEnd W 73 K.s.length (uvs K.c) e w') := hide (fun W f => clone64_any W X.u _ _ (uvs K.c) X.xu (H.kept f (fun _ _ h => h)).cm ((uvs_length _).trans H.cl) hn1 hn2 (uvs_one _))
  have HH := hide H
  have hfr : Fr (fun _ => False) w (w.alloc (.cells (hdC X K.s.length K).toArray 75)) := (Fr.refl _ _).alloc _
  have hnw : (w.alloc (.cells (hdC X K.s.length K).toArray 75)).heap[w.heap.size]? = some (.cells (hdC X K.s.length K).toArray 75 (0, 0)) := heap_alloc_new w _
  have hsz : (w.alloc (.cells (hdC X K.s.length K).toArray 75)).heap.size = w.heap.size + 1 := by simp
  have e0 : (hdC X K.s.length K).toArray = #[.slice (some ⟨X.q, 0, none⟩) K.s.length (K.s.length + X.xq.length), .slice (some ⟨X.u, 0, none⟩) K.s.length (K.s.length + X.xu.length), .int .u64 (K.ch : Int), .int .i64 (fr K.s : Int), .int .i64 (K.r : Int), .int .i64 (K.h : Int)] := rfl
  rw [e0] at hfr hnw hsz
  obtain ⟨n, hn⟩ : ∃ n, n = K.s.length := ⟨_, rfl⟩
  rw [← hn] at c0 c1 HC8 HC6 hfr hnw hsz
  obtain ⟨cq, hcq⟩ : ∃ c, c = n + X.xq.length := ⟨_, rfl⟩
  obtain ⟨cu, hcu⟩ : ∃ c, c = n + X.xu.length := ⟨_, rfl⟩
  rw [← hcq] at c0 HC8 hfr hnw hsz
  rw [← hcu] at c1 HC6 hfr hnw hsz
  have HN := hide hn
  have HFR := hide hfr
  have HNW := hide hnw
  have HSZ := hide hsz
  have hne : p ≠ w.heap.size := by omega
  have HPL := hide hpl
  clear H hn hcq hcu hfr hnw hsz e0 hn1 hn2
  unfold ptr
  go_enter Try.func37, Try.ntmps37
  go_wp2_with fail
  refine (unhide HC8 _ (unhide HFR)).mono ?_
  rintro e w2 ⟨g, x, rfl, hg, hgm, hgs, f2⟩
  have HG := hide hg
  have HGM := hide hgm
  have HGS := hide hgs
  have hp2 : w2.heap[w.heap.size]? = some (.cells [.slice (some ⟨X.q, 0, none⟩) n cq, .slice (some ⟨X.u, 0, none⟩) n cu, .int .u64 (K.ch : Int), .int .i64 (fr K.s : Int), .int .i64 (K.r : Int), .int .i64 (K.h : Int)].toArray 75 (0, 0)) := by
    rw [f2.block _ (by have := unhide HSZ; omega) id]; exact unhide HNW
  have HP2 := hide hp2
  have HF2 := hide ((unhide HFR).trans f2 (fun _ _ h => h))
  have z0 := frozen_of_heap hp2 0
  have d0 : w2.cell? ⟨w.heap.size, 0, none⟩ = some (.slice (some ⟨X.q, 0, none⟩) n cq) := by rw [cell_of_heap hp2]; rfl
  have c1' : w2.cell? ⟨p, 1, none⟩ = some (.slice (some ⟨X.u, 0, none⟩) n cu) := ((unhide HF2).cell (a := ⟨p, 1, none⟩) (unhide HPL) id).trans c1
  have HF3 : Hid (Fr (fun _ => False) w (w2.setCell ⟨w.heap.size, 0, none⟩ (.slice (some ⟨g, 0, none⟩) n (n + x.length)))) := hide ((unhide HF2).setCell (p := ⟨w.heap.size, 0, none⟩) (fun h => absurd h (Nat.lt_irrefl _)) _)
  have HP3 : Hid ((w2.setCell ⟨w.heap.size, 0, none⟩ (.slice (some ⟨g, 0, none⟩) n (n + x.length))).heap[w.heap.size]? = some (.cells [.slice (some ⟨g, 0, none⟩) n (n + x.length), .slice (some ⟨X.u, 0, none⟩) n cu, .int .u64 (K.ch : Int), .int .i64 (fr K.s : Int), .int .i64 (K.r : Int), .int .i64 (K.h : Int)].toArray 75 (0, 0))) := hide (heapC_set hp2 0 _)
  have HG3 : Hid ((w2.setCell ⟨w.heap.size, 0, none⟩ (.slice (some ⟨g, 0, none⟩) n (n + x.length))).heap[g]? = some (.cells (bvs K.s ++ x).toArray 5 (0, 0))) := hide (heapC_other hg (by have := unhide HSZ; omega) _ _)
  generalize hgc : n + x.length = gc at *
  have HGC := hide hgc
  clear hg hgm hgs f2 hp2 hgc
  go_wp2_with fail
  refine (unhide HC6 _ (unhide HF3)).mono ?_
  rintro e w4 ⟨g4, x4, rfl, hg4, hgm4, hgs4, f4⟩
  have hp4 := unhide HP3
  rw [← f4.block _ (lt_of_heap hp4) id] at hp4
  have hG4 := unhide HG3
  rw [← f4.block _ (lt_of_heap hG4) id] at hG4
  have z1 := frozen_of_heap hp4 1
  have d1 : w4.cell? ⟨w.heap.size, 1, none⟩ = some (.slice (some ⟨X.u, 0, none⟩) n cu) := by rw [cell_of_heap hp4]; rfl
  have hs3 := (unhide HF3).size
  have hlt3 := lt_of_heap (unhide HP3)
  have HP5 : Hid ((w4.setCell ⟨w.heap.size, 1, none⟩ (.slice (some ⟨g4, 0, none⟩) n (n + x4.length))).heap[w.heap.size]? = some (.cells [.slice (some ⟨g, 0, none⟩) n gc, .slice (some ⟨g4, 0, none⟩) n (n + x4.length), .int .u64 (K.ch : Int), .int .i64 (fr K.s : Int), .int .i64 (K.r : Int), .int .i64 (K.h : Int)].toArray 75 (0, 0))) := hide (heapC_set hp4 1 _)
  have HG5 : Hid ((w4.setCell ⟨w.heap.size, 1, none⟩ (.slice (some ⟨g4, 0, none⟩) n (n + x4.length))).heap[g]? = some (.cells (bvs K.s ++ x).toArray 5 (0, 0))) := hide (heapC_other hG4 (by have := unhide HGS; have := unhide HSZ; omega) _ _)
  have HU5 : Hid ((w4.setCell ⟨w.heap.size, 1, none⟩ (.slice (some ⟨g4, 0, none⟩) n (n + x4.length))).heap[g4]? = some (.cells (uvs K.c ++ x4).toArray 73 (0, 0))) := hide (heapC_other hg4 (by omega) _ _)
  have HF5 : Hid (Fr (fun _ => False) w (w4.setCell ⟨w.heap.size, 1, none⟩ (.slice (some ⟨g4, 0, none⟩) n (n + x4.length)))) := hide (((unhide HF3).trans f4 (fun _ _ h => h)).setCell (p := ⟨w.heap.size, 1, none⟩) (fun h => absurd h (Nat.lt_irrefl _)) _)
  have HM4 := hide hgm4
  have HL4 : Hid (w.heap.size ≤ g4) := hide (by omega)
  clear hp4 hG4 hg4 hgm4 hgs4 f4 hs3 hlt3
  go_wp2_with fail
  go_ret
  have hN := unhide HN
  have H := unhide HH
  refine ⟨⟨w.heap.size, ⟨g, g4, x, x4⟩, rfl, ⟨?_, unhide HG5, unhide HU5, H.cl, H.n1, H.n2, ?_, ?_, H.cb, H.hb, H.rb⟩, ?_⟩, unhide HF5⟩
  · have := unhide HP5
    rw [← unhide HGC, hN] at this
    rw [← hN]
    rw [← hN] at this
    exact this
  · have h1 := unhide HGM; have h2 := unhide HGC; rw [← hN]; show n + x.length ≤ maxLen; omega
  · have := unhide HM4; rw [← hN]; exact this
  · have h1 := unhide HGS
    have h2 := unhide HSZ
    have h3 := unhide HL4
    rintro k (h | h | h)
    · omega
    · have h : k = g := h
      omega
    · have h : k = g4 := h
      omega
end
end Go.Proofs.Ytbpajilglfabbaa
