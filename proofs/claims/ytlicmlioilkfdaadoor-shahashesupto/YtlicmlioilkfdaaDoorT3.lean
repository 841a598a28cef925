/-
  Trees: the document's digest over two.
-/
import Derived.Test.YtlicmlioilkfdaaDoorT2
namespace Go.Proofs.YtlicmlioilkfdaaDoor
open Go.RowKit
set_option linter.unusedVariables false
set_option linter.unusedSimpArgs false

attribute [local go_sem ↓] Go.wp_at_zero Go.wp_at_succ

theorem step_store {P : Program} {w : World} {ops : Array Oper} {o : Oper} {a : Act} {K : Act → World → Prop} {Q : Exit → Act → World → Prop} {E : Prop} (hgd : o.guard = none) (hdst : o.dst = none) (ty : TypeId) (x y : Operand) (ho : o.op = .store ty x y)
    (b of : Nat) (cells : Array Value) (hx : a.eval x = .pointer (some ⟨b, of, none⟩)) (hy : a.eval y = .agg cells)
    (ht : w.there b of cells.size) (hi : (P.info? ty).map (·.size) = some cells.size) (h1 : cells.all (·.oneCell') = true)
    (h : ∀ w', Hid (w' = w.setCells b of cells.toList) → K a w') :
    if Region.wanted o (yielded ops a.tmps) = true then Oper.wp P o a w K Q else E := by
  have hw : Region.wanted o (yielded ops a.tmps) = true := by simp [Region.wanted, hgd]
  rw [if_pos hw]
  refine wp_store_mid ty x y ho b of cells hx hy ht hi h1 ?_
  rw [hdst]
  exact h _ (hide rfl)

theorem step_appO {w : World} {ops : Array Oper} {o : Oper} {a : Act} {K : Act → World → Prop} {Q : Exit → Act → World → Prop} {E : Prop} (hgd : o.guard = none) (s x : Operand)
    (ho : o.op = .call { callee := .builtin .append, args := #[s, x], argTypes := #[22, 22] }) (v : Value) (l : List UInt8) (xv : Value) (q : List UInt8) (hs : a.eval s = v) (hxv : a.eval x = xv) (hO : Ow w v l) (hx : Rd w xv q) (hl : l.length + q.length ≤ 100000000)
    (h : ∀ ao cap w', Hid (Ow w' (.slice ao (l.length + q.length) cap) (l ++ q)) → Hid (OwF w w' v (.slice ao (l.length + q.length) cap)) → K (a.put o.dst (.slice ao (l.length + q.length) cap)) w') :
    if Region.wanted o (yielded ops a.tmps) = true then Oper.wp Tryd.prog o a w K Q else E := by
  obtain ⟨inf, hinf, hz0, hz1, hz2⟩ := info_parts Tryd.info5
  refine step_app hgd s x 22 ho 5 inf _ 1 1 Tryd.underlying22 hinf hz0 hz1 hz2 rfl (by decide) v l.length (bvs l) hs xv hxv q.length (bvs q) hO hx.sr (bvs_one _) (by omega) (by simp only [maxLen]; omega) ?_
  intro ao cap w' o1 g1 p1
  refine h ao cap w' (hide ?_) (hide ⟨(Fr.refl _ _).grown g1 (fun k _ e => e), p1⟩)
  unfold Ow
  rw [List.length_append, bvs_append]
  exact o1

theorem Ow.one {w : World} {b : Nat} {x : UInt8} (h : w.heap[b]? = some (.cells (bvs [x]).toArray 5 (0, 0))) : Ow w (.slice (some ⟨b, 0, none⟩) 1 1) [x] :=
  ⟨rfl, .inr ⟨b, 1, _, rfl, Nat.zero_le _, h, Nat.le_refl _, by simp [maxLen], rfl, rfl⟩⟩

theorem nodeB (w0 w1 : World) (q : Nat) (wA : World) (b : List UInt8) (hq : q < w0.heap.size) (h : Rd w0 (.slice (some ⟨q, 0, none⟩) 32 32) b) (f : Fr (fun _ => False) w0 wA) {v' : Value} {len cap : Nat} (g : OwF wA w1 (.slice (some ⟨w0.heap.size, 0, none⟩) len cap) v') : Rd w1 (.slice (some ⟨q, 0, none⟩) 32 32) b :=
  (h.kept f (fun _ _ h => h)).kept g.1 (fun c hc e => by simp [Value.ownBlock] at hc e; omega)

theorem nodeF (w0 w1 w2 w3 wA : World) (f : Fr (fun _ => False) w0 wA) {v' v2 : Value} {len cap : Nat} (g : OwF wA w1 (.slice (some ⟨w0.heap.size, 0, none⟩) len cap) v') (g2 : OwF w1 w2 v' v2) (f3 : Fr (fun _ => False) w2 w3) : Fr (fun k => k = w0.heap.size) w0 w3 :=
  (((f.mono (fun _ _ h => h.elim)).trans (g.trans g2).1 (fun c hc e => by simp [Value.ownBlock] at e; omega)).trans f3 (fun _ _ h => h.elim))

set_option maxHeartbeats 1000000 in
set_option maxRecDepth 100000 in
theorem node_any (w : World) (a b : List UInt8) (ha : a.length = 32) (hb : b.length = 32) : Calls Tryd.prog 62 #[.agg (bvs a).toArray, .agg (bvs b).toArray] w fun e w' => e = .returned (.agg (bvs (jn a b)).toArray) ∧ Fr (fun _ => False) w w' := by
  obtain ⟨D, hD⟩ : ∃ D, D = jn a b := ⟨_, rfl⟩
  have hsl : D.length = 32 := by rw [hD]; rfl
  have HDD := hide hD
  clear hD
  go_enter Tryd.func62, Tryd.ntmps62
  go_wp2_with fail
  refine wp_world ?_
  intro w0 hw0
  have f0 : Fr (fun _ => False) w w0 := by rw [hw0]; exact (((Fr.refl _ _).alloc _).alloc _).alloc _
  have hA0 : w0.heap[w.heap.size]? = some (.cells (bvs a).toArray 26 (0, 0)) := by
    rw [hw0]
    exact (Below.heap_alloc _ _ _ (by simp only [World.size_alloc]; omega)).trans (BlockAt.two w _ _)
  have hB0 : w0.heap[w.heap.size + 1]? = some (.cells (bvs b).toArray 26 (0, 0)) := by
    rw [hw0]
    exact (Below.heap_alloc _ _ _ (by simp only [World.size_alloc]; omega)).trans (BlockAt.one w _ _)
  have hR0 : ZAt w0 (w.heap.size + 1 + 1) 26 32 := by
    rw [hw0]
    refine ⟨(List.replicate 32 (Value.int .u8 0)).toArray, ?_, rfl⟩
    have := heap_alloc_new ((w.alloc (.cells (bvs a).toArray 26)).alloc (.cells (bvs b).toArray 26)) (.cells (List.replicate 32 (Value.int .u8 0)).toArray 26)
    simp only [World.size_alloc] at this
    exact this
  have F0 := hide f0
  have RA0 := hide (rd_box ha hA0)
  have RB0 := hide (rd_box hb hB0)
  have HR0 := hide hR0
  have hs0 : w.heap.size + 1 + 1 < w0.heap.size := by obtain ⟨cs, h, -⟩ := hR0; exact lt_of_heap h
  clear hw0 f0 hA0 hB0 hR0
  have HA := hide ha
  have HBB := hide hb
  have hszD : (bvs D).toArray.size = 32 := by simpa [bvs_length] using hsl
  have hi : (Tryd.prog.info? 26).map (·.size) = some (bvs D).length := by rw [bvs_length, hsl]; exact Tryd.s26
  have hi2 : (Tryd.prog.info? 26).map (·.size) = some (bvs D).toArray.size := by rw [hszD]; exact Tryd.s26
  have hone := bvs_oneA D
  have hone2 := bvs_one D
  have HSZ := hide hszD
  have HJ : Hid (sha ([1] ++ a ++ b) = D) := hide (by rw [unhide HDD]; unfold jn; simp)
  have hres : ∀ W, Fr (fun k => k = w0.heap.size) w0 W → W.there (w.heap.size + 1 + 1) 0 (bvs D).toArray.size := fun W f => by
    rw [unhide HSZ]; exact ((unhide HR0).kept f (by omega)).there
  have HRES := hide hres
  clear hszD hres ha hb
  go_region_held3 (fun _ => True) (trivial) ((first
    | (refine step_appO rfl (.tmp 5) (.tmp 6) rfl (.slice (some ⟨w0.heap.size, 0, none⟩) 1 1) [1] (.slice (some ⟨w.heap.size, 0, none⟩) 32 32) a (by rfl) (by rfl) (by first | exact Ow.one (heap_alloc_new w0 _) | exact Ow.one (heap_alloc_new w0.drew _)) ((unhide RA0).kept (by first | exact ((Fr.refl (fun _ => False) w0).alloc _) | exact ((Fr.refl (fun _ => False) w0).drew).alloc _ | exact ((Fr.refl (fun _ => False) w0).alloc _).drew) (fun _ _ h => h)) (by rw [unhide HA]; decide) ?_; intro ao1 cap1 w1 o1 g1)
    | (refine step_appO rfl (.tmp 7) (.tmp 8) rfl _ ([1] ++ a) (.slice (some ⟨w.heap.size + 1, 0, none⟩) 32 32) b (by rfl) (by rfl) (unhide o1) (nodeB w0 w1 (w.heap.size + 1) _ b (by omega) (unhide RB0) (by first | exact ((Fr.refl (fun _ => False) w0).alloc _) | exact ((Fr.refl (fun _ => False) w0).drew).alloc _ | exact ((Fr.refl (fun _ => False) w0).alloc _).drew) (unhide g1)) (by simp [unhide HA, unhide HBB]) ?_; intro ao2 cap2 w2 o2 g2)
    | (go_at_call 12; refine (RSum_any _ _ ([1] ++ a ++ b) (unhide o2).rd (by simp [unhide HA, unhide HBB])).mono ?_; rintro e w3 ⟨he, f3⟩; rw [unhide HJ] at he; subst he; have hf3 := nodeF w0 w1 w2 w3 _ (by first | exact ((Fr.refl (fun _ => False) w0).alloc _) | exact ((Fr.refl (fun _ => False) w0).drew).alloc _ | exact ((Fr.refl (fun _ => False) w0).alloc _).drew) (unhide g1) (unhide g2) f3; have hth3 := unhide HRES w3 hf3; clear f3)))
  have hR3 := (unhide HR0).kept hf3 (by omega)
  have hres := hR3.putB D hsl
  have fin : Fr (fun _ => False) w (w3.setCells (w.heap.size + 1 + 1) 0 (bvs D)) := ((unhide F0).trans hf3 (fun i hi e => by omega)).trans (setCells_frame _ _ _ _) (fun i hi e => by omega)
  clear hR3 hsl
  go_wp2_with fail
  refine bodyPost_ret (ret_agg rfl _ _ (w.heap.size + 1 + 1) 0 _ _ rfl (bat_range hres) Tryd.u26 rfl hi) rfl ?_
  rw [← unhide HDD]
  exact ⟨rfl, fin⟩
end Go.Proofs.YtlicmlioilkfdaaDoor
