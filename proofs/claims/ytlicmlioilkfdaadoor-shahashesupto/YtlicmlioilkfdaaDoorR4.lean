/-
  The walk of the document's Write.
-/
import Derived.Test.YtlicmlioilkfdaaDoorR3
namespace Go.Proofs.YtlicmlioilkfdaaDoor
open Go.RowKit
set_option linter.unusedVariables false
set_option linter.unusedSimpArgs false

attribute [local go_sem ↓] Go.wp_at_zero Go.wp_at_succ

/-- The document's Hash, as cells. -/
def gcs (s : St) (n : Nat) (v : Value) : List Value := wvs s.l ++ [.int .u64 ((n : Nat) : Int), v]

theorem gcs_setN (s : St) (n m : Nat) (v : Value) : (gcs s n v).toArray.setIfInBounds 8 (.int .u64 ((m : Nat) : Int)) = (gcs s m v).toArray := by
  rw [List.setIfInBounds_toArray]; rfl
theorem gcs_setV (s : St) (n : Nat) (v v' : Value) : (gcs s n v).toArray.setIfInBounds 9 v' = (gcs s n v').toArray := by
  rw [List.setIfInBounds_toArray]; rfl

theorem stir_take (s : St) (l : List UInt8) (h : 64 ≤ l.length) : stir s (l.take 64) = stir s l := by
  have e : sch (l.take 64) 48 = sch l 48 := by
    have h0 : sch (l.take 64) 0 = sch l 0 := by
      unfold sch
      apply List.map_congr_left
      intro t ht
      have ht' : t < 16 := by simpa using ht
      unfold wdAt
      have hg : ∀ j, j < 64 → (l.take 64).getD j 0 = l.getD j 0 := fun j hj => by
        simp [List.getElem?_take, hj]
      rw [hg _ (by omega), hg _ (by omega), hg _ (by omega), hg _ (by omega)]
    have : ∀ n, sch (l.take 64) n = sch l n := by
      intro n
      induction n with
      | zero => exact h0
      | succ n ih => simp only [sch, ih]
    exact this 48
  unfold stir
  rw [e]

theorem owns_empty {w : World} {b : Nat} (hb : w.heap[b]? = some (.cells #[] 5 (0, 0))) : Ow w (.slice (some ⟨b, 0, none⟩) 0 0) [] := owns_new hb

/-- append of bytes that can be read to bytes that somebody owns. -/
theorem wpList_appO {w : World} {ops : Array Oper} {rest : List Oper} {o : Oper} {a : Act} {Q : Exit → Act → World → Prop} (hgd : o.guard = none) (s x : Operand)
    (ho : o.op = .call { callee := .builtin .append, args := #[s, x], argTypes := #[22, 22] }) (v : Value) (l : List UInt8) (xv : Value) (q : List UInt8) (hs : a.eval s = v) (hxv : a.eval x = xv) (hO : Ow w v l) (hx : Rd w xv q) (hl : l.length + q.length ≤ 100000000)
    (h : ∀ ao cap w', Hid (Ow w' (.slice ao (l.length + q.length) cap) (l ++ q)) → Hid (OwF w w' v (.slice ao (l.length + q.length) cap)) → wpList Tryd.prog ops Q rest (a.put o.dst (.slice ao (l.length + q.length) cap)) w') : wpList Tryd.prog ops Q (o :: rest) a w := by
  obtain ⟨inf, hinf, hz0, hz1, hz2⟩ := info_parts Tryd.info5
  refine wpList_app hgd s x 22 ho 5 inf _ 1 1 Tryd.underlying22 hinf hz0 hz1 hz2 rfl (by decide) v l.length (bvs l) hs xv hxv q.length (bvs q) hO hx.sr (bvs_one _) (by omega) (by simp only [maxLen]; omega) ?_
  intro ao cap w' o1 g1 p1
  refine h ao cap w' (hide ?_) (hide ⟨(Fr.refl _ _).grown g1 (fun k _ e => e), p1⟩)
  unfold Ow
  rw [List.length_append, bvs_append]
  exact o1

set_option maxHeartbeats 2000000 in
set_option maxRecDepth 100000 in
theorem rwrite_any (w : World) (p : Nat) (s : St) (n : Nat) (v : Value) (r : List UInt8) (x : Value) (q : List UInt8) (h : GAt w p s n v r) (hx : Rd w x q) (hxb : ∀ b, x.ownBlock = some b → q = [] ∨ b ≠ p) (hq : q.length ≤ 1000000) :
    Calls Tryd.prog 21 #[.pointer (some ⟨p, 0, none⟩), x] w fun e w' => e = .returned (.tuple #[]) ∧ (∃ v', GAt w' p (feed s (r ++ q)).1 ((n + q.length) % 18446744073709551616) v' (feed s (r ++ q)).2 ∧ ∀ b, v'.ownBlock = some b → w.heap.size ≤ b) ∧ Fr (fun k => k = p) w w' := by
  obtain ⟨inf, hinf, hz0, hz1, hz2⟩ := info_parts Tryd.info5
  obtain ⟨ao, cap, rfl⟩ := hx.shape
  obtain ⟨m, hm⟩ : ∃ m, m = (n + q.length) % 18446744073709551616 := ⟨_, rfl⟩
  rw [← hm]
  have hml : m < 18446744073709551616 := by rw [hm]; exact Nat.mod_lt _ (by decide)
  have e8 : IntKind.u64.wrap (((n : Nat) : Int) + ((q.length : Nat) : Int)) = ((m : Nat) : Int) := by
    simp only [IntKind.wrap, IntKind.bits, IntKind.signed]; simp; omega
  have e9 : IntKind.u64.wrap ((q.length : Nat) : Int) = ((q.length : Nat) : Int) := by
    simp only [IntKind.wrap, IntKind.bits, IntKind.signed]; simp; omega
  have c8 := h.num
  have z8 := h.frozen 8
  have c9 := h.val
  have hlt := h.lt
  have hh : w.heap[p]? = some (.cells (gcs s n v).toArray 52 (0, 0)) := h.heap
  have H0 := hide h
  have HX := hide hx
  have hh1 : (w.setCell ⟨p, 8, none⟩ (.int .u64 ((m : Nat) : Int))).heap[p]? = some (.cells (gcs s m v).toArray 52 (0, 0)) := by
    rw [heap_setCell_same w p 8 _ 52 _ hh, gcs_setN]
  have f1 : Fr (fun k => k = p) w (w.setCell ⟨p, 8, none⟩ (.int .u64 ((m : Nat) : Int))) := (Fr.refl (fun k => k = p) w).setCell (p := ⟨p, 8, none⟩) (fun _ => rfl) _
  have c91 : (w.setCell ⟨p, 8, none⟩ (.int .u64 ((m : Nat) : Int))).cell? ⟨p, 9, none⟩ = some v := by rw [cell_of_heap hh1]; rfl
  have hrl := h.small
  have HH1 := hide hh1
  have F1 := hide f1
  clear h hx hh hh1 f1 hm
  go_enter Tryd.func21, Tryd.ntmps21
  go_wp2_with (refine wpList_appO rfl (.tmp 16) (.tmp 20) rfl (.slice (some ⟨w.heap.size, 0, none⟩) 0 0) [] v r rfl rfl (owns_empty (by have := heap_alloc_new (w.setCell ⟨p, 8, none⟩ (.int .u64 ((m : Nat) : Int))) (.cells #[] 5); simpa [World.setCell] using this)) (((unhide H0).rest.kept (unhide F1) (fun b hb => ((unhide H0).ne b hb).1)).kept ((Fr.refl (fun _ => False) _).alloc _) (fun _ _ h => h)) (by simp; omega) ?_)
  intro ao1 cap1 w1 o1 g1
  have hsz1 : (w.setCell ⟨p, 8, none⟩ (.int .u64 ((m : Nat) : Int))).heap.size = w.heap.size := by simp [World.setCell]
  have fA1 : Fr (fun k => k = w.heap.size) (w.setCell ⟨p, 8, none⟩ (.int .u64 ((m : Nat) : Int))) w1 := ((Fr.refl (fun k => k = w.heap.size) (w.setCell ⟨p, 8, none⟩ (.int .u64 ((m : Nat) : Int)))).alloc (.cells #[] 5)).trans (unhide g1).1 (fun i hi e => by simp [Value.ownBlock] at e; omega)
  have f01 : Fr (fun k => k = p) w w1 := (unhide F1).trans fA1 (fun i hi e => by omega)
  have hh1 : w1.heap[p]? = some (.cells (gcs s m v).toArray 52 (0, 0)) := (fA1.block p (by omega) (by omega)).trans (unhide HH1)
  have hn1 : ∀ b, (Value.slice ao1 r.length cap1).ownBlock = some b → w.heap.size ≤ b := by
    intro b hb
    rcases (unhide g1).2 with e | ⟨k, e, hk⟩
    · rw [e] at hb; simp [Value.ownBlock] at hb; omega
    · rw [e] at hb; simp at hb hk; omega
  have HH2 := hide hh1
  have HN1 := hide hn1
  have F01 := hide f01
  clear hsz1 fA1 f01 hh1 hn1 g1 c8 z8 c9 c91
  have hxr : Rd w1 (.slice ao q.length cap) q := (unhide HX).keptE (unhide F01) (fun b hb => hxb b hb)
  go_wp2_with (refine wpList_appO rfl (.tmp 21) (.tmp 22) rfl (.slice ao1 r.length cap1) r (.slice ao q.length cap) q rfl rfl (unhide o1) hxr (by omega) ?_)
  intro ao2 cap2 w2 o2 g2
  have f12 : Fr (fun k => k = p) w w2 := (unhide F01).trans (unhide g2).1 (fun i hi e => absurd (unhide HN1 i e) (by omega))
  have hh2 : w2.heap[p]? = some (.cells (gcs s m v).toArray 52 (0, 0)) := ((unhide g2).1.block p (lt_of_heap (unhide HH2)) (fun e => absurd (unhide HN1 p e) (by omega))).trans (unhide HH2)
  have hn2 : ∀ b, (Value.slice ao2 (r.length + q.length) cap2).ownBlock = some b → w.heap.size ≤ b := by
    intro b hb
    rcases (unhide g2).2 with e | ⟨k, e, hk⟩
    · rw [e] at hb; exact unhide HN1 b hb
    · rw [e] at hb; simp at hb; have := (unhide F01).size; omega
  have hR2 := (unhide o2).rd
  have HH3 := hide hh2
  have HN2 := hide hn2
  have F02 := hide f12
  have HR2 := hide hR2
  have hlr : (r ++ q).length = r.length + q.length := List.length_append
  rw [← hlr] at HR2 HN2
  have HLR := hide hlr
  have hrq : (r ++ q).length ≤ 2000000 := by omega
  have hlt2 : w.heap.size ≤ w2.heap.size := f12.size
  clear f12 hh2 hn2 hR2 g2 o1 o2 hxr hlr
  go_wp2_with fail
  go_loopw [4] (fun y w' => ∃ (s2 : St) (b2 : List UInt8) (a4 : Option Addr) (c4 : Nat), y = .slice a4 b2.length c4 ∧ Rd w' (.slice a4 b2.length c4) b2 ∧ b2.length ≤ 2000000 ∧ (∀ b, (Value.slice a4 b2.length c4).ownBlock = some b → w.heap.size ≤ b) ∧ w'.heap[p]? = some (.cells (gcs s2 m v).toArray 52 (0, 0)) ∧ feed s2 b2 = feed s (r ++ q) ∧ Fr (fun k => k = p) w w') (fun y _ => slLen y)
  case atStart => exact ⟨s, r ++ q, ao2, cap2, by rw [unhide HLR], unhide HR2, hrq, unhide HN2, unhide HH3, rfl, unhide F02⟩
  case round =>
    obtain ⟨s2, b2, a4, c4, rfl, hR, hbl, hN, hP, hfeed, hF⟩ := hrel
    by_cases hge : 64 ≤ b2.length
    · obtain ⟨bb, bo, rfl, -, hnc, hcm, hcell⟩ := hR.lits (by omega)
      have hpc := fun W (f : Fr (fun _ => False) wr W) => piece_any W s2 bb bo b2.length c4 b2 hge (hR.kept f (fun _ _ h => h))
      have c0 : wr.cell? ⟨p, 0, none⟩ = some (.int .u32 (N s2.a)) := by rw [cell_of_heap hP]; rfl
      have c1 : wr.cell? ⟨p, 1, none⟩ = some (.int .u32 (N s2.b)) := by rw [cell_of_heap hP]; rfl
      have c2 : wr.cell? ⟨p, 2, none⟩ = some (.int .u32 (N s2.c)) := by rw [cell_of_heap hP]; rfl
      have c3 : wr.cell? ⟨p, 3, none⟩ = some (.int .u32 (N s2.d)) := by rw [cell_of_heap hP]; rfl
      have c4 : wr.cell? ⟨p, 4, none⟩ = some (.int .u32 (N s2.e)) := by rw [cell_of_heap hP]; rfl
      have c5 : wr.cell? ⟨p, 5, none⟩ = some (.int .u32 (N s2.f)) := by rw [cell_of_heap hP]; rfl
      have c6 : wr.cell? ⟨p, 6, none⟩ = some (.int .u32 (N s2.g)) := by rw [cell_of_heap hP]; rfl
      have c7 : wr.cell? ⟨p, 7, none⟩ = some (.int .u32 (N s2.h)) := by rw [cell_of_heap hP]; rfl
      have hdrop := hR.dropN (k := 64) hge
      have hfd := feed_more s2 b2 hge
      rw [hfeed, stir_take s2 b2 hge] at hfd
      have HFD := hide hfd
      have HD := hide hdrop
      have HN := hide hN
      have HP := hide hP
      have HF := hide hF
      have HR := hide hR
      clear hR hN hP hF hfeed hcell hdrop hfd
      have h64 : (64 : Int) ≤ (b2.length : Int) := by omega
      go_wp2_with fail
      refine (hpc wr (Fr.refl _ _)).mono ?_
      rintro e w5 ⟨rfl, f5⟩
      have hP5 : w5.heap[p]? = some (.cells (gcs s2 m v).toArray 52 (0, 0)) := (f5.block p (lt_of_heap (unhide HP)) id).trans (unhide HP)
      have hth : w5.there p 0 (wvs (stir s2 b2).l).toArray.size := fun j hj => by
        refine ⟨?_, frozen_of_heap hP5 _⟩
        have hj8 : j < 8 := hj
        rw [Nat.zero_add, cell_of_heap hP5, List.getElem?_toArray, gcs, List.getElem?_append_left (by rw [wvs_length]; exact hj8), wvs_get _ _ hj8]
        rfl
      have hone := wvs_one (stir s2 b2).l
      have F5 := hide ((unhide HF).trans f5 (fun _ _ h => h.elim))
      have HD5 := hide ((unhide HD).kept f5 (fun _ _ h => h))
      have HP5 := hide hP5
      clear c0 c1 c2 c3 c4 c5 c6 c7 hP5 f5 hpc
      go_wp2_with (refine wpList_storeN rfl rfl 50 _ _ rfl p 0 (wvs (stir s2 b2).l).toArray rfl rfl hth Tryd.s50 hone ?_)
      intro w6 hw6
      replace hw6 := unhide hw6
      have hP6 : w6.heap[p]? = some (.cells (gcs (stir s2 b2) m v).toArray 52 (0, 0)) := by
        rw [hw6]
        have := setCells_whole p 52 (wvs (stir s2 b2).l) 0 w5 (gcs s2 m v) (unhide HP5) (by simp [gcs, wvs_length, St.l])
        rw [this]
        congr 3
      have f56 : Fr (fun k => k = p) w5 w6 := by rw [hw6]; exact setCells_frame _ _ _ _
      have HP6 := hide hP6
      have F6 := hide ((unhide F5).trans f56 (fun _ _ h => h))
      have hown : ∀ c l1 c1, (Value.slice (if c4 = 64 then some (⟨bb, bo, none⟩ : Addr) else some ⟨bb, bo + 64, none⟩) l1 c1).ownBlock = some c → w.heap.size ≤ c := by
        intro c l1 c1 hc
        have := unhide HN bb rfl
        split at hc <;> (simp [Value.ownBlock] at hc; omega)
      have HD6 := hide ((unhide HD5).kept f56 (fun c hc e => absurd (hown c _ _ hc) (by omega)))
      obtain ⟨a6, ha6⟩ : ∃ a6, (if c4 = 64 then some (⟨bb, bo, none⟩ : Addr) else some ⟨bb, bo + 64, none⟩) = a6 := ⟨_, rfl⟩
      rw [ha6] at HD6 hown
      have HOWN := hide hown
      clear hw6 hP6 f56 hown hth hone
      go_wp2_with fail
      go_roundw
      case rel =>
        have hl : b2.length - 64 = (b2.drop 64).length := by simp
        have hd := unhide HD6
        rw [hl] at hd ⊢
        exact ⟨stir s2 b2, b2.drop 64, a6, c4 - 64, rfl, hd, by simp; omega, fun b hb => unhide HOWN b _ _ hb, unhide HP6, (unhide HFD).symm, unhide F6⟩
      case measure => simp [slLen]; omega
    · have hfd := feed_few s2 b2 (by omega)
      rw [hfeed] at hfd
      have hO0 : ∀ W : World, Ow (W.alloc (.cells #[] 5)) (.slice (some ⟨W.heap.size, 0, none⟩) 0 0) [] := fun W => owns_empty (heap_alloc_new W _)
      have HP := hide hP
      have HF := hide hF
      have HFD := hide hfd
      have HR := hide hR
      have HN := hide hN
      clear hP hF hfd hR hN hfeed
      have h64 : ¬ ((64 : Int) ≤ (b2.length : Int)) := by omega
      go_wp2_with (refine wpList_appO rfl (.tmp 39) (.tmp 40) rfl (.slice (some ⟨wr.heap.size, 0, none⟩) 0 0) [] (.slice a4 b2.length c4) b2 rfl rfl (hO0 wr) ((unhide HR).kept ((Fr.refl (fun _ => False) _).alloc _) (fun _ _ h => h)) (by simp; omega) ?_)
      intro ao7 cap7 w7 o7 g7
      have fA7 : Fr (fun k => k = wr.heap.size) wr w7 := ((Fr.refl (fun k => k = wr.heap.size) wr).alloc (.cells #[] 5)).trans (unhide g7).1 (fun i hi e => by simp [Value.ownBlock] at e; omega)
      have hpl := lt_of_heap (unhide HP)
      have hP7 : w7.heap[p]? = some (.cells (gcs s2 m v).toArray 52 (0, 0)) := (fA7.block p hpl (by omega)).trans (unhide HP)
      have hws : w.heap.size ≤ wr.heap.size := (unhide HF).size
      have F7 : Hid (Fr (fun k => k = p) w w7) := hide ((unhide HF).trans fA7 (fun i hi e => by omega))
      have hn7 : ∀ b, (Value.slice ao7 b2.length cap7).ownBlock = some b → wr.heap.size ≤ b := by
        intro b hb
        rcases (unhide g7).2 with e | ⟨k, e, hk⟩
        · rw [e] at hb; simp [Value.ownBlock] at hb; omega
        · rw [e] at hb; simp at hb hk; omega
      have c9 : ∃ u, w7.cell? ⟨p, 9, none⟩ = some u := ⟨v, by rw [cell_of_heap hP7]; rfl⟩
      obtain ⟨u9, c9⟩ := c9
      have z9 : w7.frozen? ⟨p, 9, none⟩ = false := frozen_of_heap hP7 _
      have HP7 := hide hP7
      have HN7 := hide hn7
      clear fA7 hP7 hn7 g7 hO0
      go_wp2_with fail
      refine bodyPost_end (results_none rfl _ _ _) rfl ?_
      refine ⟨rfl, ⟨.slice ao7 b2.length cap7, ⟨?_, hml, ?_, fun b hb => ?_, ?_⟩, fun b hb => ?_⟩, (unhide F7).setCell (p := ⟨p, 9, none⟩) (fun _ => rfl) _⟩
      · rw [unhide HFD, heap_setCell_same w7 p 9 _ 52 _ (unhide HP7), gcs_setV]
        rfl
      · rw [unhide HFD]
        exact (unhide o7).rd.kept (S := fun k => k = p) ((Fr.refl (fun k => k = p) _).setCell (p := ⟨p, 9, none⟩) (fun _ => rfl) _) (fun b hb e => by have := unhide HN7 b hb; omega)
      · have h1 := unhide HN7 b hb
        have h2 := (unhide o7).lt b hb
        exact ⟨by omega, by simpa [World.setCell] using h2⟩
      · rw [unhide HFD]; show b2.length ≤ _; omega
      · have h1 := unhide HN7 b hb; omega
end Go.Proofs.YtlicmlioilkfdaaDoor
