/-
  The walk of the document's Ints.
  The cache's Held and New; the home is made.
  The home is made.
  A cache and its home, made since some world; the laws' live.
-/
import Derived.Test.YtdgmlopaeonacaaM07
namespace Go.Proofs.Ytdgmlopaeonacaa
set_option linter.unusedVariables false
set_option linter.unusedSimpArgs false
open Go.RowKit
set_option linter.unusedVariables false

attribute [local go_sem ↓] Go.wp_at_zero Go.wp_at_succ

set_option maxHeartbeats 1000000 in
theorem ints_any (w : World) (v u : Value) (ls ms : List Int) (h1 : RdV w v (ls.map (Value.int .i64))) (h2 : RdV w u (ms.map (Value.int .i64))) :
    Calls Try.prog 17 #[v, u] w fun e w' => e = .returned (.bool (decide (ls = ms))) ∧ ∃ n, w' = w.drewN n := by
  have H1 := hide h1
  have H2 := hide h2
  obtain ⟨ao, ac, rfl⟩ := h1.shape
  obtain ⟨bo, bc, rfl⟩ := h2.shape
  have hl1 := h1.len
  have hl2 := h2.len
  unfold maxLen at hl1 hl2
  rw [List.length_map] at hl1 hl2
  rw [List.length_map, List.length_map] at *
  clear h1 h2
  by_cases he : ls.length = ms.length
  · rw [← he] at H2 ⊢
    have HE := hide he
    clear he
    obtain ⟨n, hn⟩ : ∃ n, n = ls.length := ⟨_, rfl⟩
    rw [← hn] at H1 H2 hl1 ⊢
    have HN := hide hn
    clear hn hl2
    go_enter Try.func17, Try.ntmps17
    go_wp2_with fail
    go_loopw [5] (fun x w' => ∃ i : Nat, i ≤ n ∧ x = .int .i64 (i : Int) ∧ ls.take i = ms.take i ∧ ∃ k, w' = w.drewN k) (fun x _ => n - (intOf x).toNat)
    case atStart => exact ⟨0, by omega, rfl, by simp, 0, rfl⟩
    case round =>
      obtain ⟨i, hi, rfl, ht, kk, rfl⟩ := hrel
      by_cases hlt : i < n
      · have i1 : i < ls.length := by have := unhide HN; omega
        have i2 : i < ms.length := by have := unhide HN; have := unhide HE; omega
        obtain ⟨b1, o1, rfl, -, x1, y1, c1⟩ := (unhide H1).lits (by rw [List.length_map]; omega)
        obtain ⟨b2, o2, rfl, -, x2, y2, c2⟩ := (unhide H2).lits (by rw [List.length_map]; omega)
        have k1 := c1 i (by rw [List.length_map]; exact i1)
        have k2 := c2 i (by rw [List.length_map]; exact i2)
        rw [List.getElem_map] at k1 k2
        have HT := hide ht
        have T1 := hide (List.take_succ_eq_append_getElem i1)
        have T2 := hide (List.take_succ_eq_append_getElem i2)
        have HG := hide (show ls = ms → ls[i] = ms[i] by rintro rfl; rfl)
        generalize ls[i] = li at *
        generalize ms[i] = mi at *
        clear ht c1 c2 x1 x2
        by_cases hd : li = mi
        · have hb : (li != mi) = false := by simpa using hd
          have HD := hide hd
          clear hd
          go_wp2_with fail
          go_quiet (fail)
          go_wp2_with fail
          go_roundw
          case rel => exact ⟨i + 1, by omega, by go_num, by rw [unhide T1, unhide T2, unhide HT, unhide HD], _, rfl⟩
          case measure => simp [intOf]; omega
        · have hb : (li != mi) = true := by simpa using hd
          have HD := hide hd
          clear hd
          go_wp2_with fail
          go_quiet (fail)
          go_wp2_with fail
          go_ret
          have e : decide (ls = ms) = false := by
            simp only [decide_eq_false_iff_not]
            exact fun e => unhide HD (unhide HG e)
          rw [e]
          exact ⟨rfl, _, World.drewN_drewN _ _ _⟩
      · have hie : i = n := by omega
        subst hie
        have HT := hide ht
        clear ht
        go_wp2_with fail
        go_ret
        have e : decide (ls = ms) = true := by
          have h := unhide HT
          have hN := unhide HN
          have hE := unhide HE
          rw [List.take_of_length_le (by omega), List.take_of_length_le (by omega)] at h
          simpa using h
        rw [e]
        exact ⟨rfl, _, rfl⟩
  · have hb : ((ls.length : Int) != (ms.length : Int)) = true := by simp; omega
    have e : decide (ls = ms) = false := by
      simp only [decide_eq_false_iff_not]
      rintro rfl; exact he rfl
    rw [e]
    clear he H1 H2
    go_enter Try.func17, Try.ntmps17
    go_wp2_with fail
    go_ret
    exact ⟨rfl, 0, rfl⟩

end Go.Proofs.Ytdgmlopaeonacaa

namespace Go.Proofs.Ytdgmlopaeonacaa
set_option linter.unusedVariables false
set_option linter.unusedSimpArgs false
open Go.RowKit
set_option linter.unusedVariables false

attribute [local go_sem ↓] Go.wp_at_zero Go.wp_at_succ

def blk (R : List (Nat × Pl)) : List Int := R.map fun q => q.2.b

section
variable (w : World) (p h r u : Nat) (L : List (Int × Nat)) (R : List (Nat × Pl)) (c : Ca)

set_option maxRecDepth 100000 in
set_option maxHeartbeats 1000000 in
theorem held_any (hRl : R.length ≤ 1000000) (H : KAt w p h r u L R c) : Calls Try.prog 18 #[ptr p] w fun e w' => (∃ ao cc, e = .returned (.slice ao R.length cc) ∧ RdV w' (.slice ao R.length cc) ((blk R).map (Value.int .i64))) ∧ Fr (fun _ => False) w w' := by
  have HN := hide (none_any w p h r u L R c H)
  have c3 := cell_of_heap H.heap 3
  simp at c3
  obtain ⟨o0, hu⟩ := H.ring.start
  have u1 := hu.c1
  have HK := hide H
  have HND := hide H.ring.nd
  obtain ⟨a0, ha0⟩ : ∃ a, a = hd u R := ⟨_, rfl⟩
  rw [← ha0] at u1
  have HA0 := hide ha0
  have HU := hide hu
  obtain ⟨inf, hi0, hz0, hz1, hz2⟩ := info_parts Try.info3
  clear H ha0 hu
  unfold ptr at *
  go_enter Try.func18, Try.ntmps18
  go_wp2_with fail
  refine (unhide HN).mono ?_
  rintro e w' ⟨rfl, rfl⟩
  go_wp2_with fail
  go_loopw [4, 3] (fun x y W => ∃ R1 R2 a ao N ac, R = R1 ++ R2 ∧ a = hd u R2 ∧ x = .pointer (some ⟨a, 0, none⟩) ∧ y = .slice ao N ac ∧ N = R1.length ∧ W.ownsRow 0 3 1 (.slice ao N ac) N (ivs (blk R1)) ∧ (∀ b, (Value.slice ao N ac).ownBlock = some b → w.heap.size ≤ b) ∧ Fr (fun _ => False) w W) (fun x _ _ => posOf R x)
  case atStart => exact ⟨[], R, a0, none, 0, 0, rfl, unhide HA0, rfl, rfl, rfl, owns_nilE _ 3, fun b hb => by simp [Value.ownBlock] at hb, Fr.refl _ _⟩
  case round =>
    obtain ⟨R1, R2, a, ao, N, ac, hR, ha, rfl, rfl, hN, hO, hnew, hf⟩ := hrel
    have c3' := (hf.cell (a := ⟨p, 3, none⟩) ((unhide HK).ltB (.inl rfl)) id).trans c3
    have HR := hide hR
    have HNN := hide hN
    have HO := hide hO
    have HNW := hide hnew
    have HF := hide hf
    rcases R2 with _ | ⟨q, R2⟩
    · have ha' : a = u := ha
      subst ha'
      have hsame := neq_same wr a
      clear c3 u1 hR ha hN hO hnew hf
      go_wp2_with fail
      go_ret
      have e : R = R1 := by have := unhide HR; rwa [List.append_nil] at this
      have eN : N = R.length := by rw [e]; exact unhide HNN
      have e2 : (blk R).length = N := by rw [eN]; simp [blk]
      have hO := unhide HO
      rw [← e] at hO
      have hV : RdV wr (.slice ao (ivs (blk R)).length ac) (ivs (blk R)) := by
        refine RdV.of_owns (base := 0) (e := 3) ?_
        rw [ivs_length, e2]
        have h5 := hO
        exact h5
      rw [ivs_length, e2] at hV
      refine ⟨⟨ao, ac, by rw [← eN]; rfl, by rw [← eN]; exact hV⟩, unhide HF⟩
    · have ha' : a = q.1 := ha
      have hau : ¬ q.1 = u := fun e => by
        have := unhide HND
        rw [hR] at this
        exact (List.nodup_cons.1 this).1 (by rw [← e]; simp [adr])
      obtain ⟨o1, hn⟩ := Ring.next (R1 := R1) (R2 := R2) (q := q) (by rw [← hR]; exact (unhide HK).ring)
      have hnN := hn.kept hf id
      have d1 := hnN.c1
      have d2 := hnN.c2
      have HIX : Hid (posOf R (.pointer (some ⟨hd u R2, 0, none⟩)) < posOf R (.pointer (some ⟨q.1, 0, none⟩))) := hide (by rw [hR]; exact pos_next (u := u) (R1 := R1) (R2 := R2) (q := q) (by rw [← hR]; exact unhide HND))
      have hneq := neq_other wr q.1 u hau hnN ((unhide HU).kept hf id)
      obtain ⟨a2, ha2⟩ : ∃ a, a = hd u R2 := ⟨_, rfl⟩
      rw [← ha2] at d1 HIX
      have HA2 := hide ha2
      have hNle : N ≤ 1000000 := by rw [hN]; have := congrArg List.length hR; simp at this; omega
      have hal : q.1 < wr.heap.size := lt_of_heap hnN
      have d1a := ((((Fr.refl (fun _ => False) wr).alloc (.cells #[.int .i64 q.2.b] 3))).cell (a := ⟨q.1, 1, none⟩) hal id).trans d1
      subst ha'
      unfold ptr at *
      obtain ⟨qa, qx⟩ := q
      dsimp only at *
      clear c3 u1 hR ha hN hO hnew hf hn hnN ha2
      go_wp2_with (at_builtin; refine wpList_app rfl (.tmp 26) (.tmp 32) 49 rfl 3 inf _ 1 8 Try.underlying49 hi0 hz0 hz1 hz2 rfl (by decide) (.slice ao N ac) N (ivs (blk R1)) rfl (.slice (some ⟨wr.heap.size, 0, none⟩) 1 1) rfl 1 [.int .i64 qx.b] ((unhide HO).alloc _) (one_cellV wr _ 3) (fun u hu => by simp at hu; subst hu; rfl) (by omega) (by simp only [maxLen]; omega) ?_)
      intro ao4 ac4 w4 o4 g4 p4
      have f4 : Fr (fun k => (Value.slice ao N ac).ownBlock = some k) wr w4 := ((Fr.refl _ _).alloc (.cells #[.int .i64 qx.b] 3)).grown g4 (fun k _ e => e)
      have hF4 : Fr (fun _ => False) w w4 := (unhide HF).trans f4 (fun k hk e => by have := unhide HNW k e; omega)
      have hn4 : ∀ b, (Value.slice ao4 (N + 1) ac4).ownBlock = some b → w.heap.size ≤ b := fun b hb => by
        rcases p4 with e | ⟨k', e, hk'⟩
        · rw [e] at hb; exact unhide HNW b hb
        · rw [e] at hb; simp at hb; have := (unhide HF).size; omega
      have d14 : w4.cell? ⟨qa, 1, none⟩ = some (.pointer (some ⟨a2, 0, none⟩)) := (f4.cell (a := ⟨qa, 1, none⟩) hal (fun e => by
        have h1 := unhide HNW qa e
        have h2 : qa < w.heap.size := (unhide HK).ltB (.inr (.inr (by rw [unhide HR]; simp [adr])))
        omega)).trans d1
      have HO4 : Hid (w4.ownsRow 0 3 1 (.slice ao4 (N + 1) ac4) (N + 1) (ivs (blk (R1 ++ [(qa, qx)])))) := hide (by
        have : ivs (blk (R1 ++ [(qa, qx)])) = ivs (blk R1) ++ [.int .i64 qx.b] := by simp [ivs, blk]
        rw [this]; exact o4)
      have HN4 := hide hn4
      have HF4 := hide hF4
      clear o4 g4 p4 f4 hF4 hn4 d1a
      go_wp2_with fail
      go_roundw
      case rel => exact ⟨R1 ++ [(qa, qx)], R2, a2, ao4, N + 1, ac4, by rw [unhide HR]; simp, unhide HA2, rfl, rfl, by rw [unhide HNN]; simp, unhide HO4, unhide HN4, unhide HF4⟩
      case measure => exact unhide HIX

set_option maxRecDepth 100000 in
theorem new_ok (n : Nat) (hn : 1 ≤ n ∧ n ≤ 4096) : Calls Try.prog 10 #[.iface 25 (ptr h), .int .i64 (n : Int)] w fun e w' => (∃ p r u, e = .returned (.tuple #[ptr p, .int .i64 0]) ∧ KAt w' p h r u [] [] ⟨n, 0, 0, 0⟩ ∧ w.heap.size ≤ p ∧ w.heap.size ≤ r ∧ w.heap.size ≤ u) ∧ Fr (fun _ => False) w w' := by
  have b1 : decide ((n : Int) < 1) = false := by simp; omega
  have b2 : decide ((4096 : Int) < (n : Int)) = false := by simp; omega
  have hmm : (Instr.makeMap 74 none).run Try.prog w = .ok (.map (some w.heap.size)) (w.alloc (.map #[] 0)) := by simp [Instr.makeMap, go_sem]
  obtain ⟨w1, hw1⟩ : ∃ w1, w1 = w.alloc (.map #[] 0) := ⟨_, rfl⟩
  rw [← hw1] at hmm
  have f1 : Fr (fun _ => False) w w1 := by rw [hw1]; exact (Fr.refl _ _).alloc _
  have hm1 : MAt w1 w.heap.size [] := ⟨⟨#[], 0, by rw [hw1]; exact heap_alloc_new w _, rfl⟩, by simp⟩
  have s1 : w1.heap.size = w.heap.size + 1 := by rw [hw1]; simp
  have HS1 := hide s1
  have F1 := hide f1
  have HM1 := hide hm1
  clear hw1 s1 f1 hm1
  unfold ptr
  go_enter Try.func10, Try.ntmps10
  go_wp2_with fail
  refine (newRing_any w1).mono ?_
  rintro e w2 ⟨rfl, hN2, f2⟩
  have HN2 := hide hN2
  have F2 := hide f2
  clear hN2 f2
  unfold ptr
  go_wp2_with fail
  go_ret2
  have fa : Fr (fun _ => False) w2 (w2.alloc (.cells #[.iface 25 (ptr h), .int .i64 (n : Int), .map (some w.heap.size), ptr w1.heap.size, .int .u64 0, .int .i64 0, .int .i64 0] 78)) := (Fr.refl _ _).alloc _
  have h1 := (unhide F1).size
  have h2 := (unhide F2).size
  have h3 := unhide HS1
  refine ⟨⟨w2.heap.size, w.heap.size, w1.heap.size, rfl, ⟨heap_alloc_new w2 _, ⟨⟨fun _ => w1.heap.size, fun _ => w1.heap.size, ?_, rfl, fun k hk => ?_⟩, by simp [adr]⟩, ((unhide HM1).kept (unhide F2) id).kept fa id, List.Perm.refl _, fun q hq => by simp at hq, by simp; omega⟩, by omega, Nat.le_refl _, by omega⟩, ((unhide F1).trans (unhide F2) (fun _ _ h => h)).trans fa (fun _ _ h => h)⟩
  · intro q hq
    simp at hq
    subst hq
    exact (unhide HN2).kept fa id
  · simp [adr] at hk
    exact hk.symm
end
end Go.Proofs.Ytdgmlopaeonacaa

namespace Go.Proofs.Ytdgmlopaeonacaa
set_option linter.unusedVariables false
set_option linter.unusedSimpArgs false
open Go.RowKit
attribute [local instance] avNo
set_option linter.unusedVariables false

attribute [local go_sem ↓] Go.wp_at_zero Go.wp_at_succ

def z384 : List UInt8 := List.replicate 384 0
/-- A list of blocks that has one block more. -/
def AP (wr : World) (dv : Value) (vs : List Value) (j : Nat) (v : Value) (W : World) : Prop := ∃ b, W.ownsRow 0 37 1 v (j + 1) (vs ++ [.slice (some ⟨b, 0, none⟩) 384 384]) ∧ BAt W b (List.replicate 384 0) ∧ wr.heap.size ≤ b ∧ (∀ k, v.ownBlock = some k → dv.ownBlock = some k ∨ wr.heap.size ≤ k) ∧ Fr (fun k => dv.ownBlock = some k) wr W
theorem AP.kept {wr w1 w2 : World} {dv v : Value} {vs : List Value} {j : Nat} (h : AP wr dv vs j v w1) (f : Fr (fun _ => False) w1 w2) : AP wr dv vs j v w2 := by
  obtain ⟨b, h1, h2, h3, h4, h5⟩ := h
  exact ⟨b, owns_kept h1 f (fun _ _ h => h), h2.kept f id, h3, h4, h5.trans f (fun _ _ e => e.elim)⟩
theorem sr_kept {w1 w2 : World} {v : Value} {n : Nat} {news : List Value} (h : Sr w1 1 v n news) (f : Fr (fun _ => False) w1 w2) : Sr w2 1 v n news := by
  rcases h with h | ⟨ad, c, rfl, h1, h2⟩
  · exact .inl h
  · exact .inr ⟨ad, c, rfl, h1, fun j u hu => by
      have := h2 j u hu
      rw [f.cell (World.block_lt_of_cell? w1 _ this) id]; exact this⟩
theorem ap_mk {wr w' w9 : World} {dv v9 : Value} {vs : List Value} {j b : Nat} (hs : Fr (fun _ => False) wr w') (ho : w9.ownsRow 0 37 1 v9 (j + 1) (vs ++ [.slice (some ⟨b, 0, none⟩) 384 384])) (hg : w'.grownBy w9 dv.ownBlock) (hn : v9.ownBlock = dv.ownBlock ∨ v9.ownBlock = some w'.heap.size) (hB : BAt w' b (List.replicate 384 0)) (hb : wr.heap.size ≤ b) (hl : ∀ k, dv.ownBlock = some k → k < wr.heap.size) : AP wr dv vs j v9 w9 := by
  have f9 : Fr (fun k => dv.ownBlock = some k) w' w9 := (Fr.refl _ _).grown hg (fun k _ e => e)
  refine ⟨b, ho, hB.kept f9 (fun e => by have := hl b e; omega), hb, fun k hk => ?_, (hs.mono (fun _ _ e => e.elim)).trans f9 (fun _ _ e => e)⟩
  rcases hn with e | e
  · rw [e] at hk; exact .inl hk
  · rw [e] at hk; simp at hk; have := hs.size; right; omega
/-- The home, with one block more. -/
def NH (wr : World) (h : Nat) (dv : Value) (m : Hm) (W : World) : Prop := ∃ dv' vs', HAt W h dv' (.slice none 0 0) vs' { m with D := m.D ++ [z384] } ∧ (∀ k, dv'.ownBlock = some k → dv.ownBlock = some k ∨ wr.heap.size ≤ k) ∧ Fr (fun k => k = h ∨ dv.ownBlock = some k) wr W
theorem ap_one {wr W : World} {dv v : Value} {vs : List Value} {jj : Nat} (h : AP wr dv vs jj v W) : ∃ ao n c, v = .slice ao n c := by
  obtain ⟨b, h1, -⟩ := h
  obtain ⟨ao, c, e⟩ := owns_shape h1
  exact ⟨ao, _, c, e⟩
theorem ap_store {wr W : World} {h : Nat} {dv v : Value} {vs : List Value} {m : Hm} (H : HAt wr h dv (.slice none 0 0) vs m) (hl : (∀ k, dv.ownBlock = some k → k < wr.heap.size) ∧ m.log = [] ∧ m.D.length < 1000 ∧ vs.length = m.D.length) (hA : AP wr dv vs m.D.length v W) : NH wr h dv m (W.setCell ⟨h, 0, none⟩ v) ∧ W.cell? ⟨h, 0, none⟩ = some dv ∧ W.frozen? ⟨h, 0, none⟩ = false := by
  obtain ⟨b, h1, h2, h3, h4, h5⟩ := hA
  obtain ⟨hl1, hl2, hl3, hl4⟩ := hl
  have hh : ¬ dv.ownBlock = some h := fun e => by have := knd_owns H.data e; rw [knd_cells H.heap] at this; exact absurd this (by decide)
  have hW := (h5.block h (lt_of_heap H.heap) hh).trans H.heap
  have f2 : Fr (fun k => k = h) W (W.setCell ⟨h, 0, none⟩ v) := (Fr.refl (fun k => k = h) W).setCell (p := ⟨h, 0, none⟩) (fun _ => rfl) _
  have hvh : v.ownBlock ≠ some h := fun e => by
    have := knd_owns h1 e
    rw [knd_cells hW] at this
    exact absurd this (by decide)
  have hBk : ∀ x d, BAt W x d → BAt (W.setCell ⟨h, 0, none⟩ v) x d := fun x d hb => hb.kept f2 (fun e => by
    have e' : x = h := e
    have := knd_cells hb
    rw [e', knd_cells hW] at this
    exact absurd this (by decide))
  refine ⟨⟨v, vs ++ [.slice (some ⟨b, 0, none⟩) 384 384], ⟨?_, ?_, fun i hi => ?_, ?_, ?_, fun _ _ b _ => avNo_z b, fun b e => absurd e (avNo_z b)⟩, h4, (h5.mono (fun _ _ e => .inr e)).trans f2 (fun _ _ e => .inl e)⟩, ?_, frozen_of_heap hW 0⟩
  · rw [heap_setCell_same W h 0 _ 51 v hW]
    rfl
  · have := owns_kept h1 f2 (fun k hk e => hvh (by rw [← show k = h from e]; exact hk))
    simpa using this
  · by_cases hi2 : i < m.D.length
    · obtain ⟨x, hx, hB⟩ := H.rd i hi2
      refine ⟨x, by rw [List.getElem?_append_left (by omega)]; exact hx, ?_⟩
      have : ({ m with D := m.D ++ [z384] } : Hm).D[i] = m.D[i] := by simp [hi2]
      rw [this]
      exact hBk _ _ (hB.kept h5 (fun e => by have := knd_owns H.data e; rw [knd_cells hB] at this; exact absurd this (by decide)))
    · have hi3 : i = m.D.length := by simp at hi; omega
      subst hi3
      refine ⟨b, by rw [List.getElem?_append_right (by omega), hl4]; simp, ?_⟩
      have : ({ m with D := m.D ++ [z384] } : Hm).D[m.D.length] = z384 := by simp
      rw [this]
      exact hBk _ _ h2
  · have : ({ m with D := m.D ++ [z384] } : Hm).log = [] := hl2
    rw [this]
    exact owns_nilE _ 3
  · refine ⟨by simp; omega, fun d hd => ?_, H.ok.log, H.ok.bad, H.ok.long, H.ok.few⟩
    rcases List.mem_append.1 hd with h | h
    · exact H.ok.all d h
    · simp at h; rw [h]; exact List.length_replicate
  · rw [cell_of_heap hW]; rfl
theorem ap_fr {wr w' w9 : World} {dv : Value} (hs : Fr (fun _ => False) wr w') (hg : w'.grownBy w9 dv.ownBlock) : Fr (fun k => dv.ownBlock = some k) wr w9 :=
  (hs.mono (fun _ _ e => e.elim)).trans ((Fr.refl (fun k => dv.ownBlock = some k) w').grown hg (fun k _ e => e)) (fun _ _ e => e)
theorem ap_fr1 {w' w9 : World} {dv : Value} {h : Nat} (hg : w'.grownBy w9 dv.ownBlock) : Fr (fun k => k = h ∨ dv.ownBlock = some k) w' w9 := ((Fr.refl (fun k => dv.ownBlock = some k) w').grown hg (fun k _ e => e)).mono (fun _ _ e => .inr e)
theorem twopath {l : List Oper} {a b : Nat} (h : Path l b a) : ∀ k i j, ([a, b] : List Nat)[k]? = some i → ([a, b] : List Nat)[k + 1]? = some j → Path l j i := by
  intro k i j hi hj
  cases k with
  | zero => simp at hi hj; subst hi hj; exact h
  | succ k => simp at hj
theorem fa51_0 (b o : Nat) (W : World) : (Instr.fieldAt 51 (.pointer (some ⟨b, o, none⟩)) 0).run Try.prog W = .ok (.pointer (some ⟨b, o + 0, none⟩)) W := by simp [go_sem]
theorem ld48 (W : World) (a : Addr) (u : Value) (h : W.cell? a = some u) : (Instr.loadAt 48 (.pointer (some a))).run Try.prog W = .ok u W := by simp [go_sem, h]
section
variable {ρ : Operand → Value} {o : Oper} {w w2 : World}
theorem x_make {x y : Operand} {v : Value} (ho : o.op = .makeSlice 37 x y) (hx : ρ x = .int .i64 384) (hy : ρ y = .int .i64 384) (hr : (Instr.makeSlice 37 (.int .i64 ((384 : Nat) : Int)) (.int .i64 ((384 : Nat) : Int))).run Try.prog w = .ok v w2) : (execOp ρ o).run Try.prog w = .ok (.value v) w2 := by
  have hr' : (Instr.makeSlice 37 (.int .i64 384) (.int .i64 384)).run Try.prog w = .ok v w2 := hr
  simp [execOp, ho, hx, hy, hr']
theorem x_bs {x : Operand} {v : Value} (ho : o.op = .buildSlice 48 1 #[(0, x)]) (hx : ρ x = v) (hv : ∃ ao n c, v = .slice ao n c) : (execOp ρ o).run Try.prog w = .ok (.value (.slice (some ⟨w.heap.size, 0, none⟩) 1 1)) (w.alloc (.cells #[v] 37)) := by
  obtain ⟨ao, n, c, rfl⟩ := hv
  simp [execOp, ho, hx, go_sem]
theorem x_app {x y : Operand} {a b v : Value} (ho : o.op = .call { callee := .builtin .append, args := #[x, y], argTypes := #[48, 48] }) (hty : o.type = 48) (hx : ρ x = a) (hy : ρ y = b) (hr : (Builtin.append_ #[48, 48] 48 #[a, b]).run Try.prog w = .ok v w2) : (execOp ρ o).run Try.prog w = .ok (.value v) w2 := by
  simp only [execOp, ho, hty, resolve, invoke, builtin, Sem.run_bind, Sem.run_pure, Result.andThen_ok, List.map_toArray, List.map_cons, List.map_nil, hx, hy, hr]
theorem x_store48 {x y : Operand} {b : Nat} {v d : Value} (ho : o.op = .store 48 x y) (hx : ρ x = .pointer (some ⟨b, 0, none⟩)) (hy : ρ y = v) (hc : w.cell? ⟨b, 0, none⟩ = some d) (hz : w.frozen? ⟨b, 0, none⟩ = false) (hv : ∃ ao n c, v = .slice ao n c) : (execOp ρ o).run Try.prog w = .ok .skip (w.setCell ⟨b, 0, none⟩ v) := by
  obtain ⟨ao, n, c, rfl⟩ := hv
  simp [execOp, ho, hx, hy, go_sem, hc, hz]
end
def hmN (j bad long : Nat) : Hm := ⟨List.replicate j z384, [], 0, bad, long⟩
theorem hmN_succ (j bad long : Nat) : ({ hmN j bad long with D := (hmN j bad long).D ++ [z384] } : Hm) = hmN (j + 1) bad long := by
  unfold hmN; simp [List.replicate_succ']

set_option maxRecDepth 100000 in
set_option maxHeartbeats 2000000 in
theorem newHome_any (w : World) (n bad long : Nat) (hn : n ≤ 1000) (hb : bad ≤ 1000000) (hl : long ≤ 1000000) : Calls Try.prog 8 #[.int .i64 (n : Int), .int .i64 (bad : Int), .int .i64 (long : Int)] w fun e w' => (∃ h dv vs, e = .returned (ptr h) ∧ HAt w' h dv (.slice none 0 0) vs (hmN n bad long) ∧ w.heap.size ≤ h ∧ (∀ k, dv.ownBlock = some k → w.heap.size ≤ k)) ∧ Fr (fun _ => False) w w' := by
  obtain ⟨inf, hi0, hz0, hz1, hz2⟩ := info_parts Try.info37
  go_enter Try.func8, Try.ntmps8
  go_wp2_with fail
  refine wp_world ?_
  intro w1 hw1
  obtain ⟨h, hh⟩ : ∃ h, h = w.heap.size := ⟨_, rfl⟩
  have hH1 : HAt w1 h (.slice none 0 0) (.slice none 0 0) [] (hmN 0 bad long) := ⟨by rw [hw1, hh]; exact heap_alloc_new w _, owns_nilE _ 37, fun i hi => by simp [hmN] at hi, owns_nilE _ 3, ⟨by simp [hmN], fun d hd => by simp [hmN] at hd, by simp [hmN], hb, hl, by simp [hmN]⟩, fun _ _ b _ => avNo_z b, fun b e => absurd e (avNo_z b)⟩
  have f1 : Fr (fun _ => False) w w1 := by rw [hw1]; exact (Fr.refl _ _).alloc _
  have HH1 := hide hH1
  have F1 := hide f1
  have HHH := hide hh
  rw [← hh]
  clear hw1 hH1 f1 hh
  go_loopw [8] (fun y W => ∃ j dv vs, j ≤ n ∧ y = .int .i64 (j : Int) ∧ HAt W h dv (.slice none 0 0) vs (hmN j bad long) ∧ (∀ k, dv.ownBlock = some k → w.heap.size ≤ k) ∧ Fr (fun _ => False) w W) (fun y _ => n - (intOf y).toNat)
  case atStart => exact ⟨0, .slice none 0 0, [], by omega, rfl, unhide HH1, fun k hk => by simp [Value.ownBlock] at hk, unhide F1⟩
  case round =>
    clear HH1 F1
    obtain ⟨j, dv, vs, hj, rfl, hH, hnew, hf⟩ := hrel
    by_cases hlt : j < n
    · have bl : decide (j < n) = true := by simpa using hlt
      have hjl : (hmN j bad long).D.length = j := by simp [hmN]
      have hvl : vs.length = j := by
        have h1 := hH.data.1
        rw [hjl] at h1
        simpa using h1
      have HBL0 : Hid (∀ k, dv.ownBlock = some k → k < wr.heap.size) := hide (fun k hk => knd_lt (by rw [knd_owns hH.data hk]; decide))
      have HBL : Hid ((∀ k, dv.ownBlock = some k → k < wr.heap.size) ∧ (hmN j bad long).log = [] ∧ (hmN j bad long).D.length < 1000 ∧ vs.length = (hmN j bad long).D.length) := hide ⟨unhide HBL0, rfl, by rw [hjl]; omega, by rw [hjl]; exact hvl⟩
      have HH := hide hH
      have HNW := hide hnew
      have HF := hide hf
      have HSU := hide (hmN_succ j bad long)
      have HJL := hide hjl
      generalize hmN j bad long = m at *
      clear hH hnew hf hjl hvl
      go_wp2_with fail
      refine wp_nameK ?_
      intro a0 hA
      have h7 : a0.tmps.getD 7 undef = ptr h := by rw [hA]; rfl
      have hsz : a0.tmps.size = 29 := by rw [hA]; rfl
      have hdf : a0.defers = [] := by rw [hA]
      have HA0 := hide hA
      clear hA
      refine wp_region_kinds (fun k => k = h ∨ dv.ownBlock = some k) (by kernel_rfl) (by kernel_rfl) (by decide +kernel) (by rw [hsz]; decide +kernel) [.eq (ptr h), .eq (ptr h), .eq (ptr h), .eq (.pointer (some ⟨h, 0, none⟩)), .eq (dv), (.st 0 (fun v W => ∃ b, v = .slice (some ⟨b, 0, none⟩) 384 384 ∧ BAt W b (List.replicate 384 0) ∧ wr.heap.size ≤ b) (fun v w1 w2 ⟨b, h1, h2, h3⟩ f => ⟨b, h1, h2.kept f id, h3⟩)), (.st 0 (fun v W => ∃ b, Sr W 1 v 1 [.slice (some ⟨b, 0, none⟩) 384 384] ∧ BAt W b (List.replicate 384 0) ∧ wr.heap.size ≤ b) (fun v w1 w2 ⟨b, h1, h2, h3⟩ f => ⟨b, sr_kept h1 f, h2.kept f id, h3⟩)), (.st 1 (fun v W => AP wr dv vs m.D.length v W) (fun v w1 w2 hv f => hv.kept f)), .eq (ptr h), .eq (.pointer (some ⟨h, 0, none⟩)), .any] [7, 10] (by decide) (by decide) (twopath (waits (by kernel_rfl))) (fun k W => match k with | 0 => Fr (fun _ => False) wr W | 1 => Fr (fun k => dv.ownBlock = some k) wr W | _ => NH wr h dv m W) (Fr.refl _ _).drew ?steps ?done
      case steps =>
        refine ⟨?_, ?_⟩
        · intro a' w' k' hb hf hs hc hq hg hd
          exact ⟨wantedN rfl, k_val (ptr h) (by decide) hs (x_move rfl ((hb.old 7 (by decide +kernel)).trans h7)) rfl⟩
        refine ⟨?_, ?_⟩
        · intro a' w' k' hb hf hs hc hq hg hd
          obtain rfl : k' = 0 := Nat.le_zero.1 (hq 0 7 rfl (waits (by kernel_rfl))); exact ⟨wantedN rfl, k_val (ptr h) (by decide) hs (x_move rfl ((hb.old 7 (by decide +kernel)).trans h7)) rfl⟩
        refine ⟨?_, ?_⟩
        · intro a' w' k' hb hf hs hc hq hg hd
          obtain rfl : k' = 0 := Nat.le_zero.1 (hq 0 7 rfl (waits (by kernel_rfl))); exact ⟨wantedN rfl, k_val (ptr h) (by decide) hs (x_nilCheck rfl (hd 1 (by kernel_rfl) 19 rfl)) rfl⟩
        refine ⟨?_, ?_⟩
        · intro a' w' k' hb hf hs hc hq hg hd
          obtain rfl : k' = 0 := Nat.le_zero.1 (hq 0 7 rfl (waits (by kernel_rfl))); exact ⟨wantedN rfl, k_val (.pointer (some ⟨h, 0, none⟩)) (by decide) hs (x_field (of := 0) (off := 0) (fa51_0 h 0) rfl (hd 2 (by kernel_rfl) 20 rfl)) rfl⟩
        refine ⟨?_, ?_⟩
        · intro a' w' k' hb hf hs hc hq hg hd
          obtain rfl : k' = 0 := Nat.le_zero.1 (hq 0 7 rfl (waits (by kernel_rfl))); exact ⟨wantedN rfl, k_val dv (by decide) hs (x_load1 ld48 rfl (hd 3 (by kernel_rfl) 21 rfl) (by have := cell_of_heap ((unhide HH).kept0 hs).heap 0; simpa using this)) rfl⟩
        refine ⟨?_, ?_⟩
        · intro a' w' k' hb hf hs hc hq hg hd
          obtain rfl : k' = 0 := Nat.le_zero.1 (hq 0 7 rfl (waits (by kernel_rfl))); obtain ⟨w7, hmk, hB7, f7⟩ := mk_any w' 384 (by decide); exact ⟨wantedN rfl, k_new _ w7 (by decide) (Fr.trans hs f7 (fun _ _ h => h)) f7 (x_make rfl rfl rfl hmk) ⟨Nat.zero_le _, fun _ => ⟨_, rfl, hB7, (show Fr (fun _ => False) wr w' from hs).size⟩⟩⟩
        refine ⟨?_, ?_⟩
        · intro a' w' k' hb hf hs hc hq hg hd
          obtain rfl : k' = 0 := Nat.le_zero.1 (hq 0 7 rfl (waits (by kernel_rfl))); have hh := hd 5 (by kernel_rfl) 23 rfl; obtain ⟨b7, e7, hB7, hb7⟩ := hh.2 rfl; exact ⟨wantedN rfl, k_new _ (w'.alloc (.cells #[.slice (some ⟨b7, 0, none⟩) 384 384] 37)) (by decide) (Fr.trans hs ((Fr.refl _ _).alloc _) (fun _ _ h => h)) ((Fr.refl _ _).alloc _) (x_bs rfl e7 ⟨_, _, _, rfl⟩) ⟨Nat.zero_le _, fun _ => ⟨b7, one_cellV _ _ _, hB7.kept ((Fr.refl (fun _ => False) _).alloc _) id, hb7⟩⟩⟩
        refine ⟨?_, ?_⟩
        · intro a' w' k' hb hf hs hc hq hg hd
          obtain rfl := hc 0 rfl; have hh := hd 6 (by kernel_rfl) 24 rfl; obtain ⟨b7, hS7, hB7, hb7⟩ := hh.2 rfl; have hs' : Fr (fun _ => False) wr w' := hs; obtain ⟨v9, w9, hr9, ho9, hg9, hn9⟩ := run_app (P := Try.prog) w' 48 48 37 inf _ 1 24 Try.underlying48 hi0 hz0 hz1 hz2 rfl (by decide) dv m.D.length vs ((owns_kept (unhide HH).data hs' (fun _ _ h => h))) _ 1 _ hS7 (fun u hu => by simp at hu; subst hu; rfl) (by have := (unhide HH).ok.len; omega) (by have := (unhide HH).ok.len; simp only [maxLen]; omega); exact ⟨wantedN rfl, k_chain v9 w9 (by decide) (ap_fr hs' hg9) (ap_fr1 hg9) (x_app rfl rfl (hd 4 (by kernel_rfl) 22 rfl) rfl hr9) ⟨Nat.le_refl _, fun _ => ap_mk hs' ho9 hg9 hn9 hB7 hb7 (unhide HBL0)⟩⟩
        refine ⟨?_, ?_⟩
        · intro a' w' k' hb hf hs hc hq hg hd
          exact ⟨wantedN rfl, k_val (ptr h) (by decide) hs (x_nilCheck rfl (hd 0 (by kernel_rfl) 18 rfl)) rfl⟩
        refine ⟨?_, ?_⟩
        · intro a' w' k' hb hf hs hc hq hg hd
          exact ⟨wantedN rfl, k_val (.pointer (some ⟨h, 0, none⟩)) (by decide) hs (x_field (of := 0) (off := 0) (fa51_0 h 0) rfl (hd 8 (by kernel_rfl) 26 rfl)) rfl⟩
        refine ⟨?_, ?_⟩
        · intro a' w' k' hb hf hs hc hq hg hd
          obtain rfl := hc 1 rfl; have hh := hd 7 (by kernel_rfl) 25 rfl; have hA := hh.2 rfl; obtain ⟨hnh, hcx, hzx⟩ := ap_store (unhide HH) (unhide HBL) hA; exact ⟨wantedN rfl, k_store _ (by decide) hnh (((Fr.refl (fun k => k = h) w').setCell (p := ⟨h, 0, none⟩) (fun _ => rfl) _).mono (fun _ _ e => .inl e)) (x_store48 rfl (hd 9 (by kernel_rfl) 27 rfl) rfl hcx hzx (ap_one hA)) trivial⟩
        exact trivial
      case done =>
        intro a' w' hb hf hs hall
        have hdf' : a'.defers = [] := by rw [hb.defers]; exact hdf
        obtain ⟨v23, hv23⟩ : ∃ v, a'.tmps.getD 23 undef = v := ⟨_, rfl⟩
        obtain ⟨v24, hv24⟩ : ∃ v, a'.tmps.getD 24 undef = v := ⟨_, rfl⟩
        obtain ⟨v25, hv25⟩ : ∃ v, a'.tmps.getD 25 undef = v := ⟨_, rfl⟩
        have hfr := frame_eq (a := a') (vs := [.int .i64 (n : Int), .int .i64 (bad : Int), .int .i64 (long : Int), undef, undef, undef, .pointer none, ptr h, .int .i64 (j : Int), .int .i64 (bad : Int), .int .i64 (long : Int), .agg #[.slice none 0 0, .slice none 0 0, .int .i64 0, .int .i64 (bad : Int), .int .i64 (long : Int)], .pointer (some ⟨h, 0, none⟩), a0.tmps.getD 13 undef, a0.tmps.getD 14 undef, a0.tmps.getD 15 undef, a0.tmps.getD 16 undef, a0.tmps.getD 17 undef, ptr h, ptr h, ptr h, .pointer (some ⟨h, 0, none⟩), dv, v23, v24, v25, ptr h, .pointer (some ⟨h, 0, none⟩), undef]) (by rw [hb.size, hsz]; rfl) hdf' ⟨((hb.old 0 (by decide +kernel)).trans (by rw [unhide HA0]; rfl)), ((hb.old 1 (by decide +kernel)).trans (by rw [unhide HA0]; rfl)), ((hb.old 2 (by decide +kernel)).trans (by rw [unhide HA0]; rfl)), ((hb.old 3 (by decide +kernel)).trans (by rw [unhide HA0]; rfl)), ((hb.old 4 (by decide +kernel)).trans (by rw [unhide HA0]; rfl)), ((hb.old 5 (by decide +kernel)).trans (by rw [unhide HA0]; rfl)), ((hb.old 6 (by decide +kernel)).trans (by rw [unhide HA0]; rfl)), ((hb.old 7 (by decide +kernel)).trans h7), ((hb.old 8 (by decide +kernel)).trans (by rw [unhide HA0]; rfl)), ((hb.old 9 (by decide +kernel)).trans (by rw [unhide HA0]; rfl)), ((hb.old 10 (by decide +kernel)).trans (by rw [unhide HA0]; rfl)), ((hb.old 11 (by decide +kernel)).trans (by rw [unhide HA0]; rfl)), ((hb.old 12 (by decide +kernel)).trans (by rw [unhide HA0]; rfl)), (hb.old 13 (by decide +kernel)), (hb.old 14 (by decide +kernel)), (hb.old 15 (by decide +kernel)), (hb.old 16 (by decide +kernel)), (hb.old 17 (by decide +kernel)), (show a'.tmps.getD 18 undef = ptr h from hall 0 (by decide) 18 rfl), (show a'.tmps.getD 19 undef = ptr h from hall 1 (by decide) 19 rfl), (show a'.tmps.getD 20 undef = ptr h from hall 2 (by decide) 20 rfl), (show a'.tmps.getD 21 undef = .pointer (some ⟨h, 0, none⟩) from hall 3 (by decide) 21 rfl), (show a'.tmps.getD 22 undef = dv from hall 4 (by decide) 22 rfl), hv23, hv24, hv25, (show a'.tmps.getD 26 undef = ptr h from hall 8 (by decide) 26 rfl), (show a'.tmps.getD 27 undef = .pointer (some ⟨h, 0, none⟩) from hall 9 (by decide) 27 rfl), ((hb.old 28 (by decide +kernel)).trans (by rw [unhide HA0]; rfl)), trivial⟩
        have HS : Hid (NH wr h dv m w') := hide hs
        clear hall hb hf hs hv23 hv24 hv25
        subst hfr
        try rw [unhide HA0]
        clear HA0 h7 hsz hdf hdf'
        apply_assumption
        unfold ptr
        go_wp2_with fail
        go_roundw
        case rel =>
          obtain ⟨dv2, vs2, h1, h2, h3⟩ := unhide HS
          rw [unhide HSU] at h1
          refine ⟨j + 1, dv2, vs2, by omega, by go_num, h1, fun k hk => ?_, (unhide HF).trans h3 (fun k hk e => ?_)⟩
          · rcases h2 k hk with e | e
            · exact unhide HNW k e
            · have := (unhide HF).size; omega
          · rcases e with e | e
            · have := unhide HHH; omega
            · have := unhide HNW k e; omega
        case measure => simp [intOf]; omega
    · have bl : decide (j < n) = false := by simpa using hlt
      obtain rfl : j = n := by omega
      have HH := hide hH
      have HNW := hide hnew
      have HF := hide hf
      clear hH hnew hf hlt
      go_wp2_with fail
      go_ret
      exact ⟨⟨h, dv, vs, rfl, unhide HH, by have := unhide HHH; omega, unhide HNW⟩, unhide HF⟩
end Go.Proofs.Ytdgmlopaeonacaa

namespace Go.Proofs.Ytdgmlopaeonacaa
set_option linter.unusedVariables false
set_option linter.unusedSimpArgs false
open Go.RowKit
set_option linter.unusedVariables false

attribute [local go_sem ↓] Go.wp_at_zero Go.wp_at_succ

/-- Kinds of blocks that a cache and its home may turn. -/
def Kz (w : World) (k : Nat) : Prop := knd w k = 51 ∨ knd w k = 37 ∨ knd w k = 3 ∨ knd w k = 78 ∨ knd w k = 1000 ∨ knd w k = 91
/-- What was since the first world is as it was; since the second only blocks of those kinds turned. -/
def Fs (w0 : World × World) (w : World) : Prop := Fr (fun _ => False) w0.1 w ∧ Fr (Kz w0.2) w0.2 w
/-- Cache and home, made since w0: what they hold. -/
def CS [Av] (w0 : World × World) (w : World) (p h r u : Nat) (dv : Value) (c : Ca) (m : Hm) (l : List Pl) : Prop :=
  ∃ lv vs L R, KAt w p h r u L R c ∧ HAt w h dv lv vs m ∧ R.map Prod.snd = l ∧ Fs w0 w ∧ ∀ k, HB h dv lv k ∨ KB p r u R k → w0.1.heap.size ≤ k ∧ (k < w0.2.heap.size → Kz w0.2 k)

section
variable {w0 : World × World} {w w' : World} {p h r u : Nat} {dv lv : Value} {vs : List Value} {L : List (Int × Nat)} {R : List (Nat × Pl)} {c c' : Ca} {m m' : Hm} {l l' : List Pl}

theorem CS.fr [Av] (H : CS w0 w p h r u dv c m l) (f : Fr (fun _ => False) w w') : CS w0 w' p h r u dv c m l := by
  obtain ⟨lv, vs, L, R, h1, h2, h3, h4, h5⟩ := H
  exact ⟨lv, vs, L, R, h1.kept0 f, h2.kept0 f, h3, ⟨h4.1.trans f (fun _ _ e => e), h4.2.trans f (fun _ _ e => e.elim)⟩, h5⟩
theorem CS.f [Av] (H : CS w0 w p h r u dv c m l) : Fr (fun _ => False) w0.1 w := by
  obtain ⟨lv, vs, L, R, h1, h2, h3, h4, h5⟩ := H
  exact h4.1
theorem CS.f2 [Av] (H : CS w0 w p h r u dv c m l) : Fr (Kz w0.2) w0.2 w := by
  obtain ⟨lv, vs, L, R, h1, h2, h3, h4, h5⟩ := H
  exact h4.2
/-- From here on. -/
theorem CS.here [Av] (H : CS w0 w p h r u dv c m l) : CS (w0.1, w) w p h r u dv c m l := by
  obtain ⟨lv, vs, L, R, h1, h2, h3, h4, h5⟩ := H
  refine ⟨lv, vs, L, R, h1, h2, h3, ⟨h4.1, Fr.refl _ _⟩, fun k hk => ⟨(h5 k hk).1, fun _ => ?_⟩⟩
  rcases hk with hk | hk
  · rcases h2.knds hk with e | e | e
    · exact .inl e
    · exact .inr (.inl e)
    · exact .inr (.inr (.inl e))
  · rcases h1.knds hk with e | e | e
    · exact .inr (.inr (.inr (.inl e)))
    · exact .inr (.inr (.inr (.inr (.inl e))))
    · exact .inr (.inr (.inr (.inr (.inr e))))
theorem cs_of [Av] {lv' : Value} {vs' : List Value} {L' : List (Int × Nat)} {R' : List (Nat × Pl)} (f : Fs w0 w) (hn : ∀ k, HB h dv lv k ∨ KB p r u R k → w0.1.heap.size ≤ k ∧ (k < w0.2.heap.size → Kz w0.2 k)) (C : Cs w w' p h r u dv lv R lv' vs' L' R' c m) (hl : R'.map Prod.snd = l) : CS w0 w' p h r u dv c m l := by
  have hs := f.1.size
  have hs2 := f.2.size
  refine ⟨lv', vs', L', R', C.k, C.hh, hl, ⟨f.1.trans C.f (fun k hk e => by have := (hn k e).1; omega), f.2.trans C.f (fun k hk e => (hn k e).2 hk)⟩, fun k hk => ?_⟩
  rcases hk with (e | e | e) | (e | e | e)
  · exact hn k (.inl (.inl e))
  · exact hn k (.inl (.inr (.inl e)))
  · rcases C.lvn k e with e | e
    · exact hn k (.inl (.inr (.inr e)))
    · exact ⟨by omega, fun _ => by omega⟩
  · exact hn k (.inr (.inl e))
  · exact hn k (.inr (.inr (.inl e)))
  · rcases List.mem_cons.1 e with e | e
    · exact hn k (.inr (.inr (.inr (by rw [e]; simp))))
    · rcases C.sub k e with e | e
      · exact hn k (.inr (.inr (.inr (List.mem_cons_of_mem _ e))))
      · exact ⟨by omega, fun _ => by omega⟩
theorem cs_cp [Av] (f : Fs w0 w) (hn : ∀ k, HB h dv lv k ∨ KB p r u R k → w0.1.heap.size ≤ k ∧ (k < w0.2.heap.size → Kz w0.2 k)) (C : Cp w w' p h r u dv lv R c m l) : CS w0 w' p h r u dv c m l := by
  obtain ⟨lv', vs', L', R', k1, k2, k3, k4, k5, f1⟩ := C
  exact cs_of f hn ⟨k1, k2, k4, k5, f1⟩ k3

/-- The blocks' numbers are home's. -/
def InD (m : Hm) (l : List Pl) : Prop := ∀ x ∈ l, x.b < (m.D.length : Int)
theorem InD.rr (h : InD m (R.map Prod.snd)) : ∀ q ∈ R, q.2.b < (m.D.length : Int) := fun q hq => h q.2 (List.mem_map.2 ⟨q, hq, rfl⟩)

theorem cs_write [Av] (b : Int) (v : Value) (P : List UInt8) (ch : Nat) (hch : ch < 18446744073709551616) (hv : Rd w v P) (hva : ∀ k, v.ownBlock = some k → (k < w0.1.heap.size ∧ k < w.heap.size) ∨ knd w k = 5) (H : CS w0 w p h r u dv c m l) (hD : InD m l) (hc : m.calls < 999999990) : Calls Try.prog 23 #[ptr p, .int .i64 b, v, .int .u64 (ch : Int)] w fun e w' => e = .returned (.int .i64 (wtR c m l b P ch).1) ∧ CS w0 w' p h r u dv c (wtR c m l b P ch).2.2 (wtR c m l b P ch).2.1 := by
  obtain ⟨lv, vs, L, R, h1, h2, rfl, h4, h5⟩ := H
  refine (cwrite_any w p h r u L R c dv lv vs m b v P ch hch hv (fun k hk => ?_) h1 h2 hD.rr hc).mono ?_
  · rcases hva k hk with ⟨e, e2⟩ | e
    · exact ⟨fun e3 => by have := (h5 k (.inl e3)).1; omega, fun e3 => by have := (h5 k (.inr e3)).1; omega, e2⟩
    · refine ⟨fun e3 => ?_, fun e3 => ?_, knd_lt (by rw [e]; decide)⟩
      · rcases h2.knds e3 with e4 | e4 | e4 <;> rw [e] at e4 <;> exact absurd e4 (by decide)
      · rcases h1.knds e3 with e4 | e4 | e4 <;> rw [e] at e4 <;> exact absurd e4 (by decide)
  · rintro e w' ⟨rfl, C⟩
    exact ⟨rfl, cs_cp h4 h5 C⟩

/-- What Read answers. -/
def RdA (w : World) (t : Int × List Pl × Hm × Ca) (e : Ending) (w' : World) : Prop := (t.1 ≠ 0 ∧ e = .returned (.tuple #[.slice none 0 0, .int .i64 t.1])) ∨ (t.1 = 0 ∧ ∃ x ao cc, t.2.1.getLast? = some x ∧ e = .returned (.tuple #[.slice ao 384 cc, .int .i64 0]) ∧ Rd w' (.slice ao 384 cc) x.P ∧ x.P.length = 384 ∧ (∀ b, (Value.slice ao 384 cc).ownBlock = some b → w.heap.size ≤ b) ∧ ∀ b, (Value.slice ao 384 cc).ownBlock = some b → knd w' b = 5)
theorem cs_read [Av] (b : Int) (H : CS w0 w p h r u dv c m l) (hD : InD m l) (hc : m.calls < 999999990) (hn : c.hit + c.miss < 1000000000) : Calls Try.prog 22 #[ptr p, .int .i64 b] w fun e w' => RdA w (ftR c m l b) e w' ∧ CS w0 w' p h r u dv (ftR c m l b).2.2.2 (ftR c m l b).2.2.1 (ftR c m l b).2.1 := by
  obtain ⟨lv, vs, L, R, h1, h2, rfl, h4, h5⟩ := H
  refine (cread_any w p h r u L R c dv lv vs m b h1 h2 hD.rr hc hn).mono ?_
  rintro e w' ⟨lv', vs', L', R', C, hl, hA⟩
  exact ⟨hA, cs_of h4 h5 C hl⟩
theorem cs_safe [Av] (s : Nat) (hs : s < 18446744073709551616) (H : CS w0 w p h r u dv c m l) : Calls Try.prog 26 #[ptr p, .int .u64 (s : Int)] w fun e w' => e = .returned (.tuple #[]) ∧ CS w0 w' p h r u dv { c with safe := max c.safe s } m l := by
  obtain ⟨lv, vs, L, R, h1, h2, rfl, h4, h5⟩ := H
  refine (safe_any w p h r u L R c s hs h1).mono ?_
  rintro e w' ⟨rfl, hK, f⟩
  exact ⟨rfl, cs_of h4 h5 (Cs.cache h1 h2 hK (fun _ h => .inl h) (f.mono (fun _ _ e => .inl e))) rfl⟩
theorem cs_held [Av] (H : CS w0 w p h r u dv c m l) (hl : l.length ≤ 1000000) : Calls Try.prog 18 #[ptr p] w fun e w' => (∃ ao cc, e = .returned (.slice ao l.length cc) ∧ RdV w' (.slice ao l.length cc) ((l.map (·.b)).map (Value.int .i64))) ∧ Fr (fun _ => False) w w' := by
  obtain ⟨lv, vs, L, R, h1, h2, rfl, h4, h5⟩ := H
  refine (held_any w p h r u L R c (by simpa using hl) h1).mono ?_
  rintro e w' ⟨⟨ao, cc, rfl, hr⟩, f⟩
  refine ⟨⟨ao, cc, by simp, ?_⟩, f⟩
  have : (R.map Prod.snd).map (·.b) = blk R := by simp [blk]
  rw [this]
  simpa using hr
theorem cs_new [Av] (hH : HAt w h dv (.slice none 0 0) vs m) {w0 : World} (f : Fr (fun _ => False) w0 w) (hh : w0.heap.size ≤ h ∧ ∀ k, dv.ownBlock = some k → w0.heap.size ≤ k) (n : Nat) (hn : 1 ≤ n ∧ n ≤ 4096) : Calls Try.prog 10 #[.iface 25 (ptr h), .int .i64 (n : Int)] w fun e w' => ∃ p r u, e = .returned (.tuple #[ptr p, .int .i64 0]) ∧ CS (w0, w0) w' p h r u dv ⟨n, 0, 0, 0⟩ m [] := by
  refine (new_ok w h n hn).mono ?_
  rintro e w' ⟨⟨p, r, u, rfl, hK, e1, e2, e3⟩, f1⟩
  have hs := f.size
  refine ⟨p, r, u, rfl, .slice none 0 0, vs, [], [], hK, hH.kept0 f1, rfl, ⟨f.trans f1 (fun _ _ e => e), (f.trans f1 (fun _ _ e => e)).mono (fun _ _ e => e.elim)⟩, fun k hk => ?_⟩
  rcases hk with (e | e | e) | (e | e | e)
  · rw [e]; exact ⟨hh.1, fun h => by have := hh.1; simp at h; omega⟩
  · exact ⟨hh.2 k e, fun h => by have := hh.2 k e; simp at h; omega⟩
  · simp [Value.ownBlock] at e
  · exact ⟨by show w0.heap.size ≤ k; omega, fun h => by simp at h; omega⟩
  · exact ⟨by show w0.heap.size ≤ k; omega, fun h => by simp at h; omega⟩
  · simp [adr] at e; exact ⟨by show w0.heap.size ≤ k; omega, fun h => by simp at h; omega⟩
/-- A byte of one of home's blocks. -/
theorem cs_home [Av] (H : CS w0 w p h r u dv c m l) (i : Nat) (D : List UInt8) (hi : m.D[i]? = some D) : ∃ g cap b, dv = .slice (some ⟨g, 0, none⟩) m.D.length cap ∧ i < m.D.length ∧ m.D.length ≤ cap ∧ w.cell? ⟨h, 0, none⟩ = some dv ∧ w.cell? ⟨g, i, none⟩ = some (.slice (some ⟨b, 0, none⟩) 384 384) ∧ BAt w b D := by
  obtain ⟨lv, vs, L, R, h1, h2, h3, h4, h5⟩ := H
  obtain ⟨hil, hiD⟩ := List.getElem?_eq_some_iff.1 hi
  obtain ⟨g, cap, cur, e, hnc, hcm, hg, hcs, hcells⟩ := owns_at h2.data (by omega)
  obtain ⟨b, hb, hB⟩ := h2.rd i hil
  refine ⟨g, cap, b, e, hil, hnc, ?_, (hcells i hil).trans hb, by rw [← hiD]; exact hB⟩
  rw [cell_of_heap h2.heap]; rfl
end
end Go.Proofs.Ytdgmlopaeonacaa
