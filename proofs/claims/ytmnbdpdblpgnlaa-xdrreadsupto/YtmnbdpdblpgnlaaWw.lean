/-
  The walk of the law XdrWrites.
-/
import Derived.Test.YtmnbdpdblpgnlaaHu
import Derived.Lib.AppendStr
import Derived.Deep.MidRow
import Derived.Deep.RegionWith
import Derived.Deep.QuietTactic
import Derived.BigQuiet
namespace Go.Proofs.Ytmnbdpdblpgnlaa
open Go.RowKit
set_option linter.unusedVariables false

attribute [local go_sem ↓] Go.wp_at_zero Go.wp_at_succ

theorem owns_set {w : World} {e : TypeId} {g n cap : Nat} {xs : List Value} (h : w.ownsRow 0 e 1 (.slice (some ⟨g, 0, none⟩) n cap) n xs) (t : Nat) (ht : t < n) (u : Value) :
    (w.setCell ⟨g, t, none⟩ u).ownsRow 0 e 1 (.slice (some ⟨g, 0, none⟩) n cap) n (xs.set t u) ∧ w.cell? ⟨g, t, none⟩ = xs[t]? ∧ w.frozen? ⟨g, t, none⟩ = false := by
  obtain ⟨h1, h2⟩ := h
  rcases h2 with ⟨hv, -⟩ | ⟨g', cap', cur, hv, hb, hh, hn, hm, hs, hx⟩
  · simp at hv
  · simp only [Value.slice.injEq, Option.some.injEq, Addr.mk.injEq] at hv
    obtain ⟨⟨rfl, -, -⟩, -, rfl⟩ := hv
    refine ⟨⟨by simpa using h1, .inr ⟨g, cap, cur.setIfInBounds t u, rfl, hb, heap_setCell_same w g t cur e u hh, hn, hm, by simpa using hs, ?_⟩⟩, ?_, frozen_of_heap hh t⟩
    · rw [Array.toList_setIfInBounds, List.take_set, hx]
    · rw [cell_of_heap hh, ← hx, List.getElem?_take_of_lt (by omega), Array.getElem?_toList]

theorem bvs_set (l : List UInt8) (t : Nat) (c : UInt8) : bvs (l.set t c) = (bvs l).set t (.int .u8 ((c.toNat : Nat) : Int)) := by
  unfold bvs
  rw [List.map_set]

theorem owns_base {w : World} {base N : Nat} {e : TypeId} {size n : Nat} {v : Value} {xs : List Value} (h : w.ownsRow base e size v n xs) (hN : ∀ k, v.ownBlock = some k → N ≤ k) : w.ownsRow N e size v n xs := by
  obtain ⟨h1, h2⟩ := h
  refine ⟨h1, ?_⟩
  rcases h2 with h2 | ⟨g, cap, cur, rfl, hb, r⟩
  · exact .inl h2
  · exact .inr ⟨g, cap, cur, rfl, hN g rfl, r⟩

theorem num_back (w : World) (E : Int) : Calls Try.prog 13 #[.int .i64 E] w fun e w' => e = .returned (.int .i64 E) ∧ w' = w :=
  (num_any w E).mono fun e w' ⟨h1, h2⟩ => ⟨h1, h2.symm⟩

theorem why_back (w : World) (p : Nat) (E : Int) (h : w.cell? ⟨p, 1, none⟩ = some (.int .i64 E)) : Calls Try.prog 14 #[.pointer (some ⟨p, 0, none⟩)] w fun e w' => e = .returned (.int .i64 E) ∧ w' = w :=
  (why_any w p E h).mono fun e w' ⟨h1, h2⟩ => ⟨h1, h2.symm⟩

theorem Rd.take {w : World} {ao : Option Addr} {n cap : Nat} {D : List UInt8} (h : Rd w (.slice ao n cap) D) (a : Nat) (ha : a ≤ D.length) : Rd w (.slice ao a cap) (D.take a) := by
  have hl : (D.take a).length = a := by simp; omega
  rcases h with ⟨hv, rfl⟩ | ⟨ad, cap', hv, h1, h2, h3⟩
  · simp only [List.length_nil, Nat.le_zero_eq] at ha
    subst ha
    simp only [Value.slice.injEq] at hv
    obtain ⟨rfl, -, rfl⟩ := hv
    exact .inl ⟨rfl, rfl⟩
  · simp only [Value.slice.injEq] at hv
    obtain ⟨rfl, -, rfl⟩ := hv
    refine .inr ⟨ad, cap, by rw [hl], by rw [hl]; omega, h2, fun j hj => ?_⟩
    rw [hl] at hj
    rw [h3 j (by omega)]
    simp

theorem owns_drewN {w : World} {base : Nat} {e : TypeId} {size n : Nat} {v : Value} {xs : List Value} (h : w.ownsRow base e size v n xs) (k : Nat) : (w.drewN k).ownsRow base e size v n xs := h

theorem wrap_u8 (c : UInt8) : IntKind.u8.wrap ((c.toNat : Nat) : Int) = ((c.toNat : Nat) : Int) := by
  have := c.toNat_lt
  generalize c.toNat = n at *
  simp only [IntKind.wrap, IntKind.bits, IntKind.signed]
  simp
  omega

theorem xorV (a b : UInt8) : bits BinOp.xor IntKind.u8 ((a.toNat : Nat) : Int) ((b.toNat : Nat) : Int) = (((a ^^^ b).toNat : Nat) : Int) := by
  show IntKind.u8.wrap ((BitVec.ofInt 8 ((a.toNat : Nat) : Int) ^^^ BitVec.ofInt 8 ((b.toNat : Nat) : Int)).toNat : Int) = _
  rw [BitVec.ofInt_natCast, BitVec.ofInt_natCast, ← UInt8.toBitVec_ofNat', ← UInt8.toBitVec_ofNat', UInt8.ofNat_toNat, UInt8.ofNat_toNat, ← UInt8.toBitVec_xor, UInt8.toNat_toBitVec]
  exact wrap_u8 _

theorem Rd.drewN {w : World} {v : Value} {l : List UInt8} (h : Rd w v l) (n : Nat) : Rd (w.drewN n) v l := h.kept ((Qt.drewN w n).fr (fun _ => False)) (fun _ _ h => h)

/-- The bytes that are given, and four more. -/
def restL : List UInt8 := [114, 101, 115, 116]

theorem str_rest (l : List UInt8) : str (l ++ restL) = str l ++ ({ data := #[114, 101, 115, 116] } : ByteArray) := by
  apply ByteArray.ext
  rw [ByteArray.data_append]
  simp [str, restL]

def restB : ByteArray := { data := #[114, 101, 115, 116] }

set_option maxHeartbeats 2000000 in
set_option maxRecDepth 100000 in
theorem xdrWrites_any (w : World) (x : Value) (ss : List Sp) (hx : RdS w x ss) : Calls Try.prog 3 #[x] w fun e w' => e = .returned (.bool true) ∧ Fr (fun _ => False) w w' := by
  have hlm := hx.len
  unfold maxLen at hlm
  have HH := hide (huge_any w x ss hx)
  obtain ⟨ao, cap, rfl⟩ := hx.shape
  obtain ⟨i5, hi5, hz0, hz1, hz2⟩ := info_parts Try.info5
  go_enter Try.func3, Try.ntmps3
  go_wp2_with fail
  refine (unhide HH).mono ?_
  rintro e w1 ⟨b, rfl, q1, hb⟩
  have f1 := q1.fr (fun _ => False)
  cases b
  · have h60 := hb rfl
    have hx1 := hx.kept f1
    have HX0 := hx
    clear hb HH hx
    go_wp2_with fail
    refine (newWriter_any w1).mono ?_
    rintro e w2 ⟨rfl, a2, f2, z2⟩
    go_wp2_with fail
    have hV : VAt (w2.alloc (Obj.cells #[Value.slice none 0 0, Value.int IntKind.i64 0] 30)) w2.heap.size none [] 0 := ⟨_, heap_alloc_new w2 _, rfl, World.ownsRow_nil _ _ _ _⟩
    have D3 : Duo (w2.alloc (Obj.cells #[Value.slice none 0 0, Value.int IntKind.i64 0] 30)) w1.heap.size none [] 0 w2.heap.size none [] 0 := ⟨a2.kept ((Fr.refl _ _).alloc _) id (fun _ _ h => h), hV, fun k hk => by simp at hk⟩
    have F3 : Fr (fun _ => False) w (w2.alloc (Obj.cells #[Value.slice none 0 0, Value.int IntKind.i64 0] 30)) := (f1.trans f2 (fun _ _ h => h)).alloc _
    have hN1 := f1.size
    rw [z2] at D3
    generalize w2.alloc (Obj.cells #[Value.slice none 0 0, Value.int IntKind.i64 0] 30) = w3 at *
    generalize w1.heap.size = P0 at *
    clear hx1 q1 f1 a2 f2 hV z2
    go_loopw [5] (fun i w' => ∃ (k : Nat) (q q2 : Option Nat) (B : List UInt8) (E : Int), k ≤ ss.length ∧ i = .int .i64 k ∧ Duo w' P0 q B E (P0 + 1) q2 B E ∧ Fr (fun _ => False) w w' ∧ (∀ j, q = some j → w.heap.size ≤ j) ∧ (∀ j, q2 = some j → w.heap.size ≤ j) ∧ B.length ≤ k * 33554432) (fun i _ => ss.length - (intOf i).toNat)
    case atStart => exact ⟨0, none, none, [], 0, Nat.zero_le _, rfl, D3, F3, fun j h => by simp at h, fun j h => by simp at h, by simp⟩
    case round =>
      obtain ⟨k, q, q2, B, E, hk, rfl, d, F, hq, hq2, hB⟩ := hrel
      have hxr := HX0.kept F
      by_cases hlt : k < ss.length
      · obtain ⟨b, o, rfl, -, -, hcm, hcell⟩ := hxr.lits (by omega)
        obtain ⟨hsix, hok⟩ := hcell k hlt
        have hsix' : ∀ i (hi : i < 6), wr.cell? ⟨b, o + k * 6 + i, none⟩ = some ((ss[k]).cells[i]'(by simpa [Sp.cells] using hi)) := fun i hi => by rw [Nat.add_assoc]; exact hsix i hi
        obtain ⟨c0, c1, c2, c3, c4, c5⟩ := six hsix'
        have hokw : (ss[k]).Ok w := by
          rcases HX0 with ⟨_, he⟩ | ⟨ad, cp, _, _, _, hj⟩
          · subst he; simp at hlt
          · exact (hj k hlt).2
        have HOKW := hide hokw
        have zp := hok.zp
        obtain ⟨a1, p1, e1⟩ := hok.rp.shape
        obtain ⟨a2, p2, e2⟩ := hok.rl.shape
        obtain ⟨a3, p3, e3⟩ := hok.rt.shape
        rw [show (uvs (ss[k]).ln).length = (ss[k]).ln.length from by simp [uvs]] at e2
        rw [show (svs (ss[k]).lt).length = (ss[k]).lt.length from by simp [svs]] at e3
        rw [e1] at c2
        have HOK := hide hok
        have RP := hok.rp
        rw [e1] at RP
        have HSIX := hide hsix'
        generalize hs : ss[k] = s at *
        unfold maxLen at hcm
        have hbl : b < wr.heap.size := World.block_lt_of_cell? wr ⟨b, o + k * 6, none⟩ c0
        have hbn : ¬ b = wr.heap.size := by omega
        have hbn' : ¬ wr.heap.size = b := by omega
        clear hcell hsix hsix' hxr hok hokw
        have hlti : (k : Int) < (ss.length : Int) := by omega
        go_wp2_with (at_builtin; refine wpList_app rfl (.tmp 24) (.tmp 29) 28 rfl 5 i5 _ 1 1 Try.underlying28 hi5 hz0 hz1 hz2 rfl (by decide) _ 0 [] rfl _ rfl s.lp.length (bvs s.lp) ?hown ?hx ?h1 ?hb ?h63 ?hK)
        case hown => exact ⟨rfl, .inr ⟨wr.heap.size, 0, #[], rfl, Nat.zero_le _, heap_alloc_new wr _, Nat.le_refl _, by simp [maxLen], rfl, rfl⟩⟩
        case hx => exact (RP.kept ((Fr.refl (fun _ => False) wr).alloc _) (fun _ _ h => h)).sr
        case h1 => exact bvs_one _
        case hb => omega
        case h63 => simp only [maxLen]; omega
        case hK =>
          intro ao4 cap4 w4 ho4 hg4 hpl4
          have f4 : Fr (fun _ => False) wr w4 := ((Fr.refl (fun _ => False) wr).alloc _).grown hg4 (fun k hk e => by simp [Value.ownBlock] at e; omega)
          have hN4 : ∀ k, (Value.slice ao4 s.lp.length cap4).ownBlock = some k → wr.heap.size ≤ k := by
            intro k hk
            rcases hpl4 with e | ⟨k', e, hk'⟩
            · rw [e] at hk; simp [Value.ownBlock] at hk; omega
            · rw [e] at hk; simp at hk hk'; omega
          have ho4' := owns_base ho4 hN4
          have HO4 := hide ho4'
          have HN4 := hide hN4
          clear hpl4 hg4 ho4 ho4' hN4
          go_wp2_with (at_builtin; refine Lib.wpList_append_own_string (w := w4) rfl (.tmp 30) (.const (.string restB)) 28 9 rfl wr.heap.size 5 i5 Try.underlying28 Try.underlying9 hi5 hz0 hz1 hz2 _ s.lp.length _ rfl (unhide HO4) restB rfl ?h63 ?hb ?hbase ?hK)
          case h63 => simp only [maxLen]; have : restB.size = 4 := rfl; omega
          case hb => have : restB.size = 4 := rfl; omega
          case hbase => exact f4.size
          case hK =>
            intro v5 w5 ho5 hg5 _
            have f5 : Fr (fun _ => False) wr w5 := f4.grown hg5 (fun k hk e => by have := unhide HN4 k e; omega)
            have hR : w5.rangeAt b (o + k * 6) [Value.int IntKind.i64 s.kind, Value.int IntKind.u64 s.n, Value.slice a1 s.lp.length p1, Value.int IntKind.i64 s.most, Value.slice a2 s.ln.length p2, Value.slice a3 s.lt.length p3] := by
              have hcs : s.cells = [Value.int IntKind.i64 s.kind, Value.int IntKind.u64 s.n, Value.slice a1 s.lp.length p1, Value.int IntKind.i64 s.most, Value.slice a2 s.ln.length p2, Value.slice a3 s.lt.length p3] := by rw [← e1, ← e2, ← e3]; rfl
              rw [← hcs]
              intro j v hv
              have hj : j < 6 := by have := (List.getElem?_eq_some_iff.1 hv).1; simpa [Sp.cells] using this
              have h6 := unhide HSIX j hj
              rw [f5.cell (a := ⟨b, o + k * 6 + j, none⟩) hbl id, h6, ← hv]
              exact (List.getElem?_eq_getElem _).symm
            have c2' : w5.cell? ⟨b, o + k * 6 + 2, none⟩ = some (Value.slice a1 s.lp.length p1) := by rw [f5.cell (a := ⟨b, o + k * 6 + 2, none⟩) hbl id]; exact c2
            have hr4 : restB.size = 4 := rfl
            obtain ⟨ao5, cap5, rfl⟩ := owns_shape ho5
            rw [hr4] at ho5
            have hcap5 : s.lp.length ≤ cap5 := by
              rcases ho5.2 with ⟨hv, hl⟩ | ⟨g, cap', cur, hv, _, _, h, _⟩
              · omega
              · simp at hv; omega
            have hcap5' : (s.lp.length : Int) ≤ (cap5 : Int) := by omega
            have HR := hide hR
            have HO5 := hide ho5
            have hbl5 : b < w5.heap.size := Nat.lt_of_lt_of_le hbl f5.size
            have hbn5 : ¬ b = w5.heap.size := by omega
            have hbn5' : ¬ w5.heap.size = b := by omega
            clear hbn hbn' c0 c1 c2 c3 c4 c5 hg5 ho5 HO4 HN4
            go_wp2_with (refine wpList_load_mid rfl 35 (.tmp 34) rfl b (o + k * 6) rfl [Value.int IntKind.i64 s.kind, Value.int IntKind.u64 s.n, Value.slice a1 s.lp.length p1, Value.int IntKind.i64 s.most, Value.slice a2 s.ln.length p2, Value.slice a3 s.lt.length p3] _ hR Try.underlying35 rfl (by kernel_rfl) ?_)
            have hlt1 := d.1.lt
            have hlt2 := d.2.1.lt
            have f6 : Fr (fun _ => False) wr (w5.alloc (Obj.cells #[Value.int IntKind.i64 s.kind, Value.int IntKind.u64 s.n, Value.slice ao5 s.lp.length cap5, Value.int IntKind.i64 s.most, Value.slice a2 s.ln.length p2, Value.slice a3 s.lt.length p3] 35)) := f5.alloc _
            have d6 := d.kept f6
            have hnew : ∀ j, (Value.slice ao5 (s.lp.length + 4) cap5).ownBlock = some j → wr.heap.size ≤ j ∧ j < w5.heap.size := by
              intro j hj
              rcases (unhide HO5).2 with ⟨hv, _⟩ | ⟨g, cap', cur, hv, hb, hh, _⟩
              · rw [hv] at hj; simp [Value.ownBlock] at hj
              · rw [hv] at hj; simp [Value.ownBlock] at hj; subst hj; exact ⟨hb, lt_of_heap hh⟩
            have awayN : ∀ j, wr.heap.size ≤ j → j < w5.heap.size → Away (w5.alloc (Obj.cells #[Value.int IntKind.i64 s.kind, Value.int IntKind.u64 s.n, Value.slice ao5 s.lp.length cap5, Value.int IntKind.i64 s.most, Value.slice a2 s.ln.length p2, Value.slice a3 s.lt.length p3] 35)) P0 q (P0 + 1) q2 j := by
              intro j h1 h2
              refine ⟨by simp; omega, fun hf => ?_, fun hf => ?_⟩
              · rcases hf with e | e
                · omega
                · have := hlt1.2 _ e; omega
              · rcases hf with e | e
                · omega
                · have := hlt2.2 _ e; omega
            have awayO : ∀ j, j < w.heap.size → Away (w5.alloc (Obj.cells #[Value.int IntKind.i64 s.kind, Value.int IntKind.u64 s.n, Value.slice ao5 s.lp.length cap5, Value.int IntKind.i64 s.most, Value.slice a2 s.ln.length p2, Value.slice a3 s.lt.length p3] 35)) P0 q (P0 + 1) q2 j := by
              intro j h1
              have := f6.size
              have := F.size
              refine ⟨by omega, fun hf => ?_, fun hf => ?_⟩
              · rcases hf with e | e
                · omega
                · have := hq _ e; omega
              · rcases hf with e | e
                · omega
                · have := hq2 _ e; omega
            have rg5 : Rd w5 (Value.slice ao5 (s.lp.length + 4) cap5) (s.lp ++ restL) := by
              have := unhide HO5
              refine Rd.of_owns (base := wr.heap.size) ?_
              rw [bvs_append, List.length_append]
              exact this
            have rg6 : Rd (w5.alloc (Obj.cells #[Value.int IntKind.i64 s.kind, Value.int IntKind.u64 s.n, Value.slice ao5 s.lp.length cap5, Value.int IntKind.i64 s.most, Value.slice a2 s.ln.length p2, Value.slice a3 s.lt.length p3] 35)) (Value.slice ao5 (s.lp.length + 4) cap5) (s.lp ++ restL) := rg5.kept ((Fr.refl (fun _ => False) _).alloc _) (fun _ _ h => h)
            have rl0 := (unhide HOKW).rl
            have rt0 := (unhide HOKW).rt
            rw [e2] at rl0
            rw [e3] at rt0
            have sat : SAt (w5.alloc (Obj.cells #[Value.int IntKind.i64 s.kind, Value.int IntKind.u64 s.n, Value.slice ao5 s.lp.length cap5, Value.int IntKind.i64 s.most, Value.slice a2 s.ln.length p2, Value.slice a3 s.lt.length p3] 35)) P0 q (P0 + 1) q2 s.n (Value.slice ao5 s.lp.length cap5) (Value.slice a2 s.ln.length p2) (Value.slice a3 s.lt.length p3) s.lp s.ln s.lt := {
              hn := (unhide HOKW).hn
              rp := by
                have := rg6.take s.lp.length (by simp)
                rwa [List.take_left] at this
              rl := (rl0.kept (F.trans f6 (fun _ _ h => h)) (fun _ _ h => h))
              rt := (rt0.kept (F.trans f6 (fun _ _ h => h)) (fun _ _ h => h))
              ap := fun j hj => awayN j (hnew j (by cases ao5 <;> exact hj)).1 (hnew j (by cases ao5 <;> exact hj)).2
              al := fun j hj => by
                by_cases e : s.ln = []
                · exact .inl e
                · obtain ⟨b', o', rfl, _, _, _, hc'⟩ := rl0.lits (by cases hh : s.ln with | nil => exact absurd hh e | cons x y => simp [uvs])
                  have := World.block_lt_of_cell? w _ (hc' 0 (by cases hh : s.ln with | nil => exact absurd hh e | cons x y => simp [uvs]))
                  simp only [Value.ownBlock, Option.some.injEq] at hj
                  subst hj
                  exact .inr (awayO _ this)
              at_ := fun j hj => by
                by_cases e : s.lt = []
                · exact .inl e
                · obtain ⟨b', o', rfl, _, _, _, hc'⟩ := rt0.lits (by cases hh : s.lt with | nil => exact absurd hh e | cons x y => simp [svs])
                  have := World.block_lt_of_cell? w _ (hc' 0 (by cases hh : s.lt with | nil => exact absurd hh e | cons x y => simp [svs]))
                  simp only [Value.ownBlock, Option.some.injEq] at hj
                  subst hj
                  exact .inr (awayO _ this)
              wl := (unhide HOKW).wl
              wt := (unhide HOKW).wt
              zp := (unhide HOKW).zp
              zl := (unhide HOKW).zl
              zt := (unhide HOKW).zt }
            have HC := hide (writes_any _ P0 q (P0 + 1) q2 B E s.n s.most _ _ _ s.lp s.ln s.lt d6 sat (by omega) s.kind)
            have hbA := awayO b (by
              rcases HX0 with ⟨he, _⟩ | ⟨ad, cp, he, _, _, hj⟩
              · simp at he
              · simp at he
                obtain ⟨rfl, _⟩ := he
                have := World.block_lt_of_cell? w _ ((hj k hlt).1 0 (by omega))
                rwa [add_block] at this)
            have RP6 := RP.kept f6 (fun _ _ h => h)
            have F6 := hide (F.trans f6 (fun _ _ h => h))
            have HNEW := hide hnew
            have c26 : (w5.alloc (Obj.cells #[Value.int IntKind.i64 s.kind, Value.int IntKind.u64 s.n, Value.slice ao5 s.lp.length cap5, Value.int IntKind.i64 s.most, Value.slice a2 s.ln.length p2, Value.slice a3 s.lt.length p3] 35)).cell? ⟨b, o + k * 6 + 2, none⟩ = some (Value.slice a1 s.lp.length p1) := by rw [((Fr.refl (fun _ => False) w5).alloc (Obj.cells #[Value.int IntKind.i64 s.kind, Value.int IntKind.u64 s.n, Value.slice ao5 s.lp.length cap5, Value.int IntKind.i64 s.most, Value.slice a2 s.ln.length p2, Value.slice a3 s.lt.length p3] 35)).cell (a := ⟨b, o + k * 6 + 2, none⟩) hbl5 id]; exact c2'
            have HA1 : Hid (∀ j, (Value.slice a1 s.lp.length p1).ownBlock = some j → s.lp = [] ∨ Away (w5.alloc (Obj.cells #[Value.int IntKind.i64 s.kind, Value.int IntKind.u64 s.n, Value.slice ao5 s.lp.length cap5, Value.int IntKind.i64 s.most, Value.slice a2 s.ln.length p2, Value.slice a3 s.lt.length p3] 35)) P0 q (P0 + 1) q2 j) := by
              intro j hj
              by_cases e : s.lp = []
              · exact .inl e
              · have rp0 := (unhide HOKW).rp
                rw [e1] at rp0
                obtain ⟨b', o', rfl, _, _, _, hc'⟩ := rp0.lits (List.length_pos_iff.2 e)
                have := World.block_lt_of_cell? w _ (hc' 0 (List.length_pos_iff.2 e))
                simp only [Value.ownBlock, Option.some.injEq] at hj
                subst hj
                exact .inr (awayO _ this)
            have HAG : Hid (∀ j, (Value.slice ao5 (s.lp.length + 4) cap5).ownBlock = some j → Away (w5.alloc (Obj.cells #[Value.int IntKind.i64 s.kind, Value.int IntKind.u64 s.n, Value.slice ao5 s.lp.length cap5, Value.int IntKind.i64 s.most, Value.slice a2 s.ln.length p2, Value.slice a3 s.lt.length p3] 35)) P0 q (P0 + 1) q2 j) := fun j hj => awayN j (hnew j hj).1 (hnew j hj).2
            clear hnew awayN awayO rg5 rl0 rt0 sat d6 f6 hlt1 hlt2 hR HR c2' f5 f4
            refine (unhide HC).mono ?_
            rintro e w7 ⟨rfl, q7, q27, B7, E7, d7, t7, hl7⟩
            have hq7 : ∀ j, q7 = some j → w.heap.size ≤ j := by
              intro j hj
              by_cases hjs : j < (w5.alloc (Obj.cells #[Value.int IntKind.i64 s.kind, Value.int IntKind.u64 s.n, Value.slice ao5 s.lp.length cap5, Value.int IntKind.i64 s.most, Value.slice a2 s.ln.length p2, Value.slice a3 s.lt.length p3] 35)).heap.size
              · exact hq j (t7.2.1 j hjs hj)
              · have := (unhide F6).size; omega
            have hq27 : ∀ j, q27 = some j → w.heap.size ≤ j := by
              intro j hj
              by_cases hjs : j < (w5.alloc (Obj.cells #[Value.int IntKind.i64 s.kind, Value.int IntKind.u64 s.n, Value.slice ao5 s.lp.length cap5, Value.int IntKind.i64 s.most, Value.slice a2 s.ln.length p2, Value.slice a3 s.lt.length p3] 35)).heap.size
              · exact hq2 j (t7.2.2 j hjs hj)
              · have := (unhide F6).size; omega
            have F7 : Fr (fun _ => False) w w7 := (unhide F6).trans t7.1 (fun j hj hf => by
              rcases hf with (e | e) | (e | e)
              · omega
              · have := hq _ e; omega
              · omega
              · have := hq2 _ e; omega)
            have RG7 : Rd w7 (Value.slice ao5 (s.lp.length + 4) cap5) (s.lp ++ restL) := rg6.kept t7.1 (fun j hj hf => hf.elim (unhide HAG j hj).2.1 (unhide HAG j hj).2.2)
            have RP7 : Rd w7 (Value.slice a1 s.lp.length p1) s.lp := by
              by_cases e : s.lp = []
              · rcases RP6 with h | ⟨ad, cp, h1, h2, h3, h4⟩
                · exact .inl h
                · exact .inr ⟨ad, cp, h1, h2, h3, fun j hj => by rw [e] at hj; simp at hj⟩
              · exact RP6.kept t7.1 (fun j hj hf => hf.elim ((unhide HA1 j hj).resolve_left e).2.1 ((unhide HA1 j hj).resolve_left e).2.2)
            have c27 : w7.cell? ⟨b, o + k * 6 + 2, none⟩ = some (Value.slice a1 s.lp.length p1) := by rw [t7.1.cell (a := ⟨b, o + k * 6 + 2, none⟩) hbA.1 (fun hf => hf.elim hbA.2.1 hbA.2.2)]; exact c26
            have hbl7 := (hbA.step t7).1
            have HB7 := hide (show B7.length ≤ (k + 1) * 33554432 by omega)
            have HW := hide (wbytes_any w7 P0 q7 B7 E7 d7.1 (by omega))
            clear rg6 RP6 c26 HA1 HAG HC t7 hbA hl7
            go_wp2_with fail
            refine (unhide HW).mono ?_
            rintro e w8 ⟨v8, rfl, o8, f8, n8⟩
            have HLT7 := hide (show P0 < w7.heap.size ∧ (∀ j, q7 = some j → j < w7.heap.size) ∧ P0 + 1 < w7.heap.size ∧ (∀ j, q27 = some j → j < w7.heap.size) from ⟨d7.1.lt.1, d7.1.lt.2, d7.2.1.lt.1, d7.2.1.lt.2⟩)
            have F7S := hide F7.size
            have d8 := d7.kept f8
            have RG8 := RG7.kept f8 (fun _ _ h => h)
            have RP8 := RP7.kept f8 (fun _ _ h => h)
            have c28 : w8.cell? ⟨b, o + k * 6 + 2, none⟩ = some (Value.slice a1 s.lp.length p1) := by rw [f8.cell (a := ⟨b, o + k * 6 + 2, none⟩) hbl7 id]; exact c27
            have F8 := hide (F7.trans f8 (fun _ _ h => h))
            have kA := fun n => conv_rd (P := Try.prog) ((Rd.of_owns o8).drewN n) 28 9 5 Try.underlying28 Try.underlying5 Try.underlying9
            have kG := fun n => conv_rd (P := Try.prog) (RG8.drewN n) 28 9 5 Try.underlying28 Try.underlying5 Try.underlying9
            have kP := fun n => conv_rd (P := Try.prog) (RP8.drewN n) 28 9 5 Try.underlying28 Try.underlying5 Try.underlying9
            rw [str_rest] at kG
            have hsz : (str s.lp).size + ({ data := #[114, 101, 115, 116] } : ByteArray).size ≤ 9223372036854775807 := by
              have : ({ data := #[114, 101, 115, 116] } : ByteArray).size = 4 := rfl
              rw [str_size]; omega
            have hszi : ¬ (9223372036854775807 : Int) < (((str s.lp).size + ({ data := #[114, 101, 115, 116] } : ByteArray).size : Nat) : Int) := by omega
            have kAdd : ∀ wx : World, (Op.stringOp .add (str s.lp) ({ data := #[114, 101, 115, 116] } : ByteArray)).run Try.prog wx = .ok (.string (str s.lp ++ ({ data := #[114, 101, 115, 116] } : ByteArray))) wx := fun wx => run_string_add_sum wx _ _ hsz
            obtain ⟨⟨vw, hw1, hw2, hw3⟩, ⟨vv, hv1, hv2, hv3⟩, hap8⟩ := id d8
            have kV := fun n => conv_rd (P := Try.prog) ((Rd.of_owns hv3).drewN n) 28 9 5 Try.underlying28 Try.underlying5 Try.underlying9
            have cw1 := WAt.cell1 hw1
            have cv0 := VAt.cell0 hv1
            have cv1 := VAt.cell1 hv1
            obtain ⟨ao8, cap8, rfl⟩ := owns_shape o8
            obtain ⟨aov, capv, rfl⟩ := owns_shape hv3
            have HO8 := hide o8
            have D8 := hide d8
            clear d7 RG7 RP7 c27 F7 HW f8 RG8 RP8 hw1 hw2 hw3 hv1 hv2 hv3 hap8 d8 o8
            go_wp2_with fail
            go_quiet ((first | (go_at_call 13; exact Calls.quiet_of_same (num_back _ _)) | (go_at_call 14; exact Calls.quiet_of_same (why_back _ _ _ (by simpa using cw1)))))
            go_wp2_with fail
            have FS := hide ((unhide F8).trans ((Qt.drewN w8 nq).fr (fun _ => False)) (fun _ _ h => h))
            have DS := hide ((unhide D8).kept ((Qt.drewN w8 nq).fr (fun _ => False)))
            have HOS : Hid ((w8.drewN nq).ownsRow 0 5 1 (Value.slice ao8 B7.length cap8) B7.length (bvs B7)) := owns_drewN (unhide HO8) nq
            have HN8 := hide n8
            clear kA kG kP kV kAdd hsz hszi cw1 cv0 cv1 c28 HO8 D8 F8 n8
            have hw7 : w.heap.size ≤ w7.heap.size := by have := unhide F7S; exact this
            generalize w8.drewN nq = wS at *
            go_loopw [9] (fun i w' => ∃ (t : Nat) (l' : List UInt8), t ≤ B7.length ∧ i = .int .i64 t ∧ l'.length = B7.length ∧ w'.ownsRow 0 5 1 (.slice ao8 B7.length cap8) B7.length (bvs l') ∧ Fr (fun j => (Value.slice ao8 B7.length cap8).ownBlock = some j) wS w') (fun i _ => B7.length - (intOf i).toNat)
            case atStart => exact ⟨0, B7, Nat.zero_le _, rfl, rfl, unhide HOS, Fr.refl _ _⟩
            case round =>
              obtain ⟨t, l', ht, rfl, hl', ho', f'⟩ := hrel
              have hnewS : ∀ j, (Value.slice ao8 B7.length cap8).ownBlock = some j → w7.heap.size ≤ j := unhide HN8
              by_cases htl : t < B7.length
              · obtain ⟨g, rfl⟩ : ∃ g, ao8 = some ⟨g, 0, none⟩ := by
                  rcases ho'.2 with ⟨hv, hn⟩ | ⟨g, cap', cur, hv, _⟩
                  · omega
                  · simp at hv; exact ⟨g, hv.1⟩
                have htl' : t < l'.length := by omega
                obtain ⟨-, hcell, hfr⟩ := owns_set ho' t htl (.int .u8 0)
                have hset := fun c : UInt8 => (owns_set ho' t htl (.int .u8 ((c.toNat : Nat) : Int))).1
                rw [bvs_get l' t htl'] at hcell
                have hcap8 : t < cap8 := by
                  rcases ho'.2 with ⟨hv, hn⟩ | ⟨g, cap', cur, hv, _, _, h, _⟩
                  · omega
                  · simp at hv; omega
                have hgS : ∃ j, (Value.slice (some ⟨g, 0, none⟩) B7.length cap8).ownBlock = some j := ⟨g, rfl⟩
                generalize l'[t] = old at *
                have hxo : bits BinOp.xor IntKind.u8 ((old.toNat : Nat) : Int) 85 = (((old ^^^ 85).toNat : Nat) : Int) := xorV old 85
                have HSET := hide (hset (old ^^^ 85))
                have HF' := hide f'
                have HL' := hide hl'
                have htli : (t : Int) < (B7.length : Int) := by omega
                have hb7 : B7.length ≤ 2200000000 := by have := unhide HB7; omega
                clear ho' hset f' hl' htl' HOS
                go_wp2_with fail
                go_roundw
                case rel =>
                  refine ⟨t + 1, l'.set t (old ^^^ 85), by omega, by go_num, by simp [unhide HL'], by rw [bvs_set]; exact unhide HSET, ?_⟩
                  exact (unhide HF').setCell (p := ⟨g, t, none⟩) (fun _ => rfl) _
                case measure => simp [intOf]; omega
              · have HF' := hide f'
                clear ho' f' hl'
                go_wp2_with fail
                go_roundw
                case rel =>
                  have dS := unhide DS
                  have l1 := dS.1.lt
                  have l2 := dS.2.1.lt
                  have Fq : Fr (fun _ => False) w wr := (unhide FS).trans (unhide HF') (fun j hj h => by have := hnewS j h; omega)
                  refine ⟨k + 1, q7, q27, B7, E7, by omega, by go_num, ⟨dS.1.kept (unhide HF') (fun h => ?_) (fun j hj h => ?_), dS.2.1.kept (unhide HF') (fun h => ?_) (fun j hj h => ?_), dS.2.2⟩, Fq, hq7, hq27, unhide HB7⟩
                  · have := hnewS _ h; have := unhide HLT7; omega
                  · have := hnewS _ h; have := (unhide HLT7).2.1 j hj; omega
                  · have := hnewS _ h; have := (unhide HLT7).2.2.1; omega
                  · have := hnewS _ h; have := (unhide HLT7).2.2.2 j hj; omega
                case measure => simp [intOf]; omega
      · obtain rfl : k = ss.length := by omega
        obtain ⟨⟨vw, hw1, hw2, hw3⟩, ⟨vv, hv1, hv2, hv3⟩, hap8⟩ := id d
        have hBl : B.length ≤ 140737488355328 := by omega
        have HWB := hide (fun (wx : World) (f : Fr (fun _ => False) wr wx) => wbytes_any wx P0 q B E (d.1.kept f id (fun _ _ h => h)) hBl)
        have cv0 := VAt.cell0 hv1
        have rv := Rd.of_owns hv3
        obtain ⟨aov, capv, rfl⟩ := owns_shape hv3
        have hP1 := d.2.1.lt.1
        have kc0 := conv_rd (P := Try.prog) (rv.kept (Fr.refl (fun _ => False) wr).drew (fun _ _ h => h)) 28 9 5 Try.underlying28 Try.underlying5 Try.underlying9
        clear hw1 hw2 hw3 hv1 hv2 hv3 hap8 hxr
        go_wp2_with fail
        go_region_with ((first | (go_at_call 12; refine (unhide HWB _ (by first | exact Fr.refl _ _ | exact (Fr.refl _ _).drew)).mono ?_; rintro e w6 ⟨v6, rfl, o6, f6, n6⟩; have kc1 := conv_rd (P := Try.prog) (Rd.of_owns o6) 28 9 5 Try.underlying28 Try.underlying5 Try.underlying9; have kc2 := conv_rd (P := Try.prog) (rv.kept (by first | exact f6.drewL | exact f6) (fun _ _ h => h)) 28 9 5 Try.underlying28 Try.underlying5 Try.underlying9; obtain ⟨ao6, cap6, rfl⟩ := owns_shape o6; have c3 : w6.cell? ⟨P0 + 1, 0, none⟩ = some (Value.slice aov B.length capv) := (by rw [Fr.cell (S := fun _ => False) (w := wr) (by first | exact f6.drewL | exact f6) (a := ⟨P0 + 1, 0, none⟩) hP1 id]; exact cv0); clear o6 n6) | (go_at_call 9; refine (live_any _).mono ?_; rintro e w9 ⟨rfl, f9⟩)))
        all_goals
          go_wp2_with fail
          go_ret
          exact ⟨rfl, (F.trans f6.drewL (fun _ _ h => h)).trans f9 (fun _ _ h => h)⟩
  · clear hb HH
    go_wp2_with fail
    refine (live_any w1).mono ?_
    rintro e w2 ⟨rfl, f2⟩
    go_wp2_with fail
    go_ret
    exact ⟨rfl, f1.trans f2 (fun _ _ h => h)⟩

end Go.Proofs.Ytmnbdpdblpgnlaa
