/-
  What does does, both beside each other: Write, whose bytes are spoilt.
  CachePlays: what both tell, at their beginning and behind every act.
-/
import Derived.Test.YtdgmlopaeonacaaM25
import Derived.Test.YtdgmlopaeonacaaM12
import Derived.Test.YtdgmlopaeonacaaM20
namespace Go.Proofs.Ytdgmlopaeonacaa
set_option linter.unusedVariables false
set_option linter.unusedSimpArgs false
open Go.RowKit Go.Lib
set_option linter.unusedVariables false
set_option linter.unusedSimpArgs false

attribute [local go_sem ↓] Go.wp_at_zero Go.wp_at_succ

theorem Rd.low {w W : World} {v : Value} {P : List UInt8} (h : Rd w v P) {S : Nat → Prop} (f : Fr S w W) (hS : ∀ k, S k → w.heap.size ≤ k) : Rd W v P := by
  rcases h with ⟨e1, e2⟩ | ⟨ad, cap, e, h1, h2, h3⟩
  · exact .inl ⟨e1, e2⟩
  · refine .inr ⟨ad, cap, e, h1, h2, fun j hj => ?_⟩
    have hc := h3 j hj
    have hb := World.block_lt_of_cell? w _ hc
    rw [f.cell hb (fun e => absurd (hS _ e) (by omega))]; exact hc
theorem Fr.cell_some {w w' : World} (h : Fr (fun _ => False) w w') {a : Addr} {v : Value} (hc : w.cell? a = some v) : w'.cell? a = some v := by
  rw [h.cell (World.block_lt_of_cell? w _ hc) id]; exact hc
theorem wp_mid {P : Program} {C : Code} {Q : Exit → Act → World → Prop} {K : Act → World → Prop} {a : Act} {w : World} (KK : Act → World → Prop) (h1 : C.wp P (Exit.then KK Q) a w) (h2 : ∀ a w, KK a w → K a w) : C.wp P (Exit.then K Q) a w :=
  Code.wp_mono (fun e a w h => by cases e <;> first | exact h2 _ _ h | exact h) h1
theorem strRest (P : List UInt8) : str P ++ { data := #[114, 101, 115, 116] } = str (P ++ rest4) := by
  apply ByteArray.ext
  show (str P ++ _).data = _
  simp [str, rest4]
section
variable {w W W1 : World} {p h r u : Nat} {dv : Value} {q g : Nat} {dv2 : Value} {k : Nat} {c cc : Ca} {m mm : Hm} {l ll : List Pl} {kb kn : Int} {v : Value} {P : List UInt8} {ch : Nat}
theorem lp_write1 [Av] (hN : Nm k c m l) (hk : k ≤ 1000) (kb : Int) (hch : ch < 18446744073709551616) (hv : Rd W1 v P) (hva : ∀ b, v.ownBlock = some b → knd W1 b = 5) (H1 : PR w W1 p h r u dv q g dv2 c m l cc mm ll) : Calls Try.prog 23 #[ptr p, .int .i64 kb, v, .int .u64 (ch : Int)] W1 fun e w' => e = .returned (.int .i64 (wtR c m l kb P ch).1) ∧ PR w w' p h r u dv q g dv2 c (wtR c m l kb P ch).2.2 (wtR c m l kb P ch).2.1 cc mm ll ∧ Fr (KY W1) W1 w' := by
  obtain ⟨n1, n2, n3, n4, n5, n6⟩ := hN.num hk
  exact H1.prog (fun X C => cx_write kb v P ch hch hv hva C hN.inD n2)
theorem lp_write2 [Av] (hN : Nm k c m l) (hk : k ≤ 1000) (kb : Int) (hch : ch < 18446744073709551616) (hv : Rd w v P) (H1 : PR w W1 p h r u dv q g dv2 cc mm ll c m l) : Calls Try.prog 32 #[ptr q, .int .i64 kb, v, .int .u64 (ch : Int)] W1 fun e w' => e = .returned (.int .i64 (wtR c m l kb P ch).1) ∧ PR w w' p h r u dv q g dv2 cc mm ll c (wtR c m l kb P ch).2.2 (wtR c m l kb P ch).2.1 ∧ Fr (KY W1) W1 w' := by
  obtain ⟨n1, n2, n3, n4, n5, n6⟩ := hN.num hk
  have h6 : Fr (fun _ => False) w W1 := by
    obtain ⟨X, Y, -, -, -, -, -, h6⟩ := H1
    exact h6
  exact H1.doc (fun Y D hY => dx_write kb v P ch hch (hv.low h6 (fun _ e => e.elim)) (fun W' f => hv.low (S := fun k => w.heap.size ≤ k) ((h6.mono (fun _ _ e => e.elim)).trans f (fun k hk e => by
    rcases e with e | e
    · exact (hY k e).1
    · have := h6.size; omega)) (fun _ e => e)) D n4 hN.inD n2)
set_option maxRecDepth 100000 in
set_option maxHeartbeats 16000000 in
theorem does1 {po : Option Addr} {pn pc : Nat} (H : @LP avNo w W p h r u dv q g dv2 k c m l) (hk : k ≤ 1000) (hch : ch < 18446744073709551616) (hv : Rd w (.slice po pn pc) P) (hpn : P.length = pn) (hpl : pn ≤ 1048576) : Calls Try.prog 13 #[ptr p, ptr q, .agg #[.int .i64 1, .int .i64 kb, .slice po pn pc, .int .u64 (ch : Int), .int .i64 kn]] W fun e W' => e = .returned (.bool true) ∧ ∃ c' m' l', @LP avNo w W' p h r u dv q g dv2 (k + 1) c' m' l' := by
  obtain ⟨hB, hA⟩ := @LP.box _ _ _ _ _ _ _ _ _ _ _ _ _ _ avNo H 1 kb (.slice po pn pc) ch kn
  have h6 : Fr (fun _ => False) w W := by
    obtain ⟨⟨X, Y, -, -, -, -, -, h6⟩, -, -⟩ := H
    exact h6
  obtain ⟨c0, c1, c2, c3, -⟩ := hA.cells
  have HSR : Hid (∀ W', Fr (fun _ => False) W W' → Sr W' 1 (.slice po pn pc) pn (bvs P)) := hide (fun W' f => by have := (hv.low (h6.trans f (fun _ _ e => e)) (fun _ e => e.elim)).sr; rw [hpn] at this; exact this)
  have HB := hide hB
  have HA := hide hA
  have HV := hide hv
  clear hA hB hv h6
  unfold ptr at *
  obtain ⟨inf, hi0, hz0, hz1, hz2⟩ := info_parts Try.info5
  go_enter Try.func13, Try.ntmps13
  go_upto_region 12 with fail
  refine wp_world ?_
  intro W4 hW4
  rw [← hW4] at c0 c1 c2 c3 HA HB
  have HS4 : Hid (Sr (W4.alloc (.cells #[] 5)) 1 (.slice po pn pc) pn (bvs P)) := hide (unhide HSR _ (by rw [hW4]; exact ((Fr.refl _ _).alloc _).alloc _))
  have HWW : Hid (w.heap.size ≤ W4.heap.size) := hide (by
    obtain ⟨⟨X, Y, -, -, -, -, -, h6⟩, -, -⟩ := unhide HB
    exact h6.size)
  obtain ⟨-, -, c2a, -, -⟩ := ((unhide HA).kept ((Fr.refl (fun _ => False) W4).alloc (.cells #[] 5)) id).cells
  clear HSR H hW4
  go_wp2_with (at_builtin; refine wpList_app rfl (.tmp 67) (.tmp 69) 37 rfl 5 inf _ 1 1 Try.underlying37 hi0 hz0 hz1 hz2 rfl (by decide) (.slice (some ⟨W4.heap.size, 0, none⟩) 0 0) 0 [] rfl (.slice po pn pc) rfl pn (bvs P) (owns_new (heap_alloc_new _ _)) (unhide HS4) (bvs_one _) (by omega) (by simp only [maxLen]; omega) ?_)
  intro ao4 d4 w5 o4 g4 p4
  have o4' : w5.ownsRow W4.heap.size 5 1 (.slice ao4 pn d4) pn (bvs P) := by
    refine ⟨by simpa using o4.1, ?_⟩
    rcases o4.2 with h9 | ⟨g9, cap9, cur9, e9, hb9, rest9⟩
    · exact .inl (by simpa using h9)
    · refine .inr ⟨g9, cap9, cur9, by simpa using e9, ?_, by simpa using rest9⟩
      rcases p4 with e | ⟨k9, e, hk9⟩
      · rw [e9] at e; simp [Value.ownBlock] at e; omega
      · rw [e9] at e; simp [Value.ownBlock] at e; first | omega | (simp at hk9; omega)
  have F5 : Hid (Fr (fun _ => False) W4 w5) := hide (((Fr.refl (fun _ => False) W4).alloc (.cells #[] 5)).grown g4 (fun k hk e => by simp [Value.ownBlock] at e; omega))
  have hsz5 := (unhide F5).size
  clear o4 g4 p4 HS4
  refine wpList_appS rfl rfl (.tmp 70) _ rfl rfl rfl o4' (by show pn + 4 ≤ _; omega) hsz5 ?_
  intro ao7 d7 w6 o7 g7
  have o7' : w6.ownsRow W4.heap.size 5 1 (.slice ao7 (pn + 4) d7) (pn + 4) (bvs (P ++ rest4)) := by
    rw [← bvsApp9, ← rest4_cells]; exact o7
  obtain ⟨a, e7, ha, hcc, hcm, hg7⟩ : ∃ a, ao7 = some ⟨a, 0, none⟩ ∧ W4.heap.size ≤ a ∧ pn + 4 ≤ d7 ∧ d7 ≤ maxLen ∧ ∃ cur, w6.heap[a]? = some (.cells cur 5 (0, 0)) := by
    rcases o7'.2 with ⟨e9, -⟩ | ⟨g9, cap9, cur9, e9, hb9, hh9, hn9, hm9, -⟩
    · simp at e9
    · simp only [Value.slice.injEq] at e9
      exact ⟨g9, e9.1, hb9, by omega, by omega, cur9, hh9⟩
  subst e7
  have F6 : Hid (Fr (fun _ => False) W4 w6) := hide ((unhide F5).trans ((Fr.refl (fun k => (Value.slice ao4 pn d4).ownBlock = some k) w5).grown g7 (fun k _ e => e)) (fun k hk e => by
    rcases o4'.2 with ⟨e9, -⟩ | ⟨g9, cap9, cur9, e9, hb9, -⟩
    · rw [e9] at e; simp [Value.ownBlock] at e
    · rw [e9] at e; simp [Value.ownBlock] at e; omega))
  have HO7 := hide o7'
  clear o4' o7 o7' g7 hsz5 F5
  go_wp2_with fail
  have HO0 : Hid (w6.ownsRow 0 5 1 (.slice (some ⟨a, 0, none⟩) (pn + 4) d7) (pn + 4) (bvs (P ++ rest4))) := hide ⟨(unhide HO7).1, by
    rcases (unhide HO7).2 with h9 | ⟨g9, cap9, cur9, e9, -, rest9⟩
    · exact .inl h9
    · exact .inr ⟨g9, cap9, cur9, e9, Nat.zero_le _, rest9⟩⟩
  have hal : a < w6.heap.size := by obtain ⟨cur, hc⟩ := hg7; exact lt_of_heap hc
  obtain ⟨HPR, hN, hpp⟩ := unhide HB
  have HP6 := hide (PR.to HPR (unhide F6) ha hal)
  have HN := hide (hN.wt hpp kb P ch)
  have HPP : Hid (0 < c.places) := hide hpp
  have HN0 := hide hN
  have HA6 := hide ((unhide HA).kept (unhide F6) id)
  have hRd : ∀ wx, wx.ownsRow 0 5 1 (.slice (some ⟨a, 0, none⟩) (pn + 4) d7) (pn + 4) (bvs (P ++ rest4)) → Rd wx (.slice (some ⟨a, 0, none⟩) pn d7) P := fun wx ho => by
    have h9 : Rd wx (.slice (some ⟨a, 0, none⟩) (pn + 4) d7) (P ++ rest4) := Rd.of_owns (base := 0) (by rw [List.length_append, hpn]; exact ho)
    obtain ⟨b9, o9, e9, -, -, -, hc9⟩ := h9.lits (by simp [rest4])
    simp only [Option.some.injEq, Addr.mk.injEq] at e9
    obtain ⟨rfl, rfl, -⟩ := e9
    refine Rd.lit hpn (by omega) hcm (fun j hj => ?_)
    have := hc9 j (by simp; omega)
    rw [List.getElem_append_left hj] at this
    exact this
  have HC := hide (fun wx (f : Fr (fun _ => False) w6 wx) => (@lp_write1 w wx p h r u dv q g dv2 k c c m m l l (.slice (some ⟨a, 0, none⟩) pn d7) P ch (avOne a) hN hk kb hch (hRd wx (owns_kept (unhide HO0) f (fun _ _ e => e))) (fun b hb => by simp [Value.ownBlock] at hb; subst hb; obtain ⟨cur, hc⟩ := hg7; exact knd_cells (by rw [f.block _ hal id]; exact hc)) (@PR.fr _ _ _ _ _ _ _ _ _ _ _ _ _ _ _ _ _ (avOne a) (unhide HP6) (fun _ => False) f (fun _ e => e.elim))).mono (R' := fun e w1 => e = .returned (.int .i64 (wtR c m l kb P ch).1) ∧ @PR (avOne a) w w1 p h r u dv q g dv2 c (wtR c m l kb P ch).2.2 (wtR c m l kb P ch).2.1 c m l ∧ AAt w1 W.heap.size 1 kb (.slice po pn pc) ch kn ∧ w1.ownsRow 0 5 1 (.slice (some ⟨a, 0, none⟩) (pn + 4) d7) (pn + 4) (bvs (P ++ rest4))) (fun e w1 t => ⟨t.1, t.2.1, ((unhide HA6).kept f id).ky t.2.2, owns_kept (owns_kept (unhide HO0) f (fun _ _ e => e)) t.2.2 (fun b hb e => by simp [Value.ownBlock] at hb; subst hb; obtain ⟨cur, hc⟩ := hg7; exact e.n5 (knd_cells (by rw [f.block _ hal id]; exact hc)))⟩))
  have HKN : Hid (knd w6 a = 5) := hide (by obtain ⟨cur, hc⟩ := hg7; exact knd_cells hc)
  have HSZ := hide hal
  clear hg7 hal HPR hN hpp
  obtain ⟨c0a, c1a, c2b, c3a, -⟩ := (unhide HA6).cells
  clear c0 c1 c2 c3 c2a
  obtain ⟨KK, hKK⟩ : ∃ KK : Act → World → Prop, Hid (KK = fun a' w1 => a'.defers = [] ∧ a'.tmps.size = 197 ∧ a'.tmps.getD 0 undef = .pointer (some ⟨p, 0, none⟩) ∧ a'.tmps.getD 1 undef = .pointer (some ⟨q, 0, none⟩) ∧ a'.tmps.getD 5 undef = .pointer (some ⟨W.heap.size, 0, none⟩) ∧ a'.tmps.getD 6 undef = .bool false ∧ a'.tmps.getD 13 undef = .slice (some ⟨a, 0, none⟩) (pn + 4) d7 ∧ a'.tmps.getD 14 undef = .int .i64 (wtR c m l kb P ch).1 ∧ @PR (avOne a) w w1 p h r u dv q g dv2 c (wtR c m l kb P ch).2.2 (wtR c m l kb P ch).2.1 c m l ∧ AAt w1 W.heap.size 1 kb (.slice po pn pc) ch kn ∧ w1.ownsRow 0 5 1 (.slice (some ⟨a, 0, none⟩) (pn + 4) d7) (pn + 4) (bvs (P ++ rest4))) := ⟨_, hide rfl⟩
  refine wp_mid KK ?_ ?_
  · go_region_with (first | (go_at_call 23; refine (unhide HC _ (by first | exact (Fr.refl _ _).drew | exact Fr.refl _ _ | exact Fr.ofDrewN _ _)).mono ?_; rintro e w1 ⟨rfl, p1, a1, o1⟩; have HP1 := hide p1; have HA1 := hide a1; have HO1 := hide o1; clear p1 a1 o1))
    all_goals
      show KK _ _
      rw [unhide hKK]
      exact ⟨rfl, rfl, rfl, rfl, rfl, rfl, rfl, rfl, unhide HP1, unhide HA1, unhide HO1⟩
  rw [unhide hKK]
  clear hKK KK
  rintro a' w1 ⟨hd, hs, s0, s1, s5, s6, s13, s14, p1, a1, o1⟩
  have HP1 := hide p1
  have HA1 := hide a1
  have HO1 := hide o1
  obtain ⟨f, rfl⟩ : ∃ f : Nat → Value, a' = { tmps := #[.pointer (some ⟨p, 0, none⟩), .pointer (some ⟨q, 0, none⟩), f 2, f 3, f 4, .pointer (some ⟨W.heap.size, 0, none⟩), .bool false, f 7, f 8, f 9, f 10, f 11, f 12, .slice (some ⟨a, 0, none⟩) (pn + 4) d7, .int .i64 (wtR c m l kb P ch).1, f 15, f 16, f 17, f 18, f 19, f 20, f 21, f 22, f 23, f 24, f 25, f 26, f 27, f 28, f 29, f 30, f 31, f 32, f 33, f 34, f 35, f 36, f 37, f 38, f 39, f 40, f 41, f 42, f 43, f 44, f 45, f 46, f 47, f 48, f 49, f 50, f 51, f 52, f 53, f 54, f 55, f 56, f 57, f 58, f 59, f 60, f 61, f 62, f 63, f 64, f 65, f 66, f 67, f 68, f 69, f 70, f 71, f 72, f 73, f 74, f 75, f 76, f 77, f 78, f 79, f 80, f 81, f 82, f 83, f 84, f 85, f 86, f 87, f 88, f 89, f 90, f 91, f 92, f 93, f 94, f 95, f 96, f 97, f 98, f 99, f 100, f 101, f 102, f 103, f 104, f 105, f 106, f 107, f 108, f 109, f 110, f 111, f 112, f 113, f 114, f 115, f 116, f 117, f 118, f 119, f 120, f 121, f 122, f 123, f 124, f 125, f 126, f 127, f 128, f 129, f 130, f 131, f 132, f 133, f 134, f 135, f 136, f 137, f 138, f 139, f 140, f 141, f 142, f 143, f 144, f 145, f 146, f 147, f 148, f 149, f 150, f 151, f 152, f 153, f 154, f 155, f 156, f 157, f 158, f 159, f 160, f 161, f 162, f 163, f 164, f 165, f 166, f 167, f 168, f 169, f 170, f 171, f 172, f 173, f 174, f 175, f 176, f 177, f 178, f 179, f 180, f 181, f 182, f 183, f 184, f 185, f 186, f 187, f 188, f 189, f 190, f 191, f 192, f 193, f 194, f 195, f 196], defers := [] } := ⟨fun i => a'.tmps.getD i undef, frame_eq (vs := [.pointer (some ⟨p, 0, none⟩), .pointer (some ⟨q, 0, none⟩), a'.tmps.getD 2 undef, a'.tmps.getD 3 undef, a'.tmps.getD 4 undef, .pointer (some ⟨W.heap.size, 0, none⟩), .bool false, a'.tmps.getD 7 undef, a'.tmps.getD 8 undef, a'.tmps.getD 9 undef, a'.tmps.getD 10 undef, a'.tmps.getD 11 undef, a'.tmps.getD 12 undef, .slice (some ⟨a, 0, none⟩) (pn + 4) d7, .int .i64 (wtR c m l kb P ch).1, a'.tmps.getD 15 undef, a'.tmps.getD 16 undef, a'.tmps.getD 17 undef, a'.tmps.getD 18 undef, a'.tmps.getD 19 undef, a'.tmps.getD 20 undef, a'.tmps.getD 21 undef, a'.tmps.getD 22 undef, a'.tmps.getD 23 undef, a'.tmps.getD 24 undef, a'.tmps.getD 25 undef, a'.tmps.getD 26 undef, a'.tmps.getD 27 undef, a'.tmps.getD 28 undef, a'.tmps.getD 29 undef, a'.tmps.getD 30 undef, a'.tmps.getD 31 undef, a'.tmps.getD 32 undef, a'.tmps.getD 33 undef, a'.tmps.getD 34 undef, a'.tmps.getD 35 undef, a'.tmps.getD 36 undef, a'.tmps.getD 37 undef, a'.tmps.getD 38 undef, a'.tmps.getD 39 undef, a'.tmps.getD 40 undef, a'.tmps.getD 41 undef, a'.tmps.getD 42 undef, a'.tmps.getD 43 undef, a'.tmps.getD 44 undef, a'.tmps.getD 45 undef, a'.tmps.getD 46 undef, a'.tmps.getD 47 undef, a'.tmps.getD 48 undef, a'.tmps.getD 49 undef, a'.tmps.getD 50 undef, a'.tmps.getD 51 undef, a'.tmps.getD 52 undef, a'.tmps.getD 53 undef, a'.tmps.getD 54 undef, a'.tmps.getD 55 undef, a'.tmps.getD 56 undef, a'.tmps.getD 57 undef, a'.tmps.getD 58 undef, a'.tmps.getD 59 undef, a'.tmps.getD 60 undef, a'.tmps.getD 61 undef, a'.tmps.getD 62 undef, a'.tmps.getD 63 undef, a'.tmps.getD 64 undef, a'.tmps.getD 65 undef, a'.tmps.getD 66 undef, a'.tmps.getD 67 undef, a'.tmps.getD 68 undef, a'.tmps.getD 69 undef, a'.tmps.getD 70 undef, a'.tmps.getD 71 undef, a'.tmps.getD 72 undef, a'.tmps.getD 73 undef, a'.tmps.getD 74 undef, a'.tmps.getD 75 undef, a'.tmps.getD 76 undef, a'.tmps.getD 77 undef, a'.tmps.getD 78 undef, a'.tmps.getD 79 undef, a'.tmps.getD 80 undef, a'.tmps.getD 81 undef, a'.tmps.getD 82 undef, a'.tmps.getD 83 undef, a'.tmps.getD 84 undef, a'.tmps.getD 85 undef, a'.tmps.getD 86 undef, a'.tmps.getD 87 undef, a'.tmps.getD 88 undef, a'.tmps.getD 89 undef, a'.tmps.getD 90 undef, a'.tmps.getD 91 undef, a'.tmps.getD 92 undef, a'.tmps.getD 93 undef, a'.tmps.getD 94 undef, a'.tmps.getD 95 undef, a'.tmps.getD 96 undef, a'.tmps.getD 97 undef, a'.tmps.getD 98 undef, a'.tmps.getD 99 undef, a'.tmps.getD 100 undef, a'.tmps.getD 101 undef, a'.tmps.getD 102 undef, a'.tmps.getD 103 undef, a'.tmps.getD 104 undef, a'.tmps.getD 105 undef, a'.tmps.getD 106 undef, a'.tmps.getD 107 undef, a'.tmps.getD 108 undef, a'.tmps.getD 109 undef, a'.tmps.getD 110 undef, a'.tmps.getD 111 undef, a'.tmps.getD 112 undef, a'.tmps.getD 113 undef, a'.tmps.getD 114 undef, a'.tmps.getD 115 undef, a'.tmps.getD 116 undef, a'.tmps.getD 117 undef, a'.tmps.getD 118 undef, a'.tmps.getD 119 undef, a'.tmps.getD 120 undef, a'.tmps.getD 121 undef, a'.tmps.getD 122 undef, a'.tmps.getD 123 undef, a'.tmps.getD 124 undef, a'.tmps.getD 125 undef, a'.tmps.getD 126 undef, a'.tmps.getD 127 undef, a'.tmps.getD 128 undef, a'.tmps.getD 129 undef, a'.tmps.getD 130 undef, a'.tmps.getD 131 undef, a'.tmps.getD 132 undef, a'.tmps.getD 133 undef, a'.tmps.getD 134 undef, a'.tmps.getD 135 undef, a'.tmps.getD 136 undef, a'.tmps.getD 137 undef, a'.tmps.getD 138 undef, a'.tmps.getD 139 undef, a'.tmps.getD 140 undef, a'.tmps.getD 141 undef, a'.tmps.getD 142 undef, a'.tmps.getD 143 undef, a'.tmps.getD 144 undef, a'.tmps.getD 145 undef, a'.tmps.getD 146 undef, a'.tmps.getD 147 undef, a'.tmps.getD 148 undef, a'.tmps.getD 149 undef, a'.tmps.getD 150 undef, a'.tmps.getD 151 undef, a'.tmps.getD 152 undef, a'.tmps.getD 153 undef, a'.tmps.getD 154 undef, a'.tmps.getD 155 undef, a'.tmps.getD 156 undef, a'.tmps.getD 157 undef, a'.tmps.getD 158 undef, a'.tmps.getD 159 undef, a'.tmps.getD 160 undef, a'.tmps.getD 161 undef, a'.tmps.getD 162 undef, a'.tmps.getD 163 undef, a'.tmps.getD 164 undef, a'.tmps.getD 165 undef, a'.tmps.getD 166 undef, a'.tmps.getD 167 undef, a'.tmps.getD 168 undef, a'.tmps.getD 169 undef, a'.tmps.getD 170 undef, a'.tmps.getD 171 undef, a'.tmps.getD 172 undef, a'.tmps.getD 173 undef, a'.tmps.getD 174 undef, a'.tmps.getD 175 undef, a'.tmps.getD 176 undef, a'.tmps.getD 177 undef, a'.tmps.getD 178 undef, a'.tmps.getD 179 undef, a'.tmps.getD 180 undef, a'.tmps.getD 181 undef, a'.tmps.getD 182 undef, a'.tmps.getD 183 undef, a'.tmps.getD 184 undef, a'.tmps.getD 185 undef, a'.tmps.getD 186 undef, a'.tmps.getD 187 undef, a'.tmps.getD 188 undef, a'.tmps.getD 189 undef, a'.tmps.getD 190 undef, a'.tmps.getD 191 undef, a'.tmps.getD 192 undef, a'.tmps.getD 193 undef, a'.tmps.getD 194 undef, a'.tmps.getD 195 undef, a'.tmps.getD 196 undef]) hs hd ⟨s0, s1, rfl, rfl, rfl, s5, s6, rfl, rfl, rfl, rfl, rfl, rfl, s13, s14, rfl, rfl, rfl, rfl, rfl, rfl, rfl, rfl, rfl, rfl, rfl, rfl, rfl, rfl, rfl, rfl, rfl, rfl, rfl, rfl, rfl, rfl, rfl, rfl, rfl, rfl, rfl, rfl, rfl, rfl, rfl, rfl, rfl, rfl, rfl, rfl, rfl, rfl, rfl, rfl, rfl, rfl, rfl, rfl, rfl, rfl, rfl, rfl, rfl, rfl, rfl, rfl, rfl, rfl, rfl, rfl, rfl, rfl, rfl, rfl, rfl, rfl, rfl, rfl, rfl, rfl, rfl, rfl, rfl, rfl, rfl, rfl, rfl, rfl, rfl, rfl, rfl, rfl, rfl, rfl, rfl, rfl, rfl, rfl, rfl, rfl, rfl, rfl, rfl, rfl, rfl, rfl, rfl, rfl, rfl, rfl, rfl, rfl, rfl, rfl, rfl, rfl, rfl, rfl, rfl, rfl, rfl, rfl, rfl, rfl, rfl, rfl, rfl, rfl, rfl, rfl, rfl, rfl, rfl, rfl, rfl, rfl, rfl, rfl, rfl, rfl, rfl, rfl, rfl, rfl, rfl, rfl, rfl, rfl, rfl, rfl, rfl, rfl, rfl, rfl, rfl, rfl, rfl, rfl, rfl, rfl, rfl, rfl, rfl, rfl, rfl, rfl, rfl, rfl, rfl, rfl, rfl, rfl, rfl, rfl, rfl, rfl, rfl, rfl, rfl, rfl, rfl, rfl, rfl, rfl, rfl, rfl, rfl, rfl, rfl, rfl, rfl, rfl, rfl, rfl, rfl, rfl, trivial⟩⟩
  clear hd hs s0 s1 s5 s6 s13 s14 p1 a1 o1
  have h6 : Fr (fun _ => False) w w1 := by
    obtain ⟨X, Y, -, -, -, -, -, h6⟩ := unhide HP1
    exact h6
  have HK1 : Hid (knd w1 a = 5) := hide (knd_owns (unhide HO1) rfl)
  have kc1 := conv_rd (P := Try.prog) (Rd.of_owns (base := 0) (l := P ++ rest4) (by rw [List.length_append, hpn]; exact unhide HO1)) 37 9 5 Try.underlying37 Try.underlying5 Try.underlying9
  have kc2 := conv_rd (P := Try.prog) ((unhide HV).low h6 (fun _ e => e.elim)) 37 9 5 Try.underlying37 Try.underlying5 Try.underlying9
  rw [← strRest] at kc1
  have hsx : ¬ (9223372036854775807 < (str P).size + 4) := by rw [str_size]; omega
  generalize str P = sx at kc1 kc2 hsx
  clear h6 HC F6 HO0 HO7 hRd
  obtain ⟨-, -, c2c, -, -⟩ := (unhide HA1).cells
  clear c0a c1a c2b c3a
  have hwa : w.heap.size ≤ a := Nat.le_trans (unhide HWW) ha
  go_wp2_with fail
  go_loopw [16] (fun y W' => ∃ (j : Nat) (P' : List UInt8), j ≤ pn + 4 ∧ y = .int .i64 (j : Int) ∧ P'.length = pn + 4 ∧ W'.ownsRow 0 5 1 (.slice (some ⟨a, 0, none⟩) (pn + 4) d7) (pn + 4) (bvs P') ∧ Fr (fun k => k = a) w1 W') (fun y _ => pn + 4 - (intOf y).toNat)
  case atStart => exact ⟨0, P ++ rest4, by omega, rfl, by rw [List.length_append, hpn]; rfl, unhide HO1, Fr.refl _ _⟩
  case round =>
    obtain ⟨j, P', hj, rfl, hPl, hOw, hf⟩ := hrel
    by_cases hlt : j < pn + 4
    · have hjP : j < P'.length := by omega
      obtain ⟨-, y1, z1⟩ := owns_set hOw j hlt (.int .u8 0)
      have HS := hide (owns_set hOw j hlt (.int .u8 (((P'[j] ^^^ 85).toNat : Nat) : Int))).1
      rw [bvsSet9] at HS
      have HPL : Hid ((P'.set j (P'[j] ^^^ 85)).length = pn + 4) := hide (by rw [List.length_set]; exact hPl)
      rw [bvsGet9 P' j hjP] at y1
      generalize P'.set j (P'[j] ^^^ 85) = P9 at *
      generalize P'[j] = old at *
      have hxo : bits BinOp.xor IntKind.u8 ((old.toNat : Nat) : Int) 85 = (((old ^^^ 85).toNat : Nat) : Int) := xorV old 85
      have bl : decide ((j : Int) < ((pn + 4 : Nat) : Int)) = true := by simp; omega
      have bl2 : decide ((j : Int) < (pn : Int) + 4) = true := by simp; omega
      have hjc : j < d7 := by omega
      have HF := hide (hf.setCell (p := ⟨a, j, none⟩) (fun _ => rfl) (.int .u8 (((old ^^^ 85).toNat : Nat) : Int)))
      clear hOw hf hPl hjP kc1 kc2
      go_wp2_with fail
      go_roundw
      case rel => exact ⟨j + 1, P9, by omega, by go_num, unhide HPL, unhide HS, unhide HF⟩
      case measure => simp [intOf]; omega
    · obtain rfl : j = pn + 4 := by omega
      have hA9 := (unhide HA1).kept hf (fun e => by have h9 := unhide HK1; have h8 := unhide HA1; unfold AAt at h8; rw [← show W.heap.size = a from e, knd_cells h8] at h9; exact absurd h9 (by decide))
      have HP9 := hide ((unhide HP1).off (unhide HK1) hwa hf)
      have HD := hide (fun W9 (hp9 : @PR avNo w W9 p h r u dv q g dv2 c (wtR c m l kb P ch).2.2 (wtR c m l kb P ch).2.1 c m l) wx (f : Fr (fun _ => False) W9 wx) => (@lp_write2 w wx p h r u dv q g dv2 k c c m (wtR c m l kb P ch).2.2 l (wtR c m l kb P ch).2.1 (.slice po pn pc) P ch avNo (unhide HN0) hk kb hch (unhide HV) (@PR.fr _ _ _ _ _ _ _ _ _ _ _ _ _ _ _ _ _ avNo hp9 (fun _ => False) f (fun _ e => e.elim))).mono (R' := fun e w2 => e = .returned (.int .i64 (wtR c m l kb P ch).1) ∧ @PR avNo w w2 p h r u dv q g dv2 c (wtR c m l kb P ch).2.2 (wtR c m l kb P ch).2.1 c (wtR c m l kb P ch).2.2 (wtR c m l kb P ch).2.1 ∧ Fr (fun _ => True) wx w2) (fun e w2 t => ⟨t.1, t.2.1, t.2.2.mono (fun _ _ _ => trivial)⟩))
      obtain ⟨-, d1, d2, d3, -⟩ := hA9.cells
      generalize (wtR c m l kb P ch).1 = e5 at *
      generalize (wtR c m l kb P ch).2.2 = m5 at *
      generalize (wtR c m l kb P ch).2.1 = l5 at *
      have HD9 := hide (fun wx f => unhide HD _ (unhide HP9) wx f)
      clear hOw hf kc1 kc2 hPl hA9 HD HP9 HP1 HA1 HO1 HB HA HP6 HA6 HKN HSZ HK1
      go_wp2_with fail
      refine wp_nameK ?_
      intro a0 hA
      have h1 : a0.tmps.getD 1 undef = .pointer (some ⟨q, 0, none⟩) := by rw [hA]; rfl
      have h5 : a0.tmps.getD 5 undef = .pointer (some ⟨W.heap.size, 0, none⟩) := by rw [hA]; rfl
      have h14 : a0.tmps.getD 14 undef = .int .i64 e5 := by rw [hA]; rfl
      have h15 : a0.tmps.getD 15 undef = .bool true := by rw [hA]; rfl
      have hsz : a0.tmps.size = 197 := by rw [hA]; rfl
      have hdf : a0.defers = [] := by rw [hA]
      clear hA
      refine wp_region_kinds3 (fun _ => True) (by kernel_rfl) (by kernel_rfl) (by decide +kernel) (by rw [hsz]; decide +kernel) [.eq (.int .i64 e5), .eq (.int .i64 e5), .eq (.pointer (some ⟨q, 0, none⟩)), .eq (.pointer (some ⟨W.heap.size, 1, none⟩)), .eq (.int .i64 kb), .eq (.pointer (some ⟨W.heap.size, 2, none⟩)), .eq (.slice po pn pc), .eq (.pointer (some ⟨W.heap.size, 3, none⟩)), .eq (.int .u64 (ch : Int)), .eq (.int .i64 e5), .eq (.bool true), .eq (.bool true), .eq (.bool true), .eq (.bool true), .eq (.bool true)] [9] (by decide) (by decide) (onepath) (fun k W9 => (k ≤ 0 → Fr (fun _ => False) wr W9) ∧ (k = 1 → @PR avNo w W9 p h r u dv q g dv2 c m5 l5 c m5 l5)) ⟨fun _ => (Fr.refl _ _).drew, fun e => by omega⟩ ?steps ?done
      case steps =>
        refine ⟨?_, ?_⟩
        · intro a' w' k' hb hf hs hc hq hg hd
          exact .inl ⟨wantedN rfl, k_val (.int .i64 e5) (by decide) hs (x_move rfl ((hb.old 14 (by decide +kernel)).trans h14)) rfl⟩
        refine ⟨?_, ?_⟩
        · intro a' w' k' hb hf hs hc hq hg hd
          exact .inl ⟨wantedN rfl, k_call 12 _ (by decide) (e_call1 rfl rfl (hd 0 (by kernel_rfl) 104 rfl) (fun _ _ => by simp [go_sem])) ((num_any _ _).mono (by rintro e w7 ⟨rfl, rfl⟩; exact ⟨_, rfl, rfl, Fr.refl _ _, hs⟩))⟩
        refine ⟨?_, ?_⟩
        · intro a' w' k' hb hf hs hc hq hg hd
          exact .inl ⟨wantedN rfl, k_val (.pointer (some ⟨q, 0, none⟩)) (by decide) hs (x_move rfl ((hb.old 1 (by decide +kernel)).trans h1)) rfl⟩
        refine ⟨?_, ?_⟩
        · intro a' w' k' hb hf hs hc hq hg hd
          exact .inl ⟨wantedN rfl, k_val (.pointer (some ⟨W.heap.size, 1, none⟩)) (by decide) hs (x_field (of := 0) (off := 1) (by intro W7; simpa using fa40_1 W.heap.size 0 W7) rfl ((hb.old 5 (by decide +kernel)).trans h5)) rfl⟩
        refine ⟨?_, ?_⟩
        · intro a' w' k' hb hf hs hc hq hg hd
          have hF0 : Fr (fun _ => False) wr w' := hs.1 (by have := hq 0 9 rfl (waits (by kernel_rfl)); omega); exact .inl ⟨wantedN rfl, k_val (.int .i64 kb) (by decide) hs (x_load1 ld3 rfl (hd 3 (by kernel_rfl) 107 rfl) (hF0.cell_some d1)) rfl⟩
        refine ⟨?_, ?_⟩
        · intro a' w' k' hb hf hs hc hq hg hd
          exact .inl ⟨wantedN rfl, k_val (.pointer (some ⟨W.heap.size, 2, none⟩)) (by decide) hs (x_field (of := 0) (off := 2) (by intro W7; simpa using fa40_2 W.heap.size 0 W7) rfl ((hb.old 5 (by decide +kernel)).trans h5)) rfl⟩
        refine ⟨?_, ?_⟩
        · intro a' w' k' hb hf hs hc hq hg hd
          have hF0 : Fr (fun _ => False) wr w' := hs.1 (by have := hq 0 9 rfl (waits (by kernel_rfl)); omega); exact .inl ⟨wantedN rfl, k_val (.slice po pn pc) (by decide) hs (x_load1 ld37 rfl (hd 5 (by kernel_rfl) 109 rfl) (hF0.cell_some d2)) rfl⟩
        refine ⟨?_, ?_⟩
        · intro a' w' k' hb hf hs hc hq hg hd
          exact .inl ⟨wantedN rfl, k_val (.pointer (some ⟨W.heap.size, 3, none⟩)) (by decide) hs (x_field (of := 0) (off := 3) (by intro W7; simpa using fa40_3 W.heap.size 0 W7) rfl ((hb.old 5 (by decide +kernel)).trans h5)) rfl⟩
        refine ⟨?_, ?_⟩
        · intro a' w' k' hb hf hs hc hq hg hd
          have hF0 : Fr (fun _ => False) wr w' := hs.1 (by have := hq 0 9 rfl (waits (by kernel_rfl)); omega); exact .inl ⟨wantedN rfl, k_val (.int .u64 (ch : Int)) (by decide) hs (x_load1 ld38 rfl (hd 7 (by kernel_rfl) 111 rfl) (hF0.cell_some d3)) rfl⟩
        refine ⟨?_, ?_⟩
        · intro a' w' k' hb hf hs hc hq hg hd
          obtain rfl := hc 0 rfl; have hF0 : Fr (fun _ => False) wr w' := hs.1 (by omega); exact .inl ⟨wantedN rfl, k_callC 32 _ (by decide) (e_call4 rfl rfl (hd 2 (by kernel_rfl) 106 rfl) (hd 4 (by kernel_rfl) 108 rfl) (hd 6 (by kernel_rfl) 110 rfl) (hd 8 (by kernel_rfl) 112 rfl) (fun _ _ => by simp [go_sem])) ((unhide HD9 _ hF0).mono (fun e W7 h7 => ⟨_, h7.1, rfl, h7.2.2, ⟨fun e => by omega, fun _ => h7.2.1⟩⟩))⟩
        refine ⟨?_, ?_⟩
        · intro a' w' k' hb hf hs hc hq hg hd
          exact .inl ⟨wantedN rfl, k_val (.bool true) (by decide) hs (x_eqI Try.underlying3 rfl (hd 1 (by kernel_rfl) 105 rfl) (hd 9 (by kernel_rfl) 113 rfl) (by first | rfl | decide | simp)) rfl⟩
        refine ⟨?_, ?_⟩
        · intro a' w' k' hb hf hs hc hq hg hd
          exact .inl ⟨wantedN rfl, k_val (.bool true) (by decide) hs (x_move rfl (hd 10 (by kernel_rfl) 114 rfl)) rfl⟩
        refine ⟨?_, ?_⟩
        · intro a' w' k' hb hf hs hc hq hg hd
          exact .inl ⟨wantedT (d := 115) rfl rfl (by rw [hb.size, hsz]; omega) (hd 11 (by kernel_rfl) 115 rfl), k_val (.bool true) (by decide) hs (x_move rfl ((hb.old 15 (by decide +kernel)).trans h15)) rfl⟩
        refine ⟨?_, ?_⟩
        · intro a' w' k' hb hf hs hc hq hg hd
          exact .inl ⟨wantedN rfl, k_val (.bool true) (by decide) hs (x_pickT rfl (hd 11 (by kernel_rfl) 115 rfl) (hd 12 (by kernel_rfl) 116 rfl)) rfl⟩
        refine ⟨?_, ?_⟩
        · intro a' w' k' hb hf hs hc hq hg hd
          exact .inl ⟨wantedN rfl, k_val (.bool true) (by decide) hs (x_assign rfl (hd 13 (by kernel_rfl) 117 rfl)) rfl⟩
        exact trivial
      case done =>
        intro a' w9 hb hf hs hall
        have hres : a'.tmps.getD 6 undef = .bool true := hall 14 (by decide) 6 rfl
        have hdf' : a'.defers = [] := by rw [hb.defers]; exact hdf
        have hr : bodyPost Try.prog Try.f13 (fun e W' => e = Ending.returned (Value.bool true) ∧ ∃ c' m' l', @LP avNo w W' p h r u dv q g dv2 (k + 1) c' m' l') .ret a' w9 :=
          bodyPost_ret (v := .bool true) (by
            have h6' : a'.tmps[6]?.getD undef = .bool true := by simpa using hres
            simp [results, Try.results13, go_sem, h6']) hdf' ⟨rfl, _, _, _, @LP.mk avNo _ _ _ _ _ _ _ _ _ _ _ _ _ _ (hs.2 rfl) (unhide HN) (unhide HPP)⟩
        clear hall hb
        apply_assumption
        exact wp_ret hr
end
end Go.Proofs.Ytdgmlopaeonacaa

namespace Go.Proofs.Ytdgmlopaeonacaa
set_option linter.unusedVariables false
set_option linter.unusedSimpArgs false
open Go.RowKit
set_option linter.unusedVariables false
set_option linter.unusedSimpArgs false

attribute [local go_sem ↓] Go.wp_at_zero Go.wp_at_succ

theorem new_no2 (w : World) (h : Nat) (n : Int) (hn : n < 1 ∨ 4096 < n) : Calls Try.prog 10 #[.iface 25 (ptr h), .int .i64 n] w fun e w' => e = .returned (.tuple #[.pointer none, .int .i64 2]) ∧ w = w' := by
  unfold ptr
  by_cases h1 : n < 1
  · have b1 : decide (n < 1) = true := by simpa using h1
    clear hn h1
    go_enter Try.func10, Try.ntmps10
    go_wp2_with fail
    go_ret2
    exact ⟨rfl, rfl⟩
  · have b1 : decide (n < 1) = false := by simpa using h1
    have b2 : decide (4096 < n) = true := by simp; omega
    clear hn h1
    go_enter Try.func10, Try.ntmps10
    go_wp2_with fail
    go_ret2
    exact ⟨rfl, rfl⟩

section
variable {w W : World} {p h r u : Nat} {dv : Value} {q g : Nat} {dv2 : Value} {k : Nat} {c : Ca} {m : Hm} {l : List Pl}
theorem does_any {a : Ac} (H : @LP avNo w W p h r u dv q g dv2 k c m l) (hk : k ≤ 1000) (ho : a.Ok w) : Calls Try.prog 13 #[ptr p, ptr q, .agg #[.int .i64 a.k, .int .i64 a.b, a.pv, .int .u64 (a.ch : Int), .int .i64 a.n]] W fun e W' => e = .returned (.bool true) ∧ ∃ c' m' l', @LP avNo w W' p h r u dv q g dv2 (k + 1) c' m' l' := by
  letI : Av := avNo
  obtain ⟨kd, kb, pv, P, ch, kn⟩ := a
  obtain ⟨hrd, hch, hlen⟩ := ho
  dsimp only at hrd hch hlen
  dsimp only
  by_cases q0 : kd = 0
  · subst q0; exact does0 H hk
  by_cases q1 : kd = 1
  · subst q1
    obtain ⟨po, pc, rfl⟩ := hrd.shape
    exact does1 H hk hch hrd rfl hlen
  by_cases q2 : kd = 2
  · subst q2; exact does2 H hk
  by_cases q3 : kd = 3
  · subst q3; exact does3 H hk
  by_cases q4 : kd = 4
  · subst q4; exact does4 H hk hch
  by_cases q5 : kd = 5
  · subst q5; exact does5 H hk
  by_cases q6 : kd = 6
  · subst q6; exact does6 H hk
  by_cases q7 : kd = 7
  · subst q7; exact does7 H hk
  exact does8 H (by simpa using q0) (by simpa using q1) (by simpa using q2) (by simpa using q3) (by simpa using q4) (by simpa using q5) (by simpa using q6) (by simpa using q7)
/-- At the beginning. -/
theorem lp_init {w1 w2 w3 : World} {vs vs2 : List Value} {lg2 : Value} {n : Nat} (hn : 1 ≤ n ∧ n ≤ 4096) (hc0 : m.calls = 0) (f1 : Fr (fun _ => False) w w1) (hH : @HAt avNo w1 h dv (.slice none 0 0) vs m) (e1 : w.heap.size ≤ h) (e2 : ∀ k, dv.ownBlock = some k → w.heap.size ≤ k)
    (f2 : Fr (fun _ => False) w1 w2) (hG : @HAtG avNo w2 g dv2 lg2 vs2 m) (e3 : w1.heap.size ≤ g) (e4 : ∀ k, dv2.ownBlock = some k → w1.heap.size ≤ k) (e5 : ∀ k, lg2.ownBlock = some k → w1.heap.size ≤ k)
    (f3 : Fr (fun _ => False) w2 w3) (hK : KAt w3 p h r u [] [] ⟨n, 0, 0, 0⟩) (e6 : w2.heap.size ≤ p) (e7 : w2.heap.size ≤ r) (e8 : w2.heap.size ≤ u)
    (f4 : Fr (fun _ => False) w3 W) (hD : @DAtK avNo Pl.Ok W w3.heap.size g (.slice none 0 0) [] ⟨n, 0, 0, 0⟩) : @LP avNo w W p h r u dv w3.heap.size g dv2 0 ⟨n, 0, 0, 0⟩ m [] := by
  letI : Av := avNo
  have s1 := f1.size
  have s2 := f2.size
  have s3 := f3.size
  have s4 := f4.size
  have f24 := f3.trans f4 (fun _ _ e => e)
  have f14 := f2.trans f24 (fun _ _ e => e)
  have f04 := f1.trans f14 (fun _ _ e => e)
  have kH : ∀ k, HB h dv (.slice none 0 0) k → w.heap.size ≤ k ∧ k < w1.heap.size := fun k hk => by
    refine ⟨?_, (show KY w1 k by unfold KY; rcases HAt.knds hH hk with e | e | e <;> rw [e] <;> decide).lt⟩
    rcases hk with e | e | e
    · rw [e]; exact e1
    · exact e2 k e
    · simp [Value.ownBlock] at e
  have kG : ∀ k, HB g dv2 lg2 k → w1.heap.size ≤ k ∧ k < w2.heap.size := fun k hk => by
    refine ⟨?_, (show KY w2 k by unfold KY; rcases HAtG.knds hG hk with e | e | e <;> rw [e] <;> decide).lt⟩
    rcases hk with e | e | e
    · rw [e]; exact e3
    · exact e4 k e
    · exact e5 k e
  have kK : ∀ k, KB p r u [] k → w2.heap.size ≤ k ∧ k < w3.heap.size := fun k hk => by
    refine ⟨?_, (show KY w3 k by unfold KY; rcases hK.knds hk with e | e | e <;> rw [e] <;> decide).lt⟩
    rcases hk with e | e | e
    · rw [e]; exact e6
    · rw [e]; exact e7
    · simp [adr] at e; rw [e]; exact e8
  have kD : ∀ k, DB w3.heap.size (.slice none 0 0) [] k → k = w3.heap.size := fun k hk => by
    rcases hk with e | e | e
    · exact e
    · simp [Value.ownBlock] at e
    · simp [adr] at e
  have hK4 := hK.kept0 f4
  have hH4 := HAt.kept0 hH f14
  have hG4 := HAtG.kept0 hG f24
  refine LP.mk ⟨fun k => HB h dv (.slice none 0 0) k ∨ KB p r u [] k, fun k => HB g dv2 lg2 k ∨ DB w3.heap.size (.slice none 0 0) [] k, ⟨_, vs, [], [], hK4, hH4, rfl, Fr.refl _ _, fun k hk => .inl hk⟩, ⟨lg2, vs2, _, [], hD, hG4, rfl, Fr.refl _ _, fun k hk => .inl hk⟩, ?_, ?_, ?_, f04⟩ ⟨Nat.zero_le _, hn.2, fun x hx => by simp at hx, by omega, by simp, fun x hx => by simp at hx⟩ (by show 0 < n; omega)
  · intro k hx hy
    rcases hx with hx | hx <;> rcases hy with hy | hy
    · have a1 := kH k hx; have a2 := kG k hy; omega
    · have a1 := kH k hx; have a2 := kD k hy; omega
    · have a1 := kK k hx; have a2 := kG k hy; omega
    · have a1 := kK k hx; have a2 := kD k hy; omega
  · intro k hx
    refine ⟨by rcases hx with hx | hx; exact (kH k hx).1; have := (kK k hx).1; omega, ?_⟩
    unfold KY
    rcases hx with hx | hx
    · rcases HAt.knds hH4 hx with e | e | e <;> rw [e] <;> decide
    · rcases hK4.knds hx with e | e | e <;> rw [e] <;> decide
  · intro k hx
    refine ⟨by rcases hx with hx | hx; have := (kG k hx).1; omega; have := kD k hx; omega, ?_⟩
    unfold KY
    rcases hx with hx | hx
    · rcases HAtG.knds hG4 hx with e | e | e <;> rw [e] <;> decide
    · rcases DAtK.knds hD hx with e | e | e <;> rw [e] <;> decide
theorem LP.f (H : @LP avNo w W p h r u dv q g dv2 k c m l) : Fr (fun _ => False) w W := by
  obtain ⟨⟨X, Y, -, -, -, -, -, h6⟩, -, -⟩ := H
  exact h6
theorem lp_small (H : @LP avNo w W p h r u dv q g dv2 k c m l) (hk : k ≤ 1000) : l.length ≤ 4096 := by
  letI : Av := avNo
  exact (H.nm.num hk).2.2.2.1
theorem LP.fr0 {W' : World} (H : @LP avNo w W p h r u dv q g dv2 k c m l) (f : Fr (fun _ => False) W W') : @LP avNo w W' p h r u dv q g dv2 k c m l := by
  letI : Av := avNo
  exact LP.fr H f
theorem lp_hits (H : @LP avNo w W p h r u dv q g dv2 k c m l) : Calls Try.prog 14 #[ptr p] W fun e w' => e = .returned (.tuple #[.int .i64 (c.hit : Int), .int .i64 (c.miss : Int)]) ∧ Fr (fun _ => False) W w' := by
  letI : Av := avNo
  obtain ⟨⟨X, Y, C, -⟩, -, -⟩ := H
  exact cx_hits (X := X) C
theorem lp_old (H : @LP avNo w W p h r u dv q g dv2 k c m l) (hk : k ≤ 1000) : Calls Try.prog 15 #[ptr p] W fun e w' => e = .returned (.tuple #[.int .u64 (oldR l).1, .bool (oldR l).2]) ∧ Fr (fun _ => False) W w' := by
  letI : Av := avNo
  obtain ⟨n1, n2, n3, n4, n5, n6⟩ := H.nm.num hk
  obtain ⟨⟨X, Y, C, -⟩, -, -⟩ := H
  exact cx_oldest (X := X) C n6
theorem lp_dirties (H : @LP avNo w W p h r u dv q g dv2 k c m l) (hk : k ≤ 1000) : Calls Try.prog 16 #[ptr q] W fun e w' => (∃ ao cc, e = .returned (.slice ao (srtL l).length cc) ∧ w'.ownsRow 0 58 4 (.slice ao (srtL l).length cc) (srtL l).length (dCs (srtL l))) ∧ Fr (fun _ => False) W w' := by
  letI : Av := avNo
  obtain ⟨n1, n2, n3, n4, n5, n6⟩ := H.nm.num hk
  have hb := PR.bn H.pr
  obtain ⟨⟨X, Y, -, D, -⟩, -, -⟩ := H
  exact dx_dirties (Y := Y) D n4 hb
theorem lp_held1 (H : @LP avNo w W p h r u dv q g dv2 k c m l) (hk : k ≤ 1000) : Calls Try.prog 18 #[ptr p] W fun e w' => (∃ ao cc, e = .returned (.slice ao l.length cc) ∧ RdV w' (.slice ao l.length cc) ((l.map (·.b)).map (Value.int .i64))) ∧ Fr (fun _ => False) W w' := by
  letI : Av := avNo
  obtain ⟨n1, n2, n3, n4, n5, n6⟩ := H.nm.num hk
  obtain ⟨⟨X, Y, C, -⟩, -, -⟩ := H
  exact cx_held (X := X) C n6
theorem lp_held2 (H : @LP avNo w W p h r u dv q g dv2 k c m l) (hk : k ≤ 1000) : Calls Try.prog 19 #[ptr q] W fun e w' => (∃ ao cc, e = .returned (.slice ao l.length cc) ∧ RdV w' (.slice ao l.length cc) ((l.map (·.b)).map (Value.int .i64))) ∧ Fr (fun _ => False) W w' := by
  letI : Av := avNo
  obtain ⟨n1, n2, n3, n4, n5, n6⟩ := H.nm.num hk
  obtain ⟨⟨X, Y, -, D, -⟩, -, -⟩ := H
  exact dx_held (Y := Y) D n4
theorem lp_dirty (H : @LP avNo w W p h r u dv q g dv2 k c m l) (hk : k ≤ 1000) : Calls Try.prog 21 #[ptr p] W fun e w' => (∃ ao cc, e = .returned (.slice ao (srtL l).length cc) ∧ w'.ownsRow 0 58 4 (.slice ao (srtL l).length cc) (srtL l).length (dCs (srtL l))) ∧ Fr (fun _ => False) W w' := by
  letI : Av := avNo
  obtain ⟨n1, n2, n3, n4, n5, n6⟩ := H.nm.num hk
  obtain ⟨⟨X, Y, C, -⟩, -, -⟩ := H
  exact (cx_dirty (X := X) C n6).mono (fun e w' h => ⟨by obtain ⟨ao, cc, a, b, -⟩ := h.1; exact ⟨ao, cc, a, b⟩, h.2⟩)
/-- The cells that the law itself reads. -/
theorem lp_cells (H : @LP avNo w W p h r u dv q g dv2 k c m l) : ∃ lv lg, W.cell? ⟨h, 1, none⟩ = some lv ∧ W.cell? ⟨h, 2, none⟩ = some (.int .i64 (m.calls : Int)) ∧ W.cell? ⟨g, 1, none⟩ = some lg ∧ W.cell? ⟨g, 2, none⟩ = some (.int .i64 (m.calls : Int)) ∧ W.cell? ⟨q, 4, none⟩ = some (.int .i64 (c.hit : Int)) ∧ W.cell? ⟨q, 5, none⟩ = some (.int .i64 (c.miss : Int)) ∧ RdV W lv (m.log.map (Value.int .i64)) ∧ RdV W lg (m.log.map (Value.int .i64)) := by
  letI : Av := avNo
  obtain ⟨⟨X, Y, ⟨lv, vs, L, R, h1, h2, -⟩, ⟨lg, vs2, lv2, R2, d1, d2, -⟩, -⟩, -, -⟩ := H
  exact ⟨lv, lg, by rw [cell_of_heap h2.heap]; rfl, by rw [cell_of_heap h2.heap]; rfl, by rw [cell_of_heap d2.heap]; rfl, by rw [cell_of_heap d2.heap]; rfl, by rw [cell_of_heap d1.heap]; rfl, by rw [cell_of_heap d1.heap]; rfl, RdV.of_owns (base := 0) (e := 3) (by have := h2.log; rw [show (m.log.map (Value.int .i64)).length = m.log.length by simp]; exact this), RdV.of_owns (base := 0) (e := 3) (by have := d2.log; rw [show (m.log.map (Value.int .i64)).length = m.log.length by simp]; exact this)⟩
end
/-- The first of some dirty ones, in memory. -/
theorem dC_first {w : World} {da : Option Addr} {n dc : Nat} {x0 : Pl} {xs : List Pl} (h : w.ownsRow 0 58 4 (.slice da (n + 1) dc) (n + 1) (dCs (x0 :: xs))) : ∃ db, da = some ⟨db, 0, none⟩ ∧ w.cell? ⟨db, 1, none⟩ = some (.int .u64 (x0.first : Int)) := by
  rcases h.2 with ⟨hv, -⟩ | ⟨db, cap, cur, hv, hb, hg, hnc, hcm, hcs, htake⟩
  · simp at hv
  · simp only [Value.slice.injEq] at hv
    obtain ⟨rfl, -, rfl⟩ := hv
    refine ⟨db, rfl, ?_⟩
    rw [cell_of_heap hg]
    have h1 : (dCs (x0 :: xs))[1]? = some (.int .u64 (x0.first : Int)) := by simp [dCs, dC]
    rw [← htake] at h1
    rw [List.getElem?_take] at h1
    split at h1
    · simpa using h1
    · simp at h1
/-- What reads this list of numbers. -/
def kI {S : Nat → Prop} (hS : ∀ k, ¬ S k) (ls : List Int) : Kd S := .pr (fun v W => RdV W v (ls.map (Value.int .i64))) (fun v w1 w2 h f => h.kept f (fun b _ e => hS b e))
/-- What reads these dirty ones. -/
def kDs {S : Nat → Prop} (hS : ∀ k, ¬ S k) (n : Nat) (ls : List Pl) : Kd S := .pr (fun v W => ∃ ao cc, v = .slice ao n cc ∧ W.ownsRow 0 58 4 (.slice ao n cc) n (dCs ls)) (fun v w1 w2 h f => by
  obtain ⟨ao, cc, e, h⟩ := h
  exact ⟨ao, cc, e, owns_kept h f (fun b _ e => hS b e)⟩)
section
variable {ρ : Operand → Value} {o : Oper} {w : World}
theorem y_not {x : Operand} {b : Bool} (ho : o.op = .unOp .not 4 x) (hx : ρ x = .bool b) : (execOp ρ o).run Try.prog w = .ok (.value (.bool (!b))) w := by
  simp [execOp, ho, hx, go_sem]
theorem y_neI {x y : Operand} {n : Int} (ho : o.op = .binOp .neq 3 x y 3) (hx : ρ x = .int .i64 n) (hy : ρ y = .int .i64 n) : (execOp ρ o).run Try.prog w = .ok (.value (.bool false)) w := by
  simp [execOp, ho, hx, hy, go_sem]
theorem y_neU {x y : Operand} {n : Int} (ho : o.op = .binOp .neq 38 x y 38) (hx : ρ x = .int .u64 n) (hy : ρ y = .int .u64 n) : (execOp ρ o).run Try.prog w = .ok (.value (.bool false)) w := by
  simp [execOp, ho, hx, hy, go_sem]
theorem y_neB {x y : Operand} {b : Bool} (ho : o.op = .binOp .neq 4 x y 4) (hx : ρ x = .bool b) (hy : ρ y = .bool b) : (execOp ρ o).run Try.prog w = .ok (.value (.bool false)) w := by
  simp [execOp, ho, hx, hy, go_sem]
theorem y_gt {x y : Operand} {n : Int} {b : Bool} (ho : o.op = .binOp .gtr 3 x y 3) (hx : ρ x = .int .i64 n) (hy : ρ y = .int .i64 0) (hb : decide (0 < n) = b) : (execOp ρ o).run Try.prog w = .ok (.value (.bool b)) w := by
  subst hb; simp [execOp, ho, hx, hy, go_sem]
theorem y_len45 {x : Operand} {ao : Option Addr} {n c : Nat} (ho : o.op = .call { callee := .builtin .len, args := #[x], argTypes := #[45] }) (hx : ρ x = .slice ao n c) : (execOp ρ o).run Try.prog w = .ok (.value (.int .i64 (n : Int))) w := by
  simp [execOp, ho, hx, go_sem]
theorem y_idx45 {x y : Operand} {g n c : Nat} (ho : o.op = .indexAddr 45 x y) (hx : ρ x = .slice (some ⟨g, 0, none⟩) (n + 1) c) (hy : ρ y = .int .i64 0) : (execOp ρ o).run Try.prog w = .ok (.value (.pointer (some ⟨g, 0, none⟩))) w := by
  simp [execOp, ho, hx, hy, go_sem]
theorem fa56_4 (b o : Nat) (W : World) : (Instr.fieldAt 56 (.pointer (some ⟨b, o, none⟩)) 4).run Try.prog W = .ok (.pointer (some ⟨b, o + 4, none⟩)) W := by simp [go_sem]
theorem fa56_5 (b o : Nat) (W : World) : (Instr.fieldAt 56 (.pointer (some ⟨b, o, none⟩)) 5).run Try.prog W = .ok (.pointer (some ⟨b, o + 5, none⟩)) W := by simp [go_sem]
end
end Go.Proofs.Ytdgmlopaeonacaa
