/-
  The walk of the law GfVandermonde.
-/
import Derived.Test.YtckmddkhkdcmmaaGm3
import Derived.Test.YtckmddkhkdcmmaaIdent
import Derived.Test.YtckmddkhkdcmmaaLive
namespace Go.Proofs.Ytckmddkhkdcmmaa
open Go.RowKit
set_option linter.unusedVariables false
set_option linter.unusedSimpArgs false

attribute [local go_sem ↓] Go.wp_at_zero Go.wp_at_succ

/-- The first numbers: in range, and no two alike. -/
def Gd (l : List Int) (i : Nat) : Prop := (∀ a, a < i → 0 ≤ l[a]?.getD 0 ∧ l[a]?.getD 0 < 64) ∧ ∀ a b, a < b → b < i → l[a]?.getD 0 ≠ l[b]?.getD 0

theorem Gd.nats {l : List Int} (h : Gd l l.length) : ∃ xs : List Nat, l.map (Value.int .i64) = nvs xs ∧ xs.length = l.length ∧ xs.Nodup ∧ ∀ x ∈ xs, x < 64 := by
  refine ⟨l.map Int.toNat, ?_, by simp, ?_, ?_⟩
  · unfold nvs
    rw [List.map_map]
    refine List.map_congr_left (fun x hx => ?_)
    obtain ⟨i, hi, rfl⟩ := List.getElem_of_mem hx
    have := (h.1 i hi).1
    rw [List.getElem?_eq_getElem hi, Option.getD_some] at this
    simp only [Function.comp]
    congr 1
    omega
  · unfold List.Nodup
    rw [List.pairwise_map, List.pairwise_iff_getElem]
    intro i j hi hj hij e
    have h1 := h.2 i j hij hj
    have h2 := (h.1 i hi).1
    have h3 := (h.1 j hj).1
    rw [List.getElem?_eq_getElem hi, Option.getD_some] at h1 h2
    rw [List.getElem?_eq_getElem hj, Option.getD_some] at h1 h3
    omega
  · intro x hx
    obtain ⟨y, hy, rfl⟩ := List.mem_map.1 hx
    obtain ⟨i, hi, rfl⟩ := List.getElem_of_mem hy
    have := h.1 i hi
    rw [List.getElem?_eq_getElem hi, Option.getD_some] at this
    omega

theorem info3V : (Try.prog.info? 3).map (fun i => (i.zero, i.size, i.bytes)) = some (some (.int .i64 0), 1, 8) := by kernel_rfl
theorem owns_newV {w : World} {b : Nat} {e : TypeId} (hb : w.heap[b]? = some (.cells #[] e (0, 0))) : w.ownsRow 0 e 1 (.slice (some ⟨b, 0, none⟩) 0 0) 0 [] :=
  ⟨rfl, .inr ⟨b, 0, #[], rfl, Nat.zero_le _, hb, Nat.le_refl _, by simp [maxLen], rfl, rfl⟩⟩
theorem grown_frV {wr W w1 : World} {row : Option Nat} (hW : Fr (fun _ => False) wr W) (hg : W.grownBy w1 row) (hrow : ∀ k, row = some k → wr.heap.size ≤ k) : Fr (fun _ => False) wr w1 :=
  hW.grown hg (fun k hk e => absurd (hrow k e) (by omega))
theorem e_aV (w : World) (o : Obj) (fr : Nat × Nat) (cs : Array Value) (t : TypeId) (ho : o = .cells cs t fr) : (w.alloc o).heap[w.heap.size]? = some (.cells cs t fr) := by subst ho; exact heap_alloc_new w _
theorem e_bV (w : World) (o u : Obj) : ((w.alloc o).alloc u).heap[w.heap.size]? = some o := by
  rw [Below.heap_alloc _ _ _ (by simp)]; exact heap_alloc_new w _
theorem e_cV (w : World) (o u : Obj) : ((w.alloc o).alloc u).heap[w.heap.size + 1]? = some u := by
  have := heap_alloc_new (w.alloc o) u
  simpa using this
theorem set3V {w : World} {A : Nat} {x y z : Value} (h : w.heap[A]? = some (.cells #[x, y, z] 24 (0, 0))) (u v t : Value) : (((w.setCell ⟨A, 0, none⟩ u).setCell ⟨A, 1, none⟩ v).setCell ⟨A, 2, none⟩ t).heap[A]? = some (.cells #[u, v, t] 24 (0, 0)) := by
  have h1 := heap_setCell_same w A 0 _ 24 u h
  have h2 := heap_setCell_same _ A 1 _ 24 v h1
  have h3 := heap_setCell_same _ A 2 _ 24 t h2
  simpa using h3
/-- Behind Rows: the matrix is stored. -/
def St7 (n m7 q : Nat) (A : List UInt8) (w w7 : World) : Prop := w7.heap[m7]? = some (.cells #[.int .i64 (n : Int), .int .i64 (n : Int), .slice (some ⟨q, 0, none⟩) (n * n) (n * n)] 24 (0, 0)) ∧ BAt w7 q A ∧ Fr (fun _ => False) w w7
theorem St7.of_alloc {n q : Nat} {A : List UInt8} {w w6 : World} (hB : BAt w6 q A) (f : Fr (fun _ => False) w w6) : St7 n w6.heap.size q A w (w6.alloc (Obj.cells #[.int .i64 (n : Int), .int .i64 (n : Int), .slice (some ⟨q, 0, none⟩) (n * n) (n * n)] 24)) :=
  ⟨heap_alloc_new w6 _, hB.kept ((Fr.refl (fun _ => False) _).alloc _) id, f.alloc _⟩
theorem St7.of_set {n q m7 : Nat} {A : List UInt8} {w w3 w6 : World} {x y z : Value} (hB : BAt w6 q A) (f : Fr (fun _ => False) w w6) (h : w6.heap[m7]? = some (.cells #[x, y, z] 24 (0, 0))) (f3 : Fr (fun _ => False) w w3) (hm : w3.heap.size ≤ m7) : St7 n m7 q A w (((w6.setCell ⟨m7, 0, none⟩ (.int .i64 (n : Int))).setCell ⟨m7, 1, none⟩ (.int .i64 (n : Int))).setCell ⟨m7, 2, none⟩ (.slice (some ⟨q, 0, none⟩) (n * n) (n * n))) := by
  refine ⟨set3V h _ _ _, hB.kept (fr_three w6 m7 _ _ _) (fun e => ?_), f.trans (fr_three w6 m7 _ _ _) (fun k hk e => by have := f3.size; omega)⟩
  have h1 := hB
  unfold BAt at h1
  rw [e, h] at h1
  simp at h1
theorem nvs_one (xs : List Nat) : ∀ u ∈ nvs xs, u.oneCell' = true := fun u hu => by
  obtain ⟨x, -, rfl⟩ := List.mem_map.1 hu
  rfl
theorem RdV.srV {w : World} {v : Value} {vs : List Value} (h : RdV w v vs) : Sr w 1 v vs.length vs := by
  rcases h with ⟨rfl, rfl⟩ | ⟨ad, cap, rfl, h1, h2, h3⟩
  · exact .inl ⟨rfl, rfl, rfl⟩
  · refine .inr ⟨ad, cap, rfl, by simp, fun j u hu => ?_⟩
    obtain ⟨hj, e⟩ := List.getElem?_eq_some_iff.1 hu
    rw [h3 j hj, e]

set_option maxHeartbeats 1000000 in
set_option maxRecDepth 100000 in
theorem vanWalk_len (w : World) (wv : Value) (l : List Int) (h : RdV w wv (l.map (Value.int .i64))) (hn : l.length < 1 ∨ 16 < l.length) : Calls Try.prog 4 #[wv] w fun e w' => e = .returned (.bool true) ∧ Fr (fun _ => False) w w' := by
  obtain ⟨wo, wc, rfl⟩ := h.shape
  rw [List.length_map]
  generalize l.length = n at *
  clear h
  by_cases h1 : n < 1
  · have b1 : ((n : Int) < 1) := by omega
    clear hn h1
    go_enter Try.func4, Try.ntmps4
    go_wp2_with (go_at_call 15; refine (live_any _).mono ?_; rintro e w3 ⟨rfl, f3⟩)
    go_ret
    exact ⟨rfl, f3⟩
  · have b1 : ¬ ((n : Int) < 1) := by omega
    have b2 : ((16 : Int) < (n : Int)) := by omega
    clear hn h1
    go_enter Try.func4, Try.ntmps4
    go_wp2_with (go_at_call 15; refine (live_any _).mono ?_; rintro e w3 ⟨rfl, f3⟩)
    go_ret
    exact ⟨rfl, f3⟩

set_option maxHeartbeats 4000000 in
set_option maxRecDepth 100000 in
theorem vanWalk_ok (w : World) (wv : Value) (l : List Int) (h : RdV w wv (l.map (Value.int .i64))) (h1 : 1 ≤ l.length) (h16 : l.length ≤ 16) : Calls Try.prog 4 #[wv] w fun e w' => e = .returned (.bool true) ∧ Fr (fun _ => False) w w' := by
  have HW := hide h
  obtain ⟨wo, wc, rfl⟩ := h.shape
  have hml : (l.map (Value.int .i64)).length = l.length := by simp
  rw [hml] at HW ⊢
  obtain ⟨n, hn⟩ : ∃ n, n = l.length := ⟨_, rfl⟩
  rw [← hn] at HW h1 h16 ⊢
  have HN := hide hn
  obtain ⟨b, o, rfl, -, -, -, hc⟩ := (unhide HW).lits (by simp; omega)
  have hcell : ∀ i (hi : i < n), w.cell? ⟨b, o + i, none⟩ = some (.int .i64 (l[i]?.getD 0)) := fun i hi => by
    have := hc i (by simp; omega)
    rw [List.getElem_map] at this
    rw [this, List.getElem?_eq_getElem (show i < l.length by omega)]
    rfl
  have hblt : b < w.heap.size := by
    have := World.block_lt_of_cell? w _ (hcell 0 (by omega))
    exact this
  have HCE := hide (show ∀ W, Fr (fun _ => False) w W → ∀ i, i < n → W.cell? ⟨b, o + i, none⟩ = some (.int .i64 (l[i]?.getD 0)) from fun W f i hi => (f.cell (a := ⟨b, o + i, none⟩) hblt id).trans (hcell i hi))
  have b1 : ¬ ((n : Int) < 1) := by omega
  have b2 : ¬ ((16 : Int) < (n : Int)) := by omega
  clear h hc hcell hml hn
  go_enter Try.func4, Try.ntmps4
  go_wp2_with fail
  go_loopw [3, 4] (fun x _ w' => ∃ i : Nat, i ≤ n ∧ x = .int .i64 (i : Int) ∧ Gd l i ∧ Fr (fun _ => False) w w') (fun x _ _ => n - (intOf x).toNat)
  case atStart => exact ⟨0, Nat.zero_le _, rfl, ⟨fun a h => by omega, fun a b _ h => by omega⟩, Fr.refl _ _⟩
  case round =>
    obtain ⟨i, hi, rfl, hG, hf⟩ := hrel
    have HG := hide hG
    have Hf := hide hf
    by_cases hlt : i < n
    · have c0 := unhide HCE wr hf i hlt
      obtain ⟨x, hx⟩ : ∃ x, x = l[i]?.getD 0 := ⟨_, rfl⟩
      rw [← hx] at c0
      have HX := hide hx
      clear hG hf hx
      have hii : (i : Int) < (n : Int) := by omega
      by_cases hx0 : x < 0
      · go_wp2_with (go_at_call 15; refine (live_any _).mono ?_; rintro e w3 ⟨rfl, f3⟩)
        go_ret
        exact ⟨rfl, (unhide Hf).trans f3 (fun _ _ h => h)⟩
      · by_cases hx6 : 64 ≤ x
        · go_wp2_with (go_at_call 15; refine (live_any _).mono ?_; rintro e w3 ⟨rfl, f3⟩)
          go_ret
          exact ⟨rfl, (unhide Hf).trans f3 (fun _ _ h => h)⟩
        · go_wp2_with fail
          go_loopw [4] (fun y w' => ∃ k : Nat, k ≤ i ∧ y = .int .i64 (k : Int) ∧ (∀ a, a < k → l[a]?.getD 0 ≠ x) ∧ Fr (fun _ => False) w w') (fun y _ => i - (intOf y).toNat)
          case atStart => exact ⟨0, Nat.zero_le _, rfl, fun a h => by omega, unhide Hf⟩
          case round =>
            obtain ⟨k, hk, rfl, hne, hf2⟩ := hrel
            have HNE := hide hne
            have Hf2 := hide hf2
            by_cases hlt2 : k < i
            · have hki : (k : Int) < (i : Int) := by omega
              have hkn : (k : Int) < (n : Int) := by omega
              have d0 := unhide HCE _ hf2 k (by omega)
              have d1 := unhide HCE _ hf2 i hlt
              rw [← unhide HX] at d1
              obtain ⟨y, hy⟩ : ∃ y, y = l[k]?.getD 0 := ⟨_, rfl⟩
              rw [← hy] at d0
              have HY := hide hy
              clear hne hf2 hy c0
              by_cases hxy : y = x
              · have hxy' : (y == x) = true := by simpa using hxy
                go_wp2_with fail
                go_quiet (fail)
                go_wp2_with (go_at_call 15; refine (live_any _).mono ?_; rintro e w3 ⟨rfl, f3⟩)
                go_ret
                exact ⟨rfl, ((unhide Hf2).trans (Fr.ofDrewN _ _) (fun _ _ h => h)).trans f3 (fun _ _ h => h)⟩
              · have hxy' : (y == x) = false := by simpa using hxy
                have HXY := hide hxy
                clear hxy
                go_wp2_with fail
                go_quiet (fail)
                go_wp2_with fail
                go_roundw
                case rel =>
                  refine ⟨k + 1, by omega, by go_num, fun a ha => ?_, (unhide Hf2).trans (Fr.ofDrewN _ _) (fun _ _ h => h)⟩
                  rcases Nat.lt_or_ge a k with h | h
                  · exact unhide HNE a h
                  · obtain rfl : a = k := by omega
                    rw [← unhide HY]
                    exact unhide HXY
                case measure => simp [intOf]; omega
            · obtain rfl : i = k := by omega
              clear hne hf2 c0
              go_wp2_with fail
              go_roundw
              case rel =>
                refine ⟨i + 1, by omega, by go_num, ⟨fun a ha => ?_, fun a b hab hb => ?_⟩, unhide Hf2⟩
                · rcases Nat.lt_or_ge a i with h | h
                  · exact (unhide HG).1 a h
                  · obtain rfl : a = i := by omega
                    rw [← unhide HX]
                    omega
                · rcases Nat.lt_or_ge b i with h | h
                  · exact (unhide HG).2 a b hab h
                  · obtain rfl : b = i := by omega
                    rw [← unhide HX]
                    exact unhide HNE a hab
              case measure => simp [intOf]; omega
    · obtain rfl : n = i := by omega
      obtain ⟨xs, hxv, hxl, hxd, hxb⟩ := Gd.nats (by rw [← unhide HN]; exact hG)
      have HXS := hide (show ∀ W, Fr (fun _ => False) w W → RdV W (.slice (some ⟨b, o, none⟩) n wc) (nvs xs) from fun W f => by rw [← hxv]; exact (unhide HW).kept f (fun _ _ h => h))
      rw [← unhide HN] at hxl
      have HXL := hide hxl
      have HXD := hide hxd
      have HXB := hide hxb
      clear hG hf hxv hxl hxd hxb HG HW HCE
      have e1 : okB (64 : Int) (n : Int) = true := by unfold okB sideB; simp; omega
      have HP := hide (gpowers_any wr 64 (n : Int))
      rw [show pmR 64 (n : Int) = 64 by unfold pmR; rw [if_pos e1], show pmC 64 (n : Int) = (n : Int) by unfold pmC; rw [if_pos e1], show pmE 64 (n : Int) = 0 by unfold pmE; rw [if_pos e1], show pmL 64 (n : Int) = fl n pwC (64 * n) by unfold pmL; rw [if_pos e1]; rfl] at HP
      clear e1
      go_wp2_with (go_at_call 35; refine (unhide HP).mono ?_; rintro e w2 ⟨⟨ao, pl, ac, rfl, hPL⟩, f2⟩)
      have hnn : n * n ≤ 16 * 16 := Nat.mul_le_mul h16 h16
      obtain ⟨w3, hw3⟩ : ∃ w3, w3 = w2.alloc (Obj.cells #[Value.int IntKind.i64 64, Value.int IntKind.i64 (n : Int), Value.slice ao pl ac] 24) := ⟨_, rfl⟩
      obtain ⟨m5, hm5⟩ : ∃ m5, m5 = w2.heap.size := ⟨_, rfl⟩
      have hM : w3.heap[m5]? = some (.cells #[.int .i64 64, .int .i64 (n : Int), .slice ao pl ac] 24 (0, 0)) := by rw [hw3, hm5]; exact heap_alloc_new w2 _
      have F3 : Fr (fun _ => False) w w3 := ((unhide Hf).trans f2 (fun _ _ h => h)).trans (by rw [hw3]; exact (Fr.refl _ _).alloc _) (fun _ _ h => h)
      have hPL3 : Rd w3 (.slice ao pl ac) (fl n pwC (64 * n)) := hPL.kept (by rw [hw3]; exact (Fr.refl (fun _ => False) _).alloc _) (fun _ _ h => h)
      rw [← hw3, ← hm5]
      have HRows := hide (show ∀ W, Fr (fun _ => False) w3 W → ∀ wv', RdV W wv' (nvs xs) → Calls Try.prog 25 #[.agg #[.int .i64 64, .int .i64 (n : Int), .slice ao pl ac], wv'] W fun e w' => (∃ q, e = .returned (.tuple #[.agg #[.int .i64 (n : Int), .int .i64 (n : Int), .slice (some ⟨q, 0, none⟩) (n * n) (n * n)], .int .i64 0]) ∧ BAt w' q (rwsL n (fl n pwC (64 * n)) xs)) ∧ Fr (fun _ => False) W w' from fun W f wv' hv' => by
        refine (rows_ok W 64 n _ wv' (fl n pwC (64 * n)) xs (hPL3.kept f (fun _ _ h => h)) hv' (fl_length _ _ _) (by omega) (by omega) (by rw [unhide HXL]; omega) (unhide HXB)).mono ?_
        rw [unhide HXL]
        rintro e w' ⟨⟨q, rfl, hB⟩, f'⟩
        exact ⟨⟨q, rfl, hB⟩, f'⟩)
      have HF3 := hide F3
      have HM := hide hM
      have hml := lt_of_heap hM
      have HC := hide (show ∀ W, Fr (fun _ => False) w3 W → W.cell? ⟨m5, 0, none⟩ = some (.int .i64 64) ∧ W.cell? ⟨m5, 1, none⟩ = some (.int .i64 (n : Int)) ∧ W.cell? ⟨m5, 2, none⟩ = some (.slice ao pl ac) from fun W f => by
        have h := (f.block _ hml id).trans hM
        have a0 := cell_of_heap h 0
        have a1 := cell_of_heap h 1
        have a2 := cell_of_heap h 2
        simp at a0 a1 a2
        exact ⟨a0, a1, a2⟩)
      obtain ⟨a0, a1, a2⟩ := unhide HC w3 (Fr.refl _ _)
      have HSX := hide (show ∀ W, Fr (fun _ => False) w3 W → Sr W 1 (.slice (some ⟨b, o, none⟩) n wc) n (nvs xs) from fun W f => by
        have := RdV.srV (unhide HXS W ((unhide HF3).trans f (fun _ _ h => h)))
        rwa [nvs_length, unhide HXL] at this)
      obtain ⟨inf3, hi3, hy0, hy1, hy2⟩ := info_parts info3V
      have ne1 : m5 ≠ w3.heap.size := by omega
      have ne2 : m5 ≠ w3.heap.size + 1 := by omega
      clear hw3 hm5 hM F3 hPL3 hPL f2 HP
      go_region_held3 (fun W => W.cell? ⟨m5, 0, none⟩ = some (.int .i64 64) ∧ W.cell? ⟨m5, 1, none⟩ = some (.int .i64 (n : Int)) ∧ W.cell? ⟨m5, 2, none⟩ = some (.slice ao pl ac)) ((first | go_keep | exact ⟨((fr_three w6 _ _ _ _).cell (a := ⟨m5, 0, none⟩) hm6 (by first | exact ne1 | exact ne2 | exact ne3 | exact ne4)).trans t0, ((fr_three w6 _ _ _ _).cell (a := ⟨m5, 1, none⟩) hm6 (by first | exact ne1 | exact ne2 | exact ne3 | exact ne4)).trans t1, ((fr_three w6 _ _ _ _).cell (a := ⟨m5, 2, none⟩) hm6 (by first | exact ne1 | exact ne2 | exact ne3 | exact ne4)).trans t2⟩)) ((first
        | (refine step_app rfl (.tmp 68) (.tmp 69) 25 rfl 3 inf3 _ 1 8 Try.underlying25 hi3 hy0 hy1 hy2 rfl (by decide) (.slice (some ⟨w3.heap.size, 0, none⟩) 0 0) 0 [] (by rfl) (.slice (some ⟨b, o, none⟩) n wc) (by rfl) n (nvs xs) (by exact owns_newV (by first | exact e_aV w3 _ _ _ _ rfl | exact e_bV w3 _ _)) (by exact unhide HSX _ (by first | exact (Fr.refl _ _).alloc _ | exact ((Fr.refl _ _).alloc _).alloc _ | exact ((Fr.refl _ _).alloc _).drew | exact (Fr.refl _ _).drew.alloc _ | exact (((Fr.refl _ _).alloc _).alloc _).drew | exact (((Fr.refl _ _).alloc _).drew).alloc _ | exact ((Fr.refl _ _).drew.alloc _).alloc _)) (nvs_one _) (by omega) (by simp only [maxLen]; omega) ?_; intro ao4 ac4 w4 o4 g4 p4; simp only [Nat.zero_add, List.nil_append] at o4 p4 ⊢; have F4 : Fr (fun _ => False) w3 w4 := grown_frV (wr := w3) (by first | exact (Fr.refl _ _).alloc _ | exact ((Fr.refl _ _).alloc _).alloc _ | exact ((Fr.refl _ _).alloc _).drew | exact (Fr.refl _ _).drew.alloc _ | exact (((Fr.refl _ _).alloc _).alloc _).drew | exact (((Fr.refl _ _).alloc _).drew).alloc _ | exact ((Fr.refl _ _).drew.alloc _).alloc _) g4 (fun k hk => by simp [Value.ownBlock] at hk; omega); have R4 : RdV w4 (.slice ao4 n ac4) (nvs xs) := RdV.of_owns (e := 3) (base := 0) (by rw [nvs_length, unhide HXL]; exact o4); obtain ⟨s0, s1, s2⟩ := unhide HC w4 F4; have hs4 := F4.size; have ne3 : m5 ≠ w4.heap.size := (by omega); (first | (have h7 : w4.heap[w3.heap.size + 1]? = some (.cells #[Value.int IntKind.i64 0, Value.int IntKind.i64 0, Value.slice none 0 0] 24 (0, 0)) := (g4.block _ (by simp <;> omega) (by simp [Value.ownBlock])).trans (e_cV w3 _ _)) | (have h7 : w4.heap[w3.heap.size]? = some (.cells #[Value.int IntKind.i64 0, Value.int IntKind.i64 0, Value.slice none 0 0] 24 (0, 0)) := (g4.block _ (by simp <;> omega) (by simp [Value.ownBlock])).trans (e_bV w3 _ _)) | (have h7 := True.intro)))
        | (refine step_app rfl (.tmp 68) (.tmp 69) 25 rfl 3 inf3 _ 1 8 Try.underlying25 hi3 hy0 hy1 hy2 rfl (by decide) (.slice (some ⟨w3.heap.size + 1, 0, none⟩) 0 0) 0 [] (by rfl) (.slice (some ⟨b, o, none⟩) n wc) (by rfl) n (nvs xs) (by exact owns_newV (by exact e_cV w3 _ _)) (by exact unhide HSX _ (by first | exact (Fr.refl _ _).alloc _ | exact ((Fr.refl _ _).alloc _).alloc _ | exact ((Fr.refl _ _).alloc _).drew | exact (Fr.refl _ _).drew.alloc _ | exact (((Fr.refl _ _).alloc _).alloc _).drew | exact (((Fr.refl _ _).alloc _).drew).alloc _ | exact ((Fr.refl _ _).drew.alloc _).alloc _)) (nvs_one _) (by omega) (by simp only [maxLen]; omega) ?_; intro ao4 ac4 w4 o4 g4 p4; simp only [Nat.zero_add, List.nil_append] at o4 p4 ⊢; have F4 : Fr (fun _ => False) w3 w4 := grown_frV (wr := w3) (by first | exact (Fr.refl _ _).alloc _ | exact ((Fr.refl _ _).alloc _).alloc _ | exact ((Fr.refl _ _).alloc _).drew | exact (Fr.refl _ _).drew.alloc _ | exact (((Fr.refl _ _).alloc _).alloc _).drew | exact (((Fr.refl _ _).alloc _).drew).alloc _ | exact ((Fr.refl _ _).drew.alloc _).alloc _) g4 (fun k hk => by simp [Value.ownBlock] at hk; omega); have R4 : RdV w4 (.slice ao4 n ac4) (nvs xs) := RdV.of_owns (e := 3) (base := 0) (by rw [nvs_length, unhide HXL]; exact o4); obtain ⟨s0, s1, s2⟩ := unhide HC w4 F4; have hs4 := F4.size; have ne3 : m5 ≠ w4.heap.size := (by omega); (first | (have h7 : w4.heap[w3.heap.size + 1]? = some (.cells #[Value.int IntKind.i64 0, Value.int IntKind.i64 0, Value.slice none 0 0] 24 (0, 0)) := (g4.block _ (by simp <;> omega) (by simp [Value.ownBlock])).trans (e_cV w3 _ _)) | (have h7 : w4.heap[w3.heap.size]? = some (.cells #[Value.int IntKind.i64 0, Value.int IntKind.i64 0, Value.slice none 0 0] 24 (0, 0)) := (g4.block _ (by simp <;> omega) (by simp [Value.ownBlock])).trans (e_bV w3 _ _)) | (have h7 := True.intro)))
        | (go_at_call 25; refine (unhide HRows w4 F4 _ R4).mono ?_; rintro e w6 ⟨⟨q, rfl, hB6⟩, f6⟩; have F6 := F4.trans f6 (fun _ _ h => h); obtain ⟨t0, t1, t2⟩ := unhide HC w6 F6; have hs6 := F6.size; have ne4 : m5 ≠ w6.heap.size := (by omega); have hm6 : m5 < w6.heap.size := (by omega); (first | (have h8 := (f6.block _ (lt_of_heap h7) id).trans h7) | (have h8 := True.intro)); (first | (have g0 := cell_of_heap h8 0; have g1 := cell_of_heap h8 1; have g2 := cell_of_heap h8 2; have z8 := frozen_of_heap h8; simp at g0 g1 g2) | skip))
        | (go_at_call 25; refine (unhide HRows _ (F4.alloc _) _ (R4.kept ((Fr.refl (fun _ => False) _).alloc _) (fun _ _ h => h))).mono ?_; rintro e w6 ⟨⟨q, rfl, hB6⟩, f6⟩; have F6 := (F4.alloc _).trans f6 (fun _ _ h => h); obtain ⟨t0, t1, t2⟩ := unhide HC w6 F6; have hs6 := F6.size; have ne4 : m5 ≠ w6.heap.size := (by omega); have hm6 : m5 < w6.heap.size := (by omega); (first | (have h8 := (f6.block _ (lt_of_heap (heap_alloc_new w4 _)) id).trans (heap_alloc_new w4 _)) | (have h8 := True.intro)); (first | (have g0 := cell_of_heap h8 0; have g1 := cell_of_heap h8 1; have g2 := cell_of_heap h8 2; have z8 := frozen_of_heap h8; simp at g0 g1 g2) | skip))))
      all_goals
        have F06 := (unhide HF3).trans F6 (fun _ _ h => h)
        first
          | (have hS7 := St7.of_alloc (n := n) hB6 F06; obtain ⟨w7, hw7⟩ : ∃ w7, w6.alloc (Obj.cells #[.int .i64 (n : Int), .int .i64 (n : Int), .slice (some ⟨q, 0, none⟩) (n * n) (n * n)] 24) = w7 := ⟨_, rfl⟩; rw [hw7] at hS7 ⊢; obtain ⟨m7, hm7⟩ : ∃ m7, w6.heap.size = m7 := ⟨_, rfl⟩; rw [hm7] at hS7 ⊢)
          | (have hS7 := St7.of_set (n := n) (m7 := w4.heap.size) hB6 F06 h8 (unhide HF3) (by omega); obtain ⟨m7, hm7⟩ : ∃ m7, w4.heap.size = m7 := ⟨_, rfl⟩; rw [hm7] at hS7 ⊢; generalize (((w6.setCell ⟨m7, 0, none⟩ (.int .i64 (n : Int))).setCell ⟨m7, 1, none⟩ (.int .i64 (n : Int))).setCell ⟨m7, 2, none⟩ (.slice (some ⟨q, 0, none⟩) (n * n) (n * n))) = w7 at hS7 ⊢)
          | (have hS7 := St7.of_set (n := n) (m7 := w3.heap.size + 1) hB6 F06 h8 (unhide HF3) (by omega); obtain ⟨m7, hm7⟩ : ∃ m7, w3.heap.size + 1 = m7 := ⟨_, rfl⟩; rw [hm7] at hS7 ⊢; generalize (((w6.setCell ⟨m7, 0, none⟩ (.int .i64 (n : Int))).setCell ⟨m7, 1, none⟩ (.int .i64 (n : Int))).setCell ⟨m7, 2, none⟩ (.slice (some ⟨q, 0, none⟩) (n * n) (n * n))) = w7 at hS7 ⊢)
          | (have hS7 := St7.of_set (n := n) (m7 := w3.heap.size) hB6 F06 h8 (unhide HF3) (Nat.le_refl _); obtain ⟨m7, hm7⟩ : ∃ m7, w3.heap.size = m7 := ⟨_, rfl⟩; rw [hm7] at hS7 ⊢; generalize (((w6.setCell ⟨m7, 0, none⟩ (.int .i64 (n : Int))).setCell ⟨m7, 1, none⟩ (.int .i64 (n : Int))).setCell ⟨m7, 2, none⟩ (.slice (some ⟨q, 0, none⟩) (n * n) (n * n))) = w7 at hS7 ⊢)
        have HS7 := hide hS7
        clear hS7
        have hAl : (rwsL n (fl n pwC (64 * n)) xs).length = n * n := by rw [rwsL_length, unhide HXL]
        have hfull : ∀ (further : Nat) (more : Nat → Nat → UInt8), (redK (bsd (rwsL n (fl n pwC (64 * n)) xs) n further more n) n).2 = n := fun further more => full_of_reg hAl (van_reg (unhide HXL) (unhide HXD) (unhide HXB))
        obtain ⟨A, hA⟩ : ∃ A, A = rwsL n (fl n pwC (64 * n)) xs := ⟨_, rfl⟩
        rw [← hA] at hAl HS7
        simp only [← hA] at hfull
        have HI := hide (show (invR n A).2 = n from hfull n eyeC)
        have HR := hide (hfull 0 eyeC)
        have HAl := hide hAl
        have HRd7 := hide (show ∀ W, Fr (fun _ => False) w7 W → Rd W (.slice (some ⟨q, 0, none⟩) (n * n) (n * n)) A from fun W f => by
          have := ((unhide HS7).2.1.kept f id).rd (by rw [hAl]; simp only [maxLen]; omega)
          rwa [hAl] at this)
        have HC7 := hide (show ∀ W, Fr (fun _ => False) w7 W → m7 < W.heap.size ∧ W.cell? ⟨m7, 0, none⟩ = some (.int .i64 (n : Int)) ∧ W.cell? ⟨m7, 1, none⟩ = some (.int .i64 (n : Int)) ∧ W.cell? ⟨m7, 2, none⟩ = some (.slice (some ⟨q, 0, none⟩) (n * n) (n * n)) from fun W f => by
          have h := (f.block _ (lt_of_heap (unhide HS7).1) id).trans (unhide HS7).1
          have a0 := cell_of_heap h 0
          have a1 := cell_of_heap h 1
          have a2 := cell_of_heap h 2
          simp at a0 a1 a2
          exact ⟨lt_of_heap h, a0, a1, a2⟩)
        have HInv := hide (show Calls Try.prog 19 #[.agg #[.int .i64 (n : Int), .int .i64 (n : Int), .slice (some ⟨q, 0, none⟩) (n * n) (n * n)]] w7 fun e w' => (∃ vo vl vc, e = .returned (.tuple #[.agg #[.int .i64 (n : Int), .int .i64 (n : Int), .slice vo vl vc], .int .i64 0]) ∧ Rd w' (.slice vo vl vc) (invL n A)) ∧ Fr (fun _ => False) w7 w' from by
          refine (inverse_sq w7 n _ A (unhide HRd7 w7 (Fr.refl _ _)) hAl (by omega)).mono ?_
          rw [if_neg (by rw [unhide HI]; omega)]
          rintro e w' ⟨⟨val, rfl, hv, -⟩, f⟩
          rw [if_neg (by rw [unhide HI]; omega)] at hv
          obtain ⟨v, rfl, hv⟩ := hv
          obtain ⟨vo, vc, rfl⟩ := hv.shape
          exact ⟨⟨vo, _, vc, rfl, hv⟩, f⟩)
        obtain ⟨l7, k0, k1, k2⟩ := unhide HC7 w7 (Fr.refl _ _)
        clear hA hAl hfull
        go_wp2_with (go_at_call 19; refine (unhide HInv).mono ?_; rintro e w8 ⟨⟨vo, vl, vc, rfl, hv8⟩, f8⟩; obtain ⟨l8, d0, d1, d2⟩ := unhide HC7 w8 f8)
        have f79 := f8.alloc (Obj.cells #[Value.int IntKind.i64 (n : Int), Value.int IntKind.i64 (n : Int), Value.slice vo vl vc] 24)
        have hvI : Rd (w8.alloc (Obj.cells #[Value.int IntKind.i64 (n : Int), Value.int IntKind.i64 (n : Int), Value.slice vo vl vc] 24)) (.slice vo vl vc) (invL n A) := hv8.kept ((Fr.refl (fun _ => False) _).alloc _) (fun _ _ h => h)
        have HPr := hide (product_ok _ n n n _ _ A (invL n A) (unhide HRd7 _ f79) hvI (unhide HAl) (invL_length n A) (by omega) (by omega) (by omega))
        rw [inv_prod (unhide HAl) (unhide HI)] at HPr
        have HF79 := hide f79
        clear hvI hv8 f8 f79 HInv
        refine (unhide HPr).mono ?_
        rintro e w9 ⟨⟨q9, rfl, hB9⟩, f9⟩
        have F9 := (unhide HF79).trans f9 (fun _ _ h => h)
        obtain ⟨l9, d0', d1', d2'⟩ := unhide HC7 w9 F9
        have h11 := heap_alloc_new w9 (Obj.cells #[Value.int IntKind.i64 (n : Int), Value.int IntKind.i64 (n : Int), Value.slice (some ⟨q9, 0, none⟩) (n * n) (n * n)] 24)
        have f9a := (Fr.refl (fun _ => False) w9).alloc (Obj.cells #[Value.int IntKind.i64 (n : Int), Value.int IntKind.i64 (n : Int), Value.slice (some ⟨q9, 0, none⟩) (n * n) (n * n)] 24)
        have hsd : sideB (n : Int) = true := by unfold sideB; simp; omega
        have HId := hide (ridentity_any (w9.alloc (Obj.cells #[Value.int IntKind.i64 (n : Int), Value.int IntKind.i64 (n : Int), Value.slice (some ⟨q9, 0, none⟩) (n * n) (n * n)] 24)) (n : Int))
        rw [show idS (n : Int) = (n : Int) by unfold idS; rw [if_pos hsd], show idE (n : Int) = 0 by unfold idE; rw [if_pos hsd], show idL (n : Int) = fl n eyeC (n * n) by unfold idL; rw [if_pos hsd]; rfl] at HId
        have HB9 := hide (hB9.kept f9a id)
        have H11 := hide h11
        have HF9 := hide (F9.trans f9a (fun _ _ h => h))
        clear hB9 f9 F9 h11 f9a hsd HPr HF79
        go_wp2_with (go_at_call 36; refine (unhide HId).mono ?_; rintro e w10 ⟨⟨io, il, ic, rfl, hI10⟩, f10⟩; have F10 := (unhide HF9).trans f10 (fun _ _ h => h); have l10 := (unhide HC7 w10 F10).1; have e0 := (unhide HC7 w10 F10).2.1; have e1 := (unhide HC7 w10 F10).2.2.1; have e2 := (unhide HC7 w10 F10).2.2.2)
        have h11 := (f10.block _ (lt_of_heap (unhide H11)) id).trans (unhide H11)
        have f10a := (Fr.refl (fun _ => False) w10).alloc (Obj.cells #[Value.int IntKind.i64 (n : Int), Value.int IntKind.i64 (n : Int), Value.slice io il ic] 24)
        have h13 := heap_alloc_new w10 (Obj.cells #[Value.int IntKind.i64 (n : Int), Value.int IntKind.i64 (n : Int), Value.slice io il ic] 24)
        have h11' := (f10a.block _ (lt_of_heap h11) id).trans h11
        have F10a := F10.trans f10a (fun _ _ h => h)
        have HRk := hide (rank_ok _ n n _ A (unhide HRd7 _ F10a) (unhide HAl) (by omega) (by omega))
        rw [unhide HR] at HRk
        have HB10 := hide (((unhide HB9).kept f10 id).kept f10a id)
        have HI10 := hide (hI10.kept f10a (fun _ _ h => h))
        have H11' := hide h11'
        have H13 := hide h13
        have HF10 := hide F10a
        clear hI10 h11 h13 h11' f10 F10 f10a F10a HB9 H11 HF9 HId
        refine (unhide HRk).mono ?_
        rintro e w11 ⟨rfl, f11⟩
        have g11 := (f11.block _ (lt_of_heap (unhide H11')) id).trans (unhide H11')
        have g13 := (f11.block _ (lt_of_heap (unhide H13)) id).trans (unhide H13)
        have p0 := cell_of_heap g11 0
        have p1 := cell_of_heap g11 1
        have p2 := cell_of_heap g11 2
        have r0 := cell_of_heap g13 0
        have r1 := cell_of_heap g13 1
        have r2 := cell_of_heap g13 2
        simp at p0 p1 p2 r0 r1 r2
        have hp9 := ((unhide HB10).kept f11 id).rd (by rw [fl_length]; simp only [maxLen]; omega)
        rw [fl_length] at hp9
        have HSm := hide (same_any w11 (n : Int) (n : Int) (n : Int) (n : Int) _ _ _ _ hp9 ((unhide HI10).kept f11 (fun _ _ h => h)))
        rw [show decide ((n : Int) = (n : Int) ∧ (n : Int) = (n : Int) ∧ fl n eyeC (n * n) = fl n eyeC (n * n)) = true by simp] at HSm
        have HF11 := hide (((unhide HS7).2.2.trans (unhide HF10) (fun _ _ h => h)).trans f11 (fun _ _ h => h))
        clear hp9 f11 g11 g13 HB10 HI10 H11' H13 HRk
        go_wp2_with (first
          | (go_at_call 22; refine (num_any _ _).mono ?_; rintro e w' ⟨rfl, rfl⟩)
          | (go_at_call 34; refine (unhide HSm).mono ?_; rintro e w12 ⟨rfl, f12⟩)
          | (go_at_call 15; refine (live_any _).mono ?_; rintro e w13 ⟨rfl, f13⟩))
        go_ret
        exact ⟨rfl, (unhide HF11).trans (f12.trans f13 (fun _ _ h => h)) (fun _ _ h => h)⟩
end Go.Proofs.Ytckmddkhkdcmmaa
