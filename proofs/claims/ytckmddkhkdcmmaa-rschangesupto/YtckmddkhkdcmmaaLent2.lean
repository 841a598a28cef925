/-
  The law's lent: no two of its lists lie in one block.
-/
import Derived.Test.YtckmddkhkdcmmaaRs14
import Derived.Deep.RegionHeld3
namespace Go.Proofs.Ytckmddkhkdcmmaa
open Go.RowKit
set_option linter.unusedVariables false

attribute [local go_sem ↓] Go.wp_at_zero Go.wp_at_succ

/-- No two lists in one block. -/
def Apa (vs : List Value) : Prop := ∀ (i j : Nat) (x y : Value) (b : Nat), i < j → vs[i]? = some x → vs[j]? = some y → x.ownBlock = some b → y.ownBlock ≠ some b

/-- A list under way by append, no two of its lists in one block. -/
structure AD (N : Nat) (w : World) (v : Value) (ls : List (List UInt8)) : Prop where
  ex : ∃ vs : List Value, w.ownsRow 0 22 1 v vs.length vs ∧ vs.length = ls.length ∧ (∀ (i : Nat) (x : Value) (l : List UInt8), vs[i]? = some x → ls[i]? = some l → Rd w x l ∧ Wb N w x) ∧ Apa vs
  new : ∀ b, v.ownBlock = some b → N ≤ b

theorem AD.al {N : Nat} {w : World} {v : Value} {ls : List (List UInt8)} (h : AD N w v ls) : AL N w v ls := by
  obtain ⟨vs, h1, h2, h3, -⟩ := h.ex
  exact ⟨⟨vs, h1, h2, h3⟩, h.new⟩
theorem AD.kept {N : Nat} {w w' : World} {v : Value} {ls : List (List UInt8)} (h : AD N w v ls) (f : Fr (fun _ => False) w w') : AD N w' v ls := by
  obtain ⟨vs, h1, h2, h3, h4⟩ := h.ex
  exact ⟨⟨vs, owns_kept h1 f (fun _ _ h => h), h2, fun i x l hx hl => ⟨(h3 i x l hx hl).1.kept f (fun _ _ h => h), (h3 i x l hx hl).2.kept f⟩, h4⟩, h.new⟩
theorem AD.nil (N : Nat) (w : World) : AD N w (.slice none 0 0) [] := ⟨⟨[], owns_nilE w 22, rfl, fun i x l hx => by simp at hx, fun i j x y b _ hx => by simp at hx⟩, fun b hb => by simp [Value.ownBlock] at hb⟩
theorem AD.shape {N : Nat} {w : World} {v : Value} {ls : List (List UInt8)} (h : AD N w v ls) : ∃ ao cap, v = .slice ao ls.length cap := h.al.shape
theorem AD.ln {N : Nat} {w : World} {v : Value} {ls : List (List UInt8)} (h : AD N w v ls) : LN N w v ls := h.al.ln

theorem Apa.snoc {vs : List Value} {x : Value} (h : Apa vs) (hx : ∀ (i : Nat) (y : Value) (b : Nat), vs[i]? = some y → y.ownBlock = some b → x.ownBlock ≠ some b) : Apa (vs ++ [x]) := by
  intro i j u y b hij hu hy hb
  have hj := (List.getElem?_eq_some_iff.1 hy).1
  rw [List.length_append, List.length_singleton] at hj
  rw [List.getElem?_append_left (by omega)] at hu
  by_cases e : j < vs.length
  · rw [List.getElem?_append_left e] at hy
    exact h i j u y b hij hu hy hb
  · rw [List.getElem?_append_right (by omega), show j - vs.length = 0 by omega] at hy
    simp at hy
    subst hy
    exact hx i u b hu hb

/-- One more is appended. -/
theorem AD.app {N : Nat} {w w' : World} {ao ao' : Option Addr} {n ac ac' : Nat} {ls : List (List UInt8)} (vs : List Value) (h1 : w.ownsRow 0 22 1 (.slice ao n ac) vs.length vs) (h2 : vs.length = ls.length) (h3 : ∀ (i : Nat) (x : Value) (l : List UInt8), vs[i]? = some x → ls[i]? = some l → Rd w x l ∧ Wb N w x) (hnew : ∀ b, (Value.slice ao n ac).ownBlock = some b → N ≤ b) (x : Value) (l : List UInt8) (hx : Rd w x l) (hb : Wb N w x) (hN : N ≤ w.heap.size)
    (ho : w'.ownsRow 0 22 1 (.slice ao' (n + 1) ac') (n + 1) (vs ++ [x])) (hg : (w.alloc (Obj.cells #[x] 22)).grownBy w' (Value.slice ao n ac).ownBlock)
    (hp : (Value.slice ao' (n + 1) ac').ownBlock = (Value.slice ao n ac).ownBlock ∨ ∃ k, (Value.slice ao' (n + 1) ac').ownBlock = some k ∧ (w.alloc (Obj.cells #[x] 22)).heap.size ≤ k)
    (hds : Apa vs) (hdx : ∀ (i : Nat) (y : Value) (b : Nat), vs[i]? = some y → y.ownBlock = some b → x.ownBlock ≠ some b) :
    AD N w' (.slice ao' (n + 1) ac') (ls ++ [l]) ∧ Fr (fun k => (Value.slice ao n ac).ownBlock = some k) w w' := by
  have hn : n = vs.length := by
    obtain ⟨a, c, e⟩ := owns_shape h1
    simp only [Value.slice.injEq] at e
    exact e.2.1
  have f : Fr (fun k => (Value.slice ao n ac).ownBlock = some k) w w' := Fr.grown (S := fun k => (Value.slice ao n ac).ownBlock = some k) (w := w.alloc _) ((Fr.refl _ _).alloc _) hg (fun k hk e => e)
  have key : ∀ y l', Rd w y l' → Wb N w y → Rd w' y l' ∧ Wb N w' y := by
    intro y l' r1 r2
    have hne : ∀ b, y.ownBlock = some b → ¬ (Value.slice ao n ac).ownBlock = some b := fun b hb' e => TyAt.ne (r2 b hb').2 (owns_ty h1 e) (by decide) rfl
    refine ⟨r1.kept f hne, fun b hb' => ⟨(r2 b hb').1, ?_⟩⟩
    obtain ⟨cs, hcs⟩ := (r2 b hb').2
    exact ⟨cs, by rw [f.block b (lt_of_heap hcs) (hne b hb')]; exact hcs⟩
  refine ⟨⟨⟨vs ++ [x], ?_, by simp [h2], ?_, hds.snoc hdx⟩, ?_⟩, f⟩
  · have := ho
    rwa [List.length_append, ← hn]
  · intro i y l' hy hl'
    by_cases e : i < vs.length
    · rw [List.getElem?_append_left e] at hy
      rw [List.getElem?_append_left (by rw [← h2]; exact e)] at hl'
      exact key y l' (h3 i y l' hy hl').1 (h3 i y l' hy hl').2
    · rw [List.getElem?_append_right (by omega)] at hy
      rw [List.getElem?_append_right (by rw [← h2]; omega)] at hl'
      have hi := (List.getElem?_eq_some_iff.1 hy).1
      simp at hi
      have h0 : i - vs.length = 0 := by omega
      rw [h0] at hy
      rw [← h2, h0] at hl'
      simp at hy hl'
      subst hy hl'
      exact key x l hx hb
  · intro b hb'
    rcases hp with e | ⟨k, e, hk⟩
    · rw [e] at hb'; exact hnew b hb'
    · rw [e] at hb'
      simp at hb' hk
      omega

set_option maxHeartbeats 4000000 in
set_option maxRecDepth 100000 in
theorem lent_ad (w : World) (v : Value) (ls : List (List UInt8)) (h : RdL w v ls) (hl : ls.length ≤ 100) (hb : ∀ l ∈ ls, l.length ≤ 9000) :
    Calls Try.prog 44 #[v] w fun e w' => (∃ ao ac, e = .returned (.slice ao ls.length ac) ∧ AD w.heap.size w' (.slice ao ls.length ac) ls) ∧ Fr (fun _ => False) w w' := by
  have H := hide h
  obtain ⟨vo, vc, rfl⟩ := h.shape
  have HB := hide hb
  clear h hb
  obtain ⟨inf, hi0, hz0, hz1, hz2⟩ := info_parts Try.info22
  obtain ⟨inf5, hi5, hy0, hy1, hy2⟩ := info_parts Try.info5
  go_enter Try.func44, Try.ntmps44
  go_wp2_with fail
  go_loopw [3, 4] (fun hx x w' => ∃ i : Nat, i ≤ ls.length ∧ x = .int .i64 (i : Int) ∧ (∃ ao ac, hx = .slice ao i ac ∧ AD w.heap.size w' (.slice ao i ac) (ls.take i)) ∧ Fr (fun _ => False) w w') (fun _ x _ => ls.length - (intOf x).toNat)
  case atStart => exact ⟨0, by omega, rfl, ⟨none, 0, rfl, by simpa using AD.nil w.heap.size w⟩, Fr.refl _ _⟩
  case round =>
    obtain ⟨i, hi, rfl, ⟨ao, ac, rfl, hA⟩, hf⟩ := hrel
    by_cases hlt : i < ls.length
    · obtain ⟨sb, so, xo, xc, rfl, y1, hRx⟩ := ((unhide H).kept hf).get i hlt
      have hle := unhide HB _ (List.getElem_mem hlt)
      have hsb := World.block_lt_of_cell? wr _ y1
      simp only at hsb
      obtain ⟨sb0, so0, _, _, hsb0, z1, -⟩ := (unhide H).get i hlt
      simp only [Option.some.injEq, Addr.mk.injEq] at hsb0
      obtain ⟨rfl, rfl, -⟩ := hsb0
      have hsbw := World.block_lt_of_cell? w _ z1
      simp only at hsbw
      clear z1
      have htk := List.take_succ_eq_append_getElem hlt
      obtain ⟨xl, hxl⟩ : ∃ xl, xl = (ls[i]).length := ⟨_, rfl⟩
      rw [← hxl] at y1 hRx hle
      have HR := hide hRx
      have HA := hide hA
      have Hf := hide hf
      have HT := hide htk
      have HXL := hide hxl
      generalize ls[i] = li at *
      clear hRx hA hf htk hxl
      obtain ⟨vs, hO, hvl, hrows, hdst⟩ := (unhide HA).ex
      have HDS := hide hdst
      clear hdst
      have hvi : vs.length = i := by rw [hvl, List.length_take]; omega
      have HO := hide (show wr.ownsRow 0 22 1 (.slice ao i ac) i vs by rw [hvi] at hO; exact hO)
      have HYC := hide (show ∀ W, Fr (fun _ => False) wr W → W.cell? ⟨sb, so + i, none⟩ = some (.slice xo xl xc) from fun W f => (f.cell (a := ⟨sb, so + i, none⟩) hsb id).trans y1)
      have HSX := hide (show ∀ W, Fr (fun _ => False) wr W → Sr W 1 (.slice xo xl xc) xl (bvs li) from fun W f => by
        have := Rd.sr (Rd.kept (unhide HR) f (fun _ _ h => h))
        rwa [← unhide HXL] at this)
      have HRO := hide hrows
      have HVI := hide hvi
      have HVL := hide hvl
      clear hO hrows hvi hvl
      go_wp2_with fail
      go_region_held3 (fun W => W.cell? ⟨sb, so + i, none⟩ = some (.slice xo xl xc)) (go_keep) ((first
        | (refine step_app rfl (.tmp 12) (.tmp 16) 22 rfl 5 inf5 _ 1 1 Try.underlying22 hi5 hy0 hy1 hy2 rfl (by decide) (.slice (some ⟨wr.heap.size, 0, none⟩) 0 0) 0 [] (by rfl) (.slice xo xl xc) (by rfl) xl (bvs li) (by exact owns_new (by first | exact e_a wr _ _ _ _ rfl | exact e_b wr _ _)) (by exact unhide HSX _ (by first | exact (Fr.refl _ _).alloc _ | exact ((Fr.refl _ _).alloc _).alloc _ | exact ((Fr.refl _ _).alloc _).drew | exact (Fr.refl _ _).drew.alloc _ | exact (((Fr.refl _ _).alloc _).alloc _).drew | exact (((Fr.refl _ _).alloc _).drew).alloc _ | exact ((Fr.refl _ _).drew.alloc _).alloc _)) (bvs_one _) (by omega) (by simp only [maxLen]; omega) ?_; intro ao1 ac1 w1 o1 g1 p1; simp only [Nat.zero_add, List.nil_append] at o1 p1 ⊢; have f1 := grown_fr (wr := wr) (by first | exact (Fr.refl _ _).alloc _ | exact ((Fr.refl _ _).alloc _).alloc _ | exact ((Fr.refl _ _).alloc _).drew | exact (Fr.refl _ _).drew.alloc _ | exact (((Fr.refl _ _).alloc _).alloc _).drew | exact (((Fr.refl _ _).alloc _).drew).alloc _ | exact ((Fr.refl _ _).drew.alloc _).alloc _) g1 (fun k hk => by simp [Value.ownBlock] at hk; omega); have n1 : ∀ k, (Value.slice ao1 xl ac1).ownBlock = some k → wr.heap.size ≤ k := (by intro k hk; rcases p1 with e | ⟨k', e, hk'⟩; (· rw [e] at hk; simp [Value.ownBlock] at hk; omega); (· rw [e] at hk; simp at hk hk'; omega)); have yy1 := unhide HYC w1 f1; have s1 := f1.size; have hsb1 : sb < w1.heap.size := (by omega))
        | (refine step_app rfl (.tmp 12) (.tmp 16) 22 rfl 5 inf5 _ 1 1 Try.underlying22 hi5 hy0 hy1 hy2 rfl (by decide) (.slice (some ⟨wr.heap.size + 1, 0, none⟩) 0 0) 0 [] (by rfl) (.slice xo xl xc) (by rfl) xl (bvs li) (by exact owns_new (by exact e_c wr _ _)) (by exact unhide HSX _ (by first | exact (Fr.refl _ _).alloc _ | exact ((Fr.refl _ _).alloc _).alloc _ | exact ((Fr.refl _ _).alloc _).drew | exact (Fr.refl _ _).drew.alloc _ | exact (((Fr.refl _ _).alloc _).alloc _).drew | exact (((Fr.refl _ _).alloc _).drew).alloc _ | exact ((Fr.refl _ _).drew.alloc _).alloc _)) (bvs_one _) (by omega) (by simp only [maxLen]; omega) ?_; intro ao1 ac1 w1 o1 g1 p1; simp only [Nat.zero_add, List.nil_append] at o1 p1 ⊢; have f1 := grown_fr (wr := wr) (by first | exact (Fr.refl _ _).alloc _ | exact ((Fr.refl _ _).alloc _).alloc _ | exact ((Fr.refl _ _).alloc _).drew | exact (Fr.refl _ _).drew.alloc _ | exact (((Fr.refl _ _).alloc _).alloc _).drew | exact (((Fr.refl _ _).alloc _).drew).alloc _ | exact ((Fr.refl _ _).drew.alloc _).alloc _) g1 (fun k hk => by simp [Value.ownBlock] at hk; omega); have n1 : ∀ k, (Value.slice ao1 xl ac1).ownBlock = some k → wr.heap.size ≤ k := (by intro k hk; rcases p1 with e | ⟨k', e, hk'⟩; (· rw [e] at hk; simp [Value.ownBlock] at hk; omega); (· rw [e] at hk; simp at hk hk'; omega)); have yy1 := unhide HYC w1 f1; have s1 := f1.size; have hsb1 : sb < w1.heap.size := (by omega))
        | (refine step_app rfl (.tmp 17) (.tmp 18) 22 rfl 5 inf5 _ 1 1 Try.underlying22 hi5 hy0 hy1 hy2 rfl (by decide) (.slice ao1 xl ac1) xl (bvs li) (by rfl) (.slice (some ⟨w1.heap.size, 0, none⟩) 2 2) (by rfl) 2 (bvs [9, 9]) (by first | exact o1.alloc _ | exact o1) (by exact nine_sr (heap_alloc_new w1 _)) (bvs_one _) (by omega) (by simp only [maxLen]; omega) ?_; intro ao2 ac2 w2 o2 g2 p2; have f2 := grown_fr (wr := wr) (by first | exact f1.alloc _ | exact f1 | exact (f1.alloc _).drew | exact f1.drew | exact f1.drew.alloc _) g2 n1; have n2 : ∀ k, (Value.slice ao2 (xl + 2) ac2).ownBlock = some k → wr.heap.size ≤ k := (by intro k hk; rcases p2 with e | ⟨k', e, hk'⟩; (· rw [e] at hk; exact n1 k hk); (· rw [e] at hk; simp at hk hk'; omega)); have yy2 := unhide HYC w2 f2; have s2 := f2.size; have hsb2 : sb < w2.heap.size := (by omega); have hc2 := owns_cap o2; have hc3 : xl ≤ ac2 := (by omega))
        | (refine step_app rfl (.tmp 17) (.tmp 18) 22 rfl 5 inf5 _ 1 1 Try.underlying22 hi5 hy0 hy1 hy2 rfl (by decide) (.slice ao1 xl ac1) xl (bvs li) (by rfl) (.slice (some ⟨wr.heap.size, 0, none⟩) 2 2) (by rfl) 2 (bvs [9, 9]) (by first | exact o1.alloc _ | exact o1) (by exact nine_sr ((g1.block _ (by simp <;> omega) (by simp [Value.ownBlock])).trans (e_b wr _ _))) (bvs_one _) (by omega) (by simp only [maxLen]; omega) ?_; intro ao2 ac2 w2 o2 g2 p2; have f2 := grown_fr (wr := wr) (by first | exact f1.alloc _ | exact f1 | exact (f1.alloc _).drew | exact f1.drew | exact f1.drew.alloc _) g2 n1; have n2 : ∀ k, (Value.slice ao2 (xl + 2) ac2).ownBlock = some k → wr.heap.size ≤ k := (by intro k hk; rcases p2 with e | ⟨k', e, hk'⟩; (· rw [e] at hk; exact n1 k hk); (· rw [e] at hk; simp at hk hk'; omega)); have yy2 := unhide HYC w2 f2; have s2 := f2.size; have hsb2 : sb < w2.heap.size := (by omega); have hc2 := owns_cap o2; have hc3 : xl ≤ ac2 := (by omega))
        | (refine step_app rfl (.tmp 17) (.tmp 18) 22 rfl 5 inf5 _ 1 1 Try.underlying22 hi5 hy0 hy1 hy2 rfl (by decide) (.slice ao1 xl ac1) xl (bvs li) (by rfl) (.slice (some ⟨wr.heap.size + 1, 0, none⟩) 2 2) (by rfl) 2 (bvs [9, 9]) (by first | exact o1.alloc _ | exact o1) (by exact nine_sr ((g1.block _ (by simp <;> omega) (by simp [Value.ownBlock])).trans (e_c wr _ _))) (bvs_one _) (by omega) (by simp only [maxLen]; omega) ?_; intro ao2 ac2 w2 o2 g2 p2; have f2 := grown_fr (wr := wr) (by first | exact f1.alloc _ | exact f1 | exact (f1.alloc _).drew | exact f1.drew | exact f1.drew.alloc _) g2 n1; have n2 : ∀ k, (Value.slice ao2 (xl + 2) ac2).ownBlock = some k → wr.heap.size ≤ k := (by intro k hk; rcases p2 with e | ⟨k', e, hk'⟩; (· rw [e] at hk; exact n1 k hk); (· rw [e] at hk; simp at hk hk'; omega)); have yy2 := unhide HYC w2 f2; have s2 := f2.size; have hsb2 : sb < w2.heap.size := (by omega); have hc2 := owns_cap o2; have hc3 : xl ≤ ac2 := (by omega))
        | (refine step_app rfl (.tmp 11) (.tmp 26) 65 rfl 22 inf _ 1 24 Try.underlying65 hi0 hz0 hz1 hz2 rfl (by decide) (.slice ao i ac) i vs (by rfl) (.slice (some ⟨w2.heap.size, 0, none⟩) 1 1) (by rfl) 1 [.slice ao2 xl ac2] (by exact (owns_kept (unhide HO) f2 (fun _ _ h => h)).alloc _) (by exact one_cellV w2 _ 22) (fun u hu => by simp at hu; subst hu; rfl) (by omega) (by simp only [maxLen]; omega) ?_; intro ao3 ac3 w3 o3 g3 p3; have f3 : Fr (fun k => (Value.slice ao i ac).ownBlock = some k) w2 w3 := Fr.grown (S := fun k => (Value.slice ao i ac).ownBlock = some k) (w := w2.alloc (Obj.cells #[.slice ao2 xl ac2] 22)) ((Fr.refl _ _).alloc _) g3 (fun k hk e => e); have yy3 := (f3.cell (a := ⟨sb, so + i, none⟩) hsb2 (fun e => by have := (unhide HA).new sb e; omega)).trans yy2)))
      all_goals
        have hnR : Rd w2 (.slice ao2 xl ac2) li := by
          have h1 := Rd.of_owns (w := w2) (base := 0) (l := li ++ [9, 9]) (v := .slice ao2 (xl + 2) ac2) (by rw [bvs_append, List.length_append, ← unhide HXL]; exact o2)
          have h2 := h1.takeN xl (by rw [List.length_append, ← unhide HXL]; omega)
          rwa [List.take_append_of_le_length (by rw [← unhide HXL]; omega), List.take_of_length_le (by rw [← unhide HXL]; omega)] at h2
        have hwb : Wb w.heap.size w2 (.slice ao2 xl ac2) := fun b hb => ⟨by have := n2 b ((own_len ao2 _ _ _ _).trans hb); have := (unhide Hf).size; omega, owns_ty o2 ((own_len ao2 _ _ _ _).trans hb)⟩
        have hAL := AD.app (N := w.heap.size) (w := w2) (w' := w3) (ao := ao) (n := i) (ac := ac) (ls := ls.take i) vs (by rw [unhide HVI]; exact owns_kept (unhide HO) f2 (fun _ _ h => h)) (unhide HVL) (fun j x l hx hl => ⟨(unhide HRO j x l hx hl).1.kept f2 (fun _ _ h => h), (unhide HRO j x l hx hl).2.kept f2⟩) (unhide HA).new (.slice ao2 xl ac2) li hnR hwb (by have := (unhide Hf).size; omega) o3 g3 p3 (unhide HDS) (fun jj y bb hy hbb e9 => by have hll : jj < vs.length := (List.getElem?_eq_some_iff.1 hy).1; obtain ⟨l9, hl9⟩ : ∃ l9, (ls.take i)[jj]? = some l9 := ⟨_, List.getElem?_eq_getElem (by have := unhide HVL; omega)⟩; have h9 := ((unhide HRO jj y l9 hy hl9).2 bb hbb).2; obtain ⟨cs9, hcs9⟩ := h9; have := lt_of_heap hcs9; have := n2 bb ((own_len ao2 _ _ _ _).trans e9); omega)
        have HAL := hide hAL.1
        have HF3 := hide ((unhide Hf).trans (f2.trans (T := fun _ => False) (Fr.refl _ _) (fun _ _ h => h)) (fun _ _ h => h))
        have HF4 := hide ((unhide HF3).trans hAL.2 (fun k hk e => by have := (unhide HA).new k e; omega))
        clear hnR hwb hAL o1 g1 p1 o2 g2 p2 o3 g3 p3 f1 f2 f3 n1 n2 yy1 yy2 yy3 HF3
        go_wp2_with fail
        go_roundw
        case rel => exact ⟨i + 1, by omega, by go_num, ⟨ao3, ac3, rfl, by rw [unhide HT]; exact unhide HAL⟩, by first | exact unhide HF4 | exact (unhide HF4).drew⟩
        case measure => simp [intOf]; omega
    · have hie : i = ls.length := by omega
      subst hie
      have HA := hide hA
      have Hf := hide hf
      clear hA hf
      go_wp2_with fail
      go_ret
      have := unhide HA
      rw [List.take_length] at this
      exact ⟨⟨_, _, rfl, this⟩, unhide Hf⟩

end Go.Proofs.Ytckmddkhkdcmmaa
