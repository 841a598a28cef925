/-
  The home is made.
-/
import Derived.Test.YtdgmlopaeonacaaB7
namespace Go.Proofs.Ytdgmlopaeonacaa
open Go.RowKit
set_option linter.unusedVariables false

attribute [local go_sem ↓] Go.wp_at_zero Go.wp_at_succ

def z384 : List UInt8 := List.replicate 384 0
/-- A list of blocks that has one block more. -/
def AP (wr : World) (dv : Value) (vs : List Value) (j : Nat) (v : Value) (W : World) : Prop := ∃ b, W.ownsRow 0 37 1 v (j + 1) (vs ++ [.slice (some ⟨b, 0, none⟩) 384 384]) ∧ BAt W b (List.replicate 384 0) ∧ wr.heap.size ≤ b ∧ (∀ k, v.ownBlock = some k → dv.ownBlock = some k ∨ wr.heap.size ≤ k) ∧ Fr (fun k => dv.ownBlock = some k) wr W
theorem AP.kept {wr w1 w2 : World} {dv v : Value} {vs : List Value} {j : Nat} (h : AP wr dv vs j v w1) (f : Fr (fun _ => False) w1 w2) : AP wr dv vs j v w2 := by
  obtain ⟨b, h1, h2, h3, h4, h5⟩ := h
  exact ⟨b, owns_kept h1 f (fun _ _ h => h), h2.kept f id, h3, h4, h5.trans f (fun _ _ e => e.elim)⟩
theorem sr_kept {w1 w2 : World} {v : Value} {n : Nat} {news : List Value} (h : Sr w1 1 v n news) (f : Fr (fun _ => False) w1 w2) : Sr w2 1 v n news := by
  rcases h with h | ⟨ad, c, rfl, h1, h2⟩
  · exact .inl h
  · exact .inr ⟨ad, c, rfl, h1, fun j u hu => by
      have := h2 j u hu
      rw [f.cell (World.block_lt_of_cell? w1 _ this) id]; exact this⟩
theorem ap_mk {wr w' w9 : World} {dv v9 : Value} {vs : List Value} {j b : Nat} (hs : Fr (fun _ => False) wr w') (ho : w9.ownsRow 0 37 1 v9 (j + 1) (vs ++ [.slice (some ⟨b, 0, none⟩) 384 384])) (hg : w'.grownBy w9 dv.ownBlock) (hn : v9.ownBlock = dv.ownBlock ∨ v9.ownBlock = some w'.heap.size) (hB : BAt w' b (List.replicate 384 0)) (hb : wr.heap.size ≤ b) (hl : ∀ k, dv.ownBlock = some k → k < wr.heap.size) : AP wr dv vs j v9 w9 := by
  have f9 : Fr (fun k => dv.ownBlock = some k) w' w9 := (Fr.refl _ _).grown hg (fun k _ e => e)
  refine ⟨b, ho, hB.kept f9 (fun e => by have := hl b e; omega), hb, fun k hk => ?_, (hs.mono (fun _ _ e => e.elim)).trans f9 (fun _ _ e => e)⟩
  rcases hn with e | e
  · rw [e] at hk; exact .inl hk
  · rw [e] at hk; simp at hk; have := hs.size; right; omega
/-- The home, with one block more. -/
def NH (wr : World) (h : Nat) (dv : Value) (m : Hm) (W : World) : Prop := ∃ dv' vs', HAt W h dv' (.slice none 0 0) vs' { m with D := m.D ++ [z384] } ∧ (∀ k, dv'.ownBlock = some k → dv.ownBlock = some k ∨ wr.heap.size ≤ k) ∧ Fr (fun k => k = h ∨ dv.ownBlock = some k) wr W
theorem ap_one {wr W : World} {dv v : Value} {vs : List Value} {jj : Nat} (h : AP wr dv vs jj v W) : ∃ ao n c, v = .slice ao n c := by
  obtain ⟨b, h1, -⟩ := h
  obtain ⟨ao, c, e⟩ := owns_shape h1
  exact ⟨ao, _, c, e⟩
theorem ap_store {wr W : World} {h : Nat} {dv v : Value} {vs : List Value} {m : Hm} (H : HAt wr h dv (.slice none 0 0) vs m) (hl : (∀ k, dv.ownBlock = some k → k < wr.heap.size) ∧ m.log = [] ∧ m.D.length < 1000 ∧ vs.length = m.D.length) (hA : AP wr dv vs m.D.length v W) : NH wr h dv m (W.setCell ⟨h, 0, none⟩ v) ∧ W.cell? ⟨h, 0, none⟩ = some dv ∧ W.frozen? ⟨h, 0, none⟩ = false := by
  obtain ⟨b, h1, h2, h3, h4, h5⟩ := hA
  obtain ⟨hl1, hl2, hl3, hl4⟩ := hl
  have hh : ¬ dv.ownBlock = some h := fun e => by have := knd_owns H.data e; rw [knd_cells H.heap] at this; exact absurd this (by decide)
  have hW := (h5.block h (lt_of_heap H.heap) hh).trans H.heap
  have f2 : Fr (fun k => k = h) W (W.setCell ⟨h, 0, none⟩ v) := (Fr.refl (fun k => k = h) W).setCell (p := ⟨h, 0, none⟩) (fun _ => rfl) _
  have hvh : v.ownBlock ≠ some h := fun e => by
    have := knd_owns h1 e
    rw [knd_cells hW] at this
    exact absurd this (by decide)
  have hBk : ∀ x d, BAt W x d → BAt (W.setCell ⟨h, 0, none⟩ v) x d := fun x d hb => hb.kept f2 (fun e => by
    have e' : x = h := e
    have := knd_cells hb
    rw [e', knd_cells hW] at this
    exact absurd this (by decide))
  refine ⟨⟨v, vs ++ [.slice (some ⟨b, 0, none⟩) 384 384], ⟨?_, ?_, fun i hi => ?_, ?_, ?_⟩, h4, (h5.mono (fun _ _ e => .inr e)).trans f2 (fun _ _ e => .inl e)⟩, ?_, frozen_of_heap hW 0⟩
  · rw [heap_setCell_same W h 0 _ 51 v hW]
    rfl
  · have := owns_kept h1 f2 (fun k hk e => hvh (by rw [← show k = h from e]; exact hk))
    simpa using this
  · by_cases hi2 : i < m.D.length
    · obtain ⟨x, hx, hB⟩ := H.rd i hi2
      refine ⟨x, by rw [List.getElem?_append_left (by omega)]; exact hx, ?_⟩
      have : ({ m with D := m.D ++ [z384] } : Hm).D[i] = m.D[i] := by simp [hi2]
      rw [this]
      exact hBk _ _ (hB.kept h5 (fun e => by have := knd_owns H.data e; rw [knd_cells hB] at this; exact absurd this (by decide)))
    · have hi3 : i = m.D.length := by simp at hi; omega
      subst hi3
      refine ⟨b, by rw [List.getElem?_append_right (by omega), hl4]; simp, ?_⟩
      have : ({ m with D := m.D ++ [z384] } : Hm).D[m.D.length] = z384 := by simp
      rw [this]
      exact hBk _ _ h2
  · have : ({ m with D := m.D ++ [z384] } : Hm).log = [] := hl2
    rw [this]
    exact owns_nilE _ 3
  · refine ⟨by simp; omega, fun d hd => ?_, H.ok.log, H.ok.bad, H.ok.long, H.ok.few⟩
    rcases List.mem_append.1 hd with h | h
    · exact H.ok.all d h
    · simp at h; rw [h]; exact List.length_replicate
  · rw [cell_of_heap hW]; rfl
theorem ap_fr {wr w' w9 : World} {dv : Value} (hs : Fr (fun _ => False) wr w') (hg : w'.grownBy w9 dv.ownBlock) : Fr (fun k => dv.ownBlock = some k) wr w9 :=
  (hs.mono (fun _ _ e => e.elim)).trans ((Fr.refl (fun k => dv.ownBlock = some k) w').grown hg (fun k _ e => e)) (fun _ _ e => e)
theorem ap_fr1 {w' w9 : World} {dv : Value} {h : Nat} (hg : w'.grownBy w9 dv.ownBlock) : Fr (fun k => k = h ∨ dv.ownBlock = some k) w' w9 := ((Fr.refl (fun k => dv.ownBlock = some k) w').grown hg (fun k _ e => e)).mono (fun _ _ e => .inr e)
theorem twopath {l : List Oper} {a b : Nat} (h : Path l b a) : ∀ k i j, ([a, b] : List Nat)[k]? = some i → ([a, b] : List Nat)[k + 1]? = some j → Path l j i := by
  intro k i j hi hj
  cases k with
  | zero => simp at hi hj; subst hi hj; exact h
  | succ k => simp at hj
theorem fa51_0 (b o : Nat) (W : World) : (Instr.fieldAt 51 (.pointer (some ⟨b, o, none⟩)) 0).run Try.prog W = .ok (.pointer (some ⟨b, o + 0, none⟩)) W := by simp [go_sem]
theorem ld48 (W : World) (a : Addr) (u : Value) (h : W.cell? a = some u) : (Instr.loadAt 48 (.pointer (some a))).run Try.prog W = .ok u W := by simp [go_sem, h]
section
variable {ρ : Operand → Value} {o : Oper} {w w2 : World}
theorem x_make {x y : Operand} {v : Value} (ho : o.op = .makeSlice 37 x y) (hx : ρ x = .int .i64 384) (hy : ρ y = .int .i64 384) (hr : (Instr.makeSlice 37 (.int .i64 ((384 : Nat) : Int)) (.int .i64 ((384 : Nat) : Int))).run Try.prog w = .ok v w2) : (execOp ρ o).run Try.prog w = .ok (.value v) w2 := by
  have hr' : (Instr.makeSlice 37 (.int .i64 384) (.int .i64 384)).run Try.prog w = .ok v w2 := hr
  simp [execOp, ho, hx, hy, hr']
theorem x_bs {x : Operand} {v : Value} (ho : o.op = .buildSlice 48 1 #[(0, x)]) (hx : ρ x = v) (hv : ∃ ao n c, v = .slice ao n c) : (execOp ρ o).run Try.prog w = .ok (.value (.slice (some ⟨w.heap.size, 0, none⟩) 1 1)) (w.alloc (.cells #[v] 37)) := by
  obtain ⟨ao, n, c, rfl⟩ := hv
  simp [execOp, ho, hx, go_sem]
theorem x_app {x y : Operand} {a b v : Value} (ho : o.op = .call { callee := .builtin .append, args := #[x, y], argTypes := #[48, 48] }) (hty : o.type = 48) (hx : ρ x = a) (hy : ρ y = b) (hr : (Builtin.append_ #[48, 48] 48 #[a, b]).run Try.prog w = .ok v w2) : (execOp ρ o).run Try.prog w = .ok (.value v) w2 := by
  simp only [execOp, ho, hty, resolve, invoke, builtin, Sem.run_bind, Sem.run_pure, Result.andThen_ok, List.map_toArray, List.map_cons, List.map_nil, hx, hy, hr]
theorem x_store48 {x y : Operand} {b : Nat} {v d : Value} (ho : o.op = .store 48 x y) (hx : ρ x = .pointer (some ⟨b, 0, none⟩)) (hy : ρ y = v) (hc : w.cell? ⟨b, 0, none⟩ = some d) (hz : w.frozen? ⟨b, 0, none⟩ = false) (hv : ∃ ao n c, v = .slice ao n c) : (execOp ρ o).run Try.prog w = .ok .skip (w.setCell ⟨b, 0, none⟩ v) := by
  obtain ⟨ao, n, c, rfl⟩ := hv
  simp [execOp, ho, hx, hy, go_sem, hc, hz]
end
def hmN (j bad long : Nat) : Hm := ⟨List.replicate j z384, [], 0, bad, long⟩
theorem hmN_succ (j bad long : Nat) : ({ hmN j bad long with D := (hmN j bad long).D ++ [z384] } : Hm) = hmN (j + 1) bad long := by
  unfold hmN; simp [List.replicate_succ']

set_option maxRecDepth 100000 in
set_option maxHeartbeats 2000000 in
theorem newHome_any (w : World) (n bad long : Nat) (hn : n ≤ 1000) (hb : bad ≤ 1000000) (hl : long ≤ 1000000) : Calls Try.prog 8 #[.int .i64 (n : Int), .int .i64 (bad : Int), .int .i64 (long : Int)] w fun e w' => (∃ h dv vs, e = .returned (ptr h) ∧ HAt w' h dv (.slice none 0 0) vs (hmN n bad long) ∧ w.heap.size ≤ h ∧ (∀ k, dv.ownBlock = some k → w.heap.size ≤ k)) ∧ Fr (fun _ => False) w w' := by
  obtain ⟨inf, hi0, hz0, hz1, hz2⟩ := info_parts Try.info37
  go_enter Try.func8, Try.ntmps8
  go_wp2_with fail
  refine wp_world ?_
  intro w1 hw1
  obtain ⟨h, hh⟩ : ∃ h, h = w.heap.size := ⟨_, rfl⟩
  have hH1 : HAt w1 h (.slice none 0 0) (.slice none 0 0) [] (hmN 0 bad long) := ⟨by rw [hw1, hh]; exact heap_alloc_new w _, owns_nilE _ 37, fun i hi => by simp [hmN] at hi, owns_nilE _ 3, ⟨by simp [hmN], fun d hd => by simp [hmN] at hd, by simp [hmN], hb, hl, by simp [hmN]⟩⟩
  have f1 : Fr (fun _ => False) w w1 := by rw [hw1]; exact (Fr.refl _ _).alloc _
  have HH1 := hide hH1
  have F1 := hide f1
  have HHH := hide hh
  rw [← hh]
  clear hw1 hH1 f1 hh
  go_loopw [8] (fun y W => ∃ j dv vs, j ≤ n ∧ y = .int .i64 (j : Int) ∧ HAt W h dv (.slice none 0 0) vs (hmN j bad long) ∧ (∀ k, dv.ownBlock = some k → w.heap.size ≤ k) ∧ Fr (fun _ => False) w W) (fun y _ => n - (intOf y).toNat)
  case atStart => exact ⟨0, .slice none 0 0, [], by omega, rfl, unhide HH1, fun k hk => by simp [Value.ownBlock] at hk, unhide F1⟩
  case round =>
    clear HH1 F1
    obtain ⟨j, dv, vs, hj, rfl, hH, hnew, hf⟩ := hrel
    by_cases hlt : j < n
    · have bl : decide (j < n) = true := by simpa using hlt
      have hjl : (hmN j bad long).D.length = j := by simp [hmN]
      have hvl : vs.length = j := by
        have h1 := hH.data.1
        rw [hjl] at h1
        simpa using h1
      have HBL0 : Hid (∀ k, dv.ownBlock = some k → k < wr.heap.size) := hide (fun k hk => knd_lt (by rw [knd_owns hH.data hk]; decide))
      have HBL : Hid ((∀ k, dv.ownBlock = some k → k < wr.heap.size) ∧ (hmN j bad long).log = [] ∧ (hmN j bad long).D.length < 1000 ∧ vs.length = (hmN j bad long).D.length) := hide ⟨unhide HBL0, rfl, by rw [hjl]; omega, by rw [hjl]; exact hvl⟩
      have HH := hide hH
      have HNW := hide hnew
      have HF := hide hf
      have HSU := hide (hmN_succ j bad long)
      have HJL := hide hjl
      generalize hmN j bad long = m at *
      clear hH hnew hf hjl hvl
      go_wp2_with fail
      refine wp_nameK ?_
      intro a0 hA
      have h7 : a0.tmps.getD 7 undef = ptr h := by rw [hA]; rfl
      have hsz : a0.tmps.size = 29 := by rw [hA]; rfl
      have hdf : a0.defers = [] := by rw [hA]
      have HA0 := hide hA
      clear hA
      refine wp_region_kinds (fun k => k = h ∨ dv.ownBlock = some k) (by kernel_rfl) (by kernel_rfl) (by decide +kernel) (by rw [hsz]; decide +kernel) [.eq (ptr h), .eq (ptr h), .eq (ptr h), .eq (.pointer (some ⟨h, 0, none⟩)), .eq (dv), (.st 0 (fun v W => ∃ b, v = .slice (some ⟨b, 0, none⟩) 384 384 ∧ BAt W b (List.replicate 384 0) ∧ wr.heap.size ≤ b) (fun v w1 w2 ⟨b, h1, h2, h3⟩ f => ⟨b, h1, h2.kept f id, h3⟩)), (.st 0 (fun v W => ∃ b, Sr W 1 v 1 [.slice (some ⟨b, 0, none⟩) 384 384] ∧ BAt W b (List.replicate 384 0) ∧ wr.heap.size ≤ b) (fun v w1 w2 ⟨b, h1, h2, h3⟩ f => ⟨b, sr_kept h1 f, h2.kept f id, h3⟩)), (.st 1 (fun v W => AP wr dv vs m.D.length v W) (fun v w1 w2 hv f => hv.kept f)), .eq (ptr h), .eq (.pointer (some ⟨h, 0, none⟩)), .any] [7, 10] (by decide) (by decide) (twopath (waits (by kernel_rfl))) (fun k W => match k with | 0 => Fr (fun _ => False) wr W | 1 => Fr (fun k => dv.ownBlock = some k) wr W | _ => NH wr h dv m W) (Fr.refl _ _).drew ?steps ?done
      case steps =>
        refine ⟨?_, ?_⟩
        · intro a' w' k' hb hf hs hc hq hg hd
          exact ⟨wantedN rfl, k_val (ptr h) (by decide) hs (x_move rfl ((hb.old 7 (by decide +kernel)).trans h7)) rfl⟩
        refine ⟨?_, ?_⟩
        · intro a' w' k' hb hf hs hc hq hg hd
          obtain rfl : k' = 0 := Nat.le_zero.1 (hq 0 7 rfl (waits (by kernel_rfl))); exact ⟨wantedN rfl, k_val (ptr h) (by decide) hs (x_move rfl ((hb.old 7 (by decide +kernel)).trans h7)) rfl⟩
        refine ⟨?_, ?_⟩
        · intro a' w' k' hb hf hs hc hq hg hd
          obtain rfl : k' = 0 := Nat.le_zero.1 (hq 0 7 rfl (waits (by kernel_rfl))); exact ⟨wantedN rfl, k_val (ptr h) (by decide) hs (x_nilCheck rfl (hd 1 (by kernel_rfl) 19 rfl)) rfl⟩
        refine ⟨?_, ?_⟩
        · intro a' w' k' hb hf hs hc hq hg hd
          obtain rfl : k' = 0 := Nat.le_zero.1 (hq 0 7 rfl (waits (by kernel_rfl))); exact ⟨wantedN rfl, k_val (.pointer (some ⟨h, 0, none⟩)) (by decide) hs (x_field (of := 0) (off := 0) (fa51_0 h 0) rfl (hd 2 (by kernel_rfl) 20 rfl)) rfl⟩
        refine ⟨?_, ?_⟩
        · intro a' w' k' hb hf hs hc hq hg hd
          obtain rfl : k' = 0 := Nat.le_zero.1 (hq 0 7 rfl (waits (by kernel_rfl))); exact ⟨wantedN rfl, k_val dv (by decide) hs (x_load1 ld48 rfl (hd 3 (by kernel_rfl) 21 rfl) (by have := cell_of_heap ((unhide HH).kept0 hs).heap 0; simpa using this)) rfl⟩
        refine ⟨?_, ?_⟩
        · intro a' w' k' hb hf hs hc hq hg hd
          obtain rfl : k' = 0 := Nat.le_zero.1 (hq 0 7 rfl (waits (by kernel_rfl))); obtain ⟨w7, hmk, hB7, f7⟩ := mk_any w' 384 (by decide); exact ⟨wantedN rfl, k_new _ w7 (by decide) (Fr.trans hs f7 (fun _ _ h => h)) f7 (x_make rfl rfl rfl hmk) ⟨Nat.zero_le _, fun _ => ⟨_, rfl, hB7, (show Fr (fun _ => False) wr w' from hs).size⟩⟩⟩
        refine ⟨?_, ?_⟩
        · intro a' w' k' hb hf hs hc hq hg hd
          obtain rfl : k' = 0 := Nat.le_zero.1 (hq 0 7 rfl (waits (by kernel_rfl))); have hh := hd 5 (by kernel_rfl) 23 rfl; obtain ⟨b7, e7, hB7, hb7⟩ := hh.2 rfl; exact ⟨wantedN rfl, k_new _ (w'.alloc (.cells #[.slice (some ⟨b7, 0, none⟩) 384 384] 37)) (by decide) (Fr.trans hs ((Fr.refl _ _).alloc _) (fun _ _ h => h)) ((Fr.refl _ _).alloc _) (x_bs rfl e7 ⟨_, _, _, rfl⟩) ⟨Nat.zero_le _, fun _ => ⟨b7, one_cellV _ _ _, hB7.kept ((Fr.refl (fun _ => False) _).alloc _) id, hb7⟩⟩⟩
        refine ⟨?_, ?_⟩
        · intro a' w' k' hb hf hs hc hq hg hd
          obtain rfl := hc 0 rfl; have hh := hd 6 (by kernel_rfl) 24 rfl; obtain ⟨b7, hS7, hB7, hb7⟩ := hh.2 rfl; have hs' : Fr (fun _ => False) wr w' := hs; obtain ⟨v9, w9, hr9, ho9, hg9, hn9⟩ := run_app (P := Try.prog) w' 48 48 37 inf _ 1 24 Try.underlying48 hi0 hz0 hz1 hz2 rfl (by decide) dv m.D.length vs ((owns_kept (unhide HH).data hs' (fun _ _ h => h))) _ 1 _ hS7 (fun u hu => by simp at hu; subst hu; rfl) (by have := (unhide HH).ok.len; omega) (by have := (unhide HH).ok.len; simp only [maxLen]; omega); exact ⟨wantedN rfl, k_chain v9 w9 (by decide) (ap_fr hs' hg9) (ap_fr1 hg9) (x_app rfl rfl (hd 4 (by kernel_rfl) 22 rfl) rfl hr9) ⟨Nat.le_refl _, fun _ => ap_mk hs' ho9 hg9 hn9 hB7 hb7 (unhide HBL0)⟩⟩
        refine ⟨?_, ?_⟩
        · intro a' w' k' hb hf hs hc hq hg hd
          exact ⟨wantedN rfl, k_val (ptr h) (by decide) hs (x_nilCheck rfl (hd 0 (by kernel_rfl) 18 rfl)) rfl⟩
        refine ⟨?_, ?_⟩
        · intro a' w' k' hb hf hs hc hq hg hd
          exact ⟨wantedN rfl, k_val (.pointer (some ⟨h, 0, none⟩)) (by decide) hs (x_field (of := 0) (off := 0) (fa51_0 h 0) rfl (hd 8 (by kernel_rfl) 26 rfl)) rfl⟩
        refine ⟨?_, ?_⟩
        · intro a' w' k' hb hf hs hc hq hg hd
          obtain rfl := hc 1 rfl; have hh := hd 7 (by kernel_rfl) 25 rfl; have hA := hh.2 rfl; obtain ⟨hnh, hcx, hzx⟩ := ap_store (unhide HH) (unhide HBL) hA; exact ⟨wantedN rfl, k_store _ (by decide) hnh (((Fr.refl (fun k => k = h) w').setCell (p := ⟨h, 0, none⟩) (fun _ => rfl) _).mono (fun _ _ e => .inl e)) (x_store48 rfl (hd 9 (by kernel_rfl) 27 rfl) rfl hcx hzx (ap_one hA)) trivial⟩
        exact trivial
      case done =>
        intro a' w' hb hf hs hall
        have hdf' : a'.defers = [] := by rw [hb.defers]; exact hdf
        obtain ⟨v23, hv23⟩ : ∃ v, a'.tmps.getD 23 undef = v := ⟨_, rfl⟩
        obtain ⟨v24, hv24⟩ : ∃ v, a'.tmps.getD 24 undef = v := ⟨_, rfl⟩
        obtain ⟨v25, hv25⟩ : ∃ v, a'.tmps.getD 25 undef = v := ⟨_, rfl⟩
        have hfr := frame_eq (a := a') (vs := [.int .i64 (n : Int), .int .i64 (bad : Int), .int .i64 (long : Int), undef, undef, undef, .pointer none, ptr h, .int .i64 (j : Int), .int .i64 (bad : Int), .int .i64 (long : Int), .agg #[.slice none 0 0, .slice none 0 0, .int .i64 0, .int .i64 (bad : Int), .int .i64 (long : Int)], .pointer (some ⟨h, 0, none⟩), a0.tmps.getD 13 undef, a0.tmps.getD 14 undef, a0.tmps.getD 15 undef, a0.tmps.getD 16 undef, a0.tmps.getD 17 undef, ptr h, ptr h, ptr h, .pointer (some ⟨h, 0, none⟩), dv, v23, v24, v25, ptr h, .pointer (some ⟨h, 0, none⟩), undef]) (by rw [hb.size, hsz]; rfl) hdf' ⟨((hb.old 0 (by decide +kernel)).trans (by rw [unhide HA0]; rfl)), ((hb.old 1 (by decide +kernel)).trans (by rw [unhide HA0]; rfl)), ((hb.old 2 (by decide +kernel)).trans (by rw [unhide HA0]; rfl)), ((hb.old 3 (by decide +kernel)).trans (by rw [unhide HA0]; rfl)), ((hb.old 4 (by decide +kernel)).trans (by rw [unhide HA0]; rfl)), ((hb.old 5 (by decide +kernel)).trans (by rw [unhide HA0]; rfl)), ((hb.old 6 (by decide +kernel)).trans (by rw [unhide HA0]; rfl)), ((hb.old 7 (by decide +kernel)).trans h7), ((hb.old 8 (by decide +kernel)).trans (by rw [unhide HA0]; rfl)), ((hb.old 9 (by decide +kernel)).trans (by rw [unhide HA0]; rfl)), ((hb.old 10 (by decide +kernel)).trans (by rw [unhide HA0]; rfl)), ((hb.old 11 (by decide +kernel)).trans (by rw [unhide HA0]; rfl)), ((hb.old 12 (by decide +kernel)).trans (by rw [unhide HA0]; rfl)), (hb.old 13 (by decide +kernel)), (hb.old 14 (by decide +kernel)), (hb.old 15 (by decide +kernel)), (hb.old 16 (by decide +kernel)), (hb.old 17 (by decide +kernel)), (show a'.tmps.getD 18 undef = ptr h from hall 0 (by decide) 18 rfl), (show a'.tmps.getD 19 undef = ptr h from hall 1 (by decide) 19 rfl), (show a'.tmps.getD 20 undef = ptr h from hall 2 (by decide) 20 rfl), (show a'.tmps.getD 21 undef = .pointer (some ⟨h, 0, none⟩) from hall 3 (by decide) 21 rfl), (show a'.tmps.getD 22 undef = dv from hall 4 (by decide) 22 rfl), hv23, hv24, hv25, (show a'.tmps.getD 26 undef = ptr h from hall 8 (by decide) 26 rfl), (show a'.tmps.getD 27 undef = .pointer (some ⟨h, 0, none⟩) from hall 9 (by decide) 27 rfl), ((hb.old 28 (by decide +kernel)).trans (by rw [unhide HA0]; rfl)), trivial⟩
        have HS : Hid (NH wr h dv m w') := hide hs
        clear hall hb hf hs hv23 hv24 hv25
        subst hfr
        try rw [unhide HA0]
        clear HA0 h7 hsz hdf hdf'
        apply_assumption
        unfold ptr
        go_wp2_with fail
        go_roundw
        case rel =>
          obtain ⟨dv2, vs2, h1, h2, h3⟩ := unhide HS
          rw [unhide HSU] at h1
          refine ⟨j + 1, dv2, vs2, by omega, by go_num, h1, fun k hk => ?_, (unhide HF).trans h3 (fun k hk e => ?_)⟩
          · rcases h2 k hk with e | e
            · exact unhide HNW k e
            · have := (unhide HF).size; omega
          · rcases e with e | e
            · have := unhide HHH; omega
            · have := unhide HNW k e; omega
        case measure => simp [intOf]; omega
    · have bl : decide (j < n) = false := by simpa using hlt
      obtain rfl : j = n := by omega
      have HH := hide hH
      have HNW := hide hnew
      have HF := hide hf
      clear hH hnew hf hlt
      go_wp2_with fail
      go_ret
      exact ⟨⟨h, dv, vs, rfl, unhide HH, by have := unhide HHH; omega, unhide HNW⟩, unhide HF⟩
end Go.Proofs.Ytdgmlopaeonacaa
