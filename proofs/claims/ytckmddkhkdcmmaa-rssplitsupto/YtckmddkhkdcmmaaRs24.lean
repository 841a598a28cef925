/-
  The walk of package rs's Split.
-/
import Derived.Test.YtckmddkhkdcmmaaRs21
namespace Go.Proofs.Ytckmddkhkdcmmaa
open Go.RowKit
set_option linter.unusedVariables false

attribute [local go_sem ↓] Go.wp_at_zero Go.wp_at_succ

/-- copy, as far as there is room. -/
theorem copy_min (w : World) (g o dLen dCap : Nat) (dao : Option Addr) (A : List UInt8) (x : Value) (cs : List UInt8) (hd : 0 < dLen → dao = some ⟨g, o, none⟩) (hA : BAt w g A) (hx : Rd w x cs) (hfit : o + dLen ≤ A.length) :
    ∃ w', (Builtin.copy_ #[22, 22] 3 #[.slice dao dLen dCap, x]).run Try.prog w = .ok (.int .i64 ((min cs.length dLen : Nat) : Int)) w' ∧ BAt w' g (A.take o ++ cs.take dLen ++ A.drop (o + min cs.length dLen)) ∧ Fr (fun b => b = g) w w' := by
  obtain ⟨ao, cap, rfl⟩ := hx.shape
  by_cases h0 : 0 < min cs.length dLen
  · obtain ⟨b, so, rfl, -, h1, h2, h3⟩ := hx.lits (by omega)
    have hdl : 0 < dLen := by omega
    rw [hd hdl]
    have hlt : (cs.take dLen).length = min cs.length dLen := by rw [List.length_take]; omega
    have := run_copy_row (P := Try.prog) w 22 22 3 5 g o dLen dCap ⟨b, so, none⟩ cs.length cap (bvs A).toArray 5 (bvs (cs.take dLen)) Try.underlying22 (by kernel_rfl) hA (by rw [bvs_length, hlt])
      (fun j v hv => by
        have hj : j < (cs.take dLen).length := by
          have := (List.getElem?_eq_some_iff.1 hv).1
          rwa [bvs_length] at this
        rw [Addr.add_lit, h3 j (by omega)]
        rw [bvs_get _ j hj] at hv
        rw [← hv, List.getElem_take]) (by rw [bvs_length, List.size_toArray, bvs_length]; omega) (bvs_one _)
    refine ⟨_, by rw [this, bvs_length, hlt]; rfl, ?_, ?_⟩
    · unfold BAt
      rw [setRow_heap w g _ _ _ _ hA]
      rw [← hlt]
      unfold bvs
      simp [List.map_take, List.map_drop]
    · exact ⟨rfl, rfl, rfl, by simp, fun k hk hs => setRow_other w g k _ hs⟩
  · have he : min cs.length dLen = 0 := by omega
    refine ⟨w, ?_, ?_, Fr.refl _ _⟩
    · have := run_copy_none (P := Try.prog) w 22 22 3 5 dao ao dLen dCap cs.length cap Try.underlying22 (by kernel_rfl) he
      rw [this, he]
      rfl
    · have e2 : cs.take dLen = [] := List.eq_nil_of_length_eq_zero (by rw [List.length_take]; omega)
      rw [he, e2]
      simpa using hA

theorem wp_copy {w : World} {o : Oper} {a : Act} {K : Act → World → Prop} {Q : Exit → Act → World → Prop} (s x : Operand)
    (ho : o.op = .call { callee := .builtin .copy, args := #[s, x], argTypes := #[22, 22] }) (hty : o.type = 3)
    (g of dLen dCap : Nat) (dao : Option Addr) (A : List UInt8) (xv : Value) (cs : List UInt8) (hs : a.eval s = .slice dao dLen dCap) (hxv : a.eval x = xv) (hd : 0 < dLen → dao = some ⟨g, of, none⟩) (hA : BAt w g A) (hx : Rd w xv cs) (hfit : of + dLen ≤ A.length)
    (h : ∀ w', BAt w' g (A.take of ++ cs.take dLen ++ A.drop (of + min cs.length dLen)) → Fr (fun b => b = g) w w' → K (a.put o.dst (.int .i64 ((min cs.length dLen : Nat) : Int))) w') : o.wp Try.prog a w K Q := by
  obtain ⟨w', hr, h2, h3⟩ := copy_min w g of dLen dCap dao A xv cs hd hA hx hfit
  unfold Oper.wp execOp
  simp only [ho, hty, resolve, invoke, builtin, Sem.run_bind, Sem.run_pure, Result.andThen_ok, List.map_toArray, List.map_cons, List.map_nil, hs, hxv, hr]
  exact h w' h2 h3

theorem step_copy {w : World} {ops : Array Oper} {o : Oper} {a : Act} {K : Act → World → Prop} {Q : Exit → Act → World → Prop} {E : Prop} (hgd : o.guard = none) (s x : Operand)
    (ho : o.op = .call { callee := .builtin .copy, args := #[s, x], argTypes := #[22, 22] }) (hty : o.type = 3)
    (g of dLen dCap : Nat) (dao : Option Addr) (A : List UInt8) (xv : Value) (cs : List UInt8) (hs : a.eval s = .slice dao dLen dCap) (hxv : a.eval x = xv) (hd : 0 < dLen → dao = some ⟨g, of, none⟩) (hA : BAt w g A) (hx : Rd w xv cs) (hfit : of + dLen ≤ A.length)
    (h : ∀ w', BAt w' g (A.take of ++ cs.take dLen ++ A.drop (of + min cs.length dLen)) → Fr (fun b => b = g) w w' → K (a.put o.dst (.int .i64 ((min cs.length dLen : Nat) : Int))) w') :
    if Region.wanted o (yielded ops a.tmps) = true then Oper.wp Try.prog o a w K Q else E := by
  have hw : Region.wanted o (yielded ops a.tmps) = true := by simp [Region.wanted, hgd]
  rw [if_pos hw]
  exact wp_copy s x ho hty g of dLen dCap dao A xv cs hs hxv hd hA hx hfit h

/-- One of the shards that bytes are split into. -/
def spl (n : Nat) (l : List UInt8) (i : Nat) : List UInt8 := (List.range n).map (fun t => gt l (i * n + t))
theorem spl_length (n : Nat) (l : List UInt8) (i : Nat) : (spl n l i).length = n := by simp [spl]
theorem spl_get (n : Nat) (l : List UInt8) (i t : Nat) (h : t < (spl n l i).length) : (spl n l i)[t] = gt l (i * n + t) := by simp [spl]
/-- All of them. -/
def splL (k n : Nat) (l : List UInt8) : List (List UInt8) := (List.range k).map (spl n l)
theorem splL_length (k n : Nat) (l : List UInt8) : (splL k n l).length = k := by simp [splL]
theorem splL_take (k n : Nat) (l : List UInt8) (i : Nat) (hi : i < k) : (splL k n l).take (i + 1) = (splL k n l).take i ++ [spl n l i] := by
  rw [List.take_succ_eq_append_getElem (by rw [splL_length]; exact hi)]
  simp [splL]

theorem gt_none {l : List UInt8} {j : Nat} (h : l.length ≤ j) : gt l j = 0 := by
  unfold gt; rw [List.getElem?_eq_none h]; rfl

theorem spl_copy (n : Nat) (l : List UInt8) (i c : Nat) (hc : c = min (i * n) l.length) : (List.replicate n (0 : UInt8)).take 0 ++ (l.drop c).take n ++ (List.replicate n (0 : UInt8)).drop (0 + min (l.drop c).length n) = spl n l i := by
  apply List.ext_getElem
  · simp [spl_length]; omega
  · intro t h1 h2
    rw [spl_get]
    have ht : t < n := by rwa [spl_length] at h2
    simp only [List.take_zero, List.nil_append, Nat.zero_add]
    by_cases e : t < ((l.drop c).take n).length
    · rw [List.getElem_append_left e, List.getElem_take, List.getElem_drop]
      simp at e
      have : c = i * n := by omega
      rw [gt_of (by omega)]
      simp [this]
    · rw [List.getElem_append_right (by omega), List.getElem_drop, List.getElem_replicate, gt_none]
      simp at e
      omega

/-- How many bytes a shard has. -/
def spN (k : Nat) (l : List UInt8) : Nat := (l.length + k - 1) / k

theorem Rd.dropN {w : World} {b o n c k : Nat} {l : List UInt8} (h : Rd w (.slice (some ⟨b, o, none⟩) n c) l) (hk : k ≤ l.length) : Rd w (.slice (if c = k then some ⟨b, o, none⟩ else some ⟨b, o + k, none⟩) (n - k) (c - k)) (l.drop k) := by
  obtain ⟨ao, cap, e⟩ := h.shape
  simp only [Value.slice.injEq] at e
  obtain ⟨-, rfl, -⟩ := e
  rcases h with ⟨hv, -⟩ | ⟨ad, cap', hv, h1, h2, h3⟩
  · simp at hv
  · simp only [Value.slice.injEq, Option.some.injEq] at hv
    obtain ⟨rfl, -, rfl⟩ := hv
    have hl : (l.drop k).length = l.length - k := by simp
    by_cases e : c = k
    · rw [if_pos e]
      have : l.drop k = [] := List.eq_nil_of_length_eq_zero (by omega)
      rw [this]
      refine .inr ⟨_, _, by rw [show l.length - k = 0 by omega]; rfl, by simp, by omega, fun j hj => by simp at hj⟩
    · rw [if_neg e]
      refine .inr ⟨_, _, by rw [hl], by omega, by omega, fun j hj => ?_⟩
      have := h3 (k + j) (by omega)
      rw [Addr.add_lit] at this ⊢
      rw [← Nat.add_assoc] at this
      rw [this]
      simp

set_option maxHeartbeats 2000000 in
set_option maxRecDepth 100000 in
theorem split_no (w : World) (p k m : Nat) (v : Value) (l : List UInt8) (hC : CAt w p k m) (hl : Rd w v l) (hb : l.length ≤ 1048576) (hn : ¬ spN k l ≤ 4096) :
    Calls Try.prog 56 #[.pointer (some ⟨p, 0, none⟩), v] w fun e w' => e = .returned (.tuple #[.slice none 0 0, .int .i64 1]) ∧ Fr (fun _ => False) w w' := by
  have hk := hC.hk
  obtain ⟨q, h1, h2⟩ := hC.ex
  have c0 := cell_of_heap h1 0
  simp at c0
  obtain ⟨vo, vc, rfl⟩ := hl.shape
  obtain ⟨s1, hs1⟩ : ∃ s1, s1 = l.length + k := ⟨_, rfl⟩
  obtain ⟨s2, hs2⟩ : ∃ s2, s2 = l.length + k - 1 := ⟨_, rfl⟩
  have e1 : (l.length : Int) + (k : Int) = (s1 : Int) := by omega
  have e2 : (s1 : Int) - 1 = (s2 : Int) := by omega
  have hsn : spN k l = s2 / k := by unfold spN; rw [← hs2]
  have e3 : Int.tdiv (s2 : Int) (k : Int) = ((s2 / k : Nat) : Int) := by rfl
  rw [hsn] at hn
  have hdl : s2 / k ≤ s2 := Nat.div_le_self _ _
  generalize s2 / k = n at *
  have w1 : IntKind.i64.wrap (s1 : Int) = (s1 : Int) := by rw [IntKind.wrap_i64]; omega
  have w2 : IntKind.i64.wrap (s2 : Int) = (s2 : Int) := by rw [IntKind.wrap_i64]; omega
  have w3 : IntKind.i64.wrap (n : Int) = (n : Int) := by rw [IntKind.wrap_i64]; omega
  have b1 : decide ((4096 : Int) < (n : Int)) = true := by simp; omega
  have hk0 : k ≠ 0 := by omega
  have hki : ((k : Int) == 0) = false := by simp; omega
  clear hC h1 h2 hl hs1 hs2 hsn
  go_enter Try.func56, Try.ntmps56
  go_wp2_with fail
  go_quiet (fail)
  go_wp2_with fail
  go_ret2
  exact ⟨rfl, Fr.ofDrewN _ _⟩

set_option maxHeartbeats 4000000 in
set_option maxRecDepth 100000 in
theorem split_ok (w : World) (p k m vb vof vc : Nat) (l : List UInt8) (hC : CAt w p k m) (hl : Rd w (.slice (some ⟨vb, vof, none⟩) l.length vc) l) (hb : l.length ≤ 1048576) (hn : spN k l ≤ 4096) :
    Calls Try.prog 56 #[.pointer (some ⟨p, 0, none⟩), .slice (some ⟨vb, vof, none⟩) l.length vc] w fun e w' => (∃ g, e = .returned (.tuple #[.slice (some ⟨g, 0, none⟩) k k, .int .i64 0]) ∧ LN w.heap.size w' (.slice (some ⟨g, 0, none⟩) k k) (splL k (spN k l) l)) ∧ Fr (fun _ => False) w w' := by
  have hk := hC.hk
  obtain ⟨q, h1, h2⟩ := hC.ex
  have c0 := cell_of_heap h1 0
  simp at c0
  have Hl := hide hl
  have hcc : l.length ≤ vc ∧ vc ≤ maxLen := by
    rcases hl with ⟨hv, -⟩ | ⟨ad, cap', hv, h1, h2, h3⟩
    · simp at hv
    · simp only [Value.slice.injEq] at hv
      rw [hv.2.2]
      exact ⟨h1, h2⟩
  have hcap := hcc.1
  have hcm := hcc.2
  clear hcc
  obtain ⟨s1, hs1⟩ : ∃ s1, s1 = l.length + k := ⟨_, rfl⟩
  obtain ⟨s2, hs2⟩ : ∃ s2, s2 = l.length + k - 1 := ⟨_, rfl⟩
  have e1 : (l.length : Int) + (k : Int) = (s1 : Int) := by omega
  have e2 : (s1 : Int) - 1 = (s2 : Int) := by omega
  have hsn : spN k l = s2 / k := by unfold spN; rw [← hs2]
  have e3 : Int.tdiv (s2 : Int) (k : Int) = ((s2 / k : Nat) : Int) := by rfl
  rw [← hsn] at e3
  have hdl : spN k l ≤ s2 := by rw [hsn]; exact Nat.div_le_self _ _
  generalize spN k l = n at *
  have w1 : IntKind.i64.wrap (s1 : Int) = (s1 : Int) := by rw [IntKind.wrap_i64]; omega
  have w2 : IntKind.i64.wrap (s2 : Int) = (s2 : Int) := by rw [IntKind.wrap_i64]; omega
  have w3 : IntKind.i64.wrap (n : Int) = (n : Int) := by rw [IntKind.wrap_i64]; omega
  have b1 : decide ((4096 : Int) < (n : Int)) = false := by simp; omega
  have hk0 : k ≠ 0 := by omega
  have hki : ((k : Int) == 0) = false := by simp; omega
  unfold maxLen at hcm
  clear hC h1 h2 hl hs1 hs2 hsn
  go_enter Try.func56, Try.ntmps56
  go_wp2_with fail
  go_quiet (fail)
  obtain ⟨w4, hmk, hP4, hf4⟩ := mkl_any w.heap.size (w.drewN nq) k (by omega)
  have HP4 := hide hP4
  have HF4 := hide ((Fr.ofDrewN (S := fun _ => False) w nq).trans hf4 (fun _ _ h => h))
  clear hP4 hf4 e1 e2 e3 w1 w2 b1 hki
  go_wp2_with fail
  clear hmk
  go_loopw [33] (fun y w' => ∃ i : Nat, i ≤ k ∧ y = .int .i64 (i : Int) ∧ (∃ us : List Value, us.length = i ∧ PL w.heap.size w' w.heap.size k us ((splL k n l).take i)) ∧ Fr (fun _ => False) w w') (fun y _ => k - (intOf y).toNat)
  case atStart => exact ⟨0, by omega, rfl, ⟨[], rfl, unhide HP4⟩, unhide HF4⟩
  case round =>
    obtain ⟨i, hi, rfl, ⟨us, hus, hP⟩, hf⟩ := hrel
    by_cases hlt : i < k
    · obtain ⟨w5, hmk5, hB5, hf5⟩ := mk_any wr n (by omega)
      have hP5 := hP.kept hf5
      have hc := hP5.cell (by rw [hus]; exact hlt)
      rw [hus] at hc
      have hc1 := hc.1
      have hc2 := hc.2
      have HH5 := hide hP5.heap
      have HB5 := hide hB5
      have HF5 := hide hf5
      have HP := hide hP
      have Hf := hide hf
      have HUS := hide hus
      have HST := hide (splL_take k n l i hlt)
      obtain ⟨x, hx⟩ : ∃ x, x = i * n := ⟨_, rfl⟩
      have ex : (i : Int) * (n : Int) = (x : Int) := by rw [hx]; simp
      have hxb : x ≤ 16 * 4096 := by rw [hx]; exact Nat.mul_le_mul (by omega) hn
      have wx : IntKind.i64.wrap (x : Int) = (x : Int) := by rw [IntKind.wrap_i64]; omega
      obtain ⟨c, hcx⟩ : ∃ c, c = min x l.length := ⟨_, rfl⟩
      have HC := hide hcx
      have HX := hide hx
      have hcl : c ≤ l.length := by omega
      clear hP5 hB5 hf5 hP hf hus hc hx hcx
      go_wp2_with fail
      clear hmk5
      obtain ⟨w6, hw6⟩ : ∃ w6, w6 = w5.setCell ⟨w.heap.size, i, none⟩ (Value.slice (some ⟨wr.heap.size, 0, none⟩) n n) := ⟨_, rfl⟩
      rw [← hw6]
      have hh6 := heap_setCell_same w5 w.heap.size i _ 22 (Value.slice (some ⟨wr.heap.size, 0, none⟩) n n) (unhide HH5)
      rw [← hw6] at hh6
      have f6 : Fr (fun k => k = w.heap.size) w5 w6 := by rw [hw6]; exact (Fr.refl (fun k => k = w.heap.size) w5).setCell (p := ⟨w.heap.size, i, none⟩) (fun _ => rfl) _
      have hgi : w6.cell? ⟨w.heap.size, i, none⟩ = some (.slice (some ⟨wr.heap.size, 0, none⟩) n n) := by
        rw [cell_of_heap hh6, Array.getElem?_setIfInBounds_self_of_lt]
        have := unhide HUS
        have := (unhide HP).le
        simp
        omega
      have hsr := (unhide Hf).size
      have hs5 := (unhide HF5).size
      have hgr : w.heap.size < wr.heap.size := lt_of_heap (unhide HP).heap
      have hB6 := (unhide HB5).kept f6 (show ¬ wr.heap.size = w.heap.size by omega)
      have F36 := ((unhide Hf).trans (unhide HF5) (fun _ _ h => h)).trans f6 (fun b hb h => show False by omega)
      have Fr6 : Fr (fun k => k = w.heap.size) wr w6 := ((unhide HF5).mono (fun _ _ h => h.elim)).trans f6 (fun _ _ h => h)
      have hs6 := f6.size
      have HF6 := hide F36
      have HFr6 := hide Fr6
      have HH6 := hide hh6
      have hb6 : wr.heap.size < w6.heap.size := lt_of_heap hB6
      have HB6 := hide hB6
      clear hw6 f6 hh6 hB6 F36 Fr6 hc1 hc2
      by_cases hxl : l.length < x
      · have hxl1 : (l.length : Int) < (x : Int) := by omega
        have HXR := hide (show ∀ W, Fr (fun _ => False) w6 W → Rd W (.slice (if vc = l.length then some ⟨vb, vof, none⟩ else some ⟨vb, vof + l.length, none⟩) 0 (vc - l.length)) (l.drop l.length) from fun W f => by rw [← Nat.sub_self l.length]; exact ((unhide Hl).kept ((unhide HF6).trans f (fun _ _ h => h)) (fun _ _ h => h)).dropN (by omega))
        have HCP := hide (spl_copy n l i l.length (by have := unhide HX; omega))
        go_region_held3 (fun W => W.cell? ⟨w.heap.size, i, none⟩ = some (.slice (some ⟨wr.heap.size, 0, none⟩) n n)) (go_keep) ((refine step_copy rfl (.tmp 44) (.tmp 52) rfl rfl wr.heap.size 0 n n (some ⟨wr.heap.size, 0, none⟩) (List.replicate n 0) _ (l.drop l.length) (by rfl) (by rfl) (fun _ => rfl) (by first | exact (unhide HB6).kept ((Fr.refl (fun _ => False) w6).drew) id | exact (unhide HB6).kept (Fr.ofDrewN (S := fun _ => False) w6 _) id) (by first | exact unhide HXR _ (Fr.refl _ _).drew | exact unhide HXR _ (Fr.ofDrewN _ _)) (by simp) ?_; intro w8 hB8 f8; have F8 : Fr (fun k => k = wr.heap.size) w6 w8 := (by first | exact ((Fr.refl (fun k => k = wr.heap.size) w6).drew).trans f8 (fun _ _ h => h) | exact (Fr.ofDrewN (S := fun k => k = wr.heap.size) w6 _).trans f8 (fun _ _ h => h)); have u2 := (F8.cell (a := ⟨w.heap.size, i, none⟩) (show w.heap.size < w6.heap.size by omega) (show ¬ w.heap.size = wr.heap.size by omega)).trans hgi))
        all_goals
          rw [unhide HCP] at hB8
          have hh8 := (F8.block w.heap.size (show w.heap.size < w6.heap.size by omega) (show ¬ w.heap.size = wr.heap.size by omega)).trans (unhide HH6)
          have Fr8 : Fr (fun k => k = w.heap.size) wr w8 := (unhide HFr6).trans F8 (fun b hb h => show b = w.heap.size by omega)
          have hR8 := hB8.rd (by rw [spl_length]; simp only [maxLen]; omega)
          rw [spl_length] at hR8
          have hP8 := (unhide HP).step (by rw [unhide HUS]; exact hlt) Fr8 _ (by rw [unhide HUS]; have h5 := hh8; rw [unhide HUS] at h5; exact h5) _ hR8 (Wb.of_bat hB8 (by omega))
          rw [← unhide HST] at hP8
          have HP8 := hide hP8
          have HF8 := hide ((unhide HF6).trans F8 (fun b hb h => show False by omega))
          clear hP8 hR8 Fr8 hh8 u2 F8 f8 hB8
          go_wp2_with fail
          go_roundw
          case rel => exact ⟨i + 1, by omega, by go_num, ⟨_, by simp [unhide HUS], unhide HP8⟩, by first | exact unhide HF8 | exact (unhide HF8).drew⟩
          case measure => simp [intOf]; omega
      · have hxl1 : ¬ (l.length : Int) < (x : Int) := by omega
        have hxl2 : (x : Int) ≤ (l.length : Int) := by omega
        have hxl3 : x ≤ l.length := by omega
        have hxl4 : x ≤ vc := by omega
        have HXR := hide (show ∀ W, Fr (fun _ => False) w6 W → Rd W (.slice (if vc = x then some ⟨vb, vof, none⟩ else some ⟨vb, vof + x, none⟩) (l.length - x) (vc - x)) (l.drop x) from fun W f => ((unhide Hl).kept ((unhide HF6).trans f (fun _ _ h => h)) (fun _ _ h => h)).dropN (by omega))
        have HCP := hide (spl_copy n l i x (by have := unhide HX; omega))
        go_region_held3 (fun W => W.cell? ⟨w.heap.size, i, none⟩ = some (.slice (some ⟨wr.heap.size, 0, none⟩) n n)) (go_keep) ((refine step_copy rfl (.tmp 44) (.tmp 52) rfl rfl wr.heap.size 0 n n (some ⟨wr.heap.size, 0, none⟩) (List.replicate n 0) _ (l.drop x) (by rfl) (by rfl) (fun _ => rfl) (by first | exact (unhide HB6).kept ((Fr.refl (fun _ => False) w6).drew) id | exact (unhide HB6).kept (Fr.ofDrewN (S := fun _ => False) w6 _) id) (by first | exact unhide HXR _ (Fr.refl _ _).drew | exact unhide HXR _ (Fr.ofDrewN _ _)) (by simp) ?_; intro w8 hB8 f8; have F8 : Fr (fun k => k = wr.heap.size) w6 w8 := (by first | exact ((Fr.refl (fun k => k = wr.heap.size) w6).drew).trans f8 (fun _ _ h => h) | exact (Fr.ofDrewN (S := fun k => k = wr.heap.size) w6 _).trans f8 (fun _ _ h => h)); have u2 := (F8.cell (a := ⟨w.heap.size, i, none⟩) (show w.heap.size < w6.heap.size by omega) (show ¬ w.heap.size = wr.heap.size by omega)).trans hgi))
        all_goals
          rw [unhide HCP] at hB8
          have hh8 := (F8.block w.heap.size (show w.heap.size < w6.heap.size by omega) (show ¬ w.heap.size = wr.heap.size by omega)).trans (unhide HH6)
          have Fr8 : Fr (fun k => k = w.heap.size) wr w8 := (unhide HFr6).trans F8 (fun b hb h => show b = w.heap.size by omega)
          have hR8 := hB8.rd (by rw [spl_length]; simp only [maxLen]; omega)
          rw [spl_length] at hR8
          have hP8 := (unhide HP).step (by rw [unhide HUS]; exact hlt) Fr8 _ (by rw [unhide HUS]; have h5 := hh8; rw [unhide HUS] at h5; exact h5) _ hR8 (Wb.of_bat hB8 (by omega))
          rw [← unhide HST] at hP8
          have HP8 := hide hP8
          have HF8 := hide ((unhide HF6).trans F8 (fun b hb h => show False by omega))
          clear hP8 hR8 Fr8 hh8 u2 F8 f8 hB8
          go_wp2_with fail
          go_roundw
          case rel => exact ⟨i + 1, by omega, by go_num, ⟨_, by simp [unhide HUS], unhide HP8⟩, by first | exact unhide HF8 | exact (unhide HF8).drew⟩
          case measure => simp [intOf]; omega
    · have hie : i = k := by omega
      subst hie
      have HP := hide hP
      have Hf := hide hf
      have HUS := hide hus
      clear hP hf hus
      go_wp2_with fail
      go_ret2
      have := (unhide HP).done (unhide HUS) (by omega) (by simp only [maxLen]; omega)
      rw [List.take_of_length_le (by rw [splL_length]; omega)] at this
      exact ⟨⟨_, rfl, this⟩, unhide Hf⟩

/-- What Split answers. -/
def spR (k : Nat) (l : List UInt8) : List (List UInt8) := if spN k l ≤ 4096 then splL k (spN k l) l else []
def spE (k : Nat) (l : List UInt8) : Int := if spN k l ≤ 4096 then 0 else 1

theorem split_any (w : World) (p k m vb vof vc : Nat) (l : List UInt8) (hC : CAt w p k m) (hl : Rd w (.slice (some ⟨vb, vof, none⟩) l.length vc) l) (hb : l.length ≤ 1048576) :
    Calls Try.prog 56 #[.pointer (some ⟨p, 0, none⟩), .slice (some ⟨vb, vof, none⟩) l.length vc] w fun e w' => (∃ ao n ac, e = .returned (.tuple #[.slice ao n ac, .int .i64 (spE k l)]) ∧ LN w.heap.size w' (.slice ao n ac) (spR k l)) ∧ Fr (fun _ => False) w w' := by
  unfold spR spE
  by_cases hn : spN k l ≤ 4096
  · rw [if_pos hn, if_pos hn]
    refine (split_ok w p k m vb vof vc l hC hl hb hn).mono ?_
    rintro e w' ⟨⟨g, rfl, h⟩, f⟩
    exact ⟨⟨_, _, _, rfl, h⟩, f⟩
  · rw [if_neg hn, if_neg hn]
    refine (split_no w p k m _ l hC hl hb hn).mono ?_
    rintro e w' ⟨rfl, f⟩
    exact ⟨⟨_, _, _, rfl, LN.nil _ _⟩, f⟩

end Go.Proofs.Ytckmddkhkdcmmaa
