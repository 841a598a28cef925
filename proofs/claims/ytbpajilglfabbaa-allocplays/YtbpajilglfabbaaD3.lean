/-
  The law's act: Take, TakeReserved, Commit, Abort, Hold, LetGo, and what is no act.
-/
import Derived.Test.YtbpajilglfabbaaD2
namespace Go.Proofs.Ytbpajilglfabbaa
open Go.RowKit
set_option linter.unusedVariables false

attribute [local go_sem ↓] Go.wp_at_zero Go.wp_at_succ

section
variable (w0 w : World) (p : Nat) (X : Ly) (p' : Nat) (Y : Lr) (K : Kc) (M : Rc) (k : Nat)

set_option maxRecDepth 100000 in
set_option maxHeartbeats 4000000 in
theorem act_take (H : PA w0 w p X p' Y K M k) (hk : k ≤ 100000) (n : Int) : Calls Try.prog 14 #[ptr p, ptr p', .agg #[.int .i64 1, .int .i64 n]] w fun e w' => AE w0 p X p' K k e w' := by
  obtain ⟨w1, hw1⟩ : ∃ w1, w1 = w.alloc (.cells #[.int .i64 1, .int .i64 n] 36) := ⟨_, rfl⟩
  have f1 : Fr (fun _ => False) w w1 := by rw [hw1]; exact (Fr.refl _ _).alloc _
  have hbx : w1.heap[w.heap.size]? = some (.cells #[.int .i64 1, .int .i64 n] 36 (0, 0)) := by rw [hw1]; exact heap_alloc_new w _
  have H1 := H.kept f1
  obtain ⟨hb0, hb1, hb3, hb4, hb5⟩ := H.bd hk
  have cb : ∀ W, Fr (Bl p X) w1 W → W.cell? ⟨w.heap.size, 1, none⟩ = some (.int .i64 n) := fun W f => by
    rw [f.cell (a := ⟨w.heap.size, 1, none⟩) (lt_of_heap hbx) (fun hb => by have := H.ka.lt _ hb; exact absurd this (Nat.lt_irrefl _)), cell_of_heap hbx]; rfl
  have c1 := cb w1 (Fr.refl _ _)
  have HCB := hide cb
  have HA := hide (take_any w1 p X K H1.ka n hb1)
  have HB : Hid (∀ W, Fr (Bl p X) w1 W → Calls Try.prog 44 #[.pointer (some ⟨p', 0, none⟩), .int .i64 n] W fun e w' => e = .returned (.tuple #[.int .i64 (K.take n).2.1, .int .i64 (K.take n).2.2]) ∧ RE W p' Y (M.take n).1 w') := hide (fun W f => by rw [(H.ab.take n).1]; exact rTake_any W p' Y M (H1.rbof f) n hb4)
  have HEND : Hid (∀ w2 w3, KA w2 p X (K.take n).1 → Fr (Bl p X) w1 w2 → RE w2 p' Y (M.take n).1 w3 → AE w0 p X p' K k (.returned (.tuple #[ptr p, .bool true])) w3) := hide (fun w2 w3 a b c => H1.ae a b c (H.ab.take n).2 (take_cn K n))
  generalize (K.take n).2.1 = x1 at *
  generalize (K.take n).2.2 = x2 at *
  generalize (K.take n).1 = K2 at *
  generalize (M.take n).1 = M2 at *
  have HW1 := hide hw1
  clear hbx H1 hb0 hb1 hb3 hb5 hb4 cb hw1 H
  unfold ptr at *
  go_enter Try.func14, Try.ntmps14
  go_wp2_with fail
  rw [← unhide HW1]
  refine (unhide HA).mono ?_
  rintro e w2 ⟨rfl, hK2, f2⟩
  have HK2 := hide hK2
  have HF2 := hide f2
  have HB2 := hide (unhide HB w2 f2)
  have c2 := unhide HCB w2 f2
  clear hK2 f2
  go_wp2_with fail
  refine (unhide HB2).mono ?_
  rintro e w3 ⟨rfl, hE⟩
  have HE := hide (unhide HEND w2 w3 (unhide HK2) (unhide HF2) hE)
  clear hE
  go_wp2_with (go_at_call 13; refine (num_any _ _).mono ?_; rintro e w' ⟨rfl, rfl⟩)
  go_ret2
  exact unhide HE

set_option maxRecDepth 100000 in
set_option maxHeartbeats 4000000 in
theorem act_takeR (H : PA w0 w p X p' Y K M k) (hk : k ≤ 100000) (n : Int) : Calls Try.prog 14 #[ptr p, ptr p', .agg #[.int .i64 2, .int .i64 n]] w fun e w' => AE w0 p X p' K k e w' := by
  obtain ⟨w1, hw1⟩ : ∃ w1, w1 = w.alloc (.cells #[.int .i64 2, .int .i64 n] 36) := ⟨_, rfl⟩
  have f1 : Fr (fun _ => False) w w1 := by rw [hw1]; exact (Fr.refl _ _).alloc _
  have hbx : w1.heap[w.heap.size]? = some (.cells #[.int .i64 2, .int .i64 n] 36 (0, 0)) := by rw [hw1]; exact heap_alloc_new w _
  have H1 := H.kept f1
  obtain ⟨hb0, hb1, hb3, hb4, hb5⟩ := H.bd hk
  have cb : ∀ W, Fr (Bl p X) w1 W → W.cell? ⟨w.heap.size, 1, none⟩ = some (.int .i64 n) := fun W f => by
    rw [f.cell (a := ⟨w.heap.size, 1, none⟩) (lt_of_heap hbx) (fun hb => by have := H.ka.lt _ hb; exact absurd this (Nat.lt_irrefl _)), cell_of_heap hbx]; rfl
  have c1 := cb w1 (Fr.refl _ _)
  have HCB := hide cb
  have HA := hide (takeR_any w1 p X K H1.ka n H.ab.rf hb1)
  have HB : Hid (∀ W, Fr (Bl p X) w1 W → Calls Try.prog 45 #[.pointer (some ⟨p', 0, none⟩), .int .i64 n] W fun e w' => e = .returned (.tuple #[.int .i64 (K.takeR n).2.1, .int .i64 (K.takeR n).2.2]) ∧ RE W p' Y (M.takeR n).1 w') := hide (fun W f => by rw [(H.ab.takeR n).1]; exact rTakeR_any W p' Y M (H1.rbof f) n (by rw [H.ab.s, H.ab.r]; exact H.ab.rf) hb4)
  have HEND : Hid (∀ w2 w3, KA w2 p X (K.takeR n).1 → Fr (Bl p X) w1 w2 → RE w2 p' Y (M.takeR n).1 w3 → AE w0 p X p' K k (.returned (.tuple #[ptr p, .bool true])) w3) := hide (fun w2 w3 a b c => H1.ae a b c (H.ab.takeR n).2 (takeR_cn K n))
  generalize (K.takeR n).2.1 = x1 at *
  generalize (K.takeR n).2.2 = x2 at *
  generalize (K.takeR n).1 = K2 at *
  generalize (M.takeR n).1 = M2 at *
  have HW1 := hide hw1
  clear hbx H1 hb0 hb1 hb3 hb5 hb4 cb hw1 H
  unfold ptr at *
  go_enter Try.func14, Try.ntmps14
  go_wp2_with fail
  rw [← unhide HW1]
  refine (unhide HA).mono ?_
  rintro e w2 ⟨rfl, hK2, f2⟩
  have HK2 := hide hK2
  have HF2 := hide f2
  have HB2 := hide (unhide HB w2 f2)
  have c2 := unhide HCB w2 f2
  clear hK2 f2
  go_wp2_with fail
  refine (unhide HB2).mono ?_
  rintro e w3 ⟨rfl, hE⟩
  have HE := hide (unhide HEND w2 w3 (unhide HK2) (unhide HF2) hE)
  clear hE
  go_wp2_with (go_at_call 13; refine (num_any _ _).mono ?_; rintro e w' ⟨rfl, rfl⟩)
  go_ret2
  exact unhide HE

set_option maxRecDepth 100000 in
set_option maxHeartbeats 4000000 in
theorem act_commit (H : PA w0 w p X p' Y K M k) (hk : k ≤ 100000) (n : Int) : Calls Try.prog 14 #[ptr p, ptr p', .agg #[.int .i64 7, .int .i64 n]] w fun e w' => AE w0 p X p' K k e w' := by
  obtain ⟨w1, hw1⟩ : ∃ w1, w1 = w.alloc (.cells #[.int .i64 7, .int .i64 n] 36) := ⟨_, rfl⟩
  have f1 : Fr (fun _ => False) w w1 := by rw [hw1]; exact (Fr.refl _ _).alloc _
  have hbx : w1.heap[w.heap.size]? = some (.cells #[.int .i64 7, .int .i64 n] 36 (0, 0)) := by rw [hw1]; exact heap_alloc_new w _
  have H1 := H.kept f1
  obtain ⟨hb0, hb1, hb3, hb4, hb5⟩ := H.bd hk
  have cb : ∀ W, Fr (Bl p X) w1 W → W.cell? ⟨w.heap.size, 1, none⟩ = some (.int .i64 n) := fun W f => by
    rw [f.cell (a := ⟨w.heap.size, 1, none⟩) (lt_of_heap hbx) (fun hb => by have := H.ka.lt _ hb; exact absurd this (Nat.lt_irrefl _)), cell_of_heap hbx]; rfl
  have c1 := cb w1 (Fr.refl _ _)
  have HCB := hide cb
  have HA := hide (commit_any w1 p X K H1.ka hb0)
  have hlx : idx (rep M.s 3 (if 0 < M.h then 4 else 0)) 2 = idx K.s 2 := by rw [idx_rep (by decide) (by split <;> decide), H.ab.s]
  have hly : idx M.s 3 = idx K.s 3 := by rw [H.ab.s]
  have HB : Hid (∀ W, Fr (Bl p X) w1 W → Calls Try.prog 50 #[.pointer (some ⟨p', 0, none⟩)] W fun e w' => (∃ x y, e = .returned (.tuple #[x, y]) ∧ Nw W w' x (idx K.s 2) ∧ Nw W w' y (idx K.s 3)) ∧ RE W p' Y M.commit w') := hide (fun W f => by
    have := rCommit_any W p' Y M (H1.rbof f)
    rw [hlx, hly] at this
    exact this)
  have HEND : Hid (∀ w2 w3, KA w2 p X K.commit → Fr (Bl p X) w1 w2 → RE w2 p' Y M.commit w3 → AE w0 p X p' K k (.returned (.tuple #[ptr p, .bool true])) w3) := hide (fun w2 w3 a b c => H1.ae a b c H.ab.commit (commit_cn K H.ka.n2))
  have HRB : Hid (∀ w2 w3, RE w2 p' Y M.commit w3 → Fr (Bl p X) w1 w2 → ∀ x l, Nw w1 w2 x l → Nw w1 w3 x l) := hide (fun w2 w3 hE f x l hx => by
    obtain ⟨Y', -, f3, -⟩ := hE
    exact hx.kept f3 (hx.farR (fun j hj => H1.ra.lt j hj)))
  have HW1 := hide hw1
  clear hbx H1 hb0 hb1 hb3 hb5 hb4 cb hw1 H hlx hly
  unfold ptr at *
  go_enter Try.func14, Try.ntmps14
  go_wp2_with fail
  rw [← unhide HW1]
  refine (unhide HA).mono ?_
  rintro e w2 ⟨⟨x, y, rfl, hx, hy⟩, hK2, f2⟩
  have HB2 := hide (unhide HB w2 f2)
  obtain ⟨xo, xn, xc, rfl, -⟩ := hx.shape
  obtain ⟨yo, yn, yc, rfl, -⟩ := hy.shape
  have HK2 := hide hK2
  have HF2 := hide f2
  have HX := hide hx
  have HY := hide hy
  clear hK2 f2 hx hy HA
  go_wp2_with fail
  refine (unhide HB2).mono ?_
  rintro e w3 ⟨⟨u, h, rfl, hu, hh⟩, hE⟩
  have hx3 := unhide HRB w2 w3 hE (unhide HF2) _ _ (unhide HX)
  have hy3 := unhide HRB w2 w3 hE (unhide HF2) _ _ (unhide HY)
  have HE := hide (unhide HEND w2 w3 (unhide HK2) (unhide HF2) hE)
  have HI1 := ints_any w3 _ _ (idx K.s 2) (idx K.s 2) hx3.rd hu.rd
  rw [decide_eq_true (show idx K.s 2 = idx K.s 2 from rfl)] at HI1
  have HI2 : Hid (∀ nd, Calls Try.prog 38 #[.slice yo yn yc, h] (w3.drewN nd) fun e w' => e = .returned (.bool true) ∧ ∃ n, w' = (w3.drewN nd).drewN n) := hide (fun nd => by
    have fd : Fr (fun _ => False) w3 (w3.drewN nd) := Fr.ofDrewN _ _
    have := ints_any (w3.drewN nd) _ _ (idx K.s 3) (idx K.s 3) (hy3.kept fd (fun _ _ h => h)).rd (hh.kept fd (fun _ _ h => h)).rd
    rwa [decide_eq_true (show idx K.s 3 = idx K.s 3 from rfl)] at this)
  have HI1 := hide HI1
  obtain ⟨uo, un, uc, rfl, -⟩ := hu.shape
  obtain ⟨ho, hn, hc, rfl, -⟩ := hh.shape
  clear hu hh hE hx3 hy3 HB2 HX HY
  go_wp2_with fail
  refine (unhide HI1).mono ?_
  rintro e w4 ⟨rfl, nd, rfl⟩
  go_wp2_with fail
  refine (unhide HI2 nd).mono ?_
  rintro e w5 ⟨rfl, nd2, rfl⟩
  go_wp2_with fail
  go_ret2
  obtain ⟨Y', K', M', h1, h2, h3⟩ := unhide HE
  exact ⟨Y', K', M', h1, h2.kept (Fr.ofDrewN _ _), h3⟩

set_option maxRecDepth 100000 in
set_option maxHeartbeats 4000000 in
theorem act_abort (H : PA w0 w p X p' Y K M k) (hk : k ≤ 100000) (n : Int) : Calls Try.prog 14 #[ptr p, ptr p', .agg #[.int .i64 8, .int .i64 n]] w fun e w' => AE w0 p X p' K k e w' := by
  obtain ⟨w1, hw1⟩ : ∃ w1, w1 = w.alloc (.cells #[.int .i64 8, .int .i64 n] 36) := ⟨_, rfl⟩
  have f1 : Fr (fun _ => False) w w1 := by rw [hw1]; exact (Fr.refl _ _).alloc _
  have hbx : w1.heap[w.heap.size]? = some (.cells #[.int .i64 8, .int .i64 n] 36 (0, 0)) := by rw [hw1]; exact heap_alloc_new w _
  have H1 := H.kept f1
  obtain ⟨hb0, hb1, hb3, hb4, hb5⟩ := H.bd hk
  have cb : ∀ W, Fr (Bl p X) w1 W → W.cell? ⟨w.heap.size, 1, none⟩ = some (.int .i64 n) := fun W f => by
    rw [f.cell (a := ⟨w.heap.size, 1, none⟩) (lt_of_heap hbx) (fun hb => by have := H.ka.lt _ hb; exact absurd this (Nat.lt_irrefl _)), cell_of_heap hbx]; rfl
  have c1 := cb w1 (Fr.refl _ _)
  have HCB := hide cb
  have HA := hide (abort_any w1 p X K H1.ka hb0)
  have HB : Hid (∀ W, Fr (Bl p X) w1 W → Calls Try.prog 51 #[.pointer (some ⟨p', 0, none⟩)] W fun e w' => e = .returned (.tuple #[]) ∧ RE W p' Y M.abort w') := hide (fun W f => rAbort_any W p' Y M (H1.rbof f))
  have HEND : Hid (∀ w2 w3, KA w2 p X K.abort → Fr (Bl p X) w1 w2 → RE w2 p' Y M.abort w3 → AE w0 p X p' K k (.returned (.tuple #[ptr p, .bool true])) w3) := hide (fun w2 w3 a b c => H1.ae a b c H.ab.abort (abort_cn K H.ka.n2))
  have HW1 := hide hw1
  clear hbx H1 hb0 hb1 hb3 hb5 hb4 cb hw1 H
  unfold ptr at *
  go_enter Try.func14, Try.ntmps14
  go_wp2_with fail
  rw [← unhide HW1]
  refine (unhide HA).mono ?_
  rintro e w2 ⟨rfl, hK2, f2⟩
  have HB2 := hide (unhide HB w2 f2)
  have HK2 := hide hK2
  have HF2 := hide f2
  clear hK2 f2 HA
  go_wp2_with fail
  refine (unhide HB2).mono ?_
  rintro e w3 ⟨rfl, hE⟩
  have HE := hide (unhide HEND w2 w3 (unhide HK2) (unhide HF2) hE)
  clear hE
  go_wp2_with fail
  go_ret2
  exact unhide HE

set_option maxRecDepth 100000 in
set_option maxHeartbeats 4000000 in
theorem act_hold (H : PA w0 w p X p' Y K M k) (hk : k ≤ 100000) (n : Int) : Calls Try.prog 14 #[ptr p, ptr p', .agg #[.int .i64 10, .int .i64 n]] w fun e w' => AE w0 p X p' K k e w' := by
  obtain ⟨w1, hw1⟩ : ∃ w1, w1 = w.alloc (.cells #[.int .i64 10, .int .i64 n] 36) := ⟨_, rfl⟩
  have f1 : Fr (fun _ => False) w w1 := by rw [hw1]; exact (Fr.refl _ _).alloc _
  have hbx : w1.heap[w.heap.size]? = some (.cells #[.int .i64 10, .int .i64 n] 36 (0, 0)) := by rw [hw1]; exact heap_alloc_new w _
  have H1 := H.kept f1
  obtain ⟨hb0, hb1, hb3, hb4, hb5⟩ := H.bd hk
  have cb : ∀ W, Fr (Bl p X) w1 W → W.cell? ⟨w.heap.size, 1, none⟩ = some (.int .i64 n) := fun W f => by
    rw [f.cell (a := ⟨w.heap.size, 1, none⟩) (lt_of_heap hbx) (fun hb => by have := H.ka.lt _ hb; exact absurd this (Nat.lt_irrefl _)), cell_of_heap hbx]; rfl
  have c1 := cb w1 (Fr.refl _ _)
  have HCB := hide cb
  have HA := hide (hold_any w1 p X K H1.ka hb3)
  have HHB : Hid (M.h + 1 < 4611686018427387904) := hide (by rw [H.ab.h]; exact hb3)
  have HRA : Hid (∀ W, Fr (Bl p X) w1 W → RA W p' Y M) := hide (fun W f => H1.rbof f)
  have HEND : Hid (∀ w2 w3, KA w2 p X { K with h := K.h + 1 } → Fr (Bl p X) w1 w2 → RE w2 p' Y { M with h := M.h + 1 } w3 → AE w0 p X p' K k (.returned (.tuple #[ptr p, .bool true])) w3) := hide (fun w2 w3 a b c => H1.ae a b c H.ab.hold (hold_cn K))
  have HW1 := hide hw1
  clear hbx H1 hb0 hb1 hb3 hb5 hb4 cb hw1 H
  unfold ptr at *
  go_enter Try.func14, Try.ntmps14
  go_wp2_with fail
  rw [← unhide HW1]
  refine (unhide HA).mono ?_
  rintro e w2 ⟨rfl, hK2, f2⟩
  have hR := unhide HRA w2 f2
  have d4 := hR.c4
  have z4 := frozen_of_heap hR.hd 4
  have hhb := unhide HHB
  have hS := hR.setH (M.h + 1) hhb
  rw [Int.natCast_add] at hS
  have HE := hide (unhide HEND w2 _ hK2 f2 (RE.of hS ((Fr.refl _ _).setCell (p := ⟨p', 4, none⟩) (fun _ => .inl rfl) _)))
  clear hK2 f2 hR hS HEND
  generalize M.h = mh at *
  go_wp2_with fail
  go_ret2
  exact unhide HE

set_option maxRecDepth 100000 in
set_option maxHeartbeats 4000000 in
theorem act_letGo (H : PA w0 w p X p' Y K M k) (hk : k ≤ 100000) (n : Int) : Calls Try.prog 14 #[ptr p, ptr p', .agg #[.int .i64 11, .int .i64 n]] w fun e w' => AE w0 p X p' K k e w' := by
  obtain ⟨w1, hw1⟩ : ∃ w1, w1 = w.alloc (.cells #[.int .i64 11, .int .i64 n] 36) := ⟨_, rfl⟩
  have f1 : Fr (fun _ => False) w w1 := by rw [hw1]; exact (Fr.refl _ _).alloc _
  have hbx : w1.heap[w.heap.size]? = some (.cells #[.int .i64 11, .int .i64 n] 36 (0, 0)) := by rw [hw1]; exact heap_alloc_new w _
  have H1 := H.kept f1
  obtain ⟨hb0, hb1, hb3, hb4, hb5⟩ := H.bd hk
  have cb : ∀ W, Fr (Bl p X) w1 W → W.cell? ⟨w.heap.size, 1, none⟩ = some (.int .i64 n) := fun W f => by
    rw [f.cell (a := ⟨w.heap.size, 1, none⟩) (lt_of_heap hbx) (fun hb => by have := H.ka.lt _ hb; exact absurd this (Nat.lt_irrefl _)), cell_of_heap hbx]; rfl
  have c1 := cb w1 (Fr.refl _ _)
  have HCB := hide cb
  have HA := hide (letGo_any w1 p X K H1.ka hb0)
  have HB : Hid (∀ W, Fr (Bl p X) w1 W → Calls Try.prog 52 #[.pointer (some ⟨p', 0, none⟩)] W fun e w' => (∃ x, e = .returned x ∧ Nw W w' x K.letGo.2) ∧ RE W p' Y M.letGo.1 w') := hide (fun W f => by rw [H.ab.letGo.1]; exact rLetGo_any W p' Y M (H1.rbof f))
  have HEND : Hid (∀ w2 w3, KA w2 p X K.letGo.1 → Fr (Bl p X) w1 w2 → RE w2 p' Y M.letGo.1 w3 → AE w0 p X p' K k (.returned (.tuple #[ptr p, .bool true])) w3) := hide (fun w2 w3 a b c => H1.ae a b c H.ab.letGo.2 (letGo_cn K H.ka.n2))
  have HRB : Hid (∀ w2 w3, RE w2 p' Y M.letGo.1 w3 → Fr (Bl p X) w1 w2 → ∀ x l, Nw w1 w2 x l → Nw w1 w3 x l) := hide (fun w2 w3 hE f x l hx => by
    obtain ⟨Y', -, f3, -⟩ := hE
    exact hx.kept f3 (hx.farR (fun j hj => H1.ra.lt j hj)))
  have HW1 := hide hw1
  clear hbx H1 hb0 hb1 hb3 hb5 hb4 cb hw1 H
  generalize K.letGo.2 = L at *
  unfold ptr at *
  go_enter Try.func14, Try.ntmps14
  go_wp2_with fail
  rw [← unhide HW1]
  refine (unhide HA).mono ?_
  rintro e w2 ⟨⟨x, rfl, hx⟩, hK2, f2⟩
  have HB2 := hide (unhide HB w2 f2)
  obtain ⟨xo, xn, xc, rfl, -⟩ := hx.shape
  have HK2 := hide hK2
  have HF2 := hide f2
  have HX := hide hx
  clear hK2 f2 hx HA
  go_wp2_with fail
  refine (unhide HB2).mono ?_
  rintro e w3 ⟨⟨u, rfl, hu⟩, hE⟩
  have hx3 := unhide HRB w2 w3 hE (unhide HF2) _ _ (unhide HX)
  have HE := hide (unhide HEND w2 w3 (unhide HK2) (unhide HF2) hE)
  have HI1 := ints_any w3 _ _ L L hx3.rd hu.rd
  rw [decide_eq_true (show L = L from rfl)] at HI1
  have HI1 := hide HI1
  obtain ⟨uo, un, uc, rfl, -⟩ := hu.shape
  clear hu hE hx3 HB2 HX
  go_wp2_with fail
  refine (unhide HI1).mono ?_
  rintro e w4 ⟨rfl, nd, rfl⟩
  go_wp2_with fail
  go_ret2
  obtain ⟨Y', K', M', h1, h2, h3⟩ := unhide HE
  exact ⟨Y', K', M', h1, h2.kept (Fr.ofDrewN _ _), h3⟩

set_option maxRecDepth 100000 in
set_option maxHeartbeats 4000000 in
theorem act_none (H : PA w0 w p X p' Y K M k) (kd n : Int) (hkd : ∀ j : Int, 1 ≤ j → j ≤ 11 → kd ≠ j) : Calls Try.prog 14 #[ptr p, ptr p', .agg #[.int .i64 kd, .int .i64 n]] w fun e w' => AE w0 p X p' K k e w' := by
  have HE : Hid (AE w0 p X p' K k (.returned (.tuple #[ptr p, .bool true])) (w.alloc (.cells #[.int .i64 kd, .int .i64 n] 36))) := hide (by
    have H1 := H.kept ((Fr.refl _ _).alloc (.cells #[.int .i64 kd, .int .i64 n] 36) : Fr (fun _ => False) w _)
    exact H1.ae H1.ka (Fr.refl _ _) (RE.refl H1.ra) H.ab (Cn.refl K))
  have hb : ∀ j : Int, 1 ≤ j → j ≤ 11 → (kd == j) = false := fun j h1 h2 => by simpa using hkd j h1 h2
  have e1 := hb 1 (by decide) (by decide)
  have e2 := hb 2 (by decide) (by decide)
  have e3 := hb 3 (by decide) (by decide)
  have e4 := hb 4 (by decide) (by decide)
  have e5 := hb 5 (by decide) (by decide)
  have e6 := hb 6 (by decide) (by decide)
  have e7 := hb 7 (by decide) (by decide)
  have e8 := hb 8 (by decide) (by decide)
  have e9 := hb 9 (by decide) (by decide)
  have e10 := hb 10 (by decide) (by decide)
  have e11 := hb 11 (by decide) (by decide)
  clear H hkd hb
  unfold ptr at *
  go_enter Try.func14, Try.ntmps14
  go_wp2_with fail
  go_ret2
  exact unhide HE
end

theorem act_any (w0 w : World) (p : Nat) (X : Ly) (p' : Nat) (Y : Lr) (K : Kc) (M : Rc) (k : Nat) (H : PA w0 w p X p' Y K M k) (hk : k ≤ 100000) (kd n : Int) (h9 : kd ≠ 9) : Calls Try.prog 14 #[ptr p, ptr p', .agg #[.int .i64 kd, .int .i64 n]] w fun e w' => AE w0 p X p' K k e w' := by
  by_cases e1 : kd = 1
  · subst e1; exact act_take w0 w p X p' Y K M k H hk n
  by_cases e2 : kd = 2
  · subst e2; exact act_takeR w0 w p X p' Y K M k H hk n
  by_cases e3 : kd = 3
  · subst e3; exact act_give w0 w p X p' Y K M k H hk n
  by_cases e4 : kd = 4
  · subst e4; exact act_mark w0 w p X p' Y K M k H hk n
  by_cases e5 : kd = 5
  · subst e5; exact act_reserve w0 w p X p' Y K M k H hk n
  by_cases e6 : kd = 6
  · subst e6; exact act_release w0 w p X p' Y K M k H hk n
  by_cases e7 : kd = 7
  · subst e7; exact act_commit w0 w p X p' Y K M k H hk n
  by_cases e8 : kd = 8
  · subst e8; exact act_abort w0 w p X p' Y K M k H hk n
  by_cases e10 : kd = 10
  · subst e10; exact act_hold w0 w p X p' Y K M k H hk n
  by_cases e11 : kd = 11
  · subst e11; exact act_letGo w0 w p X p' Y K M k H hk n
  exact act_none w0 w p X p' Y K M k H kd n (fun j h1 h2 e => by omega)
end Go.Proofs.Ytbpajilglfabbaa
