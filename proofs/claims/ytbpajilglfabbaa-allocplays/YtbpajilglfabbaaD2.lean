/-
  Both allocators, in memory, made since a world w0; the law's act.
-/
import Derived.Test.YtbpajilglfabbaaD1
namespace Go.Proofs.Ytbpajilglfabbaa
open Go.RowKit
set_option linter.unusedVariables false

attribute [local go_sem ↓] Go.wp_at_zero Go.wp_at_succ

/-- Both, made since w0; k bounds what was done. -/
structure PA (w0 w : World) (p : Nat) (X : Ly) (p' : Nat) (Y : Lr) (K : Kc) (M : Rc) (k : Nat) : Prop where
  ka : KA w p X K
  ra : RA w p' Y M
  ab : Ab K M
  nb : ∀ j, Bl p X j → w0.heap.size ≤ j
  nr : ∀ j, Rb p' Y j → w0.heap.size ≤ j
  fr : Fr (fun _ => False) w0 w
  kb : K.ch ≤ k * 200000
  hb : K.h ≤ k

theorem Kc.set_ch (K : Kc) (b : Nat) (v : UInt8) : (K.set b v).ch = K.ch + 1 := rfl
theorem set_len (K : Kc) (b : Nat) (v : UInt8) : (K.set b v).s.length = K.s.length := by simp [Kc.set]
/-- What an act may do to the counts. -/
def Cn (K K' : Kc) : Prop := K'.ch ≤ K.ch + 200000 ∧ K'.h ≤ K.h + 1 ∧ K'.s.length = K.s.length
theorem Cn.refl (K : Kc) : Cn K K := ⟨by omega, by omega, rfl⟩
theorem Cn.set (K : Kc) (b : Nat) (v : UInt8) : Cn K (K.set b v) := ⟨by rw [Kc.set_ch]; omega, by simp [Kc.set], set_len K b v⟩
theorem Cn.setr (K : Kc) (r b : Nat) (v : UInt8) : Cn K (({ K with r := r } : Kc).set b v) := ⟨by rw [Kc.set_ch]; simp, by simp [Kc.set], by simp [Kc.set]⟩
theorem Cn.r (K : Kc) (r : Nat) : Cn K { K with r := r } := ⟨by simp, by simp, rfl⟩
theorem take_cn (K : Kc) (a : Int) : Cn K (K.take a).1 := by
  unfold Kc.take
  split
  · split
    · exact Cn.set _ _ _
    · exact Cn.refl _
  · exact Cn.refl _
theorem takeR_cn (K : Kc) (a : Int) : Cn K (K.takeR a).1 := by
  unfold Kc.takeR
  split
  · split
    · exact Cn.refl _
    · exact Cn.setr _ _ _ _
  · exact Cn.refl _
theorem give_cn (K : Kc) (a : Int) : Cn K (K.give a).1 := by
  unfold Kc.give
  split
  · split
    · exact Cn.set _ _ _
    · split
      · exact Cn.set _ _ _
      · exact Cn.refl _
  · exact Cn.refl _
theorem mark_cn (K : Kc) (a : Int) : Cn K (K.mark a).1 := by
  unfold Kc.mark
  split
  · split
    · exact Cn.set _ _ _
    · exact Cn.refl _
  · exact Cn.refl _
theorem reserve_cn (K : Kc) (a : Int) : Cn K (K.reserve a).1 := by
  unfold Kc.reserve
  split
  · exact Cn.refl _
  · split
    · exact Cn.refl _
    · exact Cn.r _ _
theorem release_cn (K : Kc) (a : Int) : Cn K (K.release a).1 := by
  unfold Kc.release
  split
  · exact Cn.refl _
  · exact Cn.r _ _
theorem commit_cn (K : Kc) (hn : K.s.length ≤ 65536) : Cn K K.commit := by
  refine ⟨?_, ?_, by rw [commit_s, rep_length, rep_length]⟩
  · unfold Kc.commit
    rw [Kc.setL_ch, Kc.setL_ch]
    have := idx_length K.s 2
    have := idx_length K.s 3
    omega
  · unfold Kc.commit
    rw [Kc.setL_h, Kc.setL_h]; omega
theorem abort_cn (K : Kc) (hn : K.s.length ≤ 65536) : Cn K K.abort := by
  refine ⟨?_, ?_, by rw [abort_s, rep_length, rep_length]⟩
  · unfold Kc.abort
    rw [Kc.setL_ch, Kc.setL_ch]
    have := idx_length K.s 2
    have h3 := idx_length (K.setL (idx K.s 2) 0).s 3
    have e : (K.setL (idx K.s 2) 0).s.length = K.s.length := by rw [Kc.setL_s, setL_length]
    omega
  · unfold Kc.abort
    rw [Kc.setL_h, Kc.setL_h]; omega
theorem hold_cn (K : Kc) : Cn K { K with h := K.h + 1 } := ⟨by simp, by simp, rfl⟩
theorem letGo_cn (K : Kc) (hn : K.s.length ≤ 65536) : Cn K K.letGo.1 := by
  unfold Kc.letGo
  split
  · exact Cn.refl _
  · split
    · exact ⟨by simp, by show K.h - 1 ≤ K.h + 1; omega, rfl⟩
    · refine ⟨?_, ?_, ?_⟩
      · simp only
        rw [Kc.setL_ch]
        have := idx_length K.s 4
        show K.ch + _ ≤ _
        omega
      · simp only
        rw [Kc.setL_h]
        show K.h - 1 ≤ _
        omega
      · simp only
        rw [Kc.setL_s, setL_length]

section
variable {w0 w : World} {p : Nat} {X : Ly} {p' : Nat} {Y : Lr} {K : Kc} {M : Rc} {k : Nat}
theorem PA.kept (H : PA w0 w p X p' Y K M k) {w' : World} (f : Fr (fun _ => False) w w') : PA w0 w' p X p' Y K M k :=
  { H with ka := H.ka.kept f (fun _ _ h => h), ra := H.ra.kept f (fun _ _ h => h), fr := H.fr.trans f (fun _ _ h => h) }
/-- A call of both. -/
theorem PA.both (H : PA w0 w p X p' Y K M k) {w1 w2 : World} {K' : Kc} {M' : Rc} (h1 : KA w1 p X K') (f1 : Fr (Bl p X) w w1) (h2 : RE w1 p' Y M' w2) (hab : Ab K' M') (hcn : Cn K K') : ∃ Y', PA w0 w2 p X p' Y' K' M' (k + 1) := by
  obtain ⟨Y', R, f2, hn⟩ := h2
  have R1 : RA w1 p' Y M := H.ra.kept f1 (fun j hj hb => apart H.ka H.ra hb hj)
  have fw1 : Fr (fun _ => False) w0 w1 := H.fr.trans f1 (fun j hj hb => by have := H.nb j hb; omega)
  have hkb := H.kb
  have hhb := H.hb
  obtain ⟨hk, hh, -⟩ := hcn
  exact ⟨Y', h1.kept f2 (fun j hj hr => apart h1 R1 hj hr), R, hab, H.nb, fun j hj => by
    rcases hn j hj with h | h
    · exact H.nr j h
    · exact Nat.le_trans fw1.size h, fw1.trans f2 (fun j hj hb => by have := H.nr j hb; omega), by omega, by omega⟩
theorem PA.bd (H : PA w0 w p X p' Y K M k) (hk : k ≤ 100000) : K.ch + 200000 < 4611686018427387904 ∧ K.ch + 1 < 4611686018427387904 ∧ K.h + 1 < 4611686018427387904 ∧ M.t.length < 1000000 ∧ M.g.length < 1000000 := by
  have h1 := H.kb
  have h2 := H.hb
  have h3 := H.ab.lt_t
  have h4 := H.ab.lt_g
  have h5 := H.ka.n2
  omega
theorem PA.rbof (H : PA w0 w p X p' Y K M k) {w1 : World} (f1 : Fr (Bl p X) w w1) : RA w1 p' Y M := H.ra.kept f1 (fun j hj hb => apart H.ka H.ra hb hj)
end

/-- What act leaves: both again; the program's is another one just behind a copy. -/
def AE (w0 : World) (p : Nat) (X : Ly) (p' : Nat) (K : Kc) (k : Nat) (e : Ending) (w' : World) : Prop :=
  ∃ Y' K' M', e = .returned (.tuple #[ptr p, .bool true]) ∧ PA w0 w' p X p' Y' K' M' (k + 1) ∧ K'.s.length = K.s.length

theorem PA.ae {w0 w : World} {p : Nat} {X : Ly} {p' : Nat} {Y : Lr} {K : Kc} {M : Rc} {k : Nat} (H : PA w0 w p X p' Y K M k) {w1 w2 : World} {K' : Kc} {M' : Rc} (h1 : KA w1 p X K') (f1 : Fr (Bl p X) w w1) (h2 : RE w1 p' Y M' w2) (hab : Ab K' M') (hcn : Cn K K') : AE w0 p X p' K k (.returned (.tuple #[ptr p, .bool true])) w2 := by
  obtain ⟨Y', h⟩ := H.both h1 f1 h2 hab hcn
  exact ⟨Y', K', M', rfl, h, hcn.2.2⟩

section
variable (w0 w : World) (p : Nat) (X : Ly) (p' : Nat) (Y : Lr) (K : Kc) (M : Rc) (k : Nat)

set_option maxRecDepth 100000 in
set_option maxHeartbeats 4000000 in
theorem act_give (H : PA w0 w p X p' Y K M k) (hk : k ≤ 100000) (n : Int) : Calls Try.prog 14 #[ptr p, ptr p', .agg #[.int .i64 3, .int .i64 n]] w fun e w' => AE w0 p X p' K k e w' := by
  obtain ⟨w1, hw1⟩ : ∃ w1, w1 = w.alloc (.cells #[.int .i64 3, .int .i64 n] 36) := ⟨_, rfl⟩
  have f1 : Fr (fun _ => False) w w1 := by rw [hw1]; exact (Fr.refl _ _).alloc _
  have hbx : w1.heap[w.heap.size]? = some (.cells #[.int .i64 3, .int .i64 n] 36 (0, 0)) := by rw [hw1]; exact heap_alloc_new w _
  have H1 := H.kept f1
  obtain ⟨-, hb1, -, hb4, hb5⟩ := H.bd hk
  have HG1 : Hid (∀ W, Fr (fun _ => False) w1 W → Calls Try.prog 30 #[.pointer (some ⟨p, 0, none⟩), .int .i64 n] W fun e w' => e = .returned (.int .i64 (K.give n).2) ∧ KA w' p X (K.give n).1 ∧ Fr (Bl p X) W w') := hide (fun W f => give_any W p X K (H1.ka.kept f (fun _ _ h => h)) n hb1)
  have HG2 : Hid (∀ W, Fr (Bl p X) w1 W → Calls Try.prog 46 #[.pointer (some ⟨p', 0, none⟩), .int .i64 n] W fun e w' => e = .returned (.int .i64 (K.give n).2) ∧ RE W p' Y (M.give n).1 w') := hide (fun W f => by rw [(H.ab.give n).1]; exact rGive_any W p' Y M (H1.rbof f) n hb5)
  have cb : ∀ W, Fr (Bl p X) w1 W → W.cell? ⟨w.heap.size, 1, none⟩ = some (.int .i64 n) := fun W f => by
    rw [f.cell (a := ⟨w.heap.size, 1, none⟩) (lt_of_heap hbx) (fun hb => by have := H.ka.lt _ hb; exact absurd this (Nat.lt_irrefl _)), cell_of_heap hbx]; rfl
  have HCB := hide cb
  have HEND : Hid (∀ w2 w3, KA w2 p X (K.give n).1 → Fr (Bl p X) w1.drew w2 → RE w2 p' Y (M.give n).1 w3 → AE w0 p X p' K k (.returned (.tuple #[ptr p, .bool true])) w3) := hide (fun w2 w3 a b c => H1.ae a b.drewL c (H.ab.give n).2 (give_cn K n))
  generalize (K.give n).2 = er at *
  generalize (K.give n).1 = K2 at *
  generalize (M.give n).1 = M2 at *
  have HW1 := hide hw1
  clear hbx H1 hb1 hb5 hb4 cb hw1 H
  unfold ptr at *
  go_enter Try.func14, Try.ntmps14
  go_wp2_with fail
  rw [← unhide HW1]
  have c1 := unhide HCB w1 (Fr.refl _ _)
  go_region_with ((first | (go_at_call 30; refine (unhide HG1 _ (by first | exact Fr.ofDrewN _ 1 | exact Fr.ofDrewN _ _)).mono ?_; rintro e w2 ⟨rfl, hK2, f2⟩; have c2 := unhide HCB w2 ((Fr.ofDrewN _ 1).trans f2 (fun _ _ h => h))) | (go_at_call 13; refine (num_any _ _).mono ?_; rintro e w' ⟨rfl, rfl⟩) | (go_at_call 46; refine (unhide HG2 _ (by first | exact ((Fr.ofDrewN _ 1).trans f2 (fun _ _ h => h)) | exact (((Fr.ofDrewN _ 1).trans f2 (fun _ _ h => h)).drewN _))).mono ?_; rintro e w3 ⟨rfl, hE⟩)))
  all_goals
    have HE := hide (unhide HEND w2 w3 hK2 f2 hE)
    clear hK2 f2 hE
    go_wp2_with fail
    go_ret2
    exact unhide HE

set_option maxRecDepth 100000 in
set_option maxHeartbeats 4000000 in
theorem act_mark (H : PA w0 w p X p' Y K M k) (hk : k ≤ 100000) (n : Int) : Calls Try.prog 14 #[ptr p, ptr p', .agg #[.int .i64 4, .int .i64 n]] w fun e w' => AE w0 p X p' K k e w' := by
  obtain ⟨w1, hw1⟩ : ∃ w1, w1 = w.alloc (.cells #[.int .i64 4, .int .i64 n] 36) := ⟨_, rfl⟩
  have f1 : Fr (fun _ => False) w w1 := by rw [hw1]; exact (Fr.refl _ _).alloc _
  have hbx : w1.heap[w.heap.size]? = some (.cells #[.int .i64 4, .int .i64 n] 36 (0, 0)) := by rw [hw1]; exact heap_alloc_new w _
  have H1 := H.kept f1
  obtain ⟨-, hb1, -, hb4, hb5⟩ := H.bd hk
  have HG1 : Hid (∀ W, Fr (fun _ => False) w1 W → Calls Try.prog 35 #[.pointer (some ⟨p, 0, none⟩), .int .i64 n] W fun e w' => e = .returned (.int .i64 (K.mark n).2) ∧ KA w' p X (K.mark n).1 ∧ Fr (Bl p X) W w') := hide (fun W f => mark_any W p X K (H1.ka.kept f (fun _ _ h => h)) n hb1)
  have HG2 : Hid (∀ W, Fr (Bl p X) w1 W → Calls Try.prog 47 #[.pointer (some ⟨p', 0, none⟩), .int .i64 n] W fun e w' => e = .returned (.int .i64 (K.mark n).2) ∧ RE W p' Y (M.mark n).1 w') := hide (fun W f => by rw [(H.ab.mark n).1]; exact rMark_any W p' Y M (H1.rbof f) n hb4)
  have cb : ∀ W, Fr (Bl p X) w1 W → W.cell? ⟨w.heap.size, 1, none⟩ = some (.int .i64 n) := fun W f => by
    rw [f.cell (a := ⟨w.heap.size, 1, none⟩) (lt_of_heap hbx) (fun hb => by have := H.ka.lt _ hb; exact absurd this (Nat.lt_irrefl _)), cell_of_heap hbx]; rfl
  have HCB := hide cb
  have HEND : Hid (∀ w2 w3, KA w2 p X (K.mark n).1 → Fr (Bl p X) w1.drew w2 → RE w2 p' Y (M.mark n).1 w3 → AE w0 p X p' K k (.returned (.tuple #[ptr p, .bool true])) w3) := hide (fun w2 w3 a b c => H1.ae a b.drewL c (H.ab.mark n).2 (mark_cn K n))
  generalize (K.mark n).2 = er at *
  generalize (K.mark n).1 = K2 at *
  generalize (M.mark n).1 = M2 at *
  have HW1 := hide hw1
  clear hbx H1 hb1 hb5 hb4 cb hw1 H
  unfold ptr at *
  go_enter Try.func14, Try.ntmps14
  go_wp2_with fail
  rw [← unhide HW1]
  have c1 := unhide HCB w1 (Fr.refl _ _)
  go_region_with ((first | (go_at_call 35; refine (unhide HG1 _ (by first | exact Fr.ofDrewN _ 1 | exact Fr.ofDrewN _ _)).mono ?_; rintro e w2 ⟨rfl, hK2, f2⟩; have c2 := unhide HCB w2 ((Fr.ofDrewN _ 1).trans f2 (fun _ _ h => h))) | (go_at_call 13; refine (num_any _ _).mono ?_; rintro e w' ⟨rfl, rfl⟩) | (go_at_call 47; refine (unhide HG2 _ (by first | exact ((Fr.ofDrewN _ 1).trans f2 (fun _ _ h => h)) | exact (((Fr.ofDrewN _ 1).trans f2 (fun _ _ h => h)).drewN _))).mono ?_; rintro e w3 ⟨rfl, hE⟩)))
  all_goals
    have HE := hide (unhide HEND w2 w3 hK2 f2 hE)
    clear hK2 f2 hE
    go_wp2_with fail
    go_ret2
    exact unhide HE

set_option maxRecDepth 100000 in
set_option maxHeartbeats 4000000 in
theorem act_reserve (H : PA w0 w p X p' Y K M k) (hk : k ≤ 100000) (n : Int) : Calls Try.prog 14 #[ptr p, ptr p', .agg #[.int .i64 5, .int .i64 n]] w fun e w' => AE w0 p X p' K k e w' := by
  obtain ⟨w1, hw1⟩ : ∃ w1, w1 = w.alloc (.cells #[.int .i64 5, .int .i64 n] 36) := ⟨_, rfl⟩
  have f1 : Fr (fun _ => False) w w1 := by rw [hw1]; exact (Fr.refl _ _).alloc _
  have hbx : w1.heap[w.heap.size]? = some (.cells #[.int .i64 5, .int .i64 n] 36 (0, 0)) := by rw [hw1]; exact heap_alloc_new w _
  have H1 := H.kept f1
  obtain ⟨-, hb1, -, hb4, hb5⟩ := H.bd hk
  have HG1 : Hid (∀ W, Fr (fun _ => False) w1 W → Calls Try.prog 31 #[.pointer (some ⟨p, 0, none⟩), .int .i64 n] W fun e w' => e = .returned (.int .i64 (K.reserve n).2) ∧ KA w' p X (K.reserve n).1 ∧ Fr (Bl p X) W w') := hide (fun W f => reserve_any W p X K (H1.ka.kept f (fun _ _ h => h)) n)
  have HG2 : Hid (∀ W, Fr (Bl p X) w1 W → Calls Try.prog 48 #[.pointer (some ⟨p', 0, none⟩), .int .i64 n] W fun e w' => e = .returned (.int .i64 (K.reserve n).2) ∧ RE W p' Y (M.reserve n).1 w') := hide (fun W f => by rw [(H.ab.reserve n).1]; exact rReserve_any W p' Y M (H1.rbof f) n)
  have cb : ∀ W, Fr (Bl p X) w1 W → W.cell? ⟨w.heap.size, 1, none⟩ = some (.int .i64 n) := fun W f => by
    rw [f.cell (a := ⟨w.heap.size, 1, none⟩) (lt_of_heap hbx) (fun hb => by have := H.ka.lt _ hb; exact absurd this (Nat.lt_irrefl _)), cell_of_heap hbx]; rfl
  have HCB := hide cb
  have HEND : Hid (∀ w2 w3, KA w2 p X (K.reserve n).1 → Fr (Bl p X) w1.drew w2 → RE w2 p' Y (M.reserve n).1 w3 → AE w0 p X p' K k (.returned (.tuple #[ptr p, .bool true])) w3) := hide (fun w2 w3 a b c => H1.ae a b.drewL c (H.ab.reserve n).2 (reserve_cn K n))
  generalize (K.reserve n).2 = er at *
  generalize (K.reserve n).1 = K2 at *
  generalize (M.reserve n).1 = M2 at *
  have HW1 := hide hw1
  clear hbx H1 hb1 hb5 hb4 cb hw1 H
  unfold ptr at *
  go_enter Try.func14, Try.ntmps14
  go_wp2_with fail
  rw [← unhide HW1]
  have c1 := unhide HCB w1 (Fr.refl _ _)
  go_region_with ((first | (go_at_call 31; refine (unhide HG1 _ (by first | exact Fr.ofDrewN _ 1 | exact Fr.ofDrewN _ _)).mono ?_; rintro e w2 ⟨rfl, hK2, f2⟩; have c2 := unhide HCB w2 ((Fr.ofDrewN _ 1).trans f2 (fun _ _ h => h))) | (go_at_call 13; refine (num_any _ _).mono ?_; rintro e w' ⟨rfl, rfl⟩) | (go_at_call 48; refine (unhide HG2 _ (by first | exact ((Fr.ofDrewN _ 1).trans f2 (fun _ _ h => h)) | exact (((Fr.ofDrewN _ 1).trans f2 (fun _ _ h => h)).drewN _))).mono ?_; rintro e w3 ⟨rfl, hE⟩)))
  all_goals
    have HE := hide (unhide HEND w2 w3 hK2 f2 hE)
    clear hK2 f2 hE
    go_wp2_with fail
    go_ret2
    exact unhide HE

set_option maxRecDepth 100000 in
set_option maxHeartbeats 4000000 in
theorem act_release (H : PA w0 w p X p' Y K M k) (hk : k ≤ 100000) (n : Int) : Calls Try.prog 14 #[ptr p, ptr p', .agg #[.int .i64 6, .int .i64 n]] w fun e w' => AE w0 p X p' K k e w' := by
  obtain ⟨w1, hw1⟩ : ∃ w1, w1 = w.alloc (.cells #[.int .i64 6, .int .i64 n] 36) := ⟨_, rfl⟩
  have f1 : Fr (fun _ => False) w w1 := by rw [hw1]; exact (Fr.refl _ _).alloc _
  have hbx : w1.heap[w.heap.size]? = some (.cells #[.int .i64 6, .int .i64 n] 36 (0, 0)) := by rw [hw1]; exact heap_alloc_new w _
  have H1 := H.kept f1
  obtain ⟨-, hb1, -, hb4, hb5⟩ := H.bd hk
  have HG1 : Hid (∀ W, Fr (fun _ => False) w1 W → Calls Try.prog 36 #[.pointer (some ⟨p, 0, none⟩), .int .i64 n] W fun e w' => e = .returned (.int .i64 (K.release n).2) ∧ KA w' p X (K.release n).1 ∧ Fr (Bl p X) W w') := hide (fun W f => release_any W p X K (H1.ka.kept f (fun _ _ h => h)) n)
  have HG2 : Hid (∀ W, Fr (Bl p X) w1 W → Calls Try.prog 49 #[.pointer (some ⟨p', 0, none⟩), .int .i64 n] W fun e w' => e = .returned (.int .i64 (K.release n).2) ∧ RE W p' Y (M.release n).1 w') := hide (fun W f => by rw [(H.ab.release n).1]; exact rRelease_any W p' Y M (H1.rbof f) n)
  have cb : ∀ W, Fr (Bl p X) w1 W → W.cell? ⟨w.heap.size, 1, none⟩ = some (.int .i64 n) := fun W f => by
    rw [f.cell (a := ⟨w.heap.size, 1, none⟩) (lt_of_heap hbx) (fun hb => by have := H.ka.lt _ hb; exact absurd this (Nat.lt_irrefl _)), cell_of_heap hbx]; rfl
  have HCB := hide cb
  have HEND : Hid (∀ w2 w3, KA w2 p X (K.release n).1 → Fr (Bl p X) w1.drew w2 → RE w2 p' Y (M.release n).1 w3 → AE w0 p X p' K k (.returned (.tuple #[ptr p, .bool true])) w3) := hide (fun w2 w3 a b c => H1.ae a b.drewL c (H.ab.release n).2 (release_cn K n))
  generalize (K.release n).2 = er at *
  generalize (K.release n).1 = K2 at *
  generalize (M.release n).1 = M2 at *
  have HW1 := hide hw1
  clear hbx H1 hb1 hb5 hb4 cb hw1 H
  unfold ptr at *
  go_enter Try.func14, Try.ntmps14
  go_wp2_with fail
  rw [← unhide HW1]
  have c1 := unhide HCB w1 (Fr.refl _ _)
  go_region_with ((first | (go_at_call 36; refine (unhide HG1 _ (by first | exact Fr.ofDrewN _ 1 | exact Fr.ofDrewN _ _)).mono ?_; rintro e w2 ⟨rfl, hK2, f2⟩; have c2 := unhide HCB w2 ((Fr.ofDrewN _ 1).trans f2 (fun _ _ h => h))) | (go_at_call 13; refine (num_any _ _).mono ?_; rintro e w' ⟨rfl, rfl⟩) | (go_at_call 49; refine (unhide HG2 _ (by first | exact ((Fr.ofDrewN _ 1).trans f2 (fun _ _ h => h)) | exact (((Fr.ofDrewN _ 1).trans f2 (fun _ _ h => h)).drewN _))).mono ?_; rintro e w3 ⟨rfl, hE⟩)))
  all_goals
    have HE := hide (unhide HEND w2 w3 hK2 f2 hE)
    clear hK2 f2 hE
    go_wp2_with fail
    go_ret2
    exact unhide HE

end
end Go.Proofs.Ytbpajilglfabbaa
