/-
  The walk of the law RsRows.
-/
import Derived.Test.YtckmddkhkdcmmaaRs11
import Derived.Test.YtckmddkhkdcmmaaFree2
namespace Go.Proofs.Ytckmddkhkdcmmaa
open Go.RowKit
set_option linter.unusedVariables false

attribute [local go_sem ↓] Go.wp_at_zero Go.wp_at_succ

theorem wp_name {P : Program} {C : Code} {Q : Exit → Act → World → Prop} {a : Act} {w : World} (h : ∀ a0, a0 = a → C.wp P Q a0 w) : C.wp P Q a w := h a rfl

theorem cfv38 (args : Array Value) (W : World) : Sem.run Try.prog (callFunc 38 args) W = .ok (.enter 38 args) W := by simp [go_sem]
theorem cfv39 (args : Array Value) (W : World) : Sem.run Try.prog (callFunc 39 args) W = .ok (.enter 39 args) W := by simp [go_sem]
theorem cfv40 (args : Array Value) (W : World) : Sem.run Try.prog (callFunc 40 args) W = .ok (.enter 40 args) W := by simp [go_sem]
theorem cfv41 (args : Array Value) (W : World) : Sem.run Try.prog (callFunc 41 args) W = .ok (.enter 41 args) W := by simp [go_sem]
theorem cfv42 (args : Array Value) (W : World) : Sem.run Try.prog (callFunc 42 args) W = .ok (.enter 42 args) W := by simp [go_sem]
theorem cfv47 (args : Array Value) (W : World) : Sem.run Try.prog (callFunc 47 args) W = .ok (.enter 47 args) W := by simp [go_sem]
theorem cfv48 (args : Array Value) (W : World) : Sem.run Try.prog (callFunc 48 args) W = .ok (.enter 48 args) W := by simp [go_sem]

theorem okB_nat {k m : Int} (h : okB k m = true) : ∃ k' m' : Nat, k = (k' : Int) ∧ m = (m' : Int) ∧ (1 ≤ k' ∧ k' ≤ 16) ∧ m' ≤ 8 := by
  have h' : 1 ≤ k ∧ k ≤ 16 ∧ 0 ≤ m ∧ m ≤ 8 := by simpa [okB] using h
  exact ⟨k.toNat, m.toNat, by omega, by omega, by omega, by omega⟩

set_option maxHeartbeats 1000000 in
theorem rowsWalk_no (w : World) (k m i : Int) (h : okB k m = false) : Calls Try.prog 6 #[.int .i64 k, .int .i64 m, .int .i64 i] w fun e w' => e = .returned (.bool true) ∧ Fr (fun _ => False) w w' := by
  have HB := hide (both_no w k m h)
  clear h
  go_enter Try.func6, Try.ntmps6
  go_wp2_with fail
  refine (unhide HB).mono ?_
  rintro e w1 ⟨rfl, rfl⟩
  go_wp2_with fail
  refine (live3_any _).mono ?_
  rintro e w2 ⟨rfl, f2⟩
  go_wp2_with fail
  go_ret
  exact ⟨rfl, f2⟩

set_option maxHeartbeats 4000000 in
set_option maxRecDepth 100000 in
theorem rowsWalk_ok (w : World) (k m : Nat) (i : Int) (hk : 1 ≤ k ∧ k ≤ 16) (hm : m ≤ 8) : Calls Try.prog 6 #[.int .i64 (k : Int), .int .i64 (m : Int), .int .i64 i] w fun e w' => e = .returned (.bool true) ∧ Fr (fun _ => False) w w' := by
  have HBo := hide (both_ok w k m hk hm)
  go_enter Try.func6, Try.ntmps6
  go_wp2_with fail
  refine (unhide HBo).mono ?_
  rintro e w1 ⟨⟨p, q, rfl, -, -, hC, hD⟩, f1⟩
  have HC := hide hC
  have HD := hide hD
  have HF := hide f1
  clear hC hD f1 HBo
  go_wp2_with fail
  refine wp_name ?_
  intro a0 hA
  have h0 : a0.tmps.getD 0 undef = .int .i64 (k : Int) := by rw [hA]; rfl
  have h1 : a0.tmps.getD 1 undef = .int .i64 (m : Int) := by rw [hA]; rfl
  have h2 : a0.tmps.getD 2 undef = .int .i64 i := by rw [hA]; rfl
  have h7 : a0.tmps.getD 7 undef = .pointer (some ⟨p, 0, none⟩) := by rw [hA]; rfl
  have h8 : a0.tmps.getD 8 undef = .pointer (some ⟨q, 0, none⟩) := by rw [hA]; rfl
  have hsz : a0.tmps.size = 46 := by rw [hA]; rfl
  have hdf : a0.defers = [] := by rw [hA]
  clear hA
  refine wp_region_free (by kernel_rfl) (by kernel_rfl) (by decide +kernel) (by rw [hsz]; decide +kernel) (Tk [.eq (.pointer (some ⟨p, 0, none⟩)), .eq (.int .i64 (k : Int)), .eq (.int .i64 (k : Int)), .eq (.bool true), .eq (.bool true), .eq (.pointer (some ⟨p, 0, none⟩)), .eq (.int .i64 (m : Int)), .eq (.int .i64 (m : Int)), .eq (.bool true), .eq (.bool true), .eq (.bool true), .eq (.pointer (some ⟨p, 0, none⟩)), .eq (.int .i64 i), .sl (rowX k m i).length (rowX k m i), .eq (.string (str (rowX k m i))), .eq (.pointer (some ⟨q, 0, none⟩)), .eq (.int .i64 i), .sl (rowX k m i).length (rowX k m i), .eq (.string (str (rowX k m i))), .eq (.bool true), .eq (.bool true), .eq (.bool true), .eq (.bool true), .eq (.bool true), .eq (.bool true)]) (Tk.mono _) ?steps ?done
  case steps =>
    refine ⟨?_, ?_⟩
    · intro a' w' hb hf hd
      exact ⟨wanted_none rfl, ex_val (.pointer (some ⟨p, 0, none⟩)) (ex_move rfl ((hb.old 7 (by decide +kernel)).trans h7)) rfl⟩
    refine ⟨?_, ?_⟩
    · intro a' w' hb hf hd
      exact ⟨wanted_none rfl, ex_call 39 _ (en_call1 rfl rfl (hd 0 (by kernel_rfl) 22 rfl) cfv39) ((data_any w' p k m ((unhide HC).kept hf (fun _ _ h => h))).mono (by rintro e w7 ⟨rfl, rfl⟩; exact ⟨⟨_, rfl, rfl⟩, Fr.refl _ _⟩))⟩
    refine ⟨?_, ?_⟩
    · intro a' w' hb hf hd
      exact ⟨wanted_none rfl, ex_val (.int .i64 (k : Int)) (ex_move rfl ((hb.old 0 (by decide +kernel)).trans h0)) rfl⟩
    refine ⟨?_, ?_⟩
    · intro a' w' hb hf hd
      exact ⟨wanted_none rfl, ex_val (.bool true) (ex_eqI Try.underlying3 rfl (hd 1 (by kernel_rfl) 23 rfl) (hd 2 (by kernel_rfl) 24 rfl)) rfl⟩
    refine ⟨?_, ?_⟩
    · intro a' w' hb hf hd
      exact ⟨wanted_none rfl, ex_val (.bool true) (ex_move rfl (hd 3 (by kernel_rfl) 25 rfl)) rfl⟩
    refine ⟨?_, ?_⟩
    · intro a' w' hb hf hd
      exact ⟨wanted_of (d := 26) rfl rfl (by rw [hb.size, hsz]; omega) (hd 4 (by kernel_rfl) 26 rfl), ex_val (.pointer (some ⟨p, 0, none⟩)) (ex_move rfl ((hb.old 7 (by decide +kernel)).trans h7)) rfl⟩
    refine ⟨?_, ?_⟩
    · intro a' w' hb hf hd
      exact ⟨wanted_of (d := 26) rfl rfl (by rw [hb.size, hsz]; omega) (hd 4 (by kernel_rfl) 26 rfl), ex_call 40 _ (en_call1 rfl rfl (hd 5 (by kernel_rfl) 27 rfl) cfv40) ((parity_any w' p k m ((unhide HC).kept hf (fun _ _ h => h))).mono (by rintro e w7 ⟨rfl, rfl⟩; exact ⟨⟨_, rfl, rfl⟩, Fr.refl _ _⟩))⟩
    refine ⟨?_, ?_⟩
    · intro a' w' hb hf hd
      exact ⟨wanted_of (d := 26) rfl rfl (by rw [hb.size, hsz]; omega) (hd 4 (by kernel_rfl) 26 rfl), ex_val (.int .i64 (m : Int)) (ex_move rfl ((hb.old 1 (by decide +kernel)).trans h1)) rfl⟩
    refine ⟨?_, ?_⟩
    · intro a' w' hb hf hd
      exact ⟨wanted_of (d := 26) rfl rfl (by rw [hb.size, hsz]; omega) (hd 4 (by kernel_rfl) 26 rfl), ex_val (.bool true) (ex_eqI Try.underlying3 rfl (hd 6 (by kernel_rfl) 28 rfl) (hd 7 (by kernel_rfl) 29 rfl)) rfl⟩
    refine ⟨?_, ?_⟩
    · intro a' w' hb hf hd
      exact ⟨wanted_none rfl, ex_val (.bool true) (ex_pick rfl (hd 4 (by kernel_rfl) 26 rfl) (hd 8 (by kernel_rfl) 30 rfl)) rfl⟩
    refine ⟨?_, ?_⟩
    · intro a' w' hb hf hd
      exact ⟨wanted_none rfl, ex_val (.bool true) (ex_move rfl (hd 9 (by kernel_rfl) 31 rfl)) rfl⟩
    refine ⟨?_, ?_⟩
    · intro a' w' hb hf hd
      exact ⟨wanted_of (d := 32) rfl rfl (by rw [hb.size, hsz]; omega) (hd 10 (by kernel_rfl) 32 rfl), ex_val (.pointer (some ⟨p, 0, none⟩)) (ex_move rfl ((hb.old 7 (by decide +kernel)).trans h7)) rfl⟩
    refine ⟨?_, ?_⟩
    · intro a' w' hb hf hd
      exact ⟨wanted_of (d := 32) rfl rfl (by rw [hb.size, hsz]; omega) (hd 10 (by kernel_rfl) 32 rfl), ex_val (.int .i64 i) (ex_move rfl ((hb.old 2 (by decide +kernel)).trans h2)) rfl⟩
    refine ⟨?_, ?_⟩
    · intro a' w' hb hf hd
      exact ⟨wanted_of (d := 32) rfl rfl (by rw [hb.size, hsz]; omega) (hd 10 (by kernel_rfl) 32 rfl), ex_call 41 _ (en_call2 rfl rfl (hd 11 (by kernel_rfl) 33 rfl) (hd 12 (by kernel_rfl) 34 rfl) cfv41) ((Row_any w' p k m i ((unhide HC).kept hf (fun _ _ h => h))).mono (by rintro e w7 ⟨⟨ao, cap, rfl, R⟩, f⟩; exact ⟨⟨_, rfl, ⟨ao, cap, rfl, R⟩⟩, f⟩))⟩
    refine ⟨?_, ?_⟩
    · intro a' w' hb hf hd
      obtain ⟨ao, cap, hv, R⟩ := hd 13 (by kernel_rfl) 35 rfl; exact ⟨wanted_of (d := 32) rfl rfl (by rw [hb.size, hsz]; omega) (hd 10 (by kernel_rfl) 32 rfl), ex_val (.string (str (rowX k m i))) (ex_conv rfl hv (conv_rd (P := Try.prog) R 22 9 5 Try.underlying22 Try.underlying5 Try.underlying9)) rfl⟩
    refine ⟨?_, ?_⟩
    · intro a' w' hb hf hd
      exact ⟨wanted_of (d := 32) rfl rfl (by rw [hb.size, hsz]; omega) (hd 10 (by kernel_rfl) 32 rfl), ex_val (.pointer (some ⟨q, 0, none⟩)) (ex_move rfl ((hb.old 8 (by decide +kernel)).trans h8)) rfl⟩
    refine ⟨?_, ?_⟩
    · intro a' w' hb hf hd
      exact ⟨wanted_of (d := 32) rfl rfl (by rw [hb.size, hsz]; omega) (hd 10 (by kernel_rfl) 32 rfl), ex_val (.int .i64 i) (ex_move rfl ((hb.old 2 (by decide +kernel)).trans h2)) rfl⟩
    refine ⟨?_, ?_⟩
    · intro a' w' hb hf hd
      exact ⟨wanted_of (d := 32) rfl rfl (by rw [hb.size, hsz]; omega) (hd 10 (by kernel_rfl) 32 rfl), ex_call 42 _ (en_call2 rfl rfl (hd 15 (by kernel_rfl) 37 rfl) (hd 16 (by kernel_rfl) 38 rfl) cfv42) ((rRow_any w' q k m i ((unhide HD).kept hf id) hk hm).mono (by rintro e w7 ⟨⟨ao, cap, rfl, R⟩, f⟩; exact ⟨⟨_, rfl, ⟨ao, cap, rfl, R⟩⟩, f⟩))⟩
    refine ⟨?_, ?_⟩
    · intro a' w' hb hf hd
      obtain ⟨ao, cap, hv, R⟩ := hd 17 (by kernel_rfl) 39 rfl; exact ⟨wanted_of (d := 32) rfl rfl (by rw [hb.size, hsz]; omega) (hd 10 (by kernel_rfl) 32 rfl), ex_val (.string (str (rowX k m i))) (ex_conv rfl hv (conv_rd (P := Try.prog) R 22 9 5 Try.underlying22 Try.underlying5 Try.underlying9)) rfl⟩
    refine ⟨?_, ?_⟩
    · intro a' w' hb hf hd
      exact ⟨wanted_of (d := 32) rfl rfl (by rw [hb.size, hsz]; omega) (hd 10 (by kernel_rfl) 32 rfl), ex_val (.bool true) (ex_eqS rfl (hd 14 (by kernel_rfl) 36 rfl) (hd 18 (by kernel_rfl) 40 rfl)) rfl⟩
    refine ⟨?_, ?_⟩
    · intro a' w' hb hf hd
      exact ⟨wanted_none rfl, ex_val (.bool true) (ex_pick rfl (hd 10 (by kernel_rfl) 32 rfl) (hd 19 (by kernel_rfl) 41 rfl)) rfl⟩
    refine ⟨?_, ?_⟩
    · intro a' w' hb hf hd
      exact ⟨wanted_none rfl, ex_val (.bool true) (ex_move rfl (hd 20 (by kernel_rfl) 42 rfl)) rfl⟩
    refine ⟨?_, ?_⟩
    · intro a' w' hb hf hd
      exact ⟨wanted_of (d := 43) rfl rfl (by rw [hb.size, hsz]; omega) (hd 21 (by kernel_rfl) 43 rfl), ex_call 38 _ (en_call0 rfl rfl cfv38) ((live3_any w').mono (by rintro e w7 ⟨rfl, f⟩; exact ⟨⟨_, rfl, rfl⟩, f⟩))⟩
    refine ⟨?_, ?_⟩
    · intro a' w' hb hf hd
      exact ⟨wanted_none rfl, ex_val (.bool true) (ex_pick rfl (hd 21 (by kernel_rfl) 43 rfl) (hd 22 (by kernel_rfl) 44 rfl)) rfl⟩
    refine ⟨?_, ?_⟩
    · intro a' w' hb hf hd
      exact ⟨wanted_none rfl, ex_val (.bool true) (ex_assign rfl (hd 23 (by kernel_rfl) 45 rfl)) rfl⟩
    exact trivial
  case done =>
    intro a' w' hb hf hall
    have hres : a'.tmps.getD 6 undef = .bool true := hall 24 (by decide) 6 rfl
    have hdf' : a'.defers = [] := by rw [hb.defers]; exact hdf
    have hF : Fr (fun _ => False) w w' := (unhide HF).trans hf (fun _ _ h => h)
    have hr : bodyPost Try.prog Try.f6 (fun e w' => e = Ending.returned (Value.bool true) ∧ Fr (fun x => False) w w') .ret a' w' :=
      bodyPost_ret (v := .bool true) (by
        have h6' : a'.tmps[6]?.getD undef = .bool true := by simpa using hres
        simp [results, Try.results6, go_sem, h6']) hdf' ⟨rfl, hF⟩
    clear hall hb
    apply_assumption
    exact wp_ret hr

theorem rowsWalk (w : World) (k m i : Int) : Calls Try.prog 6 #[.int .i64 k, .int .i64 m, .int .i64 i] w fun e w' => e = .returned (.bool true) ∧ Fr (fun _ => False) w w' := by
  rcases h : okB k m with _ | _
  · exact rowsWalk_no w k m i h
  · obtain ⟨k', m', rfl, rfl, hk, hm⟩ := okB_nat h
    exact rowsWalk_ok w k' m' i hk hm

end Go.Proofs.Ytckmddkhkdcmmaa
