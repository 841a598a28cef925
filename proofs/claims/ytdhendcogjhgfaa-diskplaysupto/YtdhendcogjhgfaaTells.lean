/-
  The walk of the laws' tells.
-/
import Derived.Test.YtdhendcogjhgfaaPlaysWalk
import Derived.Test.YtdhendcogjhgfaaOwnWalk
import Derived.Test.YtdhendcogjhgfaaCg3
namespace Go.Proofs.Ytdhendcogjhgfaa
open Go.RowKit
set_option linter.unusedVariables false

attribute [local go_sem ↓] Go.wp_at_zero Go.wp_at_succ

section
variable {ρ : Operand → Value} {o : Oper} {w : World}
theorem x_neB {x y : Operand} {b : Bool} (ho : o.op = .binOp .neq 4 x y 4) (hx : ρ x = .bool b) (hy : ρ y = .bool b) : (execOp ρ o).run Try.prog w = .ok (.value (.bool false)) w := by
  cases b <;> simp [execOp, ho, hx, hy, go_sem]
theorem x_len79 {x : Operand} {ao : Option Addr} {n c : Nat} (ho : o.op = .call { callee := .builtin .len, args := #[x], argTypes := #[79] }) (hx : ρ x = .slice ao n c) : (execOp ρ o).run Try.prog w = .ok (.value (.int .i64 (n : Int))) w := by
  simp [execOp, ho, hx, go_sem]
end
theorem fa81_0 (b : Nat) (W : World) : (Instr.fieldAt 81 (.pointer (some ⟨b, 0, none⟩)) 0).run Try.prog W = .ok (.pointer (some ⟨b, 0 + 0, none⟩)) W := by simp [go_sem]
theorem fa81_2 (b : Nat) (W : World) : (Instr.fieldAt 81 (.pointer (some ⟨b, 0, none⟩)) 2).run Try.prog W = .ok (.pointer (some ⟨b, 0 + 2, none⟩)) W := by simp [go_sem]
theorem fa81_3 (b : Nat) (W : World) : (Instr.fieldAt 81 (.pointer (some ⟨b, 0, none⟩)) 3).run Try.prog W = .ok (.pointer (some ⟨b, 0 + 3, none⟩)) W := by simp [go_sem]
theorem fa81_4 (b : Nat) (W : World) : (Instr.fieldAt 81 (.pointer (some ⟨b, 0, none⟩)) 4).run Try.prog W = .ok (.pointer (some ⟨b, 0 + 4, none⟩)) W := by simp [go_sem]
theorem fa81_5 (b : Nat) (W : World) : (Instr.fieldAt 81 (.pointer (some ⟨b, 0, none⟩)) 5).run Try.prog W = .ok (.pointer (some ⟨b, 0 + 5, none⟩)) W := by simp [go_sem]
theorem ld79 (W : World) (a : Addr) (u : Value) (h : W.cell? a = some u) : (Instr.loadAt 79 (.pointer (some a))).run Try.prog W = .ok u W := by simp [go_sem, h]
theorem ld47 (W : World) (a : Addr) (u : Value) (h : W.cell? a = some u) : (Instr.loadAt 47 (.pointer (some a))).run Try.prog W = .ok u W := by simp [go_sem, h]
theorem ld9 (W : World) (a : Addr) (u : Value) (h : W.cell? a = some u) : (Instr.loadAt 9 (.pointer (some a))).run Try.prog W = .ok u W := by simp [go_sem, h]
theorem cf20 (args : Array Value) (W : World) : Sem.run Try.prog (callFunc 20 args) W = .ok (.enter 20 args) W := by simp [go_sem]
theorem cf34 (args : Array Value) (W : World) : Sem.run Try.prog (callFunc 34 args) W = .ok (.enter 34 args) W := by simp [go_sem]
theorem cf38 (args : Array Value) (W : World) : Sem.run Try.prog (callFunc 38 args) W = .ok (.enter 38 args) W := by simp [go_sem]
theorem cf39 (args : Array Value) (W : World) : Sem.run Try.prog (callFunc 39 args) W = .ok (.enter 39 args) W := by simp [go_sem]
theorem cf47 (args : Array Value) (W : World) : Sem.run Try.prog (callFunc 47 args) W = .ok (.enter 47 args) W := by simp [go_sem]
theorem rd_len {d : Dk} (ok : d.Ok) (a : Int) : (rdD d a).1.length ≤ 512 := by
  have h1 := ok.size
  have hs : ∀ i, (d.S.getD i ([], 0)).1.length ≤ 512 := fun i => by
    by_cases hi : i < d.S.length
    · rw [List.getD_eq_getElem?_getD, List.getElem?_eq_getElem hi, Option.getD_some, (ok.sec _ (List.getElem_mem hi)).1]; exact h1.2
    · rw [List.getD_eq_getElem?_getD, List.getElem?_eq_none (by omega)]; simp
  have hq : ∀ i, (d.Q.getD i (0, [])).2.length ≤ 512 := fun i => by
    by_cases hi : i < d.Q.length
    · rw [List.getD_eq_getElem?_getD, List.getElem?_eq_getElem hi, Option.getD_some, (ok.wr _ (List.getElem_mem hi)).1]; exact h1.2
    · rw [List.getD_eq_getElem?_getD, List.getElem?_eq_none (by omega)]; simp
  unfold rdD
  split
  · split
    · simp
    · split
      · exact hq _
      · split
        · simp
        · exact hs _
  · simp
theorem st_len {d : Dk} (ok : d.Ok) (a : Int) : (stD d a).length ≤ 512 := by
  have h1 := ok.size
  unfold stD
  split
  · by_cases hi : a.toNat < d.S.length
    · rw [List.getD_eq_getElem?_getD, List.getElem?_eq_getElem hi, Option.getD_some, (ok.sec _ (List.getElem_mem hi)).1]; exact h1.2
    · rw [List.getD_eq_getElem?_getD, List.getElem?_eq_none (by omega)]; simp
  · simp
section
variable {ρ : Operand → Value} {o : Oper} {w : World}
theorem x_idx79 {x y : Operand} {b n c i : Nat} (hi : i < n) (hc : n ≤ c) (ho : o.op = .indexAddr 79 x y) (hx : ρ x = .slice (some ⟨b, 0, none⟩) n c) (hy : ρ y = .int .i64 (i : Int)) : (execOp ρ o).run Try.prog w = .ok (.value (.pointer (some ⟨b, 0 + i, none⟩))) w := by
  have h1 : (i : Int) < (n : Int) := by omega
  simp [execOp, ho, hx, hy, go_sem, h1]
theorem x_gtr {x y : Operand} {n m : Int} {b : Bool} (ho : o.op = .binOp .gtr 3 x y 3) (hx : ρ x = .int .i64 n) (hy : ρ y = .int .i64 m) (hb : decide (m < n) = b) : (execOp ρ o).run Try.prog w = .ok (.value (.bool b)) w := by
  subst hb; simp [execOp, ho, hx, hy, go_sem]
end
/-- A slice whose cells may be written, made since block N. -/
def SpB (N : Nat) (W : World) (ao : Option Addr) (n c : Nat) : Prop := n = 0 ∨ ∃ b o, ao = some ⟨b, o, none⟩ ∧ N ≤ b ∧ n ≤ c ∧ c ≤ maxLen ∧ ∃ cu : Array Value, W.heap[b]? = some (.cells cu 5 (0, 0)) ∧ o + n ≤ cu.size
theorem SpB.of {N : Nat} {W : World} {ao : Option Addr} {c : Nat} {l : List UInt8} (h : Rd W (.slice ao l.length c) l) (hn : NewB N W (.slice ao l.length c)) : SpB N W ao l.length c := by
  by_cases hl : l.length = 0
  · exact .inl hl
  · obtain ⟨b, o, rfl, -, h1, h2, h3⟩ := h.lits (by omega)
    obtain ⟨h4, cu, h5⟩ := hn b rfl
    refine .inr ⟨b, o, rfl, h4, h1, h2, cu, h5, ?_⟩
    have := h3 (l.length - 1) (by omega)
    rw [cell_of_heap h5] at this
    have := (Array.getElem?_eq_some_iff.1 this).1
    omega
theorem SpB.fr {N : Nat} {W W' : World} {ao : Option Addr} {n c : Nat} (h : SpB N W ao n c) (f : Fr (fun _ => False) W W') : SpB N W' ao n c := by
  rcases h with h | ⟨b, o, h1, h2, h3, h4, cu, h5, h6⟩
  · exact .inl h
  · exact .inr ⟨b, o, h1, h2, h3, h4, cu, by rw [f.block b (lt_of_heap h5) id]; exact h5, h6⟩
theorem SpB.set {N : Nat} {W : World} {ao : Option Addr} {n c : Nat} (h : SpB N W ao n c) (g i : Nat) (v : Value) : SpB N (W.setCell ⟨g, i, none⟩ v) ao n c := by
  rcases h with h | ⟨b, o, h1, h2, h3, h4, cu, h5, h6⟩
  · exact .inl h
  · refine .inr ⟨b, o, h1, h2, h3, h4, ?_⟩
    by_cases e : b = g
    · subst e
      exact ⟨_, heap_setCell_same W b i cu 5 v h5, by simpa using h6⟩
    · exact ⟨cu, by rw [Below.heap_setCell _ _ _ _ e]; exact h5, h6⟩

def kSr (l : List (Int × List UInt8)) : Kd (fun _ => False) := .pr (fun v W => SRd W v l) (fun _ _ _ h f => h.kept f (fun _ _ h => h))
theorem rinjured_rd {w : World} {p sg hg : Nat} {q : Value} {d : Dk} (h : RAt w p sg hg q d) : Calls Try.prog 47 #[.pointer (some ⟨p, 0, none⟩)] w fun e w' => ∃ ao c, e = .returned (.slice ao (inI d d.S.length).length c) ∧ RdV w' (.slice ao (inI d d.S.length).length c) ((iz (inI d d.S.length)).map (Value.int .i64)) ∧ Fr (fun _ => False) w w' := by
  refine (rinjured_any w p sg hg q d h).mono ?_
  rintro e w' ⟨⟨ao, c, rfl, h1, -⟩, f⟩
  refine ⟨ao, c, rfl, ?_, f⟩
  rw [iz_ivs]
  exact RdV.of_owns (by rw [ivs_length]; exact h1)

set_option maxHeartbeats 4000000 in
set_option maxRecDepth 100000 in
theorem tells_ok : TellsOk := by
  intro w0 w p gs q p2 sg hg q2 d hP
  have HP := hide hP
  clear hP
  go_enter Try.func16, Try.ntmps16
  go_wp2_with fail
  refine (queue_any _ _ _ _ _ (unhide HP).k).mono ?_
  rintro e w1 ⟨rfl, hs1, f1⟩
  have HG : Hid (w.heap.size ≤ w.heap.size) := hide (Nat.le_refl _)
  obtain ⟨gQ, hgQ⟩ : ∃ g, g = w.heap.size := ⟨_, rfl⟩
  rw [← hgQ] at hs1 ⊢
  have SA1 := hide hs1
  have SQ := hide (queue_srd (unhide HP).k.ok hs1)
  have K1 := hide ((unhide HP).fr f1).k
  have R1 := hide ((unhide HP).fr f1).r
  have F1 := hide f1
  have HGQ := hide hgQ
  clear hs1 f1 hgQ HG
  go_wp2_with fail
  refine wp_nameK ?_
  intro a0 hA
  have h0 : a0.tmps.getD 0 undef = .pointer (some ⟨p, 0, none⟩) := by rw [hA]; rfl
  have h1 : a0.tmps.getD 1 undef = .pointer (some ⟨p2, 0, none⟩) := by rw [hA]; rfl
  have h5 : a0.tmps.getD 5 undef = .slice (some ⟨gQ, 0, none⟩) d.Q.length d.Q.length := by rw [hA]; rfl
  have hsz : a0.tmps.size = 195 := by rw [hA]; rfl
  have hdf : a0.defers = [] := by rw [hA]
  have HA0 := hide hA
  clear hA
  refine wp_region_kinds (fun _ => False) (by kernel_rfl) (by kernel_rfl) (by decide +kernel) (by rw [hsz]; decide +kernel) [.eq (.pointer (some ⟨p, 0, none⟩)), .eq (.int .i64 (d.S.length : Int)), .eq (.pointer (some ⟨p2, 0, none⟩)), .eq (.pointer (some ⟨p2, 0, none⟩)), .eq (.pointer (some ⟨p2, 0 + 0, none⟩)), .eq (.slice (some ⟨sg, 0, none⟩) d.S.length d.S.length), .eq (.int .i64 (d.S.length : Int)), .eq (.bool false), .eq (.bool false), .eq (.pointer (some ⟨p, 0, none⟩)), .eq (.int .i64 (d.size : Int)), .eq (.pointer (some ⟨p2, 0, none⟩)), .eq (.pointer (some ⟨p2, 0, none⟩)), .eq (.pointer (some ⟨p2, 0 + 5, none⟩)), .eq (.int .i64 (d.size : Int)), .eq (.bool false), .eq (.bool false), .eq (.bool false), .eq (.pointer (some ⟨p, 0, none⟩)), .eq (.bool d.off), .eq (.pointer (some ⟨p2, 0, none⟩)), .eq (.pointer (some ⟨p2, 0, none⟩)), .eq (.pointer (some ⟨p2, 0 + 3, none⟩)), .eq (.bool d.off), .eq (.bool false), .eq (.bool false), .eq (.bool false), .eq (.pointer (some ⟨p, 0, none⟩)), .eq (.int .i64 (d.n : Int)), .eq (.pointer (some ⟨p2, 0, none⟩)), .eq (.pointer (some ⟨p2, 0, none⟩)), .eq (.pointer (some ⟨p2, 0 + 4, none⟩)), .eq (.int .i64 (d.n : Int)), .eq (.bool false), .eq (.bool false), .eq (.bool false), .eq (.slice (some ⟨gQ, 0, none⟩) d.Q.length d.Q.length), .eq (.pointer (some ⟨p2, 0, none⟩)), .eq (.pointer (some ⟨p2, 0, none⟩)), .eq (.pointer (some ⟨p2, 0 + 2, none⟩)), .eq (q2), .eq (.bool true), .eq (.bool false), .eq (.bool false), .eq (.bool false), .eq (.pointer (some ⟨p, 0, none⟩)), kRv (iz (inI d d.S.length)), .eq (.pointer (some ⟨p2, 0, none⟩)), kRv (iz (inI d d.S.length)), .eq (.bool true), .eq (.bool false), .eq (.bool false)] [] (by decide) (by decide) (nopaths) (fun _ W => Fr (fun _ => False) w1 W) (Fr.refl _ _).drew ?steps ?done
  case steps =>
    refine ⟨?_, ?_⟩
    · intro a' w' k' hb hf hs hc hq hg hd
      exact ⟨wantedN rfl, k_val (.pointer (some ⟨p, 0, none⟩)) (by decide) hs (x_move rfl ((hb.old 0 (by decide +kernel)).trans h0)) rfl⟩
    refine ⟨?_, ?_⟩
    · intro a' w' k' hb hf hs hc hq hg hd
      exact ⟨wantedN rfl, k_call 39 _ (by decide) (e_call1 rfl rfl (hd 0 (by kernel_rfl) 21 rfl) cf39) ((sectors_any _ _ _ _ _ ((unhide K1).kept hs id id (fun _ _ h => h))).mono (by rintro e w7 ⟨rfl, rfl⟩; exact ⟨_, rfl, rfl, Fr.refl _ _, hs⟩))⟩
    refine ⟨?_, ?_⟩
    · intro a' w' k' hb hf hs hc hq hg hd
      exact ⟨wantedN rfl, k_val (.pointer (some ⟨p2, 0, none⟩)) (by decide) hs (x_move rfl ((hb.old 1 (by decide +kernel)).trans h1)) rfl⟩
    refine ⟨?_, ?_⟩
    · intro a' w' k' hb hf hs hc hq hg hd
      exact ⟨wantedN rfl, k_val (.pointer (some ⟨p2, 0, none⟩)) (by decide) hs (x_nilCheck rfl (hd 2 (by kernel_rfl) 23 rfl)) rfl⟩
    refine ⟨?_, ?_⟩
    · intro a' w' k' hb hf hs hc hq hg hd
      exact ⟨wantedN rfl, k_val (.pointer (some ⟨p2, 0 + 0, none⟩)) (by decide) hs (x_field (fa81_0 p2) rfl (hd 3 (by kernel_rfl) 24 rfl)) rfl⟩
    refine ⟨?_, ?_⟩
    · intro a' w' k' hb hf hs hc hq hg hd
      exact ⟨wantedN rfl, k_val (.slice (some ⟨sg, 0, none⟩) d.S.length d.S.length) (by decide) hs (x_load1 ld79 rfl (hd 4 (by kernel_rfl) 25 rfl) (by have := cell_of_heap ((unhide R1).kept0 hs).heap 0; simpa using this)) rfl⟩
    refine ⟨?_, ?_⟩
    · intro a' w' k' hb hf hs hc hq hg hd
      exact ⟨wantedN rfl, k_val (.int .i64 (d.S.length : Int)) (by decide) hs (x_len79 rfl (hd 5 (by kernel_rfl) 26 rfl)) rfl⟩
    refine ⟨?_, ?_⟩
    · intro a' w' k' hb hf hs hc hq hg hd
      exact ⟨wantedN rfl, k_val (.bool false) (by decide) hs (x_neI Try.underlying3 rfl (hd 1 (by kernel_rfl) 22 rfl) (hd 6 (by kernel_rfl) 27 rfl) (by simp)) rfl⟩
    refine ⟨?_, ?_⟩
    · intro a' w' k' hb hf hs hc hq hg hd
      exact ⟨wantedN rfl, k_val (.bool false) (by decide) hs (x_move rfl (hd 7 (by kernel_rfl) 28 rfl)) rfl⟩
    refine ⟨?_, ?_⟩
    · intro a' w' k' hb hf hs hc hq hg hd
      exact ⟨wantedF (d := 29) rfl rfl (by rw [hb.size, hsz]; omega) (hd 8 (by kernel_rfl) 29 rfl), k_val (.pointer (some ⟨p, 0, none⟩)) (by decide) hs (x_move rfl ((hb.old 0 (by decide +kernel)).trans h0)) rfl⟩
    refine ⟨?_, ?_⟩
    · intro a' w' k' hb hf hs hc hq hg hd
      exact ⟨wantedF (d := 29) rfl rfl (by rw [hb.size, hsz]; omega) (hd 8 (by kernel_rfl) 29 rfl), k_call 38 _ (by decide) (e_call1 rfl rfl (hd 9 (by kernel_rfl) 30 rfl) cf38) ((size_any _ _ _ _ _ ((unhide K1).kept hs id id (fun _ _ h => h))).mono (by rintro e w7 ⟨rfl, rfl⟩; exact ⟨_, rfl, rfl, Fr.refl _ _, hs⟩))⟩
    refine ⟨?_, ?_⟩
    · intro a' w' k' hb hf hs hc hq hg hd
      exact ⟨wantedF (d := 29) rfl rfl (by rw [hb.size, hsz]; omega) (hd 8 (by kernel_rfl) 29 rfl), k_val (.pointer (some ⟨p2, 0, none⟩)) (by decide) hs (x_move rfl ((hb.old 1 (by decide +kernel)).trans h1)) rfl⟩
    refine ⟨?_, ?_⟩
    · intro a' w' k' hb hf hs hc hq hg hd
      exact ⟨wantedF (d := 29) rfl rfl (by rw [hb.size, hsz]; omega) (hd 8 (by kernel_rfl) 29 rfl), k_val (.pointer (some ⟨p2, 0, none⟩)) (by decide) hs (x_nilCheck rfl (hd 11 (by kernel_rfl) 32 rfl)) rfl⟩
    refine ⟨?_, ?_⟩
    · intro a' w' k' hb hf hs hc hq hg hd
      exact ⟨wantedF (d := 29) rfl rfl (by rw [hb.size, hsz]; omega) (hd 8 (by kernel_rfl) 29 rfl), k_val (.pointer (some ⟨p2, 0 + 5, none⟩)) (by decide) hs (x_field (fa81_5 p2) rfl (hd 12 (by kernel_rfl) 33 rfl)) rfl⟩
    refine ⟨?_, ?_⟩
    · intro a' w' k' hb hf hs hc hq hg hd
      exact ⟨wantedF (d := 29) rfl rfl (by rw [hb.size, hsz]; omega) (hd 8 (by kernel_rfl) 29 rfl), k_val (.int .i64 (d.size : Int)) (by decide) hs (x_load1 ld3 rfl (hd 13 (by kernel_rfl) 34 rfl) (by have := cell_of_heap ((unhide R1).kept0 hs).heap 5; simpa using this)) rfl⟩
    refine ⟨?_, ?_⟩
    · intro a' w' k' hb hf hs hc hq hg hd
      exact ⟨wantedF (d := 29) rfl rfl (by rw [hb.size, hsz]; omega) (hd 8 (by kernel_rfl) 29 rfl), k_val (.bool false) (by decide) hs (x_neI Try.underlying3 rfl (hd 10 (by kernel_rfl) 31 rfl) (hd 14 (by kernel_rfl) 35 rfl) (by simp)) rfl⟩
    refine ⟨?_, ?_⟩
    · intro a' w' k' hb hf hs hc hq hg hd
      exact ⟨wantedN rfl, k_val (.bool false) (by decide) hs (x_pickF rfl (hd 8 (by kernel_rfl) 29 rfl) (hd 15 (by kernel_rfl) 36 rfl)) rfl⟩
    refine ⟨?_, ?_⟩
    · intro a' w' k' hb hf hs hc hq hg hd
      exact ⟨wantedN rfl, k_val (.bool false) (by decide) hs (x_move rfl (hd 16 (by kernel_rfl) 37 rfl)) rfl⟩
    refine ⟨?_, ?_⟩
    · intro a' w' k' hb hf hs hc hq hg hd
      exact ⟨wantedF (d := 38) rfl rfl (by rw [hb.size, hsz]; omega) (hd 17 (by kernel_rfl) 38 rfl), k_val (.pointer (some ⟨p, 0, none⟩)) (by decide) hs (x_move rfl ((hb.old 0 (by decide +kernel)).trans h0)) rfl⟩
    refine ⟨?_, ?_⟩
    · intro a' w' k' hb hf hs hc hq hg hd
      exact ⟨wantedF (d := 38) rfl rfl (by rw [hb.size, hsz]; omega) (hd 17 (by kernel_rfl) 38 rfl), k_call 20 _ (by decide) (e_call1 rfl rfl (hd 18 (by kernel_rfl) 39 rfl) cf20) ((failed_any _ _ _ _ _ ((unhide K1).kept hs id id (fun _ _ h => h))).mono (by rintro e w7 ⟨rfl, rfl⟩; exact ⟨_, rfl, rfl, Fr.refl _ _, hs⟩))⟩
    refine ⟨?_, ?_⟩
    · intro a' w' k' hb hf hs hc hq hg hd
      exact ⟨wantedF (d := 38) rfl rfl (by rw [hb.size, hsz]; omega) (hd 17 (by kernel_rfl) 38 rfl), k_val (.pointer (some ⟨p2, 0, none⟩)) (by decide) hs (x_move rfl ((hb.old 1 (by decide +kernel)).trans h1)) rfl⟩
    refine ⟨?_, ?_⟩
    · intro a' w' k' hb hf hs hc hq hg hd
      exact ⟨wantedF (d := 38) rfl rfl (by rw [hb.size, hsz]; omega) (hd 17 (by kernel_rfl) 38 rfl), k_val (.pointer (some ⟨p2, 0, none⟩)) (by decide) hs (x_nilCheck rfl (hd 20 (by kernel_rfl) 41 rfl)) rfl⟩
    refine ⟨?_, ?_⟩
    · intro a' w' k' hb hf hs hc hq hg hd
      exact ⟨wantedF (d := 38) rfl rfl (by rw [hb.size, hsz]; omega) (hd 17 (by kernel_rfl) 38 rfl), k_val (.pointer (some ⟨p2, 0 + 3, none⟩)) (by decide) hs (x_field (fa81_3 p2) rfl (hd 21 (by kernel_rfl) 42 rfl)) rfl⟩
    refine ⟨?_, ?_⟩
    · intro a' w' k' hb hf hs hc hq hg hd
      exact ⟨wantedF (d := 38) rfl rfl (by rw [hb.size, hsz]; omega) (hd 17 (by kernel_rfl) 38 rfl), k_val (.bool d.off) (by decide) hs (x_load1 ld4 rfl (hd 22 (by kernel_rfl) 43 rfl) (by have := cell_of_heap ((unhide R1).kept0 hs).heap 3; simpa using this)) rfl⟩
    refine ⟨?_, ?_⟩
    · intro a' w' k' hb hf hs hc hq hg hd
      exact ⟨wantedF (d := 38) rfl rfl (by rw [hb.size, hsz]; omega) (hd 17 (by kernel_rfl) 38 rfl), k_val (.bool false) (by decide) hs (x_neB rfl (hd 19 (by kernel_rfl) 40 rfl) (hd 23 (by kernel_rfl) 44 rfl)) rfl⟩
    refine ⟨?_, ?_⟩
    · intro a' w' k' hb hf hs hc hq hg hd
      exact ⟨wantedN rfl, k_val (.bool false) (by decide) hs (x_pickF rfl (hd 17 (by kernel_rfl) 38 rfl) (hd 24 (by kernel_rfl) 45 rfl)) rfl⟩
    refine ⟨?_, ?_⟩
    · intro a' w' k' hb hf hs hc hq hg hd
      exact ⟨wantedN rfl, k_val (.bool false) (by decide) hs (x_move rfl (hd 25 (by kernel_rfl) 46 rfl)) rfl⟩
    refine ⟨?_, ?_⟩
    · intro a' w' k' hb hf hs hc hq hg hd
      exact ⟨wantedF (d := 47) rfl rfl (by rw [hb.size, hsz]; omega) (hd 26 (by kernel_rfl) 47 rfl), k_val (.pointer (some ⟨p, 0, none⟩)) (by decide) hs (x_move rfl ((hb.old 0 (by decide +kernel)).trans h0)) rfl⟩
    refine ⟨?_, ?_⟩
    · intro a' w' k' hb hf hs hc hq hg hd
      exact ⟨wantedF (d := 47) rfl rfl (by rw [hb.size, hsz]; omega) (hd 26 (by kernel_rfl) 47 rfl), k_call 35 _ (by decide) (e_call1 rfl rfl (hd 27 (by kernel_rfl) 48 rfl) cf35) ((writes_any _ _ _ _ _ ((unhide K1).kept hs id id (fun _ _ h => h))).mono (by rintro e w7 ⟨rfl, rfl⟩; exact ⟨_, rfl, rfl, Fr.refl _ _, hs⟩))⟩
    refine ⟨?_, ?_⟩
    · intro a' w' k' hb hf hs hc hq hg hd
      exact ⟨wantedF (d := 47) rfl rfl (by rw [hb.size, hsz]; omega) (hd 26 (by kernel_rfl) 47 rfl), k_val (.pointer (some ⟨p2, 0, none⟩)) (by decide) hs (x_move rfl ((hb.old 1 (by decide +kernel)).trans h1)) rfl⟩
    refine ⟨?_, ?_⟩
    · intro a' w' k' hb hf hs hc hq hg hd
      exact ⟨wantedF (d := 47) rfl rfl (by rw [hb.size, hsz]; omega) (hd 26 (by kernel_rfl) 47 rfl), k_val (.pointer (some ⟨p2, 0, none⟩)) (by decide) hs (x_nilCheck rfl (hd 29 (by kernel_rfl) 50 rfl)) rfl⟩
    refine ⟨?_, ?_⟩
    · intro a' w' k' hb hf hs hc hq hg hd
      exact ⟨wantedF (d := 47) rfl rfl (by rw [hb.size, hsz]; omega) (hd 26 (by kernel_rfl) 47 rfl), k_val (.pointer (some ⟨p2, 0 + 4, none⟩)) (by decide) hs (x_field (fa81_4 p2) rfl (hd 30 (by kernel_rfl) 51 rfl)) rfl⟩
    refine ⟨?_, ?_⟩
    · intro a' w' k' hb hf hs hc hq hg hd
      exact ⟨wantedF (d := 47) rfl rfl (by rw [hb.size, hsz]; omega) (hd 26 (by kernel_rfl) 47 rfl), k_val (.int .i64 (d.n : Int)) (by decide) hs (x_load1 ld3 rfl (hd 31 (by kernel_rfl) 52 rfl) (by have := cell_of_heap ((unhide R1).kept0 hs).heap 4; simpa using this)) rfl⟩
    refine ⟨?_, ?_⟩
    · intro a' w' k' hb hf hs hc hq hg hd
      exact ⟨wantedF (d := 47) rfl rfl (by rw [hb.size, hsz]; omega) (hd 26 (by kernel_rfl) 47 rfl), k_val (.bool false) (by decide) hs (x_neI Try.underlying3 rfl (hd 28 (by kernel_rfl) 49 rfl) (hd 32 (by kernel_rfl) 53 rfl) (by simp)) rfl⟩
    refine ⟨?_, ?_⟩
    · intro a' w' k' hb hf hs hc hq hg hd
      exact ⟨wantedN rfl, k_val (.bool false) (by decide) hs (x_pickF rfl (hd 26 (by kernel_rfl) 47 rfl) (hd 33 (by kernel_rfl) 54 rfl)) rfl⟩
    refine ⟨?_, ?_⟩
    · intro a' w' k' hb hf hs hc hq hg hd
      exact ⟨wantedN rfl, k_val (.bool false) (by decide) hs (x_move rfl (hd 34 (by kernel_rfl) 55 rfl)) rfl⟩
    refine ⟨?_, ?_⟩
    · intro a' w' k' hb hf hs hc hq hg hd
      exact ⟨wantedF (d := 56) rfl rfl (by rw [hb.size, hsz]; omega) (hd 35 (by kernel_rfl) 56 rfl), k_val (.slice (some ⟨gQ, 0, none⟩) d.Q.length d.Q.length) (by decide) hs (x_move rfl ((hb.old 5 (by decide +kernel)).trans h5)) rfl⟩
    refine ⟨?_, ?_⟩
    · intro a' w' k' hb hf hs hc hq hg hd
      exact ⟨wantedF (d := 56) rfl rfl (by rw [hb.size, hsz]; omega) (hd 35 (by kernel_rfl) 56 rfl), k_val (.pointer (some ⟨p2, 0, none⟩)) (by decide) hs (x_move rfl ((hb.old 1 (by decide +kernel)).trans h1)) rfl⟩
    refine ⟨?_, ?_⟩
    · intro a' w' k' hb hf hs hc hq hg hd
      exact ⟨wantedF (d := 56) rfl rfl (by rw [hb.size, hsz]; omega) (hd 35 (by kernel_rfl) 56 rfl), k_val (.pointer (some ⟨p2, 0, none⟩)) (by decide) hs (x_nilCheck rfl (hd 37 (by kernel_rfl) 58 rfl)) rfl⟩
    refine ⟨?_, ?_⟩
    · intro a' w' k' hb hf hs hc hq hg hd
      exact ⟨wantedF (d := 56) rfl rfl (by rw [hb.size, hsz]; omega) (hd 35 (by kernel_rfl) 56 rfl), k_val (.pointer (some ⟨p2, 0 + 2, none⟩)) (by decide) hs (x_field (fa81_2 p2) rfl (hd 38 (by kernel_rfl) 59 rfl)) rfl⟩
    refine ⟨?_, ?_⟩
    · intro a' w' k' hb hf hs hc hq hg hd
      exact ⟨wantedF (d := 56) rfl rfl (by rw [hb.size, hsz]; omega) (hd 35 (by kernel_rfl) 56 rfl), k_val (q2) (by decide) hs (x_load1 ld47 rfl (hd 39 (by kernel_rfl) 60 rfl) (by have := cell_of_heap ((unhide R1).kept0 hs).heap 2; simpa using this)) rfl⟩
    refine ⟨?_, ?_⟩
    · intro a' w' k' hb hf hs hc hq hg hd
      exact ⟨wantedF (d := 56) rfl rfl (by rw [hb.size, hsz]; omega) (hd 35 (by kernel_rfl) 56 rfl), k_call 34 _ (by decide) (e_call2 rfl rfl (hd 36 (by kernel_rfl) 57 rfl) (hd 40 (by kernel_rfl) 61 rfl) cf34) ((rsectors_any _ _ _ _ _ ((unhide SQ).kept hs (fun _ _ h => h)) ((unhide R1).kept0 hs).srd).mono (by rintro e w7 ⟨rfl, n9, rfl⟩; exact ⟨_, rfl, by rw [decide_eq_true rfl]; rfl, Fr.ofDrewN _ _, Fr.trans hs (Fr.ofDrewN _ _) (fun _ _ h => h)⟩))⟩
    refine ⟨?_, ?_⟩
    · intro a' w' k' hb hf hs hc hq hg hd
      exact ⟨wantedF (d := 56) rfl rfl (by rw [hb.size, hsz]; omega) (hd 35 (by kernel_rfl) 56 rfl), k_val (.bool false) (by decide) hs (x_not (b := true) rfl (hd 41 (by kernel_rfl) 62 rfl)) rfl⟩
    refine ⟨?_, ?_⟩
    · intro a' w' k' hb hf hs hc hq hg hd
      exact ⟨wantedN rfl, k_val (.bool false) (by decide) hs (x_pickF rfl (hd 35 (by kernel_rfl) 56 rfl) (hd 42 (by kernel_rfl) 63 rfl)) rfl⟩
    refine ⟨?_, ?_⟩
    · intro a' w' k' hb hf hs hc hq hg hd
      exact ⟨wantedN rfl, k_val (.bool false) (by decide) hs (x_move rfl (hd 43 (by kernel_rfl) 64 rfl)) rfl⟩
    refine ⟨?_, ?_⟩
    · intro a' w' k' hb hf hs hc hq hg hd
      exact ⟨wantedF (d := 65) rfl rfl (by rw [hb.size, hsz]; omega) (hd 44 (by kernel_rfl) 65 rfl), k_val (.pointer (some ⟨p, 0, none⟩)) (by decide) hs (x_move rfl ((hb.old 0 (by decide +kernel)).trans h0)) rfl⟩
    refine ⟨?_, ?_⟩
    · intro a' w' k' hb hf hs hc hq hg hd
      exact ⟨wantedF (d := 65) rfl rfl (by rw [hb.size, hsz]; omega) (hd 44 (by kernel_rfl) 65 rfl), k_call 26 _ (by decide) (e_call1 rfl rfl (hd 45 (by kernel_rfl) 66 rfl) cf26) ((injured_rd ((unhide K1).kept hs id id (fun _ _ h => h))).mono (by rintro e w7 ⟨ao9, c9, rfl, hB, f⟩; exact ⟨_, rfl, hB, f, Fr.trans hs f (fun _ _ h => h)⟩))⟩
    refine ⟨?_, ?_⟩
    · intro a' w' k' hb hf hs hc hq hg hd
      exact ⟨wantedF (d := 65) rfl rfl (by rw [hb.size, hsz]; omega) (hd 44 (by kernel_rfl) 65 rfl), k_val (.pointer (some ⟨p2, 0, none⟩)) (by decide) hs (x_move rfl ((hb.old 1 (by decide +kernel)).trans h1)) rfl⟩
    refine ⟨?_, ?_⟩
    · intro a' w' k' hb hf hs hc hq hg hd
      exact ⟨wantedF (d := 65) rfl rfl (by rw [hb.size, hsz]; omega) (hd 44 (by kernel_rfl) 65 rfl), k_call 47 _ (by decide) (e_call1 rfl rfl (hd 47 (by kernel_rfl) 68 rfl) cf47) ((rinjured_rd ((unhide R1).kept0 hs)).mono (by rintro e w7 ⟨ao9, c9, rfl, hB, f⟩; exact ⟨_, rfl, hB, f, Fr.trans hs f (fun _ _ h => h)⟩))⟩
    refine ⟨?_, ?_⟩
    · intro a' w' k' hb hf hs hc hq hg hd
      have hh : RdV w' _ _ := (hd 46 (by kernel_rfl) 67 rfl); have hh2 : RdV w' _ _ := (hd 48 (by kernel_rfl) 69 rfl); exact ⟨wantedF (d := 65) rfl rfl (by rw [hb.size, hsz]; omega) (hd 44 (by kernel_rfl) 65 rfl), k_call 30 _ (by decide) (e_call2 rfl rfl rfl rfl cf30) ((ints_any _ _ _ _ _ hh hh2).mono (by rintro e w7 ⟨rfl, n9, rfl⟩; exact ⟨_, rfl, by rw [decide_eq_true rfl]; rfl, Fr.ofDrewN _ _, Fr.trans hs (Fr.ofDrewN _ _) (fun _ _ h => h)⟩))⟩
    refine ⟨?_, ?_⟩
    · intro a' w' k' hb hf hs hc hq hg hd
      exact ⟨wantedF (d := 65) rfl rfl (by rw [hb.size, hsz]; omega) (hd 44 (by kernel_rfl) 65 rfl), k_val (.bool false) (by decide) hs (x_not (b := true) rfl (hd 49 (by kernel_rfl) 70 rfl)) rfl⟩
    refine ⟨?_, ?_⟩
    · intro a' w' k' hb hf hs hc hq hg hd
      exact ⟨wantedN rfl, k_val (.bool false) (by decide) hs (x_pickF rfl (hd 44 (by kernel_rfl) 65 rfl) (hd 50 (by kernel_rfl) 71 rfl)) rfl⟩
    exact trivial
  case done =>
    intro a' w' hb hf hs hall
    have hdf' : a'.defers = [] := by rw [hb.defers]; exact hdf
    obtain ⟨v67, hv67⟩ : ∃ v, a'.tmps.getD 67 undef = v := ⟨_, rfl⟩
    obtain ⟨v69, hv69⟩ : ∃ v, a'.tmps.getD 69 undef = v := ⟨_, rfl⟩
    have hfr := frame_eq (a := a') (vs := [.pointer (some ⟨p, 0, none⟩), .pointer (some ⟨p2, 0, none⟩), undef, undef, .bool false, .slice (some ⟨gQ, 0, none⟩) d.Q.length d.Q.length, undef, undef, undef, undef, undef, undef, undef, undef, undef, undef, undef, undef, undef, .pointer (some ⟨p, 0, none⟩), .slice (some ⟨gQ, 0, none⟩) d.Q.length d.Q.length, .pointer (some ⟨p, 0, none⟩), .int .i64 (d.S.length : Int), .pointer (some ⟨p2, 0, none⟩), .pointer (some ⟨p2, 0, none⟩), .pointer (some ⟨p2, 0, none⟩), .slice (some ⟨sg, 0, none⟩) d.S.length d.S.length, .int .i64 (d.S.length : Int), .bool false, .bool false, .pointer (some ⟨p, 0, none⟩), .int .i64 (d.size : Int), .pointer (some ⟨p2, 0, none⟩), .pointer (some ⟨p2, 0, none⟩), .pointer (some ⟨p2, 5, none⟩), .int .i64 (d.size : Int), .bool false, .bool false, .bool false, .pointer (some ⟨p, 0, none⟩), .bool d.off, .pointer (some ⟨p2, 0, none⟩), .pointer (some ⟨p2, 0, none⟩), .pointer (some ⟨p2, 3, none⟩), .bool d.off, .bool false, .bool false, .bool false, .pointer (some ⟨p, 0, none⟩), .int .i64 (d.n : Int), .pointer (some ⟨p2, 0, none⟩), .pointer (some ⟨p2, 0, none⟩), .pointer (some ⟨p2, 4, none⟩), .int .i64 (d.n : Int), .bool false, .bool false, .bool false, .slice (some ⟨gQ, 0, none⟩) d.Q.length d.Q.length, .pointer (some ⟨p2, 0, none⟩), .pointer (some ⟨p2, 0, none⟩), .pointer (some ⟨p2, 2, none⟩), q2, .bool true, .bool false, .bool false, .bool false, .pointer (some ⟨p, 0, none⟩), v67, .pointer (some ⟨p2, 0, none⟩), v69, .bool true, .bool false, .bool false, undef, undef, undef, undef, undef, undef, undef, undef, undef, undef, undef, undef, undef, undef, undef, undef, undef, undef, undef, undef, undef, undef, undef, undef, undef, undef, undef, undef, undef, undef, undef, undef, undef, undef, undef, undef, undef, undef, undef, undef, undef, undef, undef, undef, undef, undef, undef, undef, undef, undef, undef, undef, undef, undef, undef, undef, undef, undef, undef, undef, undef, undef, undef, undef, undef, undef, undef, undef, undef, undef, undef, undef, undef, undef, undef, undef, undef, undef, undef, undef, undef, undef, undef, undef, undef, undef, undef, undef, undef, undef, undef, undef, undef, undef, undef, undef, undef, undef, undef, undef, undef, undef, undef, undef, undef, undef, undef, undef, undef, undef, undef, undef, undef, undef, undef, undef, undef, undef, undef, undef, undef, undef]) (by rw [hb.size, hsz]; rfl) hdf' ⟨((hb.old 0 (by decide +kernel)).trans h0), ((hb.old 1 (by decide +kernel)).trans h1), ((hb.old 2 (by decide +kernel)).trans (by rw [unhide HA0]; rfl)), ((hb.old 3 (by decide +kernel)).trans (by rw [unhide HA0]; rfl)), ((hb.old 4 (by decide +kernel)).trans (by rw [unhide HA0]; rfl)), ((hb.old 5 (by decide +kernel)).trans h5), ((hb.old 6 (by decide +kernel)).trans (by rw [unhide HA0]; rfl)), ((hb.old 7 (by decide +kernel)).trans (by rw [unhide HA0]; rfl)), ((hb.old 8 (by decide +kernel)).trans (by rw [unhide HA0]; rfl)), ((hb.old 9 (by decide +kernel)).trans (by rw [unhide HA0]; rfl)), ((hb.old 10 (by decide +kernel)).trans (by rw [unhide HA0]; rfl)), ((hb.old 11 (by decide +kernel)).trans (by rw [unhide HA0]; rfl)), ((hb.old 12 (by decide +kernel)).trans (by rw [unhide HA0]; rfl)), ((hb.old 13 (by decide +kernel)).trans (by rw [unhide HA0]; rfl)), ((hb.old 14 (by decide +kernel)).trans (by rw [unhide HA0]; rfl)), ((hb.old 15 (by decide +kernel)).trans (by rw [unhide HA0]; rfl)), ((hb.old 16 (by decide +kernel)).trans (by rw [unhide HA0]; rfl)), ((hb.old 17 (by decide +kernel)).trans (by rw [unhide HA0]; rfl)), ((hb.old 18 (by decide +kernel)).trans (by rw [unhide HA0]; rfl)), ((hb.old 19 (by decide +kernel)).trans (by rw [unhide HA0]; rfl)), ((hb.old 20 (by decide +kernel)).trans (by rw [unhide HA0]; rfl)), (show a'.tmps.getD 21 undef = .pointer (some ⟨p, 0, none⟩) from hall 0 (by decide) 21 rfl), (show a'.tmps.getD 22 undef = .int .i64 (d.S.length : Int) from hall 1 (by decide) 22 rfl), (show a'.tmps.getD 23 undef = .pointer (some ⟨p2, 0, none⟩) from hall 2 (by decide) 23 rfl), (show a'.tmps.getD 24 undef = .pointer (some ⟨p2, 0, none⟩) from hall 3 (by decide) 24 rfl), (show a'.tmps.getD 25 undef = .pointer (some ⟨p2, 0, none⟩) from hall 4 (by decide) 25 rfl), (show a'.tmps.getD 26 undef = .slice (some ⟨sg, 0, none⟩) d.S.length d.S.length from hall 5 (by decide) 26 rfl), (show a'.tmps.getD 27 undef = .int .i64 (d.S.length : Int) from hall 6 (by decide) 27 rfl), (show a'.tmps.getD 28 undef = .bool false from hall 7 (by decide) 28 rfl), (show a'.tmps.getD 29 undef = .bool false from hall 8 (by decide) 29 rfl), (show a'.tmps.getD 30 undef = .pointer (some ⟨p, 0, none⟩) from hall 9 (by decide) 30 rfl), (show a'.tmps.getD 31 undef = .int .i64 (d.size : Int) from hall 10 (by decide) 31 rfl), (show a'.tmps.getD 32 undef = .pointer (some ⟨p2, 0, none⟩) from hall 11 (by decide) 32 rfl), (show a'.tmps.getD 33 undef = .pointer (some ⟨p2, 0, none⟩) from hall 12 (by decide) 33 rfl), (show a'.tmps.getD 34 undef = .pointer (some ⟨p2, 5, none⟩) from hall 13 (by decide) 34 rfl), (show a'.tmps.getD 35 undef = .int .i64 (d.size : Int) from hall 14 (by decide) 35 rfl), (show a'.tmps.getD 36 undef = .bool false from hall 15 (by decide) 36 rfl), (show a'.tmps.getD 37 undef = .bool false from hall 16 (by decide) 37 rfl), (show a'.tmps.getD 38 undef = .bool false from hall 17 (by decide) 38 rfl), (show a'.tmps.getD 39 undef = .pointer (some ⟨p, 0, none⟩) from hall 18 (by decide) 39 rfl), (show a'.tmps.getD 40 undef = .bool d.off from hall 19 (by decide) 40 rfl), (show a'.tmps.getD 41 undef = .pointer (some ⟨p2, 0, none⟩) from hall 20 (by decide) 41 rfl), (show a'.tmps.getD 42 undef = .pointer (some ⟨p2, 0, none⟩) from hall 21 (by decide) 42 rfl), (show a'.tmps.getD 43 undef = .pointer (some ⟨p2, 3, none⟩) from hall 22 (by decide) 43 rfl), (show a'.tmps.getD 44 undef = .bool d.off from hall 23 (by decide) 44 rfl), (show a'.tmps.getD 45 undef = .bool false from hall 24 (by decide) 45 rfl), (show a'.tmps.getD 46 undef = .bool false from hall 25 (by decide) 46 rfl), (show a'.tmps.getD 47 undef = .bool false from hall 26 (by decide) 47 rfl), (show a'.tmps.getD 48 undef = .pointer (some ⟨p, 0, none⟩) from hall 27 (by decide) 48 rfl), (show a'.tmps.getD 49 undef = .int .i64 (d.n : Int) from hall 28 (by decide) 49 rfl), (show a'.tmps.getD 50 undef = .pointer (some ⟨p2, 0, none⟩) from hall 29 (by decide) 50 rfl), (show a'.tmps.getD 51 undef = .pointer (some ⟨p2, 0, none⟩) from hall 30 (by decide) 51 rfl), (show a'.tmps.getD 52 undef = .pointer (some ⟨p2, 4, none⟩) from hall 31 (by decide) 52 rfl), (show a'.tmps.getD 53 undef = .int .i64 (d.n : Int) from hall 32 (by decide) 53 rfl), (show a'.tmps.getD 54 undef = .bool false from hall 33 (by decide) 54 rfl), (show a'.tmps.getD 55 undef = .bool false from hall 34 (by decide) 55 rfl), (show a'.tmps.getD 56 undef = .bool false from hall 35 (by decide) 56 rfl), (show a'.tmps.getD 57 undef = .slice (some ⟨gQ, 0, none⟩) d.Q.length d.Q.length from hall 36 (by decide) 57 rfl), (show a'.tmps.getD 58 undef = .pointer (some ⟨p2, 0, none⟩) from hall 37 (by decide) 58 rfl), (show a'.tmps.getD 59 undef = .pointer (some ⟨p2, 0, none⟩) from hall 38 (by decide) 59 rfl), (show a'.tmps.getD 60 undef = .pointer (some ⟨p2, 2, none⟩) from hall 39 (by decide) 60 rfl), (show a'.tmps.getD 61 undef = q2 from hall 40 (by decide) 61 rfl), (show a'.tmps.getD 62 undef = .bool true from hall 41 (by decide) 62 rfl), (show a'.tmps.getD 63 undef = .bool false from hall 42 (by decide) 63 rfl), (show a'.tmps.getD 64 undef = .bool false from hall 43 (by decide) 64 rfl), (show a'.tmps.getD 65 undef = .bool false from hall 44 (by decide) 65 rfl), (show a'.tmps.getD 66 undef = .pointer (some ⟨p, 0, none⟩) from hall 45 (by decide) 66 rfl), hv67, (show a'.tmps.getD 68 undef = .pointer (some ⟨p2, 0, none⟩) from hall 47 (by decide) 68 rfl), hv69, (show a'.tmps.getD 70 undef = .bool true from hall 49 (by decide) 70 rfl), (show a'.tmps.getD 71 undef = .bool false from hall 50 (by decide) 71 rfl), (show a'.tmps.getD 72 undef = .bool false from hall 51 (by decide) 72 rfl), ((hb.old 73 (by decide +kernel)).trans (by rw [unhide HA0]; rfl)), ((hb.old 74 (by decide +kernel)).trans (by rw [unhide HA0]; rfl)), ((hb.old 75 (by decide +kernel)).trans (by rw [unhide HA0]; rfl)), ((hb.old 76 (by decide +kernel)).trans (by rw [unhide HA0]; rfl)), ((hb.old 77 (by decide +kernel)).trans (by rw [unhide HA0]; rfl)), ((hb.old 78 (by decide +kernel)).trans (by rw [unhide HA0]; rfl)), ((hb.old 79 (by decide +kernel)).trans (by rw [unhide HA0]; rfl)), ((hb.old 80 (by decide +kernel)).trans (by rw [unhide HA0]; rfl)), ((hb.old 81 (by decide +kernel)).trans (by rw [unhide HA0]; rfl)), ((hb.old 82 (by decide +kernel)).trans (by rw [unhide HA0]; rfl)), ((hb.old 83 (by decide +kernel)).trans (by rw [unhide HA0]; rfl)), ((hb.old 84 (by decide +kernel)).trans (by rw [unhide HA0]; rfl)), ((hb.old 85 (by decide +kernel)).trans (by rw [unhide HA0]; rfl)), ((hb.old 86 (by decide +kernel)).trans (by rw [unhide HA0]; rfl)), ((hb.old 87 (by decide +kernel)).trans (by rw [unhide HA0]; rfl)), ((hb.old 88 (by decide +kernel)).trans (by rw [unhide HA0]; rfl)), ((hb.old 89 (by decide +kernel)).trans (by rw [unhide HA0]; rfl)), ((hb.old 90 (by decide +kernel)).trans (by rw [unhide HA0]; rfl)), ((hb.old 91 (by decide +kernel)).trans (by rw [unhide HA0]; rfl)), ((hb.old 92 (by decide +kernel)).trans (by rw [unhide HA0]; rfl)), ((hb.old 93 (by decide +kernel)).trans (by rw [unhide HA0]; rfl)), ((hb.old 94 (by decide +kernel)).trans (by rw [unhide HA0]; rfl)), ((hb.old 95 (by decide +kernel)).trans (by rw [unhide HA0]; rfl)), ((hb.old 96 (by decide +kernel)).trans (by rw [unhide HA0]; rfl)), ((hb.old 97 (by decide +kernel)).trans (by rw [unhide HA0]; rfl)), ((hb.old 98 (by decide +kernel)).trans (by rw [unhide HA0]; rfl)), ((hb.old 99 (by decide +kernel)).trans (by rw [unhide HA0]; rfl)), ((hb.old 100 (by decide +kernel)).trans (by rw [unhide HA0]; rfl)), ((hb.old 101 (by decide +kernel)).trans (by rw [unhide HA0]; rfl)), ((hb.old 102 (by decide +kernel)).trans (by rw [unhide HA0]; rfl)), ((hb.old 103 (by decide +kernel)).trans (by rw [unhide HA0]; rfl)), ((hb.old 104 (by decide +kernel)).trans (by rw [unhide HA0]; rfl)), ((hb.old 105 (by decide +kernel)).trans (by rw [unhide HA0]; rfl)), ((hb.old 106 (by decide +kernel)).trans (by rw [unhide HA0]; rfl)), ((hb.old 107 (by decide +kernel)).trans (by rw [unhide HA0]; rfl)), ((hb.old 108 (by decide +kernel)).trans (by rw [unhide HA0]; rfl)), ((hb.old 109 (by decide +kernel)).trans (by rw [unhide HA0]; rfl)), ((hb.old 110 (by decide +kernel)).trans (by rw [unhide HA0]; rfl)), ((hb.old 111 (by decide +kernel)).trans (by rw [unhide HA0]; rfl)), ((hb.old 112 (by decide +kernel)).trans (by rw [unhide HA0]; rfl)), ((hb.old 113 (by decide +kernel)).trans (by rw [unhide HA0]; rfl)), ((hb.old 114 (by decide +kernel)).trans (by rw [unhide HA0]; rfl)), ((hb.old 115 (by decide +kernel)).trans (by rw [unhide HA0]; rfl)), ((hb.old 116 (by decide +kernel)).trans (by rw [unhide HA0]; rfl)), ((hb.old 117 (by decide +kernel)).trans (by rw [unhide HA0]; rfl)), ((hb.old 118 (by decide +kernel)).trans (by rw [unhide HA0]; rfl)), ((hb.old 119 (by decide +kernel)).trans (by rw [unhide HA0]; rfl)), ((hb.old 120 (by decide +kernel)).trans (by rw [unhide HA0]; rfl)), ((hb.old 121 (by decide +kernel)).trans (by rw [unhide HA0]; rfl)), ((hb.old 122 (by decide +kernel)).trans (by rw [unhide HA0]; rfl)), ((hb.old 123 (by decide +kernel)).trans (by rw [unhide HA0]; rfl)), ((hb.old 124 (by decide +kernel)).trans (by rw [unhide HA0]; rfl)), ((hb.old 125 (by decide +kernel)).trans (by rw [unhide HA0]; rfl)), ((hb.old 126 (by decide +kernel)).trans (by rw [unhide HA0]; rfl)), ((hb.old 127 (by decide +kernel)).trans (by rw [unhide HA0]; rfl)), ((hb.old 128 (by decide +kernel)).trans (by rw [unhide HA0]; rfl)), ((hb.old 129 (by decide +kernel)).trans (by rw [unhide HA0]; rfl)), ((hb.old 130 (by decide +kernel)).trans (by rw [unhide HA0]; rfl)), ((hb.old 131 (by decide +kernel)).trans (by rw [unhide HA0]; rfl)), ((hb.old 132 (by decide +kernel)).trans (by rw [unhide HA0]; rfl)), ((hb.old 133 (by decide +kernel)).trans (by rw [unhide HA0]; rfl)), ((hb.old 134 (by decide +kernel)).trans (by rw [unhide HA0]; rfl)), ((hb.old 135 (by decide +kernel)).trans (by rw [unhide HA0]; rfl)), ((hb.old 136 (by decide +kernel)).trans (by rw [unhide HA0]; rfl)), ((hb.old 137 (by decide +kernel)).trans (by rw [unhide HA0]; rfl)), ((hb.old 138 (by decide +kernel)).trans (by rw [unhide HA0]; rfl)), ((hb.old 139 (by decide +kernel)).trans (by rw [unhide HA0]; rfl)), ((hb.old 140 (by decide +kernel)).trans (by rw [unhide HA0]; rfl)), ((hb.old 141 (by decide +kernel)).trans (by rw [unhide HA0]; rfl)), ((hb.old 142 (by decide +kernel)).trans (by rw [unhide HA0]; rfl)), ((hb.old 143 (by decide +kernel)).trans (by rw [unhide HA0]; rfl)), ((hb.old 144 (by decide +kernel)).trans (by rw [unhide HA0]; rfl)), ((hb.old 145 (by decide +kernel)).trans (by rw [unhide HA0]; rfl)), ((hb.old 146 (by decide +kernel)).trans (by rw [unhide HA0]; rfl)), ((hb.old 147 (by decide +kernel)).trans (by rw [unhide HA0]; rfl)), ((hb.old 148 (by decide +kernel)).trans (by rw [unhide HA0]; rfl)), ((hb.old 149 (by decide +kernel)).trans (by rw [unhide HA0]; rfl)), ((hb.old 150 (by decide +kernel)).trans (by rw [unhide HA0]; rfl)), ((hb.old 151 (by decide +kernel)).trans (by rw [unhide HA0]; rfl)), ((hb.old 152 (by decide +kernel)).trans (by rw [unhide HA0]; rfl)), ((hb.old 153 (by decide +kernel)).trans (by rw [unhide HA0]; rfl)), ((hb.old 154 (by decide +kernel)).trans (by rw [unhide HA0]; rfl)), ((hb.old 155 (by decide +kernel)).trans (by rw [unhide HA0]; rfl)), ((hb.old 156 (by decide +kernel)).trans (by rw [unhide HA0]; rfl)), ((hb.old 157 (by decide +kernel)).trans (by rw [unhide HA0]; rfl)), ((hb.old 158 (by decide +kernel)).trans (by rw [unhide HA0]; rfl)), ((hb.old 159 (by decide +kernel)).trans (by rw [unhide HA0]; rfl)), ((hb.old 160 (by decide +kernel)).trans (by rw [unhide HA0]; rfl)), ((hb.old 161 (by decide +kernel)).trans (by rw [unhide HA0]; rfl)), ((hb.old 162 (by decide +kernel)).trans (by rw [unhide HA0]; rfl)), ((hb.old 163 (by decide +kernel)).trans (by rw [unhide HA0]; rfl)), ((hb.old 164 (by decide +kernel)).trans (by rw [unhide HA0]; rfl)), ((hb.old 165 (by decide +kernel)).trans (by rw [unhide HA0]; rfl)), ((hb.old 166 (by decide +kernel)).trans (by rw [unhide HA0]; rfl)), ((hb.old 167 (by decide +kernel)).trans (by rw [unhide HA0]; rfl)), ((hb.old 168 (by decide +kernel)).trans (by rw [unhide HA0]; rfl)), ((hb.old 169 (by decide +kernel)).trans (by rw [unhide HA0]; rfl)), ((hb.old 170 (by decide +kernel)).trans (by rw [unhide HA0]; rfl)), ((hb.old 171 (by decide +kernel)).trans (by rw [unhide HA0]; rfl)), ((hb.old 172 (by decide +kernel)).trans (by rw [unhide HA0]; rfl)), ((hb.old 173 (by decide +kernel)).trans (by rw [unhide HA0]; rfl)), ((hb.old 174 (by decide +kernel)).trans (by rw [unhide HA0]; rfl)), ((hb.old 175 (by decide +kernel)).trans (by rw [unhide HA0]; rfl)), ((hb.old 176 (by decide +kernel)).trans (by rw [unhide HA0]; rfl)), ((hb.old 177 (by decide +kernel)).trans (by rw [unhide HA0]; rfl)), ((hb.old 178 (by decide +kernel)).trans (by rw [unhide HA0]; rfl)), ((hb.old 179 (by decide +kernel)).trans (by rw [unhide HA0]; rfl)), ((hb.old 180 (by decide +kernel)).trans (by rw [unhide HA0]; rfl)), ((hb.old 181 (by decide +kernel)).trans (by rw [unhide HA0]; rfl)), ((hb.old 182 (by decide +kernel)).trans (by rw [unhide HA0]; rfl)), ((hb.old 183 (by decide +kernel)).trans (by rw [unhide HA0]; rfl)), ((hb.old 184 (by decide +kernel)).trans (by rw [unhide HA0]; rfl)), ((hb.old 185 (by decide +kernel)).trans (by rw [unhide HA0]; rfl)), ((hb.old 186 (by decide +kernel)).trans (by rw [unhide HA0]; rfl)), ((hb.old 187 (by decide +kernel)).trans (by rw [unhide HA0]; rfl)), ((hb.old 188 (by decide +kernel)).trans (by rw [unhide HA0]; rfl)), ((hb.old 189 (by decide +kernel)).trans (by rw [unhide HA0]; rfl)), ((hb.old 190 (by decide +kernel)).trans (by rw [unhide HA0]; rfl)), ((hb.old 191 (by decide +kernel)).trans (by rw [unhide HA0]; rfl)), ((hb.old 192 (by decide +kernel)).trans (by rw [unhide HA0]; rfl)), ((hb.old 193 (by decide +kernel)).trans (by rw [unhide HA0]; rfl)), ((hb.old 194 (by decide +kernel)).trans (by rw [unhide HA0]; rfl)), trivial⟩
    have F2 := hide ((unhide F1).trans hf (fun _ _ h => h))
    have SA2 := hide ((unhide SA1).kept hf id)
    clear hall hb hf hs hv67 hv69
    subst hfr
    clear HA0 h0 h1 h5 hsz hdf hdf' F1 SA1 SQ
    apply_assumption
    go_wp2_with fail
    have hroom := (unhide K1).ok.room
    go_loopw [6] (fun y W => ∃ i : Nat, i ≤ d.Q.length ∧ y = .int .i64 (i : Int) ∧ (∃ L, SAt W gQ L ∧ L.length = d.Q.length) ∧ Fr (fun _ => False) w W) (fun y _ => d.Q.length - (intOf y).toNat)
    case atStart => exact ⟨0, by omega, rfl, ⟨_, unhide SA2, by simp [quL]⟩, unhide F2⟩
    case round =>
      obtain ⟨i, hi, rfl, ⟨L, hS, hL⟩, hf⟩ := hrel
      by_cases hlt : i < d.Q.length
      · have bl : decide ((i : Int) < (d.Q.length : Int)) = true := by simp; omega
        obtain ⟨k0, k1⟩ := hS.at i (by omega)
        have z0 := frozen_of_heap hS (i * 2)
        have z1 := frozen_of_heap hS (i * 2 + 1)
        have HPU := hide (hS.put i (by omega) (-1, []))
        have HLL := hide hL
        have HFF := hide hf
        generalize (L[i]'(by omega)) = old at k0 k1
        clear hS hf hL
        go_wp2_with fail
        go_roundw
        case rel =>
          obtain ⟨hP1, hP2⟩ := unhide HPU
          exact ⟨i + 1, by omega, by go_num, ⟨_, hP1, by rw [List.length_set]; exact unhide HLL⟩, (unhide HFF).trans hP2 (fun k hk e => by have := unhide HGQ; omega)⟩
        case measure => simp [intOf]; omega
      · have bl : decide ((i : Int) < (d.Q.length : Int)) = false := by simp; omega
        have F3 := hide hf
        clear hS hf hL
        go_wp2_with fail
        have hdl := (unhide HP).k.ok.len
        clear K1 R1 F2 SA2 hi hlt bl hroom
        go_loopw [7] (fun y W => ∃ a : Int, -1 ≤ a ∧ a ≤ d.S.length + 1 ∧ y = .int .i64 a ∧ Fr (fun _ => False) w W) (fun y _ => ((d.S.length : Int) + 1 - intOf y).toNat)
        case atStart => exact ⟨-1, by omega, by omega, rfl, unhide F3⟩
        case round =>
          clear F3
          obtain ⟨a, ha0, ha1, rfl, hf⟩ := hrel
          have KW := hide ((unhide HP).k.kept hf id id (fun _ _ h => h))
          have RW := hide ((unhide HP).r.kept0 hf)
          have c0 := cell_of_heap (unhide RW).heap 0
          simp at c0
          have HFW := hide hf
          clear hf
          by_cases hal : a ≤ (d.S.length : Int)
          · have bl : decide (a ≤ (d.S.length : Int)) = true := by simpa using hal
            rcases (by omega : a < 0 ∨ (0 ≤ a ∧ a < (d.S.length : Int)) ∨ a = (d.S.length : Int)) with h | h | h
            · have b0 : decide (0 ≤ a) = false := by simp; omega
              have hhas : hasB d a = false := by unfold hasB; rw [b0]; rfl
              have HAL := hide hal
              clear h hal
              have HRD := hide (fun W (h : KAt W p gs q d) => read_any W p gs q d a h)
              have HRR := hide (fun W (h : RAt W p2 sg hg q2 d) => rread_any W p2 sg hg q2 d a h)
              have HST := hide (fun W (h : KAt W p gs q d) => stable_any W p gs q d a h)
              rw [hhas] at HST
              have hst0 : stD d a = [] := by unfold stD; rw [hhas]; rfl
              rw [hst0] at HST
              clear hst0
              have hlal := rd_len (unhide HP).k.ok a
              generalize rdD d a = R at HRD HRR hlal
              obtain ⟨la, E⟩ := R
              dsimp only [List.length_nil] at HRD HRR HST hlal
              clear hhas
              go_wp2_with fail
              refine (unhide HRD _ (unhide KW)).mono ?_
              rintro e w5 ⟨⟨oa, ca, rfl, hra, hna⟩, f5⟩
              have RA5 := hide hra
              have NA5 := hide (SpB.of hra hna)
              have F5 := hide ((unhide HFW).trans f5 (fun _ _ h => h))
              have K5 := hide ((unhide KW).kept f5 id id (fun _ _ h => h))
              have R5 := hide ((unhide RW).kept0 f5)
              have hsz5 := (unhide HFW).size
              clear hra hna f5 KW RW HFW
              have c0 := cell_of_heap (unhide R5).heap 0
              simp at c0
              go_wp2_with fail
              refine (unhide HRR _ (unhide R5)).mono ?_
              rintro e w' ⟨rfl, rfl⟩
              clear HRR
              go_wp2_with fail
              refine (unhide HST _ (unhide K5)).mono ?_
              rintro e wq ⟨⟨ot, ct, rfl, hrs, hns⟩, f6⟩
              have RA := hide ((unhide RA5).kept f6 (fun _ _ h => h))
              have NA := hide ((unhide NA5).fr f6)
              have RS := hide hrs
              have NS := hide (SpB.of (l := []) hrs hns)
              have FQ := hide ((unhide F5).trans f6 (fun _ _ h => h))
              have RQ := hide ((unhide R5).kept0 f6)
              have HN5 := hide (unhide F5).size
              clear hrs hns f6 K5 R5 F5 RA5 NA5 HST c0
              have c0 := cell_of_heap (unhide RQ).heap 0
              simp at c0
              go_wp2_with fail
              refine wp_nameK ?_
              intro a0 hA
              have h0 : a0.tmps.getD 0 undef = .pointer (some ⟨p, 0, none⟩) := by rw [hA]; rfl
              have h1 : a0.tmps.getD 1 undef = .pointer (some ⟨p2, 0, none⟩) := by rw [hA]; rfl
              have h7 : a0.tmps.getD 7 undef = .int .i64 a := by rw [hA]; rfl
              have h8 : a0.tmps.getD 8 undef = .slice oa la.length ca := by rw [hA]; rfl
              have h9 : a0.tmps.getD 9 undef = .int .i64 E := by rw [hA]; rfl
              have h10 : a0.tmps.getD 10 undef = .string (str la) := by rw [hA]; rfl
              have h11 : a0.tmps.getD 11 undef = .int .i64 E := by rw [hA]; rfl
              have h12 : a0.tmps.getD 12 undef = .slice ot 0 ct := by rw [hA]; rfl
              have h13 : a0.tmps.getD 13 undef = .bool false := by rw [hA]; rfl
              have h14 : a0.tmps.getD 14 undef = .bool false := by rw [hA]; rfl
              have hsz : a0.tmps.size = 195 := by rw [hA]; rfl
              have hdf : a0.defers = [] := by rw [hA]
              have HA0 := hide hA
              clear hA
              refine wp_region_kinds3 (fun _ => False) (by kernel_rfl) (by kernel_rfl) (by decide +kernel) (by rw [hsz]; decide +kernel) [.eq (.slice oa la.length ca), .eq (.string (str la)), .eq (.string (str la)), .eq (.bool false), .eq (.bool false), .eq (.int .i64 E), .eq (.int .i64 E), .eq (.int .i64 E), .eq (.bool false), .eq (.bool false), .eq (.bool false), .eq (.bool false), .eq (.bool false), .eq (.bool false), .eq (.bool false), .eq (.bool false), .eq (.bool false), .eq (.bool false), .eq undef, .eq undef, .eq undef, .eq undef, .eq undef, .eq undef, .eq undef, .eq undef, .eq undef, .eq undef, .eq (.bool false), .eq (.bool false), .eq (.bool false), .eq (.bool false), .eq (.bool true), .eq (.bool true), .eq (.slice ot 0 ct), .eq (.int .i64 ((0 : Nat) : Int)), .eq (.bool false), .eq (.bool false), .eq (.bool false)] [] (by decide) (by decide) (nopaths) (fun _ W => Fr (fun _ => False) wq W) (Fr.refl _ _).drew ?steps ?done
              case steps =>
                refine ⟨?_, ?_⟩
                · intro a' w' k' hb hf hs hc hq hg hd
                  exact .inl ⟨wantedN rfl, k_val (.slice oa la.length ca) (by decide) hs (x_move rfl ((hb.old 8 (by decide +kernel)).trans h8)) rfl⟩
                refine ⟨?_, ?_⟩
                · intro a' w' k' hb hf hs hc hq hg hd
                  exact .inl ⟨wantedN rfl, k_val (.string (str la)) (by decide) hs (x_conv rfl (hd 0 (by kernel_rfl) 121 rfl) (conv_rd (P := Try.prog) ((unhide RA).kept hs (fun _ _ h => h)) 36 9 5 Try.underlying36 Try.underlying5 Try.underlying9)) rfl⟩
                refine ⟨?_, ?_⟩
                · intro a' w' k' hb hf hs hc hq hg hd
                  exact .inl ⟨wantedN rfl, k_val (.string (str la)) (by decide) hs (x_move rfl ((hb.old 10 (by decide +kernel)).trans h10)) rfl⟩
                refine ⟨?_, ?_⟩
                · intro a' w' k' hb hf hs hc hq hg hd
                  exact .inl ⟨wantedN rfl, k_val (.bool false) (by decide) hs (x_neS rfl (hd 1 (by kernel_rfl) 122 rfl) (hd 2 (by kernel_rfl) 123 rfl)) rfl⟩
                refine ⟨?_, ?_⟩
                · intro a' w' k' hb hf hs hc hq hg hd
                  exact .inl ⟨wantedN rfl, k_val (.bool false) (by decide) hs (x_move rfl (hd 3 (by kernel_rfl) 124 rfl)) rfl⟩
                refine ⟨?_, ?_⟩
                · intro a' w' k' hb hf hs hc hq hg hd
                  exact .inl ⟨wantedF (d := 125) rfl rfl (by rw [hb.size, hsz]; omega) (hd 4 (by kernel_rfl) 125 rfl), k_val (.int .i64 E) (by decide) hs (x_move rfl ((hb.old 9 (by decide +kernel)).trans h9)) rfl⟩
                refine ⟨?_, ?_⟩
                · intro a' w' k' hb hf hs hc hq hg hd
                  exact .inl ⟨wantedF (d := 125) rfl rfl (by rw [hb.size, hsz]; omega) (hd 4 (by kernel_rfl) 125 rfl), k_call 14 _ (by decide) (e_call1 rfl rfl (hd 5 (by kernel_rfl) 126 rfl) cf14) ((num_any _ _).mono (by rintro e w7 ⟨rfl, rfl⟩; exact ⟨_, rfl, rfl, Fr.refl _ _, hs⟩))⟩
                refine ⟨?_, ?_⟩
                · intro a' w' k' hb hf hs hc hq hg hd
                  exact .inl ⟨wantedF (d := 125) rfl rfl (by rw [hb.size, hsz]; omega) (hd 4 (by kernel_rfl) 125 rfl), k_val (.int .i64 E) (by decide) hs (x_move rfl ((hb.old 11 (by decide +kernel)).trans h11)) rfl⟩
                refine ⟨?_, ?_⟩
                · intro a' w' k' hb hf hs hc hq hg hd
                  exact .inl ⟨wantedF (d := 125) rfl rfl (by rw [hb.size, hsz]; omega) (hd 4 (by kernel_rfl) 125 rfl), k_val (.bool false) (by decide) hs (x_neI Try.underlying3 rfl (hd 6 (by kernel_rfl) 127 rfl) (hd 7 (by kernel_rfl) 128 rfl) (by simp)) rfl⟩
                refine ⟨?_, ?_⟩
                · intro a' w' k' hb hf hs hc hq hg hd
                  exact .inl ⟨wantedN rfl, k_val (.bool false) (by decide) hs (x_pickF rfl (hd 4 (by kernel_rfl) 125 rfl) (hd 8 (by kernel_rfl) 129 rfl)) rfl⟩
                refine ⟨?_, ?_⟩
                · intro a' w' k' hb hf hs hc hq hg hd
                  exact .inl ⟨wantedN rfl, k_val (.bool false) (by decide) hs (x_move rfl (hd 9 (by kernel_rfl) 130 rfl)) rfl⟩
                refine ⟨?_, ?_⟩
                · intro a' w' k' hb hf hs hc hq hg hd
                  exact .inl ⟨wantedF (d := 131) rfl rfl (by rw [hb.size, hsz]; omega) (hd 10 (by kernel_rfl) 131 rfl), k_val (.bool false) (by decide) hs (x_move rfl ((hb.old 13 (by decide +kernel)).trans h13)) rfl⟩
                refine ⟨?_, ?_⟩
                · intro a' w' k' hb hf hs hc hq hg hd
                  exact .inl ⟨wantedF (d := 131) rfl rfl (by rw [hb.size, hsz]; omega) (hd 10 (by kernel_rfl) 131 rfl), k_val (.bool false) (by decide) hs (x_move rfl ((hb.old 14 (by decide +kernel)).trans h14)) rfl⟩
                refine ⟨?_, ?_⟩
                · intro a' w' k' hb hf hs hc hq hg hd
                  exact .inl ⟨wantedF (d := 131) rfl rfl (by rw [hb.size, hsz]; omega) (hd 10 (by kernel_rfl) 131 rfl), k_val (.bool false) (by decide) hs (x_neB rfl (hd 11 (by kernel_rfl) 132 rfl) (hd 12 (by kernel_rfl) 133 rfl)) rfl⟩
                refine ⟨?_, ?_⟩
                · intro a' w' k' hb hf hs hc hq hg hd
                  exact .inl ⟨wantedN rfl, k_val (.bool false) (by decide) hs (x_pickF rfl (hd 10 (by kernel_rfl) 131 rfl) (hd 13 (by kernel_rfl) 134 rfl)) rfl⟩
                refine ⟨?_, ?_⟩
                · intro a' w' k' hb hf hs hc hq hg hd
                  exact .inl ⟨wantedN rfl, k_val (.bool false) (by decide) hs (x_move rfl (hd 14 (by kernel_rfl) 135 rfl)) rfl⟩
                refine ⟨?_, ?_⟩
                · intro a' w' k' hb hf hs hc hq hg hd
                  exact .inl ⟨wantedF (d := 136) rfl rfl (by rw [hb.size, hsz]; omega) (hd 15 (by kernel_rfl) 136 rfl), k_val (.bool false) (by decide) hs (x_move rfl ((hb.old 14 (by decide +kernel)).trans h14)) rfl⟩
                refine ⟨?_, ?_⟩
                · intro a' w' k' hb hf hs hc hq hg hd
                  exact .inl ⟨wantedF (d := 136) rfl rfl (by rw [hb.size, hsz]; omega) (hd 15 (by kernel_rfl) 136 rfl), k_val (.bool false) (by decide) hs (x_move rfl (hd 16 (by kernel_rfl) 137 rfl)) rfl⟩
                refine ⟨?_, ?_⟩
                · intro a' w' k' hb hf hs hc hq hg hd
                  exact .inr ⟨offT (d := 138) rfl rfl (by rw [hb.size, hsz]; omega) (hd 17 (by kernel_rfl) 138 rfl), by decide, rfl, Fr.refl _ _⟩
                refine ⟨?_, ?_⟩
                · intro a' w' k' hb hf hs hc hq hg hd
                  exact .inr ⟨offT (d := 138) rfl rfl (by rw [hb.size, hsz]; omega) (hd 17 (by kernel_rfl) 138 rfl), by decide, rfl, Fr.refl _ _⟩
                refine ⟨?_, ?_⟩
                · intro a' w' k' hb hf hs hc hq hg hd
                  exact .inr ⟨offT (d := 138) rfl rfl (by rw [hb.size, hsz]; omega) (hd 17 (by kernel_rfl) 138 rfl), by decide, rfl, Fr.refl _ _⟩
                refine ⟨?_, ?_⟩
                · intro a' w' k' hb hf hs hc hq hg hd
                  exact .inr ⟨offT (d := 138) rfl rfl (by rw [hb.size, hsz]; omega) (hd 17 (by kernel_rfl) 138 rfl), by decide, rfl, Fr.refl _ _⟩
                refine ⟨?_, ?_⟩
                · intro a' w' k' hb hf hs hc hq hg hd
                  exact .inr ⟨offT (d := 138) rfl rfl (by rw [hb.size, hsz]; omega) (hd 17 (by kernel_rfl) 138 rfl), by decide, rfl, Fr.refl _ _⟩
                refine ⟨?_, ?_⟩
                · intro a' w' k' hb hf hs hc hq hg hd
                  exact .inr ⟨offT (d := 138) rfl rfl (by rw [hb.size, hsz]; omega) (hd 17 (by kernel_rfl) 138 rfl), by decide, rfl, Fr.refl _ _⟩
                refine ⟨?_, ?_⟩
                · intro a' w' k' hb hf hs hc hq hg hd
                  exact .inr ⟨offT (d := 138) rfl rfl (by rw [hb.size, hsz]; omega) (hd 17 (by kernel_rfl) 138 rfl), by decide, rfl, Fr.refl _ _⟩
                refine ⟨?_, ?_⟩
                · intro a' w' k' hb hf hs hc hq hg hd
                  exact .inr ⟨offT (d := 138) rfl rfl (by rw [hb.size, hsz]; omega) (hd 17 (by kernel_rfl) 138 rfl), by decide, rfl, Fr.refl _ _⟩
                refine ⟨?_, ?_⟩
                · intro a' w' k' hb hf hs hc hq hg hd
                  exact .inr ⟨offT (d := 138) rfl rfl (by rw [hb.size, hsz]; omega) (hd 17 (by kernel_rfl) 138 rfl), by decide, rfl, Fr.refl _ _⟩
                refine ⟨?_, ?_⟩
                · intro a' w' k' hb hf hs hc hq hg hd
                  exact .inr ⟨offT (d := 138) rfl rfl (by rw [hb.size, hsz]; omega) (hd 17 (by kernel_rfl) 138 rfl), by decide, rfl, Fr.refl _ _⟩
                refine ⟨?_, ?_⟩
                · intro a' w' k' hb hf hs hc hq hg hd
                  exact .inl ⟨wantedF (d := 136) rfl rfl (by rw [hb.size, hsz]; omega) (hd 15 (by kernel_rfl) 136 rfl), k_val (.bool false) (by decide) hs (x_pickF rfl (hd 17 (by kernel_rfl) 138 rfl) rfl) rfl⟩
                refine ⟨?_, ?_⟩
                · intro a' w' k' hb hf hs hc hq hg hd
                  exact .inl ⟨wantedN rfl, k_val (.bool false) (by decide) hs (x_pickF rfl (hd 15 (by kernel_rfl) 136 rfl) (hd 28 (by kernel_rfl) 149 rfl)) rfl⟩
                refine ⟨?_, ?_⟩
                · intro a' w' k' hb hf hs hc hq hg hd
                  exact .inl ⟨wantedN rfl, k_val (.bool false) (by decide) hs (x_move rfl (hd 29 (by kernel_rfl) 150 rfl)) rfl⟩
                refine ⟨?_, ?_⟩
                · intro a' w' k' hb hf hs hc hq hg hd
                  exact .inl ⟨wantedF (d := 151) rfl rfl (by rw [hb.size, hsz]; omega) (hd 30 (by kernel_rfl) 151 rfl), k_val (.bool false) (by decide) hs (x_move rfl ((hb.old 14 (by decide +kernel)).trans h14)) rfl⟩
                refine ⟨?_, ?_⟩
                · intro a' w' k' hb hf hs hc hq hg hd
                  exact .inl ⟨wantedF (d := 151) rfl rfl (by rw [hb.size, hsz]; omega) (hd 30 (by kernel_rfl) 151 rfl), k_val (.bool true) (by decide) hs (x_not (b := false) rfl (hd 31 (by kernel_rfl) 152 rfl)) rfl⟩
                refine ⟨?_, ?_⟩
                · intro a' w' k' hb hf hs hc hq hg hd
                  exact .inl ⟨wantedF (d := 151) rfl rfl (by rw [hb.size, hsz]; omega) (hd 30 (by kernel_rfl) 151 rfl), k_val (.bool true) (by decide) hs (x_move rfl (hd 32 (by kernel_rfl) 153 rfl)) rfl⟩
                refine ⟨?_, ?_⟩
                · intro a' w' k' hb hf hs hc hq hg hd
                  exact .inl ⟨wantedT (d := 154) rfl rfl (by rw [hb.size, hsz]; omega) (hd 33 (by kernel_rfl) 154 rfl), k_val (.slice ot 0 ct) (by decide) hs (x_move rfl ((hb.old 12 (by decide +kernel)).trans h12)) rfl⟩
                refine ⟨?_, ?_⟩
                · intro a' w' k' hb hf hs hc hq hg hd
                  exact .inl ⟨wantedT (d := 154) rfl rfl (by rw [hb.size, hsz]; omega) (hd 33 (by kernel_rfl) 154 rfl), k_val (.int .i64 ((0 : Nat) : Int)) (by decide) hs (x_len36 rfl (hd 34 (by kernel_rfl) 155 rfl)) rfl⟩
                refine ⟨?_, ?_⟩
                · intro a' w' k' hb hf hs hc hq hg hd
                  exact .inl ⟨wantedT (d := 154) rfl rfl (by rw [hb.size, hsz]; omega) (hd 33 (by kernel_rfl) 154 rfl), k_val (.bool false) (by decide) hs (x_gtr rfl (hd 35 (by kernel_rfl) 156 rfl) rfl (by decide)) rfl⟩
                refine ⟨?_, ?_⟩
                · intro a' w' k' hb hf hs hc hq hg hd
                  exact .inl ⟨wantedF (d := 151) rfl rfl (by rw [hb.size, hsz]; omega) (hd 30 (by kernel_rfl) 151 rfl), k_val (.bool false) (by decide) hs (x_pickT rfl (hd 33 (by kernel_rfl) 154 rfl) (hd 36 (by kernel_rfl) 157 rfl)) rfl⟩
                refine ⟨?_, ?_⟩
                · intro a' w' k' hb hf hs hc hq hg hd
                  exact .inl ⟨wantedN rfl, k_val (.bool false) (by decide) hs (x_pickF rfl (hd 30 (by kernel_rfl) 151 rfl) (hd 37 (by kernel_rfl) 158 rfl)) rfl⟩
                exact trivial
              case done =>
                intro a' w' hb hf hs hall
                have hdf' : a'.defers = [] := by rw [hb.defers]; exact hdf
                have hfr := frame_eq (a := a') (vs := [.pointer (some ⟨p, 0, none⟩), .pointer (some ⟨p2, 0, none⟩), a0.tmps.getD 2 undef, a0.tmps.getD 3 undef, a0.tmps.getD 4 undef, a0.tmps.getD 5 undef, a0.tmps.getD 6 undef, .int .i64 a, .slice oa la.length ca, .int .i64 E, .string (str la), .int .i64 E, .slice ot 0 ct, .bool false, .bool false, a0.tmps.getD 15 undef, a0.tmps.getD 16 undef, a0.tmps.getD 17 undef, a0.tmps.getD 18 undef, a0.tmps.getD 19 undef, a0.tmps.getD 20 undef, a0.tmps.getD 21 undef, a0.tmps.getD 22 undef, a0.tmps.getD 23 undef, a0.tmps.getD 24 undef, a0.tmps.getD 25 undef, a0.tmps.getD 26 undef, a0.tmps.getD 27 undef, a0.tmps.getD 28 undef, a0.tmps.getD 29 undef, a0.tmps.getD 30 undef, a0.tmps.getD 31 undef, a0.tmps.getD 32 undef, a0.tmps.getD 33 undef, a0.tmps.getD 34 undef, a0.tmps.getD 35 undef, a0.tmps.getD 36 undef, a0.tmps.getD 37 undef, a0.tmps.getD 38 undef, a0.tmps.getD 39 undef, a0.tmps.getD 40 undef, a0.tmps.getD 41 undef, a0.tmps.getD 42 undef, a0.tmps.getD 43 undef, a0.tmps.getD 44 undef, a0.tmps.getD 45 undef, a0.tmps.getD 46 undef, a0.tmps.getD 47 undef, a0.tmps.getD 48 undef, a0.tmps.getD 49 undef, a0.tmps.getD 50 undef, a0.tmps.getD 51 undef, a0.tmps.getD 52 undef, a0.tmps.getD 53 undef, a0.tmps.getD 54 undef, a0.tmps.getD 55 undef, a0.tmps.getD 56 undef, a0.tmps.getD 57 undef, a0.tmps.getD 58 undef, a0.tmps.getD 59 undef, a0.tmps.getD 60 undef, a0.tmps.getD 61 undef, a0.tmps.getD 62 undef, a0.tmps.getD 63 undef, a0.tmps.getD 64 undef, a0.tmps.getD 65 undef, a0.tmps.getD 66 undef, a0.tmps.getD 67 undef, a0.tmps.getD 68 undef, a0.tmps.getD 69 undef, a0.tmps.getD 70 undef, a0.tmps.getD 71 undef, a0.tmps.getD 72 undef, a0.tmps.getD 73 undef, a0.tmps.getD 74 undef, a0.tmps.getD 75 undef, a0.tmps.getD 76 undef, a0.tmps.getD 77 undef, a0.tmps.getD 78 undef, a0.tmps.getD 79 undef, a0.tmps.getD 80 undef, a0.tmps.getD 81 undef, a0.tmps.getD 82 undef, a0.tmps.getD 83 undef, a0.tmps.getD 84 undef, a0.tmps.getD 85 undef, a0.tmps.getD 86 undef, a0.tmps.getD 87 undef, a0.tmps.getD 88 undef, a0.tmps.getD 89 undef, a0.tmps.getD 90 undef, a0.tmps.getD 91 undef, a0.tmps.getD 92 undef, a0.tmps.getD 93 undef, a0.tmps.getD 94 undef, a0.tmps.getD 95 undef, a0.tmps.getD 96 undef, a0.tmps.getD 97 undef, a0.tmps.getD 98 undef, a0.tmps.getD 99 undef, a0.tmps.getD 100 undef, a0.tmps.getD 101 undef, a0.tmps.getD 102 undef, a0.tmps.getD 103 undef, a0.tmps.getD 104 undef, a0.tmps.getD 105 undef, a0.tmps.getD 106 undef, a0.tmps.getD 107 undef, a0.tmps.getD 108 undef, a0.tmps.getD 109 undef, a0.tmps.getD 110 undef, a0.tmps.getD 111 undef, a0.tmps.getD 112 undef, a0.tmps.getD 113 undef, a0.tmps.getD 114 undef, a0.tmps.getD 115 undef, a0.tmps.getD 116 undef, a0.tmps.getD 117 undef, a0.tmps.getD 118 undef, a0.tmps.getD 119 undef, a0.tmps.getD 120 undef, .slice oa la.length ca, .string (str la), .string (str la), .bool false, .bool false, .int .i64 E, .int .i64 E, .int .i64 E, .bool false, .bool false, .bool false, .bool false, .bool false, .bool false, .bool false, .bool false, .bool false, .bool false, undef, undef, undef, undef, undef, undef, undef, undef, undef, undef, .bool false, .bool false, .bool false, .bool false, .bool true, .bool true, .slice ot 0 ct, .int .i64 ((0 : Nat) : Int), .bool false, .bool false, .bool false, a0.tmps.getD 160 undef, a0.tmps.getD 161 undef, a0.tmps.getD 162 undef, a0.tmps.getD 163 undef, a0.tmps.getD 164 undef, a0.tmps.getD 165 undef, a0.tmps.getD 166 undef, a0.tmps.getD 167 undef, a0.tmps.getD 168 undef, a0.tmps.getD 169 undef, a0.tmps.getD 170 undef, a0.tmps.getD 171 undef, a0.tmps.getD 172 undef, a0.tmps.getD 173 undef, a0.tmps.getD 174 undef, a0.tmps.getD 175 undef, a0.tmps.getD 176 undef, a0.tmps.getD 177 undef, a0.tmps.getD 178 undef, a0.tmps.getD 179 undef, a0.tmps.getD 180 undef, a0.tmps.getD 181 undef, a0.tmps.getD 182 undef, a0.tmps.getD 183 undef, a0.tmps.getD 184 undef, a0.tmps.getD 185 undef, a0.tmps.getD 186 undef, a0.tmps.getD 187 undef, a0.tmps.getD 188 undef, a0.tmps.getD 189 undef, a0.tmps.getD 190 undef, a0.tmps.getD 191 undef, a0.tmps.getD 192 undef, a0.tmps.getD 193 undef, a0.tmps.getD 194 undef]) (by rw [hb.size, hsz]; rfl) hdf' ⟨((hb.old 0 (by decide +kernel)).trans h0), ((hb.old 1 (by decide +kernel)).trans h1), (hb.old 2 (by decide +kernel)), (hb.old 3 (by decide +kernel)), (hb.old 4 (by decide +kernel)), (hb.old 5 (by decide +kernel)), (hb.old 6 (by decide +kernel)), ((hb.old 7 (by decide +kernel)).trans h7), ((hb.old 8 (by decide +kernel)).trans h8), ((hb.old 9 (by decide +kernel)).trans h9), ((hb.old 10 (by decide +kernel)).trans h10), ((hb.old 11 (by decide +kernel)).trans h11), ((hb.old 12 (by decide +kernel)).trans h12), ((hb.old 13 (by decide +kernel)).trans h13), ((hb.old 14 (by decide +kernel)).trans h14), (hb.old 15 (by decide +kernel)), (hb.old 16 (by decide +kernel)), (hb.old 17 (by decide +kernel)), (hb.old 18 (by decide +kernel)), (hb.old 19 (by decide +kernel)), (hb.old 20 (by decide +kernel)), (hb.old 21 (by decide +kernel)), (hb.old 22 (by decide +kernel)), (hb.old 23 (by decide +kernel)), (hb.old 24 (by decide +kernel)), (hb.old 25 (by decide +kernel)), (hb.old 26 (by decide +kernel)), (hb.old 27 (by decide +kernel)), (hb.old 28 (by decide +kernel)), (hb.old 29 (by decide +kernel)), (hb.old 30 (by decide +kernel)), (hb.old 31 (by decide +kernel)), (hb.old 32 (by decide +kernel)), (hb.old 33 (by decide +kernel)), (hb.old 34 (by decide +kernel)), (hb.old 35 (by decide +kernel)), (hb.old 36 (by decide +kernel)), (hb.old 37 (by decide +kernel)), (hb.old 38 (by decide +kernel)), (hb.old 39 (by decide +kernel)), (hb.old 40 (by decide +kernel)), (hb.old 41 (by decide +kernel)), (hb.old 42 (by decide +kernel)), (hb.old 43 (by decide +kernel)), (hb.old 44 (by decide +kernel)), (hb.old 45 (by decide +kernel)), (hb.old 46 (by decide +kernel)), (hb.old 47 (by decide +kernel)), (hb.old 48 (by decide +kernel)), (hb.old 49 (by decide +kernel)), (hb.old 50 (by decide +kernel)), (hb.old 51 (by decide +kernel)), (hb.old 52 (by decide +kernel)), (hb.old 53 (by decide +kernel)), (hb.old 54 (by decide +kernel)), (hb.old 55 (by decide +kernel)), (hb.old 56 (by decide +kernel)), (hb.old 57 (by decide +kernel)), (hb.old 58 (by decide +kernel)), (hb.old 59 (by decide +kernel)), (hb.old 60 (by decide +kernel)), (hb.old 61 (by decide +kernel)), (hb.old 62 (by decide +kernel)), (hb.old 63 (by decide +kernel)), (hb.old 64 (by decide +kernel)), (hb.old 65 (by decide +kernel)), (hb.old 66 (by decide +kernel)), (hb.old 67 (by decide +kernel)), (hb.old 68 (by decide +kernel)), (hb.old 69 (by decide +kernel)), (hb.old 70 (by decide +kernel)), (hb.old 71 (by decide +kernel)), (hb.old 72 (by decide +kernel)), (hb.old 73 (by decide +kernel)), (hb.old 74 (by decide +kernel)), (hb.old 75 (by decide +kernel)), (hb.old 76 (by decide +kernel)), (hb.old 77 (by decide +kernel)), (hb.old 78 (by decide +kernel)), (hb.old 79 (by decide +kernel)), (hb.old 80 (by decide +kernel)), (hb.old 81 (by decide +kernel)), (hb.old 82 (by decide +kernel)), (hb.old 83 (by decide +kernel)), (hb.old 84 (by decide +kernel)), (hb.old 85 (by decide +kernel)), (hb.old 86 (by decide +kernel)), (hb.old 87 (by decide +kernel)), (hb.old 88 (by decide +kernel)), (hb.old 89 (by decide +kernel)), (hb.old 90 (by decide +kernel)), (hb.old 91 (by decide +kernel)), (hb.old 92 (by decide +kernel)), (hb.old 93 (by decide +kernel)), (hb.old 94 (by decide +kernel)), (hb.old 95 (by decide +kernel)), (hb.old 96 (by decide +kernel)), (hb.old 97 (by decide +kernel)), (hb.old 98 (by decide +kernel)), (hb.old 99 (by decide +kernel)), (hb.old 100 (by decide +kernel)), (hb.old 101 (by decide +kernel)), (hb.old 102 (by decide +kernel)), (hb.old 103 (by decide +kernel)), (hb.old 104 (by decide +kernel)), (hb.old 105 (by decide +kernel)), (hb.old 106 (by decide +kernel)), (hb.old 107 (by decide +kernel)), (hb.old 108 (by decide +kernel)), (hb.old 109 (by decide +kernel)), (hb.old 110 (by decide +kernel)), (hb.old 111 (by decide +kernel)), (hb.old 112 (by decide +kernel)), (hb.old 113 (by decide +kernel)), (hb.old 114 (by decide +kernel)), (hb.old 115 (by decide +kernel)), (hb.old 116 (by decide +kernel)), (hb.old 117 (by decide +kernel)), (hb.old 118 (by decide +kernel)), (hb.old 119 (by decide +kernel)), (hb.old 120 (by decide +kernel)), (show a'.tmps.getD 121 undef = .slice oa la.length ca from hall 0 (by decide) 121 rfl), (show a'.tmps.getD 122 undef = .string (str la) from hall 1 (by decide) 122 rfl), (show a'.tmps.getD 123 undef = .string (str la) from hall 2 (by decide) 123 rfl), (show a'.tmps.getD 124 undef = .bool false from hall 3 (by decide) 124 rfl), (show a'.tmps.getD 125 undef = .bool false from hall 4 (by decide) 125 rfl), (show a'.tmps.getD 126 undef = .int .i64 E from hall 5 (by decide) 126 rfl), (show a'.tmps.getD 127 undef = .int .i64 E from hall 6 (by decide) 127 rfl), (show a'.tmps.getD 128 undef = .int .i64 E from hall 7 (by decide) 128 rfl), (show a'.tmps.getD 129 undef = .bool false from hall 8 (by decide) 129 rfl), (show a'.tmps.getD 130 undef = .bool false from hall 9 (by decide) 130 rfl), (show a'.tmps.getD 131 undef = .bool false from hall 10 (by decide) 131 rfl), (show a'.tmps.getD 132 undef = .bool false from hall 11 (by decide) 132 rfl), (show a'.tmps.getD 133 undef = .bool false from hall 12 (by decide) 133 rfl), (show a'.tmps.getD 134 undef = .bool false from hall 13 (by decide) 134 rfl), (show a'.tmps.getD 135 undef = .bool false from hall 14 (by decide) 135 rfl), (show a'.tmps.getD 136 undef = .bool false from hall 15 (by decide) 136 rfl), (show a'.tmps.getD 137 undef = .bool false from hall 16 (by decide) 137 rfl), (show a'.tmps.getD 138 undef = .bool false from hall 17 (by decide) 138 rfl), (show a'.tmps.getD 139 undef = undef from hall 18 (by decide) 139 rfl), (show a'.tmps.getD 140 undef = undef from hall 19 (by decide) 140 rfl), (show a'.tmps.getD 141 undef = undef from hall 20 (by decide) 141 rfl), (show a'.tmps.getD 142 undef = undef from hall 21 (by decide) 142 rfl), (show a'.tmps.getD 143 undef = undef from hall 22 (by decide) 143 rfl), (show a'.tmps.getD 144 undef = undef from hall 23 (by decide) 144 rfl), (show a'.tmps.getD 145 undef = undef from hall 24 (by decide) 145 rfl), (show a'.tmps.getD 146 undef = undef from hall 25 (by decide) 146 rfl), (show a'.tmps.getD 147 undef = undef from hall 26 (by decide) 147 rfl), (show a'.tmps.getD 148 undef = undef from hall 27 (by decide) 148 rfl), (show a'.tmps.getD 149 undef = .bool false from hall 28 (by decide) 149 rfl), (show a'.tmps.getD 150 undef = .bool false from hall 29 (by decide) 150 rfl), (show a'.tmps.getD 151 undef = .bool false from hall 30 (by decide) 151 rfl), (show a'.tmps.getD 152 undef = .bool false from hall 31 (by decide) 152 rfl), (show a'.tmps.getD 153 undef = .bool true from hall 32 (by decide) 153 rfl), (show a'.tmps.getD 154 undef = .bool true from hall 33 (by decide) 154 rfl), (show a'.tmps.getD 155 undef = .slice ot 0 ct from hall 34 (by decide) 155 rfl), (show a'.tmps.getD 156 undef = .int .i64 ((0 : Nat) : Int) from hall 35 (by decide) 156 rfl), (show a'.tmps.getD 157 undef = .bool false from hall 36 (by decide) 157 rfl), (show a'.tmps.getD 158 undef = .bool false from hall 37 (by decide) 158 rfl), (show a'.tmps.getD 159 undef = .bool false from hall 38 (by decide) 159 rfl), (hb.old 160 (by decide +kernel)), (hb.old 161 (by decide +kernel)), (hb.old 162 (by decide +kernel)), (hb.old 163 (by decide +kernel)), (hb.old 164 (by decide +kernel)), (hb.old 165 (by decide +kernel)), (hb.old 166 (by decide +kernel)), (hb.old 167 (by decide +kernel)), (hb.old 168 (by decide +kernel)), (hb.old 169 (by decide +kernel)), (hb.old 170 (by decide +kernel)), (hb.old 171 (by decide +kernel)), (hb.old 172 (by decide +kernel)), (hb.old 173 (by decide +kernel)), (hb.old 174 (by decide +kernel)), (hb.old 175 (by decide +kernel)), (hb.old 176 (by decide +kernel)), (hb.old 177 (by decide +kernel)), (hb.old 178 (by decide +kernel)), (hb.old 179 (by decide +kernel)), (hb.old 180 (by decide +kernel)), (hb.old 181 (by decide +kernel)), (hb.old 182 (by decide +kernel)), (hb.old 183 (by decide +kernel)), (hb.old 184 (by decide +kernel)), (hb.old 185 (by decide +kernel)), (hb.old 186 (by decide +kernel)), (hb.old 187 (by decide +kernel)), (hb.old 188 (by decide +kernel)), (hb.old 189 (by decide +kernel)), (hb.old 190 (by decide +kernel)), (hb.old 191 (by decide +kernel)), (hb.old 192 (by decide +kernel)), (hb.old 193 (by decide +kernel)), (hb.old 194 (by decide +kernel)), trivial⟩
                have F8 := hide ((unhide FQ).trans hf (fun _ _ h => h))
                have NA8 := hide ((unhide NA).fr hf)
                have NS8 := hide ((unhide NS).fr hf)
                clear hall hb hf hs
                subst hfr
                rw [unhide HA0]
                clear HA0 h0 h1 h7 h8 h9 h10 h11 h12 h13 h14 hsz hdf hdf' FQ NA NS RA RS RQ c0
                apply_assumption
                go_wp2_with fail
                go_loopw [15] (fun y W => ∃ j : Nat, j ≤ la.length ∧ y = .int .i64 (j : Int) ∧ SpB wr.heap.size W oa la.length ca ∧ SpB w5.heap.size W ot 0 ct ∧ Fr (fun _ => False) w W) (fun y _ => la.length - (intOf y).toNat)
                case atStart => exact ⟨0, by omega, rfl, unhide NA8, unhide NS8, unhide F8⟩
                case round =>
                  clear F8 NA8 NS8
                  obtain ⟨j, hj, rfl, hA, hB, hf⟩ := hrel
                  by_cases hjl : j < la.length
                  · have bj : decide ((j : Int) < (la.length : Int)) = true := by simp; omega
                    obtain ⟨ba, fa, rfl, hN, hac, hcm, cu, hcu, hcs⟩ := hA.resolve_left (by omega)
                    have y1 := cell_of_heap hcu (fa + j)
                    rw [Array.getElem?_eq_getElem (show fa + j < cu.size by omega)] at y1
                    have z1 := frozen_of_heap hcu (fa + j)
                    have HA := hide (SpB.set hA ba (fa + j) (.int .u8 122))
                    have HB := hide (hB.set ba (fa + j) (.int .u8 122))
                    have HF := hide (hf.setCell (p := ⟨ba, fa + j, none⟩) (fun h => by have h' : ba < w.heap.size := h; omega) (.int .u8 122))
                    have hjc : j < ca := by omega
                    generalize cu[fa + j] = oc at y1
                    clear hA hB hf hcu hcs
                    go_wp2_with fail
                    go_roundw
                    case rel => exact ⟨j + 1, by omega, by go_num, unhide HA, unhide HB, unhide HF⟩
                    case measure => simp [intOf]; omega
                  · have bj : decide ((j : Int) < (la.length : Int)) = false := by simp; omega
                    have HB := hide hB
                    have HF := hide hf
                    clear hA hB hf
                    go_wp2_with fail
                    go_loopw [16] (fun y W => y = .int .i64 0 ∧ Fr (fun _ => False) w W) (fun _ _ => 0)
                    case atStart => exact ⟨rfl, unhide HF⟩
                    case round =>
                      clear HB HF
                      obtain ⟨rfl, hf⟩ := hrel
                      · have HF := hide hf
                        clear hf
                        go_wp2_with fail
                        refine (unhide HRD _ ((unhide HP).k.kept (unhide HF) id id (fun _ _ h => h))).mono ?_
                        rintro e w9 ⟨⟨oc, cc, rfl, hrc, -⟩, f9⟩
                        have kc := conv_rd (P := Try.prog) hrc 36 9 5 Try.underlying36 Try.underlying5 Try.underlying9
                        have HF9 := hide ((unhide HF).trans f9 (fun _ _ h => h))
                        generalize str la = sla at *
                        clear hrc f9 HRD HF
                        go_wp2_with fail
                        go_roundw
                        case rel => have hal := unhide HAL; exact ⟨a + 1, by omega, by omega, by go_num, unhide HF9⟩
                        case measure => have hal := unhide HAL; simp [intOf]; omega
            · obtain ⟨x, rfl⟩ : ∃ x : Nat, a = (x : Int) := ⟨a.toNat, by omega⟩
              have hx : x < d.S.length := by omega
              have b1 : decide ((x : Int) < (d.S.length : Int)) = true := by simp; omega
              have hhas : hasB d (x : Int) = true := by unfold hasB; rw [b1]; simp
              clear h hal ha0
              have HRD := hide (fun W (h : KAt W p gs q d) => read_any W p gs q d (x : Int) h)
              have HRR := hide (fun W (h : RAt W p2 sg hg q2 d) => rread_any W p2 sg hg q2 d (x : Int) h)
              have HST := hide (fun W (h : KAt W p gs q d) => stable_any W p gs q d (x : Int) h)
              rw [hhas] at HST
              have HSE : Hid ((d.S[x]).1 = stD d (x : Int)) := hide (by unfold stD; rw [hhas]; simp [List.getD, hx])
              have hlsl := st_len (unhide HP).k.ok (x : Int)
              generalize stD d (x : Int) = ls at HST HSE hlsl
              have hlal := rd_len (unhide HP).k.ok (x : Int)
              generalize rdD d (x : Int) = R at HRD HRR hlal
              obtain ⟨la, E⟩ := R
              dsimp only [List.length_nil] at HRD HRR HST hlal
              clear hhas
              go_wp2_with fail
              refine (unhide HRD _ (unhide KW)).mono ?_
              rintro e w5 ⟨⟨oa, ca, rfl, hra, hna⟩, f5⟩
              have RA5 := hide hra
              have NA5 := hide (SpB.of hra hna)
              have F5 := hide ((unhide HFW).trans f5 (fun _ _ h => h))
              have K5 := hide ((unhide KW).kept f5 id id (fun _ _ h => h))
              have R5 := hide ((unhide RW).kept0 f5)
              have hsz5 := (unhide HFW).size
              clear hra hna f5 KW RW HFW
              have c0 := cell_of_heap (unhide R5).heap 0
              simp at c0
              go_wp2_with fail
              refine (unhide HRR _ (unhide R5)).mono ?_
              rintro e w' ⟨rfl, rfl⟩
              clear HRR
              go_wp2_with fail
              refine (unhide HST _ (unhide K5)).mono ?_
              rintro e wq ⟨⟨ot, ct, rfl, hrs, hns⟩, f6⟩
              have RA := hide ((unhide RA5).kept f6 (fun _ _ h => h))
              have NA := hide ((unhide NA5).fr f6)
              have RS := hide hrs
              have NS := hide (SpB.of (l := ls) hrs hns)
              have FQ := hide ((unhide F5).trans f6 (fun _ _ h => h))
              have RQ := hide ((unhide R5).kept0 f6)
              have HN5 := hide (unhide F5).size
              clear hrs hns f6 K5 R5 F5 RA5 NA5 HST c0
              have c0 := cell_of_heap (unhide RQ).heap 0
              simp at c0
              go_wp2_with fail
              refine wp_nameK ?_
              intro a0 hA
              have h0 : a0.tmps.getD 0 undef = .pointer (some ⟨p, 0, none⟩) := by rw [hA]; rfl
              have h1 : a0.tmps.getD 1 undef = .pointer (some ⟨p2, 0, none⟩) := by rw [hA]; rfl
              have h7 : a0.tmps.getD 7 undef = .int .i64 (x : Int) := by rw [hA]; rfl
              have h8 : a0.tmps.getD 8 undef = .slice oa la.length ca := by rw [hA]; rfl
              have h9 : a0.tmps.getD 9 undef = .int .i64 E := by rw [hA]; rfl
              have h10 : a0.tmps.getD 10 undef = .string (str la) := by rw [hA]; rfl
              have h11 : a0.tmps.getD 11 undef = .int .i64 E := by rw [hA]; rfl
              have h12 : a0.tmps.getD 12 undef = .slice ot ls.length ct := by rw [hA]; rfl
              have h13 : a0.tmps.getD 13 undef = .bool true := by rw [hA]; rfl
              have h14 : a0.tmps.getD 14 undef = .bool true := by rw [hA]; rfl
              have hsz : a0.tmps.size = 195 := by rw [hA]; rfl
              have hdf : a0.defers = [] := by rw [hA]
              have HA0 := hide hA
              clear hA
              refine wp_region_kinds3 (fun _ => False) (by kernel_rfl) (by kernel_rfl) (by decide +kernel) (by rw [hsz]; decide +kernel) [.eq (.slice oa la.length ca), .eq (.string (str la)), .eq (.string (str la)), .eq (.bool false), .eq (.bool false), .eq (.int .i64 E), .eq (.int .i64 E), .eq (.int .i64 E), .eq (.bool false), .eq (.bool false), .eq (.bool false), .eq (.bool true), .eq (.bool true), .eq (.bool false), .eq (.bool false), .eq (.bool false), .eq (.bool true), .eq (.bool true), .eq (.slice ot ls.length ct), .eq (.string (str ls)), .eq (.pointer (some ⟨p2, 0, none⟩)), .eq (.pointer (some ⟨p2, 0, none⟩)), .eq (.pointer (some ⟨p2, 0 + 0, none⟩)), .eq (.slice (some ⟨sg, 0, none⟩) d.S.length d.S.length), .eq (.int .i64 (x : Int)), .eq (.pointer (some ⟨sg, 0 + x, none⟩)), .eq (.string (str ls)), .eq (.bool false), .eq (.bool false), .eq (.bool false), .eq (.bool false), .eq (.bool true), .eq (.bool false), .eq (.bool false), .eq undef, .eq undef, .eq undef, .eq (.bool false), .eq (.bool false)] [] (by decide) (by decide) (nopaths) (fun _ W => Fr (fun _ => False) wq W) (Fr.refl _ _).drew ?steps ?done
              case steps =>
                refine ⟨?_, ?_⟩
                · intro a' w' k' hb hf hs hc hq hg hd
                  exact .inl ⟨wantedN rfl, k_val (.slice oa la.length ca) (by decide) hs (x_move rfl ((hb.old 8 (by decide +kernel)).trans h8)) rfl⟩
                refine ⟨?_, ?_⟩
                · intro a' w' k' hb hf hs hc hq hg hd
                  exact .inl ⟨wantedN rfl, k_val (.string (str la)) (by decide) hs (x_conv rfl (hd 0 (by kernel_rfl) 121 rfl) (conv_rd (P := Try.prog) ((unhide RA).kept hs (fun _ _ h => h)) 36 9 5 Try.underlying36 Try.underlying5 Try.underlying9)) rfl⟩
                refine ⟨?_, ?_⟩
                · intro a' w' k' hb hf hs hc hq hg hd
                  exact .inl ⟨wantedN rfl, k_val (.string (str la)) (by decide) hs (x_move rfl ((hb.old 10 (by decide +kernel)).trans h10)) rfl⟩
                refine ⟨?_, ?_⟩
                · intro a' w' k' hb hf hs hc hq hg hd
                  exact .inl ⟨wantedN rfl, k_val (.bool false) (by decide) hs (x_neS rfl (hd 1 (by kernel_rfl) 122 rfl) (hd 2 (by kernel_rfl) 123 rfl)) rfl⟩
                refine ⟨?_, ?_⟩
                · intro a' w' k' hb hf hs hc hq hg hd
                  exact .inl ⟨wantedN rfl, k_val (.bool false) (by decide) hs (x_move rfl (hd 3 (by kernel_rfl) 124 rfl)) rfl⟩
                refine ⟨?_, ?_⟩
                · intro a' w' k' hb hf hs hc hq hg hd
                  exact .inl ⟨wantedF (d := 125) rfl rfl (by rw [hb.size, hsz]; omega) (hd 4 (by kernel_rfl) 125 rfl), k_val (.int .i64 E) (by decide) hs (x_move rfl ((hb.old 9 (by decide +kernel)).trans h9)) rfl⟩
                refine ⟨?_, ?_⟩
                · intro a' w' k' hb hf hs hc hq hg hd
                  exact .inl ⟨wantedF (d := 125) rfl rfl (by rw [hb.size, hsz]; omega) (hd 4 (by kernel_rfl) 125 rfl), k_call 14 _ (by decide) (e_call1 rfl rfl (hd 5 (by kernel_rfl) 126 rfl) cf14) ((num_any _ _).mono (by rintro e w7 ⟨rfl, rfl⟩; exact ⟨_, rfl, rfl, Fr.refl _ _, hs⟩))⟩
                refine ⟨?_, ?_⟩
                · intro a' w' k' hb hf hs hc hq hg hd
                  exact .inl ⟨wantedF (d := 125) rfl rfl (by rw [hb.size, hsz]; omega) (hd 4 (by kernel_rfl) 125 rfl), k_val (.int .i64 E) (by decide) hs (x_move rfl ((hb.old 11 (by decide +kernel)).trans h11)) rfl⟩
                refine ⟨?_, ?_⟩
                · intro a' w' k' hb hf hs hc hq hg hd
                  exact .inl ⟨wantedF (d := 125) rfl rfl (by rw [hb.size, hsz]; omega) (hd 4 (by kernel_rfl) 125 rfl), k_val (.bool false) (by decide) hs (x_neI Try.underlying3 rfl (hd 6 (by kernel_rfl) 127 rfl) (hd 7 (by kernel_rfl) 128 rfl) (by simp)) rfl⟩
                refine ⟨?_, ?_⟩
                · intro a' w' k' hb hf hs hc hq hg hd
                  exact .inl ⟨wantedN rfl, k_val (.bool false) (by decide) hs (x_pickF rfl (hd 4 (by kernel_rfl) 125 rfl) (hd 8 (by kernel_rfl) 129 rfl)) rfl⟩
                refine ⟨?_, ?_⟩
                · intro a' w' k' hb hf hs hc hq hg hd
                  exact .inl ⟨wantedN rfl, k_val (.bool false) (by decide) hs (x_move rfl (hd 9 (by kernel_rfl) 130 rfl)) rfl⟩
                refine ⟨?_, ?_⟩
                · intro a' w' k' hb hf hs hc hq hg hd
                  exact .inl ⟨wantedF (d := 131) rfl rfl (by rw [hb.size, hsz]; omega) (hd 10 (by kernel_rfl) 131 rfl), k_val (.bool true) (by decide) hs (x_move rfl ((hb.old 13 (by decide +kernel)).trans h13)) rfl⟩
                refine ⟨?_, ?_⟩
                · intro a' w' k' hb hf hs hc hq hg hd
                  exact .inl ⟨wantedF (d := 131) rfl rfl (by rw [hb.size, hsz]; omega) (hd 10 (by kernel_rfl) 131 rfl), k_val (.bool true) (by decide) hs (x_move rfl ((hb.old 14 (by decide +kernel)).trans h14)) rfl⟩
                refine ⟨?_, ?_⟩
                · intro a' w' k' hb hf hs hc hq hg hd
                  exact .inl ⟨wantedF (d := 131) rfl rfl (by rw [hb.size, hsz]; omega) (hd 10 (by kernel_rfl) 131 rfl), k_val (.bool false) (by decide) hs (x_neB rfl (hd 11 (by kernel_rfl) 132 rfl) (hd 12 (by kernel_rfl) 133 rfl)) rfl⟩
                refine ⟨?_, ?_⟩
                · intro a' w' k' hb hf hs hc hq hg hd
                  exact .inl ⟨wantedN rfl, k_val (.bool false) (by decide) hs (x_pickF rfl (hd 10 (by kernel_rfl) 131 rfl) (hd 13 (by kernel_rfl) 134 rfl)) rfl⟩
                refine ⟨?_, ?_⟩
                · intro a' w' k' hb hf hs hc hq hg hd
                  exact .inl ⟨wantedN rfl, k_val (.bool false) (by decide) hs (x_move rfl (hd 14 (by kernel_rfl) 135 rfl)) rfl⟩
                refine ⟨?_, ?_⟩
                · intro a' w' k' hb hf hs hc hq hg hd
                  exact .inl ⟨wantedF (d := 136) rfl rfl (by rw [hb.size, hsz]; omega) (hd 15 (by kernel_rfl) 136 rfl), k_val (.bool true) (by decide) hs (x_move rfl ((hb.old 14 (by decide +kernel)).trans h14)) rfl⟩
                refine ⟨?_, ?_⟩
                · intro a' w' k' hb hf hs hc hq hg hd
                  exact .inl ⟨wantedF (d := 136) rfl rfl (by rw [hb.size, hsz]; omega) (hd 15 (by kernel_rfl) 136 rfl), k_val (.bool true) (by decide) hs (x_move rfl (hd 16 (by kernel_rfl) 137 rfl)) rfl⟩
                refine ⟨?_, ?_⟩
                · intro a' w' k' hb hf hs hc hq hg hd
                  exact .inl ⟨wantedT (d := 138) rfl rfl (by rw [hb.size, hsz]; omega) (hd 17 (by kernel_rfl) 138 rfl), k_val (.slice ot ls.length ct) (by decide) hs (x_move rfl ((hb.old 12 (by decide +kernel)).trans h12)) rfl⟩
                refine ⟨?_, ?_⟩
                · intro a' w' k' hb hf hs hc hq hg hd
                  exact .inl ⟨wantedT (d := 138) rfl rfl (by rw [hb.size, hsz]; omega) (hd 17 (by kernel_rfl) 138 rfl), k_val (.string (str ls)) (by decide) hs (x_conv rfl (hd 18 (by kernel_rfl) 139 rfl) (conv_rd (P := Try.prog) ((unhide RS).kept hs (fun _ _ h => h)) 36 9 5 Try.underlying36 Try.underlying5 Try.underlying9)) rfl⟩
                refine ⟨?_, ?_⟩
                · intro a' w' k' hb hf hs hc hq hg hd
                  exact .inl ⟨wantedT (d := 138) rfl rfl (by rw [hb.size, hsz]; omega) (hd 17 (by kernel_rfl) 138 rfl), k_val (.pointer (some ⟨p2, 0, none⟩)) (by decide) hs (x_move rfl ((hb.old 1 (by decide +kernel)).trans h1)) rfl⟩
                refine ⟨?_, ?_⟩
                · intro a' w' k' hb hf hs hc hq hg hd
                  exact .inl ⟨wantedT (d := 138) rfl rfl (by rw [hb.size, hsz]; omega) (hd 17 (by kernel_rfl) 138 rfl), k_val (.pointer (some ⟨p2, 0, none⟩)) (by decide) hs (x_nilCheck rfl (hd 20 (by kernel_rfl) 141 rfl)) rfl⟩
                refine ⟨?_, ?_⟩
                · intro a' w' k' hb hf hs hc hq hg hd
                  exact .inl ⟨wantedT (d := 138) rfl rfl (by rw [hb.size, hsz]; omega) (hd 17 (by kernel_rfl) 138 rfl), k_val (.pointer (some ⟨p2, 0 + 0, none⟩)) (by decide) hs (x_field (fa81_0 p2) rfl (hd 21 (by kernel_rfl) 142 rfl)) rfl⟩
                refine ⟨?_, ?_⟩
                · intro a' w' k' hb hf hs hc hq hg hd
                  exact .inl ⟨wantedT (d := 138) rfl rfl (by rw [hb.size, hsz]; omega) (hd 17 (by kernel_rfl) 138 rfl), k_val (.slice (some ⟨sg, 0, none⟩) d.S.length d.S.length) (by decide) hs (x_load1 ld79 rfl (hd 22 (by kernel_rfl) 143 rfl) (by have := cell_of_heap ((unhide RQ).kept0 hs).heap 0; simpa using this)) rfl⟩
                refine ⟨?_, ?_⟩
                · intro a' w' k' hb hf hs hc hq hg hd
                  exact .inl ⟨wantedT (d := 138) rfl rfl (by rw [hb.size, hsz]; omega) (hd 17 (by kernel_rfl) 138 rfl), k_val (.int .i64 (x : Int)) (by decide) hs (x_move rfl ((hb.old 7 (by decide +kernel)).trans h7)) rfl⟩
                refine ⟨?_, ?_⟩
                · intro a' w' k' hb hf hs hc hq hg hd
                  exact .inl ⟨wantedT (d := 138) rfl rfl (by rw [hb.size, hsz]; omega) (hd 17 (by kernel_rfl) 138 rfl), k_val (.pointer (some ⟨sg, 0 + x, none⟩)) (by decide) hs (x_idx79 hx (Nat.le_refl _) rfl (hd 23 (by kernel_rfl) 144 rfl) (hd 24 (by kernel_rfl) 145 rfl)) rfl⟩
                refine ⟨?_, ?_⟩
                · intro a' w' k' hb hf hs hc hq hg hd
                  exact .inl ⟨wantedT (d := 138) rfl rfl (by rw [hb.size, hsz]; omega) (hd 17 (by kernel_rfl) 138 rfl), k_val (.string (str ls)) (by decide) hs (x_load1 ld9 rfl (hd 25 (by kernel_rfl) 146 rfl) (by have := ((unhide RQ).kept0 hs).stc x hx; rw [unhide HSE] at this; rw [Nat.zero_add]; exact this)) rfl⟩
                refine ⟨?_, ?_⟩
                · intro a' w' k' hb hf hs hc hq hg hd
                  exact .inl ⟨wantedT (d := 138) rfl rfl (by rw [hb.size, hsz]; omega) (hd 17 (by kernel_rfl) 138 rfl), k_val (.bool false) (by decide) hs (x_neS rfl (hd 19 (by kernel_rfl) 140 rfl) (hd 26 (by kernel_rfl) 147 rfl)) rfl⟩
                refine ⟨?_, ?_⟩
                · intro a' w' k' hb hf hs hc hq hg hd
                  exact .inl ⟨wantedF (d := 136) rfl rfl (by rw [hb.size, hsz]; omega) (hd 15 (by kernel_rfl) 136 rfl), k_val (.bool false) (by decide) hs (x_pickT rfl (hd 17 (by kernel_rfl) 138 rfl) (hd 27 (by kernel_rfl) 148 rfl)) rfl⟩
                refine ⟨?_, ?_⟩
                · intro a' w' k' hb hf hs hc hq hg hd
                  exact .inl ⟨wantedN rfl, k_val (.bool false) (by decide) hs (x_pickF rfl (hd 15 (by kernel_rfl) 136 rfl) (hd 28 (by kernel_rfl) 149 rfl)) rfl⟩
                refine ⟨?_, ?_⟩
                · intro a' w' k' hb hf hs hc hq hg hd
                  exact .inl ⟨wantedN rfl, k_val (.bool false) (by decide) hs (x_move rfl (hd 29 (by kernel_rfl) 150 rfl)) rfl⟩
                refine ⟨?_, ?_⟩
                · intro a' w' k' hb hf hs hc hq hg hd
                  exact .inl ⟨wantedF (d := 151) rfl rfl (by rw [hb.size, hsz]; omega) (hd 30 (by kernel_rfl) 151 rfl), k_val (.bool true) (by decide) hs (x_move rfl ((hb.old 14 (by decide +kernel)).trans h14)) rfl⟩
                refine ⟨?_, ?_⟩
                · intro a' w' k' hb hf hs hc hq hg hd
                  exact .inl ⟨wantedF (d := 151) rfl rfl (by rw [hb.size, hsz]; omega) (hd 30 (by kernel_rfl) 151 rfl), k_val (.bool false) (by decide) hs (x_not (b := true) rfl (hd 31 (by kernel_rfl) 152 rfl)) rfl⟩
                refine ⟨?_, ?_⟩
                · intro a' w' k' hb hf hs hc hq hg hd
                  exact .inl ⟨wantedF (d := 151) rfl rfl (by rw [hb.size, hsz]; omega) (hd 30 (by kernel_rfl) 151 rfl), k_val (.bool false) (by decide) hs (x_move rfl (hd 32 (by kernel_rfl) 153 rfl)) rfl⟩
                refine ⟨?_, ?_⟩
                · intro a' w' k' hb hf hs hc hq hg hd
                  exact .inr ⟨offT (d := 154) rfl rfl (by rw [hb.size, hsz]; omega) (hd 33 (by kernel_rfl) 154 rfl), by decide, rfl, Fr.refl _ _⟩
                refine ⟨?_, ?_⟩
                · intro a' w' k' hb hf hs hc hq hg hd
                  exact .inr ⟨offT (d := 154) rfl rfl (by rw [hb.size, hsz]; omega) (hd 33 (by kernel_rfl) 154 rfl), by decide, rfl, Fr.refl _ _⟩
                refine ⟨?_, ?_⟩
                · intro a' w' k' hb hf hs hc hq hg hd
                  exact .inr ⟨offT (d := 154) rfl rfl (by rw [hb.size, hsz]; omega) (hd 33 (by kernel_rfl) 154 rfl), by decide, rfl, Fr.refl _ _⟩
                refine ⟨?_, ?_⟩
                · intro a' w' k' hb hf hs hc hq hg hd
                  exact .inl ⟨wantedF (d := 151) rfl rfl (by rw [hb.size, hsz]; omega) (hd 30 (by kernel_rfl) 151 rfl), k_val (.bool false) (by decide) hs (x_pickF rfl (hd 33 (by kernel_rfl) 154 rfl) rfl) rfl⟩
                refine ⟨?_, ?_⟩
                · intro a' w' k' hb hf hs hc hq hg hd
                  exact .inl ⟨wantedN rfl, k_val (.bool false) (by decide) hs (x_pickF rfl (hd 30 (by kernel_rfl) 151 rfl) (hd 37 (by kernel_rfl) 158 rfl)) rfl⟩
                exact trivial
              case done =>
                intro a' w' hb hf hs hall
                have hdf' : a'.defers = [] := by rw [hb.defers]; exact hdf
                have hfr := frame_eq (a := a') (vs := [.pointer (some ⟨p, 0, none⟩), .pointer (some ⟨p2, 0, none⟩), a0.tmps.getD 2 undef, a0.tmps.getD 3 undef, a0.tmps.getD 4 undef, a0.tmps.getD 5 undef, a0.tmps.getD 6 undef, .int .i64 (x : Int), .slice oa la.length ca, .int .i64 E, .string (str la), .int .i64 E, .slice ot ls.length ct, .bool true, .bool true, a0.tmps.getD 15 undef, a0.tmps.getD 16 undef, a0.tmps.getD 17 undef, a0.tmps.getD 18 undef, a0.tmps.getD 19 undef, a0.tmps.getD 20 undef, a0.tmps.getD 21 undef, a0.tmps.getD 22 undef, a0.tmps.getD 23 undef, a0.tmps.getD 24 undef, a0.tmps.getD 25 undef, a0.tmps.getD 26 undef, a0.tmps.getD 27 undef, a0.tmps.getD 28 undef, a0.tmps.getD 29 undef, a0.tmps.getD 30 undef, a0.tmps.getD 31 undef, a0.tmps.getD 32 undef, a0.tmps.getD 33 undef, a0.tmps.getD 34 undef, a0.tmps.getD 35 undef, a0.tmps.getD 36 undef, a0.tmps.getD 37 undef, a0.tmps.getD 38 undef, a0.tmps.getD 39 undef, a0.tmps.getD 40 undef, a0.tmps.getD 41 undef, a0.tmps.getD 42 undef, a0.tmps.getD 43 undef, a0.tmps.getD 44 undef, a0.tmps.getD 45 undef, a0.tmps.getD 46 undef, a0.tmps.getD 47 undef, a0.tmps.getD 48 undef, a0.tmps.getD 49 undef, a0.tmps.getD 50 undef, a0.tmps.getD 51 undef, a0.tmps.getD 52 undef, a0.tmps.getD 53 undef, a0.tmps.getD 54 undef, a0.tmps.getD 55 undef, a0.tmps.getD 56 undef, a0.tmps.getD 57 undef, a0.tmps.getD 58 undef, a0.tmps.getD 59 undef, a0.tmps.getD 60 undef, a0.tmps.getD 61 undef, a0.tmps.getD 62 undef, a0.tmps.getD 63 undef, a0.tmps.getD 64 undef, a0.tmps.getD 65 undef, a0.tmps.getD 66 undef, a0.tmps.getD 67 undef, a0.tmps.getD 68 undef, a0.tmps.getD 69 undef, a0.tmps.getD 70 undef, a0.tmps.getD 71 undef, a0.tmps.getD 72 undef, a0.tmps.getD 73 undef, a0.tmps.getD 74 undef, a0.tmps.getD 75 undef, a0.tmps.getD 76 undef, a0.tmps.getD 77 undef, a0.tmps.getD 78 undef, a0.tmps.getD 79 undef, a0.tmps.getD 80 undef, a0.tmps.getD 81 undef, a0.tmps.getD 82 undef, a0.tmps.getD 83 undef, a0.tmps.getD 84 undef, a0.tmps.getD 85 undef, a0.tmps.getD 86 undef, a0.tmps.getD 87 undef, a0.tmps.getD 88 undef, a0.tmps.getD 89 undef, a0.tmps.getD 90 undef, a0.tmps.getD 91 undef, a0.tmps.getD 92 undef, a0.tmps.getD 93 undef, a0.tmps.getD 94 undef, a0.tmps.getD 95 undef, a0.tmps.getD 96 undef, a0.tmps.getD 97 undef, a0.tmps.getD 98 undef, a0.tmps.getD 99 undef, a0.tmps.getD 100 undef, a0.tmps.getD 101 undef, a0.tmps.getD 102 undef, a0.tmps.getD 103 undef, a0.tmps.getD 104 undef, a0.tmps.getD 105 undef, a0.tmps.getD 106 undef, a0.tmps.getD 107 undef, a0.tmps.getD 108 undef, a0.tmps.getD 109 undef, a0.tmps.getD 110 undef, a0.tmps.getD 111 undef, a0.tmps.getD 112 undef, a0.tmps.getD 113 undef, a0.tmps.getD 114 undef, a0.tmps.getD 115 undef, a0.tmps.getD 116 undef, a0.tmps.getD 117 undef, a0.tmps.getD 118 undef, a0.tmps.getD 119 undef, a0.tmps.getD 120 undef, .slice oa la.length ca, .string (str la), .string (str la), .bool false, .bool false, .int .i64 E, .int .i64 E, .int .i64 E, .bool false, .bool false, .bool false, .bool true, .bool true, .bool false, .bool false, .bool false, .bool true, .bool true, .slice ot ls.length ct, .string (str ls), .pointer (some ⟨p2, 0, none⟩), .pointer (some ⟨p2, 0, none⟩), .pointer (some ⟨p2, 0, none⟩), .slice (some ⟨sg, 0, none⟩) d.S.length d.S.length, .int .i64 (x : Int), .pointer (some ⟨sg, 0 + x, none⟩), .string (str ls), .bool false, .bool false, .bool false, .bool false, .bool true, .bool false, .bool false, undef, undef, undef, .bool false, .bool false, a0.tmps.getD 160 undef, a0.tmps.getD 161 undef, a0.tmps.getD 162 undef, a0.tmps.getD 163 undef, a0.tmps.getD 164 undef, a0.tmps.getD 165 undef, a0.tmps.getD 166 undef, a0.tmps.getD 167 undef, a0.tmps.getD 168 undef, a0.tmps.getD 169 undef, a0.tmps.getD 170 undef, a0.tmps.getD 171 undef, a0.tmps.getD 172 undef, a0.tmps.getD 173 undef, a0.tmps.getD 174 undef, a0.tmps.getD 175 undef, a0.tmps.getD 176 undef, a0.tmps.getD 177 undef, a0.tmps.getD 178 undef, a0.tmps.getD 179 undef, a0.tmps.getD 180 undef, a0.tmps.getD 181 undef, a0.tmps.getD 182 undef, a0.tmps.getD 183 undef, a0.tmps.getD 184 undef, a0.tmps.getD 185 undef, a0.tmps.getD 186 undef, a0.tmps.getD 187 undef, a0.tmps.getD 188 undef, a0.tmps.getD 189 undef, a0.tmps.getD 190 undef, a0.tmps.getD 191 undef, a0.tmps.getD 192 undef, a0.tmps.getD 193 undef, a0.tmps.getD 194 undef]) (by rw [hb.size, hsz]; rfl) hdf' ⟨((hb.old 0 (by decide +kernel)).trans h0), ((hb.old 1 (by decide +kernel)).trans h1), (hb.old 2 (by decide +kernel)), (hb.old 3 (by decide +kernel)), (hb.old 4 (by decide +kernel)), (hb.old 5 (by decide +kernel)), (hb.old 6 (by decide +kernel)), ((hb.old 7 (by decide +kernel)).trans h7), ((hb.old 8 (by decide +kernel)).trans h8), ((hb.old 9 (by decide +kernel)).trans h9), ((hb.old 10 (by decide +kernel)).trans h10), ((hb.old 11 (by decide +kernel)).trans h11), ((hb.old 12 (by decide +kernel)).trans h12), ((hb.old 13 (by decide +kernel)).trans h13), ((hb.old 14 (by decide +kernel)).trans h14), (hb.old 15 (by decide +kernel)), (hb.old 16 (by decide +kernel)), (hb.old 17 (by decide +kernel)), (hb.old 18 (by decide +kernel)), (hb.old 19 (by decide +kernel)), (hb.old 20 (by decide +kernel)), (hb.old 21 (by decide +kernel)), (hb.old 22 (by decide +kernel)), (hb.old 23 (by decide +kernel)), (hb.old 24 (by decide +kernel)), (hb.old 25 (by decide +kernel)), (hb.old 26 (by decide +kernel)), (hb.old 27 (by decide +kernel)), (hb.old 28 (by decide +kernel)), (hb.old 29 (by decide +kernel)), (hb.old 30 (by decide +kernel)), (hb.old 31 (by decide +kernel)), (hb.old 32 (by decide +kernel)), (hb.old 33 (by decide +kernel)), (hb.old 34 (by decide +kernel)), (hb.old 35 (by decide +kernel)), (hb.old 36 (by decide +kernel)), (hb.old 37 (by decide +kernel)), (hb.old 38 (by decide +kernel)), (hb.old 39 (by decide +kernel)), (hb.old 40 (by decide +kernel)), (hb.old 41 (by decide +kernel)), (hb.old 42 (by decide +kernel)), (hb.old 43 (by decide +kernel)), (hb.old 44 (by decide +kernel)), (hb.old 45 (by decide +kernel)), (hb.old 46 (by decide +kernel)), (hb.old 47 (by decide +kernel)), (hb.old 48 (by decide +kernel)), (hb.old 49 (by decide +kernel)), (hb.old 50 (by decide +kernel)), (hb.old 51 (by decide +kernel)), (hb.old 52 (by decide +kernel)), (hb.old 53 (by decide +kernel)), (hb.old 54 (by decide +kernel)), (hb.old 55 (by decide +kernel)), (hb.old 56 (by decide +kernel)), (hb.old 57 (by decide +kernel)), (hb.old 58 (by decide +kernel)), (hb.old 59 (by decide +kernel)), (hb.old 60 (by decide +kernel)), (hb.old 61 (by decide +kernel)), (hb.old 62 (by decide +kernel)), (hb.old 63 (by decide +kernel)), (hb.old 64 (by decide +kernel)), (hb.old 65 (by decide +kernel)), (hb.old 66 (by decide +kernel)), (hb.old 67 (by decide +kernel)), (hb.old 68 (by decide +kernel)), (hb.old 69 (by decide +kernel)), (hb.old 70 (by decide +kernel)), (hb.old 71 (by decide +kernel)), (hb.old 72 (by decide +kernel)), (hb.old 73 (by decide +kernel)), (hb.old 74 (by decide +kernel)), (hb.old 75 (by decide +kernel)), (hb.old 76 (by decide +kernel)), (hb.old 77 (by decide +kernel)), (hb.old 78 (by decide +kernel)), (hb.old 79 (by decide +kernel)), (hb.old 80 (by decide +kernel)), (hb.old 81 (by decide +kernel)), (hb.old 82 (by decide +kernel)), (hb.old 83 (by decide +kernel)), (hb.old 84 (by decide +kernel)), (hb.old 85 (by decide +kernel)), (hb.old 86 (by decide +kernel)), (hb.old 87 (by decide +kernel)), (hb.old 88 (by decide +kernel)), (hb.old 89 (by decide +kernel)), (hb.old 90 (by decide +kernel)), (hb.old 91 (by decide +kernel)), (hb.old 92 (by decide +kernel)), (hb.old 93 (by decide +kernel)), (hb.old 94 (by decide +kernel)), (hb.old 95 (by decide +kernel)), (hb.old 96 (by decide +kernel)), (hb.old 97 (by decide +kernel)), (hb.old 98 (by decide +kernel)), (hb.old 99 (by decide +kernel)), (hb.old 100 (by decide +kernel)), (hb.old 101 (by decide +kernel)), (hb.old 102 (by decide +kernel)), (hb.old 103 (by decide +kernel)), (hb.old 104 (by decide +kernel)), (hb.old 105 (by decide +kernel)), (hb.old 106 (by decide +kernel)), (hb.old 107 (by decide +kernel)), (hb.old 108 (by decide +kernel)), (hb.old 109 (by decide +kernel)), (hb.old 110 (by decide +kernel)), (hb.old 111 (by decide +kernel)), (hb.old 112 (by decide +kernel)), (hb.old 113 (by decide +kernel)), (hb.old 114 (by decide +kernel)), (hb.old 115 (by decide +kernel)), (hb.old 116 (by decide +kernel)), (hb.old 117 (by decide +kernel)), (hb.old 118 (by decide +kernel)), (hb.old 119 (by decide +kernel)), (hb.old 120 (by decide +kernel)), (show a'.tmps.getD 121 undef = .slice oa la.length ca from hall 0 (by decide) 121 rfl), (show a'.tmps.getD 122 undef = .string (str la) from hall 1 (by decide) 122 rfl), (show a'.tmps.getD 123 undef = .string (str la) from hall 2 (by decide) 123 rfl), (show a'.tmps.getD 124 undef = .bool false from hall 3 (by decide) 124 rfl), (show a'.tmps.getD 125 undef = .bool false from hall 4 (by decide) 125 rfl), (show a'.tmps.getD 126 undef = .int .i64 E from hall 5 (by decide) 126 rfl), (show a'.tmps.getD 127 undef = .int .i64 E from hall 6 (by decide) 127 rfl), (show a'.tmps.getD 128 undef = .int .i64 E from hall 7 (by decide) 128 rfl), (show a'.tmps.getD 129 undef = .bool false from hall 8 (by decide) 129 rfl), (show a'.tmps.getD 130 undef = .bool false from hall 9 (by decide) 130 rfl), (show a'.tmps.getD 131 undef = .bool false from hall 10 (by decide) 131 rfl), (show a'.tmps.getD 132 undef = .bool true from hall 11 (by decide) 132 rfl), (show a'.tmps.getD 133 undef = .bool true from hall 12 (by decide) 133 rfl), (show a'.tmps.getD 134 undef = .bool false from hall 13 (by decide) 134 rfl), (show a'.tmps.getD 135 undef = .bool false from hall 14 (by decide) 135 rfl), (show a'.tmps.getD 136 undef = .bool false from hall 15 (by decide) 136 rfl), (show a'.tmps.getD 137 undef = .bool true from hall 16 (by decide) 137 rfl), (show a'.tmps.getD 138 undef = .bool true from hall 17 (by decide) 138 rfl), (show a'.tmps.getD 139 undef = .slice ot ls.length ct from hall 18 (by decide) 139 rfl), (show a'.tmps.getD 140 undef = .string (str ls) from hall 19 (by decide) 140 rfl), (show a'.tmps.getD 141 undef = .pointer (some ⟨p2, 0, none⟩) from hall 20 (by decide) 141 rfl), (show a'.tmps.getD 142 undef = .pointer (some ⟨p2, 0, none⟩) from hall 21 (by decide) 142 rfl), (show a'.tmps.getD 143 undef = .pointer (some ⟨p2, 0, none⟩) from hall 22 (by decide) 143 rfl), (show a'.tmps.getD 144 undef = .slice (some ⟨sg, 0, none⟩) d.S.length d.S.length from hall 23 (by decide) 144 rfl), (show a'.tmps.getD 145 undef = .int .i64 (x : Int) from hall 24 (by decide) 145 rfl), (show a'.tmps.getD 146 undef = .pointer (some ⟨sg, 0 + x, none⟩) from hall 25 (by decide) 146 rfl), (show a'.tmps.getD 147 undef = .string (str ls) from hall 26 (by decide) 147 rfl), (show a'.tmps.getD 148 undef = .bool false from hall 27 (by decide) 148 rfl), (show a'.tmps.getD 149 undef = .bool false from hall 28 (by decide) 149 rfl), (show a'.tmps.getD 150 undef = .bool false from hall 29 (by decide) 150 rfl), (show a'.tmps.getD 151 undef = .bool false from hall 30 (by decide) 151 rfl), (show a'.tmps.getD 152 undef = .bool true from hall 31 (by decide) 152 rfl), (show a'.tmps.getD 153 undef = .bool false from hall 32 (by decide) 153 rfl), (show a'.tmps.getD 154 undef = .bool false from hall 33 (by decide) 154 rfl), (show a'.tmps.getD 155 undef = undef from hall 34 (by decide) 155 rfl), (show a'.tmps.getD 156 undef = undef from hall 35 (by decide) 156 rfl), (show a'.tmps.getD 157 undef = undef from hall 36 (by decide) 157 rfl), (show a'.tmps.getD 158 undef = .bool false from hall 37 (by decide) 158 rfl), (show a'.tmps.getD 159 undef = .bool false from hall 38 (by decide) 159 rfl), (hb.old 160 (by decide +kernel)), (hb.old 161 (by decide +kernel)), (hb.old 162 (by decide +kernel)), (hb.old 163 (by decide +kernel)), (hb.old 164 (by decide +kernel)), (hb.old 165 (by decide +kernel)), (hb.old 166 (by decide +kernel)), (hb.old 167 (by decide +kernel)), (hb.old 168 (by decide +kernel)), (hb.old 169 (by decide +kernel)), (hb.old 170 (by decide +kernel)), (hb.old 171 (by decide +kernel)), (hb.old 172 (by decide +kernel)), (hb.old 173 (by decide +kernel)), (hb.old 174 (by decide +kernel)), (hb.old 175 (by decide +kernel)), (hb.old 176 (by decide +kernel)), (hb.old 177 (by decide +kernel)), (hb.old 178 (by decide +kernel)), (hb.old 179 (by decide +kernel)), (hb.old 180 (by decide +kernel)), (hb.old 181 (by decide +kernel)), (hb.old 182 (by decide +kernel)), (hb.old 183 (by decide +kernel)), (hb.old 184 (by decide +kernel)), (hb.old 185 (by decide +kernel)), (hb.old 186 (by decide +kernel)), (hb.old 187 (by decide +kernel)), (hb.old 188 (by decide +kernel)), (hb.old 189 (by decide +kernel)), (hb.old 190 (by decide +kernel)), (hb.old 191 (by decide +kernel)), (hb.old 192 (by decide +kernel)), (hb.old 193 (by decide +kernel)), (hb.old 194 (by decide +kernel)), trivial⟩
                have F8 := hide ((unhide FQ).trans hf (fun _ _ h => h))
                have NA8 := hide ((unhide NA).fr hf)
                have NS8 := hide ((unhide NS).fr hf)
                clear hall hb hf hs
                subst hfr
                rw [unhide HA0]
                clear HA0 h0 h1 h7 h8 h9 h10 h11 h12 h13 h14 hsz hdf hdf' FQ NA NS RA RS RQ c0
                apply_assumption
                go_wp2_with fail
                go_loopw [15] (fun y W => ∃ j : Nat, j ≤ la.length ∧ y = .int .i64 (j : Int) ∧ SpB wr.heap.size W oa la.length ca ∧ SpB w5.heap.size W ot ls.length ct ∧ Fr (fun _ => False) w W) (fun y _ => la.length - (intOf y).toNat)
                case atStart => exact ⟨0, by omega, rfl, unhide NA8, unhide NS8, unhide F8⟩
                case round =>
                  clear F8 NA8 NS8
                  obtain ⟨j, hj, rfl, hA, hB, hf⟩ := hrel
                  by_cases hjl : j < la.length
                  · have bj : decide ((j : Int) < (la.length : Int)) = true := by simp; omega
                    obtain ⟨ba, fa, rfl, hN, hac, hcm, cu, hcu, hcs⟩ := hA.resolve_left (by omega)
                    have y1 := cell_of_heap hcu (fa + j)
                    rw [Array.getElem?_eq_getElem (show fa + j < cu.size by omega)] at y1
                    have z1 := frozen_of_heap hcu (fa + j)
                    have HA := hide (SpB.set hA ba (fa + j) (.int .u8 122))
                    have HB := hide (hB.set ba (fa + j) (.int .u8 122))
                    have HF := hide (hf.setCell (p := ⟨ba, fa + j, none⟩) (fun h => by have h' : ba < w.heap.size := h; omega) (.int .u8 122))
                    have hjc : j < ca := by omega
                    generalize cu[fa + j] = oc at y1
                    clear hA hB hf hcu hcs
                    go_wp2_with fail
                    go_roundw
                    case rel => exact ⟨j + 1, by omega, by go_num, unhide HA, unhide HB, unhide HF⟩
                    case measure => simp [intOf]; omega
                  · have bj : decide ((j : Int) < (la.length : Int)) = false := by simp; omega
                    have HB := hide hB
                    have HF := hide hf
                    clear hA hB hf
                    go_wp2_with fail
                    go_loopw [16] (fun y W => ∃ j : Nat, j ≤ ls.length ∧ y = .int .i64 (j : Int) ∧ SpB w5.heap.size W ot ls.length ct ∧ Fr (fun _ => False) w W) (fun y _ => ls.length - (intOf y).toNat)
                    case atStart => exact ⟨0, by omega, rfl, unhide HB, unhide HF⟩
                    case round =>
                      clear HB HF
                      obtain ⟨j2, hj2, rfl, hB, hf⟩ := hrel
                      by_cases hjl2 : j2 < ls.length
                      · have bj2 : decide ((j2 : Int) < (ls.length : Int)) = true := by simp; omega
                        obtain ⟨ba, fa, rfl, hN, hac, hcm, cu, hcu, hcs⟩ := hB.resolve_left (by omega)
                        have y1 := cell_of_heap hcu (fa + j2)
                        rw [Array.getElem?_eq_getElem (show fa + j2 < cu.size by omega)] at y1
                        have z1 := frozen_of_heap hcu (fa + j2)
                        have HB := hide (SpB.set hB ba (fa + j2) (.int .u8 121))
                        have HF := hide (hf.setCell (p := ⟨ba, fa + j2, none⟩) (fun h => by have h' : ba < w.heap.size := h; have := unhide HN5; omega) (.int .u8 121))
                        have hjc : j2 < ct := by omega
                        generalize cu[fa + j2] = oc at y1
                        clear hB hf hcu hcs
                        go_wp2_with fail
                        go_roundw
                        case rel => exact ⟨j2 + 1, by omega, by go_num, unhide HB, unhide HF⟩
                        case measure => simp [intOf]; omega
                      · have bj2 : decide ((j2 : Int) < (ls.length : Int)) = false := by simp; omega
                        have HF := hide hf
                        clear hB hf
                        go_wp2_with fail
                        refine (unhide HRD _ ((unhide HP).k.kept (unhide HF) id id (fun _ _ h => h))).mono ?_
                        rintro e w9 ⟨⟨oc, cc, rfl, hrc, -⟩, f9⟩
                        have kc := conv_rd (P := Try.prog) hrc 36 9 5 Try.underlying36 Try.underlying5 Try.underlying9
                        have HF9 := hide ((unhide HF).trans f9 (fun _ _ h => h))
                        generalize str la = sla at *
                        clear hrc f9 HRD HF
                        go_wp2_with fail
                        go_roundw
                        case rel => exact ⟨(x : Int) + 1, by omega, by omega, by go_num, unhide HF9⟩
                        case measure => simp [intOf]; omega
            · have b0 : decide (0 ≤ a) = true := by simp; omega
              have b1 : decide (a < (d.S.length : Int)) = false := by simp; omega
              have hhas : hasB d a = false := by unfold hasB; rw [b0, b1]; rfl
              have HAL := hide hal
              clear h hal
              have HRD := hide (fun W (h : KAt W p gs q d) => read_any W p gs q d a h)
              have HRR := hide (fun W (h : RAt W p2 sg hg q2 d) => rread_any W p2 sg hg q2 d a h)
              have HST := hide (fun W (h : KAt W p gs q d) => stable_any W p gs q d a h)
              rw [hhas] at HST
              have hst0 : stD d a = [] := by unfold stD; rw [hhas]; rfl
              rw [hst0] at HST
              clear hst0
              have hlal := rd_len (unhide HP).k.ok a
              generalize rdD d a = R at HRD HRR hlal
              obtain ⟨la, E⟩ := R
              dsimp only [List.length_nil] at HRD HRR HST hlal
              clear hhas
              go_wp2_with fail
              refine (unhide HRD _ (unhide KW)).mono ?_
              rintro e w5 ⟨⟨oa, ca, rfl, hra, hna⟩, f5⟩
              have RA5 := hide hra
              have NA5 := hide (SpB.of hra hna)
              have F5 := hide ((unhide HFW).trans f5 (fun _ _ h => h))
              have K5 := hide ((unhide KW).kept f5 id id (fun _ _ h => h))
              have R5 := hide ((unhide RW).kept0 f5)
              have hsz5 := (unhide HFW).size
              clear hra hna f5 KW RW HFW
              have c0 := cell_of_heap (unhide R5).heap 0
              simp at c0
              go_wp2_with fail
              refine (unhide HRR _ (unhide R5)).mono ?_
              rintro e w' ⟨rfl, rfl⟩
              clear HRR
              go_wp2_with fail
              refine (unhide HST _ (unhide K5)).mono ?_
              rintro e wq ⟨⟨ot, ct, rfl, hrs, hns⟩, f6⟩
              have RA := hide ((unhide RA5).kept f6 (fun _ _ h => h))
              have NA := hide ((unhide NA5).fr f6)
              have RS := hide hrs
              have NS := hide (SpB.of (l := []) hrs hns)
              have FQ := hide ((unhide F5).trans f6 (fun _ _ h => h))
              have RQ := hide ((unhide R5).kept0 f6)
              have HN5 := hide (unhide F5).size
              clear hrs hns f6 K5 R5 F5 RA5 NA5 HST c0
              have c0 := cell_of_heap (unhide RQ).heap 0
              simp at c0
              go_wp2_with fail
              refine wp_nameK ?_
              intro a0 hA
              have h0 : a0.tmps.getD 0 undef = .pointer (some ⟨p, 0, none⟩) := by rw [hA]; rfl
              have h1 : a0.tmps.getD 1 undef = .pointer (some ⟨p2, 0, none⟩) := by rw [hA]; rfl
              have h7 : a0.tmps.getD 7 undef = .int .i64 a := by rw [hA]; rfl
              have h8 : a0.tmps.getD 8 undef = .slice oa la.length ca := by rw [hA]; rfl
              have h9 : a0.tmps.getD 9 undef = .int .i64 E := by rw [hA]; rfl
              have h10 : a0.tmps.getD 10 undef = .string (str la) := by rw [hA]; rfl
              have h11 : a0.tmps.getD 11 undef = .int .i64 E := by rw [hA]; rfl
              have h12 : a0.tmps.getD 12 undef = .slice ot 0 ct := by rw [hA]; rfl
              have h13 : a0.tmps.getD 13 undef = .bool false := by rw [hA]; rfl
              have h14 : a0.tmps.getD 14 undef = .bool false := by rw [hA]; rfl
              have hsz : a0.tmps.size = 195 := by rw [hA]; rfl
              have hdf : a0.defers = [] := by rw [hA]
              have HA0 := hide hA
              clear hA
              refine wp_region_kinds3 (fun _ => False) (by kernel_rfl) (by kernel_rfl) (by decide +kernel) (by rw [hsz]; decide +kernel) [.eq (.slice oa la.length ca), .eq (.string (str la)), .eq (.string (str la)), .eq (.bool false), .eq (.bool false), .eq (.int .i64 E), .eq (.int .i64 E), .eq (.int .i64 E), .eq (.bool false), .eq (.bool false), .eq (.bool false), .eq (.bool false), .eq (.bool false), .eq (.bool false), .eq (.bool false), .eq (.bool false), .eq (.bool false), .eq (.bool false), .eq undef, .eq undef, .eq undef, .eq undef, .eq undef, .eq undef, .eq undef, .eq undef, .eq undef, .eq undef, .eq (.bool false), .eq (.bool false), .eq (.bool false), .eq (.bool false), .eq (.bool true), .eq (.bool true), .eq (.slice ot 0 ct), .eq (.int .i64 ((0 : Nat) : Int)), .eq (.bool false), .eq (.bool false), .eq (.bool false)] [] (by decide) (by decide) (nopaths) (fun _ W => Fr (fun _ => False) wq W) (Fr.refl _ _).drew ?steps ?done
              case steps =>
                refine ⟨?_, ?_⟩
                · intro a' w' k' hb hf hs hc hq hg hd
                  exact .inl ⟨wantedN rfl, k_val (.slice oa la.length ca) (by decide) hs (x_move rfl ((hb.old 8 (by decide +kernel)).trans h8)) rfl⟩
                refine ⟨?_, ?_⟩
                · intro a' w' k' hb hf hs hc hq hg hd
                  exact .inl ⟨wantedN rfl, k_val (.string (str la)) (by decide) hs (x_conv rfl (hd 0 (by kernel_rfl) 121 rfl) (conv_rd (P := Try.prog) ((unhide RA).kept hs (fun _ _ h => h)) 36 9 5 Try.underlying36 Try.underlying5 Try.underlying9)) rfl⟩
                refine ⟨?_, ?_⟩
                · intro a' w' k' hb hf hs hc hq hg hd
                  exact .inl ⟨wantedN rfl, k_val (.string (str la)) (by decide) hs (x_move rfl ((hb.old 10 (by decide +kernel)).trans h10)) rfl⟩
                refine ⟨?_, ?_⟩
                · intro a' w' k' hb hf hs hc hq hg hd
                  exact .inl ⟨wantedN rfl, k_val (.bool false) (by decide) hs (x_neS rfl (hd 1 (by kernel_rfl) 122 rfl) (hd 2 (by kernel_rfl) 123 rfl)) rfl⟩
                refine ⟨?_, ?_⟩
                · intro a' w' k' hb hf hs hc hq hg hd
                  exact .inl ⟨wantedN rfl, k_val (.bool false) (by decide) hs (x_move rfl (hd 3 (by kernel_rfl) 124 rfl)) rfl⟩
                refine ⟨?_, ?_⟩
                · intro a' w' k' hb hf hs hc hq hg hd
                  exact .inl ⟨wantedF (d := 125) rfl rfl (by rw [hb.size, hsz]; omega) (hd 4 (by kernel_rfl) 125 rfl), k_val (.int .i64 E) (by decide) hs (x_move rfl ((hb.old 9 (by decide +kernel)).trans h9)) rfl⟩
                refine ⟨?_, ?_⟩
                · intro a' w' k' hb hf hs hc hq hg hd
                  exact .inl ⟨wantedF (d := 125) rfl rfl (by rw [hb.size, hsz]; omega) (hd 4 (by kernel_rfl) 125 rfl), k_call 14 _ (by decide) (e_call1 rfl rfl (hd 5 (by kernel_rfl) 126 rfl) cf14) ((num_any _ _).mono (by rintro e w7 ⟨rfl, rfl⟩; exact ⟨_, rfl, rfl, Fr.refl _ _, hs⟩))⟩
                refine ⟨?_, ?_⟩
                · intro a' w' k' hb hf hs hc hq hg hd
                  exact .inl ⟨wantedF (d := 125) rfl rfl (by rw [hb.size, hsz]; omega) (hd 4 (by kernel_rfl) 125 rfl), k_val (.int .i64 E) (by decide) hs (x_move rfl ((hb.old 11 (by decide +kernel)).trans h11)) rfl⟩
                refine ⟨?_, ?_⟩
                · intro a' w' k' hb hf hs hc hq hg hd
                  exact .inl ⟨wantedF (d := 125) rfl rfl (by rw [hb.size, hsz]; omega) (hd 4 (by kernel_rfl) 125 rfl), k_val (.bool false) (by decide) hs (x_neI Try.underlying3 rfl (hd 6 (by kernel_rfl) 127 rfl) (hd 7 (by kernel_rfl) 128 rfl) (by simp)) rfl⟩
                refine ⟨?_, ?_⟩
                · intro a' w' k' hb hf hs hc hq hg hd
                  exact .inl ⟨wantedN rfl, k_val (.bool false) (by decide) hs (x_pickF rfl (hd 4 (by kernel_rfl) 125 rfl) (hd 8 (by kernel_rfl) 129 rfl)) rfl⟩
                refine ⟨?_, ?_⟩
                · intro a' w' k' hb hf hs hc hq hg hd
                  exact .inl ⟨wantedN rfl, k_val (.bool false) (by decide) hs (x_move rfl (hd 9 (by kernel_rfl) 130 rfl)) rfl⟩
                refine ⟨?_, ?_⟩
                · intro a' w' k' hb hf hs hc hq hg hd
                  exact .inl ⟨wantedF (d := 131) rfl rfl (by rw [hb.size, hsz]; omega) (hd 10 (by kernel_rfl) 131 rfl), k_val (.bool false) (by decide) hs (x_move rfl ((hb.old 13 (by decide +kernel)).trans h13)) rfl⟩
                refine ⟨?_, ?_⟩
                · intro a' w' k' hb hf hs hc hq hg hd
                  exact .inl ⟨wantedF (d := 131) rfl rfl (by rw [hb.size, hsz]; omega) (hd 10 (by kernel_rfl) 131 rfl), k_val (.bool false) (by decide) hs (x_move rfl ((hb.old 14 (by decide +kernel)).trans h14)) rfl⟩
                refine ⟨?_, ?_⟩
                · intro a' w' k' hb hf hs hc hq hg hd
                  exact .inl ⟨wantedF (d := 131) rfl rfl (by rw [hb.size, hsz]; omega) (hd 10 (by kernel_rfl) 131 rfl), k_val (.bool false) (by decide) hs (x_neB rfl (hd 11 (by kernel_rfl) 132 rfl) (hd 12 (by kernel_rfl) 133 rfl)) rfl⟩
                refine ⟨?_, ?_⟩
                · intro a' w' k' hb hf hs hc hq hg hd
                  exact .inl ⟨wantedN rfl, k_val (.bool false) (by decide) hs (x_pickF rfl (hd 10 (by kernel_rfl) 131 rfl) (hd 13 (by kernel_rfl) 134 rfl)) rfl⟩
                refine ⟨?_, ?_⟩
                · intro a' w' k' hb hf hs hc hq hg hd
                  exact .inl ⟨wantedN rfl, k_val (.bool false) (by decide) hs (x_move rfl (hd 14 (by kernel_rfl) 135 rfl)) rfl⟩
                refine ⟨?_, ?_⟩
                · intro a' w' k' hb hf hs hc hq hg hd
                  exact .inl ⟨wantedF (d := 136) rfl rfl (by rw [hb.size, hsz]; omega) (hd 15 (by kernel_rfl) 136 rfl), k_val (.bool false) (by decide) hs (x_move rfl ((hb.old 14 (by decide +kernel)).trans h14)) rfl⟩
                refine ⟨?_, ?_⟩
                · intro a' w' k' hb hf hs hc hq hg hd
                  exact .inl ⟨wantedF (d := 136) rfl rfl (by rw [hb.size, hsz]; omega) (hd 15 (by kernel_rfl) 136 rfl), k_val (.bool false) (by decide) hs (x_move rfl (hd 16 (by kernel_rfl) 137 rfl)) rfl⟩
                refine ⟨?_, ?_⟩
                · intro a' w' k' hb hf hs hc hq hg hd
                  exact .inr ⟨offT (d := 138) rfl rfl (by rw [hb.size, hsz]; omega) (hd 17 (by kernel_rfl) 138 rfl), by decide, rfl, Fr.refl _ _⟩
                refine ⟨?_, ?_⟩
                · intro a' w' k' hb hf hs hc hq hg hd
                  exact .inr ⟨offT (d := 138) rfl rfl (by rw [hb.size, hsz]; omega) (hd 17 (by kernel_rfl) 138 rfl), by decide, rfl, Fr.refl _ _⟩
                refine ⟨?_, ?_⟩
                · intro a' w' k' hb hf hs hc hq hg hd
                  exact .inr ⟨offT (d := 138) rfl rfl (by rw [hb.size, hsz]; omega) (hd 17 (by kernel_rfl) 138 rfl), by decide, rfl, Fr.refl _ _⟩
                refine ⟨?_, ?_⟩
                · intro a' w' k' hb hf hs hc hq hg hd
                  exact .inr ⟨offT (d := 138) rfl rfl (by rw [hb.size, hsz]; omega) (hd 17 (by kernel_rfl) 138 rfl), by decide, rfl, Fr.refl _ _⟩
                refine ⟨?_, ?_⟩
                · intro a' w' k' hb hf hs hc hq hg hd
                  exact .inr ⟨offT (d := 138) rfl rfl (by rw [hb.size, hsz]; omega) (hd 17 (by kernel_rfl) 138 rfl), by decide, rfl, Fr.refl _ _⟩
                refine ⟨?_, ?_⟩
                · intro a' w' k' hb hf hs hc hq hg hd
                  exact .inr ⟨offT (d := 138) rfl rfl (by rw [hb.size, hsz]; omega) (hd 17 (by kernel_rfl) 138 rfl), by decide, rfl, Fr.refl _ _⟩
                refine ⟨?_, ?_⟩
                · intro a' w' k' hb hf hs hc hq hg hd
                  exact .inr ⟨offT (d := 138) rfl rfl (by rw [hb.size, hsz]; omega) (hd 17 (by kernel_rfl) 138 rfl), by decide, rfl, Fr.refl _ _⟩
                refine ⟨?_, ?_⟩
                · intro a' w' k' hb hf hs hc hq hg hd
                  exact .inr ⟨offT (d := 138) rfl rfl (by rw [hb.size, hsz]; omega) (hd 17 (by kernel_rfl) 138 rfl), by decide, rfl, Fr.refl _ _⟩
                refine ⟨?_, ?_⟩
                · intro a' w' k' hb hf hs hc hq hg hd
                  exact .inr ⟨offT (d := 138) rfl rfl (by rw [hb.size, hsz]; omega) (hd 17 (by kernel_rfl) 138 rfl), by decide, rfl, Fr.refl _ _⟩
                refine ⟨?_, ?_⟩
                · intro a' w' k' hb hf hs hc hq hg hd
                  exact .inr ⟨offT (d := 138) rfl rfl (by rw [hb.size, hsz]; omega) (hd 17 (by kernel_rfl) 138 rfl), by decide, rfl, Fr.refl _ _⟩
                refine ⟨?_, ?_⟩
                · intro a' w' k' hb hf hs hc hq hg hd
                  exact .inl ⟨wantedF (d := 136) rfl rfl (by rw [hb.size, hsz]; omega) (hd 15 (by kernel_rfl) 136 rfl), k_val (.bool false) (by decide) hs (x_pickF rfl (hd 17 (by kernel_rfl) 138 rfl) rfl) rfl⟩
                refine ⟨?_, ?_⟩
                · intro a' w' k' hb hf hs hc hq hg hd
                  exact .inl ⟨wantedN rfl, k_val (.bool false) (by decide) hs (x_pickF rfl (hd 15 (by kernel_rfl) 136 rfl) (hd 28 (by kernel_rfl) 149 rfl)) rfl⟩
                refine ⟨?_, ?_⟩
                · intro a' w' k' hb hf hs hc hq hg hd
                  exact .inl ⟨wantedN rfl, k_val (.bool false) (by decide) hs (x_move rfl (hd 29 (by kernel_rfl) 150 rfl)) rfl⟩
                refine ⟨?_, ?_⟩
                · intro a' w' k' hb hf hs hc hq hg hd
                  exact .inl ⟨wantedF (d := 151) rfl rfl (by rw [hb.size, hsz]; omega) (hd 30 (by kernel_rfl) 151 rfl), k_val (.bool false) (by decide) hs (x_move rfl ((hb.old 14 (by decide +kernel)).trans h14)) rfl⟩
                refine ⟨?_, ?_⟩
                · intro a' w' k' hb hf hs hc hq hg hd
                  exact .inl ⟨wantedF (d := 151) rfl rfl (by rw [hb.size, hsz]; omega) (hd 30 (by kernel_rfl) 151 rfl), k_val (.bool true) (by decide) hs (x_not (b := false) rfl (hd 31 (by kernel_rfl) 152 rfl)) rfl⟩
                refine ⟨?_, ?_⟩
                · intro a' w' k' hb hf hs hc hq hg hd
                  exact .inl ⟨wantedF (d := 151) rfl rfl (by rw [hb.size, hsz]; omega) (hd 30 (by kernel_rfl) 151 rfl), k_val (.bool true) (by decide) hs (x_move rfl (hd 32 (by kernel_rfl) 153 rfl)) rfl⟩
                refine ⟨?_, ?_⟩
                · intro a' w' k' hb hf hs hc hq hg hd
                  exact .inl ⟨wantedT (d := 154) rfl rfl (by rw [hb.size, hsz]; omega) (hd 33 (by kernel_rfl) 154 rfl), k_val (.slice ot 0 ct) (by decide) hs (x_move rfl ((hb.old 12 (by decide +kernel)).trans h12)) rfl⟩
                refine ⟨?_, ?_⟩
                · intro a' w' k' hb hf hs hc hq hg hd
                  exact .inl ⟨wantedT (d := 154) rfl rfl (by rw [hb.size, hsz]; omega) (hd 33 (by kernel_rfl) 154 rfl), k_val (.int .i64 ((0 : Nat) : Int)) (by decide) hs (x_len36 rfl (hd 34 (by kernel_rfl) 155 rfl)) rfl⟩
                refine ⟨?_, ?_⟩
                · intro a' w' k' hb hf hs hc hq hg hd
                  exact .inl ⟨wantedT (d := 154) rfl rfl (by rw [hb.size, hsz]; omega) (hd 33 (by kernel_rfl) 154 rfl), k_val (.bool false) (by decide) hs (x_gtr rfl (hd 35 (by kernel_rfl) 156 rfl) rfl (by decide)) rfl⟩
                refine ⟨?_, ?_⟩
                · intro a' w' k' hb hf hs hc hq hg hd
                  exact .inl ⟨wantedF (d := 151) rfl rfl (by rw [hb.size, hsz]; omega) (hd 30 (by kernel_rfl) 151 rfl), k_val (.bool false) (by decide) hs (x_pickT rfl (hd 33 (by kernel_rfl) 154 rfl) (hd 36 (by kernel_rfl) 157 rfl)) rfl⟩
                refine ⟨?_, ?_⟩
                · intro a' w' k' hb hf hs hc hq hg hd
                  exact .inl ⟨wantedN rfl, k_val (.bool false) (by decide) hs (x_pickF rfl (hd 30 (by kernel_rfl) 151 rfl) (hd 37 (by kernel_rfl) 158 rfl)) rfl⟩
                exact trivial
              case done =>
                intro a' w' hb hf hs hall
                have hdf' : a'.defers = [] := by rw [hb.defers]; exact hdf
                have hfr := frame_eq (a := a') (vs := [.pointer (some ⟨p, 0, none⟩), .pointer (some ⟨p2, 0, none⟩), a0.tmps.getD 2 undef, a0.tmps.getD 3 undef, a0.tmps.getD 4 undef, a0.tmps.getD 5 undef, a0.tmps.getD 6 undef, .int .i64 a, .slice oa la.length ca, .int .i64 E, .string (str la), .int .i64 E, .slice ot 0 ct, .bool false, .bool false, a0.tmps.getD 15 undef, a0.tmps.getD 16 undef, a0.tmps.getD 17 undef, a0.tmps.getD 18 undef, a0.tmps.getD 19 undef, a0.tmps.getD 20 undef, a0.tmps.getD 21 undef, a0.tmps.getD 22 undef, a0.tmps.getD 23 undef, a0.tmps.getD 24 undef, a0.tmps.getD 25 undef, a0.tmps.getD 26 undef, a0.tmps.getD 27 undef, a0.tmps.getD 28 undef, a0.tmps.getD 29 undef, a0.tmps.getD 30 undef, a0.tmps.getD 31 undef, a0.tmps.getD 32 undef, a0.tmps.getD 33 undef, a0.tmps.getD 34 undef, a0.tmps.getD 35 undef, a0.tmps.getD 36 undef, a0.tmps.getD 37 undef, a0.tmps.getD 38 undef, a0.tmps.getD 39 undef, a0.tmps.getD 40 undef, a0.tmps.getD 41 undef, a0.tmps.getD 42 undef, a0.tmps.getD 43 undef, a0.tmps.getD 44 undef, a0.tmps.getD 45 undef, a0.tmps.getD 46 undef, a0.tmps.getD 47 undef, a0.tmps.getD 48 undef, a0.tmps.getD 49 undef, a0.tmps.getD 50 undef, a0.tmps.getD 51 undef, a0.tmps.getD 52 undef, a0.tmps.getD 53 undef, a0.tmps.getD 54 undef, a0.tmps.getD 55 undef, a0.tmps.getD 56 undef, a0.tmps.getD 57 undef, a0.tmps.getD 58 undef, a0.tmps.getD 59 undef, a0.tmps.getD 60 undef, a0.tmps.getD 61 undef, a0.tmps.getD 62 undef, a0.tmps.getD 63 undef, a0.tmps.getD 64 undef, a0.tmps.getD 65 undef, a0.tmps.getD 66 undef, a0.tmps.getD 67 undef, a0.tmps.getD 68 undef, a0.tmps.getD 69 undef, a0.tmps.getD 70 undef, a0.tmps.getD 71 undef, a0.tmps.getD 72 undef, a0.tmps.getD 73 undef, a0.tmps.getD 74 undef, a0.tmps.getD 75 undef, a0.tmps.getD 76 undef, a0.tmps.getD 77 undef, a0.tmps.getD 78 undef, a0.tmps.getD 79 undef, a0.tmps.getD 80 undef, a0.tmps.getD 81 undef, a0.tmps.getD 82 undef, a0.tmps.getD 83 undef, a0.tmps.getD 84 undef, a0.tmps.getD 85 undef, a0.tmps.getD 86 undef, a0.tmps.getD 87 undef, a0.tmps.getD 88 undef, a0.tmps.getD 89 undef, a0.tmps.getD 90 undef, a0.tmps.getD 91 undef, a0.tmps.getD 92 undef, a0.tmps.getD 93 undef, a0.tmps.getD 94 undef, a0.tmps.getD 95 undef, a0.tmps.getD 96 undef, a0.tmps.getD 97 undef, a0.tmps.getD 98 undef, a0.tmps.getD 99 undef, a0.tmps.getD 100 undef, a0.tmps.getD 101 undef, a0.tmps.getD 102 undef, a0.tmps.getD 103 undef, a0.tmps.getD 104 undef, a0.tmps.getD 105 undef, a0.tmps.getD 106 undef, a0.tmps.getD 107 undef, a0.tmps.getD 108 undef, a0.tmps.getD 109 undef, a0.tmps.getD 110 undef, a0.tmps.getD 111 undef, a0.tmps.getD 112 undef, a0.tmps.getD 113 undef, a0.tmps.getD 114 undef, a0.tmps.getD 115 undef, a0.tmps.getD 116 undef, a0.tmps.getD 117 undef, a0.tmps.getD 118 undef, a0.tmps.getD 119 undef, a0.tmps.getD 120 undef, .slice oa la.length ca, .string (str la), .string (str la), .bool false, .bool false, .int .i64 E, .int .i64 E, .int .i64 E, .bool false, .bool false, .bool false, .bool false, .bool false, .bool false, .bool false, .bool false, .bool false, .bool false, undef, undef, undef, undef, undef, undef, undef, undef, undef, undef, .bool false, .bool false, .bool false, .bool false, .bool true, .bool true, .slice ot 0 ct, .int .i64 ((0 : Nat) : Int), .bool false, .bool false, .bool false, a0.tmps.getD 160 undef, a0.tmps.getD 161 undef, a0.tmps.getD 162 undef, a0.tmps.getD 163 undef, a0.tmps.getD 164 undef, a0.tmps.getD 165 undef, a0.tmps.getD 166 undef, a0.tmps.getD 167 undef, a0.tmps.getD 168 undef, a0.tmps.getD 169 undef, a0.tmps.getD 170 undef, a0.tmps.getD 171 undef, a0.tmps.getD 172 undef, a0.tmps.getD 173 undef, a0.tmps.getD 174 undef, a0.tmps.getD 175 undef, a0.tmps.getD 176 undef, a0.tmps.getD 177 undef, a0.tmps.getD 178 undef, a0.tmps.getD 179 undef, a0.tmps.getD 180 undef, a0.tmps.getD 181 undef, a0.tmps.getD 182 undef, a0.tmps.getD 183 undef, a0.tmps.getD 184 undef, a0.tmps.getD 185 undef, a0.tmps.getD 186 undef, a0.tmps.getD 187 undef, a0.tmps.getD 188 undef, a0.tmps.getD 189 undef, a0.tmps.getD 190 undef, a0.tmps.getD 191 undef, a0.tmps.getD 192 undef, a0.tmps.getD 193 undef, a0.tmps.getD 194 undef]) (by rw [hb.size, hsz]; rfl) hdf' ⟨((hb.old 0 (by decide +kernel)).trans h0), ((hb.old 1 (by decide +kernel)).trans h1), (hb.old 2 (by decide +kernel)), (hb.old 3 (by decide +kernel)), (hb.old 4 (by decide +kernel)), (hb.old 5 (by decide +kernel)), (hb.old 6 (by decide +kernel)), ((hb.old 7 (by decide +kernel)).trans h7), ((hb.old 8 (by decide +kernel)).trans h8), ((hb.old 9 (by decide +kernel)).trans h9), ((hb.old 10 (by decide +kernel)).trans h10), ((hb.old 11 (by decide +kernel)).trans h11), ((hb.old 12 (by decide +kernel)).trans h12), ((hb.old 13 (by decide +kernel)).trans h13), ((hb.old 14 (by decide +kernel)).trans h14), (hb.old 15 (by decide +kernel)), (hb.old 16 (by decide +kernel)), (hb.old 17 (by decide +kernel)), (hb.old 18 (by decide +kernel)), (hb.old 19 (by decide +kernel)), (hb.old 20 (by decide +kernel)), (hb.old 21 (by decide +kernel)), (hb.old 22 (by decide +kernel)), (hb.old 23 (by decide +kernel)), (hb.old 24 (by decide +kernel)), (hb.old 25 (by decide +kernel)), (hb.old 26 (by decide +kernel)), (hb.old 27 (by decide +kernel)), (hb.old 28 (by decide +kernel)), (hb.old 29 (by decide +kernel)), (hb.old 30 (by decide +kernel)), (hb.old 31 (by decide +kernel)), (hb.old 32 (by decide +kernel)), (hb.old 33 (by decide +kernel)), (hb.old 34 (by decide +kernel)), (hb.old 35 (by decide +kernel)), (hb.old 36 (by decide +kernel)), (hb.old 37 (by decide +kernel)), (hb.old 38 (by decide +kernel)), (hb.old 39 (by decide +kernel)), (hb.old 40 (by decide +kernel)), (hb.old 41 (by decide +kernel)), (hb.old 42 (by decide +kernel)), (hb.old 43 (by decide +kernel)), (hb.old 44 (by decide +kernel)), (hb.old 45 (by decide +kernel)), (hb.old 46 (by decide +kernel)), (hb.old 47 (by decide +kernel)), (hb.old 48 (by decide +kernel)), (hb.old 49 (by decide +kernel)), (hb.old 50 (by decide +kernel)), (hb.old 51 (by decide +kernel)), (hb.old 52 (by decide +kernel)), (hb.old 53 (by decide +kernel)), (hb.old 54 (by decide +kernel)), (hb.old 55 (by decide +kernel)), (hb.old 56 (by decide +kernel)), (hb.old 57 (by decide +kernel)), (hb.old 58 (by decide +kernel)), (hb.old 59 (by decide +kernel)), (hb.old 60 (by decide +kernel)), (hb.old 61 (by decide +kernel)), (hb.old 62 (by decide +kernel)), (hb.old 63 (by decide +kernel)), (hb.old 64 (by decide +kernel)), (hb.old 65 (by decide +kernel)), (hb.old 66 (by decide +kernel)), (hb.old 67 (by decide +kernel)), (hb.old 68 (by decide +kernel)), (hb.old 69 (by decide +kernel)), (hb.old 70 (by decide +kernel)), (hb.old 71 (by decide +kernel)), (hb.old 72 (by decide +kernel)), (hb.old 73 (by decide +kernel)), (hb.old 74 (by decide +kernel)), (hb.old 75 (by decide +kernel)), (hb.old 76 (by decide +kernel)), (hb.old 77 (by decide +kernel)), (hb.old 78 (by decide +kernel)), (hb.old 79 (by decide +kernel)), (hb.old 80 (by decide +kernel)), (hb.old 81 (by decide +kernel)), (hb.old 82 (by decide +kernel)), (hb.old 83 (by decide +kernel)), (hb.old 84 (by decide +kernel)), (hb.old 85 (by decide +kernel)), (hb.old 86 (by decide +kernel)), (hb.old 87 (by decide +kernel)), (hb.old 88 (by decide +kernel)), (hb.old 89 (by decide +kernel)), (hb.old 90 (by decide +kernel)), (hb.old 91 (by decide +kernel)), (hb.old 92 (by decide +kernel)), (hb.old 93 (by decide +kernel)), (hb.old 94 (by decide +kernel)), (hb.old 95 (by decide +kernel)), (hb.old 96 (by decide +kernel)), (hb.old 97 (by decide +kernel)), (hb.old 98 (by decide +kernel)), (hb.old 99 (by decide +kernel)), (hb.old 100 (by decide +kernel)), (hb.old 101 (by decide +kernel)), (hb.old 102 (by decide +kernel)), (hb.old 103 (by decide +kernel)), (hb.old 104 (by decide +kernel)), (hb.old 105 (by decide +kernel)), (hb.old 106 (by decide +kernel)), (hb.old 107 (by decide +kernel)), (hb.old 108 (by decide +kernel)), (hb.old 109 (by decide +kernel)), (hb.old 110 (by decide +kernel)), (hb.old 111 (by decide +kernel)), (hb.old 112 (by decide +kernel)), (hb.old 113 (by decide +kernel)), (hb.old 114 (by decide +kernel)), (hb.old 115 (by decide +kernel)), (hb.old 116 (by decide +kernel)), (hb.old 117 (by decide +kernel)), (hb.old 118 (by decide +kernel)), (hb.old 119 (by decide +kernel)), (hb.old 120 (by decide +kernel)), (show a'.tmps.getD 121 undef = .slice oa la.length ca from hall 0 (by decide) 121 rfl), (show a'.tmps.getD 122 undef = .string (str la) from hall 1 (by decide) 122 rfl), (show a'.tmps.getD 123 undef = .string (str la) from hall 2 (by decide) 123 rfl), (show a'.tmps.getD 124 undef = .bool false from hall 3 (by decide) 124 rfl), (show a'.tmps.getD 125 undef = .bool false from hall 4 (by decide) 125 rfl), (show a'.tmps.getD 126 undef = .int .i64 E from hall 5 (by decide) 126 rfl), (show a'.tmps.getD 127 undef = .int .i64 E from hall 6 (by decide) 127 rfl), (show a'.tmps.getD 128 undef = .int .i64 E from hall 7 (by decide) 128 rfl), (show a'.tmps.getD 129 undef = .bool false from hall 8 (by decide) 129 rfl), (show a'.tmps.getD 130 undef = .bool false from hall 9 (by decide) 130 rfl), (show a'.tmps.getD 131 undef = .bool false from hall 10 (by decide) 131 rfl), (show a'.tmps.getD 132 undef = .bool false from hall 11 (by decide) 132 rfl), (show a'.tmps.getD 133 undef = .bool false from hall 12 (by decide) 133 rfl), (show a'.tmps.getD 134 undef = .bool false from hall 13 (by decide) 134 rfl), (show a'.tmps.getD 135 undef = .bool false from hall 14 (by decide) 135 rfl), (show a'.tmps.getD 136 undef = .bool false from hall 15 (by decide) 136 rfl), (show a'.tmps.getD 137 undef = .bool false from hall 16 (by decide) 137 rfl), (show a'.tmps.getD 138 undef = .bool false from hall 17 (by decide) 138 rfl), (show a'.tmps.getD 139 undef = undef from hall 18 (by decide) 139 rfl), (show a'.tmps.getD 140 undef = undef from hall 19 (by decide) 140 rfl), (show a'.tmps.getD 141 undef = undef from hall 20 (by decide) 141 rfl), (show a'.tmps.getD 142 undef = undef from hall 21 (by decide) 142 rfl), (show a'.tmps.getD 143 undef = undef from hall 22 (by decide) 143 rfl), (show a'.tmps.getD 144 undef = undef from hall 23 (by decide) 144 rfl), (show a'.tmps.getD 145 undef = undef from hall 24 (by decide) 145 rfl), (show a'.tmps.getD 146 undef = undef from hall 25 (by decide) 146 rfl), (show a'.tmps.getD 147 undef = undef from hall 26 (by decide) 147 rfl), (show a'.tmps.getD 148 undef = undef from hall 27 (by decide) 148 rfl), (show a'.tmps.getD 149 undef = .bool false from hall 28 (by decide) 149 rfl), (show a'.tmps.getD 150 undef = .bool false from hall 29 (by decide) 150 rfl), (show a'.tmps.getD 151 undef = .bool false from hall 30 (by decide) 151 rfl), (show a'.tmps.getD 152 undef = .bool false from hall 31 (by decide) 152 rfl), (show a'.tmps.getD 153 undef = .bool true from hall 32 (by decide) 153 rfl), (show a'.tmps.getD 154 undef = .bool true from hall 33 (by decide) 154 rfl), (show a'.tmps.getD 155 undef = .slice ot 0 ct from hall 34 (by decide) 155 rfl), (show a'.tmps.getD 156 undef = .int .i64 ((0 : Nat) : Int) from hall 35 (by decide) 156 rfl), (show a'.tmps.getD 157 undef = .bool false from hall 36 (by decide) 157 rfl), (show a'.tmps.getD 158 undef = .bool false from hall 37 (by decide) 158 rfl), (show a'.tmps.getD 159 undef = .bool false from hall 38 (by decide) 159 rfl), (hb.old 160 (by decide +kernel)), (hb.old 161 (by decide +kernel)), (hb.old 162 (by decide +kernel)), (hb.old 163 (by decide +kernel)), (hb.old 164 (by decide +kernel)), (hb.old 165 (by decide +kernel)), (hb.old 166 (by decide +kernel)), (hb.old 167 (by decide +kernel)), (hb.old 168 (by decide +kernel)), (hb.old 169 (by decide +kernel)), (hb.old 170 (by decide +kernel)), (hb.old 171 (by decide +kernel)), (hb.old 172 (by decide +kernel)), (hb.old 173 (by decide +kernel)), (hb.old 174 (by decide +kernel)), (hb.old 175 (by decide +kernel)), (hb.old 176 (by decide +kernel)), (hb.old 177 (by decide +kernel)), (hb.old 178 (by decide +kernel)), (hb.old 179 (by decide +kernel)), (hb.old 180 (by decide +kernel)), (hb.old 181 (by decide +kernel)), (hb.old 182 (by decide +kernel)), (hb.old 183 (by decide +kernel)), (hb.old 184 (by decide +kernel)), (hb.old 185 (by decide +kernel)), (hb.old 186 (by decide +kernel)), (hb.old 187 (by decide +kernel)), (hb.old 188 (by decide +kernel)), (hb.old 189 (by decide +kernel)), (hb.old 190 (by decide +kernel)), (hb.old 191 (by decide +kernel)), (hb.old 192 (by decide +kernel)), (hb.old 193 (by decide +kernel)), (hb.old 194 (by decide +kernel)), trivial⟩
                have F8 := hide ((unhide FQ).trans hf (fun _ _ h => h))
                have NA8 := hide ((unhide NA).fr hf)
                have NS8 := hide ((unhide NS).fr hf)
                clear hall hb hf hs
                subst hfr
                rw [unhide HA0]
                clear HA0 h0 h1 h7 h8 h9 h10 h11 h12 h13 h14 hsz hdf hdf' FQ NA NS RA RS RQ c0
                apply_assumption
                go_wp2_with fail
                go_loopw [15] (fun y W => ∃ j : Nat, j ≤ la.length ∧ y = .int .i64 (j : Int) ∧ SpB wr.heap.size W oa la.length ca ∧ SpB w5.heap.size W ot 0 ct ∧ Fr (fun _ => False) w W) (fun y _ => la.length - (intOf y).toNat)
                case atStart => exact ⟨0, by omega, rfl, unhide NA8, unhide NS8, unhide F8⟩
                case round =>
                  clear F8 NA8 NS8
                  obtain ⟨j, hj, rfl, hA, hB, hf⟩ := hrel
                  by_cases hjl : j < la.length
                  · have bj : decide ((j : Int) < (la.length : Int)) = true := by simp; omega
                    obtain ⟨ba, fa, rfl, hN, hac, hcm, cu, hcu, hcs⟩ := hA.resolve_left (by omega)
                    have y1 := cell_of_heap hcu (fa + j)
                    rw [Array.getElem?_eq_getElem (show fa + j < cu.size by omega)] at y1
                    have z1 := frozen_of_heap hcu (fa + j)
                    have HA := hide (SpB.set hA ba (fa + j) (.int .u8 122))
                    have HB := hide (hB.set ba (fa + j) (.int .u8 122))
                    have HF := hide (hf.setCell (p := ⟨ba, fa + j, none⟩) (fun h => by have h' : ba < w.heap.size := h; omega) (.int .u8 122))
                    have hjc : j < ca := by omega
                    generalize cu[fa + j] = oc at y1
                    clear hA hB hf hcu hcs
                    go_wp2_with fail
                    go_roundw
                    case rel => exact ⟨j + 1, by omega, by go_num, unhide HA, unhide HB, unhide HF⟩
                    case measure => simp [intOf]; omega
                  · have bj : decide ((j : Int) < (la.length : Int)) = false := by simp; omega
                    have HB := hide hB
                    have HF := hide hf
                    clear hA hB hf
                    go_wp2_with fail
                    go_loopw [16] (fun y W => y = .int .i64 0 ∧ Fr (fun _ => False) w W) (fun _ _ => 0)
                    case atStart => exact ⟨rfl, unhide HF⟩
                    case round =>
                      clear HB HF
                      obtain ⟨rfl, hf⟩ := hrel
                      · have HF := hide hf
                        clear hf
                        go_wp2_with fail
                        refine (unhide HRD _ ((unhide HP).k.kept (unhide HF) id id (fun _ _ h => h))).mono ?_
                        rintro e w9 ⟨⟨oc, cc, rfl, hrc, -⟩, f9⟩
                        have kc := conv_rd (P := Try.prog) hrc 36 9 5 Try.underlying36 Try.underlying5 Try.underlying9
                        have HF9 := hide ((unhide HF).trans f9 (fun _ _ h => h))
                        generalize str la = sla at *
                        clear hrc f9 HRD HF
                        go_wp2_with fail
                        go_roundw
                        case rel => have hal := unhide HAL; exact ⟨a + 1, by omega, by omega, by go_num, unhide HF9⟩
                        case measure => have hal := unhide HAL; simp [intOf]; omega
          · have bl : decide (a ≤ (d.S.length : Int)) = false := by simpa using hal
            clear hal
            go_wp2_with fail
            refine wp_nameK ?_
            intro a0 hA
            have h0 : a0.tmps.getD 0 undef = .pointer (some ⟨p, 0, none⟩) := by rw [hA]; rfl
            have h1 : a0.tmps.getD 1 undef = .pointer (some ⟨p2, 0, none⟩) := by rw [hA]; rfl
            have hsz : a0.tmps.size = 195 := by rw [hA]; rfl
            have hdf : a0.defers = [] := by rw [hA]
            have HA0 := hide hA
            clear hA
            refine wp_region_kinds (fun _ => False) (by kernel_rfl) (by kernel_rfl) (by decide +kernel) (by rw [hsz]; decide +kernel) [.eq (.pointer (some ⟨p, 0, none⟩)), kSr (quL d), .eq (.pointer (some ⟨p2, 0, none⟩)), .eq (.pointer (some ⟨p2, 0, none⟩)), .eq (.pointer (some ⟨p2, 0 + 2, none⟩)), .eq (q2), .eq (.bool true), .eq (.bool true)] [] (by decide) (by decide) (nopaths) (fun _ W => Fr (fun _ => False) wr W) (Fr.refl _ _).drew ?steps ?done
            case steps =>
              refine ⟨?_, ?_⟩
              · intro a' w' k' hb hf hs hc hq hg hd
                exact ⟨wantedN rfl, k_val (.pointer (some ⟨p, 0, none⟩)) (by decide) hs (x_move rfl ((hb.old 0 (by decide +kernel)).trans h0)) rfl⟩
              refine ⟨?_, ?_⟩
              · intro a' w' k' hb hf hs hc hq hg hd
                exact ⟨wantedN rfl, k_call 21 _ (by decide) (e_call1 rfl rfl (hd 0 (by kernel_rfl) 188 rfl) cf21) ((queue_any _ _ _ _ _ ((unhide KW).kept hs id id (fun _ _ h => h))).mono (by rintro e w7 ⟨rfl, hq9, f⟩; exact ⟨_, rfl, queue_srd (unhide KW).ok hq9, f, Fr.trans hs f (fun _ _ h => h)⟩))⟩
              refine ⟨?_, ?_⟩
              · intro a' w' k' hb hf hs hc hq hg hd
                exact ⟨wantedN rfl, k_val (.pointer (some ⟨p2, 0, none⟩)) (by decide) hs (x_move rfl ((hb.old 1 (by decide +kernel)).trans h1)) rfl⟩
              refine ⟨?_, ?_⟩
              · intro a' w' k' hb hf hs hc hq hg hd
                exact ⟨wantedN rfl, k_val (.pointer (some ⟨p2, 0, none⟩)) (by decide) hs (x_nilCheck rfl (hd 2 (by kernel_rfl) 190 rfl)) rfl⟩
              refine ⟨?_, ?_⟩
              · intro a' w' k' hb hf hs hc hq hg hd
                exact ⟨wantedN rfl, k_val (.pointer (some ⟨p2, 0 + 2, none⟩)) (by decide) hs (x_field (fa81_2 p2) rfl (hd 3 (by kernel_rfl) 191 rfl)) rfl⟩
              refine ⟨?_, ?_⟩
              · intro a' w' k' hb hf hs hc hq hg hd
                exact ⟨wantedN rfl, k_val q2 (by decide) hs (x_load1 ld47 rfl (hd 4 (by kernel_rfl) 192 rfl) (by have := cell_of_heap ((unhide RW).kept0 hs).heap 2; simpa using this)) rfl⟩
              refine ⟨?_, ?_⟩
              · intro a' w' k' hb hf hs hc hq hg hd
                have hh : SRd w' _ _ := (hd 1 (by kernel_rfl) 189 rfl); exact ⟨wantedN rfl, k_call 34 _ (by decide) (e_call2 rfl rfl rfl (hd 5 (by kernel_rfl) 193 rfl) cf34) ((rsectors_any _ _ _ _ _ hh ((unhide RW).kept0 hs).srd).mono (by rintro e w7 ⟨rfl, n9, rfl⟩; exact ⟨_, rfl, by rw [decide_eq_true rfl]; rfl, Fr.ofDrewN _ _, Fr.trans hs (Fr.ofDrewN _ _) (fun _ _ h => h)⟩))⟩
              refine ⟨?_, ?_⟩
              · intro a' w' k' hb hf hs hc hq hg hd
                exact ⟨wantedN rfl, k_val (.bool true) (by decide) hs (x_assign rfl (hd 6 (by kernel_rfl) 194 rfl)) rfl⟩
              exact trivial
            case done =>
              intro a' w' hb hf hs hall
              have hres : a'.tmps.getD 4 undef = .bool true := hall 7 (by decide) 4 rfl
              have hdf' : a'.defers = [] := by rw [hb.defers]; exact hdf
              have hF : Fr (fun _ => False) w w' := (unhide HFW).trans hf (fun _ _ h => h)
              have hr : bodyPost Try.prog Try.f16 (fun e w' => e = Ending.returned (Value.bool true) ∧ Fr (fun x => False) w w') .ret a' w' :=
                bodyPost_ret (v := .bool true) (by
                  have h6' : a'.tmps[4]?.getD undef = .bool true := by simpa using hres
                  simp [results, Try.results16, go_sem, h6']) hdf' ⟨rfl, hF⟩
              clear hall hb
              apply_assumption
              exact wp_ret hr
end Go.Proofs.Ytdhendcogjhgfaa
