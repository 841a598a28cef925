/-
  A copy of bytes by append to a new row of none; texts of bytes.
-/
import Derived.Test.YtbenailemoefhaaG4
import Derived.Test.YtbenailemoefhaaE4
import Derived.Test.YtbenailemoefhaaE5
namespace Go.Proofs.Ytbenailemoefhaa
open Go.RowKit Go.Lib
set_option linter.unusedVariables false
set_option linter.unusedSimpArgs false

attribute [local go_sem ↓] Go.wp_at_zero Go.wp_at_succ

theorem own0 (w : World) : (w.alloc (.cells #[] 5)).ownsRow 0 5 1 (.slice (some ⟨w.heap.size, 0, none⟩) 0 0) 0 [] :=
  ⟨rfl, .inr ⟨w.heap.size, 0, #[], rfl, Nat.zero_le _, heap_alloc_new _ _, Nat.le_refl _, Nat.zero_le _, rfl, rfl⟩⟩
theorem cln26 (w : World) {x : Value} {b : List UInt8} (hx : Rd w x b) (hb : b.length ≤ 1048576) : ∃ ao c w', (Builtin.append_ #[26, 26] 26 #[.slice (some ⟨w.heap.size, 0, none⟩) 0 0, x]).run Try.prog (w.alloc (.cells #[] 5)) = .ok (.slice ao b.length c) w' ∧ Nb w w' (.slice ao b.length c) b := by
  obtain ⟨inf, hi0, hz0, hz1, hz2⟩ := info_parts Try.info5
  have h0 : Nb w (w.alloc (.cells #[] 5)) (.slice (some ⟨w.heap.size, 0, none⟩) 0 0) [] := ⟨own0 w, (Fr.refl _ _).alloc _, fun k e => by simp [Value.ownBlock] at e; omega⟩
  have hx2 : Rd (w.alloc (.cells #[] 5)) x b := hx.kept ((Fr.refl (fun _ => False) w).alloc _) (fun _ _ e => e)
  obtain ⟨v, w', h1, h2, h3, h4⟩ := run_app (P := Try.prog) (w.alloc (.cells #[] 5)) 26 26 5 inf _ 1 1 Try.underlying26 hi0 hz0 hz1 hz2 rfl (by decide) _ 0 [] (own0 w) x b.length (bvs b) hx2.sr (bvs_one b) (by omega) (by simp only [maxLen]; omega)
  have hn := h0.grown (x := b) (v' := v) (W' := w') (by simpa [bvs] using h2) h3 (by rcases h4 with e | e; exact .inl e; exact .inr ⟨_, e, Nat.le_refl _⟩)
  rw [List.nil_append] at hn
  obtain ⟨ao, c, rfl⟩ := hn.shape
  exact ⟨ao, c, w', h1, hn⟩
theorem wl_cln {w : World} {ops : Array Oper} {rest : List Oper} {o : Oper} {a : Act} {Q : Exit → Act → World → Prop} (hgd : o.guard = none) (hty : o.type = 26) (s x : Operand) (ho : o.op = .call { callee := .builtin .append, args := #[s, x], argTypes := #[26, 26] }) (hs : a.eval s = .slice (some ⟨w.heap.size, 0, none⟩) 0 0) {xv : Value} (hx : a.eval x = xv) {b : List UInt8} (hr : Rd w xv b) (hb : b.length ≤ 1048576)
    (h : ∀ ao c w', Nb w w' (.slice ao b.length c) b → wpList Try.prog ops Q rest (a.put o.dst (.slice ao b.length c)) w') : wpList Try.prog ops Q (o :: rest) a (w.alloc (.cells #[] 5)) := by
  refine wpList_plain hgd fun K hK => ?_
  obtain ⟨ao, c, w', h1, h2⟩ := cln26 w hr hb
  unfold Oper.wp execOp
  simp only [ho, hty, resolve, invoke, builtin, Sem.run_bind, Sem.run_pure, Result.andThen_ok, List.map_toArray, List.map_cons, List.map_nil, hs, hx, h1]
  exact hK _ _ (h ao c w' h2)
theorem cv26 {w : World} {v : Value} {l : List UInt8} (h : Rd w v l) : (convert 26 9 v).run Try.prog w = .ok (.string (str l)) w := conv_rd h 26 9 5 Try.underlying26 Try.underlying5 Try.underlying9
theorem rowN_q {w : World} {n : Nat} {x : Ha} (h : w.heap[n]? = some (.cells x.cs 72 (0, 0))) : rowN w n 3 = true := by
  have hr : row? w n = some x.cs := by unfold row?; rw [h]; rfl
  unfold rowN; rw [hr]; simp
theorem rowD_q {w : World} {n : Nat} {x : Ha} (h : w.heap[n]? = some (.cells x.cs 72 (0, 0))) : rowD w n = x.cs := by
  have hr : row? w n = some x.cs := by unfold row?; rw [h]; rfl
  unfold rowD; rw [hr]; rfl
end Go.Proofs.Ytbenailemoefhaa
