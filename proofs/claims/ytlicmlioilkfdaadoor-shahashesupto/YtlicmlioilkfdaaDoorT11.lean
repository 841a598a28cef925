/-
  Trees: Path, the document's Path and Same.
-/
import Derived.Test.YtlicmlioilkfdaaDoorT10
namespace Go.Proofs.YtlicmlioilkfdaaDoor
open Go.RowKit
set_option linter.unusedVariables false
set_option linter.unusedSimpArgs false

attribute [local go_sem ↓] Go.wp_at_zero Go.wp_at_succ

/-- What Path answers. -/
def paR (ls : List Dg) (i : Int) : List Dg × Int := if 0 ≤ i ∧ i < (ls.length : Int) then (oth ls i.toNat, 0) else ([], 2)

theorem DOw.nil (N : Nat) (w : World) : DOw N w (.slice none 0 0) [] := ⟨by simp, World.ownsRow_nil _ _ _ _⟩

theorem wpList_ex {P : Program} {ops : Array Oper} {rest : List Oper} {o : Oper} {a : Act} {w w2 : World} {v : Value} {Q : Exit → Act → World → Prop} (hgd : o.guard = none) (h : (execOp a.eval o).run P w = .ok (.value v) w2) (k : wpList P ops Q rest (a.put o.dst v) w2) : wpList P ops Q (o :: rest) a w :=
  wpList_plain hgd fun K hK => by unfold Oper.wp; rw [h, Oper.upon_value]; exact hK _ _ k

theorem wpList_app59 {w : World} {ops : Array Oper} {rest : List Oper} {o : Oper} {a : Act} {Q : Exit → Act → World → Prop} {N : Nat} {v : Value} {ls : List Dg} {d : Dg} {g0 : Nat} (hgd : o.guard = none) (s x : Operand)
    (ho : o.op = .call { callee := .builtin .append, args := #[s, x], argTypes := #[59, 59] }) (hs : a.eval s = v) (hx : a.eval x = .slice (some ⟨g0, 0, none⟩) 1 1) (hO : DOw N w v ls) (hd : d.length = 32) (hg0 : w.heap[g0]? = some (.cells (bvs d).toArray 26 (0, 0))) (hl : ls.length ≤ 2000000) (hN : N ≤ w.heap.size)
    (h : ∀ ao cap w', Hid (DOw N w' (.slice ao (ls.length + 1) cap) (ls ++ [d])) → Hid (Fr (fun k => N ≤ k) w w') → wpList Tryd.prog ops Q rest (a.put o.dst (.slice ao (ls.length + 1) cap)) w') : wpList Tryd.prog ops Q (o :: rest) a w := by
  obtain ⟨ao, cap, w', hr, h1, h2⟩ := app_dig hO hd hg0 hl o.type hN
  exact wpList_ex hgd (ex_app59 ho hs hx hr) (h ao cap w' (hide h1) (hide h2))

set_option maxHeartbeats 1000000 in
theorem path_any (w : World) (v : Value) (ls : List Dg) (i : Int) (hl : ls.length ≤ 1000000) (T : Tb w) (hv : DRd w v ls) : Calls Tryd.prog 34 #[v, .int .i64 i] w fun e w' => ∃ v', e = .returned (.tuple #[v', .int .i64 (paR ls i).2]) ∧ DOw w.heap.size w' v' (paR ls i).1 ∧ Fr (fun _ => False) w w' := by
  obtain ⟨ao, cap, rfl⟩ := hv.shape
  by_cases hg : 0 ≤ i ∧ i < (ls.length : Int)
  · have hp : paR ls i = (oth ls i.toNat, 0) := by unfold paR; rw [if_pos hg]
    have HO := hide (others_any ls.length w _ ls i.toNat rfl (by omega) hl T hv)
    rw [show ((i.toNat : Nat) : Int) = i from by omega] at HO
    rw [hp]
    have b0 : decide (i < 0) = false := by simp; omega
    have b1 : decide ((ls.length : Int) ≤ i) = false := by simp; omega
    clear hp hv T
    go_enter Tryd.func34, Tryd.ntmps34
    go_wp2_with fail
    refine (unhide HO).mono ?_
    rintro e w1 ⟨v1, rfl, o1, f1⟩
    go_wp2_with fail
    go_ret2
    exact ⟨_, rfl, o1, f1⟩
  · have hp : paR ls i = ([], 2) := by unfold paR; rw [if_neg hg]
    rw [hp]
    clear hp hv T
    by_cases h0 : i < 0
    · have b0 : decide (i < 0) = true := by simpa using h0
      go_enter Tryd.func34, Tryd.ntmps34
      go_wp2_with fail
      go_ret2
      exact ⟨_, rfl, DOw.nil _ _, Fr.refl _ _⟩
    · have b0 : decide (i < 0) = false := by simpa using h0
      have h1 : (ls.length : Int) ≤ i := by omega
      have b1 : decide ((ls.length : Int) ≤ i) = true := by simpa using h1
      clear hg
      go_enter Tryd.func34, Tryd.ntmps34
      go_wp2_with fail
      go_ret2
      exact ⟨_, rfl, DOw.nil _ _, Fr.refl _ _⟩

set_option maxHeartbeats 2000000 in
set_option maxRecDepth 100000 in
theorem rpath_in (n : Nat) : ∀ (w : World) (v : Value) (ls : List Dg) (i : Nat), ls.length = n → i < n → n ≤ 1000000 → DRd w v ls → Calls Tryd.prog 35 #[v, .int .i64 ((i : Nat) : Int)] w fun e w' => ∃ v', e = .returned (.tuple #[v', .int .i64 0]) ∧ DOw w.heap.size w' v' (oth ls i) ∧ Fr (fun _ => False) w w' := by
  induction n using Nat.strongRecOn with
  | ind n ih =>
  intro w v ls i hn hi hle hv
  obtain ⟨ao, cap, rfl⟩ := hv.shape
  subst hn
  have b0 : decide (((i : Nat) : Int) < 0) = false := by simp
  have b1 : decide ((ls.length : Int) ≤ ((i : Nat) : Int)) = false := by simp; omega
  have b2 : ¬ (ls.length : Int) ≤ ((i : Nat) : Int) := by omega
  by_cases h1 : ls.length = 1
  · rw [oth_one ls i (by omega)]
    have c1 : (((ls.length : Nat) : Int) == 1) = true := beq_iff_eq.2 (by omega)
    clear hv ih
    go_enter Tryd.func35, Tryd.ntmps35
    go_wp2_with fail
    go_ret2
    exact ⟨_, rfl, DOw.nil _ _, Fr.refl _ _⟩
  · have c1 : (((ls.length : Nat) : Int) == 1) = false := beq_eq_false_iff_ne.2 (by omega)
    have hb := hf_bounds ls.length (by omega)
    obtain ⟨b, o, rfl, -, hnc, hcm, hbl, hc⟩ := hv.lits (by omega)
    have HH := hide fun W => rhalf_any W ls.length (by omega) (by omega)
    have hdA : DRd w (.slice (some ⟨b, o, none⟩) (hf ls.length) cap) (ls.take (hf ls.length)) := hv.take (by omega) (hf ls.length) (by omega)
    have hdB : DRd w (.slice (some ⟨b, o + hf ls.length * 32, none⟩) (ls.length - hf ls.length) (cap - hf ls.length)) (ls.drop (hf ls.length)) := by rw [Nat.mul_comm]; exact hv.drop (hf ls.length) hb.2.1
    by_cases hl : i < hf ls.length
    · have hmore := oth_left ls i (by omega) hl
      have hhA := oth_32 (ls.take (hf ls.length)).length (ls.take (hf ls.length)) (i) rfl hdA.1
      have hrl := root_length (ls.drop (hf ls.length)) hdB.1
      have HG := hide (ih (ls.take (hf ls.length)).length (by simp; omega) w _ (ls.take (hf ls.length)) (i) rfl (by simp; omega) (by simp; omega) hdA)
      have HR := hide fun (W : World) (f : Fr (fun _ => False) w W) => rroot_any (ls.drop (hf ls.length)).length W _ (ls.drop (hf ls.length)) rfl (by simp; omega) (hdB.kept f)
      
      have hAl : (oth (ls.take (hf ls.length)) (i)).length ≤ 1000000 := by
        have h9 := hhA.2
        simp at h9
        omega
      rw [hmore]
      generalize oth (ls.take (hf ls.length)) (i) = oA at *
      generalize root (ls.drop (hf ls.length)) = D at *
      
      generalize hf ls.length = k at *
      have hk0 := hb.1
      have hkL := hb.2.1
      have hli : ((i : Nat) : Int) < ((k : Nat) : Int) := by omega
      have hk1 : ((k : Nat) : Int) ≤ ((ls.length : Nat) : Int) := by omega
      have hk2 : ((k : Nat) : Int) ≤ ((cap : Nat) : Int) := by omega
      have hk3 : k ≤ cap := by omega
      have hk4 : k ≤ ls.length := by omega
      have hk5 : ¬ cap = k := by omega
      have hk6 : ¬ cap - k = 0 := by omega
      have HRL := hide hrl
      have HAL := hide hAl
      clear hmore hdA hdB ih hv hc hb hhA hrl hAl
      generalize ls.length = L at *
      go_enter Tryd.func35, Tryd.ntmps35
      go_wp2_with fail
      refine (unhide HH _).mono ?_
      rintro e w1 ⟨rfl, hw1⟩
      subst hw1
      clear HH
      go_wp2_with fail
      refine (unhide HG).mono ?_
      rintro e wA ⟨vA, rfl, oA', fA⟩
      obtain ⟨aoA, capA, rfl⟩ := oA'.shape
      have OA := hide oA'
      have HR2 := hide (unhide HR wA fA)
      have FA := hide fA
      clear oA' fA HR HG
      go_wp2_with fail
      refine (unhide HR2).mono ?_
      rintro e wB ⟨rfl, fB⟩
      have OB := hide ((unhide OA).kept fB)
      have FB := hide ((unhide FA).trans fB (fun _ _ h => h))
      clear fB HR2 OA
      go_wp2_with (first | refine wpList_ex rfl (ex_build59 (unhide HRL) rfl rfl) ?_ | (at_builtin; refine wpList_app59 (g0 := wB.heap.size) rfl (.tmp 36) (.tmp 41) rfl rfl rfl ((unhide OB).kept ((Fr.refl _ _).alloc (.cells (bvs D).toArray 26))) (unhide HRL) (heap_alloc_new wB (.cells (bvs D).toArray 26)) (by have := unhide HAL; omega) (by have := (unhide FB).size; simp; omega) ?_; intro ao2 cap2 w2 HO2 HF3))
      have HF2 : Hid (Fr (fun _ => False) w w2) := hide ((((unhide FB).alloc (.cells (bvs D).toArray 26)).trans (unhide HF3) (fun j hj h => by omega)))
      go_ret2
      exact ⟨_, rfl, unhide HO2, unhide HF2⟩
    · have hmore := oth_right ls i (by omega) hl
      have hhA := oth_32 (ls.drop (hf ls.length)).length (ls.drop (hf ls.length)) (i - hf ls.length) rfl hdB.1
      have hrl := root_length (ls.take (hf ls.length)) hdA.1
      have HG := hide (ih (ls.drop (hf ls.length)).length (by simp; omega) w _ (ls.drop (hf ls.length)) (i - hf ls.length) rfl (by simp; omega) (by simp; omega) hdB)
      have HR := hide fun (W : World) (f : Fr (fun _ => False) w W) => rroot_any (ls.take (hf ls.length)).length W _ (ls.take (hf ls.length)) rfl (by simp; omega) (hdA.kept f)
      have e1 : ((i : Nat) : Int) - ((hf ls.length : Nat) : Int) = ((i - hf ls.length : Nat) : Int) := by omega
      have hAl : (oth (ls.drop (hf ls.length)) (i - hf ls.length)).length ≤ 1000000 := by
        have h9 := hhA.2
        simp at h9
        omega
      rw [hmore]
      generalize oth (ls.drop (hf ls.length)) (i - hf ls.length) = oA at *
      generalize root (ls.take (hf ls.length)) = D at *
      generalize i - hf ls.length = i2 at *
      generalize hf ls.length = k at *
      have hk0 := hb.1
      have hkL := hb.2.1
      have hli : ¬ ((i : Nat) : Int) < ((k : Nat) : Int) := by omega
      have hk1 : ((k : Nat) : Int) ≤ ((ls.length : Nat) : Int) := by omega
      have hk2 : ((k : Nat) : Int) ≤ ((cap : Nat) : Int) := by omega
      have hk3 : k ≤ cap := by omega
      have hk4 : k ≤ ls.length := by omega
      have hk5 : ¬ cap = k := by omega
      have hk6 : ¬ cap - k = 0 := by omega
      have HRL := hide hrl
      have HAL := hide hAl
      clear hmore hdA hdB ih hv hc hb hhA hrl hAl
      generalize ls.length = L at *
      go_enter Tryd.func35, Tryd.ntmps35
      go_wp2_with fail
      refine (unhide HH _).mono ?_
      rintro e w1 ⟨rfl, hw1⟩
      subst hw1
      clear HH
      go_wp2_with fail
      refine (unhide HG).mono ?_
      rintro e wA ⟨vA, rfl, oA', fA⟩
      obtain ⟨aoA, capA, rfl⟩ := oA'.shape
      have OA := hide oA'
      have HR2 := hide (unhide HR wA fA)
      have FA := hide fA
      clear oA' fA HR HG
      go_wp2_with fail
      refine (unhide HR2).mono ?_
      rintro e wB ⟨rfl, fB⟩
      have OB := hide ((unhide OA).kept fB)
      have FB := hide ((unhide FA).trans fB (fun _ _ h => h))
      clear fB HR2 OA
      go_wp2_with (first | refine wpList_ex rfl (ex_build59 (unhide HRL) rfl rfl) ?_ | (at_builtin; refine wpList_app59 (g0 := wB.heap.size) rfl (.tmp 53) (.tmp 58) rfl rfl rfl ((unhide OB).kept ((Fr.refl _ _).alloc (.cells (bvs D).toArray 26))) (unhide HRL) (heap_alloc_new wB (.cells (bvs D).toArray 26)) (by have := unhide HAL; omega) (by have := (unhide FB).size; simp; omega) ?_; intro ao2 cap2 w2 HO2 HF3))
      have HF2 : Hid (Fr (fun _ => False) w w2) := hide ((((unhide FB).alloc (.cells (bvs D).toArray 26)).trans (unhide HF3) (fun j hj h => by omega)))
      go_ret2
      exact ⟨_, rfl, unhide HO2, unhide HF2⟩

set_option maxHeartbeats 1000000 in
theorem rpath_any (w : World) (v : Value) (ls : List Dg) (i : Int) (hl : ls.length ≤ 1000000) (hv : DRd w v ls) : Calls Tryd.prog 35 #[v, .int .i64 i] w fun e w' => ∃ v', e = .returned (.tuple #[v', .int .i64 (paR ls i).2]) ∧ DOw w.heap.size w' v' (paR ls i).1 ∧ Fr (fun _ => False) w w' := by
  by_cases hg : 0 ≤ i ∧ i < (ls.length : Int)
  · have hp : paR ls i = (oth ls i.toNat, 0) := by unfold paR; rw [if_pos hg]
    have HO := rpath_in ls.length w _ ls i.toNat rfl (by omega) hl hv
    rw [show ((i.toNat : Nat) : Int) = i from by omega] at HO
    rw [hp]
    exact HO
  · have hp : paR ls i = ([], 2) := by unfold paR; rw [if_neg hg]
    rw [hp]
    obtain ⟨ao, cap, rfl⟩ := hv.shape
    clear hp hv
    by_cases h0 : i < 0
    · have b0 : decide (i < 0) = true := by simpa using h0
      go_enter Tryd.func35, Tryd.ntmps35
      go_wp2_with fail
      go_ret2
      exact ⟨_, rfl, DOw.nil _ _, Fr.refl _ _⟩
    · have b0 : decide (i < 0) = false := by simpa using h0
      have h1 : (ls.length : Int) ≤ i := by omega
      have b1 : decide ((ls.length : Int) ≤ i) = true := by simpa using h1
      clear hg
      go_enter Tryd.func35, Tryd.ntmps35
      go_wp2_with fail
      go_ret2
      exact ⟨_, rfl, DOw.nil _ _, Fr.refl _ _⟩

theorem ex_neD {ρ : Operand → Value} {o : Oper} {w : World} {x y : Operand} {D : List UInt8} (ho : o.op = .binOp .neq 26 x y 26) (hx : ρ x = .agg (bvs D).toArray) (hy : ρ y = .agg (bvs D).toArray) (hD : D.length = 32) : (execOp ρ o).run Tryd.prog w = .ok (.value (.bool false)) w := by
  have h := run_neD w D hD
  simp [execOp, ho, hx, hy, eqGuard, Tryd.ge26, h]

/-- The frame's slots, one by one. -/
def Slots (a : Act) : Nat → List Value → Prop
  | _, [] => True
  | i, v :: vs => a.tmps.getD i undef = v ∧ Slots a (i + 1) vs

theorem Slots.get {a : Act} {vs : List Value} {k : Nat} (h : Slots a k vs) (i : Nat) (hi : i < vs.length) : a.tmps.getD (k + i) undef = vs[i] := by
  induction vs generalizing k i with
  | nil => simp at hi
  | cons v vs ih =>
    cases i with
    | zero => exact h.1
    | succ i =>
      have := ih h.2 i (by simpa using hi)
      rw [show k + 1 + i = k + (i + 1) by omega] at this
      simpa using this

/-- A frame of which every slot is known is that frame. -/
theorem frame_eq {a : Act} {vs : List Value} (hs : a.tmps.size = vs.length) (hd : a.defers = []) (h : Slots a 0 vs) : a = { tmps := vs.toArray, defers := [] } := by
  obtain ⟨tm, df⟩ := a
  simp only at hs hd
  subst hd
  congr 1
  apply Array.ext
  · simpa using hs
  · intro i h1 h2
    have := h.get i (by simpa using h2)
    rw [Nat.zero_add] at this
    simp [h1] at this
    simpa using this

set_option maxHeartbeats 1000000 in
set_option maxRecDepth 100000 in
theorem rsame_any (w : World) (x y : Value) (ls : List Dg) (hx : DRd w x ls) (hy : DRd w y ls) : Calls Tryd.prog 40 #[x, y] w fun e w' => e = .returned (.bool true) ∧ Fr (fun _ => False) w w' := by
  have hle : ls.length ≤ maxLen := by
    obtain ⟨_, ⟨_, _, _, rfl⟩ | ⟨_, _, cap, _, h1, h2, _⟩⟩ := hx
    · simp
    · omega
  unfold maxLen at hle
  obtain ⟨ao, cap, rfl⟩ := hx.shape
  obtain ⟨ao2, cap2, rfl⟩ := hy.shape
  go_enter Tryd.func40, Tryd.ntmps40
  go_wp2_with fail
  go_loopw [5] (fun i w' => ∃ k : Nat, k ≤ ls.length ∧ i = .int .i64 k ∧ Fr (fun _ => False) w w') (fun i _ => ls.length - (intOf i).toNat)
  case atStart => exact ⟨0, Nat.zero_le _, rfl, Fr.refl _ _⟩
  case round =>
    obtain ⟨k, hk, rfl, f0⟩ := hrel
    by_cases hlt : k < ls.length
    · obtain ⟨b1, o1, rfl, -, -, -, hbl1, hc1⟩ := (hx.kept f0).lits (by omega)
      obtain ⟨b2, o2, rfl, -, -, -, hbl2, hc2⟩ := (hy.kept f0).lits (by omega)
      have hr1 := hc1 k hlt
      have hr2 := hc2 k hlt
      have HDD := hide (hx.1 ls[k] (List.getElem_mem hlt))
      generalize ls[k] = D at *
      rw [Nat.mul_comm] at hr1 hr2
      have HK : Hid (∀ W, Fr (fun _ => False) wr W → W.rangeAt b1 (o1 + k * 32) (bvs D) ∧ W.rangeAt b2 (o2 + k * 32) (bvs D)) := hide fun W f => ⟨rangeAt_kept hr1 f hbl1 id, rangeAt_kept hr2 f hbl2 id⟩
      have F0 := hide f0
      clear hc1 hc2 hr1 hr2 hx hy f0
      have hlti : (k : Int) < (ls.length : Int) := by omega
      go_wp2_with fail
      refine wp_nameK ?_
      intro a0 hA
      have h0 : a0.tmps.getD 0 undef = Value.slice (some ⟨b1, o1, none⟩) ls.length cap := by rw [hA]; rfl
      have h1 : a0.tmps.getD 1 undef = Value.slice (some ⟨b2, o2, none⟩) ls.length cap2 := by rw [hA]; rfl
      have h2 : a0.tmps.getD 2 undef = undef := by rw [hA]; rfl
      have h3 : a0.tmps.getD 3 undef = undef := by rw [hA]; rfl
      have h4 : a0.tmps.getD 4 undef = u4 := by rw [hA]; rfl
      have h5 : a0.tmps.getD 5 undef = .int .i64 ((k : Nat) : Int) := by rw [hA]; rfl
      have h6 : a0.tmps.getD 6 undef = Value.slice (some ⟨b1, o1, none⟩) ls.length cap := by rw [hA]; rfl
      have h7 : a0.tmps.getD 7 undef = Value.int .i64 ((ls.length : Nat) : Int) := by rw [hA]; rfl
      have h8 : a0.tmps.getD 8 undef = Value.slice (some ⟨b2, o2, none⟩) ls.length cap2 := by rw [hA]; rfl
      have h9 : a0.tmps.getD 9 undef = Value.int .i64 ((ls.length : Nat) : Int) := by rw [hA]; rfl
      have h10 : a0.tmps.getD 10 undef = .bool false := by rw [hA]; rfl
      have hsz : a0.tmps.size = 26 := by rw [hA]; rfl
      have hdf : a0.defers = [] := by rw [hA]
      clear hA
      refine wp_region_chain (by kernel_rfl) (by kernel_rfl) (by decide +kernel) (by rw [hsz]; decide +kernel) (fun w' w'' => Fr (fun _ => False) w' w'') (Fr.refl _ _).drew (fun _ _ _ h k => h.trans k (fun _ _ h => h))
        (Tv [Value.slice (some ⟨b1, o1, none⟩) ls.length cap, .int .i64 ((k : Nat) : Int), .pointer (some ⟨b1, o1 + k * 32, none⟩), .agg (bvs D).toArray, Value.slice (some ⟨b2, o2, none⟩) ls.length cap2, .int .i64 ((k : Nat) : Int), .pointer (some ⟨b2, o2 + k * 32, none⟩), .agg (bvs D).toArray, .bool false]) (Tv.mono _ _) [] (by decide) (by decide) (chain_paths _ [] (by kernel_rfl)) (fun _ _ => True) trivial ?steps ?done
      case steps =>
        refine ⟨?_, ?_⟩
        · intro a' w' k' hb hf hs hc hd
          exact ⟨wanted_none rfl, left_val (Value.slice (some ⟨b1, o1, none⟩) ls.length cap) (by decide) trivial (xk_move rfl ((hb.old 0 (by decide +kernel)).trans h0)) (fun _ h => Option.some.inj h)⟩
        refine ⟨?_, ?_⟩
        · intro a' w' k' hb hf hs hc hd
          exact ⟨wanted_none rfl, left_val (.int .i64 ((k : Nat) : Int)) (by decide) trivial (xk_move rfl ((hb.old 5 (by decide +kernel)).trans h5)) (fun _ h => Option.some.inj h)⟩
        refine ⟨?_, ?_⟩
        · intro a' w' k' hb hf hs hc hd
          exact ⟨wanted_none rfl, left_val (.pointer (some ⟨b1, o1 + k * 32, none⟩)) (by decide) trivial (xk_index rfl ((hd 0 (by kernel_rfl) 17 rfl) _ rfl) ((hd 1 (by kernel_rfl) 18 rfl) _ rfl) hlt) (fun _ h => Option.some.inj h)⟩
        refine ⟨?_, ?_⟩
        · intro a' w' k' hb hf hs hc hd
          exact ⟨wanted_none rfl, left_val (.agg (bvs D).toArray) (by decide) trivial (ex_load26 rfl ((hd 2 (by kernel_rfl) 19 rfl) _ rfl) (unhide HDD) (unhide HK _ hf).1) (fun _ h => Option.some.inj h)⟩
        refine ⟨?_, ?_⟩
        · intro a' w' k' hb hf hs hc hd
          exact ⟨wanted_none rfl, left_val (Value.slice (some ⟨b2, o2, none⟩) ls.length cap2) (by decide) trivial (xk_move rfl ((hb.old 1 (by decide +kernel)).trans h1)) (fun _ h => Option.some.inj h)⟩
        refine ⟨?_, ?_⟩
        · intro a' w' k' hb hf hs hc hd
          exact ⟨wanted_none rfl, left_val (.int .i64 ((k : Nat) : Int)) (by decide) trivial (xk_move rfl ((hb.old 5 (by decide +kernel)).trans h5)) (fun _ h => Option.some.inj h)⟩
        refine ⟨?_, ?_⟩
        · intro a' w' k' hb hf hs hc hd
          exact ⟨wanted_none rfl, left_val (.pointer (some ⟨b2, o2 + k * 32, none⟩)) (by decide) trivial (xk_index rfl ((hd 4 (by kernel_rfl) 21 rfl) _ rfl) ((hd 5 (by kernel_rfl) 22 rfl) _ rfl) hlt) (fun _ h => Option.some.inj h)⟩
        refine ⟨?_, ?_⟩
        · intro a' w' k' hb hf hs hc hd
          exact ⟨wanted_none rfl, left_val (.agg (bvs D).toArray) (by decide) trivial (ex_load26 rfl ((hd 6 (by kernel_rfl) 23 rfl) _ rfl) (unhide HDD) (unhide HK _ hf).2) (fun _ h => Option.some.inj h)⟩
        refine ⟨?_, ?_⟩
        · intro a' w' k' hb hf hs hc hd
          exact ⟨wanted_none rfl, left_val (.bool false) (by decide) trivial (ex_neD rfl ((hd 3 (by kernel_rfl) 20 rfl) _ rfl) ((hd 7 (by kernel_rfl) 24 rfl) _ rfl) (unhide HDD)) (fun _ h => Option.some.inj h)⟩
        exact trivial
      case done =>
        intro a' w' hb hf hs hall
        have e25 : a'.tmps.getD 25 undef = .bool false := (hall 8 (by decide) 25 rfl) _ rfl
        obtain ⟨f, hfr⟩ : ∃ f : Nat → Value, a' = { tmps := #[Value.slice (some ⟨b1, o1, none⟩) ls.length cap, Value.slice (some ⟨b2, o2, none⟩) ls.length cap2, undef, undef, u4, .int .i64 ((k : Nat) : Int), Value.slice (some ⟨b1, o1, none⟩) ls.length cap, Value.int .i64 ((ls.length : Nat) : Int), Value.slice (some ⟨b2, o2, none⟩) ls.length cap2, Value.int .i64 ((ls.length : Nat) : Int), .bool false, f 11, f 12, f 13, f 14, f 15, f 16, f 17, f 18, f 19, f 20, f 21, f 22, f 23, f 24, .bool false], defers := [] } :=
          ⟨fun i => a'.tmps.getD i undef, frame_eq (vs := [Value.slice (some ⟨b1, o1, none⟩) ls.length cap, Value.slice (some ⟨b2, o2, none⟩) ls.length cap2, undef, undef, u4, .int .i64 ((k : Nat) : Int), Value.slice (some ⟨b1, o1, none⟩) ls.length cap, Value.int .i64 ((ls.length : Nat) : Int), Value.slice (some ⟨b2, o2, none⟩) ls.length cap2, Value.int .i64 ((ls.length : Nat) : Int), .bool false, (fun i => a'.tmps.getD i undef) 11, (fun i => a'.tmps.getD i undef) 12, (fun i => a'.tmps.getD i undef) 13, (fun i => a'.tmps.getD i undef) 14, (fun i => a'.tmps.getD i undef) 15, (fun i => a'.tmps.getD i undef) 16, (fun i => a'.tmps.getD i undef) 17, (fun i => a'.tmps.getD i undef) 18, (fun i => a'.tmps.getD i undef) 19, (fun i => a'.tmps.getD i undef) 20, (fun i => a'.tmps.getD i undef) 21, (fun i => a'.tmps.getD i undef) 22, (fun i => a'.tmps.getD i undef) 23, (fun i => a'.tmps.getD i undef) 24, .bool false]) (by rw [hb.size, hsz]; rfl) (by rw [hb.defers]; exact hdf) ⟨(hb.old 0 (by decide +kernel)).trans h0, (hb.old 1 (by decide +kernel)).trans h1, (hb.old 2 (by decide +kernel)).trans h2, (hb.old 3 (by decide +kernel)).trans h3, (hb.old 4 (by decide +kernel)).trans h4, (hb.old 5 (by decide +kernel)).trans h5, (hb.old 6 (by decide +kernel)).trans h6, (hb.old 7 (by decide +kernel)).trans h7, (hb.old 8 (by decide +kernel)).trans h8, (hb.old 9 (by decide +kernel)).trans h9, (hb.old 10 (by decide +kernel)).trans h10, rfl, rfl, rfl, rfl, rfl, rfl, rfl, rfl, rfl, rfl, rfl, rfl, rfl, rfl, e25, trivial⟩⟩
        have HFF := hide hf
        clear hall hb hf hs e25 h0 h1 h2 h3 h4 h5 h6 h7 h8 h9 h10 hsz hdf
        subst hfr
        apply_assumption
        go_wp2_with fail
        go_roundw
        case rel => exact ⟨k + 1, by omega, by go_num, (unhide F0).trans (unhide HFF) (fun _ _ h => h)⟩
        case measure => simp [intOf]; omega
    · go_wp2_with fail
      go_ret
      exact ⟨rfl, f0⟩

end Go.Proofs.YtlicmlioilkfdaaDoor
