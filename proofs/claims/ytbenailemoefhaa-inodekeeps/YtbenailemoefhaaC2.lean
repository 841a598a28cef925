/-
  Bytes: a string, zeros behind what is owned; the document's four and eight; how many zeros.
-/
import Derived.Test.YtbenailemoefhaaC1
import Derived.Lib.AppendStr
import Derived.Lib.AppendZerosOnto
namespace Go.Proofs.Ytbenailemoefhaa
open Go.RowKit Go.Lib
set_option linter.unusedVariables false
set_option linter.unusedSimpArgs false

attribute [local go_sem ↓] Go.wp_at_zero Go.wp_at_succ

theorem wpList_appS {w : World} {ops : Array Oper} {rest : List Oper} {o : Oper} {a : Act} {Q : Exit → Act → World → Prop} (hgd : o.guard = none) (hty : o.type = 26) (s : Operand) (x : Operand) (ho : o.op = .call { callee := .builtin .append, args := #[s, x], argTypes := #[26, 9] }) {v : Value} {n base : Nat} {xs : List Value} {t : ByteArray} (hs : a.eval s = v) (hx : a.eval x = .string t) (hown : w.ownsRow base 5 1 v n xs) (hk : n + t.size ≤ 100000000) (hb : base ≤ w.heap.size)
    (h : ∀ ao c w', w'.ownsRow base 5 1 (.slice ao (n + t.size) c) (n + t.size) (xs ++ strCells t) → w.grownBy w' v.ownBlock → wpList Try.prog ops Q rest (a.put o.dst (.slice ao (n + t.size) c)) w') : wpList Try.prog ops Q (o :: rest) a w := by
  refine wpList_plain hgd fun K hK => ?_
  obtain ⟨inf, hi0, hz0, hz1, hz2⟩ := info_parts Try.info5
  obtain ⟨v', w', hr, h2, h3, -⟩ := run_append_own_string (P := Try.prog) (w := w) base 26 9 26 5 inf Try.underlying26 Try.underlying9 hi0 hz0 hz1 hz2 v n xs hown t (by simp only [maxLen]; omega) (by omega) hb
  unfold Oper.wp execOp
  simp only [ho, hty, resolve, invoke, builtin, Sem.run_bind, Sem.run_pure, Result.andThen_ok, List.map_toArray, List.map_cons, List.map_nil, hs, hx, hr]
  have hsh : ∃ ao c, v' = .slice ao (n + t.size) c := by
    rcases h2.2 with ⟨e, e2⟩ | ⟨g, cap, cur, e, -⟩
    · exact ⟨none, 0, by rw [e]; simp [e2]⟩
    · exact ⟨_, _, e⟩
  obtain ⟨ao, c, rfl⟩ := hsh
  exact hK _ _ (h ao c w' h2 h3)
theorem zeros_u8 (k : Nat) : Builtin.zeroCells (Value.int .u8 0).cells k = (bvs (List.replicate k 0)).toArray := by
  apply Array.ext
  · simp [Builtin.zeroCells, bvs, Value.cells]
  · intro i h1 h2
    simp [Builtin.zeroCells, bvs, Value.cells, Nat.mod_one]
theorem app0 (w : World) {g n cap : Nat} {l : List UInt8} (hn : l.length = n) (ho : w.ownsRow 0 5 1 (.slice (some ⟨g, 0, none⟩) n cap) n (bvs l)) (k : Nat) (hk : n + k ≤ 100000) : ∃ v w', (Builtin.append_ #[26, 3] 26 #[.slice (some ⟨g, 0, none⟩) n cap, .int .i64 (k : Int)]).run Try.prog w = .ok v w' ∧ w'.ownsRow 0 5 1 v (n + k) (bvs (l ++ List.replicate k 0)) ∧ w.grownBy w' (some g) ∧ (v.ownBlock = some g ∨ v.ownBlock = some w.heap.size) := by
  obtain ⟨inf, hi0, hz0, hz1, hz2⟩ := info_parts Try.info5
  have hlen : (bvs (l ++ List.replicate k 0)).length = (n + k) * 1 := by rw [bvs_length]; simp; omega
  have hxl : (bvs l).length = n := by rw [bvs_length]; exact hn
  have hw : IntKind.i64.wrap (k : Int) = k := by rw [IntKind.wrap_i64]; omega
  rcases ho.2 with ⟨h, -⟩ | ⟨g', cap', cur, h, hbg, hg, hnc, hcm, hcs, htake⟩
  · simp at h
  · simp only [Value.slice.injEq, Option.some.injEq, Addr.mk.injEq, and_true, true_and] at h
    obtain ⟨rfl, rfl⟩ := h
    have hcs' : cur.size = cap := by simpa using hcs
    by_cases hroom : n + k ≤ cap
    · have hst := run_storeCells_at Try.prog g n 5 (bvs (List.replicate k 0)) 0 cur w hg (by rw [bvs_length]; simp; omega) (bvs_one _)
      simp only [Nat.add_zero, bvs_length, List.length_replicate] at hst
      refine ⟨.slice (some ⟨g, 0, none⟩) (n + k) cap, w.setRow g (cur.toList.take n ++ bvs (List.replicate k 0) ++ cur.toList.drop (n + k)).toArray, ?_, ⟨hlen, .inr ⟨g, cap, _, rfl, hbg, setRow_heap w g cur _ 5 _ hg, hroom, hcm, ?_, ?_⟩⟩, ⟨rfl, rfl, rfl, by simp, fun j _ hj => setRow_other w g j _ (fun e => hj (by simp [e]))⟩, .inl rfl⟩
      · by_cases hk0 : k = 0
        · subst hk0
          have e : w.setRow g (cur.toList.take n ++ bvs (List.replicate 0 0) ++ cur.toList.drop (n + 0)).toArray = w := by
            have : (cur.toList.take n ++ bvs (List.replicate 0 0) ++ cur.toList.drop (n + 0)).toArray = cur := by simp [bvs]
            rw [this]; exact setRow_self w g cur 5 (0, 0) hg
          rw [e]
          simp [Builtin.append_, run_underlying Try.underlying26, run_underlying Try.underlying3, sizeOf, typeInfo, hi0, hz1, asInt, asIntOf, IntKind.wrap_i64, hnc, storeCells]
        · have h48 : ¬ (281474976710656 < (k : Int) * (inf.bytes : Int)) := by rw [hz2]; omega
          have hneg : ¬ ((k : Int) < 0) := by omega
          simp [Builtin.append_, run_underlying Try.underlying26, run_underlying Try.underlying3, sizeOf, typeInfo, zeroValue, hi0, hz0, hz1, asInt, asIntOf, hw, hroom, hneg, h48, hk0, zeros_u8, Addr.add_lit, hst]
      · simp only [List.size_toArray, List.length_append, List.length_take, List.length_drop, Array.length_toList, bvs_length, List.length_replicate]
        omega
      · have ht' : cur.toList.take n = bvs l := by simpa using htake
        rw [ht', ← bvs_append, ← hlen]
        exact List.take_left
    · have hold : (Builtin.firstCells inf.size n (.slice (some ⟨g, 0, none⟩) n cap)).run Try.prog w.drew = .ok (bvs l).toArray w.drew := by
        have := run_loadCells_list (P := Try.prog) w.drew ⟨g, 0, none⟩ (bvs l) (fun j v hv => ho.cells (g := g) rfl j v hv)
        simp only [Builtin.firstCells, hz1, Nat.mul_one]
        rw [hxl] at this
        exact this
      have hr := run_append_grow_zeros (P := Try.prog) w 26 3 26 5 inf _ .i64 .i64 Try.underlying26 Try.underlying3 hi0 hz0 (some ⟨g, 0, none⟩) n cap (bvs l) hold k (by omega) (by rw [hz1]; decide) (by omega) (by omega) (by rw [hz2]; omega) (by rw [hz2]; exact growslice_fits (by omega) (by omega))
      rw [zeros_u8, zeros_u8] at hr
      have hge := grownCap_ge w (n + k) cap 5
      have hcm2 : grownCap w (n + k) cap 5 ≤ maxLen := grownCap_le_maxLen w (n + k) cap 5 (by simp only [maxLen]; omega)
      refine ⟨_, _, hr, ⟨hlen, .inr ⟨w.heap.size, _, _, rfl, Nat.zero_le _, heap_alloc_new w.drew _, hge, hcm2, ?_, ?_⟩⟩, ⟨rfl, rfl, rfl, by simp, fun j hj _ => Below.heap_alloc w.drew _ j hj⟩, .inr rfl⟩
      · simp only [Array.size_append, List.size_toArray, bvs_length, List.length_replicate]
        omega
      · simp only [Array.toList_append, List.append_assoc]
        rw [← List.append_assoc, ← bvs_append, ← hlen]
        exact List.take_left
theorem wpList_app0 {w : World} {ops : Array Oper} {rest : List Oper} {o : Oper} {a : Act} {Q : Exit → Act → World → Prop} (hgd : o.guard = none) (hty : o.type = 26) (s x : Operand) (ho : o.op = .call { callee := .builtin .append, args := #[s, x], argTypes := #[26, 3] }) {g n cap k : Nat} {l : List UInt8} (hn : l.length = n) (hs : a.eval s = .slice (some ⟨g, 0, none⟩) n cap) {kz : Int} (hx : a.eval x = .int .i64 kz) (hkz : kz = (k : Int)) (hown : w.ownsRow 0 5 1 (.slice (some ⟨g, 0, none⟩) n cap) n (bvs l)) (hk : n + k ≤ 100000)
    (h : ∀ ao c w', w'.ownsRow 0 5 1 (.slice ao (n + k) c) (n + k) (bvs (l ++ List.replicate k 0)) → w.grownBy w' (some g) → ((Value.slice ao (n + k) c).ownBlock = some g ∨ (Value.slice ao (n + k) c).ownBlock = some w.heap.size) → wpList Try.prog ops Q rest (a.put o.dst (.slice ao (n + k) c)) w') : wpList Try.prog ops Q (o :: rest) a w := by
  subst hkz
  refine wpList_plain hgd fun K hK => ?_
  obtain ⟨v', w', hr, h2, h3, h4⟩ := app0 w hn hown k hk
  unfold Oper.wp execOp
  simp only [ho, hty, resolve, invoke, builtin, Sem.run_bind, Sem.run_pure, Result.andThen_ok, List.map_toArray, List.map_cons, List.map_nil, hs, hx, hr]
  obtain ⟨ao, c, rfl⟩ := owns_shape h2
  exact hK _ _ (h ao c w' h2 h3 h4)

theorem Nb.based {W0 W : World} {v : Value} {l : List UInt8} (h : Nb W0 W v l) : W.ownsRow W0.heap.size 5 1 v l.length (bvs l) := by
  refine ⟨h.own.1, ?_⟩
  rcases h.own.2 with h2 | ⟨g, cap, cur, e, -, rest⟩
  · exact .inl h2
  · exact .inr ⟨g, cap, cur, e, h.new g (by rw [e]; rfl), rest⟩
theorem Nb.grownB {W0 W W' : World} {v v' : Value} {l x : List UInt8} (h : Nb W0 W v l) (o : W'.ownsRow W0.heap.size 5 1 v' (l.length + x.length) (bvs l ++ bvs x)) (hg : W.grownBy W' v.ownBlock) : Nb W0 W' v' (l ++ x) := by
  refine ⟨?_, h.fr.grown hg (fun k hk e => by have := h.new k e; omega), fun k e => ?_⟩
  · rw [List.length_append, bvs_append]
    refine ⟨o.1, ?_⟩
    rcases o.2 with h2 | ⟨g, cap, cur, e, -, rest⟩
    · exact .inl h2
    · exact .inr ⟨g, cap, cur, e, Nat.zero_le _, rest⟩
  · rcases o.2 with ⟨e2, -⟩ | ⟨g, cap, cur, e2, hb, -⟩
    · rw [e2] at e; simp [Value.ownBlock] at e
    · rw [e2] at e; simp [Value.ownBlock] at e; omega
theorem sr4 (w : World) (z0 z1 z2 z3 : Int) (n : Nat) (h0 : z0 = (n : Int) / 16777216 % 256) (h1 : z1 = (n : Int) / 65536 % 256) (h2 : z2 = (n : Int) / 256 % 256) (h3 : z3 = (n : Int) % 256) : Sr (w.alloc (Obj.cells #[.int .u8 z0, .int .u8 z1, .int .u8 z2, .int .u8 z3] 5)) 1 (.slice (some ⟨w.heap.size, 0, none⟩) 4 4) 4 (bvs (be 4 n)) := by
  have e : bvs (be 4 n) = [.int .u8 z0, .int .u8 z1, .int .u8 z2, .int .u8 z3] := by
    simp only [bvs, be, List.map_cons, List.map_nil, be_byte, h0, h1, h2, h3]
    simp
  rw [e]
  exact .inr ⟨_, _, rfl, rfl, cell_new _ _ _⟩
set_option maxHeartbeats 1000000 in
theorem four_any (W0 w : World) (v : Value) (l : List UInt8) (z : Int) (n : Nat) (hz : z = (n : Int)) (h : Nb W0 w v l) (hn : n < 4294967296) (hl : l.length ≤ 100000) : Calls Try.prog 42 #[v, .int .u32 z] w fun e w' => ∃ v', e = .returned v' ∧ Nb W0 w' v' (l ++ be 4 n) ∧ Fr (fun k => W0.heap.size ≤ k) w w' := by
  subst hz
  obtain ⟨inf, hi0, hz0, hz1, hz2⟩ := info_parts Try.info5
  obtain ⟨ao, cap, rfl⟩ := h.shape
  have HO := hide h
  clear h
  go_enter Try.func42, Try.ntmps42
  go_wp2_with (refine wpList_app rfl (.tmp 5) (.tmp 17) 26 rfl 5 inf _ 1 1 Try.underlying26 hi0 hz0 hz1 hz2 rfl (by decide) _ l.length (bvs l) rfl _ rfl 4 (bvs (be 4 n)) ?hown ?hx ?h1 ?hb ?h63 ?hK)
  case hown => exact ((unhide HO).alloc _).own
  case hx => exact sr4 _ _ _ _ _ n (by omega) (by omega) (by omega) (by omega)
  case h1 => exact bvs_one _
  case hb => omega
  case h63 => simp only [maxLen]; omega
  case hK =>
    intro ao' cap' w' ho hg hpl
    have H1 := hide (((unhide HO).alloc _).grown (x := be 4 n) (by rw [be_length]; exact ho) hg (by rcases hpl with e | ⟨k, e, hk⟩; exact .inl e; exact .inr ⟨k, e, by simp at hk ⊢; omega⟩))
    have H2 : Hid (Fr (fun k => W0.heap.size ≤ k) w w') := hide (Fr.grown ((Fr.refl _ _).alloc _) hg (fun k _ e => (unhide HO).new k e))
    clear ho hg hpl
    go_wp2_with fail
    go_ret
    exact ⟨_, rfl, unhide H1, unhide H2⟩
theorem be8 (n : Nat) : be 4 (n / 4294967296) ++ be 4 (n % 4294967296) = be 8 n := by
  have h : ∀ a b : Nat, a % 256 = b % 256 → UInt8.ofNat a = UInt8.ofNat b := fun a b e => by
    apply UInt8.toNat_inj.1; rw [UInt8.toNat_ofNat', UInt8.toNat_ofNat']; exact e
  simp only [be, List.cons_append, List.nil_append]
  rw [h (n / 4294967296 / 256 ^ 3) (n / 256 ^ 7) (by omega), h (n / 4294967296 / 256 ^ 2) (n / 256 ^ 6) (by omega), h (n / 4294967296 / 256 ^ 1) (n / 256 ^ 5) (by omega), h (n / 4294967296 / 256 ^ 0) (n / 256 ^ 4) (by omega), h (n % 4294967296 / 256 ^ 3) (n / 256 ^ 3) (by omega), h (n % 4294967296 / 256 ^ 2) (n / 256 ^ 2) (by omega), h (n % 4294967296 / 256 ^ 1) (n / 256 ^ 1) (by omega), h (n % 4294967296 / 256 ^ 0) (n / 256 ^ 0) (by omega)]
set_option maxHeartbeats 1000000 in
theorem eight_any (W0 w : World) (v : Value) (l : List UInt8) (z : Int) (n : Nat) (hz : z = (n : Int)) (h : Nb W0 w v l) (hn : n < 18446744073709551616) (hl : l.length ≤ 90000) : Calls Try.prog 43 #[v, .int .u64 z] w fun e w' => ∃ v', e = .returned v' ∧ Nb W0 w' v' (l ++ be 8 n) ∧ Fr (fun k => W0.heap.size ≤ k) w w' := by
  subst hz
  have HF := hide (fun W v l z n hz h hn hl => four_any W0 W v l z n hz h hn hl)
  have HO := hide h
  clear h
  go_enter Try.func43, Try.ntmps43
  go_wp2_with fail
  refine (unhide HF _ _ l _ (n / 4294967296) (by first | omega | (simp [IntKind.wrap]; omega)) (unhide HO) (by omega) (by omega)).mono ?_
  rintro e w1 ⟨v1, rfl, h1, f1⟩
  have H1 := hide h1
  have F1 := hide f1
  clear h1 HO f1
  go_wp2_with fail
  refine (unhide HF _ _ (l ++ be 4 (n / 4294967296)) _ (n % 4294967296) (by first | omega | (simp [IntKind.wrap]; omega)) (unhide H1) (by omega) (by simp [be_length]; omega)).mono ?_
  rintro e w2 ⟨v2, rfl, h2, f2⟩
  rw [List.append_assoc, be8] at h2
  have H2 := hide h2
  have F2 := hide ((unhide F1).trans f2 (fun _ _ h => h))
  clear h2 H1 HF f2
  go_wp2_with fail
  go_ret
  exact ⟨_, rfl, unhide H2, unhide F2⟩
/-- How many zeros stand behind so many bytes. -/
def zb (n : Nat) : Nat := (4 - n % 4) % 4
theorem zeros_any (n : Nat) (w : World) (hn : n ≤ 100000) : Calls Try.prog 41 #[.int .i64 (n : Int)] w fun e w' => e = .returned (.int .i64 ((zb n : Nat) : Int)) ∧ w' = w := by
  go_enter Try.func41, Try.ntmps41
  go_wp2_with fail
  go_ret
  refine ⟨?_, rfl⟩
  show Ending.returned (Value.int .i64 ((4 - (n : Int) % 4) % 4)) = _
  rw [show (4 - (n : Int) % 4) % 4 = ((zb n : Nat) : Int) by unfold zb; omega]
end Go.Proofs.Ytbenailemoefhaa
