/-
  The walk of the law XdrBack.
-/
import Derived.Test.YtmnbdpdblpgnlaaBackMath
import Derived.Test.YtmnbdpdblpgnlaaSame
import Derived.Test.YtmnbdpdblpgnlaaCh2
import Derived.Deep.RegionWith
namespace Go.Proofs.Ytmnbdpdblpgnlaa
open Go.RowKit
set_option linter.unusedVariables false

attribute [local go_sem ↓] Go.wp_at_zero Go.wp_at_succ

theorem wrap32_mod (i : Int) (h : -2147483648 ≤ i ∧ i < 2147483648) : wrap32 (i % 4294967296) = i := by
  unfold wrap32
  omega

theorem RdV.kept2 {S : Nat → Prop} {w w' : World} {v : Value} {l : List Value} (h : RdV w v l) (f : Fr S w w') (hS : ∀ b, v.ownBlock = some b → l = [] ∨ ¬ S b) : RdV w' v l := by
  rcases h with h | ⟨ad, cap, rfl, h1, h2, h3⟩
  · exact .inl h
  · refine .inr ⟨ad, cap, rfl, h1, h2, fun j hj => ?_⟩
    rw [f.cell (World.block_lt_of_cell? w _ (h3 j hj)) (by rw [add_block]; exact (hS ad.block rfl).resolve_left (fun e => by rw [e] at hj; simp at hj))]
    exact h3 j hj

theorem LAt.rd {w wr : World} {e : TypeId} {v : Value} {xs : List Value} {n : Nat} (h : LAt w wr e v n xs) (hn : xs.length = n) : RdV wr v xs := by
  subst hn
  exact RdV.of_owns h.1

theorem cf13 (args : Array Value) (W : World) : Sem.run Try.prog (callFunc 13 args) W = .ok (.enter 13 args) W := by simp [go_sem]
theorem cf14 (args : Array Value) (W : World) : Sem.run Try.prog (callFunc 14 args) W = .ok (.enter 14 args) W := by simp [go_sem]
theorem cf35 (args : Array Value) (W : World) : Sem.run Try.prog (callFunc 35 args) W = .ok (.enter 35 args) W := by simp [go_sem]
theorem cf36 (args : Array Value) (W : World) : Sem.run Try.prog (callFunc 36 args) W = .ok (.enter 36 args) W := by simp [go_sem]
theorem cf37 (args : Array Value) (W : World) : Sem.run Try.prog (callFunc 37 args) W = .ok (.enter 37 args) W := by simp [go_sem]
theorem cf38 (args : Array Value) (W : World) : Sem.run Try.prog (callFunc 38 args) W = .ok (.enter 38 args) W := by simp [go_sem]
theorem cf39 (args : Array Value) (W : World) : Sem.run Try.prog (callFunc 39 args) W = .ok (.enter 39 args) W := by simp [go_sem]
theorem cf40 (args : Array Value) (W : World) : Sem.run Try.prog (callFunc 40 args) W = .ok (.enter 40 args) W := by simp [go_sem]
theorem cf41 (args : Array Value) (W : World) : Sem.run Try.prog (callFunc 41 args) W = .ok (.enter 41 args) W := by simp [go_sem]
theorem cf42 (args : Array Value) (W : World) : Sem.run Try.prog (callFunc 42 args) W = .ok (.enter 42 args) W := by simp [go_sem]
theorem cf44 (args : Array Value) (W : World) : Sem.run Try.prog (callFunc 44 args) W = .ok (.enter 44 args) W := by simp [go_sem]
theorem cf45 (args : Array Value) (W : World) : Sem.run Try.prog (callFunc 45 args) W = .ok (.enter 45 args) W := by simp [go_sem]
theorem wp_name {P : Program} {C : Code} {Q : Exit → Act → World → Prop} {a : Act} {w : World} (h : ∀ a0, a0 = a → C.wp P Q a0 w) : C.wp P Q a w := h a rfl

/-- The frame's slots, one by one. -/
def Slots (a : Act) : Nat → List Value → Prop
  | _, [] => True
  | i, v :: vs => a.tmps.getD i undef = v ∧ Slots a (i + 1) vs

theorem Slots.get {a : Act} {vs : List Value} {k : Nat} (h : Slots a k vs) (i : Nat) (hi : i < vs.length) : a.tmps.getD (k + i) undef = vs[i] := by
  induction vs generalizing k i with
  | nil => simp at hi
  | cons v vs ih =>
    cases i with
    | zero => exact h.1
    | succ i =>
      have := ih h.2 i (by simpa using hi)
      rw [show k + 1 + i = k + (i + 1) by omega] at this
      simpa using this

/-- A frame of which every slot is known is that frame. -/
theorem frame_eq {a : Act} {vs : List Value} (hs : a.tmps.size = vs.length) (hd : a.defers = []) (h : Slots a 0 vs) : a = { tmps := vs.toArray, defers := [] } := by
  obtain ⟨tm, df⟩ := a
  simp only at hs hd
  subst hd
  congr 1
  apply Array.ext
  · simpa using hs
  · intro i h1 h2
    have := h.get i (by simpa using h2)
    rw [Nat.zero_add] at this
    simp [h1] at this
    simpa using this

theorem be32_ok (n : Int) : (be32 n).length = 4 := rfl

set_option maxHeartbeats 40000000 in
set_option maxRecDepth 100000 in
theorem xdrBack_any (w : World) (n i h : Int) (b : Bool) (s : ByteArray) (x y : Value) (l : List Int) (t : List ByteArray)
    (hn : 0 ≤ n ∧ n < 4294967296) (hi : -2147483648 ≤ i ∧ i < 2147483648) (hh : 0 ≤ h ∧ h < 18446744073709551616) (hs : s.size ≤ 140737488351232)
    (hx : RdV w x (uvs l)) (hxl : l.length ≤ 140737488351232) (hxw : ∀ n ∈ l, 0 ≤ n ∧ n < 4294967296) (hy : RdV w y (svs t)) (hyl : t.length ≤ 140737488351232) (hxb : ∀ b, x.ownBlock = some b → b < w.heap.size ∨ l = []) (hyb : ∀ b, y.ownBlock = some b → b < w.heap.size ∨ t = []) :
    Calls Try.prog 5 #[.int .u32 n, .int .i32 i, .int .u64 h, .bool b, .string s, x, y] w fun e w' => e = .returned (.bool true) ∧ Fr (fun _ => False) w w' := by
  have hul : (uvs l).length = l.length := by simp [uvs]
  have hsl : (svs t).length = t.length := by simp [svs]
  obtain ⟨ao, cap, rfl⟩ := hx.shape
  obtain ⟨ao2, cap2, rfl⟩ := hy.shape
  rw [hul] at hx hxb ⊢
  rw [hsl] at hy hyb ⊢
  have HUL := hide hul
  have HSL := hide hsl
  clear hul hsl
  have f0 : ∀ o, Fr (fun _ => False) w (w.alloc o) := fun o => (Fr.refl _ _).alloc o
  by_cases hbig : 60000 < (s.size : Int) + 8 * (l.length : Int) ∨ 60 < (t.length : Int)
  · have HL := hide (fun W => live_any W)
    have hfin : ∀ W, Calls Try.prog 9 #[] (w.alloc W) fun e w' => e = .returned (.bool true) ∧ Fr (fun _ => False) w w' := fun W => (live_any _).mono fun e w' ⟨h1, h2⟩ => ⟨h1, (f0 W).trans h2 (fun _ _ h => h)⟩
    have HF := hide hfin
    clear hfin HL f0
    by_cases hb1 : 60000 < (s.size : Int) + 8 * (l.length : Int)
    · go_enter Try.func5, Try.ntmps5
      go_wp2_with fail
      refine (unhide HF _).mono ?_
      rintro e w1 ⟨rfl, f1⟩
      go_wp2_with fail
      go_ret
      exact ⟨rfl, f1⟩
    · have hb2 : 60 < (t.length : Int) := by omega
      go_enter Try.func5, Try.ntmps5
      go_wp2_with fail
      refine (unhide HF _).mono ?_
      rintro e w1 ⟨rfl, f1⟩
      go_wp2_with fail
      go_ret
      exact ⟨rfl, f1⟩
  · have hs1 : (s.size : Int) + 8 * (l.length : Int) ≤ 60000 := by omega
    have hs2 : (t.length : Int) ≤ 60 := by omega
    clear hbig
    go_enter Try.func5, Try.ntmps5
    go_wp2_with fail
    have hx0 := hx.kept (f0 (Obj.cells #[Value.int IntKind.u32 n] 52)) (fun _ _ h => h)
    have hy0 := hy.kept (f0 (Obj.cells #[Value.int IntKind.u32 n] 52)) (fun _ _ h => h)
    have cn : (w.alloc (Obj.cells #[Value.int IntKind.u32 n] 52)).heap[w.heap.size]? = some (Obj.cells #[Value.int IntKind.u32 n] 52 (0, 0)) := heap_alloc_new w _
    have z0 : (w.alloc (Obj.cells #[Value.int IntKind.u32 n] 52)).heap.size = w.heap.size + 1 := by simp
    have F0 := hide (f0 (Obj.cells #[Value.int IntKind.u32 n] 52))
    clear f0 hx hy
    generalize w.alloc (Obj.cells #[Value.int IntKind.u32 n] 52) = w0 at *
    go_loop [15] (fun j => ∃ k : Nat, k ≤ t.length ∧ j = .int .i64 k ∧ ∀ u ∈ t.take k, u.size ≤ 7) (fun j => t.length - (intOf j).toNat)
    case atStart => exact ⟨0, Nat.zero_le _, rfl, by simp⟩
    case round =>
      obtain ⟨k, hk, rfl, hall⟩ := hrel
      by_cases hlt : k < t.length
      · obtain ⟨b2, o2, rfl, -, -, hcm2, hcell2⟩ := hy0.lits (by rw [unhide HSL]; omega)
        have hc2 := hcell2 k (by rw [unhide HSL]; omega)
        simp only [svs, List.getElem_map] at hc2
        unfold maxLen at hcm2
        have HT := hide (List.take_succ_eq_append_getElem hlt)
        have HA := hide hall
        generalize t[k] = m at *
        clear hcell2 hall
        by_cases hm : (7 : Int) < (m.size : Int)
        · go_wp2_with fail
          refine (live_any _).mono ?_
          rintro e w1 ⟨rfl, f1⟩
          go_wp2_with fail
          go_ret
          exact ⟨rfl, (unhide F0).trans f1 (fun _ _ h => h)⟩
        · go_wp2_with fail
          go_round
          case rel =>
            refine ⟨k + 1, by omega, by go_num, ?_⟩
            rw [unhide HT]
            intro u hu
            rcases List.mem_append.1 hu with hu | hu
            · exact unhide HA u hu
            · simp at hu; subst hu; omega
          case measure => simp [intOf]; omega
      · rw [show k = t.length from by omega, List.take_length] at hall
        have HA := hide hall
        clear hall
        go_wp2_with fail
        refine (newWriter_any w0).mono ?_
        rintro e w1 ⟨rfl, a1, f1, z1⟩
        have p0 : w.heap.size < w0.heap.size := by omega
        generalize hp : w0.heap.size = p at *
        have c1 : w1.cell? ⟨w.heap.size, 0, none⟩ = some (.int .u32 n) := by rw [cell_of_heap (w := w1) (cs := #[Value.int IntKind.u32 n]) (e := 52) (by rw [f1.block _ (by omega) id]; exact cn)]; rfl
        have k1 : ∀ (W : World) (q : Option Nat), WSt w1 W p none q → W.cell? ⟨w.heap.size, 0, none⟩ = some (.int .u32 n) := by
          intro W q hS
          rw [hS.1.cell (a := ⟨w.heap.size, 0, none⟩) (by show w.heap.size < w1.heap.size; omega) (by rintro (h | h); simp at h; omega; simp at h)]
          exact c1
        have KC := hide k1
        have hx1 := hx0.kept f1 (fun _ _ h => h)
        have hy1 := hy0.kept f1 (fun _ _ h => h)
        have G1 := hide ((unhide F0).trans f1 (fun _ _ h => h))
        clear f1 hx0 hy0 F0 k1
        have hzz : w.heap.size < p ∧ p < w1.heap.size := by omega
        clear z1 z0 p0 hp cn
        go_wp2_with fail
        refine (uint_ok w1 p none [] n a1 hn (by simp)).mono ?_
        rintro e w2 ⟨rfl, q2, a2, s2⟩
        obtain ⟨B2, hB2, a2⟩ : ∃ B, B = be32 n ∧ WAt w2 p q2 B 0 := ⟨_, rfl, a2⟩
        have l2 : B2.length = 4 := by rw [hB2]; rfl
        have HB2 := hide hB2
        clear hB2
        go_wp2_with fail
        refine (int_any w2 p q2 B2 0 i a2 hi (by omega)).mono ?_
        rintro e w3 ⟨rfl, q3, a3, s3⟩
        obtain ⟨B3, hB3, a3⟩ : ∃ B, B = B2 ++ be32 (i % 4294967296) ∧ WAt w3 p q3 B 0 := ⟨_, rfl, a3⟩
        have l3 : B3.length = 8 := by rw [hB3]; simp [be32, l2]
        have HB3 := hide hB3
        have S3 := hide (s2.trans s3)
        clear hB3 s2 s3 a2
        go_wp2_with fail
        refine (hyper_any w3 p q3 B3 0 h a3 hh (by omega)).mono ?_
        rintro e w4 ⟨rfl, q4, a4, s4⟩
        obtain ⟨B4, hB4, a4⟩ : ∃ B, B = B3 ++ (be32 (h / 4294967296) ++ be32 (h % 4294967296)) ∧ WAt w4 p q4 B 0 := ⟨_, rfl, a4⟩
        have l4 : B4.length = 16 := by rw [hB4]; simp [be32, l3]
        have HB4 := hide hB4
        have S4 := hide ((unhide S3).trans s4)
        clear hB4 s4 a3 S3
        go_wp2_with fail
        refine (bool_any w4 p q4 B4 0 b a4 (by omega)).mono ?_
        rintro e w5 ⟨rfl, q5, a5, s5⟩
        obtain ⟨B5, hB5, a5⟩ : ∃ B, B = B4 ++ be32 (if b = true then 1 else 0) ∧ WAt w5 p q5 B 0 := ⟨_, rfl, a5⟩
        have l5 : B5.length = 20 := by rw [hB5]; simp [be32, l4]
        have HB5 := hide hB5
        have S5 := hide ((unhide S4).trans s5)
        clear hB5 s5 a4 S4
        go_wp2_with fail
        refine (text_any w5 p q5 B5 0 s (s.size : Int) a5 (by omega) (by omega)).mono ?_
        rintro e w6 ⟨rfl, q6, a6, s6⟩
        have hsz : s.data.toList.length = s.size := by simp
        rw [wopq_ok _ _ _ (by rw [hsz]; exact Int.le_refl _)] at a6
        obtain ⟨B6, hB6, a6⟩ : ∃ B, B = B5 ++ opq s.data.toList ∧ WAt w6 p q6 B 0 := ⟨_, rfl, a6⟩
        have l6 : B6.length ≤ 60040 := by rw [hB6]; simp [opq, pad, be32, l5]; omega
        have HB6 := hide hB6
        have S6 := hide ((unhide S5).trans s6)
        clear hB6 s6 a5 S5
        have kc := fun (wx : World) => Lib.run_convert_string_bytes (P := Try.prog) wx 9 28 5 s Try.underlying9
        go_wp2_with fail
        clear kc
        have hf7 := bytesWorld_fr w6 5 s
        have a7 := a6.kept hf7 id (fun _ _ h => h)
        refine (fixed_any _ p q6 B6 0 _ s.data.toList a7 (bytesWorld_rd w6 s (by unfold maxLen; omega)) (by omega)).mono ?_
        rintro e w7 ⟨rfl, q7, a8, s7⟩
        obtain ⟨B7, hB7, a8⟩ : ∃ B, B = B6 ++ (s.data.toList ++ pad s.data.toList.length) ∧ WAt w7 p q7 B 0 := ⟨_, rfl, a8⟩
        have l7 : B7.length ≤ 120050 := by rw [hB7]; simp [pad]; omega
        have HB7 := hide hB7
        have S7 : Hid (WSt w1 w7 p none q7) := (unhide S6).trans ⟨(hf7.mono (fun _ _ h => h.elim)).trans s7.1 (fun _ _ h => h), fun k hk e => s7.2 k (by have := hf7.size; omega) e⟩
        clear hB7 s7 a6 a7 S6 hf7
        have hap : ∀ (W : World) (q : Option Nat), WSt w1 W p none q → ∀ b, b < w.heap.size → ¬ foot p q b := by
          intro W q hS b hb hf
          rcases hf with e | e
          · omega
          · have := hS.2 b (by omega) e; simp at this
        have hfx : ∀ (W : World) (q : Option Nat), WSt w1 W p none q → RdV W (Value.slice ao l.length cap) (uvs l) := by
          intro W q hS
          refine hx1.kept2 hS.1 (fun b hb => ?_)
          rcases hxb b hb with h | h
          · exact .inr (by rintro (e | e); omega; simp at e)
          · exact .inl (by rw [h]; rfl)
        have hfy : ∀ (W : World) (q : Option Nat), WSt w1 W p none q → RdV W (Value.slice ao2 t.length cap2) (svs t) := by
          intro W q hS
          refine hy1.kept2 hS.1 (fun b hb => ?_)
          rcases hyb b hb with h | h
          · exact .inr (by rintro (e | e); omega; simp at e)
          · exact .inl (by rw [h]; rfl)
        have HFX := hide hfx
        have HFY := hide hfy
        have HAP := hide hap
        clear hfx hfy hap hx1 hy1
        go_wp2_with fail
        refine (putListN_any w7 p q7 B7 0 _ l (l.length : Int) a8 (unhide HFX _ _ (unhide S7)) (fun b hb => by rcases hxb b hb with h | h; exact .inr (unhide HAP _ _ (unhide S7) b h); exact .inl h) hxw (by omega) (by omega)).mono ?_
        rintro e w9 ⟨rfl, q9, a9, s9⟩
        have e9 : wlistN B7 0 l (l.length : Int) = (B7 ++ (be32 (l.length : Int) ++ nums l), 0) := by unfold wlistN; rw [if_neg (by simp), if_neg (by omega)]
        rw [e9] at a9
        obtain ⟨B9, hB9, a9⟩ : ∃ B, B = B7 ++ (be32 (l.length : Int) ++ nums l) ∧ WAt w9 p q9 B 0 := ⟨_, rfl, a9⟩
        have l9 : B9.length ≤ 160000 := by rw [hB9]; simp [be32, nums_len]; omega
        have HB9 := hide hB9
        have S9 := hide ((unhide S7).trans s9)
        clear hB9 s9 a8 S7 e9
        go_wp2_with fail
        refine (putChain_any w9 p q9 B9 0 _ t a9 (unhide HFY _ _ (unhide S9)) (fun b hb => by rcases hyb b hb with h | h; exact .inr (unhide HAP _ _ (unhide S9) b h); exact .inl h) (fun u hu => by have := unhide HA u hu; omega) (by omega)).mono ?_
        rintro e w10 ⟨rfl, q10, a10, s10⟩
        rw [wch_ok t B9 (unhide HA)] at a10
        obtain ⟨B10, hB10, a10⟩ : ∃ B, B = B9 ++ (catC t ++ be32 0) ∧ WAt w10 p q10 B 0 := ⟨_, rfl, by rw [← List.append_assoc]; exact a10⟩
        have l10 : B10.length ≤ 170000 := by
          have h1 := wch_len t (B9, 0)
          rw [wch_ok t B9 (unhide HA)] at h1
          rw [hB10]
          simp [be32] at h1 ⊢
          omega
        have HB10 := hide hB10
        have S10 := hide ((unhide S9).trans s10)
        clear hB10 s10 a9 S9
        have cn10 := unhide KC _ _ (unhide S10)
        go_wp2_with fail
        refine (putOption_some w10 p q10 B10 0 w.heap.size 0 n a10 cn10 (by rintro (e | e); omega; have := (unhide S10).2 _ (by omega) e; simp at this) hn (by omega)).mono ?_
        rintro e w11 ⟨rfl, q11, a11, s11⟩
        obtain ⟨B11, hB11, a11⟩ : ∃ B, B = B10 ++ (be32 1 ++ be32 n) ∧ WAt w11 p q11 B 0 := ⟨_, rfl, a11⟩
        have l11 : B11.length ≤ 180000 := by rw [hB11]; simp [be32]; omega
        have HB11 := hide hB11
        have S11 := hide ((unhide S10).trans s11)
        clear hB11 s11 a10 S10 cn10
        have HD : Hid (B11 = be32 n ++ (be32 (i % 4294967296) ++ ((be32 (h / 4294967296) ++ be32 (h % 4294967296)) ++ (be32 (if b = true then 1 else 0) ++ (opq s.data.toList ++ ((s.data.toList ++ pad s.data.toList.length) ++ ((be32 (l.length : Int) ++ nums l) ++ ((catC t ++ be32 0) ++ ((be32 1 ++ be32 n) ++ []))))))))) := by
          show B11 = _
          rw [unhide HB11, unhide HB10, unhide HB9, unhide HB7, unhide HB6, unhide HB5, unhide HB4, unhide HB3, unhide HB2]
          simp only [List.append_assoc, List.append_nil]
        clear HB2 HB3 HB4 HB5 HB6 HB7 HB9 HB10 HB11 l2 l3 l4 l5 l6 l7 l9 l10
        go_wp2_with fail
        refine (wbytes_any w11 p q11 B11 0 a11 (by omega)).mono ?_
        rintro e w12 ⟨v12, rfl, o12, f12, n12⟩
        have HR := hide (newReader_any w12 v12 B11 (Rd.of_owns o12) (by omega))
        have a12 := a11.kept f12 id (fun _ _ h => h)
        obtain ⟨ao12, cap12, rfl⟩ := owns_shape o12
        clear o12 n12 a11
        go_wp2_with fail
        refine (unhide HR).mono ?_
        rintro e w13 ⟨rp, rq, rfl, r13, np13, nq13, f13⟩
        have a13 := a12.kept f13 id (fun _ _ h => h)
        have T13 : Hid (Fr (foot p none) w1 w13) := ((unhide S11).1.trans f12 (fun _ _ h => h.elim)).trans f13 (fun _ _ h => h.elim)
        have zr : w1.heap.size ≤ rp := Nat.le_trans ((unhide S11).1.trans f12 (fun _ _ h => h.elim)).size np13
        have KX : Hid (∀ W : World, Fr (fun k => k = rp) w13 W → Fr (foot p none) w1 W) := fun W hW => (unhide T13).trans hW (fun i hi e => by omega)
        have KW : Hid (∀ W : World, Fr (fun k => k = rp) w13 W → WSt w1 W p none none) := fun W hW => ⟨(unhide T13).trans hW (fun i hi e => by omega), fun _ _ h => h⟩
        clear f12 f13 np13 nq13 a12 HR
        obtain ⟨v13, hp13, _⟩ := id a13
        have cw := WAt.cell1 hp13
        clear hp13
        obtain ⟨b1, b2, b3, b4, b5, b6, b7, b8, b9, BK⟩ := back_all B11 n i h b s l t hn hh (by omega) (by omega) hxw (unhide HA) (unhide HD)
        have hD11 : B11.length ≤ maxLen := by unfold maxLen; omega
        have hm4 : (B11.length : Int) % 4 = 0 := by have := BK.m1; omega
        have hm4t : (B11.length : Int).tmod 4 = 0 := by rw [Int.tmod_eq_emod_of_nonneg (by omega)]; exact hm4
        have hm4n := BK.m1
        have c13 := unhide KC _ _ (unhide KW _ (Fr.refl _ _))
        have K1 : Hid (∀ W, RAt W rp rq B11 0 0 → Calls Try.prog 35 #[.pointer (some ⟨rp, 0, none⟩)] W fun e w' => e = .returned (.int .u32 n) ∧ RAt w' rp rq B11 b1 0 ∧ Fr (fun k => k = rp) W w') := fun W r => by
          have := ruint_any W rp rq B11 0 0 r hD11
          rw [BK.u1, BK.u2, BK.u3] at this
          exact this
        clear hxb hyb HD
        go_wp2_with fail
        simp only [List.append_eq, List.cons_append, List.nil_append]
        have KN : Hid (∀ W : World, Fr (fun k => k = rp) w13 W → W.cell? ⟨w.heap.size, 0, none⟩ = some (.int .u32 n)) := fun W hW => unhide KC _ _ (unhide KW _ hW)
        have K2 : Hid (∀ W, RAt W rp rq B11 b1 0 → Calls Try.prog 36 #[.pointer (some ⟨rp, 0, none⟩)] W fun e w' => e = .returned (.int .i32 i) ∧ RAt w' rp rq B11 b2 0 ∧ Fr (fun k => k = rp) W w') := fun W r => by
          have := rint_any W rp rq B11 b1 0 r hD11
          rw [BK.i1, BK.i2, BK.i3, wrap32_mod i hi] at this
          exact this
        have K3 : Hid (∀ W, RAt W rp rq B11 b2 0 → Calls Try.prog 37 #[.pointer (some ⟨rp, 0, none⟩)] W fun e w' => e = .returned (.int .u64 h) ∧ RAt w' rp rq B11 b3 0 ∧ Fr (fun k => k = rp) W w') := fun W r => by
          have := rhyper_any W rp rq B11 b2 0 r hD11
          rw [BK.h1, BK.h2, BK.h3] at this
          exact this
        have K4 : Hid (∀ W, RAt W rp rq B11 b3 0 → Calls Try.prog 38 #[.pointer (some ⟨rp, 0, none⟩)] W fun e w' => e = .returned (.bool b) ∧ RAt w' rp rq B11 b4 0 ∧ Fr (fun k => k = rp) W w') := fun W r => by
          have := rbool_any W rp rq B11 b3 0 r hD11
          rw [BK.b1] at this
          exact this
        have hstr : str s.data.toList = s := rfl
        have K5 : Hid (∀ W, RAt W rp rq B11 b4 0 → Calls Try.prog 39 #[.pointer (some ⟨rp, 0, none⟩), .int .i64 (s.size : Int)] W fun e w' => e = .returned (.string s) ∧ RAt w' rp rq B11 b5 0 ∧ Fr (fun k => k = rp) W w') := fun W r => by
          have := rtext_any W rp rq B11 b4 0 (s.size : Int) r hD11
          rw [BK.t1] at this
          exact this
        have K6 : Hid (∀ W, RAt W rp rq B11 b5 0 → Calls Try.prog 40 #[.pointer (some ⟨rp, 0, none⟩), .int .i64 (s.size : Int)] W fun e w' => ∃ v, e = .returned v ∧ (Rd w' v s.data.toList ∧ ∀ k, v.ownBlock = some k → ¬ k = rp) ∧ RAt w' rp rq B11 b6 0 ∧ Fr (fun k => k = rp) W w') := fun W r => by
          have hlt := r.lt.1
          have := rfixed_any W rp rq B11 b5 0 (s.size : Int) r (by omega) (by omega)
          rw [BK.f1] at this
          refine this.mono ?_
          rintro e w' ⟨v, rfl, o, hnew, r', f'⟩
          exact ⟨v, rfl, ⟨Rd.of_owns o, fun k hk e => by have := hnew k hk; omega⟩, r', f'⟩
        have K7 : Hid (∀ W, RAt W rp rq B11 b6 0 → Calls Try.prog 42 #[.pointer (some ⟨rp, 0, none⟩), .int .i64 (l.length : Int), .func (.func 43) #[] #[]] W fun e w' => ∃ v, e = .returned v ∧ ((∃ ao cap, v = .slice ao l.length cap) ∧ RdV w' v (uvs l) ∧ ∀ k, v.ownBlock = some k → ¬ k = rp) ∧ RAt w' rp rq B11 b7 0 ∧ Fr (fun k => k = rp) W w') := fun W r => by
          have hlt := r.lt.1
          have := listN_any W rp rq B11 b6 0 (l.length : Int) r hD11
          rw [BK.l1] at this
          refine this.mono ?_
          rintro e w' ⟨v, rfl, o, r', f'⟩
          exact ⟨v, rfl, ⟨owns_shape o.1, LAt.rd o (unhide HUL), fun k hk e => by have := o.2 k hk; omega⟩, r', f'⟩
        have K8 : Hid (∀ W, RAt W rp rq B11 b7 0 → Calls Try.prog 45 #[.pointer (some ⟨rp, 0, none⟩), .int .i64 (t.length : Int), .func (.func 46) #[] #[]] W fun e w' => ∃ v, e = .returned v ∧ ((∃ ao cap, v = .slice ao t.length cap) ∧ RdV w' v (svs t) ∧ ∀ k, v.ownBlock = some k → ¬ k = rp) ∧ RAt w' rp rq B11 b8 0 ∧ Fr (fun k => k = rp) W w') := fun W r => by
          have hlt := r.lt.1
          have := chain_any W rp rq B11 b7 0 (t.length : Int) r (by omega)
          rw [BK.c1] at this
          refine this.mono ?_
          rintro e w' ⟨v, rfl, o, r', f'⟩
          exact ⟨v, rfl, ⟨owns_shape o.1, LAt.rd o (unhide HSL), fun k hk e => by have := o.2 k hk; omega⟩, r', f'⟩
        have K9 : Hid (∀ W, Fr (fun k => k = rp) w13 W → RdV W (Value.slice ao l.length cap) (uvs l) ∧ RdV W (Value.slice ao2 t.length cap2) (svs t)) := fun W hW => ⟨unhide HFX _ _ (unhide KW _ hW), unhide HFY _ _ (unhide KW _ hW)⟩
        clear HFX HFY hstr
        clear hs hxl hxw hyl HUL HSL a1 a2 a3 a4 a5 a6 a8 a9 a10 a11 c1 KC HAP hsz S11 KX a13
        have KCW : Hid (∀ W : World, Fr (fun k => k = rp) w13 W → W.cell? ⟨p, 1, none⟩ = some (.int .i64 0)) := fun W hW => by
          rw [hW.cell (a := ⟨p, 1, none⟩) (World.block_lt_of_cell? w13 _ cw) (by intro e; dsimp only at e; omega)]
          exact cw
        refine wp_name ?_
        intro a0 hA
        have h1 : a0.tmps.getD 1 undef = .int .i32 i := by rw [hA]; rfl
        have h2 : a0.tmps.getD 2 undef = .int .u64 h := by rw [hA]; rfl
        have h3 : a0.tmps.getD 3 undef = .bool b := by rw [hA]; rfl
        have h4 : a0.tmps.getD 4 undef = .string s := by rw [hA]; rfl
        have h5 : a0.tmps.getD 5 undef = .slice ao l.length cap := by rw [hA]; rfl
        have h6 : a0.tmps.getD 6 undef = .slice ao2 t.length cap2 := by rw [hA]; rfl
        have h7 : a0.tmps.getD 7 undef = .pointer (some ⟨w.heap.size, 0, none⟩) := by rw [hA]; rfl
        have h16 : a0.tmps.getD 16 undef = .pointer (some ⟨p, 0, none⟩) := by rw [hA]; rfl
        have h17 : a0.tmps.getD 17 undef = .slice ao12 B11.length cap12 := by rw [hA]; rfl
        have h18 : a0.tmps.getD 18 undef = .pointer (some ⟨rp, 0, none⟩) := by rw [hA]; rfl
        have hsz : a0.tmps.size = 177 := by rw [hA]; rfl
        have hdf : a0.defers = [] := by rw [hA]
        clear hA
        refine wp_region_chain (by kernel_rfl) (by kernel_rfl) (by decide +kernel) (by rw [hsz]; decide +kernel) (fun w w' => Fr (fun k => k = rp) w w') (Fr.refl _ _).drew (fun _ _ _ h k => h.trans k (fun _ _ h => h))
          (Tk rp [.eq (.pointer (some ⟨rp, 0, none⟩)), .eq (.bool false), .eq (.bool false), .eq (.pointer (some ⟨p, 0, none⟩)), .eq (.int .i64 0), .eq (.int .i64 0), .eq (.bool false), .eq (.bool false), .eq (.bool false), .eq (.slice ao12 B11.length cap12), .eq (.int .i64 (B11.length : Int)), .eq (.int .i64 0), .eq (.bool false), .eq (.bool false), .eq (.bool false), .eq (.pointer (some ⟨rp, 0, none⟩)), .eq (.int .u32 n), .eq (.int .u32 n), .eq (.bool false), .eq (.bool false), .eq (.bool false), .eq (.pointer (some ⟨rp, 0, none⟩)), .eq (.int .i32 i), .eq (.int .i32 i), .eq (.bool false), .eq (.bool false), .eq (.bool false), .eq (.pointer (some ⟨rp, 0, none⟩)), .eq (.int .u64 h), .eq (.int .u64 h), .eq (.bool false), .eq (.bool false), .eq (.bool false), .eq (.pointer (some ⟨rp, 0, none⟩)), .eq (.bool b), .eq (.bool b), .eq (.bool false), .eq (.bool false), .eq (.bool false), .eq (.pointer (some ⟨rp, 0, none⟩)), .eq (.string s), .eq (.int .i64 (s.size : Int)), .eq (.string s), .eq (.string s), .eq (.bool false), .eq (.bool false), .eq (.bool false), .eq (.pointer (some ⟨rp, 0, none⟩)), .eq (.string s), .eq (.int .i64 (s.size : Int)), .by_ s.data.toList, .eq (.string s), .eq (.string s), .eq (.bool false), .eq (.bool false), .eq (.bool false), .eq (.pointer (some ⟨rp, 0, none⟩)), .eq (.slice ao l.length cap), .eq (.int .i64 (l.length : Int)), .li l.length (uvs l), .eq (.slice ao l.length cap), .eq (.bool true), .eq (.bool false), .eq (.bool false), .eq (.bool false), .eq (.pointer (some ⟨rp, 0, none⟩)), .eq (.slice ao2 t.length cap2), .eq (.int .i64 (t.length : Int)), .li t.length (svs t), .eq (.slice ao2 t.length cap2), .eq (.bool true), .eq (.bool false), .eq (.bool false)]) (Tk.mono rp _) [16, 22, 28, 34, 42, 50, 59, 68] (by decide) (by decide) (chain_paths _ [[20, 19, 18, 16], [26, 25, 24, 22], [32, 31, 30, 28], [38, 37, 36, 34], [46, 45, 44, 42], [55, 54, 53, 51, 50], [64, 63, 62, 61, 59]] (by kernel_rfl)) (fun k W => RAt W rp rq B11 (([0, b1, b2, b3, b4, b5, b6, b7, b8] : List Nat).getD k 0) 0) r13 ?steps ?done
        case steps =>
          refine ⟨?_, ?_⟩
          · intro a' w' k hb hf hs hc hd
            exact ⟨wantedN rfl, left_val (.pointer (some ⟨rp, 0, none⟩)) (by decide) hs (ex_move rfl ((hb.old 18 (by decide +kernel)).trans h18)) rfl⟩
          refine ⟨?_, ?_⟩
          · intro a' w' k hb hf hs hc hd
            exact ⟨wantedN rfl, left_val (.bool false) (by decide) hs (ex_eqP Try.underlying41 rfl (hd 0 (by kernel_rfl) 84 rfl) rfl) rfl⟩
          refine ⟨?_, ?_⟩
          · intro a' w' k hb hf hs hc hd
            exact ⟨wantedN rfl, left_val (.bool false) (by decide) hs (ex_move rfl (hd 1 (by kernel_rfl) 85 rfl)) rfl⟩
          refine ⟨?_, ?_⟩
          · intro a' w' k hb hf hs hc hd
            exact ⟨wantedF (d := 86) rfl rfl (by rw [hb.size, hsz]; omega) (hd 2 (by kernel_rfl) 86 rfl), left_val (.pointer (some ⟨p, 0, none⟩)) (by decide) hs (ex_move rfl ((hb.old 16 (by decide +kernel)).trans h16)) rfl⟩
          refine ⟨?_, ?_⟩
          · intro a' w' k hb hf hs hc hd
            exact ⟨wantedF (d := 86) rfl rfl (by rw [hb.size, hsz]; omega) (hd 2 (by kernel_rfl) 86 rfl), left_call 14 _ (en_call1 rfl rfl (hd 3 (by kernel_rfl) 87 rfl) cf14) ((why_any _ _ 0 (unhide KCW _ hf)).mono (by rintro e w7 ⟨rfl, rfl⟩; exact ⟨_, rfl, rfl, Fr.refl _ _, by rw [if_neg (by decide)]; exact hs⟩))⟩
          refine ⟨?_, ?_⟩
          · intro a' w' k hb hf hs hc hd
            exact ⟨wantedF (d := 86) rfl rfl (by rw [hb.size, hsz]; omega) (hd 2 (by kernel_rfl) 86 rfl), left_call 13 _ (en_call1 rfl rfl (hd 4 (by kernel_rfl) 88 rfl) cf13) ((num_any _ _).mono (by rintro e w7 ⟨rfl, rfl⟩; exact ⟨_, rfl, rfl, Fr.refl _ _, by rw [if_neg (by decide)]; exact hs⟩))⟩
          refine ⟨?_, ?_⟩
          · intro a' w' k hb hf hs hc hd
            exact ⟨wantedF (d := 86) rfl rfl (by rw [hb.size, hsz]; omega) (hd 2 (by kernel_rfl) 86 rfl), left_val (.bool false) (by decide) hs (ex_neI Try.underlying3 rfl (hd 5 (by kernel_rfl) 89 rfl) rfl) rfl⟩
          refine ⟨?_, ?_⟩
          · intro a' w' k hb hf hs hc hd
            exact ⟨wantedN rfl, left_val (.bool false) (by decide) hs (ex_pickF rfl (hd 2 (by kernel_rfl) 86 rfl) (hd 6 (by kernel_rfl) 90 rfl)) rfl⟩
          refine ⟨?_, ?_⟩
          · intro a' w' k hb hf hs hc hd
            exact ⟨wantedN rfl, left_val (.bool false) (by decide) hs (ex_move rfl (hd 7 (by kernel_rfl) 91 rfl)) rfl⟩
          refine ⟨?_, ?_⟩
          · intro a' w' k hb hf hs hc hd
            exact ⟨wantedF (d := 92) rfl rfl (by rw [hb.size, hsz]; omega) (hd 8 (by kernel_rfl) 92 rfl), left_val (.slice ao12 B11.length cap12) (by decide) hs (ex_move rfl ((hb.old 17 (by decide +kernel)).trans h17)) rfl⟩
          refine ⟨?_, ?_⟩
          · intro a' w' k hb hf hs hc hd
            exact ⟨wantedF (d := 92) rfl rfl (by rw [hb.size, hsz]; omega) (hd 8 (by kernel_rfl) 92 rfl), left_val (.int .i64 (B11.length : Int)) (by decide) hs (ex_len Try.underlying28 rfl (hd 9 (by kernel_rfl) 93 rfl)) rfl⟩
          refine ⟨?_, ?_⟩
          · intro a' w' k hb hf hs hc hd
            exact ⟨wantedF (d := 92) rfl rfl (by rw [hb.size, hsz]; omega) (hd 8 (by kernel_rfl) 92 rfl), left_val (.int .i64 0) (by decide) hs (ex_rem hm4t rfl (hd 10 (by kernel_rfl) 94 rfl) rfl) rfl⟩
          refine ⟨?_, ?_⟩
          · intro a' w' k hb hf hs hc hd
            exact ⟨wantedF (d := 92) rfl rfl (by rw [hb.size, hsz]; omega) (hd 8 (by kernel_rfl) 92 rfl), left_val (.bool false) (by decide) hs (ex_neI Try.underlying3 rfl (hd 11 (by kernel_rfl) 95 rfl) rfl) rfl⟩
          refine ⟨?_, ?_⟩
          · intro a' w' k hb hf hs hc hd
            exact ⟨wantedN rfl, left_val (.bool false) (by decide) hs (ex_pickF rfl (hd 8 (by kernel_rfl) 92 rfl) (hd 12 (by kernel_rfl) 96 rfl)) rfl⟩
          refine ⟨?_, ?_⟩
          · intro a' w' k hb hf hs hc hd
            exact ⟨wantedN rfl, left_val (.bool false) (by decide) hs (ex_move rfl (hd 13 (by kernel_rfl) 97 rfl)) rfl⟩
          refine ⟨?_, ?_⟩
          · intro a' w' k hb hf hs hc hd
            exact ⟨wantedF (d := 98) rfl rfl (by rw [hb.size, hsz]; omega) (hd 14 (by kernel_rfl) 98 rfl), left_val (.pointer (some ⟨rp, 0, none⟩)) (by decide) hs (ex_move rfl ((hb.old 18 (by decide +kernel)).trans h18)) rfl⟩
          refine ⟨?_, ?_⟩
          · intro a' w' k hb hf hs hc hd
            obtain rfl := hc 0 rfl
            exact ⟨wantedF (d := 98) rfl rfl (by rw [hb.size, hsz]; omega) (hd 14 (by kernel_rfl) 98 rfl), left_call 35 _ (en_call1 rfl rfl (hd 15 (by kernel_rfl) 99 rfl) cf35) ((unhide K1 _ hs).mono (by rintro e w7 ⟨rfl, r, f⟩; exact ⟨_, rfl, rfl, f, by rw [if_pos (by decide)]; exact r⟩))⟩
          refine ⟨?_, ?_⟩
          · intro a' w' k hb hf hs hc hd
            exact ⟨wantedF (d := 98) rfl rfl (by rw [hb.size, hsz]; omega) (hd 14 (by kernel_rfl) 98 rfl), left_val (.int .u32 n) (by decide) hs (ex_load52 rfl ((hb.old 7 (by decide +kernel)).trans h7) (unhide KN _ hf) rfl) rfl⟩
          refine ⟨?_, ?_⟩
          · intro a' w' k hb hf hs hc hd
            exact ⟨wantedF (d := 98) rfl rfl (by rw [hb.size, hsz]; omega) (hd 14 (by kernel_rfl) 98 rfl), left_val (.bool false) (by decide) hs (ex_neI Try.underlying52 rfl (hd 16 (by kernel_rfl) 100 rfl) (hd 17 (by kernel_rfl) 101 rfl)) rfl⟩
          refine ⟨?_, ?_⟩
          · intro a' w' k hb hf hs hc hd
            exact ⟨wantedN rfl, left_val (.bool false) (by decide) hs (ex_pickF rfl (hd 14 (by kernel_rfl) 98 rfl) (hd 18 (by kernel_rfl) 102 rfl)) rfl⟩
          refine ⟨?_, ?_⟩
          · intro a' w' k hb hf hs hc hd
            exact ⟨wantedN rfl, left_val (.bool false) (by decide) hs (ex_move rfl (hd 19 (by kernel_rfl) 103 rfl)) rfl⟩
          refine ⟨?_, ?_⟩
          · intro a' w' k hb hf hs hc hd
            exact ⟨wantedF (d := 104) rfl rfl (by rw [hb.size, hsz]; omega) (hd 20 (by kernel_rfl) 104 rfl), left_val (.pointer (some ⟨rp, 0, none⟩)) (by decide) hs (ex_move rfl ((hb.old 18 (by decide +kernel)).trans h18)) rfl⟩
          refine ⟨?_, ?_⟩
          · intro a' w' k hb hf hs hc hd
            obtain rfl := hc 1 rfl
            exact ⟨wantedF (d := 104) rfl rfl (by rw [hb.size, hsz]; omega) (hd 20 (by kernel_rfl) 104 rfl), left_call 36 _ (en_call1 rfl rfl (hd 21 (by kernel_rfl) 105 rfl) cf36) ((unhide K2 _ hs).mono (by rintro e w7 ⟨rfl, r, f⟩; exact ⟨_, rfl, rfl, f, by rw [if_pos (by decide)]; exact r⟩))⟩
          refine ⟨?_, ?_⟩
          · intro a' w' k hb hf hs hc hd
            exact ⟨wantedF (d := 104) rfl rfl (by rw [hb.size, hsz]; omega) (hd 20 (by kernel_rfl) 104 rfl), left_val (.int .i32 i) (by decide) hs (ex_move rfl ((hb.old 1 (by decide +kernel)).trans h1)) rfl⟩
          refine ⟨?_, ?_⟩
          · intro a' w' k hb hf hs hc hd
            exact ⟨wantedF (d := 104) rfl rfl (by rw [hb.size, hsz]; omega) (hd 20 (by kernel_rfl) 104 rfl), left_val (.bool false) (by decide) hs (ex_neI Try.underlying21 rfl (hd 22 (by kernel_rfl) 106 rfl) (hd 23 (by kernel_rfl) 107 rfl)) rfl⟩
          refine ⟨?_, ?_⟩
          · intro a' w' k hb hf hs hc hd
            exact ⟨wantedN rfl, left_val (.bool false) (by decide) hs (ex_pickF rfl (hd 20 (by kernel_rfl) 104 rfl) (hd 24 (by kernel_rfl) 108 rfl)) rfl⟩
          refine ⟨?_, ?_⟩
          · intro a' w' k hb hf hs hc hd
            exact ⟨wantedN rfl, left_val (.bool false) (by decide) hs (ex_move rfl (hd 25 (by kernel_rfl) 109 rfl)) rfl⟩
          refine ⟨?_, ?_⟩
          · intro a' w' k hb hf hs hc hd
            exact ⟨wantedF (d := 110) rfl rfl (by rw [hb.size, hsz]; omega) (hd 26 (by kernel_rfl) 110 rfl), left_val (.pointer (some ⟨rp, 0, none⟩)) (by decide) hs (ex_move rfl ((hb.old 18 (by decide +kernel)).trans h18)) rfl⟩
          refine ⟨?_, ?_⟩
          · intro a' w' k hb hf hs hc hd
            obtain rfl := hc 2 rfl
            exact ⟨wantedF (d := 110) rfl rfl (by rw [hb.size, hsz]; omega) (hd 26 (by kernel_rfl) 110 rfl), left_call 37 _ (en_call1 rfl rfl (hd 27 (by kernel_rfl) 111 rfl) cf37) ((unhide K3 _ hs).mono (by rintro e w7 ⟨rfl, r, f⟩; exact ⟨_, rfl, rfl, f, by rw [if_pos (by decide)]; exact r⟩))⟩
          refine ⟨?_, ?_⟩
          · intro a' w' k hb hf hs hc hd
            exact ⟨wantedF (d := 110) rfl rfl (by rw [hb.size, hsz]; omega) (hd 26 (by kernel_rfl) 110 rfl), left_val (.int .u64 h) (by decide) hs (ex_move rfl ((hb.old 2 (by decide +kernel)).trans h2)) rfl⟩
          refine ⟨?_, ?_⟩
          · intro a' w' k hb hf hs hc hd
            exact ⟨wantedF (d := 110) rfl rfl (by rw [hb.size, hsz]; omega) (hd 26 (by kernel_rfl) 110 rfl), left_val (.bool false) (by decide) hs (ex_neI Try.underlying31 rfl (hd 28 (by kernel_rfl) 112 rfl) (hd 29 (by kernel_rfl) 113 rfl)) rfl⟩
          refine ⟨?_, ?_⟩
          · intro a' w' k hb hf hs hc hd
            exact ⟨wantedN rfl, left_val (.bool false) (by decide) hs (ex_pickF rfl (hd 26 (by kernel_rfl) 110 rfl) (hd 30 (by kernel_rfl) 114 rfl)) rfl⟩
          refine ⟨?_, ?_⟩
          · intro a' w' k hb hf hs hc hd
            exact ⟨wantedN rfl, left_val (.bool false) (by decide) hs (ex_move rfl (hd 31 (by kernel_rfl) 115 rfl)) rfl⟩
          refine ⟨?_, ?_⟩
          · intro a' w' k hb hf hs hc hd
            exact ⟨wantedF (d := 116) rfl rfl (by rw [hb.size, hsz]; omega) (hd 32 (by kernel_rfl) 116 rfl), left_val (.pointer (some ⟨rp, 0, none⟩)) (by decide) hs (ex_move rfl ((hb.old 18 (by decide +kernel)).trans h18)) rfl⟩
          refine ⟨?_, ?_⟩
          · intro a' w' k hb hf hs hc hd
            obtain rfl := hc 3 rfl
            exact ⟨wantedF (d := 116) rfl rfl (by rw [hb.size, hsz]; omega) (hd 32 (by kernel_rfl) 116 rfl), left_call 38 _ (en_call1 rfl rfl (hd 33 (by kernel_rfl) 117 rfl) cf38) ((unhide K4 _ hs).mono (by rintro e w7 ⟨rfl, r, f⟩; exact ⟨_, rfl, rfl, f, by rw [if_pos (by decide)]; exact r⟩))⟩
          refine ⟨?_, ?_⟩
          · intro a' w' k hb hf hs hc hd
            exact ⟨wantedF (d := 116) rfl rfl (by rw [hb.size, hsz]; omega) (hd 32 (by kernel_rfl) 116 rfl), left_val (.bool b) (by decide) hs (ex_move rfl ((hb.old 3 (by decide +kernel)).trans h3)) rfl⟩
          refine ⟨?_, ?_⟩
          · intro a' w' k hb hf hs hc hd
            exact ⟨wantedF (d := 116) rfl rfl (by rw [hb.size, hsz]; omega) (hd 32 (by kernel_rfl) 116 rfl), left_val (.bool false) (by decide) hs (ex_neB rfl (hd 34 (by kernel_rfl) 118 rfl) (hd 35 (by kernel_rfl) 119 rfl)) rfl⟩
          refine ⟨?_, ?_⟩
          · intro a' w' k hb hf hs hc hd
            exact ⟨wantedN rfl, left_val (.bool false) (by decide) hs (ex_pickF rfl (hd 32 (by kernel_rfl) 116 rfl) (hd 36 (by kernel_rfl) 120 rfl)) rfl⟩
          refine ⟨?_, ?_⟩
          · intro a' w' k hb hf hs hc hd
            exact ⟨wantedN rfl, left_val (.bool false) (by decide) hs (ex_move rfl (hd 37 (by kernel_rfl) 121 rfl)) rfl⟩
          refine ⟨?_, ?_⟩
          · intro a' w' k hb hf hs hc hd
            exact ⟨wantedF (d := 122) rfl rfl (by rw [hb.size, hsz]; omega) (hd 38 (by kernel_rfl) 122 rfl), left_val (.pointer (some ⟨rp, 0, none⟩)) (by decide) hs (ex_move rfl ((hb.old 18 (by decide +kernel)).trans h18)) rfl⟩
          refine ⟨?_, ?_⟩
          · intro a' w' k hb hf hs hc hd
            exact ⟨wantedF (d := 122) rfl rfl (by rw [hb.size, hsz]; omega) (hd 38 (by kernel_rfl) 122 rfl), left_val (.string s) (by decide) hs (ex_move rfl ((hb.old 4 (by decide +kernel)).trans h4)) rfl⟩
          refine ⟨?_, ?_⟩
          · intro a' w' k hb hf hs hc hd
            exact ⟨wantedF (d := 122) rfl rfl (by rw [hb.size, hsz]; omega) (hd 38 (by kernel_rfl) 122 rfl), left_val (.int .i64 (s.size : Int)) (by decide) hs (ex_lenS Try.underlying9 rfl (hd 40 (by kernel_rfl) 124 rfl)) rfl⟩
          refine ⟨?_, ?_⟩
          · intro a' w' k hb hf hs hc hd
            obtain rfl := hc 4 rfl
            exact ⟨wantedF (d := 122) rfl rfl (by rw [hb.size, hsz]; omega) (hd 38 (by kernel_rfl) 122 rfl), left_call 39 _ (en_call2 rfl rfl (hd 39 (by kernel_rfl) 123 rfl) (hd 41 (by kernel_rfl) 125 rfl) cf39) ((unhide K5 _ hs).mono (by rintro e w7 ⟨rfl, r, f⟩; exact ⟨_, rfl, rfl, f, by rw [if_pos (by decide)]; exact r⟩))⟩
          refine ⟨?_, ?_⟩
          · intro a' w' k hb hf hs hc hd
            exact ⟨wantedF (d := 122) rfl rfl (by rw [hb.size, hsz]; omega) (hd 38 (by kernel_rfl) 122 rfl), left_val (.string s) (by decide) hs (ex_move rfl ((hb.old 4 (by decide +kernel)).trans h4)) rfl⟩
          refine ⟨?_, ?_⟩
          · intro a' w' k hb hf hs hc hd
            exact ⟨wantedF (d := 122) rfl rfl (by rw [hb.size, hsz]; omega) (hd 38 (by kernel_rfl) 122 rfl), left_val (.bool false) (by decide) hs (ex_neS rfl (hd 42 (by kernel_rfl) 126 rfl) (hd 43 (by kernel_rfl) 127 rfl)) rfl⟩
          refine ⟨?_, ?_⟩
          · intro a' w' k hb hf hs hc hd
            exact ⟨wantedN rfl, left_val (.bool false) (by decide) hs (ex_pickF rfl (hd 38 (by kernel_rfl) 122 rfl) (hd 44 (by kernel_rfl) 128 rfl)) rfl⟩
          refine ⟨?_, ?_⟩
          · intro a' w' k hb hf hs hc hd
            exact ⟨wantedN rfl, left_val (.bool false) (by decide) hs (ex_move rfl (hd 45 (by kernel_rfl) 129 rfl)) rfl⟩
          refine ⟨?_, ?_⟩
          · intro a' w' k hb hf hs hc hd
            exact ⟨wantedF (d := 130) rfl rfl (by rw [hb.size, hsz]; omega) (hd 46 (by kernel_rfl) 130 rfl), left_val (.pointer (some ⟨rp, 0, none⟩)) (by decide) hs (ex_move rfl ((hb.old 18 (by decide +kernel)).trans h18)) rfl⟩
          refine ⟨?_, ?_⟩
          · intro a' w' k hb hf hs hc hd
            exact ⟨wantedF (d := 130) rfl rfl (by rw [hb.size, hsz]; omega) (hd 46 (by kernel_rfl) 130 rfl), left_val (.string s) (by decide) hs (ex_move rfl ((hb.old 4 (by decide +kernel)).trans h4)) rfl⟩
          refine ⟨?_, ?_⟩
          · intro a' w' k hb hf hs hc hd
            exact ⟨wantedF (d := 130) rfl rfl (by rw [hb.size, hsz]; omega) (hd 46 (by kernel_rfl) 130 rfl), left_val (.int .i64 (s.size : Int)) (by decide) hs (ex_lenS Try.underlying9 rfl (hd 48 (by kernel_rfl) 132 rfl)) rfl⟩
          refine ⟨?_, ?_⟩
          · intro a' w' k hb hf hs hc hd
            obtain rfl := hc 5 rfl
            exact ⟨wantedF (d := 130) rfl rfl (by rw [hb.size, hsz]; omega) (hd 46 (by kernel_rfl) 130 rfl), left_call 40 _ (en_call2 rfl rfl (hd 47 (by kernel_rfl) 131 rfl) (hd 49 (by kernel_rfl) 133 rfl) cf40) ((unhide K6 _ hs).mono (by rintro e w7 ⟨v7, rfl, hv, r, f⟩; exact ⟨_, rfl, hv, f, by rw [if_pos (by decide)]; exact r⟩))⟩
          refine ⟨?_, ?_⟩
          · intro a' w' k hb hf hs hc hd
            exact ⟨wantedF (d := 130) rfl rfl (by rw [hb.size, hsz]; omega) (hd 46 (by kernel_rfl) 130 rfl), left_val (.string s) (by decide) hs (ex_conv rfl rfl (conv_rd (P := Try.prog) (show Rd w' _ s.data.toList from (hd 50 (by kernel_rfl) 134 rfl).1) 28 9 5 Try.underlying28 Try.underlying5 Try.underlying9)) rfl⟩
          refine ⟨?_, ?_⟩
          · intro a' w' k hb hf hs hc hd
            exact ⟨wantedF (d := 130) rfl rfl (by rw [hb.size, hsz]; omega) (hd 46 (by kernel_rfl) 130 rfl), left_val (.string s) (by decide) hs (ex_move rfl ((hb.old 4 (by decide +kernel)).trans h4)) rfl⟩
          refine ⟨?_, ?_⟩
          · intro a' w' k hb hf hs hc hd
            exact ⟨wantedF (d := 130) rfl rfl (by rw [hb.size, hsz]; omega) (hd 46 (by kernel_rfl) 130 rfl), left_val (.bool false) (by decide) hs (ex_neS rfl (hd 51 (by kernel_rfl) 135 rfl) (hd 52 (by kernel_rfl) 136 rfl)) rfl⟩
          refine ⟨?_, ?_⟩
          · intro a' w' k hb hf hs hc hd
            exact ⟨wantedN rfl, left_val (.bool false) (by decide) hs (ex_pickF rfl (hd 46 (by kernel_rfl) 130 rfl) (hd 53 (by kernel_rfl) 137 rfl)) rfl⟩
          refine ⟨?_, ?_⟩
          · intro a' w' k hb hf hs hc hd
            exact ⟨wantedN rfl, left_val (.bool false) (by decide) hs (ex_move rfl (hd 54 (by kernel_rfl) 138 rfl)) rfl⟩
          refine ⟨?_, ?_⟩
          · intro a' w' k hb hf hs hc hd
            exact ⟨wantedF (d := 139) rfl rfl (by rw [hb.size, hsz]; omega) (hd 55 (by kernel_rfl) 139 rfl), left_val (.pointer (some ⟨rp, 0, none⟩)) (by decide) hs (ex_move rfl ((hb.old 18 (by decide +kernel)).trans h18)) rfl⟩
          refine ⟨?_, ?_⟩
          · intro a' w' k hb hf hs hc hd
            exact ⟨wantedF (d := 139) rfl rfl (by rw [hb.size, hsz]; omega) (hd 55 (by kernel_rfl) 139 rfl), left_val (.slice ao l.length cap) (by decide) hs (ex_move rfl ((hb.old 5 (by decide +kernel)).trans h5)) rfl⟩
          refine ⟨?_, ?_⟩
          · intro a' w' k hb hf hs hc hd
            exact ⟨wantedF (d := 139) rfl rfl (by rw [hb.size, hsz]; omega) (hd 55 (by kernel_rfl) 139 rfl), left_val (.int .i64 (l.length : Int)) (by decide) hs (ex_len Try.underlying32 rfl (hd 57 (by kernel_rfl) 141 rfl)) rfl⟩
          refine ⟨?_, ?_⟩
          · intro a' w' k hb hf hs hc hd
            obtain rfl := hc 6 rfl
            exact ⟨wantedF (d := 139) rfl rfl (by rw [hb.size, hsz]; omega) (hd 55 (by kernel_rfl) 139 rfl), left_call 42 _ (en_call3 rfl rfl (hd 56 (by kernel_rfl) 140 rfl) (hd 58 (by kernel_rfl) 142 rfl) rfl cf42) ((unhide K7 _ hs).mono (by rintro e w7 ⟨v7, rfl, hv, r, f⟩; exact ⟨_, rfl, hv, f, by rw [if_pos (by decide)]; exact r⟩))⟩
          refine ⟨?_, ?_⟩
          · intro a' w' k hb hf hs hc hd
            exact ⟨wantedF (d := 139) rfl rfl (by rw [hb.size, hsz]; omega) (hd 55 (by kernel_rfl) 139 rfl), left_val (.slice ao l.length cap) (by decide) hs (ex_move rfl ((hb.old 5 (by decide +kernel)).trans h5)) rfl⟩
          refine ⟨?_, ?_⟩
          · intro a' w' k hb hf hs hc hd
            exact ⟨wantedF (d := 139) rfl rfl (by rw [hb.size, hsz]; omega) (hd 55 (by kernel_rfl) 139 rfl), left_call 41 _ (en_call2 rfl rfl rfl (hd 60 (by kernel_rfl) 144 rfl) cf41) ((same_eq _ _ _ l (hd 59 (by kernel_rfl) 143 rfl).2.1 (unhide K9 _ hf).1).mono (by rintro e w7 ⟨rfl, q7⟩; exact ⟨_, rfl, rfl, q7.fr _, by rw [if_neg (by decide)]; exact RAt.kept hs (q7.fr (fun _ => False)) id (fun _ _ h => h)⟩))⟩
          refine ⟨?_, ?_⟩
          · intro a' w' k hb hf hs hc hd
            exact ⟨wantedF (d := 139) rfl rfl (by rw [hb.size, hsz]; omega) (hd 55 (by kernel_rfl) 139 rfl), left_val (.bool false) (by decide) hs (ex_notT rfl (hd 61 (by kernel_rfl) 145 rfl)) rfl⟩
          refine ⟨?_, ?_⟩
          · intro a' w' k hb hf hs hc hd
            exact ⟨wantedN rfl, left_val (.bool false) (by decide) hs (ex_pickF rfl (hd 55 (by kernel_rfl) 139 rfl) (hd 62 (by kernel_rfl) 146 rfl)) rfl⟩
          refine ⟨?_, ?_⟩
          · intro a' w' k hb hf hs hc hd
            exact ⟨wantedN rfl, left_val (.bool false) (by decide) hs (ex_move rfl (hd 63 (by kernel_rfl) 147 rfl)) rfl⟩
          refine ⟨?_, ?_⟩
          · intro a' w' k hb hf hs hc hd
            exact ⟨wantedF (d := 148) rfl rfl (by rw [hb.size, hsz]; omega) (hd 64 (by kernel_rfl) 148 rfl), left_val (.pointer (some ⟨rp, 0, none⟩)) (by decide) hs (ex_move rfl ((hb.old 18 (by decide +kernel)).trans h18)) rfl⟩
          refine ⟨?_, ?_⟩
          · intro a' w' k hb hf hs hc hd
            exact ⟨wantedF (d := 148) rfl rfl (by rw [hb.size, hsz]; omega) (hd 64 (by kernel_rfl) 148 rfl), left_val (.slice ao2 t.length cap2) (by decide) hs (ex_move rfl ((hb.old 6 (by decide +kernel)).trans h6)) rfl⟩
          refine ⟨?_, ?_⟩
          · intro a' w' k hb hf hs hc hd
            exact ⟨wantedF (d := 148) rfl rfl (by rw [hb.size, hsz]; omega) (hd 64 (by kernel_rfl) 148 rfl), left_val (.int .i64 (t.length : Int)) (by decide) hs (ex_len Try.underlying33 rfl (hd 66 (by kernel_rfl) 150 rfl)) rfl⟩
          refine ⟨?_, ?_⟩
          · intro a' w' k hb hf hs hc hd
            obtain rfl := hc 7 rfl
            exact ⟨wantedF (d := 148) rfl rfl (by rw [hb.size, hsz]; omega) (hd 64 (by kernel_rfl) 148 rfl), left_call 45 _ (en_call3 rfl rfl (hd 65 (by kernel_rfl) 149 rfl) (hd 67 (by kernel_rfl) 151 rfl) rfl cf45) ((unhide K8 _ hs).mono (by rintro e w7 ⟨v7, rfl, hv, r, f⟩; exact ⟨_, rfl, hv, f, by rw [if_pos (by decide)]; exact r⟩))⟩
          refine ⟨?_, ?_⟩
          · intro a' w' k hb hf hs hc hd
            exact ⟨wantedF (d := 148) rfl rfl (by rw [hb.size, hsz]; omega) (hd 64 (by kernel_rfl) 148 rfl), left_val (.slice ao2 t.length cap2) (by decide) hs (ex_move rfl ((hb.old 6 (by decide +kernel)).trans h6)) rfl⟩
          refine ⟨?_, ?_⟩
          · intro a' w' k hb hf hs hc hd
            exact ⟨wantedF (d := 148) rfl rfl (by rw [hb.size, hsz]; omega) (hd 64 (by kernel_rfl) 148 rfl), left_call 44 _ (en_call2 rfl rfl rfl (hd 69 (by kernel_rfl) 153 rfl) cf44) ((texts_eq _ _ _ t (hd 68 (by kernel_rfl) 152 rfl).2.1 (unhide K9 _ hf).2).mono (by rintro e w7 ⟨rfl, q7⟩; exact ⟨_, rfl, rfl, q7.fr _, by rw [if_neg (by decide)]; exact RAt.kept hs (q7.fr (fun _ => False)) id (fun _ _ h => h)⟩))⟩
          refine ⟨?_, ?_⟩
          · intro a' w' k hb hf hs hc hd
            exact ⟨wantedF (d := 148) rfl rfl (by rw [hb.size, hsz]; omega) (hd 64 (by kernel_rfl) 148 rfl), left_val (.bool false) (by decide) hs (ex_notT rfl (hd 70 (by kernel_rfl) 154 rfl)) rfl⟩
          refine ⟨?_, ?_⟩
          · intro a' w' k hb hf hs hc hd
            exact ⟨wantedN rfl, left_val (.bool false) (by decide) hs (ex_pickF rfl (hd 64 (by kernel_rfl) 148 rfl) (hd 71 (by kernel_rfl) 155 rfl)) rfl⟩
          exact trivial
        case done =>
          intro a' w24 hb hf hs hall
          have e7 : a'.tmps.getD 7 undef = .pointer (some ⟨w.heap.size, 0, none⟩) := (hb.old 7 (by decide +kernel)).trans h7
          have e18 : a'.tmps.getD 18 undef = .pointer (some ⟨rp, 0, none⟩) := (hb.old 18 (by decide +kernel)).trans h18
          have e156 : a'.tmps.getD 156 undef = .bool false := hall 72 (by decide) 156 rfl
          obtain ⟨f, hfr⟩ : ∃ f : Nat → Value, a' = { tmps := #[f 0, f 1, f 2, f 3, f 4, f 5, f 6, .pointer (some ⟨w.heap.size, 0, none⟩), f 8, f 9, f 10, f 11, f 12, f 13, f 14, f 15, f 16, f 17, .pointer (some ⟨rp, 0, none⟩), f 19, f 20, f 21, f 22, f 23, f 24, f 25, f 26, f 27, f 28, f 29, f 30, f 31, f 32, f 33, f 34, f 35, f 36, f 37, f 38, f 39, f 40, f 41, f 42, f 43, f 44, f 45, f 46, f 47, f 48, f 49, f 50, f 51, f 52, f 53, f 54, f 55, f 56, f 57, f 58, f 59, f 60, f 61, f 62, f 63, f 64, f 65, f 66, f 67, f 68, f 69, f 70, f 71, f 72, f 73, f 74, f 75, f 76, f 77, f 78, f 79, f 80, f 81, f 82, f 83, f 84, f 85, f 86, f 87, f 88, f 89, f 90, f 91, f 92, f 93, f 94, f 95, f 96, f 97, f 98, f 99, f 100, f 101, f 102, f 103, f 104, f 105, f 106, f 107, f 108, f 109, f 110, f 111, f 112, f 113, f 114, f 115, f 116, f 117, f 118, f 119, f 120, f 121, f 122, f 123, f 124, f 125, f 126, f 127, f 128, f 129, f 130, f 131, f 132, f 133, f 134, f 135, f 136, f 137, f 138, f 139, f 140, f 141, f 142, f 143, f 144, f 145, f 146, f 147, f 148, f 149, f 150, f 151, f 152, f 153, f 154, f 155, .bool false, f 157, f 158, f 159, f 160, f 161, f 162, f 163, f 164, f 165, f 166, f 167, f 168, f 169, f 170, f 171, f 172, f 173, f 174, f 175, f 176], defers := [] } :=
            ⟨fun i => a'.tmps.getD i undef, frame_eq (vs := [(fun i => a'.tmps.getD i undef) 0, (fun i => a'.tmps.getD i undef) 1, (fun i => a'.tmps.getD i undef) 2, (fun i => a'.tmps.getD i undef) 3, (fun i => a'.tmps.getD i undef) 4, (fun i => a'.tmps.getD i undef) 5, (fun i => a'.tmps.getD i undef) 6, .pointer (some ⟨w.heap.size, 0, none⟩), (fun i => a'.tmps.getD i undef) 8, (fun i => a'.tmps.getD i undef) 9, (fun i => a'.tmps.getD i undef) 10, (fun i => a'.tmps.getD i undef) 11, (fun i => a'.tmps.getD i undef) 12, (fun i => a'.tmps.getD i undef) 13, (fun i => a'.tmps.getD i undef) 14, (fun i => a'.tmps.getD i undef) 15, (fun i => a'.tmps.getD i undef) 16, (fun i => a'.tmps.getD i undef) 17, .pointer (some ⟨rp, 0, none⟩), (fun i => a'.tmps.getD i undef) 19, (fun i => a'.tmps.getD i undef) 20, (fun i => a'.tmps.getD i undef) 21, (fun i => a'.tmps.getD i undef) 22, (fun i => a'.tmps.getD i undef) 23, (fun i => a'.tmps.getD i undef) 24, (fun i => a'.tmps.getD i undef) 25, (fun i => a'.tmps.getD i undef) 26, (fun i => a'.tmps.getD i undef) 27, (fun i => a'.tmps.getD i undef) 28, (fun i => a'.tmps.getD i undef) 29, (fun i => a'.tmps.getD i undef) 30, (fun i => a'.tmps.getD i undef) 31, (fun i => a'.tmps.getD i undef) 32, (fun i => a'.tmps.getD i undef) 33, (fun i => a'.tmps.getD i undef) 34, (fun i => a'.tmps.getD i undef) 35, (fun i => a'.tmps.getD i undef) 36, (fun i => a'.tmps.getD i undef) 37, (fun i => a'.tmps.getD i undef) 38, (fun i => a'.tmps.getD i undef) 39, (fun i => a'.tmps.getD i undef) 40, (fun i => a'.tmps.getD i undef) 41, (fun i => a'.tmps.getD i undef) 42, (fun i => a'.tmps.getD i undef) 43, (fun i => a'.tmps.getD i undef) 44, (fun i => a'.tmps.getD i undef) 45, (fun i => a'.tmps.getD i undef) 46, (fun i => a'.tmps.getD i undef) 47, (fun i => a'.tmps.getD i undef) 48, (fun i => a'.tmps.getD i undef) 49, (fun i => a'.tmps.getD i undef) 50, (fun i => a'.tmps.getD i undef) 51, (fun i => a'.tmps.getD i undef) 52, (fun i => a'.tmps.getD i undef) 53, (fun i => a'.tmps.getD i undef) 54, (fun i => a'.tmps.getD i undef) 55, (fun i => a'.tmps.getD i undef) 56, (fun i => a'.tmps.getD i undef) 57, (fun i => a'.tmps.getD i undef) 58, (fun i => a'.tmps.getD i undef) 59, (fun i => a'.tmps.getD i undef) 60, (fun i => a'.tmps.getD i undef) 61, (fun i => a'.tmps.getD i undef) 62, (fun i => a'.tmps.getD i undef) 63, (fun i => a'.tmps.getD i undef) 64, (fun i => a'.tmps.getD i undef) 65, (fun i => a'.tmps.getD i undef) 66, (fun i => a'.tmps.getD i undef) 67, (fun i => a'.tmps.getD i undef) 68, (fun i => a'.tmps.getD i undef) 69, (fun i => a'.tmps.getD i undef) 70, (fun i => a'.tmps.getD i undef) 71, (fun i => a'.tmps.getD i undef) 72, (fun i => a'.tmps.getD i undef) 73, (fun i => a'.tmps.getD i undef) 74, (fun i => a'.tmps.getD i undef) 75, (fun i => a'.tmps.getD i undef) 76, (fun i => a'.tmps.getD i undef) 77, (fun i => a'.tmps.getD i undef) 78, (fun i => a'.tmps.getD i undef) 79, (fun i => a'.tmps.getD i undef) 80, (fun i => a'.tmps.getD i undef) 81, (fun i => a'.tmps.getD i undef) 82, (fun i => a'.tmps.getD i undef) 83, (fun i => a'.tmps.getD i undef) 84, (fun i => a'.tmps.getD i undef) 85, (fun i => a'.tmps.getD i undef) 86, (fun i => a'.tmps.getD i undef) 87, (fun i => a'.tmps.getD i undef) 88, (fun i => a'.tmps.getD i undef) 89, (fun i => a'.tmps.getD i undef) 90, (fun i => a'.tmps.getD i undef) 91, (fun i => a'.tmps.getD i undef) 92, (fun i => a'.tmps.getD i undef) 93, (fun i => a'.tmps.getD i undef) 94, (fun i => a'.tmps.getD i undef) 95, (fun i => a'.tmps.getD i undef) 96, (fun i => a'.tmps.getD i undef) 97, (fun i => a'.tmps.getD i undef) 98, (fun i => a'.tmps.getD i undef) 99, (fun i => a'.tmps.getD i undef) 100, (fun i => a'.tmps.getD i undef) 101, (fun i => a'.tmps.getD i undef) 102, (fun i => a'.tmps.getD i undef) 103, (fun i => a'.tmps.getD i undef) 104, (fun i => a'.tmps.getD i undef) 105, (fun i => a'.tmps.getD i undef) 106, (fun i => a'.tmps.getD i undef) 107, (fun i => a'.tmps.getD i undef) 108, (fun i => a'.tmps.getD i undef) 109, (fun i => a'.tmps.getD i undef) 110, (fun i => a'.tmps.getD i undef) 111, (fun i => a'.tmps.getD i undef) 112, (fun i => a'.tmps.getD i undef) 113, (fun i => a'.tmps.getD i undef) 114, (fun i => a'.tmps.getD i undef) 115, (fun i => a'.tmps.getD i undef) 116, (fun i => a'.tmps.getD i undef) 117, (fun i => a'.tmps.getD i undef) 118, (fun i => a'.tmps.getD i undef) 119, (fun i => a'.tmps.getD i undef) 120, (fun i => a'.tmps.getD i undef) 121, (fun i => a'.tmps.getD i undef) 122, (fun i => a'.tmps.getD i undef) 123, (fun i => a'.tmps.getD i undef) 124, (fun i => a'.tmps.getD i undef) 125, (fun i => a'.tmps.getD i undef) 126, (fun i => a'.tmps.getD i undef) 127, (fun i => a'.tmps.getD i undef) 128, (fun i => a'.tmps.getD i undef) 129, (fun i => a'.tmps.getD i undef) 130, (fun i => a'.tmps.getD i undef) 131, (fun i => a'.tmps.getD i undef) 132, (fun i => a'.tmps.getD i undef) 133, (fun i => a'.tmps.getD i undef) 134, (fun i => a'.tmps.getD i undef) 135, (fun i => a'.tmps.getD i undef) 136, (fun i => a'.tmps.getD i undef) 137, (fun i => a'.tmps.getD i undef) 138, (fun i => a'.tmps.getD i undef) 139, (fun i => a'.tmps.getD i undef) 140, (fun i => a'.tmps.getD i undef) 141, (fun i => a'.tmps.getD i undef) 142, (fun i => a'.tmps.getD i undef) 143, (fun i => a'.tmps.getD i undef) 144, (fun i => a'.tmps.getD i undef) 145, (fun i => a'.tmps.getD i undef) 146, (fun i => a'.tmps.getD i undef) 147, (fun i => a'.tmps.getD i undef) 148, (fun i => a'.tmps.getD i undef) 149, (fun i => a'.tmps.getD i undef) 150, (fun i => a'.tmps.getD i undef) 151, (fun i => a'.tmps.getD i undef) 152, (fun i => a'.tmps.getD i undef) 153, (fun i => a'.tmps.getD i undef) 154, (fun i => a'.tmps.getD i undef) 155, .bool false, (fun i => a'.tmps.getD i undef) 157, (fun i => a'.tmps.getD i undef) 158, (fun i => a'.tmps.getD i undef) 159, (fun i => a'.tmps.getD i undef) 160, (fun i => a'.tmps.getD i undef) 161, (fun i => a'.tmps.getD i undef) 162, (fun i => a'.tmps.getD i undef) 163, (fun i => a'.tmps.getD i undef) 164, (fun i => a'.tmps.getD i undef) 165, (fun i => a'.tmps.getD i undef) 166, (fun i => a'.tmps.getD i undef) 167, (fun i => a'.tmps.getD i undef) 168, (fun i => a'.tmps.getD i undef) 169, (fun i => a'.tmps.getD i undef) 170, (fun i => a'.tmps.getD i undef) 171, (fun i => a'.tmps.getD i undef) 172, (fun i => a'.tmps.getD i undef) 173, (fun i => a'.tmps.getD i undef) 174, (fun i => a'.tmps.getD i undef) 175, (fun i => a'.tmps.getD i undef) 176]) (by rw [hb.size, hsz]; rfl) (by rw [hb.defers]; exact hdf) ⟨rfl, rfl, rfl, rfl, rfl, rfl, rfl, e7, rfl, rfl, rfl, rfl, rfl, rfl, rfl, rfl, rfl, rfl, e18, rfl, rfl, rfl, rfl, rfl, rfl, rfl, rfl, rfl, rfl, rfl, rfl, rfl, rfl, rfl, rfl, rfl, rfl, rfl, rfl, rfl, rfl, rfl, rfl, rfl, rfl, rfl, rfl, rfl, rfl, rfl, rfl, rfl, rfl, rfl, rfl, rfl, rfl, rfl, rfl, rfl, rfl, rfl, rfl, rfl, rfl, rfl, rfl, rfl, rfl, rfl, rfl, rfl, rfl, rfl, rfl, rfl, rfl, rfl, rfl, rfl, rfl, rfl, rfl, rfl, rfl, rfl, rfl, rfl, rfl, rfl, rfl, rfl, rfl, rfl, rfl, rfl, rfl, rfl, rfl, rfl, rfl, rfl, rfl, rfl, rfl, rfl, rfl, rfl, rfl, rfl, rfl, rfl, rfl, rfl, rfl, rfl, rfl, rfl, rfl, rfl, rfl, rfl, rfl, rfl, rfl, rfl, rfl, rfl, rfl, rfl, rfl, rfl, rfl, rfl, rfl, rfl, rfl, rfl, rfl, rfl, rfl, rfl, rfl, rfl, rfl, rfl, rfl, rfl, rfl, rfl, rfl, rfl, rfl, rfl, rfl, rfl, e156, rfl, rfl, rfl, rfl, rfl, rfl, rfl, rfl, rfl, rfl, rfl, rfl, rfl, rfl, rfl, rfl, rfl, rfl, rfl, rfl, trivial⟩⟩
          have R24 : Hid (RAt w24 rp rq B11 b8 0) := hs
          have F24 := hide hf
          clear hall hb hf hs e7 e18 e156
          subst hfr
          apply_assumption
          have HO := hide (fun (W : World) (r : RAt W rp rq B11 b8 0) => option_any W rp rq B11 b8 0 r hD11)
          rw [BK.o1] at HO
          have HD9 := hide (fun (W : World) (r : RAt W rp rq B11 b9 0) => rdone_any W rp rq B11 b9 0 r hD11)
          rw [BK.z1] at HD9
          go_wp2_with fail
          refine (unhide HO _ (unhide R24)).mono ?_
          rintro e w25 ⟨v25, rfl, p25, r25, f25⟩
          obtain ⟨bb, rfl, hbb, hcc⟩ : ∃ b, v25 = .pointer (some ⟨b, 0, none⟩) ∧ w24.heap.size ≤ b ∧ w25.cell? ⟨b, 0, none⟩ = some (.int .u32 n) := p25
          have F25 := (unhide F24).trans f25 (fun _ _ h => h)
          have cn25 := unhide KN _ F25
          have R25 := hide r25
          have GF : Hid (∀ W : World, Fr (fun k => k = rp) w13 W → Fr (fun _ => False) w W) := fun W hW => by
            have h1 := (unhide G1).trans (unhide T13) (fun k hk hf => by rcases hf with e | e; omega; simp at e)
            exact h1.trans hW (fun k hk e => by omega)
          have F25' := hide F25
          clear r25 f25 HO R24 F24 F25
          go_wp2_with fail
          go_region_with ((first | (go_at_call 13; refine (num_any _ _).mono ?_; rintro e w' ⟨rfl, rfl⟩) | (go_at_call 22; refine (unhide HD9 _ (by first | exact unhide R25 | exact (unhide R25).kept (Fr.refl (fun _ => False) _).drew id (fun _ _ h => h))).mono ?_; rintro e w26 ⟨rfl, q26⟩) | (go_at_call 9; refine (live_any _).mono ?_; rintro e w27 ⟨rfl, f27⟩)))
          all_goals
            go_wp2_with fail
            go_ret
            exact ⟨rfl, ((unhide GF _ (unhide F25')).trans (((Qt.drew w25).trans q26).fr (fun _ => False)) (fun _ _ h => h)).trans f27 (fun _ _ h => h)⟩

#print axioms xdrBack_any
end Go.Proofs.Ytmnbdpdblpgnlaa
