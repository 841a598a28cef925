/-
  The walk of the law RsChanges, where it asks.
-/
import Derived.Test.YtckmddkhkdcmmaaCn4
namespace Go.Proofs.Ytckmddkhkdcmmaa
open Go.RowKit
set_option linter.unusedVariables false
set_option linter.unusedSimpArgs false

attribute [local go_sem ↓] Go.wp_at_zero Go.wp_at_succ

/-- A shard under way to a sum: t bytes are done. -/
def mxL (x y : List UInt8) (t : Nat) : List UInt8 := (List.range x.length).map (fun i => if i < t then (x[i]?.getD 0) ^^^ (y[i]?.getD 0) else x[i]?.getD 0)
theorem mxL_length {x y : List UInt8} {n t : Nat} (hx : x.length = n) : (mxL x y t).length = n := by simp [mxL, hx]
theorem mxL_get {x y : List UInt8} {t i : Nat} (hi : i < (mxL x y t).length) : (mxL x y t)[i] = if i < t then (x[i]?.getD 0) ^^^ (y[i]?.getD 0) else x[i]?.getD 0 := by simp [mxL]
theorem mxL_zero (x y : List UInt8) : mxL x y 0 = x := by
  apply List.ext_getElem
  · simp [mxL]
  · intro i h1 h2
    rw [mxL_get, if_neg (by omega), List.getElem?_eq_getElem h2]; rfl
theorem mxL_step {x y : List UInt8} {t : Nat} (ht : t < x.length) : (mxL x y t).set t ((x[t]?.getD 0) ^^^ (y[t]?.getD 0)) = mxL x y (t + 1) := by
  apply List.ext_getElem
  · simp [mxL]
  · intro i h1 h2
    rw [mxL_get]
    by_cases e : t = i
    · subst e
      rw [List.getElem_set_self, if_pos (by omega)]
    · rw [List.getElem_set_ne e, mxL_get]
      by_cases h : i < t
      · rw [if_pos h, if_pos (by omega)]
      · rw [if_neg h, if_neg (by omega)]
theorem mxL_end {x y : List UInt8} {n : Nat} (hx : x.length = n) (hy : y.length = n) : mxL x y n = sm x y := by
  apply List.ext_getElem
  · simp [mxL, sm, hx, hy]
  · intro i h1 h2
    have hi : i < n := by rw [mxL_length hx] at h1; exact h1
    rw [mxL_get, if_pos hi, List.getElem?_eq_getElem (show i < x.length by omega), List.getElem?_eq_getElem (show i < y.length by omega)]
    simp [sm]
theorem smL_take {a b : List (List UInt8)} {j : Nat} (ha : j < a.length) (hb : j < b.length) : (smL a b).take (j + 1) = (smL a b).take j ++ [sm a[j] b[j]] := by
  rw [List.take_succ_eq_append_getElem (by simp [smL]; omega)]
  simp [smL]

theorem owns_newC {w : World} {b : Nat} {e : TypeId} (hb : w.heap[b]? = some (.cells #[] e (0, 0))) : w.ownsRow 0 e 1 (.slice (some ⟨b, 0, none⟩) 0 0) 0 [] :=
  ⟨rfl, .inr ⟨b, 0, #[], rfl, Nat.zero_le _, hb, Nat.le_refl _, by simp [maxLen], rfl, rfl⟩⟩
theorem rows_oneC {w : World} {vs : List Value} {ls : List (List UInt8)} (hl : vs.length = ls.length) (h : ∀ (i : Nat) (x : Value) (l : List UInt8), vs[i]? = some x → ls[i]? = some l → Rd w x l) (u : Value) (hu : u ∈ vs) : u.oneCell' = true := by
  obtain ⟨i, hi, rfl⟩ := List.getElem_of_mem hu
  obtain ⟨a, c, e⟩ := (h i _ (ls[i]'(by omega)) (List.getElem?_eq_getElem hi) (List.getElem?_eq_getElem (by omega))).shape
  rw [e]; rfl
theorem owns_atC {w : World} {e : TypeId} {ao : Option Addr} {n cap : Nat} {vs : List Value} (h : w.ownsRow 0 e 1 (.slice ao n cap) n vs) (hn : 0 < n) : ∃ b, ao = some ⟨b, 0, none⟩ ∧ ∀ j, w.frozen? ⟨b, j, none⟩ = false := by
  rcases h.2 with ⟨hv, h0⟩ | ⟨q', cap', cur, hv, hb, hg, -⟩
  · omega
  · simp only [Value.slice.injEq] at hv
    exact ⟨q', hv.1, frozen_of_heap hg⟩

set_option maxHeartbeats 8000000 in
set_option maxRecDepth 100000 in
theorem chgWalk_ok (w : World) (pv qv wv : Value) (p q : List UInt8) (l : List Int) (at' : Int) (k m : Nat) (hk : 1 ≤ k ∧ k ≤ 16) (hm : m ≤ 8) (hp : Rd w pv p) (hq : Rd w qv q) (hl : RdV w wv (l.map (Value.int .i64))) (hlx : ∀ x ∈ l, -9223372036854775808 ≤ x ∧ x ≤ 9223372036854775807) (h1 : p.length ≤ 9000) (h2 : p.length ≤ q.length) (h3 : q.length ≤ 9000) (h4 : l.length ≤ 30) (h5 : 0 ≤ at') (h6 : at' ≤ 9223372036854775807) :
    Calls Try.prog 12 #[.int .i64 (k : Int), .int .i64 (m : Int), pv, qv, .int .i64 at', wv] w fun e w' => e = .returned (.bool true) ∧ Fr (fun _ => False) w w' := by
  have HB := hide (both_ok w k m hk hm)
  obtain ⟨n, hn⟩ : ∃ n, n = p.length / k := ⟨_, rfl⟩
  have hkn : k * n ≤ p.length := by rw [hn]; exact Nat.mul_div_le _ _
  have htq : (q.take p.length).length = p.length := by rw [List.length_take]; omega
  have HSA := hide (fun W (f : Fr (fun _ => False) w W) => shards_any W pv p k n (hp.kept f (fun _ _ h => h)) hk h1 hn)
  obtain ⟨qo, qc, rfl⟩ := hq.shape
  have HSB := hide (fun W (f : Fr (fun _ => False) w W) => shards_any W (.slice qo p.length qc) (q.take p.length) k n ((hq.kept f (fun _ _ h => h)).takeN p.length h2) hk (by rw [htq]; exact h1) (by rw [htq]; exact hn))
  have hqc : q.length ≤ qc := by
    rcases hq with ⟨hv, hp0⟩ | ⟨ad, cap', hv, z1, z2, z3⟩
    · rw [hp0]; simp
    · simp only [Value.slice.injEq] at hv; omega
  have HWL := hide (fun W (f : Fr (fun _ => False) w W) => hl.kept f (fun _ _ h => h))
  obtain ⟨po, pc, rfl⟩ := hp.shape
  obtain ⟨lo, lc, rfl⟩ := hl.shape
  rw [List.length_map] at HWL ⊢
  have wA := shL_wid (n := n) (k := k) (p := p) hkn
  have wB := shL_wid (n := n) (k := k) (p := q.take p.length) (by rw [htq]; exact hkn)
  have lA := shL_length n p k
  have lB := shL_length n (q.take p.length) k
  have HLX := hide hlx
  obtain ⟨np, hnp⟩ : ∃ np, np = p.length := ⟨_, rfl⟩
  obtain ⟨nq, hnq⟩ : ∃ nq, nq = q.length := ⟨_, rfl⟩
  obtain ⟨nl, hnl⟩ : ∃ nl, nl = l.length := ⟨_, rfl⟩
  have HNL := hide hnl
  rw [← hnp] at HSA HSB h1 h2 ⊢
  rw [← hnq] at h2 h3 hqc ⊢
  rw [← hnl] at HWL h4 ⊢
  obtain ⟨A, hA⟩ : ∃ A, A = shL n p k := ⟨_, rfl⟩
  obtain ⟨B, hB⟩ : ∃ B, B = shL n (q.take p.length) k := ⟨_, rfl⟩
  rw [← hA] at wA lA HSA
  rw [← hB] at wB lB
  rw [← hnp, ] at hB
  rw [← hB] at HSB
  have shA : shl A (k : Int) = if n ≤ 4096 then (n, 0) else (0, 1) := by have := shl_even wA (by omega); rwa [lA] at this
  have shB : shl B (k : Int) = if n ≤ 4096 then (n, 0) else (0, 1) := by have := shl_even wB (by omega); rwa [lB] at this
  have c1 : ¬ ((9000 : Int) < (np : Int)) := by omega
  have c2 : ¬ ((nq : Int) < (np : Int)) := by omega
  have c3 : ¬ ((9000 : Int) < (nq : Int)) := by omega
  have c4 : ¬ ((30 : Int) < (nl : Int)) := by omega
  have c5 : ¬ (at' < 0) := by omega
  have c6 : (np : Int) ≤ (qc : Int) := by omega
  have c7 : (0 : Int) ≤ (np : Int) := by omega
  have HWA := hide wA
  have HWB := hide wB
  have HLAB := hide (And.intro lA lB)
  have HSHA := hide shA
  have HSHB := hide shB
  have HKN := hide hkn
  clear hp hq hl hlx hn hkn htq wA wB lA lB shA shB hA hB hnp hnq hnl
  go_enter Try.func12, Try.ntmps12
  go_wp2_with fail
  refine (unhide HB).mono ?_
  rintro e w1 ⟨⟨cp, dp, rfl, hcp, hdp, hC, hD⟩, f1⟩
  have HC1 := hide hC
  have HF1 := hide f1
  have HS1 := hide (unhide HSA w1 f1)
  clear f1 hC hD HB
  go_wp2_with fail
  refine (unhide HS1).mono ?_
  rintro e w2 ⟨⟨ao, ac, rfl, hLA⟩, f2⟩
  have HLA := hide hLA
  have HF12 := hide f2
  have HF2 := hide ((unhide HF1).trans f2 (fun _ _ h => h))
  have HS2 := hide (unhide HSB w2 (unhide HF2))
  clear f2 hLA HS1 HSA
  go_wp2_with fail
  refine (unhide HS2).mono ?_
  rintro e w3 ⟨⟨bo, bc, rfl, hLB⟩, f3⟩
  have HLB := hide hLB
  have HF3 := hide ((unhide HF2).trans f3 (fun _ _ h => h))
  have HC3 := hide ((unhide HC1).kept ((unhide HF12).trans f3 (fun _ _ h => h)) (fun _ _ h => h))
  have HLA3 := hide ((unhide HLA).kept f3)
  have hlk : A.length ≤ 100000 ∧ B.length ≤ 100000 := by have := unhide HLAB; omega
  have HE1 := hide (encode_any w3 cp k m _ A (unhide HC3) (unhide HLA3).rdl hlk.1)
  clear hLB f3 HS2 HSB HLA HC1
  go_wp2_with fail
  refine (unhide HE1).mono ?_
  rintro e w4 ⟨⟨xo, xn, xc, rfl, hX⟩, f4⟩
  have HX := hide hX
  have HF34 := hide f4
  have HLB4 := hide ((unhide HLB).kept f4)
  have HE2 := hide (encode_any w4 cp k m _ B ((unhide HC3).kept f4 (fun _ _ h => h)) (unhide HLB4).rdl hlk.2)
  clear hX f4 HE1
  go_wp2_with fail
  refine (unhide HE2).mono ?_
  rintro e w5 ⟨⟨yo, yn, yc, rfl, hY⟩, f5⟩
  have HF35 := hide ((unhide HF34).trans f5 (fun _ _ h => h))
  have HY := hide hY
  have HX5 := hide ((unhide HX).kept f5)
  have HLA5 := hide ((unhide HLA3).kept (unhide HF35))
  have HLB5 := hide ((unhide HLB4).kept f5)
  have HF5 := hide ((unhide HF3).trans (unhide HF35) (fun _ _ h => h))
  have HC5 := hide ((unhide HC3).kept (unhide HF35) (fun _ _ h => h))
  clear hY f5 HE2 HX HLB4 HLB
  obtain ⟨ab, ai, ax, axc, hao, ya, -⟩ := (unhide HLA5).rdl.get 0 (by have := unhide HLAB; omega)
  subst hao
  rw [unhide HWA _ (List.getElem_mem _), Nat.add_zero] at ya
  rw [unhide HSHA, unhide HSHB]
  by_cases hbig : n ≤ 4096
  · rw [if_pos hbig]
    obtain ⟨u, hu⟩ : ∃ u : Nat, at' = (u : Int) := ⟨at'.toNat, by omega⟩
    subst hu
    obtain ⟨a9, ha9⟩ : ∃ a9, a9 = u % k := ⟨_, rfl⟩
    have h9 : a9 < k := by rw [ha9]; exact Nat.mod_lt _ (by omega)
    have g1 : (u : Int).tmod (k : Int) = (a9 : Int) := by rw [ha9]; rfl
    have g2 : IntKind.i64.wrap (a9 : Int) = (a9 : Int) := by rw [IntKind.wrap_i64]; omega
    have g3 : (a9 : Int) < (k : Int) := by omega
    have g4 : ¬ ((k : Int) = 0) := by omega
    have hXe : encR k m A = encL k m A n := by unfold encR; rw [unhide HSHA, if_pos hbig]; rfl
    have hYe : encR k m B = encL k m B n := by unfold encR; rw [unhide HSHB, if_pos hbig]; rfl
    rw [hXe] at HX5
    rw [hYe] at HY
    have h9A : a9 < A.length := by have := unhide HLAB; omega
    have h9B : a9 < B.length := by have := unhide HLAB; omega
    obtain ⟨ab', ai', va, vac, ea', y1, rA⟩ := (unhide HLA5).rdl.get a9 h9A
    simp only [Option.some.injEq, Addr.mk.injEq] at ea'
    obtain ⟨rfl, rfl, -⟩ := ea'
    obtain ⟨bb, bi, vb, vbc, hbo, y2, rB⟩ := (unhide HLB5).rdl.get a9 h9B
    subst hbo
    rw [unhide HWA _ (List.getElem_mem h9A)] at y1 rA
    rw [unhide HWB _ (List.getElem_mem h9B)] at y2 rB
    have hab := World.block_lt_of_cell? w5 _ y1
    have hbb := World.block_lt_of_cell? w5 _ y2
    simp only at hab hbb
    have hAn := unhide HWA _ (List.getElem_mem h9A)
    have hBn := unhide HWB _ (List.getElem_mem h9B)
    have hxw : ∀ z ∈ encL k m A n, z.length = n := fun z hz => by
      unfold encL at hz
      obtain ⟨j, -, rfl⟩ := List.mem_map.1 hz
      exact mixL_length _ _ _ _
    have hupE : upE k m (encL k m A n) (a9 : Int) A[a9] B[a9] = 0 := by
      unfold upE
      rw [if_pos ⟨by omega, g3⟩]
      have hsh := shl_even (ls := A[a9] :: B[a9] :: encL k m A n) (n := n) (fun z hz => by
        rcases List.mem_cons.1 hz with rfl | hz
        · exact hAn
        · rcases List.mem_cons.1 hz with rfl | hz
          · exact hBn
          · exact hxw z hz) (by simp)
      rw [show (A[a9] :: B[a9] :: encL k m A n).length = 2 + m by simp [encL_length]; omega, if_pos hbig] at hsh
      rw [hsh]
    have hupR : upR k m (encL k m A n) (a9 : Int) A[a9] B[a9] = encL k m (A.set a9 B[a9]) n := by
      unfold upR
      rw [if_pos hupE, Int.toNat_natCast, encL_set (unhide HLAB).1 (unhide HWA) hBn h9, List.getElem?_eq_getElem h9A]
      rfl
    have HUp := hide (show ∀ W, Fr (fun _ => False) w5 W → Calls Try.prog 54 #[.pointer (some ⟨cp, 0, none⟩), .slice xo xn xc, .int .i64 (a9 : Int), .slice va n vac, .slice vb n vbc] W fun e w' => (∃ uo un uc, e = .returned (.tuple #[.slice uo un uc, .int .i64 0]) ∧ LN w5.heap.size w' (.slice uo un uc) (encL k m (A.set a9 B[a9]) n)) ∧ Fr (fun _ => False) w5 w' from fun W f => by
      refine (update_any W cp k m _ _ _ (encL k m A n) A[a9] B[a9] (a9 : Int) ((unhide HC5).kept f (fun _ _ h => h)) ((unhide HX5).kept f).rdl (rA.kept f (fun _ _ h => h)) (rB.kept f (fun _ _ h => h)) (by rw [encL_length]; omega)).mono ?_
      rw [hupE, hupR]
      rintro e w' ⟨⟨uo, un, uc, rfl, hU⟩, f'⟩
      exact ⟨⟨uo, un, uc, rfl, hU.mono f.size⟩, f.trans f' (fun _ _ h => h)⟩)
    have HS := hide (show ∀ W, Fr (fun _ => False) w5 W → W.cell? ⟨ab, ai + a9, none⟩ = some (.slice va n vac) ∧ W.cell? ⟨bb, bi + a9, none⟩ = some (.slice vb n vbc) from fun W f => ⟨(f.cell (a := ⟨ab, ai + a9, none⟩) hab id).trans y1, (f.cell (a := ⟨bb, bi + a9, none⟩) hbb id).trans y2⟩)
    have HRB := hide rB
    clear rA rB hupE hupR hXe hYe hAn hBn ha9
    go_wp2_with (go_at_call 48; refine (num3_any _ _).mono ?_; rintro e w' ⟨rfl, rfl⟩)
    go_region_held3 (fun W => W.cell? ⟨ab, ai + a9, none⟩ = some (.slice va n vac) ∧ W.cell? ⟨bb, bi + a9, none⟩ = some (.slice vb n vbc)) (go_keep) ((go_at_call 54; refine (unhide HUp _ (by first | exact Fr.ofDrewN _ 1 | exact Fr.ofDrewN _ _)).mono ?_; rintro e w6 ⟨⟨uo, un, uc, rfl, hU⟩, f6⟩; have s1 := (unhide HS w6 f6).1; have s2 := (unhide HS w6 f6).2))
    have HU := hide hU
    have HF56 := hide f6
    clear s1 s2 hU f6 HUp
    obtain ⟨vsA, rvA, lenA, rowsA, -⟩ := (unhide HLA5).kept (unhide HF56)
    have hvA : vsA.length = k := by rw [lenA]; exact (unhide HLAB).1
    have HSrA := hide (show Sr (w6.alloc (Obj.cells #[] 22)) 1 (.slice (some ⟨ab, ai, none⟩) k ac) k vsA from by
      have := (rvA.kept ((Fr.refl (fun _ => False) w6).alloc (Obj.cells #[] 22)) (fun _ _ h => h)).sr
      rwa [hvA] at this)
    have oA := rows_oneC lenA (fun i x l hx hl => (rowsA i x l hx hl).1)
    have HOA := hide oA
    have HRA := hide rowsA
    have HVA := hide hvA
    have HLNA := hide lenA
    obtain ⟨inf, hi0, hz0, hz1, hz2⟩ := info_parts Try.info22
    clear rvA lenA rowsA oA hvA
    go_wp2_with (at_builtin; refine wpList_app rfl (.tmp 133) (.tmp 134) 65 rfl 22 inf _ 1 24 Try.underlying65 hi0 hz0 hz1 hz2 rfl (by decide) (.slice (some ⟨w6.heap.size, 0, none⟩) 0 0) 0 [] rfl (.slice (some ⟨ab, ai, none⟩) k ac) rfl k vsA (owns_newC (heap_alloc_new w6 _)) (unhide HSrA) (unhide HOA) (by omega) (by simp only [maxLen]; omega) ?_)
    intro tt tc w7 o7 g7 p7
    try simp only [Nat.zero_add, List.nil_append] at o7 p7 ⊢
    have f7 := grown_fr (wr := w6) ((Fr.refl _ _).alloc _) g7 (fun k hk => by simp [Value.ownBlock] at hk; omega)
    obtain ⟨tb, rfl, hfz⟩ := owns_atC o7 (by omega)
    have rvT : RdV w7 (.slice (some ⟨tb, 0, none⟩) k tc) vsA := RdV.of_owns (e := 22) (base := 0) (by rw [unhide HVA]; exact o7)
    have tnew : w6.heap.size ≤ tb := by
      rcases p7 with e | ⟨k', e, hk'⟩
      · simp [Value.ownBlock] at e; omega
      · simp [Value.ownBlock] at e hk'; omega
    obtain ⟨tb', to', et, -, -, -, hct⟩ := rvT.lits (by rw [unhide HVA]; omega)
    simp only [Option.some.injEq, Addr.mk.injEq] at et
    obtain ⟨rfl, rfl, -⟩ := et
    have t1 := hct a9 (by rw [unhide HVA]; exact h9)
    rw [Nat.zero_add] at t1
    have t2 := (unhide HS w7 ((unhide HF56).trans f7 (fun _ _ h => h))).2
    have t3 := hfz a9
    obtain ⟨w8, hw8⟩ : ∃ w8, w8 = w7.setCell ⟨tb, a9, none⟩ (.slice vb n vbc) := ⟨_, rfl⟩
    have f8 : Fr (fun _ => False) w6 w8 := f7.trans (by rw [hw8]; exact (Fr.refl (fun k => k = tb) w7).setCell (p := ⟨tb, a9, none⟩) (fun _ => rfl) _) (fun k hk e => by omega)
    have F58 := (unhide HF56).trans f8 (fun _ _ h => h)
    have rvT8 : RdV w8 (.slice (some ⟨tb, 0, none⟩) k tc) (vsA.set a9 (.slice vb n vbc)) := by
      have := rvT.set a9 (.slice vb n vbc) (by rw [unhide HVA]; exact h9)
      rw [Nat.zero_add] at this
      rw [hw8]; exact this
    have hT8 : RdL w8 (.slice (some ⟨tb, 0, none⟩) k tc) (A.set a9 B[a9]) := by
      refine ⟨_, rvT8, by rw [List.length_set, List.length_set]; exact unhide HLNA, fun j x z hx hz => ?_⟩
      by_cases e : a9 = j
      · subst e
        rw [List.getElem?_set_self (by rw [unhide HVA]; exact h9), Option.some.injEq] at hx
        rw [List.getElem?_set_self h9A, Option.some.injEq] at hz
        subst hx hz
        exact (unhide HRB).kept F58 (fun _ _ h => h)
      · rw [List.getElem?_set_ne e] at hx hz
        exact (unhide HRA j x z hx hz).1.kept f8 (fun _ _ h => h)
    have hTw : ∀ z ∈ A.set a9 B[a9], z.length = n := fun z hz => by
      rcases List.mem_or_eq_of_mem_set hz with h | h
      · exact unhide HWA z h
      · rw [h]; exact unhide HWB _ (List.getElem_mem h9B)
    have hTl : (A.set a9 B[a9]).length = k := by rw [List.length_set]; exact (unhide HLAB).1
    have shT : shl (A.set a9 B[a9]) (k : Int) = (n, 0) := by have := shl_even hTw (by omega); rwa [hTl, if_pos hbig] at this
    have HE3 := hide (encode_any w8 cp k m _ (A.set a9 B[a9]) ((unhide HC5).kept F58 (fun _ _ h => h)) hT8 (by omega))
    have hRe : encR k m (A.set a9 B[a9]) = encL k m (A.set a9 B[a9]) n := by unfold encR; rw [shT]; rfl
    rw [hRe, shT] at HE3
    have HF58 := hide F58
    have HU8 := hide ((unhide HU).kept f8)
    clear o7 g7 p7 f7 rvT hct f8 F58 rvT8 hT8 hTw hTl shT hRe hfz
    go_wp2_with fail
    rw [← hw8]
    clear hw8 t1 t2 t3
    refine (unhide HE3).mono ?_
    rintro e w9 ⟨⟨vo9, vn9, vc9, rfl, hV⟩, f9⟩
    have HSM := hide (rsame_any w9 _ _ _ _ ((unhide HU8).kept f9).rdl hV.rdl (by rw [encL_length]; omega))
    rw [show decide (encL k m (A.set a9 B[a9]) n = encL k m (A.set a9 B[a9]) n) = true by simp] at HSM
    have HF59 := hide ((unhide HF58).trans f9 (fun _ _ h => h))
    clear hV f9 HE3 HU8 HU HF58 HSrA HOA
    go_wp2_with (first
      | (go_at_call 48; refine (num3_any _ _).mono ?_; rintro e w' ⟨rfl, rfl⟩)
      | (go_at_call 47; refine (unhide HSM).mono ?_; rintro e w10 ⟨rfl, f10⟩))
    have HF510 := hide ((unhide HF59).trans f10 (fun _ _ h => h))
    clear f10 HSM HF59
    obtain ⟨inf5, hi5, hy0, hy1, hy2⟩ := info_parts Try.info5
    have HLA10 := hide (fun (W : World) (f : Fr (fun _ => False) w10 W) => (unhide HLA5).kept ((unhide HF510).trans f (fun _ _ h => h)))
    have HLB10 := hide (fun (W : World) (f : Fr (fun _ => False) w10 W) => (unhide HLB5).kept ((unhide HF510).trans f (fun _ _ h => h)))
    clear y1 y2 ya HS
    go_loopw [27, 28, 29, 30] (fun xs xj _ _ w' => ∃ (j : Nat) (so : Option Addr) (sc : Nat), j ≤ k ∧ xj = .int .i64 (j : Int) ∧ xs = .slice so j sc ∧ AL w10.heap.size w' (.slice so j sc) ((smL A B).take j) ∧ Fr (fun _ => False) w10 w') (fun _ xj _ _ _ => k - (intOf xj).toNat)
    case atStart => exact ⟨0, none, 0, Nat.zero_le _, rfl, rfl, by simpa using AL.nil w10.heap.size w10, Fr.refl _ _⟩
    case round =>
      obtain ⟨j, so, sc, hj, rfl, rfl, hAL, hf⟩ := hrel
      obtain ⟨wo, hwo⟩ : ∃ wo, wo = wr := ⟨_, rfl⟩
      subst hwo
      by_cases hjk : j < k
      · have hjA : j < A.length := by have := unhide HLAB; omega
        have hjB : j < B.length := by have := unhide HLAB; omega
        have hji : (j : Int) < (k : Int) := by omega
        obtain ⟨x1, x2, xv, xvc, ex1, y1, rA⟩ := (unhide HLA10 wo hf).rdl.get j hjA
        simp only [Option.some.injEq, Addr.mk.injEq] at ex1
        obtain ⟨rfl, rfl, -⟩ := ex1
        have hAn := unhide HWA _ (List.getElem_mem hjA)
        have hBn := unhide HWB _ (List.getElem_mem hjB)
        rw [hAn] at y1 rA
        have hblt := World.block_lt_of_cell? wo _ y1
        simp only at hblt
        have y1' : (wo.alloc (Obj.cells #[] 5)).cell? ⟨ab, ai + j, none⟩ = some (.slice xv n xvc) := (((Fr.refl (fun _ => False) wo).alloc _).cell (a := ⟨ab, ai + j, none⟩) hblt id).trans y1
        have HSr := hide (show Sr (wo.alloc (Obj.cells #[] 5)) 1 (.slice xv n xvc) n (bvs A[j]) from by
          have := (rA.kept ((Fr.refl (fun _ => False) wo).alloc (Obj.cells #[] 5)) (fun _ _ h => h)).sr
          rwa [hAn] at this)
        have HALw := hide hAL
        have HF := hide hf
        clear rA hAL hf
        go_wp2_with (at_builtin; (refine wpList_app rfl (.tmp 168) (.tmp 172) 22 rfl 5 inf5 _ 1 1 Try.underlying22 hi5 hy0 hy1 hy2 rfl (by decide) (.slice (some ⟨wo.heap.size, 0, none⟩) 0 0) 0 [] rfl (.slice xv n xvc) rfl n (bvs A[j]) (owns_new (heap_alloc_new wo _)) (unhide HSr) (bvs_one _) (by omega) (by simp only [maxLen]; omega) ?_))
        intro ao1 ac1 w11 o1 g1 p1
        try simp only [Nat.zero_add, List.nil_append] at o1 p1 ⊢
        have f1 := grown_fr (wr := wo) ((Fr.refl _ _).alloc _) g1 (fun k hk => by simp [Value.ownBlock] at hk; omega)
        have n1 : ∀ k, (Value.slice ao1 n ac1).ownBlock = some k → wo.heap.size ≤ k := (by intro k hk; rcases p1 with e | ⟨k', e, hk'⟩; (· rw [e] at hk; simp [Value.ownBlock] at hk; omega); (· rw [e] at hk; simp at hk hk'; omega))
        have rS : Rd w11 (.slice ao1 n ac1) A[j] := Rd.of_owns (base := 0) (by rw [hAn]; exact o1)
        have tS : ∀ b, (Value.slice ao1 n ac1).ownBlock = some b → TyAt w11 b 5 := fun b hb => owns_ty o1 hb
        have HRS := hide rS
        have HTS := hide tS
        have HN1 := hide n1
        have HFr1 := hide f1
        clear o1 g1 p1 f1 n1 rS tS y1 y1' HSr
        go_wp2_with fail
        go_loopw [30] (fun y w' => ∃ t : Nat, t ≤ n ∧ y = .int .i64 (t : Int) ∧ Rd w' (.slice ao1 n ac1) (mxL A[j] B[j] t) ∧ (∀ b, (Value.slice ao1 n ac1).ownBlock = some b → TyAt w' b 5) ∧ Fr (fun _ => False) wo w') (fun y _ => n - (intOf y).toNat)
        case atStart => exact ⟨0, Nat.zero_le _, rfl, by rw [mxL_zero]; exact unhide HRS, unhide HTS, unhide HFr1⟩
        case round =>
          obtain ⟨t, ht, rfl, hR, hTy, hf⟩ := hrel
          by_cases htn : t < n
          · have hti : (t : Int) < (n : Int) := by omega
            obtain ⟨sb9, so9, rfl, -, -, -, hcs⟩ := hR.lits (by rw [mxL_length hAn]; omega)
            have z1 := hcs t (by rw [mxL_length hAn]; exact htn)
            rw [mxL_get, if_neg (by omega)] at z1
            obtain ⟨b1', b2', bv, bvc, eb1, y2, rB⟩ := (unhide HLB10 wr ((unhide HF).trans hf (fun _ _ h => h))).rdl.get j hjB
            simp only [Option.some.injEq, Addr.mk.injEq] at eb1
            obtain ⟨rfl, rfl, -⟩ := eb1
            rw [hBn] at y2 rB
            obtain ⟨bx, box, rfl, -, -, -, hcb⟩ := rB.lits (by omega)
            have z2 := hcb t (by omega)
            have hBt : (B[j])[t]'(by omega) = (B[j])[t]?.getD 0 := by rw [List.getElem?_eq_getElem (show t < (B[j]).length by omega)]; rfl
            rw [hBt] at z2
            obtain ⟨cs5, hcs5⟩ := hTy sb9 rfl
            have zf := frozen_of_heap hcs5
            obtain ⟨xa, hxa⟩ : ∃ xa, xa = (A[j])[t]?.getD 0 := ⟨_, rfl⟩
            obtain ⟨xb, hxb⟩ : ∃ xb, xb = (B[j])[t]?.getD 0 := ⟨_, rfl⟩
            rw [← hxa] at z1
            rw [← hxb] at z2
            have e10 := xorV xa xb
            have hst := mxL_step (x := A[j]) (y := B[j]) (t := t) (by omega)
            rw [← hxa, ← hxb] at hst
            have HST := hide hst
            have HR := hide hR
            have HTY := hide hTy
            have HFi := hide hf
            clear hcs hcb rB hBt hxa hxb hst hR hTy hf hcs5
            go_wp2_with fail
            refine wp_region_quietTail 15 (by kernel_rfl) (by kernel_rfl) ?_
            simp only [List.take_succ_cons, List.take_zero]
            repeat (go_big_quiet_step (fail))
            refine wpQuiet_nil ?_
            intro _ hw'
            obtain ⟨nq9, hw''⟩ := hw'
            subst hw''
            simp only [List.drop_succ_cons, List.drop_zero]
            go_wp2_with fail
            go_roundw
            case rel =>
              have fd : Fr (fun _ => False) wr (wr.drewN nq9) := Fr.ofDrewN _ _
              have hR2 := ((unhide HR).kept fd (fun _ _ h => h)).setN t (xa ^^^ xb) (by rw [mxL_length hAn]; exact htn)
              rw [unhide HST] at hR2
              exact ⟨t + 1, by omega, by go_num, hR2, fun b hb => ((unhide HTY b hb).kept fd).setCell _ _ _, ((unhide HFi).trans fd (fun _ _ h => h)).trans ((Fr.refl (fun k => k = sb9) _).setCell (p := ⟨sb9, so9 + t, none⟩) (fun _ => rfl) _) (fun k hk e => by have := unhide HN1 sb9 rfl; omega)⟩
            case measure => simp [intOf]; omega
          · obtain rfl : n = t := by omega
            rw [mxL_end hAn hBn] at hR
            obtain ⟨us, hO, hvl, hrows⟩ := (unhide HALw).ex
            have hvi : us.length = j := by rw [hvl, List.length_take, smL_length (unhide HLAB).1 (unhide HLAB).2]; omega
            have HO2 := hide (show wr.ownsRow 0 22 1 (.slice so j sc) j us by rw [hvi] at hO; exact owns_kept hO hf (fun _ _ h => h))
            have HVI := hide hvi
            have HVL := hide hvl
            have HRO := hide (fun (i : Nat) (x : Value) (z : List UInt8) (hx : us[i]? = some x) (hz : ((smL A B).take j)[i]? = some z) => And.intro ((hrows i x z hx hz).1.kept hf (fun _ _ h => h)) ((hrows i x z hx hz).2.kept hf))
            have HNW := hide (unhide HALw).new
            have HR := hide hR
            have HTY := hide hTy
            have hsz1 := hf.size
            have hsz2 := (unhide HF).size
            have HFi := hide ((unhide HF).trans hf (fun _ _ h => h))
            clear hO hvl hrows hvi hR hTy hf
            go_wp2_with (at_builtin; refine wpList_app rfl (.tmp 195) (.tmp 197) 65 rfl 22 inf _ 1 24 Try.underlying65 hi0 hz0 hz1 hz2 rfl (by decide) (.slice so j sc) j us rfl (.slice (some ⟨wr.heap.size, 0, none⟩) 1 1) rfl 1 [.slice ao1 n ac1] ((unhide HO2).alloc _) (one_cellV wr _ 22) (fun u hu => by simp at hu; subst hu; rfl) (by omega) (by simp only [maxLen]; omega) ?_)
            intro ao4 ac4 w12 o4 g4 p4
            have hAL2 := AL.app (N := w10.heap.size) (w := wr) (w' := w12) (ao := so) (n := j) (ac := sc) (ls := (smL A B).take j) us (by rw [unhide HVI]; exact unhide HO2) (unhide HVL) (unhide HRO) (unhide HNW) (.slice ao1 n ac1) _ (unhide HR) (fun b hb => ⟨by have := unhide HN1 b hb; omega, unhide HTY b hb⟩) (by omega) o4 g4 (p4.imp_right (fun ⟨k, e, h⟩ => ⟨k, e, by simp; omega⟩))
            rw [← smL_take hjA hjB] at hAL2
            have HAL2 := hide hAL2.1
            have HF12 := hide ((unhide HFi).trans hAL2.2 (fun k hk e => by have := unhide HNW k e; omega))
            clear hAL2 o4 g4 p4
            go_wp2_with fail
            go_roundw
            case rel => exact ⟨j + 1, ao4, ac4, by omega, by go_num, rfl, unhide HAL2, unhide HF12⟩
            case measure => simp [intOf]; omega
      · obtain rfl : k = j := by omega
        have hSl := smL_length (unhide HLAB).1 (unhide HLAB).2
        have hSw := smL_wid (unhide HWA) (unhide HWB)
        rw [List.take_of_length_le (by omega)] at hAL
        have shS : shl (smL A B) (k : Int) = (n, 0) := by have := shl_even hSw (by omega); rwa [hSl, if_pos hbig] at this
        have HE4 := hide (encode_any wo cp k m _ (smL A B) ((unhide HC5).kept ((unhide HF510).trans hf (fun _ _ h => h)) (fun _ _ h => h)) hAL.ln.rdl (by omega))
        have hRe : encR k m (smL A B) = smL (encL k m A n) (encL k m B n) := by unfold encR; rw [shS, if_pos rfl]; exact encL_sum (unhide HLAB).1 (unhide HLAB).2 (unhide HWA) (unhide HWB)
        rw [hRe, shS] at HE4
        have HFo := hide ((unhide HF510).trans hf (fun _ _ h => h))
        clear hSl hSw hAL hf shS hRe hjk
        go_wp2_with fail
        refine (unhide HE4).mono ?_
        rintro e w13 ⟨⟨zo, zn, zc, rfl, hZ⟩, f13⟩
        have hzn : zn = m := by
          obtain ⟨_, _, e⟩ := hZ.rdl.shape
          simp only [Value.slice.injEq] at e
          rw [e.2.1, smL_length (encL_length k m A n) (encL_length k m B n)]
        have hxn : xn = m := by
          obtain ⟨_, _, e⟩ := (unhide HX5).rdl.shape
          simp only [Value.slice.injEq] at e
          rw [e.2.1, encL_length]
        have hyn : yn = m := by
          obtain ⟨_, _, e⟩ := (unhide HY).rdl.shape
          simp only [Value.slice.injEq] at e
          rw [e.2.1, encL_length]
        subst xn yn zn
        have F13 := (unhide HFo).trans f13 (fun _ _ h => h)
        have HZ13 := hide (fun (W : World) (f : Fr (fun _ => False) w13 W) => (hZ.kept f).rdl)
        have HX13 := hide (fun (W : World) (f : Fr (fun _ => False) w13 W) => (unhide HX5).kept (F13.trans f (fun _ _ h => h)))
        have HY13 := hide (fun (W : World) (f : Fr (fun _ => False) w13 W) => ((unhide HY).kept (F13.trans f (fun _ _ h => h))).rdl)
        have hEw : ∀ (C : List (List UInt8)), ∀ z ∈ encL k m C n, z.length = n := fun C z hz => by
          unfold encL at hz
          obtain ⟨j, -, rfl⟩ := List.mem_map.1 hz
          exact mixL_length _ _ _ _
        have HEW := hide hEw
        have HF13 := hide F13
        clear hZ f13 F13 HE4 hEw HFo
        go_wp2_with (go_at_call 48; refine (num3_any _ _).mono ?_; rintro e w' ⟨rfl, rfl⟩)
        go_loopw [33, 34] (fun x _ w' => ∃ r : Nat, r ≤ m ∧ x = .int .i64 (r : Int) ∧ Fr (fun _ => False) w13 w') (fun x _ _ => m - (intOf x).toNat)
        case atStart => exact ⟨0, Nat.zero_le _, rfl, Fr.refl _ _⟩
        case round =>
          obtain ⟨r, hr, rfl, hf⟩ := hrel
          obtain ⟨wE, hwE⟩ : ∃ wE, wE = wr := ⟨_, rfl⟩
          subst hwE
          have HFE := hide hf
          by_cases hrm : r < m
          · have hri : (r : Int) < (m : Int) := by omega
            clear hf
            go_wp2_with fail
            go_loopw [34] (fun y w' => ∃ t : Nat, t ≤ n ∧ y = .int .i64 (t : Int) ∧ Fr (fun _ => False) w13 w') (fun y _ => n - (intOf y).toNat)
            case atStart => exact ⟨0, Nat.zero_le _, rfl, unhide HFE⟩
            case round =>
              obtain ⟨t, ht, rfl, hf2⟩ := hrel
              have hrX : r < (encL k m A n).length := by rw [encL_length]; exact hrm
              have hrY : r < (encL k m B n).length := by rw [encL_length]; exact hrm
              have hrZ : r < (smL (encL k m A n) (encL k m B n)).length := by rw [smL_length (encL_length k m A n) (encL_length k m B n)]; exact hrm
              have nX := unhide HEW A _ (List.getElem_mem hrX)
              have nY := unhide HEW B _ (List.getElem_mem hrY)
              have nZ := smL_wid (unhide HEW A) (unhide HEW B) _ (List.getElem_mem hrZ)
              obtain ⟨zb, zi, zv, zvc, rfl, y3, rZ⟩ := (unhide HZ13 wr hf2).get r hrZ
              rw [nZ] at y3 rZ
              have HF2 := hide hf2
              by_cases htn : t < n
              · have hti : (t : Int) < (n : Int) := by omega
                obtain ⟨xb1, xi1, xv1, xvc1, rfl, y4, rX⟩ := (unhide HX13 wr hf2).rdl.get r hrX
                obtain ⟨yb1, yi1, yv1, yvc1, rfl, y5, rY⟩ := (unhide HY13 wr hf2).get r hrY
                rw [nX] at y4 rX
                rw [nY] at y5 rY
                obtain ⟨c1b, c1o, rfl, -, -, -, q1⟩ := rZ.lits (by omega)
                obtain ⟨c2b, c2o, rfl, -, -, -, q2⟩ := rX.lits (by omega)
                obtain ⟨c3b, c3o, rfl, -, -, -, q3⟩ := rY.lits (by omega)
                have k1 := q1 t (by omega)
                have k2 := q2 t (by omega)
                have k3 := q3 t (by omega)
                have hzt : ((smL (encL k m A n) (encL k m B n))[r])[t]'(by omega) = ((encL k m A n)[r])[t]'(by omega) ^^^ ((encL k m B n)[r])[t]'(by omega) := by simp [smL, sm]
                rw [hzt] at k1
                generalize ((encL k m A n)[r])[t]'(by omega) = xx at *
                generalize ((encL k m B n)[r])[t]'(by omega) = yy at *
                have e10 := xorV xx yy
                clear hzt q1 q2 q3 rZ rX rY nX nY nZ hf2
                go_wp2_with fail
                go_quiet (fail)
                go_wp2_with fail
                go_roundw
                case rel => exact ⟨t + 1, by omega, by go_num, (unhide HF2).trans (Fr.ofDrewN _ _) (fun _ _ h => h)⟩
                case measure => simp [intOf]; omega
              · have hti : ¬ ((t : Int) < (n : Int)) := by omega
                clear rZ nX nY nZ hf2
                go_wp2_with fail
                go_roundw
                case rel => exact ⟨r + 1, by omega, by go_num, unhide HF2⟩
                case measure => simp [intOf]; omega
          · obtain rfl : m = r := by omega
            have F5E := (unhide HF13).trans hf (fun _ _ h => h)
            have HLA9 := hide (lent_al wE _ A ((unhide HLA5).kept F5E).rdl (by have := unhide HLAB; omega) (fun x hx => by rw [unhide HWA x hx]; omega))
            rw [(unhide HLAB).1] at HLA9
            obtain ⟨vsX, rvX, lenX, rowsX, -⟩ := unhide HX13 wE hf
            have lX : vsX.length = m := by rw [lenX, encL_length]
            have oX := rows_oneC lenX (fun i x z hx hz => (rowsX i x z hx hz).1)
            have HsX := hide (show ∀ W, Fr (fun _ => False) wE W → Sr W 1 (.slice xo m xc) m vsX from fun W f => by have := (rvX.kept f (fun _ _ h => h)).sr; rwa [lX] at this)
            have HoX := hide oX
            have HrX := hide rowsX
            have HlX := hide lX
            have HF5E := hide F5E
            clear rvX lenX rowsX lX oX F5E hf
            go_wp2_with (first
              | (go_at_call 44; refine (unhide HLA9).mono ?_; rintro e w14 ⟨⟨ho, hc, rfl, hA⟩, f14⟩; obtain ⟨vs8, hO8, hl8, hr8⟩ := hA.ex; have hl8' : vs8.length = k := hl8.trans (unhide HLAB).1; have HO8 := hide hO8; rw [hl8'] at HO8; have HL8 := hide hl8'; have HR8 := hide hr8; have HN8 := hide hA.new; have HF14 := hide f14; clear hA hO8 hl8 hl8' hr8 f14)
              | (at_builtin; refine wpList_app rfl (.tmp 267) (.tmp 268) 65 rfl 22 inf _ 1 24 Try.underlying65 hi0 hz0 hz1 hz2 rfl (by decide) (.slice ho k hc) k vs8 rfl (.slice xo m xc) rfl m vsX (unhide HO8) (unhide HsX _ (unhide HF14)) (unhide HoX) (by omega) (by simp only [maxLen]; omega) ?_))
            intro ao9 ac9 w15 o9 g9 p9
            have f9 : Fr (fun _ => False) wE w15 := grown_fr (unhide HF14) g9 (unhide HN8)
            have hall : RdL w15 (.slice ao9 (k + m) ac9) (allL k m A n) := by
              unfold allL
              refine ⟨vs8 ++ vsX, RdV.of_owns (e := 22) (base := 0) (by rw [List.length_append, unhide HL8, unhide HlX]; exact o9), by rw [List.length_append, List.length_append, unhide HL8, unhide HlX, (unhide HLAB).1, encL_length], fun i x z hx hz => ?_⟩
              by_cases e : i < k
              · rw [List.getElem?_append_left (by rw [unhide HL8]; exact e)] at hx
                rw [List.getElem?_append_left (by rw [(unhide HLAB).1]; exact e)] at hz
                have f89 : Fr (fun b => (Value.slice ho k hc).ownBlock = some b) w14 w15 := Fr.grown (S := fun b => (Value.slice ho k hc).ownBlock = some b) (Fr.refl _ _) g9 (fun k hk e => e)
                have r := unhide HR8 i x z hx hz
                exact r.1.kept f89 (fun b hb' e' => TyAt.ne (r.2 b hb').2 (owns_ty (unhide HO8) e') (by decide) rfl)
              · rw [List.getElem?_append_right (by rw [unhide HL8]; omega), unhide HL8] at hx
                rw [List.getElem?_append_right (by rw [(unhide HLAB).1]; omega), (unhide HLAB).1] at hz
                exact (unhide HrX _ x z hx hz).1.kept f9 (fun _ _ h => h)
            have F515 := (unhide HF5E).trans f9 (fun _ _ h => h)
            have HWr := hide (wrong_any w15 cp k m n _ _ A l ((unhide HC5).kept F515 (fun _ _ h => h)) hall (unhide HLAB).1 (unhide HWA) hbig (unhide HWL w15 ((unhide HF5).trans F515 (fun _ _ h => h))) (by rw [← unhide HNL]; exact h4) (unhide HLX))
            have HF15 := hide ((unhide HF5).trans F515 (fun _ _ h => h))
            clear hall o9 g9 p9 f9 F515
            go_wp2_with (first
              | (go_at_call 61; refine (unhide HWr).mono ?_; rintro e w16 ⟨rfl, f16⟩)
              | (go_at_call 38; refine (live3_any _).mono ?_; rintro e w17 ⟨rfl, f17⟩))
            go_ret
            exact ⟨rfl, (unhide HF15).trans (f16.trans f17 (fun _ _ h => h)) (fun _ _ h => h)⟩
  · rw [if_neg hbig]
    have d1 : (4096 : Int) < (n : Int) := by omega
    go_wp2_with (first
      | (go_at_call 48; refine (num3_any _ _).mono ?_; rintro e w' ⟨rfl, rfl⟩)
      | (go_at_call 38; refine (live3_any _).mono ?_; rintro e w9 ⟨rfl, f9⟩))
    go_ret
    exact ⟨rfl, (unhide HF5).trans f9 (fun _ _ h => h)⟩
end Go.Proofs.Ytckmddkhkdcmmaa
