/-
  What the law RsChanges asks, plainly; the walk of its wrong.
-/
import Derived.Test.YtckmddkhkdcmmaaAnyMath
import Derived.Test.YtckmddkhkdcmmaaRs21
import Derived.Test.YtckmddkhkdcmmaaRs13
import Derived.Test.YtckmddkhkdcmmaaAnyWalk
import Derived.Test.YtckmddkhkdcmmaaLent2
import Derived.Test.YtckmddkhkdcmmaaQl
import Derived.Test.YtckmddkhkdcmmaaRs20
namespace Go.Proofs.Ytckmddkhkdcmmaa
open Go.RowKit
set_option linter.unusedVariables false
set_option linter.unusedSimpArgs false

/-- Shard by shard. -/
def smL (a b : List (List UInt8)) : List (List UInt8) := List.zipWith sm a b
theorem smL_length {a b : List (List UInt8)} {k : Nat} (ha : a.length = k) (hb : b.length = k) : (smL a b).length = k := by simp [smL, ha, hb]
theorem smL_wid {a b : List (List UInt8)} {n : Nat} (wa : ∀ l ∈ a, l.length = n) (wb : ∀ l ∈ b, l.length = n) : ∀ l ∈ smL a b, l.length = n := by
  intro l hl
  obtain ⟨i, hi, rfl⟩ := List.getElem_of_mem hl
  have hi' : i < a.length ∧ i < b.length := by simp [smL] at hi; omega
  simp only [smL, List.getElem_zipWith, sm, List.length_zipWith]
  rw [wa _ (List.getElem_mem hi'.1), wb _ (List.getElem_mem hi'.2)]
  omega

theorem cel_sum {a b : List (List UInt8)} {k n j t : Nat} (ha : a.length = k) (hb : b.length = k) (wa : ∀ l ∈ a, l.length = n) (wb : ∀ l ∈ b, l.length = n) (hj : j < k) (ht : t < n) : cel (smL a b) j t = cel a j t ^^^ cel b j t := by
  have h1 := wa _ (List.getElem_mem (show j < a.length by omega))
  have h2 := wb _ (List.getElem_mem (show j < b.length by omega))
  rw [cel_of (by rw [smL_length ha hb]; exact hj), cel_of (show j < a.length by omega), cel_of (show j < b.length by omega)]
  simp only [smL, List.getElem_zipWith, sm]
  rw [List.getElem?_eq_getElem (by rw [List.length_zipWith]; omega), List.getElem?_eq_getElem (show t < a[j].length by omega), List.getElem?_eq_getElem (show t < b[j].length by omega)]
  simp

theorem mixL_sum {r : Nat → UInt8} {a b : List (List UInt8)} {k n : Nat} (ha : a.length = k) (hb : b.length = k) (wa : ∀ l ∈ a, l.length = n) (wb : ∀ l ∈ b, l.length = n) : mixL r (smL a b) k n = sm (mixL r a k n) (mixL r b k n) := by
  apply List.ext_getElem
  · simp [sm, mixL_length]
  · intro t h1 h2
    rw [mixL_length] at h1
    simp only [sm, List.getElem_zipWith]
    rw [mixL_get, mixL_get, mixL_get, ← sg_add]
    exact sg_congr (fun j hj => by rw [cel_sum ha hb wa wb hj h1, mul_xor2])

theorem encL_sum {a b : List (List UInt8)} {k m n : Nat} (ha : a.length = k) (hb : b.length = k) (wa : ∀ l ∈ a, l.length = n) (wb : ∀ l ∈ b, l.length = n) : encL k m (smL a b) n = smL (encL k m a n) (encL k m b n) := by
  apply List.ext_getElem
  · simp [smL, encL]
  · intro p h1 h2
    simp only [smL, List.getElem_zipWith, encL, List.getElem_map, List.getElem_range]
    exact mixL_sum ha hb wa wb

theorem encL_set {a : List (List UInt8)} {y : List UInt8} {k m n i : Nat} (ha : a.length = k) (wa : ∀ l ∈ a, l.length = n) (hy : y.length = n) (hi : i < k) : encL k m (a.set i y) n = updL k m (encL k m a n) i (sm (a[i]?.getD []) y) := by
  have hia : i < a.length := by omega
  have hl := wa _ (List.getElem_mem hia)
  apply List.ext_getElem
  · simp [updL, encL]
  · intro p h1 h2
    rw [encL_length] at h1
    simp only [updL, encL, List.getElem_map, List.getElem_range]
    have hg : ((List.range m).map (fun p => mixL (co k (k + p)) a k n)).getD p [] = mixL (co k (k + p)) a k n := by
      simp [List.getD, h1]
    rw [hg, List.getElem?_eq_getElem hia, Option.getD_some]
    apply List.ext_getElem
    · simp [addt, sm, mixL_length, hl, hy]
    · intro t h3 h4
      rw [mixL_length] at h3
      simp only [addt, sm, List.getElem_zipWith]
      rw [mixL_get, mixL_get]
      have e : ∀ j, j < k → mul (co k (k + p) j) (cel (a.set i y) j t) = mul (co k (k + p) j) (cel a j t) ^^^ (if j = i then mul (co k (k + p) i) (a[i][t] ^^^ y[t]) else 0) := by
        intro j hj
        rw [cel_set hia]
        by_cases hji : j = i
        · subst hji
          rw [if_pos rfl, if_pos rfl, ← mul_xor2, cel_of hia, List.getElem?_eq_getElem (show t < a[j].length by omega), List.getElem?_eq_getElem (show t < y.length by omega)]
          simp only [Option.getD_some]
          rw [← UInt8.xor_assoc, UInt8.xor_self, UInt8.zero_xor]
        · rw [if_neg hji, if_neg hji, UInt8.xor_zero]
      rw [sg_congr e, sg_add]
      congr 1
      rw [sg_one hi (fun j _ hne => if_neg hne), if_pos rfl]

/-- A word of the code that has k shards in common with another is that one. -/
theorem code_same {k m n : Nat} {D G : List (List UInt8)} {bs : List Bool} (hkm : k + m ≤ 256) (h : HeldG k m n D G bs) (hw : ∀ l ∈ G, l.length = n) (hc : G.drop k = encL k m (G.take k) n) : G = allL k m D n := by
  have hT : (G.take k).length = k := by rw [List.length_take, h.hG]; omega
  have hG' : G = allL k m (G.take k) n := by
    unfold allL
    rw [← hc, List.take_append_drop]
  have h' : HeldG k m n (G.take k) G bs := ⟨hT, fun l hl => hw l (List.mem_of_mem_take hl), h.hG, h.hb, fun i _ => by rw [← hG'], h.few⟩
  have e1 := h.sol hkm
  have e2 := h'.sol hkm
  rw [hG', ← e2, e1]

/-- The shards, those that were turned, how many. -/
structure WB (k m n : Nat) (D G : List (List UInt8)) (bs : List Bool) (cnt : Nat) : Prop where
  gb : GB k m n D G (bs.map not) cnt
  dif : ∀ (i : Nat), bs[i]?.getD false = true → G[i]? ≠ (allL k m D n)[i]?
  wid : ∀ l ∈ G, l.length = n

theorem WB.start {k m n : Nat} {D : List (List UInt8)} (hD : D.length = k) (hn : ∀ l ∈ D, l.length = n) : WB k m n D (allL k m D n) (List.replicate (k + m) false) 0 := by
  have e : (List.replicate (k + m) false).map not = List.replicate (k + m) true := by simp
  refine ⟨⟨allL_length hD, by simp, fun _ _ => rfl, by rw [e, wl_all]; rfl, Nat.zero_le _⟩, fun i hi => ?_, allL_wid hD hn⟩
  rw [List.getElem?_replicate] at hi
  split at hi <;> simp at hi

theorem WB.turn {k m n cnt : Nat} {D G : List (List UInt8)} {bs : List Bool} (h : WB k m n D G bs cnt) {i t : Nat} {c : UInt8} (hi : i < k + m) (hb : bs[i]? = some false) (hg : cnt < m) (ht : t < n) (hc : c ≠ 0) : WB k m n D (G.set i ((G[i]?.getD []).set t (cel G i t ^^^ c))) (bs.set i true) (cnt + 1) := by
  have hlt : i < bs.length := (List.getElem?_eq_some_iff.1 hb).1
  have hiG : i < G.length := by rw [h.gb.hG]; exact hi
  have hw := h.wid _ (List.getElem_mem hiG)
  have hbn : (bs.map not)[i]? = some true := by rw [List.getElem?_map, hb]; rfl
  have hs : (bs.set i true).map not = (bs.map not).set i false := by rw [List.map_set]; rfl
  refine ⟨by rw [hs]; exact h.gb.lose hi hbn hg _, fun j hj => ?_, fun l hl => ?_⟩
  · by_cases e : i = j
    · subst e
      have hsame := h.gb.at' i (by rw [hbn]; rfl)
      rw [← hsame, List.getElem?_set_self hiG, List.getElem?_eq_getElem hiG]
      intro e2
      simp only [Option.getD_some, Option.some.injEq] at e2
      have e3 := congrArg (fun l => l[t]?) e2
      rw [List.getElem?_set_self (by omega), List.getElem?_eq_getElem (show t < G[i].length by omega)] at e3
      simp only [Option.some.injEq] at e3
      rw [cel_of hiG, List.getElem?_eq_getElem (show t < G[i].length by omega), Option.getD_some] at e3
      apply hc
      have e4 := congrArg (fun z => G[i][t] ^^^ z) e3
      simp only at e4
      rw [← UInt8.xor_assoc, UInt8.xor_self, UInt8.zero_xor] at e4
      exact e4
    · rw [List.getElem?_set_ne e] at hj ⊢
      exact h.dif j hj
  · rcases List.mem_or_eq_of_mem_set hl with h1 | h1
    · exact h.wid l h1
    · rw [h1, List.length_set, List.getElem?_eq_getElem hiG, Option.getD_some]
      exact hw

theorem WB.check {k m n cnt : Nat} {D G : List (List UInt8)} {bs : List Bool} (h : WB k m n D G bs cnt) (hkm : k + m ≤ 256) (hD : D.length = k) (hn : ∀ l ∈ D, l.length = n) : chB k m G n = decide (cnt = 0) := by
  unfold chB
  have hbl : bs.length = k + m := by have := h.gb.hb; simpa using this
  by_cases h0 : cnt = 0
  · have hall : ∀ i, i < k + m → bs[i]?.getD false = false := by
      intro i hi
      rcases hbv : bs[i]?.getD false with _ | _
      · rfl
      · exfalso
        have hlt : i < bs.length := by omega
        have hbi : bs[i] = true := by rw [List.getElem?_eq_getElem hlt] at hbv; exact hbv
        have h1 := h.gb.cnt
        rw [h0] at h1
        have hnot : (bs.map not)[i]'(by simpa using hlt) = false := by simp [hbi]
        have hs := wl_set (bs := (bs.map not).set i true) (i := i) (by simpa using hlt) (by simp)
        rw [List.set_set] at hs
        have e : (bs.map not).set i false = bs.map not := by
          apply List.ext_getElem
          · simp
          · intro j a1 a2
            by_cases e : i = j
            · subst e; simp [hbi]
            · rw [List.getElem_set_ne e]
        rw [e] at hs
        have hle := wlK_le ((bs.map not).set i true) ((bs.map not).set i true).length
        unfold wl at hs h1
        simp at hle hs h1
        omega
    have hG : G = allL k m D n := by
      apply List.ext_getElem?
      intro i
      by_cases hi : i < k + m
      · exact h.gb.at' i (by rw [List.getElem?_map]; rw [List.getElem?_eq_getElem (show i < bs.length by omega)]; have := hall i hi; rw [List.getElem?_eq_getElem (show i < bs.length by omega)] at this; simp at this; simp [this])
      · rw [List.getElem?_eq_none (by rw [h.gb.hG]; omega), List.getElem?_eq_none (by rw [allL_length hD]; omega)]
    rw [decide_eq_true h0, hG]
    unfold allL
    rw [List.drop_append, List.take_append]
    rw [List.drop_of_length_le (show D.length ≤ k by omega), List.take_of_length_le (show D.length ≤ k by omega)]
    simp [hD]
  · rw [decide_eq_false h0, decide_eq_false]
    intro hc
    have hG := code_same hkm (h.gb.held hD hn) h.wid hc
    have hex : ∃ i : Nat, bs[i]?.getD false = true := by
      apply Classical.byContradiction
      intro hne
      have hall : bs.map not = List.replicate (k + m) true := by
        apply List.ext_getElem
        · simp [hbl]
        · intro i a1 a2
          have hlt : i < bs.length := by simpa using a1
          rcases hbv : bs[i] with _ | _
          · simp [hbv]
          · exact absurd ⟨i, by rw [List.getElem?_eq_getElem hlt]; exact hbv⟩ hne
      have := h.gb.cnt
      rw [hall, wl_all] at this
      omega
    obtain ⟨i, hi⟩ := hex
    exact h.dif i hi (by rw [← hG])

attribute [local go_sem ↓] Go.wp_at_zero Go.wp_at_succ

theorem Rd.setN {w : World} {b o n cap : Nat} {l : List UInt8} (h : Rd w (.slice (some ⟨b, o, none⟩) n cap) l) (t : Nat) (c : UInt8) (ht : t < l.length) : Rd (w.setCell ⟨b, o + t, none⟩ (.int .u8 ((c.toNat : Nat) : Int))) (.slice (some ⟨b, o, none⟩) n cap) (l.set t c) := by
  obtain ⟨b', o', e, hn, h1, h2, h3⟩ := h.lits (by omega)
  simp only [Option.some.injEq, Addr.mk.injEq] at e
  obtain ⟨rfl, rfl, -⟩ := e
  refine .inr ⟨⟨b, o, none⟩, cap, by rw [List.length_set, hn], by rw [List.length_set]; omega, h2, fun j hj => ?_⟩
  rw [List.length_set] at hj
  rw [Addr.add_lit]
  by_cases e : t = j
  · subst e
    rw [World.cell?_setCell_same' w ⟨b, o + t, none⟩ _ (by rw [h3 t ht]; rfl)]
    simp
  · have hne : (⟨b, o + t, none⟩ : Addr) ≠ ⟨b, o + j, none⟩ := by
      intro h
      simp only [Addr.mk.injEq] at h
      omega
    rw [World.cell?_setCell_other (h := hne), h3 j hj, List.getElem_set_ne e]

/-- A list of bytes that may be turned: no two of its lists in one block. -/
structure BD (N : Nat) (w : World) (v : Value) (vs : List Value) (ls : List (List UInt8)) : Prop where
  rd : RdV w v vs
  len : vs.length = ls.length
  row : ∀ (i : Nat) (x : Value) (l : List UInt8), vs[i]? = some x → ls[i]? = some l → Rd w x l ∧ Wb N w x
  apa : Apa vs
  ty : ∀ b, v.ownBlock = some b → TyAt w b 22

theorem BD.kept {N : Nat} {w w' : World} {v : Value} {vs : List Value} {ls : List (List UInt8)} (h : BD N w v vs ls) (f : Fr (fun _ => False) w w') : BD N w' v vs ls :=
  ⟨h.rd.kept f (fun _ _ h => h), h.len, fun i x l hx hl => ⟨(h.row i x l hx hl).1.kept f (fun _ _ h => h), (h.row i x l hx hl).2.kept f⟩, h.apa, fun b hb => (h.ty b hb).kept f⟩
theorem BD.rdl {N : Nat} {w : World} {v : Value} {vs : List Value} {ls : List (List UInt8)} (h : BD N w v vs ls) : RdL w v ls := ⟨vs, h.rd, h.len, fun i x l hx hl => (h.row i x l hx hl).1⟩
theorem AD.bd {N : Nat} {w : World} {v : Value} {ls : List (List UInt8)} (h : AD N w v ls) : ∃ vs, BD N w v vs ls := by
  obtain ⟨vs, h1, h2, h3, h4⟩ := h.ex
  exact ⟨vs, RdV.of_owns h1, h2, h3, h4, fun b hb => owns_ty h1 hb⟩

/-- What is typed otherwise is not touched. -/
theorem BD.keptT {N T : Nat} {w w' : World} {v : Value} {vs : List Value} {ls : List (List UInt8)} {g : Nat} (h : BD N w v vs ls) (f : Fr (fun k => k = g) w w') (hg : TyAt w g T) (h5 : T ≠ 5) (h22 : T ≠ 22) (hT : ∀ b t, TyAt w b t → TyAt w' b t) : BD N w' v vs ls :=
  ⟨h.rd.kept f (fun b hb e => TyAt.ne (h.ty b hb) hg (Ne.symm h22) e), h.len, fun i x l hx hl => ⟨(h.row i x l hx hl).1.kept f (fun b hb e => TyAt.ne ((h.row i x l hx hl).2 b hb).2 hg (Ne.symm h5) e), fun b hb => ⟨((h.row i x l hx hl).2 b hb).1, hT _ _ ((h.row i x l hx hl).2 b hb).2⟩⟩, h.apa, fun b hb => hT _ _ (h.ty b hb)⟩

theorem BD.turn {N : Nat} {w : World} {v : Value} {vs : List Value} {ls : List (List UInt8)} (h : BD N w v vs ls) {i t b o n cap : Nat} {l : List UInt8} (hi : vs[i]? = some (.slice (some ⟨b, o, none⟩) n cap)) (hl : ls[i]? = some l) (ht : t < l.length) (c : UInt8) : BD N (w.setCell ⟨b, o + t, none⟩ (.int .u8 ((c.toNat : Nat) : Int))) v vs (ls.set i (l.set t c)) := by
  have f : Fr (fun k => k = b) w (w.setCell ⟨b, o + t, none⟩ (.int .u8 ((c.toNat : Nat) : Int))) := (Fr.refl (fun k => k = b) w).setCell (p := ⟨b, o + t, none⟩) (fun _ => rfl) _
  have hr := h.row i _ l hi hl
  have hb5 : TyAt w b 5 := (hr.2 b rfl).2
  refine ⟨h.rd.kept f (fun k hk e => TyAt.ne (h.ty k hk) hb5 (by decide) e), by rw [List.length_set]; exact h.len, fun j x l' hx hl' => ?_, h.apa, fun k hk => (h.ty k hk).setCell _ _ _⟩
  by_cases e : i = j
  · subst e
    rw [hi, Option.some.injEq] at hx
    rw [List.getElem?_set_self (List.getElem?_eq_some_iff.1 hl).1, Option.some.injEq] at hl'
    subst hx hl'
    exact ⟨hr.1.setN t c ht, fun k hk => ⟨(hr.2 k hk).1, (hr.2 k hk).2.setCell _ _ _⟩⟩
  · rw [List.getElem?_set_ne e] at hl'
    have hr' := h.row j x l' hx hl'
    refine ⟨hr'.1.kept f (fun k hk e2 => ?_), fun k hk => ⟨(hr'.2 k hk).1, (hr'.2 k hk).2.setCell _ _ _⟩⟩
    subst e2
    rcases Nat.lt_or_gt_of_ne e with h1 | h1
    · exact h.apa i j _ x k h1 hi hx rfl hk
    · exact h.apa j i x _ k h1 hx hi hk rfl

theorem shl_ok0 {G : List (List UInt8)} {n a : Nat} (hG : G.length = a) (ha : 0 < a) (hw : ∀ l ∈ G, l.length = n) (hn : n ≤ 4096) : shl G ((a : Nat) : Int) = (n, 0) := by
  have := shl_even hw (by omega)
  rw [hG, if_pos hn] at this
  exact this

set_option maxHeartbeats 8000000 in
set_option maxRecDepth 100000 in
theorem wrong_any (w : World) (p k m n : Nat) (v wv : Value) (D : List (List UInt8)) (l : List Int) (hC : CAt w p k m) (h : RdL w v (allL k m D n)) (hD : D.length = k) (hw : ∀ x ∈ D, x.length = n) (hn : n ≤ 4096) (hv : RdV w wv (l.map (Value.int .i64))) (hl : l.length ≤ 30) (hb : ∀ x ∈ l, -9223372036854775808 ≤ x ∧ x ≤ 9223372036854775807) :
    Calls Try.prog 61 #[.pointer (some ⟨p, 0, none⟩), .int .i64 (k : Int), .int .i64 (m : Int), v, wv] w fun e w' => e = .returned (.bool true) ∧ Fr (fun _ => False) w w' := by
  have hk := hC.hk
  have hm := hC.hm
  obtain ⟨a, ha⟩ : ∃ a, a = k + m := ⟨_, rfl⟩
  have hal : (allL k m D n).length = a := by rw [allL_length hD, ha]
  have hwd := allL_wid (m := m) hD hw
  obtain ⟨vo, vc, rfl⟩ := h.shape
  rw [hal] at h ⊢
  obtain ⟨sb, so, xo, xc, rfl, y1, -⟩ := h.get 0 (by omega)
  have hl0 : ((allL k m D n)[0]'(by omega)).length = n := hwd _ (List.getElem_mem _)
  rw [hl0, Nat.add_zero] at y1
  obtain ⟨wo, wc, rfl⟩ := hv.shape
  have hml : (l.map (Value.int .i64)).length = l.length := by simp
  rw [hml] at hv ⊢
  have ea : (k : Int) + (m : Int) = (a : Int) := by omega
  have HCA := hide hC
  have HWD := hide hwd
  have HDL := hide (And.intro hD hw)
  have HAL := hide hal
  have HA := hide ha
  have HWV := hide hv
  have HBX := hide hb
  obtain ⟨L, hL⟩ : ∃ L, L = l.length := ⟨_, rfl⟩
  rw [← hL] at hl HWV ⊢
  have HL := hide hL
  have hai : (0 : Int) < (a : Int) := by omega
  have ha24 : a ≤ 24 := by omega
  by_cases hn0 : n = 0
  · subst hn0
    clear hC h hD hw hb hal hwd hl0 hv hml hL ha
    go_enter Try.func61, Try.ntmps61
    go_wp2_with fail
    go_ret
    exact ⟨rfl, Fr.refl _ _⟩
  · have b0 : ¬ ((n : Int) = 0) := by omega
    have HLA := hide (lent_ad w _ _ h (by omega) (fun x hx => by rw [hwd x hx]; omega))
    rw [hal] at HLA
    clear hC h hD hw hb hal hwd hl0 hv hml hL ha
    go_enter Try.func61, Try.ntmps61
    go_wp2_with fail
    refine (unhide HLA).mono ?_
    rintro e w2 ⟨⟨go, gc, rfl, hG⟩, f2⟩
    obtain ⟨vs, hBD⟩ := hG.bd
    obtain ⟨w3, hmk, hT3, f3⟩ := mkb_any w2 a (by omega)
    have hBD3 := hBD.kept f3
    have F3 := f2.trans f3 (fun _ _ h => h)
    obtain ⟨gb, ob, rfl, -⟩ := hBD3.rd.lits (by rw [hBD3.len, unhide HAL]; omega)
    have HB3 := hide hBD3
    have HT3 := hide hT3
    have HF3 := hide F3
    obtain ⟨gd, hgd⟩ : ∃ gd, gd = w2.heap.size := ⟨_, rfl⟩
    have hgw : w.heap.size ≤ gd := by rw [hgd]; exact f2.size
    rw [← hgd] at hmk HT3
    clear hG hBD hT3 hBD3 F3 f3 f2 HLA hgd
    go_wp2_with fail
    clear hmk
    have HCE := hide (show ∀ W, Fr (fun _ => False) w W → ∀ i, i < L → ∃ b o, wo = some ⟨b, o, none⟩ ∧ W.cell? ⟨b, o + i, none⟩ = some (.int .i64 (l[i]?.getD 0)) from fun W f i hi => by
      obtain ⟨b, o, rfl, -, -, -, hc⟩ := ((unhide HWV).kept f (fun _ _ h => h)).lits (by have := unhide HL; simp; omega)
      refine ⟨b, o, rfl, ?_⟩
      have := hc i (by have := unhide HL; simp; omega)
      rw [List.getElem_map] at this
      rw [this, List.getElem?_eq_getElem (show i < l.length by have := unhide HL; omega)]
      rfl)
    go_loopw [11, 14, 15] (fun xn xi _ w' => ∃ (i cnt : Nat) (G : List (List UInt8)) (bs : List Bool), i ≤ L ∧ xi = .int .i64 (i : Int) ∧ xn = .int .i64 (cnt : Int) ∧ WB k m n D G bs cnt ∧ BD w.heap.size w' (.slice (some ⟨gb, ob, none⟩) a gc) vs G ∧ TAt w' gd bs ∧ Fr (fun _ => False) w w') (fun _ xi _ _ => L - (intOf xi).toNat)
    case atStart => exact ⟨0, 0, _, _, Nat.zero_le _, rfl, rfl, by rw [unhide HA] at HT3; exact WB.start (unhide HDL).1 (unhide HDL).2, unhide HB3, by rw [← unhide HA]; exact unhide HT3, unhide HF3⟩
    case round =>
      obtain ⟨i, cnt, G, bs, hi, rfl, rfl, hWB, hBD, hT, hf⟩ := hrel
      have hcm : cnt ≤ m := hWB.gb.le
      by_cases hgo : i < L ∧ cnt < m
      · obtain ⟨hiL, hcl⟩ := hgo
        have h1 : (i : Int) < (L : Int) := by omega
        have h2 : (cnt : Int) < (m : Int) := by omega
        obtain ⟨b, o, rfl, c0⟩ := unhide HCE wr hf i hiL
        obtain ⟨x, hx⟩ : ∃ x, x = l[i]?.getD 0 := ⟨_, rfl⟩
        rw [← hx] at c0
        obtain ⟨r, hr⟩ : ∃ r, r = x.tmod (a : Int) := ⟨_, rfl⟩
        have hr1 := Int.tmod_lt_of_pos x hai
        have hr2 := Int.lt_tmod_of_pos x hai
        rw [← hr] at hr1 hr2
        have er : x.tmod (a : Int) = r := hr.symm
        have wr1 : IntKind.i64.wrap r = r := by rw [IntKind.wrap_i64]; omega
        have hbl : bs.length = a := by have := hWB.gb.hb; rw [unhide HA]; simpa using this
        obtain ⟨q, hq⟩ : ∃ q : Nat, (q : Int) = if r < 0 then r + (a : Int) else r := ⟨(if r < 0 then r + (a : Int) else r).toNat, by split <;> omega⟩
        have hqa : q < a := by split at hq <;> omega
        obtain ⟨bq, hbq⟩ : ∃ bq, bs[q]? = some bq := ⟨_, List.getElem?_eq_getElem (by omega)⟩
        have d0 := hT.cell q (by omega)
        rw [show bs[q]'(by omega) = bq by rw [List.getElem?_eq_getElem (by omega), Option.some.injEq] at hbq; exact hbq] at d0
        have hqi : (q : Int) < (a : Int) := by omega
        have a0 : ¬ ((a : Int) = 0) := by omega
        have HWB := hide hWB
        have HBD := hide hBD
        have HT := hide hT
        have HF := hide hf
        have HBQ := hide hbq
        clear hr hWB hBD hT hf hx hbl hcm hbq
        by_cases hr0 : r < 0
        · rw [if_pos hr0] at hq
          obtain ⟨s9, hs9⟩ : ∃ s9, s9 = r + (k : Int) := ⟨_, rfl⟩
          have g1 : r + (k : Int) = s9 := hs9.symm
          have g2 : IntKind.i64.wrap s9 = s9 := by rw [IntKind.wrap_i64]; omega
          have g3 : s9 + (m : Int) = (q : Int) := by omega
          have g4 : IntKind.i64.wrap (q : Int) = (q : Int) := by rw [IntKind.wrap_i64]; omega
          clear hq hs9
          rcases bq with _ | _
          · -- not yet turned
            have hqG : q < G.length := by rw [(unhide HWB).gb.hG, ← unhide HA]; exact hqa
            have hqv : q < vs.length := by rw [(unhide HBD).len]; exact hqG
            have hwq : (G[q]).length = n := (unhide HWB).wid _ (List.getElem_mem _)
            have hrow := ((unhide HBD).row q vs[q] G[q] (List.getElem?_eq_getElem _) (List.getElem?_eq_getElem _))
            obtain ⟨xo9, xc9, hx9⟩ := hrow.1.shape
            rw [hwq] at hx9
            rw [hx9] at hrow
            obtain ⟨bi, oi, rfl, -, -, -, hby⟩ := hrow.1.lits (by omega)
            obtain ⟨t, ht⟩ : ∃ t, t = (q + i) % n := ⟨_, rfl⟩
            have htn : t < n := by rw [ht]; exact Nat.mod_lt _ (by omega)
            have y0 := hby t (by omega)
            have hcel : (G[q])[t]'(by omega) = cel G q t := by rw [cel_of hqG, List.getElem?_eq_getElem (show t < (G[q]).length by omega)]; rfl
            rw [hcel] at y0
            obtain ⟨b9, o9, e9, -, -, -, hcv⟩ := (unhide HBD).rd.lits (by omega)
            simp only [Option.some.injEq, Addr.mk.injEq] at e9
            obtain ⟨rfl, rfl, -⟩ := e9
            have z0 := hcv q hqv
            rw [hx9] at z0
            have hvq : vs[q]? = some (.slice (some ⟨bi, oi, none⟩) n xc9) := by rw [List.getElem?_eq_getElem hqv, hx9]
            obtain ⟨byt, hbyt⟩ : ∃ byt, byt = cel G q t := ⟨_, rfl⟩
            rw [← hbyt] at y0
            have h4g : TyAt wr gd 4 := ⟨_, unhide HT⟩
            have hgb : gb ≠ gd := TyAt.ne ((unhide HBD).ty gb rfl) h4g (by decide)
            have hbg : bi ≠ gd := TyAt.ne (hrow.2 bi rfl).2 h4g (by decide)
            have zf := frozen_of_heap (unhide HT)
            have yf := (hrow.2 bi rfl).2
            have hbN := (hrow.2 bi rfl).1
            obtain ⟨qi, hqi2⟩ : ∃ qi, qi = q + i := ⟨_, rfl⟩
            have e3 : (q : Int) + (i : Int) = (qi : Int) := by omega
            have e4 : IntKind.i64.wrap (qi : Int) = (qi : Int) := by rw [IntKind.wrap_i64]; omega
            have e5 : (qi : Int).tmod (n : Int) = (t : Int) := by rw [ht, hqi2]; rfl
            have e6 : IntKind.i64.wrap (t : Int) = (t : Int) := by rw [IntKind.wrap_i64]; omega
            have e7 : (t : Int) < (n : Int) := by omega
            obtain ⟨q1, hq1⟩ : ∃ q1, q1 = q + 1 := ⟨_, rfl⟩
            have e8 : (1 : Int) + (q : Int) = (q1 : Int) := by omega
            have e9 : IntKind.i64.wrap (q1 : Int) = (q1 : Int) := by rw [IntKind.wrap_i64]; omega
            have hc1 : (((UInt8.ofNat q1).toNat : Nat) : Int) = (q1 : Int) := by rw [UInt8.toNat_ofNat']; omega
            have e10 := xorV byt (UInt8.ofNat q1)
            rw [hc1] at e10
            have hcne : UInt8.ofNat q1 ≠ 0 := fun e => by
              have := congrArg UInt8.toNat e
              rw [UInt8.toNat_ofNat'] at this
              simp at this
              omega
            obtain ⟨W1, hW1⟩ : ∃ W1, W1 = wr.setCell ⟨gd, q, none⟩ (.bool true) := ⟨_, rfl⟩
            have f1 : Fr (fun k => k = gd) wr W1 := by rw [hW1]; exact (Fr.refl (fun k => k = gd) wr).setCell (p := ⟨gd, q, none⟩) (fun _ => rfl) _
            have hz1 := (f1.cell (a := ⟨gb, ob + q, none⟩) (by have := World.block_lt_of_cell? wr _ z0; exact this) hgb).trans z0
            have hy1 := (f1.cell (a := ⟨bi, oi + t, none⟩) (by have := World.block_lt_of_cell? wr _ y0; exact this) hbg).trans y0
            have HBD1 := hide ((unhide HBD).keptT f1 h4g (by decide) (by decide) (fun b t h => by rw [hW1]; exact h.setCell _ _ _))
            have HT1 := hide (show TAt W1 gd (bs.set q true) by rw [hW1]; exact (unhide HT).set q true)
            have HF1 := hide ((unhide HF).trans f1 (fun k hk e => by omega))
            have hty1 : TyAt W1 bi 5 := by rw [hW1]; exact yf.setCell _ _ _
            obtain ⟨cs5, hcs5⟩ := hty1
            have yf1 := frozen_of_heap hcs5
            have HY := hide hbyt
            have HVQ := hide hvq
            have HWQ := hide hwq
            clear hby hcel hcv hx9 hrow yf hbyt hvq ht hqi2 hq1 hc1 f1 h4g hcs5 hqv
            go_wp2_with fail
            rw [← hW1]
            clear hW1
            refine wp_region_quietTail 33 (by kernel_rfl) (by kernel_rfl) ?_
            simp only [List.take_succ_cons, List.take_zero]
            repeat (go_big_quiet_step (fail))
            refine wpQuiet_nil ?_
            intro _ hw'
            obtain ⟨nq, hw''⟩ := hw'
            subst hw''
            simp only [List.drop_succ_cons, List.drop_zero]
            go_wp2_with fail
            go_roundw
            case rel =>
              have fd : Fr (fun _ => False) W1 (W1.drewN nq) := Fr.ofDrewN _ _
              have fs : Fr (fun k => k = bi) (W1.drewN nq) ((W1.drewN nq).setCell ⟨bi, oi + t, none⟩ (.int .u8 (((byt ^^^ UInt8.ofNat q1).toNat : Nat) : Int))) := (Fr.refl (fun k => k = bi) _).setCell (p := ⟨bi, oi + t, none⟩) (fun _ => rfl) _
              have hgq : G[q]? = some G[q] := List.getElem?_eq_getElem hqG
              have hBD2 := ((unhide HBD1).kept fd).turn (unhide HVQ) hgq (t := t) (by rw [unhide HWQ]; exact htn) (byt ^^^ UInt8.ofNat q1)
              have hWB2 := (unhide HWB).turn (i := q) (t := t) (c := UInt8.ofNat q1) (by rw [← unhide HA]; exact hqa) (unhide HBQ) hcl htn hcne
              rw [← unhide HY, hgq, Option.getD_some] at hWB2
              exact ⟨i + 1, cnt + 1, _, _, by omega, by go_num, by go_num, hWB2, hBD2, ((unhide HT1).kept fd id).kept fs (fun e => hbg e.symm), ((unhide HF1).trans fd (fun _ _ h => h)).trans fs (fun k hk e => by omega)⟩
            case measure => simp [intOf]; omega
          · -- turned before
            go_wp2_with fail
            go_roundw
            case rel => exact ⟨i + 1, cnt, G, bs, by omega, by go_num, rfl, unhide HWB, unhide HBD, unhide HT, unhide HF⟩
            case measure => simp [intOf]; omega
        · rw [if_neg hr0] at hq
          subst hq
          rcases bq with _ | _
          · -- not yet turned
            have hqG : q < G.length := by rw [(unhide HWB).gb.hG, ← unhide HA]; exact hqa
            have hqv : q < vs.length := by rw [(unhide HBD).len]; exact hqG
            have hwq : (G[q]).length = n := (unhide HWB).wid _ (List.getElem_mem _)
            have hrow := ((unhide HBD).row q vs[q] G[q] (List.getElem?_eq_getElem _) (List.getElem?_eq_getElem _))
            obtain ⟨xo9, xc9, hx9⟩ := hrow.1.shape
            rw [hwq] at hx9
            rw [hx9] at hrow
            obtain ⟨bi, oi, rfl, -, -, -, hby⟩ := hrow.1.lits (by omega)
            obtain ⟨t, ht⟩ : ∃ t, t = (q + i) % n := ⟨_, rfl⟩
            have htn : t < n := by rw [ht]; exact Nat.mod_lt _ (by omega)
            have y0 := hby t (by omega)
            have hcel : (G[q])[t]'(by omega) = cel G q t := by rw [cel_of hqG, List.getElem?_eq_getElem (show t < (G[q]).length by omega)]; rfl
            rw [hcel] at y0
            obtain ⟨b9, o9, e9, -, -, -, hcv⟩ := (unhide HBD).rd.lits (by omega)
            simp only [Option.some.injEq, Addr.mk.injEq] at e9
            obtain ⟨rfl, rfl, -⟩ := e9
            have z0 := hcv q hqv
            rw [hx9] at z0
            have hvq : vs[q]? = some (.slice (some ⟨bi, oi, none⟩) n xc9) := by rw [List.getElem?_eq_getElem hqv, hx9]
            obtain ⟨byt, hbyt⟩ : ∃ byt, byt = cel G q t := ⟨_, rfl⟩
            rw [← hbyt] at y0
            have h4g : TyAt wr gd 4 := ⟨_, unhide HT⟩
            have hgb : gb ≠ gd := TyAt.ne ((unhide HBD).ty gb rfl) h4g (by decide)
            have hbg : bi ≠ gd := TyAt.ne (hrow.2 bi rfl).2 h4g (by decide)
            have zf := frozen_of_heap (unhide HT)
            have yf := (hrow.2 bi rfl).2
            have hbN := (hrow.2 bi rfl).1
            obtain ⟨qi, hqi2⟩ : ∃ qi, qi = q + i := ⟨_, rfl⟩
            have e3 : (q : Int) + (i : Int) = (qi : Int) := by omega
            have e4 : IntKind.i64.wrap (qi : Int) = (qi : Int) := by rw [IntKind.wrap_i64]; omega
            have e5 : (qi : Int).tmod (n : Int) = (t : Int) := by rw [ht, hqi2]; rfl
            have e6 : IntKind.i64.wrap (t : Int) = (t : Int) := by rw [IntKind.wrap_i64]; omega
            have e7 : (t : Int) < (n : Int) := by omega
            obtain ⟨q1, hq1⟩ : ∃ q1, q1 = q + 1 := ⟨_, rfl⟩
            have e8 : (1 : Int) + (q : Int) = (q1 : Int) := by omega
            have e9 : IntKind.i64.wrap (q1 : Int) = (q1 : Int) := by rw [IntKind.wrap_i64]; omega
            have hc1 : (((UInt8.ofNat q1).toNat : Nat) : Int) = (q1 : Int) := by rw [UInt8.toNat_ofNat']; omega
            have e10 := xorV byt (UInt8.ofNat q1)
            rw [hc1] at e10
            have hcne : UInt8.ofNat q1 ≠ 0 := fun e => by
              have := congrArg UInt8.toNat e
              rw [UInt8.toNat_ofNat'] at this
              simp at this
              omega
            obtain ⟨W1, hW1⟩ : ∃ W1, W1 = wr.setCell ⟨gd, q, none⟩ (.bool true) := ⟨_, rfl⟩
            have f1 : Fr (fun k => k = gd) wr W1 := by rw [hW1]; exact (Fr.refl (fun k => k = gd) wr).setCell (p := ⟨gd, q, none⟩) (fun _ => rfl) _
            have hz1 := (f1.cell (a := ⟨gb, ob + q, none⟩) (by have := World.block_lt_of_cell? wr _ z0; exact this) hgb).trans z0
            have hy1 := (f1.cell (a := ⟨bi, oi + t, none⟩) (by have := World.block_lt_of_cell? wr _ y0; exact this) hbg).trans y0
            have HBD1 := hide ((unhide HBD).keptT f1 h4g (by decide) (by decide) (fun b t h => by rw [hW1]; exact h.setCell _ _ _))
            have HT1 := hide (show TAt W1 gd (bs.set q true) by rw [hW1]; exact (unhide HT).set q true)
            have HF1 := hide ((unhide HF).trans f1 (fun k hk e => by omega))
            have hty1 : TyAt W1 bi 5 := by rw [hW1]; exact yf.setCell _ _ _
            obtain ⟨cs5, hcs5⟩ := hty1
            have yf1 := frozen_of_heap hcs5
            have HY := hide hbyt
            have HVQ := hide hvq
            have HWQ := hide hwq
            clear hby hcel hcv hx9 hrow yf hbyt hvq ht hqi2 hq1 hc1 f1 h4g hcs5 hqv
            go_wp2_with fail
            rw [← hW1]
            clear hW1
            refine wp_region_quietTail 33 (by kernel_rfl) (by kernel_rfl) ?_
            simp only [List.take_succ_cons, List.take_zero]
            repeat (go_big_quiet_step (fail))
            refine wpQuiet_nil ?_
            intro _ hw'
            obtain ⟨nq, hw''⟩ := hw'
            subst hw''
            simp only [List.drop_succ_cons, List.drop_zero]
            go_wp2_with fail
            go_roundw
            case rel =>
              have fd : Fr (fun _ => False) W1 (W1.drewN nq) := Fr.ofDrewN _ _
              have fs : Fr (fun k => k = bi) (W1.drewN nq) ((W1.drewN nq).setCell ⟨bi, oi + t, none⟩ (.int .u8 (((byt ^^^ UInt8.ofNat q1).toNat : Nat) : Int))) := (Fr.refl (fun k => k = bi) _).setCell (p := ⟨bi, oi + t, none⟩) (fun _ => rfl) _
              have hgq : G[q]? = some G[q] := List.getElem?_eq_getElem hqG
              have hBD2 := ((unhide HBD1).kept fd).turn (unhide HVQ) hgq (t := t) (by rw [unhide HWQ]; exact htn) (byt ^^^ UInt8.ofNat q1)
              have hWB2 := (unhide HWB).turn (i := q) (t := t) (c := UInt8.ofNat q1) (by rw [← unhide HA]; exact hqa) (unhide HBQ) hcl htn hcne
              rw [← unhide HY, hgq, Option.getD_some] at hWB2
              exact ⟨i + 1, cnt + 1, _, _, by omega, by go_num, by go_num, hWB2, hBD2, ((unhide HT1).kept fd id).kept fs (fun e => hbg e.symm), ((unhide HF1).trans fd (fun _ _ h => h)).trans fs (fun k hk e => by omega)⟩
            case measure => simp [intOf]; omega
          · -- turned before
            go_wp2_with fail
            go_roundw
            case rel => exact ⟨i + 1, cnt, G, bs, by omega, by go_num, rfl, unhide HWB, unhide HBD, unhide HT, unhide HF⟩
            case measure => simp [intOf]; omega
      · have hGl : G.length = a := by rw [hWB.gb.hG, ← unhide HA]
        have hsh : shl G ((k + m : Nat) : Int) = (n, 0) := by rw [← unhide HA]; exact shl_ok0 hGl (by omega) hWB.wid hn
        have hch : chR k m G = decide (cnt = 0) := by
          unfold chR
          rw [hsh, if_pos rfl]
          exact hWB.check (by have := unhide HA; omega) (unhide HDL).1 (unhide HDL).2
        have HCK := hide (chk_any wr p k m _ G ((unhide HCA).kept hf (fun _ _ h => h)) hBD.rdl (by omega))
        rw [hch, hsh] at HCK
        have HF := hide hf
        clear hWB hBD hT hf hsh hch hGl
        by_cases hc0 : cnt = 0
        · subst hc0
          by_cases hiL : i < L
          · have h1 : (i : Int) < (L : Int) := by omega
            have h2 : ¬ ((0 : Int) < (m : Int)) := by omega
            go_wp2_with (first
              | (go_at_call 48; refine (num3_any _ _).mono ?_; rintro e w' ⟨rfl, rfl⟩)
              | (go_at_call 49; refine (unhide HCK).mono ?_; rintro e w9 ⟨rfl, f9⟩))
            go_ret
            exact ⟨rfl, (unhide HF).trans f9 (fun _ _ h => h)⟩
          · have h1 : ¬ ((i : Int) < (L : Int)) := by omega
            go_wp2_with (first
              | (go_at_call 48; refine (num3_any _ _).mono ?_; rintro e w' ⟨rfl, rfl⟩)
              | (go_at_call 49; refine (unhide HCK).mono ?_; rintro e w9 ⟨rfl, f9⟩))
            go_ret
            exact ⟨rfl, (unhide HF).trans f9 (fun _ _ h => h)⟩
        · rw [decide_eq_false hc0] at HCK
          have hc1 : ((cnt : Int) == 0) = false := by simp; omega
          by_cases hiL : i < L
          · have h1 : (i : Int) < (L : Int) := by omega
            have h2 : ¬ ((cnt : Int) < (m : Int)) := by omega
            go_wp2_with (first
              | (go_at_call 48; refine (num3_any _ _).mono ?_; rintro e w' ⟨rfl, rfl⟩)
              | (go_at_call 49; refine (unhide HCK).mono ?_; rintro e w9 ⟨rfl, f9⟩))
            go_ret
            exact ⟨rfl, (unhide HF).trans f9 (fun _ _ h => h)⟩
          · have h1 : ¬ ((i : Int) < (L : Int)) := by omega
            go_wp2_with (first
              | (go_at_call 48; refine (num3_any _ _).mono ?_; rintro e w' ⟨rfl, rfl⟩)
              | (go_at_call 49; refine (unhide HCK).mono ?_; rintro e w9 ⟨rfl, f9⟩))
            go_ret
            exact ⟨rfl, (unhide HF).trans f9 (fun _ _ h => h)⟩
end Go.Proofs.Ytckmddkhkdcmmaa
