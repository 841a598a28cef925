/-
  Plain facts: what a reader takes, from a place to a place, are the bytes that a writer would lay of the value.
-/
import Derived.Test.YtmnbdpdblpgnlaaPut2
import Derived.Test.YtmnbdpdblpgnlaaGet2
namespace Go.Proofs.Ytmnbdpdblpgnlaa
open Go.RowKit
set_option linter.unusedVariables false

/-- From a to b the bytes x stand in D. -/
def Seg (D : List UInt8) (a b : Nat) (x : List UInt8) : Prop := a ≤ b ∧ b ≤ D.length ∧ (D.drop a).take (b - a) = x

theorem Seg.nil (D : List UInt8) (a : Nat) (h : a ≤ D.length) : Seg D a a [] := ⟨Nat.le_refl _, h, by simp⟩

theorem Seg.app {D : List UInt8} {a b c : Nat} {x y : List UInt8} (h : Seg D a b x) (k : Seg D b c y) : Seg D a c (x ++ y) := by
  obtain ⟨h1, h2, rfl⟩ := h
  obtain ⟨k1, k2, rfl⟩ := k
  refine ⟨by omega, k2, ?_⟩
  rw [show c - a = (b - a) + (c - b) from by omega, List.take_add, List.drop_drop, show a + (b - a) = b from by omega]

theorem Seg.zero {D : List UInt8} {b : Nat} {x : List UInt8} (h : Seg D 0 b x) : x = D.take b := by
  obtain ⟨_, _, h⟩ := h
  simpa using h.symm

theorem numOf_four (a b c d : UInt8) : numOf [a, b, c, d] = ((a.toNat * 256 + b.toNat) * 256 + c.toNat) * 256 + d.toNat := by simp [numOf]

theorem u8_of (x : UInt8) (n : Int) (h : n = (x.toNat : Int)) : UInt8.ofNat n.toNat = x := by
  subst h
  simp

theorem be32_num (l : List UInt8) (h : l.length = 4) : be32 (numOf l : Int) = l := by
  match l, h with
  | [a, b, c, d], _ =>
    have ha := a.toNat_lt
    have hb := b.toNat_lt
    have hc := c.toNat_lt
    have hd := d.toNat_lt
    rw [numOf_four]
    unfold be32
    rw [u8_of a _ (by omega), u8_of b _ (by omega), u8_of c _ (by omega), u8_of d _ (by omega)]

theorem tk_ok (D : List UInt8) (a : Nat) (E : Int) (n : Nat) (fr : Nat) (hn : 0 < n) (ha : a ≤ D.length) (h : (tk D a E n fr).2.2 = 0) : E = 0 ∧ (tk D a E n fr).1.length = n ∧ (tk D a E n fr).2.1 = a + n + (4 - n % 4) % 4 ∧ Seg D a (a + n + (4 - n % 4) % 4) ((tk D a E n fr).1 ++ pad n) := by
  unfold tk at *
  rw [Int.toNat_natCast] at *
  by_cases hE : E = 0
  · subst hE
    rw [if_neg (by simp; omega)] at *
    by_cases hs : D.length - a < n + (4 - n % 4) % 4
    · rw [if_pos hs] at h; simp at h
    · rw [if_neg hs] at *
      by_cases hz : (D.drop (a + n)).take ((4 - n % 4) % 4) = pad n
      · rw [if_pos hz] at *
        refine ⟨rfl, by simp; omega, rfl, by omega, by omega, ?_⟩
        rw [← hz, show a + n + (4 - n % 4) % 4 - a = n + (4 - n % 4) % 4 from by omega, List.take_add, List.drop_drop]
      · rw [if_neg hz] at h; simp at h
  · rw [if_pos (.inr hE)] at h
    exact absurd h hE

theorem ru_seg (D : List UInt8) (a : Nat) (E : Int) (ha : a ≤ D.length) (h : (ru D a E).2.2 = 0) : E = 0 ∧ (ru D a E).2.1 = a + 4 ∧ Seg D a (a + 4) (be32 ((ru D a E).1 : Int)) := by
  obtain ⟨h1, h2, h3, h4⟩ := tk_ok D a E 4 a (by omega) ha h
  refine ⟨h1, h3, ?_⟩
  unfold ru
  rw [show ((4 : Nat) : Int) = 4 from rfl] at *
  rw [be32_num _ h2]
  simpa [pad] using h4

theorem rbool_seg (D : List UInt8) (a : Nat) (E : Int) (ha : a ≤ D.length) (h : (rbool D a E).2.2 = 0) : E = 0 ∧ (rbool D a E).2.1 = a + 4 ∧ Seg D a (a + 4) (be32 (if (rbool D a E).1 then 1 else 0)) := by
  unfold rbool rup at *
  by_cases hc : (1 : Int) < ((ru D a E).1 : Int)
  · rw [if_pos hc] at h; simp at h
  · rw [if_neg hc] at *
    obtain ⟨h1, h2, h3⟩ := ru_seg D a E ha h
    refine ⟨h1, h2, ?_⟩
    have e : (if (((ru D a E).1 : Int) == 1) = true then (1 : Int) else 0) = ((ru D a E).1 : Int) := by
      by_cases e1 : ((ru D a E).1 : Int) = 1
      · rw [e1]; rfl
      · rw [if_neg (by simpa using e1)]; omega
    rw [e]
    exact h3

theorem rcnt_seg (D : List UInt8) (a : Nat) (E : Int) (most : Int) (ha : a ≤ D.length) (h : (rcnt D a E most).2.2 = 0) : E = 0 ∧ Seg D a (rcnt D a E most).2.1 (opq (rcnt D a E most).1) ∧ ((rcnt D a E most).1.length : Int) ≤ most ∧ (rcnt D a E most).1.length < 4294967296 := by
  have hlt := ru_lt D a E
  unfold rcnt rlen at *
  by_cases hc : most < ((ru D a E).1 : Int)
  · rw [if_pos hc] at h
    by_cases hE : (ru D a E).2.2 = 0
    · rw [if_pos hE] at h
      simp [tk] at h
    · rw [if_neg hE] at h
      simp [tk] at h
      exact absurd h hE
  · rw [if_neg hc] at *
    have hru : (ru D a E).2.2 = 0 := by
      by_cases hE : (ru D a E).2.2 = 0
      · exact hE
      · have := ru_err D a E hE
        rw [this] at h
        simp [tk] at h
        exact absurd h hE
    obtain ⟨h1, h2, h3⟩ := ru_seg D a E ha hru
    refine ⟨h1, ?_⟩
    by_cases hn : (ru D a E).1 = 0
    · rw [hn] at h3
      rw [hn, h2, hru]
      simp [tk, opq, pad]
      exact ⟨h3, by omega⟩
    · rw [h2, hru] at h ⊢
      obtain ⟨k1, k2, k3, k4⟩ := tk_ok D (a + 4) 0 (ru D a E).1 a (by omega) h3.2.1 h
      refine ⟨?_, by omega, by omega⟩
      unfold opq
      rw [k2, k3]
      exact h3.app k4

theorem wopq_ok (B : List UInt8) (l : List UInt8) (most : Int) (h : (l.length : Int) ≤ most) : wopq B 0 l most = (B ++ opq l, 0) := by
  unfold wopq
  rw [if_neg (by simp), if_neg (by omega)]

theorem tk_le (D : List UInt8) (a : Nat) (E : Int) (n : Int) (fr : Nat) (ha : a ≤ D.length) (hf : fr ≤ D.length) : (tk D a E n fr).2.1 ≤ D.length := by
  unfold tk
  repeat' split
  all_goals dsimp only
  all_goals omega

theorem ru_le (D : List UInt8) (a : Nat) (E : Int) (ha : a ≤ D.length) : (ru D a E).2.1 ≤ D.length := tk_le D a E 4 a ha ha

theorem rlen_le (D : List UInt8) (a : Nat) (E : Int) (most : Int) (ha : a ≤ D.length) : (rlen D a E most).2.1 ≤ D.length := by
  have h := ru_le D a E ha
  unfold rlen
  repeat' split
  all_goals first | exact ha | exact h

theorem rcnt_le (D : List UInt8) (a : Nat) (E : Int) (most : Int) (ha : a ≤ D.length) : (rcnt D a E most).2.1 ≤ D.length := tk_le D _ _ _ a (rlen_le D a E most ha) ha

/-- The texts' bytes, one behind the other. -/
def catS (l : List ByteArray) : List UInt8 := (l.map fun t => opq t.data.toList).flatten
/-- A chain's. -/
def catC (l : List ByteArray) : List UInt8 := (l.map fun t => be32 1 ++ opq t.data.toList).flatten

theorem wtexts_ok : ∀ (l : List ByteArray) (B : List UInt8), (∀ t ∈ l, t.size ≤ 7) → wtexts (B, 0) l = (B ++ catS l, 0)
  | [], B, _ => by simp [wtexts, catS]
  | t :: l, B, h => by
    show wtexts (wopq B 0 t.data.toList 7) l = _
    have h1 := h t (by simp)
    have h2 : (t.data.toList.length : Int) ≤ 7 := by
      have : t.data.toList.length = t.size := by simp
      omega
    rw [wopq_ok B _ 7 h2, wtexts_ok l _ (fun u hu => h u (by simp [hu]))]
    simp [catS]

theorem wch_ok : ∀ (l : List ByteArray) (B : List UInt8), (∀ t ∈ l, t.size ≤ 7) → wch (B, 0) l = (B ++ catC l, 0)
  | [], B, _ => by simp [wch, catC]
  | t :: l, B, h => by
    show wch (wopq (lay 0 B (be32 1)) 0 t.data.toList 7) l = _
    have h1 := h t (by simp)
    have h2 : (t.data.toList.length : Int) ≤ 7 := by
      have : t.data.toList.length = t.size := by simp
      omega
    rw [show lay 0 B (be32 1) = B ++ be32 1 from rfl, wopq_ok _ _ 7 h2, wch_ok l _ (fun u hu => h u (by simp [hu]))]
    simp [catC]

theorem gtext_seg (D : List UInt8) (a : Nat) (E : Int) (ha : a ≤ D.length) (h : (gtext D a E).2.2 = 0) : E = 0 ∧ Seg D a (gtext D a E).2.1 (opq (gtext D a E).1.data.toList) ∧ (gtext D a E).1.size ≤ 7 := by
  obtain ⟨h1, h2, h3, h4⟩ := rcnt_seg D a E 7 ha h
  refine ⟨h1, ?_, ?_⟩
  · show Seg D a (rcnt D a E 7).2.1 (opq (str (rcnt D a E 7).1).data.toList)
    rw [str_data]; exact h2
  · show (str (rcnt D a E 7).1).size ≤ 7
    rw [str_size]; omega

theorem rloopS_seg (D : List UInt8) : ∀ (n : Nat) (l : List ByteArray) (a : Nat) (E : Int), a ≤ D.length → (rloop (gtext D) n l a E).2.2 = 0 →
    E = 0 ∧ ∃ l1, (rloop (gtext D) n l a E).1 = l ++ l1 ∧ l1.length = n ∧ Seg D a (rloop (gtext D) n l a E).2.1 (catS l1) ∧ ∀ t ∈ l1, t.size ≤ 7
  | 0, l, a, E, ha, h => ⟨h, [], by simp [rloop], rfl, by simpa [rloop, catS] using Seg.nil D a ha, by simp⟩
  | n + 1, l, a, E, ha, h => by
    rw [rloop_succ] at *
    by_cases hg : (gtext D a E).2.2 = 0
    · rw [if_neg (by simpa using hg)] at *
      obtain ⟨h1, h2, h3⟩ := gtext_seg D a E ha hg
      obtain ⟨k1, l1, k2, k3, k4, k5⟩ := rloopS_seg D n _ _ _ h2.2.1 h
      refine ⟨h1, (gtext D a E).1 :: l1, by rw [k2]; simp, by simp [k3], ?_, ?_⟩
      · have := h2.app k4
        simpa [catS] using this
      · intro t ht
        rcases List.mem_cons.1 ht with rfl | ht
        · exact h3
        · exact k5 t ht
    · rw [if_pos hg] at h
      exact absurd h hg

theorem rlen_seg (D : List UInt8) (a : Nat) (E : Int) (most : Int) (ha : a ≤ D.length) (h : (rlen D a E most).2.2 = 0) : E = 0 ∧ (rlen D a E most).2.1 = a + 4 ∧ Seg D a (a + 4) (be32 ((rlen D a E most).1 : Int)) ∧ ((rlen D a E most).1 : Int) ≤ most := by
  unfold rlen at *
  by_cases hc : most < ((ru D a E).1 : Int)
  · rw [if_pos hc] at h
    by_cases hE : (ru D a E).2.2 = 0
    · rw [if_pos hE] at h; simp at h
    · rw [if_neg hE] at h; exact absurd h hE
  · rw [if_neg hc] at *
    obtain ⟨h1, h2, h3⟩ := ru_seg D a E ha h
    exact ⟨h1, h2, h3, by omega⟩

theorem rlistS_seg (D : List UInt8) (a : Nat) (E : Int) (most : Int) (ha : a ≤ D.length) (ha2 : (rlen D a E most).2.1 ≤ D.length) (h : (rlistS D a E most).2.2 = 0) : E = 0 ∧ Seg D a (rlistS D a E most).2.1 (be32 ((rlistS D a E most).1.length : Int) ++ catS (rlistS D a E most).1) ∧ ∀ t ∈ (rlistS D a E most).1, t.size ≤ 7 := by
  unfold rlistS at *
  obtain ⟨h1, l1, h2, h3, h4, h5⟩ := rloopS_seg D _ _ _ _ ha2 h
  obtain ⟨k1, k2, k3, k4⟩ := rlen_seg D a E most ha h1
  rw [k2] at h4
  rw [k2] at h2
  rw [List.nil_append] at h2
  rw [k2, h2, h3]
  exact ⟨k1, k3.app h4, h5⟩

theorem rch_seg (D : List UInt8) (most : Int) : ∀ (n : Nat) (l : List ByteArray) (a : Nat) (E : Int), a ≤ D.length → D.length - a < n → (rch D most n l a E).2.2 = 0 →
    E = 0 ∧ ∃ l1, (rch D most n l a E).1 = l ++ l1 ∧ Seg D a (rch D most n l a E).2.1 (catC l1 ++ be32 0) ∧ (∀ t ∈ l1, t.size ≤ 7)
  | 0, l, a, E, ha, hn, h => by omega
  | n + 1, l, a, E, ha, hn, h => by
    rw [rch_succ] at *
    by_cases hb : (rbool D a E).1 = false
    · rw [if_pos hb] at *
      dsimp only at h
      obtain ⟨h1, h2, h3⟩ := rbool_seg D a E ha h
      rw [if_neg (by simpa using h)]
      rw [hb] at h3
      refine ⟨h1, [], by simp, ?_, by simp⟩
      dsimp only
      rw [h2]
      simpa [catC] using h3
    · rw [if_neg hb] at *
      have hb' : (rbool D a E).1 = true := by simpa using hb
      obtain ⟨e1, e2, e3, e4⟩ := rbool_true D a E hb'
      by_cases hm : most ≤ (l.length : Int)
      · rw [if_pos hm] at h; simp at h
      · rw [if_neg hm] at *
        obtain ⟨_, _, h3⟩ := rbool_seg D a E ha e3
        rw [hb'] at h3
        rw [e2, e3] at h ⊢
        by_cases hg : (gtext D (a + 4) 0).2.2 = 0
        · obtain ⟨g1, g2, g3⟩ := gtext_seg D (a + 4) 0 e4 hg
          have hge : a + 4 ≤ (gtext D (a + 4) 0).2.1 := g2.1
          obtain ⟨k1, l1, k2, k4, k5⟩ := rch_seg D most n (l ++ [(gtext D (a + 4) 0).1]) (gtext D (a + 4) 0).2.1 (gtext D (a + 4) 0).2.2 g2.2.1 (by omega) h
          refine ⟨e1, (gtext D (a + 4) 0).1 :: l1, by rw [k2]; simp, ?_, ?_⟩
          · have := (h3.app g2).app k4
            simpa [catC] using this
          · intro t ht
            rcases List.mem_cons.1 ht with rfl | ht
            · exact g3
            · exact k5 t ht
        · have hle : (gtext D (a + 4) 0).2.1 ≤ D.length := rcnt_le D (a + 4) 0 7 e4
          have hge : a + 4 ≤ (gtext D (a + 4) 0).2.1 := rcnt_ge D (a + 4) 0 7
          have k := rch_seg D most n (l ++ [(gtext D (a + 4) 0).1]) (gtext D (a + 4) 0).2.1 (gtext D (a + 4) 0).2.2 hle (by omega) h
          exact absurd k.1 hg

end Go.Proofs.Ytmnbdpdblpgnlaa
