/-
  What is saved is loaded; pieces have no part; climbing leads to the root: plainly.
-/
import Derived.Test.YtlicmlioilkfdaaDoorP3
import Derived.Test.YtlicmlioilkfdaaDoorT11
namespace Go.Proofs.YtlicmlioilkfdaaDoor
open Go.RowKit
set_option linter.unusedVariables false
set_option linter.unusedSimpArgs false

theorem or_add (a b i : Nat) (h : b < 2 ^ i) : a * 2 ^ i ||| b = a * 2 ^ i + b := by
  have := Nat.shiftLeft_add_eq_or_of_lt (i := i) (b := b) h a
  rw [Nat.shiftLeft_eq] at this
  exact this.symm

theorem B8_toNat (b : UInt8) : (B8 b).toNat = b.toNat := by
  unfold B8
  rw [BitVec.toNat_ofNat]
  have := b.toNat_lt
  omega

theorem or3 (x c d : Nat) (hc : c < 256) (hd : d < 256) : x * 2 ^ 16 ||| c * 2 ^ 8 ||| d = x * 65536 + c * 256 + d := by
  rw [or_add _ _ 16 (by omega)]
  have e3 : x * 2 ^ 16 + c * 2 ^ 8 = (x * 256 + c) * 2 ^ 8 := by omega
  rw [e3, or_add _ _ 8 (by omega)]

theorem or4 (a b c d : Nat) (hb : b < 256) (hc : c < 256) (hd : d < 256) : a * 2 ^ 24 ||| b * 2 ^ 16 ||| c * 2 ^ 8 ||| d = a * 16777216 + b * 65536 + c * 256 + d := by
  rw [or_add _ _ 24 (by omega)]
  have e2 : a * 2 ^ 24 + b * 2 ^ 16 = (a * 256 + b) * 2 ^ 16 := by omega
  rw [e2, or3 _ c d hc hd]

theorem wd4_toNat (a b c d : UInt8) : (wd4 a b c d).toNat = a.toNat * 16777216 + b.toNat * 65536 + c.toNat * 256 + d.toNat := by
  have ha := a.toNat_lt
  have hb := b.toNat_lt
  have hc := c.toNat_lt
  have hd := d.toNat_lt
  unfold wd4
  simp only [BitVec.toNat_or, BitVec.toNat_shiftLeft, B8_toNat, Nat.shiftLeft_eq]
  rw [Nat.mod_eq_of_lt (by omega), Nat.mod_eq_of_lt (by omega), Nat.mod_eq_of_lt (by omega)]
  exact or4 _ _ _ _ hb hc hd

theorem wd4_wb (x : Wd) : wd4 (by8 (x >>> 24)) (by8 (x >>> 16)) (by8 (x >>> 8)) (by8 x) = x := by
  apply BitVec.eq_of_toNat_eq
  have hx := x.isLt
  rw [wd4_toNat]
  unfold by8
  simp only [UInt8.toNat_ofNat', BitVec.toNat_ushiftRight, Nat.shiftRight_eq_div_pow]
  omega

theorem wdAt_wb (A B : List UInt8) (x : Wd) (t : Nat) (h : A.length = 4 * t) : wdAt (A ++ (wb x ++ B)) t = x := by
  unfold wdAt
  have e : ∀ j, j < 4 → (A ++ (wb x ++ B)).getD (4 * t + j) 0 = (wb x).getD j 0 := fun j hj => by
    rw [List.getD_eq_getElem?_getD, List.getD_eq_getElem?_getD, List.getElem?_append_right (by omega), h, Nat.add_sub_cancel_left, List.getElem?_append_left (by rw [wb_length]; exact hj)]
  have e0 := e 0 (by omega)
  rw [Nat.add_zero] at e0
  rw [e0, e 1 (by omega), e 2 (by omega), e 3 (by omega)]
  exact wd4_wb x

theorem ldS_sv (s : St) (n : Nat) (r : List UInt8) : ldS (svB s n r) = s := by
  have e : ∀ t (A : List UInt8) (x : Wd) (B : List UInt8), svB s n r = A ++ (wb x ++ B) → A.length = 4 * t → wdAt (svB s n r) t = x := fun t A x B h hl => by rw [h]; exact wdAt_wb A B x t hl
  have hs : svB s n r = wb s.a ++ (wb s.b ++ (wb s.c ++ (wb s.d ++ (wb s.e ++ (wb s.f ++ (wb s.g ++ (wb s.h ++ (lb n ++ r)))))))) := by
    unfold svB sb St.l; simp only [List.flatMap_cons, List.flatMap_nil, List.append_assoc, List.nil_append]
  generalize lb n ++ r = R at hs
  have h0 := e 0 [] s.a (wb s.b ++ (wb s.c ++ (wb s.d ++ (wb s.e ++ (wb s.f ++ (wb s.g ++ (wb s.h ++ (R)))))))) (by simp only [hs, List.append_assoc, List.nil_append]) (by simp only [List.length_append, wb_length, List.length_nil])
  have h1 := e 1 (wb s.a) s.b (wb s.c ++ (wb s.d ++ (wb s.e ++ (wb s.f ++ (wb s.g ++ (wb s.h ++ (R))))))) (by simp only [hs, List.append_assoc, List.nil_append]) (by simp only [List.length_append, wb_length, List.length_nil])
  have h2 := e 2 (wb s.a ++ wb s.b) s.c (wb s.d ++ (wb s.e ++ (wb s.f ++ (wb s.g ++ (wb s.h ++ (R)))))) (by simp only [hs, List.append_assoc, List.nil_append]) (by simp only [List.length_append, wb_length, List.length_nil])
  have h3 := e 3 (wb s.a ++ (wb s.b ++ wb s.c)) s.d (wb s.e ++ (wb s.f ++ (wb s.g ++ (wb s.h ++ (R))))) (by simp only [hs, List.append_assoc, List.nil_append]) (by simp only [List.length_append, wb_length, List.length_nil])
  have h4 := e 4 (wb s.a ++ (wb s.b ++ (wb s.c ++ wb s.d))) s.e (wb s.f ++ (wb s.g ++ (wb s.h ++ (R)))) (by simp only [hs, List.append_assoc, List.nil_append]) (by simp only [List.length_append, wb_length, List.length_nil])
  have h5 := e 5 (wb s.a ++ (wb s.b ++ (wb s.c ++ (wb s.d ++ wb s.e)))) s.f (wb s.g ++ (wb s.h ++ (R))) (by simp only [hs, List.append_assoc, List.nil_append]) (by simp only [List.length_append, wb_length, List.length_nil])
  have h6 := e 6 (wb s.a ++ (wb s.b ++ (wb s.c ++ (wb s.d ++ (wb s.e ++ wb s.f))))) s.g (wb s.h ++ (R)) (by simp only [hs, List.append_assoc, List.nil_append]) (by simp only [List.length_append, wb_length, List.length_nil])
  have h7 := e 7 (wb s.a ++ (wb s.b ++ (wb s.c ++ (wb s.d ++ (wb s.e ++ (wb s.f ++ wb s.g)))))) s.h R (by simp only [hs, List.append_assoc, List.nil_append]) (by simp only [List.length_append, wb_length, List.length_nil])
  unfold ldS
  simp only [ldU, h0, h1, h2, h3, h4, h5, h6, h7, St.put]

theorem ldN_sv (s : St) (n : Nat) (r : List UInt8) (hn : n < 18446744073709551616) : ldN (svB s n r) = n := by
  have hd : (svB s n r).drop 32 = lb n ++ r := by
    unfold svB
    rw [List.append_assoc, List.drop_append_of_le_length (by rw [sb_length]; exact Nat.le_refl _), List.drop_of_length_le (by rw [sb_length]; exact Nat.le_refl _), List.nil_append]
  unfold ldN
  rw [hd]
  unfold lb
  rw [List.append_assoc]
  have e0 := wdAt_wb [] (wb (BitVec.ofNat 32 n) ++ r) (BitVec.ofNat 32 (n / 4294967296)) 0 rfl
  have e1 := wdAt_wb (wb (BitVec.ofNat 32 (n / 4294967296))) r (BitVec.ofNat 32 n) 1 rfl
  rw [List.nil_append] at e0
  rw [e0, e1]
  unfold ln8
  rw [BitVec.toNat_ofNat, BitVec.toNat_ofNat]
  omega

theorem drop_sv (s : St) (n : Nat) (r : List UInt8) : (svB s n r).drop 40 = r := by
  unfold svB
  have : (sb s ++ lb n).length = 40 := rfl
  rw [List.drop_append_of_le_length (by omega), List.drop_of_length_le (by omega), List.nil_append]

theorem ldOk_sv (s : St) (n : Nat) (r : List UInt8) (hn : n < 18446744073709551616) (hr : r.length = n % 64) : ldOk (svB s n r) := by
  unfold ldOk
  rw [ldN_sv s n r hn, svB_length]
  omega

theorem more_app (c : Wd) (p q : List UInt8) : more c (p ++ q) = more (more c p) q := by
  unfold more
  rw [List.foldl_append, BitVec.not_not]

theorem oth_length (ls : List Dg) (i : Nat) : (oth ls i).length = stp i ls.length := by
  induction hn : ls.length using Nat.strongRecOn generalizing ls i with
  | ind n ih =>
    subst hn
    by_cases h1 : ls.length ≤ 1
    · rw [oth_one ls i h1, stp_one i _ h1]; rfl
    · have hb := hf_bounds ls.length (by omega)
      by_cases hi : i < hf ls.length
      · rw [oth_left ls i (by omega) hi, stp_left i _ (by omega) hi, List.length_append, ih _ (by simp; omega) (ls.take (hf ls.length)) i rfl]
        rw [List.length_take, Nat.min_eq_left (by omega)]
        simp; omega
      · rw [oth_right ls i (by omega) hi, stp_right i _ (by omega) hi, List.length_append, ih _ (by simp; omega) (ls.drop (hf ls.length)) (i - hf ls.length) rfl]
        rw [List.length_drop]
        simp; omega

/-- Climbing leads to the root. -/
theorem clm_oth (ls : List Dg) (i : Nat) (h : i < ls.length) : clm (ls.getD i []) i ls.length (oth ls i) = root ls := by
  induction hn : ls.length using Nat.strongRecOn generalizing ls i with
  | ind n ih =>
    subst hn
    by_cases h1 : ls.length ≤ 1
    · rw [clm_one _ _ _ _ h1]
      obtain ⟨d, rfl⟩ : ∃ d, ls = [d] := List.length_eq_one_iff.1 (by omega)
      rw [root_one]
      have : i = 0 := by simp at h; exact h
      subst this
      rfl
    · have hb := hf_bounds ls.length (by omega)
      rw [root_more ls (by omega)]
      by_cases hi : i < hf ls.length
      · have := ih _ (by simp; omega) (ls.take (hf ls.length)) i (by simp; omega) rfl
        have e1 : (ls.take (hf ls.length)).getD i [] = ls.getD i [] := by
          rw [List.getD_eq_getElem?_getD, List.getD_eq_getElem?_getD, List.getElem?_take, if_pos hi]
        have e2 : (ls.take (hf ls.length)).length = hf ls.length := by simp; omega
        rw [e1, e2] at this
        rw [clm_left _ _ _ _ (by omega) hi, oth_left ls i (by omega) hi]
        generalize ls.getD i [] = d at *
        simp [this]
      · have := ih _ (by simp; omega) (ls.drop (hf ls.length)) (i - hf ls.length) (by simp; omega) rfl
        have e1 : (ls.drop (hf ls.length)).getD (i - hf ls.length) [] = ls.getD i [] := by
          rw [List.getD_eq_getElem?_getD, List.getD_eq_getElem?_getD, List.getElem?_drop, show hf ls.length + (i - hf ls.length) = i by omega]
        have e2 : (ls.drop (hf ls.length)).length = ls.length - hf ls.length := by simp
        rw [e1, e2] at this
        rw [clm_right _ _ _ _ (by omega) hi, oth_right ls i (by omega) hi]
        generalize ls.getD i [] = d at *
        simp [this]

theorem clR_oth (ls : List Dg) (i : Nat) (h : i < ls.length) (hl : ls.length ≤ 1048576) : clR (ls.getD i []) ((i : Nat) : Int) ((ls.length : Nat) : Int) (oth ls i) = (root ls, 0) := by
  unfold clR
  rw [if_pos ⟨by omega, by omega, by omega, by rw [oth_length]; simp⟩]
  simp only [Int.toNat_natCast]
  rw [clm_oth ls i h]
end Go.Proofs.YtlicmlioilkfdaaDoor
