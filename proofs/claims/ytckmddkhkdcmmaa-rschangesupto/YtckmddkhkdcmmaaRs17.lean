/-
  The walks of the laws' spoil, and of the document's Encode and Check.
-/
import Derived.Test.YtckmddkhkdcmmaaRs16
namespace Go.Proofs.Ytckmddkhkdcmmaa
open Go.RowKit
set_option linter.unusedVariables false

attribute [local go_sem ↓] Go.wp_at_zero Go.wp_at_succ

/-- Bytes that lie from ad on, when the byte at a is turned. -/
def putL (ad a : Addr) (c : UInt8) (l : List UInt8) : List UInt8 := l.mapIdx (fun j b => if ad.add j = a then c else b)
theorem putL_length (ad a : Addr) (c : UInt8) (l : List UInt8) : (putL ad a c l).length = l.length := by simp [putL]

def putV (a : Addr) (c : UInt8) : Value → List UInt8 → List UInt8
  | .slice (some ad) _ _, l => putL ad a c l
  | _, l => l
theorem putV_length (a : Addr) (c : UInt8) (v : Value) (l : List UInt8) : (putV a c v l).length = l.length := by
  unfold putV
  split
  · exact putL_length _ _ _ _
  · rfl

theorem Rd.put {w : World} {v : Value} {l : List UInt8} (h : Rd w v l) (a : Addr) (c : UInt8) : Rd (w.setCell a (.int .u8 ((c.toNat : Nat) : Int))) v (putV a c v l) := by
  rcases h with ⟨rfl, rfl⟩ | ⟨ad, cap, rfl, h1, h2, h3⟩
  · exact .inl ⟨rfl, rfl⟩
  · refine .inr ⟨ad, cap, by rw [putV_length], by rw [putV_length]; exact h1, h2, fun j hj => ?_⟩
    rw [putV_length] at hj
    have h4 := h3 j hj
    show _ = some (Value.int .u8 ((((putL ad a c l)[j]'(by rw [putL_length]; exact hj)).toNat : Nat) : Int))
    simp only [putL, List.getElem_mapIdx]
    by_cases e : ad.add j = a
    · rw [if_pos e, e, World.cell?_setCell_same' w a _ (by rw [← e, h4]; rfl)]
    · rw [if_neg e, World.cell?_setCell_other (h := fun e' => e e'.symm)]
      exact h4

theorem LN.put {N : Nat} {w : World} {v : Value} {ls : List (List UInt8)} (h : LN N w v ls) (b o : Nat) (c : UInt8) (hb : TyAt w b 5) : ∃ ls', LN N (w.setCell ⟨b, o, none⟩ (.int .u8 ((c.toNat : Nat) : Int))) v ls' ∧ ls'.map List.length = ls.map List.length := by
  obtain ⟨vs, h1, h2, h3, h4⟩ := h
  have f : Fr (fun k => k = b) w (w.setCell ⟨b, o, none⟩ (.int .u8 ((c.toNat : Nat) : Int))) := (Fr.refl (fun k => k = b) w).setCell (p := ⟨b, o, none⟩) (fun _ => rfl) _
  refine ⟨List.zipWith (putV ⟨b, o, none⟩ c) vs ls, ⟨vs, h1.kept f (fun k hk e => TyAt.ne (h4 k hk).2 hb (by decide) e), by simp [h2], fun i x l hx hl => ?_, fun k hk => ⟨(h4 k hk).1, (h4 k hk).2.setCell _ _ _⟩⟩, ?_⟩
  · rw [List.getElem?_zipWith, hx] at hl
    cases e : ls[i]? with
    | none => rw [e] at hl; simp at hl
    | some l0 =>
      rw [e] at hl
      simp at hl
      subst hl
      obtain ⟨r1, r2⟩ := h3 i x l0 hx e
      exact ⟨r1.put _ c, fun k hk => ⟨(r2 k hk).1, (r2 k hk).2.setCell _ _ _⟩⟩
  · apply List.ext_getElem
    · simp [h2]
    · intro i a1 a2
      simp [putV_length]

/-- What spoil may turn: bytes from N on. -/
def SpB (N : Nat) (w : World) (b : Nat) : Prop := N ≤ b

theorem lens_get {ls ls' : List (List UInt8)} (h : ls'.map List.length = ls.map List.length) {i : Nat} (hi : i < ls.length) : ∃ h' : i < ls'.length, (ls'[i]).length = (ls[i]).length := by
  have hl : ls'.length = ls.length := by have := congrArg List.length h; simpa using this
  refine ⟨by omega, ?_⟩
  have e : (ls'.map List.length)[i]? = (ls.map List.length)[i]? := by rw [h]
  rw [List.getElem?_map, List.getElem?_map, List.getElem?_eq_getElem hi, List.getElem?_eq_getElem (by omega)] at e
  simpa using e

set_option maxHeartbeats 4000000 in
set_option maxRecDepth 100000 in
theorem spoil_any (N : Nat) (w : World) (v : Value) (ls : List (List UInt8)) (h : LN N w v ls) (hl : ls.length ≤ 100000) (hb : ∀ l ∈ ls, l.length ≤ 100000) :
    Calls Try.prog 51 #[v] w fun e w' => e = .returned (.tuple #[]) ∧ Fr (fun b => N ≤ b) w w' := by
  have H := hide h
  obtain ⟨vo, vc, rfl⟩ := h.rdl.shape
  have HB := hide hb
  clear h hb
  go_enter Try.func51, Try.ntmps51
  go_wp2_with fail
  go_loopw [2, 3] (fun x _ w' => ∃ (i : Nat) (ls' : List (List UInt8)), i ≤ ls.length ∧ x = .int .i64 (i : Int) ∧ LN N w' (.slice vo ls.length vc) ls' ∧ ls'.map List.length = ls.map List.length ∧ Fr (fun b => N ≤ b) w w') (fun x _ _ => ls.length - (intOf x).toNat)
  case atStart => exact ⟨0, ls, by omega, rfl, unhide H, rfl, Fr.refl _ _⟩
  case round =>
    obtain ⟨i, ls1, hi, rfl, hL, hm, hf⟩ := hrel
    by_cases hlt : i < ls.length
    · have HL1 := hide hL
      have HM1 := hide hm
      have Hf1 := hide hf
      clear hL hm hf
      go_wp2_with fail
      go_loopw [3] (fun y w' => ∃ (t : Nat) (ls' : List (List UInt8)), t ≤ (ls[i]).length ∧ y = .int .i64 (t : Int) ∧ LN N w' (.slice vo ls.length vc) ls' ∧ ls'.map List.length = ls.map List.length ∧ Fr (fun b => N ≤ b) w w') (fun y _ => (ls[i]).length - (intOf y).toNat)
      case atStart => exact ⟨0, ls1, by omega, rfl, unhide HL1, unhide HM1, unhide Hf1⟩
      case round =>
        clear HL1 HM1 Hf1
        obtain ⟨t, ls2, ht, rfl, hL, hm, hf⟩ := hrel
        obtain ⟨hi2, hlen2⟩ := lens_get hm hlt
        obtain ⟨vs, h1, h2, h3, h4⟩ := hL
        obtain ⟨b, o, rfl, -, -, -, hcv⟩ := h1.lits (by omega)
        have hiv : i < vs.length := by omega
        have c1 := hcv i hiv
        obtain ⟨r1, r2⟩ := h3 i vs[i] ls2[i] (List.getElem?_eq_getElem hiv) (List.getElem?_eq_getElem hi2)
        obtain ⟨xo, xc, ex⟩ := r1.shape
        rw [ex] at c1 r1 r2
        rw [hlen2] at c1 r1 r2
        have hle := unhide HB _ (List.getElem_mem hlt)
        have HL := hide (show LN N wr (.slice (some ⟨b, o, none⟩) ls.length vc) ls2 from ⟨vs, h1, h2, h3, h4⟩)
        have HM := hide hm
        have Hf := hide hf
        by_cases htl : t < (ls[i]).length
        · obtain ⟨xb, xof, rfl, -, hxcap, -, hcx⟩ := r1.lits (by omega)
          have c2 := hcx t (by omega)
          obtain ⟨hxN, hxT⟩ := r2 xb rfl
          have z2 : wr.frozen? ⟨xb, xof + t, none⟩ = false := by obtain ⟨cs, hcs⟩ := hxT; exact frozen_of_heap hcs _
          generalize (ls2[i])[t]'(by omega) = old at c2
          have hxo : bits BinOp.xor IntKind.u8 ((old.toNat : Nat) : Int) 85 = (((old ^^^ 85).toNat : Nat) : Int) := xorV old 85
          have HP := hide ((unhide HL).put xb (xof + t) (old ^^^ 85) hxT)
          generalize (ls[i]).length = li at *
          have hxc2 : t < xc := by omega
          clear h1 h2 h3 h4 hcv ex r1 r2 hm hf hlen2 hcx hxcap hxT
          go_wp2_with fail
          go_region
          all_goals
            go_wp2_with fail
            go_roundw
            case rel =>
              obtain ⟨ls3, q1, q2⟩ := unhide HP
              exact ⟨t + 1, ls3, by omega, by go_num, by first | exact q1 | exact q1.kept (Fr.ofDrewN _ 1), q2.trans (unhide HM), by first | exact ((unhide Hf).setCell (fun _ => hxN) _).drew | exact (unhide Hf).setCell (fun _ => hxN) _⟩
            case measure => simp [intOf]; omega
        · generalize (ls[i]).length = li at *
          clear h1 h2 h3 h4 hcv ex r1 r2 hm hf hlen2
          go_wp2_with fail
          go_roundw
          case rel => exact ⟨i + 1, ls2, by omega, by go_num, unhide HL, unhide HM, unhide Hf⟩
          case measure => simp [intOf]; omega
    · have Hf := hide hf
      clear hL hm hf
      go_wp2_with fail
      go_end0
      exact ⟨rfl, unhide Hf⟩

end Go.Proofs.Ytckmddkhkdcmmaa
