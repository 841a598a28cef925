/-
  The walk of the laws' shards: bytes in shards of one length.
-/
import Derived.Test.YtckmddkhkdcmmaaRs14
import Derived.Test.YtckmddkhkdcmmaaAnyMath
namespace Go.Proofs.Ytckmddkhkdcmmaa
open Go.RowKit
set_option linter.unusedVariables false

attribute [local go_sem ↓] Go.wp_at_zero Go.wp_at_succ

/-- Bytes in k shards of n. -/
def shL (n : Nat) (p : List UInt8) (i : Nat) : List (List UInt8) := (List.range i).map (fun j => (p.drop (j * n)).take n)
theorem shL_length (n : Nat) (p : List UInt8) (i : Nat) : (shL n p i).length = i := by simp [shL]
theorem shL_succ (n : Nat) (p : List UInt8) (i : Nat) : shL n p (i + 1) = shL n p i ++ [(p.drop (i * n)).take n] := by simp [shL, List.range_succ]
theorem shL_wid {n k : Nat} {p : List UInt8} (h : k * n ≤ p.length) : ∀ l ∈ shL n p k, l.length = n := by
  intro l hl
  obtain ⟨j, hj, rfl⟩ := List.mem_map.1 hl
  have hj := List.mem_range.1 hj
  have : (j + 1) * n ≤ k * n := Nat.mul_le_mul_right _ hj
  rw [Nat.succ_mul] at this
  rw [List.length_take, List.length_drop]
  omega

/-- A part of a slice. -/
theorem Rd.part {w : World} {ao : Option Addr} {n cap : Nat} {l : List UInt8} (h : Rd w (.slice ao n cap) l) (a k : Nat) (hle : a + k ≤ l.length) (ha : ∀ ad, ao = some ad → ad.spot = none) : Rd w (.slice (ao.map (fun ad => ⟨ad.block, ad.off + a, none⟩)) k (cap - a)) ((l.drop a).take k) := by
  have hlen : ((l.drop a).take k).length = k := by simp; omega
  rcases h with ⟨hv, rfl⟩ | ⟨ad, cap', hv, h1, h2, h3⟩
  · simp only [Value.slice.injEq] at hv
    obtain ⟨rfl, -, rfl⟩ := hv
    simp at hle
    obtain ⟨rfl, rfl⟩ := hle
    exact .inl ⟨rfl, by simp⟩
  · simp only [Value.slice.injEq] at hv
    obtain ⟨rfl, -, rfl⟩ := hv
    refine .inr ⟨⟨ad.block, ad.off + a, none⟩, cap - a, by rw [hlen]; rfl, by omega, by omega, fun j hj => ?_⟩
    rw [hlen] at hj
    obtain ⟨b, o, s⟩ := ad
    have hs := ha _ rfl
    simp only at hs
    subst hs
    have := h3 (a + j) (by omega)
    rw [Addr.add_lit] at this ⊢
    rw [Nat.add_assoc, this]
    simp

theorem rd_empty (w : World) (ad : Addr) (c : Nat) (hc : c ≤ maxLen) : Rd w (.slice (some ad) 0 c) [] := .inr ⟨ad, c, rfl, Nat.zero_le _, hc, fun j hj => by simp at hj⟩

set_option maxHeartbeats 4000000 in
set_option maxRecDepth 100000 in
theorem shards_any (w : World) (v : Value) (p : List UInt8) (k n : Nat) (h : Rd w v p) (hk : 1 ≤ k ∧ k ≤ 16) (hp : p.length ≤ 9000) (hn : n = p.length / k) :
    Calls Try.prog 60 #[.int .i64 (k : Int), v] w fun e w' => (∃ ao ac, e = .returned (.slice ao k ac) ∧ LN w.heap.size w' (.slice ao k ac) (shL n p k)) ∧ Fr (fun _ => False) w w' := by
  have H := hide h
  obtain ⟨vo, vc, rfl⟩ := h.shape
  have hkn : k * n ≤ p.length := by rw [hn]; exact Nat.mul_div_le _ _
  have hn2 : n ≤ p.length := by rw [hn]; exact Nat.div_le_self _ _
  have ediv : (p.length : Int).tdiv (k : Int) = (n : Int) := by rw [hn]; rfl
  obtain ⟨L, hL⟩ : ∃ L, L = p.length := ⟨_, rfl⟩
  have HLn := hide hL
  have hcap : L ≤ vc := by
    rw [hL]
    rcases h with ⟨hv, hp0⟩ | ⟨ad, cap', hv, h1, h2, h3⟩
    · rw [hp0]; simp
    · simp only [Value.slice.injEq] at hv; omega
  rw [← hL] at hp hkn hn2 ediv H ⊢
  obtain ⟨inf, hi0, hz0, hz1, hz2⟩ := info_parts Try.info22
  clear h hn hL
  go_enter Try.func60, Try.ntmps60
  go_wp2_with fail
  clear ediv
  go_loopw [6, 7] (fun hx x w' => ∃ i : Nat, i ≤ k ∧ x = .int .i64 (i : Int) ∧ (∃ ao ac, hx = .slice ao i ac ∧ AL w.heap.size w' (.slice ao i ac) (shL n p i)) ∧ Fr (fun _ => False) w w') (fun _ x _ => k - (intOf x).toNat)
  case atStart => exact ⟨0, by omega, rfl, ⟨none, 0, rfl, by simpa [shL] using AL.nil w.heap.size w⟩, Fr.refl _ _⟩
  case round =>
    obtain ⟨i, hi, rfl, ⟨ao, ac, rfl, hA⟩, hf⟩ := hrel
    by_cases hlt : i < k
    · have hin : (i + 1) * n ≤ k * n := Nat.mul_le_mul_right _ hlt
      obtain ⟨a, ha⟩ : ∃ a, a = i * n := ⟨_, rfl⟩
      have ha2 : (i + 1) * n = a + n := by rw [Nat.succ_mul, ha]
      rw [ha2] at hin
      have e1 : (i : Int) * (n : Int) = (a : Int) := by rw [ha]; simp
      have e2 : ((i : Int) + 1) * (n : Int) = ((a + n : Nat) : Int) := by rw [← ha2]; simp
      have e3 : ((a + n : Nat) : Int) = (a : Int) + (n : Int) := by simp
      obtain ⟨vs, hO, hvl, hrows⟩ := hA.ex
      have hvi : vs.length = i := by rw [hvl, shL_length]
      have HO := hide (show wr.ownsRow 0 22 1 (.slice ao i ac) i vs by rw [hvi] at hO; exact hO)
      have HA := hide hA
      have Hf := hide hf
      have HRO := hide hrows
      have HVL := hide hvl
      have HVI := hide hvi
      have HSU := hide (shL_succ n p i)
      rw [← ha] at HSU
      have hRp := (unhide H).kept hf (fun _ _ h => h)
      have hmx : vc ≤ maxLen := by
        rcases hRp with ⟨hv, -⟩ | ⟨ad, cap', hv, h1, h2, h3⟩
        · simp only [Value.slice.injEq] at hv; rw [hv.2.2]; simp [maxLen]
        · simp only [Value.slice.injEq] at hv; rw [hv.2.2]; exact h2
      have hplen : ((p.drop a).take n).length = n := by rw [List.length_take, List.length_drop, ← unhide HLn]; omega
      have HMX := hide hmx
      have HPT := hide (show ∀ W, Fr (fun _ => False) wr W → ∀ vb vof, vo = some ⟨vb, vof, none⟩ → Rd W (.slice (if vc = a then some ⟨vb, vof, none⟩ else some ⟨vb, vof + a, none⟩) n (vc - a)) ((p.drop a).take n) from by
        intro W f vb vof e
        subst e
        have hpart := Rd.part (hRp.kept f (fun _ _ h => h)) a n (by rw [← unhide HLn]; omega) (fun ad e => by simp at e; subst e; rfl)
        by_cases hc : vc = a
        · rw [if_pos hc]
          have hn0 : n = 0 := by omega
          have he : (p.drop a).take n = [] := List.eq_nil_of_length_eq_zero (by omega)
          rw [he, hn0]
          exact rd_empty _ _ _ (by have := unhide HMX; omega)
        · rw [if_neg hc]; exact hpart)
      have HP0 := hide (show L = 0 → (p.drop a).take n = [] from fun e => List.eq_nil_of_length_eq_zero (by omega))
      have HLT := hide (show 0 < L → ∃ vb vof, vo = some ⟨vb, vof, none⟩ from fun h => by
        obtain ⟨vb, vof, e, -⟩ := hRp.lits (by rw [← unhide HLn]; exact h)
        exact ⟨vb, vof, e⟩)
      have HV0 := hide (show vo = none → vc = 0 from fun e => by
        subst e
        rcases hRp with ⟨hv, -⟩ | ⟨ad, cap', hv, h1, h2, h3⟩
        · simp only [Value.slice.injEq] at hv; exact hv.2.2
        · simp at hv)
      have HPL := hide hplen
      generalize (p.drop a).take n = part at *
      have b1 : a ≤ a + n := by omega
      have b2 : a + n ≤ vc := by omega
      have hpl2 : part.length ≤ 100000 := by omega
      clear hRp hplen hmx hA hf hO hrows hvl hvi ha ha2
      obtain ⟨inf5, hi5, hy0, hy1, hy2⟩ := info_parts Try.info5
      have fin : ∀ (ao1 : Option Addr) (ac1 : Nat) (w1 : World), w1.ownsRow 0 5 1 (.slice ao1 n ac1) n (bvs part) → (wr.alloc (Obj.cells #[] 5)).grownBy w1 (some wr.heap.size) → ((Value.slice ao1 n ac1).ownBlock = (Value.slice (some ⟨wr.heap.size, 0, none⟩) 0 0).ownBlock ∨ ∃ k, (Value.slice ao1 n ac1).ownBlock = some k ∧ wr.heap.size + 1 ≤ k) →
          Rd w1 (.slice ao1 n ac1) part ∧ Wb w.heap.size w1 (.slice ao1 n ac1) ∧ Fr (fun _ => False) wr w1 := by
        intro ao1 ac1 w1 o1 g1 p1
        have hsz := (unhide Hf).size
        refine ⟨Rd.of_owns (w := w1) (base := 0) (by rw [unhide HPL]; exact o1), fun b hb => ⟨?_, owns_ty o1 hb⟩, grown_fr (wr := wr) ((Fr.refl _ _).alloc _) g1 (fun k hk => by simp at hk; omega)⟩
        rcases p1 with e | ⟨k', e, hk'⟩
        · rw [e] at hb; simp [Value.ownBlock] at hb; omega
        · rw [e] at hb; simp at hb; omega
      have HFIN := hide fin
      clear fin
      by_cases hL0 : 0 < L
      · obtain ⟨vb, vof, rfl⟩ := unhide HLT hL0
        by_cases hc : vc = a
        · exfalso
          have hn0 : n = 0 := by omega
          rw [hn0, Nat.mul_zero] at hin
          omega
        · go_wp2_with (at_builtin; (refine wpList_app rfl (.tmp 18) (.tmp 27) 22 rfl 5 inf5 _ 1 1 Try.underlying22 hi5 hy0 hy1 hy2 rfl (by decide) (.slice (some ⟨wr.heap.size, 0, none⟩) 0 0) 0 [] rfl (.slice (some ⟨vb, vof + a, none⟩) n (vc - a)) (congrArg (fun z => Value.slice (some ⟨vb, vof + a, none⟩) z (vc - a)) (Nat.add_sub_cancel_left a n)) n (bvs part) (owns_new (heap_alloc_new wr _)) (by have h := unhide HPT (wr.alloc (Obj.cells #[] 5)) ((Fr.refl (fun _ => False) wr).alloc _) vb vof rfl; rw [if_neg hc] at h; have h2 := Rd.sr h; rw [unhide HPL] at h2; exact h2) (bvs_one _) (by omega) (by simp only [maxLen]; omega) ?_))
          intro ao1 ac1 w1 o1 g1 p1
          try simp only [Nat.zero_add, List.nil_append] at o1 p1
          obtain ⟨R1, W1, f1⟩ := unhide HFIN ao1 ac1 w1 o1 g1 p1
          have HR1 := hide R1
          have HW1 := hide W1
          have HF1 := hide f1
          clear o1 g1 p1 R1 W1 f1
          go_wp2_with (at_builtin; refine wpList_app rfl (.tmp 17) (.tmp 29) 65 rfl 22 inf _ 1 24 Try.underlying65 hi0 hz0 hz1 hz2 rfl (by decide) (.slice ao i ac) i vs rfl (.slice (some ⟨w1.heap.size, 0, none⟩) 1 1) rfl 1 [.slice ao1 n ac1] ((owns_kept (unhide HO) (unhide HF1) (fun _ _ h => h)).alloc _) (one_cellV w1 _ 22) (fun u hu => by simp at hu; subst hu; rfl) (by omega) (by simp only [maxLen]; omega) ?_)
          intro ao3 ac3 w3 o3 g3 p3
          have hAL := AL.app (N := w.heap.size) (w := w1) (w' := w3) (ao := ao) (n := i) (ac := ac) (ls := shL n p i) vs (by rw [unhide HVI]; exact owns_kept (unhide HO) (unhide HF1) (fun _ _ h => h)) (unhide HVL) (fun j x l hx hl => ⟨(unhide HRO j x l hx hl).1.kept (unhide HF1) (fun _ _ h => h), (unhide HRO j x l hx hl).2.kept (unhide HF1)⟩) (unhide HA).new (.slice ao1 n ac1) part (unhide HR1) (unhide HW1) (by have := (unhide Hf).size; have := (unhide HF1).size; omega) o3 g3 (by rcases p3 with e | ⟨k', e, hk'⟩; (· exact .inl e); (· exact .inr ⟨k', e, by simpa using hk'⟩))
          have HAL := hide hAL.1
          have HF3 := hide (((unhide Hf).trans (unhide HF1) (fun _ _ h => h)).trans hAL.2 (fun k hk e => by have := (unhide HA).new k e; omega))
          clear hAL o3 g3 p3
          go_wp2_with fail
          go_roundw
          case rel => exact ⟨i + 1, by omega, by go_num, ⟨ao3, ac3, rfl, by rw [unhide HSU]; exact unhide HAL⟩, unhide HF3⟩
          case measure => simp [intOf]; omega
      · have hn0 : n = 0 := by omega
        have ha0 : a = 0 := by omega
        have hL1 : L = 0 := by omega
        have hp0 := unhide HP0 hL1
        subst hn0 ha0 hL1
        subst hp0
        clear e1 e2 e3
        rcases vo with _ | ad
        · have hv0 := unhide HV0 rfl
          subst hv0
          go_wp2_with (at_builtin; (refine wpList_app rfl (.tmp 18) (.tmp 27) 22 rfl 5 inf5 _ 1 1 Try.underlying22 hi5 hy0 hy1 hy2 rfl (by decide) (.slice (some ⟨wr.heap.size, 0, none⟩) 0 0) 0 [] rfl _ rfl 0 (bvs []) (owns_new (heap_alloc_new wr _)) (by first | exact Rd.sr (rd_empty _ _ _ (by have := unhide HMX; simp only [maxLen] at *; omega)) | exact .inl ⟨rfl, rfl, rfl⟩) (bvs_one _) (by omega) (by simp only [maxLen]; omega) ?_))
          intro ao1 ac1 w1 o1 g1 p1
          try simp only [Nat.zero_add, List.nil_append] at o1 p1
          obtain ⟨R1, W1, f1⟩ := unhide HFIN ao1 ac1 w1 o1 g1 p1
          have HR1 := hide R1
          have HW1 := hide W1
          have HF1 := hide f1
          clear o1 g1 p1 R1 W1 f1
          go_wp2_with (at_builtin; refine wpList_app rfl (.tmp 17) (.tmp 29) 65 rfl 22 inf _ 1 24 Try.underlying65 hi0 hz0 hz1 hz2 rfl (by decide) (.slice ao i ac) i vs rfl (.slice (some ⟨w1.heap.size, 0, none⟩) 1 1) rfl 1 [.slice ao1 0 ac1] ((owns_kept (unhide HO) (unhide HF1) (fun _ _ h => h)).alloc _) (one_cellV w1 _ 22) (fun u hu => by simp at hu; subst hu; rfl) (by omega) (by simp only [maxLen]; omega) ?_)
          intro ao3 ac3 w3 o3 g3 p3
          have hAL := AL.app (N := w.heap.size) (w := w1) (w' := w3) (ao := ao) (n := i) (ac := ac) (ls := shL 0 p i) vs (by rw [unhide HVI]; exact owns_kept (unhide HO) (unhide HF1) (fun _ _ h => h)) (unhide HVL) (fun j x l hx hl => ⟨(unhide HRO j x l hx hl).1.kept (unhide HF1) (fun _ _ h => h), (unhide HRO j x l hx hl).2.kept (unhide HF1)⟩) (unhide HA).new (.slice ao1 0 ac1) [] (unhide HR1) (unhide HW1) (by have := (unhide Hf).size; have := (unhide HF1).size; omega) o3 g3 (by rcases p3 with e | ⟨k', e, hk'⟩; (· exact .inl e); (· exact .inr ⟨k', e, by simpa using hk'⟩))
          have HAL := hide hAL.1
          have HF3 := hide (((unhide Hf).trans (unhide HF1) (fun _ _ h => h)).trans hAL.2 (fun k hk e => by have := (unhide HA).new k e; omega))
          clear hAL o3 g3 p3
          go_wp2_with fail
          go_roundw
          case rel =>
            refine ⟨_, _, _, _, _, _, _, _, _, _, _, _, _, _, _, _, _, _, _, _, _, ?_, rfl⟩
            exact ⟨i + 1, by omega, by go_num, ⟨ao3, ac3, rfl, by rw [unhide HSU]; exact unhide HAL⟩, unhide HF3⟩
          case measure => simp [intOf]; omega
        · go_wp2_with (at_builtin; (refine wpList_app rfl (.tmp 18) (.tmp 27) 22 rfl 5 inf5 _ 1 1 Try.underlying22 hi5 hy0 hy1 hy2 rfl (by decide) (.slice (some ⟨wr.heap.size, 0, none⟩) 0 0) 0 [] rfl _ rfl 0 (bvs []) (owns_new (heap_alloc_new wr _)) (by first | exact Rd.sr (rd_empty _ _ _ (by have := unhide HMX; simp only [maxLen] at *; omega)) | exact .inl ⟨rfl, rfl, rfl⟩) (bvs_one _) (by omega) (by simp only [maxLen]; omega) ?_))
          intro ao1 ac1 w1 o1 g1 p1
          try simp only [Nat.zero_add, List.nil_append] at o1 p1
          obtain ⟨R1, W1, f1⟩ := unhide HFIN ao1 ac1 w1 o1 g1 p1
          have HR1 := hide R1
          have HW1 := hide W1
          have HF1 := hide f1
          clear o1 g1 p1 R1 W1 f1
          go_wp2_with (at_builtin; refine wpList_app rfl (.tmp 17) (.tmp 29) 65 rfl 22 inf _ 1 24 Try.underlying65 hi0 hz0 hz1 hz2 rfl (by decide) (.slice ao i ac) i vs rfl (.slice (some ⟨w1.heap.size, 0, none⟩) 1 1) rfl 1 [.slice ao1 0 ac1] ((owns_kept (unhide HO) (unhide HF1) (fun _ _ h => h)).alloc _) (one_cellV w1 _ 22) (fun u hu => by simp at hu; subst hu; rfl) (by omega) (by simp only [maxLen]; omega) ?_)
          intro ao3 ac3 w3 o3 g3 p3
          have hAL := AL.app (N := w.heap.size) (w := w1) (w' := w3) (ao := ao) (n := i) (ac := ac) (ls := shL 0 p i) vs (by rw [unhide HVI]; exact owns_kept (unhide HO) (unhide HF1) (fun _ _ h => h)) (unhide HVL) (fun j x l hx hl => ⟨(unhide HRO j x l hx hl).1.kept (unhide HF1) (fun _ _ h => h), (unhide HRO j x l hx hl).2.kept (unhide HF1)⟩) (unhide HA).new (.slice ao1 0 ac1) [] (unhide HR1) (unhide HW1) (by have := (unhide Hf).size; have := (unhide HF1).size; omega) o3 g3 (by rcases p3 with e | ⟨k', e, hk'⟩; (· exact .inl e); (· exact .inr ⟨k', e, by simpa using hk'⟩))
          have HAL := hide hAL.1
          have HF3 := hide (((unhide Hf).trans (unhide HF1) (fun _ _ h => h)).trans hAL.2 (fun k hk e => by have := (unhide HA).new k e; omega))
          clear hAL o3 g3 p3
          go_wp2_with fail
          go_roundw
          case rel =>
            refine ⟨_, _, _, _, _, _, _, _, _, _, _, _, _, _, _, _, _, _, _, _, _, ?_, rfl⟩
            exact ⟨i + 1, by omega, by go_num, ⟨ao3, ac3, rfl, by rw [unhide HSU]; exact unhide HAL⟩, unhide HF3⟩
          case measure => simp [intOf]; omega
    · have hie : i = k := by omega
      subst hie
      have HA := hide hA
      have Hf := hide hf
      clear hA hf
      go_wp2_with fail
      go_ret
      exact ⟨⟨_, _, rfl, (unhide HA).ln⟩, unhide Hf⟩

end Go.Proofs.Ytckmddkhkdcmmaa
