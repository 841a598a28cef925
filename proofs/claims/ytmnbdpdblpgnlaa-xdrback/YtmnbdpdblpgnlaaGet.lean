/-
  The walks of List, Chain and Option, as the laws use them.
-/
import Derived.Test.YtmnbdpdblpgnlaaPut
namespace Go.Proofs.Ytmnbdpdblpgnlaa
open Go.RowKit
set_option linter.unusedVariables false

attribute [local go_sem ↓] Go.wp_at_zero Go.wp_at_succ

theorem Try.info52 : (Try.prog.info? 52).map (fun i => (i.zero, i.size, i.bytes)) = some (some (.int .u32 0), 1, 4) := by kernel_rfl
theorem Try.info9 : (Try.prog.info? 9).map (fun i => (i.zero, i.size, i.bytes)) = some (some (.string ByteArray.empty), 1, 16) := by kernel_rfl

theorem getNum_any (w : World) (p : Nat) (q : Option Nat) (D : List UInt8) (a : Nat) (E : Int) (h : RAt w p q D a E) (hD : D.length ≤ maxLen) :
    Calls Try.prog 43 #[.pointer (some ⟨p, 0, none⟩)] w fun e w' => e = .returned (.int .u32 ((ru D a E).1 : Int)) ∧ RAt w' p q D (ru D a E).2.1 (ru D a E).2.2 ∧ Fr (fun k => k = p) w w' := by
  go_enter Try.func43, Try.ntmps43
  go_wp2_with (go_at_call 35; refine (ruint_any w p q D a E h hD).mono ?_; rintro e w' ⟨rfl, h'⟩)
  go_ret
  exact ⟨rfl, h'⟩

theorem getText_any (w : World) (p : Nat) (q : Option Nat) (D : List UInt8) (a : Nat) (E : Int) (h : RAt w p q D a E) (hD : D.length ≤ maxLen) :
    Calls Try.prog 46 #[.pointer (some ⟨p, 0, none⟩)] w fun e w' => e = .returned (.string (str (rcnt D a E 7).1)) ∧ RAt w' p q D (rcnt D a E 7).2.1 (rcnt D a E 7).2.2 ∧ Fr (fun k => k = p) w w' := by
  go_enter Try.func46, Try.ntmps46
  go_wp2_with (go_at_call 39; refine (rtext_any w p q D a E 7 h hD).mono ?_; rintro e w' ⟨rfl, h'⟩)
  go_ret
  exact ⟨rfl, h'⟩

theorem owns_kept {S : Nat → Prop} {w w' : World} {e : TypeId} {size : Nat} {v : Value} {n : Nat} {xs : List Value} (h : w.ownsRow 0 e size v n xs) (f : Fr S w w') (hS : ∀ k, v.ownBlock = some k → ¬ S k) : w'.ownsRow 0 e size v n xs := by
  refine ⟨h.1, ?_⟩
  rcases h.2 with h4 | ⟨g, cap, cur, rfl, hb, hg, r⟩
  · exact .inl h4
  · exact .inr ⟨g, cap, cur, rfl, hb, by rw [f.block g (lt_of_heap hg) (hS g rfl)]; exact hg, r⟩

/-- So many values, by a function of place and error; none behind an error. -/
def rloop {α : Type} (get : Nat → Int → α × Nat × Int) : Nat → List α → Nat → Int → List α × Nat × Int
  | 0, l, a, E => (l, a, E)
  | n + 1, l, a, E => if (get a E).2.2 ≠ 0 then ([], (get a E).2.1, (get a E).2.2) else rloop get n (l ++ [(get a E).1]) (get a E).2.1 (get a E).2.2

theorem rloop_succ {α : Type} (get : Nat → Int → α × Nat × Int) (n : Nat) (l : List α) (a : Nat) (E : Int) : rloop get (n + 1) l a E = if (get a E).2.2 ≠ 0 then ([], (get a E).2.1, (get a E).2.2) else rloop get n (l ++ [(get a E).1]) (get a E).2.1 (get a E).2.2 := rfl

/-- A number, as a value's number. -/
def gnum (D : List UInt8) (a : Nat) (E : Int) : Int × Nat × Int := (((ru D a E).1 : Int), (ru D a E).2.1, (ru D a E).2.2)
/-- A text. -/
def gtext (D : List UInt8) (a : Nat) (E : Int) : ByteArray × Nat × Int := (str (rcnt D a E 7).1, (rcnt D a E 7).2.1, (rcnt D a E 7).2.2)

/-- List of numbers. -/
def rlistN (D : List UInt8) (a : Nat) (E : Int) (most : Int) : List Int × Nat × Int := rloop (gnum D) (rlen D a E most).1 [] (rlen D a E most).2.1 (rlen D a E most).2.2
/-- List of texts. -/
def rlistS (D : List UInt8) (a : Nat) (E : Int) (most : Int) : List ByteArray × Nat × Int := rloop (gtext D) (rlen D a E most).1 [] (rlen D a E most).2.1 (rlen D a E most).2.2

theorem uvs_snoc (l : List Int) (n : Int) : uvs (l ++ [n]) = uvs l ++ [Value.int .u32 n] := by simp [uvs]
theorem svs_snoc (l : List ByteArray) (t : ByteArray) : svs (l ++ [t]) = svs l ++ [Value.string t] := by simp [svs]

/-- One new cell, to be appended. -/
theorem sr_one (w : World) (x : Value) (e : TypeId) : Sr (w.alloc (.cells #[x] e)) 1 (.slice (some ⟨w.heap.size, 0, none⟩) 1 1) 1 [x] := by
  refine .inr ⟨_, _, rfl, rfl, fun j u hu => ?_⟩
  cases j with
  | zero =>
    simp at hu; subst hu
    rw [Addr.add_lit, cell_of_heap (heap_alloc_new w _)]; rfl
  | succ j => simp at hu

/-- A list that is being gathered, in memory that is newer than w. -/
def LAt (w wr : World) (e : TypeId) (v : Value) (n : Nat) (xs : List Value) : Prop := wr.ownsRow 0 e 1 v n xs ∧ ∀ k, v.ownBlock = some k → w.heap.size ≤ k

set_option maxHeartbeats 400000 in
theorem listN_any (w : World) (p : Nat) (q : Option Nat) (D : List UInt8) (a : Nat) (E : Int) (most : Int) (h : RAt w p q D a E) (hD : D.length ≤ maxLen) :
    Calls Try.prog 42 #[.pointer (some ⟨p, 0, none⟩), .int .i64 most, .func (.func 43) #[] #[]] w fun e w' => ∃ v, e = .returned v ∧ LAt w w' 52 v (rlistN D a E most).1.length (uvs (rlistN D a E most).1) ∧ RAt w' p q D (rlistN D a E most).2.1 (rlistN D a E most).2.2 ∧ Fr (fun k => k = p) w w' := by
  obtain ⟨i, hi, hz0, hz1, hz2⟩ := info_parts Try.info52
  have hlt := h.lt
  have HL := hide (rlength_any w p q D a E most h hD)
  have hn := rlen_lt D a E most
  unfold rlistN
  generalize rlen D a E most = R at *
  obtain ⟨n, a1, E1⟩ := R
  dsimp only at *
  clear h
  go_enter Try.func42, Try.ntmps42
  go_wp2_with fail
  go_step3
  go_wp2_with fail
  go_step3
  go_wp2_with fail
  refine (unhide HL).mono ?_
  rintro e w1 ⟨rfl, r1, f1⟩
  go_wp2_with fail
  go_loopw [7, 12] (fun v i w' => ∃ (k : Nat) (l : List Int) (a' : Nat) (E' : Int), k ≤ n ∧ i = .int .u32 k ∧ LAt w w' 52 v l.length (uvs l) ∧ l.length = k ∧ RAt w' p q D a' E' ∧ Fr (fun k => k = p) w w' ∧ rloop (gnum D) n [] a1 E1 = rloop (gnum D) (n - k) l a' E') (fun _ i _ => n - (intOf i).toNat)
  case atStart => exact ⟨0, [], a1, E1, Nat.zero_le _, rfl, ⟨World.ownsRow_nil _ _ _ _, fun k h => by simp [Value.ownBlock] at h⟩, rfl, r1, f1, rfl⟩
  case round =>
    obtain ⟨k, l, a', E', hk, rfl, hl, rfl, r2, f2, heq⟩ := hrel
    by_cases hlt2 : l.length < n
    · have HG := hide (getNum_any _ p q D a' E' r2 hD)
      have HN := hide heq
      rw [show n - l.length = (n - (l.length + 1)) + 1 from by omega, rloop_succ] at HN
      rw [show gnum D a' E' = (((ru D a' E').1 : Int), (ru D a' E').2.1, (ru D a' E').2.2) from rfl] at HN
      generalize ru D a' E' = g at *
      obtain ⟨m, a2, E2⟩ := g
      dsimp only at *
      have hpr := r2.lt
      obtain ⟨ao, cap, rfl⟩ := owns_shape hl.1
      have hpne : ∀ k, (Value.slice ao l.length cap).ownBlock = some k → ¬ k = p := fun k hk e => by have := hl.2 k hk; omega
      have HLA := hide hl
      clear r2 heq hl
      go_wp2_with fail
      refine (unhide HG).mono ?_
      rintro e w3 ⟨rfl, r3, f3⟩
      obtain ⟨v3, hp3, _⟩ := id r3
      have c2 := RAt.cell2 hp3
      clear hp3
      have hl3 := owns_kept (unhide HLA).1 f3 hpne
      by_cases hE2 : E2 = 0
      · subst hE2
        have HO := hide hl3
        clear hl3 hpne
        go_wp2_with (first | (go_at_call 75; refine (rstuck_any _ _ 0 c2).mono ?_; rintro e w' ⟨rfl, rfl⟩) | (at_builtin; refine wpList_app rfl (.tmp 19) (.tmp 21) 32 rfl 52 i _ 1 4 Try.underlying32 hi hz0 hz1 hz2 rfl (by decide) _ l.length (uvs l) rfl _ rfl 1 [.int .u32 (m : Int)] ?hown ?hx ?h1 ?hb ?h63 ?hK))
        case hown => exact (unhide HO).alloc _
        case hx => exact sr_one w3 _ 52
        case h1 => intro u hu; simp at hu; subst hu; rfl
        case hb => omega
        case h63 => simp only [maxLen]; omega
        case hK =>
          intro ao4 cap4 w4 ho4 hg4 hpl4
          have f4 : Fr (fun k => (Value.slice ao l.length cap).ownBlock = some k) w3 w4 := ((Fr.refl (fun k => (Value.slice ao l.length cap).ownBlock = some k) w3).alloc (.cells #[.int .u32 (m : Int)] 52)).grown hg4 (fun k _ e => e)
          have hfr := (unhide HLA).2
          have r4 := r3.kept f4 (fun e => by have := hfr _ e; omega) (fun k hk e => by have := hfr _ e; have := hlt.2 k hk; omega)
          have f5 : Fr (fun k => k = p) w w4 := (f2.trans f3 (fun _ _ h => h)).trans f4 (fun k hk e => by have := hfr _ e; omega)
          have hla : LAt w w4 52 (.slice ao4 (l.length + 1) cap4) (l ++ [(m : Int)]).length (uvs (l ++ [(m : Int)])) := by
            refine ⟨by rw [uvs_snoc, List.length_append]; exact ho4, fun j hj => ?_⟩
            rcases hpl4 with e | ⟨j', e, hj'⟩
            · exact hfr j (e ▸ hj)
            · rw [e] at hj
              have := (f2.trans f3 (fun _ _ h => h)).size
              simp at hj
              omega
          have HLA4 := hide hla
          clear hla ho4 hg4 hpl4 f4 HLA HO r3 c2
          go_wp2_with fail
          go_roundw
          case rel => exact ⟨l.length + 1, l ++ [(m : Int)], a2, 0, by omega, by go_num, unhide HLA4, by simp, r4, f5, by rw [unhide HN, if_neg (by simp)]⟩
          case measure => simp [intOf]; omega
      · have hb : (E2 != 0) = true := by simpa using hE2
        clear hl3
        go_wp2_with (go_at_call 75; refine (rstuck_any _ _ _ c2).mono ?_; rintro e w' ⟨rfl, rfl⟩)
        rw [Exit.noGoto_ret]
        go_ret
        rw [unhide HN, if_pos hE2]
        exact ⟨_, rfl, ⟨World.ownsRow_nil _ _ _ _, fun k h => by simp [Value.ownBlock] at h⟩, r3, f2.trans f3 (fun _ _ h => h)⟩
    · obtain ⟨ao, cap, rfl⟩ := owns_shape hl.1
      have HN := hide heq
      rw [show n - l.length = 0 from by omega] at HN
      clear heq
      go_wp2_with fail
      rw [Exit.noGoto_ret]
      go_ret
      rw [unhide HN]
      exact ⟨_, rfl, hl, r2, f2⟩

set_option maxHeartbeats 400000 in
theorem listS_any (w : World) (p : Nat) (q : Option Nat) (D : List UInt8) (a : Nat) (E : Int) (most : Int) (h : RAt w p q D a E) (hD : D.length ≤ maxLen) :
    Calls Try.prog 48 #[.pointer (some ⟨p, 0, none⟩), .int .i64 most, .func (.func 46) #[] #[]] w fun e w' => ∃ v, e = .returned v ∧ LAt w w' 9 v (rlistS D a E most).1.length (svs (rlistS D a E most).1) ∧ RAt w' p q D (rlistS D a E most).2.1 (rlistS D a E most).2.2 ∧ Fr (fun k => k = p) w w' := by
  obtain ⟨i, hi, hz0, hz1, hz2⟩ := info_parts Try.info9
  have hlt := h.lt
  have HL := hide (rlength_any w p q D a E most h hD)
  have hn := rlen_lt D a E most
  unfold rlistS
  generalize rlen D a E most = R at *
  obtain ⟨n, a1, E1⟩ := R
  dsimp only at *
  clear h
  go_enter Try.func48, Try.ntmps48
  go_wp2_with fail
  go_step3
  go_wp2_with fail
  go_step3
  go_wp2_with fail
  refine (unhide HL).mono ?_
  rintro e w1 ⟨rfl, r1, f1⟩
  go_wp2_with fail
  go_loopw [7, 12] (fun v i w' => ∃ (k : Nat) (l : List ByteArray) (a' : Nat) (E' : Int), k ≤ n ∧ i = .int .u32 k ∧ LAt w w' 9 v l.length (svs l) ∧ l.length = k ∧ RAt w' p q D a' E' ∧ Fr (fun k => k = p) w w' ∧ rloop (gtext D) n [] a1 E1 = rloop (gtext D) (n - k) l a' E') (fun _ i _ => n - (intOf i).toNat)
  case atStart => exact ⟨0, [], a1, E1, Nat.zero_le _, rfl, ⟨World.ownsRow_nil _ _ _ _, fun k h => by simp [Value.ownBlock] at h⟩, rfl, r1, f1, rfl⟩
  case round =>
    obtain ⟨k, l, a', E', hk, rfl, hl, rfl, r2, f2, heq⟩ := hrel
    by_cases hlt2 : l.length < n
    · have HG := hide (getText_any _ p q D a' E' r2 hD)
      have HN := hide heq
      rw [show n - l.length = (n - (l.length + 1)) + 1 from by omega, rloop_succ] at HN
      rw [show gtext D a' E' = (str (rcnt D a' E' 7).1, (rcnt D a' E' 7).2.1, (rcnt D a' E' 7).2.2) from rfl] at HN
      generalize rcnt D a' E' 7 = g at *
      obtain ⟨ml, a2, E2⟩ := g
      dsimp only at *
      generalize str ml = m at *
      have hpr := r2.lt
      obtain ⟨ao, cap, rfl⟩ := owns_shape hl.1
      have hpne : ∀ k, (Value.slice ao l.length cap).ownBlock = some k → ¬ k = p := fun k hk e => by have := hl.2 k hk; omega
      have HLA := hide hl
      clear r2 heq hl
      go_wp2_with fail
      refine (unhide HG).mono ?_
      rintro e w3 ⟨rfl, r3, f3⟩
      obtain ⟨v3, hp3, _⟩ := id r3
      have c2 := RAt.cell2 hp3
      clear hp3
      have hl3 := owns_kept (unhide HLA).1 f3 hpne
      by_cases hE2 : E2 = 0
      · subst hE2
        have HO := hide hl3
        clear hl3 hpne
        go_wp2_with (first | (go_at_call 75; refine (rstuck_any _ _ 0 c2).mono ?_; rintro e w' ⟨rfl, rfl⟩) | (at_builtin; refine wpList_app rfl (.tmp 19) (.tmp 21) 33 rfl 9 i _ 1 16 Try.underlying33 hi hz0 hz1 hz2 rfl (by decide) _ l.length (svs l) rfl _ rfl 1 [.string m] ?hown ?hx ?h1 ?hb ?h63 ?hK))
        case hown => exact (unhide HO).alloc _
        case hx => exact sr_one w3 _ 9
        case h1 => intro u hu; simp at hu; subst hu; rfl
        case hb => omega
        case h63 => simp only [maxLen]; omega
        case hK =>
          intro ao4 cap4 w4 ho4 hg4 hpl4
          have f4 : Fr (fun k => (Value.slice ao l.length cap).ownBlock = some k) w3 w4 := ((Fr.refl (fun k => (Value.slice ao l.length cap).ownBlock = some k) w3).alloc (.cells #[.string m] 9)).grown hg4 (fun k _ e => e)
          have hfr := (unhide HLA).2
          have r4 := r3.kept f4 (fun e => by have := hfr _ e; omega) (fun k hk e => by have := hfr _ e; have := hlt.2 k hk; omega)
          have f5 : Fr (fun k => k = p) w w4 := (f2.trans f3 (fun _ _ h => h)).trans f4 (fun k hk e => by have := hfr _ e; omega)
          have hla : LAt w w4 9 (.slice ao4 (l.length + 1) cap4) (l ++ [m]).length (svs (l ++ [m])) := by
            refine ⟨by rw [svs_snoc, List.length_append]; exact ho4, fun j hj => ?_⟩
            rcases hpl4 with e | ⟨j', e, hj'⟩
            · exact hfr j (e ▸ hj)
            · rw [e] at hj
              have := (f2.trans f3 (fun _ _ h => h)).size
              simp at hj
              omega
          have HLA4 := hide hla
          clear hla ho4 hg4 hpl4 f4 HLA HO r3 c2
          go_wp2_with fail
          go_roundw
          case rel => exact ⟨l.length + 1, l ++ [m], a2, 0, by omega, by go_num, unhide HLA4, by simp, r4, f5, by rw [unhide HN, if_neg (by simp)]⟩
          case measure => simp [intOf]; omega
      · have hb : (E2 != 0) = true := by simpa using hE2
        clear hl3
        go_wp2_with (go_at_call 75; refine (rstuck_any _ _ _ c2).mono ?_; rintro e w' ⟨rfl, rfl⟩)
        rw [Exit.noGoto_ret]
        go_ret
        rw [unhide HN, if_pos hE2]
        exact ⟨_, rfl, ⟨World.ownsRow_nil _ _ _ _, fun k h => by simp [Value.ownBlock] at h⟩, r3, f2.trans f3 (fun _ _ h => h)⟩
    · obtain ⟨ao, cap, rfl⟩ := owns_shape hl.1
      have HN := hide heq
      rw [show n - l.length = 0 from by omega] at HN
      clear heq
      go_wp2_with fail
      rw [Exit.noGoto_ret]
      go_ret
      rw [unhide HN]
      exact ⟨_, rfl, hl, r2, f2⟩

end Go.Proofs.Ytmnbdpdblpgnlaa
