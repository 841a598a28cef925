/-
  The walk of the law XdrReads.
-/
import Derived.Test.YtmnbdpdblpgnlaaWw
import Derived.Test.YtmnbdpdblpgnlaaRe
import Derived.Test.YtmnbdpdblpgnlaaQn
namespace Go.Proofs.Ytmnbdpdblpgnlaa
open Go.RowKit
set_option linter.unusedVariables false

attribute [local go_sem ↓] Go.wp_at_zero Go.wp_at_succ

theorem at_back (w : World) (p : Nat) (a : Int) (h : w.cell? ⟨p, 1, none⟩ = some (.int .i64 a)) : Calls Try.prog 19 #[.pointer (some ⟨p, 0, none⟩)] w fun e w' => e = .returned (.int .i64 a) ∧ w' = w :=
  (at_any w p a h).mono fun e w' ⟨h1, h2⟩ => ⟨h1, h2.symm⟩

theorem RAt.drewN {w : World} {p : Nat} {q : Option Nat} {D : List UInt8} {a : Nat} {E : Int} (h : RAt w p q D a E) (n : Nat) : RAt (w.drewN n) p q D a E := h
theorem QAt.drewN {w : World} {p : Nat} {q : Option Nat} {D : List UInt8} {a : Nat} {E : Int} (h : QAt w p q D a E) (n : Nat) : QAt (w.drewN n) p q D a E := h

set_option maxHeartbeats 2000000 in
set_option maxRecDepth 100000 in
theorem xdrReads_any (w : World) (xp x : Value) (D : List UInt8) (ss : List Sp) (hp : Rd w xp D) (hD1 : D.length ≤ 1048576) (hx : RdS w x ss) : Calls Try.prog 4 #[xp, x] w fun e w' => e = .returned (.bool true) ∧ Fr (fun _ => False) w w' := by
  have hlm := hx.len
  unfold maxLen at hlm
  have HH := hide (huge_any w x ss hx)
  obtain ⟨ao, cap, rfl⟩ := hx.shape
  obtain ⟨aop, capp, rfl⟩ := hp.shape
  obtain ⟨i5, hi5, hz0, hz1, hz2⟩ := info_parts Try.info5
  have HX0 := hx
  clear hx
  go_enter Try.func4, Try.ntmps4
  go_wp2_with fail
  refine (unhide HH).mono ?_
  rintro e w1 ⟨b, rfl, q1, hb⟩
  have f1 := q1.fr (fun _ => False)
  cases b
  · have h60 := hb rfl
    clear hb HH
    by_cases hD6 : (60000 : Int) < (D.length : Int)
    · go_wp2_with fail
      refine (live_any w1).mono ?_
      rintro e w2 ⟨rfl, f2⟩
      go_wp2_with fail
      go_ret
      exact ⟨rfl, f1.trans f2 (fun _ _ h => h)⟩
    · have hp1 := hp.kept f1 (fun _ _ h => h)
      go_wp2_with (at_builtin; refine wpList_app rfl (.tmp 21) (.tmp 22) 28 rfl 5 i5 _ 1 1 Try.underlying28 hi5 hz0 hz1 hz2 rfl (by decide) _ 0 [] rfl _ rfl D.length (bvs D) ?hown ?hx ?h1 ?hb ?h63 ?hK)
      case hown => exact ⟨rfl, .inr ⟨w1.heap.size, 0, #[], rfl, Nat.zero_le _, heap_alloc_new w1 _, Nat.le_refl _, by simp [maxLen], rfl, rfl⟩⟩
      case hx => exact (hp1.kept ((Fr.refl (fun _ => False) w1).alloc _) (fun _ _ h => h)).sr
      case h1 => exact bvs_one _
      case hb => omega
      case h63 => simp only [maxLen]; omega
      case hK =>
        intro ao4 cap4 w4 ho4 hg4 hpl4
        have f4 : Fr (fun _ => False) w1 w4 := ((Fr.refl (fun _ => False) w1).alloc _).grown hg4 (fun k hk e => by simp [Value.ownBlock] at e; omega)
        have hN4 : ∀ k, (Value.slice ao4 D.length cap4).ownBlock = some k → w1.heap.size ≤ k ∧ k < w4.heap.size := by
          intro k hk
          refine ⟨?_, (ho4.lt k hk).2⟩
          rcases hpl4 with e | ⟨k', e, hk'⟩
          · rw [e] at hk; simp [Value.ownBlock] at hk; omega
          · rw [e] at hk; simp at hk hk'; omega
        have F4 := f1.trans f4 (fun _ _ h => h)
        have HN4 := hide hN4
        have HO4 := hide ho4
        have HR := hide (newReader_any w4 _ D (Rd.of_owns ho4) (by omega))
        have hp4 := hp1.kept f4 (fun _ _ h => h)
        clear hpl4 hg4 ho4 hN4 hp1
        go_wp2_with fail
        refine (unhide HR).mono ?_
        rintro e w5 ⟨rp, rq, rfl, r5, np5, nq5, f5⟩
        have HQ := hide (qnew_any w5 _ D (hp4.kept f5 (fun _ _ h => h)) (by omega))
        clear hp4 HR
        go_wp2_with fail
        refine (unhide HQ).mono ?_
        rintro e w6 ⟨sp, sq, rfl, s6, np6, nq6, f6⟩
        have r6 := r5.kept f6 id (fun _ _ h => h)
        have f46 := f5.trans f6 (fun _ _ h => h)
        have F6 := F4.trans f46 (fun _ _ h => h)
        have HO6 : Hid (w6.ownsRow 0 5 1 (Value.slice ao4 D.length cap4) D.length (bvs D)) := owns_kept (unhide HO4) f46 (fun _ _ h => h)
        have hz45 := f5.size
        have hzw4 := F4.size
        have hzw1 := f1.size
        have hap := rq_apart r6 s6
        clear HQ HO4 r5
        go_wp2_with fail
        go_loopw [8] (fun i w' => ∃ (t : Nat) (l' : List UInt8), t ≤ D.length ∧ i = .int .i64 t ∧ l'.length = D.length ∧ w'.ownsRow 0 5 1 (.slice ao4 D.length cap4) D.length (bvs l') ∧ Fr (fun j => (Value.slice ao4 D.length cap4).ownBlock = some j) w6 w') (fun i _ => D.length - (intOf i).toNat)
        case atStart => exact ⟨0, D, Nat.zero_le _, rfl, rfl, unhide HO6, Fr.refl _ _⟩
        case round =>
          obtain ⟨t, l', ht, rfl, hl', ho', f'⟩ := hrel
          by_cases htl : t < D.length
          · obtain ⟨g, rfl⟩ : ∃ g, ao4 = some ⟨g, 0, none⟩ := by
              rcases ho'.2 with ⟨hv, hn⟩ | ⟨g, cap', cur, hv, _⟩
              · omega
              · simp at hv; exact ⟨g, hv.1⟩
            have htl' : t < l'.length := by omega
            obtain ⟨-, hcell, hfr⟩ := owns_set ho' t htl (.int .u8 0)
            have hset := fun c : UInt8 => (owns_set ho' t htl (.int .u8 ((c.toNat : Nat) : Int))).1
            rw [bvs_get l' t htl'] at hcell
            have hcap4 : t < cap4 := by
              rcases ho'.2 with ⟨hv, hn⟩ | ⟨g, cap', cur, hv, _, _, h, _⟩
              · omega
              · simp at hv; omega
            generalize l'[t] = old at *
            have hxo : bits BinOp.xor IntKind.u8 ((old.toNat : Nat) : Int) 85 = (((old ^^^ 85).toNat : Nat) : Int) := xorV old 85
            have HSET := hide (hset (old ^^^ 85))
            have HF' := hide f'
            have HL' := hide hl'
            have htli : (t : Int) < (D.length : Int) := by omega
            clear ho' hset f' hl' htl' HO6
            go_wp2_with fail
            go_roundw
            case rel =>
              refine ⟨t + 1, l'.set t (old ^^^ 85), by omega, by go_num, by simp [unhide HL'], by rw [bvs_set]; exact unhide HSET, ?_⟩
              exact (unhide HF').setCell (p := ⟨g, t, none⟩) (fun _ => rfl) _
            case measure => simp [intOf]; omega
          · have hfoot : ∀ j, (Value.slice ao4 D.length cap4).ownBlock = some j → w.heap.size ≤ j ∧ j < w4.heap.size := fun j hj => ⟨by have := (unhide HN4 j hj).1; omega, (unhide HN4 j hj).2⟩
            have r7 := r6.kept f' (fun h => by have := (hfoot _ h).2; omega) (fun j hj h => by have := (hfoot _ h).2; have := nq5 j hj; omega)
            have s7 := s6.kept f' (fun h => by have := (hfoot _ h).2; omega) (fun j hj h => by have := (hfoot _ h).2; have := nq6 j hj; omega)
            have F7 : Fr (fun _ => False) w wr := F6.trans f' (fun j hj h => by have := (hfoot _ h).1; omega)
            have hrp : w.heap.size ≤ rp := by omega
            have hsp : w.heap.size ≤ sp := by omega
            clear ho' f' hl' HO6 r6 s6 hfoot F6 f46 f6 f5 f4 F4 np5 np6 nq5 nq6 HN4
            go_wp2_with fail
            generalize hwL : wr = wL at *
            clear hwL
            go_loopw [9] (fun i w' => ∃ (k : Nat) (a : Nat) (E : Int), k ≤ ss.length ∧ i = .int .i64 k ∧ RAt w' rp rq D a E ∧ QAt w' sp sq D a E ∧ Fr (fun _ => False) w w') (fun i _ => ss.length - (intOf i).toNat)
            case atStart => exact ⟨0, 0, 0, Nat.zero_le _, rfl, r7, s7, F7⟩
            case round =>
              obtain ⟨k, a, E, hk, rfl, r8, s8, F8⟩ := hrel
              by_cases hlt : k < ss.length
              · obtain ⟨bb, o, rfl, -, -, hcm, hcell⟩ := (HX0.kept F8).lits (by omega)
                obtain ⟨hsix, hok⟩ := hcell k hlt
                have hR : wr.rangeAt bb (o + k * 6) (ss[k]).cells := by
                  intro j v hv
                  have hj : j < 6 := by have := (List.getElem?_eq_some_iff.1 hv).1; simpa [Sp.cells] using this
                  have h6 := hsix j hj
                  rw [Nat.add_assoc, h6, ← hv]
                  exact (List.getElem?_eq_getElem _).symm
                have hn := hok.hn
                have hmo := hok.hm
                generalize ss[k] = s at *
                have hR' : wr.rangeAt bb (o + k * 6) [Value.int IntKind.i64 s.kind, Value.int IntKind.u64 s.n, s.pv, Value.int IntKind.i64 s.most, s.lv, s.tv] := hR
                have HC := hide (reads_any wr rp rq sp sq D a E s.n s.most s.pv s.lv s.tv r8 s8 hn hmo (by omega) s.kind)
                unfold maxLen at hcm
                have hlti : (k : Int) < (ss.length : Int) := by omega
                clear hcell hsix hok hR r8 s8 r7 s7 F7
                go_wp2_with (refine wpList_load_mid rfl 35 (.tmp 54) rfl bb (o + k * 6) rfl [Value.int IntKind.i64 s.kind, Value.int IntKind.u64 s.n, s.pv, Value.int IntKind.i64 s.most, s.lv, s.tv] _ hR' Try.underlying35 rfl (by kernel_rfl) ?_)
                refine (unhide HC).mono ?_
                rintro e w9 ⟨rfl, a9, E9, r9, s9, f9⟩
                have F9 : Fr (fun _ => False) w w9 := F8.trans f9 (fun j hj h => by omega)
                have HW := hide (rwhy_anyN w9 rp rq D a9 E9 r9)
                clear HC hR' f9
                go_wp2_with fail
                refine (unhide HW).mono ?_
                rintro e w10 ⟨rfl, q10⟩
                have F10 := F9.trans (q10.qt.fr (fun _ => False)) (fun _ _ h => h)
                have r10 := r9.kept (q10.qt.fr (fun _ => False)) id (fun _ _ h => h)
                have s10 := s9.kept (q10.qt.fr (fun _ => False)) id (fun _ _ h => h)
                obtain ⟨vr, hr1, _, hr3, hral⟩ := id r10
                obtain ⟨vs, hs1, _, hs3, hsal⟩ := id s10
                have cr0 := RAt.cell0 hr1
                have cr1 := RAt.cell1 hr1
                have cs0 := QAt.cell0 hs1
                have cs1 := QAt.cell1 hs1
                have cs2 := QAt.cell2 hs1
                have cs3 := QAt.cell3 hs1
                unfold spot at cs3
                obtain ⟨aor, capr, rfl⟩ := owns_shape hr3
                obtain ⟨aos, caps, rfl⟩ := owns_shape hs3
                have hml : D.length ≤ maxLen := by unfold maxLen; omega
                have HR10 := hide r10
                have HS10 := hide s10
                have HFX := hide F10
                generalize (if E9 = 0 then (0 : Int) else (a9 : Int)) = spt at *
                clear hr1 hr3 hs1 hs3 r10 s10 r9 s9 HW F9 F8 F10 q10
                go_wp2_with fail
                go_quiet ((first | (go_at_call 13; exact Calls.quiet_of_same (num_back _ _)) | (go_at_call 19; exact Calls.quiet_of_same (at_back _ _ _ (by simpa using cr1))) | (go_at_call 20; exact Calls.quiet_of (left_anyN _ _ a9 D.length aor capr (by simpa using cr0) (by simpa using cr1) hral hml)) | (go_at_call 21; exact Calls.quiet_of (qleft_anyN _ _ a9 D.length aos caps (by simpa using cs0) (by simpa using cs1) hsal hml)) | (go_at_call 22; exact Calls.quiet_of (rdone_anyN _ rp rq D a9 E9 ((unhide HR10).drewN _) hml)) | (go_at_call 23; exact Calls.quiet_of (qdone_anyN _ sp sq D a9 E9 ((unhide HS10).drewN _) hml))))
                go_wp2_with fail
                go_roundw
                case rel => exact ⟨k + 1, a9, E9, by omega, by go_num, (unhide HR10).drewN _, (unhide HS10).drewN _, (unhide HFX).trans ((Qt.drewN w10 nq).fr (fun _ => False)) (fun _ _ h => h)⟩
                case measure => simp [intOf]; omega
              · go_wp2_with fail
                refine (live_any wr).mono ?_
                rintro e w9 ⟨rfl, f9⟩
                go_wp2_with fail
                go_ret
                exact ⟨rfl, F8.trans f9 (fun _ _ h => h)⟩
  · clear hb HH
    go_wp2_with fail
    refine (live_any w1).mono ?_
    rintro e w2 ⟨rfl, f2⟩
    go_wp2_with fail
    go_ret
    exact ⟨rfl, f1.trans f2 (fun _ _ h => h)⟩

#print axioms xdrReads_any
end Go.Proofs.Ytmnbdpdblpgnlaa
