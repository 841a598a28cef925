/-
  The document's allocator: the walks of turn, Commit, Abort, LetGo.
-/
import Derived.Test.YtbpajilglfabbaaC4
namespace Go.Proofs.Ytbpajilglfabbaa
open Go.RowKit
set_option linter.unusedVariables false

attribute [local go_sem ↓] Go.wp_at_zero Go.wp_at_succ

theorem eq8 (a b : UInt8) : ((((a.toNat : Nat) : Int)) == ((b.toNat : Nat) : Int)) = (a == b) := by
  rw [Bool.eq_iff_iff]
  simp only [beq_iff_eq]
  exact ⟨fun h => UInt8.toNat_inj.1 (by omega), fun h => by rw [h]⟩

theorem setL_snoc (l : List Nat) (b : Nat) (s : List UInt8) (v : UInt8) : setL (l ++ [b]) s v = (setL l s v).set b v := by simp [setL]

def Rc.commit (M : Rc) : Rc := { M with s := rep (rep M.s 3 (if 0 < M.h then 4 else 0)) 2 1, t := [], g := [] }
def Rc.abort (M : Rc) : Rc := { M with s := rep (rep M.s 2 0) 3 1, t := [], g := [] }
def Rc.letGo (M : Rc) : Rc × List Nat :=
  if M.h = 0 then (M, []) else if 1 < M.h then ({ M with h := M.h - 1 }, []) else ({ M with h := M.h - 1, s := rep M.s 4 0 }, idx M.s 4)

section
variable (w : World) (p : Nat) (Y : Lr) (M : Rc)

set_option maxRecDepth 100000 in
set_option maxHeartbeats 2000000 in
theorem turn_any (H : RA w p Y M) (u v : UInt8) : Calls Try.prog 70 #[ptr p, .int .i64 ((u.toNat : Nat) : Int), .int .i64 ((v.toNat : Nat) : Int)] w fun e w' => (∃ x, e = .returned x ∧ Nw w w' x (idx M.s u)) ∧ RA w' p Y { M with s := rep M.s u v } ∧ Fr (fun k => k = Y.q) w w' := by
  obtain ⟨inf, hi0, hz0, hz1, hz2⟩ := info_parts Try.info3
  have HH := hide H
  have HC0 : Hid (∀ W, Fr (fun _ => False) w W → W.cell? ⟨p, 0, none⟩ = some (.slice (some ⟨Y.q, 0, none⟩) M.s.length M.s.length)) := hide (fun W f => (H.kept f (fun _ _ h => h)).c0)
  have HCS : Hid (∀ W, Fr (fun _ => False) w W → ∀ i x, M.s[i]? = some x → W.cell? ⟨Y.q, i, none⟩ = some (.int .i64 ((x.toNat : Nat) : Int))) := hide (fun W f i x hx => (H.kept f (fun _ _ h => h)).state hx)
  have hn2 := H.n2
  have HLT := hide H.lt
  obtain ⟨n, hn⟩ : ∃ n, n = M.s.length := ⟨_, rfl⟩
  rw [← hn] at HC0 hn2
  have HN := hide hn
  obtain ⟨un, hun⟩ : ∃ n, n = u.toNat := ⟨_, rfl⟩
  obtain ⟨vn, hvn⟩ : ∃ n, n = v.toNat := ⟨_, rfl⟩
  rw [← hun, ← hvn]
  have HU := hide hun
  have HV := hide hvn
  clear H hn hun hvn
  unfold ptr
  go_enter Try.func70, Try.ntmps70
  go_wp2_with fail
  go_loopw [8, 7] (fun x y W => ∃ i ao N cc, i ≤ n ∧ x = .int .i64 ((i : Nat) : Int) ∧ y = .slice ao N cc ∧ N = (idk M.s u i).length ∧ W.ownsRow 0 3 1 (.slice ao N cc) N (ivs (idk M.s u i)) ∧ (∀ b, (Value.slice ao N cc).ownBlock = some b → w.heap.size ≤ b) ∧ Fr (fun _ => False) w W) (fun x _ _ => n - (intOf x).toNat)
  case atStart => exact ⟨0, none, 0, 0, by omega, rfl, rfl, rfl, owns_nilE _ 3, fun b hb => by simp [Value.ownBlock] at hb, Fr.refl _ _⟩
  case round =>
    obtain ⟨i, ao, N, cc, hi, rfl, rfl, hN, hO, hnew, hf⟩ := hrel
    have HO := hide hO
    have HNW := hide hnew
    have HF := hide hf
    have HNN := hide hN
    have hNle : N ≤ 65536 := by rw [hN]; have := idk_length M.s u i; omega
    have c0 := unhide HC0 wr hf
    by_cases hlt : i < n
    · have i1 : i < M.s.length := by have := unhide HN; omega
      obtain ⟨z, hz⟩ := get_ex i1
      have cs := unhide HCS wr hf i z hz
      have hql : Y.q < wr.heap.size := by have := unhide HLT Y.q (.inr (.inl rfl)); have := hf.size; omega
      have he8 := eq8 z u
      rw [← unhide HU] at he8
      clear hO hnew hf hN i1
      by_cases e : z = u
      · subst e
        have HI := hide (idk_yes hz)
        rw [show (z == z) = true by simp] at he8
        clear hz
        generalize z.toNat = zn at *
        go_wp2_with (at_builtin; refine wpList_app rfl (.tmp 28) (.tmp 30) 51 rfl 3 inf _ 1 8 Try.underlying51 hi0 hz0 hz1 hz2 rfl (by decide) (.slice ao N cc) N (ivs (idk M.s z i)) rfl (.slice (some ⟨wr.heap.size, 0, none⟩) 1 1) rfl 1 [.int .i64 (i : Int)] ((unhide HO).alloc _) (one_cellV wr _ 3) (fun u hu => by simp at hu; subst hu; rfl) (by omega) (by simp only [maxLen]; omega) ?_)
        intro ao4 ac4 w4 o4 g4 p4
        have f4 : Fr (fun k => (Value.slice ao N cc).ownBlock = some k) wr w4 := ((Fr.refl _ _).alloc (.cells #[.int .i64 (i : Int)] 3)).grown g4 (fun k _ e => e)
        have HF4 := hide ((unhide HF).trans f4 (fun k hk e => by have := unhide HNW k e; omega))
        have HN4 : Hid (∀ k, (Value.slice ao4 (N + 1) ac4).ownBlock = some k → w.heap.size ≤ k) := hide (fun b hb => by
          rcases p4 with e | ⟨k', e, hk'⟩
          · rw [e] at hb; exact unhide HNW b hb
          · rw [e] at hb; simp at hb; have := (unhide HF).size; omega)
        have HO4 : Hid (w4.ownsRow 0 3 1 (.slice ao4 (N + 1) ac4) (N + 1) (ivs (idk M.s z (i + 1)))) := hide (by rw [unhide HI, ivs_snoc]; exact o4)
        clear o4 g4 p4 f4
        go_wp2_with fail
        go_roundw
        case rel => exact ⟨i + 1, ao4, N + 1, ac4, by omega, by go_num, rfl, by rw [unhide HI]; simp [unhide HNN], unhide HO4, unhide HN4, unhide HF4⟩
        case measure => simp [intOf]; omega
      · have HI : Hid (idk M.s u (i + 1) = idk M.s u i) := hide (idk_no (by rw [hz]; simpa using e))
        rw [show (z == u) = false by simpa using e] at he8
        clear hz e
        generalize z.toNat = zn at *
        go_wp2_with fail
        go_roundw
        case rel => exact ⟨i + 1, ao, N, cc, by omega, by go_num, rfl, by rw [unhide HI]; exact unhide HNN, by rw [unhide HI]; exact unhide HO, unhide HNW, unhide HF⟩
        case measure => simp [intOf]; omega
    · have hie : i = n := by omega
      subst hie
      have ei : idk M.s u i = idx M.s u := by unfold idx; rw [← unhide HN]
      rw [ei] at HO HNN
      clear hO hnew hf hN ei
      have HLE : Hid (∀ b ∈ idx M.s u, b < i) := hide (fun b hb => by rw [unhide HN]; exact idx_lt b hb)
      go_wp2_with fail
      obtain ⟨w1, hw1⟩ : ∃ w1, w1 = wr := ⟨_, rfl⟩
      have HW1 := hide hw1
      clear hw1
      go_loopw [9] (fun x W => ∃ j : Nat, j ≤ N ∧ x = .int .i64 (j : Int) ∧ RA W p Y { M with s := setL ((idx M.s u).take j) M.s v } ∧ Fr (fun k => k = Y.q) w1 W) (fun x _ => N - (intOf x).toNat)
      case atStart => exact ⟨0, by omega, rfl, (unhide HH).kept (unhide HF) (fun _ _ h => h), by rw [unhide HW1]; exact Fr.refl _ _⟩
      case round =>
        obtain ⟨j, hj, rfl, hR, hF2⟩ := hrel
        have HR := hide hR
        have HF2 := hide hF2
        have HOw : Hid (w1.ownsRow 0 3 1 (.slice ao N cc) N (ivs (idx M.s u))) := hide (by rw [unhide HW1]; exact unhide HO)
        have HFw1 : Hid (Fr (fun _ => False) w w1) := hide (by rw [unhide HW1]; exact unhide HF)
        have HFar : Hid (∀ k, (Value.slice ao N cc).ownBlock = some k → ¬ k = Y.q) := hide (fun k hk e => by
          have := unhide HNW k hk
          have := unhide HLT Y.q (.inr (.inl rfl))
          omega)
        by_cases hjl : j < N
        · have j1 : j < (idx M.s u).length := by have := unhide HNN; omega
          have hO2 := owns_kept (unhide HOw) hF2 (fun k hk => unhide HFar k hk)
          have hrd : RdV wr (.slice ao N cc) (ivs (idx M.s u)) := by
            have h := RdV.of_owns (w := wr) (base := 0) (e := 3) (v := .slice ao N cc) (l := ivs (idx M.s u)) (by rw [ivs_length, ← unhide HNN]; exact hO2)
            exact h
          obtain ⟨b1, o1, rfl, -, x1, y1, c1⟩ := hrd.lits (by rw [ivs_length]; omega)
          have k1 := c1 j (by rw [ivs_length]; exact j1)
          rw [show (ivs (idx M.s u))[j]'(by rw [ivs_length]; exact j1) = .int .i64 (((idx M.s u)[j] : Nat) : Int) by simp [ivs]] at k1
          have hbl := unhide HLE _ (List.getElem_mem j1)
          have HT := hide (List.take_succ_eq_append_getElem j1)
          obtain ⟨b, hb⟩ : ∃ b, b = (idx M.s u)[j] := ⟨_, rfl⟩
          rw [← hb] at k1 hbl HT
          have c0' := hR.c0
          have el : ({ M with s := setL ((idx M.s u).take j) M.s v } : Rc).s.length = i := by show (setL _ M.s v).length = i; rw [setL_length]; exact (unhide HN).symm
          rw [el] at c0'
          have hzb := frozen_of_heap hR.st b
          obtain ⟨z, hz⟩ := get_ex (show b < ({ M with s := setL ((idx M.s u).take j) M.s v } : Rc).s.length by rw [el]; exact hbl)
          have czb := hR.state hz
          have HRN : Hid (∀ k : Nat, RA ((wr.drewN k).setCell ⟨Y.q, b, none⟩ (.int .i64 (vn : Int))) p Y { M with s := setL ((idx M.s u).take (j + 1)) M.s v }) := hide (fun k => by
            have := (hR.kept (Fr.ofDrewN wr k : Fr (fun _ => False) _ _) (fun _ _ h => h)).setS b v
            rw [← unhide HV] at this
            rw [unhide HT, setL_snoc]
            exact this)
          clear hR hF2 hO2 hrd c1 x1 hb hz el j1
          generalize z.toNat = zn at *
          go_wp2_with fail
          refine wp_region_quietTail 10 (by kernel_rfl) (by kernel_rfl) ?_
          simp only [List.take_succ_cons, List.take_zero]
          repeat (go_big_quiet_step (fail))
          refine wpQuiet_nil ?_
          intro _ hw'
          obtain ⟨nq, hw''⟩ := hw'
          subst hw''
          simp only [List.drop_succ_cons, List.drop_zero]
          go_wp2_with fail
          go_roundw
          case rel => exact ⟨j + 1, by omega, by go_num, unhide HRN nq, ((unhide HF2).trans (Fr.ofDrewN wr nq : Fr (fun _ => False) _ _) (fun _ _ h => h.elim)).setCell (p := ⟨Y.q, b, none⟩) (fun _ => rfl) _⟩
          case measure => simp [intOf]; omega
        · have hje : j = N := by omega
          subst hje
          clear hR hF2
          go_wp2_with fail
          go_ret
          have e : (idx M.s u).take j = idx M.s u := List.take_of_length_le (by have := unhide HNN; omega)
          have hR := unhide HR
          rw [e, setL_rep] at hR
          exact ⟨⟨_, rfl, ao, j, cc, rfl, unhide HNN, owns_kept (unhide HOw) (unhide HF2) (fun k hk => unhide HFar k hk), unhide HNW⟩, hR, ((unhide HFw1).mono (fun _ _ h => h.elim)).trans (unhide HF2) (fun _ _ h => h)⟩
end
end Go.Proofs.Ytbpajilglfabbaa
