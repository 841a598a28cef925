/-
  The walks of all (the blocks of a state, rising), setAll and takeFree.
-/
import Derived.Test.YtbpajilglfabbaaA3
namespace Go.Proofs.Ytbpajilglfabbaa
open Go.RowKit
set_option linter.unusedVariables false

attribute [local go_sem ↓] Go.wp_at_zero Go.wp_at_succ

theorem Try.info3 : (Try.prog.info? 3).map (fun i => (i.zero, i.size, i.bytes)) = some (some (.int .i64 0), 1, 8) := by kernel_rfl

/-- A list of numbers in memory that is newer than w0. -/
def Nw (w0 w : World) (v : Value) (l : List Nat) : Prop := ∃ ao N cc, v = .slice ao N cc ∧ N = l.length ∧ w.ownsRow 0 3 1 (.slice ao N cc) N (ivs l) ∧ ∀ b, (Value.slice ao N cc).ownBlock = some b → w0.heap.size ≤ b

theorem Nw.kept {S : Nat → Prop} {w0 w w' : World} {v : Value} {l : List Nat} (h : Nw w0 w v l) (f : Fr S w w') (hS : ∀ b, v.ownBlock = some b → ¬ S b) : Nw w0 w' v l := by
  obtain ⟨ao, N, cc, rfl, hN, ho, hn⟩ := h
  exact ⟨ao, N, cc, rfl, hN, owns_kept ho f hS, hn⟩
theorem Nw.older {w0 w1 w : World} {v : Value} {l : List Nat} (h : Nw w1 w v l) (hs : w0.heap.size ≤ w1.heap.size) : Nw w0 w v l := by
  obtain ⟨ao, N, cc, rfl, hN, ho, hn⟩ := h
  exact ⟨ao, N, cc, rfl, hN, ho, fun b hb => Nat.le_trans hs (hn b hb)⟩
theorem Nw.rd {w0 w : World} {v : Value} {l : List Nat} (h : Nw w0 w v l) : RdV w v (ivs l) := by
  obtain ⟨ao, N, cc, rfl, hN, ho, hn⟩ := h
  subst hN
  refine RdV.of_owns (base := 0) (e := 3) ?_
  rw [ivs_length]
  exact ho
theorem ivs_one (l : List Nat) : ∀ u ∈ ivs l, u.oneCell' = true := by
  intro u hu
  obtain ⟨_, _, rfl⟩ := List.mem_map.1 hu
  rfl
theorem ivs_get (l : List Nat) (j : Nat) (h : j < l.length) : (ivs l)[j]? = some (.int .i64 ((l[j] : Nat) : Int)) := by simp [ivs, h]

theorem nxI_none : nxI none = -1 := rfl
theorem nxI_some (i : Nat) : nxI (some i) = (i : Int) := rfl

def mea (n : Nat) (x : Value) : Nat := match x with
  | .int _ b => if b < 0 then 0 else n + 1 - b.toNat
  | _ => 0
theorem mea_none (n : Nat) : mea n (.int .i64 (nxI none)) = 0 := rfl
theorem mea_some (n b : Nat) : mea n (.int .i64 (nxI (some b))) = n + 1 - b := by
  show (if (b : Int) < 0 then 0 else n + 1 - (b : Int).toNat) = _
  rw [if_neg (by omega), Int.toNat_natCast]

section
variable (w : World) (p : Nat) (X : Ly) (K : Kc)

set_option maxRecDepth 100000 in
set_option maxHeartbeats 1000000 in
theorem all_any (H : KA w p X K) (v : UInt8) : Calls Try.prog 63 #[ptr p, .int .u8 ((v.toNat : Nat) : Int)] w fun e w' => (∃ x, e = .returned x ∧ Nw w w' x (idx K.s v)) ∧ Fr (fun _ => False) w w' := by
  obtain ⟨inf, hi0, hz0, hz1, hz2⟩ := info_parts Try.info3
  have HX := hide (next_any w p X K H v 0 (by omega))
  have hn2 := H.n2
  have HH := hide H
  clear H
  obtain ⟨vn, hvn⟩ : ∃ n, n = v.toNat := ⟨_, rfl⟩
  rw [← hvn] at HX ⊢
  have HV := hide hvn
  clear hvn
  obtain ⟨n, hn⟩ : ∃ n, n = K.s.length := ⟨_, rfl⟩
  rw [← hn] at hn2
  have HN := hide hn
  clear hn
  unfold ptr at *
  go_enter Try.func63, Try.ntmps63
  go_wp2_with fail
  refine (unhide HX).mono ?_
  rintro e w' ⟨rfl, rfl⟩
  go_wp2_with fail
  go_loopw [6, 5] (fun x y W => ∃ k ao N cc, k ≤ n ∧ x = .int .i64 (nxI (nx K.s v k)) ∧ y = .slice ao N cc ∧ N = (idk K.s v k).length ∧ W.ownsRow 0 3 1 (.slice ao N cc) N (ivs (idk K.s v k)) ∧ (∀ b, (Value.slice ao N cc).ownBlock = some b → w.heap.size ≤ b) ∧ Fr (fun _ => False) w W) (fun x _ _ => mea n x)
  case atStart => exact ⟨0, none, 0, 0, by omega, rfl, rfl, rfl, owns_nilE _ 3, fun b hb => by simp [Value.ownBlock] at hb, Fr.refl _ _⟩
  case round =>
    obtain ⟨k, ao, N, cc, hk, rfl, rfl, hN, hO, hnew, hf⟩ := hrel
    have HO := hide hO
    have HNW := hide hnew
    have HF := hide hf
    have HNN := hide hN
    have hNle : N ≤ 65536 := by rw [hN]; have := idk_length K.s v k; omega
    clear hO hnew hf hN
    cases hx : nx K.s v k with
    | none =>
      have HXE := hide hx
      clear hx
      rw [nxI_none]
      go_wp2_with fail
      go_ret
      have e : idk K.s v k = idx K.s v := by
        have hk2 := unhide HN
        unfold idx
        exact (idk_skip (by omega) (fun j h1 _ => nx_none (unhide HXE) j h1)).symm
      have hO := unhide HO
      have hN := unhide HNN
      rw [e] at hO hN
      exact ⟨⟨_, rfl, ao, N, cc, rfl, hN, hO, unhide HNW⟩, unhide HF⟩
    | some b =>
      obtain ⟨h1, h2, h3⟩ := nx_some hx
      have hbn : b < n := by rw [unhide HN]; exact (List.getElem?_eq_some_iff.1 h2).1
      have HE : Hid (idk K.s v (b + 1) = idk K.s v k ++ [b]) := hide (by rw [idk_yes h2, idk_skip h1 h3])
      have HA := hide ((unhide HH).kept (unhide HF) (fun _ _ h => h))
      clear h1 h2 h3 hx
      rw [nxI_some]
      go_wp2_with (at_builtin; refine wpList_app rfl (.tmp 17) (.tmp 19) 51 rfl 3 inf _ 1 8 Try.underlying51 hi0 hz0 hz1 hz2 rfl (by decide) (.slice ao N cc) N (ivs (idk K.s v k)) rfl (.slice (some ⟨wr.heap.size, 0, none⟩) 1 1) rfl 1 [.int .i64 (b : Int)] ((unhide HO).alloc _) (one_cellV wr _ 3) (fun u hu => by simp at hu; subst hu; rfl) (by omega) (by simp only [maxLen]; omega) ?_)
      intro ao4 ac4 w4 o4 g4 p4
      have f4 : Fr (fun k => (Value.slice ao N cc).ownBlock = some k) wr w4 := ((Fr.refl _ _).alloc (.cells #[.int .i64 (b : Int)] 3)).grown g4 (fun k _ e => e)
      have hF4 : Fr (fun _ => False) w w4 := (unhide HF).trans f4 (fun k hk e => by have := unhide HNW k e; omega)
      have hn4 : ∀ b, (Value.slice ao4 (N + 1) ac4).ownBlock = some b → w.heap.size ≤ b := fun b hb => by
        rcases p4 with e | ⟨k', e, hk'⟩
        · rw [e] at hb; exact unhide HNW b hb
        · rw [e] at hb; simp at hb; have := (unhide HF).size; omega
      have HO4 : Hid (w4.ownsRow 0 3 1 (.slice ao4 (N + 1) ac4) (N + 1) (ivs (idk K.s v (b + 1)))) := hide (by
        have : ivs (idk K.s v (b + 1)) = ivs (idk K.s v k) ++ [.int .i64 (b : Int)] := by rw [unhide HE]; simp [ivs]
        rw [this]; exact o4)
      have HN4 := hide hn4
      have HF4 := hide hF4
      have HXN := hide (next_any w4 p X K ((unhide HH).kept hF4 (fun _ _ h => h)) v (b + 1) (by have := unhide HN; omega))
      rw [← unhide HV] at HXN
      clear o4 g4 p4 f4 hF4 hn4
      go_wp2_with fail
      refine (unhide HXN).mono ?_
      rintro e w' ⟨rfl, rfl⟩
      go_wp2_with fail
      go_roundw
      case rel => exact ⟨b + 1, ao4, N + 1, ac4, by omega, rfl, rfl, by rw [unhide HE]; simp [unhide HNN], unhide HO4, unhide HN4, unhide HF4⟩
      case measure =>
        have e0 := mea_some n b
        rw [nxI_some] at e0
        cases hx2 : nx K.s v (b + 1) with
        | none => rw [mea_none, e0]; omega
        | some b2 =>
          obtain ⟨h1, h2, h3⟩ := nx_some hx2
          rw [mea_some, e0]
          omega
end
end Go.Proofs.Ytbpajilglfabbaa
