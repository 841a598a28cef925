/-
  Lists of acts as they come; the walks of the laws' long and played.
-/
import Derived.Test.YtdhendcogjhgfaaL4
namespace Go.Proofs.Ytdhendcogjhgfaa
open Go.RowKit
set_option linter.unusedVariables false

attribute [local go_sem ↓] Go.wp_at_zero Go.wp_at_succ

/-- An act, plainly, with the values of its slices. -/
structure Sp where
  k : Int
  a : Int
  b : Int
  m : Nat
  dv : Value
  kv : Value
  D : List UInt8
  K : List Int

instance : Inhabited Sp := ⟨⟨0, 0, 0, 0, .slice none 0 0, .slice none 0 0, [], []⟩⟩

def Sp.cells (s : Sp) : List Value := [.int .i64 s.k, .int .i64 s.a, .int .i64 s.b, .int .u32 (s.m : Int), s.dv, s.kv]

structure Sp.Ok (w : World) (s : Sp) : Prop where
  hm : s.m < 4294967296
  rd : Rd w s.dv s.D
  rk : RdV w s.kv (s.K.map (Value.int .i64))
  zd : s.D.length ≤ 1048576
  zk : s.K.length ≤ 1048576

theorem Sp.Ok.kept {w w' : World} {s : Sp} (h : s.Ok w) (f : Fr (fun _ => False) w w') : s.Ok w' :=
  ⟨h.hm, h.rd.kept f (fun _ _ h => h), h.rk.kept f (fun _ _ h => h), h.zd, h.zk⟩

/-- A list of steps that can be read. -/
def RdS (w : World) (v : Value) (ss : List Sp) : Prop :=
  (v = .slice none 0 0 ∧ ss = []) ∨
  ∃ ad cap, v = .slice (some ad) ss.length cap ∧ ss.length ≤ cap ∧ cap ≤ maxLen ∧ ∀ j (h : j < ss.length), (∀ i (hi : i < 6), w.cell? (ad.add (j * 6 + i)) = some ((ss[j]).cells[i]'(by simpa [Sp.cells] using hi))) ∧ (ss[j]).Ok w

theorem RdS.kept {w w' : World} {v : Value} {ss : List Sp} (h : RdS w v ss) (f : Fr (fun _ => False) w w') : RdS w' v ss := by
  rcases h with h | ⟨ad, cap, h1, h2, h3, h4⟩
  · exact .inl h
  · refine .inr ⟨ad, cap, h1, h2, h3, fun j hj => ⟨fun i hi => ?_, ((h4 j hj).2).kept f⟩⟩
    rw [f.cell (World.block_lt_of_cell? w _ ((h4 j hj).1 i hi)) id]
    exact (h4 j hj).1 i hi

theorem RdS.shape {w : World} {v : Value} {ss : List Sp} (h : RdS w v ss) : ∃ ao cap, v = .slice ao ss.length cap := by
  rcases h with ⟨rfl, rfl⟩ | ⟨ad, cap, rfl, _⟩
  · exact ⟨_, _, rfl⟩
  · exact ⟨_, _, rfl⟩

theorem RdS.len {w : World} {v : Value} {ss : List Sp} (h : RdS w v ss) : ss.length ≤ maxLen := by
  rcases h with ⟨_, rfl⟩ | ⟨ad, cap, rfl, h1, h2, h3⟩
  · simp
  · omega

theorem RdS.lits {w : World} {ao : Option Addr} {n cap : Nat} {ss : List Sp} (h : RdS w (.slice ao n cap) ss) (hl : 0 < ss.length) : ∃ b o, ao = some ⟨b, o, none⟩ ∧ n = ss.length ∧ n ≤ cap ∧ cap ≤ maxLen ∧
    ∀ j (h : j < ss.length), (∀ i (hi : i < 6), w.cell? ⟨b, o + (j * 6 + i), none⟩ = some ((ss[j]).cells[i]'(by simpa [Sp.cells] using hi))) ∧ (ss[j]).Ok w := by
  rcases h with ⟨_, rfl⟩ | ⟨ad, cap', hv, h1, h2, h3⟩
  · simp at hl
  · simp only [Value.slice.injEq] at hv
    obtain ⟨rfl, rfl, rfl⟩ := hv
    obtain ⟨b, off, spot⟩ := ad
    have hspot : spot = none := by simpa [Addr.add] using World.cell?_spot ((h3 0 hl).1 0 (by omega))
    subst hspot
    exact ⟨b, off, rfl, rfl, h1, h2, fun j hj => ⟨fun i hi => by rw [← Addr.add_lit]; exact (h3 j hj).1 i hi, (h3 j hj).2⟩⟩

/-- How many bytes and numbers the first i acts have. -/
def loN (l : List Sp) : Nat → Nat
  | 0 => 0
  | i + 1 => loN l i + (l.getD i default).D.length + (l.getD i default).K.length
/-- Are there too many? -/
def loB (l : List Sp) : Bool := decide (80 < l.length) || decide (20000 < loN l (min l.length 81))

theorem loN_le (l : List Sp) (h : ∀ s ∈ l, s.D.length ≤ 1048576 ∧ s.K.length ≤ 1048576) (i : Nat) (hi : i ≤ l.length) : loN l i ≤ i * 2097152 := by
  induction i with
  | zero => simp [loN]
  | succ i ih =>
    have hi' : i < l.length := by omega
    have e : l.getD i default = l[i] := by simp [List.getD, hi']
    have := h _ (List.getElem_mem hi')
    have := ih (by omega)
    unfold loN
    rw [e]
    omega
theorem loN_mono (l : List Sp) {i j : Nat} (h : i ≤ j) : loN l i ≤ loN l j := by
  induction j with
  | zero => simp at h; subst h; exact Nat.le_refl _
  | succ j ih =>
    rcases Nat.lt_or_ge i (j + 1) with h1 | h1
    · have := ih (by omega)
      have e : loN l (j + 1) = loN l j + (l.getD j default).D.length + (l.getD j default).K.length := rfl
      omega
    · have : i = j + 1 := by omega
      subst this
      exact Nat.le_refl _
theorem loB_not {l : List Sp} (h : loB l = false) : l.length ≤ 80 ∧ ∀ s ∈ l, s.D.length ≤ 20000 ∧ s.K.length ≤ 20000 := by
  unfold loB at h
  rw [Bool.or_eq_false_iff, decide_eq_false_iff_not, decide_eq_false_iff_not] at h
  refine ⟨by omega, fun s hs => ?_⟩
  obtain ⟨i, hi, rfl⟩ := List.getElem_of_mem hs
  have e : l.getD i default = l[i] := by simp [List.getD, hi]
  have h1 := loN_mono l (show i + 1 ≤ min l.length 81 by omega)
  have h2 : loN l (i + 1) = loN l i + (l[i]).D.length + (l[i]).K.length := by
    show loN l i + (l.getD i default).D.length + (l.getD i default).K.length = _
    rw [e]
  omega

set_option maxHeartbeats 1000000 in
theorem long_any (w : World) (v : Value) (l : List Sp) (h : RdS w v l) : Calls Try.prog 10 #[v] w fun e w' => e = .returned (.bool (loB l)) ∧ ∃ n, w' = w.drewN n := by
  have H := hide h
  have hml := h.len
  unfold maxLen at hml
  obtain ⟨ao, ac, rfl⟩ := h.shape
  have hz : ∀ s ∈ l, s.D.length ≤ 1048576 ∧ s.K.length ≤ 1048576 := by
    intro s hs
    rcases h with ⟨-, rfl⟩ | ⟨ad, cap, -, -, -, h4⟩
    · simp at hs
    · obtain ⟨i, hi, rfl⟩ := List.getElem_of_mem hs
      exact ⟨(h4 i hi).2.zd, (h4 i hi).2.zk⟩
  have HZ := hide hz
  clear h hz
  go_enter Try.func10, Try.ntmps10
  go_wp2_with fail
  go_loopw [3, 4] (fun x y w' => ∃ i : Nat, i ≤ min l.length 81 ∧ x = .int .i64 ((loN l i : Nat) : Int) ∧ y = .int .i64 (i : Int) ∧ ∃ k, w' = w.drewN k) (fun _ y _ => 81 - (intOf y).toNat)
  case atStart => exact ⟨0, by omega, rfl, rfl, 0, rfl⟩
  case round =>
    obtain ⟨i, hi, rfl, rfl, kk, rfl⟩ := hrel
    have hb := loN_le l (unhide HZ) i (by omega)
    by_cases hlt : i < l.length
    · have b1 : decide ((i : Int) < (l.length : Int)) = true := by simp; omega
      by_cases h80 : i ≤ 80
      · obtain ⟨bb, bo, rfl, -, hnc, hcm, hc⟩ := (unhide H).lits (by omega)
        obtain ⟨hc1, hok⟩ := hc i hlt
        have y4 := hc1 4 (by omega)
        have y5 := hc1 5 (by omega)
        rw [← Nat.add_assoc] at y4 y5
        have e : l.getD i default = l[i] := by simp [List.getD, hlt]
        have hst : loN l (i + 1) = loN l i + (l[i]).D.length + (l[i]).K.length := by
          show loN l i + (l.getD i default).D.length + (l.getD i default).K.length = _
          rw [e]
        generalize l[i] = s at *
        obtain ⟨d1, d2, hd⟩ := hok.rd.shape
        obtain ⟨k1, k2, hk⟩ := hok.rk.shape
        rw [List.length_map] at hk
        have zd := hok.zd
        have zk := hok.zk
        simp only [Sp.cells, List.getElem_cons_succ, List.getElem_cons_zero, hd, hk] at y4 y5
        obtain ⟨N, hN⟩ : ∃ N, N = loN l i := ⟨_, rfl⟩
        obtain ⟨N1, hN1⟩ : ∃ N1, N1 = N + s.D.length := ⟨_, rfl⟩
        obtain ⟨N2, hN2⟩ : ∃ N2, N2 = N1 + s.K.length := ⟨_, rfl⟩
        rw [← hN, ← hN1, ← hN2] at hst
        rw [← hN]
        have e1 : (N : Int) + (s.D.length : Int) = (N1 : Int) := by omega
        have e2 : (N1 : Int) + (s.K.length : Int) = (N2 : Int) := by omega
        have w1 : IntKind.i64.wrap (N1 : Int) = (N1 : Int) := by rw [IntKind.wrap_i64]; omega
        have w2 : IntKind.i64.wrap (N2 : Int) = (N2 : Int) := by rw [IntKind.wrap_i64]; omega
        have b2 : decide ((i : Int) ≤ 80) = true := by simp; omega
        have HST := hide hst
        have hic : i < ac := by omega
        generalize s.D.length = nd at *
        generalize s.K.length = nk at *
        clear hc hc1 hok e hst hd hk hN hN1 hN2 hb
        go_wp2_with fail
        go_quiet (fail)
        go_wp2_with fail
        go_roundw
        case rel => exact ⟨i + 1, by omega, by rw [unhide HST], by go_num, _, rfl⟩
        case measure => simp [intOf]; omega
      · have b2 : decide ((i : Int) ≤ 80) = false := by simp; omega
        have hi81 : i = 81 := by omega
        subst hi81
        have b3 : decide ((80 : Int) < (l.length : Int)) = true := by simp; omega
        have HE := hide (show loB l = true by unfold loB; rw [decide_eq_true (by omega)]; rfl)
        generalize loN l 81 = N at *
        clear hb
        go_wp2_with fail
        go_ret
        exact ⟨by rw [unhide HE]; rfl, _, rfl⟩
    · have b1 : decide ((i : Int) < (l.length : Int)) = false := by simp; omega
      have hie : i = l.length := by omega
      subst hie
      by_cases h81 : l.length = 81
      · have b3 : decide ((80 : Int) < (l.length : Int)) = true := by simp; omega
        have HE := hide (show loB l = true by unfold loB; rw [decide_eq_true (by omega)]; rfl)
        generalize loN l l.length = N at *
        clear hb
        go_wp2_with fail
        go_ret
        exact ⟨by rw [unhide HE]; rfl, _, rfl⟩
      have b3 : decide ((80 : Int) < (l.length : Int)) = false := by simp; omega
      have hE : loB l = decide (20000 < loN l l.length) := by unfold loB; rw [decide_eq_false (by omega), Bool.false_or, Nat.min_eq_left (by omega)]
      obtain ⟨N, hN⟩ : ∃ N, N = loN l l.length := ⟨_, rfl⟩
      rw [← hN] at hE ⊢
      have b4 : decide ((20000 : Int) < (N : Int)) = decide (20000 < N) := by rw [decide_eq_decide]; omega
      generalize decide (20000 < N) = bb at *
      have HE := hide hE
      clear hE hb hN
      go_wp2_with fail
      go_ret
      exact ⟨by rw [unhide HE]; rfl, _, rfl⟩

/-- A disk on which the first i acts were done. -/
def plI (d : Dk) (l : List Sp) : Nat → Dk
  | 0 => d
  | i + 1 => if (l.getD i default).k = 8 then plI d l i else acD (plI d l i) (l.getD i default).k (l.getD i default).a (l.getD i default).b (l.getD i default).m (l.getD i default).D (l.getD i default).K

set_option maxHeartbeats 1000000 in
theorem played_ok (w : World) (s : Nat) (hs : 1 ≤ s ∧ s ≤ 65536) (v : Value) (l : List Sp) (h : RdS w v l) (hl : loB l = false) : Calls Try.prog 17 #[.int .i64 (s : Int), v] w fun e w' => ∃ p gs q p2 sg hg q2, e = .returned (.tuple #[.pointer (some ⟨p, 0, none⟩), .pointer (some ⟨p2, 0, none⟩)]) ∧ Pq w w' p gs q p2 sg hg q2 (plI (newD s 16) l l.length) (plI (newD s 16) l l.length) ∧ (plI (newD s 16) l l.length).n ≤ 400000 := by
  obtain ⟨hl80, hsz⟩ := loB_not hl
  have H := hide h
  have HSZ := hide hsz
  obtain ⟨ao, ac, rfl⟩ := h.shape
  clear h hl hsz
  go_enter Try.func17, Try.ntmps17
  go_wp2_with fail
  refine (new_ok w s 16 hs (by omega)).mono ?_
  rintro e w1 ⟨⟨p, gs, rfl, hp, hg1, hk1⟩, f1⟩
  have HK1 := hide hk1
  have HF1 := hide f1
  clear hk1 f1
  go_wp2_with fail
  refine (rnew_ok w1 s 16 hs (by omega)).mono ?_
  rintro e w2 ⟨⟨p2, sg, hg, rfl, hp2, hsg, hhg, hr2⟩, f2⟩
  have hs1 := (unhide HF1).size
  have HP : Hid (Pq w w2 p gs (.slice none 0 0) p2 sg hg (.slice none 0 0) (newD s 16) (newD s 16)) := hide ⟨(unhide HK1).kept f2 id id (fun _ _ h => h), hr2, (unhide HF1).trans f2 (fun _ _ h => h), fun b hb => by
      rcases hb with rfl | rfl | hb
      · exact hp
      · exact hg1
      · simp [Value.ownBlock] at hb, fun b hb => by
      rcases hb with rfl | rfl | rfl | hb
      · omega
      · omega
      · omega
      · simp [Value.ownBlock] at hb⟩
  clear hr2 f2 HK1 HF1 hp hg1 hp2 hsg hhg hs1
  go_wp2_with (go_at_call 14; refine (num_any _ _).mono ?_; rintro e w' ⟨rfl, rfl⟩)
  go_loopw [10] (fun y w' => ∃ i : Nat, i ≤ l.length ∧ y = .int .i64 (i : Int) ∧ (∃ q q2, Pq w w' p gs q p2 sg hg q2 (plI (newD s 16) l i) (plI (newD s 16) l i)) ∧ (plI (newD s 16) l i).n ≤ 4096 * i) (fun y _ => l.length - (intOf y).toNat)
  case atStart => exact ⟨0, by omega, rfl, ⟨_, _, unhide HP⟩, Nat.le_refl _⟩
  case round =>
    clear HP
    obtain ⟨i, hi, rfl, ⟨q, q2, hP⟩, hn⟩ := hrel
    have HP := hide hP
    by_cases hlt : i < l.length
    · obtain ⟨bb, bo, rfl, -, hnc, hcm, hc⟩ := ((unhide H).kept hP.f).lits (by omega)
      obtain ⟨hc1, hok⟩ := hc i hlt
      have y0 := hc1 0 (by omega)
      have y1 := hc1 1 (by omega)
      have y2 := hc1 2 (by omega)
      have y3 := hc1 3 (by omega)
      have y4 := hc1 4 (by omega)
      have y5 := hc1 5 (by omega)
      rw [Nat.add_zero] at y0
      rw [← Nat.add_assoc] at y1 y2 y3 y4 y5
      have e : l.getD i default = l[i] := by simp [List.getD, hlt]
      have hst : plI (newD s 16) l (i + 1) = if (l[i]).k = 8 then plI (newD s 16) l i else acD (plI (newD s 16) l i) (l[i]).k (l[i]).a (l[i]).b (l[i]).m (l[i]).D (l[i]).K := by
        show (if (l.getD i default).k = 8 then plI (newD s 16) l i else acD (plI (newD s 16) l i) (l.getD i default).k (l.getD i default).a (l.getD i default).b (l.getD i default).m (l.getD i default).D (l.getD i default).K) = _
        rw [e]
      have hso : (l[i]).Ok w := by
        rcases unhide H with ⟨-, h0⟩ | ⟨ad, cap, -, -, -, h4⟩
        · subst h0; simp at hlt
        · exact (h4 i hlt).2
      have hzz := unhide HSZ _ (List.getElem_mem hlt)
      generalize l[i] = x at *
      simp only [Sp.cells, List.getElem_cons_succ, List.getElem_cons_zero] at y0 y1 y2 y3 y4 y5
      have hic : i < ac := by omega
      by_cases k8 : x.k = 8
      · rw [if_pos k8] at hst
        have b8 : (x.k != 8) = false := by simpa using k8
        have HST := hide hst
        have HN := hide hn
        generalize x.k = xk at *
        clear hP hn hst hc hc1 hok e hzz hso k8
        go_wp2_with fail
        go_roundw
        case rel => exact ⟨i + 1, by omega, by go_num, ⟨q, q2, by rw [unhide HST]; exact unhide HP⟩, by rw [unhide HST]; have := unhide HN; omega⟩
        case measure => simp [intOf]; omega
      · rw [if_neg k8] at hst
        have b8 : (x.k != 8) = true := by simpa using k8
        have hroom := hP.k.ok.room
        have hacn := acD_n (plI (newD s 16) l i) x.k x.a x.b x.m x.D x.K
        have HA := hide (act_any w wr p gs q p2 sg hg q2 (plI (newD s 16) l i) x.k x.a x.b x.m x.dv x.kv x.D x.K ⟨hP, by omega, hso.hm, hso.rd, hso.rk, by omega, by omega⟩ k8)
        rw [← hst] at HA hacn
        have HNN := hide (show (plI (newD s 16) l (i + 1)).n ≤ 4096 * (i + 1) by omega)
        generalize x.k = xk at *
        generalize x.a = xa at *
        generalize x.b = xb at *
        generalize x.m = xm at *
        generalize x.dv = xd at *
        generalize x.kv = xv at *
        clear hP hn hst hc hc1 hok e hzz hso k8 hroom hacn HP
        go_wp2_with fail
        refine (unhide HA).mono ?_
        rintro e w3 ⟨rfl, q', q2', h3, -⟩
        have HP3 := hide h3
        clear h3
        go_wp2_with fail
        go_roundw
        case rel => exact ⟨i + 1, by omega, by go_num, ⟨q', q2', unhide HP3⟩, unhide HNN⟩
        case measure => simp [intOf]; omega
    · have hie : i = l.length := by omega
      subst hie
      have HN := hide hn
      clear hP hn
      go_wp2_with fail
      go_ret2
      exact ⟨p, gs, q, p2, sg, hg, q2, rfl, unhide HP, by have := unhide HN; omega⟩

set_option maxHeartbeats 1000000 in
theorem played_no (w : World) (s : Int) (hs : ¬ (1 ≤ s ∧ s ≤ 65536)) (ao : Option Addr) (n c : Nat) : Calls Try.prog 17 #[.int .i64 s, .slice ao n c] w fun e w' => e = .returned (.tuple #[.pointer none, .pointer none]) ∧ w = w' := by
  go_enter Try.func17, Try.ntmps17
  go_wp2_with (first
    | (go_at_call 12; refine (new_no _ s 16 (by omega)).mono ?_; rintro e w' ⟨rfl, rfl⟩)
    | (go_at_call 13; refine (rnew_no _ s 16 (by omega)).mono ?_; rintro e w' ⟨rfl, rfl⟩)
    | (go_at_call 14; refine (num_any _ _).mono ?_; rintro e w' ⟨rfl, rfl⟩))
  go_ret2
  exact ⟨rfl, rfl⟩
end Go.Proofs.Ytdhendcogjhgfaa
