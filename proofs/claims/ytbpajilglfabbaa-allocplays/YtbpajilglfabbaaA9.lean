/-
  Bits of bytes, plainly; the walks of hasBit, setBit and Bitmap.
-/
import Derived.Test.YtbpajilglfabbaaA8
namespace Go.Proofs.Ytbpajilglfabbaa
open Go.RowKit
set_option linter.unusedVariables false

attribute [local go_sem ↓] Go.wp_at_zero Go.wp_at_succ

/-- A bit of a byte; a byte with one bit more. -/
def bit8 (x : UInt8) (k : Nat) : Bool := x.toNat.testBit k
def or8 (x : UInt8) (k : Nat) : UInt8 := UInt8.ofNat (x.toNat ||| 2 ^ k)
def gb (m : List UInt8) (b : Nat) : Bool := bit8 (m.getD (b / 8) 0) (b % 8)
def sb (m : List UInt8) (b : Nat) : List UInt8 := m.set (b / 8) (or8 (m.getD (b / 8) 0) (b % 8))

theorem bits_get : ∀ x : Fin 256, ∀ k : Fin 8, (bits BinOp.and IntKind.u8 (((x.1 : Nat) : Int) / 2 ^ k.1) 1 == 1) = (UInt8.ofNat x.1).toNat.testBit k.1 := by decide +kernel
theorem bits_or : ∀ x : Fin 256, ∀ k : Fin 8, bits BinOp.or IntKind.u8 (((x.1 : Nat) : Int)) (2 ^ k.1 % 256) = (((or8 (UInt8.ofNat x.1) k.1).toNat : Nat) : Int) := by decide +kernel
theorem bit_and (x : UInt8) (k : Nat) (hk : k < 8) : (bits BinOp.and IntKind.u8 (((x.toNat : Nat) : Int) / 2 ^ k) 1 == 1) = bit8 x k := by
  have := bits_get ⟨x.toNat, x.toNat_lt⟩ ⟨k, hk⟩
  simpa [bit8] using this
theorem bit_or (x : UInt8) (k : Nat) (hk : k < 8) : bits BinOp.or IntKind.u8 ((x.toNat : Nat) : Int) (2 ^ k % 256) = (((or8 x k).toNat : Nat) : Int) := by
  have := bits_or ⟨x.toNat, x.toNat_lt⟩ ⟨k, hk⟩
  simpa using this
theorem bit8_or : ∀ x : Fin 256, ∀ k : Fin 8, ∀ j : Fin 8, bit8 (or8 (UInt8.ofNat x.1) k.1) j.1 = (bit8 (UInt8.ofNat x.1) j.1 || decide (j.1 = k.1)) := by decide +kernel
theorem bit8_or8 (x : UInt8) (k j : Nat) (hk : k < 8) (hj : j < 8) : bit8 (or8 x k) j = (bit8 x j || decide (j = k)) := by
  have := bit8_or ⟨x.toNat, x.toNat_lt⟩ ⟨k, hk⟩ ⟨j, hj⟩
  simpa using this
theorem sb_length (m : List UInt8) (b : Nat) : (sb m b).length = m.length := by simp [sb]
theorem gb_sb (m : List UInt8) (b j : Nat) (hb : b / 8 < m.length) : gb (sb m b) j = (gb m j || decide (j = b)) := by
  unfold gb sb
  by_cases e : j / 8 = b / 8
  · rw [e]
    have : (m.set (b / 8) (or8 (m.getD (b / 8) 0) (b % 8))).getD (b / 8) 0 = or8 (m.getD (b / 8) 0) (b % 8) := by simp [List.getD, hb]
    rw [this, bit8_or8 _ _ _ (by omega) (by omega)]
    congr 1
    exact decide_eq_decide.2 (by omega)
  · have : (m.set (b / 8) (or8 (m.getD (b / 8) 0) (b % 8))).getD (j / 8) 0 = m.getD (j / 8) 0 := by
      simp [List.getD, Ne.symm e]
    rw [this]
    have e2 : ¬ j = b := fun h => e (by rw [h])
    simp [e2]

/-- The bitmap of the first k blocks. -/
def isU (s : List UInt8) (b : Nat) : Bool := s[b]? == some 1 || s[b]? == some 3
def bmK (s : List UInt8) : Nat → List UInt8
  | 0 => List.replicate ((s.length + 7) / 8) 0
  | k + 1 => if isU s k then sb (bmK s k) k else bmK s k
def bm (s : List UInt8) : List UInt8 := bmK s s.length
theorem bmK_length (s : List UInt8) (k : Nat) : (bmK s k).length = (s.length + 7) / 8 := by
  induction k with
  | zero => simp [bmK]
  | succ k ih => unfold bmK; split <;> simp [sb_length, ih]
theorem bm_length (s : List UInt8) : (bm s).length = (s.length + 7) / 8 := bmK_length s _
theorem gb_bmK (s : List UInt8) (k : Nat) (hk : k ≤ s.length) (j : Nat) : gb (bmK s k) j = (decide (j < k) && isU s j) := by
  induction k with
  | zero =>
    unfold gb bmK
    have : (List.replicate ((s.length + 7) / 8) (0 : UInt8)).getD (j / 8) 0 = 0 := by
      simp [List.getD, List.getElem?_replicate]
      split <;> rfl
    rw [this]
    simp [bit8]
  | succ k ih =>
    have ih := ih (by omega)
    unfold bmK
    by_cases hu : isU s k = true
    · rw [if_pos hu, gb_sb _ _ _ (by rw [bmK_length]; omega), ih]
      by_cases e : j = k
      · subst e; simp [hu]
      · have : (decide (j < k + 1)) = decide (j < k) := decide_eq_decide.2 (by omega)
        rw [this]; simp [e]
    · rw [if_neg hu, ih]
      by_cases e : j = k
      · subst e; simp [hu]
      · have : (decide (j < k + 1)) = decide (j < k) := decide_eq_decide.2 (by omega)
        rw [this]
theorem gb_bm (s : List UInt8) (j : Nat) : gb (bm s) j = isU s j := by
  unfold bm
  rw [gb_bmK s _ (Nat.le_refl _)]
  by_cases h : j < s.length
  · simp [h]
  · have : isU s j = false := by unfold isU; rw [List.getElem?_eq_none (by omega)]; rfl
    rw [this]; simp

section
variable (w : World)

theorem hasBit_any (v : Value) (m : List UInt8) (hv : Rd w v m) (b : Nat) (hb : b / 8 < m.length) (hm : m.length ≤ 65536) : Calls Try.prog 40 #[v, .int .i64 (b : Int)] w fun e w' => e = .returned (.bool (gb m b)) ∧ w = w' := by
  obtain ⟨ao, cc, rfl⟩ := hv.shape
  obtain ⟨q, o, rfl, -, h1, h2, h3⟩ := hv.lits (by omega)
  have hc := h3 (b / 8) hb
  have hg : gb m b = bit8 m[b / 8] (b % 8) := by unfold gb; simp [List.getD, hb]
  rw [hg, ← bit_and _ _ (by omega)]
  have hx := (m[b / 8]).toNat_lt
  generalize (m[b / 8]).toNat = x at *
  clear h3 hg hv
  obtain ⟨n, hn⟩ : ∃ n, n = m.length := ⟨_, rfl⟩
  rw [← hn] at hb hm h1 ⊢
  clear hn
  go_enter Try.func40, Try.ntmps40
  go_wp2_with fail
  go_ret
  exact ⟨rfl, rfl⟩

set_option maxHeartbeats 1000000 in
theorem setBit_any (q : Nat) (m : List UInt8) (h : BAt w q m) (b n cc : Nat) (hn : n = m.length) (hb : b / 8 < n) (hm : n ≤ 65536) : Calls Try.prog 61 #[.slice (some ⟨q, 0, none⟩) n cc, .int .i64 (b : Int)] w fun e w' => e = .returned (.tuple #[]) ∧ BAt w' q (sb m b) ∧ Fr (fun k => k = q) w w' := by
  have hb2 : b / 8 < m.length := by omega
  have hc := h.cell (b / 8) hb2
  have hz := h.frozen (b / 8)
  have ho := bit_or m[b / 8] (b % 8) (by omega)
  have HB : Hid (∀ k : Nat, BAt ((w.drewN k).setCell ⟨q, b / 8, none⟩ (.int .u8 (((or8 m[b / 8] (b % 8)).toNat : Nat) : Int))) q (sb m b)) := hide (fun k => by
    have h0 : BAt (w.drewN k) q m := h.kept (S := fun _ => False) (Fr.ofDrewN _ _) id
    have := h0.set (b / 8) (or8 m[b / 8] (b % 8))
    have e : sb m b = m.set (b / 8) (or8 m[b / 8] (b % 8)) := by unfold sb; simp [List.getD, hb2]
    rw [e]; exact this)
  have hx := (m[b / 8]).toNat_lt
  generalize (or8 m[b / 8] (b % 8)).toNat = y at *
  generalize (m[b / 8]).toNat = x at *
  clear h hn hb2
  go_enter Try.func61, Try.ntmps61
  go_wp2_with fail
  refine wp_region_quietTail 9 (by kernel_rfl) (by kernel_rfl) ?_
  simp only [List.take_succ_cons, List.take_zero]
  repeat (go_big_quiet_step (fail))
  refine wpQuiet_nil ?_
  intro _ hw'
  obtain ⟨nq, hw''⟩ := hw'
  subst hw''
  simp only [List.drop_succ_cons, List.drop_zero]
  go_wp2_with fail
  go_end0
  exact ⟨rfl, unhide HB _, (Fr.ofDrewN _ _ : Fr (fun k => k = q) w (w.drewN nq)).setCell (p := ⟨q, b / 8, none⟩) (fun _ => rfl) _⟩
end

section
variable (w : World) (p : Nat) (X : Ly) (K : Kc)

theorem isU_nat {s : List UInt8} {b : Nat} {v : UInt8} (h : s[b]? = some v) : isU s b = ((((v.toNat : Nat) : Int) == 1) || (((v.toNat : Nat) : Int) == 3)) := by
  have : ∀ v : Fin 256, ((some (UInt8.ofNat v.1) == some 1) || (some (UInt8.ofNat v.1) == some (3 : UInt8))) = ((((v.1 : Nat) : Int) == 1) || (((v.1 : Nat) : Int) == 3)) := by decide +kernel
  have := this ⟨v.toNat, v.toNat_lt⟩
  unfold isU
  rw [h]
  simpa using this

set_option maxRecDepth 100000 in
set_option maxHeartbeats 1000000 in
theorem bitmap_any (H : KA w p X K) : Calls Try.prog 20 #[ptr p] w fun e w' => (∃ q N, e = .returned (.slice (some ⟨q, 0, none⟩) N N) ∧ N = (bm K.s).length ∧ BAt w' q (bm K.s) ∧ w.heap.size ≤ q) ∧ Fr (fun _ => False) w w' := by
  have HB := hide (blocks_any w p X K H)
  have HBB := hide (bitmapBytes_any w K.s.length H.n2)
  have hn1 := H.n1
  have hn2 := H.n2
  obtain ⟨w1, hm, hB1, f1⟩ := mk_any w ((K.s.length + 7) / 8) (by omega)
  have HB2 := hide (blocks_any w1 p X K (H.kept f1 (fun _ _ h => h)))
  have HH := hide H
  have B1 := hide hB1
  have F1 := hide f1
  have HLN : Hid ((bm K.s).length = (K.s.length + 7) / 8) := hide (bm_length K.s)
  have HS : Hid (∀ k, (bmK K.s k).length = (K.s.length + 7) / 8) := hide (bmK_length K.s)
  obtain ⟨n, hn⟩ : ∃ n, n = K.s.length := ⟨_, rfl⟩
  have HN := hide hn
  rw [← hn] at HB HBB HB2 hm hn1 hn2 HLN HS
  obtain ⟨N, hNN⟩ : ∃ N, N = (n + 7) / 8 := ⟨_, rfl⟩
  have HNN := hide hNN
  rw [← hNN] at HBB hm HLN HS
  have hNle : N ≤ 65536 := by omega
  obtain ⟨q, hq⟩ : ∃ q, q = w.heap.size := ⟨_, rfl⟩
  rw [← hq] at hm B1
  have HQ := hide hq
  have c00 : Hid (∀ W, Fr (fun k => k = q) w1 W → ∃ cq, W.cell? ⟨p, 0, none⟩ = some (.slice (some ⟨X.q, 0, none⟩) n cq)) := hide (fun W f => by
    rw [hn]
    exact ⟨_, ((H.kept f1 (fun _ _ h => h)).kept f (fun k hk e => by have := H.lt k hk; omega)).c0⟩)
  have cst : Hid (∀ W, Fr (fun k => k = q) w1 W → ∀ i v, K.s[i]? = some v → W.cell? ⟨X.q, i, none⟩ = some (.int .u8 ((v.toNat : Nat) : Int))) := hide (fun W f i v hi => ((H.kept f1 (fun _ _ h => h)).kept f (fun k hk e => by have := H.lt k hk; omega)).state hi)
  clear H hB1 f1 hn hNN hq
  unfold ptr at *
  go_enter Try.func20, Try.ntmps20
  go_wp2_with fail
  refine (unhide HB).mono ?_
  rintro e w' ⟨rfl, rfl⟩
  go_wp2_with fail
  refine (unhide HBB).mono ?_
  rintro e w' ⟨rfl, rfl⟩
  go_wp2_with fail
  refine (unhide HB2).mono ?_
  rintro e w' ⟨rfl, rfl⟩
  go_wp2_with fail
  go_loopw [11] (fun x W => ∃ i : Nat, i ≤ n ∧ x = .int .i64 (i : Int) ∧ BAt W q (bmK K.s i) ∧ Fr (fun k => k = q) w1 W) (fun x _ => n - (intOf x).toNat)
  case atStart =>
    refine ⟨0, by omega, rfl, ?_, Fr.refl _ _⟩
    have := unhide B1
    unfold bmK
    exact this
  case round =>
    obtain ⟨i, hi, rfl, hB, hF⟩ := hrel
    have HBi := hide hB
    have HF := hide hF
    by_cases hlt : i < n
    · obtain ⟨cq, c0⟩ := unhide c00 wr hF
      have i1 : i < K.s.length := by have := unhide HN; omega
      obtain ⟨v, hv⟩ := get_ex i1
      have cs := unhide cst wr hF i v hv
      have hu := isU_nat hv
      have HSB := hide (setBit_any wr q _ hB i N N (unhide HS i).symm (by have := unhide HNN; omega) hNle)
      have hvb := v.toNat_lt
      generalize v.toNat = vn at *
      clear hv hB hF i1
      by_cases e1 : vn = 1
      · subst e1
        have HU : Hid (isU K.s i = true) := hide (by rw [hu]; rfl)
        clear hu
        go_wp2_with fail
        refine (unhide HSB).mono ?_
        rintro e w' ⟨rfl, hB', f'⟩
        have HB' := hide hB'
        have HF' := hide f'
        clear hB' f'
        go_wp2_with fail
        go_roundw
        case rel => exact ⟨i + 1, by omega, by go_num, by unfold bmK; rw [if_pos (unhide HU)]; exact unhide HB', (unhide HF).trans (unhide HF') (fun _ _ h => h)⟩
        case measure => simp [intOf]; omega
      · by_cases e3 : vn = 3
        · subst e3
          have HU : Hid (isU K.s i = true) := hide (by rw [hu]; rfl)
          clear hu e1
          go_wp2_with fail
          refine (unhide HSB).mono ?_
          rintro e w' ⟨rfl, hB', f'⟩
          have HB' := hide hB'
          have HF' := hide f'
          clear hB' f'
          go_wp2_with fail
          go_roundw
          case rel => exact ⟨i + 1, by omega, by go_num, by unfold bmK; rw [if_pos (unhide HU)]; exact unhide HB', (unhide HF).trans (unhide HF') (fun _ _ h => h)⟩
          case measure => simp [intOf]; omega
        · have b1 : ((vn : Int) == 1) = false := by simp; omega
          have b3 : ((vn : Int) == 3) = false := by simp; omega
          have HU : Hid (isU K.s i = false) := hide (by rw [hu, b1, b3]; rfl)
          clear hu e1 e3
          go_wp2_with fail
          go_roundw
          case rel => exact ⟨i + 1, by omega, by go_num, by unfold bmK; rw [unhide HU]; exact unhide HBi, unhide HF⟩
          case measure => simp [intOf]; omega
    · have hie : i = n := by omega
      subst hie
      clear hB hF
      go_wp2_with fail
      go_ret
      have hB := unhide HBi
      rw [unhide HN] at hB
      exact ⟨⟨q, N, rfl, (unhide HLN).symm, hB, Nat.le_of_eq (unhide HQ).symm⟩, (unhide F1).trans (unhide HF) (fun k hk e => by have := unhide HQ; omega)⟩
end
end Go.Proofs.Ytbpajilglfabbaa
