/-
  The walks of package disk's met and Turn.
-/
import Derived.Test.YtdhendcogjhgfaaD15
namespace Go.Proofs.Ytdhendcogjhgfaa
open Go.RowKit
set_option linter.unusedVariables false

attribute [local go_sem ↓] Go.wp_at_zero Go.wp_at_succ

theorem wrap_u32n (n : Nat) (h : n < 4294967296) : IntKind.u32.wrap (n : Int) = (n : Int) := by
  simp only [IntKind.wrap, IntKind.bits, IntKind.signed]
  simp
  omega
theorem and32 (a b : Nat) (ha : a < 4294967296) (hb : b < 4294967296) : bits BinOp.and IntKind.u32 (a : Int) (b : Int) = ((a &&& b : Nat) : Int) := by
  show IntKind.u32.wrap ((BitVec.ofInt 32 (a : Int) &&& BitVec.ofInt 32 (b : Int)).toNat : Int) = _
  rw [BitVec.ofInt_natCast, BitVec.ofInt_natCast, BitVec.toNat_and, BitVec.toNat_ofNat, BitVec.toNat_ofNat, Nat.mod_eq_of_lt (by omega), Nat.mod_eq_of_lt (by omega)]
  exact wrap_u32n _ (Nat.lt_of_le_of_lt Nat.and_le_left ha)

/-- The part of a mask that meets bits of a sector. -/
def mtN (z : Nat) (b : Int) (m : Nat) : Nat := if 0 ≤ b ∧ b < 8 * (z : Int) then (if 8 * (z : Int) - b < 32 then m &&& (2 ^ (8 * (z : Int) - b).toNat - 1) else m) else 0

theorem mtN_lt {z : Nat} {b : Int} {m : Nat} (h : m < 4294967296) : mtN z b m < 4294967296 := by
  unfold mtN
  split
  · split
    · exact Nat.lt_of_le_of_lt Nat.and_le_left h
    · exact h
  · omega

theorem mtN_bit {z b m i : Nat} (hb : b < 8 * z) (hi : i < 32) : (mtN z (b : Int) m).testBit i = (m.testBit i && decide (b + i < 8 * z)) := by
  unfold mtN
  rw [if_pos (by omega)]
  by_cases h : 8 * (z : Int) - (b : Int) < 32
  · rw [if_pos h, Nat.testBit_and, Nat.testBit_two_pow_sub_one]
    congr 1
    rw [decide_eq_decide]
    omega
  · rw [if_neg h]
    have : decide (b + i < 8 * z) = true := by simp; omega
    rw [this, Bool.and_true]

section
variable (w : World) (p gs : Nat) (qv : Value) (d : Dk)

set_option maxHeartbeats 1000000 in
set_option maxRecDepth 100000 in
theorem met_any (b : Int) (m : Nat) (hm : m < 4294967296) (h : KAt w p gs qv d) : Calls Try.prog 57 #[.pointer (some ⟨p, 0, none⟩), .int .i64 b, .int .u32 (m : Int)] w fun e w' => e = .returned (.int .u32 ((mtN d.size b m : Nat) : Int)) ∧ w = w' := by
  have HS := hide (size_any w p gs qv d h)
  have hz := h.ok.size
  clear h
  unfold mtN
  by_cases h0 : b < 0
  · rw [if_neg (by omega)]
    have b1 : decide (b < 0) = true := by simpa using h0
    go_enter Try.func57, Try.ntmps57
    go_wp2_with (go_at_call 38; refine (unhide HS).mono ?_; rintro e w' ⟨rfl, rfl⟩)
    go_ret
    exact ⟨rfl, rfl⟩
  · have b1 : decide (b < 0) = false := by simpa using h0
    obtain ⟨c, rfl⟩ : ∃ c : Nat, b = (c : Int) := ⟨b.toNat, by omega⟩
    by_cases h1 : c < 8 * d.size
    · have b2 : decide ((8 : Int) * (d.size : Int) ≤ (c : Int)) = false := by simp; omega
      rw [if_pos (by omega)]
      obtain ⟨k, hk⟩ : ∃ k, 8 * d.size - c = k := ⟨_, rfl⟩
      have e1 : (8 : Int) * (d.size : Int) - (c : Int) = (k : Int) := by omega
      rw [e1, Int.toNat_natCast]
      by_cases h2 : (k : Int) < 32
      · rw [if_pos h2]
        have b3 : decide ((k : Int) < 32) = true := by simpa using h2
        have hlt : 2 ^ k ≤ 2 ^ 31 := Nat.pow_le_pow_right (by decide) (by omega)
        have hpos : 0 < 2 ^ k := Nat.two_pow_pos k
        have e2 : ((2 : Int) ^ k - 1) % 4294967296 = ((2 ^ k - 1 : Nat) : Int) := by
          have : ((2 : Int) ^ k) = ((2 ^ k : Nat) : Int) := by simp
          rw [this]
          omega
        have e3 := and32 m (2 ^ k - 1) hm (by omega)
        rw [← e2] at e3
        have E3 := hide e3
        have hk32 : k < 32 := by omega
        clear hk h2 hlt hpos e2 e3
        go_enter Try.func57, Try.ntmps57
        go_wp2_with (go_at_call 38; refine (unhide HS).mono ?_; rintro e w' ⟨rfl, rfl⟩)
        go_ret
        exact ⟨by rw [unhide E3]; rfl, rfl⟩
      · rw [if_neg h2]
        have b3 : decide ((k : Int) < 32) = false := by simpa using h2
        clear hk h2
        go_enter Try.func57, Try.ntmps57
        go_wp2_with (go_at_call 38; refine (unhide HS).mono ?_; rintro e w' ⟨rfl, rfl⟩)
        go_ret
        exact ⟨rfl, rfl⟩
    · rw [if_neg (by omega)]
      have b2 : decide ((8 : Int) * (d.size : Int) ≤ (c : Int)) = true := by simp; omega
      go_enter Try.func57, Try.ntmps57
      go_wp2_with (go_at_call 38; refine (unhide HS).mono ?_; rintro e w' ⟨rfl, rfl⟩)
      go_ret
      exact ⟨rfl, rfl⟩
end

theorem secC_byte {s : List UInt8 × UInt8} (k : Nat) (h : k < s.1.length) (h2 : s.1.length ≤ 512) (c : UInt8) : (secC s).set k (.int .u8 ((c.toNat : Nat) : Int)) = secC (s.1.set k c, s.2) := by
  unfold secC pad
  rw [List.set_append_left _ _ (by rw [bvs_length, List.length_append, List.length_replicate]; omega), bvs_append, bvs_append, List.set_append_left _ _ (by rw [bvs_length]; exact h), List.length_set]
  congr 2
  simp [bvs, List.map_set]

/-- A byte of a sector turns. -/
theorem KAt.byte {w : World} {p gs : Nat} {qv : Value} {d : Dk} (h : KAt w p gs qv d) (i k : Nat) (hi : i < d.S.length) (hk : k < d.size) (c : UInt8) :
    KAt (w.setCell ⟨gs, i * 513 + k, none⟩ (.int .u8 ((c.toNat : Nat) : Int))) p gs qv (seD d i ((d.S[i]).1.set k c, (d.S[i]).2)) ∧ Fr (fun b => b = gs) w (w.setCell ⟨gs, i * 513 + k, none⟩ (.int .u8 ((c.toNat : Nat) : Int))) := by
  have f : Fr (fun b => b = gs) w (w.setCell ⟨gs, i * 513 + k, none⟩ (.int .u8 ((c.toNat : Nat) : Int))) := (Fr.refl (fun b => b = gs) w).setCell (p := ⟨gs, i * 513 + k, none⟩) (fun _ => rfl) _
  have hh := heap_setCell_same w gs (i * 513 + k) _ 92 (.int .u8 ((c.toNat : Nat) : Int)) h.secs
  have hsz := h.ok.size
  have hsl := h.ok.sec _ (List.getElem_mem hi)
  have hqb : ∀ b, qv.ownBlock = some b → b ≠ gs := fun b hb e => by
    subst e
    rcases h.queue.2 with ⟨hv, -⟩ | ⟨g, cap, cur, hv, -, h1, -⟩
    · rw [hv] at hb; simp [Value.ownBlock] at hb
    · rw [hv] at hb
      simp [Value.ownBlock] at hb
      subst hb
      have := h.secs
      rw [h1] at this
      simp at this
  refine ⟨⟨?_, ?_, owns_kept h.queue f hqb, seD_ok h.ok i _ ⟨by rw [List.length_set]; exact hsl.1, hsl.2⟩⟩, f⟩
  · rw [f.block p (lt_of_heap h.heap) h.ne, h.heap]
    simp [seD]
  · rw [hh, List.setIfInBounds_toArray, List.set_append_left _ _ (by rw [secF_len h.ok]; have : (i + 1) * 513 ≤ d.S.length * 513 := Nat.mul_le_mul_right _ hi; omega)]
    have : (secF d.S).set (i * 513 + k) (.int .u8 ((c.toNat : Nat) : Int)) = secF (d.S.set i ((d.S[i]).1.set k c, (d.S[i]).2)) := by
      unfold secF
      rw [flat_set h.ok.secl i k (by simpa using hi) (by omega), List.getElem_map, secC_byte k (by rw [hsl.1]; exact hk) (by rw [hsl.1]; exact hsz.2), List.map_set]
    rw [this]
    rfl

/-- A sector's injury turns. -/
theorem KAt.hurt {w : World} {p gs : Nat} {qv : Value} {d : Dk} (h : KAt w p gs qv d) (i : Nat) (hi : i < d.S.length) (c : UInt8) (hc : c.toNat ≤ 2) :
    KAt (w.setCell ⟨gs, i * 513 + 512, none⟩ (.int .u8 ((c.toNat : Nat) : Int))) p gs qv (seD d i ((d.S[i]).1, c)) ∧ Fr (fun b => b = gs) w (w.setCell ⟨gs, i * 513 + 512, none⟩ (.int .u8 ((c.toNat : Nat) : Int))) := by
  have f : Fr (fun b => b = gs) w (w.setCell ⟨gs, i * 513 + 512, none⟩ (.int .u8 ((c.toNat : Nat) : Int))) := (Fr.refl (fun b => b = gs) w).setCell (p := ⟨gs, i * 513 + 512, none⟩) (fun _ => rfl) _
  have hh := heap_setCell_same w gs (i * 513 + 512) _ 92 (.int .u8 ((c.toNat : Nat) : Int)) h.secs
  have hsl := h.ok.sec _ (List.getElem_mem hi)
  have hqb : ∀ b, qv.ownBlock = some b → b ≠ gs := fun b hb e => by
    subst e
    rcases h.queue.2 with ⟨hv, -⟩ | ⟨g, cap, cur, hv, -, h1, -⟩
    · rw [hv] at hb; simp [Value.ownBlock] at hb
    · rw [hv] at hb
      simp [Value.ownBlock] at hb
      subst hb
      have := h.secs
      rw [h1] at this
      simp at this
  refine ⟨⟨?_, ?_, owns_kept h.queue f hqb, seD_ok h.ok i _ ⟨hsl.1, hc⟩⟩, f⟩
  · rw [f.block p (lt_of_heap h.heap) h.ne, h.heap]
    simp [seD]
  · rw [hh, List.setIfInBounds_toArray, List.set_append_left _ _ (by rw [secF_len h.ok]; have : (i + 1) * 513 ≤ d.S.length * 513 := Nat.mul_le_mul_right _ hi; omega), secF_sethurt h.ok i hi c]
    rfl

/-- The bytes of a sector, of which the first i bits of a mask are turned. -/
def tuL (z b m : Nat) (l : List UInt8) : Nat → List UInt8
  | 0 => l
  | i + 1 => if (m.testBit i && decide (b + i < 8 * z)) = true then (tuL z b m l i).set ((b + i) / 8) ((tuL z b m l i).getD ((b + i) / 8) 0 ^^^ (1 <<< UInt8.ofNat ((b + i) % 8))) else tuL z b m l i

theorem tuL_length (z b m : Nat) (l : List UInt8) (i : Nat) : (tuL z b m l i).length = l.length := by
  induction i with
  | zero => rfl
  | succ i ih =>
    unfold tuL
    split
    · rw [List.length_set, ih]
    · exact ih

/-- What Turn leaves, and answers. -/
def tuE (d : Dk) (a b : Int) (m : Nat) : Int := reE d a (mtN d.size b m != 0)
def tuD (d : Dk) (a b : Int) (m : Nat) : Dk := if tuE d a b m = 0 then seD d a.toNat (tuL d.size b.toNat m (d.S.getD a.toNat ([], 0)).1 32, 2) else d

theorem xorV (a b : UInt8) : bits BinOp.xor IntKind.u8 ((a.toNat : Nat) : Int) ((b.toNat : Nat) : Int) = (((a ^^^ b).toNat : Nat) : Int) := by
  show IntKind.u8.wrap ((BitVec.ofInt 8 ((a.toNat : Nat) : Int) ^^^ BitVec.ofInt 8 ((b.toNat : Nat) : Int)).toNat : Int) = _
  rw [BitVec.ofInt_natCast, BitVec.ofInt_natCast, ← UInt8.toBitVec_ofNat', ← UInt8.toBitVec_ofNat', UInt8.ofNat_toNat, UInt8.ofNat_toNat, ← UInt8.toBitVec_xor, UInt8.toNat_toBitVec]
  have := (a ^^^ b).toNat_lt
  simp only [IntKind.wrap, IntKind.bits, IntKind.signed]
  generalize (a ^^^ b).toNat = c at *
  simp
  omega

theorem Fr.drewN {S : Nat → Prop} {a w : World} (h : Fr S a w) (n : Nat) : Fr S a (w.drewN n) := by
  induction n with
  | zero => exact h
  | succ n ih => exact ih.drew
theorem Fr.ofDrewN {S : Nat → Prop} (w : World) (n : Nat) : Fr S w (w.drewN n) := (Fr.refl S w).drewN n

section
variable (w : World) (p gs : Nat) (qv : Value) (d : Dk)

set_option maxHeartbeats 1000000 in
set_option maxRecDepth 100000 in
theorem turn_any (a b : Int) (m : Nat) (hm : m < 4294967296) (h : KAt w p gs qv d) : Calls Try.prog 31 #[.pointer (some ⟨p, 0, none⟩), .int .i64 a, .int .i64 b, .int .u32 (m : Int)] w fun e w' => e = .returned (.int .i64 (tuE d a b m)) ∧ KSt w w' p gs qv (tuD d a b m) := by
  have HM := hide (met_any w p gs qv d b m hm h)
  have HR := hide (refused_any w p gs qv d a (mtN d.size b m != 0) h)
  have hne : (((mtN d.size b m : Nat) : Int) != 0) = (mtN d.size b m != 0) := by
    rw [Bool.eq_iff_iff]; simp
  unfold tuD
  have hE : tuE d a b m = reE d a (mtN d.size b m != 0) := rfl
  by_cases he : tuE d a b m = 0
  · rw [if_pos he]
    rw [hE] at he ⊢
    obtain ⟨i, rfl, hi, hr, hoff, hin⟩ := reE_zero he
    rw [he] at HR ⊢
    have hbit : 0 ≤ b ∧ b < 8 * (d.size : Int) := by
      rcases Decidable.em (0 ≤ b ∧ b < 8 * (d.size : Int)) with h1 | h1
      · exact h1
      · have : mtN d.size b m = 0 := by unfold mtN; rw [if_neg h1]
        rw [this] at hr
        simp at hr
    obtain ⟨c, rfl⟩ : ∃ c : Nat, b = (c : Int) := ⟨b.toNat, by omega⟩
    have hc : c < 8 * d.size := by omega
    rw [Int.toNat_natCast, Int.toNat_natCast]
    have hgd : d.S.getD i ([], 0) = d.S[i] := by simp [List.getD, hi]
    rw [hgd]
    have c1 := cell_of_heap h.heap 1
    simp at c1
    have hsz := h.ok.size
    have hlen := h.ok.len
    have hbits := fun k (hk : k < 32) => mtN_bit (m := m) hc hk
    have hml := mtN_lt (z := d.size) (b := (c : Int)) hm
    rw [hr] at HR hne
    generalize mtN d.size (c : Int) m = mk at *
    have H := hide h
    have HB := hide hbits
    clear h he hE hbits hgd
    go_enter Try.func31, Try.ntmps31
    go_wp2_with (first | (go_at_call 57; refine (unhide HM).mono ?_; rintro e w' ⟨rfl, rfl⟩) | (go_at_call 58; refine (unhide HR).mono ?_; rintro e w' ⟨rfl, rfl⟩))
    go_loopw [30] (fun x w' => ∃ k : Nat, k ≤ 32 ∧ x = .int .i64 (k : Int) ∧ KAt w' p gs qv (seD d i (tuL d.size c m (d.S[i]).1 k, (d.S[i]).2)) ∧ Fr (fun b => b = gs) w w') (fun x _ => 32 - (intOf x).toNat)
    case atStart =>
      refine ⟨0, by omega, rfl, ?_, Fr.refl _ _⟩
      have : seD d i (tuL d.size c m (d.S[i]).1 0, (d.S[i]).2) = d := by
        unfold seD tuL
        rw [List.set_getElem_self]
      rw [this]
      exact unhide H
    case round =>
      obtain ⟨k, hk, rfl, hK, hf⟩ := hrel
      by_cases hlt : k < 32
      · have hbk := unhide HB k hlt
        have hst : tuL d.size c m (d.S[i]).1 (k + 1) = if (m.testBit k && decide (c + k < 8 * d.size)) = true then (tuL d.size c m (d.S[i]).1 k).set ((c + k) / 8) ((tuL d.size c m (d.S[i]).1 k).getD ((c + k) / 8) 0 ^^^ (1 <<< UInt8.ofNat ((c + k) % 8))) else tuL d.size c m (d.S[i]).1 k := rfl
        rw [← hbk] at hst
        have hshr : mk / 2 ^ k < 4294967296 := Nat.lt_of_le_of_lt (Nat.div_le_self _ _) hml
        have hand := and32 (mk / 2 ^ k) 1 hshr (by omega)
        have htb : mk.testBit k = decide ((mk / 2 ^ k) &&& 1 = 1) := by
          rw [Nat.testBit_eq_decide_div_mod_eq, Nat.and_one_is_mod]
        have hE : (bits BinOp.and IntKind.u32 ((mk : Int) / 2 ^ k) 1 == 1) = mk.testBit k := by
          have e1 : ((mk : Int) / 2 ^ k) = ((mk / 2 ^ k : Nat) : Int) := by simp
          have e2 : (1 : Int) = ((1 : Nat) : Int) := rfl
          rw [e1, htb]
          conv => lhs; lhs; rw [e2]
          rw [hand, Bool.eq_iff_iff]
          simp only [beq_iff_eq, decide_eq_true_eq]
          omega
        clear hshr hand htb hbk
        rcases hb : mk.testBit k with _ | _
        · rw [hb] at hE hst
          have HST := hide (show tuL d.size c m (d.S[i]).1 (k + 1) = tuL d.size c m (d.S[i]).1 k by rw [hst]; simp)
          have HK := hide hK
          have HF := hide hf
          clear hK hf hst hb
          go_wp2_with fail
          go_roundw
          case rel => exact ⟨k + 1, by omega, by go_num, by rw [unhide HST]; exact unhide HK, unhide HF⟩
          case measure => simp [intOf]; omega
        · rw [hb] at hE hst
          have hbk := unhide HB k hlt
          rw [hb] at hbk
          have hin2 : c + k < 8 * d.size := by
            have := hbk.symm
            simp at this
            exact this.2
          have HST := hide (show tuL d.size c m (d.S[i]).1 (k + 1) = (tuL d.size c m (d.S[i]).1 k).set ((c + k) / 8) ((tuL d.size c m (d.S[i]).1 k).getD ((c + k) / 8) 0 ^^^ (1 <<< UInt8.ofNat ((c + k) % 8))) by rw [hst]; simp)
          have hSi : (seD d i (tuL d.size c m (d.S[i]).1 k, (d.S[i]).2)).S.length = d.S.length := by simp [seD]
          have hSi2 : i < (seD d i (tuL d.size c m (d.S[i]).1 k, (d.S[i]).2)).S.length := by rw [hSi]; exact hi
          obtain ⟨r1, -⟩ := hK.sbytes i hSi2
          have hSg : (seD d i (tuL d.size c m (d.S[i]).1 k, (d.S[i]).2)).S[i] = (tuL d.size c m (d.S[i]).1 k, (d.S[i]).2) := by simp [seD]
          have hby := fun nq v => (hK.kept (Fr.ofDrewN (S := fun _ => False) wr nq) id id (fun _ _ h => h)).byte i ((c + k) / 8) hSi2 (by show (c + k) / 8 < d.size; omega) v
          rw [hSg] at r1 hby
          have htl : (tuL d.size c m (d.S[i]).1 k).length = d.size := by rw [tuL_length]; exact ((unhide H).ok.sec _ (List.getElem_mem hi)).1
          obtain ⟨L, hL⟩ : ∃ L, L = tuL d.size c m (d.S[i]).1 k := ⟨_, rfl⟩
          rw [← hL] at r1 hby htl HST
          obtain ⟨n, hn⟩ : ∃ n, c + k = n := ⟨_, rfl⟩
          obtain ⟨q, hq⟩ : ∃ q, n / 8 = q := ⟨_, rfl⟩
          obtain ⟨r, hr8⟩ : ∃ r, n % 8 = r := ⟨_, rfl⟩
          rw [hn, hq] at hby HST
          rw [hr8] at HST
          have hq5 : q < d.size := by omega
          have hq512 : q < 512 := by omega
          have hrl : r < 8 := by omega
          have e1 : (c : Int) + (k : Int) = (n : Int) := by omega
          have e2 : (n : Int) / 8 = (q : Int) := by omega
          have e3 : (n : Int) % 8 = (r : Int) := by omega
          have e2t : (n : Int).tdiv 8 = (q : Int) := by rw [Int.tdiv_eq_ediv_of_nonneg (by omega)]; exact e2
          have e3t : (n : Int).tmod 8 = (r : Int) := by rw [Int.tmod_eq_emod_of_nonneg (by omega)]; exact e3
          have hcell : wr.cell? ⟨gs, i * 513 + q, none⟩ = some (.int .u8 (((L.getD q 0).toNat : Nat) : Int)) := by
            obtain ⟨b', o', e, -, -, -, hc2⟩ := r1.lits (by rw [pad_length (by rw [htl]; exact hsz.2)]; omega)
            simp only [Option.some.injEq, Addr.mk.injEq] at e
            obtain ⟨rfl, rfl, -⟩ := e
            have := hc2 q (by rw [pad_length (by rw [htl]; exact hsz.2)]; omega)
            rw [this]
            have hq' : q < L.length := by omega
            simp [pad, List.getElem_append_left hq', List.getD, hq']
          have zc := frozen_of_heap hK.secs (i * 513 + q)
          have hxor : bits BinOp.xor IntKind.u8 (((L.getD q 0).toNat : Nat) : Int) (2 ^ r % 256) = (((L.getD q 0 ^^^ (1 <<< UInt8.ofNat r)).toNat : Nat) : Int) := by
            have h8 : ∀ r : Nat, r < 8 → (2 : Int) ^ r % (256 : Int) = (((1 <<< UInt8.ofNat r : UInt8).toNat : Nat) : Int) := by decide +kernel
            rw [h8 r hrl]
            exact xorV _ _
          obtain ⟨ob, hob⟩ : ∃ ob, ob = L.getD q 0 := ⟨_, rfl⟩
          rw [← hob] at hcell hxor HST
          obtain ⟨nb, hnb⟩ : ∃ nb, nb = ob ^^^ (1 <<< UInt8.ofNat r) := ⟨_, rfl⟩
          rw [← hnb] at hxor HST
          have HBY := hide (fun nq => hby nq nb)
          have HF := hide hf
          have HLL := hide hL
          clear hK hf hst hb hbk hin2 hSi hSi2 hSg hby htl hL hn hq hr8 hob hnb r1 hbit
          go_wp2_with fail
          refine wp_region_quietTail 18 (by kernel_rfl) (by kernel_rfl) ?_
          simp only [List.take_succ_cons, List.take_zero]
          repeat (go_big_quiet_step (fail))
          refine wpQuiet_nil ?_
          intro _ hw'
          obtain ⟨nq, hw''⟩ := hw'
          subst hw''
          simp only [List.drop_succ_cons, List.drop_zero]
          go_wp2_with fail
          obtain ⟨hB1, hB2⟩ := unhide HBY nq
          have e4 : seD (seD d i (L, (d.S[i]).2)) i (L.set q nb, (d.S[i]).2) = seD d i (L.set q nb, (d.S[i]).2) := by simp [seD]
          rw [e4] at hB1
          refine ⟨⟨k + 1, by omega, by go_num, by rw [unhide HST]; exact hB1, ((unhide HF).trans (Fr.ofDrewN (S := fun b => b = gs) wr nq) (fun _ _ h => h)).trans hB2 (fun _ _ h => h)⟩, by simp [intOf]; omega⟩
      · have hk32 : k = 32 := by omega
        subst hk32
        have hSi : (seD d i (tuL d.size c m (d.S[i]).1 32, (d.S[i]).2)).S.length = d.S.length := by simp [seD]
        have hSi2 : i < (seD d i (tuL d.size c m (d.S[i]).1 32, (d.S[i]).2)).S.length := by rw [hSi]; exact hi
        obtain ⟨-, r2⟩ := hK.sbytes i hSi2
        have z2 := frozen_of_heap hK.secs (i * 513 + 512)
        have hSg : (seD d i (tuL d.size c m (d.S[i]).1 32, (d.S[i]).2)).S[i] = (tuL d.size c m (d.S[i]).1 32, (d.S[i]).2) := by simp [seD]
        have hh := hK.hurt i hSi2 2 (by decide)
        rw [hSg] at r2 hh
        have e4 : seD (seD d i (tuL d.size c m (d.S[i]).1 32, (d.S[i]).2)) i ((tuL d.size c m (d.S[i]).1 32, (d.S[i]).2).1, 2) = seD d i (tuL d.size c m (d.S[i]).1 32, 2) := by simp [seD]
        rw [e4] at hh
        have HH2 := hide hh
        have HF := hide hf
        generalize (((tuL d.size c m (d.S[i]).1 32, (d.S[i]).2).2.toNat : Nat) : Int) = old at r2
        clear hK hf hSi hSi2 hSg hh e4 hbit
        go_wp2_with fail
        go_ret
        obtain ⟨hB1, hB2⟩ := unhide HH2
        exact ⟨rfl, ⟨⟨qv, hB1, fun b hb => .inl hb⟩, ((unhide HF).trans hB2 (fun _ _ h => h)).mono (fun _ _ e => .inr (.inl e))⟩⟩
  · rw [if_neg he]
    have HE := hide hE
    have b1 : (tuE d a b m != 0) = true := by simpa using he
    rw [hE] at b1 ⊢
    have HK := hide (KSt.same h)
    generalize reE d a (mtN d.size b m != 0) = re at *
    generalize (mtN d.size b m != 0) = rb at *
    clear h he HE hE
    go_enter Try.func31, Try.ntmps31
    go_wp2_with (first | (go_at_call 57; refine (unhide HM).mono ?_; rintro e w' ⟨rfl, rfl⟩) | (go_at_call 58; refine (unhide HR).mono ?_; rintro e w' ⟨rfl, rfl⟩))
    go_ret
    exact ⟨rfl, unhide HK⟩
end
end Go.Proofs.Ytdhendcogjhgfaa
