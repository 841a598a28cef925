/-
  The document's hash in memory; its New, Words, eight.
-/
import Derived.Test.YtlicmlioilkfdaaDoorR2
namespace Go.Proofs.YtlicmlioilkfdaaDoor
open Go.RowKit
set_option linter.unusedVariables false
set_option linter.unusedSimpArgs false

attribute [local go_sem ↓] Go.wp_at_zero Go.wp_at_succ

/-- The document's Hash lies at block p: its state, its length, what is left (in the slice v). -/
structure GAt (w : World) (p : Nat) (s : St) (n : Nat) (v : Value) (r : List UInt8) : Prop where
  heap : w.heap[p]? = some (.cells (wvs s.l ++ [.int .u64 ((n : Nat) : Int), v]).toArray 52 (0, 0))
  fit : n < 18446744073709551616
  rest : Rd w v r
  ne : ∀ b, v.ownBlock = some b → b ≠ p ∧ b < w.heap.size
  small : r.length ≤ 1000000

section
variable {w : World} {p : Nat} {s : St} {n : Nat} {v : Value} {r : List UInt8}
theorem GAt.lt (h : GAt w p s n v r) : p < w.heap.size := lt_of_heap h.heap
theorem GAt.word (h : GAt w p s n v r) (j : Nat) (hj : j < 8) : w.cell? ⟨p, j, none⟩ = some (.int .u32 (N (s.l.getD j 0))) := by
  rw [cell_of_heap h.heap, List.getElem?_toArray, List.getElem?_append_left (by rw [wvs_length]; exact hj)]
  exact wvs_get _ _ hj
theorem GAt.num (h : GAt w p s n v r) : w.cell? ⟨p, 8, none⟩ = some (.int .u64 ((n : Nat) : Int)) := by
  rw [cell_of_heap h.heap]; rfl
theorem GAt.val (h : GAt w p s n v r) : w.cell? ⟨p, 9, none⟩ = some v := by
  rw [cell_of_heap h.heap]; rfl
theorem GAt.frozen (h : GAt w p s n v r) (j : Nat) : w.frozen? ⟨p, j, none⟩ = false := frozen_of_heap h.heap j
theorem GAt.kept {S : Nat → Prop} {w' : World} (h : GAt w p s n v r) (f : Fr S w w') (hs : ¬ S p) (hb : ∀ b, v.ownBlock = some b → ¬ S b) : GAt w' p s n v r :=
  ⟨by rw [f.block p (lt_of_heap h.heap) hs]; exact h.heap, h.fit, h.rest.kept f hb, fun b hbb => ⟨(h.ne b hbb).1, Nat.lt_of_lt_of_le (h.ne b hbb).2 f.size⟩, h.small⟩
end

theorem rnew_any (w : World) : Calls Tryd.prog 19 #[] w fun e w' => (∃ p, e = .returned (.pointer (some ⟨p, 0, none⟩)) ∧ w.heap.size ≤ p ∧ GAt w' p s0 0 (.slice none 0 0) []) ∧ Fr (fun _ => False) w w' := by
  go_enter Tryd.func19, Tryd.ntmps19
  go_wp2_with fail
  refine (first_any w).mono ?_
  rintro e w1 ⟨rfl, f1⟩
  go_wp2_with fail
  go_ret
  refine ⟨⟨w1.heap.size, rfl, f1.size, ⟨heap_alloc_new w1 _, by decide, Rd.nil _, fun b hb => by simp [Value.ownBlock] at hb, by simp⟩⟩, f1.alloc _⟩

set_option maxHeartbeats 1000000 in
set_option maxRecDepth 100000 in
theorem words_any (w : World) (s : St) : Calls Tryd.prog 47 #[.agg #[.int .u32 (N s.a), .int .u32 (N s.b), .int .u32 (N s.c), .int .u32 (N s.d), .int .u32 (N s.e), .int .u32 (N s.f), .int .u32 (N s.g), .int .u32 (N s.h)]] w fun e w' => (∃ v, e = .returned v ∧ Ow w' v (sb s) ∧ ∀ k, v.ownBlock = some k → w.heap.size ≤ k) ∧ Fr (fun _ => False) w w' := by
  obtain ⟨inf, hinf, hz0, hz1, hz2⟩ := info_parts Tryd.info5
  go_enter Tryd.func47, Tryd.ntmps47
  go_wp2_with fail
  go_loopw [3, 4] (fun x y w' => ∃ (i : Nat) (ao : Option Addr) (cap : Nat), i ≤ 8 ∧ y = .int .i64 (i : Int) ∧ x = .slice ao (4 * i) cap ∧ Ow w' (.slice ao (4 * i) cap) ((s.l.take i).flatMap wb) ∧ WAt w' w.heap.size 50 s.l ∧ Fr (fun _ => False) w w' ∧ (∀ k, (Value.slice ao (4 * i) cap).ownBlock = some k → w.heap.size < k)) (fun _ y _ => 8 - (intOf y).toNat)
  case atStart => exact ⟨0, none, 0, by omega, rfl, rfl, Ow.nil _, heap_alloc_new w _, (Fr.refl _ _).alloc _, fun k hk => by simp [Value.ownBlock] at hk⟩
  case round =>
    obtain ⟨i, ao, cap, hi8, rfl, rfl, hO, hA, hF, hN⟩ := hrel
    by_cases hlt : i < 8
    · have hc := hA.cell i hlt
      have hstep : (s.l.take (i + 1)).flatMap wb = (s.l.take i).flatMap wb ++ wb (s.l.getD i 0) := by
        rw [List.take_add_one, List.flatMap_append]
        have : s.l[i]? = some (s.l.getD i 0) := by simp [show i < s.l.length from hlt]
        rw [this]
        simp
      have hlen : ((s.l.take i).flatMap wb).length = 4 * i := by
        rw [List.length_flatMap]
        have : (s.l.take i).map (fun a => (wb a).length) = List.replicate i 4 := by
          apply List.ext_getElem
          · simp [show s.l.length = 8 from rfl]; omega
          · intro j h1 h2; simp [wb_length]
        rw [this]
        simp
        omega
      generalize s.l.getD i 0 = x at *
      have r1 := shrN24 x
      have r2 := shrN16 x
      have r3 := shrN8 x
      have hO2 : wr.ownsRow 0 5 1 (.slice ao (4 * i) cap) (4 * i) (bvs ((s.l.take i).flatMap wb)) := by
        unfold Ow at hO
        rwa [hlen] at hO
      have HO := hide hO2
      have HF := hide hF
      have HN := hide hN
      have HS := hide hstep
      have HL := hide hlen
      have HA := hide hA
      have HB := hide (bvs_wb x)
      have hlt0 : w.heap.size < wr.heap.size := lt_of_heap hA
      clear hO hO2 hF hN hstep hlen hA
      go_wp2_with fail
      go_region_held3 (fun W => W.cell? ⟨w.heap.size, i, none⟩ = some (.int .u32 (N x))) (go_keep) ((refine step_app rfl (.tmp 9) (.tmp 29) 22 rfl 5 inf _ 1 1 Tryd.underlying22 hinf hz0 hz1 hz2 rfl (by decide) (.slice ao (4 * i) cap) (4 * i) (bvs ((s.l.take i).flatMap wb)) (by rfl) (.slice (some ⟨wr.heap.size, 0, none⟩) 4 4) (by rfl) 4 (bvs (wb x)) (by first | exact (owns_kept (unhide HO) ((Fr.refl (fun _ => False) wr).drew) (fun _ _ h => h)).alloc _ | exact (unhide HO).alloc _) (by rw [unhide HB]; exact .inr ⟨_, _, rfl, rfl, cell_new _ _ _⟩) (bvs_one _) (by omega) (by simp only [maxLen]; omega) ?_; intro ao1 cap1 w1 o1 g1 p1; have hk : w1.cell? ⟨w.heap.size, i, none⟩ = some (.int .u32 (N x)) := (by have f2 : Fr (fun k => (Value.slice ao (4 * i) cap).ownBlock = some k) wr w1 := Fr.grown (by first | exact ((Fr.refl _ wr).alloc _).drew | exact ((Fr.refl _ wr).drew).alloc _) g1 (fun k hk e => e); exact (f2.cell (a := ⟨w.heap.size, i, none⟩) hlt0 (fun e => absurd (unhide HN w.heap.size e) (Nat.lt_irrefl _))).trans hc)))
      all_goals
        have hF1 : Fr (fun _ => False) w w1 := ((unhide HF).trans (by first | exact ((Fr.refl (fun _ => False) wr).alloc _).drew | exact ((Fr.refl (fun _ => False) wr).drew).alloc _) (fun _ _ h => h)).grown g1 (fun k hk e => absurd (unhide HN k e) (by omega))
        have hA1 : WAt w1 w.heap.size 50 s.l := by
          have f2 : Fr (fun k => (Value.slice ao (4 * i) cap).ownBlock = some k) wr w1 := Fr.grown (by first | exact ((Fr.refl _ wr).alloc _).drew | exact ((Fr.refl _ wr).drew).alloc _) g1 (fun k hk e => e)
          exact (unhide HA).kept f2 (fun e => absurd (unhide HN w.heap.size e) (Nat.lt_irrefl _))
        have hN1 : ∀ k, (Value.slice ao1 (4 * i + 4) cap1).ownBlock = some k → w.heap.size < k := by
          intro k hk
          rcases p1 with e | ⟨k', e, hk'⟩
          · rw [e] at hk; exact unhide HN k hk
          · rw [e] at hk; simp at hk hk'; omega
        have hO1 : Ow w1 (.slice ao1 (4 * i + 4) cap1) ((s.l.take (i + 1)).flatMap wb) := by
          unfold Ow
          rw [unhide HS, List.length_append, unhide HL, bvs_append]
          exact o1
        have H1 := hide hF1
        have H2 := hide hN1
        have H3 := hide hO1
        have H4 := hide hA1
        clear o1 g1 p1 hF1 hN1 hO1 hA1
        go_wp2_with fail
        go_roundw
        case rel => exact ⟨i + 1, ao1, cap1, by omega, by go_num, rfl, unhide H3, unhide H4, unhide H1, unhide H2⟩
        case measure => simp [intOf]; omega
    · have : i = 8 := by omega
      subst this
      have HO := hide hO
      have HF := hide hF
      have HN := hide hN
      clear hO hF hN hA
      go_wp2_with fail
      go_ret
      exact ⟨⟨_, rfl, unhide HO, fun k hk => Nat.le_of_lt (unhide HN k hk)⟩, unhide HF⟩

theorem by8_eq (x : Wd) (m : Nat) (h : x.toNat % 256 = m % 256) : by8 x = UInt8.ofNat m := by
  unfold by8
  apply UInt8.toNat_inj.1
  rw [UInt8.toNat_ofNat', UInt8.toNat_ofNat']
  exact h

theorem lb_bytes (n : Nat) : lb n = [UInt8.ofNat (n / 72057594037927936), UInt8.ofNat (n / 281474976710656), UInt8.ofNat (n / 1099511627776), UInt8.ofNat (n / 4294967296), UInt8.ofNat (n / 16777216), UInt8.ofNat (n / 65536), UInt8.ofNat (n / 256), UInt8.ofNat n] := by
  unfold lb wb
  simp only [List.cons_append, List.nil_append]
  have h : ∀ (m k : Nat), (BitVec.ofNat 32 m >>> k).toNat = m % 4294967296 / 2 ^ k := fun m k => by
    rw [BitVec.toNat_ushiftRight, BitVec.toNat_ofNat, Nat.shiftRight_eq_div_pow]
  have h0 : ∀ m, (BitVec.ofNat 32 m).toNat = m % 4294967296 := fun m => BitVec.toNat_ofNat ..
  rw [by8_eq _ (n / 72057594037927936) (by rw [h]; omega), by8_eq _ (n / 281474976710656) (by rw [h]; omega), by8_eq _ (n / 1099511627776) (by rw [h]; omega), by8_eq _ (n / 4294967296) (by rw [h0]; omega),
    by8_eq _ (n / 16777216) (by rw [h]; omega), by8_eq _ (n / 65536) (by rw [h]; omega), by8_eq _ (n / 256) (by rw [h]; omega), by8_eq _ n (by rw [h0]; omega)]

theorem ofNat_cell (m : Nat) : ((m : Nat) : Int) % 256 = (((UInt8.ofNat m).toNat : Nat) : Int) := by
  rw [UInt8.toNat_ofNat']; omega

theorem bvs_lb (n : Nat) : bvs (lb n) = [.int .u8 (((n / 72057594037927936 : Nat) : Int) % 256), .int .u8 (((n / 281474976710656 : Nat) : Int) % 256), .int .u8 (((n / 1099511627776 : Nat) : Int) % 256), .int .u8 (((n / 4294967296 : Nat) : Int) % 256), .int .u8 (((n / 16777216 : Nat) : Int) % 256), .int .u8 (((n / 65536 : Nat) : Int) % 256), .int .u8 (((n / 256 : Nat) : Int) % 256), .int .u8 (((n : Nat) : Int) % 256)] := by
  rw [lb_bytes]
  simp only [ofNat_cell]
  rfl

theorem eight_any (w : World) (n : Nat) : Calls Tryd.prog 48 #[.int .u64 ((n : Nat) : Int)] w fun e w' => (∃ b, e = .returned (.slice (some ⟨b, 0, none⟩) 8 8) ∧ w.heap.size ≤ b ∧ Rd w' (.slice (some ⟨b, 0, none⟩) 8 8) (lb n)) ∧ Fr (fun _ => False) w w' := by
  go_enter Tryd.func48, Tryd.ntmps48
  go_wp2_with fail
  go_ret
  refine ⟨⟨w.heap.size, rfl, Nat.le_refl _, ?_⟩, (Fr.refl _ _).alloc _⟩
  have hb : BAt (w.alloc (Obj.cells #[Value.int IntKind.u8 ((n : Int) / 72057594037927936 % 256), Value.int IntKind.u8 ((n : Int) / 281474976710656 % 256), Value.int IntKind.u8 ((n : Int) / 1099511627776 % 256), Value.int IntKind.u8 ((n : Int) / 4294967296 % 256), Value.int IntKind.u8 ((n : Int) / 16777216 % 256), Value.int IntKind.u8 ((n : Int) / 65536 % 256), Value.int IntKind.u8 ((n : Int) / 256 % 256), Value.int IntKind.u8 ((n : Int) % 256)] 5)) w.heap.size (lb n) := by
    unfold BAt
    rw [bvs_lb]
    exact heap_alloc_new w _
  exact hb.rd (by rw [lb_length]; simp [maxLen])
end Go.Proofs.YtlicmlioilkfdaaDoor
