/-
  Words laid behind bytes: layWord, layLong, layState.
-/
import Derived.Test.YtlicmlioilkfdaaDoorH3
namespace Go.Proofs.YtlicmlioilkfdaaDoor
open Go.RowKit
set_option linter.unusedVariables false
set_option linter.unusedSimpArgs false

attribute [local go_sem ↓] Go.wp_at_zero Go.wp_at_succ

/-- The low byte of a word. -/
def by8 (x : Wd) : UInt8 := UInt8.ofNat x.toNat

theorem N_by8 (x : Wd) : N x % 256 = (((by8 x).toNat : Nat) : Int) := by
  unfold N by8
  rw [UInt8.toNat_ofNat']
  omega

/-- The bytes of a word, the most significant first. -/
def wb (x : Wd) : List UInt8 := [by8 (x >>> 24), by8 (x >>> 16), by8 (x >>> 8), by8 x]

/-- The bytes of a number of 64 bits. -/
def lb (n : Nat) : List UInt8 := wb (BitVec.ofNat 32 (n / 4294967296)) ++ wb (BitVec.ofNat 32 n)

theorem wb_length (x : Wd) : (wb x).length = 4 := rfl
theorem lb_length (n : Nat) : (lb n).length = 8 := rfl

/-- Bytes that somebody owns. -/
def Ow (w : World) (v : Value) (l : List UInt8) : Prop := w.ownsRow 0 5 1 v l.length (bvs l)

/-- They have grown: where they lay, or in new memory. -/
def OwF (w w' : World) (v v' : Value) : Prop := Fr (fun k => v.ownBlock = some k) w w' ∧ (v'.ownBlock = v.ownBlock ∨ ∃ k, v'.ownBlock = some k ∧ w.heap.size ≤ k)

theorem OwF.trans {w1 w2 w3 : World} {v1 v2 v3 : Value} (h : OwF w1 w2 v1 v2) (k : OwF w2 w3 v2 v3) : OwF w1 w3 v1 v3 := by
  refine ⟨h.1.trans k.1 (fun i hi e => ?_), ?_⟩
  · rcases h.2 with h2 | ⟨b, hb, hb2⟩
    · rw [← h2]; exact e
    · rw [hb] at e; simp at e; omega
  · rcases k.2 with k2 | ⟨b, hb, hb2⟩
    · rw [k2]; exact h.2
    · exact .inr ⟨b, hb, Nat.le_trans h.1.size hb2⟩

theorem OwF.refl (w : World) (v : Value) : OwF w w v v := ⟨Fr.refl _ _, .inl rfl⟩

theorem Ow.rd {w : World} {v : Value} {l : List UInt8} (h : Ow w v l) : Rd w v l := Rd.of_owns h
theorem Ow.kept {S : Nat → Prop} {w w' : World} {v : Value} {l : List UInt8} (h : Ow w v l) (f : Fr S w w') (hS : ∀ k, v.ownBlock = some k → ¬ S k) : Ow w' v l := owns_kept h f hS
theorem Ow.nil (w : World) : Ow w (.slice none 0 0) [] := owns_nil w
theorem Ow.shape {w : World} {v : Value} {l : List UInt8} (h : Ow w v l) : ∃ ao cap, v = .slice ao l.length cap := owns_shape h
theorem Ow.lt {w : World} {v : Value} {l : List UInt8} (h : Ow w v l) : ∀ k, v.ownBlock = some k → k < w.heap.size := by
  intro k hk
  rcases h.2 with ⟨rfl, -⟩ | ⟨g, cap, cur, rfl, -, hg, -⟩
  · simp [Value.ownBlock] at hk
  · simp [Value.ownBlock] at hk
    subst hk
    exact lt_of_heap hg

theorem owf_app {w wA w' : World} {v v' : Value} (f : Fr (fun _ => False) w wA) (hg : wA.grownBy w' v.ownBlock) (hpl : v'.ownBlock = v.ownBlock ∨ ∃ k, v'.ownBlock = some k ∧ w.heap.size ≤ k) : OwF w w' v v' :=
  ⟨(f.mono (fun _ _ h => h.elim)).grown hg (fun k _ e => e), hpl⟩

theorem cell_new (w : World) (cs : Array Value) (e : TypeId) : ∀ j u, cs.toList[j]? = some u → (w.alloc (Obj.cells cs e)).cell? ((⟨w.heap.size, 0, none⟩ : Addr).add j) = some u := by
  intro j u hu
  rw [Addr.add_lit, Nat.zero_add, cell_of_heap (heap_alloc_new w _)]
  simpa using hu

theorem shrN24 (x : Wd) : N x / (16777216 : Int) = N (x >>> 24) := shr32 x 24
theorem shrN16 (x : Wd) : N x / (65536 : Int) = N (x >>> 16) := shr32 x 16
theorem shrN8 (x : Wd) : N x / (256 : Int) = N (x >>> 8) := shr32 x 8

theorem bvs_wb (x : Wd) : bvs (wb x) = [.int .u8 (N (x >>> 24) % 256), .int .u8 (N (x >>> 16) % 256), .int .u8 (N (x >>> 8) % 256), .int .u8 (N x % 256)] := by
  simp only [N_by8]; rfl

set_option maxHeartbeats 400000 in
theorem layWord_any (w : World) (v : Value) (l : List UInt8) (x : Wd) (h : Ow w v l) (hl : l.length ≤ 100000000) : Calls Tryd.prog 67 #[v, .int .u32 (N x)] w fun e w' => ∃ v', e = .returned v' ∧ Ow w' v' (l ++ wb x) ∧ OwF w w' v v' := by
  obtain ⟨i, hi, hz0, hz1, hz2⟩ := info_parts Tryd.info5
  obtain ⟨ao, cap, rfl⟩ := h.shape
  have r1 := shrN24 x
  have r2 := shrN16 x
  have r3 := shrN8 x
  have hlt := h.lt
  have HL := hide hlt
  have HO := hide h
  clear h hlt
  go_enter Tryd.func67, Tryd.ntmps67
  go_wp2_with (refine wpList_app rfl (.tmp 5) (.tmp 17) 22 rfl 5 i _ 1 1 Tryd.underlying22 hi hz0 hz1 hz2 rfl (by decide) _ l.length (bvs l) rfl _ rfl 4 (bvs (wb x)) ?hown ?hx ?h1 ?hb ?h63 ?hK)
  case hown => exact (unhide HO : w.ownsRow 0 5 1 _ _ _).alloc _
  case hx => rw [bvs_wb x]; exact .inr ⟨_, _, rfl, rfl, cell_new _ _ _⟩
  case h1 => exact bvs_one _
  case hb => omega
  case h63 => simp only [maxLen]; omega
  case hK =>
    intro ao' cap' w' ho hg hpl
    have hF : OwF w w' (.slice ao l.length cap) (.slice ao' (l.length + 4) cap') := owf_app ((Fr.refl _ _).alloc _) hg (by rcases hpl with e | ⟨k, e, hk⟩; exact .inl e; exact .inr ⟨k, e, by omega⟩)
    have hO : Ow w' (.slice ao' (l.length + 4) cap') (l ++ wb x) := by
      unfold Ow
      rw [List.length_append, wb_length, bvs_append]
      exact ho
    have H1 := hide hF
    have H2 := hide hO
    clear ho hg hpl hF hO
    go_wp2_with fail
    go_ret
    exact ⟨_, rfl, unhide H2, unhide H1⟩

theorem wrapN32 (n : Nat) : IntKind.u32.wrap ((n : Nat) : Int) = N (BitVec.ofNat 32 n) := by
  unfold N
  rw [BitVec.toNat_ofNat]
  simp only [IntKind.wrap, IntKind.bits, IntKind.signed]
  simp

theorem layLong_any (w : World) (v : Value) (l : List UInt8) (n : Nat) (h : Ow w v l) (hl : l.length ≤ 90000000) : Calls Tryd.prog 46 #[v, .int .u64 ((n : Nat) : Int)] w fun e w' => ∃ v', e = .returned v' ∧ Ow w' v' (l ++ lb n) ∧ OwF w w' v v' := by
  have e1 : IntKind.u32.wrap (((n : Nat) : Int) / 4294967296) = N (BitVec.ofNat 32 (n / 4294967296)) := by rw [← wrapN32]; rfl
  have e2 := wrapN32 n
  have hb : ∀ l : List UInt8, l ++ lb n = (l ++ wb (BitVec.ofNat 32 (n / 4294967296))) ++ wb (BitVec.ofNat 32 n) := fun l => by rw [lb, List.append_assoc]
  rw [hb]
  clear hb
  generalize BitVec.ofNat 32 (n / 4294967296) = hi at *
  generalize BitVec.ofNat 32 n = lo at *
  have H := hide h
  clear h
  go_enter Tryd.func46, Tryd.ntmps46
  go_wp2_with fail
  refine (layWord_any w v l hi (unhide H) (by omega)).mono ?_
  rintro e w1 ⟨v1, rfl, h1, f1⟩
  have H1 := hide h1
  have F1 := hide f1
  clear h1 f1
  go_wp2_with fail
  refine (layWord_any w1 v1 _ lo (unhide H1) (by simp [wb_length]; omega)).mono ?_
  rintro e w2 ⟨v2, rfl, h2, f2⟩
  have H2 := hide h2
  have F2 := hide f2
  clear h2 f2
  go_wp2_with fail
  go_ret
  exact ⟨_, rfl, unhide H2, (unhide F1).trans (unhide F2)⟩

/-- The bytes of a state. -/
def sb (s : St) : List UInt8 := s.l.flatMap wb

theorem sb_length (s : St) : (sb s).length = 32 := rfl

set_option maxHeartbeats 400000 in
theorem layState_any (w : World) (v : Value) (l : List UInt8) (p o : Nat) (s : St) (h : Ow w v l) (hc : ∀ j, j < 8 → w.cell? ⟨p, o + j, none⟩ = some (.int .u32 (N (s.l.getD j 0)))) (hne : ∀ k, v.ownBlock = some k → k ≠ p) (hl : l.length ≤ 80000000) : Calls Tryd.prog 45 #[v, .pointer (some ⟨p, o, none⟩)] w fun e w' => ∃ v', e = .returned v' ∧ Ow w' v' (l ++ sb s) ∧ OwF w w' v v' := by
  have hp : p < w.heap.size := World.block_lt_of_cell? w _ (hc 0 (by omega))
  have HO := hide h
  clear h
  go_enter Tryd.func45, Tryd.ntmps45
  go_wp2_with fail
  go_loopw [0, 8] (fun x y w' => ∃ i : Nat, i ≤ 8 ∧ y = .int .i64 (i : Int) ∧ Ow w' x (l ++ (s.l.take i).flatMap wb) ∧ OwF w w' v x) (fun _ y _ => 8 - (intOf y).toNat)
  case atStart => exact ⟨0, by omega, rfl, by simpa using unhide HO, OwF.refl _ _⟩
  case round =>
    obtain ⟨i, hi, rfl, h1, f1⟩ := hrel
    by_cases hlt : i < 8
    · have hcell : wr.cell? ⟨p, o + i, none⟩ = some (.int .u32 (N (s.l.getD i 0))) := by
        rw [f1.1.cell (a := ⟨p, o + i, none⟩) hp (fun e => hne p e rfl)]
        exact hc i hlt
      have hstep : (s.l.take (i + 1)).flatMap wb = (s.l.take i).flatMap wb ++ wb (s.l.getD i 0) := by
        rw [List.take_add_one, List.flatMap_append]
        have : s.l[i]? = some (s.l.getD i 0) := by simp [show i < s.l.length from hlt]
        rw [this]
        simp
      have hlen : ((s.l.take i).flatMap wb).length = 4 * i := by
        rw [List.length_flatMap]
        have : (s.l.take i).map (fun a => (wb a).length) = List.replicate i 4 := by
          apply List.ext_getElem
          · simp [show s.l.length = 8 from rfl]; omega
          · intro j h1 h2; simp [wb_length]
        rw [this]
        simp
        omega
      generalize s.l.getD i 0 = y at *
      have H1 := hide h1
      have F1 := hide f1
      have HS := hide hstep
      have HLEN := hide hlen
      have HHC := hide hc
      clear h1 f1 hstep hlen hc
      go_wp2_with fail
      refine (layWord_any wr _ _ y (unhide H1) (by rw [List.length_append, unhide HLEN]; omega)).mono ?_
      rintro e w1 ⟨v1, rfl, h2, f2⟩
      rw [List.append_assoc, ← unhide HS] at h2
      have H2 := hide h2
      have F2 := hide f2
      clear h2 f2
      go_wp2_with fail
      go_roundw
      case rel => exact ⟨i + 1, by omega, by go_num, unhide H2, (unhide F1).trans (unhide F2)⟩
      case measure => simp [intOf]; omega
    · have : i = 8 := by omega
      subst this
      have H1 := hide h1
      have F1 := hide f1
      clear h1 f1
      go_wp2_with fail
      go_ret
      exact ⟨_, rfl, unhide H1, unhide F1⟩
end Go.Proofs.YtlicmlioilkfdaaDoor
