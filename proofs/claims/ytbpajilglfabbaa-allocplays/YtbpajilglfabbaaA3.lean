/-
  The walks of next (the first block of a state from a place on) and all (the blocks of a state, rising).
-/
import Derived.Test.YtbpajilglfabbaaA2
import Derived.Shelf.Bytes.SlIndexAt
namespace Go.Proofs.Ytbpajilglfabbaa
open Go.RowKit
set_option linter.unusedVariables false

attribute [local go_sem ↓] Go.wp_at_zero Go.wp_at_succ

theorem indexByte_is (l : List UInt8) (c : UInt8) : Lib.indexByte l c = nxI (l.findIdx? fun x => x == c) := by
  induction l with
  | nil => rfl
  | cons b l ih =>
    unfold Lib.indexByte
    rw [List.findIdx?_cons, ih]
    cases hb : (b == c)
    · cases hl : l.findIdx? fun x => x == c with
      | none => simp [nxI]
      | some i =>
        simp [nxI]
    · simp [nxI]

section
variable (w : World)

theorem ext79 (ad : Addr) (l : List UInt8) (cc : Nat) (c : UInt8) (h : ∀ i (hi : i < l.length), w.cell? (ad.add i) = some (.int .u8 ((l[i].toNat : Nat) : Int))) :
    Sem.run Try.prog (callFunc 79 #[.slice (some ad) l.length cc, .int .u8 ((c.toNat : Nat) : Int)]) w = .ok (.value (.int .i64 (nxI (l.findIdx? fun x => x == c)))) w := by
  have he : Extern.find Try.f79 = some Extern.BytealgIndexByte.indexByte := by rfl
  rw [run_callFunc_extern Try.func79 (by kernel_rfl) (by kernel_rfl) (by kernel_rfl) he]
  rw [Lib.run_indexByteAt w ad l.length cc (l.map fun b => (b.toNat : Int)) (by simp) (fun i hi => by rw [h i hi]; simp [hi])]
  have e : Lib.bytesOf (l.map fun b => (b.toNat : Int)) = l := by
    unfold Lib.bytesOf
    rw [List.map_map]
    conv => rhs; rw [← List.map_id l]
    congr 1
    funext b
    simp
  rw [e, indexByte_is]
  simp

theorem indexByte_any (ad : Addr) (l : List UInt8) (n cc : Nat) (hn : n = l.length) (c : UInt8) (h : ∀ i (hi : i < l.length), w.cell? (ad.add i) = some (.int .u8 ((l[i].toNat : Nat) : Int))) :
    Calls Try.prog 75 #[.slice (some ad) n cc, .int .u8 ((c.toNat : Nat) : Int)] w fun e w' => e = .returned (.int .i64 (nxI (l.findIdx? fun x => x == c))) ∧ w = w' := by
  have hx := ext79 w ad l cc c h
  rw [← hn] at hx
  generalize nxI (l.findIdx? fun x => x == c) = r at *
  generalize c.toNat = cn at *
  clear hn h
  go_enter Try.func75, Try.ntmps75
  go_wp2_with fail
  go_ret
  exact ⟨rfl, rfl⟩

theorem cut_run (q n cq a : Nat) (ha : a ≤ n) (hn : n ≤ cq) (hc : cq ≤ maxLen) : ∃ ad : Addr, (∀ W, (Instr.slice 22 (.slice (some ⟨q, 0, none⟩) n cq) (some (.int .i64 (a : Int))) none none).run Try.prog W = .ok (.slice (some ad) (n - a) (cq - a)) W) ∧ ∀ i, i < n - a → ad.add i = ⟨q, a + i, none⟩ := by
  by_cases e : cq = a
  · refine ⟨⟨q, 0, none⟩, fun W => ?_, fun i hi => by omega⟩
    have : n = a := by omega
    subst this
    subst e
    simp [Instr.slice, Instr.sliceBounds, Instr.sliceBound, asIntOf, go_sem]
  · refine ⟨⟨q, a, none⟩, fun W => ?_, fun i hi => by rw [Addr.add_lit]⟩
    have h1 : a ≤ cq := by omega
    simp [Instr.slice, Instr.sliceBounds, Instr.sliceBound, asIntOf, go_sem, ha, e]
end

section
variable (w : World) (p : Nat) (X : Ly) (K : Kc)

theorem nx_of (s : List UInt8) (v : UInt8) (a : Nat) : nxI (nx s v a) = (match (s.drop a).findIdx? fun x => x == v with | none => -1 | some i => ((a + i : Nat) : Int)) := by
  unfold nx
  cases (s.drop a).findIdx? fun x => x == v <;> rfl

theorem next_any (H : KA w p X K) (v : UInt8) (a : Nat) (ha : a ≤ K.s.length) : Calls Try.prog 71 #[ptr p, .int .u8 ((v.toNat : Nat) : Int), .int .i64 (a : Int)] w fun e w' => e = .returned (.int .i64 (nxI (nx K.s v a))) ∧ w = w' := by
  obtain ⟨ad, hr, had⟩ := cut_run X.q K.s.length (K.s.length + X.xq.length) a ha (by omega) H.m1
  have c0 := H.c0
  have hn2 := H.n2
  have HI := hide (indexByte_any w ad (K.s.drop a) (K.s.length - a) (K.s.length + X.xq.length - a) (by simp) v (fun i hi => by
    rw [List.length_drop] at hi
    rw [had i (by omega)]
    rw [H.state (List.getElem?_eq_getElem (by omega))]
    rw [List.getElem_drop]))
  rw [nx_of]
  clear had
  have hl : ∀ i, ((K.s.drop a).findIdx? fun x => x == v) = some i → a + i ≤ 65536 := fun i hi => by
    rw [List.findIdx?_eq_some_iff_getElem] at hi
    obtain ⟨h1, -⟩ := hi
    rw [List.length_drop] at h1
    omega
  generalize hR : ((K.s.drop a).findIdx? fun x => x == v) = R at *
  clear H hn2 hR
  generalize K.s.length = n at *
  generalize n + X.xq.length = cq at *
  generalize (Value.slice (some ⟨X.q, 0, none⟩) n cq) = sv at *
  generalize v.toNat = vn at *
  unfold ptr
  cases R with
  | none =>
    simp only [nxI] at HI ⊢
    go_enter Try.func71, Try.ntmps71
    go_wp2_with fail
    refine (unhide HI).mono ?_
    rintro e w' ⟨rfl, rfl⟩
    go_wp2_with fail
    go_ret
    exact ⟨rfl, rfl⟩
  | some i =>
    have hi := hl i rfl
    clear hl
    simp only [nxI] at HI ⊢
    go_enter Try.func71, Try.ntmps71
    go_wp2_with fail
    refine (unhide HI).mono ?_
    rintro e w' ⟨rfl, rfl⟩
    go_wp2_with fail
    go_ret
    exact ⟨by simp, rfl⟩
end
end Go.Proofs.Ytbpajilglfabbaa
