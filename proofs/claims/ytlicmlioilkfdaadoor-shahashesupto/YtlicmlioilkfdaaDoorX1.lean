/-
  Hexadecimal digits; the walk of Hex.
-/
import Derived.Test.YtlicmlioilkfdaaDoorC1
import Derived.Lib.ConvBytes
import Derived.Laws.BytesArg
namespace Go.Proofs.YtlicmlioilkfdaaDoor
open Go.RowKit
set_option linter.unusedVariables false
set_option linter.unusedSimpArgs false

attribute [local go_sem ↓] Go.wp_at_zero Go.wp_at_succ

/-- The digit of a value. -/
def dg (k : Nat) : UInt8 := [48, 49, 50, 51, 52, 53, 54, 55, 56, 57, 97, 98, 99, 100, 101, 102].getD k 0

/-- A byte's two digits. -/
def hexB (b : UInt8) : List UInt8 := [dg (b.toNat / 16), dg (b.toNat % 16)]

/-- A digest's text. -/
def hexL (d : List UInt8) : List UInt8 := d.flatMap hexB

theorem run_digit (w : World) (k : IntKind) (n : Nat) (hn : n < 16) : Sem.run Tryd.prog (Instr.index 9 (.string { data := #[48, 49, 50, 51, 52, 53, 54, 55, 56, 57, 97, 98, 99, 100, 101, 102] }) (.int k ((n : Nat) : Int))) w = .ok (.int .u8 (((dg n).toNat : Nat) : Int)) w := by
  rcases (by omega : n = 0 ∨ n = 1 ∨ n = 2 ∨ n = 3 ∨ n = 4 ∨ n = 5 ∨ n = 6 ∨ n = 7 ∨ n = 8 ∨ n = 9 ∨ n = 10 ∨ n = 11 ∨ n = 12 ∨ n = 13 ∨ n = 14 ∨ n = 15) with rfl | rfl | rfl | rfl | rfl | rfl | rfl | rfl | rfl | rfl | rfl | rfl | rfl | rfl | rfl | rfl <;> simp [go_sem, dg] <;> rfl

theorem and15b (b : UInt8) : bits BinOp.and IntKind.u8 ((b.toNat : Nat) : Int) 15 = ((b.toNat % 16 : Nat) : Int) := by
  have : ∀ b : Fin 256, bits BinOp.and IntKind.u8 ((b.1 : Nat) : Int) 15 = ((b.1 % 16 : Nat) : Int) := by decide +kernel
  exact this ⟨b.toNat, b.toNat_lt⟩

theorem run_index26 (w : World) (cs : Array Value) (i : Nat) (v : Value) (hi : i < 32) (hv : cs[i]? = some v) : Sem.run Tryd.prog (Instr.index 26 (.agg cs) (.int .i64 (i : Int))) w = .ok v w := by
  obtain ⟨t, ht, hs, -⟩ := info_parts Tryd.info5
  have h8 : (i : Int) < 32 := by omega
  have hs2 : t.size = 1 := by
    have := Tryd.info5
    rw [ht] at this
    simp at this
    exact this.2.1
  simp [Instr.index, asIntOf, run_underlying Tryd.u26, sizeOf, typeInfo, ht, hs2, h8, hi, part, isAgg, run_underlying Tryd.underlying5, hv]

theorem run_make64 (w : World) : Sem.run Tryd.prog (Instr.makeSlice 22 (.int .i64 0) (.int .i64 64)) w = .ok (.slice (some ⟨w.heap.size, 0, none⟩) 0 64) (w.alloc (.cells (bvs (List.replicate 64 0)).toArray 5)) := by
  obtain ⟨i, hi, hz0, hz1, hz2⟩ := info_parts Tryd.info5
  have := run_make (P := Tryd.prog) w 22 5 i _ Tryd.underlying22 hi hz0 .i64 .i64 0 64 (by omega) (by omega) (by rw [hz2]; omega) (by omega)
  rw [this, hz1, show (64 : Int).toNat = 64 from rfl, made_bytes]
  rfl

theorem Ow.room {w : World} {b : Nat} (h : w.heap[b]? = some (.cells (bvs (List.replicate 64 0)).toArray 5 (0, 0))) : Ow w (.slice (some ⟨b, 0, none⟩) 0 64) [] :=
  ⟨rfl, .inr ⟨b, 64, _, rfl, Nat.zero_le _, h, by decide, by simp [maxLen], rfl, rfl⟩⟩

/-- A text of bytes. -/
def str (l : List UInt8) : ByteArray := ⟨l.toArray⟩

theorem str_data (l : List UInt8) : (str l).data.toList = l := by simp [str]
theorem str_size (l : List UInt8) : (str l).size = l.length := by simp [str, ByteArray.size]

theorem conv_rd {P : Program} {w : World} {v : Value} {l : List UInt8} (h : Rd w v l) (src dst e : TypeId) (hs : P.underlying src = some (.slice e)) (he : P.underlying e = some (.int .u8)) (hd : P.underlying dst = some .string) :
    (convert src dst v).run P w = .ok (.string (str l)) w := by
  obtain ⟨ao, cap, rfl⟩ := h.shape
  by_cases hl : l.length = 0
  · obtain rfl := List.eq_nil_of_length_eq_zero hl
    rw [run_convert_bytes_string w src dst e _ _ _ hs he hd]
    cases ao with
    | none => simp [Conv.bytesToString, str]; rfl
    | some ad =>
      have e2 : (loadCells ad 0).run P w = .ok (([] : List Int).map (Value.int .u8)).toArray w := by simp [loadCells, loadCellsFrom]
      exact (run_bytesToString w ad 0 cap [] e2).trans rfl
  · obtain ⟨b, o, rfl, _, _, _, h3⟩ := h.lits (by omega)
    rw [run_convert_bytes_arg w src e hs he b o l.length cap (l.map fun b => (b.toNat : Int)) (by simp) ?_ dst hd]
    · rw [show strOfNums (l.map fun b => (b.toNat : Int)) = str l from ?_]
      unfold strOfNums str
      rw [List.map_map]
      congr 2
      have : ((fun n : Int => UInt8.ofNat n.toNat) ∘ fun b : UInt8 => (b.toNat : Int)) = id := by
        funext b; simp
      rw [this, List.map_id]
    · intro i hi
      rw [h3 i hi]
      simp [List.getD, hi]

theorem str_inj {a b : List UInt8} (h : str a = str b) : a = b := by
  have := congrArg (fun s => s.data.toList) h
  simpa [str] using this

theorem Tryd.u9 : Tryd.prog.underlying 9 = some .string := by kernel_rfl

set_option maxHeartbeats 1000000 in
set_option maxRecDepth 100000 in
theorem hex_any (w : World) (d : List UInt8) (hd : d.length = 32) : Calls Tryd.prog 32 #[.agg (bvs d).toArray] w fun e w' => e = .returned (.string (str (hexL d))) ∧ Fr (fun _ => False) w w' := by
  have hmk := run_make64
  have hrng : ∀ o, ((w.alloc (.cells (bvs d).toArray 26)).alloc o).rangeAt w.heap.size 0 (bvs d) := fun o => bat_range (BlockAt.two w _ o)
  have hi : (Tryd.prog.info? 26).map (·.size) = some (bvs d).length := by rw [bvs_length, hd]; exact Tryd.s26
  have HD := hide hd
  clear hd
  go_enter Tryd.func32, Tryd.ntmps32
  go_wp2_with (refine wpList_load_mid rfl 26 _ rfl w.heap.size 0 rfl (bvs d) _ (hrng _) Tryd.u26 rfl hi ?_)
  go_loopw [3, 8] (fun x y w' => ∃ (i : Nat) (ao : Option Addr) (cap : Nat), i ≤ 32 ∧ y = .int .i64 (i : Int) ∧ x = .slice ao (2 * i) cap ∧ Ow w' (.slice ao (2 * i) cap) ((d.take i).flatMap hexB) ∧ Fr (fun _ => False) w w' ∧ (∀ k, (Value.slice ao (2 * i) cap).ownBlock = some k → w.heap.size ≤ k)) (fun _ y _ => 32 - (intOf y).toNat)
  case atStart => exact ⟨0, _, _, by omega, rfl, rfl, Ow.room (BlockAt.one w _ _), ((Fr.refl _ _).alloc _).alloc _, fun k hk => by simp [Value.ownBlock] at hk; omega⟩
  case round =>
    obtain ⟨i, ao, cap, hi32, rfl, rfl, hO, hF, hN⟩ := hrel
    by_cases hlt : i < 32
    · have hdl := unhide HD
      have hidx : (bvs d).toArray[i]? = some (.int .u8 (((d[i]'(by omega)).toNat : Nat) : Int)) := by
        rw [List.getElem?_toArray, bvs_get d i (by omega)]
      have hrun := fun W => run_index26 W _ i _ hlt hidx
      have hstep : (d.take (i + 1)).flatMap hexB = (d.take i).flatMap hexB ++ hexB (d[i]'(by omega)) := by
        rw [List.take_succ_eq_append_getElem (by omega), List.flatMap_append]; simp
      have hlen : ((d.take i).flatMap hexB).length = 2 * i := by
        rw [List.length_flatMap]
        have : (d.take i).map (fun a => (hexB a).length) = List.replicate i 2 := by
          apply List.ext_getElem
          · simp; omega
          · intro j h1 h2; simp [hexB]
        rw [this]
        simp
        omega
      generalize d[i]'(by omega) = x at *
      have hx := x.toNat_lt
      have e1 : ((x.toNat : Nat) : Int) / 16 = ((x.toNat / 16 : Nat) : Int) := by omega
      have e2 := and15b x
      have r1 := fun W => run_digit W .u8 (x.toNat / 16) (by omega)
      have r2 := fun W => run_digit W .u8 (x.toNat % 16) (by omega)
      have hex : bvs (hexB x) = [.int .u8 (((dg (x.toNat / 16)).toNat : Nat) : Int), .int .u8 (((dg (x.toNat % 16)).toNat : Nat) : Int)] := rfl
      obtain ⟨inf, hinf, hz0, hz1, hz2⟩ := info_parts Tryd.info5
      have HO := hide hO
      have HF := hide hF
      have HN := hide hN
      have HS := hide hstep
      have HL := hide hlen
      have HX := hide hex
      generalize dg (x.toNat / 16) = y1 at *
      generalize dg (x.toNat % 16) = y2 at *
      generalize x.toNat / 16 = n1 at *
      generalize x.toNat % 16 = n2 at *
      clear hO hF hN hstep hlen hex hidx hdl
      have hO2 : wr.ownsRow 0 5 1 (.slice ao (2 * i) cap) (2 * i) (bvs ((d.take i).flatMap hexB)) := by
        have := unhide HO
        unfold Ow at this
        rwa [unhide HL] at this
      have HO2 := hide hO2
      clear hO2
      go_wp2_with fail
      go_region_held3 (fun _ => True) (trivial) ((refine step_app rfl (.tmp 11) (.tmp 18) 22 rfl 5 inf _ 1 1 Tryd.underlying22 hinf hz0 hz1 hz2 rfl (by decide) (.slice ao (2 * i) cap) (2 * i) (bvs ((d.take i).flatMap hexB)) (by rfl) (.slice (some ⟨wr.heap.size, 0, none⟩) 2 2) (by rfl) 2 (bvs (hexB x)) (by first | exact (owns_kept (unhide HO2) ((Fr.refl (fun _ => False) wr).drew) (fun _ _ h => h)).alloc _ | exact (unhide HO2).alloc _) (by rw [unhide HX]; exact .inr ⟨_, _, rfl, rfl, cell_new _ _ _⟩) (bvs_one _) (by omega) (by simp only [maxLen]; omega) ?_; intro ao1 cap1 w1 o1 g1 p1))
      all_goals
        have hF1 : Fr (fun _ => False) w w1 := ((unhide HF).trans (by first | exact ((Fr.refl (fun _ => False) wr).alloc _).drew | exact ((Fr.refl (fun _ => False) wr).drew).alloc _) (fun _ _ h => h)).grown g1 (fun k hk e => absurd (unhide HN k e) (by omega))
        have hN1 : ∀ k, (Value.slice ao1 (2 * i + 2) cap1).ownBlock = some k → w.heap.size ≤ k := by
          intro k hk
          rcases p1 with e | ⟨k', e, hk'⟩
          · rw [e] at hk; exact unhide HN k hk
          · rw [e] at hk; simp at hk hk'; have := (unhide HF).size; omega
        have hO1 : Ow w1 (.slice ao1 (2 * i + 2) cap1) ((d.take (i + 1)).flatMap hexB) := by
          unfold Ow
          rw [unhide HS, List.length_append, unhide HL, bvs_append]
          exact o1
        have H1 := hide hF1
        have H2 := hide hN1
        have H3 := hide hO1
        clear o1 g1 p1 hF1 hN1 hO1
        go_wp2_with fail
        go_roundw
        case rel => exact ⟨i + 1, ao1, cap1, by omega, by go_num, rfl, unhide H3, unhide H1, unhide H2⟩
        case measure => simp [intOf]; omega
    · have : i = 32 := by omega
      subst this
      have hdl := unhide HD
      rw [List.take_of_length_le (by omega)] at hO
      have hR := hO.rd
      have hstr := conv_rd hR 22 9 5 Tryd.underlying22 Tryd.underlying5 Tryd.u9
      have HF := hide hF
      clear hO hN hF hR
      go_wp2_with fail
      go_ret
      exact ⟨rfl, unhide HF⟩
end Go.Proofs.YtlicmlioilkfdaaDoor
