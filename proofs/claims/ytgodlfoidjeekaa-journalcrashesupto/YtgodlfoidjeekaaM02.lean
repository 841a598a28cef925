/-
  Bytes under way: owned, and new since some world; numbers laid behind them.
  How many puts, how many bytes, how many entries; whether numbers are within; bytes that are alike, and copies of bytes.
  Copies of bytes; numbers that bytes are.
  The statements' device, plainly and in memory; its Len, Read.
  A rule for regions that draw their order, with blocks made and stored within.
  Numbers that bytes are: the program's and the document's.
  Whether a LogEntry can be one.
-/
import Derived.Test.YtgodlfoidjeekaaM01
import Derived.Lib.ConvBytes
import Derived.Deep.CutBlock
namespace Go.Proofs.Ytgodlfoidjeekaa
set_option linter.unusedVariables false
set_option linter.unusedSimpArgs false
open Go.RowKit
set_option linter.unusedVariables false
set_option linter.unusedSimpArgs false

attribute [local go_sem ↓] Go.wp_at_zero Go.wp_at_succ

/-- The last k bytes of a number, the highest first. -/
def be : Nat → Nat → List UInt8
  | 0, _ => []
  | k + 1, n => UInt8.ofNat (n / 256 ^ k) :: be k n
theorem be_length (k n : Nat) : (be k n).length = k := by induction k with
  | zero => rfl
  | succ k ih => simp [be, ih]
/-- Bytes that are owned, made since W0; what was there in W0 is as it was. -/
structure Nb (W0 W : World) (v : Value) (l : List UInt8) : Prop where
  own : W.ownsRow 0 5 1 v l.length (bvs l)
  fr : Fr (fun _ => False) W0 W
  new : ∀ k, v.ownBlock = some k → W0.heap.size ≤ k
section
variable {W0 W W' : World} {v : Value} {l : List UInt8}
theorem Nb.nil (f : Fr (fun _ => False) W0 W) : Nb W0 W (.slice none 0 0) [] := ⟨owns_nil W, f, fun k e => by simp [Value.ownBlock] at e⟩
theorem Nb.shape (h : Nb W0 W v l) : ∃ ao cap, v = .slice ao l.length cap := owns_shape h.own
theorem Nb.rd (h : Nb W0 W v l) : Rd W v l := Rd.of_owns h.own
theorem Nb.kept (h : Nb W0 W v l) (f : Fr (fun _ => False) W W') : Nb W0 W' v l := ⟨owns_kept h.own f (fun _ _ e => e), h.fr.trans f (fun _ _ e => e), h.new⟩
theorem Nb.alloc (h : Nb W0 W v l) (o : Obj) : Nb W0 (W.alloc o) v l := h.kept ((Fr.refl _ _).alloc o)
theorem Nb.grown {v' : Value} {x : List UInt8} (h : Nb W0 W v l) (o : W'.ownsRow 0 5 1 v' (l.length + x.length) (bvs l ++ bvs x)) (hg : W.grownBy W' v.ownBlock) (hpl : v'.ownBlock = v.ownBlock ∨ ∃ k, v'.ownBlock = some k ∧ W.heap.size ≤ k) : Nb W0 W' v' (l ++ x) := by
  refine ⟨by rw [List.length_append, bvs_append]; exact o, h.fr.grown hg (fun k hk e => ?_), fun k e => ?_⟩
  · have := h.new k e; omega
  · rcases hpl with e2 | ⟨b, e2, hb⟩
    · rw [e2] at e; exact h.new k e
    · rw [e2] at e; simp at e; have := h.fr.size; omega
end
theorem cell_new (w : World) (cs : Array Value) (e : TypeId) : ∀ j u, cs.toList[j]? = some u → (w.alloc (Obj.cells cs e)).cell? ((⟨w.heap.size, 0, none⟩ : Addr).add j) = some u := by
  intro j u hu
  rw [Addr.add_lit, Nat.zero_add, cell_of_heap (heap_alloc_new w _)]
  simpa using hu
theorem rdv_new (w : World) (vs : List Value) (e : TypeId) (hl : vs.length ≤ 1000000) : RdV (w.alloc (Obj.cells vs.toArray e)) (.slice (some ⟨w.heap.size, 0, none⟩) vs.length vs.length) vs :=
  .inr ⟨_, _, rfl, Nat.le_refl _, by simp only [maxLen]; omega, fun j hj => by rw [Addr.add_lit, Nat.zero_add, cell_of_heap (heap_alloc_new w _)]; simp [hj]⟩
/-- Numbers as they come. -/
def uvs (l : List Nat) : List Value := l.map fun (n : Nat) => Value.int .u64 (n : Int)
def lay (k : Nat) (ns : List Nat) : List UInt8 := ns.flatMap (be k)
theorem lay_length (k : Nat) (ns : List Nat) : (lay k ns).length = k * ns.length := by
  induction ns with
  | nil => simp [lay]
  | cons n r ih => unfold lay at *; simp only [List.flatMap_cons, List.length_append, ih, be_length, List.length_cons]; rw [Nat.mul_succ]; omega
theorem lay_take (k : Nat) (ns : List Nat) (j : Nat) (hj : j < ns.length) : lay k (ns.take (j + 1)) = lay k (ns.take j) ++ be k ns[j] := by
  unfold lay
  rw [List.take_succ_eq_append_getElem hj, List.flatMap_append]
  congr 1
  simp
theorem be_byte (n k : Nat) : (((UInt8.ofNat (n / 256 ^ k)).toNat : Nat) : Int) = (n : Int) / ((256 ^ k : Nat) : Int) % 256 := by
  rw [UInt8.toNat_ofNat']; omega
theorem sr1 (w : World) (z : Int) (x : UInt8) (hz : z = ((x.toNat : Nat) : Int)) : Sr (w.alloc (Obj.cells #[.int .u8 z] 5)) 1 (.slice (some ⟨w.heap.size, 0, none⟩) 1 1) 1 (bvs [x]) := by
  subst hz; exact one_cellV _ _ _
set_option maxRecDepth 100000 in
set_option maxHeartbeats 4000000 in
theorem lay_any (W0 w : World) (v : Value) (l : List UInt8) (k : Nat) (u : Value) (ns : List Nat) (h : Nb W0 w v l) (hk : k = 2 ∨ k = 4 ∨ k = 8) (hu : RdV w u (uvs ns)) (hub : ∀ b, u.ownBlock = some b → ∀ c, v.ownBlock = some c → b ≠ c) (hub2 : ∀ b, u.ownBlock = some b → b < w.heap.size) (hn : ns.length ≤ 10) (hl : l.length ≤ 100000) (hb : ∀ n ∈ ns, n < 18446744073709551616) :
    Calls Try.prog 51 #[v, .int .i64 (k : Int), u] w fun e w' => ∃ v', e = .returned v' ∧ Nb W0 w' v' (l ++ lay k ns) := by
  obtain ⟨inf, hi0, hz0, hz1, hz2⟩ := info_parts Try.info5
  obtain ⟨ao, cap, rfl⟩ := hu.shape
  have HU := hide hu
  have HB := hide hub
  have HB2 := hide hub2
  have HBB := hide hb
  have H := hide h
  obtain ⟨L, hL⟩ : ∃ L, L = ns.length := ⟨_, rfl⟩
  have hLn : (uvs ns).length = L := by rw [hL]; simp [uvs]
  rw [hLn] at HU HB HB2 ⊢
  have HL := hide hL
  have hL10 : L ≤ 10 := by omega
  clear hu hub hub2 h hL hLn hn hb
  go_enter Try.func51, Try.ntmps51
  go_wp2_with fail
  go_loopw [0, 12] (fun o y W => ∃ (j : Nat), j ≤ L ∧ y = .int .i64 (j : Int) ∧ Nb W0 W o (l ++ lay k (ns.take j)) ∧ RdV W (.slice ao L cap) (uvs ns) ∧ (∀ b, (Value.slice ao L cap).ownBlock = some b → ∀ c, o.ownBlock = some c → b ≠ c) ∧ w.heap.size ≤ W.heap.size) (fun _ y _ => L - (intOf y).toNat)
  case atStart => exact ⟨0, by omega, rfl, by simpa [lay] using unhide H, unhide HU, unhide HB, Nat.le_refl _⟩
  case round =>
    obtain ⟨j, hj, rfl, hN, hR, hap, hws⟩ := hrel
    by_cases hlt : j < L
    · have j1 : j < ns.length := by have := unhide HL; omega
      obtain ⟨bb, oo, rfl, -, hnc, hcm, hc⟩ := hR.lits (by simp [uvs]; omega)
      have y0 := hc j (by simp [uvs]; omega)
      rw [show (uvs ns)[j]'(by simp [uvs]; omega) = Value.int .u64 ((ns[j] : Nat) : Int) by simp [uvs]] at y0
      have hn64 := unhide HBB ns[j] (List.getElem_mem j1)
      have hjc : j < cap := by omega
      have HTK := hide (lay_take k ns j j1)
      have HNN := hide hN
      have HRR := hide hR
      have HAP := hide hap
      have HWS := hide hws
      have hll : (l ++ lay k (ns.take j)).length ≤ 100080 := by
        rw [List.length_append, lay_length, List.length_take]
        rcases hk with rfl | rfl | rfl <;> omega
      generalize ns[j] = n at *
      generalize hbase : l ++ lay k (ns.take j) = base at *
      clear hc hN hR hap hws j1
      go_wp2_with fail
      go_loopw [0, 9] (fun o y W => ∃ (r : Nat) (z : Int) (B : List UInt8), r ≤ k ∧ y = .int .i64 z ∧ z = (r : Int) - 1 ∧ Nb W0 W o B ∧ B ++ be r n = base ++ be k n ∧ B.length + r = base.length + k ∧ RdV W (.slice (some ⟨bb, oo, none⟩) L cap) (uvs ns) ∧ (∀ b, (Value.slice (some ⟨bb, oo, none⟩) L cap).ownBlock = some b → ∀ c, o.ownBlock = some c → b ≠ c) ∧ w.heap.size ≤ W.heap.size) (fun _ y _ => (intOf y + 1).toNat)
      case atStart => exact ⟨k, _, base, Nat.le_refl _, rfl, rfl, unhide HNN, rfl, rfl, unhide HRR, unhide HAP, unhide HWS⟩
      case round =>
        clear HNN HRR HAP HWS
        obtain ⟨r, z, B, hr, rfl, hz, hN, hB, hBl, hR, hap, hws⟩ := hrel
        have hrk : r ≤ 8 := by rcases hk with rfl | rfl | rfl <;> omega
        rcases Nat.eq_zero_or_pos r with rfl | hpos
        · obtain rfl : z = -1 := by omega
          have HN2 : Hid (Nb W0 wr u0 (l ++ lay k (ns.take (j + 1)))) := hide (by
            rw [unhide HTK, ← List.append_assoc, hbase, ← hB]
            simpa [be] using hN)
          have HR2 := hide hR
          have HP2 := hide hap
          have HW2 := hide hws
          clear hN hR hap hws hB hBl hbase hr hrk hz HTK
          go_wp2_with fail
          go_roundw
          case rel => exact ⟨j + 1, by omega, by go_num, unhide HN2, unhide HR2, unhide HP2, unhide HW2⟩
          case measure => simp [intOf]; omega
        · obtain ⟨r, rfl⟩ : ∃ r', r = r' + 1 := ⟨r - 1, by omega⟩
          obtain ⟨oa, oc, rfl⟩ := hN.shape
          have HN := hide hN
          have HR := hide hR
          have HAP := hide hap
          have HWS := hide hws
          have hBL : B.length ≤ 100100 := by omega
          have HX := hide (be_byte n r)
          have HBE : Hid (B ++ [UInt8.ofNat (n / 256 ^ r)] ++ be r n = base ++ be k n) := hide (by rw [← hB]; simp [be])
          have HBL : Hid (B.length + 1 + r = base.length + k) := hide (by omega)
          have HRK : Hid (r ≤ k) := hide (by omega)
          obtain ⟨x8, hx8⟩ : ∃ x8, x8 = UInt8.ofNat (n / 256 ^ r) := ⟨_, rfl⟩
          rw [← hx8] at HX HBE
          clear hN hR hap hws hB hBl hx8 hbase hr
          rcases (show r = 0 ∨ r = 1 ∨ r = 2 ∨ r = 3 ∨ r = 4 ∨ r = 5 ∨ r = 6 ∨ r = 7 by omega) with rfl | rfl | rfl | rfl | rfl | rfl | rfl | rfl
          · obtain rfl : z = 0 := by omega
            clear hz hpos hrk
            go_wp2_with (refine wpList_app rfl (.tmp 22) (.tmp 28) 23 rfl 5 inf _ 1 1 Try.underlying23 hi0 hz0 hz1 hz2 rfl (by decide) _ B.length (bvs B) rfl _ rfl 1 (bvs [x8]) ?hown ?hx ?h1 ?hb ?h63 ?hK)
            case hown => exact ((unhide HN).alloc _).own
            case hx =>
              exact sr1 _ _ _ (by rw [unhide HX]; simp <;> omega)
            case h1 => exact bvs_one _
            case hb => omega
            case h63 => simp only [maxLen]; omega
            case hK =>
              intro ao' cap' w' ho hg hpl
              have HNN : Hid (Nb W0 w' (.slice ao' (B.length + 1) cap') (B ++ [x8])) := hide (((unhide HN).alloc _).grown (x := [x8]) ho hg (by rcases hpl with e | ⟨k, e, hk⟩; exact .inl e; exact .inr ⟨k, e, by simp at hk ⊢; omega⟩))
              have HFR : Hid (Fr (fun k => (Value.slice oa B.length oc).ownBlock = some k) wr w') := hide (Fr.grown ((Fr.refl _ _).alloc _) hg (fun k _ e => e))
              have HR2 : Hid (RdV w' (.slice (some ⟨bb, oo, none⟩) L cap) (uvs ns)) := hide ((unhide HR).kept (unhide HFR) (fun b hb e => unhide HAP b hb b e rfl))
              have HP2 : Hid (∀ b, (Value.slice (some ⟨bb, oo, none⟩) L cap).ownBlock = some b → ∀ c, (Value.slice ao' (B.length + 1) cap').ownBlock = some c → b ≠ c) := hide (fun b hb c hc => by
                rcases hpl with e | ⟨k, e, hk⟩
                · rw [e] at hc; exact unhide HAP b hb c hc
                · rw [e] at hc
                  have h1 := unhide HB2 b hb
                  have h2 := unhide HWS
                  simp at hc hk
                  omega)
              have HW2 : Hid (w.heap.size ≤ w'.heap.size) := hide (by have h1 := unhide HWS; have h2 := (unhide HFR).size; omega)
              clear ho hg hpl
              go_wp2_with fail
              go_roundw
              case rel => exact ⟨_, _, B ++ [x8], unhide HRK, rfl, by first | rfl | omega, by simpa using unhide HNN, unhide HBE, by simpa using unhide HBL, unhide HR2, by simpa using unhide HP2, unhide HW2⟩
              case measure => simp [intOf]
          · obtain rfl : z = 1 := by omega
            clear hz hpos hrk
            go_wp2_with (refine wpList_app rfl (.tmp 22) (.tmp 28) 23 rfl 5 inf _ 1 1 Try.underlying23 hi0 hz0 hz1 hz2 rfl (by decide) _ B.length (bvs B) rfl _ rfl 1 (bvs [x8]) ?hown ?hx ?h1 ?hb ?h63 ?hK)
            case hown => exact ((unhide HN).alloc _).own
            case hx =>
              exact sr1 _ _ _ (by rw [unhide HX]; simp <;> omega)
            case h1 => exact bvs_one _
            case hb => omega
            case h63 => simp only [maxLen]; omega
            case hK =>
              intro ao' cap' w' ho hg hpl
              have HNN : Hid (Nb W0 w' (.slice ao' (B.length + 1) cap') (B ++ [x8])) := hide (((unhide HN).alloc _).grown (x := [x8]) ho hg (by rcases hpl with e | ⟨k, e, hk⟩; exact .inl e; exact .inr ⟨k, e, by simp at hk ⊢; omega⟩))
              have HFR : Hid (Fr (fun k => (Value.slice oa B.length oc).ownBlock = some k) wr w') := hide (Fr.grown ((Fr.refl _ _).alloc _) hg (fun k _ e => e))
              have HR2 : Hid (RdV w' (.slice (some ⟨bb, oo, none⟩) L cap) (uvs ns)) := hide ((unhide HR).kept (unhide HFR) (fun b hb e => unhide HAP b hb b e rfl))
              have HP2 : Hid (∀ b, (Value.slice (some ⟨bb, oo, none⟩) L cap).ownBlock = some b → ∀ c, (Value.slice ao' (B.length + 1) cap').ownBlock = some c → b ≠ c) := hide (fun b hb c hc => by
                rcases hpl with e | ⟨k, e, hk⟩
                · rw [e] at hc; exact unhide HAP b hb c hc
                · rw [e] at hc
                  have h1 := unhide HB2 b hb
                  have h2 := unhide HWS
                  simp at hc hk
                  omega)
              have HW2 : Hid (w.heap.size ≤ w'.heap.size) := hide (by have h1 := unhide HWS; have h2 := (unhide HFR).size; omega)
              clear ho hg hpl
              go_wp2_with fail
              go_roundw
              case rel => exact ⟨_, _, B ++ [x8], unhide HRK, rfl, by first | rfl | omega, by simpa using unhide HNN, unhide HBE, by simpa using unhide HBL, unhide HR2, by simpa using unhide HP2, unhide HW2⟩
              case measure => simp [intOf]
          · obtain rfl : z = 2 := by omega
            clear hz hpos hrk
            go_wp2_with (refine wpList_app rfl (.tmp 22) (.tmp 28) 23 rfl 5 inf _ 1 1 Try.underlying23 hi0 hz0 hz1 hz2 rfl (by decide) _ B.length (bvs B) rfl _ rfl 1 (bvs [x8]) ?hown ?hx ?h1 ?hb ?h63 ?hK)
            case hown => exact ((unhide HN).alloc _).own
            case hx =>
              exact sr1 _ _ _ (by rw [unhide HX]; simp <;> omega)
            case h1 => exact bvs_one _
            case hb => omega
            case h63 => simp only [maxLen]; omega
            case hK =>
              intro ao' cap' w' ho hg hpl
              have HNN : Hid (Nb W0 w' (.slice ao' (B.length + 1) cap') (B ++ [x8])) := hide (((unhide HN).alloc _).grown (x := [x8]) ho hg (by rcases hpl with e | ⟨k, e, hk⟩; exact .inl e; exact .inr ⟨k, e, by simp at hk ⊢; omega⟩))
              have HFR : Hid (Fr (fun k => (Value.slice oa B.length oc).ownBlock = some k) wr w') := hide (Fr.grown ((Fr.refl _ _).alloc _) hg (fun k _ e => e))
              have HR2 : Hid (RdV w' (.slice (some ⟨bb, oo, none⟩) L cap) (uvs ns)) := hide ((unhide HR).kept (unhide HFR) (fun b hb e => unhide HAP b hb b e rfl))
              have HP2 : Hid (∀ b, (Value.slice (some ⟨bb, oo, none⟩) L cap).ownBlock = some b → ∀ c, (Value.slice ao' (B.length + 1) cap').ownBlock = some c → b ≠ c) := hide (fun b hb c hc => by
                rcases hpl with e | ⟨k, e, hk⟩
                · rw [e] at hc; exact unhide HAP b hb c hc
                · rw [e] at hc
                  have h1 := unhide HB2 b hb
                  have h2 := unhide HWS
                  simp at hc hk
                  omega)
              have HW2 : Hid (w.heap.size ≤ w'.heap.size) := hide (by have h1 := unhide HWS; have h2 := (unhide HFR).size; omega)
              clear ho hg hpl
              go_wp2_with fail
              go_roundw
              case rel => exact ⟨_, _, B ++ [x8], unhide HRK, rfl, by first | rfl | omega, by simpa using unhide HNN, unhide HBE, by simpa using unhide HBL, unhide HR2, by simpa using unhide HP2, unhide HW2⟩
              case measure => simp [intOf]
          · obtain rfl : z = 3 := by omega
            clear hz hpos hrk
            go_wp2_with (refine wpList_app rfl (.tmp 22) (.tmp 28) 23 rfl 5 inf _ 1 1 Try.underlying23 hi0 hz0 hz1 hz2 rfl (by decide) _ B.length (bvs B) rfl _ rfl 1 (bvs [x8]) ?hown ?hx ?h1 ?hb ?h63 ?hK)
            case hown => exact ((unhide HN).alloc _).own
            case hx =>
              exact sr1 _ _ _ (by rw [unhide HX]; simp <;> omega)
            case h1 => exact bvs_one _
            case hb => omega
            case h63 => simp only [maxLen]; omega
            case hK =>
              intro ao' cap' w' ho hg hpl
              have HNN : Hid (Nb W0 w' (.slice ao' (B.length + 1) cap') (B ++ [x8])) := hide (((unhide HN).alloc _).grown (x := [x8]) ho hg (by rcases hpl with e | ⟨k, e, hk⟩; exact .inl e; exact .inr ⟨k, e, by simp at hk ⊢; omega⟩))
              have HFR : Hid (Fr (fun k => (Value.slice oa B.length oc).ownBlock = some k) wr w') := hide (Fr.grown ((Fr.refl _ _).alloc _) hg (fun k _ e => e))
              have HR2 : Hid (RdV w' (.slice (some ⟨bb, oo, none⟩) L cap) (uvs ns)) := hide ((unhide HR).kept (unhide HFR) (fun b hb e => unhide HAP b hb b e rfl))
              have HP2 : Hid (∀ b, (Value.slice (some ⟨bb, oo, none⟩) L cap).ownBlock = some b → ∀ c, (Value.slice ao' (B.length + 1) cap').ownBlock = some c → b ≠ c) := hide (fun b hb c hc => by
                rcases hpl with e | ⟨k, e, hk⟩
                · rw [e] at hc; exact unhide HAP b hb c hc
                · rw [e] at hc
                  have h1 := unhide HB2 b hb
                  have h2 := unhide HWS
                  simp at hc hk
                  omega)
              have HW2 : Hid (w.heap.size ≤ w'.heap.size) := hide (by have h1 := unhide HWS; have h2 := (unhide HFR).size; omega)
              clear ho hg hpl
              go_wp2_with fail
              go_roundw
              case rel => exact ⟨_, _, B ++ [x8], unhide HRK, rfl, by first | rfl | omega, by simpa using unhide HNN, unhide HBE, by simpa using unhide HBL, unhide HR2, by simpa using unhide HP2, unhide HW2⟩
              case measure => simp [intOf]
          · obtain rfl : z = 4 := by omega
            clear hz hpos hrk
            go_wp2_with (refine wpList_app rfl (.tmp 22) (.tmp 28) 23 rfl 5 inf _ 1 1 Try.underlying23 hi0 hz0 hz1 hz2 rfl (by decide) _ B.length (bvs B) rfl _ rfl 1 (bvs [x8]) ?hown ?hx ?h1 ?hb ?h63 ?hK)
            case hown => exact ((unhide HN).alloc _).own
            case hx =>
              exact sr1 _ _ _ (by rw [unhide HX]; simp <;> omega)
            case h1 => exact bvs_one _
            case hb => omega
            case h63 => simp only [maxLen]; omega
            case hK =>
              intro ao' cap' w' ho hg hpl
              have HNN : Hid (Nb W0 w' (.slice ao' (B.length + 1) cap') (B ++ [x8])) := hide (((unhide HN).alloc _).grown (x := [x8]) ho hg (by rcases hpl with e | ⟨k, e, hk⟩; exact .inl e; exact .inr ⟨k, e, by simp at hk ⊢; omega⟩))
              have HFR : Hid (Fr (fun k => (Value.slice oa B.length oc).ownBlock = some k) wr w') := hide (Fr.grown ((Fr.refl _ _).alloc _) hg (fun k _ e => e))
              have HR2 : Hid (RdV w' (.slice (some ⟨bb, oo, none⟩) L cap) (uvs ns)) := hide ((unhide HR).kept (unhide HFR) (fun b hb e => unhide HAP b hb b e rfl))
              have HP2 : Hid (∀ b, (Value.slice (some ⟨bb, oo, none⟩) L cap).ownBlock = some b → ∀ c, (Value.slice ao' (B.length + 1) cap').ownBlock = some c → b ≠ c) := hide (fun b hb c hc => by
                rcases hpl with e | ⟨k, e, hk⟩
                · rw [e] at hc; exact unhide HAP b hb c hc
                · rw [e] at hc
                  have h1 := unhide HB2 b hb
                  have h2 := unhide HWS
                  simp at hc hk
                  omega)
              have HW2 : Hid (w.heap.size ≤ w'.heap.size) := hide (by have h1 := unhide HWS; have h2 := (unhide HFR).size; omega)
              clear ho hg hpl
              go_wp2_with fail
              go_roundw
              case rel => exact ⟨_, _, B ++ [x8], unhide HRK, rfl, by first | rfl | omega, by simpa using unhide HNN, unhide HBE, by simpa using unhide HBL, unhide HR2, by simpa using unhide HP2, unhide HW2⟩
              case measure => simp [intOf]
          · obtain rfl : z = 5 := by omega
            clear hz hpos hrk
            go_wp2_with (refine wpList_app rfl (.tmp 22) (.tmp 28) 23 rfl 5 inf _ 1 1 Try.underlying23 hi0 hz0 hz1 hz2 rfl (by decide) _ B.length (bvs B) rfl _ rfl 1 (bvs [x8]) ?hown ?hx ?h1 ?hb ?h63 ?hK)
            case hown => exact ((unhide HN).alloc _).own
            case hx =>
              exact sr1 _ _ _ (by rw [unhide HX]; simp <;> omega)
            case h1 => exact bvs_one _
            case hb => omega
            case h63 => simp only [maxLen]; omega
            case hK =>
              intro ao' cap' w' ho hg hpl
              have HNN : Hid (Nb W0 w' (.slice ao' (B.length + 1) cap') (B ++ [x8])) := hide (((unhide HN).alloc _).grown (x := [x8]) ho hg (by rcases hpl with e | ⟨k, e, hk⟩; exact .inl e; exact .inr ⟨k, e, by simp at hk ⊢; omega⟩))
              have HFR : Hid (Fr (fun k => (Value.slice oa B.length oc).ownBlock = some k) wr w') := hide (Fr.grown ((Fr.refl _ _).alloc _) hg (fun k _ e => e))
              have HR2 : Hid (RdV w' (.slice (some ⟨bb, oo, none⟩) L cap) (uvs ns)) := hide ((unhide HR).kept (unhide HFR) (fun b hb e => unhide HAP b hb b e rfl))
              have HP2 : Hid (∀ b, (Value.slice (some ⟨bb, oo, none⟩) L cap).ownBlock = some b → ∀ c, (Value.slice ao' (B.length + 1) cap').ownBlock = some c → b ≠ c) := hide (fun b hb c hc => by
                rcases hpl with e | ⟨k, e, hk⟩
                · rw [e] at hc; exact unhide HAP b hb c hc
                · rw [e] at hc
                  have h1 := unhide HB2 b hb
                  have h2 := unhide HWS
                  simp at hc hk
                  omega)
              have HW2 : Hid (w.heap.size ≤ w'.heap.size) := hide (by have h1 := unhide HWS; have h2 := (unhide HFR).size; omega)
              clear ho hg hpl
              go_wp2_with fail
              go_roundw
              case rel => exact ⟨_, _, B ++ [x8], unhide HRK, rfl, by first | rfl | omega, by simpa using unhide HNN, unhide HBE, by simpa using unhide HBL, unhide HR2, by simpa using unhide HP2, unhide HW2⟩
              case measure => simp [intOf]
          · obtain rfl : z = 6 := by omega
            clear hz hpos hrk
            go_wp2_with (refine wpList_app rfl (.tmp 22) (.tmp 28) 23 rfl 5 inf _ 1 1 Try.underlying23 hi0 hz0 hz1 hz2 rfl (by decide) _ B.length (bvs B) rfl _ rfl 1 (bvs [x8]) ?hown ?hx ?h1 ?hb ?h63 ?hK)
            case hown => exact ((unhide HN).alloc _).own
            case hx =>
              exact sr1 _ _ _ (by rw [unhide HX]; simp <;> omega)
            case h1 => exact bvs_one _
            case hb => omega
            case h63 => simp only [maxLen]; omega
            case hK =>
              intro ao' cap' w' ho hg hpl
              have HNN : Hid (Nb W0 w' (.slice ao' (B.length + 1) cap') (B ++ [x8])) := hide (((unhide HN).alloc _).grown (x := [x8]) ho hg (by rcases hpl with e | ⟨k, e, hk⟩; exact .inl e; exact .inr ⟨k, e, by simp at hk ⊢; omega⟩))
              have HFR : Hid (Fr (fun k => (Value.slice oa B.length oc).ownBlock = some k) wr w') := hide (Fr.grown ((Fr.refl _ _).alloc _) hg (fun k _ e => e))
              have HR2 : Hid (RdV w' (.slice (some ⟨bb, oo, none⟩) L cap) (uvs ns)) := hide ((unhide HR).kept (unhide HFR) (fun b hb e => unhide HAP b hb b e rfl))
              have HP2 : Hid (∀ b, (Value.slice (some ⟨bb, oo, none⟩) L cap).ownBlock = some b → ∀ c, (Value.slice ao' (B.length + 1) cap').ownBlock = some c → b ≠ c) := hide (fun b hb c hc => by
                rcases hpl with e | ⟨k, e, hk⟩
                · rw [e] at hc; exact unhide HAP b hb c hc
                · rw [e] at hc
                  have h1 := unhide HB2 b hb
                  have h2 := unhide HWS
                  simp at hc hk
                  omega)
              have HW2 : Hid (w.heap.size ≤ w'.heap.size) := hide (by have h1 := unhide HWS; have h2 := (unhide HFR).size; omega)
              clear ho hg hpl
              go_wp2_with fail
              go_roundw
              case rel => exact ⟨_, _, B ++ [x8], unhide HRK, rfl, by first | rfl | omega, by simpa using unhide HNN, unhide HBE, by simpa using unhide HBL, unhide HR2, by simpa using unhide HP2, unhide HW2⟩
              case measure => simp [intOf]
          · obtain rfl : z = 7 := by omega
            clear hz hpos hrk
            go_wp2_with (refine wpList_app rfl (.tmp 22) (.tmp 28) 23 rfl 5 inf _ 1 1 Try.underlying23 hi0 hz0 hz1 hz2 rfl (by decide) _ B.length (bvs B) rfl _ rfl 1 (bvs [x8]) ?hown ?hx ?h1 ?hb ?h63 ?hK)
            case hown => exact ((unhide HN).alloc _).own
            case hx =>
              exact sr1 _ _ _ (by rw [unhide HX]; simp <;> omega)
            case h1 => exact bvs_one _
            case hb => omega
            case h63 => simp only [maxLen]; omega
            case hK =>
              intro ao' cap' w' ho hg hpl
              have HNN : Hid (Nb W0 w' (.slice ao' (B.length + 1) cap') (B ++ [x8])) := hide (((unhide HN).alloc _).grown (x := [x8]) ho hg (by rcases hpl with e | ⟨k, e, hk⟩; exact .inl e; exact .inr ⟨k, e, by simp at hk ⊢; omega⟩))
              have HFR : Hid (Fr (fun k => (Value.slice oa B.length oc).ownBlock = some k) wr w') := hide (Fr.grown ((Fr.refl _ _).alloc _) hg (fun k _ e => e))
              have HR2 : Hid (RdV w' (.slice (some ⟨bb, oo, none⟩) L cap) (uvs ns)) := hide ((unhide HR).kept (unhide HFR) (fun b hb e => unhide HAP b hb b e rfl))
              have HP2 : Hid (∀ b, (Value.slice (some ⟨bb, oo, none⟩) L cap).ownBlock = some b → ∀ c, (Value.slice ao' (B.length + 1) cap').ownBlock = some c → b ≠ c) := hide (fun b hb c hc => by
                rcases hpl with e | ⟨k, e, hk⟩
                · rw [e] at hc; exact unhide HAP b hb c hc
                · rw [e] at hc
                  have h1 := unhide HB2 b hb
                  have h2 := unhide HWS
                  simp at hc hk
                  omega)
              have HW2 : Hid (w.heap.size ≤ w'.heap.size) := hide (by have h1 := unhide HWS; have h2 := (unhide HFR).size; omega)
              clear ho hg hpl
              go_wp2_with fail
              go_roundw
              case rel => exact ⟨_, _, B ++ [x8], unhide HRK, rfl, by first | rfl | omega, by simpa using unhide HNN, unhide HBE, by simpa using unhide HBL, unhide HR2, by simpa using unhide HP2, unhide HW2⟩
              case measure => simp [intOf]
    · obtain rfl : j = L := by omega
      have HN2 : Hid (Nb W0 wr u0 (l ++ lay k ns)) := hide (by
        have := unhide HL
        rw [this, List.take_length] at hN; exact hN)
      clear hN hR hap hws
      go_wp2_with fail
      go_ret
      exact ⟨_, rfl, unhide HN2⟩
end Go.Proofs.Ytgodlfoidjeekaa

namespace Go.Proofs.Ytgodlfoidjeekaa
set_option linter.unusedVariables false
set_option linter.unusedSimpArgs false
open Go.RowKit
set_option linter.unusedVariables false
set_option linter.unusedSimpArgs false

attribute [local go_sem ↓] Go.wp_at_zero Go.wp_at_succ

theorem num_any (w : World) (n : Int) : Calls Try.prog 18 #[.int .i64 n] w fun e w' => e = .returned (.int .i64 n) ∧ w = w' := by
  go_enter Try.func18, Try.ntmps18
  go_wp2_with fail
  go_ret
  exact ⟨rfl, rfl⟩
def ctB (n : Int) : Bool := decide (1 ≤ n) && decide (n ≤ 64)
theorem countable_any (w : World) (n : Int) : Calls Try.prog 55 #[.int .i64 n] w fun e w' => e = .returned (.bool (ctB n)) ∧ w = w' := by
  unfold ctB
  by_cases h : 1 ≤ n
  · have d : decide (1 ≤ n) = true := by simpa using h
    go_enter Try.func55, Try.ntmps55
    go_wp2_with fail
    go_ret
    exact ⟨by simp [d], rfl⟩
  · have d : decide (1 ≤ n) = false := by simpa using h
    go_enter Try.func55, Try.ntmps55
    go_wp2_with fail
    go_ret
    exact ⟨by simp [d], rfl⟩
theorem txBytes_any (w : World) (n : Int) (h : 0 ≤ n ∧ n ≤ 1000000) : Calls Try.prog 56 #[.int .i64 n] w fun e w' => e = .returned (.int .i64 (4 + n * 388)) ∧ w = w' := by
  go_enter Try.func56, Try.ntmps56
  go_wp2_with fail
  go_ret
  exact ⟨by first | rfl | (congr 2; omega), rfl⟩
def needX (n : Int) : Int := if ctB n = true then (4 + n * 388 + 336 - 1) / 336 else 0
theorem need_any (w : World) (n : Int) : Calls Try.prog 19 #[.int .i64 n] w fun e w' => e = .returned (.int .i64 (needX n)) ∧ w = w' := by
  unfold needX
  by_cases h : ctB n = true
  · have hb : 1 ≤ n ∧ n ≤ 64 := by unfold ctB at h; simpa using h
    rw [if_pos h]
    have HB := hide h
    clear h
    go_enter Try.func19, Try.ntmps19
    go_wp2_with fail
    refine (countable_any _ _).mono ?_
    rintro e w' ⟨rfl, rfl⟩
    rw [unhide HB]
    go_wp2_with fail
    refine (txBytes_any _ _ (by omega)).mono ?_
    rintro e w' ⟨rfl, rfl⟩
    go_wp2_with fail
    go_ret
    exact ⟨by first | rfl | (congr 2; omega), rfl⟩
  · have h' : ctB n = false := by simpa using h
    rw [if_neg h]
    have HB := hide h'
    clear h h'
    go_enter Try.func19, Try.ntmps19
    go_wp2_with fail
    refine (countable_any _ _).mono ?_
    rintro e w' ⟨rfl, rfl⟩
    rw [unhide HB]
    go_wp2_with fail
    go_ret
    exact ⟨rfl, rfl⟩
theorem rneed_any (w : World) (n : Int) : Calls Try.prog 20 #[.int .i64 n] w fun e w' => e = .returned (.int .i64 (needX n)) ∧ w = w' := by
  unfold needX
  by_cases h1 : n < 1
  · rw [if_neg (by unfold ctB; simp; omega)]
    have d : decide (n < 1) = true := by simpa using h1
    go_enter Try.func20, Try.ntmps20
    go_wp2_with fail
    go_ret
    exact ⟨rfl, rfl⟩
  · by_cases h2 : 64 < n
    · rw [if_neg (by unfold ctB; simp; omega)]
      go_enter Try.func20, Try.ntmps20
      go_wp2_with fail
      go_ret
      exact ⟨rfl, rfl⟩
    · rw [if_pos (by unfold ctB; simp; omega)]
      have hb : 1 ≤ n ∧ n ≤ 64 := by omega
      go_enter Try.func20, Try.ntmps20
      go_wp2_with fail
      go_ret
      exact ⟨by rw [Int.mul_comm n 388]; rfl, rfl⟩
theorem str_eq (l1 l2 : List UInt8) : ((str l1).toList == (str l2).toList) = decide (l1 = l2) := by
  rw [ByteArray.toList_eq, ByteArray.toList_eq, str_data, str_data, Bool.eq_iff_iff]; simp
set_option maxRecDepth 100000 in
theorem equal_any (w : World) (va vb : Value) (a b : List UInt8) (ha : Rd w va a) (hb : Rd w vb b) : Calls Try.prog 59 #[va, vb] w fun e w' => e = .returned (.bool (decide (a = b))) ∧ w = w' := by
  have k1 := conv_rd (P := Try.prog) ha 23 9 5 Try.underlying23 Try.underlying5 Try.underlying9
  have k2 := conv_rd (P := Try.prog) hb 23 9 5 Try.underlying23 Try.underlying5 Try.underlying9
  obtain ⟨ao1, cap1, rfl⟩ := ha.shape
  obtain ⟨ao2, cap2, rfl⟩ := hb.shape
  have HS := hide (str_eq a b)
  clear ha hb
  generalize str a = s1 at *
  generalize str b = s2 at *
  go_enter Try.func59, Try.ntmps59
  go_wp2_with fail
  go_ret
  exact ⟨by rw [← unhide HS]; rfl, rfl⟩
/-- None above 2^62. -/
def wiB (l : List Nat) : Bool := l.all fun n => decide (n ≤ 4611686018427387904)
theorem within_any (w : World) (v : Value) (l : List Nat) (h : RdV w v (uvs l)) (hl : l.length ≤ 1000) : Calls Try.prog 54 #[v] w fun e w' => e = .returned (.bool (wiB l)) ∧ w = w' := by
  obtain ⟨ao, cap, rfl⟩ := h.shape
  obtain ⟨L, hL⟩ : ∃ L, L = l.length := ⟨_, rfl⟩
  have hll : (uvs l).length = L := by rw [hL]; simp [uvs]
  rw [hll] at h ⊢
  rw [← hL] at hl
  have H := hide h
  have HL := hide hL
  clear h hll hL
  go_enter Try.func54, Try.ntmps54
  go_wp2_with fail
  go_loopw [7] (fun y W => ∃ (j : Nat), j ≤ L ∧ y = .int .i64 (j : Int) ∧ wiB (l.take j) = true ∧ w = W) (fun y _ => L - (intOf y).toNat)
  case atStart => exact ⟨0, by omega, rfl, by simp [wiB], rfl⟩
  case round =>
    obtain ⟨j, hj, rfl, hw, rfl⟩ := hrel
    by_cases hlt : j < L
    · have j1 : j < l.length := by have := unhide HL; omega
      obtain ⟨bb, oo, rfl, -, hnc, hcm, hc⟩ := (unhide H).lits (by simp [uvs]; omega)
      have y0 := hc j (by simp [uvs]; omega)
      rw [show (uvs l)[j]'(by simp [uvs]; omega) = Value.int .u64 ((l[j] : Nat) : Int) by simp [uvs]] at y0
      have hjc : j < cap := by omega
      have HT := hide (show wiB (l.take (j + 1)) = (wiB (l.take j) && decide (l[j] ≤ 4611686018427387904)) by unfold wiB; rw [List.take_succ_eq_append_getElem j1, List.all_append]; simp only [List.all_cons, List.all_nil, Bool.and_true])
      have HA := hide (show l[j] ∈ l from List.getElem_mem j1)
      rw [hw] at HT
      generalize l[j] = n at *
      clear hc hw j1
      by_cases hn : n ≤ 4611686018427387904
      · have q : ¬ (4611686018427387904 : Int) < (n : Int) := by omega
        have HT2 := hide (show wiB (l.take (j + 1)) = true by rw [unhide HT]; simp; omega)
        clear HT
        go_wp2_with fail
        go_roundw
        case rel => exact ⟨j + 1, by omega, by go_num, unhide HT2, by trivial⟩
        case measure => simp [intOf]; omega
      · have q : (4611686018427387904 : Int) < (n : Int) := by omega
        have HT2 := hide (show wiB l = false by
          unfold wiB
          rw [List.all_eq_false]
          exact ⟨n, unhide HA, by simp; omega⟩)
        clear HT
        go_wp2_with fail
        go_ret
        exact ⟨by rw [unhide HT2]; rfl, rfl⟩
    · obtain rfl : j = L := by omega
      have HT2 := hide (show wiB l = true by have := unhide HL; rw [this, List.take_length] at hw; exact hw)
      clear hw
      go_wp2_with fail
      go_ret
      exact ⟨by rw [unhide HT2]; rfl, rfl⟩
end Go.Proofs.Ytgodlfoidjeekaa

namespace Go.Proofs.Ytgodlfoidjeekaa
set_option linter.unusedVariables false
set_option linter.unusedSimpArgs false
open Go.RowKit
set_option linter.unusedVariables false
set_option linter.unusedSimpArgs false

attribute [local go_sem ↓] Go.wp_at_zero Go.wp_at_succ

theorem own0 (w : World) : (w.alloc (.cells #[] 5)).ownsRow 0 5 1 (.slice (some ⟨w.heap.size, 0, none⟩) 0 0) 0 [] :=
  ⟨rfl, .inr ⟨w.heap.size, 0, #[], rfl, Nat.zero_le _, heap_alloc_new _ _, Nat.le_refl _, Nat.zero_le _, rfl, rfl⟩⟩
theorem Nb.of_app {w w' : World} {v : Value} {b : List UInt8} (ho : w'.ownsRow 0 5 1 v b.length (bvs b)) (hg : (w.alloc (.cells #[] 5)).grownBy w' (some w.heap.size)) (hp : v.ownBlock = some w.heap.size ∨ ∃ k, v.ownBlock = some k ∧ (w.alloc (.cells #[] 5)).heap.size ≤ k) : Nb w w' v b :=
  ⟨ho, ((Fr.refl (fun _ => False) w).alloc _).grown hg (fun k hk e => by simp at e; omega), fun k e => by
    rcases hp with h | ⟨b', h, hb⟩
    · rw [h] at e; simp at e; omega
    · rw [h] at e; simp at e hb; omega⟩
/-- append([]byte{}, x...), in the walk. -/
theorem wl_cln {w : World} {ops : Array Oper} {rest : List Oper} {o : Oper} {a : Act} {Q : Exit → Act → World → Prop} (hgd : o.guard = none) (s x : Operand) (ho : o.op = .call { callee := .builtin .append, args := #[s, x], argTypes := #[23, 23] }) (hs : a.eval s = .slice (some ⟨w.heap.size, 0, none⟩) 0 0) {xv : Value} (hx : a.eval x = xv) {b : List UInt8} (hr : Rd w xv b) (hb : b.length ≤ 1048576)
    (hK : ∀ ao c w', Nb w w' (.slice ao b.length c) b → wpList Try.prog ops Q rest (a.put o.dst (.slice ao b.length c)) w') : wpList Try.prog ops Q (o :: rest) a (w.alloc (.cells #[] 5)) := by
  obtain ⟨inf, hi0, hz0, hz1, hz2⟩ := info_parts Try.info5
  refine wpList_app hgd s x 23 ho 5 inf _ 1 1 Try.underlying23 hi0 hz0 hz1 hz2 rfl (by decide) _ 0 [] hs _ hx b.length (bvs b) (own0 w) ((hr.kept ((Fr.refl (fun _ => False) w).alloc _) (fun _ _ e => e)).sr) (bvs_one _) (by omega) (by simp only [maxLen]; omega) ?_
  intro ao c w' h1 h2 h3
  simp only [Nat.zero_add, List.nil_append] at h1 h2 h3 ⊢
  exact hK ao c w' (Nb.of_app h1 h2 h3)
set_option maxRecDepth 100000 in
theorem clone0_any (w : World) (x : Value) (l : List UInt8) (hx : Rd w x l) (hl : l.length ≤ 140737488355323) :
    Calls Try.prog 58 #[x] w fun e w' => ∃ v, e = .returned v ∧ w'.ownsRow 0 5 1 v l.length (bvs l) ∧ Fr (fun _ => False) w w' ∧ ∀ k, v.ownBlock = some k → w.heap.size ≤ k := by
  have q5 : ∀ (w : World) (a : Option Addr) (n c n' c' : Nat), (binOp .eql 23 (.slice a n c) (.slice none n' c')).run Try.prog w = .ok (.bool a.isNone) w := fun w a n c n' c' => Go.Lib.run_eql_slice_nil w 23 5 a n c n' c' Try.underlying23
  obtain ⟨i, hi, hz0, hz1, hz2⟩ := info_parts Try.info5
  rcases id hx with ⟨rfl, rfl⟩ | ⟨ad, cap, rfl, _⟩
  · go_enter Try.func58, Try.ntmps58
    go_wp2
    go_ret
    exact ⟨_, rfl, World.ownsRow_nil _ _ _ _, Fr.refl _ _, fun k h => by simp [Value.ownBlock] at h⟩
  · go_enter Try.func58, Try.ntmps58
    go_wp2_with (at_builtin; refine wpList_app rfl (.tmp 5) (.tmp 6) 23 rfl 5 i _ 1 1 Try.underlying23 hi hz0 hz1 hz2 rfl (by decide) _ 0 [] rfl _ rfl l.length (bvs l) ?hown ?hx ?h1 ?hb ?h63 ?hK)
    case hown => exact ⟨rfl, .inr ⟨w.heap.size, 0, #[], rfl, Nat.zero_le _, heap_alloc_new w _, Nat.le_refl _, by simp [maxLen], rfl, rfl⟩⟩
    case hx => exact (hx.kept ((Fr.refl (fun _ => False) w).alloc _) (fun _ _ h => h)).sr
    case h1 => exact bvs_one _
    case hb => omega
    case h63 => simp only [maxLen]; omega
    case hK =>
      intro ao cap' w' ho hg hpl
      have f : Fr (fun _ => False) w (w.alloc (Obj.cells #[] 5)) := (Fr.refl _ _).alloc _
      have f2 := f.grown hg (fun k hk e => by simp [Value.ownBlock] at e; omega)
      have h5 : ∀ k, (Value.slice ao l.length cap').ownBlock = some k → w.heap.size ≤ k := by
        intro k hk
        rcases hpl with e | ⟨k', e, hk'⟩
        · rw [e] at hk; simp [Value.ownBlock] at hk; omega
        · rw [e] at hk; simp at hk; omega
      clear hpl hg hx
      go_wp2
      go_ret
      exact ⟨_, rfl, ho, f2, h5⟩

/-- bytes.Clone. -/
theorem clone_any (w : World) (x : Value) (l : List UInt8) (hx : Rd w x l) (hl : l.length ≤ 1000000) : Calls Try.prog 58 #[x] w fun e w' => ∃ v', e = .returned v' ∧ Nb w w' v' l :=
  (clone0_any w x l hx (by omega)).mono (by
    rintro e w' ⟨v, rfl, h1, h2, h3⟩
    exact ⟨v, rfl, h1, h2, h3⟩)
def val (l : List UInt8) : Nat := l.foldl (fun a c => a * 256 + c.toNat) 0
theorem val_snoc (l : List UInt8) (c : UInt8) : val (l ++ [c]) = val l * 256 + c.toNat := by simp [val]
theorem val_go (l : List UInt8) : ∀ a, l.foldl (fun a c => a * 256 + c.toNat) a + 1 ≤ (a + 1) * 256 ^ l.length := by
  induction l with
  | nil => intro a; simp
  | cons c r ih =>
    intro a
    have h1 := ih (a * 256 + c.toNat)
    have h2 : a * 256 + c.toNat + 1 ≤ (a + 1) * 256 := by have := c.toNat_lt; omega
    have h3 := Nat.mul_le_mul_right (256 ^ r.length) h2
    simp only [List.foldl_cons, List.length_cons, Nat.pow_succ]
    rw [Nat.mul_comm (256 ^ r.length) 256, ← Nat.mul_assoc]
    omega
theorem val_lt (l : List UInt8) : val l < 256 ^ l.length := by
  have := val_go l 0
  unfold val
  omega
end Go.Proofs.Ytgodlfoidjeekaa

namespace Go.Proofs.Ytgodlfoidjeekaa
set_option linter.unusedVariables false
set_option linter.unusedSimpArgs false
open Go.RowKit
set_option linter.unusedVariables false

attribute [local go_sem ↓] Go.wp_at_zero Go.wp_at_succ

/-- What kind of block lies there. -/
def knd (w : World) (k : Nat) : Nat := match w.heap[k]? with
  | some (.cells _ t _) => t
  | some (.map _ _) => 1000
  | _ => 1001
theorem knd_cells {w : World} {k : Nat} {cs : Array Value} {t : TypeId} {f : Nat × Nat} (h : w.heap[k]? = some (.cells cs t f)) : knd w k = t := by unfold knd; rw [h]
theorem knd_owns {w : World} {e n s : Nat} {v : Value} {xs : List Value} (h : w.ownsRow 0 e s v n xs) {b : Nat} (hb : v.ownBlock = some b) : knd w b = e := by
  rcases h.2 with ⟨rfl, -⟩ | ⟨g, cap, cur, rfl, -, hg, -⟩
  · simp [Value.ownBlock] at hb
  · simp [Value.ownBlock] at hb
    subst hb
    exact knd_cells hg
theorem knd_fr {S : Nat → Prop} {w w' : World} (f : Fr S w w') {k : Nat} (h : ¬ S k) (hk : k < w.heap.size) : knd w' k = knd w k := by unfold knd; rw [f.block k hk h]
theorem owns_cells {w : World} {e size g n cap : Nat} {xs : List Value} (h : w.ownsRow 0 e size (.slice (some ⟨g, 0, none⟩) n cap) n xs) (j : Nat) (hj : j < xs.length) : w.cell? ⟨g, j, none⟩ = xs[j]? ∧ w.frozen? ⟨g, j, none⟩ = false := by
  obtain ⟨h1, h2⟩ := h
  rcases h2 with ⟨hv, -⟩ | ⟨g', cap', cur, hv, hb, hh, hn, hm, hs, hx⟩
  · simp at hv
  · simp only [Value.slice.injEq, Option.some.injEq, Addr.mk.injEq] at hv
    obtain ⟨⟨rfl, -, -⟩, -, rfl⟩ := hv
    refine ⟨?_, frozen_of_heap hh j⟩
    rw [cell_of_heap hh, ← hx, List.getElem?_take_of_lt (by omega), Array.getElem?_toList]
theorem owns_lit {w : World} {e size n : Nat} {v : Value} {xs : List Value} (h : w.ownsRow 0 e size v n xs) (hn : 0 < n) : ∃ g cap, v = .slice (some ⟨g, 0, none⟩) n cap ∧ n ≤ cap ∧ cap ≤ maxLen := by
  rcases h.2 with ⟨-, h0⟩ | ⟨g, cap, cur, hv, -, -, h1, h2, -⟩
  · omega
  · exact ⟨g, cap, hv, h1, h2⟩
theorem owns_set {w : World} {e : TypeId} {size g n cap : Nat} {xs : List Value} (h : w.ownsRow 0 e size (.slice (some ⟨g, 0, none⟩) n cap) n xs) (t : Nat) (ht : t < n * size) (u : Value) :
    (w.setCell ⟨g, t, none⟩ u).ownsRow 0 e size (.slice (some ⟨g, 0, none⟩) n cap) n (xs.set t u) := by
  obtain ⟨h1, h2⟩ := h
  rcases h2 with ⟨hv, -⟩ | ⟨g', cap', cur, hv, hb, hh, hn, hm, hs, hx⟩
  · simp at hv
  · simp only [Value.slice.injEq, Option.some.injEq, Addr.mk.injEq] at hv
    obtain ⟨⟨rfl, -, -⟩, -, rfl⟩ := hv
    refine ⟨by simpa using h1, .inr ⟨g, cap, cur.setIfInBounds t u, rfl, hb, heap_setCell_same w g t cur e u hh, hn, hm, by simpa using hs, ?_⟩⟩
    rw [Array.toList_setIfInBounds, List.take_set, hx]
theorem info_zero {P : Program} {t : TypeId} {n b : Nat} {cs : List Value} (h1 : (P.info? t).map (fun i => (i.size, i.bytes)) = some (n, b)) (h2 : ((P.info? t).bind (fun i => i.zero)).map (fun z => z.cells.toList) = some cs) : ∃ i z, P.info? t = some i ∧ i.zero = some z ∧ i.size = n ∧ i.bytes = b ∧ z.cells.toList = cs := by
  cases e : P.info? t with
  | none => rw [e] at h1; simp at h1
  | some i =>
    rw [e] at h1 h2
    simp at h1
    simp only [Option.bind_some] at h2
    cases e2 : i.zero with
    | none => rw [e2] at h2; simp at h2
    | some z =>
      rw [e2] at h2
      simp at h2
      exact ⟨i, z, rfl, e2, h1.1, h1.2, by simpa using h2⟩

/-- A list of pairs of cells, flat. -/
theorem flat2_len {α : Type} (f : α → List Value) (k : Nat) (hf : ∀ a, (f a).length = k) (L : List α) : (L.map f).flatten.length = L.length * k := by
  induction L with
  | nil => simp
  | cons a l ih => simp [ih, hf, Nat.add_mul]; omega
theorem flat2_get {α : Type} (f : α → List Value) (k : Nat) (hf : ∀ a, (f a).length = k) (L : List α) (i j : Nat) (hi : i < L.length) (hj : j < k) : (L.map f).flatten[i * k + j]? = (f (L[i]))[j]? := by
  induction L generalizing i with
  | nil => simp at hi
  | cons a l ih =>
    rw [List.map_cons, List.flatten_cons]
    rcases i with _ | i
    · rw [Nat.zero_mul, Nat.zero_add, List.getElem?_append_left (by rw [hf]; exact hj)]; rfl
    · rw [List.getElem?_append_right (by rw [hf, Nat.add_mul]; omega), hf]
      have : (i + 1) * k + j - k = i * k + j := by rw [Nat.add_mul]; omega
      rw [this]
      exact ih i (by simpa using hi)

/-- A list of sectors as cells. -/
def sC (q : Nat × List UInt8) : List Value := [.int .i64 (q.1 : Int), .string (str q.2)]
def sF (L : List (Nat × List UInt8)) : List Value := (L.map sC).flatten
theorem sF_len (L : List (Nat × List UInt8)) : (sF L).length = L.length * 2 := flat2_len sC 2 (fun _ => rfl) L
theorem sF_get0 (L : List (Nat × List UInt8)) (i : Nat) (hi : i < L.length) : (sF L)[i * 2]? = some (.int .i64 ((L[i]).1 : Int)) := flat2_get sC 2 (fun _ => rfl) L i 0 hi (by omega)
theorem sF_get1 (L : List (Nat × List UInt8)) (i : Nat) (hi : i < L.length) : (sF L)[i * 2 + 1]? = some (.string (str (L[i]).2)) := flat2_get sC 2 (fun _ => rfl) L i 1 hi (by omega)
def stV (S : List (List UInt8)) : List Value := S.map fun s => .string (str s)

/-- The device, plainly. -/
structure Dv where
  S : List (List UInt8)
  Q : List (Nat × List UInt8)
  fail : Int

structure Dv.Ok (d : Dv) : Prop where
  len : d.S.length ≤ 1000
  all : ∀ l ∈ d.S, l.length = 384
  q : ∀ x ∈ d.Q, x.1 < d.S.length ∧ x.2.length = 384
  few : d.Q.length ≤ 1000000
  fl : -9223372036854775808 ≤ d.fail ∧ d.fail ≤ 9223372036854775807

/-- The device in memory: s the struct, sv its blocks, qv what waits. -/
structure DAt (w : World) (s : Nat) (sv qv : Value) (d : Dv) : Prop where
  heap : w.heap[s]? = some (.cells #[sv, qv, .int .i64 d.fail] 109 (0, 0))
  strs : w.ownsRow 0 9 1 sv d.S.length (stV d.S)
  queue : w.ownsRow 0 133 2 qv d.Q.length (sF d.Q)
  ok : d.Ok

/-- Its blocks. -/
def DB (s : Nat) (sv qv : Value) (k : Nat) : Prop := k = s ∨ sv.ownBlock = some k ∨ qv.ownBlock = some k
/-- Their kinds. -/
def KD (n : Nat) : Prop := n = 109 ∨ n = 9 ∨ n = 133

section
variable {w w' : World} {s : Nat} {sv qv : Value} {d : Dv}
theorem DAt.knds (h : DAt w s sv qv d) {k : Nat} (hk : DB s sv qv k) : KD (knd w k) := by
  rcases hk with rfl | hk | hk
  · exact .inl (knd_cells h.heap)
  · exact .inr (.inl (knd_owns h.strs hk))
  · exact .inr (.inr (knd_owns h.queue hk))
theorem DAt.kept (h : DAt w s sv qv d) {S : Nat → Prop} (f : Fr S w w') (hs : ∀ k, DB s sv qv k → ¬ S k) : DAt w' s sv qv d :=
  ⟨by rw [f.block s (lt_of_heap h.heap) (hs s (.inl rfl))]; exact h.heap, owns_kept h.strs f (fun b hb => hs b (.inr (.inl hb))), owns_kept h.queue f (fun b hb => hs b (.inr (.inr hb))), h.ok⟩
theorem DAt.kept0 (h : DAt w s sv qv d) (f : Fr (fun _ => False) w w') : DAt w' s sv qv d := h.kept f (fun _ _ e => e)
theorem DAt.keptK (h : DAt w s sv qv d) {S : Nat → Prop} (f : Fr S w w') (hs : ∀ k, S k → ¬ KD (knd w k)) : DAt w' s sv qv d := h.kept f (fun k hk e => hs k e (h.knds hk))
theorem owns_ltB {e size n : Nat} {v : Value} {xs : List Value} (h : w.ownsRow 0 e size v n xs) {b : Nat} (hb : v.ownBlock = some b) : b < w.heap.size := by
  rcases h.2 with ⟨rfl, -⟩ | ⟨g, cap, cur, rfl, -, hg, -⟩
  · simp [Value.ownBlock] at hb
  · simp [Value.ownBlock] at hb
    subst hb
    exact lt_of_heap hg
theorem DAt.lt (h : DAt w s sv qv d) {k : Nat} (hk : DB s sv qv k) : k < w.heap.size := by
  rcases hk with rfl | hk | hk
  · exact lt_of_heap h.heap
  · exact owns_ltB h.strs hk
  · exact owns_ltB h.queue hk
/-- No two of its blocks are one. -/
theorem DAt.ne (h : DAt w s sv qv d) : (∀ b, sv.ownBlock = some b → b ≠ s) ∧ (∀ b, qv.ownBlock = some b → b ≠ s) ∧ ∀ b, sv.ownBlock = some b → ¬ qv.ownBlock = some b := by
  have k1 := knd_cells h.heap
  refine ⟨fun b hb e => ?_, fun b hb e => ?_, fun b hb e => ?_⟩
  · subst e; have := knd_owns h.strs hb; omega
  · subst e; have := knd_owns h.queue hb; omega
  · have k2 := knd_owns h.strs hb; have := knd_owns h.queue e; omega
theorem stV_len (S : List (List UInt8)) : (stV S).length = S.length := by simp [stV]
theorem DAt.st (h : DAt w s sv qv d) (i : Nat) (hi : i < d.S.length) : ∃ g cap, sv = .slice (some ⟨g, 0, none⟩) d.S.length cap ∧ d.S.length ≤ cap ∧ cap ≤ maxLen ∧ w.cell? ⟨g, i, none⟩ = some (.string (str d.S[i])) ∧ w.frozen? ⟨g, i, none⟩ = false := by
  obtain ⟨g, cap, rfl, h1, h2⟩ := owns_lit h.strs (by omega)
  obtain ⟨e1, e2⟩ := owns_cells h.strs i (by rw [stV_len]; exact hi)
  refine ⟨g, cap, rfl, h1, h2, ?_, e2⟩
  rw [e1]; simp [stV, hi]
theorem DAt.wr (h : DAt w s sv qv d) (i : Nat) (hi : i < d.Q.length) : ∃ g cap, qv = .slice (some ⟨g, 0, none⟩) d.Q.length cap ∧ d.Q.length ≤ cap ∧ cap ≤ maxLen ∧ w.cell? ⟨g, i * 2, none⟩ = some (.int .i64 ((d.Q[i]).1 : Int)) ∧ w.cell? ⟨g, i * 2 + 1, none⟩ = some (.string (str (d.Q[i]).2)) := by
  obtain ⟨g, cap, rfl, h1, h2⟩ := owns_lit h.queue (by omega)
  have hlen := sF_len d.Q
  refine ⟨g, cap, rfl, h1, h2, ?_, ?_⟩
  · rw [(owns_cells h.queue _ (by omega)).1, sF_get0 _ i (by omega)]
  · rw [(owns_cells h.queue _ (by omega)).1, sF_get1 _ i (by omega)]
end

/-- The last of the first k writes that is of this block. -/
def lastI (Q : List (Nat × List UInt8)) (a : Int) : Nat → Option Nat
  | 0 => none
  | k + 1 => if ((Q.getD k (0, [])).1 : Int) = a then some k else lastI Q a k
/-- Reading a block, plainly. -/
def rdB (d : Dv) (a : Nat) : List UInt8 := match lastI d.Q (a : Int) d.Q.length with
  | some j => (d.Q.getD j (0, [])).2
  | none => d.S.getD a []

/-- A string's bytes. -/
theorem bs_conv (w : World) (l : List UInt8) (hl : l.length ≤ 1000) : ∃ cap w1, (convert 9 23 (.string (str l))).run Try.prog w = .ok (.slice (some ⟨w.heap.size, 0, none⟩) l.length cap) w1 ∧ Rd w1 (.slice (some ⟨w.heap.size, 0, none⟩) l.length cap) l ∧ Fr (fun _ => False) w w1 ∧ knd w1 w.heap.size = 5 := by
  have h := Lib.run_convert_string_bytes (P := Try.prog) w 9 23 5 (str l) Try.underlying9 Try.underlying23 Try.underlying5
  rw [str_size] at h
  refine ⟨_, _, h, Rd.lit rfl (grownCap_ge w _ _ _) (grownCap_le_maxLen w _ _ _ (by simp only [maxLen]; omega)) (fun j hj => ?_), ⟨rfl, rfl, rfl, by rw [Lib.bytesWorld_size]; omega, fun k hk _ => Lib.bytesWorld_at_old w 5 _ k hk⟩, knd_cells (Lib.bytesWorld_at_new w 5 (str l))⟩
  rw [Nat.zero_add, Lib.bytesWorld_cell w 5 (str l) j (by rw [str_size]; exact hj)]
  simp [str, List.getD, hj]

section
variable (w : World) (s : Nat) (sv qv : Value) (d : Dv)
theorem slen_any (h : DAt w s sv qv d) : Calls Try.prog 114 #[.pointer (some ⟨s, 0, none⟩)] w fun e w' => e = .returned (.int .i64 (d.S.length : Int)) ∧ w = w' := by
  have c0 := cell_of_heap h.heap 0
  simp at c0
  obtain ⟨ao, c, rfl⟩ := owns_shape h.strs
  clear h
  go_enter Try.func114, Try.ntmps114
  go_wp2_with fail
  go_ret
  exact ⟨rfl, rfl⟩

/-- What Read answers in memory of its own. -/
def RdN (w w' : World) (v : Value) (l : List UInt8) : Prop := Rd w' v l ∧ Fr (fun _ => False) w w' ∧ (∀ b, v.ownBlock = some b → w.heap.size ≤ b ∧ knd w' b = 5)

theorem sread_no (a : Int) (h : DAt w s sv qv d) (ha : ¬ (0 ≤ a ∧ a < d.S.length)) : Calls Try.prog 81 #[.pointer (some ⟨s, 0, none⟩), .int .i64 a] w fun e w' => e = .returned (.tuple #[.slice none 0 0, .int .i64 2]) ∧ w = w' := by
  have c0 := cell_of_heap h.heap 0
  simp at c0
  obtain ⟨ao, c, rfl⟩ := owns_shape h.strs
  clear h
  by_cases h0 : a < 0
  · have b1 : decide (a < 0) = true := by simpa using h0
    clear ha
    go_enter Try.func81, Try.ntmps81
    go_wp2_with fail
    go_ret2
    exact ⟨rfl, rfl⟩
  · have b1 : decide (a < 0) = false := by simpa using h0
    have b2 : decide ((d.S.length : Int) ≤ a) = true := by simp; omega
    clear ha
    go_enter Try.func81, Try.ntmps81
    go_wp2_with fail
    go_ret2
    exact ⟨rfl, rfl⟩

set_option maxRecDepth 100000 in
set_option maxHeartbeats 1000000 in
theorem sread_any (x : Nat) (h : DAt w s sv qv d) (hx : x < d.S.length) : Calls Try.prog 81 #[.pointer (some ⟨s, 0, none⟩), .int .i64 (x : Int)] w fun e w' => ∃ v, e = .returned (.tuple #[v, .int .i64 0]) ∧ RdN w w' v (rdB d x) := by
  have c0 := cell_of_heap h.heap 0
  have c1 := cell_of_heap h.heap 1
  simp at c0 c1
  obtain ⟨qo, qc, rfl⟩ := owns_shape h.queue
  have hx0 : ¬ ((x : Int) < 0) := by omega
  have H := hide h
  obtain ⟨g, cap, rfl, -, -, y0, z0⟩ := h.st x hx
  have b1 : decide ((x : Int) < 0) = false := by simp
  have b2 : decide ((d.S.length : Int) ≤ (x : Int)) = false := by simp; omega
  have hlen := h.ok.len
  have hfew := h.ok.few
  obtain ⟨kc, kw, kr, kR, kf, kk⟩ := bs_conv w d.S[x] (by rw [h.ok.all _ (List.getElem_mem hx)]; omega)
  have hs : (d.S[x]).length = 384 := h.ok.all _ (List.getElem_mem hx)
  have hgd : d.S.getD x [] = d.S[x] := by simp [List.getD, hx]
  have R3 : Hid (lastI d.Q (x : Int) d.Q.length = none → RdN w kw (.slice (some ⟨w.heap.size, 0, none⟩) (d.S[x]).length kc) (rdB d x)) := hide (fun hl => by
    unfold rdB; rw [hl]; simp only [hgd]
    exact ⟨kR, kf, fun b hb => by simp [Value.ownBlock] at hb; subst hb; exact ⟨Nat.le_refl _, kk⟩⟩)
  rw [hs] at R3 kr
  have hxc : x < cap := by
    obtain ⟨g', cap', e, h1, -, -⟩ := h.st x hx
    simp only [Value.slice.injEq] at e
    omega
  generalize str d.S[x] = ss at *
  clear h kR kf kk hs hgd
  go_enter Try.func81, Try.ntmps81
  go_wp2_with fail
  go_loopw [6] (fun y w' => ∃ i : Nat, i ≤ d.Q.length ∧ y = .int .i64 ((i : Int) - 1) ∧ lastI d.Q (x : Int) d.Q.length = lastI d.Q (x : Int) i ∧ w = w') (fun y _ => (intOf y + 1).toNat)
  case atStart => exact ⟨d.Q.length, by omega, by go_num, rfl, rfl⟩
  case round =>
    obtain ⟨i, hi, rfl, hl, rfl⟩ := hrel
    have HL := hide hl
    clear hl
    rcases i with _ | j
    · have HR := hide (unhide R3 (unhide HL))
      clear R3 HL
      go_wp2_with fail
      go_ret2
      exact ⟨_, rfl, unhide HR⟩
    · have hj : j < d.Q.length := by omega
      obtain ⟨g2, cap2, hv, h1, h2, y1, y2⟩ := (unhide H).wr j hj
      simp only [Value.slice.injEq] at hv
      obtain ⟨rfl, -, rfl⟩ := hv
      have ej : (((j + 1 : Nat) : Int) - 1) = (j : Int) := by omega
      rw [ej]
      have hgd : d.Q.getD j (0, []) = d.Q[j] := by simp [List.getD, hj]
      have hst : lastI d.Q (x : Int) (j + 1) = if ((d.Q[j]).1 : Int) = (x : Int) then some j else lastI d.Q (x : Int) j := by
        show (if ((d.Q.getD j (0, [])).1 : Int) = (x : Int) then some j else lastI d.Q (x : Int) j) = _
        rw [hgd]
      have HST := hide hst
      have hq2 := ((unhide H).ok.q _ (List.getElem_mem hj)).2
      have hrd : rdB d x = if lastI d.Q (x : Int) d.Q.length = some j then (d.Q[j]).2 else rdB d x := by
        split
        · next e => unfold rdB; rw [e]; simp only [hgd]
        · rfl
      have HRD := hide hrd
      generalize d.Q[j] = q at *
      have hjc : j < qc := by omega
      clear hst hgd ej hrd
      by_cases he : (q.1 : Int) = (x : Int)
      · have b1 : ((q.1 : Int) == (x : Int)) = true := by simpa using he
        obtain ⟨kc2, kw2, kr2, kR2, kf2, kk2⟩ := bs_conv w q.2 (by omega)
        rw [hq2] at kr2
        have HR : Hid (RdN w kw2 (.slice (some ⟨w.heap.size, 0, none⟩) 384 kc2) (rdB d x)) := hide (by
          rw [unhide HRD, if_pos (by rw [unhide HL, unhide HST, if_pos he]), ← hq2]
          exact ⟨kR2, kf2, fun b hb => by simp [Value.ownBlock] at hb; subst hb; exact ⟨Nat.le_refl _, kk2⟩⟩)
        generalize str q.2 = ss2 at *
        clear he kR2 kf2 kk2 R3 HL HST HRD hq2
        go_wp2_with fail
        go_ret2
        exact ⟨_, rfl, unhide HR⟩
      · have b1 : ((q.1 : Int) == (x : Int)) = false := by simpa using he
        go_wp2_with fail
        exact ⟨⟨j, by omega, rfl, by rw [unhide HL, unhide HST, if_neg he], trivial⟩, by simp [intOf]⟩
end
end Go.Proofs.Ytgodlfoidjeekaa

namespace Go.Proofs.Ytgodlfoidjeekaa
set_option linter.unusedVariables false
set_option linter.unusedSimpArgs false
open Go.RowKit
set_option linter.unusedVariables false
set_option linter.unusedSimpArgs false

attribute [local go_sem ↓] Go.wp_at_zero Go.wp_at_succ

theorem wp_nm {P : Program} {C : Code} {Q : Exit → Act → World → Prop} {a : Act} {w : World} (h : ∀ a0, a0 = a → C.wp P Q a0 w) : C.wp P Q a w := h a rfl
section
variable {P : Program} {ops : Array Oper} {Q : Exit → Act → World → Prop}

/-- Behind an operation. -/
def LeftA (R : World → World → Prop) (St : Nat → Act → World → Prop) (T : Nat → Value → World → Prop) (calls : List Nat) (i : Nat) (o : Oper) (k : Nat) (a' : Act) (w' : World) (a'' : Act) (w'' : World) : Prop :=
  ∃ v, a'' = a'.put o.dst v ∧ T i v w'' ∧ R w' w'' ∧ St (if i ∈ calls then k + 1 else k) a'' w''

/-- An operation, shown once. -/
def StepA (P : Program) (Q : Exit → Act → World → Prop) (l : List Oper) (R : World → World → Prop) (St : Nat → Act → World → Prop) (T : Nat → Value → World → Prop) (calls : List Nat) (a : Act) (w : World) (i : Nat) (o : Oper) : Prop :=
  ∀ a' w' k, Base l a a' → R w w' → St k a' w' → (∀ m, calls[m]? = some i → m = k) → (∀ m c oc, calls[m]? = some c → l[c]? = some oc → depB oc i = true → k ≤ m) → (∀ j, depB o j = true → Held l T a' w' j) →
    (Region.wanted o (yielded l.toArray a'.tmps) = true ∧ o.wp P a' w' (LeftA R St T calls i o k a' w') Q) ∨ (Region.wanted o (yielded l.toArray a'.tmps) = false ∧ i ∉ calls ∧ T i undef w' ∧ R w' w' ∧ St k (a'.put o.dst undef) w')

def StepsA (P : Program) (Q : Exit → Act → World → Prop) (l : List Oper) (R : World → World → Prop) (St : Nat → Act → World → Prop) (T : Nat → Value → World → Prop) (calls : List Nat) (a : Act) (w : World) : Nat → List Oper → Prop
  | _, [] => True
  | i, o :: r => StepA P Q l R St T calls a w i o ∧ StepsA P Q l R St T calls a w (i + 1) r

theorem StepsA.get {l : List Oper} {R : World → World → Prop} {St : Nat → Act → World → Prop} {T : Nat → Value → World → Prop} {calls : List Nat} {a : Act} {w : World} {k : Nat} {r : List Oper} (h : StepsA P Q l R St T calls a w k r) {i : Nat} {o : Oper} (ho : r[i]? = some o) : StepA P Q l R St T calls a w (k + i) o := by
  induction r generalizing k i with
  | nil => simp at ho
  | cons x r ih =>
    cases i with
    | zero => simp at ho; subst ho; exact h.1
    | succ i =>
      simp at ho
      have := ih h.2 ho
      rwa [show k + 1 + i = k + (i + 1) by omega] at this

/-- THE RULE. -/
theorem wp_region_chainA {id : Nat} {l : List Oper} {a : Act} {w : World} (hm : P.follows .mixedOrders = true) (hB : backB l 0 = true) (nd : (dsts l).Nodup) (hd : ∀ d ∈ dsts l, d < a.tmps.size)
    (R : World → World → Prop) (Rdrew : R w w.drew) (Rtrans : ∀ a b c, R a b → R b c → R a c)
    (T : Nat → Value → World → Prop) (mono : ∀ i v w1 w2, T i v w1 → R w1 w2 → T i v w2)
    (calls : List Nat) (cn : calls.Nodup) (cl : ∀ i ∈ calls, i < l.length) (cp : ∀ k i j, calls[k]? = some i → calls[k + 1]? = some j → Path l j i) (St : Nat → Act → World → Prop) (st0 : St 0 a w.drew)
    (steps : StepsA P Q l R St T calls a w 0 l)
    (done : ∀ a' w', Base l a a' → R w w' → St calls.length a' w' → (∀ j, j < l.length → Held l T a' w' j) → Q .normal a' w') : (Code.region id l.toArray true).wp P Q a w := by
  refine wp_region_any hm ?_
  have hsz : l.toArray.size = l.length := by simp
  rw [hsz]
  let I : Array Bool → Act → World → Prop := fun listed a' w' => listed.size = l.length ∧ Base l a a' ∧ R w w' ∧ (∀ j, listed.getD j false = true → Held l T a' w' j) ∧ Shut l listed ∧
    ∃ k, k ≤ calls.length ∧ St k a' w' ∧ ∀ m i, calls[m]? = some i → (listed.getD i false = true ↔ m < k)
  refine wpAny_inv I ?_ ?_ _ _ _ _ ?_ ?_
  · intro listed a' w' i ⟨h1, h2, h3, h4, hS, k, hk, hst, hck⟩ hi
    obtain ⟨h5, o, ho, h6⟩ := mem_ready.1 hi
    have ho' : l[i]? = some o := by simpa using ho
    have hil : i < l.length := (List.getElem?_eq_some_iff.1 ho').1
    have hdep : ∀ j, depB o j = true → listed.getD j false = true := fun j hj => by
      unfold depB at hj
      rw [← Array.any_toList, List.any_eq_true] at hj
      obtain ⟨e, he', hb⟩ := hj
      have he : e ∈ o.after := by simpa using he'
      simp only [Bool.and_eq_true, beq_iff_eq] at hb
      rw [← hb.2]
      exact h6 e he hb.1
    have hni : listed.getD i false = false := by
      have hlt : i < listed.size := by omega
      simp [hlt] at h5 ⊢
      exact h5
    have hmk : ∀ m, calls[m]? = some i → m = k := fun m hm' => by
      have h7 : ¬ m < k := fun h => by rw [(hck m i hm').2 h] at hni; simp at hni
      rcases Nat.eq_zero_or_pos m with e | e
      · omega
      · obtain ⟨m', rfl⟩ : ∃ m', m = m' + 1 := ⟨m - 1, by omega⟩
        have hlt : m' < calls.length := by have := (List.getElem?_eq_some_iff.1 hm').1; omega
        have hp := cp m' _ i (List.getElem?_eq_getElem hlt) hm'
        have := hp.listed hS (fun o2 ho2 j hj => by rw [ho'] at ho2; simp at ho2; subst ho2; exact hdep j hj)
        have := (hck m' _ (List.getElem?_eq_getElem hlt)).1 this
        omega
    have hst' := steps.get ho'
    rw [Nat.zero_add] at hst'
    have hstep := hst' a' w' k h2 h3 hst hmk (fun m c oc hm' hoc hdc => by
      rcases Nat.lt_or_ge m k with h | h
      · have h8 := hS c oc hoc ((hck m c hm').2 h) i hdc
        rw [h8] at hni; simp at hni
      · exact h) (fun j hj => h4 _ (hdep j hj))
    suffices fin : ∀ a'' w'', LeftA R St T calls i o k a' w' a'' w'' → I (listed.setIfInBounds i true) a'' w'' by
      unfold wpOp
      rcases hstep with ⟨hw, hwp⟩ | ⟨hw, hic, hT, hR, hs⟩
      · simp only [ho, hw, if_true]
        exact .inl (Oper.wp_mono fin hwp)
      · simp only [ho, hw]
        exact fin _ _ ⟨undef, rfl, hT, hR, by rw [if_neg hic]; exact hs⟩
    rintro a'' w'' ⟨v, rfl, hT, hf, hsk⟩
    refine ⟨by simp [h1], ⟨?_, ?_, fun s hs => ?_⟩, Rtrans _ _ _ h3 hf, fun j hj d hdj => ?_, ?_, ?_⟩
    · cases hdst : o.dst with
      | none => exact h2.size
      | some d => simp [Act.put, h2.size]
    · cases hdst : o.dst with
      | none => exact h2.defers
      | some d => exact h2.defers
    · cases hdst : o.dst with
      | none => exact h2.old s hs
      | some d =>
        rw [put_getD (fun e => hs (by rw [← e]; exact mem_dsts ho' hdst))]
        exact h2.old s hs
    · obtain ⟨oj, hoj, hdj'⟩ : ∃ oj, l[j]? = some oj ∧ oj.dst = some d := by
        cases hc : l[j]? with
        | none => rw [hc] at hdj; simp at hdj
        | some oj => rw [hc] at hdj; exact ⟨oj, rfl, by simpa using hdj⟩
      by_cases e : i = j
      · subst e
        rw [ho'] at hoj
        simp at hoj
        subst hoj
        rw [hdj', put_self (by rw [h2.size]; exact hd d (mem_dsts ho' hdj'))]
        exact hT
      · rw [getD_set_ne false e] at hj
        have hold := mono _ _ _ _ (h4 j hj d hdj) hf
        cases hdst : o.dst with
        | none => exact hold
        | some d' =>
          rw [put_getD (fun e2 => e (dsts_inj nd ho' hoj (by rw [hdst, e2]) hdj'))]
          exact hold
    · intro i2 o2 ho2 hl2 j hj
      have grow : ∀ x, listed.getD x false = true → (listed.setIfInBounds i true).getD x false = true := fun x hx => by
        by_cases e : i = x
        · subst e
          have hlt : i < listed.size := by omega
          simp [hlt]
        · rw [getD_set_ne false e]; exact hx
      by_cases e : i = i2
      · subst e
        rw [ho'] at ho2
        simp at ho2
        subst ho2
        exact grow j (hdep j hj)
      · rw [getD_set_ne false e] at hl2
        exact grow j (hS i2 o2 ho2 hl2 j hj)
    · by_cases hic : i ∈ calls
      · obtain ⟨m, hm'⟩ := List.getElem?_of_mem hic
        have hmk' := hmk m hm'
        subst hmk'
        rw [if_pos hic] at hsk
        have hml : m < calls.length := (List.getElem?_eq_some_iff.1 hm').1
        refine ⟨m + 1, by omega, hsk, fun m2 i2 hm2 => ?_⟩
        by_cases e : i = i2
        · subst e
          have hlt : i < listed.size := by omega
          have : m2 = m := (List.getElem?_inj (List.getElem?_eq_some_iff.1 hm2).1 cn).1 (hm2.trans hm'.symm)
          subst this
          simp [hlt]
        · rw [getD_set_ne false e, hck m2 i2 hm2]
          constructor
          · intro h; omega
          · intro h
            rcases Nat.lt_or_ge m2 m with h' | h'
            · exact h'
            · have : m2 = m := by omega
              subst this
              rw [hm2] at hm'
              simp at hm'
              exact absurd hm'.symm e
      · rw [if_neg hic] at hsk
        refine ⟨k, hk, hsk, fun m2 i2 hm2 => ?_⟩
        rw [getD_set_ne false (fun e => hic (by subst e; exact List.mem_of_getElem? hm2)), hck m2 i2 hm2]
  · intro listed a' w' ⟨h1, h2, h3, h4, hS, k, hk, hst, hck⟩ hr
    have hall := all_listed hB h1 hr
    have hke : k = calls.length := by
      rcases Nat.lt_or_ge k calls.length with h | h
      · have := (hck k _ (List.getElem?_eq_getElem h)).1 (hall _ (cl _ (List.getElem_mem h)))
        omega
      · omega
    subst hke
    exact done a' w' h2 h3 hst (fun j hj => h4 j (hall j hj))
  · simp [lefts]
  · have none : ∀ j, ¬ (Array.replicate l.length false).getD j false = true := fun j hj => by
      simp only [Array.getD_eq_getD_getElem?, Array.getElem?_replicate] at hj
      split at hj <;> simp at hj
    exact ⟨by simp, ⟨rfl, rfl, fun _ _ => rfl⟩, Rdrew, fun j hj => (none j hj).elim, fun i o _ hl => (none i hl).elim, 0, Nat.zero_le _, st0, fun m i _ => ⟨fun h => (none i h).elim, fun h => by omega⟩⟩
end



/-- A block of so many cells of this type. -/
def Sh (w : World) (b t n : Nat) : Prop := ∃ cs : Array Value, w.heap[b]? = some (.cells cs t (0, 0)) ∧ cs.size = n
/-- Only what is no older than N may turn; blocks keep their types and lengths. -/
structure RS (N : Nat) (w w' : World) : Prop where
  fr : Fr (fun k => N ≤ k) w w'
  sh : ∀ b t n, Sh w b t n → Sh w' b t n
theorem Sh.kept {w w' : World} {b t n : Nat} (h : Sh w b t n) (f : Fr (fun _ => False) w w') : Sh w' b t n := by
  obtain ⟨cs, h1, h2⟩ := h
  exact ⟨cs, (f.block _ (lt_of_heap h1) id).trans h1, h2⟩
theorem Sh.setCell {w : World} {b t n : Nat} (h : Sh w b t n) (g i : Nat) (u : Value) : Sh (w.setCell ⟨g, i, none⟩ u) b t n := by
  obtain ⟨cs, h1, h2⟩ := h
  by_cases e : g = b
  · subst e
    exact ⟨_, heap_setCell_same w g i _ t u h1, by simpa using h2⟩
  · refine ⟨cs, ?_, h2⟩
    have f : Fr (fun k => k = g) w (w.setCell ⟨g, i, none⟩ u) := (Fr.refl (fun k => k = g) w).setCell (p := ⟨g, i, none⟩) (fun _ => rfl) u
    exact (f.block _ (lt_of_heap h1) (fun h => e h.symm)).trans h1
theorem RS.of_fr {N : Nat} {w w' : World} (f : Fr (fun _ => False) w w') : RS N w w' := ⟨f.mono (fun _ _ h => h.elim), fun _ _ _ h => h.kept f⟩
theorem RS.trans {N : Nat} {a b c : World} (h : RS N a b) (k : RS N b c) : RS N a c := ⟨h.fr.trans k.fr (fun _ _ h => h), fun b t n hb => k.sh b t n (h.sh b t n hb)⟩
theorem RS.setCell {N : Nat} {w : World} {g i : Nat} {u : Value} (h : N ≤ g) : RS N w (w.setCell ⟨g, i, none⟩ u) := ⟨(Fr.refl _ w).setCell (p := ⟨g, i, none⟩) (fun _ => h) u, fun _ _ _ hb => hb.setCell _ _ _⟩
theorem RS.old {N : Nat} {w w' : World} (h : RS N w w') (hN : w.heap.size ≤ N) : Fr (fun _ => False) w w' := h.fr.mono (fun k hk hs => by omega)
section
variable {P : Program} {o : Oper} {a : Act} {w : World} {Q : Exit → Act → World → Prop} {R : World → World → Prop} {St : Nat → Act → World → Prop} {T : Nat → Value → World → Prop} {calls : List Nat} {i k : Nat}
theorem la_val (v : Value) (w2 : World) (hi : i ∉ calls) (h : (execOp a.eval o).run P w = .ok (.value v) w2) (hT : T i v w2) (hR : R w w2) (hs : St k (a.put o.dst v) w2) : o.wp P a w (LeftA R St T calls i o k a w) Q := by
  unfold Oper.wp
  rw [h, Oper.upon_value]
  exact ⟨v, rfl, hT, hR, by rw [if_neg hi]; exact hs⟩
theorem la_call (f : Nat) (args : Array Value) (hi : i ∉ calls) (h : (execOp a.eval o).run P w = .ok (.enter f args) w)
    (hc : Calls P f args w fun e w' => ∃ v, e = .returned v ∧ T i v w' ∧ R w w' ∧ St k (a.put o.dst v) w') : o.wp P a w (LeftA R St T calls i o k a w) Q := by
  unfold Oper.wp
  rw [h, Oper.upon_enter]
  refine hc.mono ?_
  rintro e w' ⟨v, rfl, hT, f, hs⟩
  exact ⟨v, rfl, hT, f, by rw [if_neg hi]; exact hs⟩
theorem la_store (w2 : World) (hi : i ∈ calls) (h : (execOp a.eval o).run P w = .ok .skip w2) (hT : T i undef w2) (hR : R w w2) (hs : St (k + 1) (a.put o.dst undef) w2) : o.wp P a w (LeftA R St T calls i o k a w) Q := by
  unfold Oper.wp
  rw [h, Oper.upon_skip]
  exact ⟨undef, rfl, hT, hR, by rw [if_pos hi]; exact hs⟩
end
/-- What an operation leaves, and that it lasts. -/
structure KV (R : World → World → Prop) where
  f : Value → World → Prop
  h : ∀ v a b, f v a → R a b → f v b
def KV.eq {R : World → World → Prop} (u : Value) : KV R := ⟨fun v _ => v = u, fun _ _ _ h _ => h⟩
def KV.any {R : World → World → Prop} : KV R := ⟨fun _ _ => True, fun _ _ _ h _ => h⟩
def Tw {R : World → World → Prop} (ks : List (KV R)) (i : Nat) (v : Value) (w : World) : Prop := match ks[i]? with
  | some k => k.f v w
  | none => True
theorem Tw.mono {R : World → World → Prop} (ks : List (KV R)) (i : Nat) (v : Value) (w1 w2 : World) (h : Tw ks i v w1) (r : R w1 w2) : Tw ks i v w2 := by
  unfold Tw at *
  split
  · rename_i k hk
    rw [hk] at h
    exact k.h _ _ _ h r
  · trivial
/-- A new block. -/
def KV.box {N : Nat} (t n : Nat) : KV (RS N) := ⟨fun v w => ∃ b, v = .pointer (some ⟨b, 0, none⟩) ∧ N ≤ b ∧ Sh w b t n, fun v a b h f => by obtain ⟨x, e, hN, h⟩ := h; exact ⟨x, e, hN, f.sh _ _ _ h⟩⟩
theorem x_extract {ρ : Operand → Value} {o : Oper} {w : World} {x : Operand} {n : Nat} {vs : Array Value} {v : Value} (ho : o.op = .extract x n) (hx : ρ x = .tuple vs) (hv : vs[n]? = some v) : (execOp ρ o).run Try.prog w = .ok (.value v) w := by
  simp [execOp, ho, hx, go_sem, hv]
theorem x_not4 {ρ : Operand → Value} {o : Oper} {w : World} {x : Operand} {b : Bool} (ho : o.op = .unOp .not 4 x) (hx : ρ x = .bool b) : (execOp ρ o).run Try.prog w = .ok (.value (.bool (!b))) w := by
  simp [execOp, ho, hx, go_sem]
theorem wanted_off {a : Act} {o : Oper} {l : List Oper} {j d : Nat} {b : Bool} {v : Value} (hg : o.guard = some (j, b)) (hd : (l[j]?).bind (·.dst) = some d) (hv : a.tmps.getD d undef = v) (hb : v = undef ∨ v = .bool (!b)) : Region.wanted o (yielded l.toArray a.tmps) = false := by
  have h1 : a.tmps[d]? = none ∨ a.tmps[d]? = some v := by
    rw [Array.getD_eq_getD_getElem?] at hv
    cases h : a.tmps[d]? with
    | none => exact .inl rfl
    | some v => rw [h] at hv; right; simpa using hv
  rcases hb with rfl | rfl <;> rcases h1 with h1 | h1 <;> cases b <;> simp [Region.wanted, hg, yielded, hd, h1, undef]
theorem wanted_on {a : Act} {o : Oper} {l : List Oper} {j d : Nat} {b : Bool} (hg : o.guard = some (j, b)) (hd : (l[j]?).bind (·.dst) = some d) (hlt : d < a.tmps.size) (hv : a.tmps.getD d undef = .bool b) : Region.wanted o (yielded l.toArray a.tmps) = true := by
  have h1 : a.tmps[d]? = some (.bool b) := by
    rw [Array.getD_eq_getD_getElem?, Array.getElem?_eq_getElem hlt] at hv
    rw [Array.getElem?_eq_getElem hlt]
    simpa using hv
  simp [Region.wanted, hg, yielded, hd, h1]
end Go.Proofs.Ytgodlfoidjeekaa

namespace Go.Proofs.Ytgodlfoidjeekaa
set_option linter.unusedVariables false
set_option linter.unusedSimpArgs false
open Go.RowKit
set_option linter.unusedVariables false
set_option linter.unusedSimpArgs false

attribute [local go_sem ↓] Go.wp_at_zero Go.wp_at_succ

theorem wr64 (z : Int) (h0 : 0 ≤ z) (h1 : z < 18446744073709551616) : IntKind.u64.wrap z = z := by
  have : IntKind.u64.wrap z = z % 18446744073709551616 := rfl
  rw [this]; omega
theorem or8 (m : Nat) (b : UInt8) (h : m < 72057594037927936) : bits BinOp.or IntKind.u64 ((m : Int) * 256) ((b.toNat : Nat) : Int) = ((m * 256 + b.toNat : Nat) : Int) := by
  have hb := b.toNat_lt
  have e1 : (m : Int) * 256 = ((m * 256 : Nat) : Int) := by omega
  rw [e1]
  show IntKind.u64.wrap ((BitVec.ofInt 64 _ ||| BitVec.ofInt 64 _).toNat : Int) = _
  rw [BitVec.ofInt_natCast, BitVec.ofInt_natCast, BitVec.toNat_or, BitVec.toNat_ofNat, BitVec.toNat_ofNat, Nat.mod_eq_of_lt (by omega), Nat.mod_eq_of_lt (by omega)]
  have e3 : m * 256 ||| b.toNat = m * 256 + b.toNat := by
    have := Nat.shiftLeft_add_eq_or_of_lt (i := 8) (b := b.toNat) (by omega) m
    rw [Nat.shiftLeft_eq] at this
    exact this.symm
  rw [e3, wr64 _ (by omega) (by omega)]
/-- The number that k bytes from p on are. -/
def nb (b : List UInt8) (p k : Nat) : Nat := val ((b.drop p).take k)
set_option maxRecDepth 100000 in
set_option maxHeartbeats 2000000 in
theorem rnumber_any (w : World) (B o n cap : Nat) (b : List UInt8) (p k : Nat) (kz pz : Int) (hkz : kz = (k : Int)) (hpz : pz = (p : Int)) (hn : n = b.length) (hnc : n ≤ cap) (hcm : cap ≤ maxLen) (hp : p + k ≤ n) (hp2 : p ≤ 100000) (hk : k ≤ 8) (hc : ∀ j (h : j < b.length), w.cell? ⟨B, o + j, none⟩ = some (.int .u8 ((b[j].toNat : Nat) : Int))) :
    Calls Try.prog 60 #[.slice (some ⟨B, o, none⟩) n cap, .int .i64 pz, .int .i64 kz] w fun e w' => e = .returned (.int .u64 ((nb b p k : Nat) : Int)) ∧ w = w' := by
  obtain ⟨l, hl⟩ : ∃ l, l = (b.drop p).take k := ⟨_, rfl⟩
  have hll : l.length = k := by rw [hl, List.length_take, List.length_drop]; omega
  have HC : Hid (∀ j (h : j < l.length), w.cell? ⟨B, o + (p + j), none⟩ = some (.int .u8 ((l[j].toNat : Nat) : Int))) := hide (fun j hj => by
    have h1 := hc (p + j) (by omega)
    rw [h1]
    simp [hl])
  have HV : Hid (nb b p k = val l) := hide (by rw [hl]; rfl)
  have HL := hide hll
  obtain ⟨V, hV⟩ : ∃ V, V = nb b p k := ⟨_, rfl⟩
  rw [← hV] at HV ⊢
  subst hkz hpz
  clear hc hl hll hV hn
  go_enter Try.func60, Try.ntmps60
  go_wp2_with fail
  go_loopw [7, 8] (fun a y W => ∃ j : Nat, j ≤ k ∧ y = .int .i64 (j : Int) ∧ a = .int .u64 ((val (l.take j) : Nat) : Int) ∧ W = w) (fun _ y _ => k - (intOf y).toNat)
  case atStart => exact ⟨0, by omega, rfl, by simp [val], rfl⟩
  case round =>
    obtain ⟨j, hj, rfl, rfl, rfl⟩ := hrel
    by_cases hlt : j < k
    · have j1 : j < l.length := by have := unhide HL; omega
      have y0 := unhide HC j j1
      have HV2 : Hid (val (l.take (j + 1)) = val (l.take j) * 256 + l[j].toNat) := hide (by rw [List.take_succ_eq_append_getElem j1, val_snoc])
      have hm : val (l.take j) < 72057594037927936 := by
        have h1 := val_lt (l.take j)
        have h2 : 256 ^ (l.take j).length ≤ 256 ^ 7 := Nat.pow_le_pow_right (by decide) (by rw [List.length_take]; omega)
        have h3 : (256 : Nat) ^ 7 = 72057594037927936 := by decide
        omega
      have hor := or8 (val (l.take j)) l[j] hm
      have hb8 := l[j].toNat_lt
      have hpj : p + j < n := by omega
      have hpc : p + j < cap := by omega
      generalize val (l.take j) = m at *
      generalize l[j] = c at *
      clear HC j1
      go_wp2_with fail
      go_roundw
      case rel => exact ⟨j + 1, by omega, by go_num, by rw [unhide HV2]; first | rfl | (simp; done), by trivial⟩
      case measure => simp [intOf]; omega
    · obtain rfl : j = k := by omega
      have HV2 : Hid (val (l.take j) = V) := hide (by rw [List.take_of_length_le (by have := unhide HL; omega), unhide HV])
      rw [unhide HV2]
      clear HV HV2 HC
      go_wp2_with fail
      go_ret
      exact ⟨rfl, rfl⟩
/-- The numbers of k bytes each, as far as j bytes are read. -/
def tk (l : List UInt8) (k m j : Nat) : List Nat := (List.range m).map fun c => val (((l.take j).drop (c * k)).take k)
theorem tk_length (l : List UInt8) (k m j : Nat) : (tk l k m j).length = m := by simp [tk]
theorem tk_zero (l : List UInt8) (k m : Nat) : tk l k m 0 = List.replicate m 0 := by
  unfold tk
  refine List.ext_getElem (by simp) (fun i h1 h2 => ?_)
  simp [val]
theorem tk_get {l : List UInt8} {k m j c : Nat} (h : c < m) : (tk l k m j)[c]'(by rw [tk_length]; exact h) = val (((l.take j).drop (c * k)).take k) := by simp [tk]
theorem tk_step {l : List UInt8} {k m j : Nat} (hl : l.length = k * m) (hk : 0 < k) (hj : j < l.length) : (tk l k m j).set (j / k) ((tk l k m j)[j / k]'(by rw [tk_length]; exact Nat.div_lt_of_lt_mul (by omega)) * 256 + l[j].toNat) = tk l k m (j + 1) := by
  have hc : j / k < m := Nat.div_lt_of_lt_mul (by omega)
  refine List.ext_getElem (by rw [List.length_set, tk_length, tk_length]) (fun i h1 h2 => ?_)
  rw [tk_length] at h2
  rw [List.getElem_set, tk_get (j := j + 1) h2]
  have hd := Nat.div_add_mod j k
  have hm := Nat.mod_lt j hk
  by_cases e : j / k = i
  · subst e
    rw [if_pos rfl, tk_get hc, ← val_snoc]
    congr 1
    have e1 : l.take (j + 1) = l.take j ++ [l[j]] := List.take_succ_eq_append_getElem hj
    have hlen : (l.take j).length = j := by rw [List.length_take]; omega
    have hle : j / k * k ≤ j := Nat.div_mul_le_self j k
    rw [e1, List.drop_append_of_le_length (by rw [hlen]; exact hle)]
    have hsm : ((l.take j).drop (j / k * k)).length < k := by
      rw [List.length_drop, hlen]
      have : j / k * k = k * (j / k) := Nat.mul_comm _ _
      omega
    have t1 : List.take k (List.drop (j / k * k) (List.take j l)) = List.drop (j / k * k) (List.take j l) := List.take_of_length_le (Nat.le_of_lt hsm)
    have t2 : List.take k (List.drop (j / k * k) (List.take j l) ++ [l[j]]) = List.drop (j / k * k) (List.take j l) ++ [l[j]] := List.take_of_length_le (by rw [List.length_append, List.length_singleton]; exact hsm)
    rw [t1, t2]
  · rw [if_neg e, tk_get (j := j) h2]
    congr 1
    have e1 : l.take (j + 1) = l.take j ++ [l[j]] := List.take_succ_eq_append_getElem hj
    have hlen : (l.take j).length = j := by rw [List.length_take]; omega
    rw [e1]
    rcases Nat.lt_or_ge i (j / k) with h | h
    · have h3 : (i + 1) * k ≤ j / k * k := Nat.mul_le_mul_right _ h
      have h4 : j / k * k ≤ j := Nat.div_mul_le_self j k
      rw [Nat.succ_mul] at h3
      rw [List.drop_append_of_le_length (by rw [hlen]; omega), List.take_append_of_le_length (by rw [List.length_drop, hlen]; omega)]
    · have h3 : (j / k + 1) * k ≤ i * k := Nat.mul_le_mul_right _ (by omega)
      rw [Nat.succ_mul] at h3
      have h4 : j / k * k = k * (j / k) := Nat.mul_comm _ _
      rw [List.drop_of_length_le (by rw [hlen]; omega), List.drop_of_length_le (by simp; omega)]
theorem tk_all {l : List UInt8} {k m c : Nat} (h : c < m) : (tk l k m l.length)[c]'(by rw [tk_length]; exact h) = nb l (c * k) k := by rw [tk_get h, List.take_length]; rfl
/-- A row of numbers at its block. -/
def UAt (w : World) (B : Nat) (ns : List Nat) : Prop := w.heap[B]? = some (.cells (uvs ns).toArray 22 (0, 0))
theorem UAt.cell {w : World} {B : Nat} {ns : List Nat} (h : UAt w B ns) (j : Nat) (hj : j < ns.length) : w.cell? ⟨B, j, none⟩ = some (.int .u64 ((ns[j] : Nat) : Int)) := by
  rw [cell_of_heap h j]
  simp [uvs, hj]
theorem UAt.kept {S : Nat → Prop} {w w' : World} {B : Nat} {ns : List Nat} (h : UAt w B ns) (f : Fr S w w') (hs : ¬ S B) : UAt w' B ns := (f.block _ (lt_of_heap h) hs).trans h
theorem UAt.set {w : World} {B : Nat} {ns : List Nat} (h : UAt w B ns) (j n : Nat) : UAt (w.setCell ⟨B, j, none⟩ (.int .u64 (n : Int))) B (ns.set j n) := by
  have := heap_setCell_same w B j _ 22 (.int .u64 (n : Int)) h
  unfold UAt
  rw [this]
  congr 2
  simp [uvs, List.map_set]
theorem UAt.rdv {w : World} {B : Nat} {ns : List Nat} (h : UAt w B ns) (hl : ns.length ≤ 100000) : RdV w (.slice (some ⟨B, 0, none⟩) ns.length ns.length) (uvs ns) :=
  .inr ⟨⟨B, 0, none⟩, ns.length, by simp [uvs], by simp [uvs], by simp only [maxLen]; omega, fun j hj => by
    have hj' : j < ns.length := by simpa [uvs] using hj
    rw [Addr.add_lit, Nat.zero_add, h.cell j hj']; simp [uvs]⟩
theorem info22 : (Try.prog.info? 22).map (fun i => (i.zero, i.size, i.bytes)) = some (some (.int .u64 0), 1, 8) := by kernel_rfl
set_option maxRecDepth 100000 in
theorem run_make101 (n : Nat) (hn : n ≤ 100000) (w : World) : (Instr.makeSlice 101 (.int .i64 (n : Int)) (.int .i64 (n : Int))).run Try.prog w = .ok (.slice (some ⟨w.heap.size, 0, none⟩) n n) (w.alloc (.cells (uvs (List.replicate n 0)).toArray 22)) := by
  obtain ⟨i, hi, hz0, hz1, hz2⟩ := info_parts info22
  have := run_make (P := Try.prog) w 101 22 i _ Try.underlying101 hi hz0 .i64 .i64 (n : Int) (n : Int) (by omega) (Int.le_refl _) (by rw [hz2]; omega) (by omega)
  rw [this, hz1, Int.toNat_natCast]
  congr 3
  apply Array.ext
  · simp [uvs, size_madeCells]
  · intro i h1 h2
    simp [uvs, madeCells, Value.cells, Nat.mod_one]
theorem getD_of {α : Type} {l : List α} {j : Nat} {d : α} (h : j < l.length) : l.getD j d = l[j] := by
  rw [List.getD_eq_getElem?_getD, List.getElem?_eq_getElem h]; rfl
theorem tk_stepD {l : List UInt8} {k m j : Nat} (hl : l.length = k * m) (hk : 0 < k) (hj : j < l.length) : (tk l k m j).set (j / k) ((tk l k m j).getD (j / k) 0 * 256 + (l.getD j 0).toNat) = tk l k m (j + 1) := by
  have hc : j / k < m := Nat.div_lt_of_lt_mul (by omega)
  have hc' : j / k < (tk l k m j).length := by rw [tk_length]; exact hc
  rw [getD_of hc', getD_of hj]
  exact tk_step hl hk hj
set_option maxRecDepth 100000 in
theorem UAt.cellD {w : World} {B : Nat} {ns : List Nat} (h : UAt w B ns) (j : Nat) (hj : j < ns.length) : w.cell? ⟨B, j, none⟩ = some (.int .u64 ((ns.getD j 0 : Nat) : Int)) := by
  rw [h.cell j hj]
  simp [List.getD, hj]
set_option maxRecDepth 100000 in
set_option maxHeartbeats 4000000 in
/-- taken, of pieces of 2 bytes. -/
theorem taken2_any (w : World) (v : Value) (l : List UInt8) (m : Nat) (h : Rd w v l) (hl : l.length = 2 * m) (hm : m ≤ 10) : Calls Try.prog 57 #[v, .int .i64 2] w fun e w' => ∃ B, e = .returned (.slice (some ⟨B, 0, none⟩) m m) ∧ UAt w' B (tk l 2 m l.length) ∧ Fr (fun _ => False) w w' ∧ w.heap.size ≤ B := by
  obtain ⟨ao, cap, rfl⟩ := h.shape
  have H := hide h
  obtain ⟨n, hn⟩ : ∃ n, n = l.length := ⟨_, rfl⟩
  have HN := hide hn
  rw [← hn] at H hl ⊢
  have hqq : ((n : Int) / 2) = (m : Int) := by omega
  have hn80 : n ≤ 80 := by omega
  have HM : (Instr.makeSlice 101 (.int .i64 ((n : Int) / 2)) (.int .i64 ((n : Int) / 2))).run Try.prog w = .ok (.slice (some ⟨w.heap.size, 0, none⟩) m m) (w.alloc (.cells (uvs (List.replicate m 0)).toArray 22)) := by rw [hqq]; exact run_make101 m (by omega) w
  have HHL := hide hl
  have HTS : Hid (∀ j, j < n → (tk l 2 m j).set (j / 2) ((tk l 2 m j).getD (j / 2) 0 * 256 + (l.getD j 0).toNat) = tk l 2 m (j + 1)) := hide (fun j hj => tk_stepD (by omega) (by decide) (by omega))
  have hU : UAt (w.alloc (.cells (uvs (List.replicate m 0)).toArray 22)) w.heap.size (tk l 2 m 0) := by rw [tk_zero]; exact heap_alloc_new w _
  have HU := hide hU
  have HF := hide ((Fr.refl (fun _ => False) w).alloc (.cells (uvs (List.replicate m 0)).toArray 22))
  clear h hl hn hU hqq
  go_enter Try.func57, Try.ntmps57
  go_upto_block 0 with fail
  generalize w.alloc (.cells (uvs (List.replicate m 0)).toArray 22) = w1 at *
  generalize hB : w.heap.size = B at *
  have HBS := hide hB
  clear HM hB
  go_wp2_with fail
  go_loopw [15, 6, 7] (fun y _ _ W => ∃ (j : Nat), j ≤ n ∧ y = .int .i64 (j : Int) ∧ UAt W B (tk l 2 m j) ∧ Fr (fun _ => False) w W) (fun y _ _ _ => n - (intOf y).toNat)
  case atStart => exact ⟨0, by omega, rfl, unhide HU, unhide HF⟩
  case round =>
    clear HU HF
    obtain ⟨j, hj, rfl, hU, hf⟩ := hrel
    by_cases hlt : j < n
    · have hjl : j < l.length := by rw [← unhide HN]; exact hlt
      have hr := (unhide H).kept hf (fun _ _ h => h)
      obtain ⟨gb, go, rfl, -, hnc, hcm, hc⟩ := hr.lits (by omega)
      have c0 := hc j hjl
      rw [show l[j] = l.getD j 0 by simp [List.getD, hjl]] at c0
      have hcm2 : j / 2 < m := by have := unhide HHL; omega
      have hlen := tk_length l 2 m j
      have c1 := hU.cellD (j / 2) (by rw [hlen]; exact hcm2)
      have HS := hide (unhide HTS j hlt)
      have hb0 := val_lt (((l.take j).drop (j / 2 * 2)).take 2)
      have hlen2 : (((l.take j).drop (j / 2 * 2)).take 2).length ≤ 7 := by rw [List.length_take, List.length_drop, List.length_take]; have := unhide HHL; omega
      have hv56 : (tk l 2 m j).getD (j / 2) 0 < 72057594037927936 := by
        rw [show (tk l 2 m j).getD (j / 2) 0 = (tk l 2 m j)[j / 2]'(by rw [hlen]; exact hcm2) by simp [List.getD, hlen, hcm2], tk_get hcm2]
        have h2 : 256 ^ (((l.take j).drop (j / 2 * 2)).take 2).length ≤ 256 ^ 7 := Nat.pow_le_pow_right (by decide) hlen2
        have h3 : (256 : Nat) ^ 7 = 72057594037927936 := by decide
        omega
      have hor := or8 _ (l.getD j 0) hv56
      have hb8 := (l.getD j 0).toNat_lt
      have HU2 := hide (hU.set (j / 2) ((tk l 2 m j).getD (j / 2) 0 * 256 + (l.getD j 0).toNat))
      have HUU := hide hU
      have z0 := frozen_of_heap hU (j / 2)
      have lB := lt_of_heap hU
      have HF2 := hide hf
      have HBS2 := unhide HBS
      have hq : ((j : Int) / 2) = ((j / 2 : Nat) : Int) := by omega
      have hjcap : j < cap := by omega
      generalize j / 2 = q at *
      generalize (tk l 2 m j).getD q 0 = old at *
      generalize l.getD j 0 = bt at *
      have hne : gb ≠ gb ∨ True := .inr trivial
      clear hU hf hr hc HU2 hb0 hlen2 hlen hne
      go_wp2_with fail
      refine wp_region_quietTail 15 (by kernel_rfl) (by kernel_rfl) ?_
      simp only [List.take_succ_cons, List.take_zero]
      repeat (go_big_quiet_step (fail))
      refine wpQuiet_nil ?_
      intro _ hw'
      obtain ⟨nq, hw''⟩ := hw'
      subst hw''
      simp only [List.drop_succ_cons, List.drop_zero]
      go_wp2_with fail
      go_roundw
      case rel =>
        refine ⟨j + 1, by omega, by go_num, ?_, ?_⟩
        · have e : ((old * 256 + bt.toNat : Nat) : Int) = (old : Int) * 256 + (bt.toNat : Int) := by omega
          have h1 := ((unhide HUU).kept (Fr.ofDrewN (S := fun _ => False) wr nq) id).set q (old * 256 + bt.toNat)
          rw [unhide HS, e] at h1
          exact h1
        · exact ((unhide HF2).drewN nq).setCell (fun h => by rw [← HBS2] at h; simp at h) _
      case measure => simp [intOf]; omega
    · obtain rfl : n = j := by omega
      have HU2 := hide hU
      have HF2 := hide hf
      clear hU hf
      go_wp2_with fail
      go_ret
      exact ⟨B, rfl, unhide HU2, unhide HF2, by rw [← unhide HBS]; exact Nat.le_refl _⟩
set_option maxRecDepth 100000 in
set_option maxHeartbeats 4000000 in
/-- taken, of pieces of 4 bytes. -/
theorem taken4_any (w : World) (v : Value) (l : List UInt8) (m : Nat) (h : Rd w v l) (hl : l.length = 4 * m) (hm : m ≤ 10) : Calls Try.prog 57 #[v, .int .i64 4] w fun e w' => ∃ B, e = .returned (.slice (some ⟨B, 0, none⟩) m m) ∧ UAt w' B (tk l 4 m l.length) ∧ Fr (fun _ => False) w w' ∧ w.heap.size ≤ B := by
  obtain ⟨ao, cap, rfl⟩ := h.shape
  have H := hide h
  obtain ⟨n, hn⟩ : ∃ n, n = l.length := ⟨_, rfl⟩
  have HN := hide hn
  rw [← hn] at H hl ⊢
  have hqq : ((n : Int) / 4) = (m : Int) := by omega
  have hn80 : n ≤ 80 := by omega
  have HM : (Instr.makeSlice 101 (.int .i64 ((n : Int) / 4)) (.int .i64 ((n : Int) / 4))).run Try.prog w = .ok (.slice (some ⟨w.heap.size, 0, none⟩) m m) (w.alloc (.cells (uvs (List.replicate m 0)).toArray 22)) := by rw [hqq]; exact run_make101 m (by omega) w
  have HHL := hide hl
  have HTS : Hid (∀ j, j < n → (tk l 4 m j).set (j / 4) ((tk l 4 m j).getD (j / 4) 0 * 256 + (l.getD j 0).toNat) = tk l 4 m (j + 1)) := hide (fun j hj => tk_stepD (by omega) (by decide) (by omega))
  have hU : UAt (w.alloc (.cells (uvs (List.replicate m 0)).toArray 22)) w.heap.size (tk l 4 m 0) := by rw [tk_zero]; exact heap_alloc_new w _
  have HU := hide hU
  have HF := hide ((Fr.refl (fun _ => False) w).alloc (.cells (uvs (List.replicate m 0)).toArray 22))
  clear h hl hn hU hqq
  go_enter Try.func57, Try.ntmps57
  go_upto_block 0 with fail
  generalize w.alloc (.cells (uvs (List.replicate m 0)).toArray 22) = w1 at *
  generalize hB : w.heap.size = B at *
  have HBS := hide hB
  clear HM hB
  go_wp2_with fail
  go_loopw [15, 6, 7] (fun y _ _ W => ∃ (j : Nat), j ≤ n ∧ y = .int .i64 (j : Int) ∧ UAt W B (tk l 4 m j) ∧ Fr (fun _ => False) w W) (fun y _ _ _ => n - (intOf y).toNat)
  case atStart => exact ⟨0, by omega, rfl, unhide HU, unhide HF⟩
  case round =>
    clear HU HF
    obtain ⟨j, hj, rfl, hU, hf⟩ := hrel
    by_cases hlt : j < n
    · have hjl : j < l.length := by rw [← unhide HN]; exact hlt
      have hr := (unhide H).kept hf (fun _ _ h => h)
      obtain ⟨gb, go, rfl, -, hnc, hcm, hc⟩ := hr.lits (by omega)
      have c0 := hc j hjl
      rw [show l[j] = l.getD j 0 by simp [List.getD, hjl]] at c0
      have hcm2 : j / 4 < m := by have := unhide HHL; omega
      have hlen := tk_length l 4 m j
      have c1 := hU.cellD (j / 4) (by rw [hlen]; exact hcm2)
      have HS := hide (unhide HTS j hlt)
      have hb0 := val_lt (((l.take j).drop (j / 4 * 4)).take 4)
      have hlen2 : (((l.take j).drop (j / 4 * 4)).take 4).length ≤ 7 := by rw [List.length_take, List.length_drop, List.length_take]; have := unhide HHL; omega
      have hv56 : (tk l 4 m j).getD (j / 4) 0 < 72057594037927936 := by
        rw [show (tk l 4 m j).getD (j / 4) 0 = (tk l 4 m j)[j / 4]'(by rw [hlen]; exact hcm2) by simp [List.getD, hlen, hcm2], tk_get hcm2]
        have h2 : 256 ^ (((l.take j).drop (j / 4 * 4)).take 4).length ≤ 256 ^ 7 := Nat.pow_le_pow_right (by decide) hlen2
        have h3 : (256 : Nat) ^ 7 = 72057594037927936 := by decide
        omega
      have hor := or8 _ (l.getD j 0) hv56
      have hb8 := (l.getD j 0).toNat_lt
      have HU2 := hide (hU.set (j / 4) ((tk l 4 m j).getD (j / 4) 0 * 256 + (l.getD j 0).toNat))
      have HUU := hide hU
      have z0 := frozen_of_heap hU (j / 4)
      have lB := lt_of_heap hU
      have HF2 := hide hf
      have HBS2 := unhide HBS
      have hq : ((j : Int) / 4) = ((j / 4 : Nat) : Int) := by omega
      have hjcap : j < cap := by omega
      generalize j / 4 = q at *
      generalize (tk l 4 m j).getD q 0 = old at *
      generalize l.getD j 0 = bt at *
      have hne : gb ≠ gb ∨ True := .inr trivial
      clear hU hf hr hc HU2 hb0 hlen2 hlen hne
      go_wp2_with fail
      refine wp_region_quietTail 15 (by kernel_rfl) (by kernel_rfl) ?_
      simp only [List.take_succ_cons, List.take_zero]
      repeat (go_big_quiet_step (fail))
      refine wpQuiet_nil ?_
      intro _ hw'
      obtain ⟨nq, hw''⟩ := hw'
      subst hw''
      simp only [List.drop_succ_cons, List.drop_zero]
      go_wp2_with fail
      go_roundw
      case rel =>
        refine ⟨j + 1, by omega, by go_num, ?_, ?_⟩
        · have e : ((old * 256 + bt.toNat : Nat) : Int) = (old : Int) * 256 + (bt.toNat : Int) := by omega
          have h1 := ((unhide HUU).kept (Fr.ofDrewN (S := fun _ => False) wr nq) id).set q (old * 256 + bt.toNat)
          rw [unhide HS, e] at h1
          exact h1
        · exact ((unhide HF2).drewN nq).setCell (fun h => by rw [← HBS2] at h; simp at h) _
      case measure => simp [intOf]; omega
    · obtain rfl : n = j := by omega
      have HU2 := hide hU
      have HF2 := hide hf
      clear hU hf
      go_wp2_with fail
      go_ret
      exact ⟨B, rfl, unhide HU2, unhide HF2, by rw [← unhide HBS]; exact Nat.le_refl _⟩
set_option maxRecDepth 100000 in
set_option maxHeartbeats 4000000 in
/-- taken, of pieces of 8 bytes. -/
theorem taken8_any (w : World) (v : Value) (l : List UInt8) (m : Nat) (h : Rd w v l) (hl : l.length = 8 * m) (hm : m ≤ 10) : Calls Try.prog 57 #[v, .int .i64 8] w fun e w' => ∃ B, e = .returned (.slice (some ⟨B, 0, none⟩) m m) ∧ UAt w' B (tk l 8 m l.length) ∧ Fr (fun _ => False) w w' ∧ w.heap.size ≤ B := by
  obtain ⟨ao, cap, rfl⟩ := h.shape
  have H := hide h
  obtain ⟨n, hn⟩ : ∃ n, n = l.length := ⟨_, rfl⟩
  have HN := hide hn
  rw [← hn] at H hl ⊢
  have hqq : ((n : Int) / 8) = (m : Int) := by omega
  have hn80 : n ≤ 80 := by omega
  have HM : (Instr.makeSlice 101 (.int .i64 ((n : Int) / 8)) (.int .i64 ((n : Int) / 8))).run Try.prog w = .ok (.slice (some ⟨w.heap.size, 0, none⟩) m m) (w.alloc (.cells (uvs (List.replicate m 0)).toArray 22)) := by rw [hqq]; exact run_make101 m (by omega) w
  have HHL := hide hl
  have HTS : Hid (∀ j, j < n → (tk l 8 m j).set (j / 8) ((tk l 8 m j).getD (j / 8) 0 * 256 + (l.getD j 0).toNat) = tk l 8 m (j + 1)) := hide (fun j hj => tk_stepD (by omega) (by decide) (by omega))
  have hU : UAt (w.alloc (.cells (uvs (List.replicate m 0)).toArray 22)) w.heap.size (tk l 8 m 0) := by rw [tk_zero]; exact heap_alloc_new w _
  have HU := hide hU
  have HF := hide ((Fr.refl (fun _ => False) w).alloc (.cells (uvs (List.replicate m 0)).toArray 22))
  clear h hl hn hU hqq
  go_enter Try.func57, Try.ntmps57
  go_upto_block 0 with fail
  generalize w.alloc (.cells (uvs (List.replicate m 0)).toArray 22) = w1 at *
  generalize hB : w.heap.size = B at *
  have HBS := hide hB
  clear HM hB
  go_wp2_with fail
  go_loopw [15, 6, 7] (fun y _ _ W => ∃ (j : Nat), j ≤ n ∧ y = .int .i64 (j : Int) ∧ UAt W B (tk l 8 m j) ∧ Fr (fun _ => False) w W) (fun y _ _ _ => n - (intOf y).toNat)
  case atStart => exact ⟨0, by omega, rfl, unhide HU, unhide HF⟩
  case round =>
    clear HU HF
    obtain ⟨j, hj, rfl, hU, hf⟩ := hrel
    by_cases hlt : j < n
    · have hjl : j < l.length := by rw [← unhide HN]; exact hlt
      have hr := (unhide H).kept hf (fun _ _ h => h)
      obtain ⟨gb, go, rfl, -, hnc, hcm, hc⟩ := hr.lits (by omega)
      have c0 := hc j hjl
      rw [show l[j] = l.getD j 0 by simp [List.getD, hjl]] at c0
      have hcm2 : j / 8 < m := by have := unhide HHL; omega
      have hlen := tk_length l 8 m j
      have c1 := hU.cellD (j / 8) (by rw [hlen]; exact hcm2)
      have HS := hide (unhide HTS j hlt)
      have hb0 := val_lt (((l.take j).drop (j / 8 * 8)).take 8)
      have hlen2 : (((l.take j).drop (j / 8 * 8)).take 8).length ≤ 7 := by rw [List.length_take, List.length_drop, List.length_take]; have := unhide HHL; omega
      have hv56 : (tk l 8 m j).getD (j / 8) 0 < 72057594037927936 := by
        rw [show (tk l 8 m j).getD (j / 8) 0 = (tk l 8 m j)[j / 8]'(by rw [hlen]; exact hcm2) by simp [List.getD, hlen, hcm2], tk_get hcm2]
        have h2 : 256 ^ (((l.take j).drop (j / 8 * 8)).take 8).length ≤ 256 ^ 7 := Nat.pow_le_pow_right (by decide) hlen2
        have h3 : (256 : Nat) ^ 7 = 72057594037927936 := by decide
        omega
      have hor := or8 _ (l.getD j 0) hv56
      have hb8 := (l.getD j 0).toNat_lt
      have HU2 := hide (hU.set (j / 8) ((tk l 8 m j).getD (j / 8) 0 * 256 + (l.getD j 0).toNat))
      have HUU := hide hU
      have z0 := frozen_of_heap hU (j / 8)
      have lB := lt_of_heap hU
      have HF2 := hide hf
      have HBS2 := unhide HBS
      have hq : ((j : Int) / 8) = ((j / 8 : Nat) : Int) := by omega
      have hjcap : j < cap := by omega
      generalize j / 8 = q at *
      generalize (tk l 8 m j).getD q 0 = old at *
      generalize l.getD j 0 = bt at *
      have hne : gb ≠ gb ∨ True := .inr trivial
      clear hU hf hr hc HU2 hb0 hlen2 hlen hne
      go_wp2_with fail
      refine wp_region_quietTail 15 (by kernel_rfl) (by kernel_rfl) ?_
      simp only [List.take_succ_cons, List.take_zero]
      repeat (go_big_quiet_step (fail))
      refine wpQuiet_nil ?_
      intro _ hw'
      obtain ⟨nq, hw''⟩ := hw'
      subst hw''
      simp only [List.drop_succ_cons, List.drop_zero]
      go_wp2_with fail
      go_roundw
      case rel =>
        refine ⟨j + 1, by omega, by go_num, ?_, ?_⟩
        · have e : ((old * 256 + bt.toNat : Nat) : Int) = (old : Int) * 256 + (bt.toNat : Int) := by omega
          have h1 := ((unhide HUU).kept (Fr.ofDrewN (S := fun _ => False) wr nq) id).set q (old * 256 + bt.toNat)
          rw [unhide HS, e] at h1
          exact h1
        · exact ((unhide HF2).drewN nq).setCell (fun h => by rw [← HBS2] at h; simp at h) _
      case measure => simp [intOf]; omega
    · obtain rfl : n = j := by omega
      have HU2 := hide hU
      have HF2 := hide hf
      clear hU hf
      go_wp2_with fail
      go_ret
      exact ⟨B, rfl, unhide HU2, unhide HF2, by rw [← unhide HBS]; exact Nat.le_refl _⟩
end Go.Proofs.Ytgodlfoidjeekaa

namespace Go.Proofs.Ytgodlfoidjeekaa
set_option linter.unusedVariables false
set_option linter.unusedSimpArgs false
open Go.RowKit
set_option linter.unusedVariables false
set_option linter.unusedSimpArgs false

attribute [local go_sem ↓] Go.wp_at_zero Go.wp_at_succ

/-- Whether an entry can be one. -/
def cbB (b s p l : Nat) (pt ps : Int) (n : Nat) : Bool := decide (0 < b) && decide (0 < s) && decide (0 < l) && wiB [b, s, p, l] && decide (1 ≤ ps) && decide (ps ≤ 100) && decide (0 ≤ pt) && decide (pt < ps) && decide (1 ≤ n) && decide (n ≤ 336)
theorem within4 (w : World) (a : Nat) (ha : a = w.heap.size) (b s p l : Nat) : Calls Try.prog 54 #[.slice (some ⟨a, 0, none⟩) 4 4] (w.alloc (.cells #[.int .u64 (b : Int), .int .u64 (s : Int), .int .u64 (p : Int), .int .u64 (l : Int)] 22)) fun e w' => e = .returned (.bool (wiB [b, s, p, l])) ∧ w.alloc (.cells #[.int .u64 (b : Int), .int .u64 (s : Int), .int .u64 (p : Int), .int .u64 (l : Int)] 22) = w' := by
  subst ha
  exact within_any _ _ [b, s, p, l] (rdv_new w (uvs [b, s, p, l]) 22 (by simp [uvs])) (by simp)
set_option maxRecDepth 100000 in
set_option maxHeartbeats 8000000 in
theorem canBeX_any (x : Bool) (w : World) (b s p l : Nat) (pt ps : Int) (ao : Option Addr) (n cap : Nat) (HW : Hid (wiB [b, s, p, l] = x)) : Calls Try.prog 50 #[.agg #[.int .u64 (b : Int), .int .u64 (s : Int), .int .u64 (p : Int), .int .u64 (l : Int), .int .i64 pt, .int .i64 ps, .slice ao n cap]] w fun e w' => e = .returned (.bool (cbB b s p l pt ps n)) ∧ Fr (fun _ => False) w w' := by
  cases x
  · go_enter Try.func50, Try.ntmps50
    go_wp2_with (go_at_call 54; refine (within4 _ _ (by simp) b s p l).mono ?_; rintro e w' ⟨rfl, rfl⟩; rw [unhide HW])
    all_goals
      go_ret
      refine ⟨?_, by repeat (first | exact Fr.refl _ _ | refine Fr.alloc ?_ _)⟩
      have hw := unhide HW
      clear HW
      show Ending.returned (.bool _) = _
      congr 2
      unfold cbB
      first
        | (simp_all; done)
        | (simp_all; intros; omega)
        | (simp_all; rw [Bool.eq_iff_iff]; simp; omega)
  · go_enter Try.func50, Try.ntmps50
    go_wp2_with (go_at_call 54; refine (within4 _ _ (by simp) b s p l).mono ?_; rintro e w' ⟨rfl, rfl⟩; rw [unhide HW])
    all_goals
      go_ret
      refine ⟨?_, by repeat (first | exact Fr.refl _ _ | refine Fr.alloc ?_ _)⟩
      have hw := unhide HW
      clear HW
      show Ending.returned (.bool _) = _
      congr 2
      unfold cbB
      first
        | (simp_all; done)
        | (simp_all; intros; omega)
        | (simp_all; rw [Bool.eq_iff_iff]; simp; omega)
theorem canBe_any (w : World) (b s p l : Nat) (pt ps : Int) (ao : Option Addr) (n cap : Nat) : Calls Try.prog 50 #[.agg #[.int .u64 (b : Int), .int .u64 (s : Int), .int .u64 (p : Int), .int .u64 (l : Int), .int .i64 pt, .int .i64 ps, .slice ao n cap]] w fun e w' => e = .returned (.bool (cbB b s p l pt ps n)) ∧ Fr (fun _ => False) w w' := canBeX_any _ w b s p l pt ps ao n cap (hide rfl)
end Go.Proofs.Ytgodlfoidjeekaa
