/-
  Bytes under way: owned, and new since some world; numbers laid behind them.
-/
import Derived.Test.YtbenailemoefhaaSt
namespace Go.Proofs.Ytbenailemoefhaa
open Go.RowKit
set_option linter.unusedVariables false
set_option linter.unusedSimpArgs false

attribute [local go_sem ↓] Go.wp_at_zero Go.wp_at_succ

/-- The last k bytes of a number, the highest first. -/
def be : Nat → Nat → List UInt8
  | 0, _ => []
  | k + 1, n => UInt8.ofNat (n / 256 ^ k) :: be k n
theorem be_length (k n : Nat) : (be k n).length = k := by induction k with
  | zero => rfl
  | succ k ih => simp [be, ih]
/-- Bytes that are owned, made since W0; what was there in W0 is as it was. -/
structure Nb (W0 W : World) (v : Value) (l : List UInt8) : Prop where
  own : W.ownsRow 0 5 1 v l.length (bvs l)
  fr : Fr (fun _ => False) W0 W
  new : ∀ k, v.ownBlock = some k → W0.heap.size ≤ k
section
variable {W0 W W' : World} {v : Value} {l : List UInt8}
theorem Nb.nil (f : Fr (fun _ => False) W0 W) : Nb W0 W (.slice none 0 0) [] := ⟨owns_nil W, f, fun k e => by simp [Value.ownBlock] at e⟩
theorem Nb.shape (h : Nb W0 W v l) : ∃ ao cap, v = .slice ao l.length cap := owns_shape h.own
theorem Nb.rd (h : Nb W0 W v l) : Rd W v l := Rd.of_owns h.own
theorem Nb.kept (h : Nb W0 W v l) (f : Fr (fun _ => False) W W') : Nb W0 W' v l := ⟨owns_kept h.own f (fun _ _ e => e), h.fr.trans f (fun _ _ e => e), h.new⟩
theorem Nb.alloc (h : Nb W0 W v l) (o : Obj) : Nb W0 (W.alloc o) v l := h.kept ((Fr.refl _ _).alloc o)
theorem Nb.grown {v' : Value} {x : List UInt8} (h : Nb W0 W v l) (o : W'.ownsRow 0 5 1 v' (l.length + x.length) (bvs l ++ bvs x)) (hg : W.grownBy W' v.ownBlock) (hpl : v'.ownBlock = v.ownBlock ∨ ∃ k, v'.ownBlock = some k ∧ W.heap.size ≤ k) : Nb W0 W' v' (l ++ x) := by
  refine ⟨by rw [List.length_append, bvs_append]; exact o, h.fr.grown hg (fun k hk e => ?_), fun k e => ?_⟩
  · have := h.new k e; omega
  · rcases hpl with e2 | ⟨b, e2, hb⟩
    · rw [e2] at e; exact h.new k e
    · rw [e2] at e; simp at e; have := h.fr.size; omega
end
theorem cell_new (w : World) (cs : Array Value) (e : TypeId) : ∀ j u, cs.toList[j]? = some u → (w.alloc (Obj.cells cs e)).cell? ((⟨w.heap.size, 0, none⟩ : Addr).add j) = some u := by
  intro j u hu
  rw [Addr.add_lit, Nat.zero_add, cell_of_heap (heap_alloc_new w _)]
  simpa using hu
theorem rdv_new (w : World) (vs : List Value) (e : TypeId) (hl : vs.length ≤ 1000000) : RdV (w.alloc (Obj.cells vs.toArray e)) (.slice (some ⟨w.heap.size, 0, none⟩) vs.length vs.length) vs :=
  .inr ⟨_, _, rfl, Nat.le_refl _, by simp only [maxLen]; omega, fun j hj => by rw [Addr.add_lit, Nat.zero_add, cell_of_heap (heap_alloc_new w _)]; simp [hj]⟩
/-- Numbers as they come. -/
def uvs (l : List Nat) : List Value := l.map fun (n : Nat) => Value.int .u64 (n : Int)
def lay (k : Nat) (ns : List Nat) : List UInt8 := ns.flatMap (be k)
theorem lay_length (k : Nat) (ns : List Nat) : (lay k ns).length = k * ns.length := by
  induction ns with
  | nil => simp [lay]
  | cons n r ih => unfold lay at *; simp only [List.flatMap_cons, List.length_append, ih, be_length, List.length_cons]; rw [Nat.mul_succ]; omega
theorem lay_take (k : Nat) (ns : List Nat) (j : Nat) (hj : j < ns.length) : lay k (ns.take (j + 1)) = lay k (ns.take j) ++ be k ns[j] := by
  unfold lay
  rw [List.take_succ_eq_append_getElem hj, List.flatMap_append]
  congr 1
  simp
theorem be_byte (n k : Nat) : (((UInt8.ofNat (n / 256 ^ k)).toNat : Nat) : Int) = (n : Int) / ((256 ^ k : Nat) : Int) % 256 := by
  rw [UInt8.toNat_ofNat']; omega
theorem sr1 (w : World) (z : Int) (x : UInt8) (hz : z = ((x.toNat : Nat) : Int)) : Sr (w.alloc (Obj.cells #[.int .u8 z] 5)) 1 (.slice (some ⟨w.heap.size, 0, none⟩) 1 1) 1 (bvs [x]) := by
  subst hz; exact one_cellV _ _ _
set_option maxRecDepth 100000 in
set_option maxHeartbeats 4000000 in
theorem lay_any (W0 w : World) (v : Value) (l : List UInt8) (k : Nat) (u : Value) (ns : List Nat) (h : Nb W0 w v l) (hk : k = 4 ∨ k = 8) (hu : RdV w u (uvs ns)) (hub : ∀ b, u.ownBlock = some b → ∀ c, v.ownBlock = some c → b ≠ c) (hub2 : ∀ b, u.ownBlock = some b → b < w.heap.size) (hn : ns.length ≤ 10) (hl : l.length ≤ 1000) (hb : ∀ n ∈ ns, n < 18446744073709551616) :
    Calls Try.prog 40 #[v, .int .i64 (k : Int), u] w fun e w' => ∃ v', e = .returned v' ∧ Nb W0 w' v' (l ++ lay k ns) := by
  obtain ⟨inf, hi0, hz0, hz1, hz2⟩ := info_parts Try.info5
  obtain ⟨ao, cap, rfl⟩ := hu.shape
  have HU := hide hu
  have HB := hide hub
  have HB2 := hide hub2
  have HBB := hide hb
  have H := hide h
  obtain ⟨L, hL⟩ : ∃ L, L = ns.length := ⟨_, rfl⟩
  have hLn : (uvs ns).length = L := by rw [hL]; simp [uvs]
  rw [hLn] at HU HB HB2 ⊢
  have HL := hide hL
  have hL10 : L ≤ 10 := by omega
  clear hu hub hub2 h hL hLn hn hb
  go_enter Try.func40, Try.ntmps40
  go_wp2_with fail
  go_loopw [0, 12] (fun o y W => ∃ (j : Nat), j ≤ L ∧ y = .int .i64 (j : Int) ∧ Nb W0 W o (l ++ lay k (ns.take j)) ∧ RdV W (.slice ao L cap) (uvs ns) ∧ (∀ b, (Value.slice ao L cap).ownBlock = some b → ∀ c, o.ownBlock = some c → b ≠ c) ∧ w.heap.size ≤ W.heap.size) (fun _ y _ => L - (intOf y).toNat)
  case atStart => exact ⟨0, by omega, rfl, by simpa [lay] using unhide H, unhide HU, unhide HB, Nat.le_refl _⟩
  case round =>
    obtain ⟨j, hj, rfl, hN, hR, hap, hws⟩ := hrel
    by_cases hlt : j < L
    · have j1 : j < ns.length := by have := unhide HL; omega
      obtain ⟨bb, oo, rfl, -, hnc, hcm, hc⟩ := hR.lits (by simp [uvs]; omega)
      have y0 := hc j (by simp [uvs]; omega)
      rw [show (uvs ns)[j]'(by simp [uvs]; omega) = Value.int .u64 ((ns[j] : Nat) : Int) by simp [uvs]] at y0
      have hn64 := unhide HBB ns[j] (List.getElem_mem j1)
      have hjc : j < cap := by omega
      have HTK := hide (lay_take k ns j j1)
      have HNN := hide hN
      have HRR := hide hR
      have HAP := hide hap
      have HWS := hide hws
      have hll : (l ++ lay k (ns.take j)).length ≤ 1080 := by
        rw [List.length_append, lay_length, List.length_take]
        rcases hk with rfl | rfl <;> omega
      generalize ns[j] = n at *
      generalize hbase : l ++ lay k (ns.take j) = base at *
      clear hc hN hR hap hws j1
      go_wp2_with fail
      go_loopw [0, 9] (fun o y W => ∃ (r : Nat) (z : Int) (B : List UInt8), r ≤ k ∧ y = .int .i64 z ∧ z = (r : Int) - 1 ∧ Nb W0 W o B ∧ B ++ be r n = base ++ be k n ∧ B.length + r = base.length + k ∧ RdV W (.slice (some ⟨bb, oo, none⟩) L cap) (uvs ns) ∧ (∀ b, (Value.slice (some ⟨bb, oo, none⟩) L cap).ownBlock = some b → ∀ c, o.ownBlock = some c → b ≠ c) ∧ w.heap.size ≤ W.heap.size) (fun _ y _ => (intOf y + 1).toNat)
      case atStart => exact ⟨k, _, base, Nat.le_refl _, rfl, rfl, unhide HNN, rfl, rfl, unhide HRR, unhide HAP, unhide HWS⟩
      case round =>
        clear HNN HRR HAP HWS
        obtain ⟨r, z, B, hr, rfl, hz, hN, hB, hBl, hR, hap, hws⟩ := hrel
        have hrk : r ≤ 8 := by rcases hk with rfl | rfl <;> omega
        rcases Nat.eq_zero_or_pos r with rfl | hpos
        · obtain rfl : z = -1 := by omega
          have HN2 : Hid (Nb W0 wr u0 (l ++ lay k (ns.take (j + 1)))) := hide (by
            rw [unhide HTK, ← List.append_assoc, hbase, ← hB]
            simpa [be] using hN)
          have HR2 := hide hR
          have HP2 := hide hap
          have HW2 := hide hws
          clear hN hR hap hws hB hBl hbase hr hrk hz HTK
          go_wp2_with fail
          go_roundw
          case rel => exact ⟨j + 1, by omega, by go_num, unhide HN2, unhide HR2, unhide HP2, unhide HW2⟩
          case measure => simp [intOf]; omega
        · obtain ⟨r, rfl⟩ : ∃ r', r = r' + 1 := ⟨r - 1, by omega⟩
          obtain ⟨oa, oc, rfl⟩ := hN.shape
          have HN := hide hN
          have HR := hide hR
          have HAP := hide hap
          have HWS := hide hws
          have hBL : B.length ≤ 1100 := by omega
          have HX := hide (be_byte n r)
          have HBE : Hid (B ++ [UInt8.ofNat (n / 256 ^ r)] ++ be r n = base ++ be k n) := hide (by rw [← hB]; simp [be])
          have HBL : Hid (B.length + 1 + r = base.length + k) := hide (by omega)
          have HRK : Hid (r ≤ k) := hide (by omega)
          obtain ⟨x8, hx8⟩ : ∃ x8, x8 = UInt8.ofNat (n / 256 ^ r) := ⟨_, rfl⟩
          rw [← hx8] at HX HBE
          clear hN hR hap hws hB hBl hx8 hbase hr
          rcases (show r = 0 ∨ r = 1 ∨ r = 2 ∨ r = 3 ∨ r = 4 ∨ r = 5 ∨ r = 6 ∨ r = 7 by omega) with rfl | rfl | rfl | rfl | rfl | rfl | rfl | rfl
          · obtain rfl : z = 0 := by omega
            clear hz hpos hrk
            go_wp2_with (refine wpList_app rfl (.tmp 22) (.tmp 28) 26 rfl 5 inf _ 1 1 Try.underlying26 hi0 hz0 hz1 hz2 rfl (by decide) _ B.length (bvs B) rfl _ rfl 1 (bvs [x8]) ?hown ?hx ?h1 ?hb ?h63 ?hK)
            case hown => exact ((unhide HN).alloc _).own
            case hx =>
              exact sr1 _ _ _ (by rw [unhide HX]; simp <;> omega)
            case h1 => exact bvs_one _
            case hb => omega
            case h63 => simp only [maxLen]; omega
            case hK =>
              intro ao' cap' w' ho hg hpl
              have HNN : Hid (Nb W0 w' (.slice ao' (B.length + 1) cap') (B ++ [x8])) := hide (((unhide HN).alloc _).grown (x := [x8]) ho hg (by rcases hpl with e | ⟨k, e, hk⟩; exact .inl e; exact .inr ⟨k, e, by simp at hk ⊢; omega⟩))
              have HFR : Hid (Fr (fun k => (Value.slice oa B.length oc).ownBlock = some k) wr w') := hide (Fr.grown ((Fr.refl _ _).alloc _) hg (fun k _ e => e))
              have HR2 : Hid (RdV w' (.slice (some ⟨bb, oo, none⟩) L cap) (uvs ns)) := hide ((unhide HR).kept (unhide HFR) (fun b hb e => unhide HAP b hb b e rfl))
              have HP2 : Hid (∀ b, (Value.slice (some ⟨bb, oo, none⟩) L cap).ownBlock = some b → ∀ c, (Value.slice ao' (B.length + 1) cap').ownBlock = some c → b ≠ c) := hide (fun b hb c hc => by
                rcases hpl with e | ⟨k, e, hk⟩
                · rw [e] at hc; exact unhide HAP b hb c hc
                · rw [e] at hc
                  have h1 := unhide HB2 b hb
                  have h2 := unhide HWS
                  simp at hc hk
                  omega)
              have HW2 : Hid (w.heap.size ≤ w'.heap.size) := hide (by have h1 := unhide HWS; have h2 := (unhide HFR).size; omega)
              clear ho hg hpl
              go_wp2_with fail
              go_roundw
              case rel => exact ⟨_, _, B ++ [x8], unhide HRK, rfl, by first | rfl | omega, by simpa using unhide HNN, unhide HBE, by simpa using unhide HBL, unhide HR2, by simpa using unhide HP2, unhide HW2⟩
              case measure => simp [intOf]
          · obtain rfl : z = 1 := by omega
            clear hz hpos hrk
            go_wp2_with (refine wpList_app rfl (.tmp 22) (.tmp 28) 26 rfl 5 inf _ 1 1 Try.underlying26 hi0 hz0 hz1 hz2 rfl (by decide) _ B.length (bvs B) rfl _ rfl 1 (bvs [x8]) ?hown ?hx ?h1 ?hb ?h63 ?hK)
            case hown => exact ((unhide HN).alloc _).own
            case hx =>
              exact sr1 _ _ _ (by rw [unhide HX]; simp <;> omega)
            case h1 => exact bvs_one _
            case hb => omega
            case h63 => simp only [maxLen]; omega
            case hK =>
              intro ao' cap' w' ho hg hpl
              have HNN : Hid (Nb W0 w' (.slice ao' (B.length + 1) cap') (B ++ [x8])) := hide (((unhide HN).alloc _).grown (x := [x8]) ho hg (by rcases hpl with e | ⟨k, e, hk⟩; exact .inl e; exact .inr ⟨k, e, by simp at hk ⊢; omega⟩))
              have HFR : Hid (Fr (fun k => (Value.slice oa B.length oc).ownBlock = some k) wr w') := hide (Fr.grown ((Fr.refl _ _).alloc _) hg (fun k _ e => e))
              have HR2 : Hid (RdV w' (.slice (some ⟨bb, oo, none⟩) L cap) (uvs ns)) := hide ((unhide HR).kept (unhide HFR) (fun b hb e => unhide HAP b hb b e rfl))
              have HP2 : Hid (∀ b, (Value.slice (some ⟨bb, oo, none⟩) L cap).ownBlock = some b → ∀ c, (Value.slice ao' (B.length + 1) cap').ownBlock = some c → b ≠ c) := hide (fun b hb c hc => by
                rcases hpl with e | ⟨k, e, hk⟩
                · rw [e] at hc; exact unhide HAP b hb c hc
                · rw [e] at hc
                  have h1 := unhide HB2 b hb
                  have h2 := unhide HWS
                  simp at hc hk
                  omega)
              have HW2 : Hid (w.heap.size ≤ w'.heap.size) := hide (by have h1 := unhide HWS; have h2 := (unhide HFR).size; omega)
              clear ho hg hpl
              go_wp2_with fail
              go_roundw
              case rel => exact ⟨_, _, B ++ [x8], unhide HRK, rfl, by first | rfl | omega, by simpa using unhide HNN, unhide HBE, by simpa using unhide HBL, unhide HR2, by simpa using unhide HP2, unhide HW2⟩
              case measure => simp [intOf]
          · obtain rfl : z = 2 := by omega
            clear hz hpos hrk
            go_wp2_with (refine wpList_app rfl (.tmp 22) (.tmp 28) 26 rfl 5 inf _ 1 1 Try.underlying26 hi0 hz0 hz1 hz2 rfl (by decide) _ B.length (bvs B) rfl _ rfl 1 (bvs [x8]) ?hown ?hx ?h1 ?hb ?h63 ?hK)
            case hown => exact ((unhide HN).alloc _).own
            case hx =>
              exact sr1 _ _ _ (by rw [unhide HX]; simp <;> omega)
            case h1 => exact bvs_one _
            case hb => omega
            case h63 => simp only [maxLen]; omega
            case hK =>
              intro ao' cap' w' ho hg hpl
              have HNN : Hid (Nb W0 w' (.slice ao' (B.length + 1) cap') (B ++ [x8])) := hide (((unhide HN).alloc _).grown (x := [x8]) ho hg (by rcases hpl with e | ⟨k, e, hk⟩; exact .inl e; exact .inr ⟨k, e, by simp at hk ⊢; omega⟩))
              have HFR : Hid (Fr (fun k => (Value.slice oa B.length oc).ownBlock = some k) wr w') := hide (Fr.grown ((Fr.refl _ _).alloc _) hg (fun k _ e => e))
              have HR2 : Hid (RdV w' (.slice (some ⟨bb, oo, none⟩) L cap) (uvs ns)) := hide ((unhide HR).kept (unhide HFR) (fun b hb e => unhide HAP b hb b e rfl))
              have HP2 : Hid (∀ b, (Value.slice (some ⟨bb, oo, none⟩) L cap).ownBlock = some b → ∀ c, (Value.slice ao' (B.length + 1) cap').ownBlock = some c → b ≠ c) := hide (fun b hb c hc => by
                rcases hpl with e | ⟨k, e, hk⟩
                · rw [e] at hc; exact unhide HAP b hb c hc
                · rw [e] at hc
                  have h1 := unhide HB2 b hb
                  have h2 := unhide HWS
                  simp at hc hk
                  omega)
              have HW2 : Hid (w.heap.size ≤ w'.heap.size) := hide (by have h1 := unhide HWS; have h2 := (unhide HFR).size; omega)
              clear ho hg hpl
              go_wp2_with fail
              go_roundw
              case rel => exact ⟨_, _, B ++ [x8], unhide HRK, rfl, by first | rfl | omega, by simpa using unhide HNN, unhide HBE, by simpa using unhide HBL, unhide HR2, by simpa using unhide HP2, unhide HW2⟩
              case measure => simp [intOf]
          · obtain rfl : z = 3 := by omega
            clear hz hpos hrk
            go_wp2_with (refine wpList_app rfl (.tmp 22) (.tmp 28) 26 rfl 5 inf _ 1 1 Try.underlying26 hi0 hz0 hz1 hz2 rfl (by decide) _ B.length (bvs B) rfl _ rfl 1 (bvs [x8]) ?hown ?hx ?h1 ?hb ?h63 ?hK)
            case hown => exact ((unhide HN).alloc _).own
            case hx =>
              exact sr1 _ _ _ (by rw [unhide HX]; simp <;> omega)
            case h1 => exact bvs_one _
            case hb => omega
            case h63 => simp only [maxLen]; omega
            case hK =>
              intro ao' cap' w' ho hg hpl
              have HNN : Hid (Nb W0 w' (.slice ao' (B.length + 1) cap') (B ++ [x8])) := hide (((unhide HN).alloc _).grown (x := [x8]) ho hg (by rcases hpl with e | ⟨k, e, hk⟩; exact .inl e; exact .inr ⟨k, e, by simp at hk ⊢; omega⟩))
              have HFR : Hid (Fr (fun k => (Value.slice oa B.length oc).ownBlock = some k) wr w') := hide (Fr.grown ((Fr.refl _ _).alloc _) hg (fun k _ e => e))
              have HR2 : Hid (RdV w' (.slice (some ⟨bb, oo, none⟩) L cap) (uvs ns)) := hide ((unhide HR).kept (unhide HFR) (fun b hb e => unhide HAP b hb b e rfl))
              have HP2 : Hid (∀ b, (Value.slice (some ⟨bb, oo, none⟩) L cap).ownBlock = some b → ∀ c, (Value.slice ao' (B.length + 1) cap').ownBlock = some c → b ≠ c) := hide (fun b hb c hc => by
                rcases hpl with e | ⟨k, e, hk⟩
                · rw [e] at hc; exact unhide HAP b hb c hc
                · rw [e] at hc
                  have h1 := unhide HB2 b hb
                  have h2 := unhide HWS
                  simp at hc hk
                  omega)
              have HW2 : Hid (w.heap.size ≤ w'.heap.size) := hide (by have h1 := unhide HWS; have h2 := (unhide HFR).size; omega)
              clear ho hg hpl
              go_wp2_with fail
              go_roundw
              case rel => exact ⟨_, _, B ++ [x8], unhide HRK, rfl, by first | rfl | omega, by simpa using unhide HNN, unhide HBE, by simpa using unhide HBL, unhide HR2, by simpa using unhide HP2, unhide HW2⟩
              case measure => simp [intOf]
          · obtain rfl : z = 4 := by omega
            clear hz hpos hrk
            go_wp2_with (refine wpList_app rfl (.tmp 22) (.tmp 28) 26 rfl 5 inf _ 1 1 Try.underlying26 hi0 hz0 hz1 hz2 rfl (by decide) _ B.length (bvs B) rfl _ rfl 1 (bvs [x8]) ?hown ?hx ?h1 ?hb ?h63 ?hK)
            case hown => exact ((unhide HN).alloc _).own
            case hx =>
              exact sr1 _ _ _ (by rw [unhide HX]; simp <;> omega)
            case h1 => exact bvs_one _
            case hb => omega
            case h63 => simp only [maxLen]; omega
            case hK =>
              intro ao' cap' w' ho hg hpl
              have HNN : Hid (Nb W0 w' (.slice ao' (B.length + 1) cap') (B ++ [x8])) := hide (((unhide HN).alloc _).grown (x := [x8]) ho hg (by rcases hpl with e | ⟨k, e, hk⟩; exact .inl e; exact .inr ⟨k, e, by simp at hk ⊢; omega⟩))
              have HFR : Hid (Fr (fun k => (Value.slice oa B.length oc).ownBlock = some k) wr w') := hide (Fr.grown ((Fr.refl _ _).alloc _) hg (fun k _ e => e))
              have HR2 : Hid (RdV w' (.slice (some ⟨bb, oo, none⟩) L cap) (uvs ns)) := hide ((unhide HR).kept (unhide HFR) (fun b hb e => unhide HAP b hb b e rfl))
              have HP2 : Hid (∀ b, (Value.slice (some ⟨bb, oo, none⟩) L cap).ownBlock = some b → ∀ c, (Value.slice ao' (B.length + 1) cap').ownBlock = some c → b ≠ c) := hide (fun b hb c hc => by
                rcases hpl with e | ⟨k, e, hk⟩
                · rw [e] at hc; exact unhide HAP b hb c hc
                · rw [e] at hc
                  have h1 := unhide HB2 b hb
                  have h2 := unhide HWS
                  simp at hc hk
                  omega)
              have HW2 : Hid (w.heap.size ≤ w'.heap.size) := hide (by have h1 := unhide HWS; have h2 := (unhide HFR).size; omega)
              clear ho hg hpl
              go_wp2_with fail
              go_roundw
              case rel => exact ⟨_, _, B ++ [x8], unhide HRK, rfl, by first | rfl | omega, by simpa using unhide HNN, unhide HBE, by simpa using unhide HBL, unhide HR2, by simpa using unhide HP2, unhide HW2⟩
              case measure => simp [intOf]
          · obtain rfl : z = 5 := by omega
            clear hz hpos hrk
            go_wp2_with (refine wpList_app rfl (.tmp 22) (.tmp 28) 26 rfl 5 inf _ 1 1 Try.underlying26 hi0 hz0 hz1 hz2 rfl (by decide) _ B.length (bvs B) rfl _ rfl 1 (bvs [x8]) ?hown ?hx ?h1 ?hb ?h63 ?hK)
            case hown => exact ((unhide HN).alloc _).own
            case hx =>
              exact sr1 _ _ _ (by rw [unhide HX]; simp <;> omega)
            case h1 => exact bvs_one _
            case hb => omega
            case h63 => simp only [maxLen]; omega
            case hK =>
              intro ao' cap' w' ho hg hpl
              have HNN : Hid (Nb W0 w' (.slice ao' (B.length + 1) cap') (B ++ [x8])) := hide (((unhide HN).alloc _).grown (x := [x8]) ho hg (by rcases hpl with e | ⟨k, e, hk⟩; exact .inl e; exact .inr ⟨k, e, by simp at hk ⊢; omega⟩))
              have HFR : Hid (Fr (fun k => (Value.slice oa B.length oc).ownBlock = some k) wr w') := hide (Fr.grown ((Fr.refl _ _).alloc _) hg (fun k _ e => e))
              have HR2 : Hid (RdV w' (.slice (some ⟨bb, oo, none⟩) L cap) (uvs ns)) := hide ((unhide HR).kept (unhide HFR) (fun b hb e => unhide HAP b hb b e rfl))
              have HP2 : Hid (∀ b, (Value.slice (some ⟨bb, oo, none⟩) L cap).ownBlock = some b → ∀ c, (Value.slice ao' (B.length + 1) cap').ownBlock = some c → b ≠ c) := hide (fun b hb c hc => by
                rcases hpl with e | ⟨k, e, hk⟩
                · rw [e] at hc; exact unhide HAP b hb c hc
                · rw [e] at hc
                  have h1 := unhide HB2 b hb
                  have h2 := unhide HWS
                  simp at hc hk
                  omega)
              have HW2 : Hid (w.heap.size ≤ w'.heap.size) := hide (by have h1 := unhide HWS; have h2 := (unhide HFR).size; omega)
              clear ho hg hpl
              go_wp2_with fail
              go_roundw
              case rel => exact ⟨_, _, B ++ [x8], unhide HRK, rfl, by first | rfl | omega, by simpa using unhide HNN, unhide HBE, by simpa using unhide HBL, unhide HR2, by simpa using unhide HP2, unhide HW2⟩
              case measure => simp [intOf]
          · obtain rfl : z = 6 := by omega
            clear hz hpos hrk
            go_wp2_with (refine wpList_app rfl (.tmp 22) (.tmp 28) 26 rfl 5 inf _ 1 1 Try.underlying26 hi0 hz0 hz1 hz2 rfl (by decide) _ B.length (bvs B) rfl _ rfl 1 (bvs [x8]) ?hown ?hx ?h1 ?hb ?h63 ?hK)
            case hown => exact ((unhide HN).alloc _).own
            case hx =>
              exact sr1 _ _ _ (by rw [unhide HX]; simp <;> omega)
            case h1 => exact bvs_one _
            case hb => omega
            case h63 => simp only [maxLen]; omega
            case hK =>
              intro ao' cap' w' ho hg hpl
              have HNN : Hid (Nb W0 w' (.slice ao' (B.length + 1) cap') (B ++ [x8])) := hide (((unhide HN).alloc _).grown (x := [x8]) ho hg (by rcases hpl with e | ⟨k, e, hk⟩; exact .inl e; exact .inr ⟨k, e, by simp at hk ⊢; omega⟩))
              have HFR : Hid (Fr (fun k => (Value.slice oa B.length oc).ownBlock = some k) wr w') := hide (Fr.grown ((Fr.refl _ _).alloc _) hg (fun k _ e => e))
              have HR2 : Hid (RdV w' (.slice (some ⟨bb, oo, none⟩) L cap) (uvs ns)) := hide ((unhide HR).kept (unhide HFR) (fun b hb e => unhide HAP b hb b e rfl))
              have HP2 : Hid (∀ b, (Value.slice (some ⟨bb, oo, none⟩) L cap).ownBlock = some b → ∀ c, (Value.slice ao' (B.length + 1) cap').ownBlock = some c → b ≠ c) := hide (fun b hb c hc => by
                rcases hpl with e | ⟨k, e, hk⟩
                · rw [e] at hc; exact unhide HAP b hb c hc
                · rw [e] at hc
                  have h1 := unhide HB2 b hb
                  have h2 := unhide HWS
                  simp at hc hk
                  omega)
              have HW2 : Hid (w.heap.size ≤ w'.heap.size) := hide (by have h1 := unhide HWS; have h2 := (unhide HFR).size; omega)
              clear ho hg hpl
              go_wp2_with fail
              go_roundw
              case rel => exact ⟨_, _, B ++ [x8], unhide HRK, rfl, by first | rfl | omega, by simpa using unhide HNN, unhide HBE, by simpa using unhide HBL, unhide HR2, by simpa using unhide HP2, unhide HW2⟩
              case measure => simp [intOf]
          · obtain rfl : z = 7 := by omega
            clear hz hpos hrk
            go_wp2_with (refine wpList_app rfl (.tmp 22) (.tmp 28) 26 rfl 5 inf _ 1 1 Try.underlying26 hi0 hz0 hz1 hz2 rfl (by decide) _ B.length (bvs B) rfl _ rfl 1 (bvs [x8]) ?hown ?hx ?h1 ?hb ?h63 ?hK)
            case hown => exact ((unhide HN).alloc _).own
            case hx =>
              exact sr1 _ _ _ (by rw [unhide HX]; simp <;> omega)
            case h1 => exact bvs_one _
            case hb => omega
            case h63 => simp only [maxLen]; omega
            case hK =>
              intro ao' cap' w' ho hg hpl
              have HNN : Hid (Nb W0 w' (.slice ao' (B.length + 1) cap') (B ++ [x8])) := hide (((unhide HN).alloc _).grown (x := [x8]) ho hg (by rcases hpl with e | ⟨k, e, hk⟩; exact .inl e; exact .inr ⟨k, e, by simp at hk ⊢; omega⟩))
              have HFR : Hid (Fr (fun k => (Value.slice oa B.length oc).ownBlock = some k) wr w') := hide (Fr.grown ((Fr.refl _ _).alloc _) hg (fun k _ e => e))
              have HR2 : Hid (RdV w' (.slice (some ⟨bb, oo, none⟩) L cap) (uvs ns)) := hide ((unhide HR).kept (unhide HFR) (fun b hb e => unhide HAP b hb b e rfl))
              have HP2 : Hid (∀ b, (Value.slice (some ⟨bb, oo, none⟩) L cap).ownBlock = some b → ∀ c, (Value.slice ao' (B.length + 1) cap').ownBlock = some c → b ≠ c) := hide (fun b hb c hc => by
                rcases hpl with e | ⟨k, e, hk⟩
                · rw [e] at hc; exact unhide HAP b hb c hc
                · rw [e] at hc
                  have h1 := unhide HB2 b hb
                  have h2 := unhide HWS
                  simp at hc hk
                  omega)
              have HW2 : Hid (w.heap.size ≤ w'.heap.size) := hide (by have h1 := unhide HWS; have h2 := (unhide HFR).size; omega)
              clear ho hg hpl
              go_wp2_with fail
              go_roundw
              case rel => exact ⟨_, _, B ++ [x8], unhide HRK, rfl, by first | rfl | omega, by simpa using unhide HNN, unhide HBE, by simpa using unhide HBL, unhide HR2, by simpa using unhide HP2, unhide HW2⟩
              case measure => simp [intOf]
    · obtain rfl : j = L := by omega
      have HN2 : Hid (Nb W0 wr u0 (l ++ lay k ns)) := hide (by
        have := unhide HL
        rw [this, List.take_length] at hN; exact hN)
      clear hN hR hap hws
      go_wp2_with fail
      go_ret
      exact ⟨_, rfl, unhide HN2⟩
end Go.Proofs.Ytbenailemoefhaa
