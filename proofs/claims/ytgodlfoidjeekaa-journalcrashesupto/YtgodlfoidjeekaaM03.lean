/-
  A constant's bytes; lay behind them.
  PutEntry.
  PutSuper.
  Rows of cells: stored and loaded at once; regions by themselves.
  The statements' device: Write.
  The statements' device: Write, Flush.
  The statements' device: Crash, NewStore.
  The statements' device: NewStore; the devices of a run: Dw.
  The journal, plainly and in memory; what only asks it.
-/
import Derived.Test.YtgodlfoidjeekaaM02
import Derived.Lib.SlBytesConst
import Derived.Lib.AppendZerosOnto
import Derived.Deep.CutBlock
import Derived.Test.YtgodlfoidjeekaaM01
import Derived.Deep.MidRow
namespace Go.Proofs.Ytgodlfoidjeekaa
set_option linter.unusedVariables false
set_option linter.unusedSimpArgs false
open Go.RowKit Go.Lib
set_option linter.unusedVariables false
set_option linter.unusedSimpArgs false

attribute [local go_sem ↓] Go.wp_at_zero Go.wp_at_succ

theorem zeros_u8 (k : Nat) : Builtin.zeroCells (Value.int .u8 0).cells k = (bvs (List.replicate k 0)).toArray := by
  apply Array.ext
  · simp [Builtin.zeroCells, bvs, Value.cells]
  · intro i h1 h2
    simp [Builtin.zeroCells, bvs, Value.cells, Nat.mod_one]
structure Nm (W0 W : World) (v : Value) (l : List UInt8) : Prop where
  sh : ∃ g, v = .slice (some ⟨g, 0, none⟩) l.length l.length ∧ W0.heap.size ≤ g ∧ g < W.heap.size
  rd : Rd W v l
  fr : Fr (fun _ => False) W0 W
theorem Nm.kept {W0 W W' : World} {v : Value} {l : List UInt8} (h : Nm W0 W v l) (f : Fr (fun _ => False) W W') : Nm W0 W' v l := by
  obtain ⟨g, e, h1, h2⟩ := h.sh
  exact ⟨⟨g, e, h1, Nat.lt_of_lt_of_le h2 f.size⟩, h.rd.kept f (fun _ _ e => e), h.fr.trans f (fun _ _ e => e)⟩
theorem run_appM {W0 W : World} {v : Value} {l xs : List UInt8} {x : Value} {m : Nat} (h : Nm W0 W v l) (hl : 0 < l.length) (hx : Sr W 1 x m (bvs xs)) (hm : xs.length = m) (hpos : 0 < m) (hk : l.length + m ≤ 100000) : ∃ ao c w', (Builtin.append_ #[23, 23] 23 #[v, x]).run Try.prog W = .ok (.slice ao (l.length + m) c) w' ∧ Nb W0 w' (.slice ao (l.length + m) c) (l ++ xs) ∧ Fr (fun _ => False) W w' ∧ (Value.slice ao (l.length + m) c).ownBlock = some W.heap.size := by
  obtain ⟨inf, hi0, hz0, hz1, hz2⟩ := info_parts Try.info5
  obtain ⟨g, rfl, hg1, hg2⟩ := h.sh
  rcases hx with ⟨rfl, rfl, -⟩ | ⟨ad, c, rfl, hnl, hc⟩
  · omega
  obtain ⟨b9, o9, e9, -, -, -, hcl⟩ := h.rd.lits hl
  simp only [Option.some.injEq, Addr.mk.injEq, true_and] at e9
  obtain ⟨rfl, rfl, -⟩ := e9
  have hr := run_append_grow (P := Try.prog) W 23 23 5 inf _ Try.underlying23 hi0 hz0 ⟨g, 0, none⟩ l.length l.length (bvs l) (by rw [hz1, bvs_length]; omega) (fun j u hu => by
    have hj : j < l.length := by have := (List.getElem?_eq_some_iff.1 hu).1; rwa [bvs_length] at this
    rw [bvs_get l j hj] at hu
    rw [Addr.add_lit]
    have := hcl j hj
    simp only [Option.some.injEq] at hu
    rw [← hu]; exact this) ad m c (bvs xs) (by rw [hz1]; omega) hc (by omega) (by omega) (by rw [hz2]; exact growslice_fits (by omega) (by omega))
  have hge := grownCap_ge W (l.length + m) l.length 5
  have hcm2 : grownCap W (l.length + m) l.length 5 ≤ maxLen := grownCap_le_maxLen W (l.length + m) l.length 5 (by simp only [maxLen]; omega)
  rw [zeros_u8] at hr
  have hlen : (l ++ xs).length = l.length + m := by rw [List.length_append, hm]
  refine ⟨_, _, _, hr, ⟨?_, ?_, ?_⟩, ?_, rfl⟩
  · rw [hlen]
    refine ⟨by rw [bvs_length, hlen]; omega, .inr ⟨W.heap.size, _, _, rfl, Nat.zero_le _, heap_alloc_new W.drew _, hge, hcm2, ?_, ?_⟩⟩
    · simp only [Array.size_append, List.size_toArray, bvs_length, List.length_replicate]
      omega
    · simp only [Array.toList_append]
      rw [← bvs_append, show (l.length + m) * 1 = (bvs (l ++ xs)).length by rw [bvs_length, hlen]; omega]
      exact List.take_left
  · exact (h.fr.drew).alloc _
  · intro k hk
    simp [Value.ownBlock] at hk
    have := h.fr.size
    omega
  · exact ((Fr.refl _ _).drew).alloc _
theorem wpList_appM {W0 w : World} {ops : Array Oper} {rest : List Oper} {o : Oper} {a : Act} {Q : Exit → Act → World → Prop} (hgd : o.guard = none) (hty : o.type = 23) (s x : Operand) (ho : o.op = .call { callee := .builtin .append, args := #[s, x], argTypes := #[23, 23] }) {v xv : Value} {l xs : List UInt8} {m : Nat} (hs : a.eval s = v) (hx : a.eval x = xv) (h : Nm W0 w v l) (hl : 0 < l.length) (hsr : Sr w 1 xv m (bvs xs)) (hm : xs.length = m) (hpos : 0 < m) (hk : l.length + m ≤ 100000)
    (hK : ∀ ao c w', Nb W0 w' (.slice ao (l.length + m) c) (l ++ xs) → Fr (fun _ => False) w w' → (Value.slice ao (l.length + m) c).ownBlock = some w.heap.size → wpList Try.prog ops Q rest (a.put o.dst (.slice ao (l.length + m) c)) w') : wpList Try.prog ops Q (o :: rest) a w := by
  refine wpList_plain hgd fun K hK2 => ?_
  obtain ⟨ao, c, w', hr, h2, h3, h4⟩ := run_appM h hl hsr hm hpos hk
  unfold Oper.wp execOp
  simp only [ho, hty, resolve, invoke, builtin, Sem.run_bind, Sem.run_pure, Result.andThen_ok, List.map_toArray, List.map_cons, List.map_nil, hs, hx, hr]
  exact hK2 _ _ (hK ao c w' h2 h3 h4)
/-- Bytes of one's own, or the constant's that they began with. -/
def Nx (l0 : List UInt8) (W0 W : World) (v : Value) (B : List UInt8) : Prop := Nb W0 W v B ∨ (Nm W0 W v B ∧ B = l0)
theorem Nx.shape {l0 : List UInt8} {W0 W : World} {v : Value} {B : List UInt8} (h : Nx l0 W0 W v B) : ∃ ao cap, v = .slice ao B.length cap := by
  rcases h with h | ⟨h, -⟩
  · exact h.shape
  · obtain ⟨g, e, -⟩ := h.sh
    exact ⟨_, _, e⟩
theorem Nx.nb {l0 : List UInt8} {W0 W : World} {v : Value} {B : List UInt8} (h : Nx l0 W0 W v B) (hB : l0.length < B.length) : Nb W0 W v B := by
  rcases h with h | ⟨-, e⟩
  · exact h
  · rw [e] at hB; omega
/-- A constant's bytes, as the walk makes them. -/
theorem nm_const (W0 w : World) (f : Fr (fun _ => False) W0 w) (C : List UInt8) (fr : Nat × Nat) (vs : Array Value) (hv : vs = (bvs C).toArray) (hl : C.length ≤ 100000) : Nm W0 (w.alloc (.cells vs 5 fr)) (.slice (some ⟨w.heap.size, 0, none⟩) C.length C.length) C := by
  subst hv
  refine ⟨⟨w.heap.size, rfl, f.size, by simp⟩, ?_, f.alloc _⟩
  refine .inr ⟨⟨w.heap.size, 0, none⟩, C.length, rfl, Nat.le_refl _, by simp only [maxLen]; omega, fun j hj => ?_⟩
  rw [Addr.add_lit, Nat.zero_add]
  have h1 : (w.alloc (.cells (bvs C).toArray 5 fr)).heap[w.heap.size]? = some (.cells (bvs C).toArray 5 fr) := heap_alloc_new w _
  unfold World.cell?
  rw [h1]
  simp [bvs, hj]
set_option maxRecDepth 100000 in
set_option maxHeartbeats 4000000 in
theorem lay_anyM (W0 w : World) (v : Value) (l : List UInt8) (k : Nat) (u : Value) (ns : List Nat) (h : Nm W0 w v l) (hns : 0 < ns.length) (hl0 : 0 < l.length) (hk : k = 2 ∨ k = 4 ∨ k = 8) (hu : RdV w u (uvs ns)) (hub : ∀ b, u.ownBlock = some b → ∀ c, v.ownBlock = some c → b ≠ c) (hub2 : ∀ b, u.ownBlock = some b → b < w.heap.size) (hn : ns.length ≤ 10) (hl : l.length ≤ 1000) (hb : ∀ n ∈ ns, n < 18446744073709551616) :
    Calls Try.prog 51 #[v, .int .i64 (k : Int), u] w fun e w' => ∃ v', e = .returned v' ∧ Nb W0 w' v' (l ++ lay k ns) := by
  obtain ⟨inf, hi0, hz0, hz1, hz2⟩ := info_parts Try.info5
  obtain ⟨ao, cap, rfl⟩ := hu.shape
  have HU := hide hu
  have HB := hide hub
  have HNS := hide hns
  have HL0 := hide hl0
  have HB2 := hide hub2
  have HBB := hide hb
  have H := hide h
  obtain ⟨L, hL⟩ : ∃ L, L = ns.length := ⟨_, rfl⟩
  have hLn : (uvs ns).length = L := by rw [hL]; simp [uvs]
  rw [hLn] at HU HB HB2 ⊢
  have HL := hide hL
  have hL10 : L ≤ 10 := by omega
  clear hu hub hub2 h hL hLn hn hb hns hl0
  go_enter Try.func51, Try.ntmps51
  go_wp2_with fail
  go_loopw [0, 12] (fun o y W => ∃ (j : Nat), j ≤ L ∧ y = .int .i64 (j : Int) ∧ Nx l W0 W o (l ++ lay k (ns.take j)) ∧ RdV W (.slice ao L cap) (uvs ns) ∧ (∀ b, (Value.slice ao L cap).ownBlock = some b → ∀ c, o.ownBlock = some c → b ≠ c) ∧ w.heap.size ≤ W.heap.size) (fun _ y _ => L - (intOf y).toNat)
  case atStart => exact ⟨0, by omega, rfl, by simpa [lay] using (show Nx l W0 w v l from .inr ⟨unhide H, rfl⟩), unhide HU, unhide HB, Nat.le_refl _⟩
  case round =>
    obtain ⟨j, hj, rfl, hN, hR, hap, hws⟩ := hrel
    by_cases hlt : j < L
    · have j1 : j < ns.length := by have := unhide HL; omega
      obtain ⟨bb, oo, rfl, -, hnc, hcm, hc⟩ := hR.lits (by simp [uvs]; omega)
      have y0 := hc j (by simp [uvs]; omega)
      rw [show (uvs ns)[j]'(by simp [uvs]; omega) = Value.int .u64 ((ns[j] : Nat) : Int) by simp [uvs]] at y0
      have hn64 := unhide HBB ns[j] (List.getElem_mem j1)
      have hjc : j < cap := by omega
      have HTK := hide (lay_take k ns j j1)
      have HNN := hide hN
      have HRR := hide hR
      have HAP := hide hap
      have HWS := hide hws
      have hll : (l ++ lay k (ns.take j)).length ≤ 1080 := by
        rw [List.length_append, lay_length, List.length_take]
        rcases hk with rfl | rfl | rfl <;> omega
      generalize ns[j] = n at *
      generalize hbase : l ++ lay k (ns.take j) = base at *
      clear hc hN hR hap hws j1
      go_wp2_with fail
      go_loopw [0, 9] (fun o y W => ∃ (r : Nat) (z : Int) (B : List UInt8), r ≤ k ∧ y = .int .i64 z ∧ z = (r : Int) - 1 ∧ Nx l W0 W o B ∧ B ++ be r n = base ++ be k n ∧ B.length + r = base.length + k ∧ RdV W (.slice (some ⟨bb, oo, none⟩) L cap) (uvs ns) ∧ (∀ b, (Value.slice (some ⟨bb, oo, none⟩) L cap).ownBlock = some b → ∀ c, o.ownBlock = some c → b ≠ c) ∧ w.heap.size ≤ W.heap.size) (fun _ y _ => (intOf y + 1).toNat)
      case atStart => exact ⟨k, _, base, Nat.le_refl _, rfl, rfl, unhide HNN, rfl, rfl, unhide HRR, unhide HAP, unhide HWS⟩
      case round =>
        clear HNN HRR HAP HWS
        obtain ⟨r, z, B, hr, rfl, hz, hN, hB, hBl, hR, hap, hws⟩ := hrel
        have hrk : r ≤ 8 := by rcases hk with rfl | rfl | rfl <;> omega
        rcases Nat.eq_zero_or_pos r with rfl | hpos
        · obtain rfl : z = -1 := by omega
          have HN2 : Hid (Nx l W0 wr u0 (l ++ lay k (ns.take (j + 1)))) := hide (by
            rw [unhide HTK, ← List.append_assoc, hbase, ← hB]
            simpa [be] using hN)
          have HR2 := hide hR
          have HP2 := hide hap
          have HW2 := hide hws
          clear hN hR hap hws hB hBl hbase hr hrk hz HTK
          go_wp2_with fail
          go_roundw
          case rel => exact ⟨j + 1, by omega, by go_num, unhide HN2, unhide HR2, unhide HP2, unhide HW2⟩
          case measure => simp [intOf]; omega
        · obtain ⟨r, rfl⟩ : ∃ r', r = r' + 1 := ⟨r - 1, by omega⟩
          obtain ⟨oa, oc, rfl⟩ := hN.shape
          have HN := hide hN
          have HR := hide hR
          have HAP := hide hap
          have HWS := hide hws
          have hBL : B.length ≤ 1100 := by omega
          have HX := hide (be_byte n r)
          have HBE : Hid (B ++ [UInt8.ofNat (n / 256 ^ r)] ++ be r n = base ++ be k n) := hide (by rw [← hB]; simp [be])
          have HBL : Hid (B.length + 1 + r = base.length + k) := hide (by omega)
          have HRK : Hid (r ≤ k) := hide (by omega)
          obtain ⟨x8, hx8⟩ : ∃ x8, x8 = UInt8.ofNat (n / 256 ^ r) := ⟨_, rfl⟩
          rw [← hx8] at HX HBE
          clear hN hR hap hws hB hBl hx8 hbase hr
          rcases (show r = 0 ∨ r = 1 ∨ r = 2 ∨ r = 3 ∨ r = 4 ∨ r = 5 ∨ r = 6 ∨ r = 7 by omega) with rfl | rfl | rfl | rfl | rfl | rfl | rfl | rfl
          · obtain rfl : z = 0 := by omega
            clear hz hpos hrk
            rcases unhide HN with HNb | ⟨HNm, hBl⟩
            · have HN := hide HNb
              clear HNb
              go_wp2_with (refine wpList_app rfl (.tmp 22) (.tmp 28) 23 rfl 5 inf _ 1 1 Try.underlying23 hi0 hz0 hz1 hz2 rfl (by decide) _ B.length (bvs B) rfl _ rfl 1 (bvs [x8]) ?hown ?hx ?h1 ?hb ?h63 ?hK)
              case hown => exact ((unhide HN).alloc _).own
              case hx =>
                exact sr1 _ _ _ (by rw [unhide HX]; simp <;> omega)
              case h1 => exact bvs_one _
              case hb => omega
              case h63 => simp only [maxLen]; omega
              case hK =>
                intro ao' cap' w' ho hg hpl
                have HNN : Hid (Nb W0 w' (.slice ao' (B.length + 1) cap') (B ++ [x8])) := hide (((unhide HN).alloc _).grown (x := [x8]) ho hg (by rcases hpl with e | ⟨k, e, hk⟩; exact .inl e; exact .inr ⟨k, e, by simp at hk ⊢; omega⟩))
                have HFR : Hid (Fr (fun k => (Value.slice oa B.length oc).ownBlock = some k) wr w') := hide (Fr.grown ((Fr.refl _ _).alloc _) hg (fun k _ e => e))
                have HR2 : Hid (RdV w' (.slice (some ⟨bb, oo, none⟩) L cap) (uvs ns)) := hide ((unhide HR).kept (unhide HFR) (fun b hb e => unhide HAP b hb b e rfl))
                have HP2 : Hid (∀ b, (Value.slice (some ⟨bb, oo, none⟩) L cap).ownBlock = some b → ∀ c, (Value.slice ao' (B.length + 1) cap').ownBlock = some c → b ≠ c) := hide (fun b hb c hc => by
                  rcases hpl with e | ⟨k, e, hk⟩
                  · rw [e] at hc; exact unhide HAP b hb c hc
                  · rw [e] at hc
                    have h1 := unhide HB2 b hb
                    have h2 := unhide HWS
                    simp at hc hk
                    omega)
                have HW2 : Hid (w.heap.size ≤ w'.heap.size) := hide (by have h1 := unhide HWS; have h2 := (unhide HFR).size; omega)
                clear ho hg hpl
                go_wp2_with fail
                go_roundw
                case rel => exact ⟨_, _, B ++ [x8], unhide HRK, rfl, by first | rfl | omega, .inl (by simpa using unhide HNN), unhide HBE, by simpa using unhide HBL, unhide HR2, by simpa using unhide HP2, unhide HW2⟩
                case measure => simp [intOf]
            · have HL00 := unhide HL0
              rw [← hBl] at HL00
              have HM := hide HNm
              clear HNm hBl HN
              go_wp2_with (refine wpList_appM (W0 := W0) (l := B) (xs := [x8]) (m := 1) rfl rfl (.tmp 22) (.tmp 28) rfl rfl rfl ?hm9 HL00 ?hs9 rfl (by decide) ?hk9 ?hK9)
              case hm9 => exact (unhide HM).kept ((Fr.refl _ _).alloc _)
              case hs9 => exact sr1 _ _ _ (by rw [unhide HX]; simp <;> omega)
              case hk9 => omega
              case hK9 =>
                intro ao' cap' w' hN9 hf9 hp9
                have HNN : Hid (Nb W0 w' (.slice ao' (B.length + 1) cap') (B ++ [x8])) := hide hN9
                have HFR : Hid (Fr (fun _ => False) wr w') := hide (((Fr.refl _ _).alloc _).trans hf9 (fun _ _ e => e))
                have HR2 : Hid (RdV w' (.slice (some ⟨bb, oo, none⟩) L cap) (uvs ns)) := hide ((unhide HR).kept (unhide HFR) (fun _ _ e => e))
                have HP2 : Hid (∀ b, (Value.slice (some ⟨bb, oo, none⟩) L cap).ownBlock = some b → ∀ c, (Value.slice ao' (B.length + 1) cap').ownBlock = some c → b ≠ c) := hide (fun b hb c hc => by
                  rw [hp9] at hc
                  have h1 := unhide HB2 b hb
                  have h2 := unhide HWS
                  simp at hc
                  omega)
                have HW2 : Hid (w.heap.size ≤ w'.heap.size) := hide (by have h1 := unhide HWS; have h2 := (unhide HFR).size; omega)
                clear hN9 hf9 hp9
                go_wp2_with fail
                go_roundw
                case rel => exact ⟨_, _, B ++ [x8], unhide HRK, rfl, by first | rfl | omega, .inl (by simpa using unhide HNN), unhide HBE, by simpa using unhide HBL, unhide HR2, by simpa using unhide HP2, unhide HW2⟩
                case measure => simp [intOf]
          · obtain rfl : z = 1 := by omega
            clear hz hpos hrk
            rcases unhide HN with HNb | ⟨HNm, hBl⟩
            · have HN := hide HNb
              clear HNb
              go_wp2_with (refine wpList_app rfl (.tmp 22) (.tmp 28) 23 rfl 5 inf _ 1 1 Try.underlying23 hi0 hz0 hz1 hz2 rfl (by decide) _ B.length (bvs B) rfl _ rfl 1 (bvs [x8]) ?hown ?hx ?h1 ?hb ?h63 ?hK)
              case hown => exact ((unhide HN).alloc _).own
              case hx =>
                exact sr1 _ _ _ (by rw [unhide HX]; simp <;> omega)
              case h1 => exact bvs_one _
              case hb => omega
              case h63 => simp only [maxLen]; omega
              case hK =>
                intro ao' cap' w' ho hg hpl
                have HNN : Hid (Nb W0 w' (.slice ao' (B.length + 1) cap') (B ++ [x8])) := hide (((unhide HN).alloc _).grown (x := [x8]) ho hg (by rcases hpl with e | ⟨k, e, hk⟩; exact .inl e; exact .inr ⟨k, e, by simp at hk ⊢; omega⟩))
                have HFR : Hid (Fr (fun k => (Value.slice oa B.length oc).ownBlock = some k) wr w') := hide (Fr.grown ((Fr.refl _ _).alloc _) hg (fun k _ e => e))
                have HR2 : Hid (RdV w' (.slice (some ⟨bb, oo, none⟩) L cap) (uvs ns)) := hide ((unhide HR).kept (unhide HFR) (fun b hb e => unhide HAP b hb b e rfl))
                have HP2 : Hid (∀ b, (Value.slice (some ⟨bb, oo, none⟩) L cap).ownBlock = some b → ∀ c, (Value.slice ao' (B.length + 1) cap').ownBlock = some c → b ≠ c) := hide (fun b hb c hc => by
                  rcases hpl with e | ⟨k, e, hk⟩
                  · rw [e] at hc; exact unhide HAP b hb c hc
                  · rw [e] at hc
                    have h1 := unhide HB2 b hb
                    have h2 := unhide HWS
                    simp at hc hk
                    omega)
                have HW2 : Hid (w.heap.size ≤ w'.heap.size) := hide (by have h1 := unhide HWS; have h2 := (unhide HFR).size; omega)
                clear ho hg hpl
                go_wp2_with fail
                go_roundw
                case rel => exact ⟨_, _, B ++ [x8], unhide HRK, rfl, by first | rfl | omega, .inl (by simpa using unhide HNN), unhide HBE, by simpa using unhide HBL, unhide HR2, by simpa using unhide HP2, unhide HW2⟩
                case measure => simp [intOf]
            · have HL00 := unhide HL0
              rw [← hBl] at HL00
              have HM := hide HNm
              clear HNm hBl HN
              go_wp2_with (refine wpList_appM (W0 := W0) (l := B) (xs := [x8]) (m := 1) rfl rfl (.tmp 22) (.tmp 28) rfl rfl rfl ?hm9 HL00 ?hs9 rfl (by decide) ?hk9 ?hK9)
              case hm9 => exact (unhide HM).kept ((Fr.refl _ _).alloc _)
              case hs9 => exact sr1 _ _ _ (by rw [unhide HX]; simp <;> omega)
              case hk9 => omega
              case hK9 =>
                intro ao' cap' w' hN9 hf9 hp9
                have HNN : Hid (Nb W0 w' (.slice ao' (B.length + 1) cap') (B ++ [x8])) := hide hN9
                have HFR : Hid (Fr (fun _ => False) wr w') := hide (((Fr.refl _ _).alloc _).trans hf9 (fun _ _ e => e))
                have HR2 : Hid (RdV w' (.slice (some ⟨bb, oo, none⟩) L cap) (uvs ns)) := hide ((unhide HR).kept (unhide HFR) (fun _ _ e => e))
                have HP2 : Hid (∀ b, (Value.slice (some ⟨bb, oo, none⟩) L cap).ownBlock = some b → ∀ c, (Value.slice ao' (B.length + 1) cap').ownBlock = some c → b ≠ c) := hide (fun b hb c hc => by
                  rw [hp9] at hc
                  have h1 := unhide HB2 b hb
                  have h2 := unhide HWS
                  simp at hc
                  omega)
                have HW2 : Hid (w.heap.size ≤ w'.heap.size) := hide (by have h1 := unhide HWS; have h2 := (unhide HFR).size; omega)
                clear hN9 hf9 hp9
                go_wp2_with fail
                go_roundw
                case rel => exact ⟨_, _, B ++ [x8], unhide HRK, rfl, by first | rfl | omega, .inl (by simpa using unhide HNN), unhide HBE, by simpa using unhide HBL, unhide HR2, by simpa using unhide HP2, unhide HW2⟩
                case measure => simp [intOf]
          · obtain rfl : z = 2 := by omega
            clear hz hpos hrk
            rcases unhide HN with HNb | ⟨HNm, hBl⟩
            · have HN := hide HNb
              clear HNb
              go_wp2_with (refine wpList_app rfl (.tmp 22) (.tmp 28) 23 rfl 5 inf _ 1 1 Try.underlying23 hi0 hz0 hz1 hz2 rfl (by decide) _ B.length (bvs B) rfl _ rfl 1 (bvs [x8]) ?hown ?hx ?h1 ?hb ?h63 ?hK)
              case hown => exact ((unhide HN).alloc _).own
              case hx =>
                exact sr1 _ _ _ (by rw [unhide HX]; simp <;> omega)
              case h1 => exact bvs_one _
              case hb => omega
              case h63 => simp only [maxLen]; omega
              case hK =>
                intro ao' cap' w' ho hg hpl
                have HNN : Hid (Nb W0 w' (.slice ao' (B.length + 1) cap') (B ++ [x8])) := hide (((unhide HN).alloc _).grown (x := [x8]) ho hg (by rcases hpl with e | ⟨k, e, hk⟩; exact .inl e; exact .inr ⟨k, e, by simp at hk ⊢; omega⟩))
                have HFR : Hid (Fr (fun k => (Value.slice oa B.length oc).ownBlock = some k) wr w') := hide (Fr.grown ((Fr.refl _ _).alloc _) hg (fun k _ e => e))
                have HR2 : Hid (RdV w' (.slice (some ⟨bb, oo, none⟩) L cap) (uvs ns)) := hide ((unhide HR).kept (unhide HFR) (fun b hb e => unhide HAP b hb b e rfl))
                have HP2 : Hid (∀ b, (Value.slice (some ⟨bb, oo, none⟩) L cap).ownBlock = some b → ∀ c, (Value.slice ao' (B.length + 1) cap').ownBlock = some c → b ≠ c) := hide (fun b hb c hc => by
                  rcases hpl with e | ⟨k, e, hk⟩
                  · rw [e] at hc; exact unhide HAP b hb c hc
                  · rw [e] at hc
                    have h1 := unhide HB2 b hb
                    have h2 := unhide HWS
                    simp at hc hk
                    omega)
                have HW2 : Hid (w.heap.size ≤ w'.heap.size) := hide (by have h1 := unhide HWS; have h2 := (unhide HFR).size; omega)
                clear ho hg hpl
                go_wp2_with fail
                go_roundw
                case rel => exact ⟨_, _, B ++ [x8], unhide HRK, rfl, by first | rfl | omega, .inl (by simpa using unhide HNN), unhide HBE, by simpa using unhide HBL, unhide HR2, by simpa using unhide HP2, unhide HW2⟩
                case measure => simp [intOf]
            · have HL00 := unhide HL0
              rw [← hBl] at HL00
              have HM := hide HNm
              clear HNm hBl HN
              go_wp2_with (refine wpList_appM (W0 := W0) (l := B) (xs := [x8]) (m := 1) rfl rfl (.tmp 22) (.tmp 28) rfl rfl rfl ?hm9 HL00 ?hs9 rfl (by decide) ?hk9 ?hK9)
              case hm9 => exact (unhide HM).kept ((Fr.refl _ _).alloc _)
              case hs9 => exact sr1 _ _ _ (by rw [unhide HX]; simp <;> omega)
              case hk9 => omega
              case hK9 =>
                intro ao' cap' w' hN9 hf9 hp9
                have HNN : Hid (Nb W0 w' (.slice ao' (B.length + 1) cap') (B ++ [x8])) := hide hN9
                have HFR : Hid (Fr (fun _ => False) wr w') := hide (((Fr.refl _ _).alloc _).trans hf9 (fun _ _ e => e))
                have HR2 : Hid (RdV w' (.slice (some ⟨bb, oo, none⟩) L cap) (uvs ns)) := hide ((unhide HR).kept (unhide HFR) (fun _ _ e => e))
                have HP2 : Hid (∀ b, (Value.slice (some ⟨bb, oo, none⟩) L cap).ownBlock = some b → ∀ c, (Value.slice ao' (B.length + 1) cap').ownBlock = some c → b ≠ c) := hide (fun b hb c hc => by
                  rw [hp9] at hc
                  have h1 := unhide HB2 b hb
                  have h2 := unhide HWS
                  simp at hc
                  omega)
                have HW2 : Hid (w.heap.size ≤ w'.heap.size) := hide (by have h1 := unhide HWS; have h2 := (unhide HFR).size; omega)
                clear hN9 hf9 hp9
                go_wp2_with fail
                go_roundw
                case rel => exact ⟨_, _, B ++ [x8], unhide HRK, rfl, by first | rfl | omega, .inl (by simpa using unhide HNN), unhide HBE, by simpa using unhide HBL, unhide HR2, by simpa using unhide HP2, unhide HW2⟩
                case measure => simp [intOf]
          · obtain rfl : z = 3 := by omega
            clear hz hpos hrk
            rcases unhide HN with HNb | ⟨HNm, hBl⟩
            · have HN := hide HNb
              clear HNb
              go_wp2_with (refine wpList_app rfl (.tmp 22) (.tmp 28) 23 rfl 5 inf _ 1 1 Try.underlying23 hi0 hz0 hz1 hz2 rfl (by decide) _ B.length (bvs B) rfl _ rfl 1 (bvs [x8]) ?hown ?hx ?h1 ?hb ?h63 ?hK)
              case hown => exact ((unhide HN).alloc _).own
              case hx =>
                exact sr1 _ _ _ (by rw [unhide HX]; simp <;> omega)
              case h1 => exact bvs_one _
              case hb => omega
              case h63 => simp only [maxLen]; omega
              case hK =>
                intro ao' cap' w' ho hg hpl
                have HNN : Hid (Nb W0 w' (.slice ao' (B.length + 1) cap') (B ++ [x8])) := hide (((unhide HN).alloc _).grown (x := [x8]) ho hg (by rcases hpl with e | ⟨k, e, hk⟩; exact .inl e; exact .inr ⟨k, e, by simp at hk ⊢; omega⟩))
                have HFR : Hid (Fr (fun k => (Value.slice oa B.length oc).ownBlock = some k) wr w') := hide (Fr.grown ((Fr.refl _ _).alloc _) hg (fun k _ e => e))
                have HR2 : Hid (RdV w' (.slice (some ⟨bb, oo, none⟩) L cap) (uvs ns)) := hide ((unhide HR).kept (unhide HFR) (fun b hb e => unhide HAP b hb b e rfl))
                have HP2 : Hid (∀ b, (Value.slice (some ⟨bb, oo, none⟩) L cap).ownBlock = some b → ∀ c, (Value.slice ao' (B.length + 1) cap').ownBlock = some c → b ≠ c) := hide (fun b hb c hc => by
                  rcases hpl with e | ⟨k, e, hk⟩
                  · rw [e] at hc; exact unhide HAP b hb c hc
                  · rw [e] at hc
                    have h1 := unhide HB2 b hb
                    have h2 := unhide HWS
                    simp at hc hk
                    omega)
                have HW2 : Hid (w.heap.size ≤ w'.heap.size) := hide (by have h1 := unhide HWS; have h2 := (unhide HFR).size; omega)
                clear ho hg hpl
                go_wp2_with fail
                go_roundw
                case rel => exact ⟨_, _, B ++ [x8], unhide HRK, rfl, by first | rfl | omega, .inl (by simpa using unhide HNN), unhide HBE, by simpa using unhide HBL, unhide HR2, by simpa using unhide HP2, unhide HW2⟩
                case measure => simp [intOf]
            · have HL00 := unhide HL0
              rw [← hBl] at HL00
              have HM := hide HNm
              clear HNm hBl HN
              go_wp2_with (refine wpList_appM (W0 := W0) (l := B) (xs := [x8]) (m := 1) rfl rfl (.tmp 22) (.tmp 28) rfl rfl rfl ?hm9 HL00 ?hs9 rfl (by decide) ?hk9 ?hK9)
              case hm9 => exact (unhide HM).kept ((Fr.refl _ _).alloc _)
              case hs9 => exact sr1 _ _ _ (by rw [unhide HX]; simp <;> omega)
              case hk9 => omega
              case hK9 =>
                intro ao' cap' w' hN9 hf9 hp9
                have HNN : Hid (Nb W0 w' (.slice ao' (B.length + 1) cap') (B ++ [x8])) := hide hN9
                have HFR : Hid (Fr (fun _ => False) wr w') := hide (((Fr.refl _ _).alloc _).trans hf9 (fun _ _ e => e))
                have HR2 : Hid (RdV w' (.slice (some ⟨bb, oo, none⟩) L cap) (uvs ns)) := hide ((unhide HR).kept (unhide HFR) (fun _ _ e => e))
                have HP2 : Hid (∀ b, (Value.slice (some ⟨bb, oo, none⟩) L cap).ownBlock = some b → ∀ c, (Value.slice ao' (B.length + 1) cap').ownBlock = some c → b ≠ c) := hide (fun b hb c hc => by
                  rw [hp9] at hc
                  have h1 := unhide HB2 b hb
                  have h2 := unhide HWS
                  simp at hc
                  omega)
                have HW2 : Hid (w.heap.size ≤ w'.heap.size) := hide (by have h1 := unhide HWS; have h2 := (unhide HFR).size; omega)
                clear hN9 hf9 hp9
                go_wp2_with fail
                go_roundw
                case rel => exact ⟨_, _, B ++ [x8], unhide HRK, rfl, by first | rfl | omega, .inl (by simpa using unhide HNN), unhide HBE, by simpa using unhide HBL, unhide HR2, by simpa using unhide HP2, unhide HW2⟩
                case measure => simp [intOf]
          · obtain rfl : z = 4 := by omega
            clear hz hpos hrk
            rcases unhide HN with HNb | ⟨HNm, hBl⟩
            · have HN := hide HNb
              clear HNb
              go_wp2_with (refine wpList_app rfl (.tmp 22) (.tmp 28) 23 rfl 5 inf _ 1 1 Try.underlying23 hi0 hz0 hz1 hz2 rfl (by decide) _ B.length (bvs B) rfl _ rfl 1 (bvs [x8]) ?hown ?hx ?h1 ?hb ?h63 ?hK)
              case hown => exact ((unhide HN).alloc _).own
              case hx =>
                exact sr1 _ _ _ (by rw [unhide HX]; simp <;> omega)
              case h1 => exact bvs_one _
              case hb => omega
              case h63 => simp only [maxLen]; omega
              case hK =>
                intro ao' cap' w' ho hg hpl
                have HNN : Hid (Nb W0 w' (.slice ao' (B.length + 1) cap') (B ++ [x8])) := hide (((unhide HN).alloc _).grown (x := [x8]) ho hg (by rcases hpl with e | ⟨k, e, hk⟩; exact .inl e; exact .inr ⟨k, e, by simp at hk ⊢; omega⟩))
                have HFR : Hid (Fr (fun k => (Value.slice oa B.length oc).ownBlock = some k) wr w') := hide (Fr.grown ((Fr.refl _ _).alloc _) hg (fun k _ e => e))
                have HR2 : Hid (RdV w' (.slice (some ⟨bb, oo, none⟩) L cap) (uvs ns)) := hide ((unhide HR).kept (unhide HFR) (fun b hb e => unhide HAP b hb b e rfl))
                have HP2 : Hid (∀ b, (Value.slice (some ⟨bb, oo, none⟩) L cap).ownBlock = some b → ∀ c, (Value.slice ao' (B.length + 1) cap').ownBlock = some c → b ≠ c) := hide (fun b hb c hc => by
                  rcases hpl with e | ⟨k, e, hk⟩
                  · rw [e] at hc; exact unhide HAP b hb c hc
                  · rw [e] at hc
                    have h1 := unhide HB2 b hb
                    have h2 := unhide HWS
                    simp at hc hk
                    omega)
                have HW2 : Hid (w.heap.size ≤ w'.heap.size) := hide (by have h1 := unhide HWS; have h2 := (unhide HFR).size; omega)
                clear ho hg hpl
                go_wp2_with fail
                go_roundw
                case rel => exact ⟨_, _, B ++ [x8], unhide HRK, rfl, by first | rfl | omega, .inl (by simpa using unhide HNN), unhide HBE, by simpa using unhide HBL, unhide HR2, by simpa using unhide HP2, unhide HW2⟩
                case measure => simp [intOf]
            · have HL00 := unhide HL0
              rw [← hBl] at HL00
              have HM := hide HNm
              clear HNm hBl HN
              go_wp2_with (refine wpList_appM (W0 := W0) (l := B) (xs := [x8]) (m := 1) rfl rfl (.tmp 22) (.tmp 28) rfl rfl rfl ?hm9 HL00 ?hs9 rfl (by decide) ?hk9 ?hK9)
              case hm9 => exact (unhide HM).kept ((Fr.refl _ _).alloc _)
              case hs9 => exact sr1 _ _ _ (by rw [unhide HX]; simp <;> omega)
              case hk9 => omega
              case hK9 =>
                intro ao' cap' w' hN9 hf9 hp9
                have HNN : Hid (Nb W0 w' (.slice ao' (B.length + 1) cap') (B ++ [x8])) := hide hN9
                have HFR : Hid (Fr (fun _ => False) wr w') := hide (((Fr.refl _ _).alloc _).trans hf9 (fun _ _ e => e))
                have HR2 : Hid (RdV w' (.slice (some ⟨bb, oo, none⟩) L cap) (uvs ns)) := hide ((unhide HR).kept (unhide HFR) (fun _ _ e => e))
                have HP2 : Hid (∀ b, (Value.slice (some ⟨bb, oo, none⟩) L cap).ownBlock = some b → ∀ c, (Value.slice ao' (B.length + 1) cap').ownBlock = some c → b ≠ c) := hide (fun b hb c hc => by
                  rw [hp9] at hc
                  have h1 := unhide HB2 b hb
                  have h2 := unhide HWS
                  simp at hc
                  omega)
                have HW2 : Hid (w.heap.size ≤ w'.heap.size) := hide (by have h1 := unhide HWS; have h2 := (unhide HFR).size; omega)
                clear hN9 hf9 hp9
                go_wp2_with fail
                go_roundw
                case rel => exact ⟨_, _, B ++ [x8], unhide HRK, rfl, by first | rfl | omega, .inl (by simpa using unhide HNN), unhide HBE, by simpa using unhide HBL, unhide HR2, by simpa using unhide HP2, unhide HW2⟩
                case measure => simp [intOf]
          · obtain rfl : z = 5 := by omega
            clear hz hpos hrk
            rcases unhide HN with HNb | ⟨HNm, hBl⟩
            · have HN := hide HNb
              clear HNb
              go_wp2_with (refine wpList_app rfl (.tmp 22) (.tmp 28) 23 rfl 5 inf _ 1 1 Try.underlying23 hi0 hz0 hz1 hz2 rfl (by decide) _ B.length (bvs B) rfl _ rfl 1 (bvs [x8]) ?hown ?hx ?h1 ?hb ?h63 ?hK)
              case hown => exact ((unhide HN).alloc _).own
              case hx =>
                exact sr1 _ _ _ (by rw [unhide HX]; simp <;> omega)
              case h1 => exact bvs_one _
              case hb => omega
              case h63 => simp only [maxLen]; omega
              case hK =>
                intro ao' cap' w' ho hg hpl
                have HNN : Hid (Nb W0 w' (.slice ao' (B.length + 1) cap') (B ++ [x8])) := hide (((unhide HN).alloc _).grown (x := [x8]) ho hg (by rcases hpl with e | ⟨k, e, hk⟩; exact .inl e; exact .inr ⟨k, e, by simp at hk ⊢; omega⟩))
                have HFR : Hid (Fr (fun k => (Value.slice oa B.length oc).ownBlock = some k) wr w') := hide (Fr.grown ((Fr.refl _ _).alloc _) hg (fun k _ e => e))
                have HR2 : Hid (RdV w' (.slice (some ⟨bb, oo, none⟩) L cap) (uvs ns)) := hide ((unhide HR).kept (unhide HFR) (fun b hb e => unhide HAP b hb b e rfl))
                have HP2 : Hid (∀ b, (Value.slice (some ⟨bb, oo, none⟩) L cap).ownBlock = some b → ∀ c, (Value.slice ao' (B.length + 1) cap').ownBlock = some c → b ≠ c) := hide (fun b hb c hc => by
                  rcases hpl with e | ⟨k, e, hk⟩
                  · rw [e] at hc; exact unhide HAP b hb c hc
                  · rw [e] at hc
                    have h1 := unhide HB2 b hb
                    have h2 := unhide HWS
                    simp at hc hk
                    omega)
                have HW2 : Hid (w.heap.size ≤ w'.heap.size) := hide (by have h1 := unhide HWS; have h2 := (unhide HFR).size; omega)
                clear ho hg hpl
                go_wp2_with fail
                go_roundw
                case rel => exact ⟨_, _, B ++ [x8], unhide HRK, rfl, by first | rfl | omega, .inl (by simpa using unhide HNN), unhide HBE, by simpa using unhide HBL, unhide HR2, by simpa using unhide HP2, unhide HW2⟩
                case measure => simp [intOf]
            · have HL00 := unhide HL0
              rw [← hBl] at HL00
              have HM := hide HNm
              clear HNm hBl HN
              go_wp2_with (refine wpList_appM (W0 := W0) (l := B) (xs := [x8]) (m := 1) rfl rfl (.tmp 22) (.tmp 28) rfl rfl rfl ?hm9 HL00 ?hs9 rfl (by decide) ?hk9 ?hK9)
              case hm9 => exact (unhide HM).kept ((Fr.refl _ _).alloc _)
              case hs9 => exact sr1 _ _ _ (by rw [unhide HX]; simp <;> omega)
              case hk9 => omega
              case hK9 =>
                intro ao' cap' w' hN9 hf9 hp9
                have HNN : Hid (Nb W0 w' (.slice ao' (B.length + 1) cap') (B ++ [x8])) := hide hN9
                have HFR : Hid (Fr (fun _ => False) wr w') := hide (((Fr.refl _ _).alloc _).trans hf9 (fun _ _ e => e))
                have HR2 : Hid (RdV w' (.slice (some ⟨bb, oo, none⟩) L cap) (uvs ns)) := hide ((unhide HR).kept (unhide HFR) (fun _ _ e => e))
                have HP2 : Hid (∀ b, (Value.slice (some ⟨bb, oo, none⟩) L cap).ownBlock = some b → ∀ c, (Value.slice ao' (B.length + 1) cap').ownBlock = some c → b ≠ c) := hide (fun b hb c hc => by
                  rw [hp9] at hc
                  have h1 := unhide HB2 b hb
                  have h2 := unhide HWS
                  simp at hc
                  omega)
                have HW2 : Hid (w.heap.size ≤ w'.heap.size) := hide (by have h1 := unhide HWS; have h2 := (unhide HFR).size; omega)
                clear hN9 hf9 hp9
                go_wp2_with fail
                go_roundw
                case rel => exact ⟨_, _, B ++ [x8], unhide HRK, rfl, by first | rfl | omega, .inl (by simpa using unhide HNN), unhide HBE, by simpa using unhide HBL, unhide HR2, by simpa using unhide HP2, unhide HW2⟩
                case measure => simp [intOf]
          · obtain rfl : z = 6 := by omega
            clear hz hpos hrk
            rcases unhide HN with HNb | ⟨HNm, hBl⟩
            · have HN := hide HNb
              clear HNb
              go_wp2_with (refine wpList_app rfl (.tmp 22) (.tmp 28) 23 rfl 5 inf _ 1 1 Try.underlying23 hi0 hz0 hz1 hz2 rfl (by decide) _ B.length (bvs B) rfl _ rfl 1 (bvs [x8]) ?hown ?hx ?h1 ?hb ?h63 ?hK)
              case hown => exact ((unhide HN).alloc _).own
              case hx =>
                exact sr1 _ _ _ (by rw [unhide HX]; simp <;> omega)
              case h1 => exact bvs_one _
              case hb => omega
              case h63 => simp only [maxLen]; omega
              case hK =>
                intro ao' cap' w' ho hg hpl
                have HNN : Hid (Nb W0 w' (.slice ao' (B.length + 1) cap') (B ++ [x8])) := hide (((unhide HN).alloc _).grown (x := [x8]) ho hg (by rcases hpl with e | ⟨k, e, hk⟩; exact .inl e; exact .inr ⟨k, e, by simp at hk ⊢; omega⟩))
                have HFR : Hid (Fr (fun k => (Value.slice oa B.length oc).ownBlock = some k) wr w') := hide (Fr.grown ((Fr.refl _ _).alloc _) hg (fun k _ e => e))
                have HR2 : Hid (RdV w' (.slice (some ⟨bb, oo, none⟩) L cap) (uvs ns)) := hide ((unhide HR).kept (unhide HFR) (fun b hb e => unhide HAP b hb b e rfl))
                have HP2 : Hid (∀ b, (Value.slice (some ⟨bb, oo, none⟩) L cap).ownBlock = some b → ∀ c, (Value.slice ao' (B.length + 1) cap').ownBlock = some c → b ≠ c) := hide (fun b hb c hc => by
                  rcases hpl with e | ⟨k, e, hk⟩
                  · rw [e] at hc; exact unhide HAP b hb c hc
                  · rw [e] at hc
                    have h1 := unhide HB2 b hb
                    have h2 := unhide HWS
                    simp at hc hk
                    omega)
                have HW2 : Hid (w.heap.size ≤ w'.heap.size) := hide (by have h1 := unhide HWS; have h2 := (unhide HFR).size; omega)
                clear ho hg hpl
                go_wp2_with fail
                go_roundw
                case rel => exact ⟨_, _, B ++ [x8], unhide HRK, rfl, by first | rfl | omega, .inl (by simpa using unhide HNN), unhide HBE, by simpa using unhide HBL, unhide HR2, by simpa using unhide HP2, unhide HW2⟩
                case measure => simp [intOf]
            · have HL00 := unhide HL0
              rw [← hBl] at HL00
              have HM := hide HNm
              clear HNm hBl HN
              go_wp2_with (refine wpList_appM (W0 := W0) (l := B) (xs := [x8]) (m := 1) rfl rfl (.tmp 22) (.tmp 28) rfl rfl rfl ?hm9 HL00 ?hs9 rfl (by decide) ?hk9 ?hK9)
              case hm9 => exact (unhide HM).kept ((Fr.refl _ _).alloc _)
              case hs9 => exact sr1 _ _ _ (by rw [unhide HX]; simp <;> omega)
              case hk9 => omega
              case hK9 =>
                intro ao' cap' w' hN9 hf9 hp9
                have HNN : Hid (Nb W0 w' (.slice ao' (B.length + 1) cap') (B ++ [x8])) := hide hN9
                have HFR : Hid (Fr (fun _ => False) wr w') := hide (((Fr.refl _ _).alloc _).trans hf9 (fun _ _ e => e))
                have HR2 : Hid (RdV w' (.slice (some ⟨bb, oo, none⟩) L cap) (uvs ns)) := hide ((unhide HR).kept (unhide HFR) (fun _ _ e => e))
                have HP2 : Hid (∀ b, (Value.slice (some ⟨bb, oo, none⟩) L cap).ownBlock = some b → ∀ c, (Value.slice ao' (B.length + 1) cap').ownBlock = some c → b ≠ c) := hide (fun b hb c hc => by
                  rw [hp9] at hc
                  have h1 := unhide HB2 b hb
                  have h2 := unhide HWS
                  simp at hc
                  omega)
                have HW2 : Hid (w.heap.size ≤ w'.heap.size) := hide (by have h1 := unhide HWS; have h2 := (unhide HFR).size; omega)
                clear hN9 hf9 hp9
                go_wp2_with fail
                go_roundw
                case rel => exact ⟨_, _, B ++ [x8], unhide HRK, rfl, by first | rfl | omega, .inl (by simpa using unhide HNN), unhide HBE, by simpa using unhide HBL, unhide HR2, by simpa using unhide HP2, unhide HW2⟩
                case measure => simp [intOf]
          · obtain rfl : z = 7 := by omega
            clear hz hpos hrk
            rcases unhide HN with HNb | ⟨HNm, hBl⟩
            · have HN := hide HNb
              clear HNb
              go_wp2_with (refine wpList_app rfl (.tmp 22) (.tmp 28) 23 rfl 5 inf _ 1 1 Try.underlying23 hi0 hz0 hz1 hz2 rfl (by decide) _ B.length (bvs B) rfl _ rfl 1 (bvs [x8]) ?hown ?hx ?h1 ?hb ?h63 ?hK)
              case hown => exact ((unhide HN).alloc _).own
              case hx =>
                exact sr1 _ _ _ (by rw [unhide HX]; simp <;> omega)
              case h1 => exact bvs_one _
              case hb => omega
              case h63 => simp only [maxLen]; omega
              case hK =>
                intro ao' cap' w' ho hg hpl
                have HNN : Hid (Nb W0 w' (.slice ao' (B.length + 1) cap') (B ++ [x8])) := hide (((unhide HN).alloc _).grown (x := [x8]) ho hg (by rcases hpl with e | ⟨k, e, hk⟩; exact .inl e; exact .inr ⟨k, e, by simp at hk ⊢; omega⟩))
                have HFR : Hid (Fr (fun k => (Value.slice oa B.length oc).ownBlock = some k) wr w') := hide (Fr.grown ((Fr.refl _ _).alloc _) hg (fun k _ e => e))
                have HR2 : Hid (RdV w' (.slice (some ⟨bb, oo, none⟩) L cap) (uvs ns)) := hide ((unhide HR).kept (unhide HFR) (fun b hb e => unhide HAP b hb b e rfl))
                have HP2 : Hid (∀ b, (Value.slice (some ⟨bb, oo, none⟩) L cap).ownBlock = some b → ∀ c, (Value.slice ao' (B.length + 1) cap').ownBlock = some c → b ≠ c) := hide (fun b hb c hc => by
                  rcases hpl with e | ⟨k, e, hk⟩
                  · rw [e] at hc; exact unhide HAP b hb c hc
                  · rw [e] at hc
                    have h1 := unhide HB2 b hb
                    have h2 := unhide HWS
                    simp at hc hk
                    omega)
                have HW2 : Hid (w.heap.size ≤ w'.heap.size) := hide (by have h1 := unhide HWS; have h2 := (unhide HFR).size; omega)
                clear ho hg hpl
                go_wp2_with fail
                go_roundw
                case rel => exact ⟨_, _, B ++ [x8], unhide HRK, rfl, by first | rfl | omega, .inl (by simpa using unhide HNN), unhide HBE, by simpa using unhide HBL, unhide HR2, by simpa using unhide HP2, unhide HW2⟩
                case measure => simp [intOf]
            · have HL00 := unhide HL0
              rw [← hBl] at HL00
              have HM := hide HNm
              clear HNm hBl HN
              go_wp2_with (refine wpList_appM (W0 := W0) (l := B) (xs := [x8]) (m := 1) rfl rfl (.tmp 22) (.tmp 28) rfl rfl rfl ?hm9 HL00 ?hs9 rfl (by decide) ?hk9 ?hK9)
              case hm9 => exact (unhide HM).kept ((Fr.refl _ _).alloc _)
              case hs9 => exact sr1 _ _ _ (by rw [unhide HX]; simp <;> omega)
              case hk9 => omega
              case hK9 =>
                intro ao' cap' w' hN9 hf9 hp9
                have HNN : Hid (Nb W0 w' (.slice ao' (B.length + 1) cap') (B ++ [x8])) := hide hN9
                have HFR : Hid (Fr (fun _ => False) wr w') := hide (((Fr.refl _ _).alloc _).trans hf9 (fun _ _ e => e))
                have HR2 : Hid (RdV w' (.slice (some ⟨bb, oo, none⟩) L cap) (uvs ns)) := hide ((unhide HR).kept (unhide HFR) (fun _ _ e => e))
                have HP2 : Hid (∀ b, (Value.slice (some ⟨bb, oo, none⟩) L cap).ownBlock = some b → ∀ c, (Value.slice ao' (B.length + 1) cap').ownBlock = some c → b ≠ c) := hide (fun b hb c hc => by
                  rw [hp9] at hc
                  have h1 := unhide HB2 b hb
                  have h2 := unhide HWS
                  simp at hc
                  omega)
                have HW2 : Hid (w.heap.size ≤ w'.heap.size) := hide (by have h1 := unhide HWS; have h2 := (unhide HFR).size; omega)
                clear hN9 hf9 hp9
                go_wp2_with fail
                go_roundw
                case rel => exact ⟨_, _, B ++ [x8], unhide HRK, rfl, by first | rfl | omega, .inl (by simpa using unhide HNN), unhide HBE, by simpa using unhide HBL, unhide HR2, by simpa using unhide HP2, unhide HW2⟩
                case measure => simp [intOf]
    · obtain rfl : j = L := by omega
      have HN2 : Hid (Nb W0 wr u0 (l ++ lay k ns)) := hide (by
        have := unhide HL
        rw [this, List.take_length] at hN
        refine hN.nb ?_
        have hns' := unhide HNS
        rw [List.length_append, lay_length]
        have : 0 < k * ns.length := Nat.mul_pos (by rcases hk with rfl | rfl | rfl <;> omega) hns'
        omega)
      clear hN hR hap hws
      go_wp2_with fail
      go_ret
      exact ⟨_, rfl, unhide HN2⟩
end Go.Proofs.Ytgodlfoidjeekaa

namespace Go.Proofs.Ytgodlfoidjeekaa
set_option linter.unusedVariables false
set_option linter.unusedSimpArgs false
open Go.RowKit Go.Lib
set_option linter.unusedVariables false
set_option linter.unusedSimpArgs false

attribute [local go_sem ↓] Go.wp_at_zero Go.wp_at_succ

theorem Nb.lt {W0 W : World} {v : Value} {l : List UInt8} (h : Nb W0 W v l) : ∀ k, v.ownBlock = some k → k < W.heap.size := by
  intro k hk
  rcases h.own.2 with ⟨rfl, -⟩ | ⟨g, cap, cur, rfl, -, hg, -⟩
  · simp [Value.ownBlock] at hk
  · simp [Value.ownBlock] at hk
    subst hk
    exact lt_of_heap hg
/-- A row of bytes just made. -/
theorem Nb.made (w : World) (l : List UInt8) (vs : List Value) (hv : vs = bvs l) (hl : l.length ≤ 1000000) : Nb w (w.alloc (.cells vs.toArray 5)) (.slice (some ⟨w.heap.size, 0, none⟩) l.length l.length) l := by
  subst hv
  refine ⟨⟨by rw [bvs_length]; omega, .inr ⟨w.heap.size, l.length, _, rfl, Nat.zero_le _, heap_alloc_new w _, Nat.le_refl _, by simp only [maxLen]; omega, by simp [bvs_length], ?_⟩⟩, (Fr.refl _ _).alloc _, fun k hk => by simp [Value.ownBlock] at hk; omega⟩
  simp only [Nat.mul_one]
  exact List.take_of_length_le (by rw [bvs_length]; omega)
/-- lay of numbers in a row just made. -/
theorem layN (W0 W : World) (v : Value) (l : List UInt8) (k : Nat) (kz : Int) (hkz : kz = (k : Int)) (hk : k = 2 ∨ k = 4 ∨ k = 8) (ns : List Nat) (vs : Array Value) (a m : Nat) (h : Nb W0 W v l) (ha : a = W.heap.size) (hm : m = ns.length) (hvs : vs = (uvs ns).toArray) (hn : ns.length ≤ 10) (hl : l.length ≤ 100000) (hb : ∀ n ∈ ns, n < 18446744073709551616) :
    Calls Try.prog 51 #[v, .int .i64 kz, .slice (some ⟨a, 0, none⟩) m m] (W.alloc (.cells vs 22)) fun e w' => ∃ v', e = .returned v' ∧ Nb W0 w' v' (l ++ lay k ns) := by
  subst ha hvs hkz
  have hul : (uvs ns).length = ns.length := by simp [uvs]
  have hu := rdv_new W (uvs ns) 22 (by rw [hul]; omega)
  rw [hul, ← hm] at hu
  refine lay_any W0 _ v l k _ ns (h.alloc _) hk hu (fun b hb' c hc => ?_) (fun b hb' => ?_) hn hl hb
  · have := h.lt c hc
    simp [Value.ownBlock] at hb'
    omega
  · simp [Value.ownBlock] at hb'
    simp
    omega
theorem wl_copy {w : World} {ops : Array Oper} {rest : List Oper} {o : Oper} {a : Act} {Q : Exit → Act → World → Prop} (hgd : o.guard = none) (s x : Operand)
    (ho : o.op = .call { callee := .builtin .copy, args := #[s, x], argTypes := #[23, 23] }) (hty : o.type = 3)
    (g of dLen dCap : Nat) (dao : Option Addr) (A : List UInt8) (xv : Value) (cs : List UInt8) (hs : a.eval s = .slice dao dLen dCap) (hxv : a.eval x = xv) (hd : 0 < dLen → dao = some ⟨g, of, none⟩) (hA : BAt w g A) (hx : Rd w xv cs) (hfit : of + dLen ≤ A.length) (R : List UInt8) (hR : A.take of ++ cs.take dLen ++ A.drop (of + min cs.length dLen) = R)
    (h : ∀ w', BAt w' g R → Fr (fun b => b = g) w w' → wpList Try.prog ops Q rest (a.put o.dst (.int .i64 ((min cs.length dLen : Nat) : Int))) w') : wpList Try.prog ops Q (o :: rest) a w :=
  wpList_plain hgd fun _ hK => wp_copy s x ho hty g of dLen dCap dao A xv cs hs hxv hd hA hx hfit fun w' h1 h2 => hK _ _ (h w' (hR ▸ h1) h2)
theorem Nm.lt {W0 W : World} {v : Value} {l : List UInt8} (h : Nm W0 W v l) : ∀ k, v.ownBlock = some k → k < W.heap.size := by
  intro k hk
  obtain ⟨g, rfl, -, hg⟩ := h.sh
  simp [Value.ownBlock] at hk
  omega
/-- lay of numbers in a row just made, behind a constant. -/
theorem layNM (W0 W : World) (v : Value) (l : List UInt8) (k : Nat) (kz : Int) (hkz : kz = (k : Int)) (hk : k = 2 ∨ k = 4 ∨ k = 8) (ns : List Nat) (vs : Array Value) (a m : Nat) (h : Nm W0 W v l) (ha : a = W.heap.size) (hm : m = ns.length) (hvs : vs = (uvs ns).toArray) (hn : ns.length ≤ 10) (hl : l.length ≤ 1000) (hb : ∀ n ∈ ns, n < 18446744073709551616) (hn0 : 0 < ns.length) (hl0 : 0 < l.length) :
    Calls Try.prog 51 #[v, .int .i64 kz, .slice (some ⟨a, 0, none⟩) m m] (W.alloc (.cells vs 22)) fun e w' => ∃ v', e = .returned v' ∧ Nb W0 w' v' (l ++ lay k ns) := by
  subst ha hvs hkz
  have hul : (uvs ns).length = ns.length := by simp [uvs]
  have hu := rdv_new W (uvs ns) 22 (by rw [hul]; omega)
  rw [hul, ← hm] at hu
  refine lay_anyM W0 _ v l k _ ns (h.kept ((Fr.refl _ _).alloc _)) hn0 hl0 hk hu (fun b hb' c hc => ?_) (fun b hb' => ?_) hn hl hb
  · have := h.lt c hc
    simp [Value.ownBlock] at hb'
    omega
  · simp [Value.ownBlock] at hb'
    simp
    omega
/-- The bytes of an entry. -/
def enB (b s p l pt ps n : Nat) (L : List UInt8) : List UInt8 := [74, 76, 79, 71] ++ lay 8 [b, s, p, l] ++ lay 2 [pt, ps, n] ++ List.replicate 6 0 ++ L ++ List.replicate (336 - L.length) 0
theorem enB_length {b s p l pt ps n : Nat} {L : List UInt8} (h : L.length ≤ 336) : (enB b s p l pt ps n L).length = 384 := by
  unfold enB
  simp only [List.length_append, lay_length, List.length_replicate, List.length_cons, List.length_nil]
  omega
theorem en_copy1 {H : List UInt8} (h : H.length = 42) : (List.replicate 384 (0 : UInt8)).take 0 ++ H.take 384 ++ (List.replicate 384 (0 : UInt8)).drop (0 + min H.length 384) = H ++ List.replicate 342 0 := by
  rw [List.take_of_length_le (l := H) (by omega), List.drop_replicate, h, List.take_zero, List.nil_append]
  congr 1
theorem en_copy2 {H L : List UInt8} (h : H.length = 42) (hL : L.length ≤ 336) : (H ++ List.replicate 342 (0 : UInt8)).take 48 ++ L.take 336 ++ (H ++ List.replicate 342 (0 : UInt8)).drop (48 + min L.length 336) = H ++ List.replicate 6 0 ++ L ++ List.replicate (336 - L.length) 0 := by
  rw [List.take_of_length_le (l := L) (by omega), List.take_append, List.drop_append, List.take_replicate, List.drop_replicate, h, List.take_of_length_le (by omega), List.drop_of_length_le (by omega)]
  rw [show min (48 - 42) 342 = 6 by decide, show 342 - (48 + min L.length 336 - 42) = 336 - L.length by omega]
  simp
set_option maxRecDepth 100000 in
set_option maxHeartbeats 4000000 in
theorem putEntry_no (w : World) (b s p l : Nat) (pt ps : Int) (ao : Option Addr) (n cap : Nat) (h : cbB b s p l pt ps n = false) : Calls Try.prog 11 #[.agg #[.int .u64 (b : Int), .int .u64 (s : Int), .int .u64 (p : Int), .int .u64 (l : Int), .int .i64 pt, .int .i64 ps, .slice ao n cap]] w fun e w' => e = .returned (.tuple #[.slice none 0 0, .int .i64 81]) ∧ Fr (fun _ => False) w w' := by
  have HB := hide h
  clear h
  go_enter Try.func11, Try.ntmps11
  go_wp2_with fail
  refine (canBe_any _ b s p l pt ps ao n cap).mono ?_
  rintro e w1 ⟨rfl, f1⟩
  rw [unhide HB]
  have F1 := hide (((Fr.refl (fun _ => False) w).alloc _).trans f1 (fun _ _ h => h))
  clear f1
  go_wp2_with fail
  go_ret2
  exact ⟨rfl, unhide F1⟩
set_option maxRecDepth 100000 in
set_option maxHeartbeats 8000000 in
theorem putEntry_ok (w : World) (b s p l pt ps : Nat) (ao : Option Addr) (n cap : Nat) (L : List UInt8) (hL : Rd w (.slice ao n cap) L) (hn : n = L.length) (h : cbB b s p l pt ps n = true) : Calls Try.prog 11 #[.agg #[.int .u64 (b : Int), .int .u64 (s : Int), .int .u64 (p : Int), .int .u64 (l : Int), .int .i64 (pt : Int), .int .i64 (ps : Int), .slice ao n cap]] w fun e w' => ∃ g, e = .returned (.tuple #[.slice (some ⟨g, 0, none⟩) 384 384, .int .i64 0]) ∧ BAt w' g (enB b s p l pt ps n L) ∧ w.heap.size ≤ g ∧ Fr (fun _ => False) w w' := by
  have HB := hide h
  have HL := hide hL
  have hc : (b ≤ 4611686018427387904 ∧ s ≤ 4611686018427387904 ∧ p ≤ 4611686018427387904 ∧ l ≤ 4611686018427387904) ∧ ps ≤ 100 ∧ pt < ps ∧ 1 ≤ n ∧ n ≤ 336 := by
    unfold cbB wiB at h
    simp at h
    omega
  obtain ⟨⟨hb1, hb2, hb3, hb4⟩, hps, hpt, hn1, hn2⟩ := hc
  have HN := hide hn
  have HBD := hide (show (b < 18446744073709551616 ∧ s < 18446744073709551616 ∧ p < 18446744073709551616 ∧ l < 18446744073709551616) by omega)
  clear h hL hn hb1 hb2 hb3 hb4
  go_enter Try.func11, Try.ntmps11
  go_wp2_with fail
  refine (canBe_any _ b s p l pt ps ao n cap).mono ?_
  rintro e w1 ⟨rfl, f1⟩
  rw [unhide HB]
  have hb0 := (f1.block _ (lt_of_heap (heap_alloc_new w _)) id).trans (heap_alloc_new w (.cells #[.int .u64 (b : Int), .int .u64 (s : Int), .int .u64 (p : Int), .int .u64 (l : Int), .int .i64 (pt : Int), .int .i64 (ps : Int), .slice ao n cap] 25))
  have F1 := hide (((Fr.refl (fun _ => False) w).alloc _).trans f1 (fun _ _ h => h))
  have HX := hide (show ∀ W, Fr (fun _ => False) w1 W → w.heap.size < W.heap.size ∧ W.cell? ⟨w.heap.size, 0, none⟩ = some (.int .u64 (b : Int)) ∧ W.cell? ⟨w.heap.size, 1, none⟩ = some (.int .u64 (s : Int)) ∧ W.cell? ⟨w.heap.size, 2, none⟩ = some (.int .u64 (p : Int)) ∧ W.cell? ⟨w.heap.size, 3, none⟩ = some (.int .u64 (l : Int)) ∧ W.cell? ⟨w.heap.size, 4, none⟩ = some (.int .i64 (pt : Int)) ∧ W.cell? ⟨w.heap.size, 5, none⟩ = some (.int .i64 (ps : Int)) ∧ W.cell? ⟨w.heap.size, 6, none⟩ = some (.slice ao n cap) from fun W f => by
    have h := (f.block _ (lt_of_heap hb0) id).trans hb0
    refine ⟨lt_of_heap h, ?_, ?_, ?_, ?_, ?_, ?_, ?_⟩ <;> (rw [cell_of_heap h]; rfl))
  obtain ⟨lx, x0, x1, x2, x3, x4, x5, x6⟩ := unhide HX w1 (Fr.refl _ _)
  have HW0 := hide F1
  clear f1 hb0
  obtain ⟨px, hpx⟩ : ∃ px, px = w.heap.size := ⟨_, rfl⟩
  rw [← hpx] at HX lx x0 x1 x2 x3 x4 x5 x6 ⊢
  have HPX := hide hpx
  clear hpx
  have kc := run_convert_bytes_const (P := Try.prog) w1 23 5 #[.int .u8 74, .int .u8 76, .int .u8 79, .int .u8 71] 4 4 Try.underlying23 Try.underlying5
  obtain ⟨W2, hW2⟩ : ∃ W2, W2 = w1.alloc (.cells #[.int .u8 74, .int .u8 76, .int .u8 79, .int .u8 71] 5 ((#[.int .u8 74, .int .u8 76, .int .u8 79, .int .u8 71] : Array Value).size, (#[.int .u8 74, .int .u8 76, .int .u8 79, .int .u8 71] : Array Value).size + 1)) := ⟨_, rfl⟩
  rw [← hW2] at kc
  have FW2 : Fr (fun _ => False) w1 W2 := by rw [hW2]; exact (Fr.refl _ _).alloc _
  have HM : Hid (Nm w1 W2 (.slice (some ⟨w1.heap.size, 0, none⟩) 4 4) [74, 76, 79, 71]) := hide (by
    have h9 := nm_const w1 w1 (Fr.refl _ _) [74, 76, 79, 71] ((#[.int .u8 74, .int .u8 76, .int .u8 79, .int .u8 71] : Array Value).size, (#[.int .u8 74, .int .u8 76, .int .u8 79, .int .u8 71] : Array Value).size + 1) _ rfl (by simp)
    rw [hW2]; exact h9)
  obtain ⟨lx', x0, x1, x2, x3, x4, x5, x6⟩ := unhide HX W2 FW2
  have hsz : w1.heap.size < W2.heap.size := by rw [hW2]; simp
  clear hW2 FW2 lx
  go_wp2_with fail
  refine Calls.mono (layNM w1 W2 _ [74, 76, 79, 71] 8 8 rfl (.inr (.inr rfl)) [b, s, p, l] _ _ _ (unhide HM) ?ha rfl rfl (by simp) (by simp) ?hb (by simp) (by simp)) ?_
  case ha => rfl
  case hb => have := unhide HBD; simp; omega
  rintro e w2 ⟨v2, rfl, hv2⟩
  have hl1 : ([74, 76, 79, 71] ++ lay 8 [b, s, p, l] : List UInt8).length = 36 := by simp [lay_length]
  generalize hH1 : ([74, 76, 79, 71] ++ lay 8 [b, s, p, l] : List UInt8) = H1 at *
  obtain ⟨o2, c2, rfl⟩ := hv2.shape
  rw [hl1] at hv2 ⊢
  obtain ⟨lx2, x0, x1, x2, x3, x4, x5, x6⟩ := unhide HX w2 hv2.fr
  have HV2 := hide hv2
  have HH1 := hide hH1
  have HL1 := hide hl1
  clear hv2 hH1 hl1 HM kc lx' hsz
  go_wp2_with fail
  refine Calls.mono (layN w1 w2 _ H1 2 2 rfl (.inl rfl) [pt, ps, n] _ _ _ (unhide HV2) ?ha2 rfl rfl (by simp) (by rw [unhide HL1]; omega) ?hb2) ?_
  case ha2 => rfl
  case hb2 => simp; omega
  rintro e w3 ⟨v3, rfl, hv3⟩
  have hl2 : (H1 ++ lay 2 [pt, ps, n]).length = 42 := by simp [lay_length, unhide HL1]
  obtain ⟨H2, hH2⟩ : ∃ H2, H2 = H1 ++ lay 2 [pt, ps, n] := ⟨_, rfl⟩
  rw [← hH2] at hv3 hl2
  obtain ⟨o3, c3, rfl⟩ := hv3.shape
  rw [hl2] at hv3 ⊢
  obtain ⟨lx3, x0, x1, x2, x3, x4, x5, x6⟩ := unhide HX w3 hv3.fr
  have kmk : (Instr.makeSlice 23 (.int .i64 384) (.int .i64 384)).run Try.prog w3 = .ok (.slice (some ⟨w3.heap.size, 0, none⟩) 384 384) (w3.alloc (.cells (bvs (List.replicate 384 0)).toArray 5)) := run_make5 384 (by omega) w3
  have hz : BAt (w3.alloc (.cells (bvs (List.replicate 384 0)).toArray 5)) w3.heap.size (List.replicate 384 0) := bat_new w3 _
  have FZ : Fr (fun _ => False) w3 (w3.alloc (.cells (bvs (List.replicate 384 0)).toArray 5)) := (Fr.refl _ _).alloc _
  have hsz : w3.heap.size < (w3.alloc (.cells (bvs (List.replicate 384 0)).toArray 5)).heap.size := by simp
  have HV3 := hide hv3
  have HH2 := hide hH2
  have HL2 := hide hl2
  generalize w3.alloc (.cells (bvs (List.replicate 384 0)).toArray 5) = w4 at *
  have HZ := hide hz
  have HFZ := hide FZ
  clear hv3 hH2 hl2 hz FZ HV2 lx2
  obtain ⟨Z, hZ⟩ : ∃ Z, Z = List.replicate 384 (0 : UInt8) := ⟨_, rfl⟩
  obtain ⟨H3, hH3⟩ : ∃ H3, H3 = H2 ++ List.replicate 342 (0 : UInt8) := ⟨_, rfl⟩
  rw [← hZ] at HZ
  have HR3 := hide (show Z.take 0 ++ H2.take 384 ++ Z.drop (0 + min H2.length 384) = H3 by rw [hZ, hH3]; exact en_copy1 (unhide HL2))
  have HZL := hide (show Z.length = 384 by rw [hZ, List.length_replicate])
  have HH3 := hide hH3
  clear hZ hH3
  go_wp2_with (refine wl_copy rfl (.tmp 35) (.tmp 36) rfl rfl w3.heap.size 0 384 384 _ Z _ H2 rfl rfl (fun _ => rfl) ?hA ?hx ?hf H3 ?hR ?hK)
  case hA => exact unhide HZ
  case hR => exact unhide HR3
  case hx => exact (unhide HV3).rd.kept (unhide HFZ) (fun _ _ h => h)
  case hf => rw [unhide HZL]; omega
  intro w5 hB5 f5
  have FW35 : Fr (fun _ => False) w3 w5 := (unhide HFZ).trans f5 (fun k hk e => by subst e; omega)
  have F15 : Fr (fun _ => False) w1 w5 := (unhide HV3).fr.trans FW35 (fun _ _ h => h)
  obtain ⟨lx5, x0, x1, x2, x3, x4, x5, x6⟩ := unhide HX w5 F15
  have HRL := hide ((unhide HL).kept ((unhide F1).trans F15 (fun _ _ h => h)) (fun _ _ h => h))
  have HB5 := hide hB5
  have HF15 := hide F15
  have hge : w1.heap.size ≤ w3.heap.size := (unhide HV3).fr.size
  have l5 := lt_of_heap hB5
  generalize w3.heap.size = g at *
  clear hB5 f5 FW35 F15 HZ HFZ HV3 kmk hsz lx3
  go_wp2_with fail
  refine wp_region_quietTail 4 (by kernel_rfl) (by kernel_rfl) ?_
  simp only [List.take_succ_cons, List.take_zero]
  repeat (go_big_quiet_step (fail))
  refine wpQuiet_nil ?_
  intro _ hw'
  obtain ⟨nq, hw''⟩ := hw'
  subst hw''
  simp only [List.drop_succ_cons, List.drop_zero]
  refine wl_copy rfl (.tmp 39) (.tmp 41) rfl rfl g 48 336 336 _ H3 _ L rfl rfl (fun _ => rfl) ?hA2 ?hx2 ?hf2 (enB b s p l pt ps n L) ?hR2 ?hK2
  case hA2 => exact (unhide HB5).kept (Fr.ofDrewN (S := fun _ => False) w5 nq) id
  case hx2 => exact (unhide HRL).kept (Fr.ofDrewN (S := fun _ => False) w5 nq) (fun _ _ h => h)
  case hf2 => rw [unhide HH3, List.length_append, unhide HL2, List.length_replicate]; omega
  case hR2 =>
    rw [unhide HH3, en_copy2 (unhide HL2) (by have := unhide HN; omega), unhide HH2, ← unhide HH1]
    rfl
  intro w6 hB6 f6
  have HB6 := hide hB6
  have HF6 := hide (((unhide F1).trans ((unhide HF15).drewN nq) (fun _ _ h => h)).trans f6 (fun k hk e => by
    have := (unhide F1).size
    subst e
    omega))
  have hgw := (unhide F1).size
  clear hB6 f6
  go_wp2_with fail
  go_ret2
  exact ⟨g, rfl, unhide HB6, by omega, unhide HF6⟩
end Go.Proofs.Ytgodlfoidjeekaa

namespace Go.Proofs.Ytgodlfoidjeekaa
set_option linter.unusedVariables false
set_option linter.unusedSimpArgs false
open Go.RowKit Go.Lib
set_option linter.unusedVariables false
set_option linter.unusedSimpArgs false

attribute [local go_sem ↓] Go.wp_at_zero Go.wp_at_succ

/-- Whether a superblock can be one. -/
def sbB (g b p l x y : Nat) : Bool := decide (0 < g) && decide (0 < b) && wiB [g, b, p, l, x, y]
/-- The bytes of a superblock. -/
def suB (g b p l x y : Nat) : List UInt8 := [74, 83, 85, 80] ++ lay 8 [g, b, p, l, x, y] ++ List.replicate 332 0
theorem suB_length (g b p l x y : Nat) : (suB g b p l x y).length = 384 := by
  unfold suB
  simp only [List.length_append, lay_length, List.length_replicate, List.length_cons, List.length_nil]
theorem su_copy {H : List UInt8} (h : H.length = 52) : (List.replicate 384 (0 : UInt8)).take 0 ++ H.take 384 ++ (List.replicate 384 (0 : UInt8)).drop (0 + min H.length 384) = H ++ List.replicate 332 0 := by
  rw [List.take_of_length_le (l := H) (by omega), List.drop_replicate, h, List.take_zero, List.nil_append]
  congr 1
theorem rdv_blk {W : World} {a : Nat} {t : TypeId} {ns : List Nat} {cs : Array Value} (h : W.heap[a]? = some (.cells cs t (0, 0))) (hc : cs = (uvs ns).toArray) (hl : ns.length ≤ 100000) (m : Nat) (hm : m = ns.length) : RdV W (.slice (some ⟨a, 0, none⟩) m m) (uvs ns) := by
  subst hc hm
  exact .inr ⟨⟨a, 0, none⟩, ns.length, by simp [uvs], by simp [uvs], by simp only [maxLen]; omega, fun j hj => by
    have hj' : j < ns.length := by simpa [uvs] using hj
    rw [Addr.add_lit, Nat.zero_add, cell_of_heap h j]; simp [uvs, hj']⟩
set_option maxRecDepth 100000 in
set_option maxHeartbeats 8000000 in
theorem putSuper_no (w : World) (g b p l x y : Nat) (h : sbB g b p l x y = false) : Calls Try.prog 13 #[.agg #[.int .u64 (g : Int), .int .u64 (b : Int), .int .u64 (p : Int), .int .u64 (l : Int), .int .u64 (x : Int), .int .u64 (y : Int)]] w fun e w' => e = .returned (.tuple #[.slice none 0 0, .int .i64 81]) ∧ Fr (fun _ => False) w w' := by
  obtain ⟨V, hV⟩ : ∃ V, wiB [g, b, p, l, x, y] = V := ⟨_, rfl⟩
  have HV := hide hV
  have HS := hide h
  clear h hV
  have T := heap_alloc_new (w.alloc (.cells #[.int .u64 (g : Int), .int .u64 (b : Int), .int .u64 (p : Int), .int .u64 (l : Int), .int .u64 (x : Int), .int .u64 (y : Int)] 27)) (.cells #[.int .u64 (g : Int), .int .u64 (b : Int), .int .u64 (p : Int), .int .u64 (l : Int), .int .u64 (x : Int), .int .u64 (y : Int)] 99)
  have e1 : (w.alloc (.cells #[.int .u64 (g : Int), .int .u64 (b : Int), .int .u64 (p : Int), .int .u64 (l : Int), .int .u64 (x : Int), .int .u64 (y : Int)] 27)).heap.size = w.heap.size + 1 := by simp
  rw [e1] at T
  have HC := hide (fun W (hW : W = (w.alloc (.cells #[.int .u64 (g : Int), .int .u64 (b : Int), .int .u64 (p : Int), .int .u64 (l : Int), .int .u64 (x : Int), .int .u64 (y : Int)] 27)).alloc (.cells #[.int .u64 (g : Int), .int .u64 (b : Int), .int .u64 (p : Int), .int .u64 (l : Int), .int .u64 (x : Int), .int .u64 (y : Int)] 99)) => within_any W (.slice (some ⟨w.heap.size + 1, 0, none⟩) 6 6) [g, b, p, l, x, y] (by subst hW; exact rdv_blk T rfl (by simp) 6 rfl) (by simp))
  clear T e1
  by_cases hg : g = 0
  · subst hg
    clear HS
    go_enter Try.func13, Try.ntmps13
    go_wp2_with (go_at_call 54; refine (unhide HC _ rfl).mono ?_; rintro e w' ⟨rfl, rfl⟩; rw [unhide HV])
    go_ret2
    exact ⟨rfl, by repeat' (first | exact Fr.refl _ _ | apply Fr.alloc)⟩
  · have d1 : ((g : Int) == 0) = false := by simp; omega
    by_cases hb : b = 0
    · subst hb
      clear HS hg
      go_enter Try.func13, Try.ntmps13
      go_wp2_with (go_at_call 54; refine (unhide HC _ rfl).mono ?_; rintro e w' ⟨rfl, rfl⟩; rw [unhide HV])
      go_ret2
      exact ⟨rfl, by repeat' (first | exact Fr.refl _ _ | apply Fr.alloc)⟩
    · have d2 : ((b : Int) == 0) = false := by simp; omega
      obtain rfl : V = false := by
        have h1 := unhide HS
        have h2 := unhide HV
        unfold sbB at h1
        rw [h2] at h1
        simpa [show 0 < g by omega, show 0 < b by omega] using h1
      clear HS hg hb
      go_enter Try.func13, Try.ntmps13
      go_wp2_with (go_at_call 54; refine (unhide HC _ rfl).mono ?_; rintro e w' ⟨rfl, rfl⟩; rw [unhide HV])
      go_ret2
      exact ⟨rfl, by repeat' (first | exact Fr.refl _ _ | apply Fr.alloc)⟩
set_option maxRecDepth 100000 in
set_option maxHeartbeats 8000000 in
theorem putSuper_ok (w : World) (g b p l x y : Nat) (h : sbB g b p l x y = true) : Calls Try.prog 13 #[.agg #[.int .u64 (g : Int), .int .u64 (b : Int), .int .u64 (p : Int), .int .u64 (l : Int), .int .u64 (x : Int), .int .u64 (y : Int)]] w fun e w' => ∃ q, e = .returned (.tuple #[.slice (some ⟨q, 0, none⟩) 384 384, .int .i64 0]) ∧ BAt w' q (suB g b p l x y) ∧ w.heap.size ≤ q ∧ Fr (fun _ => False) w w' := by
  have hh : (0 < g ∧ 0 < b) ∧ wiB [g, b, p, l, x, y] = true := by unfold sbB at h; simpa using h
  obtain ⟨⟨hg, hb⟩, hw⟩ := hh
  have HBD : Hid (∀ n ∈ [g, b, p, l, x, y], n < 18446744073709551616) := hide (fun n hn => by
    unfold wiB at hw
    rw [List.all_eq_true] at hw
    have := hw n hn
    simp at this
    omega)
  have HV := hide hw
  clear h hw
  have T := heap_alloc_new (w.alloc (.cells #[.int .u64 (g : Int), .int .u64 (b : Int), .int .u64 (p : Int), .int .u64 (l : Int), .int .u64 (x : Int), .int .u64 (y : Int)] 27)) (.cells #[.int .u64 (g : Int), .int .u64 (b : Int), .int .u64 (p : Int), .int .u64 (l : Int), .int .u64 (x : Int), .int .u64 (y : Int)] 99)
  have e1 : (w.alloc (.cells #[.int .u64 (g : Int), .int .u64 (b : Int), .int .u64 (p : Int), .int .u64 (l : Int), .int .u64 (x : Int), .int .u64 (y : Int)] 27)).heap.size = w.heap.size + 1 := by simp
  rw [e1] at T
  have HC := hide (fun W (hW : W = (w.alloc (.cells #[.int .u64 (g : Int), .int .u64 (b : Int), .int .u64 (p : Int), .int .u64 (l : Int), .int .u64 (x : Int), .int .u64 (y : Int)] 27)).alloc (.cells #[.int .u64 (g : Int), .int .u64 (b : Int), .int .u64 (p : Int), .int .u64 (l : Int), .int .u64 (x : Int), .int .u64 (y : Int)] 99)) => within_any W (.slice (some ⟨w.heap.size + 1, 0, none⟩) 6 6) [g, b, p, l, x, y] (by subst hW; exact rdv_blk T rfl (by simp) 6 rfl) (by simp))
  have hu : RdV ((w.alloc (.cells #[.int .u64 (g : Int), .int .u64 (b : Int), .int .u64 (p : Int), .int .u64 (l : Int), .int .u64 (x : Int), .int .u64 (y : Int)] 27)).alloc (.cells #[.int .u64 (g : Int), .int .u64 (b : Int), .int .u64 (p : Int), .int .u64 (l : Int), .int .u64 (x : Int), .int .u64 (y : Int)] 99)) (.slice (some ⟨w.heap.size + 1, 0, none⟩) 6 6) (uvs [g, b, p, l, x, y]) := rdv_blk T rfl (by simp) 6 rfl
  have HU := hide hu
  have F1 := hide (((Fr.refl (fun _ => False) w).alloc (.cells #[.int .u64 (g : Int), .int .u64 (b : Int), .int .u64 (p : Int), .int .u64 (l : Int), .int .u64 (x : Int), .int .u64 (y : Int)] 27)).alloc (.cells #[.int .u64 (g : Int), .int .u64 (b : Int), .int .u64 (p : Int), .int .u64 (l : Int), .int .u64 (x : Int), .int .u64 (y : Int)] 99))
  clear T e1 hu
  have d1 : ((g : Int) == 0) = false := by simp; omega
  have d2 : ((b : Int) == 0) = false := by simp; omega
  go_enter Try.func13, Try.ntmps13
  go_upto_region 4 with (go_at_call 54; refine (unhide HC _ rfl).mono ?_; rintro e w' ⟨rfl, rfl⟩; rw [unhide HV])
  have hsz1 : w.heap.size + 1 < ((w.alloc (.cells #[.int .u64 (g : Int), .int .u64 (b : Int), .int .u64 (p : Int), .int .u64 (l : Int), .int .u64 (x : Int), .int .u64 (y : Int)] 27)).alloc (.cells #[.int .u64 (g : Int), .int .u64 (b : Int), .int .u64 (p : Int), .int .u64 (l : Int), .int .u64 (x : Int), .int .u64 (y : Int)] 99)).heap.size := by simp
  generalize (w.alloc (.cells #[.int .u64 (g : Int), .int .u64 (b : Int), .int .u64 (p : Int), .int .u64 (l : Int), .int .u64 (x : Int), .int .u64 (y : Int)] 27)).alloc (.cells #[.int .u64 (g : Int), .int .u64 (b : Int), .int .u64 (p : Int), .int .u64 (l : Int), .int .u64 (x : Int), .int .u64 (y : Int)] 99) = w1 at *
  have hgw := (unhide F1).size
  generalize w.heap.size + 1 = pa at *
  have kmk : (Instr.makeSlice 23 (.int .i64 384) (.int .i64 384)).run Try.prog w1 = .ok (.slice (some ⟨w1.heap.size, 0, none⟩) 384 384) (w1.alloc (.cells (bvs (List.replicate 384 0)).toArray 5)) := run_make5 384 (by omega) w1
  obtain ⟨Z, hZ⟩ : ∃ Z, Z = List.replicate 384 (0 : UInt8) := ⟨_, rfl⟩
  rw [← hZ] at kmk
  have HZ := hide (show BAt (w1.alloc (.cells (bvs Z).toArray 5)) w1.heap.size Z from bat_new w1 _)
  have F2 := hide ((Fr.refl (fun _ => False) w1).alloc (.cells (bvs Z).toArray 5))
  have hsz2 : w1.heap.size < (w1.alloc (.cells (bvs Z).toArray 5)).heap.size := by simp
  generalize w1.alloc (.cells (bvs Z).toArray 5) = w2 at *
  have HZZ := hide hZ
  have kc := run_convert_bytes_const (P := Try.prog) w2 23 5 #[.int .u8 74, .int .u8 83, .int .u8 85, .int .u8 80] 4 4 Try.underlying23 Try.underlying5
  obtain ⟨W2, hW2⟩ : ∃ W2, W2 = w2.alloc (.cells #[.int .u8 74, .int .u8 83, .int .u8 85, .int .u8 80] 5 ((#[.int .u8 74, .int .u8 83, .int .u8 85, .int .u8 80] : Array Value).size, (#[.int .u8 74, .int .u8 83, .int .u8 85, .int .u8 80] : Array Value).size + 1)) := ⟨_, rfl⟩
  rw [← hW2] at kc
  have FW2 : Fr (fun _ => False) w2 W2 := by rw [hW2]; exact (Fr.refl _ _).alloc _
  have HM : Hid (Nm w2 W2 (.slice (some ⟨w2.heap.size, 0, none⟩) 4 4) [74, 83, 85, 80]) := hide (by
    have h9 := nm_const w2 w2 (Fr.refl _ _) [74, 83, 85, 80] ((#[.int .u8 74, .int .u8 83, .int .u8 85, .int .u8 80] : Array Value).size, (#[.int .u8 74, .int .u8 83, .int .u8 85, .int .u8 80] : Array Value).size + 1) _ rfl (by simp)
    rw [hW2]; exact h9)
  have hszW : w2.heap.size < W2.heap.size := by rw [hW2]; simp
  have F12 := hide ((unhide F2).trans FW2 (fun _ _ h => h))
  have FWH := hide FW2
  clear hW2 FW2 hZ HC
  go_wp2_with fail
  refine Calls.mono (lay_anyM w2 W2 _ [74, 83, 85, 80] 8 _ [g, b, p, l, x, y] (unhide HM) (by simp) (by simp) (.inr (.inr rfl)) ((unhide HU).kept (unhide F12) (fun _ _ h => h)) ?hub ?hub2 (by simp) (by simp) (unhide HBD)) ?_
  case hub => intro b1 hb1 c1 hc1; simp [Value.ownBlock] at hb1 hc1; omega
  case hub2 => intro b1 hb1; simp [Value.ownBlock] at hb1; omega
  rintro e w3 ⟨v3, rfl, hv3⟩
  have hl3 : ([74, 83, 85, 80] ++ lay 8 [g, b, p, l, x, y] : List UInt8).length = 52 := by simp [lay_length]
  obtain ⟨H2, hH2⟩ : ∃ H2, H2 = ([74, 83, 85, 80] ++ lay 8 [g, b, p, l, x, y] : List UInt8) := ⟨_, rfl⟩
  rw [← hH2] at hv3 hl3
  obtain ⟨o3, c3, rfl⟩ := hv3.shape
  rw [hl3] at hv3 ⊢
  have HV3 := hide hv3
  have HL2 := hide hl3
  have HR3 := hide (show Z.take 0 ++ H2.take 384 ++ Z.drop (0 + min H2.length 384) = suB g b p l x y by rw [unhide HZZ, su_copy hl3, hH2]; rfl)
  have HZL := hide (show Z.length = 384 by rw [unhide HZZ, List.length_replicate])
  have F23 := hide hv3.fr
  clear hv3 hl3 hH2 kmk kc HM HU
  go_wp2_with (refine wl_copy rfl (.tmp 33) (.tmp 37) rfl rfl w1.heap.size 0 384 384 _ Z _ H2 rfl rfl (fun _ => rfl) ?hA ?hx ?hf (suB g b p l x y) ?hR ?hK)
  case hA => exact (unhide HZ).kept (unhide F23) id
  case hR => exact unhide HR3
  case hx => exact (unhide HV3).rd
  case hf => rw [unhide HZL]; omega
  intro w5 hB5 f5
  have HB5 := hide hB5
  have HF5 := hide (((unhide F1).trans ((unhide F2).trans (unhide F23) (fun _ _ h => h)) (fun _ _ h => h)).trans f5 (fun k hk e => by
    subst e
    omega))
  clear hB5 f5
  go_wp2_with fail
  go_ret2
  exact ⟨w1.heap.size, rfl, unhide HB5, by omega, unhide HF5⟩
end Go.Proofs.Ytgodlfoidjeekaa

namespace Go.Proofs.Ytgodlfoidjeekaa
set_option linter.unusedVariables false
set_option linter.unusedSimpArgs false
open Go.RowKit
set_option linter.unusedVariables false
set_option linter.unusedSimpArgs false

attribute [local go_sem ↓] Go.wp_at_zero Go.wp_at_succ

theorem Fr.setRow_one {S : Nat → Prop} (w : World) {n : Nat} (cs : Array Value) (h : S n) : Fr S w (w.setRow n cs) :=
  ⟨rfl, rfl, rfl, by simp, fun j _ hj => setRow_other w n j _ (fun e => hj (by rw [e]; exact h))⟩
theorem setRow_at {w : World} {n : Nat} {cs : Array Value} {t : TypeId} (h : w.heap[n]? = some (.cells cs t (0, 0))) (z : Array Value) : (w.setRow n z).heap[n]? = some (.cells z t (0, 0)) := setRow_heap w n cs z t (0, 0) h
theorem Sh.of {w : World} {b t n : Nat} {cs : Array Value} (h : w.heap[b]? = some (.cells cs t (0, 0))) (hn : cs.size = n) : Sh w b t n := ⟨cs, h, hn⟩
theorem Sh.row {w : World} {b t n : Nat} (h : Sh w b t n) : (row? w b).map Array.size = some n := by
  obtain ⟨cs, h1, h2⟩ := h
  unfold row?; rw [h1]; simp [h2]
theorem RS.setRow {N : Nat} {w : World} {g t k : Nat} {c : Array Value} (hN : N ≤ g) (hs : Sh w g t k) (hc : c.size = k) : RS N w (w.setRow g c) := by
  refine ⟨Fr.setRow_one w c hN, fun b s n hb => ?_⟩
  obtain ⟨cs, h1, h2⟩ := hb
  obtain ⟨ds, h3, h4⟩ := hs
  by_cases e : b = g
  · subst e
    rw [h1] at h3
    simp at h3
    obtain ⟨rfl, rfl⟩ := h3
    exact ⟨c, setRow_at h1 c, by omega⟩
  · exact ⟨cs, (setRow_other w g b c e).trans h1, h2⟩
section
variable {ρ : Operand → Value} {o : Oper} {w : World} {x y : Operand} {b : Nat}
theorem x_storeR (ty k : Nat) (hi : (Try.prog.info? ty).map (·.size) = some k) {t : Nat} {c : Array Value} (ho : o.op = .store ty x y) (hx : ρ x = .pointer (some ⟨b, 0, none⟩)) (hy : ρ y = .agg c) (hc : c.size = k) (h1 : c.all (·.oneCell') = true) (hs : Sh w b t k) : (execOp ρ o).run Try.prog w = .ok .skip (w.setRow b c) := by
  simp only [execOp, ho, hx, hy, Instr.storeAt, Instr.sureAddr, Sem.run_bind, Sem.run_pure, Result.andThen_ok, store_row ty k hi w b c hc h1 hs.row]
theorem x_loadR (ty k : Nat) (fs : _) (hu : Try.prog.underlying ty = some (.struct fs)) (hi : (Try.prog.info? ty).map (·.size) = some k) {t : Nat} {c : Array Value} (ho : o.op = .load ty x) (hx : ρ x = .pointer (some ⟨b, 0, none⟩)) (h : w.heap[b]? = some (.cells c t (0, 0))) (hc : c.size = k) : (execOp ρ o).run Try.prog w = .ok (.value (.agg c)) w := by
  have hr : row? w b = some c := by unfold row?; rw [h]; rfl
  have := load_row ty k fs hu hi w b (by rw [hr]; simp [hc])
  rw [hr] at this
  simp only [execOp, ho, hx, Instr.loadAt, Instr.sureAddr, Sem.run_bind, Sem.run_pure, Result.andThen_ok, this]
  rfl
theorem x_alloc27 (ho : o.op = .alloc 27) : (execOp ρ o).run Try.prog w = .ok (.value (.pointer (some ⟨w.heap.size, 0, none⟩))) (w.alloc (Obj.cells #[.int .u64 0, .int .u64 0, .int .u64 0, .int .u64 0, .int .u64 0, .int .u64 0] 27)) := by
  simp [execOp, ho, go_sem]
theorem x_build27 {x0 x1 x2 x3 x4 x5 : Operand} {v0 v1 v2 v3 v4 v5 : Nat} (ho : o.op = .build 27 #[(0, x0), (1, x1), (2, x2), (3, x3), (4, x4), (5, x5)]) (h0 : ρ x0 = .int .u64 (v0 : Int)) (h1 : ρ x1 = .int .u64 (v1 : Int)) (h2 : ρ x2 = .int .u64 (v2 : Int)) (h3 : ρ x3 = .int .u64 (v3 : Int)) (h4 : ρ x4 = .int .u64 (v4 : Int)) (h5 : ρ x5 = .int .u64 (v5 : Int)) : (execOp ρ o).run Try.prog w = .ok (.value (.agg #[.int .u64 (v0 : Int), .int .u64 (v1 : Int), .int .u64 (v2 : Int), .int .u64 (v3 : Int), .int .u64 (v4 : Int), .int .u64 (v5 : Int)])) w := by
  simp [execOp, ho, h0, h1, h2, h3, h4, h5, go_sem]
theorem x_idxU {c m : Nat} (ho : o.op = .indexAddr 101 x (.const (.int .i64 (c : Int)))) (hx : ρ x = .slice (some ⟨b, 0, none⟩) m m) (hc : c < m) (hm : m < 1000) (he : ρ (.const (.int .i64 (c : Int))) = .int .i64 (c : Int)) : (execOp ρ o).run Try.prog w = .ok (.value (.pointer (some ⟨b, c, none⟩))) w := by
  simp [execOp, ho, hx, go_sem, he, hc]
end
theorem wanted_none {o : Oper} {a : Act} {l : List Oper} (hg : o.guard = none) : Region.wanted o (yielded l.toArray a.tmps) = true := by simp [Region.wanted, hg]
theorem wpList_want {ops : Array Oper} {rest : List Oper} {o : Oper} {a : Act} {w : World} {Q : Exit → Act → World → Prop} (hg : Region.wanted o (yielded ops a.tmps) = true) (h : ∀ K, (∀ a w, wpList Try.prog ops Q rest a w → K a w) → o.wp Try.prog a w K Q) : wpList Try.prog ops Q (o :: rest) a w := by
  unfold wpList
  rw [if_pos hg]
  exact .inl (h _ (fun _ _ e => e))
/-- A load, a store of a whole row in a walk. -/
theorem wl_loadR (ty k : Nat) (fs : _) (hu : Try.prog.underlying ty = some (.struct fs)) (hi : (Try.prog.info? ty).map (·.size) = some k) {ops : Array Oper} {rest : List Oper} {o : Oper} {a : Act} {w : World} {Q : Exit → Act → World → Prop} (x : Operand) (ho : o.op = .load ty x) (hg : Region.wanted o (yielded ops a.tmps) = true) (n : Nat) (hx : a.eval x = .pointer (some ⟨n, 0, none⟩)) (c : Array Value) (t : Nat) (hh : w.heap[n]? = some (.cells c t (0, 0))) (hc : c.size = k) (h : wpList Try.prog ops Q rest (a.put o.dst (.agg c)) w) : wpList Try.prog ops Q (o :: rest) a w :=
  wpList_want hg fun _ hK => by
    unfold Oper.wp
    rw [x_loadR ty k fs hu hi ho hx hh hc]
    exact hK _ _ h
theorem wl_storeR (ty k : Nat) (hi : (Try.prog.info? ty).map (·.size) = some k) {ops : Array Oper} {rest : List Oper} {o : Oper} {a : Act} {w : World} {Q : Exit → Act → World → Prop} (x y : Operand) (ho : o.op = .store ty x y) (hg : Region.wanted o (yielded ops a.tmps) = true) (n : Nat) (hx : a.eval x = .pointer (some ⟨n, 0, none⟩)) (c : Array Value) (hy : a.eval y = .agg c) (c0 : Array Value) (t : Nat) (hh : w.heap[n]? = some (.cells c0 t (0, 0))) (h0 : c0.size = k) (hc : c.size = k) (h1 : c.all (·.oneCell') = true) (h : ∀ w2, w2 = w.setRow n c → wpList Try.prog ops Q rest (a.put o.dst undef) w2) : wpList Try.prog ops Q (o :: rest) a w :=
  wpList_want hg fun _ hK => by
    unfold Oper.wp
    rw [x_storeR ty k hi ho hx hy hc h1 ⟨c0, hh, h0⟩]
    exact hK _ _ (h _ rfl)
theorem ret_c {fn : Func} {p : Tmp} {ty : TypeId} {R : Ending → World → Prop} {a : Act} {w : World} {n : Nat} {v : Value} (h : fn.results = #[.cell p ty]) (hp : a.tmps.getD p undef = .pointer (some ⟨n, 0, none⟩)) (hd : a.defers = []) (hl : (loadVar ty ⟨n, 0, none⟩).run Try.prog w = .ok v w) (hR : R (.returned v) w) : bodyPost Try.prog fn R .ret a w := by
  refine bodyPost_ret_by ?_ hd hR
  rw [Array.getD_eq_getD_getElem?] at hp
  simp [results, h, hp, asAddr, hl]
theorem ret_ce {fn : Func} {p u : Tmp} {ty : TypeId} {R : Ending → World → Prop} {a : Act} {w : World} {n : Nat} {v : Value} (h : fn.results = #[.cell p ty, .tmp u]) (hp : a.tmps.getD p undef = .pointer (some ⟨n, 0, none⟩)) (hd : a.defers = []) (hl : (loadVar ty ⟨n, 0, none⟩).run Try.prog w = .ok v w) (hR : R (.returned (.tuple #[v, a.tmps.getD u undef])) w) : bodyPost Try.prog fn R .ret a w := by
  refine bodyPost_ret_by ?_ hd hR
  rw [Array.getD_eq_getD_getElem?] at hp
  simp [results, h, hp, asAddr, hl]
/-- A struct and an error that are returned. -/
theorem ret_ceR (ty k : Nat) (fs : _) (hu : Try.prog.underlying ty = some (.struct fs)) (hi : (Try.prog.info? ty).map (·.size) = some k) {fn : Func} {p u : Tmp} {R : Ending → World → Prop} {a : Act} {w : World} (n : Nat) (c : Array Value) (t : Nat) (h : fn.results = #[.cell p ty, .tmp u]) (hp : a.tmps.getD p undef = .pointer (some ⟨n, 0, none⟩)) (hd : a.defers = []) (hh : w.heap[n]? = some (.cells c t (0, 0))) (hc : c.size = k) (hR : R (.returned (.tuple #[.agg c, a.tmps.getD u undef])) w) : bodyPost Try.prog fn R .ret a w := by
  have hr : row? w n = some c := by unfold row?; rw [hh]; rfl
  have := load_row ty k fs hu hi w n (by rw [hr]; simp [hc])
  rw [hr] at this
  exact ret_ce h hp hd this hR
/-- The region of that number. -/
def rgn (n : Nat) : Code → Option Code
  | .region id ops d => if id = n then some (.region id ops d) else none
  | .loop c => rgn n c
  | .seq a b => match rgn n a with
    | some c => some c
    | none => rgn n b
  | .block _ c => rgn n c
  | .scope c => rgn n c
  | .cond _ a b => match rgn n a with
    | some c => some c
    | none => rgn n b
  | _ => none
noncomputable def rgF (f : Func) (n : Nat) : Code := ((f.body.bind (rgn n)).getD .skip)
end Go.Proofs.Ytgodlfoidjeekaa

namespace Go.Proofs.Ytgodlfoidjeekaa
set_option linter.unusedVariables false
set_option linter.unusedSimpArgs false
open Go.RowKit
set_option linter.unusedVariables false
set_option linter.unusedSimpArgs false

attribute [local go_sem ↓] Go.wp_at_zero Go.wp_at_succ

theorem fa109_0 (b o : Nat) (W : World) : (Instr.fieldAt 109 (.pointer (some ⟨b, o, none⟩)) 0).run Try.prog W = .ok (.pointer (some ⟨b, o + 0, none⟩)) W := by simp [go_sem]
theorem fa109_1 (b o : Nat) (W : World) : (Instr.fieldAt 109 (.pointer (some ⟨b, o, none⟩)) 1).run Try.prog W = .ok (.pointer (some ⟨b, o + 1, none⟩)) W := by simp [go_sem]
theorem fa109_2 (b o : Nat) (W : World) : (Instr.fieldAt 109 (.pointer (some ⟨b, o, none⟩)) 2).run Try.prog W = .ok (.pointer (some ⟨b, o + 2, none⟩)) W := by simp [go_sem]
theorem ld107 : ∀ W a u, World.cell? W a = some u → (Instr.loadAt 107 (.pointer (some a))).run Try.prog W = .ok u W := by intro W a u h; simp [go_sem, h]
theorem Try.info133 : (Try.prog.info? 133).map (fun i => (i.size, i.bytes)) = some (2, 24) := by kernel_rfl
theorem Try.zero133 : ((Try.prog.info? 133).bind (fun i => i.zero)).map (fun z => z.cells.toList) = some [Value.int .i64 0, Value.string ByteArray.empty] := by kernel_rfl
theorem Try.u107 : Try.prog.underlying 107 = some (.slice 133) := by kernel_rfl
section
variable {ρ : Operand → Value} {o : Oper} {w : World} {x y : Operand}
theorem x_build133 {m : Int} {s : ByteArray} (ho : o.op = .build 133 #[(0, x), (1, y)]) (hx : ρ x = .int .i64 m) (hy : ρ y = .string s) : (execOp ρ o).run Try.prog w = .ok (.value (.agg #[.int .i64 m, .string s])) w := by
  simp [execOp, ho, hx, hy, go_sem]
theorem x_bs107 {m : Int} {s : ByteArray} (ho : o.op = .buildSlice 107 1 #[(0, x)]) (hx : ρ x = .agg #[.int .i64 m, .string s]) : (execOp ρ o).run Try.prog w = .ok (.value (.slice (some ⟨w.heap.size, 0, none⟩) 1 1)) (w.alloc (.cells #[.int .i64 m, .string s] 133)) := by
  simp [execOp, ho, hx, go_sem]
theorem x_app107 {a b v : Value} {w2 : World} (ho : o.op = .call { callee := .builtin .append, args := #[x, y], argTypes := #[107, 107] }) (hty : o.type = 107) (hx : ρ x = a) (hy : ρ y = b) (hr : (Builtin.append_ #[107, 107] 107 #[a, b]).run Try.prog w = .ok v w2) : (execOp ρ o).run Try.prog w = .ok (.value v) w2 := by
  simp only [execOp, ho, hty, resolve, invoke, builtin, Sem.run_bind, Sem.run_pure, Result.andThen_ok, List.map_toArray, List.map_cons, List.map_nil, hx, hy, hr]
theorem x_store1 {t : TypeId} {b of : Nat} {v : Value} (ht : ∀ W (u : Value) a, World.frozen? W a = false → World.cell? W a = some u → (Instr.storeAt t (.pointer (some a)) v).run Try.prog W = .ok () (W.setCell a v)) {u : Value} (ho : o.op = .store t x y) (hx : ρ x = .pointer (some ⟨b, of, none⟩)) (hy : ρ y = v) (hz : w.frozen? ⟨b, of, none⟩ = false) (hc : w.cell? ⟨b, of, none⟩ = some u) : (execOp ρ o).run Try.prog w = .ok .skip (w.setCell ⟨b, of, none⟩ v) := by
  have := ht w u _ hz hc
  simp [execOp, ho, hx, hy, this]
end
theorem sto107 {ao : Option Addr} {n c : Nat} : ∀ W (u : Value) a, World.frozen? W a = false → World.cell? W a = some u → (Instr.storeAt 107 (.pointer (some a)) (.slice ao n c)).run Try.prog W = .ok () (W.setCell a (.slice ao n c)) := by
  intro W u a hz hc
  simp [go_sem, hz, hc]

/-- The device goes on. -/
structure DSt (w w' : World) (s : Nat) (sv qv : Value) (d' : Dv) : Prop where
  ex : ∃ sv' qv', DAt w' s sv' qv' d' ∧ ∀ b, DB s sv' qv' b → DB s sv qv b ∨ w.heap.size ≤ b
  fr : Fr (DB s sv qv) w w'
theorem DSt.same {w w' : World} {s : Nat} {sv qv : Value} {d : Dv} (h : DAt w s sv qv d) (f : Fr (fun _ => False) w w') : DSt w w' s sv qv d := ⟨⟨sv, qv, h.kept0 f, fun _ e => .inl e⟩, f.mono (fun _ _ e => e.elim)⟩

/-- A sector more waits. -/
def Dv.more (d : Dv) (x : Nat) (l : List UInt8) : Dv := { d with Q := d.Q ++ [(x, l)] }
theorem sF_more (Q : List (Nat × List UInt8)) (x : Nat) (l : List UInt8) : sF (Q ++ [(x, l)]) = sF Q ++ [.int .i64 (x : Int), .string (str l)] := by simp [sF, sC]

/-- The queue's field is stored. -/
theorem DAt.stq {w w1 : World} {s : Nat} {sv qv qv' : Value} {d : Dv} {x : Nat} {l : List UInt8} (h : DAt w s sv qv d) (f : Fr (fun k => qv.ownBlock = some k) w w1) (ho : w1.ownsRow 0 133 2 qv' (d.Q.length + 1) (sF (d.Q ++ [(x, l)]))) (hb : ∀ b, qv'.ownBlock = some b → qv.ownBlock = some b ∨ w.heap.size ≤ b) (hx : x < d.S.length) (hl : l.length = 384) (hq : d.Q.length < 1000000) : DSt w (w1.setCell ⟨s, 1, none⟩ qv') s sv qv (d.more x l) := by
  obtain ⟨n1, n2, n3⟩ := h.ne
  have hs1 : w1.heap[s]? = _ := (f.block s (lt_of_heap h.heap) (fun e => n2 s e rfl)).trans h.heap
  have fs : Fr (fun k => k = s) w1 (w1.setCell ⟨s, 1, none⟩ qv') := (Fr.refl (fun k => k = s) w1).setCell (p := ⟨s, 1, none⟩) (fun _ => rfl) _
  have hsl := lt_of_heap h.heap
  refine ⟨⟨sv, qv', ⟨?_, ?_, ?_, ?_⟩, fun b hb' => ?_⟩, ?_⟩
  · rw [heap_setCell_same w1 s 1 _ 109 _ hs1]; rfl
  · exact owns_kept (owns_kept h.strs f (fun b hb1 e => n3 b hb1 e)) fs (fun b hb1 e => n1 b hb1 e)
  · have e2 : (d.more x l).Q.length = d.Q.length + 1 := by simp [Dv.more]
    rw [e2]
    exact owns_kept ho fs (fun b hb1 e => by
      have e' : b = s := e
      subst e'
      rcases hb b hb1 with e | e
      · exact n2 b e rfl
      · omega)
  · refine ⟨h.ok.len, h.ok.all, fun q hq' => ?_, by simp [Dv.more]; omega, h.ok.fl⟩
    rcases List.mem_append.1 hq' with hq' | hq'
    · exact h.ok.q q hq'
    · simp at hq'; subst hq'; exact ⟨hx, hl⟩
  · rcases hb' with e | e | e
    · exact .inl (.inl e)
    · exact .inl (.inr (.inl e))
    · rcases hb b e with e | e
      · exact .inl (.inr (.inr e))
      · exact .inr e
  · exact (f.mono (fun _ _ e => .inr (.inr e))).trans fs (fun _ _ e => .inl e)

set_option maxHeartbeats 4000000 in
set_option maxRecDepth 100000 in
theorem gw8 {W : World} {s qc x : Nat} {sv v : Value} {qo : Option Addr} {d : Dv} {l : List UInt8} {u3 u4 u5 u6 u7 u8 u9 u10 u11 u12 u13 u14 u15 u16 u17 u18 u19 u20 u21 u22 u23 u24 u25 u26 u27 u28 u29 u30 u31 u32 u33 u34 u35 u36 u37 u38 u39 u40 u41 u42 u43 u44 u45 u46 u47 u48 u49 u50 u51 u52 u53 u54 u55 : Value} {Q : Exit → Act → World → Prop} (h : DAt W s sv (.slice qo d.Q.length qc) d) (hV : Rd W v l) (hX : x < d.S.length) (hL : l.length = 384) (hQL : d.Q.length < 1000000)
    (hQ : ∀ (y43 y44 y45 y46 y47 y48 y49 y50 y51 y52 y53 y54 y55 : Value) (W' : World), DSt W W' s sv (.slice qo d.Q.length qc) (d.more x l) → Q .normal ⟨#[.pointer (some ⟨s, 0, none⟩), .int .i64 (x : Int), v, u3, u4, u5, u6, u7, u8, u9, u10, u11, u12, u13, u14, u15, u16, u17, u18, u19, u20, u21, u22, u23, u24, u25, u26, u27, u28, u29, u30, u31, u32, u33, u34, u35, u36, u37, u38, u39, u40, u41, u42, y43, y44, y45, y46, y47, y48, y49, y50, y51, y52, y53, y54, y55], []⟩ W') : (rgF Try.f64 8).wp Try.prog Q ⟨#[.pointer (some ⟨s, 0, none⟩), .int .i64 (x : Int), v, u3, u4, u5, u6, u7, u8, u9, u10, u11, u12, u13, u14, u15, u16, u17, u18, u19, u20, u21, u22, u23, u24, u25, u26, u27, u28, u29, u30, u31, u32, u33, u34, u35, u36, u37, u38, u39, u40, u41, u42, u43, u44, u45, u46, u47, u48, u49, u50, u51, u52, u53, u54, u55], []⟩ W := by
  have HQ := hide hQ
  clear hQ
  have HD := hide h
  clear h
  conv => arg 2; whnf
  refine wp_nameK ?_
  intro a0 hA
  have h0 : a0.tmps.getD 0 undef = .pointer (some ⟨s, 0, none⟩) := by rw [hA]; rfl
  have h1 : a0.tmps.getD 1 undef = .int .i64 (x : Int) := by rw [hA]; rfl
  have h2 : a0.tmps.getD 2 undef = v := by rw [hA]; rfl
  have hsz : a0.tmps.size = 56 := by rw [hA]; rfl
  have hdf : a0.defers = [] := by rw [hA]
  have HA0 := hide hA
  clear hA
  refine wp_region_kinds (fun k => DB s sv (.slice qo d.Q.length qc) k) (by kernel_rfl) (by kernel_rfl) (by decide +kernel) (by rw [hsz]; decide +kernel) [.eq (.pointer (some ⟨s, 0, none⟩)), .eq (.pointer (some ⟨s, 0, none⟩)), .eq (.pointer (some ⟨s, 0, none⟩)), .eq (.pointer (some ⟨s, 1, none⟩)), .eq (.slice qo d.Q.length qc), .eq (.int .i64 (x : Int)), .eq (v), .eq (.string (str l)), .eq (.agg #[.int .i64 (x : Int), .string (str l)]), .st 0 (fun v w => ∃ b, v = .slice (some ⟨b, 0, none⟩) 1 1 ∧ w.heap[b]? = some (.cells #[.int .i64 (x : Int), .string (str l)] 133 (0, 0))) (fun v w1 w2 h f => by obtain ⟨b, e, h⟩ := h; exact ⟨b, e, (f.block b (lt_of_heap h) id).trans h⟩), .st 1 (fun v w => ∃ ao c, v = .slice ao (d.Q.length + 1) c ∧ w.ownsRow 0 133 2 v (d.Q.length + 1) (sF (d.Q ++ [(x, l)])) ∧ Fr (fun k => (Value.slice qo d.Q.length qc).ownBlock = some k) W w ∧ ∀ b, v.ownBlock = some b → (Value.slice qo d.Q.length qc).ownBlock = some b ∨ W.heap.size ≤ b) (fun v w1 w2 h f => by obtain ⟨ao, c, e, h1, h2, h3⟩ := h; exact ⟨ao, c, e, owns_kept h1 f (fun _ _ e => e), h2.trans f (fun _ _ e => e.elim), h3⟩), .eq (.pointer (some ⟨s, 0, none⟩)), .eq (.pointer (some ⟨s, 1, none⟩)), .any] [10, 13] (by decide) (by decide) (chain_paths _ [[10]] (by kernel_rfl)) (fun k w => match k with | 0 => Fr (fun _ => False) W w | 1 => True | _ => DSt W w s sv (.slice qo d.Q.length qc) (d.more x l)) (Fr.refl _ _).drew ?steps ?done
  case steps =>
    refine ⟨?_, ?_⟩
    · intro a' w' k' hb hf hs hc hq hg hd
      exact ⟨wantedN rfl, k_val (.pointer (some ⟨s, 0, none⟩)) (by decide) hs (x_move rfl ((hb.old 0 (by decide +kernel)).trans h0)) rfl⟩
    refine ⟨?_, ?_⟩
    · intro a' w' k' hb hf hs hc hq hg hd
      exact ⟨wantedN rfl, k_val (.pointer (some ⟨s, 0, none⟩)) (by decide) hs (x_move rfl ((hb.old 0 (by decide +kernel)).trans h0)) rfl⟩
    refine ⟨?_, ?_⟩
    · intro a' w' k' hb hf hs hc hq hg hd
      exact ⟨wantedN rfl, k_val (.pointer (some ⟨s, 0, none⟩)) (by decide) hs (x_nilCheck rfl (hd 1 (by kernel_rfl) 44 rfl)) rfl⟩
    refine ⟨?_, ?_⟩
    · intro a' w' k' hb hf hs hc hq hg hd
      exact ⟨wantedN rfl, k_val (.pointer (some ⟨s, 1, none⟩)) (by decide) hs (x_field (of := 0) (off := 1) (fa109_1 s 0) rfl (hd 2 (by kernel_rfl) 45 rfl)) rfl⟩
    refine ⟨?_, ?_⟩
    · intro a' w' k' hb hf hs hc hq hg hd
      obtain rfl : k' = 0 := Nat.le_zero.1 (hq 0 10 rfl (waits (by kernel_rfl))); exact ⟨wantedN rfl, k_val (.slice qo d.Q.length qc) (by decide) hs (x_load1 ld107 rfl (hd 3 (by kernel_rfl) 46 rfl) (by have := cell_of_heap ((unhide HD).kept0 hs).heap 1; simpa using this)) rfl⟩
    refine ⟨?_, ?_⟩
    · intro a' w' k' hb hf hs hc hq hg hd
      exact ⟨wantedN rfl, k_val (.int .i64 (x : Int)) (by decide) hs (x_move rfl ((hb.old 1 (by decide +kernel)).trans h1)) rfl⟩
    refine ⟨?_, ?_⟩
    · intro a' w' k' hb hf hs hc hq hg hd
      exact ⟨wantedN rfl, k_val (v) (by decide) hs (x_move rfl ((hb.old 2 (by decide +kernel)).trans h2)) rfl⟩
    refine ⟨?_, ?_⟩
    · intro a' w' k' hb hf hs hc hq hg hd
      obtain rfl : k' = 0 := Nat.le_zero.1 (hq 0 10 rfl (waits (by kernel_rfl))); exact ⟨wantedN rfl, k_val (.string (str l)) (by decide) hs (x_conv rfl (hd 6 (by kernel_rfl) 49 rfl) (conv_rd (P := Try.prog) (hV.kept hs (fun _ _ e => e)) 23 9 5 Try.underlying23 Try.underlying5 Try.underlying9)) rfl⟩
    refine ⟨?_, ?_⟩
    · intro a' w' k' hb hf hs hc hq hg hd
      exact ⟨wantedN rfl, k_val (.agg #[.int .i64 (x : Int), .string (str l)]) (by decide) hs (x_build133 rfl (hd 5 (by kernel_rfl) 48 rfl) (hd 7 (by kernel_rfl) 50 rfl)) rfl⟩
    refine ⟨?_, ?_⟩
    · intro a' w' k' hb hf hs hc hq hg hd
      obtain rfl : k' = 0 := Nat.le_zero.1 (hq 0 10 rfl (waits (by kernel_rfl))); exact ⟨wantedN rfl, k_new _ _ (by decide) (Fr.trans hs ((Fr.refl _ _).alloc _) (fun _ _ e => e)) ((Fr.refl _ _).alloc _) (x_bs107 rfl (hd 8 (by kernel_rfl) 51 rfl)) ⟨Nat.le_refl _, fun _ => ⟨_, rfl, heap_alloc_new w' _⟩⟩⟩
    refine ⟨?_, ?_⟩
    · intro a' w' k' hb hf hs hc hq hg hd
      obtain rfl := hc 0 rfl
      obtain ⟨-, h9⟩ := (hd 9 (by kernel_rfl) 52 rfl)
      obtain ⟨b9, e9, h9⟩ := h9 rfl
      have hs' : Fr (fun _ => False) W w' := hs
      have hD' := (unhide HD).kept0 hs'
      obtain ⟨inf, zv, hi0, hz0, hz1, hz2, hz3⟩ := info_zero Try.info133 Try.zero133
      have hzs : zv.cells.size = 2 := by rw [← Array.length_toList, hz3]; rfl
      have hsr : Sr w' 2 (.slice (some ⟨b9, 0, none⟩) 1 1) 1 [.int .i64 (x : Int), .string (str l)] := .inr ⟨_, _, rfl, rfl, fun j u hu => by
        rw [Addr.add_lit, Nat.zero_add, cell_of_heap h9]
        simpa using hu⟩
      obtain ⟨v2, w2, hr2, ho2, hg2, hn2⟩ := run_app (P := Try.prog) w' 107 107 133 inf zv 2 24 Try.u107 hi0 hz0 hz1 hz2 hzs (by decide) (.slice qo d.Q.length qc) d.Q.length _ hD'.queue _ 1 _ hsr (fun u hu => by simp at hu; rcases hu with rfl | rfl <;> rfl) (by omega) (by simp only [maxLen]; omega)
      obtain ⟨ao2, c2, rfl⟩ := owns_shape ho2
      have fg : Fr (fun k => (Value.slice qo d.Q.length qc).ownBlock = some k) W w2 := (hs'.mono (fun _ _ h => h.elim)).grown hg2 (fun k _ e => e)
      exact ⟨wantedN rfl, k_chain _ w2 (by decide) trivial ((Fr.refl _ _).grown hg2 (fun k _ e => .inr (.inr e))) (x_app107 rfl rfl (hd 4 (by kernel_rfl) 47 rfl) e9 hr2) ⟨Nat.le_refl _, fun _ => ⟨_, _, rfl, by rw [sF_more]; exact ho2, fg, fun b hb => by
        rcases hn2 with e | e
        · rw [e] at hb; exact .inl hb
        · rw [e] at hb; simp at hb; have := hs'.size; right; omega⟩⟩⟩
    refine ⟨?_, ?_⟩
    · intro a' w' k' hb hf hs hc hq hg hd
      exact ⟨wantedN rfl, k_val (.pointer (some ⟨s, 0, none⟩)) (by decide) hs (x_nilCheck rfl (hd 0 (by kernel_rfl) 43 rfl)) rfl⟩
    refine ⟨?_, ?_⟩
    · intro a' w' k' hb hf hs hc hq hg hd
      exact ⟨wantedN rfl, k_val (.pointer (some ⟨s, 1, none⟩)) (by decide) hs (x_field (of := 0) (off := 1) (fa109_1 s 0) rfl (hd 11 (by kernel_rfl) 54 rfl)) rfl⟩
    refine ⟨?_, ?_⟩
    · intro a' w' k' hb hf hs hc hq hg hd
      obtain rfl := hc 1 rfl
      obtain ⟨-, h10⟩ := (hd 10 (by kernel_rfl) 53 rfl)
      obtain ⟨ao2, c2, e10, ho2, fg, hb2⟩ := h10 rfl
      rw [e10] at ho2 hb2
      have hsl := lt_of_heap (unhide HD).heap
      have hs1 : w'.heap[s]? = _ := (fg.block s hsl (fun e => (unhide HD).ne.2.1 s e rfl)).trans (unhide HD).heap
      have cs := cell_of_heap hs1 1
      simp at cs
      have hK := (unhide HD).stq fg ho2 hb2 hX hL hQL
      exact ⟨wantedN rfl, k_store _ (by decide) hK ((Fr.refl _ _).setCell (p := ⟨s, 1, none⟩) (fun _ => .inl rfl) _) (x_store1 sto107 rfl (hd 12 (by kernel_rfl) 55 rfl) e10 (frozen_of_heap hs1 1) cs) trivial⟩
    exact trivial
  case done =>
    intro a' w' hb hf hs hall
    have hfr := frame_eq (a := a') (vs := [.pointer (some ⟨s, 0, none⟩), .int .i64 (x : Int), v, u3, u4, u5, u6, u7, u8, u9, u10, u11, u12, u13, u14, u15, u16, u17, u18, u19, u20, u21, u22, u23, u24, u25, u26, u27, u28, u29, u30, u31, u32, u33, u34, u35, u36, u37, u38, u39, u40, u41, u42, a'.tmps.getD 43 undef, a'.tmps.getD 44 undef, a'.tmps.getD 45 undef, a'.tmps.getD 46 undef, a'.tmps.getD 47 undef, a'.tmps.getD 48 undef, a'.tmps.getD 49 undef, a'.tmps.getD 50 undef, a'.tmps.getD 51 undef, a'.tmps.getD 52 undef, a'.tmps.getD 53 undef, a'.tmps.getD 54 undef, a'.tmps.getD 55 undef]) (by rw [hb.size, hsz]; rfl) (by rw [hb.defers, hdf]) ⟨(hb.old 0 (by decide +kernel)).trans (by rw [unhide HA0]; rfl), (hb.old 1 (by decide +kernel)).trans (by rw [unhide HA0]; rfl), (hb.old 2 (by decide +kernel)).trans (by rw [unhide HA0]; rfl), (hb.old 3 (by decide +kernel)).trans (by rw [unhide HA0]; rfl), (hb.old 4 (by decide +kernel)).trans (by rw [unhide HA0]; rfl), (hb.old 5 (by decide +kernel)).trans (by rw [unhide HA0]; rfl), (hb.old 6 (by decide +kernel)).trans (by rw [unhide HA0]; rfl), (hb.old 7 (by decide +kernel)).trans (by rw [unhide HA0]; rfl), (hb.old 8 (by decide +kernel)).trans (by rw [unhide HA0]; rfl), (hb.old 9 (by decide +kernel)).trans (by rw [unhide HA0]; rfl), (hb.old 10 (by decide +kernel)).trans (by rw [unhide HA0]; rfl), (hb.old 11 (by decide +kernel)).trans (by rw [unhide HA0]; rfl), (hb.old 12 (by decide +kernel)).trans (by rw [unhide HA0]; rfl), (hb.old 13 (by decide +kernel)).trans (by rw [unhide HA0]; rfl), (hb.old 14 (by decide +kernel)).trans (by rw [unhide HA0]; rfl), (hb.old 15 (by decide +kernel)).trans (by rw [unhide HA0]; rfl), (hb.old 16 (by decide +kernel)).trans (by rw [unhide HA0]; rfl), (hb.old 17 (by decide +kernel)).trans (by rw [unhide HA0]; rfl), (hb.old 18 (by decide +kernel)).trans (by rw [unhide HA0]; rfl), (hb.old 19 (by decide +kernel)).trans (by rw [unhide HA0]; rfl), (hb.old 20 (by decide +kernel)).trans (by rw [unhide HA0]; rfl), (hb.old 21 (by decide +kernel)).trans (by rw [unhide HA0]; rfl), (hb.old 22 (by decide +kernel)).trans (by rw [unhide HA0]; rfl), (hb.old 23 (by decide +kernel)).trans (by rw [unhide HA0]; rfl), (hb.old 24 (by decide +kernel)).trans (by rw [unhide HA0]; rfl), (hb.old 25 (by decide +kernel)).trans (by rw [unhide HA0]; rfl), (hb.old 26 (by decide +kernel)).trans (by rw [unhide HA0]; rfl), (hb.old 27 (by decide +kernel)).trans (by rw [unhide HA0]; rfl), (hb.old 28 (by decide +kernel)).trans (by rw [unhide HA0]; rfl), (hb.old 29 (by decide +kernel)).trans (by rw [unhide HA0]; rfl), (hb.old 30 (by decide +kernel)).trans (by rw [unhide HA0]; rfl), (hb.old 31 (by decide +kernel)).trans (by rw [unhide HA0]; rfl), (hb.old 32 (by decide +kernel)).trans (by rw [unhide HA0]; rfl), (hb.old 33 (by decide +kernel)).trans (by rw [unhide HA0]; rfl), (hb.old 34 (by decide +kernel)).trans (by rw [unhide HA0]; rfl), (hb.old 35 (by decide +kernel)).trans (by rw [unhide HA0]; rfl), (hb.old 36 (by decide +kernel)).trans (by rw [unhide HA0]; rfl), (hb.old 37 (by decide +kernel)).trans (by rw [unhide HA0]; rfl), (hb.old 38 (by decide +kernel)).trans (by rw [unhide HA0]; rfl), (hb.old 39 (by decide +kernel)).trans (by rw [unhide HA0]; rfl), (hb.old 40 (by decide +kernel)).trans (by rw [unhide HA0]; rfl), (hb.old 41 (by decide +kernel)).trans (by rw [unhide HA0]; rfl), (hb.old 42 (by decide +kernel)).trans (by rw [unhide HA0]; rfl), rfl, rfl, rfl, rfl, rfl, rfl, rfl, rfl, rfl, rfl, rfl, rfl, rfl, trivial⟩
    rw [hfr]
    exact unhide HQ (a'.tmps.getD 43 undef) (a'.tmps.getD 44 undef) (a'.tmps.getD 45 undef) (a'.tmps.getD 46 undef) (a'.tmps.getD 47 undef) (a'.tmps.getD 48 undef) (a'.tmps.getD 49 undef) (a'.tmps.getD 50 undef) (a'.tmps.getD 51 undef) (a'.tmps.getD 52 undef) (a'.tmps.getD 53 undef) (a'.tmps.getD 54 undef) (a'.tmps.getD 55 undef) w' hs
end Go.Proofs.Ytgodlfoidjeekaa

namespace Go.Proofs.Ytgodlfoidjeekaa
set_option linter.unusedVariables false
set_option linter.unusedSimpArgs false
open Go.RowKit
set_option linter.unusedVariables false
set_option linter.unusedSimpArgs false

attribute [local go_sem ↓] Go.wp_at_zero Go.wp_at_succ

theorem DSt.after {w w1 w2 : World} {s : Nat} {sv qv : Value} {d : Dv} (f : Fr (DB s sv qv) w w1) (h : DSt w1 w2 s sv qv d) : DSt w w2 s sv qv d := by
  obtain ⟨⟨sv', qv', h1, h2⟩, f2⟩ := h
  refine ⟨⟨sv', qv', h1, fun b hb => ?_⟩, f.trans f2 (fun _ _ e => e)⟩
  rcases h2 b hb with e | e
  · exact .inl e
  · have := f.size; right; omega

/-- The device with another count of writes that go well. -/
def Dv.fl (d : Dv) (z : Int) : Dv := { d with fail := z }
theorem DAt.fl {w : World} {s : Nat} {sv qv : Value} {d : Dv} (h : DAt w s sv qv d) (z : Int) (hz : -9223372036854775808 ≤ z ∧ z ≤ 9223372036854775807) : DAt (w.setCell ⟨s, 2, none⟩ (.int .i64 z)) s sv qv (d.fl z) ∧ Fr (DB s sv qv) w (w.setCell ⟨s, 2, none⟩ (.int .i64 z)) := by
  obtain ⟨n1, n2, n3⟩ := h.ne
  have fs : Fr (fun k => k = s) w (w.setCell ⟨s, 2, none⟩ (.int .i64 z)) := (Fr.refl (fun k => k = s) w).setCell (p := ⟨s, 2, none⟩) (fun _ => rfl) _
  refine ⟨⟨?_, owns_kept h.strs fs (fun b hb e => n1 b hb e), owns_kept h.queue fs (fun b hb e => n2 b hb e), ⟨h.ok.len, h.ok.all, h.ok.q, h.ok.few, hz⟩⟩, fs.mono (fun _ _ e => .inl e)⟩
  rw [heap_setCell_same w s 2 _ 109 _ h.heap]; rfl

/-- What Write answers, and makes. -/
def wrE (d : Dv) : Int := if d.fail = 0 then 61 else 0
def wrD (d : Dv) (x : Nat) (l : List UInt8) : Dv := if d.fail = 0 then d.fl (-1) else (if 0 < d.fail then d.fl (d.fail - 1) else d).more x l

theorem not_KD5 : ¬ KD 5 := by unfold KD; omega
theorem DAt.apart {w : World} {s : Nat} {sv qv v : Value} {d : Dv} (h : DAt w s sv qv d) (hv : ∀ b, v.ownBlock = some b → knd w b = 5) : ∀ b, v.ownBlock = some b → ¬ DB s sv qv b := fun b hb e => not_KD5 (by rw [← hv b hb]; exact h.knds e)

section
variable (w : World) (s : Nat) (sv qv : Value) (d : Dv)
set_option maxHeartbeats 2000000 in
set_option maxRecDepth 100000 in
theorem swrite_any (x : Nat) (v : Value) (l : List UInt8) (hx : x < d.S.length) (hV : Rd w v l) (hl : l.length = 384) (hq : d.Q.length < 1000000) (hvs : ∀ b, v.ownBlock = some b → knd w b = 5) (h : DAt w s sv qv d) : Calls Try.prog 64 #[.pointer (some ⟨s, 0, none⟩), .int .i64 (x : Int), v] w fun e w' => e = .returned (.int .i64 (wrE d)) ∧ DSt w w' s sv qv (wrD d x l) := by
  have hap := h.apart hvs
  have c0 := cell_of_heap h.heap 0
  have c2 := cell_of_heap h.heap 2
  have z2 := frozen_of_heap h.heap 2
  simp at c0 c2
  obtain ⟨qo, qc, rfl⟩ := owns_shape h.queue
  obtain ⟨so, sc, rfl⟩ := owns_shape h.strs
  obtain ⟨ao, cv, rfl⟩ := hV.shape
  rw [hl] at hV hap ⊢
  have hx0 : ¬ ((x : Int) < 0) := by omega
  have b1 : decide ((x : Int) < 0) = false := by simp
  have b2 : ¬ (d.S.length ≤ x) := by omega
  have H := hide h
  have HV := hide hV
  have HAP := hide hap
  have hfl := h.ok.fl
  have HX := hide hx
  have HL := hide hl
  have HQ := hide hq
  clear h hV hx hl hq hvs hap
  unfold wrE wrD
  by_cases hf0 : d.fail = 0
  · rw [if_pos hf0, if_pos hf0]
    rw [hf0] at c2
    obtain ⟨h1, f1⟩ := (unhide H).fl (-1) (by decide)
    have HK : Hid (DSt w (w.setCell ⟨s, 2, none⟩ (.int .i64 (-1))) s (.slice so d.S.length sc) (.slice qo d.Q.length qc) (d.fl (-1))) := hide (DSt.after f1 (DSt.same h1 (Fr.refl _ _)))
    clear h1 f1 HV HAP HX HL HQ hf0 H
    go_enter Try.func64, Try.ntmps64
    go_wp2_with fail
    go_ret
    exact ⟨rfl, unhide HK⟩
  · rw [if_neg hf0, if_neg hf0]
    have b3 : (d.fail == 0) = false := by simpa using hf0
    by_cases hf1 : 0 < d.fail
    · rw [if_pos hf1]
      obtain ⟨h1, f1⟩ := (unhide H).fl (d.fail - 1) (by omega)
      obtain ⟨z, hz⟩ : ∃ z, z = d.fail - 1 := ⟨_, rfl⟩
      have hw : IntKind.i64.wrap (d.fail - 1) = z := by rw [hz]; simp [IntKind.wrap, IntKind.signed, IntKind.bits]; omega
      rw [← hz] at h1 f1 ⊢
      have HV1 := hide ((unhide HV).kept f1 (unhide HAP))
      have H1 := hide h1
      have F1 := hide f1
      generalize d.fail = df at *
      clear h1 f1 H HV hf0 hz
      go_enter Try.func64, Try.ntmps64
      go_upto_region 8 with fail
      refine gw8 (d := d.fl z) (unhide H1) (unhide HV1) (unhide HX) (unhide HL) (unhide HQ) ?_
      intros
      rename_i W' hW
      have HK := hide (DSt.after (unhide F1) hW)
      clear hW H1 F1 HV1
      go_wp2_with fail
      go_ret
      exact ⟨rfl, unhide HK⟩
    · rw [if_neg hf1]
      generalize d.fail = df at *
      go_enter Try.func64, Try.ntmps64
      go_upto_region 8 with fail
      refine gw8 (d := d) (unhide H) (unhide HV) (unhide HX) (unhide HL) (unhide HQ) ?_
      intros
      rename_i W' hW
      have HK := hide hW
      clear hW H HV
      go_wp2_with fail
      go_ret
      exact ⟨rfl, unhide HK⟩

/-- The first i that wait are stable. -/
def flI (d : Dv) (i : Nat) : Dv := { d with S := (d.Q.take i).foldl (fun S q => S.set q.1 q.2) d.S }
theorem flI_succ (d : Dv) (i : Nat) (hi : i < d.Q.length) : flI d (i + 1) = { flI d i with S := (flI d i).S.set (d.Q[i]).1 (d.Q[i]).2 } := by
  unfold flI
  rw [List.take_succ_eq_append_getElem hi, List.foldl_append]
  rfl
theorem foldl_set_len (Q : List (Nat × List UInt8)) : ∀ S : List (List UInt8), (Q.foldl (fun S q => S.set q.1 q.2) S).length = S.length := by
  induction Q with
  | nil => intro S; rfl
  | cons q r ih => intro S; rw [List.foldl_cons, ih]; simp
theorem flI_len (d : Dv) (i : Nat) : (flI d i).S.length = d.S.length := foldl_set_len _ _
/-- What Flush makes. -/
def flD (d : Dv) : Dv := { flI d d.Q.length with Q := [] }

/-- A block is set where it is stable. -/
theorem DAt.putS {w : World} {s : Nat} {sv qv : Value} {d : Dv} (h : DAt w s sv qv d) (x : Nat) (l : List UInt8) (hx : x < d.S.length) (hl : l.length = 384) : ∃ g cap, sv = .slice (some ⟨g, 0, none⟩) d.S.length cap ∧ x < cap ∧ (∃ o, w.cell? ⟨g, x, none⟩ = some (.string o)) ∧ w.frozen? ⟨g, x, none⟩ = false ∧ DAt (w.setCell ⟨g, x, none⟩ (.string (str l))) s sv qv { d with S := d.S.set x l } ∧ Fr (DB s sv qv) w (w.setCell ⟨g, x, none⟩ (.string (str l))) := by
  obtain ⟨n1, n2, n3⟩ := h.ne
  obtain ⟨g, cap, rfl, h1, h2, h3, h4⟩ := h.st x hx
  have fs : Fr (fun k => k = g) w (w.setCell ⟨g, x, none⟩ (.string (str l))) := (Fr.refl (fun k => k = g) w).setCell (p := ⟨g, x, none⟩) (fun _ => rfl) _
  refine ⟨g, cap, rfl, by omega, ⟨_, h3⟩, h4, ⟨?_, ?_, owns_kept h.queue fs (fun b hb e => n3 g rfl (by rw [← e]; exact hb)), ⟨by simpa using h.ok.len, fun q hq => ?_, fun q hq => by simpa using h.ok.q q hq, h.ok.few, h.ok.fl⟩⟩, fs.mono (fun k _ e => .inr (.inl (by rw [e]; rfl)))⟩
  · rw [fs.block s (lt_of_heap h.heap) (fun e => n1 s (by rw [e]; rfl) rfl), h.heap]
  · have := owns_set h.strs x (by omega) (.string (str l))
    have e : stV (d.S.set x l) = (stV d.S).set x (.string (str l)) := by simp [stV, List.map_set]
    simpa [e] using this
  · rcases List.mem_or_eq_of_mem_set hq with e | e
    · exact h.ok.all q e
    · rw [e]; exact hl
/-- The queue is emptied. -/
theorem DAt.empty {w : World} {s : Nat} {sv qv : Value} {d : Dv} (h : DAt w s sv qv d) : DSt w (w.setCell ⟨s, 1, none⟩ (.slice none 0 0)) s sv qv { d with Q := [] } := by
  obtain ⟨n1, n2, n3⟩ := h.ne
  have fs : Fr (fun k => k = s) w (w.setCell ⟨s, 1, none⟩ (.slice none 0 0)) := (Fr.refl (fun k => k = s) w).setCell (p := ⟨s, 1, none⟩) (fun _ => rfl) _
  refine ⟨⟨sv, .slice none 0 0, ⟨?_, owns_kept h.strs fs (fun b hb e => n1 b hb e), ⟨by simp [sF], .inl ⟨rfl, rfl⟩⟩, ⟨h.ok.len, h.ok.all, fun q hq => by simp at hq, by simp, h.ok.fl⟩⟩, fun b hb => ?_⟩, fs.mono (fun _ _ e => .inl e)⟩
  · rw [heap_setCell_same w s 1 _ 109 _ h.heap]; rfl
  · rcases hb with e | e | e
    · exact .inl (.inl e)
    · exact .inl (.inr (.inl e))
    · simp [Value.ownBlock] at e

set_option maxHeartbeats 2000000 in
set_option maxRecDepth 100000 in
theorem sflush_any (h : DAt w s sv qv d) : Calls Try.prog 65 #[.pointer (some ⟨s, 0, none⟩)] w fun e w' => e = .returned (.int .i64 0) ∧ DSt w w' s sv qv (flD d) := by
  obtain ⟨qo, qc, rfl⟩ := owns_shape h.queue
  obtain ⟨so, sc, rfl⟩ := owns_shape h.strs
  have hok := hide h.ok
  have H := hide h
  have hfew := h.ok.few
  clear h
  go_enter Try.func65, Try.ntmps65
  go_wp2_with fail
  go_loopw [3] (fun x w' => ∃ i : Nat, i ≤ d.Q.length ∧ x = .int .i64 (i : Int) ∧ DAt w' s (.slice so d.S.length sc) (.slice qo d.Q.length qc) (flI d i) ∧ Fr (DB s (.slice so d.S.length sc) (.slice qo d.Q.length qc)) w w') (fun x _ => d.Q.length - (intOf x).toNat)
  case atStart => exact ⟨0, by omega, rfl, unhide H, Fr.refl _ _⟩
  case round =>
    obtain ⟨i, hi, rfl, hK, hf⟩ := hrel
    have r0 := cell_of_heap hK.heap 0
    have r1 := cell_of_heap hK.heap 1
    have z1 := frozen_of_heap hK.heap 1
    simp at r0 r1
    by_cases hlt : i < d.Q.length
    · obtain ⟨g, cap, hv, hcap, -, y1, y2⟩ := hK.wr i (show i < (flI d i).Q.length from hlt)
      have hv' : (Value.slice qo d.Q.length qc) = .slice (some ⟨g, 0, none⟩) d.Q.length cap := hv
      simp only [Value.slice.injEq, true_and] at hv'
      obtain ⟨rfl, rfl⟩ := hv'
      have hql := (unhide hok).q _ (List.getElem_mem hlt)
      obtain ⟨g2, cap2, hv2, hcap2, ⟨so2, ys⟩, zs, hP, fP⟩ := hK.putS (d.Q[i]).1 (d.Q[i]).2 (by rw [flI_len]; exact hql.1) hql.2
      rw [flI_len] at hv2
      simp only [Value.slice.injEq, true_and] at hv2
      obtain ⟨rfl, rfl⟩ := hv2
      have HP : Hid (∀ n, DAt ((wr.drewN n).setCell ⟨g2, (d.Q[i]).1, none⟩ (.string (str (d.Q[i]).2))) s (.slice (some ⟨g2, 0, none⟩) d.S.length sc) (.slice (some ⟨g, 0, none⟩) d.Q.length qc) (flI d (i + 1)) ∧ Fr (DB s (.slice (some ⟨g2, 0, none⟩) d.S.length sc) (.slice (some ⟨g, 0, none⟩) d.Q.length qc)) w ((wr.drewN n).setCell ⟨g2, (d.Q[i]).1, none⟩ (.string (str (d.Q[i]).2)))) := hide (fun n => by
        obtain ⟨g3, cap3, e3, -, -, -, h3, f3⟩ := (hK.kept0 (Fr.ofDrewN wr n)).putS (d.Q[i]).1 (d.Q[i]).2 (by rw [flI_len]; exact hql.1) hql.2
        simp only [Value.slice.injEq, Option.some.injEq, Addr.mk.injEq] at e3
        obtain ⟨⟨rfl, -, -⟩, -, -⟩ := e3
        rw [← flI_succ d i hlt] at h3
        exact ⟨h3, hf.trans ((Fr.ofDrewN (S := fun _ => False) wr n |>.mono (fun _ _ e => e.elim)).trans f3 (fun _ _ e => e)) (fun _ _ e => e)⟩)
      have y1' : wr.cell? ⟨g, i * 2, none⟩ = some (.int .i64 ((d.Q[i]).1 : Int)) := y1
      have y2' : wr.cell? ⟨g, i * 2 + 1, none⟩ = some (.string (str (d.Q[i]).2)) := y2
      have hic : i < qc := by have : d.Q.length ≤ qc := hcap; omega
      have hxl := hql.1
      generalize str (d.Q[i]).2 = ss at *
      generalize (d.Q[i]).1 = q1 at *
      clear hK hf hcap hP fP z1 hql y1 y2 H hv
      go_wp2_with fail
      refine wp_region_quietTail 20 (by kernel_rfl) (by kernel_rfl) ?_
      simp only [List.take_succ_cons, List.take_zero]
      repeat (go_big_quiet_step (fail))
      refine wpQuiet_nil ?_
      intro _ hw'
      obtain ⟨nq, hw''⟩ := hw'
      subst hw''
      simp only [List.drop_succ_cons, List.drop_zero]
      go_wp2_with fail
      go_roundw
      case rel => exact ⟨i + 1, by omega, by go_num, (unhide HP nq).1, (unhide HP nq).2⟩
      case measure => simp [intOf]; omega
    · have hie : i = d.Q.length := by omega
      subst hie
      have HE := hide (DSt.after hf hK.empty)
      clear hK hf H
      go_wp2_with fail
      go_ret
      exact ⟨rfl, unhide HE⟩
end
end Go.Proofs.Ytgodlfoidjeekaa

namespace Go.Proofs.Ytgodlfoidjeekaa
set_option linter.unusedVariables false
set_option linter.unusedSimpArgs false
open Go.RowKit
set_option linter.unusedVariables false
set_option linter.unusedSimpArgs false

attribute [local go_sem ↓] Go.wp_at_zero Go.wp_at_succ

/-- Behind i decisions of a crash. -/
def crI (d : Dv) (K : List Int) : Nat → Dv
  | 0 => d
  | i + 1 => if (i : Int) ∈ K then { crI d K i with S := (crI d K i).S.set (d.Q.getD i (0, [])).1 (d.Q.getD i (0, [])).2 } else crI d K i
theorem crI_all (d : Dv) (K : List Int) (i : Nat) : (crI d K i).Q = d.Q ∧ (crI d K i).S.length = d.S.length ∧ (crI d K i).fail = d.fail := by
  induction i with
  | zero => exact ⟨rfl, rfl, rfl⟩
  | succ i ih =>
    unfold crI
    split
    · exact ⟨ih.1, by simpa using ih.2.1, ih.2.2⟩
    · exact ih
/-- What Crash makes. -/
def crD (d : Dv) (K : List Int) : Dv := { crI d K d.Q.length with Q := [] }

section
variable (w : World) (s : Nat) (sv qv : Value) (d : Dv)
set_option maxHeartbeats 4000000 in
set_option maxRecDepth 100000 in
theorem scrash_any (kv : Value) (K : List Int) (hk : RdV w kv (K.map (Value.int .i64))) (hks : ∀ b, kv.ownBlock = some b → ¬ KD (knd w b)) (h : DAt w s sv qv d) : Calls Try.prog 40 #[.pointer (some ⟨s, 0, none⟩), kv] w fun e w' => e = .returned (.tuple #[]) ∧ DSt w w' s sv qv (crD d K) := by
  have hap : ∀ b, kv.ownBlock = some b → ¬ DB s sv qv b := fun b hb e => hks b hb (h.knds e)
  obtain ⟨qo, qc, rfl⟩ := owns_shape h.queue
  obtain ⟨so, sc, rfl⟩ := owns_shape h.strs
  obtain ⟨ko, kc, rfl⟩ := hk.shape
  have hKl : K.length ≤ maxLen := by have := hk.len; rwa [List.length_map] at this
  unfold maxLen at hKl
  have HK := hide hk
  rw [List.length_map] at HK hap ⊢
  have HAP := hide hap
  have hok := hide h.ok
  have H := hide h
  have hfew := h.ok.few
  clear h hk hks hap
  go_enter Try.func40, Try.ntmps40
  go_wp2_with fail
  go_loopw [4] (fun x w' => ∃ i : Nat, i ≤ d.Q.length ∧ x = .int .i64 (i : Int) ∧ DAt w' s (.slice so d.S.length sc) (.slice qo d.Q.length qc) (crI d K i) ∧ Fr (DB s (.slice so d.S.length sc) (.slice qo d.Q.length qc)) w w') (fun x _ => d.Q.length - (intOf x).toNat)
  case atStart => exact ⟨0, by omega, rfl, unhide H, Fr.refl _ _⟩
  case round =>
    obtain ⟨i, hi, rfl, hKi, hf⟩ := hrel
    obtain ⟨hcQ, hcS, hcF⟩ := crI_all d K i
    have r0 := cell_of_heap hKi.heap 0
    have r1 := cell_of_heap hKi.heap 1
    have z1 := frozen_of_heap hKi.heap 1
    simp at r0 r1
    by_cases hlt : i < d.Q.length
    · have HKr := hide ((unhide HK).kept hf (unhide HAP))
      obtain ⟨g, cap, hv, hcap, -, y1, y2⟩ := hKi.wr i (by rw [hcQ]; exact hlt)
      simp only [hcQ] at hv hcap y1 y2
      simp only [Value.slice.injEq, true_and] at hv
      obtain ⟨rfl, rfl⟩ := hv
      have hql := (unhide hok).q _ (List.getElem_mem hlt)
      have hgd : d.Q.getD i (0, []) = d.Q[i] := by simp [List.getD, hlt]
      have hic : i < qc := by omega
      have HKI := hide hKi
      have HF := hide hf
      have HY1 := hide y1
      have HY2 := hide y2
      clear hKi hf y1 y2 H HK hcap
      go_wp2_with fail
      go_loopw [5, 6] (fun b y w' => ∃ k : Nat, k ≤ K.length ∧ y = .int .i64 (k : Int) ∧ b = .bool (decide ((i : Int) ∈ K.take k)) ∧ wr = w') (fun _ y _ => K.length - (intOf y).toNat)
      case atStart => exact ⟨0, by omega, rfl, by simp, rfl⟩
      case round =>
        obtain ⟨k, hk, rfl, rfl, rfl⟩ := hrel
        by_cases hlk : k < K.length
        · obtain ⟨kb, kof, rfl, -, -, -, hck⟩ := (unhide HKr).lits (by rw [List.length_map]; omega)
          have y3 := hck k (by rw [List.length_map]; exact hlk)
          rw [List.getElem_map] at y3
          have hst : decide ((i : Int) ∈ K.take (k + 1)) = (decide ((i : Int) ∈ K.take k) || (K[k] == (i : Int))) := by
            rw [List.take_succ_eq_append_getElem hlk, Bool.eq_iff_iff]
            simp only [decide_eq_true_eq, List.mem_append, List.mem_singleton, Bool.or_eq_true, beq_iff_eq]
            constructor
            · rintro (e | e)
              · exact .inl e
              · exact .inr e.symm
            · rintro (e | e)
              · exact .inl e
              · exact .inr e.symm
          have HST := hide hst
          have hkc : k < kc := by
            rcases (unhide HKr) with ⟨e, -⟩ | ⟨a, c, e, hc, -⟩
            · simp at e
            · simp only [Value.slice.injEq] at e
              rw [List.length_map] at hc
              omega
          generalize K[k] = z at *
          generalize decide ((i : Int) ∈ K.take k) = b0 at *
          clear hck hst
          cases b0
          · go_wp2_with fail
            go_roundw
            case rel => exact ⟨k + 1, by omega, by go_num, by rw [unhide HST]; rfl, trivial⟩
            case measure => simp [intOf]; omega
          · go_wp2_with fail
            go_roundw
            case rel => exact ⟨k + 1, by omega, by go_num, by rw [unhide HST]; rfl, trivial⟩
            case measure => simp [intOf]; omega
        · obtain rfl : k = K.length := by omega
          rw [List.take_of_length_le (Nat.le_refl _)]
          by_cases hin : (i : Int) ∈ K
          · rw [decide_eq_true hin]
            have hst : crI d K (i + 1) = { crI d K i with S := (crI d K i).S.set (d.Q[i]).1 (d.Q[i]).2 } := by
              show (if (i : Int) ∈ K then _ else _) = _
              rw [if_pos hin, hgd]
            obtain ⟨g2, cap2, hv2, hcap2, ⟨so2, ys⟩, zs, -, -⟩ := (unhide HKI).putS (d.Q[i]).1 (d.Q[i]).2 (by rw [hcS]; exact hql.1) hql.2
            rw [hcS] at hv2
            simp only [Value.slice.injEq, true_and] at hv2
            obtain ⟨rfl, rfl⟩ := hv2
            have HP : Hid (∀ n, DAt ((wr.drewN n).setCell ⟨g2, (d.Q[i]).1, none⟩ (.string (str (d.Q[i]).2))) s (.slice (some ⟨g2, 0, none⟩) d.S.length sc) (.slice (some ⟨g, 0, none⟩) d.Q.length qc) (crI d K (i + 1)) ∧ Fr (DB s (.slice (some ⟨g2, 0, none⟩) d.S.length sc) (.slice (some ⟨g, 0, none⟩) d.Q.length qc)) w ((wr.drewN n).setCell ⟨g2, (d.Q[i]).1, none⟩ (.string (str (d.Q[i]).2)))) := hide (fun n => by
              obtain ⟨g3, cap3, e3, -, -, -, h3, f3⟩ := ((unhide HKI).kept0 (Fr.ofDrewN wr n)).putS (d.Q[i]).1 (d.Q[i]).2 (by rw [hcS]; exact hql.1) hql.2
              simp only [Value.slice.injEq, Option.some.injEq, Addr.mk.injEq] at e3
              obtain ⟨⟨rfl, -, -⟩, -, -⟩ := e3
              rw [hst]
              exact ⟨h3, (unhide HF).trans ((Fr.ofDrewN (S := fun _ => False) wr n |>.mono (fun _ _ e => e.elim)).trans f3 (fun _ _ e => e)) (fun _ _ e => e)⟩)
            have y1 := unhide HY1
            have y2 := unhide HY2
            have hxl := hql.1
            generalize str (d.Q[i]).2 = ss at *
            generalize (d.Q[i]).1 = q1 at *
            clear HKI HF hql hgd HKr hst hin HY1 HY2 hcQ hcS hcF
            go_wp2_with fail
            refine wp_region_quietTail 20 (by kernel_rfl) (by kernel_rfl) ?_
            simp only [List.take_succ_cons, List.take_zero]
            repeat (go_big_quiet_step (fail))
            refine wpQuiet_nil ?_
            intro _ hw'
            obtain ⟨nq, hw''⟩ := hw'
            subst hw''
            simp only [List.drop_succ_cons, List.drop_zero]
            go_wp2_with fail
            go_roundw
            case rel => exact ⟨i + 1, by omega, by go_num, (unhide HP nq).1, (unhide HP nq).2⟩
            case measure => simp [intOf]; omega
          · rw [decide_eq_false hin]
            have hst : crI d K (i + 1) = crI d K i := by
              show (if (i : Int) ∈ K then _ else _) = _
              rw [if_neg hin]
            have HST := hide hst
            clear hst hin hql hgd HKr HY1 HY2
            go_wp2_with fail
            go_roundw
            case rel => exact ⟨i + 1, by omega, by go_num, by rw [unhide HST]; exact unhide HKI, unhide HF⟩
            case measure => simp [intOf]; omega
    · have hie : i = d.Q.length := by omega
      subst hie
      have HE := hide (DSt.after hf hKi.empty)
      clear hKi hf H
      go_wp2_with fail
      go_end0
      exact ⟨rfl, unhide HE⟩
end
end Go.Proofs.Ytgodlfoidjeekaa

namespace Go.Proofs.Ytgodlfoidjeekaa
set_option linter.unusedVariables false
set_option linter.unusedSimpArgs false
open Go.RowKit
set_option linter.unusedVariables false
set_option linter.unusedSimpArgs false

attribute [local go_sem ↓] Go.wp_at_zero Go.wp_at_succ

def z384 : List UInt8 := List.replicate 384 0
/-- A new device. -/
def newS (n : Nat) : Dv := ⟨List.replicate n z384, [], -1⟩
theorem Try.info9 : (Try.prog.info? 9).map (fun i => (i.size, i.bytes)) = some (1, 16) := by kernel_rfl
theorem Try.zero9 : ((Try.prog.info? 9).bind (fun i => i.zero)).map (fun z => z.cells.toList) = some [Value.string ByteArray.empty] := by kernel_rfl
theorem Try.u106 : Try.prog.underlying 106 = some (.slice 9) := by kernel_rfl

set_option maxHeartbeats 2000000 in
set_option maxRecDepth 100000 in
theorem newStore_any (w : World) (n : Int) (hn : n ≤ 1000) : Calls Try.prog 30 #[.int .i64 n] w fun e w' => ∃ s sv qv, e = .returned (.pointer (some ⟨s, 0, none⟩)) ∧ DAt w' s sv qv (newS n.toNat) ∧ (∀ b, DB s sv qv b → w.heap.size ≤ b) ∧ Fr (fun _ => False) w w' := by
  obtain ⟨w1, hmk, hB1, f1⟩ := mk_any w 384 (by decide)
  have hmk' : (Instr.makeSlice 23 (.int .i64 384) (.int .i64 384)).run Try.prog w = .ok (.slice (some ⟨w.heap.size, 0, none⟩) 384 384) w1 := hmk
  have hrd := hB1.rd (by decide)
  have hrd' : Rd w1 (.slice (some ⟨w.heap.size, 0, none⟩) 384 384) z384 := hrd
  have kc := conv_rd (P := Try.prog) hrd' 23 9 5 Try.underlying23 Try.underlying5 Try.underlying9
  obtain ⟨zs, hzs⟩ : ∃ zs, zs = str z384 := ⟨_, rfl⟩
  rw [← hzs] at kc
  have HZ := hide hzs
  have F1 := hide f1
  obtain ⟨inf, zv, hi0, hz0, hz1, hz2, hz3⟩ := info_zero Try.info9 Try.zero9
  have hzs2 : zv.cells.size = 1 := by rw [← Array.length_toList, hz3]; rfl
  clear hB1 hrd hrd' f1 hzs hmk hz3
  go_enter Try.func30, Try.ntmps30
  go_wp2_with fail
  have h0 : (w1.alloc (.cells #[.slice none 0 0, .slice none 0 0, .int .i64 (-1)] 109)).heap[w1.heap.size]? = some (.cells #[.slice none 0 0, .slice none 0 0, .int .i64 (-1)] 109 (0, 0)) := heap_alloc_new w1 _
  have H0 := hide h0
  have F2 := hide ((unhide F1).alloc (.cells #[.slice none 0 0, .slice none 0 0, .int .i64 (-1)] 109))
  have hsz := hide (unhide F1).size
  obtain ⟨s, hs⟩ : ∃ s, s = w1.heap.size := ⟨_, rfl⟩
  rw [← hs] at H0 ⊢
  have hws : w.heap.size ≤ s := by rw [hs]; exact unhide hsz
  have HWS := hide hws
  clear h0 F1 hmk' kc hs hws hsz
  go_loopw [5] (fun x w' => ∃ i : Nat, (i : Int) ≤ max n 0 ∧ x = .int .i64 (i : Int) ∧ ∃ ao c, DAt w' s (.slice ao i c) (.slice none 0 0) (newS i) ∧ (∀ b, (Value.slice ao i c).ownBlock = some b → w.heap.size ≤ b) ∧ Fr (fun _ => False) w w') (fun x _ => (n - intOf x).toNat)
  case atStart => exact ⟨0, by omega, rfl, none, 0, ⟨unhide H0, ⟨rfl, .inl ⟨rfl, rfl⟩⟩, ⟨rfl, .inl ⟨rfl, rfl⟩⟩, ⟨by simp [newS], by simp [newS], by simp [newS], by simp [newS], by simp [newS]⟩⟩, fun b e => by simp [Value.ownBlock] at e, unhide F2⟩
  case round =>
    obtain ⟨i, hi, rfl, ao, c, hD, hb, hf⟩ := hrel
    have r0 := cell_of_heap hD.heap 0
    have z0 := frozen_of_heap hD.heap 0
    simp at r0
    by_cases hlt : (i : Int) < n
    · have HD := hide hD
      have HB := hide hb
      have HF := hide hf
      have hOW : wr.ownsRow 0 9 1 (.slice ao i c) i (stV (newS i).S) := by have := hD.strs; simpa [newS] using this
      have HO := hide (hOW.alloc (.cells #[.string zs] 9))
      have HSR := hide (one_cellV wr (.string zs) 9)
      have d0 := (((Fr.refl (fun _ => False) wr).alloc (.cells #[.string zs] 9)).cell (a := ⟨s, 0, none⟩) (lt_of_heap hD.heap) id).trans r0
      clear hD hb hf hOW H0 F2
      go_wp2_with (at_builtin; refine wpList_app rfl (.tmp 19) (.tmp 21) 106 rfl 9 inf zv 1 16 Try.u106 hi0 hz0 hz1 hz2 hzs2 (by decide) (.slice ao i c) i _ rfl (.slice (some ⟨wr.heap.size, 0, none⟩) 1 1) rfl 1 [.string zs] (unhide HO) (unhide HSR) (fun u hu => by simp at hu; subst hu; rfl) (by omega) (by simp only [maxLen]; omega) ?_)
      intro ao4 ac4 w4 o4 g4 p4
      have hsl := lt_of_heap (unhide HD).heap
      have hne : ∀ b, (Value.slice ao i c).ownBlock = some b → b ≠ s := fun b hb => (unhide HD).ne.1 b hb
      have f4 : Fr (fun k => (Value.slice ao i c).ownBlock = some k) wr w4 := ((Fr.refl _ _).alloc (.cells #[.string zs] 9)).grown g4 (fun k _ e => e)
      have h4 := (f4.block s hsl (fun e => hne s e rfl)).trans (unhide HD).heap
      have y0 := cell_of_heap h4 0
      have x0 := frozen_of_heap h4 0
      simp at y0
      have nb4 : ∀ b, (Value.slice ao4 (i + 1) ac4).ownBlock = some b → w.heap.size ≤ b ∧ b ≠ s := by
        intro b hb
        rcases p4 with e | ⟨k', e, hk'⟩
        · rw [e] at hb; exact ⟨unhide HB b hb, hne b hb⟩
        · rw [e] at hb; simp at hb hk'; subst hb; have := (unhide HF).size; exact ⟨by omega, by omega⟩
      have H4 := hide h4
      have F4 := hide f4
      have O4 := hide o4
      have NB := hide nb4
      clear h4 f4 o4 g4 p4 nb4 d0 r0 z0 hne
      go_wp2_with fail
      go_roundw
      case rel =>
        have f5 : Fr (fun k => k = s) w4 (w4.setCell ⟨s, 0, none⟩ (.slice ao4 (i + 1) ac4)) := (Fr.refl (fun k => k = s) w4).setCell (p := ⟨s, 0, none⟩) (fun _ => rfl) _
        refine ⟨i + 1, by omega, by go_num, ao4, ac4, ⟨?_, ?_, ⟨rfl, .inl ⟨rfl, rfl⟩⟩, ⟨?_, ?_, ?_, ?_, ?_⟩⟩, fun b hb => (unhide NB b hb).1, ?_⟩
        · rw [heap_setCell_same w4 s 0 _ 109 _ (unhide H4)]; rfl
        · have e1 : stV (newS (i + 1)).S = stV (newS i).S ++ [.string zs] := by
            rw [unhide HZ]; simp [newS, stV, List.replicate_succ']
          have e2 : (newS (i + 1)).S.length = i + 1 := by simp [newS]
          rw [e1, e2]
          exact owns_kept (unhide O4) f5 (fun b hb e => (unhide NB b hb).2 e)
        · simp [newS]; omega
        · intro l hl; simp [newS] at hl; rw [hl]; rfl
        · simp [newS]
        · simp [newS]
        · simp [newS]
        · have a1 : Fr (fun k => w.heap.size ≤ k) w w4 := ((unhide HF).mono (fun _ _ e => e.elim)).trans (unhide F4) (fun k _ e => unhide HB k e)
          have a2 := a1.trans f5 (fun k _ e => by rw [show k = s from e]; exact unhide HWS)
          exact a2.mono (fun k hk e => by omega)
      case measure => simp [intOf]; omega
    · have hin : i = n.toNat := by omega
      have HIN := hide hin
      have HD := hide hD
      have HB := hide hb
      have HF := hide hf
      clear hD hb hf H0 F2 hin
      go_wp2_with fail
      go_ret
      rw [← unhide HIN]
      refine ⟨s, rfl, _, _, unhide HD, fun b hb => ?_, unhide HF⟩
      rcases hb with e | e | e
      · rw [e]; exact unhide HWS
      · exact unhide HB b e
      · simp [Value.ownBlock] at e
end Go.Proofs.Ytgodlfoidjeekaa

namespace Go.Proofs.Ytgodlfoidjeekaa
set_option linter.unusedVariables false
set_option linter.unusedSimpArgs false
open Go.RowKit
set_option linter.unusedVariables false
set_option linter.unusedSimpArgs false

attribute [local go_sem ↓] Go.wp_at_zero Go.wp_at_succ

/-- A superblock. -/
structure Su where
  g : Nat
  b : Nat
  p : Nat
  l : Nat
  x : Nat
  y : Nat
def Su.vs (u : Su) : List Value := [.int .u64 (u.g : Int), .int .u64 (u.b : Int), .int .u64 (u.p : Int), .int .u64 (u.l : Int), .int .u64 (u.x : Int), .int .u64 (u.y : Int)]
def Su.Ok (u : Su) : Prop := u.g ≤ 4611686018427387904 ∧ u.b ≤ 4611686018427387904 ∧ u.p ≤ 4611686018427387904 ∧ u.l ≤ 4611686018427387904 ∧ u.x ≤ 4611686018427387904 ∧ u.y ≤ 4611686018427387904
/-- A mark: where a transaction ends, its boot, its serial. -/
structure Mk where
  e : Nat
  b : Nat
  s : Nat
def mC (m : Mk) : List Value := [.int .u64 (m.e : Int), .int .u64 (m.b : Int), .int .u64 (m.s : Int)]
def mF (L : List Mk) : List Value := (L.map mC).flatten
theorem mF_len (L : List Mk) : (mF L).length = L.length * 3 := flat2_len mC 3 (fun _ => rfl) L
theorem mF_get (L : List Mk) (i j : Nat) (hi : i < L.length) (hj : j < 3) : (mF L)[i * 3 + j]? = (mC L[i])[j]? := flat2_get mC 3 (fun _ => rfl) L i j hi hj

/-- The journal, plainly. -/
structure Jn where
  first : Nat
  ring : Nat
  sup : Su
  live : List Mk
  serial : Nat
  synced : Nat
/-- Positions rise. -/
def rise : Nat → List Mk → Prop
  | _, [] => True
  | p, m :: r => p < m.e ∧ rise m.e r
/-- The last mark. -/
def Jn.last (J : Jn) : Mk := J.live.getLast?.getD ⟨J.sup.p, J.sup.x, J.sup.y⟩
def Jn.nd (J : Jn) : Nat := J.last.e
def Jn.room (J : Jn) : Nat := J.ring - (J.nd - J.sup.p)
def Jn.blk (J : Jn) (p : Nat) : Nat := J.first + 2 + p % J.ring
def Jn.lst (J : Jn) : Nat := J.sup.l + J.live.length

structure Jn.Ok (J : Jn) (n : Nat) : Prop where
  place : J.first + 2 + J.ring ≤ n ∧ n ≤ 1000
  ring : 4 ≤ J.ring
  sup : J.sup.Ok
  marks : ∀ m ∈ J.live, m.e ≤ 4611686018427389904 ∧ m.b ≤ 4611686018427387904 ∧ m.s ≤ 4611686018427387904
  up : rise J.sup.p J.live
  full : J.nd ≤ J.sup.p + J.ring
  serial : J.serial ≤ 4611686018427387904
  synced : J.synced ≤ 4611686018427389904

theorem rise_len (L : List Mk) : ∀ p m, rise p L → L.getLast? = some m → p + L.length ≤ m.e := by
  induction L with
  | nil => intro p m _ h; simp at h
  | cons a r ih =>
    intro p m h hl
    obtain ⟨h1, h2⟩ := h
    cases r with
    | nil => simp at hl; subst hl; simp; omega
    | cons c r =>
      have := ih a.e m h2 (by simpa using hl)
      simp only [List.length_cons] at this ⊢
      omega
theorem Jn.Ok.nd {J : Jn} {n : Nat} (h : J.Ok n) : J.sup.p + J.live.length ≤ J.nd ∧ J.live.length ≤ 1000 ∧ J.nd ≤ 4611686018427389904 ∧ J.last.b ≤ 4611686018427387904 ∧ J.last.s ≤ 4611686018427387904 := by
  have h1 := h.place
  have h2 := h.full
  have h3 := h.sup
  unfold Su.Ok at h3
  unfold Jn.nd Jn.last at *
  cases e : J.live.getLast? with
  | none =>
    have : J.live = [] := by simpa using e
    rw [e] at h2
    simp only [Option.getD_none] at h2 ⊢
    rw [this]; simp; omega
  | some m =>
    have h4 := rise_len _ _ _ h.up e
    have h5 := h.marks m (List.mem_of_getLast? e)
    rw [e] at h2
    simp only [Option.getD_some] at h2 ⊢
    omega

/-- The journal in memory: j the struct, s its device, mv its marks. -/
structure JAt (w : World) (j s : Nat) (mv : Value) (J : Jn) : Prop where
  heap : w.heap[j]? = some (.cells #[.iface 64 (.pointer (some ⟨s, 0, none⟩)), .int .i64 (J.first : Int), .int .i64 (J.ring : Int), .int .u64 (J.sup.g : Int), .int .u64 (J.sup.b : Int), .int .u64 (J.sup.p : Int), .int .u64 (J.sup.l : Int), .int .u64 (J.sup.x : Int), .int .u64 (J.sup.y : Int), mv, .int .u64 (J.serial : Int), .int .u64 (J.synced : Int)] 115 (0, 0))
  mks : w.ownsRow 0 130 3 mv J.live.length (mF J.live)
def JB (j : Nat) (mv : Value) (k : Nat) : Prop := k = j ∨ mv.ownBlock = some k
def KJ (n : Nat) : Prop := n = 115 ∨ n = 130

section
variable {w w' : World} {j s : Nat} {mv : Value} {J : Jn}
theorem JAt.knds (h : JAt w j s mv J) {k : Nat} (hk : JB j mv k) : KJ (knd w k) := by
  rcases hk with rfl | hk
  · exact .inl (knd_cells h.heap)
  · exact .inr (knd_owns h.mks hk)
theorem JAt.kept (h : JAt w j s mv J) {S : Nat → Prop} (f : Fr S w w') (hs : ∀ k, JB j mv k → ¬ S k) : JAt w' j s mv J :=
  ⟨by rw [f.block j (lt_of_heap h.heap) (hs j (.inl rfl))]; exact h.heap, owns_kept h.mks f (fun b hb => hs b (.inr hb))⟩
theorem JAt.kept0 (h : JAt w j s mv J) (f : Fr (fun _ => False) w w') : JAt w' j s mv J := h.kept f (fun _ _ e => e)
theorem JAt.lt (h : JAt w j s mv J) {k : Nat} (hk : JB j mv k) : k < w.heap.size := by
  rcases hk with rfl | hk
  · exact lt_of_heap h.heap
  · exact owns_ltB h.mks hk
theorem JAt.ne (h : JAt w j s mv J) : ∀ b, mv.ownBlock = some b → b ≠ j := by
  intro b hb e
  subst e
  have := knd_owns h.mks hb
  rw [knd_cells h.heap] at this
  omega
theorem not_KD_KJ {n : Nat} (h : KJ n) : ¬ KD n := by unfold KJ at h; unfold KD; omega
theorem JAt.at (h : JAt w j s mv J) (i : Nat) (hi : i < J.live.length) : ∃ g cap, mv = .slice (some ⟨g, 0, none⟩) J.live.length cap ∧ J.live.length ≤ cap ∧ cap ≤ maxLen ∧ w.rangeAt g (i * 3) (mC J.live[i]) := by
  obtain ⟨g, cap, rfl, h1, h2⟩ := owns_lit h.mks (by omega)
  refine ⟨g, cap, rfl, h1, h2, fun k v hv => ?_⟩
  have hk : k < 3 := by have := (List.getElem?_eq_some_iff.1 hv).1; simpa [mC] using this
  rw [(owns_cells h.mks (i * 3 + k) (by rw [mF_len]; omega)).1, mF_get J.live i k hi hk]
  exact hv
end

theorem wrapU (n : Nat) (h : n < 18446744073709551616) : IntKind.u64.wrap (n : Int) = (n : Int) := by
  simp [IntKind.wrap, IntKind.signed, IntKind.bits]; omega

section
variable (w : World) (j s : Nat) (mv : Value) (J : Jn)
theorem none_any (h : JAt w j s mv J) : Calls Try.prog 73 #[.pointer (some ⟨j, 0, none⟩)] w fun e w' => e = .returned (.bool false) ∧ w = w' := by
  have c0 := cell_of_heap h.heap 0
  simp at c0
  clear h
  go_enter Try.func73, Try.ntmps73
  go_wp2_with fail
  go_ret
  exact ⟨rfl, rfl⟩
theorem none_nil (w : World) : Calls Try.prog 73 #[.pointer none] w fun e w' => e = .returned (.bool true) ∧ w = w' := by
  go_enter Try.func73, Try.ntmps73
  go_wp2_with fail
  go_ret
  exact ⟨rfl, rfl⟩

/-- A struct that is returned. -/
theorem ret_cR (ty k : Nat) (fs : _) (hu : Try.prog.underlying ty = some (.struct fs)) (hi : (Try.prog.info? ty).map (·.size) = some k) {fn : Func} {p : Tmp} {R : Ending → World → Prop} {a : Act} {w : World} (n : Nat) (c : Array Value) (t : Nat) (h : fn.results = #[.cell p ty]) (hp : a.tmps.getD p undef = .pointer (some ⟨n, 0, none⟩)) (hd : a.defers = []) (hh : w.heap[n]? = some (.cells c t (0, 0))) (hc : c.size = k) (hR : R (.returned (.agg c)) w) : bodyPost Try.prog fn R .ret a w := by
  have hr : row? w n = some c := by unfold row?; rw [hh]; rfl
  have := load_row ty k fs hu hi w n (by rw [hr]; simp [hc])
  rw [hr] at this
  exact ret_c h hp hd this hR
def Mk.v (m : Mk) : Value := .agg #[.int .u64 (m.e : Int), .int .u64 (m.b : Int), .int .u64 (m.s : Int)]
set_option maxHeartbeats 1000000 in
set_option maxRecDepth 100000 in
theorem lastMark_any (h : JAt w j s mv J) (hl : J.live.length ≤ 1000) : Calls Try.prog 87 #[.pointer (some ⟨j, 0, none⟩)] w fun e w' => e = .returned J.last.v ∧ Fr (fun _ => False) w w' := by
  have hj := lt_of_heap h.heap
  have hA : (w.alloc (.cells #[.int .u64 0, .int .u64 0, .int .u64 0] 130)).heap[w.heap.size]? = some (.cells #[.int .u64 0, .int .u64 0, .int .u64 0] 130 (0, 0)) := heap_alloc_new w _
  have fA : Fr (fun _ => False) w (w.alloc (.cells #[.int .u64 0, .int .u64 0, .int .u64 0] 130)) := (Fr.refl _ _).alloc _
  obtain ⟨w1, hw1⟩ : ∃ w1, w1 = w.alloc (.cells #[.int .u64 0, .int .u64 0, .int .u64 0] 130) := ⟨_, rfl⟩
  rw [← hw1] at hA fA
  have H1 := hide (h.kept0 fA)
  obtain ⟨mo, mc, rfl⟩ := owns_shape h.mks
  have c5 := cell_of_heap (unhide H1).heap 5
  have c7 := cell_of_heap (unhide H1).heap 7
  have c8 := cell_of_heap (unhide H1).heap 8
  have c9 := cell_of_heap (unhide H1).heap 9
  simp at c5 c7 c8 c9
  have HA := hide hA
  have FA := hide fA
  clear h hA fA
  by_cases h0 : J.live.length = 0
  · have hlast : J.last = ⟨J.sup.p, J.sup.x, J.sup.y⟩ := by
      have : J.live = [] := List.eq_nil_of_length_eq_zero h0
      unfold Jn.last; rw [this]; rfl
    rw [hlast]
    rw [h0] at c9 H1
    clear hlast h0 hl H1
    unfold Mk.v
    dsimp only
    generalize J.sup.p = p at *
    generalize J.sup.x = x at *
    generalize J.sup.y = y at *
    go_enter Try.func87, Try.ntmps87
    go_upto_region 1 with fail
    rw [← hw1]
    clear hw1
    obtain ⟨n0, hn0⟩ : ∃ n0, n0 = w.heap.size := ⟨_, rfl⟩
    rw [← hn0] at HA ⊢
    have hn0' : w.heap.size ≤ n0 := by omega
    clear hn0
    have hn0 := hn0'
    clear hn0'
    go_wp2_with fail
    refine wp_region_quietTail 15 (by kernel_rfl) (by kernel_rfl) ?_
    simp only [List.take_succ_cons, List.take_zero]
    repeat (go_big_quiet_step (fail))
    refine wpQuiet_nil ?_
    intro _ hw'
    obtain ⟨nq, hw''⟩ := hw'
    subst hw''
    simp only [List.drop_succ_cons, List.drop_zero]
    have fq : Fr (fun _ => False) w1 (w1.drewN nq) := Fr.ofDrewN _ _
    have hh : (w1.drewN nq).heap[n0]? = some (.cells #[.int .u64 0, .int .u64 0, .int .u64 0] 130 (0, 0)) := (fq.block _ (lt_of_heap (unhide HA)) id).trans (unhide HA)
    generalize w1.drewN nq = w2 at *
    go_wp2_with (first | (refine wl_storeR 130 3 (by kernel_rfl) (.tmp 2) (.tmp 34) rfl rfl n0 rfl _ rfl _ 130 hh rfl rfl (by simp [Value.oneCell']) ?_; intro w5 hw5))
    have f5 : Fr (fun k => w.heap.size ≤ k) w2 w5 := by rw [hw5]; exact Fr.setRow_one _ _ (by simpa using hn0)
    have h5 := setRow_at hh #[.int .u64 (p : Int), .int .u64 (x : Int), .int .u64 (y : Int)]
    rw [← hw5] at h5
    have F5 : Hid (Fr (fun _ => False) w w5) := hide ((((unhide FA).trans fq (fun _ _ e => e)).mono (fun _ _ e => e.elim) |>.trans f5 (fun k hk e => e)).mono (fun k hk e => by omega))
    clear hw5 f5
    refine ret_cR 130 3 _ Try.underlying130 (by kernel_rfl) n0 _ 130 rfl rfl rfl h5 rfl ?_
    exact ⟨rfl, unhide F5⟩
  · obtain ⟨i, hi⟩ : ∃ i, J.live.length = i + 1 := ⟨J.live.length - 1, by omega⟩
    have hil : i < J.live.length := by omega
    have hlast : J.last = J.live[i] := by
      unfold Jn.last
      rw [List.getLast?_eq_getElem?, hi, Nat.add_sub_cancel, List.getElem?_eq_getElem hil]
      rfl
    obtain ⟨g, cap, hv, h1, -, hrg⟩ := (unhide H1).at i hil
    simp only [Value.slice.injEq, true_and] at hv
    obtain ⟨rfl, rfl⟩ := hv
    rw [hlast]
    rw [hi] at c9 h1
    have hicap : i < mc := by omega
    have HRG := hide hrg
    have hi1000 : i ≤ 1000 := by omega
    clear hrg hlast h0 hl H1 c5 c7 c8
    generalize J.live[i] = m at *
    clear hi hil
    unfold Mk.v
    go_enter Try.func87, Try.ntmps87
    go_upto_region 1 with fail
    rw [← hw1]
    clear hw1
    generalize hn00 : w.heap.size = n0 at *
    have hh := unhide HA
    go_wp2_with (first | (refine wpList_load_mid rfl 130 (.tmp 17) rfl g (i * 3) rfl (mC m) _ (unhide HRG) Try.underlying130 rfl (by kernel_rfl) ?_) | (refine wl_storeR 130 3 (by kernel_rfl) (.tmp 2) (.tmp 18) rfl rfl n0 rfl _ rfl _ 130 hh rfl rfl (by simp [Value.oneCell', mC]) ?_; intro w5 hw5))
    have f5 : Fr (fun k => w.heap.size ≤ k) w1 w5 := by rw [hw5]; exact Fr.setRow_one _ _ (by simpa using (by omega : w.heap.size ≤ n0))
    have h5 := setRow_at hh (mC m).toArray
    rw [← hw5] at h5
    have F5 : Hid (Fr (fun _ => False) w w5) := hide ((((unhide FA).mono (fun _ _ e => e.elim)).trans f5 (fun k hk e => e)).mono (fun k hk e => by omega))
    clear hw5 f5
    refine ret_cR 130 3 _ Try.underlying130 (by kernel_rfl) n0 _ 130 rfl rfl rfl h5 rfl ?_
    exact ⟨rfl, unhide F5⟩
end
end Go.Proofs.Ytgodlfoidjeekaa
