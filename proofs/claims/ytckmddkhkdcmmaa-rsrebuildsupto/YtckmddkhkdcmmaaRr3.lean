/-
  The walk of the document's Rebuild, where there are as many shards as it asks.
-/
import Derived.Test.YtckmddkhkdcmmaaRr2
namespace Go.Proofs.Ytckmddkhkdcmmaa
open Go.RowKit
set_option linter.unusedVariables false
set_option linter.unusedSimpArgs false

attribute [local go_sem ↓] Go.wp_at_zero Go.wp_at_succ

/-- A part of a slice. -/
theorem Rd.partR {w : World} {ao : Option Addr} {n cap : Nat} {l : List UInt8} (h : Rd w (.slice ao n cap) l) (a k : Nat) (hle : a + k ≤ l.length) (ha : ∀ ad, ao = some ad → ad.spot = none) : Rd w (.slice (ao.map (fun ad => ⟨ad.block, ad.off + a, none⟩)) k (cap - a)) ((l.drop a).take k) := by
  have hlen : ((l.drop a).take k).length = k := by simp; omega
  rcases h with ⟨hv, rfl⟩ | ⟨ad, cap', hv, h1, h2, h3⟩
  · simp only [Value.slice.injEq] at hv
    obtain ⟨rfl, -, rfl⟩ := hv
    simp at hle
    obtain ⟨rfl, rfl⟩ := hle
    exact .inl ⟨rfl, by simp⟩
  · simp only [Value.slice.injEq] at hv
    obtain ⟨rfl, -, rfl⟩ := hv
    refine .inr ⟨⟨ad.block, ad.off + a, none⟩, cap - a, by rw [hlen]; rfl, by omega, by omega, fun j hj => ?_⟩
    rw [hlen] at hj
    obtain ⟨b, o, s⟩ := ad
    have hs := ha _ rfl
    simp only at hs
    subst hs
    have := h3 (a + j) (by omega)
    rw [Addr.add_lit] at this ⊢
    rw [Nat.add_assoc, this]
    simp

/-- The matrix at hand behind the store, at slot 14. -/
def StM (N g : Nat) (F : Nat → Nat → UInt8) (k : Nat) (a : Act) (w : World) : Prop := k = 0 ∨ ∃ M q cap, a.tmps.getD 14 undef = .pointer (some ⟨M, 0, none⟩) ∧ N ≤ M ∧ XAt w M q g g cap F
theorem StM.keep {N g : Nat} {F : Nat → Nat → UInt8} {k d : Nat} {a : Act} {w w' : World} {v : Value} (h : StM N g F k a w) (hd : d ≠ 14) (f : Fr (fun _ => False) w w') : StM N g F k (a.put (some d) v) w' := by
  rcases h with h | ⟨M, q, cap, e, hN, hX⟩
  · exact .inl h
  · exact .inr ⟨M, q, cap, by rw [put_getD hd]; exact e, hN, hX.keptF f⟩
theorem wp_val {P : Program} {o : Oper} {a : Act} {w : World} {K : Act → World → Prop} {Q : Exit → Act → World → Prop} (v : Value) (h : (execOp a.eval o).run P w = .ok (.value v) w) (hK : K (a.put o.dst v) w) : o.wp P a w K Q := by
  unfold Oper.wp
  rw [h, Oper.upon_value]
  exact hK
theorem ex_callF {o : Oper} {a : Act} {w : World} {Q : Exit → Act → World → Prop} {i : Nat} {T : Nat → Value → World → Prop} (k : Nat) (args : Array Value) (h : (execOp a.eval o).run Try.prog w = .ok (.enter k args) w)
    (hc : Calls Try.prog k args w fun e w' => (∃ v, e = .returned v ∧ T i v w') ∧ Fr (fun _ => False) w w') : o.wp Try.prog a w (fun a'' w'' => ∃ v, a'' = a.put o.dst v ∧ T i v w'' ∧ Fr (fun _ => False) w w'') Q := by
  unfold Oper.wp
  rw [h, Oper.upon_enter]
  refine hc.mono ?_
  rintro e w' ⟨⟨v, rfl, hT⟩, f⟩
  exact ⟨v, rfl, hT, f⟩

set_option maxHeartbeats 8000000 in
set_option maxRecDepth 100000 in
theorem rreb_len (w : World) (p k m : Nat) (v hv : Value) (ls : List (List UInt8)) (bs : List Bool) (hD : DAt w p k m) (hk : 1 ≤ k ∧ k ≤ 16) (hm : m ≤ 8) (h : RdL w v ls) (hb : RdV w hv (bs.map Value.bool)) (hls : ls.length = k + m) (hbs : bs.length = k + m) :
    Calls Try.prog 53 #[.pointer (some ⟨p, 0, none⟩), v, hv] w fun e w' => (∃ po pn pc, e = .returned (.tuple #[.slice po pn pc, .int .i64 (rebE k m ls bs)]) ∧ LN w.heap.size w' (.slice po pn pc) (rebR k m ls bs)) ∧ Fr (fun _ => False) w w' := by
  have hplt := lt_of_heap hD
  have c0 := cell_of_heap hD 0
  have c1 := cell_of_heap hD 1
  simp at c0 c1
  obtain ⟨vs, hV, hvl, hrow⟩ := h
  obtain ⟨vo, vc, rfl⟩ := hV.shape
  obtain ⟨bo, bc, rfl⟩ := hb.shape
  rw [List.length_map] at hb ⊢
  obtain ⟨a, ha⟩ : ∃ a, a = k + m := ⟨_, rfl⟩
  have hva : vs.length = a := by omega
  have hba : bs.length = a := by omega
  have hla : ls.length = a := by omega
  have ea : (k : Int) + (m : Int) = ((a : Nat) : Int) := by omega
  have ha24 : a ≤ 24 := by omega
  have hone : ∀ (i : Nat) (x : Value), vs[i]? = some x → ∃ xo xc, x = .slice xo (ls[i]?.getD []).length xc := by
    intro i x hx
    have hi := (List.getElem?_eq_some_iff.1 hx).1
    have hi2 : i < ls.length := by omega
    have := hrow i x (ls[i]) hx (List.getElem?_eq_getElem _)
    obtain ⟨a1, a2, rfl⟩ := this.shape
    exact ⟨a1, a2, by rw [List.getElem?_eq_getElem hi2]; rfl⟩
  obtain ⟨inf, hi0, hz0, hz1, hz2⟩ := info_parts Try.info22
  obtain ⟨inf5, hi5, hy0, hy1, hy2⟩ := info_parts Try.info5
  have HV := hide hV
  have HB := hide hb
  have HR := hide hrow
  have HO := hide hone
  have HD := hide hD
  have HLEN := hide (And.intro hls hbs)
  have HVA := hide hva
  have HBA := hide hba
  have HLA := hide hla
  have HA := hide ha
  rw [hva] at HV ⊢
  rw [hba] at HB ⊢
  clear hV hb hrow hone hD hls hbs hva hba hla ha hvl
  go_enter Try.func53, Try.ntmps53
  go_wp2_with fail
  go_quiet (fail)
  go_wp2_with fail
  have HF0 := hide (Fr.ofDrewN (S := fun _ => False) w nq)
  have hd0 : ∀ W, Fr (fun _ => False) w W → W.cell? ⟨p, 0, none⟩ = some (.int .i64 (k : Int)) := fun W f => (f.cell (a := ⟨p, 0, none⟩) hplt id).trans c0
  have HD0 := hide hd0
  generalize w.drewN nq = w1 at *
  clear c0 c1 hd0
  go_loopw [9, 10, 11, 12, 13] (fun xn xc xg xk xi w' => ∃ (i : Nat) (nn : Int) (co cc go gc : _), i ≤ a ∧ xi = .int .i64 (i : Int) ∧ xk = .int .i64 (((wlK bs i).length : Nat) : Int) ∧ xn = .int .i64 nn ∧ NN ls (wlK bs i) nn ∧
      xc = .slice co (rwL k ((wlK bs i).take k)).length cc ∧ w'.ownsRow 0 5 1 (.slice co (rwL k ((wlK bs i).take k)).length cc) (rwL k ((wlK bs i).take k)).length (bvs (rwL k ((wlK bs i).take k))) ∧ (∀ b, (Value.slice co (rwL k ((wlK bs i).take k)).length cc).ownBlock = some b → w.heap.size ≤ b) ∧
      xg = .slice go ((wlK bs i).take k).length gc ∧ w'.ownsRow 0 22 1 (.slice go ((wlK bs i).take k).length gc) ((wlK bs i).take k).length (vals vs ((wlK bs i).take k)) ∧ (∀ b, (Value.slice go ((wlK bs i).take k).length gc).ownBlock = some b → w.heap.size ≤ b) ∧ Fr (fun _ => False) w w') (fun _ _ _ _ xi _ => a - (intOf xi).toNat)
  case atStart =>
    have h00 : (wlK bs 0).take k = [] := by simp [wlK]
    refine ⟨0, -1, none, 0, none, 0, Nat.zero_le _, rfl, rfl, rfl, .inl ⟨rfl, rfl⟩, ?_⟩
    rw [h00]
    exact ⟨rfl, owns_nilE w1 5, fun b hb => by simp [Value.ownBlock] at hb, rfl, owns_nilE w1 22, fun b hb => by simp [Value.ownBlock] at hb, unhide HF0⟩
  case round =>
    obtain ⟨i, nn, co, cc, go, gc, hi, rfl, rfl, rfl, hNN, rfl, hO5, hN5, rfl, hO22, hN22, hF⟩ := hrel
    have HO5 := hide hO5
    have HN5 := hide hN5
    have HO22 := hide hO22
    have HN22 := hide hN22
    have HF := hide hF
    have HNN := hide hNN
    clear hO5 hN5 hO22 hN22
    have hwle := wlK_le bs i
    have htl : ((wlK bs i).take k).length = min k (wlK bs i).length := List.length_take
    have hrl := rwL_length k ((wlK bs i).take k)
    obtain ⟨g, hg⟩ : ∃ g, g = ((wlK bs i).take k).length := ⟨_, rfl⟩
    obtain ⟨cn, hcn⟩ : ∃ cn, cn = (wlK bs i).length := ⟨_, rfl⟩
    obtain ⟨L5, hL5⟩ : ∃ L5, L5 = (rwL k ((wlK bs i).take k)).length := ⟨_, rfl⟩
    rw [← hL5] at HO5 HN5 ⊢
    rw [← hg] at HO22 HN22 ⊢
    rw [← hcn] at hwle htl ⊢
    rw [← hg] at htl
    rw [← hL5, ← hg] at hrl
    have hgk : g ≤ 16 := by omega
    have hL5s : L5 ≤ 256 := by rw [hrl]; exact Nat.mul_le_mul hgk hk.2
    have HG := hide (And.intro hg (And.intro hcn (And.intro hL5 htl)))
    clear hg hcn hL5 hrl htl
    by_cases hia : i < a
    · have hiai : (i : Int) < (a : Int) := by omega
      obtain ⟨b, o, rfl, -, -, -, hcv⟩ := ((unhide HV).kept hF (fun _ _ h => h)).lits (by have := unhide HVA; omega)
      obtain ⟨b2, o2, rfl, -, -, -, hcb⟩ := ((unhide HB).kept hF (fun _ _ h => h)).lits (by have := unhide HBA; simp; omega)
      have hib : i < bs.length := by have := unhide HBA; omega
      have hiv : i < vs.length := by have := unhide HVA; omega
      have x1 := hcv i hiv
      have x2 := hcb i (by simpa using hib)
      rw [List.getElem_map] at x2
      obtain ⟨xo, xc, hxs⟩ := unhide HO i vs[i] (List.getElem?_eq_getElem _)
      have hbi : bs[i]?.getD false = bs[i] := by rw [List.getElem?_eq_getElem hib]; rfl
      have hxi : vs[i]?.getD (.slice none 0 0) = vs[i] := by rw [List.getElem?_eq_getElem hiv]; rfl
      rw [hxs] at x1 hxi
      have HXI := hide hxi
      obtain ⟨xl, hxl⟩ : ∃ xl, xl = (ls[i]?.getD []).length := ⟨_, rfl⟩
      rw [← hxl] at x1 HXI
      have HXL := hide hxl
      have hd0 := unhide HD0 wr hF
      clear hcv hcb hxs hxi hxl
      rcases hbv : bs[i] with _ | _
      · rw [hbv] at hbi x2
        have HW := hide (wlK_no hbi)
        clear hbi hbv hF hNN
        go_wp2_with fail
        go_roundw
        case rel =>
          obtain ⟨hg, hcn, hL5, -⟩ := unhide HG
          refine ⟨i + 1, nn, co, cc, go, gc, by omega, by go_num, ?_⟩
          rw [unhide HW, ← hg, ← hcn, ← hL5]
          exact ⟨rfl, rfl, unhide HNN, rfl, unhide HO5, unhide HN5, rfl, unhide HO22, unhide HN22, unhide HF⟩
        case measure => simp [intOf]; omega
      · rw [hbv] at hbi x2
        have HW := hide (wlK_yes hbi)
        have HBI := hide hbi
        have hpr : p < wr.heap.size := Nat.lt_of_lt_of_le hplt hF.size
        clear hbi hbv hF
        have hnn : (nn = -1) ∨ ∃ c : Nat, nn = (c : Int) := by
          rcases hNN with ⟨-, h⟩ | ⟨c, h, -⟩
          · exact .inl h
          · exact .inr ⟨c, h⟩
        by_cases hbad : ∃ c : Nat, nn = (c : Int) ∧ xl ≠ c
        · obtain ⟨c, rfl, hne⟩ := hbad
          have hsh : shl (hl ls bs) ((wl bs).length : Int) = (0, 2) := by
            rcases hNN with ⟨-, h⟩ | ⟨c', h, h1, h2⟩
            · omega
            · obtain rfl : c' = c := by omega
              exact NN.two hib (unhide HBI) h1 h2 (by rw [← unhide HXL]; exact hne)
          have hre := reb_bad (unhide HLEN) (by rw [hsh]; decide)
          rw [hsh] at hre
          have HRE := hide hre
          have q1 : (0 : Int) ≤ (c : Int) := by omega
          have q2 : (((xl : Nat) : Int) != (c : Int)) = true := by simp only [bne_iff_ne, ne_eq]; omega
          clear hNN hnn hsh hre hne
          go_wp2_with fail
          go_ret2
          exact ⟨⟨none, 0, 0, by rw [(unhide HRE).2]; rfl, by rw [(unhide HRE).1]; exact LN.none _ _⟩, unhide HF⟩
        · have hNN2 : NN ls (wlK bs (i + 1)) ((xl : Nat) : Int) := by
            refine .inr ⟨xl, rfl, by rw [unhide HW]; simp, fun j hj => ?_⟩
            rw [unhide HW, List.mem_append] at hj
            rcases hj with hj | hj
            · rcases hNN with ⟨h, -⟩ | ⟨c, h1, -, h2⟩
              · rw [h] at hj; simp at hj
              · rw [h2 j hj]
                rcases Nat.decEq xl c with h | h
                · exact absurd ⟨c, h1, h⟩ hbad
                · exact h.symm
            · simp at hj; subst hj; exact (unhide HXL).symm
          have HNN2 := hide hNN2
          have hq : (nn = -1) ∨ nn = ((xl : Nat) : Int) := by
            rcases hnn with h | ⟨c, h⟩
            · exact .inl h
            · refine .inr ?_
              rcases Nat.decEq xl c with h' | h'
              · exact absurd ⟨c, h, h'⟩ hbad
              · rw [h, h']
          clear hNN hNN2 hnn hbad HNN
          by_cases hgl : g < k
          · have hgi : (g : Int) < (k : Int) := by omega
            rcases hq with rfl | rfl
            · have q1 : ¬ (0 : Int) ≤ -1 := by omega
              go_wp2_with (at_builtin; refine wpList_app rfl (.tmp 74) (.tmp 79) 65 rfl 22 inf _ 1 24 Try.underlying65 hi0 hz0 hz1 hz2 rfl (by decide) (.slice go g gc) g (vals vs ((wlK bs i).take k)) rfl (.slice (some ⟨wr.heap.size, 0, none⟩) 1 1) rfl 1 [.slice xo xl xc] ((unhide HO22).alloc _) (one_cellV wr _ 22) (fun u hu => by simp at hu; subst hu; rfl) (by omega) (by simp only [maxLen]; omega) ?_)
              intro go2 gc2 w2 o2' hg2 hpl2
              have f2 : Fr (fun k => (Value.slice go g gc).ownBlock = some k) wr w2 := Fr.grown (S := fun k => (Value.slice go g gc).ownBlock = some k) (w := wr.alloc _) ((Fr.refl _ _).alloc _) hg2 (fun k hk e => e)
              have hO5b := owns_kept (unhide HO5) f2 (fun k hk => owns_apart (unhide HO5) (unhide HO22) (by decide) hk)
              have F2 : Fr (fun _ => False) w w2 := (unhide HF).trans f2 (fun k hk e => by have := unhide HN22 k e; omega)
              have hn1 : ∀ b, (Value.slice go2 (g + 1) gc2).ownBlock = some b → w.heap.size ≤ b := by
                intro b hb
                rcases hpl2 with e | ⟨k', e, hk'⟩
                · rw [e] at hb; exact unhide HN22 b hb
                · rw [e] at hb
                  have z1 := (unhide HF).size
                  simp at hb hk'
                  omega
              have HO22' := hide o2'
              have HO5' := hide hO5b
              have HF2 := hide F2
              have HN22' := hide hn1
              have hd2 := unhide HD0 w2 F2
              have HROW := hide (rRow_ok w2 p k m i ((unhide HD).kept F2 id) hk hm (by have := unhide HA; omega))
              clear o2' hg2 hpl2 f2 hO5b F2 hn1
              go_wp2_with fail
              refine (unhide HROW).mono ?_
              rintro e w3 ⟨⟨q3, rfl, hq3, hB3⟩, f3⟩
              have hR3 := hB3.rd (by rw [rowL_length]; simp only [maxLen]; omega)
              rw [rowL_length] at hR3
              have HO5'' := hide (owns_kept (unhide HO5') f3 (fun _ _ h => h))
              have HO22'' := hide (owns_kept (unhide HO22') f3 (fun _ _ h => h))
              have HF3 := hide ((unhide HF2).trans f3 (fun _ _ h => h))
              have hsr : Sr w3 1 (.slice (some ⟨q3, 0, none⟩) k k) k (bvs (rowL k i)) := by have := hR3.sr; rwa [rowL_length] at this
              have HSR := hide hsr
              clear HROW hB3 f3 hR3 HO5' HO22' hsr
              go_wp2_with (at_builtin; refine wpList_app rfl (.tmp 81) (.tmp 84) 22 rfl 5 inf5 _ 1 1 Try.underlying22 hi5 hy0 hy1 hy2 rfl (by decide) (.slice co L5 cc) L5 (bvs (rwL k ((wlK bs i).take k))) rfl (.slice (some ⟨q3, 0, none⟩) k k) rfl k (bvs (rowL k i)) (unhide HO5'') (unhide HSR) (bvs_one _) (by omega) (by simp only [maxLen]; omega) ?_)
              intro co3 cc3 w4 o4 hg4 hpl4
              have f4 : Fr (fun k => (Value.slice co L5 cc).ownBlock = some k) w3 w4 := Fr.grown (S := fun k => (Value.slice co L5 cc).ownBlock = some k) (Fr.refl _ _) hg4 (fun k hk e => e)
              have hO22c := owns_kept (unhide HO22'') f4 (fun k hk => owns_apart (unhide HO22'') (unhide HO5'') (by decide) hk)
              have F4 : Fr (fun _ => False) w w4 := (unhide HF3).trans f4 (fun k hk e => by have := unhide HN5 k e; omega)
              have hn5 : ∀ b, (Value.slice co3 (L5 + k) cc3).ownBlock = some b → w.heap.size ≤ b := by
                intro b hb
                rcases hpl4 with e | ⟨k', e, hk'⟩
                · rw [e] at hb; exact unhide HN5 b hb
                · rw [e] at hb
                  have z1 := (unhide HF3).size
                  simp at hb hk'
                  omega
              have HO5f := hide o4
              have HO22f := hide hO22c
              have HF4 := hide F4
              have HN5' := hide hn5
              clear o4 hg4 hpl4 f4 hO22c F4 hn5
              go_wp2_with fail
              go_roundw
              case rel =>
                obtain ⟨hg, hcn, hL5, htl'⟩ := unhide HG
                have ht : (wlK bs (i + 1)).take k = (wlK bs i).take k ++ [i] := by
                  rw [unhide HW, List.take_append, List.take_of_length_le (show (wlK bs i).length ≤ k by omega)]
                  rw [List.take_of_length_le (show [i].length ≤ k - (wlK bs i).length by simp; omega)]
                have hl9 : ((wlK bs (i + 1)).take k).length = g + 1 := by rw [ht, List.length_append, ← hg]; rfl
                have hl8 : (wlK bs (i + 1)).length = cn + 1 := by rw [unhide HW, List.length_append, ← hcn]; rfl
                have hl7 : rwL k ((wlK bs (i + 1)).take k) = rwL k ((wlK bs i).take k) ++ rowL k i := by rw [ht, rwL_snoc]
                have hl6 : (rwL k ((wlK bs (i + 1)).take k)).length = L5 + k := by rw [hl7, List.length_append, ← hL5, rowL_length]
                have e1 : vals vs ((wlK bs (i + 1)).take k) = vals vs ((wlK bs i).take k) ++ [.slice xo xl xc] := by rw [ht]; unfold vals; rw [List.map_append]; simp [unhide HXI]
                refine ⟨i + 1, ((xl : Nat) : Int), co3, cc3, go2, gc2, by omega, by go_num, ?_⟩
                rw [hl6, hl9, hl8, e1, hl7, bvs_append]
                exact ⟨by go_num, rfl, unhide HNN2, rfl, unhide HO5f, unhide HN5', rfl, unhide HO22f, unhide HN22', unhide HF4⟩
              case measure => simp [intOf]; omega
            · have q1 : (0 : Int) ≤ ((xl : Nat) : Int) := by omega
              have q2 : (((xl : Nat) : Int) != ((xl : Nat) : Int)) = false := by simp
              go_wp2_with (at_builtin; refine wpList_app rfl (.tmp 74) (.tmp 79) 65 rfl 22 inf _ 1 24 Try.underlying65 hi0 hz0 hz1 hz2 rfl (by decide) (.slice go g gc) g (vals vs ((wlK bs i).take k)) rfl (.slice (some ⟨wr.heap.size, 0, none⟩) 1 1) rfl 1 [.slice xo xl xc] ((unhide HO22).alloc _) (one_cellV wr _ 22) (fun u hu => by simp at hu; subst hu; rfl) (by omega) (by simp only [maxLen]; omega) ?_)
              intro go2 gc2 w2 o2' hg2 hpl2
              have f2 : Fr (fun k => (Value.slice go g gc).ownBlock = some k) wr w2 := Fr.grown (S := fun k => (Value.slice go g gc).ownBlock = some k) (w := wr.alloc _) ((Fr.refl _ _).alloc _) hg2 (fun k hk e => e)
              have hO5b := owns_kept (unhide HO5) f2 (fun k hk => owns_apart (unhide HO5) (unhide HO22) (by decide) hk)
              have F2 : Fr (fun _ => False) w w2 := (unhide HF).trans f2 (fun k hk e => by have := unhide HN22 k e; omega)
              have hn1 : ∀ b, (Value.slice go2 (g + 1) gc2).ownBlock = some b → w.heap.size ≤ b := by
                intro b hb
                rcases hpl2 with e | ⟨k', e, hk'⟩
                · rw [e] at hb; exact unhide HN22 b hb
                · rw [e] at hb
                  have z1 := (unhide HF).size
                  simp at hb hk'
                  omega
              have HO22' := hide o2'
              have HO5' := hide hO5b
              have HF2 := hide F2
              have HN22' := hide hn1
              have hd2 := unhide HD0 w2 F2
              have HROW := hide (rRow_ok w2 p k m i ((unhide HD).kept F2 id) hk hm (by have := unhide HA; omega))
              clear o2' hg2 hpl2 f2 hO5b F2 hn1
              go_wp2_with fail
              refine (unhide HROW).mono ?_
              rintro e w3 ⟨⟨q3, rfl, hq3, hB3⟩, f3⟩
              have hR3 := hB3.rd (by rw [rowL_length]; simp only [maxLen]; omega)
              rw [rowL_length] at hR3
              have HO5'' := hide (owns_kept (unhide HO5') f3 (fun _ _ h => h))
              have HO22'' := hide (owns_kept (unhide HO22') f3 (fun _ _ h => h))
              have HF3 := hide ((unhide HF2).trans f3 (fun _ _ h => h))
              have hsr : Sr w3 1 (.slice (some ⟨q3, 0, none⟩) k k) k (bvs (rowL k i)) := by have := hR3.sr; rwa [rowL_length] at this
              have HSR := hide hsr
              clear HROW hB3 f3 hR3 HO5' HO22' hsr
              go_wp2_with (at_builtin; refine wpList_app rfl (.tmp 81) (.tmp 84) 22 rfl 5 inf5 _ 1 1 Try.underlying22 hi5 hy0 hy1 hy2 rfl (by decide) (.slice co L5 cc) L5 (bvs (rwL k ((wlK bs i).take k))) rfl (.slice (some ⟨q3, 0, none⟩) k k) rfl k (bvs (rowL k i)) (unhide HO5'') (unhide HSR) (bvs_one _) (by omega) (by simp only [maxLen]; omega) ?_)
              intro co3 cc3 w4 o4 hg4 hpl4
              have f4 : Fr (fun k => (Value.slice co L5 cc).ownBlock = some k) w3 w4 := Fr.grown (S := fun k => (Value.slice co L5 cc).ownBlock = some k) (Fr.refl _ _) hg4 (fun k hk e => e)
              have hO22c := owns_kept (unhide HO22'') f4 (fun k hk => owns_apart (unhide HO22'') (unhide HO5'') (by decide) hk)
              have F4 : Fr (fun _ => False) w w4 := (unhide HF3).trans f4 (fun k hk e => by have := unhide HN5 k e; omega)
              have hn5 : ∀ b, (Value.slice co3 (L5 + k) cc3).ownBlock = some b → w.heap.size ≤ b := by
                intro b hb
                rcases hpl4 with e | ⟨k', e, hk'⟩
                · rw [e] at hb; exact unhide HN5 b hb
                · rw [e] at hb
                  have z1 := (unhide HF3).size
                  simp at hb hk'
                  omega
              have HO5f := hide o4
              have HO22f := hide hO22c
              have HF4 := hide F4
              have HN5' := hide hn5
              clear o4 hg4 hpl4 f4 hO22c F4 hn5
              go_wp2_with fail
              go_roundw
              case rel =>
                obtain ⟨hg, hcn, hL5, htl'⟩ := unhide HG
                have ht : (wlK bs (i + 1)).take k = (wlK bs i).take k ++ [i] := by
                  rw [unhide HW, List.take_append, List.take_of_length_le (show (wlK bs i).length ≤ k by omega)]
                  rw [List.take_of_length_le (show [i].length ≤ k - (wlK bs i).length by simp; omega)]
                have hl9 : ((wlK bs (i + 1)).take k).length = g + 1 := by rw [ht, List.length_append, ← hg]; rfl
                have hl8 : (wlK bs (i + 1)).length = cn + 1 := by rw [unhide HW, List.length_append, ← hcn]; rfl
                have hl7 : rwL k ((wlK bs (i + 1)).take k) = rwL k ((wlK bs i).take k) ++ rowL k i := by rw [ht, rwL_snoc]
                have hl6 : (rwL k ((wlK bs (i + 1)).take k)).length = L5 + k := by rw [hl7, List.length_append, ← hL5, rowL_length]
                have e1 : vals vs ((wlK bs (i + 1)).take k) = vals vs ((wlK bs i).take k) ++ [.slice xo xl xc] := by rw [ht]; unfold vals; rw [List.map_append]; simp [unhide HXI]
                refine ⟨i + 1, ((xl : Nat) : Int), co3, cc3, go2, gc2, by omega, by go_num, ?_⟩
                rw [hl6, hl9, hl8, e1, hl7, bvs_append]
                exact ⟨by go_num, rfl, unhide HNN2, rfl, unhide HO5f, unhide HN5', rfl, unhide HO22f, unhide HN22', unhide HF4⟩
              case measure => simp [intOf]; omega
          · have hgi : ¬ (g : Int) < (k : Int) := by omega
            rcases hq with rfl | rfl
            · have q1 : ¬ (0 : Int) ≤ -1 := by omega
              go_wp2_with fail
              go_roundw
              case rel =>
                obtain ⟨hg, hcn, hL5, htl'⟩ := unhide HG
                have ht : (wlK bs (i + 1)).take k = (wlK bs i).take k := by
                  rw [unhide HW, List.take_append_of_le_length (by omega)]
                have hl8 : (wlK bs (i + 1)).length = cn + 1 := by rw [unhide HW, List.length_append, ← hcn]; rfl
                refine ⟨i + 1, ((xl : Nat) : Int), co, cc, go, gc, by omega, by go_num, ?_⟩
                rw [ht, hl8, ← hg, ← hL5]
                exact ⟨by go_num, rfl, unhide HNN2, rfl, unhide HO5, unhide HN5, rfl, unhide HO22, unhide HN22, unhide HF⟩
              case measure => simp [intOf]; omega
            · have q1 : (0 : Int) ≤ ((xl : Nat) : Int) := by omega
              have q2 : (((xl : Nat) : Int) != ((xl : Nat) : Int)) = false := by simp
              go_wp2_with fail
              go_roundw
              case rel =>
                obtain ⟨hg, hcn, hL5, htl'⟩ := unhide HG
                have ht : (wlK bs (i + 1)).take k = (wlK bs i).take k := by
                  rw [unhide HW, List.take_append_of_le_length (by omega)]
                have hl8 : (wlK bs (i + 1)).length = cn + 1 := by rw [unhide HW, List.length_append, ← hcn]; rfl
                refine ⟨i + 1, ((xl : Nat) : Int), co, cc, go, gc, by omega, by go_num, ?_⟩
                rw [ht, hl8, ← hg, ← hL5]
                exact ⟨by go_num, rfl, unhide HNN2, rfl, unhide HO5, unhide HN5, rfl, unhide HO22, unhide HN22, unhide HF⟩
              case measure => simp [intOf]; omega
    · have hie : i = a := by omega
      subst hie
      have hiai : ¬ (i : Int) < (i : Int) := by omega
      have hwl : wlK bs i = wl bs := by unfold wl; rw [unhide HBA]
      rw [hwl] at hNN HO5 HO22 HG
      have hEND := NN.end hNN
      have hd0 := unhide HD0 wr hF
      clear HNN
      by_cases hbig : 4096 < nn
      · have hsh := hEND.1 hbig
        have hre := reb_bad (unhide HLEN) (by rw [hsh]; decide)
        rw [hsh] at hre
        have HRE := hide hre
        clear hNN hEND hsh hre hF
        go_wp2_with fail
        go_ret2
        exact ⟨⟨none, 0, 0, by rw [(unhide HRE).2]; rfl, by rw [(unhide HRE).1]; exact LN.none _ _⟩, unhide HF⟩
      · have he := hEND.2.1 (by omega)
        by_cases hfew : cn < k
        · have hre := reb_few (unhide HLEN) he (by rw [← (unhide HG).2.1]; exact hfew)
          have HRE := hide hre
          have hfi : (cn : Int) < (k : Int) := by omega
          clear hNN hEND he hre hF
          go_wp2_with fail
          go_ret2
          exact ⟨⟨none, 0, 0, by rw [(unhide HRE).2]; rfl, by rw [(unhide HRE).1]; exact LN.none _ _⟩, unhide HF⟩
        · have hfi : ¬ (cn : Int) < (k : Int) := by omega
          have hwne : wl bs ≠ [] := fun e => by have := (unhide HG).2.1; rw [e] at this; simp at this; omega
          have hnn := hEND.2.2 hwne (by omega)
          have hre := reb_good (unhide HLEN) he (by rw [← (unhide HG).2.1]; omega)
          have hsok := shl_ok he
          obtain ⟨n, hn⟩ : ∃ n, n = (shl (hl ls bs) ((wl bs).length : Int)).1 := ⟨_, rfl⟩
          rw [← hn] at hnn hre hsok
          subst hnn
          obtain ⟨W, hW⟩ : ∃ W, W = (wl bs).take k := ⟨_, rfl⟩
          rw [← hW] at HO5 HO22 HG
          have hgk2 : g = k := by have := (unhide HG).2.2.2; omega
          have hWl : W.length = k := by rw [← (unhide HG).1]; exact hgk2
          have hrw : rwL k W = cw k W := rwL_cw k W hk.1 hWl
          have hWb : ∀ j ∈ W, j < k + m := fun j hj => by
            rw [hW] at hj
            have := wl_mem (List.mem_of_mem_take hj)
            have := (unhide HLEN).2
            omega
          have hWn : W.Nodup := by rw [hW]; exact (List.take_sublist _ _).nodup (wl_nodup bs)
          have hfull := cw_full (show k + m ≤ 256 by omega) W hWl hWn hWb
          have hL5e : L5 = k * k := by rw [(unhide HG).2.2.1, rwL_length, hWl]
          rw [hrw, hL5e] at HO5
          rw [hL5e] at HN5
          subst hL5e
          subst hgk2
          obtain ⟨qc, rfl⟩ : ∃ qc, co = some ⟨qc, 0, none⟩ := by
            rcases (unhide HO5).2 with ⟨hv, h0⟩ | ⟨q', cap', cur, hv, -⟩
            · have : 0 < g * g := Nat.mul_pos (by omega) (by omega)
              omega
            · simp only [Value.slice.injEq] at hv
              exact ⟨q', hv.1⟩
          have HINV := hide (fun (Wd : World) (f : RT wr.heap.size wr Wd) => rinverse_any Wd g qc cc (cw g W) ⟨hk.1, by omega⟩ (cw_length g W) (f.owns (unhide HO5)) hfull)
          have hpr : p < wr.heap.size := Nat.lt_of_lt_of_le hplt hF.size
          have HDK := hide (fun (Wd : World) (f : RT wr.heap.size wr Wd) => (f.fr.cell (a := ⟨p, 0, none⟩) hpr (by show ¬ wr.heap.size ≤ p; omega)).trans hd0)
          have HDF := hide (fun (Wd : World) (f : Fr (fun _ => False) wr Wd) => (f.cell (a := ⟨p, 0, none⟩) hpr id).trans hd0)
          have hgiv : ∀ Wd, Fr (fun _ => False) wr Wd → RdL Wd (.slice go g gc) ((hl ls bs).take g) := fun Wd f => by
            have ho := owns_kept (unhide HO22) f (fun _ _ h => h)
            have hlv : (vals vs W).length = g := by simp [vals, hWl]
            refine ⟨vals vs W, RdV.of_owns (e := 22) (base := 0) (by rw [hlv]; exact ho), by rw [hlv, List.length_take, hl_length]; have := (unhide HG).2.1; omega, fun j x l hx hl' => ?_⟩
            have hj : j < g := by have := (List.getElem?_eq_some_iff.1 hx).1; omega
            have hWj : W[j]? = (wl bs)[j]? := by rw [hW, List.getElem?_take_of_lt hj]
            obtain ⟨jj, hjj⟩ : ∃ jj, (wl bs)[j]? = some jj := ⟨_, List.getElem?_eq_getElem (by have := (unhide HG).2.1; omega)⟩
            unfold vals at hx
            rw [List.getElem?_map, hWj, hjj] at hx
            unfold hl at hl'
            rw [List.getElem?_take_of_lt hj, List.getElem?_map, hjj] at hl'
            simp only [Option.map_some, Option.some.injEq] at hx hl'
            have hjb : jj < i := by
              have := wl_mem (List.mem_of_getElem? hjj)
              have := unhide HBA
              omega
            rw [List.getElem?_eq_getElem (show jj < vs.length by have := unhide HVA; omega)] at hx
            rw [List.getElem?_eq_getElem (show jj < ls.length by have := unhide HLA; omega)] at hl'
            simp only [Option.getD_some] at hx hl'
            subst hx hl'
            exact ((unhide HR jj _ _ (List.getElem?_eq_getElem _) (List.getElem?_eq_getElem _)).kept hF (fun _ _ h => h)).kept f (fun _ _ h => h)
          have HGIV := hide hgiv
          have HRE := hide hre
          have HSOK := hide hsok
          have HWW := hide hW
          have HNE := hide hn
          have hn4 : n ≤ 4096 := hsok.2.2
          clear hNN hEND he hre hsok hW hWl hrw hWb hWn hfull hgiv hn hwne hF hwl
          go_wp2_with fail
          refine wp_name' ?_
          intro a0 hA
          have h0 : a0.tmps.getD 0 undef = .pointer (some ⟨p, 0, none⟩) := by rw [hA]; rfl
          have h1 : a0.tmps.getD 1 undef = .slice vo i vc := by rw [hA]; rfl
          have h2 : a0.tmps.getD 2 undef = .slice bo i bc := by rw [hA]; rfl
          have h8 : a0.tmps.getD 8 undef = .int .i64 ((i : Nat) : Int) := by rw [hA]; rfl
          have h9 : a0.tmps.getD 9 undef = .int .i64 ((n : Nat) : Int) := by rw [hA]; rfl
          have h10 : a0.tmps.getD 10 undef = .slice (some ⟨qc, 0, none⟩) (g * g) cc := by rw [hA]; rfl
          have h11 : a0.tmps.getD 11 undef = .slice go g gc := by rw [hA]; rfl
          have hsz : a0.tmps.size = 166 := by rw [hA]; rfl
          have hdf : a0.defers = [] := by rw [hA]
          clear hA
          refine wp_region_chainA (by kernel_rfl) (by kernel_rfl) (by decide +kernel) (by rw [hsz]; decide +kernel) (fun w' w'' => RT wr.heap.size w' w'') (RT.of_fr (Fr.refl _ _).drew) (fun _ _ _ h k => RT.trans _ _ _ h k) (Tr wr.heap.size [.eq (.pointer (some ⟨p, 0, none⟩)), .eq (.pointer (some ⟨p, 0, none⟩)), .eq (.pointer (some ⟨p, 0, none⟩)), .eq (.int .i64 ((g : Nat) : Int)), .eq (.pointer (some ⟨p, 0, none⟩)), .eq (.pointer (some ⟨p, 0, none⟩)), .eq (.pointer (some ⟨p, 0, none⟩)), .eq (.int .i64 ((g : Nat) : Int)), .eq (.slice (some ⟨qc, 0, none⟩) (g * g) cc), .eq (.agg #[.int .i64 ((g : Nat) : Int), .int .i64 ((g : Nat) : Int), .slice (some ⟨qc, 0, none⟩) (g * g) cc]), .iv g (invL g (cw g W)), .iv g (invL g (cw g W)), .ag g (invL g (cw g W)), .eq (.int .i64 0), .bx, .eq undef, .eq (.int .i64 0)]) (Tr.monoT _ _ (by simp)) [15] (by decide) (by decide) (chain_paths _ [] (by kernel_rfl)) (StM wr.heap.size g (mc (invL g (cw g W)) g)) (.inl rfl) ?steps ?done
          case steps =>
            refine ⟨?_, ?_⟩
            · intro a' w' k' hb hf hs hc hk hd
              exact ⟨wanted_none rfl, leftA_val (.pointer (some ⟨p, 0, none⟩)) w' (by decide) (ex_move rfl ((hb.old 0 (by decide +kernel)).trans h0)) (fun _ h => by obtain rfl := Option.some.inj h; rfl) (Fr.refl _ _) (hs.keep (by decide) (Fr.refl _ _))⟩
            refine ⟨?_, ?_⟩
            · intro a' w' k' hb hf hs hc hk hd
              exact ⟨wanted_none rfl, leftA_val (.pointer (some ⟨p, 0, none⟩)) w' (by decide) (ex_nil rfl ((hd 0 (by kernel_rfl) 95 rfl) _ rfl)) (fun _ h => by obtain rfl := Option.some.inj h; rfl) (Fr.refl _ _) (hs.keep (by decide) (Fr.refl _ _))⟩
            refine ⟨?_, ?_⟩
            · intro a' w' k' hb hf hs hc hk hd
              exact ⟨wanted_none rfl, leftA_val (.pointer (some ⟨p, 0, none⟩)) w' (by decide) (ex_f120 rfl ((hd 1 (by kernel_rfl) 96 rfl) _ rfl)) (fun _ h => by obtain rfl := Option.some.inj h; rfl) (Fr.refl _ _) (hs.keep (by decide) (Fr.refl _ _))⟩
            refine ⟨?_, ?_⟩
            · intro a' w' k' hb hf hs hc hk hd
              exact ⟨wanted_none rfl, leftA_val (.int .i64 ((g : Nat) : Int)) w' (by decide) (ex_load3 rfl ((hd 2 (by kernel_rfl) 97 rfl) _ rfl) (unhide HDK w' hf)) (fun _ h => by obtain rfl := Option.some.inj h; rfl) (Fr.refl _ _) (hs.keep (by decide) (Fr.refl _ _))⟩
            refine ⟨?_, ?_⟩
            · intro a' w' k' hb hf hs hc hk hd
              exact ⟨wanted_none rfl, leftA_val (.pointer (some ⟨p, 0, none⟩)) w' (by decide) (ex_move rfl ((hb.old 0 (by decide +kernel)).trans h0)) (fun _ h => by obtain rfl := Option.some.inj h; rfl) (Fr.refl _ _) (hs.keep (by decide) (Fr.refl _ _))⟩
            refine ⟨?_, ?_⟩
            · intro a' w' k' hb hf hs hc hk hd
              exact ⟨wanted_none rfl, leftA_val (.pointer (some ⟨p, 0, none⟩)) w' (by decide) (ex_nil rfl ((hd 4 (by kernel_rfl) 99 rfl) _ rfl)) (fun _ h => by obtain rfl := Option.some.inj h; rfl) (Fr.refl _ _) (hs.keep (by decide) (Fr.refl _ _))⟩
            refine ⟨?_, ?_⟩
            · intro a' w' k' hb hf hs hc hk hd
              exact ⟨wanted_none rfl, leftA_val (.pointer (some ⟨p, 0, none⟩)) w' (by decide) (ex_f120 rfl ((hd 5 (by kernel_rfl) 100 rfl) _ rfl)) (fun _ h => by obtain rfl := Option.some.inj h; rfl) (Fr.refl _ _) (hs.keep (by decide) (Fr.refl _ _))⟩
            refine ⟨?_, ?_⟩
            · intro a' w' k' hb hf hs hc hk hd
              exact ⟨wanted_none rfl, leftA_val (.int .i64 ((g : Nat) : Int)) w' (by decide) (ex_load3 rfl ((hd 6 (by kernel_rfl) 101 rfl) _ rfl) (unhide HDK w' hf)) (fun _ h => by obtain rfl := Option.some.inj h; rfl) (Fr.refl _ _) (hs.keep (by decide) (Fr.refl _ _))⟩
            refine ⟨?_, ?_⟩
            · intro a' w' k' hb hf hs hc hk hd
              exact ⟨wanted_none rfl, leftA_val (.slice (some ⟨qc, 0, none⟩) (g * g) cc) w' (by decide) (ex_move rfl ((hb.old 10 (by decide +kernel)).trans h10)) (fun _ h => by obtain rfl := Option.some.inj h; rfl) (Fr.refl _ _) (hs.keep (by decide) (Fr.refl _ _))⟩
            refine ⟨?_, ?_⟩
            · intro a' w' k' hb hf hs hc hk hd
              exact ⟨wanted_none rfl, leftA_val (.agg #[.int .i64 ((g : Nat) : Int), .int .i64 ((g : Nat) : Int), .slice (some ⟨qc, 0, none⟩) (g * g) cc]) w' (by decide) (ex_build24 rfl ((hd 3 (by kernel_rfl) 98 rfl) _ rfl) ((hd 7 (by kernel_rfl) 102 rfl) _ rfl) ((hd 8 (by kernel_rfl) 103 rfl) _ rfl)) (fun _ h => by obtain rfl := Option.some.inj h; rfl) (Fr.refl _ _) (hs.keep (by decide) (Fr.refl _ _))⟩
            refine ⟨?_, ?_⟩
            · intro a' w' k' hb hf hs hc hk hd
              exact ⟨wanted_none rfl, leftA_call 20 _ (by decide) (en_call1 rfl rfl ((hd 9 (by kernel_rfl) 104 rfl) _ rfl) cfv20) ((unhide HINV w' hf).mono (by rintro e w7 ⟨⟨q7, cap7, rfl, hq7, ho7⟩, f7⟩; exact ⟨_, rfl, fun _ h => (by obtain rfl := Option.some.inj h; exact ⟨q7, cap7, rfl, Nat.le_trans hf.fr.size hq7, ho7⟩), f7, hs.keep (by decide) f7⟩))⟩
            refine ⟨?_, ?_⟩
            · intro a' w' k' hb hf hs hc hk hd
              have h9 := (hd 10 (by kernel_rfl) 105 rfl) _ rfl
              exact ⟨wanted_none rfl, leftA_val _ w' (by decide) (ex_move rfl rfl) (fun _ h => by obtain rfl := Option.some.inj h; exact h9) (Fr.refl _ _) (hs.keep (by decide) (Fr.refl _ _))⟩
            refine ⟨?_, ?_⟩
            · intro a' w' k' hb hf hs hc hk hd
              obtain ⟨q9, cap9, e9, n9, o9⟩ := (hd 11 (by kernel_rfl) 94 rfl) _ rfl
              exact ⟨wanted_none rfl, leftA_val _ w' (by decide) (ex_ext0 rfl e9) (fun _ h => by obtain rfl := Option.some.inj h; exact ⟨q9, cap9, rfl, n9, o9⟩) (Fr.refl _ _) (hs.keep (by decide) (Fr.refl _ _))⟩
            refine ⟨?_, ?_⟩
            · intro a' w' k' hb hf hs hc hk hd
              obtain ⟨q9, cap9, e9, n9, o9⟩ := (hd 11 (by kernel_rfl) 94 rfl) _ rfl
              exact ⟨wanted_none rfl, leftA_val _ w' (by decide) (ex_ext1 rfl e9) (fun _ h => by obtain rfl := Option.some.inj h; rfl) (Fr.refl _ _) (hs.keep (by decide) (Fr.refl _ _))⟩
            refine ⟨?_, ?_⟩
            · intro a' w' k' hb hf hs hc hk hd
              have hk0 : k' = 0 := by have := hk 0 15 _ rfl rfl (by kernel_rfl); omega
              exact ⟨wanted_none rfl, leftA_val _ _ (by decide) (ex_al24 rfl) (fun _ h => by obtain rfl := Option.some.inj h; exact ⟨_, rfl, hf.fr.size, ⟨_, _, _, heap_alloc_new _ _⟩⟩) ((Fr.refl _ _).alloc _) (.inl hk0)⟩
            refine ⟨?_, ?_⟩
            · intro a' w' k' hb hf hs hc hk hd
              obtain rfl := hc 0 rfl
              obtain ⟨q2, cap2, e12, n2, o2⟩ := (hd 12 (by kernel_rfl) 106 rfl) _ rfl
              obtain ⟨Mb, e14, n14, z14⟩ := (hd 14 (by kernel_rfl) 14 rfl) _ rfl
              have hput := z14.put (.int .i64 ((g : Nat) : Int)) (.int .i64 ((g : Nat) : Int)) (.slice (some ⟨q2, 0, none⟩) (g * g) cap2)
              have hfs := setCells_frame Mb [.int .i64 ((g : Nat) : Int), .int .i64 ((g : Nat) : Int), .slice (some ⟨q2, 0, none⟩) (g * g) cap2] 0 w'
              have hT24 : TyAt w' Mb 24 := by
                obtain ⟨x9, y9, z9, hz⟩ := z14
                exact ⟨_, hz⟩
              have hMq : Mb ≠ q2 := TyAt.ne hT24 (owns_ty o2 rfl) (by decide)
              have h5 : fl g (mc (invL g (cw g W)) g) (g * g) = (invL g (cw g W)) := by
                have := fl_self g (invL g (cw g W)) (by omega)
                rw [invL_length] at this
                exact this
              refine ⟨wanted_none rfl, wp_store_mid 24 _ _ rfl Mb 0 #[.int .i64 ((g : Nat) : Int), .int .i64 ((g : Nat) : Int), .slice (some ⟨q2, 0, none⟩) (g * g) cap2] e14 e12 z14.there info24_size (by simp [Value.oneCell']) ⟨undef, rfl, fun _ h => by obtain rfl := Option.some.inj h; rfl, ⟨hfs.mono (fun i hi e => by omega), fun b hb => hfs.block b (by obtain ⟨cs, h⟩ := hb; exact lt_of_heap h) (fun e => TyAt.ne hT24 hb (by decide) e.symm), fun b hb => ?_⟩, ?_⟩⟩
              · by_cases e : b = Mb
                · subst e; exact ⟨_, _, _, hput⟩
                · exact hb.kept hfs e
              · rw [if_pos (by decide)]
                exact .inr ⟨Mb, q2, cap2, e14, n14, ⟨hput, by rw [h5]; exact owns_kept o2 hfs (fun b hb => by simp [Value.ownBlock] at hb; omega)⟩⟩
            refine ⟨?_, ?_⟩
            · intro a' w' k' hb hf hs hc hk hd
              exact ⟨wanted_none rfl, leftA_val (.int .i64 0) w' (by decide) (ex_assign rfl ((hd 13 (by kernel_rfl) 107 rfl) _ rfl)) (fun _ h => by obtain rfl := Option.some.inj h; rfl) (Fr.refl _ _) (hs.keep (by decide) (Fr.refl _ _))⟩
            exact trivial
          case done =>
            intro a' w' hb hf hs hall
            obtain ⟨Mb, q2, cap2, e14, n14, hX2⟩ := hs.resolve_left (by decide)
            have e15 : a'.tmps.getD 15 undef = .int .i64 0 := (hall 16 (by decide) 15 rfl) _ rfl
            obtain ⟨f, hfr⟩ : ∃ f : Nat → Value, a' = { tmps := #[.pointer (some ⟨p, 0, none⟩), .slice vo i vc, .slice bo i bc, f 3, f 4, f 5, f 6, f 7, .int .i64 ((i : Nat) : Int), .int .i64 ((n : Nat) : Int), .slice (some ⟨qc, 0, none⟩) (g * g) cc, .slice go g gc, f 12, f 13, .pointer (some ⟨Mb, 0, none⟩), .int .i64 0, f 16, f 17, f 18, f 19, f 20, f 21, f 22, f 23, f 24, f 25, f 26, f 27, f 28, f 29, f 30, f 31, f 32, f 33, f 34, f 35, f 36, f 37, f 38, f 39, f 40, f 41, f 42, f 43, f 44, f 45, f 46, f 47, f 48, f 49, f 50, f 51, f 52, f 53, f 54, f 55, f 56, f 57, f 58, f 59, f 60, f 61, f 62, f 63, f 64, f 65, f 66, f 67, f 68, f 69, f 70, f 71, f 72, f 73, f 74, f 75, f 76, f 77, f 78, f 79, f 80, f 81, f 82, f 83, f 84, f 85, f 86, f 87, f 88, f 89, f 90, f 91, f 92, f 93, f 94, f 95, f 96, f 97, f 98, f 99, f 100, f 101, f 102, f 103, f 104, f 105, f 106, f 107, f 108, f 109, f 110, f 111, f 112, f 113, f 114, f 115, f 116, f 117, f 118, f 119, f 120, f 121, f 122, f 123, f 124, f 125, f 126, f 127, f 128, f 129, f 130, f 131, f 132, f 133, f 134, f 135, f 136, f 137, f 138, f 139, f 140, f 141, f 142, f 143, f 144, f 145, f 146, f 147, f 148, f 149, f 150, f 151, f 152, f 153, f 154, f 155, f 156, f 157, f 158, f 159, f 160, f 161, f 162, f 163, f 164, f 165], defers := [] } :=
              ⟨fun i => a'.tmps.getD i undef, frame_eq (vs := [.pointer (some ⟨p, 0, none⟩), .slice vo i vc, .slice bo i bc, (fun i => a'.tmps.getD i undef) 3, (fun i => a'.tmps.getD i undef) 4, (fun i => a'.tmps.getD i undef) 5, (fun i => a'.tmps.getD i undef) 6, (fun i => a'.tmps.getD i undef) 7, .int .i64 ((i : Nat) : Int), .int .i64 ((n : Nat) : Int), .slice (some ⟨qc, 0, none⟩) (g * g) cc, .slice go g gc, (fun i => a'.tmps.getD i undef) 12, (fun i => a'.tmps.getD i undef) 13, .pointer (some ⟨Mb, 0, none⟩), .int .i64 0, (fun i => a'.tmps.getD i undef) 16, (fun i => a'.tmps.getD i undef) 17, (fun i => a'.tmps.getD i undef) 18, (fun i => a'.tmps.getD i undef) 19, (fun i => a'.tmps.getD i undef) 20, (fun i => a'.tmps.getD i undef) 21, (fun i => a'.tmps.getD i undef) 22, (fun i => a'.tmps.getD i undef) 23, (fun i => a'.tmps.getD i undef) 24, (fun i => a'.tmps.getD i undef) 25, (fun i => a'.tmps.getD i undef) 26, (fun i => a'.tmps.getD i undef) 27, (fun i => a'.tmps.getD i undef) 28, (fun i => a'.tmps.getD i undef) 29, (fun i => a'.tmps.getD i undef) 30, (fun i => a'.tmps.getD i undef) 31, (fun i => a'.tmps.getD i undef) 32, (fun i => a'.tmps.getD i undef) 33, (fun i => a'.tmps.getD i undef) 34, (fun i => a'.tmps.getD i undef) 35, (fun i => a'.tmps.getD i undef) 36, (fun i => a'.tmps.getD i undef) 37, (fun i => a'.tmps.getD i undef) 38, (fun i => a'.tmps.getD i undef) 39, (fun i => a'.tmps.getD i undef) 40, (fun i => a'.tmps.getD i undef) 41, (fun i => a'.tmps.getD i undef) 42, (fun i => a'.tmps.getD i undef) 43, (fun i => a'.tmps.getD i undef) 44, (fun i => a'.tmps.getD i undef) 45, (fun i => a'.tmps.getD i undef) 46, (fun i => a'.tmps.getD i undef) 47, (fun i => a'.tmps.getD i undef) 48, (fun i => a'.tmps.getD i undef) 49, (fun i => a'.tmps.getD i undef) 50, (fun i => a'.tmps.getD i undef) 51, (fun i => a'.tmps.getD i undef) 52, (fun i => a'.tmps.getD i undef) 53, (fun i => a'.tmps.getD i undef) 54, (fun i => a'.tmps.getD i undef) 55, (fun i => a'.tmps.getD i undef) 56, (fun i => a'.tmps.getD i undef) 57, (fun i => a'.tmps.getD i undef) 58, (fun i => a'.tmps.getD i undef) 59, (fun i => a'.tmps.getD i undef) 60, (fun i => a'.tmps.getD i undef) 61, (fun i => a'.tmps.getD i undef) 62, (fun i => a'.tmps.getD i undef) 63, (fun i => a'.tmps.getD i undef) 64, (fun i => a'.tmps.getD i undef) 65, (fun i => a'.tmps.getD i undef) 66, (fun i => a'.tmps.getD i undef) 67, (fun i => a'.tmps.getD i undef) 68, (fun i => a'.tmps.getD i undef) 69, (fun i => a'.tmps.getD i undef) 70, (fun i => a'.tmps.getD i undef) 71, (fun i => a'.tmps.getD i undef) 72, (fun i => a'.tmps.getD i undef) 73, (fun i => a'.tmps.getD i undef) 74, (fun i => a'.tmps.getD i undef) 75, (fun i => a'.tmps.getD i undef) 76, (fun i => a'.tmps.getD i undef) 77, (fun i => a'.tmps.getD i undef) 78, (fun i => a'.tmps.getD i undef) 79, (fun i => a'.tmps.getD i undef) 80, (fun i => a'.tmps.getD i undef) 81, (fun i => a'.tmps.getD i undef) 82, (fun i => a'.tmps.getD i undef) 83, (fun i => a'.tmps.getD i undef) 84, (fun i => a'.tmps.getD i undef) 85, (fun i => a'.tmps.getD i undef) 86, (fun i => a'.tmps.getD i undef) 87, (fun i => a'.tmps.getD i undef) 88, (fun i => a'.tmps.getD i undef) 89, (fun i => a'.tmps.getD i undef) 90, (fun i => a'.tmps.getD i undef) 91, (fun i => a'.tmps.getD i undef) 92, (fun i => a'.tmps.getD i undef) 93, (fun i => a'.tmps.getD i undef) 94, (fun i => a'.tmps.getD i undef) 95, (fun i => a'.tmps.getD i undef) 96, (fun i => a'.tmps.getD i undef) 97, (fun i => a'.tmps.getD i undef) 98, (fun i => a'.tmps.getD i undef) 99, (fun i => a'.tmps.getD i undef) 100, (fun i => a'.tmps.getD i undef) 101, (fun i => a'.tmps.getD i undef) 102, (fun i => a'.tmps.getD i undef) 103, (fun i => a'.tmps.getD i undef) 104, (fun i => a'.tmps.getD i undef) 105, (fun i => a'.tmps.getD i undef) 106, (fun i => a'.tmps.getD i undef) 107, (fun i => a'.tmps.getD i undef) 108, (fun i => a'.tmps.getD i undef) 109, (fun i => a'.tmps.getD i undef) 110, (fun i => a'.tmps.getD i undef) 111, (fun i => a'.tmps.getD i undef) 112, (fun i => a'.tmps.getD i undef) 113, (fun i => a'.tmps.getD i undef) 114, (fun i => a'.tmps.getD i undef) 115, (fun i => a'.tmps.getD i undef) 116, (fun i => a'.tmps.getD i undef) 117, (fun i => a'.tmps.getD i undef) 118, (fun i => a'.tmps.getD i undef) 119, (fun i => a'.tmps.getD i undef) 120, (fun i => a'.tmps.getD i undef) 121, (fun i => a'.tmps.getD i undef) 122, (fun i => a'.tmps.getD i undef) 123, (fun i => a'.tmps.getD i undef) 124, (fun i => a'.tmps.getD i undef) 125, (fun i => a'.tmps.getD i undef) 126, (fun i => a'.tmps.getD i undef) 127, (fun i => a'.tmps.getD i undef) 128, (fun i => a'.tmps.getD i undef) 129, (fun i => a'.tmps.getD i undef) 130, (fun i => a'.tmps.getD i undef) 131, (fun i => a'.tmps.getD i undef) 132, (fun i => a'.tmps.getD i undef) 133, (fun i => a'.tmps.getD i undef) 134, (fun i => a'.tmps.getD i undef) 135, (fun i => a'.tmps.getD i undef) 136, (fun i => a'.tmps.getD i undef) 137, (fun i => a'.tmps.getD i undef) 138, (fun i => a'.tmps.getD i undef) 139, (fun i => a'.tmps.getD i undef) 140, (fun i => a'.tmps.getD i undef) 141, (fun i => a'.tmps.getD i undef) 142, (fun i => a'.tmps.getD i undef) 143, (fun i => a'.tmps.getD i undef) 144, (fun i => a'.tmps.getD i undef) 145, (fun i => a'.tmps.getD i undef) 146, (fun i => a'.tmps.getD i undef) 147, (fun i => a'.tmps.getD i undef) 148, (fun i => a'.tmps.getD i undef) 149, (fun i => a'.tmps.getD i undef) 150, (fun i => a'.tmps.getD i undef) 151, (fun i => a'.tmps.getD i undef) 152, (fun i => a'.tmps.getD i undef) 153, (fun i => a'.tmps.getD i undef) 154, (fun i => a'.tmps.getD i undef) 155, (fun i => a'.tmps.getD i undef) 156, (fun i => a'.tmps.getD i undef) 157, (fun i => a'.tmps.getD i undef) 158, (fun i => a'.tmps.getD i undef) 159, (fun i => a'.tmps.getD i undef) 160, (fun i => a'.tmps.getD i undef) 161, (fun i => a'.tmps.getD i undef) 162, (fun i => a'.tmps.getD i undef) 163, (fun i => a'.tmps.getD i undef) 164, (fun i => a'.tmps.getD i undef) 165]) (by rw [hb.size, hsz]; rfl) (by rw [hb.defers]; exact hdf) ⟨((hb.old 0 (by decide +kernel)).trans h0), ((hb.old 1 (by decide +kernel)).trans h1), ((hb.old 2 (by decide +kernel)).trans h2), rfl, rfl, rfl, rfl, rfl, ((hb.old 8 (by decide +kernel)).trans h8), ((hb.old 9 (by decide +kernel)).trans h9), ((hb.old 10 (by decide +kernel)).trans h10), ((hb.old 11 (by decide +kernel)).trans h11), rfl, rfl, e14, e15, rfl, rfl, rfl, rfl, rfl, rfl, rfl, rfl, rfl, rfl, rfl, rfl, rfl, rfl, rfl, rfl, rfl, rfl, rfl, rfl, rfl, rfl, rfl, rfl, rfl, rfl, rfl, rfl, rfl, rfl, rfl, rfl, rfl, rfl, rfl, rfl, rfl, rfl, rfl, rfl, rfl, rfl, rfl, rfl, rfl, rfl, rfl, rfl, rfl, rfl, rfl, rfl, rfl, rfl, rfl, rfl, rfl, rfl, rfl, rfl, rfl, rfl, rfl, rfl, rfl, rfl, rfl, rfl, rfl, rfl, rfl, rfl, rfl, rfl, rfl, rfl, rfl, rfl, rfl, rfl, rfl, rfl, rfl, rfl, rfl, rfl, rfl, rfl, rfl, rfl, rfl, rfl, rfl, rfl, rfl, rfl, rfl, rfl, rfl, rfl, rfl, rfl, rfl, rfl, rfl, rfl, rfl, rfl, rfl, rfl, rfl, rfl, rfl, rfl, rfl, rfl, rfl, rfl, rfl, rfl, rfl, rfl, rfl, rfl, rfl, rfl, rfl, rfl, rfl, rfl, rfl, rfl, rfl, rfl, rfl, rfl, rfl, rfl, rfl, rfl, rfl, rfl, rfl, rfl, rfl, rfl, rfl, rfl, rfl, rfl, trivial⟩⟩
            have HX2 := hide hX2
            have HF3 : Hid (Fr (fun _ => False) wr w') := hide (hf.fr.mono (fun i hi e => by omega))
            clear hall hb hf hs hX2 e14 e15 n14 hsz hdf h0 h1 h2 h8 h9 h10 h11 HINV HDK
            subst hfr
            apply_assumption
            go_wp2_with fail
            obtain ⟨w5, hw5⟩ : ∃ w5, w5 = w' := ⟨_, rfl⟩
            subst hw5
            have HF5 := hide ((unhide HF).trans (unhide HF3) (fun _ _ h => h))
            have hp5 : p < w5.heap.size := Nat.lt_of_lt_of_le hplt (unhide HF5).size
            have hM5 : Mb < w5.heap.size := (unhide HX2).lt
            have HDF5 := hide (fun (Wd : World) (f : Fr (fun _ => False) w5 Wd) => unhide HDF Wd ((unhide HF3).trans f (fun _ _ h => h)))
            have HGV5 := hide (fun (Wd : World) (f : Fr (fun _ => False) w5 Wd) => unhide HGIV Wd ((unhide HF3).trans f (fun _ _ h => h)))
            have HHN : Hid (∀ l ∈ (hl ls bs).take g, l.length = n) := hide (fun l hl' => (unhide HSOK).2.1 l (List.mem_of_mem_take hl'))
            have HHG : Hid (((hl ls bs).take g).length = g) := hide (by rw [List.length_take, hl_length]; have := (unhide HG).2.1; omega)
            obtain ⟨HL, hHL⟩ : ∃ HL, HL = (hl ls bs).take g := ⟨_, rfl⟩
            rw [← hHL] at HGV5 HHN HHG
            have HHL := hide hHL
            obtain ⟨IV, hIV⟩ : ∃ IV, IV = invL g (cw g W) := ⟨_, rfl⟩
            rw [← hIV] at HX2
            have HIV := hide hIV
            clear hHL hIV HDF HGIV HO5 HN5 HO22 HN22 hwle hfew hL5s hi hd0
            clear HF3 HF hpr
            go_loopw [16, 17] (fun x y w' => ∃ (j : Nat) (dao : Option Addr) (dac : Nat), j ≤ g ∧ y = .int .i64 (j : Int) ∧ x = .slice dao j dac ∧ AL w5.heap.size w' (.slice dao j dac) ((solL g W HL n).take j) ∧ Fr (fun _ => False) w5 w') (fun _ y _ => g - (intOf y).toNat)
            case atStart => exact ⟨0, none, 0, Nat.zero_le _, rfl, rfl, by simpa using AL.nil w5.heap.size w5, Fr.refl _ _⟩
            case round =>
              obtain ⟨j, dao, dac, hj, rfl, rfl, hA, hf⟩ := hrel
              by_cases hlt : j < g
              · have hX := (unhide HX2).keptF hf
                obtain ⟨jg, hjg⟩ : ∃ jg, jg = j * g := ⟨_, rfl⟩
                have hj2 : (j + 1) * g = jg + g := by rw [Nat.succ_mul, hjg]
                have hjle : jg + g ≤ g * g := by rw [← hj2]; exact Nat.mul_le_mul_right _ hlt
                have hgg : g * g ≤ 16 * 16 := Nat.mul_le_mul hk.2 hk.2
                have e1 : (j : Int) * (g : Int) = (jg : Int) := by rw [hjg]; simp
                obtain ⟨jh, hjh⟩ : ∃ jh, jh = jg + g := ⟨_, rfl⟩
                have e2 : ((j : Int) + 1) * (g : Int) = (jh : Int) := by rw [hjh, ← hj2]; simp
                have hcap : g * g ≤ cap2 := owns_cap hX.own
                have hIVl : IV.length = g * g := by rw [unhide HIV, invL_length]
                have hIVf : fl g (mc IV g) (g * g) = IV := by
                  have := fl_self g IV (by omega)
                  rw [hIVl] at this
                  exact this
                have hRI : Rd wr (.slice (some ⟨q2, 0, none⟩) (g * g) cap2) IV := by
                  have := hX.own
                  rw [hIVf] at this
                  exact Rd.of_owns (base := 0) (by rw [hIVl]; exact this)
                have HMix := hide (show ∀ Wd, Fr (fun _ => False) wr Wd → Calls Try.prog 96 #[.slice (some ⟨q2, jg, none⟩) (jh - jg) (cap2 - jg), .slice go g gc, .int .i64 (n : Int)] Wd fun e w' => (∃ b, e = .returned (.slice (some ⟨b, 0, none⟩) n n) ∧ wr.heap.size ≤ b ∧ BAt w' b (mixL (fun c => mc IV g j c) HL g n)) ∧ Fr (fun _ => False) Wd w' from by
                  intro Wd f
                  rw [show jh - jg = g by omega]
                  have hR := Rd.partR (hRI.kept f (fun _ _ h => h)) jg g (by rw [hIVl]; exact hjle) (fun ad e => by simp at e; subst e; rfl)
                  have hRl : ((IV.drop jg).take g).length = g := by rw [List.length_take, List.length_drop, hIVl]; omega
                  have hR' : Rd Wd (.slice (some ⟨q2, jg, none⟩) g (cap2 - jg)) ((IV.drop jg).take g) := by simpa using hR
                  refine (mix_any Wd _ _ _ HL n hR' (unhide HGV5 Wd (hf.trans f (fun _ _ h => h))) (by rw [hRl, unhide HHG]; omega) (by rw [hRl]; omega) (unhide HHN) hn4).mono ?_
                  rintro e w' ⟨rfl, hB', f'⟩
                  rw [hRl, mixL_congr (s := fun c => mc IV g j c) (fun c hc => by unfold gt mc; rw [List.getElem?_take_of_lt hc, List.getElem?_drop, hjg])] at hB'
                  exact ⟨⟨_, rfl, f.size, hB'⟩, f'⟩)
                obtain ⟨us, hO, hvl, hrows⟩ := hA.ex
                have hvi : us.length = j := by rw [hvl, List.length_take, solL_length]; omega
                have HO2 := hide (show wr.ownsRow 0 22 1 (.slice dao j dac) j us by rw [hvi] at hO; exact hO)
                have hpr : p < wr.heap.size := Nat.lt_of_lt_of_le hp5 hf.size
                have hMr : Mb < wr.heap.size := hX.lt
                have r0 := unhide HDF5 wr hf
                have r1 := (hX.facts wr (Fr.refl _ _)).2.2.1
                have HS := hide (show ∀ Wd, Fr (fun _ => False) wr Wd → Wd.cell? ⟨p, 0, none⟩ = some (.int .i64 (g : Int)) ∧ Wd.cell? ⟨Mb, 2, none⟩ = some (.slice (some ⟨q2, 0, none⟩) (g * g) cap2) from fun Wd f => ⟨unhide HDF5 Wd (hf.trans f (fun _ _ h => h)), (hX.facts Wd f).2.2.1⟩)
                have hsr := hf.size
                have Hf := hide hf
                have HRO := hide hrows
                have HVI := hide hvi
                have HVL := hide hvl
                have HNW := hide hA.new
                have HJG := hide hjg
                have hc0 : (0 : Int) ≤ (jg : Int) := by omega
                have hc1 : (jh : Int) ≤ (cap2 : Int) := by omega
                have hc2 : (jg : Int) ≤ (jh : Int) := by omega
                have hc3 : ¬ cap2 = jg := by omega
                have hc4 : (0 : Int) ≤ (jh : Int) := by omega
                have hw1 : IntKind.i64.wrap (jg : Int) = (jg : Int) := by rw [IntKind.wrap_i64]; omega
                have hw2 : IntKind.i64.wrap (jh : Int) = (jh : Int) := by rw [IntKind.wrap_i64]; omega
                have hw3 : IntKind.i64.wrap ((j : Int) + 1) = (j : Int) + 1 := by rw [IntKind.wrap_i64]; omega
                have hjn1 : jg ≤ jh := by omega
                have hjn2 : jh ≤ cap2 := by omega
                clear hjh hA hf hO hrows hvi hvl hX hRI hIVf hIVl hjg hj2 hjle hgg hcap
                go_wp2_with fail
                go_region_held3 (fun W => W.cell? ⟨p, 0, none⟩ = some (.int .i64 (g : Int)) ∧ W.cell? ⟨Mb, 2, none⟩ = some (.slice (some ⟨q2, 0, none⟩) (g * g) cap2)) (go_keep) ((first
                  | (go_at_call 96; refine (unhide HMix _ (by first | exact Fr.ofDrewN _ 1 | exact Fr.ofDrewN _ _)).mono ?_; rintro e w3 ⟨⟨g3, rfl, hg3, hB3⟩, f3⟩; have F3 := (Fr.ofDrewN (S := fun _ => False) wr 1).trans f3 (fun _ _ h => h); have s3 := (unhide HS w3 F3).1; have s3' := (unhide HS w3 F3).2; have z3 := F3.size; have p3 : p < w3.heap.size := (by omega); have d3 : Mb < w3.heap.size := (by omega))
                  | (refine step_app rfl (.tmp 116) (.tmp 136) 65 rfl 22 inf _ 1 24 Try.underlying65 hi0 hz0 hz1 hz2 rfl (by decide) (.slice dao j dac) j us (by rfl) (.slice (some ⟨w3.heap.size, 0, none⟩) 1 1) (by rfl) 1 [.slice (some ⟨g3, 0, none⟩) n n] (by exact (owns_kept (unhide HO2) F3 (fun _ _ h => h)).alloc _) (by exact one_cellV w3 _ 22) (fun u hu => by simp at hu; subst hu; rfl) (by omega) (by simp only [maxLen]; omega) ?_; intro ao4 ac4 w4 o4 g4 p4; have f4 : Fr (fun k => (Value.slice dao j dac).ownBlock = some k) w3 w4 := Fr.grown (S := fun k => (Value.slice dao j dac).ownBlock = some k) (w := w3.alloc (Obj.cells #[.slice (some ⟨g3, 0, none⟩) n n] 22)) ((Fr.refl _ _).alloc _) g4 (fun k hk e => e); have s4 := (f4.cell (a := ⟨p, 0, none⟩) p3 (fun e => by have := unhide HNW p e; omega)).trans s3; have s4' := (f4.cell (a := ⟨Mb, 2, none⟩) d3 (fun e => by have := unhide HNW Mb e; omega)).trans s3')))
                all_goals
                  have hR3 : Rd w3 (.slice (some ⟨g3, 0, none⟩) n n) (mixL (fun c => mc IV g j c) HL g n) := by
                    have := hB3.rd (by rw [mixL_length]; simp only [maxLen]; omega)
                    rwa [mixL_length] at this
                  have hAL := AL.app (N := w5.heap.size) (w := w3) (w' := w4) (ao := dao) (n := j) (ac := dac) (ls := (solL g W HL n).take j) us (by rw [unhide HVI]; exact owns_kept (unhide HO2) F3 (fun _ _ h => h)) (unhide HVL) (fun j x l hx hl => ⟨(unhide HRO j x l hx hl).1.kept F3 (fun _ _ h => h), (unhide HRO j x l hx hl).2.kept F3⟩) (unhide HNW) (.slice (some ⟨g3, 0, none⟩) n n) _ hR3 (Wb.of_bat hB3 (by omega)) (by omega) o4 g4 p4
                  have HAL := hide hAL.1
                  have HF4 := hide ((unhide Hf).trans F3 (fun _ _ h => h))
                  have HF6 := hide ((unhide HF4).trans hAL.2 (fun k hk e => by have := unhide HNW k e; omega))
                  clear hR3 hAL o4 g4 p4 f4 F3 f3 hB3 s3 s3' s4 s4' HF4
                  go_wp2_with fail
                  go_roundw
                  case rel => exact ⟨j + 1, ao4, ac4, by omega, by go_num, rfl, by rw [solL_take g W HL n j hlt, ← unhide HIV]; exact unhide HAL, by first | exact unhide HF6 | exact (unhide HF6).drew⟩
                  case measure => simp [intOf]; omega
              · have hjeq : g = j := by omega
                subst hjeq
                rw [List.take_of_length_le (by rw [solL_length]; omega)] at hA
                have HDA := hide hA
                have HF6 := hide ((unhide HF5).trans hf (fun _ _ h => h))
                obtain ⟨w6, hw6⟩ : ∃ w6, w6 = wr := ⟨_, rfl⟩
                subst hw6
                have r0 := unhide HDF5 w6 hf
                have HSW : Hid (solL g W HL n = solL g ((wl bs).take g) ((hl ls bs).take g) n) := hide (by rw [unhide HHL, unhide HWW])
                obtain ⟨DD, hDD⟩ : ∃ DD, DD = solL g W HL n := ⟨_, rfl⟩
                have HDL : Hid (DD.length = g) := hide (by rw [hDD, solL_length])
                have HDN : Hid (∀ l ∈ DD, l.length = n) := hide (fun l hl' => by
                  rw [hDD] at hl'
                  unfold solL at hl'
                  obtain ⟨x, -, rfl⟩ := List.mem_map.1 hl'
                  exact mixL_length _ _ _ _)
                rw [← hDD] at HDA HSW
                have hp6 : p < w6.heap.size := Nat.lt_of_lt_of_le hplt (unhide HF6).size
                clear hA hf hDD HX2 HIV HHL HHN HHG HGV5 HDF5 hlt hj HF5 hM5 hp5 HWW
                go_wp2_with fail
                go_loopw [18, 19] (fun x y w' => ∃ (j : Nat) (ao : Option Addr) (ac : Nat), j ≤ i ∧ y = .int .i64 (j : Int) ∧ x = .slice ao j ac ∧ AL w6.heap.size w' (.slice ao j ac) ((rebL g m ls bs n).take j) ∧ Fr (fun _ => False) w6 w') (fun _ y _ => i - (intOf y).toNat)
                case atStart => exact ⟨0, none, 0, Nat.zero_le _, rfl, rfl, by simpa using AL.nil w6.heap.size w6, Fr.refl _ _⟩
                case round =>
                  obtain ⟨j, ao, ac, hj, rfl, rfl, hA, hf⟩ := hrel
                  by_cases hlt : j < i
                  · have hji : (j : Int) < (i : Int) := by omega
                    have hFw := (unhide HF6).trans hf (fun _ _ h => h)
                    obtain ⟨b, o, rfl, -, -, -, hcv⟩ := ((unhide HV).kept hFw (fun _ _ h => h)).lits (by have := unhide HVA; omega)
                    obtain ⟨b2, o2, rfl, -, -, -, hcb⟩ := ((unhide HB).kept hFw (fun _ _ h => h)).lits (by have := unhide HBA; simp; omega)
                    have hib : j < bs.length := by have := unhide HBA; omega
                    have hiv : j < vs.length := by have := unhide HVA; omega
                    have hil : j < ls.length := by have := unhide HLA; omega
                    have x1 := hcv j hiv
                    have x2 := hcb j (by simpa using hib)
                    rw [List.getElem_map] at x2
                    obtain ⟨xo, xc, hxs⟩ := unhide HO j vs[j] (List.getElem?_eq_getElem _)
                    have hbj : bs[j]?.getD false = bs[j] := by rw [List.getElem?_eq_getElem hib]; rfl
                    have hlj : ls[j]?.getD [] = ls[j] := by rw [List.getElem?_eq_getElem hil]; rfl
                    have hRx := unhide HR j _ _ (List.getElem?_eq_getElem hiv) (List.getElem?_eq_getElem hil)
                    rw [hlj] at hxs
                    rw [hxs] at x1 hRx
                    have hTK := rebL_take g m ls bs n j (by have := unhide HA; omega)
                    rw [hbj, hlj, ← unhide HSW] at hTK
                    have HRX := hide (fun (Wd : World) (f : Fr (fun _ => False) wr Wd) => hRx.kept (hFw.trans f (fun _ _ h => h)) (fun _ _ h => h))
                    have HX4 : Hid (bs[j] = true → (ls[j]).length = n) := hide (fun hb => by
                      have hii : j ∈ wl bs := wlK_sub (i := j + 1) (by rw [wlK_yes (hbj.trans hb)]; simp) (by omega)
                      have := (unhide HSOK).2.1 (ls[j]?.getD []) (List.mem_map.2 ⟨j, hii, rfl⟩)
                      rwa [hlj] at this)
                    have hbl := World.block_lt_of_cell? wr _ x1
                    simp only at hbl
                    generalize hlg : ls[j] = lj at *
                    obtain ⟨xl, hxl⟩ : ∃ xl, xl = lj.length := ⟨_, rfl⟩
                    rw [← hxl] at x1 HRX
                    have HXL := hide hxl
                    have hxm : xl ≤ maxLen := by rw [hxl]; exact hRx.len
                    obtain ⟨us, hO, hvl, hrows⟩ := hA.ex
                    have hvi : us.length = j := by rw [hvl, List.length_take, rebL_length]; have := unhide HA; omega
                    have HO2 := hide (show wr.ownsRow 0 22 1 (.slice ao j ac) j us by rw [hvi] at hO; exact hO)
                    have hsr := hf.size
                    have Hf := hide hf
                    have HFW := hide hFw
                    have HRO := hide hrows
                    have HVI := hide hvi
                    have HVL := hide hvl
                    have HNW := hide hA.new
                    have HDR := hide (fun (Wd : World) (f : Fr (fun _ => False) wr Wd) => ((unhide HDA).kept (hf.trans f (fun _ _ h => h))).ln.rdl)
                    clear hcv hcb hxs hRx hlj hlg hxl hA hO hvl hrows hvi hf hFw
                    rcases hbv : bs[j] with _ | _
                    · rw [hbv] at x2 hTK
                      simp only [Bool.false_eq_true, if_false] at hTK
                      have HTK := hide hTK
                      have HRow := hide (rRow_ok wr p g m j ((unhide HD).kept (unhide HFW) id) hk hm (by have := unhide HA; omega))
                      clear hTK hbv hbj x1 hxm hbl
                      go_wp2_with fail
                      refine (unhide HRow).mono ?_
                      rintro e w2 ⟨⟨q2', rfl, hq2, hB2⟩, f2⟩
                      have hR2 := hB2.rd (by rw [rowL_length]; simp only [maxLen]; omega)
                      rw [rowL_length] at hR2
                      have HMix := hide (mix_any w2 _ _ _ DD n hR2 (unhide HDR w2 f2) (by rw [rowL_length, unhide HDL]; omega) (by rw [rowL_length]; omega) (unhide HDN) hn4)
                      rw [rowL_length, mixL_congr (s := co g j) (fun c hc => by rw [gt_of (by rw [rowL_length]; exact hc), rowL_get])] at HMix
                      have HF2 := hide f2
                      clear f2 hB2 hR2 HRow
                      go_wp2_with fail
                      refine (unhide HMix).mono ?_
                      rintro e w3 ⟨rfl, hB3, f3⟩
                      have HB3 := hide hB3
                      have HF3 := hide ((unhide HF2).trans f3 (fun _ _ h => h))
                      have hs2 := (unhide HF2).size
                      obtain ⟨g3, hg3⟩ : ∃ g3, g3 = w2.heap.size := ⟨_, rfl⟩
                      rw [← hg3] at HB3 ⊢
                      have hs3 : wr.heap.size ≤ g3 := by omega
                      have hs4 := (unhide HF3).size
                      clear hB3 f3 HMix hg3
                      go_wp2_with (at_builtin; refine wpList_app rfl (.tmp 156) (.tmp 163) 65 rfl 22 inf _ 1 24 Try.underlying65 hi0 hz0 hz1 hz2 rfl (by decide) (.slice ao j ac) j us rfl (.slice (some ⟨w3.heap.size, 0, none⟩) 1 1) rfl 1 [.slice (some ⟨g3, 0, none⟩) n n] ((owns_kept (unhide HO2) (unhide HF3) (fun _ _ h => h)).alloc _) (one_cellV w3 _ 22) (fun u hu => by simp at hu; subst hu; rfl) (by omega) (by simp only [maxLen]; omega) ?_)
                      intro ao4 ac4 w4 o4 g4 p4
                      have hR3 : Rd w3 (.slice (some ⟨g3, 0, none⟩) n n) (mixL (co g j) DD g n) := by
                        have := (unhide HB3).rd (by rw [mixL_length]; simp only [maxLen]; omega)
                        rwa [mixL_length] at this
                      have hAL := AL.app (N := w6.heap.size) (w := w3) (w' := w4) (ao := ao) (n := j) (ac := ac) (ls := (rebL g m ls bs n).take j) us (by rw [unhide HVI]; exact owns_kept (unhide HO2) (unhide HF3) (fun _ _ h => h)) (unhide HVL) (fun j x l hx hl => ⟨(unhide HRO j x l hx hl).1.kept (unhide HF3) (fun _ _ h => h), (unhide HRO j x l hx hl).2.kept (unhide HF3)⟩) (unhide HNW) (.slice (some ⟨g3, 0, none⟩) n n) _ hR3 (Wb.of_bat (unhide HB3) (by omega)) (by omega) o4 g4 (p4.imp_right (fun ⟨k, e, h⟩ => ⟨k, e, by simp; omega⟩))
                      rw [← unhide HTK] at hAL
                      have HAL := hide hAL.1
                      have HF4 := hide ((unhide Hf).trans (unhide HF3) (fun _ _ h => h))
                      have HF7 := hide ((unhide HF4).trans hAL.2 (fun k hk e => by have := unhide HNW k e; omega))
                      clear hR3 hAL o4 g4 p4 HF4
                      go_wp2_with fail
                      go_roundw
                      case rel => exact ⟨j + 1, ao4, ac4, by omega, by go_num, rfl, unhide HAL, unhide HF7⟩
                      case measure => simp [intOf]; omega
                    · rw [hbv] at x2 hTK
                      simp only [if_true] at hTK
                      have HTK := hide hTK
                      have hx47 : xl ≤ 4096 := by rw [unhide HXL, unhide HX4 hbv]; exact hn4
                      have x3 : (wr.alloc (Obj.cells #[] 5)).cell? ⟨b, o + j, none⟩ = some (.slice xo xl xc) := (((Fr.refl (fun _ => False) wr).alloc _).cell (a := ⟨b, o + j, none⟩) hbl id).trans x1
                      clear hTK hbv hbj
                      go_wp2_with (at_builtin; (refine wpList_app rfl (.tmp 148) (.tmp 152) 22 rfl 5 inf5 _ 1 1 Try.underlying22 hi5 hy0 hy1 hy2 rfl (by decide) (.slice (some ⟨wr.heap.size, 0, none⟩) 0 0) 0 [] rfl (.slice xo xl xc) rfl xl (bvs lj) (owns_new (heap_alloc_new wr _)) (by have := (unhide HRX _ ((Fr.refl _ wr).alloc (Obj.cells #[] 5))).sr; rw [← unhide HXL] at this; exact this) (bvs_one _) (by omega) (by simp only [maxLen]; omega) ?_))
                      intro ao1 ac1 w3 o1 g1 p1
                      try simp only [Nat.zero_add, List.nil_append] at o1 p1 ⊢
                      have f1 := grown_fr (wr := wr) ((Fr.refl _ _).alloc _) g1 (fun k hk => by simp [Value.ownBlock] at hk; omega)
                      have n1 : ∀ k, (Value.slice ao1 xl ac1).ownBlock = some k → wr.heap.size ≤ k := (by intro k hk; rcases p1 with e | ⟨k', e, hk'⟩; (· rw [e] at hk; simp [Value.ownBlock] at hk; omega); (· rw [e] at hk; simp at hk hk'; omega))
                      have HO3 := hide o1
                      have HN3 := hide n1
                      have HF3 := hide f1
                      have hs4 := f1.size
                      clear o1 g1 p1 n1 f1
                      go_wp2_with (at_builtin; refine wpList_app rfl (.tmp 147) (.tmp 154) 65 rfl 22 inf _ 1 24 Try.underlying65 hi0 hz0 hz1 hz2 rfl (by decide) (.slice ao j ac) j us rfl (.slice (some ⟨w3.heap.size, 0, none⟩) 1 1) rfl 1 [.slice ao1 xl ac1] ((owns_kept (unhide HO2) (unhide HF3) (fun _ _ h => h)).alloc _) (one_cellV w3 _ 22) (fun u hu => by simp at hu; subst hu; rfl) (by omega) (by simp only [maxLen]; omega) ?_)
                      intro ao4 ac4 w4 o4 g4 p4
                      have hR3 : Rd w3 (.slice ao1 xl ac1) lj := Rd.of_owns (base := 0) (by rw [← unhide HXL]; exact unhide HO3)
                      have hAL := AL.app (N := w6.heap.size) (w := w3) (w' := w4) (ao := ao) (n := j) (ac := ac) (ls := (rebL g m ls bs n).take j) us (by rw [unhide HVI]; exact owns_kept (unhide HO2) (unhide HF3) (fun _ _ h => h)) (unhide HVL) (fun j x l hx hl => ⟨(unhide HRO j x l hx hl).1.kept (unhide HF3) (fun _ _ h => h), (unhide HRO j x l hx hl).2.kept (unhide HF3)⟩) (unhide HNW) (.slice ao1 xl ac1) _ hR3 (fun b hb => ⟨by have := unhide HN3 b hb; omega, owns_ty (unhide HO3) hb⟩) (by omega) o4 g4 (p4.imp_right (fun ⟨k, e, h⟩ => ⟨k, e, by simp; omega⟩))
                      rw [← unhide HTK] at hAL
                      have HAL := hide hAL.1
                      have HF4 := hide ((unhide Hf).trans (unhide HF3) (fun _ _ h => h))
                      have HF7 := hide ((unhide HF4).trans hAL.2 (fun k hk e => by have := unhide HNW k e; omega))
                      clear hR3 hAL o4 g4 p4 HF4
                      go_wp2_with fail
                      go_roundw
                      case rel => exact ⟨j + 1, ao4, ac4, by omega, by go_num, rfl, unhide HAL, unhide HF7⟩
                      case measure => simp [intOf]; omega
                  · have hjeq : i = j := by omega
                    subst hjeq
                    have HFW := hide ((unhide HF6).trans hf (fun _ _ h => h))
                    have HAA := hide hA
                    clear hA hf
                    go_wp2_with fail
                    go_ret2
                    have := (unhide HAA).ln
                    rw [List.take_of_length_le (by rw [rebL_length]; have := unhide HA; omega)] at this
                    exact ⟨⟨ao, i, ac, by rw [(unhide HRE).2]; rfl, by rw [(unhide HRE).1]; exact this.mono (unhide HF6).size⟩, unhide HFW⟩
end Go.Proofs.Ytckmddkhkdcmmaa
