/-
  The walk of the law GfThrough.
-/
import Derived.Test.YtbbgfbjchlefeaaThr3
import Derived.Test.YtbbgfbjchlefeaaFieldWalk
import Derived.Deep.RegionWith
import Derived.Deep.DeepCutAuto
import Derived.Deep.CutBlock
namespace Go.Proofs.Ytbbgfbjchlefeaa
open Go.RowKit
set_option linter.unusedVariables false

attribute [local go_sem ↓] Go.wp_at_zero Go.wp_at_succ

theorem owns_new {w : World} {b : Nat} (hb : w.heap[b]? = some (.cells #[] 5 (0, 0))) : w.ownsRow 0 5 1 (.slice (some ⟨b, 0, none⟩) 0 0) 0 [] :=
  ⟨rfl, .inr ⟨b, 0, #[], rfl, Nat.zero_le _, hb, Nat.le_refl _, by simp [maxLen], rfl, rfl⟩⟩

/-- append([]byte{}, x...): a copy. -/
theorem wp_clone {w : World} {o : Oper} {a : Act} {K : Act → World → Prop} {Q : Exit → Act → World → Prop} (s x : Operand)
    (ho : o.op = .call { callee := .builtin .append, args := #[s, x], argTypes := #[43, 43] }) (b : Nat) (hs : a.eval s = .slice (some ⟨b, 0, none⟩) 0 0) (hb : w.heap[b]? = some (.cells #[] 5 (0, 0)))
    (xv : Value) (l : List UInt8) (hxv : a.eval x = xv) (hx : Rd w xv l) (hl : l.length ≤ 4096)
    (h : ∀ ao cap w', Rd w' (.slice ao l.length cap) l → Fr (fun k => k = b) w w' → (∀ k, (Value.slice ao l.length cap).ownBlock = some k → k = b ∨ w.heap.size ≤ k) → K (a.put o.dst (.slice ao l.length cap)) w') : o.wp Try.prog a w K Q := by
  obtain ⟨i, hi, hz0, hz1, hz2⟩ := info_parts Try.info5
  refine wp_app s x 43 ho 5 i _ 1 1 Try.underlying43 hi hz0 hz1 hz2 rfl (by decide) _ 0 [] hs _ hxv l.length (bvs l) (owns_new hb) hx.sr (bvs_one _) (by omega) (by simp only [maxLen]; omega) ?_
  intro ao cap w' ho' hg hpl
  simp only [Nat.zero_add, List.nil_append] at ho' hpl ⊢
  refine h ao cap w' (Rd.of_owns ho') ⟨hg.os, hg.tape, hg.output, hg.size, fun k hk hs => hg.block k hk (fun e => hs (by simpa [Value.ownBlock] using e))⟩ (fun k hk => ?_)
  rcases hpl with e | ⟨k', e, hk'⟩
  · rw [e] at hk; simp [Value.ownBlock] at hk; exact .inl hk.symm
  · rw [e] at hk; simp at hk; exact .inr (by omega)

theorem wpList_clone {w : World} {ops : Array Oper} {rest : List Oper} {o : Oper} {a : Act} {Q : Exit → Act → World → Prop} (hgd : o.guard = none) (s x : Operand)
    (ho : o.op = .call { callee := .builtin .append, args := #[s, x], argTypes := #[43, 43] }) (b : Nat) (hs : a.eval s = .slice (some ⟨b, 0, none⟩) 0 0) (hb : w.heap[b]? = some (.cells #[] 5 (0, 0)))
    (xv : Value) (l : List UInt8) (hxv : a.eval x = xv) (hx : Rd w xv l) (hl : l.length ≤ 4096)
    (h : ∀ ao cap w', Rd w' (.slice ao l.length cap) l → Fr (fun k => k = b) w w' → (∀ k, (Value.slice ao l.length cap).ownBlock = some k → k = b ∨ w.heap.size ≤ k) → wpList Try.prog ops Q rest (a.put o.dst (.slice ao l.length cap)) w') : wpList Try.prog ops Q (o :: rest) a w :=
  wpList_plain hgd fun _ hK => wp_clone s x ho b hs hb xv l hxv hx hl fun ao cap w' h1 h2 h3 => hK _ _ (h ao cap w' h1 h2 h3)

theorem step_clone {w : World} {ops : Array Oper} {o : Oper} {a : Act} {K : Act → World → Prop} {Q : Exit → Act → World → Prop} {E : Prop} (hgd : o.guard = none) (s x : Operand)
    (ho : o.op = .call { callee := .builtin .append, args := #[s, x], argTypes := #[43, 43] }) (b : Nat) (hs : a.eval s = .slice (some ⟨b, 0, none⟩) 0 0) (hb : w.heap[b]? = some (.cells #[] 5 (0, 0)))
    (xv : Value) (l : List UInt8) (hxv : a.eval x = xv) (hx : Rd w xv l) (hl : l.length ≤ 4096)
    (h : ∀ ao cap w', Rd w' (.slice ao l.length cap) l → Fr (fun k => k = b) w w' → (∀ k, (Value.slice ao l.length cap).ownBlock = some k → k = b ∨ w.heap.size ≤ k) → K (a.put o.dst (.slice ao l.length cap)) w') :
    if Region.wanted o (yielded ops a.tmps) = true then Oper.wp Try.prog o a w K Q else E := by
  have hw : Region.wanted o (yielded ops a.tmps) = true := by simp [Region.wanted, hgd]
  rw [if_pos hw]
  exact wp_clone s x ho b hs hb xv l hxv hx hl h

/-- Where something is longer than is asked. -/
theorem thWalk_long (w : World) (xo yo po : Option Addr) (n m k cx cy cp : Nat) (h : 60 < n ∨ 60 < m ∨ 60 < k) : Calls Try.prog 7 #[.slice xo n cx, .slice yo m cy, .slice po k cp] w fun e w' => e = .returned (.bool true) ∧ Fr (fun _ => False) w w' := by
  by_cases h1 : 60 < n
  · clear h
    go_enter Try.func7, Try.ntmps7
    go_wp2_with (go_at_call 25; refine (live_any _).mono ?_; rintro e w1 ⟨rfl, f1⟩)
    go_ret
    exact ⟨rfl, f1⟩
  · have d1 : decide (60 < n) = false := by simpa using h1
    by_cases h2 : 60 < m
    · clear h
      go_enter Try.func7, Try.ntmps7
      go_wp2_with (go_at_call 25; refine (live_any _).mono ?_; rintro e w1 ⟨rfl, f1⟩)
      go_ret
      exact ⟨rfl, f1⟩
    · have d2 : decide (60 < m) = false := by simpa using h2
      have h3 : 60 < k := by omega
      clear h
      go_enter Try.func7, Try.ntmps7
      go_wp2_with (go_at_call 25; refine (live_any _).mono ?_; rintro e w1 ⟨rfl, f1⟩)
      go_ret
      exact ⟨rfl, f1⟩

/-- Through, where there is no error. -/
theorem through_ok (w : World) (xv yv : Value) (xs ys : List UInt8) (hx : Rd w xv xs) (hy : Rd w yv ys) (hl : xs.length = ys.length) (hn : ys.length ≤ 4096) (nd : xs.Nodup) :
    Calls Try.prog 28 #[xv, yv] w fun e w' => (∃ q, e = .returned (.tuple #[.slice (some ⟨q, 0, none⟩) xs.length xs.length, .int .i64 0]) ∧ Rd w' (.slice (some ⟨q, 0, none⟩) xs.length xs.length) (thr xs ys)) ∧ Fr (fun _ => False) w w' := by
  have htl := thr_length xs ys
  by_cases h0 : 0 < ys.length
  · refine (through_pos w xv yv xs ys hx hy hl hn h0 nd).mono ?_
    rintro e w' ⟨⟨q, hq, rfl, hB⟩, f⟩
    refine ⟨⟨q, rfl, ?_⟩, f⟩
    have := hB.rd (by rw [htl]; unfold maxLen; omega)
    rwa [htl] at this
  · have e1 : ys = [] := List.eq_nil_of_length_eq_zero (by omega)
    have e2 : xs = [] := List.eq_nil_of_length_eq_zero (by omega)
    subst e1 e2
    obtain ⟨xo, xcap, rfl⟩ := hx.shape
    obtain ⟨yo, ycap, rfl⟩ := hy.shape
    refine (through_zero w xo yo xcap ycap hx).mono ?_
    rintro e w' ⟨⟨q, rfl⟩, f⟩
    refine ⟨⟨q, rfl, .inr ⟨⟨q, 0, none⟩, 0, rfl, Nat.le_refl _, by simp [maxLen], fun j hj => ?_⟩⟩, f⟩
    rw [htl] at hj
    simp at hj

theorem Rd.ilt {w : World} {b o : Nat} {l : List UInt8} (h : ∀ j (h : j < l.length), w.cell? ⟨b, o + j, none⟩ = some (.int .u8 ((l[j]).toNat : Int))) (hl : 0 < l.length) : b < w.heap.size := by
  have := World.block_lt_of_cell? w _ (h 0 hl)
  exact this

theorem owns_kept {S : Nat → Prop} {w w' : World} {e : TypeId} {size : Nat} {v : Value} {n : Nat} {xs : List Value} (h : w.ownsRow 0 e size v n xs) (f : Fr S w w') (hS : ∀ k, v.ownBlock = some k → ¬ S k) : w'.ownsRow 0 e size v n xs := by
  refine ⟨h.1, ?_⟩
  rcases h.2 with h4 | ⟨g, cap, cur, rfl, hb, hg, r⟩
  · exact .inl h4
  · exact .inr ⟨g, cap, cur, rfl, hb, by rw [f.block g (lt_of_heap hg) (hS g rfl)]; exact hg, r⟩

theorem owns_nil (w : World) : w.ownsRow 0 5 1 (.slice none 0 0) 0 [] := ⟨rfl, .inl ⟨rfl, rfl⟩⟩

theorem one_cell (w : World) (v : UInt8) : Sr (w.alloc (Obj.cells #[.int .u8 ((v.toNat : Nat) : Int)] 5)) 1 (.slice (some ⟨w.heap.size, 0, none⟩) 1 1) 1 (bvs [v]) := by
  refine .inr ⟨_, _, rfl, by simp [bvs], fun j u hu => ?_⟩
  rw [Addr.add_lit, Nat.zero_add, cell_of_heap (heap_alloc_new w _)]
  simpa [bvs] using hu

set_option maxHeartbeats 8000000 in
set_option maxRecDepth 100000 in
theorem thWalk_short (w : World) (xv yv pv : Value) (xs ys p : List UInt8) (hx : Rd w xv xs) (hy : Rd w yv ys) (hp : Rd w pv p) (h1 : xs.length ≤ 60) (h2 : ys.length ≤ 60) (h3 : p.length ≤ 60) :
    Calls Try.prog 7 #[xv, yv, pv] w fun e w' => e = .returned (.bool true) ∧ Fr (fun _ => False) w w' := by
  have HX := hide hx
  have HY := hide hy
  have HP := hide hp
  obtain ⟨xo, xcap, rfl⟩ := hx.shape
  obtain ⟨yo, ycap, rfl⟩ := hy.shape
  obtain ⟨po, pcap, rfl⟩ := hp.shape
  have d1 : decide (60 < xs.length) = false := by simp; omega
  have d2 : decide (60 < ys.length) = false := by simp; omega
  have d3 : decide (60 < p.length) = false := by simp; omega
  clear hx hy hp
  go_enter Try.func7, Try.ntmps7
  go_wp2_with (at_builtin; refine wpList_clone rfl (.tmp 30) (.tmp 31) rfl w.heap.size rfl (heap_alloc_new w _) _ xs rfl ((unhide HX).kept ((Fr.refl (fun _ => False) w).alloc _) (fun _ _ h => h)) (by omega) ?_)
  intro ao1 cap1 w1 R1 f1 n1
  have F1 : Fr (fun _ => False) w w1 := ((Fr.refl (fun _ => False) w).alloc (Obj.cells #[] 5)).trans f1 (fun i hi h => by omega)
  have HR1 := hide R1
  have HF1 := hide F1
  have HY1 := hide (((unhide HY).kept F1 (fun _ _ h => h)).kept ((Fr.refl (fun _ => False) w1).alloc (Obj.cells #[] 5)) (fun _ _ h => h))
  clear R1 f1 n1 F1
  go_wp2_with (at_builtin; refine wpList_clone rfl (.tmp 33) (.tmp 34) rfl w1.heap.size rfl (heap_alloc_new w1 _) _ ys rfl (unhide HY1) (by omega) ?_)
  intro ao2 cap2 w2 R2 f2 n2
  have G2 : Fr (fun _ => False) w1 w2 := ((Fr.refl (fun _ => False) w1).alloc (Obj.cells #[] 5)).trans f2 (fun i hi h => by omega)
  have HRx := hide ((unhide HR1).kept G2 (fun _ _ h => h))
  have HRy := hide R2
  have HF2 := hide ((unhide HF1).trans G2 (fun _ _ h => h))
  clear R2 f2 n2 G2 HR1 HF1 HY1
  by_cases hl : xs.length = ys.length
  · by_cases hd : xs.Nodup
    · have HT := hide (through_ok w2 _ _ xs ys (unhide HRx) (unhide HRy) hl (by omega) hd)
      have HL := hide hl
      have HD := hide hd
      clear hl hd
      go_wp2_with fail
      refine (unhide HT).mono ?_
      rintro e w3 ⟨⟨q, rfl, RT⟩, f3⟩
      have HRT := hide RT
      have HF3 := hide ((unhide HF2).trans f3 (fun _ _ h => h))
      clear RT f3 HT HRx HRy HF2
      go_wp2_with fail
      refine (num_any _ _).mono ?_
      rintro e w' ⟨rfl, rfl⟩
      go_wp2_with fail
      go_loopw [9, 10] (fun v i w' => ∃ k : Nat, k ≤ xs.length ∧ i = .int .i64 (k : Int) ∧ (∃ vao vcap, v = .slice vao k vcap ∧ w'.ownsRow 0 5 1 (.slice vao k vcap) k (bvs ((xs.take k).map (ev p))) ∧ (∀ b, (Value.slice vao k vcap).ownBlock = some b → w3.heap.size ≤ b)) ∧ Fr (fun _ => False) w3 w') (fun _ i _ => xs.length - (intOf i).toNat)
      case atStart => exact ⟨0, by omega, rfl, ⟨none, 0, rfl, by simpa [bvs] using owns_nil w3, fun b hb => by simp [Value.ownBlock] at hb⟩, Fr.refl _ _⟩
      case round =>
        obtain ⟨k, hk, rfl, ⟨vao, vcap, rfl, hO, hN⟩, hf⟩ := hrel
        by_cases hlt : k < xs.length
        · have hfw := (unhide HF3).trans hf (fun _ _ h => h)
          obtain ⟨xb, xof, rfl, -, hxcap, hxcm, hcx⟩ := ((unhide HX).kept hfw (fun _ _ h => h)).lits (by omega)
          obtain ⟨yb, yof, rfl, -, hycap, hycm, hcy⟩ := ((unhide HY).kept hfw (fun _ _ h => h)).lits (by have := unhide HL; omega)
          have x1 := Rd.gt (n := 0) (cap := 0) hcx k hlt
          have y1 := Rd.gt (n := 0) (cap := 0) hcy k (by have := unhide HL; omega)
          have xlt := Rd.ilt hcx (by omega)
          have ylt := Rd.ilt hcy (by have := unhide HL; omega)
          have hkl : k < ys.length := by have := unhide HL; omega
          unfold maxLen at hxcm hycm
          have hat := thr_at xs ys (unhide HD) k hlt
          have hRT := (unhide HRT).kept hf (fun _ _ h => h)
          have HE1 := hide (fun W (q' : Fr (fun _ => False) wr W) => eval_any W (.slice (some ⟨q, 0, none⟩) xs.length xs.length) (thr xs ys) (gt xs k) (hRT.kept q' (fun _ _ h => h)) (by rw [thr_length]; omega))
          rw [hat] at HE1
          have hmap : (xs.take (k + 1)).map (ev p) = (xs.take k).map (ev p) ++ [ev p (gt xs k)] := by
            rw [List.take_succ_eq_append_getElem hlt, List.map_append]
            unfold gt
            rw [List.getElem?_eq_getElem hlt]
            rfl
          have HMP := hide hmap
          have HXC := hide (show ∀ W, Fr (fun _ => False) wr W → W.cell? ⟨xb, xof + k, none⟩ = some (.int .u8 (((gt xs k).toNat : Nat) : Int)) from fun W f => (f.cell (a := ⟨xb, xof + k, none⟩) xlt id).trans x1)
          have HYC := hide (show ∀ W, Fr (fun _ => False) wr W → W.cell? ⟨yb, yof + k, none⟩ = some (.int .u8 (((gt ys k).toNat : Nat) : Int)) from fun W f => (f.cell (a := ⟨yb, yof + k, none⟩) ylt id).trans y1)
          have HPR := hide ((unhide HP).kept hfw (fun _ _ h => h))
          have HO := hide hO
          have HN := hide hN
          have Hf := hide hf
          clear hO hN hf hfw hcx hcy hat hRT hmap
          generalize gt xs k = xk at *
          generalize gt ys k = yk at *
          go_upto_region 12 with fail
          go_cut [64] (fun c wx => c = .bool false ∧ Fr (fun _ => False) wr wx)
          case first =>
            go_region_with ((go_at_call 32; refine (unhide HE1 _ (by first | exact Fr.ofDrewN _ 1 | exact Fr.ofDrewN _ _)).mono ?_; rintro e w4 ⟨rfl, f4⟩; have g4 := (Fr.ofDrewN (S := fun _ => False) wr 1).trans f4 (fun _ _ h => h); have c4 := unhide HYC _ g4))
            all_goals
              go_wp2_with fail
              go_meet
              case rel => exact ⟨by first | rfl | simp, by first | exact g4 | exact g4.drewN _⟩
          case rest =>
            obtain ⟨rfl, g4⟩ := hcut
            have x4 := unhide HXC _ g4
            have xlt4 : xb < wc.heap.size := Nat.lt_of_lt_of_le xlt g4.size
            have HXC4 := hide (show ∀ W, Fr (fun _ => False) wc W → W.cell? ⟨xb, xof + k, none⟩ = some (.int .u8 ((xk.toNat : Nat) : Int)) from fun W f => (f.cell (a := ⟨xb, xof + k, none⟩) xlt4 id).trans x4)
            have HPA := hide (((unhide HPR).kept g4 (fun _ _ h => h)).kept ((Fr.refl (fun _ => False) wc).alloc (Obj.cells #[] 5)) (fun _ _ h => h))
            have HO4 := hide (owns_kept (unhide HO) g4 (fun _ _ h => h))
            have Hf4 := hide ((unhide Hf).trans g4 (fun _ _ h => h))
            have HNW := hide (heap_alloc_new wc (Obj.cells #[] 5))
            obtain ⟨inf, hi, hz0, hz1, hz2⟩ := info_parts Try.info5
            have szw := (unhide Hf4).size
            clear g4 x1 y1 HXC HYC HE1 HPR HO Hf
            go_upto_region 14 with fail
            go_region_law ((first
              | (refine step_clone rfl (.tmp 66) (.tmp 67) rfl wc.heap.size (by rfl) (by exact unhide HNW) (.slice po p.length pcap) p (by rfl) (by exact unhide HPA) (by omega) ?_; intro ao5 cap5 w5 R5 f5 n5; have g5 := Fr.trans (S := fun _ => False) (a := wc) (by first | exact ((Fr.refl _ _).alloc _).drew | exact (Fr.refl _ _).drew.alloc _ | exact (Fr.refl _ _).alloc _) f5 (fun i hi h => by omega); have x5 := unhide HXC4 _ g5)
              | (go_simp; go_at_call 32; refine (eval_any _ _ p xk (by exact R5) (by omega)).mono ?_; rintro e w6 ⟨rfl, f6⟩; dsimp only)
              | (refine step_app rfl (.tmp 65) (.tmp 74) 43 rfl 5 inf _ 1 1 Try.underlying43 hi hz0 hz1 hz2 rfl (by decide) (.slice vao k vcap) k (bvs ((xs.take k).map (ev p))) (by rfl) (.slice (some ⟨w6.heap.size, 0, none⟩) 1 1) (by rfl) 1 (bvs [ev p xk]) (by exact (owns_kept (owns_kept (unhide HO4) g5 (fun _ _ h => h)) f6 (fun _ _ h => h)).alloc _) (by exact one_cell w6 (ev p xk)) (bvs_one _) (by omega) (by simp only [maxLen]; omega) ?_; intro ao7 cap7 w7 ho7 hg7 hpl7)))
            all_goals
              have hnew : ∀ b, (Value.slice ao7 (k + 1) cap7).ownBlock = some b → w3.heap.size ≤ b := by
                intro b hb
                rcases hpl7 with e | ⟨k', e, hk'⟩
                · rw [e] at hb; exact unhide HN b hb
                · rw [e] at hb
                  have z1 := g5.size
                  have z2 := f6.size
                  simp at hb hk' z2
                  omega
              have F7 : Fr (fun _ => False) w3 w7 := by
                have a1 := (unhide Hf4).trans g5 (fun _ _ h => h)
                have a2 := Fr.trans (S := fun _ => False) (T := fun _ => False) a1 (by first | exact f6 | exact f6.drewL) (fun _ _ h => h)
                refine Fr.grown (S := fun _ => False) (w := w6.alloc _) (a2.alloc _) (by exact ⟨hg7.os, hg7.tape, hg7.output, hg7.size, hg7.block⟩) (fun j hj e => ?_)
                have := unhide HN j e
                omega
              have hmp := unhide HMP
              have HO7 : Hid (w7.ownsRow 0 5 1 (.slice ao7 (k + 1) cap7) (k + 1) (bvs ((xs.take (k + 1)).map (ev p)))) := by
                rw [hmp, bvs_append]; exact ho7
              have HF7 := hide F7
              have HN7 := hide hnew
              clear hnew F7 hmp ho7 hg7 hpl7 R5 f5 n5 g5 f6
              go_wp2_with fail
              go_roundw
              case rel => exact ⟨k + 1, by omega, by go_num, ⟨ao7, cap7, rfl, unhide HO7, unhide HN7⟩, unhide HF7⟩
              case measure => simp [intOf]; omega
        · have hke : k = xs.length := by omega
          subst hke
          rw [List.take_length] at hO
          have HO := hide hO
          have HF4 := hide ((unhide HF3).trans hf (fun _ _ h => h))
          clear hO hN hf
          by_cases hpl : xs.length < p.length
          · have hpi : (xs.length : Int) < (p.length : Int) := by omega
            clear hpl
            go_wp2_with (go_at_call 25; refine (live_any _).mono ?_; rintro e w5 ⟨rfl, f5⟩)
            go_ret
            exact ⟨rfl, (unhide HF4).trans f5 (fun _ _ h => h)⟩
          · have hpi : ¬ (xs.length : Int) < (p.length : Int) := by omega
            have HX4 := hide (((unhide HX).kept (unhide HF4) (fun _ _ h => h)).kept ((Fr.refl (fun _ => False) wr).alloc (Obj.cells #[] 5)) (fun _ _ h => h))
            have HBK := hide (thr_back xs p (unhide HD) (by omega))
            go_wp2_with (at_builtin; refine wpList_clone rfl (.tmp 83) (.tmp 84) rfl wr.heap.size rfl (heap_alloc_new wr _) _ xs rfl (unhide HX4) (by omega) ?_)
            intro ao6 cap6 w6 R6 f6 n6
            have G6 : Fr (fun _ => False) wr w6 := ((Fr.refl (fun _ => False) wr).alloc (Obj.cells #[] 5)).trans f6 (fun i hi h => by omega)
            have hml : (xs.map (ev p)).length = xs.length := by simp
            have o6 := owns_kept (unhide HO) G6 (fun _ _ h => h)
            have r6 : Rd w6 (.slice vao xs.length vcap) (xs.map (ev p)) := Rd.of_owns (by rw [hml]; exact o6)
            have HT := hide (through_ok w6 _ _ xs (xs.map (ev p)) R6 r6 hml.symm (by omega) (unhide HD))
            rw [unhide HBK] at HT
            have HF6 := hide ((unhide HF4).trans G6 (fun _ _ h => h))
            clear R6 f6 n6 G6 o6 r6 hml HX4 HO
            go_wp2_with fail
            refine (unhide HT).mono ?_
            rintro e w7 ⟨⟨q7, rfl, R7⟩, f7⟩
            have HF7 := hide ((unhide HF6).trans f7 (fun _ _ h => h))
            have HR7 := hide R7
            clear R7 f7 HT HF6
            go_wp2_with fail
            refine (num_any _ _).mono ?_
            rintro e w' ⟨rfl, rfl⟩
            go_wp2_with fail
            go_loopw [13] (fun i w' => ∃ j : Nat, j ≤ xs.length ∧ i = .int .i64 (j : Int) ∧ w7 = w') (fun i _ => xs.length - (intOf i).toNat)
            case atStart => exact ⟨0, by omega, rfl, rfl⟩
            case round =>
              obtain ⟨j, hj, rfl, rfl⟩ := hrel
              by_cases hlt2 : j < xs.length
              · have hbl : (p ++ List.replicate (xs.length - p.length) 0).length = xs.length := by simp; omega
                obtain ⟨b7, o7, hbo, -, -, -, hc7⟩ := (unhide HR7).lits (by omega)
                simp only [Option.some.injEq, Addr.mk.injEq, and_true] at hbo
                obtain ⟨rfl, rfl⟩ := hbo
                have c7 := hc7 j (by omega)
                rw [Nat.zero_add] at c7
                by_cases hjp : j < p.length
                · rw [List.getElem_append_left hjp] at c7
                  obtain ⟨pb, pof, rfl, -, hpcap, hpcm, hcp⟩ := ((unhide HP).kept (unhide HF7) (fun _ _ h => h)).lits (by omega)
                  have cp := hcp j hjp
                  unfold maxLen at hpcm
                  generalize p[j] = pj at *
                  clear hc7 hcp hbl hlt
                  go_wp2_with fail
                  go_roundw
                  case rel => exact ⟨j + 1, by omega, by go_num, trivial⟩
                  case measure => simp [intOf]; omega
                · rw [List.getElem_append_right (by omega), List.getElem_replicate] at c7
                  clear hc7 hbl hlt
                  go_wp2_with fail
                  go_roundw
                  case rel => exact ⟨j + 1, by omega, by go_num, trivial⟩
                  case measure => simp [intOf]; omega
              · have hje : j = xs.length := by omega
                subst hje
                go_wp2_with (go_at_call 25; refine (live_any _).mono ?_; rintro e w8 ⟨rfl, f8⟩)
                go_ret
                exact ⟨rfl, (unhide HF7).trans f8 (fun _ _ h => h)⟩
    · have hdd : dupB xs = true := by unfold dupB; simpa using hd
      have HT := hide (through_dup w2 _ _ xs ys (unhide HRx) (unhide HRy) hl (by omega) hdd)
      clear hd hdd hl
      go_wp2_with fail
      refine (unhide HT).mono ?_
      rintro e w3 ⟨rfl, f3⟩
      go_wp2_with (first | (go_at_call 21; refine (num_any _ _).mono ?_; rintro e w' ⟨rfl, rfl⟩) | (go_at_call 25; refine (live_any _).mono ?_; rintro e w4 ⟨rfl, f4⟩))
      go_ret
      exact ⟨rfl, ((unhide HF2).trans f3 (fun _ _ h => h)).trans f4 (fun _ _ h => h)⟩
  · have HT := hide (through_side w2 ao1 ao2 _ _ cap1 cap2 hl)
    clear hl
    go_wp2_with fail
    refine (unhide HT).mono ?_
    rintro e w3 ⟨rfl, rfl⟩
    go_wp2_with (first | (go_at_call 21; refine (num_any _ _).mono ?_; rintro e w' ⟨rfl, rfl⟩) | (go_at_call 25; refine (live_any _).mono ?_; rintro e w4 ⟨rfl, f4⟩))
    go_ret
    exact ⟨rfl, (unhide HF2).trans f4 (fun _ _ h => h)⟩
#print axioms thWalk_short
end Go.Proofs.Ytbbgfbjchlefeaa
