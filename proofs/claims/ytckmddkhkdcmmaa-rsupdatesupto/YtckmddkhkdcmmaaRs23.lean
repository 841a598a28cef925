/-
  The walk of the document's Update where it answers.
-/
import Derived.Test.YtckmddkhkdcmmaaRs22
namespace Go.Proofs.Ytckmddkhkdcmmaa
open Go.RowKit
set_option linter.unusedVariables false

attribute [local go_sem ↓] Go.wp_at_zero Go.wp_at_succ

section
variable (w : World) (p k m : Nat) (v lv xv : Value) (ls : List (List UInt8)) (l x : List UInt8)

set_option maxRecDepth 100000 in
set_option maxHeartbeats 8000000 in
theorem rupdate_ok (a : Nat) (hD : DAt w p k m) (hk : 1 ≤ k ∧ k ≤ 16) (hm : m ≤ 8) (hmp : 0 < m) (h : RdL w v ls) (hl : Rd w lv l) (hx : Rd w xv x) (ha : a < k) (hll : ls.length = m) (he : (oneL ls (m : Int)).2 = true) (hne : l.length = x.length) (h4 : ∀ y ∈ ls, y.length = l.length) (h5 : l.length ≤ 4096) :
    Calls Try.prog 55 #[.pointer (some ⟨p, 0, none⟩), v, .int .i64 (a : Int), lv, xv] w fun e w' => (∃ ao ac, e = .returned (.tuple #[.slice ao m ac, .int .i64 0]) ∧ LN w.heap.size w' (.slice ao m ac) (updL k m ls a (sm l x))) ∧ Fr (fun _ => False) w w' := by
  have c0 := cell_of_heap hD 0
  have c1 := cell_of_heap hD 1
  simp at c0 c1
  have hplt := lt_of_heap hD
  have HE := hide (even_any w v ls (m : Int) h (by omega))
  rw [he] at HE
  have H := hide h
  have HD := hide hD
  have Hl := hide hl
  have Hx := hide hx
  have HW := hide h4
  have HNE := hide hne
  have HLL := hide hll
  obtain ⟨vo, vc, rfl⟩ := h.shape
  obtain ⟨lo, lc, rfl⟩ := hl.shape
  obtain ⟨xo, xc, rfl⟩ := hx.shape
  obtain ⟨inf, hi0, hz0, hz1, hz2⟩ := info_parts Try.info22
  obtain ⟨inf5, hi5, hy0, hy1, hy2⟩ := info_parts Try.info5
  have hlen1 : ls.length ≤ 8 := by omega
  have b1 : decide ((a : Int) < 0) = false := by simp
  have b2 : decide (k ≤ a) = false := by simp; omega
  have b3 : ((l.length : Int) != (x.length : Int)) = false := by simp; omega
  have b7 : decide ((4096 : Int) < (l.length : Int)) = false := by simp; omega
  have H0 := hide (show ∀ hm : 0 < m, ∃ hls : 0 < ls.length, (ls[0]).length = l.length from fun hm => ⟨by omega, h4 _ (List.getElem_mem _)⟩)
  clear hD h hl hx he hne hll h4
  have b5 : decide ((0 : Int) < (m : Int)) = true := by simp; omega
  obtain ⟨hls, h6⟩ := unhide H0 hmp
  have H6 := hide h6
  clear h6 H0
  go_enter Try.func55, Try.ntmps55
  go_wp2_with (go_at_call 95; refine (unhide HE).mono ?_; rintro e w1 ⟨rfl, f1⟩; obtain ⟨vb, vof, yo, yc, rfl, y1, -⟩ := ((unhide H).kept f1).get 0 hls; rw [unhide H6, Nat.add_zero] at y1; have d1 : w1.cell? ⟨p, 1, none⟩ = some (.int .i64 (m : Int)) := (f1.cell (a := ⟨p, 1, none⟩) hplt id).trans c1)
  have d0 : w1.cell? ⟨p, 0, none⟩ = some (.int .i64 (k : Int)) := (f1.cell (a := ⟨p, 0, none⟩) hplt id).trans c0
  have HF1 := hide f1
  have hs1 := f1.size
  have hp1 : p < w1.heap.size := by omega
  clear f1 y1 HE H6 b1 b2 b3 b5 b7
  go_loopw [12, 13, 14, 15, 16] (fun hx y _ _ _ w' => ∃ i : Nat, i ≤ m ∧ y = .int .i64 (i : Int) ∧ (∃ ao ac, hx = .slice ao i ac ∧ AL w1.heap.size w' (.slice ao i ac) ((updL k m ls a (sm l x)).take i)) ∧ Fr (fun _ => False) w1 w') (fun _ y _ _ _ _ => m - (intOf y).toNat)
  case atStart => exact ⟨0, by omega, rfl, ⟨none, 0, rfl, by simpa using AL.nil w1.heap.size w1⟩, Fr.refl _ _⟩
  case round =>
    obtain ⟨i, hi, rfl, ⟨ao, ac, rfl, hA⟩, hf⟩ := hrel
    have r0 : wr.cell? ⟨p, 0, none⟩ = some (.int .i64 (k : Int)) := by rw [hf.cell (a := ⟨p, 0, none⟩) hp1 id]; exact d0
    have r1 : wr.cell? ⟨p, 1, none⟩ = some (.int .i64 (m : Int)) := by rw [hf.cell (a := ⟨p, 1, none⟩) hp1 id]; exact d1
    by_cases hlt : i < m
    · have hil : i < ls.length := by rw [unhide HLL]; exact hlt
      have hFw := (unhide HF1).trans hf (fun _ _ h => h)
      obtain ⟨vb', vof', yo, yc, e, y1, hRy⟩ := ((unhide H).kept hFw).get i hil
      simp only [Option.some.injEq, Addr.mk.injEq] at e
      obtain ⟨rfl, rfl, -⟩ := e
      have hyn : (ls[i]).length = l.length := unhide HW _ (List.getElem_mem _)
      have hgd : ls.getD i [] = ls[i] := by simp [List.getD, hil]
      obtain ⟨ki, hki⟩ : ∃ ki, ki = k + i := ⟨_, rfl⟩
      have HST0 := hide (updL_take k m ls a (sm l x) i hlt)
      rw [hgd, ← hki] at HST0
      rw [hyn] at y1
      have hSy := Rd.sr hRy
      rw [hyn] at hRy hSy
      have eI : (k : Int) + (i : Int) = (ki : Int) := by omega
      have b8 : IntKind.i64.wrap (ki : Int) = (ki : Int) := by rw [IntKind.wrap_i64]; omega
      have HRow := hide (rRow_ok wr p k m ki ((unhide HD).kept hFw id) hk hm (by omega))
      have hvb := World.block_lt_of_cell? wr _ y1
      simp only at hvb
      have hco : (rowL k ki)[a]'(by rw [rowL_length]; exact ha) = co k ki a := rowL_get _ _ _ _
      generalize ls[i] = li at *
      generalize co k ki a = cc at *
      have HYN := hide hyn
      have HRY := hide hRy
      have HFw := hide hFw
      have Hf := hide hf
      have HA := hide hA
      have HCO := hide hco
      have HKI := hide hki
      have hpr : p < wr.heap.size := Nat.lt_of_lt_of_le hp1 hf.size
      clear hRy hSy hFw hf hA hyn hgd hco hki
      go_wp2_with fail
      refine (unhide HRow).mono ?_
      rintro e w2 ⟨⟨q2, rfl, hq2, hB2⟩, f2⟩
      have y2 : w2.cell? ⟨vb, vof + i, none⟩ = some (.slice yo l.length yc) := (f2.cell (a := ⟨vb, vof + i, none⟩) hvb id).trans y1
      have HSX := hide (show Sr (w2.alloc (Obj.cells #[] 5)) 1 (.slice yo l.length yc) l.length (bvs li) from by
        have := Rd.sr (((unhide HRY).kept f2 (fun _ _ h => h)).kept ((Fr.refl (fun _ => False) w2).alloc (Obj.cells #[] 5)) (fun _ _ h => h))
        rwa [unhide HYN] at this)
      have HB2 := hide hB2
      have HF2 := hide f2
      have hvb2 : vb < w2.heap.size := Nat.lt_of_lt_of_le hvb f2.size
      have y3 : (w2.alloc (Obj.cells #[] 5)).cell? ⟨vb, vof + i, none⟩ = some (.slice yo l.length yc) := (((Fr.refl (fun _ => False) w2).alloc (Obj.cells #[] 5)).cell (a := ⟨vb, vof + i, none⟩) hvb2 id).trans y2
      clear hB2 f2 HRow
      go_wp2_with (at_builtin; refine wpList_app rfl (.tmp 78) (.tmp 82) 22 rfl 5 inf5 _ 1 1 Try.underlying22 hi5 hy0 hy1 hy2 rfl (by decide) (.slice (some ⟨w2.heap.size, 0, none⟩) 0 0) 0 [] rfl (.slice yo l.length yc) rfl l.length (bvs li) (owns_new (heap_alloc_new w2 _)) (unhide HSX) (bvs_one _) (by omega) (by simp only [maxLen]; omega) ?_)
      intro bo bc w3 o3 g3 p3
      have f3 := grown_fr (wr := w2) ((Fr.refl _ _).alloc _) g3 (fun k hk => by simp [Value.ownBlock] at hk; omega)
      have n3 : ∀ b, (Value.slice bo l.length bc).ownBlock = some b → w2.heap.size ≤ b := by
        intro b hb
        rcases p3 with e | ⟨k', e, hk'⟩
        · rw [e] at hb; simp [Value.ownBlock] at hb; omega
        · rw [e] at hb; simp at hb; omega
      have HO3 := hide o3
      have HF3 := hide f3
      have HN3 := hide n3
      clear o3 g3 p3 f3 n3 HSX
      go_wp2_with fail
      go_loopw [16] (fun y w' => ∃ t : Nat, t ≤ l.length ∧ y = .int .i64 (t : Int) ∧ w'.ownsRow 0 5 1 (.slice bo l.length bc) l.length (bvs (addt cc (li.take t) ((sm l x).take t) ++ li.drop t)) ∧ Fr (fun _ => False) w2 w') (fun y _ => l.length - (intOf y).toNat)
      case atStart => exact ⟨0, by omega, rfl, by simpa [addt] using unhide HO3, unhide HF3⟩
      case round =>
        obtain ⟨t, ht, rfl, hO, hf⟩ := hrel
        by_cases htl : t < l.length
        · obtain ⟨g, rfl⟩ : ∃ g, bo = some ⟨g, 0, none⟩ := by
            rcases hO.2 with ⟨hv, h0⟩ | ⟨g, _, _, hv, -⟩
            · omega
            · simp only [Value.slice.injEq] at hv
              exact ⟨g, hv.1⟩
          have hsl := sm_length (unhide HNE)
          have hlil : li.length = l.length := unhide HYN
          have hxl : t < x.length := by have := unhide HNE; omega
          have HST := hide (addt_step cc li (sm l x) t (by omega) (by omega))
          have hF' := ((unhide HFw).trans (unhide HF2) (fun _ _ h => h)).trans hf (fun _ _ h => h)
          obtain ⟨lb, lof, rfl, -, hlcap, -, hcl⟩ := ((unhide Hl).kept hF' (fun _ _ h => h)).lits (by omega)
          obtain ⟨xb, xof, rfl, -, hxcap, -, hcx⟩ := ((unhide Hx).kept hF' (fun _ _ h => h)).lits (by omega)
          have q3 := hcl t htl
          have q4 := hcx t hxl
          have q2c := ((unhide HB2).kept hf id).cell a (by rw [rowL_length]; exact ha)
          rw [unhide HCO] at q2c
          have es : (sm l x)[t]'(by omega) = l[t] ^^^ x[t] := by simp [sm]
          rw [es] at HST
          have hal : (addt cc (li.take t) ((sm l x).take t)).length = t := by rw [addt_length _ _ _ (by simp; omega)]; simp; omega
          have hlen : (addt cc (li.take t) ((sm l x).take t) ++ li.drop t).length = l.length := by rw [List.length_append, hal, List.length_drop]; omega
          have hq1 := (owns_set hO t htl undef).2
          rw [bvs_get _ t (by omega)] at hq1
          have ho : (addt cc (li.take t) ((sm l x).take t) ++ li.drop t)[t]'(by omega) = li[t]'(by omega) := by
            rw [List.getElem_append_right (by omega)]
            simp [hal]
          rw [ho] at hq1
          generalize (li[t]'(by omega)) = old at *
          generalize l[t] = lt at *
          generalize x[t] = xt at *
          have HOB := hide hO
          have kgb := World.block_lt_of_cell? wr _ hq1.1
          have HQ1 := hide (show ∀ W, Fr (fun _ => False) wr W → W.cell? ⟨g, 0 + t, none⟩ = some (.int .u8 ((old.toNat : Nat) : Int)) from fun W f => by rw [Nat.zero_add]; exact (f.cell (a := ⟨g, t, none⟩) kgb id).trans hq1.1)
          have HZ1 := hide (show ∀ W, Fr (fun _ => False) wr W → W.frozen? ⟨g, 0 + t, none⟩ = false from fun W f => by rw [Nat.zero_add]; exact (f.frozen (a := ⟨g, t, none⟩) kgb id).trans hq1.2)
          have kq2 := World.block_lt_of_cell? wr _ q2c
          have HQ2 := hide (show ∀ W, Fr (fun _ => False) wr W → W.cell? ⟨q2, 0 + a, none⟩ = some (.int .u8 ((cc.toNat : Nat) : Int)) from fun W f => by rw [Nat.zero_add]; exact (f.cell (a := ⟨q2, a, none⟩) kq2 id).trans q2c)
          have klb := World.block_lt_of_cell? wr _ q3
          have kxb := World.block_lt_of_cell? wr _ q4
          have HQ3 := hide (show ∀ W, Fr (fun _ => False) wr W → W.cell? ⟨lb, lof + t, none⟩ = some (.int .u8 ((lt.toNat : Nat) : Int)) from fun W f => (f.cell (a := ⟨lb, lof + t, none⟩) klb id).trans q3)
          have HQ4 := hide (show ∀ W, Fr (fun _ => False) wr W → W.cell? ⟨xb, xof + t, none⟩ = some (.int .u8 ((xt.toNat : Nat) : Int)) from fun W f => (f.cell (a := ⟨xb, xof + t, none⟩) kxb id).trans q4)
          have Hf2 := hide hf
          have hgn := unhide HN3 g rfl
          clear hO hf hF' hcl hcx hq1 q3 q4 q2c es hal hlen ho hsl hlil
          go_wp2_with fail
          refine wp_name' ?_
          intro a0 hA
          have h2 : a0.tmps.getD 2 undef = .int .i64 (a : Int) := by rw [hA]; rfl
          have h3 : a0.tmps.getD 3 undef = .slice (some ⟨lb, lof, none⟩) l.length lc := by rw [hA]; rfl
          have h4 : a0.tmps.getD 4 undef = .slice (some ⟨xb, xof, none⟩) x.length xc := by rw [hA]; rfl
          have h14 : a0.tmps.getD 14 undef = .slice (some ⟨q2, 0, none⟩) k k := by rw [hA]; rfl
          have h15 : a0.tmps.getD 15 undef = .slice (some ⟨g, 0, none⟩) l.length bc := by rw [hA]; rfl
          have h16 : a0.tmps.getD 16 undef = .int .i64 (t : Int) := by rw [hA]; rfl
          have hsz : a0.tmps.size = 117 := by rw [hA]; rfl
          have hdf : a0.defers = [] := by rw [hA]
          have HA0 := hide hA
          clear hA
          refine wp_region_last (by kernel_rfl) (by kernel_rfl) (by kernel_rfl) (by decide +kernel) (by rw [hsz]; decide +kernel) _ rfl (Tk [.eq (.slice (some ⟨g, 0, none⟩) l.length bc), .eq (.int .i64 (t : Int)), .eq (.slice (some ⟨g, 0, none⟩) l.length bc), .eq (.int .i64 (t : Int)), .eq (.pointer (some ⟨g, 0 + t, none⟩)), .eq (.int .u8 ((old.toNat : Nat) : Int)), .eq (.slice (some ⟨q2, 0, none⟩) k k), .eq (.int .i64 (a : Int)), .eq (.pointer (some ⟨q2, 0 + a, none⟩)), .eq (.int .u8 ((cc.toNat : Nat) : Int)), .eq (.slice (some ⟨lb, lof, none⟩) l.length lc), .eq (.int .i64 (t : Int)), .eq (.pointer (some ⟨lb, lof + t, none⟩)), .eq (.int .u8 ((lt.toNat : Nat) : Int)), .eq (.slice (some ⟨xb, xof, none⟩) x.length xc), .eq (.int .i64 (t : Int)), .eq (.pointer (some ⟨xb, xof + t, none⟩)), .eq (.int .u8 ((xt.toNat : Nat) : Int)), .eq (.int .u8 (((lt ^^^ xt).toNat : Nat) : Int)), .eq (.int .u8 (((mul cc (lt ^^^ xt)).toNat : Nat) : Int)), .eq (.int .u8 (((old ^^^ (mul cc (lt ^^^ xt))).toNat : Nat) : Int)), .eq (.pointer (some ⟨g, 0 + t, none⟩))]) (Tk.mono _) ?steps ?last
          case steps =>
            refine ⟨?_, ?_⟩
            · intro a' w' hb hf hd
              exact ⟨wanted_none rfl, ex_val (.slice (some ⟨g, 0, none⟩) l.length bc) (ex_move rfl ((hb.old 15 (by decide +kernel)).trans h15)) rfl⟩
            refine ⟨?_, ?_⟩
            · intro a' w' hb hf hd
              exact ⟨wanted_none rfl, ex_val (.int .i64 (t : Int)) (ex_move rfl ((hb.old 16 (by decide +kernel)).trans h16)) rfl⟩
            refine ⟨?_, ?_⟩
            · intro a' w' hb hf hd
              exact ⟨wanted_none rfl, ex_val (.slice (some ⟨g, 0, none⟩) l.length bc) (ex_move rfl ((hb.old 15 (by decide +kernel)).trans h15)) rfl⟩
            refine ⟨?_, ?_⟩
            · intro a' w' hb hf hd
              exact ⟨wanted_none rfl, ex_val (.int .i64 (t : Int)) (ex_move rfl ((hb.old 16 (by decide +kernel)).trans h16)) rfl⟩
            refine ⟨?_, ?_⟩
            · intro a' w' hb hf hd
              exact ⟨wanted_none rfl, ex_val (.pointer (some ⟨g, 0 + t, none⟩)) (ex_index22 rfl (hd 2 (by kernel_rfl) 92 rfl) (hd 3 (by kernel_rfl) 93 rfl) (by omega)) rfl⟩
            refine ⟨?_, ?_⟩
            · intro a' w' hb hf hd
              exact ⟨wanted_none rfl, ex_val (.int .u8 ((old.toNat : Nat) : Int)) (ex_load5 rfl (hd 4 (by kernel_rfl) 94 rfl) (unhide HQ1 w' hf)) rfl⟩
            refine ⟨?_, ?_⟩
            · intro a' w' hb hf hd
              exact ⟨wanted_none rfl, ex_val (.slice (some ⟨q2, 0, none⟩) k k) (ex_move rfl ((hb.old 14 (by decide +kernel)).trans h14)) rfl⟩
            refine ⟨?_, ?_⟩
            · intro a' w' hb hf hd
              exact ⟨wanted_none rfl, ex_val (.int .i64 (a : Int)) (ex_move rfl ((hb.old 2 (by decide +kernel)).trans h2)) rfl⟩
            refine ⟨?_, ?_⟩
            · intro a' w' hb hf hd
              exact ⟨wanted_none rfl, ex_val (.pointer (some ⟨q2, 0 + a, none⟩)) (ex_index22 rfl (hd 6 (by kernel_rfl) 96 rfl) (hd 7 (by kernel_rfl) 97 rfl) (by omega)) rfl⟩
            refine ⟨?_, ?_⟩
            · intro a' w' hb hf hd
              exact ⟨wanted_none rfl, ex_val (.int .u8 ((cc.toNat : Nat) : Int)) (ex_load5 rfl (hd 8 (by kernel_rfl) 98 rfl) (unhide HQ2 w' hf)) rfl⟩
            refine ⟨?_, ?_⟩
            · intro a' w' hb hf hd
              exact ⟨wanted_none rfl, ex_val (.slice (some ⟨lb, lof, none⟩) l.length lc) (ex_move rfl ((hb.old 3 (by decide +kernel)).trans h3)) rfl⟩
            refine ⟨?_, ?_⟩
            · intro a' w' hb hf hd
              exact ⟨wanted_none rfl, ex_val (.int .i64 (t : Int)) (ex_move rfl ((hb.old 16 (by decide +kernel)).trans h16)) rfl⟩
            refine ⟨?_, ?_⟩
            · intro a' w' hb hf hd
              exact ⟨wanted_none rfl, ex_val (.pointer (some ⟨lb, lof + t, none⟩)) (ex_index22 rfl (hd 10 (by kernel_rfl) 100 rfl) (hd 11 (by kernel_rfl) 101 rfl) (by omega)) rfl⟩
            refine ⟨?_, ?_⟩
            · intro a' w' hb hf hd
              exact ⟨wanted_none rfl, ex_val (.int .u8 ((lt.toNat : Nat) : Int)) (ex_load5 rfl (hd 12 (by kernel_rfl) 102 rfl) (unhide HQ3 w' hf)) rfl⟩
            refine ⟨?_, ?_⟩
            · intro a' w' hb hf hd
              exact ⟨wanted_none rfl, ex_val (.slice (some ⟨xb, xof, none⟩) x.length xc) (ex_move rfl ((hb.old 4 (by decide +kernel)).trans h4)) rfl⟩
            refine ⟨?_, ?_⟩
            · intro a' w' hb hf hd
              exact ⟨wanted_none rfl, ex_val (.int .i64 (t : Int)) (ex_move rfl ((hb.old 16 (by decide +kernel)).trans h16)) rfl⟩
            refine ⟨?_, ?_⟩
            · intro a' w' hb hf hd
              exact ⟨wanted_none rfl, ex_val (.pointer (some ⟨xb, xof + t, none⟩)) (ex_index22 rfl (hd 14 (by kernel_rfl) 104 rfl) (hd 15 (by kernel_rfl) 105 rfl) (by omega)) rfl⟩
            refine ⟨?_, ?_⟩
            · intro a' w' hb hf hd
              exact ⟨wanted_none rfl, ex_val (.int .u8 ((xt.toNat : Nat) : Int)) (ex_load5 rfl (hd 16 (by kernel_rfl) 106 rfl) (unhide HQ4 w' hf)) rfl⟩
            refine ⟨?_, ?_⟩
            · intro a' w' hb hf hd
              exact ⟨wanted_none rfl, ex_val (.int .u8 (((lt ^^^ xt).toNat : Nat) : Int)) (ex_xor5 rfl (hd 13 (by kernel_rfl) 103 rfl) (hd 17 (by kernel_rfl) 107 rfl)) rfl⟩
            refine ⟨?_, ?_⟩
            · intro a' w' hb hf hd
              exact ⟨wanted_none rfl, ex_call 72 _ (en_call2 rfl rfl (hd 9 (by kernel_rfl) 99 rfl) (hd 18 (by kernel_rfl) 108 rfl) cfv72) ((rmul_any w' cc (lt ^^^ xt)).mono (by rintro e w7 ⟨rfl, rfl⟩; exact ⟨⟨_, rfl, rfl⟩, Fr.refl _ _⟩))⟩
            refine ⟨?_, ?_⟩
            · intro a' w' hb hf hd
              exact ⟨wanted_none rfl, ex_val (.int .u8 (((old ^^^ (mul cc (lt ^^^ xt))).toNat : Nat) : Int)) (ex_xor5 rfl (hd 5 (by kernel_rfl) 95 rfl) (hd 19 (by kernel_rfl) 109 rfl)) rfl⟩
            refine ⟨?_, ?_⟩
            · intro a' w' hb hf hd
              exact ⟨wanted_none rfl, ex_val (.pointer (some ⟨g, 0 + t, none⟩)) (ex_index22 rfl (hd 0 (by kernel_rfl) 90 rfl) (hd 1 (by kernel_rfl) 91 rfl) (by omega)) rfl⟩
            exact trivial
          case last =>
            intro a' w' hb hf hall
            refine ⟨wanted_none rfl, wp_store5 rfl (hall 21 (by decide) 111 rfl) (hall 20 (by decide) 110 rfl) (unhide HQ1 w' hf) (unhide HZ1 w' hf) ?_⟩
            have e0_ : a'.tmps.getD 0 undef = a0.tmps.getD 0 undef := hb.old 0 (by decide +kernel)
            have e1_ : a'.tmps.getD 1 undef = a0.tmps.getD 1 undef := hb.old 1 (by decide +kernel)
            have e2_ : a'.tmps.getD 2 undef = .int .i64 (a : Int) := (hb.old 2 (by decide +kernel)).trans h2
            have e3_ : a'.tmps.getD 3 undef = .slice (some ⟨lb, lof, none⟩) l.length lc := (hb.old 3 (by decide +kernel)).trans h3
            have e4_ : a'.tmps.getD 4 undef = .slice (some ⟨xb, xof, none⟩) x.length xc := (hb.old 4 (by decide +kernel)).trans h4
            have e5_ : a'.tmps.getD 5 undef = a0.tmps.getD 5 undef := hb.old 5 (by decide +kernel)
            have e6_ : a'.tmps.getD 6 undef = a0.tmps.getD 6 undef := hb.old 6 (by decide +kernel)
            have e7_ : a'.tmps.getD 7 undef = a0.tmps.getD 7 undef := hb.old 7 (by decide +kernel)
            have e8_ : a'.tmps.getD 8 undef = a0.tmps.getD 8 undef := hb.old 8 (by decide +kernel)
            have e9_ : a'.tmps.getD 9 undef = a0.tmps.getD 9 undef := hb.old 9 (by decide +kernel)
            have e10_ : a'.tmps.getD 10 undef = a0.tmps.getD 10 undef := hb.old 10 (by decide +kernel)
            have e11_ : a'.tmps.getD 11 undef = a0.tmps.getD 11 undef := hb.old 11 (by decide +kernel)
            have e12_ : a'.tmps.getD 12 undef = a0.tmps.getD 12 undef := hb.old 12 (by decide +kernel)
            have e13_ : a'.tmps.getD 13 undef = a0.tmps.getD 13 undef := hb.old 13 (by decide +kernel)
            have e14_ : a'.tmps.getD 14 undef = .slice (some ⟨q2, 0, none⟩) k k := (hb.old 14 (by decide +kernel)).trans h14
            have e15_ : a'.tmps.getD 15 undef = .slice (some ⟨g, 0, none⟩) l.length bc := (hb.old 15 (by decide +kernel)).trans h15
            have e16_ : a'.tmps.getD 16 undef = .int .i64 (t : Int) := (hb.old 16 (by decide +kernel)).trans h16
            have e17_ : a'.tmps.getD 17 undef = a0.tmps.getD 17 undef := hb.old 17 (by decide +kernel)
            have e18_ : a'.tmps.getD 18 undef = a0.tmps.getD 18 undef := hb.old 18 (by decide +kernel)
            have e19_ : a'.tmps.getD 19 undef = a0.tmps.getD 19 undef := hb.old 19 (by decide +kernel)
            have e20_ : a'.tmps.getD 20 undef = a0.tmps.getD 20 undef := hb.old 20 (by decide +kernel)
            have e21_ : a'.tmps.getD 21 undef = a0.tmps.getD 21 undef := hb.old 21 (by decide +kernel)
            have e22_ : a'.tmps.getD 22 undef = a0.tmps.getD 22 undef := hb.old 22 (by decide +kernel)
            have e23_ : a'.tmps.getD 23 undef = a0.tmps.getD 23 undef := hb.old 23 (by decide +kernel)
            have e24_ : a'.tmps.getD 24 undef = a0.tmps.getD 24 undef := hb.old 24 (by decide +kernel)
            have e25_ : a'.tmps.getD 25 undef = a0.tmps.getD 25 undef := hb.old 25 (by decide +kernel)
            have e26_ : a'.tmps.getD 26 undef = a0.tmps.getD 26 undef := hb.old 26 (by decide +kernel)
            have e27_ : a'.tmps.getD 27 undef = a0.tmps.getD 27 undef := hb.old 27 (by decide +kernel)
            have e28_ : a'.tmps.getD 28 undef = a0.tmps.getD 28 undef := hb.old 28 (by decide +kernel)
            have e29_ : a'.tmps.getD 29 undef = a0.tmps.getD 29 undef := hb.old 29 (by decide +kernel)
            have e30_ : a'.tmps.getD 30 undef = a0.tmps.getD 30 undef := hb.old 30 (by decide +kernel)
            have e31_ : a'.tmps.getD 31 undef = a0.tmps.getD 31 undef := hb.old 31 (by decide +kernel)
            have e32_ : a'.tmps.getD 32 undef = a0.tmps.getD 32 undef := hb.old 32 (by decide +kernel)
            have e33_ : a'.tmps.getD 33 undef = a0.tmps.getD 33 undef := hb.old 33 (by decide +kernel)
            have e34_ : a'.tmps.getD 34 undef = a0.tmps.getD 34 undef := hb.old 34 (by decide +kernel)
            have e35_ : a'.tmps.getD 35 undef = a0.tmps.getD 35 undef := hb.old 35 (by decide +kernel)
            have e36_ : a'.tmps.getD 36 undef = a0.tmps.getD 36 undef := hb.old 36 (by decide +kernel)
            have e37_ : a'.tmps.getD 37 undef = a0.tmps.getD 37 undef := hb.old 37 (by decide +kernel)
            have e38_ : a'.tmps.getD 38 undef = a0.tmps.getD 38 undef := hb.old 38 (by decide +kernel)
            have e39_ : a'.tmps.getD 39 undef = a0.tmps.getD 39 undef := hb.old 39 (by decide +kernel)
            have e40_ : a'.tmps.getD 40 undef = a0.tmps.getD 40 undef := hb.old 40 (by decide +kernel)
            have e41_ : a'.tmps.getD 41 undef = a0.tmps.getD 41 undef := hb.old 41 (by decide +kernel)
            have e42_ : a'.tmps.getD 42 undef = a0.tmps.getD 42 undef := hb.old 42 (by decide +kernel)
            have e43_ : a'.tmps.getD 43 undef = a0.tmps.getD 43 undef := hb.old 43 (by decide +kernel)
            have e44_ : a'.tmps.getD 44 undef = a0.tmps.getD 44 undef := hb.old 44 (by decide +kernel)
            have e45_ : a'.tmps.getD 45 undef = a0.tmps.getD 45 undef := hb.old 45 (by decide +kernel)
            have e46_ : a'.tmps.getD 46 undef = a0.tmps.getD 46 undef := hb.old 46 (by decide +kernel)
            have e47_ : a'.tmps.getD 47 undef = a0.tmps.getD 47 undef := hb.old 47 (by decide +kernel)
            have e48_ : a'.tmps.getD 48 undef = a0.tmps.getD 48 undef := hb.old 48 (by decide +kernel)
            have e49_ : a'.tmps.getD 49 undef = a0.tmps.getD 49 undef := hb.old 49 (by decide +kernel)
            have e50_ : a'.tmps.getD 50 undef = a0.tmps.getD 50 undef := hb.old 50 (by decide +kernel)
            have e51_ : a'.tmps.getD 51 undef = a0.tmps.getD 51 undef := hb.old 51 (by decide +kernel)
            have e52_ : a'.tmps.getD 52 undef = a0.tmps.getD 52 undef := hb.old 52 (by decide +kernel)
            have e53_ : a'.tmps.getD 53 undef = a0.tmps.getD 53 undef := hb.old 53 (by decide +kernel)
            have e54_ : a'.tmps.getD 54 undef = a0.tmps.getD 54 undef := hb.old 54 (by decide +kernel)
            have e55_ : a'.tmps.getD 55 undef = a0.tmps.getD 55 undef := hb.old 55 (by decide +kernel)
            have e56_ : a'.tmps.getD 56 undef = a0.tmps.getD 56 undef := hb.old 56 (by decide +kernel)
            have e57_ : a'.tmps.getD 57 undef = a0.tmps.getD 57 undef := hb.old 57 (by decide +kernel)
            have e58_ : a'.tmps.getD 58 undef = a0.tmps.getD 58 undef := hb.old 58 (by decide +kernel)
            have e59_ : a'.tmps.getD 59 undef = a0.tmps.getD 59 undef := hb.old 59 (by decide +kernel)
            have e60_ : a'.tmps.getD 60 undef = a0.tmps.getD 60 undef := hb.old 60 (by decide +kernel)
            have e61_ : a'.tmps.getD 61 undef = a0.tmps.getD 61 undef := hb.old 61 (by decide +kernel)
            have e62_ : a'.tmps.getD 62 undef = a0.tmps.getD 62 undef := hb.old 62 (by decide +kernel)
            have e63_ : a'.tmps.getD 63 undef = a0.tmps.getD 63 undef := hb.old 63 (by decide +kernel)
            have e64_ : a'.tmps.getD 64 undef = a0.tmps.getD 64 undef := hb.old 64 (by decide +kernel)
            have e65_ : a'.tmps.getD 65 undef = a0.tmps.getD 65 undef := hb.old 65 (by decide +kernel)
            have e66_ : a'.tmps.getD 66 undef = a0.tmps.getD 66 undef := hb.old 66 (by decide +kernel)
            have e67_ : a'.tmps.getD 67 undef = a0.tmps.getD 67 undef := hb.old 67 (by decide +kernel)
            have e68_ : a'.tmps.getD 68 undef = a0.tmps.getD 68 undef := hb.old 68 (by decide +kernel)
            have e69_ : a'.tmps.getD 69 undef = a0.tmps.getD 69 undef := hb.old 69 (by decide +kernel)
            have e70_ : a'.tmps.getD 70 undef = a0.tmps.getD 70 undef := hb.old 70 (by decide +kernel)
            have e71_ : a'.tmps.getD 71 undef = a0.tmps.getD 71 undef := hb.old 71 (by decide +kernel)
            have e72_ : a'.tmps.getD 72 undef = a0.tmps.getD 72 undef := hb.old 72 (by decide +kernel)
            have e73_ : a'.tmps.getD 73 undef = a0.tmps.getD 73 undef := hb.old 73 (by decide +kernel)
            have e74_ : a'.tmps.getD 74 undef = a0.tmps.getD 74 undef := hb.old 74 (by decide +kernel)
            have e75_ : a'.tmps.getD 75 undef = a0.tmps.getD 75 undef := hb.old 75 (by decide +kernel)
            have e76_ : a'.tmps.getD 76 undef = a0.tmps.getD 76 undef := hb.old 76 (by decide +kernel)
            have e77_ : a'.tmps.getD 77 undef = a0.tmps.getD 77 undef := hb.old 77 (by decide +kernel)
            have e78_ : a'.tmps.getD 78 undef = a0.tmps.getD 78 undef := hb.old 78 (by decide +kernel)
            have e79_ : a'.tmps.getD 79 undef = a0.tmps.getD 79 undef := hb.old 79 (by decide +kernel)
            have e80_ : a'.tmps.getD 80 undef = a0.tmps.getD 80 undef := hb.old 80 (by decide +kernel)
            have e81_ : a'.tmps.getD 81 undef = a0.tmps.getD 81 undef := hb.old 81 (by decide +kernel)
            have e82_ : a'.tmps.getD 82 undef = a0.tmps.getD 82 undef := hb.old 82 (by decide +kernel)
            have e83_ : a'.tmps.getD 83 undef = a0.tmps.getD 83 undef := hb.old 83 (by decide +kernel)
            have e84_ : a'.tmps.getD 84 undef = a0.tmps.getD 84 undef := hb.old 84 (by decide +kernel)
            have e85_ : a'.tmps.getD 85 undef = a0.tmps.getD 85 undef := hb.old 85 (by decide +kernel)
            have e86_ : a'.tmps.getD 86 undef = a0.tmps.getD 86 undef := hb.old 86 (by decide +kernel)
            have e87_ : a'.tmps.getD 87 undef = a0.tmps.getD 87 undef := hb.old 87 (by decide +kernel)
            have e88_ : a'.tmps.getD 88 undef = a0.tmps.getD 88 undef := hb.old 88 (by decide +kernel)
            have e89_ : a'.tmps.getD 89 undef = a0.tmps.getD 89 undef := hb.old 89 (by decide +kernel)
            have e90_ : a'.tmps.getD 90 undef = .slice (some ⟨g, 0, none⟩) l.length bc := hall 0 (by decide) 90 rfl
            have e91_ : a'.tmps.getD 91 undef = .int .i64 (t : Int) := hall 1 (by decide) 91 rfl
            have e92_ : a'.tmps.getD 92 undef = .slice (some ⟨g, 0, none⟩) l.length bc := hall 2 (by decide) 92 rfl
            have e93_ : a'.tmps.getD 93 undef = .int .i64 (t : Int) := hall 3 (by decide) 93 rfl
            have e94_ : a'.tmps.getD 94 undef = .pointer (some ⟨g, 0 + t, none⟩) := hall 4 (by decide) 94 rfl
            have e95_ : a'.tmps.getD 95 undef = .int .u8 ((old.toNat : Nat) : Int) := hall 5 (by decide) 95 rfl
            have e96_ : a'.tmps.getD 96 undef = .slice (some ⟨q2, 0, none⟩) k k := hall 6 (by decide) 96 rfl
            have e97_ : a'.tmps.getD 97 undef = .int .i64 (a : Int) := hall 7 (by decide) 97 rfl
            have e98_ : a'.tmps.getD 98 undef = .pointer (some ⟨q2, 0 + a, none⟩) := hall 8 (by decide) 98 rfl
            have e99_ : a'.tmps.getD 99 undef = .int .u8 ((cc.toNat : Nat) : Int) := hall 9 (by decide) 99 rfl
            have e100_ : a'.tmps.getD 100 undef = .slice (some ⟨lb, lof, none⟩) l.length lc := hall 10 (by decide) 100 rfl
            have e101_ : a'.tmps.getD 101 undef = .int .i64 (t : Int) := hall 11 (by decide) 101 rfl
            have e102_ : a'.tmps.getD 102 undef = .pointer (some ⟨lb, lof + t, none⟩) := hall 12 (by decide) 102 rfl
            have e103_ : a'.tmps.getD 103 undef = .int .u8 ((lt.toNat : Nat) : Int) := hall 13 (by decide) 103 rfl
            have e104_ : a'.tmps.getD 104 undef = .slice (some ⟨xb, xof, none⟩) x.length xc := hall 14 (by decide) 104 rfl
            have e105_ : a'.tmps.getD 105 undef = .int .i64 (t : Int) := hall 15 (by decide) 105 rfl
            have e106_ : a'.tmps.getD 106 undef = .pointer (some ⟨xb, xof + t, none⟩) := hall 16 (by decide) 106 rfl
            have e107_ : a'.tmps.getD 107 undef = .int .u8 ((xt.toNat : Nat) : Int) := hall 17 (by decide) 107 rfl
            have e108_ : a'.tmps.getD 108 undef = .int .u8 (((lt ^^^ xt).toNat : Nat) : Int) := hall 18 (by decide) 108 rfl
            have e109_ : a'.tmps.getD 109 undef = .int .u8 (((mul cc (lt ^^^ xt)).toNat : Nat) : Int) := hall 19 (by decide) 109 rfl
            have e110_ : a'.tmps.getD 110 undef = .int .u8 (((old ^^^ (mul cc (lt ^^^ xt))).toNat : Nat) : Int) := hall 20 (by decide) 110 rfl
            have e111_ : a'.tmps.getD 111 undef = .pointer (some ⟨g, 0 + t, none⟩) := hall 21 (by decide) 111 rfl
            have e112_ : a'.tmps.getD 112 undef = a0.tmps.getD 112 undef := hb.old 112 (by decide +kernel)
            have e113_ : a'.tmps.getD 113 undef = a0.tmps.getD 113 undef := hb.old 113 (by decide +kernel)
            have e114_ : a'.tmps.getD 114 undef = a0.tmps.getD 114 undef := hb.old 114 (by decide +kernel)
            have e115_ : a'.tmps.getD 115 undef = a0.tmps.getD 115 undef := hb.old 115 (by decide +kernel)
            have e116_ : a'.tmps.getD 116 undef = a0.tmps.getD 116 undef := hb.old 116 (by decide +kernel)
            have hfr := frame_eq (a := a') (vs := [a0.tmps.getD 0 undef, a0.tmps.getD 1 undef, .int .i64 (a : Int), .slice (some ⟨lb, lof, none⟩) l.length lc, .slice (some ⟨xb, xof, none⟩) x.length xc, a0.tmps.getD 5 undef, a0.tmps.getD 6 undef, a0.tmps.getD 7 undef, a0.tmps.getD 8 undef, a0.tmps.getD 9 undef, a0.tmps.getD 10 undef, a0.tmps.getD 11 undef, a0.tmps.getD 12 undef, a0.tmps.getD 13 undef, .slice (some ⟨q2, 0, none⟩) k k, .slice (some ⟨g, 0, none⟩) l.length bc, .int .i64 (t : Int), a0.tmps.getD 17 undef, a0.tmps.getD 18 undef, a0.tmps.getD 19 undef, a0.tmps.getD 20 undef, a0.tmps.getD 21 undef, a0.tmps.getD 22 undef, a0.tmps.getD 23 undef, a0.tmps.getD 24 undef, a0.tmps.getD 25 undef, a0.tmps.getD 26 undef, a0.tmps.getD 27 undef, a0.tmps.getD 28 undef, a0.tmps.getD 29 undef, a0.tmps.getD 30 undef, a0.tmps.getD 31 undef, a0.tmps.getD 32 undef, a0.tmps.getD 33 undef, a0.tmps.getD 34 undef, a0.tmps.getD 35 undef, a0.tmps.getD 36 undef, a0.tmps.getD 37 undef, a0.tmps.getD 38 undef, a0.tmps.getD 39 undef, a0.tmps.getD 40 undef, a0.tmps.getD 41 undef, a0.tmps.getD 42 undef, a0.tmps.getD 43 undef, a0.tmps.getD 44 undef, a0.tmps.getD 45 undef, a0.tmps.getD 46 undef, a0.tmps.getD 47 undef, a0.tmps.getD 48 undef, a0.tmps.getD 49 undef, a0.tmps.getD 50 undef, a0.tmps.getD 51 undef, a0.tmps.getD 52 undef, a0.tmps.getD 53 undef, a0.tmps.getD 54 undef, a0.tmps.getD 55 undef, a0.tmps.getD 56 undef, a0.tmps.getD 57 undef, a0.tmps.getD 58 undef, a0.tmps.getD 59 undef, a0.tmps.getD 60 undef, a0.tmps.getD 61 undef, a0.tmps.getD 62 undef, a0.tmps.getD 63 undef, a0.tmps.getD 64 undef, a0.tmps.getD 65 undef, a0.tmps.getD 66 undef, a0.tmps.getD 67 undef, a0.tmps.getD 68 undef, a0.tmps.getD 69 undef, a0.tmps.getD 70 undef, a0.tmps.getD 71 undef, a0.tmps.getD 72 undef, a0.tmps.getD 73 undef, a0.tmps.getD 74 undef, a0.tmps.getD 75 undef, a0.tmps.getD 76 undef, a0.tmps.getD 77 undef, a0.tmps.getD 78 undef, a0.tmps.getD 79 undef, a0.tmps.getD 80 undef, a0.tmps.getD 81 undef, a0.tmps.getD 82 undef, a0.tmps.getD 83 undef, a0.tmps.getD 84 undef, a0.tmps.getD 85 undef, a0.tmps.getD 86 undef, a0.tmps.getD 87 undef, a0.tmps.getD 88 undef, a0.tmps.getD 89 undef, .slice (some ⟨g, 0, none⟩) l.length bc, .int .i64 (t : Int), .slice (some ⟨g, 0, none⟩) l.length bc, .int .i64 (t : Int), .pointer (some ⟨g, 0 + t, none⟩), .int .u8 ((old.toNat : Nat) : Int), .slice (some ⟨q2, 0, none⟩) k k, .int .i64 (a : Int), .pointer (some ⟨q2, 0 + a, none⟩), .int .u8 ((cc.toNat : Nat) : Int), .slice (some ⟨lb, lof, none⟩) l.length lc, .int .i64 (t : Int), .pointer (some ⟨lb, lof + t, none⟩), .int .u8 ((lt.toNat : Nat) : Int), .slice (some ⟨xb, xof, none⟩) x.length xc, .int .i64 (t : Int), .pointer (some ⟨xb, xof + t, none⟩), .int .u8 ((xt.toNat : Nat) : Int), .int .u8 (((lt ^^^ xt).toNat : Nat) : Int), .int .u8 (((mul cc (lt ^^^ xt)).toNat : Nat) : Int), .int .u8 (((old ^^^ (mul cc (lt ^^^ xt))).toNat : Nat) : Int), .pointer (some ⟨g, 0 + t, none⟩), a0.tmps.getD 112 undef, a0.tmps.getD 113 undef, a0.tmps.getD 114 undef, a0.tmps.getD 115 undef, a0.tmps.getD 116 undef]) (by rw [hb.size, hsz]; rfl) (by rw [hb.defers]; exact hdf) ⟨e0_, e1_, e2_, e3_, e4_, e5_, e6_, e7_, e8_, e9_, e10_, e11_, e12_, e13_, e14_, e15_, e16_, e17_, e18_, e19_, e20_, e21_, e22_, e23_, e24_, e25_, e26_, e27_, e28_, e29_, e30_, e31_, e32_, e33_, e34_, e35_, e36_, e37_, e38_, e39_, e40_, e41_, e42_, e43_, e44_, e45_, e46_, e47_, e48_, e49_, e50_, e51_, e52_, e53_, e54_, e55_, e56_, e57_, e58_, e59_, e60_, e61_, e62_, e63_, e64_, e65_, e66_, e67_, e68_, e69_, e70_, e71_, e72_, e73_, e74_, e75_, e76_, e77_, e78_, e79_, e80_, e81_, e82_, e83_, e84_, e85_, e86_, e87_, e88_, e89_, e90_, e91_, e92_, e93_, e94_, e95_, e96_, e97_, e98_, e99_, e100_, e101_, e102_, e103_, e104_, e105_, e106_, e107_, e108_, e109_, e110_, e111_, e112_, e113_, e114_, e115_, e116_, trivial⟩
            have HF := hide hf
            clear hall hb hf
            subst hfr
            rw [unhide HA0]
            apply_assumption
            go_wp2_with fail
            go_roundw
            case rel =>
              refine ⟨t + 1, by omega, by go_num, ?_, ((unhide Hf2).trans (unhide HF) (fun _ _ h => h)).setCell (fun h => absurd h (by simp; omega)) _⟩
              have := (owns_set (owns_kept (unhide HOB) (unhide HF) (fun _ _ h => h)) t htl (.int .u8 (((old ^^^ (mul cc (lt ^^^ xt))).toNat : Nat) : Int))).1
              rw [← bvs_set22, unhide HST, UInt8.toNat_xor] at this
              exact this
            case measure => simp [intOf]; omega
        · have hte : t = l.length := by omega
          have hlil : li.length = l.length := unhide HYN
          have hsl := sm_length (unhide HNE)
          rw [hte, List.take_of_length_le (by omega), List.take_of_length_le (by omega), List.drop_of_length_le (by omega), List.append_nil] at hO
          have HOZ := hide hO
          have Hf2 := hide hf
          have hFr := (unhide HF2).trans hf (fun _ _ h => h)
          have HFr := hide hFr
          obtain ⟨vs, hOv, hvl, hrows⟩ := ((unhide HA).kept hFr).ex
          have hvi : vs.length = i := by rw [hvl, List.length_take, updL_length]; omega
          have HO := hide (show wr.ownsRow 0 22 1 (.slice ao i ac) i vs by rw [hvi] at hOv; exact hOv)
          have HRO := hide hrows
          have HVI := hide hvi
          have HVL := hide hvl
          clear hO hf hFr hOv hrows hvi hvl hlil hsl hte
          go_wp2_with (at_builtin; refine wpList_app rfl (.tmp 112) (.tmp 114) 65 rfl 22 inf _ 1 24 Try.underlying65 hi0 hz0 hz1 hz2 rfl (by decide) (.slice ao i ac) i vs rfl (.slice (some ⟨wr.heap.size, 0, none⟩) 1 1) rfl 1 [.slice bo l.length bc] ((unhide HO).alloc _) (one_cellV wr _ 22) (fun u hu => by simp at hu; subst hu; rfl) (by omega) (by simp only [maxLen]; omega) ?_)
          intro ao4 ac4 w4 o4 g4 p4
          have hRb : Rd wr (.slice bo l.length bc) (addt cc li (sm l x)) := by
            have h1 : (addt cc li (sm l x)).length = l.length := by rw [addt_length _ _ _ (by rw [sm_length (unhide HNE), unhide HYN]), unhide HYN]
            exact Rd.of_owns (base := 0) (by rw [h1]; exact unhide HOZ)
          have hwb : Wb w1.heap.size wr (.slice bo l.length bc) := fun b hb => ⟨by have := unhide HN3 b hb; have := (unhide HF2).size; have := (unhide Hf).size; omega, owns_ty (unhide HOZ) hb⟩
          have hAL := AL.app (N := w1.heap.size) (w := wr) (w' := w4) (ao := ao) (n := i) (ac := ac) (ls := (updL k m ls a (sm l x)).take i) vs (by rw [unhide HVI]; exact unhide HO) (unhide HVL) (unhide HRO) (unhide HA).new (.slice bo l.length bc) _ hRb hwb (by have := (unhide HFr).size; have := (unhide Hf).size; omega) o4 g4 (by simpa using p4)
          rw [← unhide HST0] at hAL
          have HAL := hide hAL.1
          have HF4 := hide (((unhide Hf).trans (unhide HFr) (fun _ _ h => h)).trans hAL.2 (fun k hk e => by have := (unhide HA).new k e; omega))
          clear hRb hwb hAL o4 g4 p4
          go_wp2_with fail
          go_roundw
          case rel => exact ⟨i + 1, by omega, by go_num, ⟨ao4, ac4, rfl, unhide HAL⟩, unhide HF4⟩
          case measure => simp [intOf]; omega
    · have hie : i = m := by omega
      subst hie
      have HA := hide hA
      have Hf := hide hf
      clear hA hf
      go_wp2_with fail
      go_ret2
      have := (unhide HA).ln
      rw [List.take_of_length_le (by rw [updL_length]; omega)] at this
      exact ⟨⟨_, _, rfl, this.mono hs1⟩, (unhide HF1).trans (unhide Hf) (fun _ _ h => h)⟩
end

theorem oneL_cons {l : List UInt8} {ls : List (List UInt8)} {c : Nat} : (oneL (l :: ls) ((c : Nat) : Int)).2 = true ↔ ls.length + 1 = c ∧ ∀ y ∈ ls, y.length = l.length := by
  unfold oneL
  simp only [List.length_cons, List.headD_cons, List.mem_cons, forall_eq_or_imp, true_and]
  by_cases h : ((ls.length + 1 : Nat) : Int) = (c : Int) ∧ ∀ y ∈ ls, y.length = l.length
  · rw [if_pos h]
    simp only [true_iff]
    exact ⟨by omega, h.2⟩
  · rw [if_neg h]
    simp only [Bool.false_eq_true, false_iff]
    exact fun h' => h ⟨by omega, h'.2⟩

theorem oneL_all {ls : List (List UInt8)} {c : Nat} (h : (oneL ls ((c : Nat) : Int)).2 = true) : ls.length = c ∧ ∀ y ∈ ls, ∀ z ∈ ls, y.length = z.length := by
  unfold oneL at h
  by_cases h1 : (ls.length : Int) = (c : Int) ∧ ∀ l ∈ ls, l.length = (ls.headD []).length
  · exact ⟨by omega, fun y hy z hz => by rw [h1.2 y hy, h1.2 z hz]⟩
  · rw [if_neg h1] at h; simp at h

theorem oneL_of {ls : List (List UInt8)} {c n : Nat} (h : ls.length = c) (h2 : ∀ y ∈ ls, y.length = n) : (oneL ls ((c : Nat) : Int)).2 = true := by
  unfold oneL
  refine congrArg Prod.snd (if_pos ⟨by omega, fun l hl => ?_⟩)
  rw [h2 l hl]
  cases ls with
  | nil => simp at hl
  | cons y t => rw [List.headD_cons, h2 y (List.mem_cons_self ..)]

theorem rupdate_any (w : World) (p k m : Nat) (v lv xv : Value) (ls : List (List UInt8)) (l x : List UInt8) (a : Int) (hD : DAt w p k m) (hk : 1 ≤ k ∧ k ≤ 16) (hm : m ≤ 8) (h : RdL w v ls) (hl : Rd w lv l) (hx : Rd w xv x) (hll : ls.length ≤ 1000) :
    Calls Try.prog 55 #[.pointer (some ⟨p, 0, none⟩), v, .int .i64 a, lv, xv] w fun e w' => (∃ ao n ac, e = .returned (.tuple #[.slice ao n ac, .int .i64 (upE k m ls a l x)]) ∧ LN w.heap.size w' (.slice ao n ac) (upR k m ls a l x)) ∧ Fr (fun _ => False) w w' := by
  unfold upR
  by_cases ha : 0 ≤ a ∧ a < (k : Int)
  · have hE : upE k m ls a l x = (shl (l :: x :: ls) ((2 + m : Nat) : Int)).2 := by unfold upE; rw [if_pos ha]
    obtain ⟨b, rfl⟩ : ∃ b : Nat, a = (b : Int) := ⟨a.toNat, by omega⟩
    rw [hE, Int.toNat_natCast]
    have hone : (oneL (l :: x :: ls) ((2 + m : Nat) : Int)).1 = l.length ∨ (oneL (l :: x :: ls) ((2 + m : Nat) : Int)).2 = false := by
      rcases hb : (oneL (l :: x :: ls) ((2 + m : Nat) : Int)).2 with _ | _
      · exact .inr rfl
      · exact .inl (oneL_head hb (by simp)).2.1
    by_cases hev : (oneL ls (m : Int)).2 = true
    · obtain ⟨hlm, hsame⟩ := oneL_all hev
      by_cases hne : l.length = x.length
      · by_cases h4 : ∀ y ∈ ls, y.length = l.length
        · have ht : (oneL (l :: x :: ls) ((2 + m : Nat) : Int)).2 = true := oneL_cons.2 ⟨by simp; omega, fun y hy => by rcases List.mem_cons.1 hy with rfl | hy; exact hne.symm; exact h4 y hy⟩
          have h1 := hone.resolve_right (by rw [ht]; decide)
          by_cases h5 : l.length ≤ 4096
          · have he : shl (l :: x :: ls) ((2 + m : Nat) : Int) = (l.length, 0) := by rw [shl_one ht, h1, if_pos h5]
            rw [he, if_pos rfl]
            rcases Nat.eq_zero_or_pos m with rfl | hmp
            · have hnil : ls = [] := List.eq_nil_of_length_eq_zero hlm
              subst hnil
              refine (rupdate_zero w p k v lv xv l x b hD h hl hx (by omega) hne h5).mono ?_
              rintro e w' ⟨rfl, f⟩
              exact ⟨⟨_, _, _, rfl, LN.nil _ _⟩, f⟩
            · refine (rupdate_ok w p k m v lv xv ls l x b hD hk hm hmp h hl hx (by omega) hlm hev hne h4 h5).mono ?_
              rintro e w' ⟨⟨ao, ac, rfl, h6⟩, f⟩
              exact ⟨⟨_, _, _, rfl, h6⟩, f⟩
          · have he : shl (l :: x :: ls) ((2 + m : Nat) : Int) = (0, 1) := by rw [shl_one ht, h1, if_neg h5]
            rw [he, if_neg (by decide)]
            refine (rupdate_no5 w p k m v lv xv ls l x b hD h hl hx (by omega) hll hev hne (fun hmp => ⟨by omega, h4 _ (List.getElem_mem _)⟩) (by omega)).mono ?_
            rintro e w' ⟨rfl, f⟩
            exact ⟨⟨_, _, _, rfl, LN.nil _ _⟩, f⟩
        · have he : shl (l :: x :: ls) ((2 + m : Nat) : Int) = (0, 2) := shl_two (by
            rw [Bool.eq_false_iff]
            intro ht
            exact h4 (fun y hy => (oneL_cons.1 ht).2 y (List.mem_cons_of_mem _ hy)))
          rw [he, if_neg (by decide)]
          have hpos : 0 < ls.length := by
            rcases Nat.eq_zero_or_pos ls.length with h0 | h0
            · exact absurd (fun y hy => by rw [List.eq_nil_of_length_eq_zero h0] at hy; simp at hy) h4
            · exact h0
          refine (rupdate_no4 w p k m v lv xv ls l x b hD h hl hx (by omega) hll hev hne (by omega) hpos (fun e => h4 (fun y hy => (hsame y hy _ (List.getElem_mem hpos)).trans e))).mono ?_
          rintro e w' ⟨rfl, f⟩
          exact ⟨⟨_, _, _, rfl, LN.nil _ _⟩, f⟩
      · have he : shl (l :: x :: ls) ((2 + m : Nat) : Int) = (0, 2) := shl_two (by
          rw [Bool.eq_false_iff]
          intro ht
          exact hne ((oneL_cons.1 ht).2 x (List.mem_cons_self ..)).symm)
        rw [he, if_neg (by decide)]
        refine (rupdate_no3 w p k m v lv xv ls l x b hD h hl hx (by omega) hll hev hne).mono ?_
        rintro e w' ⟨rfl, f⟩
        exact ⟨⟨_, _, _, rfl, LN.nil _ _⟩, f⟩
    · have he : shl (l :: x :: ls) ((2 + m : Nat) : Int) = (0, 2) := shl_two (by
        rw [Bool.eq_false_iff]
        intro ht
        have h1 := oneL_cons.1 ht
        exact hev (oneL_of (n := l.length) (by simp at h1; omega) (fun y hy => h1.2 y (List.mem_cons_of_mem _ hy))))
      rw [he, if_neg (by decide)]
      refine (rupdate_no2 w p k m v lv xv ls l x b hD h hl hx (by omega) hll (by simpa using hev)).mono ?_
      rintro e w' ⟨rfl, f⟩
      exact ⟨⟨_, _, _, rfl, LN.nil _ _⟩, f⟩
  · have hE : upE k m ls a l x = 2 := by unfold upE; rw [if_neg ha]
    rw [hE, if_neg (by decide)]
    refine (rupdate_no1 w p k m v lv xv ls l x a hD h hl hx ha).mono ?_
    rintro e w' ⟨rfl, f⟩
    exact ⟨⟨_, _, _, rfl, LN.nil _ _⟩, f⟩

end Go.Proofs.Ytckmddkhkdcmmaa
