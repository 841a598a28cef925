/-
  The walk of the document's Mix.
-/
import Derived.Test.YtckmddkhkdcmmaaRs16
import Derived.Test.YtckmddkhkdcmmaaLast2
namespace Go.Proofs.Ytckmddkhkdcmmaa
open Go.RowKit
set_option linter.unusedVariables false

attribute [local go_sem ↓] Go.wp_at_zero Go.wp_at_succ

theorem cfv72 (args : Array Value) (W : World) : Sem.run Try.prog (callFunc 72 args) W = .ok (.enter 72 args) W := by simp [go_sem]

set_option maxHeartbeats 4000000 in
set_option maxRecDepth 100000 in
theorem mix_any (w : World) (rv v : Value) (rl : List UInt8) (ls : List (List UInt8)) (n : Nat) (hr : Rd w rv rl) (h : RdL w v ls) (hle : rl.length ≤ ls.length) (hrl : rl.length ≤ 100) (hw : ∀ l ∈ ls, l.length = n) (hn : n ≤ 4096) :
    Calls Try.prog 96 #[rv, v, .int .i64 (n : Int)] w fun e w' => e = .returned (.slice (some ⟨w.heap.size, 0, none⟩) n n) ∧ BAt w' w.heap.size (mixL (gt rl) ls rl.length n) ∧ Fr (fun _ => False) w w' := by
  obtain ⟨w1, hmk, hB1, hf1⟩ := mk_any w n (by omega)
  have HB1 := hide hB1
  have HF1 := hide hf1
  have HR := hide hr
  have HL := hide h
  have HW := hide hw
  obtain ⟨ro, rc, rfl⟩ := hr.shape
  obtain ⟨vo, vc, rfl⟩ := h.shape
  obtain ⟨kk, hkk⟩ : ∃ kk, kk = rl.length := ⟨_, rfl⟩
  rw [← hkk] at HR hle hrl ⊢
  have HKK := hide hkk
  clear hB1 hf1 hr h hw hkk
  go_enter Try.func96, Try.ntmps96
  go_wp2_with fail
  clear hmk
  go_loopw [8, 9] (fun x _ w' => ∃ i : Nat, i ≤ kk ∧ x = .int .i64 (i : Int) ∧ BAt w' w.heap.size (mixL (gt rl) ls i n) ∧ Fr (fun _ => False) w w') (fun x _ _ => kk - (intOf x).toNat)
  case atStart => exact ⟨0, by omega, rfl, by rw [mixL_zero]; exact unhide HB1, unhide HF1⟩
  case round =>
    obtain ⟨i, hi, rfl, hB, hf⟩ := hrel
    by_cases hlt : i < kk
    · have HBi := hide hB
      have Hfi := hide hf
      clear hB hf
      go_wp2_with fail
      go_loopw [9] (fun y w' => ∃ t : Nat, t ≤ n ∧ y = .int .i64 (t : Int) ∧ BAt w' w.heap.size (mixP (gt rl) ls i n t) ∧ Fr (fun _ => False) w w') (fun y _ => n - (intOf y).toNat)
      case atStart => exact ⟨0, by omega, rfl, by rw [mixP_zero]; exact unhide HBi, unhide Hfi⟩
      case round =>
        clear HBi Hfi
        obtain ⟨t, ht, rfl, hB, hf⟩ := hrel
        by_cases htl : t < n
        · have hil : i < ls.length := by omega
          obtain ⟨b, o, xo, xc, rfl, c1, hx⟩ := ((unhide HL).kept hf).get i hil
          have hlen : (ls[i]).length = n := unhide HW _ (List.getElem_mem _)
          obtain ⟨xb, xof, rfl, -, hxcap, hxcm, hcx⟩ := hx.lits (by omega)
          have c2 := hcx t (by omega)
          obtain ⟨rb, ro', rfl, -, hrcap, hrcm, hcr⟩ := ((unhide HR).kept hf (fun _ _ h => h)).lits (by rw [← unhide HKK]; omega)
          have r1 := hcr i (by rw [← unhide HKK]; exact hlt)
          rw [← gt_of (show i < rl.length by rw [← unhide HKK]; exact hlt)] at r1
          have ecel : cel ls i t = (ls[i])[t]'(by omega) := by rw [cel_of hil, List.getElem?_eq_getElem (by omega)]; rfl
          rw [← ecel] at c2
          rw [hlen] at c1 hxcap
          have cb := hB.cell t (by rw [mixP_length]; exact htl)
          have zb := hB.frozen t
          have HST := hide (mixP_step (gt rl) ls i n t htl)
          generalize (mixP (gt rl) ls i n t)[t]'(by rw [mixP_length]; exact htl) = old at *
          generalize gt rl i = ri at *
          generalize cel ls i t = ci at *
          have hxo := xorV old (mul ri ci)
          have hrc2 : i < rc := by omega
          have hxc2 : t < xc := by omega
          have HB := hide hB
          have Hf := hide hf
          clear hB hf hx hcx hcr hlen ecel hxcm hrcm
          have kb := World.block_lt_of_cell? wr _ c1
          have krb := World.block_lt_of_cell? wr _ r1
          have kxb := World.block_lt_of_cell? wr _ c2
          have kob := World.block_lt_of_cell? wr _ cb
          have HQ1 := hide (show ∀ W, Fr (fun _ => False) wr W → W.cell? ⟨w.heap.size, 0 + t, none⟩ = some (.int .u8 ((old.toNat : Nat) : Int)) from fun W f => by rw [Nat.zero_add]; exact (f.cell (a := ⟨w.heap.size, t, none⟩) kob id).trans cb)
          have HZ1 := hide (show ∀ W, Fr (fun _ => False) wr W → W.frozen? ⟨w.heap.size, 0 + t, none⟩ = false from fun W f => by rw [Nat.zero_add]; exact (f.frozen (a := ⟨w.heap.size, t, none⟩) kob id).trans zb)
          have HQ2 := hide (show ∀ W, Fr (fun _ => False) wr W → W.cell? ⟨rb, ro' + i, none⟩ = some (.int .u8 ((ri.toNat : Nat) : Int)) from fun W f => (f.cell (a := ⟨rb, ro' + i, none⟩) krb id).trans r1)
          have HQ3 := hide (show ∀ W, Fr (fun _ => False) wr W → W.cell? ⟨b, o + i, none⟩ = some (.slice (some ⟨xb, xof, none⟩) n xc) from fun W f => (f.cell (a := ⟨b, o + i, none⟩) kb id).trans c1)
          have HQ4 := hide (show ∀ W, Fr (fun _ => False) wr W → W.cell? ⟨xb, xof + t, none⟩ = some (.int .u8 ((ci.toNat : Nat) : Int)) from fun W f => (f.cell (a := ⟨xb, xof + t, none⟩) kxb id).trans c2)
          go_wp2_with fail
          refine wp_name' ?_
          intro a0 hA
          have h0 : a0.tmps.getD 0 undef = .slice (some ⟨rb, ro', none⟩) kk rc := by rw [hA]; rfl
          have h1 : a0.tmps.getD 1 undef = .slice (some ⟨b, o, none⟩) ls.length vc := by rw [hA]; rfl
          have h7 : a0.tmps.getD 7 undef = .slice (some ⟨w.heap.size, 0, none⟩) n n := by rw [hA]; rfl
          have h8 : a0.tmps.getD 8 undef = .int .i64 (i : Int) := by rw [hA]; rfl
          have h9 : a0.tmps.getD 9 undef = .int .i64 (t : Int) := by rw [hA]; rfl
          have hsz : a0.tmps.size = 44 := by rw [hA]; rfl
          have hdf : a0.defers = [] := by rw [hA]
          have HA0 := hide hA
          clear hA
          refine wp_region_last (by kernel_rfl) (by kernel_rfl) (by kernel_rfl) (by decide +kernel) (by rw [hsz]; decide +kernel) _ rfl (Tk [.eq (.slice (some ⟨w.heap.size, 0, none⟩) n n), .eq (.int .i64 (t : Int)), .eq (.slice (some ⟨w.heap.size, 0, none⟩) n n), .eq (.int .i64 (t : Int)), .eq (.pointer (some ⟨w.heap.size, 0 + t, none⟩)), .eq (.int .u8 ((old.toNat : Nat) : Int)), .eq (.slice (some ⟨rb, ro', none⟩) kk rc), .eq (.int .i64 (i : Int)), .eq (.pointer (some ⟨rb, ro' + i, none⟩)), .eq (.int .u8 ((ri.toNat : Nat) : Int)), .eq (.slice (some ⟨b, o, none⟩) ls.length vc), .eq (.int .i64 (i : Int)), .eq (.pointer (some ⟨b, o + i, none⟩)), .eq (.slice (some ⟨xb, xof, none⟩) n xc), .eq (.int .i64 (t : Int)), .eq (.pointer (some ⟨xb, xof + t, none⟩)), .eq (.int .u8 ((ci.toNat : Nat) : Int)), .eq (.int .u8 (((mul ri ci).toNat : Nat) : Int)), .eq (.int .u8 (((old ^^^ (mul ri ci)).toNat : Nat) : Int)), .eq (.pointer (some ⟨w.heap.size, 0 + t, none⟩))]) (Tk.mono _) ?steps ?last
          case steps =>
            refine ⟨?_, ?_⟩
            · intro a' w' hb hf hd
              exact ⟨wanted_none rfl, ex_val (.slice (some ⟨w.heap.size, 0, none⟩) n n) (ex_move rfl ((hb.old 7 (by decide +kernel)).trans h7)) rfl⟩
            refine ⟨?_, ?_⟩
            · intro a' w' hb hf hd
              exact ⟨wanted_none rfl, ex_val (.int .i64 (t : Int)) (ex_move rfl ((hb.old 9 (by decide +kernel)).trans h9)) rfl⟩
            refine ⟨?_, ?_⟩
            · intro a' w' hb hf hd
              exact ⟨wanted_none rfl, ex_val (.slice (some ⟨w.heap.size, 0, none⟩) n n) (ex_move rfl ((hb.old 7 (by decide +kernel)).trans h7)) rfl⟩
            refine ⟨?_, ?_⟩
            · intro a' w' hb hf hd
              exact ⟨wanted_none rfl, ex_val (.int .i64 (t : Int)) (ex_move rfl ((hb.old 9 (by decide +kernel)).trans h9)) rfl⟩
            refine ⟨?_, ?_⟩
            · intro a' w' hb hf hd
              exact ⟨wanted_none rfl, ex_val (.pointer (some ⟨w.heap.size, 0 + t, none⟩)) (ex_index22 rfl (hd 2 (by kernel_rfl) 25 rfl) (hd 3 (by kernel_rfl) 26 rfl) (by omega)) rfl⟩
            refine ⟨?_, ?_⟩
            · intro a' w' hb hf hd
              exact ⟨wanted_none rfl, ex_val (.int .u8 ((old.toNat : Nat) : Int)) (ex_load5 rfl (hd 4 (by kernel_rfl) 27 rfl) (unhide HQ1 w' hf)) rfl⟩
            refine ⟨?_, ?_⟩
            · intro a' w' hb hf hd
              exact ⟨wanted_none rfl, ex_val (.slice (some ⟨rb, ro', none⟩) kk rc) (ex_move rfl ((hb.old 0 (by decide +kernel)).trans h0)) rfl⟩
            refine ⟨?_, ?_⟩
            · intro a' w' hb hf hd
              exact ⟨wanted_none rfl, ex_val (.int .i64 (i : Int)) (ex_move rfl ((hb.old 8 (by decide +kernel)).trans h8)) rfl⟩
            refine ⟨?_, ?_⟩
            · intro a' w' hb hf hd
              exact ⟨wanted_none rfl, ex_val (.pointer (some ⟨rb, ro' + i, none⟩)) (ex_index22 rfl (hd 6 (by kernel_rfl) 29 rfl) (hd 7 (by kernel_rfl) 30 rfl) (by omega)) rfl⟩
            refine ⟨?_, ?_⟩
            · intro a' w' hb hf hd
              exact ⟨wanted_none rfl, ex_val (.int .u8 ((ri.toNat : Nat) : Int)) (ex_load5 rfl (hd 8 (by kernel_rfl) 31 rfl) (unhide HQ2 w' hf)) rfl⟩
            refine ⟨?_, ?_⟩
            · intro a' w' hb hf hd
              exact ⟨wanted_none rfl, ex_val (.slice (some ⟨b, o, none⟩) ls.length vc) (ex_move rfl ((hb.old 1 (by decide +kernel)).trans h1)) rfl⟩
            refine ⟨?_, ?_⟩
            · intro a' w' hb hf hd
              exact ⟨wanted_none rfl, ex_val (.int .i64 (i : Int)) (ex_move rfl ((hb.old 8 (by decide +kernel)).trans h8)) rfl⟩
            refine ⟨?_, ?_⟩
            · intro a' w' hb hf hd
              exact ⟨wanted_none rfl, ex_val (.pointer (some ⟨b, o + i, none⟩)) (ex_index65 rfl (hd 10 (by kernel_rfl) 33 rfl) (hd 11 (by kernel_rfl) 34 rfl) (by omega)) rfl⟩
            refine ⟨?_, ?_⟩
            · intro a' w' hb hf hd
              exact ⟨wanted_none rfl, ex_val (.slice (some ⟨xb, xof, none⟩) n xc) (ex_load22 rfl (hd 12 (by kernel_rfl) 35 rfl) (unhide HQ3 w' hf)) rfl⟩
            refine ⟨?_, ?_⟩
            · intro a' w' hb hf hd
              exact ⟨wanted_none rfl, ex_val (.int .i64 (t : Int)) (ex_move rfl ((hb.old 9 (by decide +kernel)).trans h9)) rfl⟩
            refine ⟨?_, ?_⟩
            · intro a' w' hb hf hd
              exact ⟨wanted_none rfl, ex_val (.pointer (some ⟨xb, xof + t, none⟩)) (ex_index22 rfl (hd 13 (by kernel_rfl) 36 rfl) (hd 14 (by kernel_rfl) 37 rfl) (by omega)) rfl⟩
            refine ⟨?_, ?_⟩
            · intro a' w' hb hf hd
              exact ⟨wanted_none rfl, ex_val (.int .u8 ((ci.toNat : Nat) : Int)) (ex_load5 rfl (hd 15 (by kernel_rfl) 38 rfl) (unhide HQ4 w' hf)) rfl⟩
            refine ⟨?_, ?_⟩
            · intro a' w' hb hf hd
              exact ⟨wanted_none rfl, ex_call 72 _ (en_call2 rfl rfl (hd 9 (by kernel_rfl) 32 rfl) (hd 16 (by kernel_rfl) 39 rfl) cfv72) ((rmul_any w' ri ci).mono (by rintro e w7 ⟨rfl, rfl⟩; exact ⟨⟨_, rfl, rfl⟩, Fr.refl _ _⟩))⟩
            refine ⟨?_, ?_⟩
            · intro a' w' hb hf hd
              exact ⟨wanted_none rfl, ex_val (.int .u8 (((old ^^^ (mul ri ci)).toNat : Nat) : Int)) (ex_xor5 rfl (hd 5 (by kernel_rfl) 28 rfl) (hd 17 (by kernel_rfl) 40 rfl)) rfl⟩
            refine ⟨?_, ?_⟩
            · intro a' w' hb hf hd
              exact ⟨wanted_none rfl, ex_val (.pointer (some ⟨w.heap.size, 0 + t, none⟩)) (ex_index22 rfl (hd 0 (by kernel_rfl) 23 rfl) (hd 1 (by kernel_rfl) 24 rfl) (by omega)) rfl⟩
            exact trivial
          case last =>
            intro a' w' hb hf hall
            refine ⟨wanted_none rfl, wp_store5 rfl (hall 19 (by decide) 42 rfl) (hall 18 (by decide) 41 rfl) (unhide HQ1 w' hf) (unhide HZ1 w' hf) ?_⟩
            have e0_ : a'.tmps.getD 0 undef = .slice (some ⟨rb, ro', none⟩) kk rc := (hb.old 0 (by decide +kernel)).trans h0
            have e1_ : a'.tmps.getD 1 undef = .slice (some ⟨b, o, none⟩) ls.length vc := (hb.old 1 (by decide +kernel)).trans h1
            have e2_ : a'.tmps.getD 2 undef = a0.tmps.getD 2 undef := hb.old 2 (by decide +kernel)
            have e3_ : a'.tmps.getD 3 undef = a0.tmps.getD 3 undef := hb.old 3 (by decide +kernel)
            have e4_ : a'.tmps.getD 4 undef = a0.tmps.getD 4 undef := hb.old 4 (by decide +kernel)
            have e5_ : a'.tmps.getD 5 undef = a0.tmps.getD 5 undef := hb.old 5 (by decide +kernel)
            have e6_ : a'.tmps.getD 6 undef = a0.tmps.getD 6 undef := hb.old 6 (by decide +kernel)
            have e7_ : a'.tmps.getD 7 undef = .slice (some ⟨w.heap.size, 0, none⟩) n n := (hb.old 7 (by decide +kernel)).trans h7
            have e8_ : a'.tmps.getD 8 undef = .int .i64 (i : Int) := (hb.old 8 (by decide +kernel)).trans h8
            have e9_ : a'.tmps.getD 9 undef = .int .i64 (t : Int) := (hb.old 9 (by decide +kernel)).trans h9
            have e10_ : a'.tmps.getD 10 undef = a0.tmps.getD 10 undef := hb.old 10 (by decide +kernel)
            have e11_ : a'.tmps.getD 11 undef = a0.tmps.getD 11 undef := hb.old 11 (by decide +kernel)
            have e12_ : a'.tmps.getD 12 undef = a0.tmps.getD 12 undef := hb.old 12 (by decide +kernel)
            have e13_ : a'.tmps.getD 13 undef = a0.tmps.getD 13 undef := hb.old 13 (by decide +kernel)
            have e14_ : a'.tmps.getD 14 undef = a0.tmps.getD 14 undef := hb.old 14 (by decide +kernel)
            have e15_ : a'.tmps.getD 15 undef = a0.tmps.getD 15 undef := hb.old 15 (by decide +kernel)
            have e16_ : a'.tmps.getD 16 undef = a0.tmps.getD 16 undef := hb.old 16 (by decide +kernel)
            have e17_ : a'.tmps.getD 17 undef = a0.tmps.getD 17 undef := hb.old 17 (by decide +kernel)
            have e18_ : a'.tmps.getD 18 undef = a0.tmps.getD 18 undef := hb.old 18 (by decide +kernel)
            have e19_ : a'.tmps.getD 19 undef = a0.tmps.getD 19 undef := hb.old 19 (by decide +kernel)
            have e20_ : a'.tmps.getD 20 undef = a0.tmps.getD 20 undef := hb.old 20 (by decide +kernel)
            have e21_ : a'.tmps.getD 21 undef = a0.tmps.getD 21 undef := hb.old 21 (by decide +kernel)
            have e22_ : a'.tmps.getD 22 undef = a0.tmps.getD 22 undef := hb.old 22 (by decide +kernel)
            have e23_ : a'.tmps.getD 23 undef = .slice (some ⟨w.heap.size, 0, none⟩) n n := hall 0 (by decide) 23 rfl
            have e24_ : a'.tmps.getD 24 undef = .int .i64 (t : Int) := hall 1 (by decide) 24 rfl
            have e25_ : a'.tmps.getD 25 undef = .slice (some ⟨w.heap.size, 0, none⟩) n n := hall 2 (by decide) 25 rfl
            have e26_ : a'.tmps.getD 26 undef = .int .i64 (t : Int) := hall 3 (by decide) 26 rfl
            have e27_ : a'.tmps.getD 27 undef = .pointer (some ⟨w.heap.size, 0 + t, none⟩) := hall 4 (by decide) 27 rfl
            have e28_ : a'.tmps.getD 28 undef = .int .u8 ((old.toNat : Nat) : Int) := hall 5 (by decide) 28 rfl
            have e29_ : a'.tmps.getD 29 undef = .slice (some ⟨rb, ro', none⟩) kk rc := hall 6 (by decide) 29 rfl
            have e30_ : a'.tmps.getD 30 undef = .int .i64 (i : Int) := hall 7 (by decide) 30 rfl
            have e31_ : a'.tmps.getD 31 undef = .pointer (some ⟨rb, ro' + i, none⟩) := hall 8 (by decide) 31 rfl
            have e32_ : a'.tmps.getD 32 undef = .int .u8 ((ri.toNat : Nat) : Int) := hall 9 (by decide) 32 rfl
            have e33_ : a'.tmps.getD 33 undef = .slice (some ⟨b, o, none⟩) ls.length vc := hall 10 (by decide) 33 rfl
            have e34_ : a'.tmps.getD 34 undef = .int .i64 (i : Int) := hall 11 (by decide) 34 rfl
            have e35_ : a'.tmps.getD 35 undef = .pointer (some ⟨b, o + i, none⟩) := hall 12 (by decide) 35 rfl
            have e36_ : a'.tmps.getD 36 undef = .slice (some ⟨xb, xof, none⟩) n xc := hall 13 (by decide) 36 rfl
            have e37_ : a'.tmps.getD 37 undef = .int .i64 (t : Int) := hall 14 (by decide) 37 rfl
            have e38_ : a'.tmps.getD 38 undef = .pointer (some ⟨xb, xof + t, none⟩) := hall 15 (by decide) 38 rfl
            have e39_ : a'.tmps.getD 39 undef = .int .u8 ((ci.toNat : Nat) : Int) := hall 16 (by decide) 39 rfl
            have e40_ : a'.tmps.getD 40 undef = .int .u8 (((mul ri ci).toNat : Nat) : Int) := hall 17 (by decide) 40 rfl
            have e41_ : a'.tmps.getD 41 undef = .int .u8 (((old ^^^ (mul ri ci)).toNat : Nat) : Int) := hall 18 (by decide) 41 rfl
            have e42_ : a'.tmps.getD 42 undef = .pointer (some ⟨w.heap.size, 0 + t, none⟩) := hall 19 (by decide) 42 rfl
            have e43_ : a'.tmps.getD 43 undef = a0.tmps.getD 43 undef := hb.old 43 (by decide +kernel)
            have hfr := frame_eq (a := a') (vs := [.slice (some ⟨rb, ro', none⟩) kk rc, .slice (some ⟨b, o, none⟩) ls.length vc, a0.tmps.getD 2 undef, a0.tmps.getD 3 undef, a0.tmps.getD 4 undef, a0.tmps.getD 5 undef, a0.tmps.getD 6 undef, .slice (some ⟨w.heap.size, 0, none⟩) n n, .int .i64 (i : Int), .int .i64 (t : Int), a0.tmps.getD 10 undef, a0.tmps.getD 11 undef, a0.tmps.getD 12 undef, a0.tmps.getD 13 undef, a0.tmps.getD 14 undef, a0.tmps.getD 15 undef, a0.tmps.getD 16 undef, a0.tmps.getD 17 undef, a0.tmps.getD 18 undef, a0.tmps.getD 19 undef, a0.tmps.getD 20 undef, a0.tmps.getD 21 undef, a0.tmps.getD 22 undef, .slice (some ⟨w.heap.size, 0, none⟩) n n, .int .i64 (t : Int), .slice (some ⟨w.heap.size, 0, none⟩) n n, .int .i64 (t : Int), .pointer (some ⟨w.heap.size, 0 + t, none⟩), .int .u8 ((old.toNat : Nat) : Int), .slice (some ⟨rb, ro', none⟩) kk rc, .int .i64 (i : Int), .pointer (some ⟨rb, ro' + i, none⟩), .int .u8 ((ri.toNat : Nat) : Int), .slice (some ⟨b, o, none⟩) ls.length vc, .int .i64 (i : Int), .pointer (some ⟨b, o + i, none⟩), .slice (some ⟨xb, xof, none⟩) n xc, .int .i64 (t : Int), .pointer (some ⟨xb, xof + t, none⟩), .int .u8 ((ci.toNat : Nat) : Int), .int .u8 (((mul ri ci).toNat : Nat) : Int), .int .u8 (((old ^^^ (mul ri ci)).toNat : Nat) : Int), .pointer (some ⟨w.heap.size, 0 + t, none⟩), a0.tmps.getD 43 undef]) (by rw [hb.size, hsz]; rfl) (by rw [hb.defers]; exact hdf) ⟨e0_, e1_, e2_, e3_, e4_, e5_, e6_, e7_, e8_, e9_, e10_, e11_, e12_, e13_, e14_, e15_, e16_, e17_, e18_, e19_, e20_, e21_, e22_, e23_, e24_, e25_, e26_, e27_, e28_, e29_, e30_, e31_, e32_, e33_, e34_, e35_, e36_, e37_, e38_, e39_, e40_, e41_, e42_, e43_, trivial⟩
            have HF := hide hf
            clear hall hb hf
            subst hfr
            rw [unhide HA0]
            apply_assumption
            go_wp2_with fail
            go_roundw
            case rel =>
              refine ⟨t + 1, by omega, by go_num, ?_, ((unhide Hf).trans (unhide HF) (fun _ _ h => h)).setCell (fun h => absurd h (by simp)) _⟩
              rw [← unhide HST, ← UInt8.toNat_xor]
              exact ((unhide HB).kept (unhide HF) id).set t _
            case measure => simp [intOf]; omega
        · have hte : t = n := by omega
          subst hte
          rw [mixP_all] at hB
          have HB := hide hB
          have Hf := hide hf
          clear hB hf
          go_wp2_with fail
          go_roundw
          case rel => exact ⟨i + 1, by omega, by go_num, unhide HB, unhide Hf⟩
          case measure => simp [intOf]; omega
    · have hie : i = kk := by omega
      subst hie
      have HB := hide hB
      have Hf := hide hf
      clear hB hf
      go_wp2_with fail
      go_ret
      exact ⟨rfl, unhide HB, unhide Hf⟩

end Go.Proofs.Ytckmddkhkdcmmaa
