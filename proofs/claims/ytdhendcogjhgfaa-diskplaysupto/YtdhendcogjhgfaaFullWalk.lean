/-
  The law DiskFull, walked.
-/
import Derived.Test.YtdhendcogjhgfaaD20
namespace Go.Proofs.Ytdhendcogjhgfaa
open Go.RowKit
set_option linter.unusedVariables false

attribute [local go_sem ↓] Go.wp_at_zero Go.wp_at_succ

/-- A disk of two sectors on which i writes wait. -/
def fuD (i : Nat) : Dk := { newD 2 8 with Q := (List.range i).map fun j => (j % 2, List.replicate 8 (UInt8.ofNat j)) }
theorem fuD_zero : fuD 0 = newD 2 8 := rfl
theorem fuD_len (i : Nat) : (fuD i).Q.length = i := by simp [fuD]
theorem fuD_has (i j : Nat) : hasB (fuD i) ((j % 2 : Nat) : Int) = true := by
  have : (fuD i).S.length = 2 := rfl
  rw [hasB_iff]
  exact ⟨j % 2, rfl, by omega⟩
theorem fuD_off (i : Nat) : (fuD i).off = false := rfl
theorem fuD_S (i : Nat) : (fuD i).S.length = 2 := rfl
theorem fuD_size (i : Nat) : (fuD i).size = 8 := rfl
theorem fuD_n0 (i : Nat) : (fuD i).n = 0 := rfl
theorem fuD_e (i j : Nat) (c : UInt8) : wrE (fuD i) ((j % 2 : Nat) : Int) (List.replicate 8 c) = if 4096 ≤ i then 6 else 0 := by
  unfold wrE
  rw [fuD_has, if_pos rfl, fuD_size, if_pos (by rfl), fuD_off, if_neg (by decide), fuD_len]
theorem fuD_step (i : Nat) (hi : i < 4096) : wrD (fuD i) ((i % 2 : Nat) : Int) (List.replicate 8 (UInt8.ofNat i)) = fuD (i + 1) := by
  have e : wrE (fuD i) ((i % 2 : Nat) : Int) (List.replicate 8 (UInt8.ofNat i)) = 0 := by rw [fuD_e, if_neg (by omega)]
  unfold wrD
  rw [if_pos e]
  unfold fuD
  rw [List.range_succ, List.map_append]
  rfl
theorem fuD_stop (i j : Nat) (hi : 4096 ≤ i) (c : UInt8) : wrD (fuD i) ((j % 2 : Nat) : Int) (List.replicate 8 c) = fuD i := by
  have e : ¬ wrE (fuD i) ((j % 2 : Nat) : Int) (List.replicate 8 c) = 0 := by rw [fuD_e, if_pos hi]; decide
  unfold wrD
  rw [if_neg e]
theorem fuD_get (i j : Nat) (h : j < i) : (fuD i).Q.getD j (0, []) = (j % 2, List.replicate 8 (UInt8.ofNat j)) := by
  simp [fuD, List.getD, h]
theorem fuD_last (k : Nat) (h : ((k % 2 : Nat) : Int) = 1) : lastI (fuD (k + 1)).Q 1 (fuD (k + 1)).Q.length = some k := by
  rw [fuD_len]
  show (if (((fuD (k + 1)).Q.getD k (0, [])).1 : Int) = 1 then some k else lastI (fuD (k + 1)).Q 1 k) = some k
  rw [fuD_get (k + 1) k (by omega), if_pos h]
theorem fuD_readk (k : Nat) (h : ((k % 2 : Nat) : Int) = 1) : rdD (fuD (k + 1)) 1 = (List.replicate 8 (UInt8.ofNat k), 0) := by
  unfold rdD
  have h1 : hasB (fuD (k + 1)) 1 = true := fuD_has (k + 1) 1
  rw [h1, if_pos rfl, fuD_off, if_neg (by decide), fuD_last k h]
  show (((fuD (k + 1)).Q.getD k (0, [])).2, (0 : Int)) = _
  rw [fuD_get (k + 1) k (by omega)]
theorem fuD_read : rdD (fuD 4096) 1 = (List.replicate 8 255, 0) := fuD_readk 4095 (by decide)
theorem fuD_fl (i : Nat) : flE (fuD i) = 0 := rfl
theorem fuD_fle (i : Nat) : flD (fuD i) = emD (flI (fuD i) (fuD i).Q.length) := by unfold flD; rw [fuD_off, if_neg (by decide)]
theorem fuD_n (i : Nat) : (flD (fuD i)).n = i := by
  rw [fuD_fle]
  show (flI (fuD i) (fuD i).Q.length).n = i
  rw [flI_n _ _ (Nat.le_refl _), fuD_len, fuD_n0, Nat.zero_add]
theorem fuD_w (i : Nat) : wrE (flD (fuD i)) 0 (List.replicate 8 1) = 0 := by
  have hf := seW_fold ((fuD i).Q.take (fuD i).Q.length) (fuD i)
  have e := fuD_fle i
  have hs : (flD (fuD i)).S.length = 2 := by rw [e]; exact hf.2.2.2.2
  have hz : (flD (fuD i)).size = 8 := by rw [e]; exact hf.2.2.1
  have ho : (flD (fuD i)).off = false := by rw [e]; exact hf.2.2.2.1
  have hq : (flD (fuD i)).Q.length = 0 := by rw [e]; rfl
  unfold wrE
  have h1 : hasB (flD (fuD i)) 0 = true := hasB_iff.2 ⟨0, rfl, by omega⟩
  rw [h1, if_pos rfl, hz, if_pos (by rfl), ho, if_neg (by decide), hq, if_neg (by omega)]

theorem byte_of (i : Nat) : ((i : Int) % 256) = (((UInt8.ofNat i).toNat : Nat) : Int) := by simp

/-- The states of the law's last region. -/
def fuK : Nat → Dk
  | 0 => fuD 4096
  | 1 => flD (fuD 4096)
  | _ => wrD (flD (fuD 4096)) 0 (List.replicate 8 1)
def fuS (w w1 : World) (p gs k : Nat) (W : World) : Prop := (∃ q, Nd w W p gs q (fuK k)) ∧ match k with
  | 0 => Fr (fun _ => False) w1 W
  | _ => True
theorem fuS.fr {w w1 : World} {p gs k : Nat} {W W' : World} (h : fuS w w1 p gs k W) (f : Fr (fun _ => False) W W') : fuS w w1 p gs k W' :=
  ⟨h.1.imp fun _ n => n.fr f, by
    cases k with
    | zero => exact Fr.trans h.2 f (fun _ _ h => h)
    | succ k => trivial⟩
theorem Nd.mvS {w wr w' : World} {p gs : Nat} {q q' : Value} {d : Dk} (h : Nd w wr p gs q d) (m : Mv wr w' p gs q q') : Fr (fun k => w.heap.size ≤ k) wr w' :=
  m.f.mono (fun k _ e => by
    rcases e with e | e | e
    · rw [e]; exact h.hp
    · rw [e]; exact h.hg
    · exact h.hq k e)
/-- Bytes that can be read at one stage. -/
def kSt {S : Nat → Prop} (m : Nat) (l : List UInt8) : Kd S := .st m (fun v W => Rd W v l) (fun _ _ _ h f => h.kept f (fun _ _ h => h))
theorem paths2 {l : List Oper} {x y : Nat} (h : Path l y x) : ∀ k i j, [x, y][k]? = some i → [x, y][k + 1]? = some j → Path l j i := by
  intro k i j hi hj
  cases k with
  | zero => simp at hi hj; subst hi hj; exact h
  | succ k => simp at hj
section
variable {ρ : Operand → Value} {o : Oper} {w : World}
theorem x_len47 {x : Operand} {ao : Option Addr} {n c : Nat} (ho : o.op = .call { callee := .builtin .len, args := #[x], argTypes := #[47] }) (hx : ρ x = .slice ao n c) : (execOp ρ o).run Try.prog w = .ok (.value (.int .i64 (n : Int))) w := by
  simp [execOp, ho, hx, go_sem]
theorem e_call0 {k : Nat} {t : Array TypeId} (ho : o.op = .call { callee := .value (.func k), args := #[], argTypes := t }) (hf : ρ (.func k) = .func (.func k) #[] #[]) (hk : ∀ args W, Sem.run Try.prog (callFunc k args) W = .ok (.enter k args) W) : (execOp ρ o).run Try.prog w = .ok (.enter k #[]) w := by
  have hk' := hk #[] w
  simp [execOp, ho, hf, go_sem, hk']
end
theorem cf11 (args : Array Value) (W : World) : Sem.run Try.prog (callFunc 11 args) W = .ok (.enter 11 args) W := by simp [go_sem]
theorem cf21 (args : Array Value) (W : World) : Sem.run Try.prog (callFunc 21 args) W = .ok (.enter 21 args) W := by simp [go_sem]
theorem cf24 (args : Array Value) (W : World) : Sem.run Try.prog (callFunc 24 args) W = .ok (.enter 24 args) W := by simp [go_sem]
theorem cf27 (args : Array Value) (W : World) : Sem.run Try.prog (callFunc 27 args) W = .ok (.enter 27 args) W := by simp [go_sem]

set_option maxHeartbeats 2000000 in
set_option maxRecDepth 100000 in
theorem diskFull_any (w : World) (more : Int) : Calls Try.prog 8 #[.int .i64 more] w fun e w' => e = .returned (.bool true) ∧ Fr (fun _ => False) w w' := by
  by_cases h0 : more < 0
  · have b1 : decide (more < 0) = true := by simpa using h0
    go_enter Try.func8, Try.ntmps8
    go_wp2_with (go_at_call 11; refine (live_any _).mono ?_; rintro e w' ⟨rfl, f⟩)
    go_ret
    exact ⟨rfl, f⟩
  · have b1 : decide (more < 0) = false := by simpa using h0
    by_cases h3 : 3 < more
    · have b2 : decide (3 < more) = true := by simpa using h3
      go_enter Try.func8, Try.ntmps8
      go_wp2_with (go_at_call 11; refine (live_any _).mono ?_; rintro e w' ⟨rfl, f⟩)
      go_ret
      exact ⟨rfl, f⟩
    · have b2 : decide (3 < more) = false := by simpa using h3
      obtain ⟨m, rfl⟩ : ∃ m : Nat, more = (m : Int) := ⟨more.toNat, by omega⟩
      have hm : m ≤ 3 := by omega
      clear h0 h3
      go_enter Try.func8, Try.ntmps8
      go_wp2_with fail
      refine (new_nd w w (Fr.refl _ _) 2 8 (by omega) (by omega)).mono ?_
      rintro e w0 ⟨p, gs, rfl, n0, -⟩
      replace n0 : Nd w w0 p gs (.slice none 0 0) (fuD 0) := n0
      have N0 := hide n0
      clear n0
      go_wp2_with (go_at_call 14; refine (num_any _ _).mono ?_; rintro e w' ⟨rfl, rfl⟩)
      go_loopw [5] (fun x w' => ∃ i : Nat, i ≤ 4096 + m ∧ x = .int .i64 (i : Int) ∧ ∃ q, Nd w w' p gs q (fuD (min i 4096))) (fun x _ => 4096 + m - (intOf x).toNat)
      case atStart => exact ⟨0, by omega, rfl, _, unhide N0⟩
      case round =>
        clear N0
        obtain ⟨i, hi, rfl, q, hN⟩ := hrel
        have N := hide hN
        clear hN
        by_cases hlt : i < 4096 + m
        · have em : (i : Int) % 2 = ((i % 2 : Nat) : Int) := by omega
          have emt : (i : Int).tmod 2 = ((i % 2 : Nat) : Int) := by rw [Int.tmod_eq_emod_of_nonneg (by omega)]; exact em
          have eb := byte_of i
          generalize hc : UInt8.ofNat i = c at eb
          by_cases hl : i < 4096
          · have hst : wrD (fuD (min i 4096)) ((i % 2 : Nat) : Int) (List.replicate 8 c) = fuD (min (i + 1) 4096) := by
              rw [Nat.min_eq_left (by omega), Nat.min_eq_left (by omega), ← hc]
              exact fuD_step i hl
            have he : wrE (fuD (min i 4096)) ((i % 2 : Nat) : Int) (List.replicate 8 c) = 0 := by rw [fuD_e, if_neg (by omega)]
            have HST := hide hst
            have HE := hide he
            have b3 : decide ((i : Int) < 4096) = true := by simp; omega
            clear hst he
            generalize hr2 : i % 2 = r2 at *
            clear hr2 hc
            go_wp2_with fail
            refine (full_any wr 8 c (by omega)).mono ?_
            rintro e w1 ⟨rfl, hB, f1⟩
            have N1 := hide ((unhide N).fr f1)
            have HB := hide hB
            clear hB f1
            go_wp2_with fail
            refine (write_nd ((r2 : Nat) : Int) _ (List.replicate 8 c) (unhide N1) ((unhide HB).rd (by simp [maxLen]))).mono ?_
            rintro e w2 ⟨rfl, q2, n2, -⟩
            rw [unhide HE]
            rw [unhide HST] at n2
            have N2 := hide n2
            clear n2
            go_wp2_with (go_at_call 14; refine (num_any _ _).mono ?_; rintro e w' ⟨rfl, rfl⟩)
            go_roundw
            case rel => exact ⟨i + 1, by omega, by go_num, q2, unhide N2⟩
            case measure => simp [intOf]; omega
          · have hst : wrD (fuD (min i 4096)) ((i % 2 : Nat) : Int) (List.replicate 8 c) = fuD (min (i + 1) 4096) := by
              rw [Nat.min_eq_right (by omega), Nat.min_eq_right (by omega)]
              exact fuD_stop 4096 i (by omega) c
            have he : wrE (fuD (min i 4096)) ((i % 2 : Nat) : Int) (List.replicate 8 c) = 6 := by rw [fuD_e, if_pos (by omega)]
            have HST := hide hst
            have HE := hide he
            have b3 : decide ((i : Int) < 4096) = false := by simp; omega
            clear hst he
            generalize hr2 : i % 2 = r2 at *
            clear hr2 hc
            go_wp2_with fail
            refine (full_any wr 8 c (by omega)).mono ?_
            rintro e w1 ⟨rfl, hB, f1⟩
            have N1 := hide ((unhide N).fr f1)
            have HB := hide hB
            clear hB f1
            go_wp2_with fail
            refine (write_nd ((r2 : Nat) : Int) _ (List.replicate 8 c) (unhide N1) ((unhide HB).rd (by simp [maxLen]))).mono ?_
            rintro e w2 ⟨rfl, q2, n2, -⟩
            rw [unhide HE]
            rw [unhide HST] at n2
            have N2 := hide n2
            clear n2
            go_wp2_with (go_at_call 14; refine (num_any _ _).mono ?_; rintro e w' ⟨rfl, rfl⟩)
            go_roundw
            case rel => exact ⟨i + 1, by omega, by go_num, q2, unhide N2⟩
            case measure => simp [intOf]; omega
        · have e4 : min i 4096 = 4096 := by omega
          rw [e4] at N
          have b4 : decide ((i : Int) < 4096 + (m : Int)) = false := by simp; omega
          clear e4
          go_wp2_with fail
          refine (read_nd 1 (List.replicate 8 255) 8 _ (unhide N) fuD_read (by simp)).mono ?_
          rintro e w1 ⟨oX, cX, rfl, hA, n1, -⟩
          have X := hide hA
          have N1 := hide n1
          clear hA n1
          go_wp2_with fail
          refine wp_nameK ?_
          intro a0 hA
          have h3 : a0.tmps.getD 3 undef = .pointer (some ⟨p, 0, none⟩) := by rw [hA]; rfl
          have h7 : a0.tmps.getD 7 undef = .int .u8 255 := by rw [hA]; rfl
          have h8 : a0.tmps.getD 8 undef = .slice oX 8 cX := by rw [hA]; rfl
          have hsz : a0.tmps.size = 93 := by rw [hA]; rfl
          have hdf : a0.defers = [] := by rw [hA]
          clear hA
          refine wp_region_kinds (fun k => w.heap.size ≤ k) (by kernel_rfl) (by kernel_rfl) (by decide +kernel) (by rw [hsz]; decide +kernel) [.eq (.pointer (some ⟨p, 0, none⟩)), .pr (fun v _ => ∃ ao c, v = .slice ao 4096 c) (fun _ _ _ h _ => h), .eq (.int .i64 4096), .eq (.bool true), .eq (.bool true), .eq (.slice oX 8 cX), .eq (.string (str (List.replicate 8 255))), .eq (.int .u8 255), kSt 0 (List.replicate 8 255), .eq (.string (str (List.replicate 8 255))), .eq (.bool true), .eq (.bool true), .eq (.bool true), .eq (.pointer (some ⟨p, 0, none⟩)), .eq (.int .i64 0), .eq (.int .i64 0), .eq (.bool true), .eq (.bool true), .eq (.bool true), .eq (.pointer (some ⟨p, 0, none⟩)), .eq (.int .i64 4096), .eq (.bool true), .eq (.bool true), .eq (.bool true), .eq (.pointer (some ⟨p, 0, none⟩)), kSt 1 (List.replicate 8 1), .eq (.int .i64 0), .eq (.int .i64 0), .eq (.bool true), .eq (.bool true), .eq (.bool true), .eq (.bool true), .eq (.bool true), .eq (.bool true)] [14, 26] (by decide) (by decide) (paths2 (waits (by kernel_rfl))) (fuS w w1 p gs) ⟨⟨q, (unhide N1).fr ((Fr.refl _ _).drew)⟩, (Fr.refl _ _).drew⟩ ?steps ?done
          case steps =>
            refine ⟨?_, ?_⟩
            · intro a' w' k' hb hf hs hc hq hg hd
              exact ⟨wantedN rfl, k_val (.pointer (some ⟨p, 0, none⟩)) (by decide) hs (x_move rfl ((hb.old 3 (by decide +kernel)).trans h3)) rfl⟩
            refine ⟨?_, ?_⟩
            · intro a' w' k' hb hf hs hc hq hg hd
              obtain rfl : k' = 0 := Nat.le_zero.1 (hq 0 14 rfl (waits (by kernel_rfl))); obtain ⟨⟨q7, n7⟩, f7⟩ := hs; exact ⟨wantedN rfl, k_call 21 _ (by decide) (e_call1 rfl rfl (hd 0 (by kernel_rfl) 60 rfl) cf21) ((queue_any _ p gs q7 _ n7.k).mono (by rintro e w7 ⟨rfl, -, f⟩; exact ⟨_, rfl, ⟨_, _, by rw [show (fuK 0).Q.length = 4096 from fuD_len 4096]⟩, f, ⟨q7, n7.fr f⟩, Fr.trans f7 f (fun _ _ h => h)⟩))⟩
            refine ⟨?_, ?_⟩
            · intro a' w' k' hb hf hs hc hq hg hd
              obtain ⟨ao9, c9, h9⟩ := (hd 1 (by kernel_rfl) 61 rfl); exact ⟨wantedN rfl, k_val (.int .i64 4096) (by decide) hs (x_len47 rfl h9) rfl⟩
            refine ⟨?_, ?_⟩
            · intro a' w' k' hb hf hs hc hq hg hd
              exact ⟨wantedN rfl, k_val (.bool true) (by decide) hs (x_eqI Try.underlying3 rfl (hd 2 (by kernel_rfl) 62 rfl) rfl (by first | rfl | decide | simp)) rfl⟩
            refine ⟨?_, ?_⟩
            · intro a' w' k' hb hf hs hc hq hg hd
              exact ⟨wantedN rfl, k_val (.bool true) (by decide) hs (x_move rfl (hd 3 (by kernel_rfl) 63 rfl)) rfl⟩
            refine ⟨?_, ?_⟩
            · intro a' w' k' hb hf hs hc hq hg hd
              exact ⟨wantedT (d := 64) rfl rfl (by rw [hb.size, hsz]; omega) (hd 4 (by kernel_rfl) 64 rfl), k_val (.slice oX 8 cX) (by decide) hs (x_move rfl ((hb.old 8 (by decide +kernel)).trans h8)) rfl⟩
            refine ⟨?_, ?_⟩
            · intro a' w' k' hb hf hs hc hq hg hd
              obtain rfl : k' = 0 := Nat.le_zero.1 (hq 0 14 rfl (waits (by kernel_rfl))); have f0 : Fr (fun _ => False) w1 w' := hs.2; exact ⟨wantedT (d := 64) rfl rfl (by rw [hb.size, hsz]; omega) (hd 4 (by kernel_rfl) 64 rfl), k_val (.string (str (List.replicate 8 255))) (by decide) hs (x_conv rfl (hd 5 (by kernel_rfl) 65 rfl) (conv_rd (P := Try.prog) ((unhide X).rd.kept f0 (fun _ _ h => h)) 36 9 5 Try.underlying36 Try.underlying5 Try.underlying9)) rfl⟩
            refine ⟨?_, ?_⟩
            · intro a' w' k' hb hf hs hc hq hg hd
              exact ⟨wantedT (d := 64) rfl rfl (by rw [hb.size, hsz]; omega) (hd 4 (by kernel_rfl) 64 rfl), k_val (.int .u8 255) (by decide) hs (x_move rfl ((hb.old 7 (by decide +kernel)).trans h7)) rfl⟩
            refine ⟨?_, ?_⟩
            · intro a' w' k' hb hf hs hc hq hg hd
              obtain rfl : k' = 0 := Nat.le_zero.1 (hq 0 14 rfl (waits (by kernel_rfl))); exact ⟨wantedT (d := 64) rfl rfl (by rw [hb.size, hsz]; omega) (hd 4 (by kernel_rfl) 64 rfl), k_call 28 _ (by decide) (e_call2 rfl rfl rfl (hd 7 (by kernel_rfl) 67 rfl) cf28) ((full_any _ 8 255 (by omega)).mono (by rintro e w7 ⟨rfl, hB, f⟩; exact ⟨_, rfl, ⟨Nat.le_refl _, fun _ => hB.rd (by simp [maxLen])⟩, f, fuS.fr hs f⟩))⟩
            refine ⟨?_, ?_⟩
            · intro a' w' k' hb hf hs hc hq hg hd
              obtain rfl : k' = 0 := Nat.le_zero.1 (hq 0 14 rfl (waits (by kernel_rfl))); have hh : Rd w' _ _ := ((hd 8 (by kernel_rfl) 68 rfl)).2 rfl; exact ⟨wantedT (d := 64) rfl rfl (by rw [hb.size, hsz]; omega) (hd 4 (by kernel_rfl) 64 rfl), k_val (.string (str (List.replicate 8 255))) (by decide) hs (x_conv rfl rfl (conv_rd (P := Try.prog) hh 36 9 5 Try.underlying36 Try.underlying5 Try.underlying9)) rfl⟩
            refine ⟨?_, ?_⟩
            · intro a' w' k' hb hf hs hc hq hg hd
              exact ⟨wantedT (d := 64) rfl rfl (by rw [hb.size, hsz]; omega) (hd 4 (by kernel_rfl) 64 rfl), k_val (.bool true) (by decide) hs (x_eqS rfl (hd 6 (by kernel_rfl) 66 rfl) (hd 9 (by kernel_rfl) 69 rfl)) rfl⟩
            refine ⟨?_, ?_⟩
            · intro a' w' k' hb hf hs hc hq hg hd
              exact ⟨wantedN rfl, k_val (.bool true) (by decide) hs (x_pickT rfl (hd 4 (by kernel_rfl) 64 rfl) (hd 10 (by kernel_rfl) 70 rfl)) rfl⟩
            refine ⟨?_, ?_⟩
            · intro a' w' k' hb hf hs hc hq hg hd
              exact ⟨wantedN rfl, k_val (.bool true) (by decide) hs (x_move rfl (hd 11 (by kernel_rfl) 71 rfl)) rfl⟩
            refine ⟨?_, ?_⟩
            · intro a' w' k' hb hf hs hc hq hg hd
              exact ⟨wantedT (d := 72) rfl rfl (by rw [hb.size, hsz]; omega) (hd 12 (by kernel_rfl) 72 rfl), k_val (.pointer (some ⟨p, 0, none⟩)) (by decide) hs (x_move rfl ((hb.old 3 (by decide +kernel)).trans h3)) rfl⟩
            refine ⟨?_, ?_⟩
            · intro a' w' k' hb hf hs hc hq hg hd
              obtain rfl := hc 0 rfl; obtain ⟨⟨q7, n7⟩, -⟩ := hs; exact ⟨wantedT (d := 72) rfl rfl (by rw [hb.size, hsz]; omega) (hd 12 (by kernel_rfl) 72 rfl), k_callC 24 _ (by decide) (e_call1 rfl rfl (hd 13 (by kernel_rfl) 73 rfl) cf24) ((flush_nd n7 (by rw [show (fuK 0).n = 0 from rfl, show (fuK 0).Q.length = 4096 from fuD_len 4096]; omega)).mono (by rintro e w7 ⟨rfl, q8, n8, m8⟩; rw [show flE (fuK 0) = 0 from rfl]; exact ⟨_, rfl, rfl, n7.mvS m8, ⟨q8, n8⟩, trivial⟩))⟩
            refine ⟨?_, ?_⟩
            · intro a' w' k' hb hf hs hc hq hg hd
              exact ⟨wantedT (d := 72) rfl rfl (by rw [hb.size, hsz]; omega) (hd 12 (by kernel_rfl) 72 rfl), k_call 14 _ (by decide) (e_call1 rfl rfl (hd 14 (by kernel_rfl) 74 rfl) cf14) ((num_any _ _).mono (by rintro e w7 ⟨rfl, rfl⟩; exact ⟨_, rfl, rfl, Fr.refl _ _, hs⟩))⟩
            refine ⟨?_, ?_⟩
            · intro a' w' k' hb hf hs hc hq hg hd
              exact ⟨wantedT (d := 72) rfl rfl (by rw [hb.size, hsz]; omega) (hd 12 (by kernel_rfl) 72 rfl), k_val (.bool true) (by decide) hs (x_eqI Try.underlying3 rfl (hd 15 (by kernel_rfl) 75 rfl) rfl (by first | rfl | decide | simp)) rfl⟩
            refine ⟨?_, ?_⟩
            · intro a' w' k' hb hf hs hc hq hg hd
              exact ⟨wantedN rfl, k_val (.bool true) (by decide) hs (x_pickT rfl (hd 12 (by kernel_rfl) 72 rfl) (hd 16 (by kernel_rfl) 76 rfl)) rfl⟩
            refine ⟨?_, ?_⟩
            · intro a' w' k' hb hf hs hc hq hg hd
              exact ⟨wantedN rfl, k_val (.bool true) (by decide) hs (x_move rfl (hd 17 (by kernel_rfl) 77 rfl)) rfl⟩
            refine ⟨?_, ?_⟩
            · intro a' w' k' hb hf hs hc hq hg hd
              exact ⟨wantedT (d := 78) rfl rfl (by rw [hb.size, hsz]; omega) (hd 18 (by kernel_rfl) 78 rfl), k_val (.pointer (some ⟨p, 0, none⟩)) (by decide) hs (x_move rfl ((hb.old 3 (by decide +kernel)).trans h3)) rfl⟩
            refine ⟨?_, ?_⟩
            · intro a' w' k' hb hf hs hc hq hg hd
              obtain rfl : k' = 1 := Nat.le_antisymm (hq 1 26 rfl (waits (by kernel_rfl))) (hg 0 14 rfl (waits (by kernel_rfl))); obtain ⟨⟨q7, n7⟩, -⟩ := hs; exact ⟨wantedT (d := 78) rfl rfl (by rw [hb.size, hsz]; omega) (hd 18 (by kernel_rfl) 78 rfl), k_call 35 _ (by decide) (e_call1 rfl rfl (hd 19 (by kernel_rfl) 79 rfl) cf35) ((writes_any _ p gs q7 _ n7.k).mono (by rintro e w7 ⟨rfl, rfl⟩; rw [show (fuK 1).n = 4096 from fuD_n 4096]; exact ⟨_, rfl, rfl, Fr.refl _ _, ⟨q7, n7⟩, trivial⟩))⟩
            refine ⟨?_, ?_⟩
            · intro a' w' k' hb hf hs hc hq hg hd
              exact ⟨wantedT (d := 78) rfl rfl (by rw [hb.size, hsz]; omega) (hd 18 (by kernel_rfl) 78 rfl), k_val (.bool true) (by decide) hs (x_eqI Try.underlying3 rfl (hd 20 (by kernel_rfl) 80 rfl) rfl (by first | rfl | decide | simp)) rfl⟩
            refine ⟨?_, ?_⟩
            · intro a' w' k' hb hf hs hc hq hg hd
              exact ⟨wantedN rfl, k_val (.bool true) (by decide) hs (x_pickT rfl (hd 18 (by kernel_rfl) 78 rfl) (hd 21 (by kernel_rfl) 81 rfl)) rfl⟩
            refine ⟨?_, ?_⟩
            · intro a' w' k' hb hf hs hc hq hg hd
              exact ⟨wantedN rfl, k_val (.bool true) (by decide) hs (x_move rfl (hd 22 (by kernel_rfl) 82 rfl)) rfl⟩
            refine ⟨?_, ?_⟩
            · intro a' w' k' hb hf hs hc hq hg hd
              exact ⟨wantedT (d := 83) rfl rfl (by rw [hb.size, hsz]; omega) (hd 23 (by kernel_rfl) 83 rfl), k_val (.pointer (some ⟨p, 0, none⟩)) (by decide) hs (x_move rfl ((hb.old 3 (by decide +kernel)).trans h3)) rfl⟩
            refine ⟨?_, ?_⟩
            · intro a' w' k' hb hf hs hc hq hg hd
              obtain rfl : k' = 1 := Nat.le_antisymm (hq 1 26 rfl (waits (by kernel_rfl))) (hg 0 14 rfl (waits (by kernel_rfl))); exact ⟨wantedT (d := 83) rfl rfl (by rw [hb.size, hsz]; omega) (hd 23 (by kernel_rfl) 83 rfl), k_call 28 _ (by decide) (e_call2 rfl rfl rfl rfl cf28) ((full_any _ 8 1 (by omega)).mono (by rintro e w7 ⟨rfl, hB, f⟩; exact ⟨_, rfl, ⟨Nat.le_refl _, fun _ => hB.rd (by simp [maxLen])⟩, f, fuS.fr hs f⟩))⟩
            refine ⟨?_, ?_⟩
            · intro a' w' k' hb hf hs hc hq hg hd
              obtain rfl := hc 1 rfl; obtain ⟨⟨q7, n7⟩, -⟩ := hs; have hh : Rd w' _ _ := ((hd 25 (by kernel_rfl) 85 rfl)).2 rfl; exact ⟨wantedT (d := 83) rfl rfl (by rw [hb.size, hsz]; omega) (hd 23 (by kernel_rfl) 83 rfl), k_callC 27 _ (by decide) (e_call3 rfl rfl (hd 24 (by kernel_rfl) 84 rfl) rfl rfl cf27) ((write_nd 0 _ (List.replicate 8 1) n7 hh).mono (by rintro e w7 ⟨rfl, q8, n8, m8⟩; rw [show wrE (fuK 1) 0 (List.replicate 8 1) = 0 from fuD_w 4096]; exact ⟨_, rfl, rfl, n7.mvS m8, ⟨q8, n8⟩, trivial⟩))⟩
            refine ⟨?_, ?_⟩
            · intro a' w' k' hb hf hs hc hq hg hd
              exact ⟨wantedT (d := 83) rfl rfl (by rw [hb.size, hsz]; omega) (hd 23 (by kernel_rfl) 83 rfl), k_call 14 _ (by decide) (e_call1 rfl rfl (hd 26 (by kernel_rfl) 86 rfl) cf14) ((num_any _ _).mono (by rintro e w7 ⟨rfl, rfl⟩; exact ⟨_, rfl, rfl, Fr.refl _ _, hs⟩))⟩
            refine ⟨?_, ?_⟩
            · intro a' w' k' hb hf hs hc hq hg hd
              exact ⟨wantedT (d := 83) rfl rfl (by rw [hb.size, hsz]; omega) (hd 23 (by kernel_rfl) 83 rfl), k_val (.bool true) (by decide) hs (x_eqI Try.underlying3 rfl (hd 27 (by kernel_rfl) 87 rfl) rfl (by first | rfl | decide | simp)) rfl⟩
            refine ⟨?_, ?_⟩
            · intro a' w' k' hb hf hs hc hq hg hd
              exact ⟨wantedN rfl, k_val (.bool true) (by decide) hs (x_pickT rfl (hd 23 (by kernel_rfl) 83 rfl) (hd 28 (by kernel_rfl) 88 rfl)) rfl⟩
            refine ⟨?_, ?_⟩
            · intro a' w' k' hb hf hs hc hq hg hd
              exact ⟨wantedN rfl, k_val (.bool true) (by decide) hs (x_move rfl (hd 29 (by kernel_rfl) 89 rfl)) rfl⟩
            refine ⟨?_, ?_⟩
            · intro a' w' k' hb hf hs hc hq hg hd
              exact ⟨wantedT (d := 90) rfl rfl (by rw [hb.size, hsz]; omega) (hd 30 (by kernel_rfl) 90 rfl), k_call 11 _ (by decide) (e_call0 rfl rfl cf11) ((live_any _).mono (by rintro e w7 ⟨rfl, f⟩; exact ⟨_, rfl, rfl, f, fuS.fr hs f⟩))⟩
            refine ⟨?_, ?_⟩
            · intro a' w' k' hb hf hs hc hq hg hd
              exact ⟨wantedN rfl, k_val (.bool true) (by decide) hs (x_pickT rfl (hd 30 (by kernel_rfl) 90 rfl) (hd 31 (by kernel_rfl) 91 rfl)) rfl⟩
            refine ⟨?_, ?_⟩
            · intro a' w' k' hb hf hs hc hq hg hd
              exact ⟨wantedN rfl, k_val (.bool true) (by decide) hs (x_assign rfl (hd 32 (by kernel_rfl) 92 rfl)) rfl⟩
            exact trivial
          case done =>
            intro a' w' hb hf hs hall
            have hres : a'.tmps.getD 2 undef = .bool true := hall 33 (by decide) 2 rfl
            have hdf' : a'.defers = [] := by rw [hb.defers]; exact hdf
            have hF : Fr (fun _ => False) w w' := (unhide N1).f.trans hf (fun k hk e => by omega)
            have hr : bodyPost Try.prog Try.f8 (fun e w' => e = Ending.returned (Value.bool true) ∧ Fr (fun x => False) w w') .ret a' w' :=
              bodyPost_ret (v := .bool true) (by
                have h6' : a'.tmps[2]?.getD undef = .bool true := by simpa using hres
                simp [results, Try.results8, go_sem, h6']) hdf' ⟨rfl, hF⟩
            clear hall hb
            apply_assumption
            exact wp_ret hr
end Go.Proofs.Ytdhendcogjhgfaa
