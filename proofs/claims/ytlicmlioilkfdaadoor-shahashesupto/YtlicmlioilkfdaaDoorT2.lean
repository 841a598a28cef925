/-
  Trees: half, on both sides; the digest over two, on both sides.
-/
import Derived.Test.YtlicmlioilkfdaaDoorT1
import Derived.Test.YtlicmlioilkfdaaDoorR6
namespace Go.Proofs.YtlicmlioilkfdaaDoor
open Go.RowKit
set_option linter.unusedVariables false
set_option linter.unusedSimpArgs false

attribute [local go_sem ↓] Go.wp_at_zero Go.wp_at_succ

/-- How many are the first half. -/
def hf (n : Nat) : Nat := 2 ^ (n - 1).log2

theorem hf_bounds (n : Nat) (h : 2 ≤ n) : 0 < hf n ∧ hf n < n ∧ n ≤ 2 * hf n := by
  unfold hf
  have h2 := (Nat.log2_eq_iff (n := n - 1) (by omega)).1 rfl
  rw [Nat.pow_succ] at h2
  exact ⟨Nat.two_pow_pos _, by omega, by omega⟩

theorem hf_is (n k : Nat) (h : 2 ≤ n) (h1 : 2 ^ k < n) (h2 : n ≤ 2 * 2 ^ k) : hf n = 2 ^ k := by
  unfold hf
  rw [(Nat.log2_eq_iff (n := n - 1) (k := k) (by omega)).2 ⟨by omega, by rw [Nat.pow_succ]; omega⟩]

theorem len_any64 (w : World) (x : Nat) (hx : x < 1048576) : Calls Tryd.prog 69 #[.int .u64 ((x : Nat) : Int)] w fun e w' => e = .returned (.int .i64 ((bl x : Nat) : Int)) ∧ w = w' := by
  have H := hide (len64_any w x hx)
  go_enter Tryd.func69, Tryd.ntmps69
  go_wp2_with fail
  refine (unhide H).mono ?_
  rintro e w' ⟨rfl, rfl⟩
  go_wp2_with fail
  go_ret
  exact ⟨rfl, rfl⟩

theorem half_any (w : World) (n : Nat) (h2 : 2 ≤ n) (hn : n ≤ 1048576) : Calls Tryd.prog 60 #[.int .i64 ((n : Nat) : Int)] w fun e w' => e = .returned (.int .i64 ((hf n : Nat) : Int)) ∧ w = w' := by
  have hm : ((n : Nat) : Int) - 1 = ((n - 1 : Nat) : Int) := by omega
  have hw1 : IntKind.u64.wrap (((n - 1 : Nat)) : Int) = ((n - 1 : Nat) : Int) := wr64 _ (by omega) (by omega)
  have hl : bl (n - 1) = (n - 1).log2 + 1 := by unfold bl; rw [if_neg (by omega)]
  have hlg : (n - 1).log2 < 20 := (Nat.log2_lt (by omega)).2 (by omega)
  have hh : hf n = 2 ^ (n - 1).log2 := rfl
  have H := hide (len_any64 w (n - 1) (by omega))
  rw [hl] at H
  have HH := hide hh
  clear hl hh
  generalize (n - 1).log2 = k at *
  have hk1 : (((k + 1 : Nat)) : Int) - 1 = ((k : Nat) : Int) := by omega
  have hp : (2 : Nat) ^ k < 1048576 := Nat.lt_of_lt_of_le (Nat.pow_lt_pow_right (by decide) hlg) (by decide)
  have hpw : IntKind.i64.wrap ((2 : Int) ^ k) = (2 : Int) ^ k := by
    have e : (2 : Int) ^ k = ((2 ^ k : Nat) : Int) := by simp
    rw [e]
    have : ∀ z : Nat, z < 1048576 → IntKind.i64.wrap ((z : Nat) : Int) = ((z : Nat) : Int) := fun z hz => by
      simp only [IntKind.wrap, IntKind.bits, IntKind.signed]; simp; omega
    exact this _ hp
  generalize n - 1 = m at *
  go_enter Tryd.func60, Tryd.ntmps60
  go_wp2_with fail
  refine (unhide H).mono ?_
  rintro e w' ⟨rfl, rfl⟩
  go_wp2_with fail
  go_ret
  rw [unhide HH]
  refine ⟨?_, rfl⟩
  simp

theorem rhalf_any (w : World) (n : Nat) (h2 : 2 ≤ n) (hn : n ≤ 1048576) : Calls Tryd.prog 55 #[.int .i64 ((n : Nat) : Int)] w fun e w' => e = .returned (.int .i64 ((hf n : Nat) : Int)) ∧ w = w' := by
  go_enter Tryd.func55, Tryd.ntmps55
  go_wp2_with fail
  go_loopw [3] (fun x w' => ∃ k h : Nat, h = 2 ^ k ∧ h < n ∧ x = .int .i64 ((h : Nat) : Int) ∧ w' = w) (fun x _ => n - (intOf x).toNat)
  case atStart => exact ⟨0, 1, rfl, by omega, rfl, rfl⟩
  case round =>
    obtain ⟨k, h, hk, hlt, rfl, rfl⟩ := hrel
    have hpos : 0 < h := by rw [hk]; exact Nat.two_pow_pos k
    have HK := hide hk
    clear hk
    have hwm : IntKind.i64.wrap (2 * ((h : Nat) : Int)) = 2 * ((h : Nat) : Int) := by
      simp only [IntKind.wrap, IntKind.bits, IntKind.signed]; simp; omega
    by_cases hc : 2 * h < n
    · have hci : 2 * ((h : Nat) : Int) < ((n : Nat) : Int) := by omega
      go_wp2_with fail
      refine ⟨⟨k + 1, 2 * h, by rw [Nat.pow_succ, unhide HK]; omega, hc, by simp, by first | rfl | trivial⟩, by simp [intOf]; omega⟩
    · have hci : ¬ 2 * ((h : Nat) : Int) < ((n : Nat) : Int) := by omega
      have hr := hf_is n k h2 (by rw [← unhide HK]; exact hlt) (by rw [← unhide HK]; omega)
      rw [← unhide HK] at hr
      have HR := hide hr
      clear hr
      go_wp2_with fail
      go_ret
      rw [unhide HR]
      exact ⟨rfl, rfl⟩

/-- The digest over two. -/
def jn (a b : List UInt8) : List UInt8 := sha (1 :: (a ++ b))
theorem jn_length (a b : List UInt8) : (jn a b).length = 32 := rfl

theorem rd_box {w : World} {b : Nat} {l : List UInt8} (hl : l.length = 32) (h : w.heap[b]? = some (.cells (bvs l).toArray 26 (0, 0))) : Rd w (.slice (some ⟨b, 0, none⟩) 32 32) l := by
  refine .inr ⟨⟨b, 0, none⟩, 32, by rw [hl], by rw [hl]; exact Nat.le_refl _, by simp [maxLen], fun j hj => ?_⟩
  have := bat_range h j (.int .u8 ((l[j].toNat : Nat) : Int)) (by rw [bvs_get l j hj])
  rw [Addr.add_lit]
  exact this

set_option maxHeartbeats 1000000 in
theorem joined_any (w : World) (a b : List UInt8) (ha : a.length = 32) (hb : b.length = 32) (T : Tb w) : Calls Tryd.prog 61 #[.agg (bvs a).toArray, .agg (bvs b).toArray] w fun e w' => e = .returned (.agg (bvs (jn a b)).toArray) ∧ Fr (fun _ => False) w w' := by
  have HT := hide T
  clear T
  obtain ⟨D, hD⟩ : ∃ D, D = jn a b := ⟨_, rfl⟩
  have hsl : D.length = 32 := by rw [hD]; rfl
  have HDD := hide hD
  clear hD
  go_enter Tryd.func61, Tryd.ntmps61
  go_wp2_with fail
  refine wpC_world ?_
  intro w0 hw0
  have f0 : Fr (fun _ => False) w w0 := by rw [hw0]; exact (((Fr.refl _ _).alloc _).alloc _).alloc _
  have hA0 : w0.heap[w.heap.size]? = some (.cells (bvs a).toArray 26 (0, 0)) := by
    rw [hw0]
    exact (Below.heap_alloc _ _ _ (by simp only [World.size_alloc]; omega)).trans (BlockAt.two w _ _)
  have hB0 : w0.heap[w.heap.size + 1]? = some (.cells (bvs b).toArray 26 (0, 0)) := by
    rw [hw0]
    exact (Below.heap_alloc _ _ _ (by simp only [World.size_alloc]; omega)).trans (BlockAt.one w _ _)
  have hR0 : ZAt w0 (w.heap.size + 1 + 1) 26 32 := by
    rw [hw0]
    refine ⟨(List.replicate 32 (Value.int .u8 0)).toArray, ?_, rfl⟩
    have := heap_alloc_new ((w.alloc (.cells (bvs a).toArray 26)).alloc (.cells (bvs b).toArray 26)) (.cells (List.replicate 32 (Value.int .u8 0)).toArray 26)
    simp only [World.size_alloc] at this
    exact this
  have F0 := hide f0
  have RA0 := hide (rd_box ha hA0)
  have RB0 := hide (rd_box hb hB0)
  have HR0 := hide hR0
  have hs0 : w.heap.size + 1 + 1 < w0.heap.size := by obtain ⟨cs, h, -⟩ := hR0; exact lt_of_heap h
  clear hw0 f0 hA0 hB0 hR0
  refine (new_any w0).mono ?_
  rintro e w1 ⟨rfl, h1, f1⟩
  have F1 := hide ((unhide F0).trans f1 (fun _ _ h => h))
  have RA1 := hide ((unhide RA0).kept f1 (fun _ _ h => h))
  have RB1 := hide ((unhide RB0).kept f1 (fun _ _ h => h))
  have HR1 := hide ((unhide HR0).kept f1 id)
  have H1 := hide (HH.new h1)
  have hs1 : w0.heap.size < w1.heap.size := h1.lt
  clear h1 f1
  go_wp2_with fail
  refine wpC_world ?_
  intro w2 hw2
  have f2 : Fr (fun _ => False) w1 w2 := by rw [hw2]; exact (Fr.refl _ _).alloc _
  have hL2 : Rd w2 (.slice (some ⟨w1.heap.size, 0, none⟩) 1 1) [1] := by rw [hw2]; exact BAt.rd (l := [1]) (bat_new w1 [1]) (by simp [maxLen])
  have F2 := hide ((unhide F1).trans f2 (fun _ _ h => h))
  have RA2 := hide ((unhide RA1).kept f2 (fun _ _ h => h))
  have RB2 := hide ((unhide RB1).kept f2 (fun _ _ h => h))
  have HR2 := hide ((unhide HR1).kept f2 id)
  have H2 := hide ((unhide H1).kept f2 id)
  have hs2 : w1.heap.size ≤ w2.heap.size := f2.size
  clear hw2 f2
  refine (write_any w2 w0.heap.size s0 0 [] _ [1] ((unhide HT).kept (unhide F2) id id) (unhide H2) hL2 (fun b hb => .inr <| by simp [Value.ownBlock] at hb; omega)).mono ?_
  rintro e w3 ⟨rfl, h3, f3⟩
  have F3 : Hid (Fr (fun _ => False) w w3) := hide ((unhide F2).trans f3 (fun i hi e => by omega))
  have RA3 := hide ((unhide RA2).kept f3 (fun c hc => by simp [Value.ownBlock] at hc; omega))
  have RB3 := hide ((unhide RB2).kept f3 (fun c hc => by simp [Value.ownBlock] at hc; omega))
  have HR3 := hide ((unhide HR2).kept f3 (by omega))
  have H3 := hide h3
  clear h3 f3 hL2
  go_wp2_with fail
  refine (write_any w3 w0.heap.size _ _ _ _ a ((unhide HT).kept (unhide F3) id id) (unhide H3) (unhide RA3) (fun b hb => .inr <| by simp [Value.ownBlock] at hb; omega)).mono ?_
  rintro e w4 ⟨rfl, h4, f4⟩
  have F4 : Hid (Fr (fun _ => False) w w4) := hide ((unhide F3).trans f4 (fun i hi e => by omega))
  have RB4 := hide ((unhide RB3).kept f4 (fun c hc => by simp [Value.ownBlock] at hc; omega))
  have HR4 := hide ((unhide HR3).kept f4 (by omega))
  rw [feed_app] at h4
  have H4 := hide h4
  clear h4 f4
  go_wp2_with fail
  refine (write_any w4 w0.heap.size _ _ _ _ b ((unhide HT).kept (unhide F4) id id) (unhide H4) (unhide RB4) (fun b hb => .inr <| by simp [Value.ownBlock] at hb; omega)).mono ?_
  rintro e w5 ⟨rfl, h5, f5⟩
  have F5 : Hid (Fr (fun _ => False) w w5) := hide ((unhide F4).trans f5 (fun i hi e => by omega))
  have HR5 := hide ((unhide HR4).kept f5 (by omega))
  rw [feed_app] at h5
  have H5 := hide h5
  clear h5 f5
  go_wp2_with fail
  refine (sum_any w5 w0.heap.size _ _ _ ((unhide HT).kept (unhide F5) id id) (unhide H5)).mono ?_
  rintro e w6 ⟨rfl, f6⟩
  have F6 := hide ((unhide F5).trans f6 (fun _ _ h => h))
  have hR6 := (unhide HR5).kept f6 id
  have hsum2 : sumH (feed s0 ([] ++ [1] ++ a ++ b)).1 ((((0 + ([1] : List UInt8).length) % 18446744073709551616 + a.length) % 18446744073709551616 + b.length) % 18446744073709551616) (feed s0 ([] ++ [1] ++ a ++ b)).2 = D := by
    rw [unhide HDD]
    unfold jn sha
    simp only [List.nil_append, List.cons_append, List.length_cons, List.length_append, ha, hb]
    rfl
  rw [hsum2]
  clear f6 hsum2
  have hszD : (bvs D).toArray.size = 32 := by simpa [bvs_length] using hsl
  have hi : (Tryd.prog.info? 26).map (·.size) = some (bvs D).length := by rw [bvs_length, hsl]; exact Tryd.s26
  have hi2 : (Tryd.prog.info? 26).map (·.size) = some (bvs D).toArray.size := by rw [hszD]; exact Tryd.s26
  have hone := bvs_oneA D
  have hth : w6.there (w.heap.size + 1 + 1) 0 (bvs D).toArray.size := by rw [hszD]; exact hR6.there
  have hres := hR6.putB D hsl
  have fin : Fr (fun _ => False) w (w6.setCells (w.heap.size + 1 + 1) 0 (bvs D)) := (unhide F6).trans (setCells_frame _ _ _ _) (fun i hi e => by omega)
  clear hR6 hsl hszD
  go_wp2_with (refine wpList_store_mid0 rfl rfl 26 _ _ rfl (w.heap.size + 1 + 1) 0 (bvs D).toArray rfl rfl hth hi2 hone ?_)
  refine bodyPost_ret (ret_agg rfl _ _ (w.heap.size + 1 + 1) 0 _ _ rfl (bat_range hres) Tryd.u26 rfl hi) rfl ?_
  rw [← unhide HDD]
  exact ⟨rfl, fin⟩
end Go.Proofs.YtlicmlioilkfdaaDoor
