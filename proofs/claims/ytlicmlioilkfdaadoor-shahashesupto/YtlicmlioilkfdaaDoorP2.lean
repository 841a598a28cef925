/-
  The walk of a Hash's Save.
-/
import Derived.Test.YtlicmlioilkfdaaDoorP1
namespace Go.Proofs.YtlicmlioilkfdaaDoor
open Go.RowKit
set_option linter.unusedVariables false
set_option linter.unusedSimpArgs false

attribute [local go_sem ↓] Go.wp_at_zero Go.wp_at_succ

/-- What Save answers. -/
def svB (s : St) (n : Nat) (r : List UInt8) : List UInt8 := sb s ++ lb n ++ r

theorem svB_length (s : St) (n : Nat) (r : List UInt8) : (svB s n r).length = 40 + r.length := by
  simp [svB, sb_length, lb_length]; omega

set_option maxHeartbeats 1000000 in
set_option maxRecDepth 100000 in
theorem save_any (w : World) (p : Nat) (s : St) (n : Nat) (r : List UInt8) (h : HH w p s n r) :
    Calls Tryd.prog 22 #[.pointer (some ⟨p, 0, none⟩)] w fun e w' => ∃ v', e = .returned v' ∧ Ow w' v' (svB s n r) ∧ Fr (fun _ => False) w w' ∧ ∀ k, v'.ownBlock = some k → w.heap.size ≤ k := by
  obtain ⟨i, hi, hz0, hz1, hz2⟩ := info_parts Tryd.info5
  have hrl := h.len
  obtain ⟨pc, hH, hr⟩ := h
  have HH0 := hide hH
  have hlt := hH.lt
  have hsv : svB s n r = sb s ++ lb n ++ r := rfl
  have HSV := hide hsv
  have c8 := hH.num
  have HR := hide hr
  clear hr hH hsv
  go_enter Tryd.func22, Tryd.ntmps22
  go_wp2_with fail
  refine (layState_any w (.slice none 0 0) [] p 0 s (Ow.nil w) (fun j hj => by rw [Nat.zero_add]; exact (unhide HH0).word j hj) (fun k hk => by simp [Value.ownBlock] at hk) (by simp)).mono ?_
  rintro e w1 ⟨v1, rfl, h1, f1⟩
  have g1 : Fr (fun _ => False) w w1 := f1.1.mono (fun i hi e => by simp [Value.ownBlock] at e)
  have c81 : w1.cell? ⟨p, 8, none⟩ = some (.int .u64 ((n : Nat) : Int)) := (g1.cell (a := ⟨p, 8, none⟩) hlt id).trans c8
  have H1 := hide h1
  have F1 := hide f1
  have HH1 := hide ((unhide HH0).kept g1 id)
  clear h1 f1 g1 c8
  go_wp2_with fail
  refine (layLong_any w1 v1 _ n (unhide H1) (by simp [sb_length])).mono ?_
  rintro e w2 ⟨v2, rfl, h2, f2⟩
  have F2 : Hid (OwF w w2 (.slice none 0 0) v2) := hide ((unhide F1).trans f2)
  have g2 : Fr (fun _ => False) w w2 := (unhide F2).1.mono (fun i hi e => by simp [Value.ownBlock] at e)
  rw [List.nil_append] at h2
  obtain ⟨ao, cap, rfl⟩ := h2.shape
  have hl2 : (sb s ++ lb n).length = 40 := rfl
  have HH2 := hide ((unhide HH0).kept g2 id)
  have hR := fun m => left_any (w2.drewN m) p s n pc ((unhide HH2).kept (frD w2 m (fun _ => False)) id)
  have hk : n % 64 < 64 := Nat.mod_lt _ (by decide)
  have H2 := hide h2
  have HL2 := hide hl2
  have hpc := (unhide HH2).len
  generalize hkk : n % 64 = k at *
  have b1 : (0 : Int) ≤ (k : Int) := by omega
  have b2 : (k : Int) ≤ 64 := by omega
  have HKK := hide hkk
  clear h2 f2 g2 hkk
  have hR2 : ∀ m, Calls Tryd.prog 42 #[.pointer (some ⟨p, 0, none⟩)] (w2.drewN m) fun e w'' => e = .returned (.int .i64 (k : Int)) ∧ ∃ m, w'' = w2.drewN m := fun m => (hR m).mono (by rintro e w' ⟨rfl, rfl⟩; exact ⟨rfl, m, rfl⟩)
  rw [hl2] at *
  clear hl2
  go_wp2_with fail
  refine wp_region_quietTail 7 (by kernel_rfl) (by kernel_rfl) ?_
  simp only [List.take_succ_cons, List.take_zero]
  repeat (go_big_quiet_step (exact hR2 _))
  refine wpQuiet_nil ?_
  intro _ hw'
  obtain ⟨nq, hw''⟩ := hw'
  subst hw''
  simp only [List.drop_succ_cons, List.drop_zero]
  refine wpList_app rfl (.tmp 16) (.tmp 22) 22 rfl 5 i _ 1 1 Tryd.underlying22 hi hz0 hz1 hz2 rfl (by decide) _ 40 (bvs (sb s ++ lb n)) rfl _ rfl k (bvs r) ?hown ?hx ?h1 ?hb ?h63 ?hK
  case hown => exact (unhide H2).kept (frD w2 nq (fun _ => False)) (fun _ _ h => h)
  case hx =>
    refine .inr ⟨_, _, rfl, by rw [bvs_length, hrl, Nat.mul_one], ?_⟩
    intro j u hu
    have hj : j < r.length := by
      have := (List.getElem?_eq_some_iff.1 hu).1
      rwa [bvs_length] at this
    have hc := ((unhide HH2).kept (frD w2 nq (fun _ => False)) id).byte j (by omega)
    rw [Addr.add_lit, hc, ← hu, bvs_get _ _ hj]
    have : r[j] = pc.getD j 0 := by
      have e := unhide HR
      have h2 : r[j]? = pc[j]? := by rw [← e, List.getElem?_take, if_pos (by omega)]
      rw [List.getElem?_eq_getElem hj] at h2
      simp [← h2]
    rw [this]
  case h1 => exact bvs_one _
  case hb => omega
  case h63 => simp only [maxLen]; omega
  case hK =>
    intro ao' cap' w' ho hg hpl
    have hF : OwF w2 w' (.slice ao 40 cap) (.slice ao' (40 + k) cap') := owf_app (frD w2 nq (fun _ => False)) hg (by rcases hpl with e | ⟨k, e, hk⟩; exact .inl e; exact .inr ⟨k, e, by simpa using hk⟩)
    have hO : Ow w' (.slice ao' (40 + k) cap') (svB s n r) := by
      unfold Ow
      rw [svB_length, hrl, unhide HSV, bvs_append]
      exact ho
    have F3 := (unhide F2).trans hF
    have g3 : Fr (fun _ => False) w w' := F3.1.mono (fun i hi e => by simp [Value.ownBlock] at e)
    have n3 : ∀ q, (Value.slice ao' (40 + k) cap').ownBlock = some q → w.heap.size ≤ q := by
      intro q hq
      rcases F3.2 with e | ⟨b, e, hb⟩
      · rw [e] at hq; simp [Value.ownBlock] at hq
      · rw [e] at hq; simp at hq; omega
    have H3 := hide hO
    have G3 := hide g3
    have N3 := hide n3
    clear ho hg hpl hF hO F3 g3 n3
    go_wp2_with fail
    go_ret
    exact ⟨_, rfl, unhide H3, unhide G3, unhide N3⟩
end Go.Proofs.YtlicmlioilkfdaaDoor
