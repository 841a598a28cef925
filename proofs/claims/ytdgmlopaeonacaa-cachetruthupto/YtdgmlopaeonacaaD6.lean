/-
  The cache's Oldest.
-/
import Derived.Test.YtdgmlopaeonacaaD5
namespace Go.Proofs.Ytdgmlopaeonacaa
open Go.RowKit
set_option linter.unusedVariables false

attribute [local go_sem ↓] Go.wp_at_zero Go.wp_at_succ

/-- Dirty blocks in their order, of the blocks at hand alone. -/
def cmL (x y : Pl) : Int := orI (cm (x.first : Int) (y.first : Int)) (cm x.b y.b)
def srtL (l : List Pl) : List Pl := (l.filter (·.dirty)).mergeSort fun x y => !decide (cmL y x < 0)
theorem srt_map (R : List (Nat × Pl)) : (srtP (dty R)).map Prod.snd = srtL (R.map Prod.snd) := by
  unfold srtP srtL
  have h0 := List.map_mergeSort (r := fun x y => !decide (cmP y x < 0)) (s := fun x y => !decide (cmL y x < 0)) (f := Prod.snd) (l := dty R) (fun a _ b _ => rfl)
  rw [show (dty R).map Prod.snd = (R.map Prod.snd).filter (·.dirty) by simp [dty, List.filter_map, Function.comp_def]] at h0
  exact h0
/-- What Oldest tells. -/
def oldR (l : List Pl) : Int × Bool := match srtL l with
  | [] => (0, false)
  | x :: _ => ((x.first : Int), true)

section
variable (w : World) (p h r u : Nat) (L : List (Int × Nat)) (R : List (Nat × Pl)) (c : Ca)
theorem KAt.bn (H : KAt w p h r u L R c) : (R.map fun q => q.2.b).Nodup := by
  have h1 := (H.pm.map Prod.fst).nodup_iff.1 H.mp.2
  simpa [List.map_map, Function.comp_def] using h1

set_option maxRecDepth 100000 in
theorem oldest_any (hRl : R.length ≤ 1000000) (H : KAt w p h r u L R c) : Calls Try.prog 15 #[ptr p] w fun e w' => e = .returned (.tuple #[.int .u64 (oldR (R.map Prod.snd)).1, .bool (oldR (R.map Prod.snd)).2]) ∧ Fr (fun _ => False) w w' := by
  have HD := hide (dirty_any w p h r u L R c sort_ok hRl H.bn H)
  have HK := hide H
  have HM := hide (srt_map R)
  unfold oldR
  rw [← unhide HM]
  have hlen : (srtP (dty R)).length = (dty R).length := (srtP_perm _).length_eq
  have hmem : ∀ q ∈ srtP (dty R), q ∈ R := fun q hq => (List.mem_filter.1 ((srtP_perm _).mem_iff.1 hq)).1
  clear H
  rcases hs : srtP (dty R) with _ | ⟨q, S⟩
  · rw [hs] at hlen
    have h0 : (dty R).length = 0 := hlen.symm
    rw [h0] at HD
    clear hlen h0 hmem hs
    unfold ptr at *
    go_enter Try.func15, Try.ntmps15
    go_wp2_with fail
    refine (unhide HD).mono ?_
    rintro e w' ⟨⟨ao, cc, rfl, -, -⟩, f⟩
    have F := hide f
    clear f HD
    go_wp2_with fail
    go_ret2
    exact ⟨rfl, unhide F⟩
  · rw [hs] at HD hlen
    simp only [List.map_cons]
    have hq : q ∈ R := hmem q (by rw [hs]; simp)
    have HQ := hide hq
    obtain ⟨N, hN⟩ : ∃ N, N = (dty R).length := ⟨_, rfl⟩
    rw [← hN] at HD hlen
    have hN0 : (N == 0) = false := by rw [← hlen]; simp
    have hN1 : 0 < N := by rw [← hlen]; simp
    have HN1 := hide hN1
    clear hlen hmem hs hN hq
    unfold ptr at *
    go_enter Try.func15, Try.ntmps15
    go_wp2_with fail
    refine (unhide HD).mono ?_
    rintro e w' ⟨⟨ao, cc, rfl, hV, -⟩, f⟩
    obtain ⟨b, o, rfl, -, -, -, c0⟩ := hV.lits (by simp [pvs])
    have c0 := c0 0 (by simp [pvs])
    simp only [pvs, List.map_cons, List.getElem_cons_zero, Nat.add_zero] at c0
    obtain ⟨o1, n1, hn⟩ := (unhide HK).at (unhide HQ)
    have d3 := (hn.kept f id).c3
    have F := hide f
    unfold ptr at *
    clear hV f HD hn
    go_wp2_with fail
    go_ret2
    exact ⟨rfl, unhide F⟩
end
end Go.Proofs.Ytdgmlopaeonacaa
