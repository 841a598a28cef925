/-
  Trees: the walk of the document's Root.
-/
import Derived.Test.YtlicmlioilkfdaaDoorT5
import Derived.Test.YtlicmlioilkfdaaDoorV1
namespace Go.Proofs.YtlicmlioilkfdaaDoor
open Go.RowKit
set_option linter.unusedVariables false
set_option linter.unusedSimpArgs false

attribute [local go_sem ↓] Go.wp_at_zero Go.wp_at_succ

theorem rrootOne_any (w : World) (b o c : Nat) (D : List UInt8) (hD : D.length = 32) (h : w.rangeAt b o (bvs D)) : Calls Tryd.prog 39 #[.slice (some ⟨b, o, none⟩) 1 c] w fun e w' => e = .returned (.agg (bvs D).toArray) ∧ Fr (fun _ => False) w w' := by
  have hb : b < w.heap.size := World.block_lt_of_cell? w ⟨b, o + 0, none⟩ (h 0 _ (bvs_get D 0 (by omega)))
  have hrng : ∀ ob, (w.alloc ob).rangeAt b o (bvs D) := fun ob j v hv => by
    rw [((Fr.refl (fun _ => False) w).alloc ob).cell (a := ⟨b, o + j, none⟩) hb id]; exact h j v hv
  have hszD : (bvs D).toArray.size = 32 := by simpa [bvs_length] using hD
  have hi : (Tryd.prog.info? 26).map (·.size) = some (bvs D).length := by rw [bvs_length, hD]; exact Tryd.s26
  have hi2 : (Tryd.prog.info? 26).map (·.size) = some (bvs D).toArray.size := by rw [hszD]; exact Tryd.s26
  have hone := bvs_oneA D
  have hth : ∀ cs : Array Value, cs.size = 32 → (w.alloc (.cells cs 26)).there w.heap.size 0 (bvs D).toArray.size := fun cs hcs => by rw [hszD]; exact (ZAt.new w cs 26 32 hcs).there
  have hres : ∀ cs : Array Value, cs.size = 32 → ((w.alloc (.cells cs 26)).setCells w.heap.size 0 (bvs D)).heap[w.heap.size]? = some (.cells (bvs D).toArray 26 (0, 0)) := fun cs hcs => (ZAt.new w cs 26 32 hcs).putB D hD
  have fin : ∀ cs : Array Value, Fr (fun _ => False) w ((w.alloc (.cells cs 26)).setCells w.heap.size 0 (bvs D)) := fun cs => ((Fr.refl _ _).alloc _).trans (setCells_frame _ _ _ _) (fun i hi e => by omega)
  have HR := hide hres
  have HF := hide fin
  clear h hszD hD hres fin
  go_enter Tryd.func39, Tryd.ntmps39
  go_wp2_with (first | refine wpList_load_mid rfl 26 _ rfl b o rfl (bvs D) _ (hrng _) Tryd.u26 rfl hi ?_ | refine wpList_store_mid0 rfl rfl 26 _ _ rfl w.heap.size 0 (bvs D).toArray rfl rfl (hth _ rfl) hi2 hone ?_)
  refine bodyPost_ret (ret_agg rfl _ _ w.heap.size 0 _ _ rfl (bat_range (unhide HR _ rfl)) Tryd.u26 rfl hi) rfl ?_
  exact ⟨rfl, unhide HF _⟩

set_option maxHeartbeats 2000000 in
set_option maxRecDepth 100000 in
theorem rroot_any (n : Nat) : ∀ (w : World) (v : Value) (ls : List Dg), ls.length = n → n ≤ 1000000 → DRd w v ls → Calls Tryd.prog 39 #[v] w fun e w' => e = .returned (.agg (bvs (root ls)).toArray) ∧ Fr (fun _ => False) w w' := by
  induction n using Nat.strongRecOn with
  | ind n ih =>
  intro w v ls hn hle hv
  obtain ⟨ao, cap, rfl⟩ := hv.shape
  have hrl := root_length ls hv.1
  by_cases h0 : ls.length = 0
  · obtain rfl := List.eq_nil_of_length_eq_zero h0
    obtain ⟨D, hD⟩ : ∃ D, D = root [] := ⟨_, rfl⟩
    rw [← hD] at hrl ⊢
    rw [root_nil] at hD
    have HD := hide hD
    have hz : ((([] : List Dg).length : Int) == 0) = true := rfl
    clear hD hv ih
    have P := Put.of hrl
    have hi := P.hi
    have hi2 := P.hi2
    have hone := P.oneA
    go_enter Tryd.func39, Tryd.ntmps39
    go_wp2_with fail
    refine wpC_world ?_
    intro w0 hw0
    have f0 : Fr (fun _ => False) w w0 := by rw [hw0]; exact (Fr.refl _ _).alloc _
    have hR0 : ZAt w0 w.heap.size 26 32 := by rw [hw0]; exact ZAt.new w _ 26 32 rfl
    clear hw0
    refine (RSum_any w0 (.slice none 0 0) [] (Rd.nil w0) (by simp)).mono ?_
    rintro e w1 ⟨he, f1⟩
    rw [← unhide HD] at he
    subst he
    have hR1 := hR0.kept f1 id
    have hth := P.there hR1
    have hres := hR1.putB D hrl
    have fin : Fr (fun _ => False) w (w1.setCells w.heap.size 0 (bvs D)) := (f0.trans f1 (fun _ _ h => h)).trans (setCells_frame _ _ _ _) (fun i hi e => by omega)
    clear hR0 hR1 f0 f1 P
    go_wp2_with (refine wpList_store_mid0 rfl rfl 26 _ _ rfl w.heap.size 0 (bvs D).toArray rfl rfl hth hi2 hone ?_)
    refine bodyPost_ret (ret_agg rfl _ _ w.heap.size 0 _ _ rfl (bat_range hres) Tryd.u26 rfl hi) rfl ?_
    exact ⟨rfl, fin⟩
  · by_cases h1 : ls.length = 1
    · match ls, h1 with
      | [d], _ =>
        obtain ⟨b, o, rfl, -, -, -, -, hc⟩ := hv.lits (by simp)
        have h := hc 0 (by simp)
        rw [root_one]
        exact rrootOne_any w b o cap d (hv.1 d (by simp)) h
    · have hb := hf_bounds ls.length (by omega)
      obtain ⟨b, o, rfl, -, hnc, hcm, hbl, hc⟩ := hv.lits (by omega)
      have htk := hv.take (by omega) (hf ls.length) (by omega)
      have hdr := hv.drop (hf ls.length) hb.2.1
      have hmore := root_more ls (by omega)
      have hh := fun W => rhalf_any W ls.length (by omega) (by omega)
      have ihG : ∀ (W : World) (x : Value) (ls' : List Dg), Fr (fun _ => False) w W → (DRd w x ls' ∧ ls'.length < n) → Calls Tryd.prog 39 #[x] W fun e w' => e = .returned (.agg (bvs (root ls')).toArray) ∧ Fr (fun _ => False) W w' := fun W x ls' f h => ih ls'.length h.2 W x ls' rfl (by omega) (h.1.kept f)
      have hdA : DRd w (.slice (some ⟨b, o, none⟩) (hf ls.length) cap) (ls.take (hf ls.length)) ∧ (ls.take (hf ls.length)).length < n := ⟨htk, by simp; omega⟩
      have hdB : DRd w (.slice (some ⟨b, o + hf ls.length * 32, none⟩) (ls.length - hf ls.length) (cap - hf ls.length)) (ls.drop (hf ls.length)) ∧ (ls.drop (hf ls.length)).length < n := ⟨by rw [Nat.mul_comm]; exact hdr, by simp; omega⟩
      have hjn := fun W (f : Fr (fun _ => False) w W) => node_any W (root (ls.take (hf ls.length))) (root (ls.drop (hf ls.length))) (root_length _ htk.1) (root_length _ hdr.1)
      rw [← hmore] at hjn
      clear hc ih htk hdr hmore hv
      have HDA := hide hdA
      have HDB := hide hdB
      clear hdA hdB
      generalize ls.take (hf ls.length) = lA at *
      generalize ls.drop (hf ls.length) = lB at *
      generalize root ls = D at *
      generalize hf ls.length = k at *
      have HG := hide ihG
      have HJ := hide hjn
      have HH := hide hh
      have P := Put.of hrl
      have hi := P.hi
      have hi2 := P.hi2
      have hone := P.oneA
      have hone1 := P.one
      obtain ⟨hk0, hkL, -⟩ := hb
      have c1 : (((ls.length : Nat) : Int) == 0) = false := by simpa using h0
      have c2 : (((ls.length : Nat) : Int) == 1) = false := beq_eq_false_iff_ne.2 (by omega)
      have hk1 : ((k : Nat) : Int) ≤ ((ls.length : Nat) : Int) := by omega
      have hk2 : ((k : Nat) : Int) ≤ ((cap : Nat) : Int) := by omega
      have hk3 : k ≤ cap := by omega
      have hk4 : k ≤ ls.length := by omega
      have hk5 : ¬ cap = k := by omega
      have hk6 : ¬ cap - k = 0 := by omega
      clear ihG hjn hh h0 h1
      have HN := hide hn
      clear hn
      generalize ls.length = L at *
      go_enter Tryd.func39, Tryd.ntmps39
      go_wp2_with fail
      refine (unhide HH _).mono ?_
      rintro e w1 ⟨rfl, hw1⟩
      have f1 : Fr (fun _ => False) w w1 := by rw [← hw1]; exact (Fr.refl _ _).alloc _
      have hR1 : ZAt w1 w.heap.size 26 32 := by rw [← hw1]; exact ZAt.new w _ 26 32 rfl
      clear hw1
      go_wp2_with fail
      have HTH : Hid (∀ W, Fr (fun _ => False) w1 W → W.there w.heap.size 0 (bvs D).toArray.size) := hide fun W f => P.there (hR1.kept f id)
      have F1 := hide f1
      have HR1 := hide hR1
      clear f1 hR1 P
      go_region_held3 (fun _ => True) (trivial) ((first
        | (go_at_call 39; refine (unhide HG _ _ _ (by first | exact unhide F1 | exact (unhide F1).drew | exact ((unhide F1).drew).trans (unhide FA) (fun _ _ h => h) | exact (unhide F1).trans (unhide FA) (fun _ _ h => h)) (by first | exact unhide HDA | exact unhide HDB)).mono ?_; rintro e wA ⟨rfl, fA⟩; first | (have FAB := hide ((unhide FA).trans fA (fun _ _ h => h)); clear fA) | (have FA := hide fA; clear fA))
        | (go_at_call 62; refine (unhide HJ _ (by first | exact ((unhide F1).drew).trans (unhide FAB) (fun _ _ h => h) | exact (unhide F1).trans (unhide FAB) (fun _ _ h => h))).mono ?_; rintro e wJ ⟨rfl, fJ⟩; have fABJ : Fr (fun _ => False) w1 wJ := (by first | exact (((Fr.refl (fun _ => False) w1).drew).trans (unhide FAB) (fun _ _ h => h)).trans fJ (fun _ _ h => h) | exact (unhide FAB).trans fJ (fun _ _ h => h)); have hthJ := unhide HTH wJ fABJ; clear fJ)))
      have hRJ := (unhide HR1).kept fABJ id
      have hres := hRJ.putB D hrl
      have fin : Fr (fun _ => False) w (wJ.setCells w.heap.size 0 (bvs D)) := ((unhide F1).trans fABJ (fun _ _ h => h)).trans (setCells_frame _ _ _ _) (fun i hi e => by omega)
      clear hRJ
      go_wp2_with fail
      refine bodyPost_ret (ret_agg rfl _ _ w.heap.size 0 _ _ rfl (bat_range hres) Tryd.u26 rfl hi) rfl ?_
      exact ⟨rfl, fin⟩
end Go.Proofs.YtlicmlioilkfdaaDoor
