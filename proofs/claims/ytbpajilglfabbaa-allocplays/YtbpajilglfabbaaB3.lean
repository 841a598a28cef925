/-
  slices.SortFunc at the blocks of a state: the shelf's contract, laid at this program in plain words; the walks of asTheyCame, Taken and Given.
-/
import Derived.Test.YtbpajilglfabbaaB2
import Derived.Shelf.SlSortCmp.NoneTotal
namespace Go.Proofs.Ytbpajilglfabbaa
open Go.RowKit Go.Shelf Go.Sort Go.Lib
set_option linter.unusedVariables false

attribute [local go_sem ↓] Go.wp_at_zero Go.wp_at_succ

def sortL_ren : Go.Shelf.Ren := ⟨fun | 6 => 72 | 15 => 77 | 14 => 76 | 28 => 88 | 29 => 89 | 20 => 80 | 21 => 81 | 22 => 82 | 23 => 83 | 24 => 84 | 25 => 85 | 26 => 86 | 27 => 87 | 46 => 90 | 47 => 91 | 48 => 92 | 49 => 93 | 50 => 94 | 57 => 95 | n => n, fun | 22 => 51 | 24 => 3 | 25 => 86 | 3 => 3 | 39 => 56 | 0 => 0 | 53 => 100 | 55 => 73 | 4 => 4 | 46 => 93 | 45 => 92 | 50 => 97 | 5 => 5 | 9 => 9 | 66 => 102 | 70 => 106 | 76 => 108 | 77 => 69 | n => n, fun | n => n⟩
theorem sortL : Go.Proofs.SlLaysF.n6 Try.prog sortL_ren := {
  mixed := by kernel_rfl
  f6 := ⟨Try.f72.name, by decide, Try.func72.trans (congrArg some (by kernel_rfl))⟩
  f14 := ⟨Try.f76.name, by decide, Try.func76.trans (congrArg some (by kernel_rfl))⟩
  f15 := Try.func77.trans (congrArg some (by kernel_rfl))
  f20 := ⟨Try.f80.name, by decide, Try.func80.trans (congrArg some (by kernel_rfl))⟩
  f21 := ⟨Try.f81.name, by decide, Try.func81.trans (congrArg some (by kernel_rfl))⟩
  f22 := ⟨Try.f82.name, by decide, Try.func82.trans (congrArg some (by kernel_rfl))⟩
  f23 := ⟨Try.f83.name, by decide, Try.func83.trans (congrArg some (by kernel_rfl))⟩
  f24 := ⟨Try.f84.name, by decide, Try.func84.trans (congrArg some (by kernel_rfl))⟩
  f25 := ⟨Try.f85.name, by decide, Try.func85.trans (congrArg some (by kernel_rfl))⟩
  f26 := ⟨Try.f86.name, by decide, Try.func86.trans (congrArg some (by kernel_rfl))⟩
  f27 := ⟨Try.f87.name, by decide, Try.func87.trans (congrArg some (by kernel_rfl))⟩
  f28 := Try.func88.trans (congrArg some (by kernel_rfl))
  f29 := Try.func89.trans (congrArg some (by kernel_rfl))
  f46 := ⟨Try.f90.name, by decide, Try.func90.trans (congrArg some (by kernel_rfl))⟩
  f47 := Try.func91.trans (congrArg some (by kernel_rfl))
  f48 := Try.func92.trans (congrArg some (by kernel_rfl))
  f49 := ⟨Try.f93.name, by decide, Try.func93.trans (congrArg some (by kernel_rfl))⟩
  f50 := ⟨Try.f94.name, by decide, Try.func94.trans (congrArg some (by kernel_rfl))⟩
  f57 := ⟨Try.f95.name, by decide, Try.func95.trans (congrArg some (by kernel_rfl))⟩
  t0 := Try.underlying0
  a0 := Try.isAgg0
  z0 := Try.sizeOf0
  v0 := Try.zeroValue0
  t3 := Try.underlying3
  a3 := Try.isAgg3
  z3 := Try.sizeOf3
  v3 := Try.zeroValue3
  t4 := Try.underlying4
  a4 := Try.isAgg4
  z4 := Try.sizeOf4
  v4 := Try.zeroValue4
  t5 := Try.underlying5
  a5 := Try.isAgg5
  z5 := Try.sizeOf5
  v5 := Try.zeroValue5
  t9 := Try.underlying9
  a9 := Try.isAgg9
  z9 := Try.sizeOf9
  v9 := Try.zeroValue9
  t22 := Try.underlying51
  a22 := Try.isAgg51
  z22 := Try.sizeOf51
  v22 := Try.zeroValue51
  a24 := Try.isAgg3
  z24 := Try.sizeOf3
  t25 := Try.underlying86
  a25 := Try.isAgg86
  z25 := Try.sizeOf86
  v25 := Try.zeroValue86
  t39 := Try.underlying56
  a39 := Try.isAgg56
  z39 := Try.sizeOf56
  v39 := Try.zeroValue56
  t45 := Try.underlying92
  a45 := Try.isAgg92
  z45 := Try.sizeOf92
  v45 := Try.zeroValue92
  t46 := Try.underlying93
  a46 := Try.isAgg93
  z46 := Try.sizeOf93
  v46 := Try.zeroValue93
  t50 := Try.underlying97
  a50 := Try.isAgg97
  z50 := Try.sizeOf97
  v50 := Try.zeroValue97
  t53 := Try.underlying100
  a53 := Try.isAgg100
  z53 := Try.sizeOf100
  v53 := Try.zeroValue100
  t55 := Try.underlying73
  a55 := Try.isAgg73
  z55 := Try.sizeOf73
  v55 := Try.zeroValue73
  t66 := Try.underlying102
  a66 := Try.isAgg102
  z66 := Try.sizeOf102
  v66 := Try.zeroValue102
  t70 := Try.underlying106
  a70 := Try.isAgg106
  z70 := Try.sizeOf106
  v70 := Try.zeroValue106
  t76 := Try.underlying108
  a76 := Try.isAgg108
  z76 := Try.sizeOf108
  v76 := Try.zeroValue108
  t77 := Try.underlying69
  a77 := Try.isAgg69
  z77 := Try.sizeOf69
  v77 := Try.zeroValue69 }

/-- What cmp.Compare answers. -/
def cm (x y : Int) : Int := if x < y then -1 else if y < x then 1 else 0

section
variable (w : World) (x y : Int)
theorem nanU : Calls Try.prog 78 #[.int .u64 x] w fun e w' => e = .returned (.bool false) ∧ w = w' := by
  go_enter Try.func78, Try.ntmps78
  go_wp2_with fail
  go_ret
  exact ⟨by simp, rfl⟩
theorem compareU : Calls Try.prog 74 #[.int .u64 x, .int .u64 y] w fun e w' => e = .returned (.int .i64 (cm x y)) ∧ ∃ n, w' = w.drewN n := by
  unfold cm
  rcases Int.lt_trichotomy x y with h | h | h
  · have b1 : decide (x < y) = true := by simp; omega
    rw [if_pos h]
    clear h
    go_enter Try.func74, Try.ntmps74
    go_wp2_with (refine (nanU _ _).mono ?_; rintro e w' ⟨rfl, rfl⟩)
    go_ret
    exact ⟨rfl, 0, rfl⟩
  · subst h
    rw [if_neg (by omega), if_neg (by omega)]
    go_enter Try.func74, Try.ntmps74
    go_wp2_with (refine (nanU w x).mono ?_; rintro e w' ⟨rfl, rfl⟩)
    go_ret
    exact ⟨rfl, 0, rfl⟩
  · have b1 : decide (x < y) = false := by simp; omega
    have b2 : decide (y < x) = true := by simp; omega
    rw [if_neg (by omega), if_pos h]
    clear h
    go_enter Try.func74, Try.ntmps74
    go_wp2_with (refine (nanU _ _).mono ?_; rintro e w' ⟨rfl, rfl⟩)
    go_ret
    exact ⟨rfl, 0, rfl⟩
end

theorem cm_lt (x y : Nat) : cm (x : Int) (y : Int) < 0 ↔ x < y := by
  unfold cm
  split
  · simp; omega
  · split
    · simp; omega
    · simp; omega

/-- The closure: two blocks by which change brought them to their states. -/
theorem closure_any (W : World) (bx p u n cu x y cx cy : Nat) (h0 : W.cell? ⟨bx, 0, none⟩ = some (.pointer (some ⟨p, 0, none⟩))) (h1 : W.cell? ⟨p, 1, none⟩ = some (.slice (some ⟨u, 0, none⟩) n cu)) (hx : W.cell? ⟨u, x, none⟩ = some (.int .u64 (cx : Int))) (hy : W.cell? ⟨u, y, none⟩ = some (.int .u64 (cy : Int))) (hxn : x < n) (hyn : y < n) (hn : n ≤ 65536) :
    Calls Try.prog 73 #[.int .i64 (x : Int), .int .i64 (y : Int), .pointer (some ⟨bx, 0, none⟩)] W fun e w' => e = .returned (.int .i64 (cm (cx : Int) (cy : Int))) ∧ ∃ q, w' = W.drewN q := by
  have HC : Hid (∀ W, Calls Try.prog 74 #[.int .u64 (cx : Int), .int .u64 (cy : Int)] W fun e w' => e = .returned (.int .i64 (cm (cx : Int) (cy : Int))) ∧ ∃ n, w' = W.drewN n) := hide (fun W => compareU W _ _)
  generalize cm (cx : Int) (cy : Int) = r at *
  go_enter Try.func73, Try.ntmps73
  go_wp2_with fail
  go_quiet ((go_at_call 74; exact Calls.quiet_of (unhide HC _)))
  go_wp2_with fail
  go_ret
  exact ⟨rfl, _, rfl⟩

/-- Blocks in the order in which they came. -/
def srt (f : Nat → Nat) (D : List Nat) : List Nat := D.mergeSort fun x y => !decide (cm (f y : Int) (f x : Int) < 0)
theorem srt_perm (f : Nat → Nat) (D : List Nat) : (srt f D).Perm D := List.mergeSort_perm _ _
theorem srt_length (f : Nat → Nat) (D : List Nat) : (srt f D).length = D.length := (srt_perm f D).length_eq
theorem sorted_eq (f : Nat → Nat) : ∀ (t l : List Nat), l.Perm t → l.Pairwise (fun x y => f x ≤ f y) → t.Pairwise (fun x y => f x < f y) → l = t
  | [], l, hp, _, _ => List.Perm.eq_nil hp
  | a :: t, l, hp, hl, ht => by
    cases l with
    | nil => exact absurd hp.symm.eq_nil (by simp)
    | cons b l =>
      rw [List.pairwise_cons] at hl ht
      have hab : b = a := by
        rcases List.mem_cons.1 (hp.mem_iff.1 (List.mem_cons_self ..)) with h | h
        · exact h
        · have h1 := ht.1 b h
          rcases List.mem_cons.1 (hp.mem_iff.2 (List.mem_cons_self ..)) with h2 | h2
          · exact h2.symm
          · have := hl.1 a h2
            omega
      subst hab
      rw [sorted_eq f t l ((List.perm_cons b).1 hp) hl.2 ht.2]
theorem srt_is (f : Nat → Nat) (D t : List Nat) (hp : D.Perm t) (ht : t.Pairwise (fun x y => f x < f y)) : srt f D = t := by
  refine sorted_eq f t _ ((srt_perm f D).trans hp) ?_ ht
  have h := List.pairwise_mergeSort (le := fun x y => !decide (cm (f y : Int) (f x : Int) < 0)) (fun a b c h1 h2 => by
    simp [cm_lt] at *; omega) (fun a b => by simp [cm_lt]; omega) D
  refine h.imp ?_
  intro a b hab
  simp [cm_lt] at hab
  omega

theorem putCells_take {α : Type} [Inhabited α] (enc : α → Value) (d : Array α) (c : Array Value) (h : d.size ≤ c.size) : (putCells enc 0 d c).toList.take d.size = d.toList.map enc := by
  apply List.ext_getElem?
  intro j
  by_cases hj : j < d.size
  · rw [List.getElem?_take_of_lt hj]
    have hc : j < c.size := by omega
    simp [putCells, hj, hc]
  · rw [List.getElem?_eq_none (by simp; omega), List.getElem?_eq_none (by simp; omega)]

theorem sort_ok (W : World) (v : Value) (N : Nat) (D : List Nat) (bx p : Nat) (X : Ly) (K : Kc) (hN : N = D.length) (hO : W.ownsRow 0 3 1 v N (ivs D)) (hle : N ≤ 65536) (hbx : W.heap[bx]? = some (.cells #[.pointer (some ⟨p, 0, none⟩)] 25 (0, 0))) (H : KA W p X K)
    (hD : ∀ b ∈ D, b < K.s.length) (hinj : ∀ x ∈ D, ∀ y ∈ D, K.c.getD x 0 = K.c.getD y 0 → x = y) :
    Calls Try.prog 72 #[v, .func (.func 73) #[] #[.pointer (some ⟨bx, 0, none⟩)]] W fun e w' => e = .returned (.tuple #[]) ∧ w'.ownsRow 0 3 1 v N (ivs (srt (fun b => K.c.getD b 0) D)) ∧ Fr (fun k => v.ownBlock = some k) W w' := by
  by_cases hDe : D = []
  · subst hDe
    have hN' : N = 0 := hN
    subst hN'
    obtain ⟨ao, cap, rfl⟩ : ∃ p cap, v = .slice p 0 cap := by
      rcases hO.2 with ⟨h, -⟩ | ⟨g, cap, cur, h, -⟩
      · exact ⟨_, _, h⟩
      · exact ⟨_, _, h⟩
    have hS := AnyF.slices_SortFunc_none (P := Try.prog) (ρ := sortL_ren) { sortL with } ao cap (.func (.func 73) #[] #[.pointer (some ⟨bx, 0, none⟩)]) W
    change Calls Try.prog 72 _ _ _ at hS
    refine hS.mono ?_
    rintro e w' ⟨rfl, rfl⟩
    exact ⟨rfl, by simpa [srt] using hO, Fr.refl _ _⟩
  · obtain ⟨q0, hq0⟩ := List.exists_mem_of_ne_nil D hDe
    rcases hO.2 with ⟨-, h⟩ | ⟨g, cap, cur, rfl, -, hg, hnc, hcm, hcs, htake⟩
    · exact absurd (List.eq_nil_of_length_eq_zero (hN.symm.trans h)) hDe
    rw [Nat.mul_one] at hcs htake
    letI : Inhabited {b : Nat // b ∈ D} := ⟨⟨q0, hq0⟩⟩
    let f : Nat → Nat := fun b => K.c.getD b 0
    let enc : {b : Nat // b ∈ D} → Value := fun x => .int .i64 (x.1 : Int)
    let cf : {b : Nat // b ∈ D} → {b : Nat // b ∈ D} → Int := fun x y => cm (f x.1 : Int) (f y.1 : Int)
    have hlt : ∀ x y, ltOf cf x y = decide (f x.1 < f y.1) := fun x y => by
      unfold ltOf
      exact decide_eq_decide.2 (cm_lt _ _)
    have hds : (D.attach.toArray).size = N := by simp [hN]
    have hgp : ∀ k, Bl p X k → k ≠ g := by
      rintro k (rfl | rfl | rfl) e
      · have := H.hd; rw [e, hg] at this; simp at this
      · have := H.st; rw [e, hg] at this; simp at this
      · have := H.cm; rw [e, hg] at this; simp at this
    have hgb : bx ≠ g := fun e => by rw [e, hg] at hbx; simp at hbx
    have hput : ∀ (m : Nat) (dk : Array {b : Nat // b ∈ D}) (os : Array Obj) (k : Nat), k < W.heap.size → k ≠ g → (sortWorld enc W g 0 m dk os).heap[k]? = W.heap[k]? := fun m dk os k hk hkg => by
      unfold sortWorld
      rw [heap_grow_old _ _ (by rw [size_putRow]; exact hk)]
      simp only [putRow, mapBlock, Sort.ahead, Array.getElem?_modify]
      rw [if_neg (fun e => hkg e.symm)]
    have hS := Any.slices_SortFunc_total sortL enc (fun _ => rfl) cf ⟨fun x => by rw [hlt]; simp, fun x y z h1 h2 => by rw [hlt] at *; simp at *; omega, fun x y z h1 h2 => by rw [hlt] at *; simp at *; omega⟩ 73 #[.pointer (some ⟨bx, 0, none⟩)] g 0 cap D.attach.toArray W (enters_of Try.func73 (by kernel_rfl) rfl) (fun m os dk hs x y => by
        have k1 : (sortWorld enc W g 0 m dk os).heap[bx]? = _ := (hput m dk os bx (lt_of_heap hbx) hgb).trans hbx
        have k2 : (sortWorld enc W g 0 m dk os).heap[p]? = _ := (hput m dk os p (lt_of_heap H.hd) (hgp p (.inl rfl))).trans H.hd
        have k3 : (sortWorld enc W g 0 m dk os).heap[X.u]? = _ := (hput m dk os X.u (lt_of_heap H.cm) (hgp X.u (.inr (.inr rfl)))).trans H.cm
        have cx : ∀ b ∈ D, (sortWorld enc W g 0 m dk os).cell? ⟨X.u, b, none⟩ = some (.int .u64 (f b : Int)) := fun b hb => by
          have hbl : b < K.c.length := by rw [H.cl]; exact hD b hb
          rw [cell_of_heap k3, List.getElem?_toArray, List.getElem?_append_left (by rw [uvs_length]; exact hbl)]
          simp [uvs, f, hbl]
        refine (closure_any _ bx p X.u K.s.length (K.s.length + X.xu.length) x.1 y.1 (f x.1) (f y.1) (by rw [cell_of_heap k1]; rfl) (by rw [cell_of_heap k2]; rfl) (cx _ x.2) (cx _ y.2) (hD _ x.2) (hD _ y.2) H.n2).mono ?_
        rintro e w' ⟨rfl, q, rfl⟩
        exact ⟨rfl, q, #[], by rw [grow_empty]⟩)
      (fun j hj => by
        have hj' : j < N := by rw [← hds]; exact hj
        have hjD : j < D.length := by rw [← hN]; exact hj'
        have hc : cur[j]? = some (.int .i64 (D[j] : Int)) := by
          have h1 : (cur.toList.take N)[j]? = (ivs D)[j]? := by rw [htake]
          rw [List.getElem?_take_of_lt hj'] at h1
          simpa [ivs, hjD] using h1
        refine ⟨?_, ?_⟩
        · rw [cell_of_heap hg, Nat.zero_add, hc]
          simp [enc, hjD]
        · simp [World.frozen?, hg])
      (lt_of_heap hg) (by rw [hds]; omega) (fun x y h1 h2 => by
        rw [hlt] at *
        simp at h1 h2
        exact Subtype.ext (hinj x.1 x.2 y.1 y.2 (by show f x.1 = f y.1; omega)))
    rw [hds] at hS
    change Calls Try.prog 72 _ _ _ at hS
    refine hS.mono ?_
    rintro e w' ⟨rfl, n, os, rfl⟩
    have hmap : ((D.attach.toArray.toList.mergeSort fun x y => !ltOf cf y x).map Subtype.val) = srt f D := by
      unfold srt
      have h0 := List.map_mergeSort (r := fun x y => !ltOf cf y x) (s := fun x y => !decide (cm (f y : Int) (f x : Int) < 0)) (f := Subtype.val) (l := D.attach) (fun a _ b _ => rfl)
      rw [List.attach_map_subtype_val] at h0
      exact h0
    obtain ⟨l', hl'⟩ : ∃ l', l' = (D.attach.toArray.toList.mergeSort fun x y => !ltOf cf y x) := ⟨_, rfl⟩
    rw [← hl'] at hmap ⊢
    have hlen : l'.toArray.size = N := by rw [hl']; simp [hN]
    have hV : ivs (srt f D) = l'.map enc := by rw [← hmap]; simp [ivs, enc]
    have hheap : (sortWorld enc W g 0 n l'.toArray os).heap[g]? = some (.cells (putCells enc 0 l'.toArray cur) 3 (0, 0)) := by
      unfold sortWorld
      rw [heap_grow_old _ _ (by rw [size_putRow]; exact lt_of_heap hg)]
      simp only [putRow, mapBlock, Sort.ahead, Array.getElem?_modify, hg]
      simp [onCells]
    refine ⟨rfl, ⟨by rw [ivs_length, srt_length, hN, Nat.mul_one], .inr ⟨g, cap, _, rfl, Nat.zero_le _, hheap, hnc, hcm, by simp [putCells, hcs], ?_⟩⟩, ⟨rfl, rfl, rfl, by simp [sortWorld, Go.Sort.grow, putRow, mapBlock, Sort.ahead], fun k hk hkg => hput n _ os k hk (fun e => hkg (by rw [e]; rfl))⟩⟩
    show _ = ivs (srt f D)
    rw [hV, Nat.mul_one]
    have := putCells_take enc l'.toArray cur (by omega)
    rw [hlen] at this
    exact this

section
variable (w : World) (p : Nat) (X : Ly) (K : Kc)

set_option maxHeartbeats 1000000 in
theorem came_any (H : KA w p X K) (v : UInt8) (hinj : ∀ x ∈ idx K.s v, ∀ y ∈ idx K.s v, K.c.getD x 0 = K.c.getD y 0 → x = y) : Calls Try.prog 62 #[ptr p, .int .u8 ((v.toNat : Nat) : Int)] w fun e w' => (∃ x, e = .returned x ∧ Nw w w' x (srt (fun b => K.c.getD b 0) (idx K.s v))) ∧ Fr (fun _ => False) w w' := by
  have hbn := heap_alloc_new w (.cells #[.pointer (some ⟨p, 0, none⟩)] 25)
  have hfb : Fr (fun _ => False) w (w.alloc (.cells #[.pointer (some ⟨p, 0, none⟩)] 25)) := (Fr.refl _ _).alloc _
  have hszb : (w.alloc (.cells #[.pointer (some ⟨p, 0, none⟩)] 25)).heap.size = w.heap.size + 1 := by simp
  have cb : (w.alloc (.cells #[.pointer (some ⟨p, 0, none⟩)] 25)).cell? ⟨w.heap.size, 0, none⟩ = some (.pointer (some ⟨p, 0, none⟩)) := by rw [cell_of_heap hbn]; rfl
  have HA := hide (all_any _ p X K (H.kept hfb (fun _ _ h => h)) v)
  have HBN := hide hbn
  have HFB := hide hfb
  have HSZ := hide hszb
  have HH := hide H
  have HI := hide hinj
  have HLE : Hid ((idx K.s v).length ≤ 65536) := hide (Nat.le_trans (idx_length _ _) H.n2)
  clear H hinj hbn hfb hszb cb
  unfold ptr at *
  generalize v.toNat = vn at *
  go_enter Try.func62, Try.ntmps62
  go_wp2_with fail
  refine (unhide HA).mono ?_
  rintro e w1 ⟨⟨x, rfl, hx⟩, f1⟩
  obtain ⟨ao, N, cc, rfl, hN, hO, hnw⟩ := hx
  have hbx : w1.heap[w.heap.size]? = some (.cells #[.pointer (some ⟨p, 0, none⟩)] 25 (0, 0)) := by
    rw [f1.block _ (by have := unhide HSZ; omega) id]; exact unhide HBN
  have HS := hide (sort_ok w1 _ N _ w.heap.size p X K hN hO (by rw [hN]; exact unhide HLE) hbx ((unhide HH).kept ((unhide HFB).trans f1 (fun _ _ h => h)) (fun _ _ h => h)) idx_lt (unhide HI))
  have HF1 := hide ((unhide HFB).trans f1 (fun _ _ h => h))
  have HN := hide hN
  have HNW : Hid (∀ b, (Value.slice ao N cc).ownBlock = some b → w.heap.size ≤ b) := hide (fun b hb => by have := hnw b hb; have := unhide HSZ; omega)
  clear hO hnw hbx f1 hN
  go_wp2_with fail
  refine (unhide HS).mono ?_
  rintro e w2 ⟨rfl, hO2, f2⟩
  have HO2 := hide hO2
  have HF2 := hide ((unhide HF1).trans f2 (fun k hk e => by have := unhide HNW k e; omega))
  clear hO2 f2
  go_wp2_with fail
  go_ret
  exact ⟨⟨_, rfl, ao, N, cc, rfl, by rw [srt_length]; exact unhide HN, unhide HO2, unhide HNW⟩, unhide HF2⟩

theorem taken_any (H : KA w p X K) (hinj : ∀ x ∈ idx K.s 2, ∀ y ∈ idx K.s 2, K.c.getD x 0 = K.c.getD y 0 → x = y) : Calls Try.prog 24 #[ptr p] w fun e w' => (∃ x, e = .returned x ∧ Nw w w' x (srt (fun b => K.c.getD b 0) (idx K.s 2))) ∧ Fr (fun _ => False) w w' := by
  have HC := hide (came_any w p X K H 2 hinj)
  clear H hinj
  unfold ptr at *
  go_enter Try.func24, Try.ntmps24
  go_wp2_with fail
  refine (unhide HC).mono ?_
  rintro e w1 ⟨⟨x, rfl, hx⟩, f1⟩
  have HX := hide hx
  have HF := hide f1
  obtain ⟨ao, N, cc, rfl, -⟩ := hx.shape
  clear hx f1
  go_wp2_with fail
  go_ret
  exact ⟨⟨_, rfl, unhide HX⟩, unhide HF⟩
theorem given_any (H : KA w p X K) (hinj : ∀ x ∈ idx K.s 3, ∀ y ∈ idx K.s 3, K.c.getD x 0 = K.c.getD y 0 → x = y) : Calls Try.prog 25 #[ptr p] w fun e w' => (∃ x, e = .returned x ∧ Nw w w' x (srt (fun b => K.c.getD b 0) (idx K.s 3))) ∧ Fr (fun _ => False) w w' := by
  have HC := hide (came_any w p X K H 3 hinj)
  clear H hinj
  unfold ptr at *
  go_enter Try.func25, Try.ntmps25
  go_wp2_with fail
  refine (unhide HC).mono ?_
  rintro e w1 ⟨⟨x, rfl, hx⟩, f1⟩
  have HX := hide hx
  have HF := hide f1
  obtain ⟨ao, N, cc, rfl, -⟩ := hx.shape
  clear hx f1
  go_wp2_with fail
  go_ret
  exact ⟨⟨_, rfl, unhide HX⟩, unhide HF⟩
end
end Go.Proofs.Ytbpajilglfabbaa
