/-
  slices.SortFunc at the cache's blocks: the shelf's contract, laid at this program in plain words; what dirtyBlocks' sort does.
-/
import Derived.Test.YtdgmlopaeonacaaD4
import Derived.Shelf.SlSortCmp.NoneTotal
namespace Go.Proofs.Ytdgmlopaeonacaa
open Go.RowKit Go.Shelf Go.Sort Go.Lib
set_option linter.unusedVariables false

def sortL_ren : Go.Shelf.Ren := ⟨fun | 6 => 59 | 15 => 71 | 14 => 70 | 28 => 82 | 29 => 83 | 20 => 74 | 21 => 75 | 22 => 76 | 23 => 77 | 24 => 78 | 25 => 79 | 26 => 80 | 27 => 81 | 46 => 84 | 47 => 85 | 48 => 86 | 49 => 87 | 50 => 88 | 57 => 89 | n => n, fun | 22 => 85 | 24 => 75 | 25 => 113 | 3 => 3 | 39 => 118 | 0 => 0 | 53 => 130 | 55 => 38 | 4 => 4 | 46 => 123 | 45 => 122 | 50 => 127 | 5 => 5 | 9 => 9 | 66 => 132 | 70 => 136 | 76 => 138 | 77 => 41 | n => n, fun | n => n⟩
theorem sortL : Go.Proofs.SlLaysF.n6 Try.prog sortL_ren := {
  mixed := by kernel_rfl
  f6 := ⟨Try.f59.name, by decide, Try.func59.trans (congrArg some (by kernel_rfl))⟩
  f14 := ⟨Try.f70.name, by decide, Try.func70.trans (congrArg some (by kernel_rfl))⟩
  f15 := Try.func71.trans (congrArg some (by kernel_rfl))
  f20 := ⟨Try.f74.name, by decide, Try.func74.trans (congrArg some (by kernel_rfl))⟩
  f21 := ⟨Try.f75.name, by decide, Try.func75.trans (congrArg some (by kernel_rfl))⟩
  f22 := ⟨Try.f76.name, by decide, Try.func76.trans (congrArg some (by kernel_rfl))⟩
  f23 := ⟨Try.f77.name, by decide, Try.func77.trans (congrArg some (by kernel_rfl))⟩
  f24 := ⟨Try.f78.name, by decide, Try.func78.trans (congrArg some (by kernel_rfl))⟩
  f25 := ⟨Try.f79.name, by decide, Try.func79.trans (congrArg some (by kernel_rfl))⟩
  f26 := ⟨Try.f80.name, by decide, Try.func80.trans (congrArg some (by kernel_rfl))⟩
  f27 := ⟨Try.f81.name, by decide, Try.func81.trans (congrArg some (by kernel_rfl))⟩
  f28 := Try.func82.trans (congrArg some (by kernel_rfl))
  f29 := Try.func83.trans (congrArg some (by kernel_rfl))
  f46 := ⟨Try.f84.name, by decide, Try.func84.trans (congrArg some (by kernel_rfl))⟩
  f47 := Try.func85.trans (congrArg some (by kernel_rfl))
  f48 := Try.func86.trans (congrArg some (by kernel_rfl))
  f49 := ⟨Try.f87.name, by decide, Try.func87.trans (congrArg some (by kernel_rfl))⟩
  f50 := ⟨Try.f88.name, by decide, Try.func88.trans (congrArg some (by kernel_rfl))⟩
  f57 := ⟨Try.f89.name, by decide, Try.func89.trans (congrArg some (by kernel_rfl))⟩
  t0 := Try.underlying0
  a0 := Try.isAgg0
  z0 := Try.sizeOf0
  v0 := Try.zeroValue0
  t3 := Try.underlying3
  a3 := Try.isAgg3
  z3 := Try.sizeOf3
  v3 := Try.zeroValue3
  t4 := Try.underlying4
  a4 := Try.isAgg4
  z4 := Try.sizeOf4
  v4 := Try.zeroValue4
  t5 := Try.underlying5
  a5 := Try.isAgg5
  z5 := Try.sizeOf5
  v5 := Try.zeroValue5
  t9 := Try.underlying9
  a9 := Try.isAgg9
  z9 := Try.sizeOf9
  v9 := Try.zeroValue9
  t22 := Try.underlying85
  a22 := Try.isAgg85
  z22 := Try.sizeOf85
  v22 := Try.zeroValue85
  a24 := Try.isAgg75
  z24 := Try.sizeOf75
  t25 := Try.underlying113
  a25 := Try.isAgg113
  z25 := Try.sizeOf113
  v25 := Try.zeroValue113
  t39 := Try.underlying118
  a39 := Try.isAgg118
  z39 := Try.sizeOf118
  v39 := Try.zeroValue118
  t45 := Try.underlying122
  a45 := Try.isAgg122
  z45 := Try.sizeOf122
  v45 := Try.zeroValue122
  t46 := Try.underlying123
  a46 := Try.isAgg123
  z46 := Try.sizeOf123
  v46 := Try.zeroValue123
  t50 := Try.underlying127
  a50 := Try.isAgg127
  z50 := Try.sizeOf127
  v50 := Try.zeroValue127
  t53 := Try.underlying130
  a53 := Try.isAgg130
  z53 := Try.sizeOf130
  v53 := Try.zeroValue130
  t55 := Try.underlying38
  a55 := Try.isAgg38
  z55 := Try.sizeOf38
  v55 := Try.zeroValue38
  t66 := Try.underlying132
  a66 := Try.isAgg132
  z66 := Try.sizeOf132
  v66 := Try.zeroValue132
  t70 := Try.underlying136
  a70 := Try.isAgg136
  z70 := Try.sizeOf136
  v70 := Try.zeroValue136
  t76 := Try.underlying138
  a76 := Try.isAgg138
  z76 := Try.sizeOf138
  v76 := Try.zeroValue138
  t77 := Try.underlying41
  a77 := Try.isAgg41
  z77 := Try.sizeOf41
  v77 := Try.zeroValue41 }

theorem cmP_lt (x y : Nat × Pl) : cmP x y < 0 ↔ x.2.first < y.2.first ∨ (x.2.first = y.2.first ∧ x.2.b < y.2.b) := by
  unfold cmP orI cm
  split
  all_goals split at * 
  all_goals first | omega | (split at * <;> first | omega | (split at * <;> omega))

theorem inj_nodup {α β : Type} (f : α → β) : ∀ (l : List α), (l.map f).Nodup → ∀ x ∈ l, ∀ y ∈ l, f x = f y → x = y
  | [], _, x, hx, _, _, _ => by simp at hx
  | a :: t, h, x, hx, y, hy, e => by
    rw [List.map_cons, List.nodup_cons] at h
    rcases List.mem_cons.1 hx with rfl | hx' <;> rcases List.mem_cons.1 hy with rfl | hy'
    · rfl
    · exact absurd (List.mem_map.2 ⟨y, hy', e.symm⟩) h.1
    · exact absurd (List.mem_map.2 ⟨x, hx', e⟩) h.1
    · exact inj_nodup f t h.2 x hx' y hy' e

theorem putCells_take {α : Type} [Inhabited α] (enc : α → Value) (d : Array α) (c : Array Value) (h : d.size ≤ c.size) : (putCells enc 0 d c).toList.take d.size = d.toList.map enc := by
  apply List.ext_getElem?
  intro j
  by_cases hj : j < d.size
  · rw [List.getElem?_take_of_lt hj]
    have hc : j < c.size := by omega
    simp [putCells, hj, hc]
  · rw [List.getElem?_eq_none (by simp; omega), List.getElem?_eq_none (by simp; omega)]

theorem sort_ok : SortOk := by
  intro W v N D hN hO hle hat hnd
  by_cases hD : D = []
  · subst hD
    have hN' : N = 0 := hN
    subst hN'
    obtain ⟨p, cap, rfl⟩ : ∃ p cap, v = .slice p 0 cap := by
      rcases hO.2 with ⟨h, -⟩ | ⟨g, cap, cur, h, -⟩
      · exact ⟨_, _, h⟩
      · exact ⟨_, _, h⟩
    have hS := AnyF.slices_SortFunc_none (P := Try.prog) (ρ := sortL_ren) { sortL with } p cap (.func (.func 60) #[] #[]) W
    change Calls Try.prog 59 _ _ _ at hS
    refine hS.mono ?_
    rintro e w' ⟨rfl, rfl⟩
    exact ⟨rfl, by simpa [srtP, pvs] using hO, Fr.refl _ _⟩
  · obtain ⟨q0, hq0⟩ := List.exists_mem_of_ne_nil D hD
    rcases hO.2 with ⟨-, h⟩ | ⟨g, cap, cur, rfl, -, hg, hnc, hcm, hcs, htake⟩
    · exact absurd (List.eq_nil_of_length_eq_zero (hN.symm.trans h)) hD
    rw [Nat.mul_one] at hcs htake
    letI : Inhabited {q : Nat × Pl // q ∈ D} := ⟨⟨q0, hq0⟩⟩
    let enc : {q : Nat × Pl // q ∈ D} → Value := fun x => ptr x.1.1
    let cf : {q : Nat × Pl // q ∈ D} → {q : Nat × Pl // q ∈ D} → Int := fun x y => cmP x.1 y.1
    have hlt : ∀ x y, ltOf cf x y = decide (x.1.2.first < y.1.2.first ∨ (x.1.2.first = y.1.2.first ∧ x.1.2.b < y.1.2.b)) := fun x y => by
      unfold ltOf
      exact decide_eq_decide.2 (cmP_lt x.1 y.1)
    have hds : (D.attach.toArray).size = N := by simp [hN]
    have hne : ∀ q ∈ D, q.1 ≠ g := fun q hq e => by
      obtain ⟨o, n, hn⟩ := hat q hq
      unfold NAt at hn
      rw [e, hg] at hn
      simp at hn
    have hput : ∀ (m : Nat) (dk : Array {q : Nat × Pl // q ∈ D}) (os : Array Obj) (k : Nat), k < W.heap.size → k ≠ g → (sortWorld enc W g 0 m dk os).heap[k]? = W.heap[k]? := fun m dk os k hk hkg => by
      unfold sortWorld
      rw [heap_grow_old _ _ (by rw [size_putRow]; exact hk)]
      simp only [putRow, mapBlock, Sort.ahead, Array.getElem?_modify]
      rw [if_neg (fun e => hkg e.symm)]
    have hS := Any.slices_SortFunc_total sortL enc (fun _ => rfl) cf ⟨fun x => by rw [hlt]; simp, fun x y z h1 h2 => by rw [hlt] at *; simp at *; omega, fun x y z h1 h2 => by rw [hlt] at *; simp at *; omega⟩ 60 #[] g 0 cap D.attach.toArray W (enters_of Try.func60 (by kernel_rfl) rfl) (fun m os dk hs x y => by
        obtain ⟨o1, n1, h1⟩ := hat x.1 x.2
        obtain ⟨o2, n2, h2⟩ := hat y.1 y.2
        exact closure_any _ x.1.1 y.1.1 o1 n1 o2 n2 x.1.2 y.1.2 ((hput m dk os _ (lt_of_heap h1) (hne _ x.2)).trans h1) ((hput m dk os _ (lt_of_heap h2) (hne _ y.2)).trans h2))
      (fun j hj => by
        have hj' : j < N := by rw [← hds]; exact hj
        have hjD : j < D.length := by rw [← hN]; exact hj'
        have hc : cur[j]? = some (ptr D[j].1) := by
          have h1 : (cur.toList.take N)[j]? = (pvs D)[j]? := by rw [htake]
          rw [List.getElem?_take_of_lt hj'] at h1
          simpa [pvs, hjD] using h1
        refine ⟨?_, ?_⟩
        · rw [cell_of_heap hg, Nat.zero_add, hc]
          simp [enc, hjD]
        · simp [World.frozen?, hg])
      (lt_of_heap hg) (by rw [hds]; omega) (fun x y h1 h2 => by
        rw [hlt] at *
        simp at h1 h2
        have hb : x.1.2.b = y.1.2.b := by omega
        exact Subtype.ext (inj_nodup (fun q : Nat × Pl => q.2.b) D hnd x.1 x.2 y.1 y.2 hb))
    rw [hds] at hS
    change Calls Try.prog 59 _ _ _ at hS
    refine hS.mono ?_
    rintro e w' ⟨rfl, n, os, rfl⟩
    have hmap : ((D.attach.toArray.toList.mergeSort fun x y => !ltOf cf y x).map Subtype.val) = srtP D := by
      unfold srtP
      have h0 := List.map_mergeSort (r := fun x y => !ltOf cf y x) (s := fun x y => !decide (cmP y x < 0)) (f := Subtype.val) (l := D.attach) (fun a _ b _ => rfl)
      rw [List.attach_map_subtype_val] at h0
      exact h0
    obtain ⟨l', hl'⟩ : ∃ l', l' = (D.attach.toArray.toList.mergeSort fun x y => !ltOf cf y x) := ⟨_, rfl⟩
    rw [← hl'] at hmap ⊢
    have hlen : l'.toArray.size = N := by rw [hl']; simp [hN]
    have hV : pvs (srtP D) = l'.map enc := by rw [← hmap]; simp [pvs, enc]
    have hheap : (sortWorld enc W g 0 n l'.toArray os).heap[g]? = some (.cells (putCells enc 0 l'.toArray cur) 75 (0, 0)) := by
      unfold sortWorld
      rw [heap_grow_old _ _ (by rw [size_putRow]; exact lt_of_heap hg)]
      simp only [putRow, mapBlock, Sort.ahead, Array.getElem?_modify, hg]
      simp [onCells]
    refine ⟨rfl, ⟨by rw [pvs_length, (srtP_perm _).length_eq, hN, Nat.mul_one], .inr ⟨g, cap, _, rfl, Nat.zero_le _, hheap, hnc, hcm, by simp [putCells, hcs], ?_⟩⟩, ⟨rfl, rfl, rfl, by simp [sortWorld, Go.Sort.grow, putRow, mapBlock, Sort.ahead], fun k hk hkg => hput n _ os k hk (fun e => hkg (by rw [e]; rfl))⟩⟩
    rw [hV, Nat.mul_one]
    have := putCells_take enc l'.toArray cur (by omega)
    rw [hlen] at this
    exact this
end Go.Proofs.Ytdgmlopaeonacaa
