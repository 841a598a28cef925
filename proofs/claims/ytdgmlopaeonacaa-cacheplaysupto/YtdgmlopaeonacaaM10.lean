/-
  slices.SortFunc at the cache's blocks: the shelf's contract, laid at this program in plain words; what dirtyBlocks' sort does.
  The cache's Oldest.
  The cache's Clean.
  The cache's Flush; Oldest, Clean and Flush of a cache made since.
  The cache's Dirty.
-/
import Derived.Test.YtdgmlopaeonacaaM09
import Derived.Shelf.SlSortCmp.NoneTotal
namespace Go.Proofs.Ytdgmlopaeonacaa
set_option linter.unusedVariables false
set_option linter.unusedSimpArgs false
open Go.RowKit Go.Shelf Go.Sort Go.Lib
set_option linter.unusedVariables false

def sortL_ren : Go.Shelf.Ren := ⟨fun | 6 => 59 | 15 => 71 | 14 => 70 | 28 => 82 | 29 => 83 | 20 => 74 | 21 => 75 | 22 => 76 | 23 => 77 | 24 => 78 | 25 => 79 | 26 => 80 | 27 => 81 | 46 => 84 | 47 => 85 | 48 => 86 | 49 => 87 | 50 => 88 | 57 => 89 | n => n, fun | 22 => 85 | 24 => 75 | 25 => 113 | 3 => 3 | 39 => 118 | 0 => 0 | 53 => 130 | 55 => 38 | 4 => 4 | 46 => 123 | 45 => 122 | 50 => 127 | 5 => 5 | 9 => 9 | 66 => 132 | 70 => 136 | 76 => 138 | 77 => 41 | n => n, fun | n => n⟩
theorem sortL : Go.Proofs.SlLaysF.n6 Try.prog sortL_ren := {
  mixed := by kernel_rfl
  f6 := ⟨Try.f59.name, by decide, Try.func59.trans (congrArg some (by kernel_rfl))⟩
  f14 := ⟨Try.f70.name, by decide, Try.func70.trans (congrArg some (by kernel_rfl))⟩
  f15 := Try.func71.trans (congrArg some (by kernel_rfl))
  f20 := ⟨Try.f74.name, by decide, Try.func74.trans (congrArg some (by kernel_rfl))⟩
  f21 := ⟨Try.f75.name, by decide, Try.func75.trans (congrArg some (by kernel_rfl))⟩
  f22 := ⟨Try.f76.name, by decide, Try.func76.trans (congrArg some (by kernel_rfl))⟩
  f23 := ⟨Try.f77.name, by decide, Try.func77.trans (congrArg some (by kernel_rfl))⟩
  f24 := ⟨Try.f78.name, by decide, Try.func78.trans (congrArg some (by kernel_rfl))⟩
  f25 := ⟨Try.f79.name, by decide, Try.func79.trans (congrArg some (by kernel_rfl))⟩
  f26 := ⟨Try.f80.name, by decide, Try.func80.trans (congrArg some (by kernel_rfl))⟩
  f27 := ⟨Try.f81.name, by decide, Try.func81.trans (congrArg some (by kernel_rfl))⟩
  f28 := Try.func82.trans (congrArg some (by kernel_rfl))
  f29 := Try.func83.trans (congrArg some (by kernel_rfl))
  f46 := ⟨Try.f84.name, by decide, Try.func84.trans (congrArg some (by kernel_rfl))⟩
  f47 := Try.func85.trans (congrArg some (by kernel_rfl))
  f48 := Try.func86.trans (congrArg some (by kernel_rfl))
  f49 := ⟨Try.f87.name, by decide, Try.func87.trans (congrArg some (by kernel_rfl))⟩
  f50 := ⟨Try.f88.name, by decide, Try.func88.trans (congrArg some (by kernel_rfl))⟩
  f57 := ⟨Try.f89.name, by decide, Try.func89.trans (congrArg some (by kernel_rfl))⟩
  t0 := Try.underlying0
  a0 := Try.isAgg0
  z0 := Try.sizeOf0
  v0 := Try.zeroValue0
  t3 := Try.underlying3
  a3 := Try.isAgg3
  z3 := Try.sizeOf3
  v3 := Try.zeroValue3
  t4 := Try.underlying4
  a4 := Try.isAgg4
  z4 := Try.sizeOf4
  v4 := Try.zeroValue4
  t5 := Try.underlying5
  a5 := Try.isAgg5
  z5 := Try.sizeOf5
  v5 := Try.zeroValue5
  t9 := Try.underlying9
  a9 := Try.isAgg9
  z9 := Try.sizeOf9
  v9 := Try.zeroValue9
  t22 := Try.underlying85
  a22 := Try.isAgg85
  z22 := Try.sizeOf85
  v22 := Try.zeroValue85
  a24 := Try.isAgg75
  z24 := Try.sizeOf75
  t25 := Try.underlying113
  a25 := Try.isAgg113
  z25 := Try.sizeOf113
  v25 := Try.zeroValue113
  t39 := Try.underlying118
  a39 := Try.isAgg118
  z39 := Try.sizeOf118
  v39 := Try.zeroValue118
  t45 := Try.underlying122
  a45 := Try.isAgg122
  z45 := Try.sizeOf122
  v45 := Try.zeroValue122
  t46 := Try.underlying123
  a46 := Try.isAgg123
  z46 := Try.sizeOf123
  v46 := Try.zeroValue123
  t50 := Try.underlying127
  a50 := Try.isAgg127
  z50 := Try.sizeOf127
  v50 := Try.zeroValue127
  t53 := Try.underlying130
  a53 := Try.isAgg130
  z53 := Try.sizeOf130
  v53 := Try.zeroValue130
  t55 := Try.underlying38
  a55 := Try.isAgg38
  z55 := Try.sizeOf38
  v55 := Try.zeroValue38
  t66 := Try.underlying132
  a66 := Try.isAgg132
  z66 := Try.sizeOf132
  v66 := Try.zeroValue132
  t70 := Try.underlying136
  a70 := Try.isAgg136
  z70 := Try.sizeOf136
  v70 := Try.zeroValue136
  t76 := Try.underlying138
  a76 := Try.isAgg138
  z76 := Try.sizeOf138
  v76 := Try.zeroValue138
  t77 := Try.underlying41
  a77 := Try.isAgg41
  z77 := Try.sizeOf41
  v77 := Try.zeroValue41 }

theorem cmP_lt (x y : Nat × Pl) : cmP x y < 0 ↔ x.2.first < y.2.first ∨ (x.2.first = y.2.first ∧ x.2.b < y.2.b) := by
  unfold cmP orI cm
  split
  all_goals split at * 
  all_goals first | omega | (split at * <;> first | omega | (split at * <;> omega))

theorem inj_nodup {α β : Type} (f : α → β) : ∀ (l : List α), (l.map f).Nodup → ∀ x ∈ l, ∀ y ∈ l, f x = f y → x = y
  | [], _, x, hx, _, _, _ => by simp at hx
  | a :: t, h, x, hx, y, hy, e => by
    rw [List.map_cons, List.nodup_cons] at h
    rcases List.mem_cons.1 hx with rfl | hx' <;> rcases List.mem_cons.1 hy with rfl | hy'
    · rfl
    · exact absurd (List.mem_map.2 ⟨y, hy', e.symm⟩) h.1
    · exact absurd (List.mem_map.2 ⟨x, hx', e⟩) h.1
    · exact inj_nodup f t h.2 x hx' y hy' e

theorem putCells_take {α : Type} [Inhabited α] (enc : α → Value) (d : Array α) (c : Array Value) (h : d.size ≤ c.size) : (putCells enc 0 d c).toList.take d.size = d.toList.map enc := by
  apply List.ext_getElem?
  intro j
  by_cases hj : j < d.size
  · rw [List.getElem?_take_of_lt hj]
    have hc : j < c.size := by omega
    simp [putCells, hj, hc]
  · rw [List.getElem?_eq_none (by simp; omega), List.getElem?_eq_none (by simp; omega)]

theorem sort_ok : SortOk := by
  intro W v N D hN hO hle hat hnd
  by_cases hD : D = []
  · subst hD
    have hN' : N = 0 := hN
    subst hN'
    obtain ⟨p, cap, rfl⟩ : ∃ p cap, v = .slice p 0 cap := by
      rcases hO.2 with ⟨h, -⟩ | ⟨g, cap, cur, h, -⟩
      · exact ⟨_, _, h⟩
      · exact ⟨_, _, h⟩
    have hS := AnyF.slices_SortFunc_none (P := Try.prog) (ρ := sortL_ren) { sortL with } p cap (.func (.func 60) #[] #[]) W
    change Calls Try.prog 59 _ _ _ at hS
    refine hS.mono ?_
    rintro e w' ⟨rfl, rfl⟩
    exact ⟨rfl, by simpa [srtP, pvs] using hO, Fr.refl _ _⟩
  · obtain ⟨q0, hq0⟩ := List.exists_mem_of_ne_nil D hD
    rcases hO.2 with ⟨-, h⟩ | ⟨g, cap, cur, rfl, -, hg, hnc, hcm, hcs, htake⟩
    · exact absurd (List.eq_nil_of_length_eq_zero (hN.symm.trans h)) hD
    rw [Nat.mul_one] at hcs htake
    letI : Inhabited {q : Nat × Pl // q ∈ D} := ⟨⟨q0, hq0⟩⟩
    let enc : {q : Nat × Pl // q ∈ D} → Value := fun x => ptr x.1.1
    let cf : {q : Nat × Pl // q ∈ D} → {q : Nat × Pl // q ∈ D} → Int := fun x y => cmP x.1 y.1
    have hlt : ∀ x y, ltOf cf x y = decide (x.1.2.first < y.1.2.first ∨ (x.1.2.first = y.1.2.first ∧ x.1.2.b < y.1.2.b)) := fun x y => by
      unfold ltOf
      exact decide_eq_decide.2 (cmP_lt x.1 y.1)
    have hds : (D.attach.toArray).size = N := by simp [hN]
    have hne : ∀ q ∈ D, q.1 ≠ g := fun q hq e => by
      obtain ⟨o, n, hn⟩ := hat q hq
      unfold NAt at hn
      rw [e, hg] at hn
      simp at hn
    have hput : ∀ (m : Nat) (dk : Array {q : Nat × Pl // q ∈ D}) (os : Array Obj) (k : Nat), k < W.heap.size → k ≠ g → (sortWorld enc W g 0 m dk os).heap[k]? = W.heap[k]? := fun m dk os k hk hkg => by
      unfold sortWorld
      rw [heap_grow_old _ _ (by rw [size_putRow]; exact hk)]
      simp only [putRow, mapBlock, Sort.ahead, Array.getElem?_modify]
      rw [if_neg (fun e => hkg e.symm)]
    have hS := Any.slices_SortFunc_total sortL enc (fun _ => rfl) cf ⟨fun x => by rw [hlt]; simp, fun x y z h1 h2 => by rw [hlt] at *; simp at *; omega, fun x y z h1 h2 => by rw [hlt] at *; simp at *; omega⟩ 60 #[] g 0 cap D.attach.toArray W (enters_of Try.func60 (by kernel_rfl) rfl) (fun m os dk hs x y => by
        obtain ⟨o1, n1, h1⟩ := hat x.1 x.2
        obtain ⟨o2, n2, h2⟩ := hat y.1 y.2
        exact closure_any _ x.1.1 y.1.1 o1 n1 o2 n2 x.1.2 y.1.2 ((hput m dk os _ (lt_of_heap h1) (hne _ x.2)).trans h1) ((hput m dk os _ (lt_of_heap h2) (hne _ y.2)).trans h2))
      (fun j hj => by
        have hj' : j < N := by rw [← hds]; exact hj
        have hjD : j < D.length := by rw [← hN]; exact hj'
        have hc : cur[j]? = some (ptr D[j].1) := by
          have h1 : (cur.toList.take N)[j]? = (pvs D)[j]? := by rw [htake]
          rw [List.getElem?_take_of_lt hj'] at h1
          simpa [pvs, hjD] using h1
        refine ⟨?_, ?_⟩
        · rw [cell_of_heap hg, Nat.zero_add, hc]
          simp [enc, hjD]
        · simp [World.frozen?, hg])
      (lt_of_heap hg) (by rw [hds]; omega) (fun x y h1 h2 => by
        rw [hlt] at *
        simp at h1 h2
        have hb : x.1.2.b = y.1.2.b := by omega
        exact Subtype.ext (inj_nodup (fun q : Nat × Pl => q.2.b) D hnd x.1 x.2 y.1 y.2 hb))
    rw [hds] at hS
    change Calls Try.prog 59 _ _ _ at hS
    refine hS.mono ?_
    rintro e w' ⟨rfl, n, os, rfl⟩
    have hmap : ((D.attach.toArray.toList.mergeSort fun x y => !ltOf cf y x).map Subtype.val) = srtP D := by
      unfold srtP
      have h0 := List.map_mergeSort (r := fun x y => !ltOf cf y x) (s := fun x y => !decide (cmP y x < 0)) (f := Subtype.val) (l := D.attach) (fun a _ b _ => rfl)
      rw [List.attach_map_subtype_val] at h0
      exact h0
    obtain ⟨l', hl'⟩ : ∃ l', l' = (D.attach.toArray.toList.mergeSort fun x y => !ltOf cf y x) := ⟨_, rfl⟩
    rw [← hl'] at hmap ⊢
    have hlen : l'.toArray.size = N := by rw [hl']; simp [hN]
    have hV : pvs (srtP D) = l'.map enc := by rw [← hmap]; simp [pvs, enc]
    have hheap : (sortWorld enc W g 0 n l'.toArray os).heap[g]? = some (.cells (putCells enc 0 l'.toArray cur) 75 (0, 0)) := by
      unfold sortWorld
      rw [heap_grow_old _ _ (by rw [size_putRow]; exact lt_of_heap hg)]
      simp only [putRow, mapBlock, Sort.ahead, Array.getElem?_modify, hg]
      simp [onCells]
    refine ⟨rfl, ⟨by rw [pvs_length, (srtP_perm _).length_eq, hN, Nat.mul_one], .inr ⟨g, cap, _, rfl, Nat.zero_le _, hheap, hnc, hcm, by simp [putCells, hcs], ?_⟩⟩, ⟨rfl, rfl, rfl, by simp [sortWorld, Go.Sort.grow, putRow, mapBlock, Sort.ahead], fun k hk hkg => hput n _ os k hk (fun e => hkg (by rw [e]; rfl))⟩⟩
    rw [hV, Nat.mul_one]
    have := putCells_take enc l'.toArray cur (by omega)
    rw [hlen] at this
    exact this
end Go.Proofs.Ytdgmlopaeonacaa

namespace Go.Proofs.Ytdgmlopaeonacaa
set_option linter.unusedVariables false
set_option linter.unusedSimpArgs false
open Go.RowKit
set_option linter.unusedVariables false

attribute [local go_sem ↓] Go.wp_at_zero Go.wp_at_succ

/-- Dirty blocks in their order, of the blocks at hand alone. -/
def cmL (x y : Pl) : Int := orI (cm (x.first : Int) (y.first : Int)) (cm x.b y.b)
def srtL (l : List Pl) : List Pl := (l.filter (·.dirty)).mergeSort fun x y => !decide (cmL y x < 0)
theorem srt_map (R : List (Nat × Pl)) : (srtP (dty R)).map Prod.snd = srtL (R.map Prod.snd) := by
  unfold srtP srtL
  have h0 := List.map_mergeSort (r := fun x y => !decide (cmP y x < 0)) (s := fun x y => !decide (cmL y x < 0)) (f := Prod.snd) (l := dty R) (fun a _ b _ => rfl)
  rw [show (dty R).map Prod.snd = (R.map Prod.snd).filter (·.dirty) by simp [dty, List.filter_map, Function.comp_def]] at h0
  exact h0
/-- What Oldest tells. -/
def oldR (l : List Pl) : Int × Bool := match srtL l with
  | [] => (0, false)
  | x :: _ => ((x.first : Int), true)

section
variable (w : World) (p h r u : Nat) (L : List (Int × Nat)) (R : List (Nat × Pl)) (c : Ca)
theorem KAt.bn (H : KAt w p h r u L R c) : (R.map fun q => q.2.b).Nodup := by
  have h1 := (H.pm.map Prod.fst).nodup_iff.1 H.mp.2
  simpa [List.map_map, Function.comp_def] using h1

set_option maxRecDepth 100000 in
theorem oldest_any (hRl : R.length ≤ 1000000) (H : KAt w p h r u L R c) : Calls Try.prog 15 #[ptr p] w fun e w' => e = .returned (.tuple #[.int .u64 (oldR (R.map Prod.snd)).1, .bool (oldR (R.map Prod.snd)).2]) ∧ Fr (fun _ => False) w w' := by
  have HD := hide (dirty_any w p h r u L R c sort_ok hRl H.bn H)
  have HK := hide H
  have HM := hide (srt_map R)
  unfold oldR
  rw [← unhide HM]
  have hlen : (srtP (dty R)).length = (dty R).length := (srtP_perm _).length_eq
  have hmem : ∀ q ∈ srtP (dty R), q ∈ R := fun q hq => (List.mem_filter.1 ((srtP_perm _).mem_iff.1 hq)).1
  clear H
  rcases hs : srtP (dty R) with _ | ⟨q, S⟩
  · rw [hs] at hlen
    have h0 : (dty R).length = 0 := hlen.symm
    rw [h0] at HD
    clear hlen h0 hmem hs
    unfold ptr at *
    go_enter Try.func15, Try.ntmps15
    go_wp2_with fail
    refine (unhide HD).mono ?_
    rintro e w' ⟨⟨ao, cc, rfl, -, -⟩, f⟩
    have F := hide f
    clear f HD
    go_wp2_with fail
    go_ret2
    exact ⟨rfl, unhide F⟩
  · rw [hs] at HD hlen
    simp only [List.map_cons]
    have hq : q ∈ R := hmem q (by rw [hs]; simp)
    have HQ := hide hq
    obtain ⟨N, hN⟩ : ∃ N, N = (dty R).length := ⟨_, rfl⟩
    rw [← hN] at HD hlen
    have hN0 : (N == 0) = false := by rw [← hlen]; simp
    have hN1 : 0 < N := by rw [← hlen]; simp
    have HN1 := hide hN1
    clear hlen hmem hs hN hq
    unfold ptr at *
    go_enter Try.func15, Try.ntmps15
    go_wp2_with fail
    refine (unhide HD).mono ?_
    rintro e w' ⟨⟨ao, cc, rfl, hV, -⟩, f⟩
    obtain ⟨b, o, rfl, -, -, -, c0⟩ := hV.lits (by simp [pvs])
    have c0 := c0 0 (by simp [pvs])
    simp only [pvs, List.map_cons, List.getElem_cons_zero, Nat.add_zero] at c0
    obtain ⟨o1, n1, hn⟩ := (unhide HK).at (unhide HQ)
    have d3 := (hn.kept f id).c3
    have F := hide f
    unfold ptr at *
    clear hV f HD hn
    go_wp2_with fail
    go_ret2
    exact ⟨rfl, unhide F⟩
end
end Go.Proofs.Ytdgmlopaeonacaa

namespace Go.Proofs.Ytdgmlopaeonacaa
set_option linter.unusedVariables false
set_option linter.unusedSimpArgs false
open Go.RowKit
set_option linter.unusedVariables false

attribute [local go_sem ↓] Go.wp_at_zero Go.wp_at_succ

/-- A block is no longer dirty. -/
def cln (l : List Pl) (b : Int) : List Pl := l.map fun y => if y.b = b then { y with dirty := false } else y
/-- Cleaning, plainly: how many, the answer, the home, the blocks. -/
def clR (c : Ca) (most : Int) : List Pl → Nat → Hm → List Pl → Nat × Int × Hm × List Pl
  | [], n, m, l => (n, 0, m, l)
  | x :: S, n, m, l => if most ≤ (n : Int) then (n, 0, m, l) else if x.last ≤ c.safe then (if m.fa = true then (n, 77, m.one, l) else clR c most S (n + 1) (m.put x.b.toNat x.P) (cln l x.b)) else clR c most S n m l

theorem cln_mid {R1 R2 : List (Nat × Pl)} {a : Nat} {x : Pl} (h : ((R1 ++ (a, x) :: R2).map fun q => q.2.b).Nodup) : cln ((R1 ++ (a, x) :: R2).map Prod.snd) x.b = (R1 ++ (a, { x with dirty := false }) :: R2).map Prod.snd := by
  rw [List.map_append, List.map_cons, List.nodup_append] at h
  obtain ⟨h1, h2, h3⟩ := h
  rw [List.nodup_cons] at h2
  have e1 : ∀ q ∈ R1, q.2.b ≠ x.b := fun q hq => h3 _ (List.mem_map.2 ⟨q, hq, rfl⟩) _ (by simp)
  have e2 : ∀ q ∈ R2, q.2.b ≠ x.b := fun q hq e => h2.1 (List.mem_map.2 ⟨q, hq, e⟩)
  simp only [cln, List.map_append, List.map_cons, List.map_map]
  congr 1
  · exact List.map_congr_left fun q hq => by simp [e1 q hq]
  · congr 1
    exact List.map_congr_left fun q hq => by simp [e2 q hq]

/-- Where Clean stands, ahead of round i. -/
structure ClI [Av] (w W : World) (p h r u : Nat) (dv lv : Value) (R : List (Nat × Pl)) (c : Ca) (m : Hm) (most : Int) (S : List (Nat × Pl)) (v : Value) (t : Nat × Int × Hm × List Pl) (i n : Nat) (lv' : Value) (vs' : List Value) (L' : List (Int × Nat)) (R' : List (Nat × Pl)) (m' : Hm) : Prop where
  cl : clR c most ((S.drop i).map Prod.snd) n m' (R'.map Prod.snd) = t
  sub : ∀ q ∈ S.drop i, q ∈ R'
  rd : RdV W v (pvs S)
  kn : ∀ b, v.ownBlock = some b → knd W b = 75
  cs : Cs w W p h r u dv lv R lv' vs' L' R' c m'
  calls : m'.calls ≤ m.calls + i
  len : m'.D.length = m.D.length

section
variable (w : World) (p h r u : Nat) (L : List (Int × Nat)) (R : List (Nat × Pl)) (c : Ca) (dv lv : Value) (vs : List Value) (m : Hm)

set_option maxRecDepth 100000 in
set_option maxHeartbeats 2000000 in
theorem clean_any [Av] (most : Int) (H : KAt w p h r u L R c) (HH : HAt w h dv lv vs m) (hD : ∀ q ∈ R, q.2.b < (m.D.length : Int)) (hc : m.calls + R.length < 1000000000) (hRl : R.length ≤ 1000000) : Calls Try.prog 27 #[ptr p, .int .i64 most] w fun e w' => e = .returned (.tuple #[.int .i64 ((clR c most (srtL (R.map Prod.snd)) 0 m (R.map Prod.snd)).1 : Int), .int .i64 (clR c most (srtL (R.map Prod.snd)) 0 m (R.map Prod.snd)).2.1]) ∧
    Cp w w' p h r u dv lv R c (clR c most (srtL (R.map Prod.snd)) 0 m (R.map Prod.snd)).2.2.1 (clR c most (srtL (R.map Prod.snd)) 0 m (R.map Prod.snd)).2.2.2 := by
  have HDB := hide (dirty_any w p h r u L R c sort_ok hRl H.bn H)
  have HNO := hide (none_any w p h r u L R c H)
  rw [← srt_map R]
  obtain ⟨S, hS⟩ : ∃ S, S = srtP (dty R) := ⟨_, rfl⟩
  have hSb : (S.map fun q => q.2.b).Nodup := by rw [hS]; exact ((srtP_perm _).map _).nodup_iff.2 ((List.filter_sublist.map _).nodup H.bn)
  have hSR : ∀ q ∈ S, q ∈ R := fun q hq => by rw [hS] at hq; exact (List.mem_filter.1 ((srtP_perm _).mem_iff.1 hq)).1
  have hSl : S.length = (dty R).length := by rw [hS]; exact (srtP_perm _).length_eq
  have hNR : (dty R).length ≤ R.length := List.length_filter_le _ _
  rw [← hS] at HDB ⊢
  obtain ⟨N, hN⟩ : ∃ N, N = (dty R).length := ⟨_, rfl⟩
  rw [← hN] at HDB hSl hNR
  obtain ⟨t, ht⟩ : ∃ t, t = clR c most (S.map Prod.snd) 0 m (R.map Prod.snd) := ⟨_, rfl⟩
  rw [← ht]
  have HT := hide ht
  have HK := hide H
  have HHH := hide HH
  have HDD := hide hD
  have HC := hide hc
  have HSB := hide hSb
  have HSR := hide hSR
  have HSL := hide hSl
  have HNR := hide hNR
  have hN6 : N ≤ 1000000 := by omega
  clear H HH hD hc hRl hS hSb hSR hSl hNR hN ht
  unfold ptr at *
  go_enter Try.func27, Try.ntmps27
  go_wp2_with fail
  refine (unhide HNO).mono ?_
  rintro e w' ⟨rfl, rfl⟩
  go_wp2_with fail
  refine (unhide HDB).mono ?_
  rintro e w1 ⟨⟨ao, cc, rfl, hV, hkb⟩, f1⟩
  have HI0 : Hid (ClI w w1 p h r u dv lv R c m most S (.slice ao N cc) t 0 0 lv vs L R m) := hide ⟨by rw [List.drop_zero]; exact (unhide HT).symm, fun q hq => unhide HSR q (List.mem_of_mem_drop hq), hV, fun b hb => (hkb b hb).1, Cs.same (unhide HK) (unhide HHH) f1, Nat.le_refl _, rfl⟩
  clear hV hkb f1 HDB HNO
  go_wp2_with fail
  go_loopw [15, 6] (fun x y W => ∃ (i n : Nat) (lv' : Value) (vs' : List Value) (L' : List (Int × Nat)) (R' : List (Nat × Pl)) (m' : Hm), x = .int .i64 (i : Int) ∧ y = .int .i64 (n : Int) ∧ i ≤ N ∧ n ≤ i ∧ ClI w W p h r u dv lv R c m most S (.slice ao N cc) t i n lv' vs' L' R' m') (fun x _ _ => N - (intOf x).toNat)
  case atStart => exact ⟨0, 0, lv, vs, L, R, m, rfl, rfl, Nat.zero_le _, Nat.le_refl _, unhide HI0⟩
  case round =>
    obtain ⟨i, n, lv', vs', L', R', m', rfl, rfl, hi, hni, I⟩ := hrel
    have HI := hide I
    rcases Nat.lt_or_ge i N with hlt | hge
    · have hiS : i < S.length := by rw [unhide HSL]; exact hlt
      obtain ⟨b1, o1, rfl, -, -, -, c1⟩ := I.rd.lits (by rw [pvs_length]; omega)
      have k1 := c1 i (by rw [pvs_length]; exact hiS)
      obtain ⟨q, hq⟩ : ∃ q, q = S[i] := ⟨_, rfl⟩
      have hdr : S.drop i = q :: S.drop (i + 1) := by rw [hq, List.getElem_cons_drop]
      simp only [pvs, List.getElem_map, ← hq] at k1
      have hqR : q ∈ R' := I.sub q (by rw [hdr]; simp)
      have hcl := I.cl
      rw [hdr, List.map_cons] at hcl
      have HCL := hide hcl
      have HDR := hide hdr
      have HQR := hide hqR
      have HMY := hide (may_any wr p h r u L' R' c q hqR I.cs.k)
      unfold ptr at *
      clear I c1 hq hdr hqR hcl
      by_cases hm : most ≤ (n : Int)
      · have bm : decide (most ≤ (n : Int)) = true := by simpa using hm
        have HM := hide hm
        clear hm
        go_wp2_with fail
        go_ret2
        have hcl := unhide HCL
        rw [clR, if_pos (unhide HM)] at hcl
        rw [← hcl]
        exact ⟨rfl, (unhide HI).cs.cp rfl⟩
      · have bm : decide (most ≤ (n : Int)) = false := by simpa using hm
        have HM := hide hm
        clear hm
        go_wp2_with fail
        refine (unhide HMY).mono ?_
        rintro e w2 ⟨rfl, n2, rfl⟩
        have fd : Fr (fun _ => False) wr (wr.drewN n2) := Fr.ofDrewN _ _
        have HI2 : Hid (ClI w (wr.drewN n2) p h r u dv lv R c m most S (.slice (some ⟨b1, o1, none⟩) N cc) t i n lv' vs' L' R' m') := hide ⟨(unhide HI).cl, (unhide HI).sub, (unhide HI).rd.kept fd (fun _ _ e => e), fun b hb => knd_keep ((unhide HI).kn b hb) (by decide) fd, (unhide HI).cs.trans (Cs.same (unhide HI).cs.k (unhide HI).cs.hh fd), (unhide HI).calls, (unhide HI).len⟩
        clear fd HMY
        by_cases hl : q.2.last ≤ c.safe
        · have bl : decide (q.2.last ≤ c.safe) = true := by simpa using hl
          obtain ⟨R1, R2, hR'⟩ := List.append_of_mem (unhide HQR)
          have HL := hide hl
          obtain ⟨qa, qx⟩ := q
          dsimp only at *
          subst hR'
          have hqR : (qa, qx) ∈ R := unhide HSR _ (List.mem_of_mem_drop (by rw [unhide HDR]; simp : (qa, qx) ∈ S.drop i))
          have hcc : m'.calls < 1000000000 := by have h1 := (unhide HI2).calls; have h2 := unhide HC; have h3 := unhide HNR; omega
          have HWH := hide (whome_any (wr.drewN n2) p h r u L' c dv lv' vs' m' R1 R2 qa qx (unhide HI2).cs.k (unhide HI2).cs.hh (by rw [(unhide HI2).len]; exact unhide HDD _ hqR) hcc)
          unfold ptr at HWH
          clear hl hqR hcc
          rcases hfa : m'.fa with _ | _
          · have hE : whE m' = 0 := by unfold whE; rw [hfa]; rfl
            have hM : m'.wr qx.b qx.P = m'.put qx.b.toNat qx.P := by unfold Hm.wr; rw [hfa]; rfl
            have hC : clP m' qx = { qx with dirty := false } := by unfold clP; rw [hfa]; rfl
            rw [hE, hM, hC] at HWH
            have HFA := hide hfa
            clear hfa hE hM hC
            go_wp2_with fail
            refine (unhide HWH).mono ?_
            rintro e w5 ⟨rfl, hK5, ⟨lv5, vs5, hH5, hl5⟩, f5⟩
            have hcs : Cs (wr.drewN n2) w5 p h r u dv lv' (R1 ++ (qa, qx) :: R2) lv5 vs5 L' (R1 ++ (qa, { qx with dirty := false }) :: R2) c (m'.put qx.b.toNat qx.P) := ⟨hK5, hH5, fun k hk => .inl (by simpa [adr] using hk), hl5, f5.mono (fun k _ e => by
              rcases e with e | e
              · exact .inl e
              · exact .inr (.inr (.inr (by rw [e]; simp [adr]))))⟩
            have hnk : ∀ b, (Value.slice (some ⟨b1, o1, none⟩) N cc).ownBlock = some b → ¬ (HB h dv lv' b ∨ b = qa) := fun b hb e => by
              have h1 := (unhide HI2).kn b hb
              rcases e with e | e
              · rcases (unhide HI2).cs.hh.knds e with h2 | h2 | h2 <;> rw [h1] at h2 <;> exact absurd h2 (by decide)
              · have h2 := (unhide HI2).cs.k.ring.knd (k := b) (by rw [e]; simp [adr])
                rw [h1] at h2; exact absurd h2 (by decide)
            have HI5 : Hid (ClI w w5 p h r u dv lv R c m most S (.slice (some ⟨b1, o1, none⟩) N cc) t (i + 1) (n + 1) lv5 vs5 L' (R1 ++ (qa, { qx with dirty := false }) :: R2) (m'.put qx.b.toNat qx.P)) := hide ⟨by
                have hcl := unhide HCL
                rw [clR, if_neg (Int.not_le.2 (unhide HM)), if_pos (unhide HL), if_neg (by rw [unhide HFA]; decide), cln_mid ((unhide HI2).cs.k.bn)] at hcl
                exact hcl, fun x hx => by
                have h1 := (unhide HI2).sub x (by rw [unhide HDR]; exact List.mem_cons_of_mem _ hx)
                have h2 : x ≠ (qa, qx) := fun e => by
                  have h3 := ((List.drop_sublist i S).map (fun q : Nat × Pl => q.2.b)).nodup (unhide HSB)
                  rw [unhide HDR, List.map_cons, List.nodup_cons] at h3
                  exact h3.1 (List.mem_map.2 ⟨x, hx, by rw [e]⟩)
                simp only [List.mem_append, List.mem_cons] at h1 ⊢
                rcases h1 with h1 | h1 | h1
                · exact .inl h1
                · exact absurd h1 h2
                · exact .inr (.inr h1), (unhide HI2).rd.kept f5 hnk, fun b hb => by
                have h1 := (unhide HI2).kn b hb
                have h2 := f5.block b (knd_lt (by rw [h1]; decide)) (hnk b hb)
                unfold knd at h1 ⊢
                rw [h2]; exact h1, (unhide HI2).cs.trans hcs, by have := (unhide HI2).calls; show m'.calls + 1 ≤ _; omega, by have := (unhide HI2).len; simpa [Hm.put] using this⟩
            clear hK5 hH5 hl5 f5 HWH hcs hnk
            go_wp2_with fail
            go_roundw
            case rel => exact ⟨i + 1, n + 1, lv5, vs5, L', _, _, by simp, by simp, by omega, by omega, unhide HI5⟩
            case measure => simp [intOf]; omega
          · have hE : whE m' = 77 := by unfold whE; rw [hfa]; rfl
            have hM : m'.wr qx.b qx.P = m'.one := by unfold Hm.wr; rw [hfa]; rfl
            have hC : clP m' qx = qx := by unfold clP; rw [hfa]; rfl
            rw [hE, hM, hC] at HWH
            have HFA := hide hfa
            clear hfa hE hM hC
            go_wp2_with fail
            refine (unhide HWH).mono ?_
            rintro e w5 ⟨rfl, hK5, ⟨lv5, vs5, hH5, hl5⟩, f5⟩
            have HCS : Hid (Cs (wr.drewN n2) w5 p h r u dv lv' (R1 ++ (qa, qx) :: R2) lv5 vs5 L' (R1 ++ (qa, qx) :: R2) c m'.one) := hide ⟨hK5, hH5, fun k hk => .inl hk, hl5, f5.mono (fun k _ e => by
              rcases e with e | e
              · exact .inl e
              · exact .inr (.inr (.inr (by rw [e]; simp [adr]))))⟩
            clear hK5 hH5 hl5 f5 HWH
            go_wp2_with fail
            go_ret2
            have hcl := unhide HCL
            rw [clR, if_neg (Int.not_le.2 (unhide HM)), if_pos (unhide HL), if_pos (unhide HFA)] at hcl
            rw [← hcl]
            exact ⟨rfl, ((unhide HI2).cs.trans (unhide HCS)).cp rfl⟩
        · have bl : decide (q.2.last ≤ c.safe) = false := by simpa using hl
          have HI3 : Hid (ClI w (wr.drewN n2) p h r u dv lv R c m most S (.slice (some ⟨b1, o1, none⟩) N cc) t (i + 1) n lv' vs' L' R' m') := hide ⟨by
            have hcl := unhide HCL
            rw [clR, if_neg (Int.not_le.2 (unhide HM)), if_neg hl] at hcl
            exact hcl, fun x hx => (unhide HI2).sub x (by rw [unhide HDR]; exact List.mem_cons_of_mem _ hx), (unhide HI2).rd, (unhide HI2).kn, (unhide HI2).cs, by have := (unhide HI2).calls; omega, (unhide HI2).len⟩
          clear hl
          go_wp2_with fail
          go_roundw
          case rel => exact ⟨i + 1, n, lv', vs', L', R', m', by simp, rfl, by omega, by omega, unhide HI3⟩
          case measure => simp [intOf]; omega
    · have e : i = N := by omega
      subst e
      clear hge I
      go_wp2_with fail
      go_ret2
      have hcl := (unhide HI).cl
      rw [List.drop_of_length_le (by rw [unhide HSL]; exact Nat.le_refl _), List.map_nil, clR] at hcl
      rw [← hcl]
      exact ⟨rfl, (unhide HI).cs.cp rfl⟩
end
end Go.Proofs.Ytdgmlopaeonacaa

namespace Go.Proofs.Ytdgmlopaeonacaa
set_option linter.unusedVariables false
set_option linter.unusedSimpArgs false
open Go.RowKit
set_option linter.unusedVariables false

attribute [local go_sem ↓] Go.wp_at_zero Go.wp_at_succ

theorem srtL_len (l : List Pl) : (srtL l).length ≤ l.length := by
  unfold srtL
  rw [List.length_mergeSort]
  exact List.length_filter_le _ _
theorem cln_b (l : List Pl) (b : Int) : (cln l b).map (·.b) = l.map (·.b) := by
  unfold cln
  rw [List.map_map]
  exact List.map_congr_left fun x _ => by simp only [Function.comp]; split <;> rfl
theorem cl_facts (c : Ca) (most : Int) : ∀ (S : List Pl) (n : Nat) (m : Hm) (l : List Pl), ((clR c most S n m l).2.1 = 0 ∨ (clR c most S n m l).2.1 = 77) ∧ (clR c most S n m l).2.2.1.calls ≤ m.calls + S.length ∧ (clR c most S n m l).2.2.1.D.length = m.D.length ∧ (clR c most S n m l).2.2.2.map (·.b) = l.map (·.b)
  | [], n, m, l => ⟨.inl rfl, Nat.le_refl _, rfl, rfl⟩
  | x :: S, n, m, l => by
    rw [clR]
    split
    · exact ⟨.inl rfl, Nat.le_add_right _ _, rfl, rfl⟩
    · split
      · split
        · exact ⟨.inr rfl, by simp [Hm.one], rfl, rfl⟩
        · obtain ⟨h1, h2, h3, h4⟩ := cl_facts c most S (n + 1) (m.put x.b.toNat x.P) (cln l x.b)
          refine ⟨h1, ?_, ?_, ?_⟩
          · simp only [Hm.put] at h2 ⊢; simp only [List.length_cons]; omega
          · rw [h3]; simp [Hm.put]
          · rw [h4, cln_b]
      · obtain ⟨h1, h2, h3, h4⟩ := cl_facts c most S n m l
        exact ⟨h1, by simp only [List.length_cons]; omega, h3, h4⟩

/-- Flushing, plainly: the answer, the home, the blocks. -/
def flR (c : Ca) (m : Hm) (l : List Pl) : Int × Hm × List Pl :=
  if (clR c (l.length : Int) (srtL l) 0 m l).2.1 = 0 then
    (if (clR c (l.length : Int) (srtL l) 0 m l).2.2.1.fa = true then 77 else if (oldR (clR c (l.length : Int) (srtL l) 0 m l).2.2.2).2 = true then 91 else 0, (clR c (l.length : Int) (srtL l) 0 m l).2.2.1.one, (clR c (l.length : Int) (srtL l) 0 m l).2.2.2)
  else ((clR c (l.length : Int) (srtL l) 0 m l).2.1, (clR c (l.length : Int) (srtL l) 0 m l).2.2.1, (clR c (l.length : Int) (srtL l) 0 m l).2.2.2)

section
variable (w : World) (p h r u : Nat) (L : List (Int × Nat)) (R : List (Nat × Pl)) (c : Ca) (dv lv : Value) (vs : List Value) (m : Hm)

set_option maxRecDepth 100000 in
set_option maxHeartbeats 1000000 in
theorem flush_any [Av] (H : KAt w p h r u L R c) (HH : HAt w h dv lv vs m) (hD : ∀ q ∈ R, q.2.b < (m.D.length : Int)) (hc : m.calls + R.length < 999999990) (hRl : R.length ≤ 1000000) : Calls Try.prog 28 #[ptr p] w fun e w' => e = .returned (.int .i64 (flR c m (R.map Prod.snd)).1) ∧ Cp w w' p h r u dv lv R c (flR c m (R.map Prod.snd)).2.1 (flR c m (R.map Prod.snd)).2.2 := by
  have HNO := hide (none_any w p h r u L R c H)
  have HCL := hide (clean_any w p h r u L R c dv lv vs m (R.length : Int) H HH hD (by omega) hRl)
  have c2 := cell_of_heap H.heap 2
  simp at c2
  have hml := run_len_map H.mp
  rw [H.len] at hml
  obtain ⟨g1, g2, g3, g4⟩ := cl_facts c (R.length : Int) (srtL (R.map Prod.snd)) 0 m (R.map Prod.snd)
  have g5 := srtL_len (R.map Prod.snd)
  rw [List.length_map] at g5
  unfold flR
  rw [List.length_map]
  obtain ⟨t, ht⟩ : ∃ t, t = clR c (R.length : Int) (srtL (R.map Prod.snd)) 0 m (R.map Prod.snd) := ⟨_, rfl⟩
  rw [← ht] at g1 g2 g3 g4 HCL ⊢
  have hcc : t.2.2.1.calls < 999999990 := by omega
  have hll : t.2.2.2.length ≤ 1000000 := by have := congrArg List.length g4; simp at this; omega
  obtain ⟨tn, te, tm, tl⟩ := t
  dsimp only at *
  have HCC := hide hcc
  have HLL := hide hll
  clear H HH hD hc ht g2 g3 g4 g5 hcc hll
  unfold ptr at *
  rcases g1 with rfl | rfl
  · rw [if_pos rfl]
    dsimp only
    obtain ⟨an, han⟩ : ∃ an, an = (if tm.fa = true then (77 : Int) else if (oldR tl).2 = true then 91 else 0) := ⟨_, rfl⟩
    rw [← han]
    have HAN := hide han
    clear han
    go_enter Try.func28, Try.ntmps28
    go_wp2_with fail
    refine (unhide HNO).mono ?_
    rintro e w' ⟨rfl, rfl⟩
    go_wp2_with fail
    refine (unhide HCL).mono ?_
    rintro e w1 ⟨rfl, lv1, vs1, L1, R1, k1, hh1, hl1, s1, n1, f1⟩
    have d0 := cell_of_heap k1.heap 0
    simp at d0
    have HCS : Hid (Cs w w1 p h r u dv lv R lv1 vs1 L1 R1 c tm) := hide ⟨k1, hh1, s1, n1, f1⟩
    have HL1 := hide hl1
    have HFL := hide (hflush_any w1 h dv lv1 vs1 tm hh1 (by have := unhide HCC; omega))
    unfold ptr at *
    clear k1 hh1 hl1 s1 n1 f1 HCL HNO c2 hml
    rcases hfa : tm.fa with _ | _
    · rw [hfa] at HFL
      rw [if_neg (by decide)] at HFL
      rw [hfa, if_neg (by decide)] at HAN
      clear hfa
      go_wp2_with fail
      refine (unhide HFL).mono ?_
      rintro e w2 ⟨rfl, hh2, f2⟩
      have HCS2 : Hid (Cs w w2 p h r u dv lv R lv1 vs1 L1 R1 c tm.one) := hide ((unhide HCS).trans (Cs.home (unhide HCS).k (unhide HCS).hh hh2 (fun _ e => .inl e) (f2.mono (fun k _ e => .inl e))))
      have HOL := hide (oldest_any w2 p h r u L1 R1 c (by have := congrArg List.length (unhide HL1); have h2 := unhide HLL; simp at this; omega) (unhide HCS2).k)
      rw [unhide HL1] at HOL
      unfold ptr at HOL
      clear hh2 f2 HFL d0
      generalize oldR tl = ol at *
      obtain ⟨o1, o2⟩ := ol
      dsimp only at *
      go_wp2_with fail
      refine (unhide HOL).mono ?_
      rintro e w3 ⟨rfl, f3⟩
      have HCS3 := hide ((unhide HCS2).trans (Cs.same (unhide HCS2).k (unhide HCS2).hh f3))
      clear f3 HOL
      rcases o2 with _ | _
      · go_wp2_with fail
        go_ret
        exact ⟨by rw [unhide HAN]; rfl, (unhide HCS3).cp (unhide HL1)⟩
      · go_wp2_with fail
        go_ret
        exact ⟨by rw [unhide HAN]; rfl, (unhide HCS3).cp (unhide HL1)⟩
    · rw [hfa] at HFL
      rw [if_pos rfl] at HFL
      rw [hfa, if_pos rfl] at HAN
      clear hfa
      go_wp2_with fail
      refine (unhide HFL).mono ?_
      rintro e w2 ⟨rfl, hh2, f2⟩
      have HCS2 : Hid (Cs w w2 p h r u dv lv R lv1 vs1 L1 R1 c tm.one) := hide ((unhide HCS).trans (Cs.home (unhide HCS).k (unhide HCS).hh hh2 (fun _ e => .inl e) (f2.mono (fun k _ e => .inl e))))
      clear hh2 f2 HFL d0
      go_wp2_with fail
      go_ret
      exact ⟨by rw [unhide HAN]; rfl, (unhide HCS2).cp (unhide HL1)⟩
  · rw [if_neg (by decide)]
    go_enter Try.func28, Try.ntmps28
    go_wp2_with fail
    refine (unhide HNO).mono ?_
    rintro e w' ⟨rfl, rfl⟩
    go_wp2_with fail
    refine (unhide HCL).mono ?_
    rintro e w1 ⟨rfl, C⟩
    have HC1 := hide C
    clear C HCL HNO c2 hml
    go_wp2_with fail
    go_ret
    exact ⟨rfl, unhide HC1⟩
end

section
variable {w0 : World × World} {w : World} {p h r u : Nat} {dv : Value} {c : Ca} {m : Hm} {l : List Pl}
theorem cs_oldest [Av] (H : CS w0 w p h r u dv c m l) (hl : l.length ≤ 1000000) : Calls Try.prog 15 #[ptr p] w fun e w' => e = .returned (.tuple #[.int .u64 (oldR l).1, .bool (oldR l).2]) ∧ Fr (fun _ => False) w w' := by
  obtain ⟨lv, vs, L, R, h1, h2, rfl, h4, h5⟩ := H
  rw [List.length_map] at hl
  exact oldest_any w p h r u L R c hl h1
theorem cs_clean [Av] (most : Int) (H : CS w0 w p h r u dv c m l) (hD : InD m l) (hc : m.calls + l.length < 999999990) (hl : l.length ≤ 1000000) : Calls Try.prog 27 #[ptr p, .int .i64 most] w fun e w' => e = .returned (.tuple #[.int .i64 ((clR c most (srtL l) 0 m l).1 : Int), .int .i64 (clR c most (srtL l) 0 m l).2.1]) ∧ CS w0 w' p h r u dv c (clR c most (srtL l) 0 m l).2.2.1 (clR c most (srtL l) 0 m l).2.2.2 := by
  obtain ⟨lv, vs, L, R, h1, h2, rfl, h4, h5⟩ := H
  rw [List.length_map] at hl hc
  exact (clean_any w p h r u L R c dv lv vs m most h1 h2 hD.rr (by omega) hl).mono fun e w' ⟨he, C⟩ => ⟨he, cs_cp h4 h5 C⟩
theorem cs_flush [Av] (H : CS w0 w p h r u dv c m l) (hD : InD m l) (hc : m.calls + l.length < 999999990) (hl : l.length ≤ 1000000) : Calls Try.prog 28 #[ptr p] w fun e w' => e = .returned (.int .i64 (flR c m l).1) ∧ CS w0 w' p h r u dv c (flR c m l).2.1 (flR c m l).2.2 := by
  obtain ⟨lv, vs, L, R, h1, h2, rfl, h4, h5⟩ := H
  rw [List.length_map] at hl hc
  exact (flush_any w p h r u L R c dv lv vs m h1 h2 hD.rr hc hl).mono fun e w' ⟨he, C⟩ => ⟨he, cs_cp h4 h5 C⟩
end
end Go.Proofs.Ytdgmlopaeonacaa

namespace Go.Proofs.Ytdgmlopaeonacaa
set_option linter.unusedVariables false
set_option linter.unusedSimpArgs false
open Go.RowKit
set_option linter.unusedVariables false

attribute [local go_sem ↓] Go.wp_at_zero Go.wp_at_succ

theorem Try.info58 : (Try.prog.info? 58).map (fun i => (i.zero, i.size, i.bytes)) = some (some (.agg #[.int .i64 0, .int .u64 0, .int .u64 0, .int .i64 0]), 4, 32) := by kernel_rfl
/-- What is told of a dirty block, as cells. -/
def dC (x : Pl) : List Value := [.int .i64 x.b, .int .u64 (x.first : Int), .int .u64 (x.last : Int), .int .i64 x.pins]
def dCs (l : List Pl) : List Value := l.flatMap dC
theorem dCs_app (l : List Pl) (x : Pl) : dCs (l ++ [x]) = dCs l ++ dC x := by simp [dCs]
theorem owns_nil4 (w : World) : w.ownsRow 0 58 4 (.slice none 0 0) 0 [] := World.ownsRow_nil w 0 58 4
theorem four_cells (w : World) (x : Pl) : Sr (w.alloc (.cells #[.int .i64 x.b, .int .u64 (x.first : Int), .int .u64 (x.last : Int), .int .i64 x.pins] 58)) 4 (.slice (some ⟨w.heap.size, 0, none⟩) 1 1) 1 (dC x) := by
  refine .inr ⟨_, _, rfl, rfl, fun j u hu => ?_⟩
  rw [Addr.add_lit, Nat.zero_add, cell_of_heap (heap_alloc_new w _)]
  simpa [dC] using hu

section
variable (w : World) (p h r u : Nat) (L : List (Int × Nat)) (R : List (Nat × Pl)) (c : Ca)

set_option maxRecDepth 100000 in
set_option maxHeartbeats 1000000 in
theorem dirties_any (hRl : R.length ≤ 1000000) (H : KAt w p h r u L R c) : Calls Try.prog 21 #[ptr p] w fun e w' => (∃ ao cc, e = .returned (.slice ao (srtL (R.map Prod.snd)).length cc) ∧ w'.ownsRow 0 58 4 (.slice ao (srtL (R.map Prod.snd)).length cc) (srtL (R.map Prod.snd)).length (dCs (srtL (R.map Prod.snd))) ∧ ∀ b, (Value.slice ao (srtL (R.map Prod.snd)).length cc).ownBlock = some b → w.heap.size ≤ b) ∧ Fr (fun _ => False) w w' := by
  have HDB := hide (dirty_any w p h r u L R c sort_ok hRl H.bn H)
  rw [← srt_map R]
  obtain ⟨S, hS⟩ : ∃ S, S = srtP (dty R) := ⟨_, rfl⟩
  have hSR : ∀ q ∈ S, q ∈ R := fun q hq => by rw [hS] at hq; exact (List.mem_filter.1 ((srtP_perm _).mem_iff.1 hq)).1
  have hSl : S.length = (dty R).length := by rw [hS]; exact (srtP_perm _).length_eq
  have hNR : (dty R).length ≤ R.length := List.length_filter_le _ _
  rw [← hS] at HDB ⊢
  rw [List.length_map, hSl]
  obtain ⟨N, hN⟩ : ∃ N, N = (dty R).length := ⟨_, rfl⟩
  rw [← hN] at HDB hSl hNR ⊢
  have HK := hide H
  have HSR := hide hSR
  have HSL := hide hSl
  have hN6 : N ≤ 1000000 := by omega
  obtain ⟨inf, hi0, hz0, hz1, hz2⟩ := info_parts Try.info58
  clear H hRl hS hSR hSl hNR hN
  unfold ptr at *
  go_enter Try.func21, Try.ntmps21
  go_wp2_with fail
  refine (unhide HDB).mono ?_
  rintro e w1 ⟨⟨ao, cc, rfl, hV, hkb⟩, f1⟩
  have HV := hide hV
  have HKB := hide hkb
  have F1 := hide f1
  clear hV hkb f1 HDB
  go_wp2_with fail
  go_loopw [9, 3] (fun x y W => ∃ (i : Nat) (bo : Option Addr) (bc : Nat), x = .int .i64 (i : Int) ∧ y = .slice bo i bc ∧ i ≤ N ∧ W.ownsRow 0 58 4 (.slice bo i bc) i (dCs ((S.take i).map Prod.snd)) ∧ (∀ b, (Value.slice bo i bc).ownBlock = some b → w1.heap.size ≤ b) ∧ Fr (fun _ => False) w1 W) (fun x _ _ => N - (intOf x).toNat)
  case atStart => exact ⟨0, none, 0, rfl, rfl, Nat.zero_le _, owns_nil4 _, fun b hb => by simp [Value.ownBlock] at hb, Fr.refl _ _⟩
  case round =>
    obtain ⟨i, bo, bc, rfl, rfl, hi, hO, hnew, hf⟩ := hrel
    have HO := hide hO
    have HNW := hide hnew
    have HF := hide hf
    rcases Nat.lt_or_ge i N with hlt | hge
    · have hiS : i < S.length := by rw [unhide HSL]; exact hlt
      obtain ⟨b1, o1, rfl, -, -, -, c1⟩ := ((unhide HV).kept hf (fun _ _ e => e)).lits (by rw [pvs_length]; omega)
      have k1 := c1 i (by rw [pvs_length]; exact hiS)
      obtain ⟨q, hq⟩ : ∃ q, q = S[i] := ⟨_, rfl⟩
      have HTK : Hid (S.take (i + 1) = S.take i ++ [q]) := hide (by rw [hq]; exact List.take_succ_eq_append_getElem hiS)
      simp only [pvs, List.getElem_map, ← hq] at k1
      have hqR : q ∈ R := unhide HSR q (by rw [hq]; exact List.getElem_mem hiS)
      obtain ⟨oo, nn, hn⟩ := (unhide HK).at hqR
      have hnN := (hn.kept (unhide F1) id).kept hf id
      have d2 := hnN.c2
      have d3 := hnN.c3
      have d4 := hnN.c4
      have d5 := hnN.c5
      unfold ptr at *
      obtain ⟨qa, qx⟩ := q
      dsimp only at *
      clear hO hnew hf c1 hq hqR hn hnN hiS
      go_wp2_with (at_builtin; refine wpList_app rfl (.tmp 13) (.tmp 18) 45 rfl 58 inf _ 4 32 Try.underlying45 hi0 hz0 hz1 hz2 rfl (by decide) (.slice bo i bc) i _ rfl (.slice (some ⟨wr.heap.size, 0, none⟩) 1 1) rfl 1 (dC qx) ((unhide HO).alloc _) (four_cells wr qx) (fun u hu => by simp [dC] at hu; rcases hu with rfl | rfl | rfl | rfl <;> rfl) (by omega) (by simp only [maxLen]; omega) ?_)
      intro ao4 ac4 w4 o4 g4 p4
      have f4 : Fr (fun k => (Value.slice bo i bc).ownBlock = some k) wr w4 := ((Fr.refl _ _).alloc (.cells #[.int .i64 qx.b, .int .u64 (qx.first : Int), .int .u64 (qx.last : Int), .int .i64 qx.pins] 58)).grown g4 (fun k _ e => e)
      have HF4 : Hid (Fr (fun _ => False) w1 w4) := hide ((unhide HF).trans f4 (fun k hk e => by have := unhide HNW k e; omega))
      have HN4 : Hid (∀ b, (Value.slice ao4 (i + 1) ac4).ownBlock = some b → w1.heap.size ≤ b) := hide (fun b hb => by
        rcases p4 with e | ⟨k', e, hk'⟩
        · rw [e] at hb; exact unhide HNW b hb
        · rw [e] at hb; simp at hb; have := (unhide HF).size; omega)
      have HO4 : Hid (w4.ownsRow 0 58 4 (.slice ao4 (i + 1) ac4) (i + 1) (dCs ((S.take (i + 1)).map Prod.snd))) := hide (by
        rw [unhide HTK, List.map_append, List.map_cons, List.map_nil, dCs_app, List.map_take]; exact o4)
      clear o4 g4 p4 f4 d2 d3 d4 d5 k1
      go_wp2_with fail
      go_roundw
      case rel => exact ⟨i + 1, ao4, ac4, by simp, rfl, by omega, unhide HO4, unhide HN4, unhide HF4⟩
      case measure => simp [intOf]; omega
    · have e : i = N := by omega
      subst e
      clear hge hO hnew hf
      go_wp2_with fail
      go_ret
      have hO := unhide HO
      rw [List.take_of_length_le (by rw [unhide HSL]; exact Nat.le_refl _)] at hO
      exact ⟨⟨bo, bc, rfl, hO, fun b hb => Nat.le_trans (unhide F1).size (unhide HNW b hb)⟩, (unhide F1).trans (unhide HF) (fun _ _ e => e)⟩
end

theorem cs_dirty [Av] {w0 : World × World} {w : World} {p h r u : Nat} {dv : Value} {c : Ca} {m : Hm} {l : List Pl} (H : CS w0 w p h r u dv c m l) (hl : l.length ≤ 1000000) : Calls Try.prog 21 #[ptr p] w fun e w' => (∃ ao cc, e = .returned (.slice ao (srtL l).length cc) ∧ w'.ownsRow 0 58 4 (.slice ao (srtL l).length cc) (srtL l).length (dCs (srtL l)) ∧ ∀ b, (Value.slice ao (srtL l).length cc).ownBlock = some b → w.heap.size ≤ b) ∧ Fr (fun _ => False) w w' := by
  obtain ⟨lv, vs, L, R, h1, h2, rfl, h4, h5⟩ := H
  rw [List.length_map] at hl
  exact dirties_any w p h r u L R c hl h1
end Go.Proofs.Ytdgmlopaeonacaa
