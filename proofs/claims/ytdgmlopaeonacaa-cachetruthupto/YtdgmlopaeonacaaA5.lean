/-
  The home that the laws try a cache on.
-/
import Derived.Test.YtdgmlopaeonacaaA4
namespace Go.Proofs.Ytdgmlopaeonacaa
open Go.RowKit
set_option linter.unusedVariables false

attribute [local go_sem ↓] Go.wp_at_zero Go.wp_at_succ

/-- What kind of block lies there. -/
def knd (w : World) (k : Nat) : Nat := match w.heap[k]? with
  | some (.cells _ t _) => t
  | some (.map _ _) => 1000
  | _ => 1001
theorem knd_cells {w : World} {k : Nat} {cs : Array Value} {t : TypeId} {f : Nat × Nat} (h : w.heap[k]? = some (.cells cs t f)) : knd w k = t := by unfold knd; rw [h]
theorem knd_map {w : World} {k : Nat} {es : Array MapEntry} {c : Nat} (h : w.heap[k]? = some (.map es c)) : knd w k = 1000 := by unfold knd; rw [h]
theorem knd_owns {w : World} {e n s : Nat} {v : Value} {xs : List Value} (h : w.ownsRow 0 e s v n xs) {b : Nat} (hb : v.ownBlock = some b) : knd w b = e := by
  rcases h.2 with ⟨rfl, -⟩ | ⟨g, cap, cur, rfl, -, hg, -⟩
  · simp [Value.ownBlock] at hb
  · simp [Value.ownBlock] at hb
    subst hb
    exact knd_cells hg

/-- The home, plainly. -/
structure Hm where
  D : List (List UInt8)
  log : List Int
  calls : Nat
  bad : Nat
  long : Nat

structure Hm.Ok (m : Hm) : Prop where
  len : m.D.length ≤ 1000
  all : ∀ d ∈ m.D, d.length = 384
  log : m.log.length ≤ m.calls
  bad : m.bad ≤ 1000000
  long : m.long ≤ 1000000
  few : m.calls ≤ 1000000000

def ivs (l : List Int) : List Value := l.map (Value.int .i64)
theorem ivs_length (l : List Int) : (ivs l).length = l.length := by simp [ivs]

/-- The home in memory: h the struct, dv its blocks, lv its log. -/
structure HAt (w : World) (h : Nat) (dv lv : Value) (vs : List Value) (m : Hm) : Prop where
  heap : w.heap[h]? = some (.cells #[dv, lv, .int .i64 (m.calls : Int), .int .i64 (m.bad : Int), .int .i64 (m.long : Int)] 51 (0, 0))
  data : w.ownsRow 0 37 1 dv m.D.length vs
  rd : ∀ i (hi : i < m.D.length), ∃ b, vs[i]? = some (.slice (some ⟨b, 0, none⟩) 384 384) ∧ BAt w b m.D[i]
  log : w.ownsRow 0 3 1 lv m.log.length (ivs m.log)
  ok : m.Ok

/-- Its blocks that may turn. -/
def HB (h : Nat) (dv lv : Value) (k : Nat) : Prop := k = h ∨ dv.ownBlock = some k ∨ lv.ownBlock = some k

section
variable {w w' : World} {h : Nat} {dv lv : Value} {vs : List Value} {m : Hm}
theorem HAt.kept (H : HAt w h dv lv vs m) {S : Nat → Prop} (f : Fr S w w') (hs : ∀ k, S k → knd w k ≠ 51 ∧ knd w k ≠ 37 ∧ knd w k ≠ 3 ∧ knd w k ≠ 5) : HAt w' h dv lv vs m := by
  refine ⟨?_, owns_kept H.data f (fun k hk e => (hs k e).2.1 (knd_owns H.data hk)), fun i hi => ?_, owns_kept H.log f (fun k hk e => (hs k e).2.2.1 (knd_owns H.log hk)), H.ok⟩
  · rw [f.block h (lt_of_heap H.heap) (fun e => (hs h e).1 (knd_cells H.heap))]; exact H.heap
  · obtain ⟨b, h1, h2⟩ := H.rd i hi
    exact ⟨b, h1, h2.kept f (fun e => (hs b e).2.2.2 (knd_cells h2))⟩
theorem HAt.kept0 (H : HAt w h dv lv vs m) (f : Fr (fun _ => False) w w') : HAt w' h dv lv vs m := H.kept f (fun _ e => e.elim)
theorem HAt.knds (H : HAt w h dv lv vs m) {k : Nat} (hk : HB h dv lv k) : knd w k = 51 ∨ knd w k = 37 ∨ knd w k = 3 := by
  rcases hk with rfl | hk | hk
  · exact .inl (knd_cells H.heap)
  · exact .inr (.inl (knd_owns H.data hk))
  · exact .inr (.inr (knd_owns H.log hk))
theorem HAt.shape (H : HAt w h dv lv vs m) : ∃ ao c, dv = .slice ao m.D.length c := owns_shape H.data
end

section
variable (w : World) (h : Nat) (dv lv : Value) (vs : List Value) (m : Hm)
theorem hlen_any (H : HAt w h dv lv vs m) : Calls Try.prog 106 #[ptr h] w fun e w' => e = .returned (.int .i64 (m.D.length : Int)) ∧ w = w' := by
  have c0 := cell_of_heap H.heap 0
  obtain ⟨ao, c, rfl⟩ := H.shape
  simp at c0
  clear H
  unfold ptr
  go_enter Try.func106, Try.ntmps106
  go_wp2_with fail
  go_ret
  exact ⟨rfl, rfl⟩

/-- Does this call fail? -/
def Hm.fa (m : Hm) : Bool := decide (m.bad < m.calls + 1) && decide (m.calls + 1 ≤ m.bad + m.long)
def Hm.one (m : Hm) : Hm := { m with calls := m.calls + 1 }

theorem HAt.one (H : HAt w h dv lv vs m) (hc : m.calls < 1000000000) (u : Value) : HAt (w.setCell ⟨h, 2, none⟩ (.int .i64 ((m.calls : Int) + 1))) h dv lv vs m.one := by
  have f : Fr (fun k => k = h) w (w.setCell ⟨h, 2, none⟩ (.int .i64 ((m.calls : Int) + 1))) := (Fr.refl (fun k => k = h) w).setCell (p := ⟨h, 2, none⟩) (fun _ => rfl) _
  refine ⟨?_, owns_kept H.data f (fun k hk e => ?_), fun i hi => ?_, owns_kept H.log f (fun k hk e => ?_), ⟨H.ok.len, H.ok.all, Nat.le_succ_of_le H.ok.log, H.ok.bad, H.ok.long, hc⟩⟩
  · have := heap_setCell_same w h 2 _ 51 (.int .i64 ((m.calls : Int) + 1)) H.heap
    rw [this]
    simp [Hm.one]
  · subst e; have := knd_owns H.data hk; rw [knd_cells H.heap] at this; exact absurd this (by decide)
  · obtain ⟨b, h1, h2⟩ := H.rd i hi
    refine ⟨b, h1, h2.kept f (fun e => ?_)⟩
    have e' : b = h := e
    subst e'
    have := knd_cells h2
    rw [knd_cells H.heap] at this
    exact absurd this (by decide)
  · subst e; have := knd_owns H.log hk; rw [knd_cells H.heap] at this; exact absurd this (by decide)

set_option maxHeartbeats 1000000 in
theorem fails_any (H : HAt w h dv lv vs m) (hc : m.calls < 1000000000) : Calls Try.prog 69 #[ptr h] w fun e w' => e = .returned (.bool m.fa) ∧ HAt w' h dv lv vs m.one ∧ Fr (fun k => k = h) w w' := by
  have c2 := cell_of_heap H.heap 2
  have c3 := cell_of_heap H.heap 3
  have c4 := cell_of_heap H.heap 4
  simp at c2 c3 c4
  have z2 := frozen_of_heap H.heap 2
  have HO := hide (HAt.one w h dv lv vs m H hc (.bool true))
  have ok := H.ok
  have hb := ok.bad
  have hl := ok.long
  have hfa : m.fa = (decide (m.bad < m.calls + 1) && decide (m.calls + 1 ≤ m.bad + m.long)) := rfl
  obtain ⟨b1, hb1⟩ : ∃ b, b = decide (m.bad < m.calls + 1) := ⟨_, rfl⟩
  obtain ⟨b2, hb2⟩ : ∃ b, b = decide (m.calls + 1 ≤ m.bad + m.long) := ⟨_, rfl⟩
  have e1 : decide ((m.bad : Int) < (m.calls : Int) + 1) = b1 := by rw [hb1]; congr 1; simp; omega
  have e2 : decide ((m.calls : Int) + 1 ≤ (m.bad : Int) + (m.long : Int)) = b2 := by rw [hb2]; congr 1; simp; omega
  rw [← hb1, ← hb2] at hfa
  rw [hfa]
  have F1 : Hid (Fr (fun k => k = h) w (w.setCell ⟨h, 2, none⟩ (.int .i64 ((m.calls : Int) + 1)))) := hide ((Fr.refl (fun k => k = h) w).setCell (p := ⟨h, 2, none⟩) (fun _ => rfl) _)
  clear H ok hb1 hb2 hfa
  unfold ptr
  generalize m.one = m1 at *
  generalize m.calls = mc at *
  generalize m.bad = mb at *
  generalize m.long = ml at *
  cases b1
  · go_enter Try.func69, Try.ntmps69
    go_wp2_with fail
    go_quiet (fail)
    go_wp2_with fail
    go_ret
    exact ⟨rfl, (unhide HO).kept0 (Fr.ofDrewN _ _), (unhide F1).trans (Fr.ofDrewN (S := fun _ => False) _ _) (fun _ _ h => h.elim)⟩
  · go_enter Try.func69, Try.ntmps69
    go_wp2_with fail
    go_quiet (fail)
    go_wp2_with fail
    go_ret
    exact ⟨rfl, (unhide HO).kept0 (Fr.ofDrewN _ _), (unhide F1).trans (Fr.ofDrewN (S := fun _ => False) _ _) (fun _ _ h => h.elim)⟩
end
end Go.Proofs.Ytdgmlopaeonacaa
