/-
  The cache in memory; what only asks it.
-/
import Derived.Test.YtdgmlopaeonacaaA7
namespace Go.Proofs.Ytdgmlopaeonacaa
open Go.RowKit
set_option linter.unusedVariables false

attribute [local go_sem ↓] Go.wp_at_zero Go.wp_at_succ

/-- The cache's numbers. -/
structure Ca where
  places : Nat
  safe : Nat
  hit : Nat
  miss : Nat

structure Pl.Ok (x : Pl) : Prop where
  len : x.P.length = 384
  b : 0 ≤ x.b
  first : x.first < 18446744073709551616
  last : x.last < 18446744073709551616
  pins : 0 ≤ x.pins ∧ x.pins ≤ 1000000000

/-- The cache in memory: p the struct, h its home, r the map, u the ring's beginning. -/
structure KAt (w : World) (p h r u : Nat) (L : List (Int × Nat)) (R : List (Nat × Pl)) (c : Ca) : Prop where
  heap : w.heap[p]? = some (.cells #[.iface 25 (ptr h), .int .i64 (c.places : Int), .map (some r), ptr u, .int .u64 (c.safe : Int), .int .i64 (c.hit : Int), .int .i64 (c.miss : Int)] 78 (0, 0))
  ring : Ring w u R
  mp : MAt w r L
  pm : L.Perm (R.map fun q => (q.2.b, q.1))
  ok : ∀ q ∈ R, q.2.Ok
  num : c.hit ≤ 1000000000 ∧ c.miss ≤ 1000000000 ∧ c.safe < 18446744073709551616 ∧ c.places ≤ 4096

def KB (p r u : Nat) (R : List (Nat × Pl)) (k : Nat) : Prop := k = p ∨ k = r ∨ k ∈ u :: adr R

section
variable {w w' : World} {p h r u : Nat} {L : List (Int × Nat)} {R : List (Nat × Pl)} {c : Ca}
theorem Ring.knd (H : Ring w u R) {k : Nat} (hk : k ∈ u :: adr R) : Ytdgmlopaeonacaa.knd w k = 91 := by
  obtain ⟨o, n, y, h1⟩ := H.at hk
  exact knd_cells h1
theorem MAt.knd (H : MAt w r L) : Ytdgmlopaeonacaa.knd w r = 1000 := by
  obtain ⟨⟨es, cl, h1, -⟩, -⟩ := H
  exact knd_map h1
theorem KAt.knds (H : KAt w p h r u L R c) {k : Nat} (hk : KB p r u R k) : knd w k = 78 ∨ knd w k = 1000 ∨ knd w k = 91 := by
  rcases hk with rfl | rfl | hk
  · exact .inl (knd_cells H.heap)
  · exact .inr (.inl H.mp.knd)
  · exact .inr (.inr (H.ring.knd hk))
theorem KAt.kept (H : KAt w p h r u L R c) {S : Nat → Prop} (f : Fr S w w') (hs : ∀ k, S k → knd w k ≠ 78 ∧ knd w k ≠ 1000 ∧ knd w k ≠ 91) : KAt w' p h r u L R c :=
  ⟨by rw [f.block p (lt_of_heap H.heap) (fun e => (hs p e).1 (knd_cells H.heap))]; exact H.heap, H.ring.kept f (fun k hk e => (hs k e).2.2 (H.ring.knd hk)), H.mp.kept f (fun e => (hs r e).2.1 H.mp.knd), H.pm, H.ok, H.num⟩
theorem KAt.kept0 (H : KAt w p h r u L R c) (f : Fr (fun _ => False) w w') : KAt w' p h r u L R c := H.kept f (fun _ e => e.elim)
theorem KAt.len (H : KAt w p h r u L R c) : L.length = R.length := by rw [H.pm.length_eq]; simp
theorem KAt.at (H : KAt w p h r u L R c) {q : Nat × Pl} (hq : q ∈ R) : ∃ o n, NAt w q.1 (ptr o) (ptr n) q.2 := by
  obtain ⟨⟨o, n, h1, -⟩, -⟩ := H.ring
  exact ⟨_, _, h1 q (List.mem_cons_of_mem _ hq)⟩
theorem KAt.look (H : KAt w p h r u L R c) {q : Nat × Pl} (hq : q ∈ R) : (q.2.b, q.1) ∈ L := (H.pm.mem_iff).2 (List.mem_map.2 ⟨q, hq, rfl⟩)
theorem KAt.lookNo (H : KAt w p h r u L R c) {b : Int} (hb : ∀ q ∈ R, q.2.b ≠ b) (a : Nat) : (b, a) ∉ L := fun e => by
  obtain ⟨q, hq, e⟩ := List.mem_map.1 ((H.pm.mem_iff).1 e)
  simp only [Prod.mk.injEq] at e
  exact hb q hq e.1
end

section
variable {w : World} {a : Nat} {o n : Value} {x : Pl}
theorem NAt.set3 (h : NAt w a o n x) (v : Nat) : NAt (w.setCell ⟨a, 3, none⟩ (.int .u64 (v : Int))) a o n { x with first := v } := by
  have := heap_setCell_same w a 3 _ 91 (.int .u64 (v : Int)) h
  unfold NAt
  rw [this, List.setIfInBounds_toArray]; rfl
theorem NAt.set4 (h : NAt w a o n x) (v : Nat) : NAt (w.setCell ⟨a, 4, none⟩ (.int .u64 (v : Int))) a o n { x with last := v } := by
  have := heap_setCell_same w a 4 _ 91 (.int .u64 (v : Int)) h
  unfold NAt
  rw [this, List.setIfInBounds_toArray]; rfl
theorem NAt.set5 (h : NAt w a o n x) (v : Int) : NAt (w.setCell ⟨a, 5, none⟩ (.int .i64 v)) a o n { x with pins := v } := by
  have := heap_setCell_same w a 5 _ 91 (.int .i64 v) h
  unfold NAt
  rw [this, List.setIfInBounds_toArray]; rfl
theorem NAt.set6 (h : NAt w a o n x) (v : Bool) : NAt (w.setCell ⟨a, 6, none⟩ (.bool v)) a o n { x with dirty := v } := by
  have := heap_setCell_same w a 6 _ 91 (.bool v) h
  unfold NAt
  rw [this, List.setIfInBounds_toArray]; rfl
end

/-- What a block holds has turned. -/
theorem KAt.turn {w w' : World} {p h r u : Nat} {L : List (Int × Nat)} {R1 R2 : List (Nat × Pl)} {a : Nat} {x x' : Pl} {c : Ca} (H : KAt w p h r u L (R1 ++ (a, x) :: R2) c) (hb : x'.b = x.b) (ok : x'.Ok) (hn : ∀ o n, NAt w a o n x → NAt w' a o n x') (f : Fr (fun k => k = a) w w') : KAt w' p h r u L (R1 ++ (a, x') :: R2) c := by
  have ha : a ∈ u :: adr (R1 ++ (a, x) :: R2) := by simp [adr]
  have hk := H.ring.knd ha
  have hadr : adr (R1 ++ (a, x') :: R2) = adr (R1 ++ (a, x) :: R2) := by simp [adr]
  refine ⟨(f.block p (lt_of_heap H.heap) (fun e => ?_)).trans H.heap, ⟨?_, by rw [hadr]; exact H.ring.nd⟩, H.mp.kept f (fun e => ?_), ?_, fun q hq => ?_, H.num⟩
  · have e' : p = a := e
    rw [← e', knd_cells H.heap] at hk
    exact absurd hk (by decide)
  · obtain ⟨o, n, h1, h2, h3⟩ := H.ring.ex
    have hnd := H.ring.nd
    refine ⟨o, n, fun q hq => ?_, by rw [hadr]; exact h2, by rw [hadr]; exact h3⟩
    by_cases e : q.1 = a
    · have : q = (a, x') := by
        have hnd' : a ∉ u :: adr (R1 ++ R2) := by
          have e2 : (u :: adr (R1 ++ (a, x) :: R2)).Perm (a :: u :: adr (R1 ++ R2)) := by
            have := List.perm_middle (a := a) (l₁ := u :: adr R1) (l₂ := adr R2)
            simpa [adr] using this
          exact (List.nodup_cons.1 ((e2.nodup_iff).1 hnd)).1
        rcases List.mem_cons.1 hq with rfl | hq
        · exact absurd (by rw [← e]; simp) hnd'
        · rcases List.mem_append.1 hq with hq | hq
          · exact absurd (by rw [← e]; simp [adr]; exact .inr (.inl ⟨q.2, hq⟩)) hnd'
          · rcases List.mem_cons.1 hq with rfl | hq
            · rfl
            · exact absurd (by rw [← e]; simp [adr]; exact .inr (.inr ⟨q.2, hq⟩)) hnd'
      subst this
      exact hn _ _ (h1 (a, x) (by simp))
    · refine (h1 q ?_).kept f e
      rcases List.mem_cons.1 hq with rfl | hq
      · exact List.mem_cons_self ..
      · refine List.mem_cons_of_mem _ ?_
        rcases List.mem_append.1 hq with hq | hq
        · exact List.mem_append_left _ hq
        · rcases List.mem_cons.1 hq with rfl | hq
          · exact absurd rfl e
          · exact List.mem_append_right _ (List.mem_cons_of_mem _ hq)
  · have e' : r = a := e
    rw [← e', H.mp.knd] at hk
    exact absurd hk (by decide)
  · have := H.pm
    simp only [List.map_append, List.map_cons] at this ⊢
    rw [hb]; exact this
  · rcases List.mem_append.1 hq with hq | hq
    · exact H.ok q (List.mem_append_left _ hq)
    · rcases List.mem_cons.1 hq with rfl | hq
      · exact ok
      · exact H.ok q (List.mem_append_right _ (List.mem_cons_of_mem _ hq))

section
variable (w : World) (p h r u : Nat) (L : List (Int × Nat)) (R : List (Nat × Pl)) (c : Ca)
theorem none_any (H : KAt w p h r u L R c) : Calls Try.prog 39 #[ptr p] w fun e w' => e = .returned (.bool false) ∧ w = w' := by
  have c0 := cell_of_heap H.heap 0
  simp at c0
  clear H
  unfold ptr at *
  go_enter Try.func39, Try.ntmps39
  go_wp2_with fail
  go_ret
  exact ⟨rfl, rfl⟩
theorem none_nil : Calls Try.prog 39 #[.pointer none] w fun e w' => e = .returned (.bool true) ∧ w = w' := by
  go_enter Try.func39, Try.ntmps39
  go_wp2_with fail
  go_ret
  exact ⟨rfl, rfl⟩

/-- Is there no such block? -/
def chE (m : Hm) (b : Int) : Int := if b < 0 ∨ (m.D.length : Int) ≤ b then 2 else 0
set_option maxRecDepth 100000 in
theorem check_any (dv lv : Value) (vs : List Value) (m : Hm) (b : Int) (H : KAt w p h r u L R c) (HH : HAt w h dv lv vs m) : Calls Try.prog 44 #[ptr p, .int .i64 b] w fun e w' => e = .returned (.int .i64 (chE m b)) ∧ w = w' := by
  have HN := hide (none_any w p h r u L R c H)
  have HLn := hide (hlen_any w h dv lv vs m HH)
  have c0 := cell_of_heap H.heap 0
  simp at c0
  clear H HH
  unfold ptr at *
  unfold chE
  by_cases h0 : b < 0
  · have b0 : decide (b < 0) = true := by simpa using h0
    rw [if_pos (.inl h0)]
    clear h0
    go_enter Try.func44, Try.ntmps44
    go_wp2_with fail
    refine (unhide HN).mono ?_
    rintro e w' ⟨rfl, rfl⟩
    go_wp2_with fail
    go_ret
    exact ⟨rfl, rfl⟩
  · have b0 : decide (b < 0) = false := by simpa using h0
    by_cases h1 : (m.D.length : Int) ≤ b
    · have b1 : decide ((m.D.length : Int) ≤ b) = true := by simpa using h1
      rw [if_pos (.inr h1)]
      clear h0 h1
      go_enter Try.func44, Try.ntmps44
      go_wp2_with fail
      refine (unhide HN).mono ?_
      rintro e w' ⟨rfl, rfl⟩
      go_wp2_with fail
      refine (unhide HLn).mono ?_
      rintro e w' ⟨rfl, rfl⟩
      go_wp2_with fail
      go_ret
      exact ⟨rfl, rfl⟩
    · have b1 : decide ((m.D.length : Int) ≤ b) = false := by simpa using h1
      rw [if_neg (by rintro (h | h); exact h0 h; exact h1 h)]
      clear h0 h1
      go_enter Try.func44, Try.ntmps44
      go_wp2_with fail
      refine (unhide HN).mono ?_
      rintro e w' ⟨rfl, rfl⟩
      go_wp2_with fail
      refine (unhide HLn).mono ?_
      rintro e w' ⟨rfl, rfl⟩
      go_wp2_with fail
      go_ret
      exact ⟨rfl, rfl⟩

theorem may_any (q : Nat × Pl) (hq : q ∈ R) (H : KAt w p h r u L R c) : Calls Try.prog 49 #[ptr p, ptr q.1] w fun e w' => e = .returned (.bool (decide (q.2.last ≤ c.safe))) ∧ ∃ n, w' = w.drewN n := by
  obtain ⟨o, n, hn⟩ := H.at hq
  have c4 := cell_of_heap H.heap 4
  have d4 := hn.c4
  simp at c4
  clear H hn
  unfold ptr at *
  generalize q.2.last = ql at *
  generalize c.safe = cs at *
  generalize q.1 = qa at *
  have e : decide ((ql : Int) ≤ (cs : Int)) = decide (ql ≤ cs) := by congr 1; simp
  go_enter Try.func49, Try.ntmps49
  go_wp2_with fail
  go_quiet (fail)
  go_wp2_with fail
  go_ret
  exact ⟨by simp, _, rfl⟩
end
end Go.Proofs.Ytdgmlopaeonacaa
