/-
  A cache and its home, made since some world; the laws' live.
-/
import Derived.Test.YtdgmlopaeonacaaB8
namespace Go.Proofs.Ytdgmlopaeonacaa
open Go.RowKit
set_option linter.unusedVariables false

attribute [local go_sem ↓] Go.wp_at_zero Go.wp_at_succ

/-- Kinds of blocks that a cache and its home may turn. -/
def Kz (w : World) (k : Nat) : Prop := knd w k = 51 ∨ knd w k = 37 ∨ knd w k = 3 ∨ knd w k = 78 ∨ knd w k = 1000 ∨ knd w k = 91
/-- What was since the first world is as it was; since the second only blocks of those kinds turned. -/
def Fs (w0 : World × World) (w : World) : Prop := Fr (fun _ => False) w0.1 w ∧ Fr (Kz w0.2) w0.2 w
/-- Cache and home, made since w0: what they hold. -/
def CS (w0 : World × World) (w : World) (p h r u : Nat) (dv : Value) (c : Ca) (m : Hm) (l : List Pl) : Prop :=
  ∃ lv vs L R, KAt w p h r u L R c ∧ HAt w h dv lv vs m ∧ R.map Prod.snd = l ∧ Fs w0 w ∧ ∀ k, HB h dv lv k ∨ KB p r u R k → w0.1.heap.size ≤ k ∧ (k < w0.2.heap.size → Kz w0.2 k)

section
variable {w0 : World × World} {w w' : World} {p h r u : Nat} {dv lv : Value} {vs : List Value} {L : List (Int × Nat)} {R : List (Nat × Pl)} {c c' : Ca} {m m' : Hm} {l l' : List Pl}

theorem CS.fr (H : CS w0 w p h r u dv c m l) (f : Fr (fun _ => False) w w') : CS w0 w' p h r u dv c m l := by
  obtain ⟨lv, vs, L, R, h1, h2, h3, h4, h5⟩ := H
  exact ⟨lv, vs, L, R, h1.kept0 f, h2.kept0 f, h3, ⟨h4.1.trans f (fun _ _ e => e), h4.2.trans f (fun _ _ e => e.elim)⟩, h5⟩
theorem CS.f (H : CS w0 w p h r u dv c m l) : Fr (fun _ => False) w0.1 w := by
  obtain ⟨lv, vs, L, R, h1, h2, h3, h4, h5⟩ := H
  exact h4.1
theorem CS.f2 (H : CS w0 w p h r u dv c m l) : Fr (Kz w0.2) w0.2 w := by
  obtain ⟨lv, vs, L, R, h1, h2, h3, h4, h5⟩ := H
  exact h4.2
/-- From here on. -/
theorem CS.here (H : CS w0 w p h r u dv c m l) : CS (w0.1, w) w p h r u dv c m l := by
  obtain ⟨lv, vs, L, R, h1, h2, h3, h4, h5⟩ := H
  refine ⟨lv, vs, L, R, h1, h2, h3, ⟨h4.1, Fr.refl _ _⟩, fun k hk => ⟨(h5 k hk).1, fun _ => ?_⟩⟩
  rcases hk with hk | hk
  · rcases h2.knds hk with e | e | e
    · exact .inl e
    · exact .inr (.inl e)
    · exact .inr (.inr (.inl e))
  · rcases h1.knds hk with e | e | e
    · exact .inr (.inr (.inr (.inl e)))
    · exact .inr (.inr (.inr (.inr (.inl e))))
    · exact .inr (.inr (.inr (.inr (.inr e))))
theorem cs_of {lv' : Value} {vs' : List Value} {L' : List (Int × Nat)} {R' : List (Nat × Pl)} (f : Fs w0 w) (hn : ∀ k, HB h dv lv k ∨ KB p r u R k → w0.1.heap.size ≤ k ∧ (k < w0.2.heap.size → Kz w0.2 k)) (C : Cs w w' p h r u dv lv R lv' vs' L' R' c m) (hl : R'.map Prod.snd = l) : CS w0 w' p h r u dv c m l := by
  have hs := f.1.size
  have hs2 := f.2.size
  refine ⟨lv', vs', L', R', C.k, C.hh, hl, ⟨f.1.trans C.f (fun k hk e => by have := (hn k e).1; omega), f.2.trans C.f (fun k hk e => (hn k e).2 hk)⟩, fun k hk => ?_⟩
  rcases hk with (e | e | e) | (e | e | e)
  · exact hn k (.inl (.inl e))
  · exact hn k (.inl (.inr (.inl e)))
  · rcases C.lvn k e with e | e
    · exact hn k (.inl (.inr (.inr e)))
    · exact ⟨by omega, fun _ => by omega⟩
  · exact hn k (.inr (.inl e))
  · exact hn k (.inr (.inr (.inl e)))
  · rcases List.mem_cons.1 e with e | e
    · exact hn k (.inr (.inr (.inr (by rw [e]; simp))))
    · rcases C.sub k e with e | e
      · exact hn k (.inr (.inr (.inr (List.mem_cons_of_mem _ e))))
      · exact ⟨by omega, fun _ => by omega⟩
theorem cs_cp (f : Fs w0 w) (hn : ∀ k, HB h dv lv k ∨ KB p r u R k → w0.1.heap.size ≤ k ∧ (k < w0.2.heap.size → Kz w0.2 k)) (C : Cp w w' p h r u dv lv R c m l) : CS w0 w' p h r u dv c m l := by
  obtain ⟨lv', vs', L', R', k1, k2, k3, k4, k5, f1⟩ := C
  exact cs_of f hn ⟨k1, k2, k4, k5, f1⟩ k3

/-- The blocks' numbers are home's. -/
def InD (m : Hm) (l : List Pl) : Prop := ∀ x ∈ l, x.b < (m.D.length : Int)
theorem InD.rr (h : InD m (R.map Prod.snd)) : ∀ q ∈ R, q.2.b < (m.D.length : Int) := fun q hq => h q.2 (List.mem_map.2 ⟨q, hq, rfl⟩)

theorem cs_write (b : Int) (v : Value) (P : List UInt8) (ch : Nat) (hch : ch < 18446744073709551616) (hv : Rd w v P) (hva : ∀ k, v.ownBlock = some k → (k < w0.1.heap.size ∧ k < w.heap.size) ∨ knd w k = 5) (H : CS w0 w p h r u dv c m l) (hD : InD m l) (hc : m.calls < 999999990) : Calls Try.prog 23 #[ptr p, .int .i64 b, v, .int .u64 (ch : Int)] w fun e w' => e = .returned (.int .i64 (wtR c m l b P ch).1) ∧ CS w0 w' p h r u dv c (wtR c m l b P ch).2.2 (wtR c m l b P ch).2.1 := by
  obtain ⟨lv, vs, L, R, h1, h2, rfl, h4, h5⟩ := H
  refine (cwrite_any w p h r u L R c dv lv vs m b v P ch hch hv (fun k hk => ?_) h1 h2 hD.rr hc).mono ?_
  · rcases hva k hk with ⟨e, e2⟩ | e
    · exact ⟨fun e3 => by have := (h5 k (.inl e3)).1; omega, fun e3 => by have := (h5 k (.inr e3)).1; omega, e2⟩
    · refine ⟨fun e3 => ?_, fun e3 => ?_, knd_lt (by rw [e]; decide)⟩
      · rcases h2.knds e3 with e4 | e4 | e4 <;> rw [e] at e4 <;> exact absurd e4 (by decide)
      · rcases h1.knds e3 with e4 | e4 | e4 <;> rw [e] at e4 <;> exact absurd e4 (by decide)
  · rintro e w' ⟨rfl, C⟩
    exact ⟨rfl, cs_cp h4 h5 C⟩

/-- What Read answers. -/
def RdA (w : World) (t : Int × List Pl × Hm × Ca) (e : Ending) (w' : World) : Prop := (t.1 ≠ 0 ∧ e = .returned (.tuple #[.slice none 0 0, .int .i64 t.1])) ∨ (t.1 = 0 ∧ ∃ x ao cc, t.2.1.getLast? = some x ∧ e = .returned (.tuple #[.slice ao 384 cc, .int .i64 0]) ∧ Rd w' (.slice ao 384 cc) x.P ∧ x.P.length = 384 ∧ (∀ b, (Value.slice ao 384 cc).ownBlock = some b → w.heap.size ≤ b) ∧ ∀ b, (Value.slice ao 384 cc).ownBlock = some b → knd w' b = 5)
theorem cs_read (b : Int) (H : CS w0 w p h r u dv c m l) (hD : InD m l) (hc : m.calls < 999999990) (hn : c.hit + c.miss < 1000000000) : Calls Try.prog 22 #[ptr p, .int .i64 b] w fun e w' => RdA w (ftR c m l b) e w' ∧ CS w0 w' p h r u dv (ftR c m l b).2.2.2 (ftR c m l b).2.2.1 (ftR c m l b).2.1 := by
  obtain ⟨lv, vs, L, R, h1, h2, rfl, h4, h5⟩ := H
  refine (cread_any w p h r u L R c dv lv vs m b h1 h2 hD.rr hc hn).mono ?_
  rintro e w' ⟨lv', vs', L', R', C, hl, hA⟩
  exact ⟨hA, cs_of h4 h5 C hl⟩
theorem cs_safe (s : Nat) (hs : s < 18446744073709551616) (H : CS w0 w p h r u dv c m l) : Calls Try.prog 26 #[ptr p, .int .u64 (s : Int)] w fun e w' => e = .returned (.tuple #[]) ∧ CS w0 w' p h r u dv { c with safe := max c.safe s } m l := by
  obtain ⟨lv, vs, L, R, h1, h2, rfl, h4, h5⟩ := H
  refine (safe_any w p h r u L R c s hs h1).mono ?_
  rintro e w' ⟨rfl, hK, f⟩
  exact ⟨rfl, cs_of h4 h5 (Cs.cache h1 h2 hK (fun _ h => .inl h) (f.mono (fun _ _ e => .inl e))) rfl⟩
theorem cs_held (H : CS w0 w p h r u dv c m l) (hl : l.length ≤ 1000000) : Calls Try.prog 18 #[ptr p] w fun e w' => (∃ ao cc, e = .returned (.slice ao l.length cc) ∧ RdV w' (.slice ao l.length cc) ((l.map (·.b)).map (Value.int .i64))) ∧ Fr (fun _ => False) w w' := by
  obtain ⟨lv, vs, L, R, h1, h2, rfl, h4, h5⟩ := H
  refine (held_any w p h r u L R c (by simpa using hl) h1).mono ?_
  rintro e w' ⟨⟨ao, cc, rfl, hr⟩, f⟩
  refine ⟨⟨ao, cc, by simp, ?_⟩, f⟩
  have : (R.map Prod.snd).map (·.b) = blk R := by simp [blk]
  rw [this]
  simpa using hr
theorem cs_new (hH : HAt w h dv (.slice none 0 0) vs m) {w0 : World} (f : Fr (fun _ => False) w0 w) (hh : w0.heap.size ≤ h ∧ ∀ k, dv.ownBlock = some k → w0.heap.size ≤ k) (n : Nat) (hn : 1 ≤ n ∧ n ≤ 4096) : Calls Try.prog 10 #[.iface 25 (ptr h), .int .i64 (n : Int)] w fun e w' => ∃ p r u, e = .returned (.tuple #[ptr p, .int .i64 0]) ∧ CS (w0, w0) w' p h r u dv ⟨n, 0, 0, 0⟩ m [] := by
  refine (new_ok w h n hn).mono ?_
  rintro e w' ⟨⟨p, r, u, rfl, hK, e1, e2, e3⟩, f1⟩
  have hs := f.size
  refine ⟨p, r, u, rfl, .slice none 0 0, vs, [], [], hK, hH.kept0 f1, rfl, ⟨f.trans f1 (fun _ _ e => e), (f.trans f1 (fun _ _ e => e)).mono (fun _ _ e => e.elim)⟩, fun k hk => ?_⟩
  rcases hk with (e | e | e) | (e | e | e)
  · rw [e]; exact ⟨hh.1, fun h => by have := hh.1; simp at h; omega⟩
  · exact ⟨hh.2 k e, fun h => by have := hh.2 k e; simp at h; omega⟩
  · simp [Value.ownBlock] at e
  · exact ⟨by show w0.heap.size ≤ k; omega, fun h => by simp at h; omega⟩
  · exact ⟨by show w0.heap.size ≤ k; omega, fun h => by simp at h; omega⟩
  · simp [adr] at e; exact ⟨by show w0.heap.size ≤ k; omega, fun h => by simp at h; omega⟩
/-- A byte of one of home's blocks. -/
theorem cs_home (H : CS w0 w p h r u dv c m l) (i : Nat) (D : List UInt8) (hi : m.D[i]? = some D) : ∃ g cap b, dv = .slice (some ⟨g, 0, none⟩) m.D.length cap ∧ i < m.D.length ∧ m.D.length ≤ cap ∧ w.cell? ⟨h, 0, none⟩ = some dv ∧ w.cell? ⟨g, i, none⟩ = some (.slice (some ⟨b, 0, none⟩) 384 384) ∧ BAt w b D := by
  obtain ⟨lv, vs, L, R, h1, h2, h3, h4, h5⟩ := H
  obtain ⟨hil, hiD⟩ := List.getElem?_eq_some_iff.1 hi
  obtain ⟨g, cap, cur, e, hnc, hcm, hg, hcs, hcells⟩ := owns_at h2.data (by omega)
  obtain ⟨b, hb, hB⟩ := h2.rd i hil
  refine ⟨g, cap, b, e, hil, hnc, ?_, (hcells i hil).trans hb, by rw [← hiD]; exact hB⟩
  rw [cell_of_heap h2.heap]; rfl
end
end Go.Proofs.Ytdgmlopaeonacaa
