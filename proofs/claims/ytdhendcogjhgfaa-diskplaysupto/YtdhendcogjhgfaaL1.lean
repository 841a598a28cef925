/-
  A disk and the document's, side by side; what each call of the one and of the other leaves of both.
-/
import Derived.Test.YtdhendcogjhgfaaR6
namespace Go.Proofs.Ytdhendcogjhgfaa
open Go.RowKit
set_option linter.unusedVariables false

attribute [local go_sem ↓] Go.wp_at_zero Go.wp_at_succ

/-- The blocks of a disk; of the document's. -/
def KB (p gs : Nat) (q : Value) (k : Nat) : Prop := k = p ∨ k = gs ∨ q.ownBlock = some k
def RB (p sg hg : Nat) (q : Value) (k : Nat) : Prop := k = p ∨ k = sg ∨ k = hg ∨ q.ownBlock = some k

theorem owns_ty {w : World} {e size n : Nat} {v : Value} {xs : List Value} (h : w.ownsRow 0 e size v n xs) {b : Nat} (hb : v.ownBlock = some b) : TyAt w b e := by
  rcases h.2 with ⟨hv, -⟩ | ⟨g, cap, cur, hv, -, hg, -⟩
  · rw [hv] at hb; simp [Value.ownBlock] at hb
  · rw [hv] at hb
    simp [Value.ownBlock] at hb
    subst hb
    exact ⟨_, hg⟩

theorem kr_apart {w : World} {p gs : Nat} {q : Value} {d : Dk} {p2 sg hg : Nat} {q2 : Value} {e : Dk} (hk : KAt w p gs q d) (hr : RAt w p2 sg hg q2 e) {k : Nat} (h1 : KB p gs q k) (h2 : RB p2 sg hg q2 k) : False := by
  have a1 : TyAt w k 78 ∨ TyAt w k 92 ∨ TyAt w k 95 := by
    rcases h1 with rfl | rfl | h
    · exact .inl ⟨_, hk.heap⟩
    · exact .inr (.inl ⟨_, hk.secs⟩)
    · exact .inr (.inr (owns_ty hk.queue h))
  have a2 : TyAt w k 81 ∨ TyAt w k 9 ∨ TyAt w k 3 ∨ TyAt w k 55 := by
    rcases h2 with rfl | rfl | rfl | h
    · exact .inl ⟨_, hr.heap⟩
    · exact .inr (.inl ⟨_, hr.strs⟩)
    · exact .inr (.inr (.inl ⟨_, hr.hurt⟩))
    · exact .inr (.inr (.inr (owns_ty hr.queue h)))
  rcases a1 with a | a | a <;> rcases a2 with b | b | b | b <;> exact TyAt.ne a b (by decide) rfl

/-- Both, made since w0. -/
structure Pq (w0 w : World) (p gs : Nat) (q : Value) (p2 sg hg : Nat) (q2 : Value) (d e : Dk) : Prop where
  k : KAt w p gs q d
  r : RAt w p2 sg hg q2 e
  f : Fr (fun _ => False) w0 w
  hk : ∀ b, KB p gs q b → w0.heap.size ≤ b
  hr : ∀ b, RB p2 sg hg q2 b → w0.heap.size ≤ b

section
variable {w0 w w' : World} {p gs : Nat} {q : Value} {p2 sg hg : Nat} {q2 : Value} {d e d' e' : Dk}

theorem Pq.fr (h : Pq w0 w p gs q p2 sg hg q2 d e) (f : Fr (fun _ => False) w w') : Pq w0 w' p gs q p2 sg hg q2 d e :=
  ⟨h.k.kept f id id (fun _ _ h => h), h.r.kept0 f, h.f.trans f (fun _ _ h => h), h.hk, h.hr⟩

/-- What may have turned. -/
structure Mq (w w' : World) (p gs : Nat) (q : Value) (p2 sg hg : Nat) (q2 q' q2' : Value) : Prop where
  f : Fr (fun k => KB p gs q k ∨ RB p2 sg hg q2 k) w w'
  k : ∀ b, KB p gs q' b → KB p gs q b ∨ w.heap.size ≤ b
  r : ∀ b, RB p2 sg hg q2' b → RB p2 sg hg q2 b ∨ w.heap.size ≤ b

theorem Pq.goK (h : Pq w0 w p gs q p2 sg hg q2 d e) (s : KSt w w' p gs q d') : ∃ q', Pq w0 w' p gs q' p2 sg hg q2 d' e ∧ Mq w w' p gs q p2 sg hg q2 q' q2 := by
  obtain ⟨⟨q', hk, hq⟩, f⟩ := s
  have hK : ∀ b, KB p gs q' b → KB p gs q b ∨ w.heap.size ≤ b := fun b hb => by
    rcases hb with hb | hb | hb
    · exact .inl (.inl hb)
    · exact .inl (.inr (.inl hb))
    · rcases hq b hb with e | e
      · exact .inl (.inr (.inr e))
      · exact .inr e
  have hs := h.f.size
  refine ⟨q', ⟨hk, h.r.kept f (fun e => kr_apart h.k h.r e (.inl rfl)) (fun e => kr_apart h.k h.r e (.inr (.inl rfl))) (fun e => kr_apart h.k h.r e (.inr (.inr (.inl rfl)))) (fun b hb e => kr_apart h.k h.r e (.inr (.inr (.inr hb)))), h.f.trans f (fun k hk e => ?_), fun b hb => ?_, h.hr⟩, f.mono (fun _ _ e => .inl e), hK, fun b hb => .inl hb⟩
  · have := h.hk k e; omega
  · rcases hK b hb with e | e
    · exact h.hk b e
    · omega

theorem Pq.goR (h : Pq w0 w p gs q p2 sg hg q2 d e) (s : RSt w w' p2 sg hg q2 e') : ∃ q2', Pq w0 w' p gs q p2 sg hg q2' d e' ∧ Mq w w' p gs q p2 sg hg q2 q q2' := by
  obtain ⟨⟨q2', hr, hq⟩, f⟩ := s
  have hR : ∀ b, RB p2 sg hg q2' b → RB p2 sg hg q2 b ∨ w.heap.size ≤ b := fun b hb => by
    rcases hb with hb | hb | hb | hb
    · exact .inl (.inl hb)
    · exact .inl (.inr (.inl hb))
    · exact .inl (.inr (.inr (.inl hb)))
    · rcases hq b hb with e | e
      · exact .inl (.inr (.inr (.inr e)))
      · exact .inr e
  have hs := h.f.size
  refine ⟨q2', ⟨h.k.kept f (fun e => kr_apart h.k h.r (.inl rfl) e) (fun e => kr_apart h.k h.r (.inr (.inl rfl)) e) (fun b hb e => kr_apart h.k h.r (.inr (.inr hb)) e), hr, h.f.trans f (fun k hk e => ?_), h.hk, fun b hb => ?_⟩, f.mono (fun _ _ e => .inr e), fun b hb => .inl hb, hR⟩
  · have := h.hr k e; omega
  · rcases hR b hb with e | e
    · exact h.hr b e
    · omega

/-- Something that lies apart from both. -/
def Ap (w : World) (p gs : Nat) (q : Value) (p2 sg hg : Nat) (q2 : Value) (b : Nat) : Prop := b < w.heap.size ∧ ¬ KB p gs q b ∧ ¬ RB p2 sg hg q2 b

theorem Pq.lt (h : Pq w0 w p gs q p2 sg hg q2 d e) {b : Nat} (hb : KB p gs q b ∨ RB p2 sg hg q2 b) : b < w.heap.size := by
  obtain ⟨l1, l2, l3⟩ := h.k.lt
  rcases hb with hb | hb
  · rcases hb with rfl | rfl | hb
    · exact l1
    · exact l2
    · exact l3 b hb
  · rcases hb with rfl | rfl | rfl | hb
    · exact lt_of_heap h.r.heap
    · exact lt_of_heap h.r.strs
    · exact lt_of_heap h.r.hurt
    · obtain ⟨cs, hc⟩ := owns_ty h.r.queue hb
      exact lt_of_heap hc

theorem Ap.old (h : Pq w0 w p gs q p2 sg hg q2 d e) {b : Nat} (hb : b < w0.heap.size) : Ap w p gs q p2 sg hg q2 b :=
  ⟨Nat.lt_of_lt_of_le hb h.f.size, fun e => by have := h.hk b e; omega, fun e => by have := h.hr b e; omega⟩
theorem Ap.new (h : Pq w0 w p gs q p2 sg hg q2 d e) {b : Nat} (h1 : w.heap.size ≤ b) (h2 : b < w'.heap.size) : Ap w' p gs q p2 sg hg q2 b :=
  ⟨h2, fun e => by have := h.lt (.inl e); omega, fun e => by have := h.lt (.inr e); omega⟩
theorem Ap.fr {b : Nat} (h : Ap w p gs q p2 sg hg q2 b) {T : Nat → Prop} (f : Fr T w w') : Ap w' p gs q p2 sg hg q2 b := ⟨Nat.lt_of_lt_of_le h.1 f.size, h.2⟩
theorem Ap.mv {b : Nat} {q' q2' : Value} (h : Ap w p gs q p2 sg hg q2 b) (m : Mq w w' p gs q p2 sg hg q2 q' q2') : Ap w' p gs q' p2 sg hg q2' b :=
  ⟨Nat.lt_of_lt_of_le h.1 m.f.size, fun e => by
    rcases m.k b e with e | e
    · exact h.2.1 e
    · have := h.1; omega, fun e => by
    rcases m.r b e with e | e
    · exact h.2.2 e
    · have := h.1; omega⟩
theorem Ap.not {b : Nat} (h : Ap w p gs q p2 sg hg q2 b) : ¬ (KB p gs q b ∨ RB p2 sg hg q2 b) := fun e => e.elim h.2.1 h.2.2

theorem wpa_any (a : Int) (v : Value) (l : List UInt8) (h : Pq w0 w p gs q p2 sg hg q2 d e) (hv : Rd w v l) : Calls Try.prog 27 #[.pointer (some ⟨p, 0, none⟩), .int .i64 a, v] w fun r w' => r = .returned (.int .i64 (wrE d a l)) ∧ ∃ q', Pq w0 w' p gs q' p2 sg hg q2 (wrD d a l) e ∧ Mq w w' p gs q p2 sg hg q2 q' q2 := by
  by_cases he : wrE d a l = 0
  · refine (write_ok w p gs q d a v l h.k hv he).mono ?_
    rintro r w' ⟨rfl, s⟩
    exact ⟨by rw [he], h.goK s⟩
  · refine (write_no w p gs q d a v l h.k hv he).mono ?_
    rintro r w' ⟨rfl, rfl⟩
    have e1 : wrD d a l = d := by unfold wrD; rw [if_neg he]
    rw [e1]
    exact ⟨rfl, h.goK (KSt.same h.k)⟩
theorem wra_any (a : Int) (l : List UInt8) (h : Pq w0 w p gs q p2 sg hg q2 d e) : Calls Try.prog 41 #[.pointer (some ⟨p2, 0, none⟩), .int .i64 a, .string (str l)] w fun r w' => r = .returned (.int .i64 (wrE e a l)) ∧ ∃ q2', Pq w0 w' p gs q p2 sg hg q2' d (wrD e a l) ∧ Mq w w' p gs q p2 sg hg q2 q q2' := by
  by_cases he : wrE e a l = 0
  · refine (rwrite_ok w p2 sg hg q2 e a l h.r he).mono ?_
    rintro r w' ⟨rfl, s⟩
    exact ⟨by rw [he], h.goR s⟩
  · refine (rwrite_no w p2 sg hg q2 e a l h.r he).mono ?_
    rintro r w' ⟨rfl, rfl⟩
    have e1 : wrD e a l = e := by unfold wrD; rw [if_neg he]
    rw [e1]
    exact ⟨rfl, h.goR (RSt.same h.r)⟩
theorem flp_any (h : Pq w0 w p gs q p2 sg hg q2 d e) (hn : d.n + d.Q.length ≤ 1000000000) : Calls Try.prog 24 #[.pointer (some ⟨p, 0, none⟩)] w fun r w' => r = .returned (.int .i64 (flE d)) ∧ ∃ q', Pq w0 w' p gs q' p2 sg hg q2 (flD d) e ∧ Mq w w' p gs q p2 sg hg q2 q' q2 :=
  (flush_any w p gs q d hn h.k).mono (by rintro r w' ⟨rfl, s⟩; exact ⟨rfl, h.goK s⟩)
theorem flr_any (h : Pq w0 w p gs q p2 sg hg q2 d e) (hn : e.n + e.Q.length ≤ 1000000000) : Calls Try.prog 42 #[.pointer (some ⟨p2, 0, none⟩)] w fun r w' => r = .returned (.int .i64 (flE e)) ∧ ∃ q2', Pq w0 w' p gs q p2 sg hg q2' d (flD e) ∧ Mq w w' p gs q p2 sg hg q2 q q2' :=
  (rflush_any w p2 sg hg q2 e hn h.r).mono (by rintro r w' ⟨rfl, s⟩; exact ⟨rfl, h.goR s⟩)
theorem crp_any (v : Value) (K : List Int) (h : Pq w0 w p gs q p2 sg hg q2 d e) (hn : d.n + d.Q.length < 1000000000) (hv : RdV w v (K.map (Value.int .i64))) : Calls Try.prog 23 #[.pointer (some ⟨p, 0, none⟩), v] w fun r w' => r = .returned (.tuple #[]) ∧ ∃ q', Pq w0 w' p gs q' p2 sg hg q2 (crD d K) e ∧ Mq w w' p gs q p2 sg hg q2 q' q2 :=
  (crash_any w p gs q d v K hn h.k hv).mono (by rintro r w' ⟨rfl, s⟩; exact ⟨rfl, h.goK s⟩)
theorem crr_any (v : Value) (K : List Int) (h : Pq w0 w p gs q p2 sg hg q2 d e) (hn : e.n + e.Q.length < 1000000000) (hv : RdV w v (K.map (Value.int .i64))) : Calls Try.prog 43 #[.pointer (some ⟨p2, 0, none⟩), v] w fun r w' => r = .returned (.tuple #[]) ∧ ∃ q2', Pq w0 w' p gs q p2 sg hg q2' d (crD e K) ∧ Mq w w' p gs q p2 sg hg q2 q q2' :=
  (rcrash_any w p2 sg hg q2 e v K hn h.r hv).mono (by rintro r w' ⟨rfl, s⟩; exact ⟨rfl, h.goR s⟩)
theorem fap_any (h : Pq w0 w p gs q p2 sg hg q2 d e) : Calls Try.prog 36 #[.pointer (some ⟨p, 0, none⟩)] w fun r w' => r = .returned (.tuple #[]) ∧ ∃ q', Pq w0 w' p gs q' p2 sg hg q2 (faD d) e ∧ Mq w w' p gs q p2 sg hg q2 q' q2 :=
  (fail_any w p gs q d h.k).mono (by rintro r w' ⟨rfl, s⟩; exact ⟨rfl, h.goK s⟩)
theorem far_any (h : Pq w0 w p gs q p2 sg hg q2 d e) : Calls Try.prog 44 #[.pointer (some ⟨p2, 0, none⟩)] w fun r w' => r = .returned (.tuple #[]) ∧ ∃ q2', Pq w0 w' p gs q p2 sg hg q2' d (faD e) ∧ Mq w w' p gs q p2 sg hg q2 q q2' :=
  (rfail_any w p2 sg hg q2 e h.r).mono (by rintro r w' ⟨rfl, s⟩; exact ⟨rfl, h.goR s⟩)
theorem rpp_any (h : Pq w0 w p gs q p2 sg hg q2 d e) : Calls Try.prog 37 #[.pointer (some ⟨p, 0, none⟩)] w fun r w' => r = .returned (.tuple #[]) ∧ ∃ q', Pq w0 w' p gs q' p2 sg hg q2 (rpD d) e ∧ Mq w w' p gs q p2 sg hg q2 q' q2 :=
  (replace_any w p gs q d h.k).mono (by rintro r w' ⟨rfl, s⟩; exact ⟨rfl, h.goK s⟩)
theorem rpr_any (h : Pq w0 w p gs q p2 sg hg q2 d e) : Calls Try.prog 45 #[.pointer (some ⟨p2, 0, none⟩)] w fun r w' => r = .returned (.tuple #[]) ∧ ∃ q2', Pq w0 w' p gs q p2 sg hg q2' d (rpD e) ∧ Mq w w' p gs q p2 sg hg q2 q q2' :=
  (rreplace_any w p2 sg hg q2 e h.r).mono (by rintro r w' ⟨rfl, s⟩; exact ⟨rfl, h.goR s⟩)
theorem lop_any (a : Int) (h : Pq w0 w p gs q p2 sg hg q2 d e) : Calls Try.prog 33 #[.pointer (some ⟨p, 0, none⟩), .int .i64 a] w fun r w' => r = .returned (.int .i64 (reE d a true)) ∧ ∃ q', Pq w0 w' p gs q' p2 sg hg q2 (loD d a) e ∧ Mq w w' p gs q p2 sg hg q2 q' q2 :=
  (lose_any w p gs q d a h.k).mono (by rintro r w' ⟨rfl, s⟩; exact ⟨rfl, h.goK s⟩)
theorem lor_any (a : Int) (h : Pq w0 w p gs q p2 sg hg q2 d e) : Calls Try.prog 46 #[.pointer (some ⟨p2, 0, none⟩), .int .i64 a] w fun r w' => r = .returned (.int .i64 (reE e a true)) ∧ ∃ q2', Pq w0 w' p gs q p2 sg hg q2' d (loD e a) ∧ Mq w w' p gs q p2 sg hg q2 q q2' :=
  (rlose_any w p2 sg hg q2 e a h.r).mono (by rintro r w' ⟨rfl, s⟩; exact ⟨rfl, h.goR s⟩)
theorem tup_any (a b : Int) (m : Nat) (hm : m < 4294967296) (h : Pq w0 w p gs q p2 sg hg q2 d e) : Calls Try.prog 31 #[.pointer (some ⟨p, 0, none⟩), .int .i64 a, .int .i64 b, .int .u32 (m : Int)] w fun r w' => r = .returned (.int .i64 (tuE d a b m)) ∧ ∃ q', Pq w0 w' p gs q' p2 sg hg q2 (tuD d a b m) e ∧ Mq w w' p gs q p2 sg hg q2 q' q2 :=
  (turn_any w p gs q d a b m hm h.k).mono (by rintro r w' ⟨rfl, s⟩; exact ⟨rfl, h.goK s⟩)
theorem tur_any (a b : Int) (m : Nat) (hm : m < 4294967296) (h : Pq w0 w p gs q p2 sg hg q2 d e) : Calls Try.prog 32 #[.pointer (some ⟨p2, 0, none⟩), .int .i64 a, .int .i64 b, .int .u32 (m : Int)] w fun r w' => r = .returned (.int .i64 (tuE e a b m)) ∧ ∃ q2', Pq w0 w' p gs q p2 sg hg q2' d (tuD e a b m) ∧ Mq w w' p gs q p2 sg hg q2 q q2' :=
  (rturn_any w p2 sg hg q2 e a b m hm h.r).mono (by rintro r w' ⟨rfl, s⟩; exact ⟨rfl, h.goR s⟩)
end

/-- What an act makes of a disk. -/
def acD (d : Dk) (k a b : Int) (m : Nat) (D : List UInt8) (K : List Int) : Dk :=
  if k = 1 then wrD d a D else if k = 2 then flD d else if k = 3 then crD d K else if k = 4 then faD d else if k = 5 then rpD d else if k = 6 then loD d a else if k = 7 then tuD d a b m else d

theorem crI_n (d : Dk) (K : List Bool) (i : Nat) : (crI d K i).n ≤ d.n + i := (crI_all d K i).2
theorem acD_n (d : Dk) (k a b : Int) (m : Nat) (D : List UInt8) (K : List Int) : (acD d k a b m D K).n ≤ d.n + d.Q.length := by
  unfold acD
  split
  · unfold wrD; split <;> exact Nat.le_add_right _ _
  · split
    · unfold flD
      split
      · exact Nat.le_add_right _ _
      · show (flI d d.Q.length).n ≤ _
        rw [flI_n d _ (Nat.le_refl _)]
        exact Nat.le_refl _
    · split
      · show (crI d _ d.Q.length).n ≤ _
        exact crI_n d _ _
      · split
        · exact Nat.le_add_right _ _
        · split
          · exact Nat.le_add_right _ _
          · split
            · unfold loD; split <;> exact Nat.le_add_right _ _
            · split
              · unfold tuD; split <;> exact Nat.le_add_right _ _
              · exact Nat.le_add_right _ _
end Go.Proofs.Ytdhendcogjhgfaa
