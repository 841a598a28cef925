/-
  The two allocators, plainly: what holds between them, and that every call keeps it. No program.
-/
import Derived.Test.YtbpajilglfabbaaC6
namespace Go.Proofs.Ytbpajilglfabbaa
open Go.RowKit
set_option linter.unusedVariables false

/-- The program's allocator and the document's. -/
structure Ab (K : Kc) (M : Rc) : Prop where
  s : M.s = K.s
  r : M.r = K.r
  h : M.h = K.h
  cl : K.c.length = K.s.length
  ot : M.t.Pairwise (fun x y => K.c.getD x 0 < K.c.getD y 0)
  mt : ∀ b, b ∈ M.t ↔ K.s[b]? = some 2
  og : M.g.Pairwise (fun x y => K.c.getD x 0 < K.c.getD y 0)
  mg : ∀ b, b ∈ M.g ↔ K.s[b]? = some 3
  cb : ∀ b, K.c.getD b 0 ≤ K.ch
  rf : K.r ≤ fr K.s
  hh : K.h = 0 → ∀ b : Nat, K.s[b]? ≠ some 4
  st : ∀ (b : Nat) v, K.s[b]? = some v → v.toNat ≤ 4

theorem getD_set (c : List Nat) (b x j : Nat) (hb : b < c.length) : (c.set b x).getD j 0 = if j = b then x else c.getD j 0 := by
  simp only [List.getD, List.getElem?_set]
  by_cases e : b = j
  · subst e; simp [hb]
  · rw [if_neg e, if_neg (fun h => e h.symm)]
theorem set_get (s : List UInt8) (b j : Nat) (v : UInt8) (hb : b < s.length) : (s.set b v)[j]? = if j = b then some v else s[j]? := by
  rw [List.getElem?_set]
  by_cases e : b = j
  · subst e; simp [hb]
  · rw [if_neg e, if_neg (fun h => e h.symm)]

section
variable {K : Kc} {M : Rc}

theorem Ab.nodup_t (A : Ab K M) : M.t.Nodup := A.ot.imp (fun h e => by rw [e] at h; omega)
theorem Ab.nodup_g (A : Ab K M) : M.g.Nodup := A.og.imp (fun h e => by rw [e] at h; omega)
theorem Ab.perm_t (A : Ab K M) : (idx K.s 2).Perm M.t := by
  rw [List.perm_ext_iff_of_nodup (idx_nodup _ _) A.nodup_t]
  intro b
  rw [mem_idx, A.mt]
theorem Ab.perm_g (A : Ab K M) : (idx K.s 3).Perm M.g := by
  rw [List.perm_ext_iff_of_nodup (idx_nodup _ _) A.nodup_g]
  intro b
  rw [mem_idx, A.mg]
theorem Ab.taken (A : Ab K M) : srt (fun b => K.c.getD b 0) (idx K.s 2) = M.t := srt_is _ _ _ A.perm_t A.ot
theorem Ab.given (A : Ab K M) : srt (fun b => K.c.getD b 0) (idx K.s 3) = M.g := srt_is _ _ _ A.perm_g A.og
theorem pw_inj {f : Nat → Nat} : ∀ {l : List Nat}, l.Pairwise (fun x y => f x < f y) → ∀ x ∈ l, ∀ y ∈ l, f x = f y → x = y
  | [], _, x, hx, _, _, _ => by simp at hx
  | a :: l, h, x, hx, y, hy, e => by
    rw [List.pairwise_cons] at h
    rcases List.mem_cons.1 hx with rfl | hx' <;> rcases List.mem_cons.1 hy with rfl | hy'
    · rfl
    · have := h.1 y hy'; omega
    · have := h.1 x hx'; omega
    · exact pw_inj h.2 x hx' y hy' e
theorem Ab.inj2 (A : Ab K M) : ∀ x ∈ idx K.s 2, ∀ y ∈ idx K.s 2, K.c.getD x 0 = K.c.getD y 0 → x = y := fun x hx y hy e =>
  pw_inj (f := fun b => K.c.getD b 0) A.ot x ((A.mt x).2 (mem_idx.1 hx)) y ((A.mt y).2 (mem_idx.1 hy)) e
theorem Ab.inj3 (A : Ab K M) : ∀ x ∈ idx K.s 3, ∀ y ∈ idx K.s 3, K.c.getD x 0 = K.c.getD y 0 → x = y := fun x hx y hy e =>
  pw_inj (f := fun b => K.c.getD b 0) A.og x ((A.mg x).2 (mem_idx.1 hx)) y ((A.mg y).2 (mem_idx.1 hy)) e
theorem Ab.lt_t (A : Ab K M) : M.t.length ≤ K.s.length := by rw [← A.perm_t.length_eq]; exact idx_length _ _
theorem Ab.lt_g (A : Ab K M) : M.g.length ≤ K.s.length := by rw [← A.perm_g.length_eq]; exact idx_length _ _

/-- A pairwise order under a change of one came that no member has. -/
theorem pw_set {c : List Nat} {l : List Nat} {b x : Nat} (h : l.Pairwise (fun x y => c.getD x 0 < c.getD y 0)) (hb : b < c.length) (hn : b ∉ l) : l.Pairwise (fun u v => (c.set b x).getD u 0 < (c.set b x).getD v 0) := by
  refine h.imp_of_mem ?_
  intro u v hu hv huv
  rw [getD_set _ _ _ _ hb, getD_set _ _ _ _ hb, if_neg (fun e => hn (by rw [← e]; exact hu)), if_neg (fun e => hn (by rw [← e]; exact hv))]
  exact huv

theorem set_cb (A : Ab K M) (b : Nat) (v : UInt8) (hb : b < K.c.length) : ∀ j, (K.set b v).c.getD j 0 ≤ (K.set b v).ch := fun j => by
  show (K.c.set b (K.ch + 1)).getD j 0 ≤ K.ch + 1
  rw [getD_set _ _ _ _ hb]
  have := A.cb j
  split <;> omega

theorem Ab.tk (A : Ab K M) {b : Nat} (hb : K.s[b]? = some 0) (hr : K.r < fr K.s) : Ab (K.set b 2) (M.tk b) := by
  have hbl := (List.getElem?_eq_some_iff.1 hb).1
  have hbc : b < K.c.length := by rw [A.cl]; exact hbl
  have nt : b ∉ M.t := fun h => by rw [A.mt, hb] at h; simp at h
  have ng : b ∉ M.g := fun h => by rw [A.mg, hb] at h; simp at h
  refine ⟨by simp [Rc.tk, Kc.set, A.s], A.r, A.h, by simp [Kc.set, A.cl], ?_, fun j => ?_, pw_set A.og hbc ng, fun j => ?_, set_cb A b 2 hbc, ?_, fun h j => ?_, fun j v hv => ?_⟩
  · show (M.t ++ [b]).Pairwise _
    rw [List.pairwise_append]
    refine ⟨pw_set A.ot hbc nt, List.pairwise_singleton _ _, fun x hx y hy => ?_⟩
    simp at hy
    subst hy
    show (K.c.set y (K.ch + 1)).getD x 0 < (K.c.set y (K.ch + 1)).getD y 0
    rw [getD_set _ _ _ _ hbc, getD_set _ _ _ _ hbc, if_pos rfl, if_neg (fun e => nt (by rw [← e]; exact hx))]
    have := A.cb x
    omega
  · show j ∈ M.t ++ [b] ↔ (K.s.set b 2)[j]? = some 2
    rw [set_get _ _ _ _ hbl]
    by_cases e : j = b
    · subst e; simp
    · rw [if_neg e, ← A.mt]; simp [e]
  · show j ∈ M.g ↔ (K.s.set b 2)[j]? = some 3
    rw [set_get _ _ _ _ hbl]
    by_cases e : j = b
    · subst e; simp [ng]
    · rw [if_neg e, ← A.mg]
  · show K.r ≤ fr (K.s.set b 2)
    rw [fr_set hb]
    simp
    omega
  · show (K.s.set b 2)[j]? ≠ some 4
    rw [set_get _ _ _ _ hbl]
    by_cases e : j = b
    · rw [if_pos e]; decide
    · rw [if_neg e]; exact A.hh h j
  · have hv : (K.s.set b 2)[j]? = some v := hv
    rw [set_get _ _ _ _ hbl] at hv
    by_cases e : j = b
    · rw [if_pos e] at hv; simp at hv; rw [← hv]; decide
    · rw [if_neg e] at hv; exact A.st j v hv

theorem Ab.giveU (A : Ab K M) {b : Nat} (hb : K.s[b]? = some 1) : Ab (K.set b 3) { M with s := M.s.set b 3, g := M.g ++ [b] } := by
  have hbl := (List.getElem?_eq_some_iff.1 hb).1
  have hbc : b < K.c.length := by rw [A.cl]; exact hbl
  have nt : b ∉ M.t := fun h => by rw [A.mt, hb] at h; simp at h
  have ng : b ∉ M.g := fun h => by rw [A.mg, hb] at h; simp at h
  refine ⟨by simp [Kc.set, A.s], A.r, A.h, by simp [Kc.set, A.cl], pw_set A.ot hbc nt, fun j => ?_, ?_, fun j => ?_, set_cb A b 3 hbc, ?_, fun h j => ?_, fun j v hv => ?_⟩
  · show j ∈ M.t ↔ (K.s.set b 3)[j]? = some 2
    rw [set_get _ _ _ _ hbl]
    by_cases e : j = b
    · subst e; simp [nt]
    · rw [if_neg e, ← A.mt]
  · show (M.g ++ [b]).Pairwise _
    rw [List.pairwise_append]
    refine ⟨pw_set A.og hbc ng, List.pairwise_singleton _ _, fun x hx y hy => ?_⟩
    simp at hy
    subst hy
    show (K.c.set y (K.ch + 1)).getD x 0 < (K.c.set y (K.ch + 1)).getD y 0
    rw [getD_set _ _ _ _ hbc, getD_set _ _ _ _ hbc, if_pos rfl, if_neg (fun e => ng (by rw [← e]; exact hx))]
    have := A.cb x
    omega
  · show j ∈ M.g ++ [b] ↔ (K.s.set b 3)[j]? = some 3
    rw [set_get _ _ _ _ hbl]
    by_cases e : j = b
    · subst e; simp
    · rw [if_neg e, ← A.mg]; simp [e]
  · show K.r ≤ fr (K.s.set b 3)
    rw [fr_set hb]
    have := A.rf
    simpa using this
  · show (K.s.set b 3)[j]? ≠ some 4
    rw [set_get _ _ _ _ hbl]
    by_cases e : j = b
    · rw [if_pos e]; decide
    · rw [if_neg e]; exact A.hh h j
  · have hv : (K.s.set b 3)[j]? = some v := hv
    rw [set_get _ _ _ _ hbl] at hv
    by_cases e : j = b
    · rw [if_pos e] at hv; simp at hv; rw [← hv]; decide
    · rw [if_neg e] at hv; exact A.st j v hv

theorem Ab.giveT (A : Ab K M) {b : Nat} (hb : K.s[b]? = some 2) : Ab (K.set b 0) { M with s := M.s.set b 0, t := wo M.t b } := by
  have hbl := (List.getElem?_eq_some_iff.1 hb).1
  have hbc : b < K.c.length := by rw [A.cl]; exact hbl
  have ng : b ∉ M.g := fun h => by rw [A.mg, hb] at h; simp at h
  refine ⟨by simp [Kc.set, A.s], A.r, A.h, by simp [Kc.set, A.cl], ?_, fun j => ?_, pw_set A.og hbc ng, fun j => ?_, set_cb A b 0 hbc, ?_, fun h j => ?_, fun j v hv => ?_⟩
  · show (wo M.t b).Pairwise _
    refine pw_set (A.ot.filter _) hbc ?_
    simp [wo]
  · show j ∈ wo M.t b ↔ (K.s.set b 0)[j]? = some 2
    rw [set_get _ _ _ _ hbl]
    by_cases e : j = b
    · subst e; simp [wo]
    · rw [if_neg e, ← A.mt]; simp [wo, e]
  · show j ∈ M.g ↔ (K.s.set b 0)[j]? = some 3
    rw [set_get _ _ _ _ hbl]
    by_cases e : j = b
    · subst e; simp [ng]
    · rw [if_neg e, ← A.mg]
  · show K.r ≤ fr (K.s.set b 0)
    rw [fr_set hb]
    have := A.rf
    simp
    omega
  · show (K.s.set b 0)[j]? ≠ some 4
    rw [set_get _ _ _ _ hbl]
    by_cases e : j = b
    · rw [if_pos e]; decide
    · rw [if_neg e]; exact A.hh h j
  · have hv : (K.s.set b 0)[j]? = some v := hv
    rw [set_get _ _ _ _ hbl] at hv
    by_cases e : j = b
    · rw [if_pos e] at hv; simp at hv; rw [← hv]; decide
    · rw [if_neg e] at hv; exact A.st j v hv

theorem Ab.setR (A : Ab K M) (n : Nat) (h : n ≤ fr K.s) : Ab { K with r := n } { M with r := n } := { A with r := rfl, rf := h }
theorem Ab.hold (A : Ab K M) : Ab { K with h := K.h + 1 } { M with h := M.h + 1 } := { A with h := by show M.h + 1 = K.h + 1; rw [A.h], hh := fun h => by simp at h }

theorem Ab.take (A : Ab K M) (a : Int) : (K.take a).2 = (M.take a).2 ∧ Ab (K.take a).1 (M.take a).1 := by
  unfold Kc.take Rc.take
  rw [A.s, A.r]
  split
  · split
    · rename_i h
      exact ⟨rfl, A.tk (pk_free (by omega) _) h⟩
    · exact ⟨rfl, A⟩
  · exact ⟨rfl, A⟩
theorem Ab.takeR (A : Ab K M) (a : Int) : (K.takeR a).2 = (M.takeR a).2 ∧ Ab (K.takeR a).1 (M.takeR a).1 := by
  unfold Kc.takeR Rc.takeR
  rw [A.s, A.r]
  have hf := A.rf
  split
  · split
    · exact ⟨rfl, A⟩
    · rename_i h
      have A1 := A.setR (K.r - 1) (by omega)
      refine ⟨rfl, ?_⟩
      have := A1.tk (b := pk K.s a.toNat) (pk_free (show 0 < fr K.s by omega) _) (by show K.r - 1 < fr K.s; omega)
      rw [A.s] at this
      exact this
  · exact ⟨rfl, A⟩
theorem Ab.give (A : Ab K M) (a : Int) : (K.give a).2 = (M.give a).2 ∧ Ab (K.give a).1 (M.give a).1 := by
  unfold Kc.give Rc.give
  rw [A.s]
  split
  · split
    · rename_i h
      have := A.giveU h
      rw [A.s] at this
      exact ⟨rfl, this⟩
    · split
      · rename_i h
        have := A.giveT h
        rw [A.s] at this
        exact ⟨rfl, this⟩
      · exact ⟨rfl, A⟩
  · exact ⟨rfl, A⟩
theorem Ab.mark (A : Ab K M) (a : Int) : (K.mark a).2 = (M.mark a).2 ∧ Ab (K.mark a).1 (M.mark a).1 := by
  unfold Kc.mark Rc.mark
  rw [A.s, A.r]
  split
  · split
    · rename_i h
      exact ⟨rfl, A.tk h.1 h.2⟩
    · exact ⟨rfl, A⟩
  · exact ⟨rfl, A⟩
theorem Ab.reserve (A : Ab K M) (a : Int) : (K.reserve a).2 = (M.reserve a).2 ∧ Ab (K.reserve a).1 (M.reserve a).1 := by
  unfold Kc.reserve Rc.reserve
  rw [A.s, A.r]
  split
  · exact ⟨rfl, A⟩
  · split
    · exact ⟨rfl, A⟩
    · exact ⟨rfl, by have := A.setR (K.r + a.toNat) (by omega); rw [A.s] at this; exact this⟩
theorem Ab.release (A : Ab K M) (a : Int) : (K.release a).2 = (M.release a).2 ∧ Ab (K.release a).1 (M.release a).1 := by
  unfold Kc.release Rc.release
  rw [A.r]
  have hf := A.rf
  split
  · exact ⟨rfl, A⟩
  · exact ⟨rfl, A.setR (K.r - a.toNat) (by omega)⟩

theorem fr_rep (s : List UInt8) (u v : UInt8) (hu : u ≠ 0) : fr s ≤ fr (rep s u v) := by
  unfold fr rep
  induction s with
  | nil => simp
  | cons x s ih =>
    simp only [List.map_cons, List.count_cons]
    by_cases e : x = 0
    · subst e
      have h0 : ¬ (0 : UInt8) = u := fun h => hu h.symm
      simp only [h0, if_false]
      exact Nat.add_le_add_right ih _
    · have h1 : (x == 0) = false := by simpa using e
      rw [h1]
      simp only [Bool.false_eq_true, if_false]
      omega

theorem setL_facts (K : Kc) (l : List Nat) (v : UInt8) (hcl : K.c.length = K.s.length) (hcb : ∀ b, K.c.getD b 0 ≤ K.ch) (hl : ∀ b ∈ l, b < K.s.length) : (K.setL l v).c.length = (K.setL l v).s.length ∧ ∀ b, (K.setL l v).c.getD b 0 ≤ (K.setL l v).ch := by
  induction l generalizing K with
  | nil => exact ⟨hcl, hcb⟩
  | cons x l ih =>
    have hx : x < K.s.length := hl x (List.mem_cons_self ..)
    refine ih (K.set x v) (by simp [Kc.set, hcl]) (fun b => ?_) (fun b hb => by simpa [Kc.set] using hl b (List.mem_cons_of_mem _ hb))
    show (K.c.set x (K.ch + 1)).getD b 0 ≤ K.ch + 1
    rw [getD_set _ _ _ _ (by rw [hcl]; exact hx)]
    have := hcb b
    split <;> omega

theorem rep_none {s : List UInt8} {u v : UInt8} (h : u ≠ v) (b : Nat) : (rep s u v)[b]? ≠ some u := by
  rw [rep_get]
  cases s[b]? with
  | none => simp
  | some x =>
    by_cases e : x = u
    · simp [e, h.symm]
    · simp [e]
theorem rep_comm (s : List UInt8) (x : UInt8) (hx : x ≠ 2) : rep (rep s 2 1) 3 x = rep (rep s 3 x) 2 1 := by
  unfold rep
  rw [List.map_map, List.map_map]
  apply List.map_congr_left
  intro y _
  simp only [Function.comp]
  by_cases h2 : y = 2
  · subst h2; simp
  · by_cases h3 : y = 3
    · subst h3; simp [hx]
    · simp [h2, h3]
theorem rep_st {s : List UInt8} {u v : UInt8} (hv : v.toNat ≤ 4) (h : ∀ (b : Nat) x, s[b]? = some x → x.toNat ≤ 4) : ∀ (b : Nat) x, (rep s u v)[b]? = some x → x.toNat ≤ 4 := fun b x hx => by
  rw [rep_get, Option.map_eq_some_iff] at hx
  obtain ⟨y, hy, rfl⟩ := hx
  by_cases e : y = u
  · rw [if_pos e]; exact hv
  · rw [if_neg e]; exact h b y hy

theorem commit_s (K : Kc) : K.commit.s = rep (rep K.s 3 (if 0 < K.h then 4 else 0)) 2 1 := by
  unfold Kc.commit
  rw [Kc.setL_s, Kc.setL_s, setL_rep]
  rw [← rep_comm _ _ (by split <;> decide)]
  have := setL_rep (rep K.s 2 1) 3 (if 0 < K.h then 4 else 0)
  rw [idx_rep (by decide) (by decide)] at this
  exact this
theorem abort_s (K : Kc) : K.abort.s = rep (rep K.s 2 0) 3 1 := by
  unfold Kc.abort
  rw [Kc.setL_s]
  have : (K.setL (idx K.s 2) 0).s = rep K.s 2 0 := by rw [Kc.setL_s, setL_rep]
  rw [this, setL_rep]

theorem Ab.commit (A : Ab K M) : Ab K.commit M.commit := by
  have hs := commit_s K
  have f1 := setL_facts K (idx K.s 2) 1 A.cl A.cb idx_lt
  have f2 := setL_facts _ (idx K.s 3) (if 0 < K.h then 4 else 0) f1.1 f1.2 (fun b hb => by rw [Kc.setL_s, setL_length]; exact idx_lt b hb)
  have h2 : ∀ b : Nat, K.commit.s[b]? ≠ some 2 := fun b => by rw [hs]; exact rep_none (by decide) b
  have h3 : ∀ b : Nat, K.commit.s[b]? ≠ some 3 := fun b => by
    rw [hs]
    intro h
    rw [rep_ne (by decide) (by decide)] at h
    exact rep_none (by split <;> decide) b h
  have hr : K.commit.r = K.r := by unfold Kc.commit; rw [Kc.setL_r, Kc.setL_r]
  have hh : K.commit.h = K.h := by unfold Kc.commit; rw [Kc.setL_h, Kc.setL_h]
  refine ⟨?_, by rw [hr]; exact A.r, by rw [hh]; exact A.h, f2.1, List.Pairwise.nil, fun b => ?_, List.Pairwise.nil, fun b => ?_, f2.2, ?_, fun h b => ?_, ?_⟩
  · rw [hs]; show rep (rep M.s 3 (if 0 < M.h then 4 else 0)) 2 1 = _; rw [A.s, A.h]
  · exact ⟨fun h => by simp [Rc.commit] at h, fun h => absurd h (h2 b)⟩
  · exact ⟨fun h => by simp [Rc.commit] at h, fun h => absurd h (h3 b)⟩
  · rw [hr, hs]
    exact Nat.le_trans A.rf (Nat.le_trans (fr_rep _ _ _ (by decide)) (fr_rep _ _ _ (by decide)))
  · rw [hh] at h
    rw [hs, if_neg (by omega)]
    intro h'
    rw [rep_ne (by decide) (by decide), rep_ne (by decide) (by decide)] at h'
    exact A.hh h b h'
  · rw [hs]
    exact rep_st (by decide) (rep_st (by split <;> decide) A.st)

theorem Ab.abort (A : Ab K M) : Ab K.abort M.abort := by
  have hs := abort_s K
  have f1 := setL_facts K (idx K.s 2) 0 A.cl A.cb idx_lt
  have f2 := setL_facts _ (idx (K.setL (idx K.s 2) 0).s 3) 1 f1.1 f1.2 idx_lt
  have h3 : ∀ b : Nat, K.abort.s[b]? ≠ some 3 := fun b => by rw [hs]; exact rep_none (by decide) b
  have h2 : ∀ b : Nat, K.abort.s[b]? ≠ some 2 := fun b => by
    rw [hs]
    intro h
    rw [rep_ne (by decide) (by decide)] at h
    exact rep_none (by decide) b h
  have hr : K.abort.r = K.r := by unfold Kc.abort; rw [Kc.setL_r, Kc.setL_r]
  have hh : K.abort.h = K.h := by unfold Kc.abort; rw [Kc.setL_h, Kc.setL_h]
  refine ⟨?_, by rw [hr]; exact A.r, by rw [hh]; exact A.h, f2.1, List.Pairwise.nil, fun b => ?_, List.Pairwise.nil, fun b => ?_, f2.2, ?_, fun h b => ?_, ?_⟩
  · rw [hs]; show rep (rep M.s 2 0) 3 1 = _; rw [A.s]
  · exact ⟨fun h => by simp [Rc.abort] at h, fun h => absurd h (h2 b)⟩
  · exact ⟨fun h => by simp [Rc.abort] at h, fun h => absurd h (h3 b)⟩
  · rw [hr, hs]
    exact Nat.le_trans A.rf (Nat.le_trans (fr_rep _ _ _ (by decide)) (fr_rep _ _ _ (by decide)))
  · rw [hh] at h
    rw [hs]
    intro h'
    rw [rep_ne (by decide) (by decide), rep_ne (by decide) (by decide)] at h'
    exact A.hh h b h'
  · rw [hs]
    exact rep_st (by decide) (rep_st (by decide) A.st)

theorem Ab.letGo (A : Ab K M) : K.letGo.2 = M.letGo.2 ∧ Ab K.letGo.1 M.letGo.1 := by
  unfold Kc.letGo Rc.letGo
  rw [A.h]
  by_cases h0 : K.h = 0
  · rw [if_pos h0, if_pos h0]; exact ⟨rfl, A⟩
  · rw [if_neg h0, if_neg h0]
    by_cases h1 : 1 < K.h
    · rw [if_pos h1, if_pos h1]
      exact ⟨rfl, { A with h := rfl, hh := fun h => by have h : K.h - 1 = 0 := h; omega }⟩
    · rw [if_neg h1, if_neg h1]
      have f1 := setL_facts { K with h := K.h - 1 } (idx K.s 4) 0 A.cl A.cb idx_lt
      have hs : (({ K with h := K.h - 1 } : Kc).setL (idx K.s 4) 0).s = rep K.s 4 0 := by rw [Kc.setL_s]; exact setL_rep _ _ _
      have m2 : ∀ b : Nat, (rep K.s 4 0)[b]? = some 2 ↔ K.s[b]? = some 2 := fun b => rep_ne (by decide) (by decide) b
      have m3 : ∀ b : Nat, (rep K.s 4 0)[b]? = some 3 ↔ K.s[b]? = some 3 := fun b => rep_ne (by decide) (by decide) b
      have hold : ∀ (l : List Nat) (K1 : Kc) (L : List Nat), (∀ b ∈ L, b ∉ l) → (∀ b ∈ l, b < K1.c.length) → L.Pairwise (fun x y => K1.c.getD x 0 < K1.c.getD y 0) → L.Pairwise (fun x y => (K1.setL l 0).c.getD x 0 < (K1.setL l 0).c.getD y 0) := by
        intro l
        induction l with
        | nil => intro K1 L _ _ h; exact h
        | cons x l ih =>
          intro K1 L hn hb h
          refine ih (K1.set x 0) L (fun b hb' h' => hn b hb' (List.mem_cons_of_mem _ h')) (fun b hb' => by simpa [Kc.set] using hb b (List.mem_cons_of_mem _ hb')) ?_
          exact pw_set h (hb x (List.mem_cons_self ..)) (fun h' => hn x h' (List.mem_cons_self ..))
      refine ⟨by rw [A.s], by rw [hs, ← A.s], ?_, ?_, f1.1, ?_, fun b => ?_, ?_, fun b => ?_, f1.2, ?_, fun h b => ?_, ?_⟩
      · rw [Kc.setL_r]; exact A.r
      · rw [Kc.setL_h]
      · exact hold (idx K.s 4) { K with h := K.h - 1 } M.t (fun b hb h' => by rw [A.mt] at hb; rw [mem_idx, hb] at h'; simp at h') (fun b hb => by show b < K.c.length; rw [A.cl]; exact idx_lt b hb) A.ot
      · rw [hs, m2]; exact A.mt b
      · exact hold (idx K.s 4) { K with h := K.h - 1 } M.g (fun b hb h' => by rw [A.mg] at hb; rw [mem_idx, hb] at h'; simp at h') (fun b hb => by show b < K.c.length; rw [A.cl]; exact idx_lt b hb) A.og
      · rw [hs, m3]; exact A.mg b
      · rw [Kc.setL_r, hs]; exact Nat.le_trans A.rf (fr_rep _ _ _ (by decide))
      · rw [hs]; exact rep_none (by decide) b
      · rw [hs]; exact rep_st (by decide) A.st
end

theorem Ab.new (n : Nat) : Ab (kc0 n) (rc0 n) := by
  have hz : ∀ (b : Nat) v, (List.replicate n (0 : UInt8))[b]? = some v → v = 0 := fun b v h => by
    rw [List.getElem?_replicate] at h
    split at h <;> simp at h
    exact h.symm
  have hcz : ∀ b, (List.replicate n 0).getD b 0 = 0 := fun b => by
    simp only [List.getD, List.getElem?_replicate]
    split <;> rfl
  refine ⟨rfl, rfl, rfl, by simp [kc0], List.Pairwise.nil, fun b => ⟨fun h => by simp [rc0] at h, fun h => ?_⟩, List.Pairwise.nil, fun b => ⟨fun h => by simp [rc0] at h, fun h => ?_⟩, fun b => ?_, Nat.zero_le _, fun _ b h => ?_, fun b v h => ?_⟩
  · exact absurd (hz b 2 h) (by decide)
  · exact absurd (hz b 3 h) (by decide)
  · show (List.replicate n 0).getD b 0 ≤ 0; rw [hcz]; exact Nat.le_refl _
  · exact absurd (hz b 4 h) (by decide)
  · rw [hz b v h]; decide
end Go.Proofs.Ytbpajilglfabbaa
