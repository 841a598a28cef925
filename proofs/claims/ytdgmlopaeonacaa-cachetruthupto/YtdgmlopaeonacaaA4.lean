/-
  The ring of blocks by their last use.
-/
import Derived.Test.YtdgmlopaeonacaaA3
namespace Go.Proofs.Ytdgmlopaeonacaa
open Go.RowKit
set_option linter.unusedVariables false

attribute [local go_sem ↓] Go.wp_at_zero Go.wp_at_succ

/-- From a through l to z. -/
def Chn (f : Nat → Nat) : Nat → List Nat → Nat → Prop
  | a, [], z => f a = z
  | a, b :: l, z => f a = b ∧ Chn f b l z
def lst (u : Nat) : List Nat → Nat
  | [] => u
  | b :: l => lst b l
def upd (f : Nat → Nat) (k v : Nat) (x : Nat) : Nat := if x = k then v else f x

theorem Chn.app {f : Nat → Nat} {b z : Nat} {B : List Nat} : ∀ {A : List Nat} {u : Nat}, Chn f u (A ++ b :: B) z ↔ Chn f u A b ∧ Chn f b B z
  | [], u => Iff.rfl
  | a :: A, u => by
    show (f u = a ∧ Chn f a (A ++ b :: B) z) ↔ (f u = a ∧ Chn f a A b) ∧ Chn f b B z
    rw [Chn.app (A := A), and_assoc]
theorem lst_mem (u : Nat) (A : List Nat) : lst u A ∈ u :: A := by
  induction A generalizing u with
  | nil => simp [lst]
  | cons a A ih => exact List.mem_cons_of_mem _ (ih a)
theorem lst_app (u b : Nat) (A : List Nat) : lst u (A ++ [b]) = b := by
  induction A generalizing u with
  | nil => rfl
  | cons a A ih => exact ih a
theorem Chn.last {f : Nat → Nat} {z : Nat} : ∀ {A : List Nat} {u : Nat}, Chn f u A z → f (lst u A) = z
  | [], u, h => h
  | a :: A, u, h => Chn.last (A := A) h.2
theorem Chn.off {f : Nat → Nat} {k v z : Nat} : ∀ {A : List Nat} {u : Nat}, Chn f u A z → k ∉ u :: A → Chn (upd f k v) u A z
  | [], u, h, hk => by
    have : ¬ u = k := fun e => hk (by simp [e])
    show upd f k v u = z
    unfold upd; rw [if_neg this]; exact h
  | a :: A, u, h, hk => by
    have : ¬ u = k := fun e => hk (by simp [e])
    refine ⟨?_, h.2.off (fun hm => hk (List.mem_cons_of_mem _ hm))⟩
    unfold upd; rw [if_neg this]; exact h.1
/-- The last one leads elsewhere. -/
theorem Chn.turn {f : Nat → Nat} {v z : Nat} : ∀ {A : List Nat} {u : Nat}, Chn f u A z → (u :: A).Nodup → Chn (upd f (lst u A) v) u A v
  | [], u, h, hn => by show upd f u v u = v; simp [upd]
  | a :: A, u, h, hn => by
    have hn' := List.nodup_cons.1 hn
    refine ⟨?_, h.2.turn hn'.2⟩
    have : ¬ u = lst a A := fun e => hn'.1 (by rw [e]; exact lst_mem a A)
    unfold upd
    show (if u = lst a A then v else f u) = a
    rw [if_neg this]; exact h.1

def adr (R : List (Nat × Pl)) : List Nat := R.map Prod.fst
theorem adr_app (A B : List (Nat × Pl)) : adr (A ++ B) = adr A ++ adr B := by simp [adr]

/-- The ring: its beginning u, then the blocks, the longest ago first. -/
structure Ring (w : World) (u : Nat) (R : List (Nat × Pl)) : Prop where
  ex : ∃ older newer : Nat → Nat, (∀ q ∈ (u, zeroP 0) :: R, NAt w q.1 (ptr (older q.1)) (ptr (newer q.1)) q.2) ∧ Chn newer u (adr R) u ∧ ∀ k ∈ u :: adr R, older (newer k) = k
  nd : (u :: adr R).Nodup

theorem Ring.kept {S : Nat → Prop} {w w' : World} {u : Nat} {R : List (Nat × Pl)} (h : Ring w u R) (f : Fr S w w') (hs : ∀ k ∈ u :: adr R, ¬ S k) : Ring w' u R := by
  obtain ⟨⟨o, n, h1, h2⟩, h3⟩ := h
  refine ⟨⟨o, n, fun q hq => (h1 q hq).kept f (hs _ ?_), h2⟩, h3⟩
  rcases List.mem_cons.1 hq with rfl | hq
  · exact List.mem_cons_self ..
  · exact List.mem_cons_of_mem _ (List.mem_map.2 ⟨q, hq, rfl⟩)

theorem Ring.at {w : World} {u : Nat} {R : List (Nat × Pl)} (h : Ring w u R) {k : Nat} (hk : k ∈ u :: adr R) : ∃ o n y, NAt w k (ptr o) (ptr n) y := by
  obtain ⟨⟨o, n, h1, h2⟩, h3⟩ := h
  rcases List.mem_cons.1 hk with rfl | hk
  · exact ⟨_, _, _, h1 _ (List.mem_cons_self ..)⟩
  · obtain ⟨q, hq, rfl⟩ := List.mem_map.1 hk
    exact ⟨_, _, _, h1 q (List.mem_cons_of_mem _ hq)⟩

theorem mem_adr {R : List (Nat × Pl)} {q : Nat × Pl} (h : q ∈ R) : q.1 ∈ adr R := List.mem_map.2 ⟨q, h, rfl⟩

theorem ring_unlink (w : World) (u : Nat) (R1 R2 : List (Nat × Pl)) (q : Nat × Pl) (h : Ring w u (R1 ++ q :: R2)) : Calls Try.prog 66 #[ptr q.1] w fun e w' => e = .returned (.tuple #[]) ∧ Ring w' u (R1 ++ R2) ∧ NAt w' q.1 (.pointer none) (.pointer none) q.2 ∧ Fr (fun k => k ∈ u :: adr (R1 ++ q :: R2)) w w' := by
  obtain ⟨⟨o, n, h1, h2, h3⟩, hnd⟩ := h
  have hA : adr (R1 ++ q :: R2) = adr R1 ++ q.1 :: adr R2 := by simp [adr]
  rw [hA] at h2 h3 hnd
  obtain ⟨hc1, hc2⟩ := Chn.app.1 h2
  have hsub : ∀ k, k ∈ u :: (adr R1 ++ adr R2) → k ∈ u :: (adr R1 ++ q.1 :: adr R2) := fun k hk => by simp at hk ⊢; rcases hk with h | h | h <;> simp [h]
  have hqm : q.1 ∈ u :: (adr R1 ++ q.1 :: adr R2) := by simp
  have hnd2 : (u :: (adr R1 ++ adr R2)).Nodup ∧ q.1 ∉ u :: (adr R1 ++ adr R2) := by
    have e : (u :: (adr R1 ++ q.1 :: adr R2)).Perm (q.1 :: u :: (adr R1 ++ adr R2)) := by
      have := List.perm_middle (a := q.1) (l₁ := u :: adr R1) (l₂ := adr R2)
      simpa using this
    have := (e.nodup_iff).1 hnd
    exact ⟨(List.nodup_cons.1 this).2, (List.nodup_cons.1 this).1⟩
  obtain ⟨hnd2, hq⟩ := hnd2
  have hpm : lst u (adr R1) ∈ u :: (adr R1 ++ adr R2) := by
    have := lst_mem u (adr R1)
    simp at this ⊢
    rcases this with h | h
    · exact .inl h
    · exact .inr (.inl h)
  have hpn : n (lst u (adr R1)) = q.1 := hc1.last
  have hop : o q.1 = lst u (adr R1) := by rw [← hpn]; exact h3 _ (hsub _ hpm)
  have hnm : n q.1 ∈ u :: (adr R1 ++ adr R2) := by
    cases hR : adr R2 with
    | nil => rw [hR] at hc2; have : n q.1 = u := hc2; rw [this]; simp
    | cons b B => rw [hR] at hc2; have : n q.1 = b := hc2.1; rw [this]; simp
  have get : ∀ k, k ∈ u :: (adr R1 ++ q.1 :: adr R2) → ∃ y, NAt w k (ptr (o k)) (ptr (n k)) y := fun k hk => by
    rcases List.mem_cons.1 hk with rfl | hk
    · exact ⟨_, h1 _ (List.mem_cons_self ..)⟩
    · rw [← hA] at hk
      obtain ⟨x, hx, rfl⟩ := List.mem_map.1 hk
      exact ⟨_, h1 x (List.mem_cons_of_mem _ hx)⟩
  have hx := h1 q (by simp)
  obtain ⟨yp, hp⟩ := get _ (hsub _ hpm)
  obtain ⟨yn, hn⟩ := get _ (hsub _ hnm)
  rw [hpn] at hp
  rw [h3 _ hqm] at hn
  rw [hop] at hx
  refine (unlink_any w q.1 (lst u (adr R1)) (n q.1) q.2 hx ⟨_, _, hp⟩ ⟨_, _, hn⟩ (fun e => hq (by rw [e]; exact hpm)) (fun e => hq (by rw [e]; exact hnm))).mono ?_
  rintro e w' ⟨rfl, k1, k2, k3⟩
  refine ⟨rfl, ⟨⟨fun k => if k = n q.1 then lst u (adr R1) else o k, upd n (lst u (adr R1)) (n q.1), fun x hx => ?_, ?_, fun k hk => ?_⟩, by rw [adr_app]; exact hnd2⟩, k2, k3.mono fun k _ hk => ?_⟩
  · have hxm : x.1 ∈ u :: (adr R1 ++ adr R2) := by
      rcases List.mem_cons.1 hx with rfl | hx
      · exact List.mem_cons_self ..
      · rw [← adr_app]; exact List.mem_cons_of_mem _ (mem_adr hx)
    have hx' : x ∈ (u, zeroP 0) :: (R1 ++ q :: R2) := by
      rcases List.mem_cons.1 hx with rfl | hx
      · exact List.mem_cons_self ..
      · refine List.mem_cons_of_mem _ ?_
        rcases List.mem_append.1 hx with h | h
        · exact List.mem_append_left _ h
        · exact List.mem_append_right _ (List.mem_cons_of_mem _ h)
    have := k1 _ _ _ _ (h1 x hx') (fun e => hq (by rw [← e]; exact hxm))
    unfold upd
    have e1 : (if x.1 = n q.1 then ptr (lst u (adr R1)) else ptr (o x.1)) = ptr (if x.1 = n q.1 then lst u (adr R1) else o x.1) := by split <;> rfl
    have e2 : (if x.1 = lst u (adr R1) then ptr (n q.1) else ptr (n x.1)) = ptr (if x.1 = lst u (adr R1) then n q.1 else n x.1) := by split <;> rfl
    rw [e1, e2] at this
    exact this
  · rw [adr_app]
    have hnd1 : (u :: adr R1).Nodup := by
      have := hnd2
      rw [show u :: (adr R1 ++ adr R2) = (u :: adr R1) ++ adr R2 from rfl] at this
      exact (List.nodup_append.1 this).1
    have t1 : Chn (upd n (lst u (adr R1)) (n q.1)) u (adr R1) (n q.1) := hc1.turn hnd1
    cases hR : adr R2 with
    | nil =>
      rw [hR] at hc2
      have e : n q.1 = u := hc2
      rw [List.append_nil]
      have t2 := t1
      rw [e] at t2
      rw [e]
      exact t2
    | cons b B =>
      rw [hR] at hc2 hnd2
      have e : n q.1 = b := hc2.1
      refine Chn.app.2 ⟨?_, hc2.2.off (fun hm => ?_)⟩
      · have t2 := t1
        rw [e] at t2
        rw [e]
        exact t2
      · have hd := hnd2
        rw [show u :: (adr R1 ++ b :: B) = (u :: adr R1) ++ b :: B from rfl] at hd
        exact (List.nodup_append.1 hd).2.2 _ (lst_mem u (adr R1)) _ hm rfl
  · rw [adr_app] at hk
    show (if upd n (lst u (adr R1)) (n q.1) k = n q.1 then lst u (adr R1) else o (upd n (lst u (adr R1)) (n q.1) k)) = k
    unfold upd
    by_cases hkp : k = lst u (adr R1)
    · rw [if_pos hkp, if_pos rfl, hkp]
    · rw [if_neg hkp]
      have hne : ¬ n k = n q.1 := fun e => by
        have := congrArg o e
        rw [h3 _ (hsub _ hk), h3 _ hqm] at this
        exact hq (by rw [← this]; exact hk)
      rw [if_neg hne]
      exact h3 _ (hsub _ hk)
  · rw [hA]
    rcases hk with rfl | rfl | rfl
    · exact hsub _ hpm
    · exact hsub _ hnm
    · exact hqm

theorem ring_link (w : World) (u : Nat) (R : List (Nat × Pl)) (a : Nat) (x : Pl) (o' m' : Value) (h : Ring w u R) (ha : NAt w a o' m' x) (hna : a ∉ u :: adr R) : Calls Try.prog 65 #[ptr a, ptr u] w fun e w' => e = .returned (.tuple #[]) ∧ Ring w' u (R ++ [(a, x)]) ∧ Fr (fun k => k = a ∨ k ∈ u :: adr R) w w' := by
  obtain ⟨⟨o, n, h1, h2, h3⟩, hnd⟩ := h
  have get : ∀ k, k ∈ u :: adr R → ∃ y, NAt w k (ptr (o k)) (ptr (n k)) y := fun k hk => by
    rcases List.mem_cons.1 hk with rfl | hk
    · exact ⟨_, h1 _ (List.mem_cons_self ..)⟩
    · obtain ⟨x, hx, rfl⟩ := List.mem_map.1 hk
      exact ⟨_, h1 x (List.mem_cons_of_mem _ hx)⟩
  have hpm := lst_mem u (adr R)
  have hpn : n (lst u (adr R)) = u := h2.last
  have hou : o u = lst u (adr R) := by have := h3 _ hpm; rw [hpn] at this; exact this
  have hu := h1 (u, zeroP 0) (List.mem_cons_self ..)
  obtain ⟨yp, hp⟩ := get _ hpm
  rw [hpn] at hp
  rw [show o (u, zeroP 0).1 = lst u (adr R) from hou] at hu
  refine (linkAhead_any w a u (lst u (adr R)) x o' m' ha ⟨_, _, hu⟩ ⟨_, _, hp⟩ (fun e => hna (by rw [e]; simp)) (fun e => hna (by rw [e]; exact hpm))).mono ?_
  rintro e w' ⟨rfl, k1, k2, k3⟩
  have hadr : adr (R ++ [(a, x)]) = adr R ++ [a] := by simp [adr]
  refine ⟨rfl, ⟨⟨upd (upd o a (lst u (adr R))) u a, upd (upd n a u) (lst u (adr R)) a, fun y hy => ?_, ?_, fun k hk => ?_⟩, ?_⟩, k3.mono fun k _ hk => ?_⟩
  · by_cases hya : y ∈ (u, zeroP 0) :: R
    · have hym : y.1 ∈ u :: adr R := by
        rcases List.mem_cons.1 hya with rfl | hy
        · exact List.mem_cons_self ..
        · exact List.mem_cons_of_mem _ (mem_adr hy)
      have hne : ¬ y.1 = a := fun e => hna (by rw [← e]; exact hym)
      have := k1 _ _ _ _ (h1 y hya) hne
      unfold upd
      have e1 : (if y.1 = u then ptr a else ptr (o y.1)) = ptr (if y.1 = u then a else if y.1 = a then lst u (adr R) else o y.1) := by
        rw [if_neg hne]; split <;> rfl
      have e2 : (if y.1 = lst u (adr R) then ptr a else ptr (n y.1)) = ptr (if y.1 = lst u (adr R) then a else if y.1 = a then u else n y.1) := by
        rw [if_neg hne]; split <;> rfl
      rw [e1, e2] at this
      exact this
    · have : y = (a, x) := by
        simp at hy hya
        rcases hy with h | h | h
        · exact absurd h hya.1
        · exact absurd h hya.2
        · exact h
      subst this
      have e1 : upd (upd o a (lst u (adr R))) u a a = lst u (adr R) := by
        unfold upd
        rw [if_neg (fun e => hna (by rw [e]; simp)), if_pos rfl]
      have e2 : upd (upd n a u) (lst u (adr R)) a a = u := by
        unfold upd
        rw [if_neg (fun e => hna (by rw [e]; exact hpm)), if_pos rfl]
      show NAt w' a (ptr (upd (upd o a (lst u (adr R))) u a a)) (ptr (upd (upd n a u) (lst u (adr R)) a a)) x
      rw [e1, e2]
      exact k2
  · rw [hadr]
    refine Chn.app.2 ⟨(h2.off hna).turn hnd, ?_⟩
    show upd (upd n a u) (lst u (adr R)) a a = u
    unfold upd
    rw [if_neg (fun e => hna (by rw [e]; exact hpm)), if_pos rfl]
  · rw [hadr] at hk
    by_cases hka : k = a
    · subst hka
      have e2 : upd (upd n k u) (lst u (adr R)) k k = u := by
        unfold upd
        rw [if_neg (fun e => hna (by rw [e]; exact hpm)), if_pos rfl]
      rw [e2]
      simp [upd]
    · have hk' : k ∈ u :: adr R := by
        simp at hk ⊢
        rcases hk with h | h | h
        · exact .inl h
        · exact .inr h
        · exact absurd h hka
      by_cases hkp : k = lst u (adr R)
      · have e2 : upd (upd n a u) (lst u (adr R)) a k = a := by unfold upd; rw [if_pos hkp]
        rw [e2]
        unfold upd
        rw [if_neg (fun e => hna (by rw [e]; simp)), if_pos rfl, hkp]
      · have e2 : upd (upd n a u) (lst u (adr R)) a k = n k := by unfold upd; rw [if_neg hkp, if_neg hka]
        rw [e2]
        have h5 := h3 _ hk'
        have n1 : ¬ n k = u := fun e => hkp (by rw [← h5, e, hou])
        have n2 : ¬ n k = a := fun e => by
          have hm : n k ∈ u :: adr R := by
            have : ∀ (A : List Nat) (v z : Nat), Chn n v A z → ∀ k ∈ v :: A, n k = z ∨ n k ∈ A := by
              intro A
              induction A with
              | nil => intro v z h k hk; simp at hk; subst hk; exact .inl h
              | cons b B ih =>
                intro v z h k hk
                rcases List.mem_cons.1 hk with rfl | hk
                · exact .inr (by rw [h.1]; simp)
                · rcases ih b z h.2 k hk with h | h
                  · exact .inl h
                  · exact .inr (List.mem_cons_of_mem _ h)
            rcases this _ _ _ h2 k hk' with h | h
            · rw [h]; simp
            · exact List.mem_cons_of_mem _ h
          exact hna (by rw [← e]; exact hm)
        unfold upd
        rw [if_neg n1, if_neg n2]
        exact h5
  · rw [hadr, show u :: (adr R ++ [a]) = (u :: adr R) ++ [a] from rfl, List.nodup_append]
    refine ⟨hnd, by simp, ?_⟩
    intro x hx y hy e
    simp at hy
    subst hy e
    exact hna hx
  · rcases hk with rfl | rfl | rfl
    · exact .inr hpm
    · exact .inr (by simp)
    · exact .inl rfl
end Go.Proofs.Ytdgmlopaeonacaa
