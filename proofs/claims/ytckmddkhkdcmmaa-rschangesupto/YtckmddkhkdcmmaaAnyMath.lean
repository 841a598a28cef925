/-
  Any k of all shards give back the rest, plainly.
-/
import Derived.Test.YtckmddkhkdcmmaaRs9
namespace Go.Proofs.Ytckmddkhkdcmmaa
set_option linter.unusedVariables false

/-- The data shards, and the parity shards behind them. -/
def allL (k m : Nat) (D : List (List UInt8)) (n : Nat) : List (List UInt8) := D ++ encL k m D n

theorem allL_length {k m n : Nat} {D : List (List UInt8)} (hD : D.length = k) : (allL k m D n).length = k + m := by
  unfold allL; rw [List.length_append, hD, encL_length]

theorem cel_at {D : List (List UInt8)} {j t : Nat} (hj : j < D.length) (ht : t < (D[j]).length) : cel D j t = (D[j])[t] := by
  rw [cel_of hj, List.getElem?_eq_getElem ht]; rfl

theorem allL_get {k m n : Nat} {D : List (List UInt8)} (hD : D.length = k) (hn : ∀ l ∈ D, l.length = n) {i : Nat} (hi : i < k + m) : (allL k m D n)[i]? = some (mixL (co k i) D k n) := by
  unfold allL
  by_cases h : i < k
  · rw [List.getElem?_append_left (by omega), List.getElem?_eq_getElem (by omega)]
    congr 1
    have hl := hn _ (List.getElem_mem (show i < D.length by omega))
    apply List.ext_getElem
    · rw [mixL_length, hl]
    · intro t h1 h2
      rw [mixL_get, sg_one (j := i) h (fun j hj he => by unfold co; rw [if_pos h, if_neg (fun e => he e.symm), zero_mul])]
      unfold co
      rw [if_pos h, if_pos rfl, one_mul, cel_at (by omega) h1]
  · rw [List.getElem?_append_right (by omega), List.getElem?_eq_getElem (by rw [encL_length]; omega)]
    simp only [encL, List.getElem_map, List.getElem_range]
    rw [hD, show k + (i - k) = i by omega]

theorem allL_wid {k m n : Nat} {D : List (List UInt8)} (hD : D.length = k) (hn : ∀ l ∈ D, l.length = n) : ∀ l ∈ allL k m D n, l.length = n := by
  intro l hl
  obtain ⟨i, hi, rfl⟩ := List.getElem_of_mem hl
  have := allL_get (m := m) hD hn (i := i) (by rwa [allL_length hD] at hi)
  rw [List.getElem?_eq_getElem hi, Option.some.injEq] at this
  rw [this, mixL_length]

/-- A list whose shards at hand are those of the code. -/
structure HeldG (k m n : Nat) (D G : List (List UInt8)) (bs : List Bool) : Prop where
  hD : D.length = k
  hn : ∀ l ∈ D, l.length = n
  hG : G.length = k + m
  hb : bs.length = k + m
  at' : ∀ (i : Nat), bs[i]?.getD false = true → G[i]? = (allL k m D n)[i]?
  few : k ≤ (wl bs).length

theorem wl_have {bs : List Bool} {i : Nat} (h : i ∈ wl bs) : bs[i]?.getD false = true := by
  unfold wl wlK at h
  exact (List.mem_filter.1 h).2

theorem HeldG.hl_get {k m n : Nat} {D G : List (List UInt8)} {bs : List Bool} (h : HeldG k m n D G bs) {r : Nat} (hr : r < (wl bs).length) : (hl G bs)[r]? = some (mixL (co k ((wl bs)[r])) D k n) := by
  unfold hl
  have hm := wl_have (List.getElem_mem hr)
  have hlt := wl_mem (List.getElem_mem hr)
  rw [List.getElem?_map, List.getElem?_eq_getElem hr]
  have e := h.at' _ hm
  rw [allL_get h.hD h.hn (by rw [← h.hb]; exact hlt)] at e
  simp [e]

theorem HeldG.wid {k m n : Nat} {D G : List (List UInt8)} {bs : List Bool} (h : HeldG k m n D G bs) : ∀ l ∈ hl G bs, l.length = n := by
  intro l hl'
  obtain ⟨r, hr, rfl⟩ := List.getElem_of_mem hl'
  have hr' : r < (wl bs).length := by rwa [hl_length] at hr
  have := h.hl_get hr'
  rw [List.getElem?_eq_getElem hr, Option.some.injEq] at this
  rw [this, mixL_length]

theorem HeldG.shl {k m n : Nat} {D G : List (List UInt8)} {bs : List Bool} (h : HeldG k m n D G bs) (hk : 1 ≤ k) (hn : n ≤ 4096) : shl (hl G bs) ((wl bs).length : Int) = (n, 0) := by
  have hlen := hl_length G bs
  have hpos : 0 < (hl G bs).length := by rw [hlen]; have := h.few; omega
  have hhd : ((hl G bs).headD []).length = n := by
    have hx := h.wid ((hl G bs)[0]) (List.getElem_mem hpos)
    cases e : hl G bs with
    | nil => rw [e] at hpos; simp at hpos
    | cons a t => simp only [e, List.getElem_cons_zero] at hx; simpa using hx
  have ho : oneL (hl G bs) ((wl bs).length : Int) = (n, true) := by
    unfold oneL
    rw [if_pos ⟨by rw [hlen], fun l hl' => by rw [hhd]; exact h.wid l hl'⟩, hhd]
  unfold Go.Proofs.Ytckmddkhkdcmmaa.shl
  rw [ho]
  simp [hn]

theorem HeldG.sol {k m n : Nat} {D G : List (List UInt8)} {bs : List Bool} (h : HeldG k m n D G bs) (hkm : k + m ≤ 256) : solL k ((wl bs).take k) ((hl G bs).take k) n = D := by
  have hwl : ((wl bs).take k).length = k := by rw [List.length_take]; have := h.few; omega
  have hfull := cw_full (m := m) hkm ((wl bs).take k) hwl ((List.take_sublist _ _).nodup (wl_nodup bs)) (fun i hi => by have := wl_mem (List.mem_of_mem_take hi); rw [h.hb] at this; exact this)
  apply List.ext_getElem
  · rw [solL_length, h.hD]
  · intro j h1 h2
    have hj : j < k := by rwa [h.hD] at h2
    have hlj := h.hn _ (List.getElem_mem h2)
    apply List.ext_getElem
    · simp only [solL, List.getElem_map, List.getElem_range]
      rw [mixL_length, hlj]
    · intro t h3 h4
      have ht : t < n := by rwa [hlj] at h4
      have key := (inv_iff (cw_length k ((wl bs).take k)) hfull (fun c => cel D c t) (fun r => cel ((hl G bs).take k) r t)).1 (fun r hr => by
        have hr2 : r < (wl bs).length := by have := h.few; omega
        have e1 : ((hl G bs).take k)[r]? = some (mixL (co k ((wl bs)[r])) D k n) := by rw [List.getElem?_take_of_lt hr]; exact h.hl_get hr2
        have e2 : ((wl bs).take k)[r]?.getD 0 = (wl bs)[r] := by rw [List.getElem?_take_of_lt hr, List.getElem?_eq_getElem hr2]; rfl
        unfold cel
        rw [e1]
        simp only [Option.getD_some]
        rw [List.getElem?_eq_getElem (by rw [mixL_length]; exact ht), Option.getD_some, mixL_get]
        unfold mv
        refine sg_congr (fun c hc => ?_)
        rw [cw, mc_fl hr hc, e2]
        rfl) j hj
      simp only [solL, List.getElem_map, List.getElem_range, mixL_get]
      rw [cel_at h2 h4] at key
      rw [key]
      rfl

theorem HeldG.reb {k m n : Nat} {D G : List (List UInt8)} {bs : List Bool} (h : HeldG k m n D G bs) (hkm : k + m ≤ 256) : rebL k m G bs n = allL k m D n := by
  apply List.ext_getElem
  · rw [rebL_length, allL_length h.hD]
  · intro i h1 h2
    have hi : i < k + m := by rwa [rebL_length] at h1
    have ea := allL_get h.hD h.hn hi
    rw [List.getElem?_eq_getElem h2, Option.some.injEq] at ea
    simp only [rebL, List.getElem_map, List.getElem_range]
    by_cases hb : bs[i]?.getD false = true
    · rw [if_pos hb]
      have := h.at' i hb
      rw [List.getElem?_eq_getElem h2] at this
      rw [this]; rfl
    · rw [if_neg hb, h.sol hkm, ea]

theorem allL_take {k m n : Nat} {D : List (List UInt8)} (hD : D.length = k) : (allL k m D n).take k = D := by
  unfold allL; rw [List.take_append_of_le_length (by omega), List.take_of_length_le (by omega)]
theorem allL_drop {k m n : Nat} {D : List (List UInt8)} (hD : D.length = k) : (allL k m D n).drop k = encL k m D n := by
  unfold allL; rw [List.drop_append, List.drop_of_length_le (by omega), hD]; simp

end Go.Proofs.Ytckmddkhkdcmmaa
